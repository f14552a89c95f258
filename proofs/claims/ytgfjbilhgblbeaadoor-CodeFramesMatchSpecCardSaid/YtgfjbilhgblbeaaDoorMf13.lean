/-
  Package code and its reference: known; Above.
  The reference of package code: meeting, Meeting.
  The reference of package code: lines, Text.
-/
import Derived.Test.YtgfjbilhgblbeaaDoorMf11
import Derived.Test.YtgfjbilhgblbeaaDoorMf12
import Derived.Lib.AppendIntMem
import Derived.Lib.QuietBelow
import Derived.Lib.ItoaLen
import Derived.Lib.ItoaNum
import Derived.Lib.Repeat
import Derived.Lib.SmallJoins
import Derived.Deep.RegionHeld3
namespace Go.Proofs.YtgfjbilhgblbeaaDoor
open Go.RowKit Go.WideMaps Go.Maps

theorem fnd_S {l : List Nd} (F : Fr l) {c r : Int} (h : FndP l c r) : (r < 0 ∧ hasS l c = false) ∨ (0 ≤ r ∧ hasS l c = true) := by
  rcases h with ⟨rfl, h⟩ | ⟨j, hj, rfl, e⟩
  · refine .inl ⟨by omega, ?_⟩
    rw [Bool.eq_false_iff]
    intro q
    obtain ⟨k, rfl, j, hj, e⟩ := (hasS_iff F).1 q
    exact h j hj e
  · refine .inr ⟨by omega, (hasS_iff F).2 ?_⟩
    obtain ⟨d, hd, hh⟩ := nd_has F hj
    exact ⟨d, by rw [← e, hd], hh⟩
set_option maxRecDepth 100000 in
set_option maxHeartbeats 2000000 in
theorem rknownS_c (a : Option Addr) (ca : Nat) (l : List Nd) (a2 : Option Addr) (c2 : Nat) (cs : List Int) (w : World) (hl : RdN w a l) (hf : Fits l) (hcs : Rd w a2 cs) :
    Calls Tryd.prog 43 #[.slice a l.length ca, .slice a2 cs.length c2] w (IntP (withS l cs) w) := by
  have HK := Lib.hid (rCheckFrame_c a ca l w hl hf)
  have HF := Lib.hid (fun W (c : Int) (hb : Below w.heap.size w W) => rfind_c a ca l c W (hl.below hb))
  have HC := Lib.hid hcs
  have h8 := hcs.1
  clear hl hf hcs
  by_cases hz : frS l = 0
  · have F := Lib.hid (fr_of hz)
    have HW : Hid (withS l cs = fe (codeE l cs) cs.length) := by unfold Hid withS; rw [if_neg (by simpa using hz)]
    rw [hz] at HK
    clear hz
    go_enter Tryd.func43, Tryd.ntmps43
    go_wp2_with fail
    (with_reducible refine HK.out.mono ?_)
    rintro e w1 ⟨rfl, b1⟩
    have B1 := Lib.hid b1
    clear b1
    go_wp2_with fail
    go_loopw [15] (fun i wr => ∃ k : Nat, k ≤ cs.length ∧ i = .int .i64 k ∧ Hid (Below w.heap.size w wr ∧ fe (codeE l cs) k = 0)) (fun i _ => cs.length - (intOf i).toNat)
    case atStart => exact ⟨0, Nat.zero_le _, rfl, B1.out, rfl⟩
    case round =>
      obtain ⟨k, hk, rfl, hS⟩ := hrel
      by_cases hlt : k < cs.length
      · obtain ⟨b', off, rfl, u0⟩ := (HC.out.below hS.out.1).at_ hlt
        have hlt' : (k : Int) < (cs.length : Int) := by omega
        obtain ⟨x, hx⟩ : ∃ x, fn cs k = x := ⟨_, rfl⟩
        rw [hx] at u0
        have HX : Hid (codeE l cs k = if hasS l x = false then 5 else 0) := by unfold Hid codeE; rw [hx]
        have K := Lib.hid (HF.out wr x hS.out.1)
        have hk' := Lib.hid hlt
        clear hlt hx
        go_wp2_with fail
        (with_reducible refine K.out.mono ?_)
        rintro e w2 ⟨⟨r, rfl, hr⟩, b2⟩
        have B2 := Lib.hid (hS.out.1.trans (b2.mono hS.out.1.size))
        rcases fnd_S F.out hr with ⟨hr0, hh⟩ | ⟨hr0, hh⟩
        · have R : Hid (withS l cs = 5) := by
            have : codeE l cs k = 5 := by rw [HX.out, if_pos hh]
            unfold Hid
            rw [HW.out, fe_at hk'.out hS.out.2 (by rw [this]; decide), this]
          clear b2 hr hS u0 hh
          go_wp2
          go_ret
          exact ⟨by rw [R.out]; rfl, B2.out⟩
        · have hr1 : ¬ r < 0 := by omega
          have NX : Hid (Below w.heap.size w w2 ∧ fe (codeE l cs) (k + 1) = 0) := ⟨B2.out, by rw [fe_next hS.out.2, HX.out, if_neg (by rw [hh]; simp)]⟩
          clear b2 hr hS u0 hh
          go_wp2
          go_roundw
          case rel => exact ⟨k + 1, hk'.out, by go_num, NX.out⟩
          case measure => have := hk'.out; simp [intOf]; omega
      · obtain rfl : k = cs.length := by omega
        have R : Hid (withS l cs = 0) := by unfold Hid; rw [HW.out]; exact hS.out.2
        clear hlt
        go_wp2
        go_ret
        exact ⟨by rw [R.out]; rfl, hS.out.1⟩
  · have HW : Hid (withS l cs = frS l) := by unfold Hid withS; rw [if_pos hz]
    obtain ⟨f, hfl⟩ : ∃ f, frS l = f := ⟨_, rfl⟩
    rw [hfl] at hz HK HW
    have f1 : (f == 0) = false := by rw [beq_eq_false_iff_ne]; exact hz
    have f2 : (f != 0) = true := by rw [bne, f1]; rfl
    clear hfl hz
    go_enter Tryd.func43, Tryd.ntmps43
    go_wp2_with fail
    (with_reducible refine HK.out.mono ?_)
    rintro e w1 ⟨rfl, b1⟩
    have B1 := Lib.hid b1
    clear b1
    go_wp2
    go_ret
    exact ⟨by rw [HW.out]; rfl, B1.out⟩
/-- Above's answer. -/
def AvP (l : List Nd) (a : Int) (w : World) (e : Ending) (w' : World) : Prop :=
  (withS l [a] = 0 ∧ ∃ s c, e = .returned (.tuple #[.slice s (lev l a.toNat - 1) c, .int .i64 0]) ∧ Rd w' s (abL (par l) a.toNat (lev l a.toNat - 1)) ∧ Below w.heap.size w w') ∨
  (withS l [a] ≠ 0 ∧ e = .returned (.tuple #[.slice none 0 0, .int .i64 (withS l [a])]) ∧ Below w.heap.size w w')
theorem with_one {l : List Nd} {a : Int} (h : withS l [a] = 0) : frS l = 0 ∧ ∃ k : Nat, a = k ∧ Has l k := by
  obtain ⟨h0, hh⟩ := withS_zero h
  exact ⟨h0, (hasS_iff (fr_of h0)).1 (hh 0 (by simp))⟩
set_option maxRecDepth 100000 in
set_option maxHeartbeats 4000000 in
theorem rAbove_c (sa : Option Addr) (c : Nat) (l : List Nd) (a : Int) (w : World) (hl : RdN w sa l) (hf : Fits l) :
    Calls Tryd.prog 13 #[.slice sa l.length c, .int .i64 a] w (AvP l a w) := by
  obtain ⟨W1, hW1⟩ : ∃ W1, w.alloc (.cells #[.int .i64 a] 3) = W1 := ⟨_, rfl⟩
  have B1 : Hid (Below w.heap.size w W1) := by rw [← hW1]; exact bel_one _ _
  have R1 : Rd W1 (some ⟨w.heap.size, 0, none⟩) [a] := by rw [← hW1]; exact rd_one w a _
  have HK : Hid (Calls Tryd.prog 43 #[.slice sa l.length c, .slice (some ⟨w.heap.size, 0, none⟩) 1 1] W1 (IntP (withS l [a]) W1)) := Lib.hid (rknownS_c sa c l (some ⟨w.heap.size, 0, none⟩) 1 [a] W1 (hl.below B1.out) hf R1)
  have HL := Lib.hid hl
  clear hl hf R1
  by_cases hz : withS l [a] = 0
  · have HZ := Lib.hid hz
    obtain ⟨h0, k, rfl, hk⟩ := with_one hz
    have F := fr_of h0
    have HF := Lib.hid F
    have hv := F.lev hk
    have hs := stp_lev F hk
    have KA := Lib.hid (fun W (hb : Below w.heap.size w W) => rabove_c sa c l k W (HL.out.below hb) F.ord F.kn F.le hk)
    have HS : Hid (stp l k = lev l k ∧ 1 ≤ lev l k ∧ lev l k ≤ 8 ∧ stp l k ≤ l.length + 1) := ⟨hs, hv.2.1, hv.2.2.1, by have := hv.2.2.2; omega⟩
    rw [hz] at HK
    clear hz h0 F hv hs hk
    go_enter Tryd.func13, Tryd.ntmps13
    go_wp2_with fail
    (with_reducible refine HK.out.mono ?_)
    rintro e W2 ⟨rfl, b2⟩
    have B2 := Lib.hid (B1.out.trans (b2.mono B1.out.size))
    clear b2 hW1
    go_wp2_with fail
    (with_reducible refine (KA.out W2 B2.out).mono ?_)
    rintro e W3 hab
    obtain ⟨hfar, _⟩ | ⟨_, v, rfl, hown, b3⟩ := hab
    · exact absurd HS.out.2.2.2 (by omega)
    rw [HS.out.1] at hown
    obtain ⟨av, cv, rfl, hr⟩ := rd_own hown (abL_len _ _ _) (by have := HS.out.2.2.1; omega)
    have R : Hid (AvP l (k : Nat) w (.returned (.tuple #[.slice av (lev l k - 1) cv, .int .i64 0])) W3) := Or.inl ⟨HZ.out, av, cv, rfl, hr, B2.out.trans (b3.mono B2.out.size)⟩
    clear hown hr b3 KA HK
    go_wp2_with fail
    go_ret2
    exact R.out
  · obtain ⟨f, hfl⟩ : ∃ f, withS l [a] = f := ⟨_, rfl⟩
    have HP := Lib.hid hfl
    have HZ := Lib.hid hz
    rw [hfl] at hz HK
    have f1 : (f == 0) = false := by rw [beq_eq_false_iff_ne]; exact hz
    have f2 : (f != 0) = true := by rw [bne, f1]; rfl
    clear hfl hz
    go_enter Tryd.func13, Tryd.ntmps13
    go_wp2_with fail
    (with_reducible refine HK.out.mono ?_)
    rintro e W2 ⟨rfl, b2⟩
    have R : Hid (AvP l a w (.returned (.tuple #[.slice none 0 0, .int .i64 f])) W2) := Or.inr ⟨HZ.out, by rw [HP.out], B1.out.trans (b2.mono B1.out.size)⟩
    clear b2 hW1 HK
    go_wp2_with fail
    go_ret2
    exact R.out
end Go.Proofs.YtgfjbilhgblbeaaDoor
namespace Go.Proofs.YtgfjbilhgblbeaaDoor
open Go.RowKit Go.WideMaps Go.Maps

theorem least_of {P : Nat → Prop} : ∀ {n : Nat}, (∃ k, k < n ∧ P k) → ∃ k, k < n ∧ P k ∧ ∀ j, j < k → ¬ P j
  | 0, ⟨k, h, _⟩ => by omega
  | n + 1, ⟨k, h, hp⟩ => by
    by_cases q : ∃ k, k < n ∧ P k
    · obtain ⟨k', h1, h2, h3⟩ := least_of q
      exact ⟨k', by omega, h2, h3⟩
    · have e : k = n := by
        by_cases e : k = n
        · exact e
        · exact absurd ⟨k, by omega, hp⟩ q
      subst e
      exact ⟨k, by omega, hp, fun j hj hP => q ⟨j, hj, hP⟩⟩
theorem index_c (a : Option Addr) (c : Nat) (Y : List Int) (x : Int) (w : World) (h : Rd w a Y) (h0 : 0 < Y.length) :
    Calls Tryd.prog 64 #[.slice a Y.length c, .int .i64 x] w fun e w' => w' = w ∧ ∃ r : Int, e = .returned (.int .i64 r) ∧ ((r < 0 ∧ ∀ j, j < Y.length → fn Y j ≠ x) ∨ ∃ k, k < Y.length ∧ r = (k : Int) ∧ fn Y k = x) := by
  obtain ⟨b, off, rfl, _, hc⟩ := h.2 h0
  refine (Tryd.slices_Index_int b off Y.length c Y x w (Nat.le_refl _) h.1 hc).mono ?_
  rintro e w' ⟨rfl, rfl⟩
  refine ⟨rfl, _, rfl, ?_⟩
  by_cases q : ∃ k, k < Y.length ∧ fn Y k = x
  · obtain ⟨k, h1, h2, h3⟩ := least_of q
    exact .inr ⟨k, h1, Lib.idxOf_hit Y Y.length k x h1 (Nat.le_refl _) h2 h3, h2⟩
  · have hn : ∀ j, j < Y.length → fn Y j ≠ x := fun j hj e => q ⟨j, hj, e⟩
    exact .inl ⟨by rw [Lib.idxOf_miss Y Y.length x hn]; omega, hn⟩
/-- The path of a code with 0 behind it. -/
theorem pth_zero {p lv : Nat → Nat} {H : Nat → Prop} (T : Tree p lv H) {c : Nat} (hc : In H c) : pth p c (lv c) ++ [0] = pth p c (lv c + 1) := by
  rw [pth_succ]
  have h1 := T.lvIt (k := lv c) hc
  have h2 := (T.lv0 (T.inIt (k := lv c) hc)).1 (by omega)
  rw [h2]
  rfl
theorem meet_at {p lv : Nat → Nat} {H : Nat → Prop} (T : Tree p lv H) {a b i k : Nat} (ha : In H a) (hb : In H b) (hi : i ≤ lv a) (hk : k ≤ lv b) (e : it p k b = it p i a) (hno : ∀ j, j < i → ∀ q, q ≤ lv b → it p q b ≠ it p j a) : MeetIs p lv a b (it p i a) (i + k) := by
  have h1 := T.lvIt (k := i) ha
  have h2 := T.lvIt (k := k) hb
  rw [e] at h2
  refine ⟨⟨i, hi, rfl⟩, ⟨k, hk, e⟩, by omega, ?_⟩
  rintro x ⟨j, hj, rfl⟩ ⟨q, hq, e2⟩
  rw [T.lvIt ha]
  by_cases hji : j < i
  · exact absurd e2 (hno j hji q hq)
  · omega
def RmP (l : List Nd) (a b : Nat) (w : World) (e : Ending) (w' : World) : Prop := ∃ m d : Nat, e = .returned (.tuple #[.int .i64 (m : Nat), .int .i64 (d : Nat)]) ∧ MeetIs (par l) (lev l) a b m d ∧ Below w.heap.size w w'
set_option maxRecDepth 100000 in
set_option maxHeartbeats 4000000 in
theorem rmeeting_c (sa : Option Addr) (c : Nat) (l : List Nd) (a b : Nat) (w : World) (hl : RdN w sa l) (F : Fr l) (ha : Has l a) (hb : Has l b) :
    Calls Tryd.prog 46 #[.slice sa l.length c, .int .i64 (a : Nat), .int .i64 (b : Nat)] w (RmP l a b w) := by
  obtain ⟨i0, hi, hz0, hz1, hz2⟩ := info_parts infoI
  have K1 := Lib.hid (rlineage_c sa c l a w hl F ha)
  have K2 := Lib.hid (fun W (hB : Below w.heap.size w W) => rlineage_c sa c l b W (hl.below hB) F hb)
  have T := F.tree
  have HX := Lib.hid (pth_zero T (c := a) (.inr ha))
  have HY := Lib.hid (pth_zero T (c := b) (.inr hb))
  have HT : Hid (Tree (par l) (lev l) (Has l) ∧ Has l a ∧ Has l b) := ⟨T, ha, hb⟩
  have la8 : lev l a ≤ 8 := (F.lev ha).2.2.1
  have lb8 : lev l b ≤ 8 := (F.lev hb).2.2.1
  clear hl F ha hb T
  obtain ⟨la, hla⟩ : ∃ n, lev l a = n := ⟨_, rfl⟩
  obtain ⟨lb, hlb⟩ : ∃ n, lev l b = n := ⟨_, rfl⟩
  have HA := Lib.hid (And.intro hla hlb)
  rw [hla] at HX la8
  rw [hlb] at HY lb8
  go_enter Tryd.func46, Tryd.ntmps46
  go_wp2_with fail
  (with_reducible refine K1.out.mono ?_)
  rintro e W1 ⟨av, cv, rfl, _, b1, hown1⟩
  rw [hla] at hown1
  rw [hla]
  have B1 := Lib.hid b1
  have O1 := Lib.hid hown1
  clear b1 hown1 K1
  go_wp2_with (at_builtin; refine wpList_append_own _ rfl _ _ 27 rfl w.heap.size 3 i0 (.int .i64 0) 1 8 Tryd.underlying27 hi hz0 hz1 hz2 rfl (by decide) _ _ _ rfl (O1.out.alloc _) ⟨W1.heap.size, 0, none⟩ 1 1 [.int .i64 0] rfl rfl (cell_one_new _ _ _) (ints_oneCell .i64 [(0 : Int)]) ?c3 ?c4 ?c5 ?_)
  case c3 => unfold maxLen; omega
  case c4 => omega
  case c5 => have := B1.out.size; simp; omega
  intro vx W2 hown2 hg2 _
  have B2 : Hid (Below w.heap.size w W2) := by
    have hs := B1.out.size
    exact (B1.out.alloc hs _).grown hg2 (by simp; omega) (fun g hg => (O1.out.lt g hg).1)
  have O2 : Hid (W2.ownsRow w.heap.size 3 1 vx (la + 1) ((pth (par l) a (la + 1)).map (Value.int .i64))) := by
    rw [← HX.out, List.map_append]; exact hown2
  clear hown2 hg2 O1 B1
  go_wp2_with fail
  (with_reducible refine (K2.out W2 B2.out).mono ?_)
  rintro e W3 ⟨bv, dv, rfl, _, b3, hown3⟩
  rw [hlb] at hown3
  rw [hlb]
  have b3 := Lib.hid b3
  have O3 := Lib.hid hown3
  have O2x := Lib.hid (own_keep O2.out b3.out)
  have LX : Hid (∀ g, vx.ownBlock = some g → g < W2.heap.size) := fun g e => (O2.out.lt g e).2
  clear hown3 K2 O2
  go_wp2_with (at_builtin; refine wpList_append_own _ rfl _ _ 27 rfl W2.heap.size 3 i0 (.int .i64 0) 1 8 Tryd.underlying27 hi hz0 hz1 hz2 rfl (by decide) _ _ _ rfl (O3.out.alloc _) ⟨W3.heap.size, 0, none⟩ 1 1 [.int .i64 0] rfl rfl (cell_one_new _ _ _) (ints_oneCell .i64 [(0 : Int)]) ?c6 ?c7 ?c8 ?_)
  case c6 => unfold maxLen; omega
  case c7 => omega
  case c8 => have := b3.out.size; simp; omega
  intro vy W4 hown4 hg4 _
  have B4 : Hid (Below W2.heap.size W2 W4) := by
    have hs := b3.out.size
    exact (b3.out.alloc hs _).grown hg4 (by simp; omega) (fun g hg => (O3.out.lt g hg).1)
  have O4 : Hid (W4.ownsRow W2.heap.size 3 1 vy (lb + 1) ((pth (par l) b (lb + 1)).map (Value.int .i64))) := by
    rw [← HY.out, List.map_append]; exact hown4
  have NE : Hid (vx.ownBlock = none ∨ vx.ownBlock ≠ (Value.slice bv lb dv).ownBlock) := by
    unfold Hid
    cases e : vx.ownBlock with
    | none => exact .inl rfl
    | some g =>
      refine .inr fun e2 => ?_
      have h1 := LX.out g e
      have h2 := (O3.out.lt g e2.symm).1
      omega
  have O4x : Hid (W4.ownsRow w.heap.size 3 1 vx (la + 1) ((pth (par l) a (la + 1)).map (Value.int .i64))) := (O2x.out.alloc _).kept hg4 NE.out
  have BW4 := Lib.hid (B2.out.trans (B4.out.mono B2.out.size))
  clear hown4 hg4 O3 O2x LX b3 B4 NE
  obtain ⟨ax, cx, rfl, hrx⟩ := rd_own O4x.out (pth_len _ _ _) (by omega)
  obtain ⟨ay, cy, rfl, hry⟩ := rd_own O4.out (pth_len _ _ _) (by omega)
  have HRX := Lib.hid hrx
  have HRY := Lib.hid hry
  clear hrx hry O4 O4x
  go_wp2_with fail
  go_loopw [25] (fun i wr => ∃ k : Nat, k ≤ la + 1 ∧ i = .int .i64 k ∧ wr = W4 ∧ Hid (∀ j, j < k → ∀ q, q ≤ lb → it (par l) q b ≠ it (par l) j a)) (fun i _ => la + 1 - (intOf i).toNat)
  case atStart => exact ⟨0, Nat.zero_le _, rfl, rfl, fun j h => by omega⟩
  case round =>
    obtain ⟨k, hk, rfl, rfl, hS⟩ := hrel
    by_cases hlt : k < la + 1
    · obtain ⟨b', off, rfl, u0⟩ := HRX.out.at_ (k := k) (by rw [pth_len]; exact hlt)
      rw [pth_at hlt] at u0
      have hlt' : (k : Int) < (la : Int) + 1 := by omega
      obtain ⟨x, hx⟩ : ∃ x, it (par l) k a = x := ⟨_, rfl⟩
      rw [hx] at u0
      have HXX := Lib.hid hx
      have KI := Lib.hid (index_c ay cy (pth (par l) b (lb + 1)) (x : Nat) wr HRY.out (by rw [pth_len]; omega))
      rw [pth_len] at KI
      clear hx
      go_wp2_with fail
      (with_reducible refine KI.out.mono ?_)
      rintro e w5 ⟨rfl, r, rfl, hr⟩
      rcases hr with ⟨hr0, hno⟩ | ⟨q, hq, rfl, e⟩
      · have NX : Hid (∀ j, j < k + 1 → ∀ q, q ≤ lb → it (par l) q b ≠ it (par l) j a) := fun j hj q hq => by
          by_cases ejk : j = k
          · subst ejk
            rw [HXX.out]
            have := hno q (by omega)
            rw [pth_at (by omega)] at this
            intro e; exact this (by rw [e])
          · exact hS.out j (by omega) q hq
        have hr1 : ¬ 0 ≤ r := by omega
        clear hno hS KI
        go_wp2
        go_roundw
        case rel => exact ⟨k + 1, by omega, by go_num, trivial, NX.out⟩
        case measure => simp [intOf]; omega
      · rw [pth_at hq] at e
        have RR : Hid (RmP l a b w (.returned (.tuple #[.int .i64 (x : Nat), .int .i64 ((k + q : Nat) : Int)])) w5) := by
          refine ⟨x, k + q, rfl, ?_, BW4.out⟩
          rw [← HXX.out]
          exact meet_at HT.out.1 (.inr HT.out.2.1) (.inr HT.out.2.2) (by rw [HA.out.1]; omega) (by rw [HA.out.2]; omega) (by rw [HXX.out]; omega) (by rw [HA.out.2]; exact hS.out)
        have hq0 : (0 : Int) ≤ (q : Int) := by omega
        have hk9 : (k : Int) ≤ 8 := by omega
        have hq9 : (q : Int) ≤ 8 := by omega
        clear hS KI e
        go_wp2
        go_ret2
        exact RR.out
    · obtain rfl : k = la + 1 := by omega
      have := hS.out la (by omega) lb (Nat.le_refl _)
      have h1 := HT.out.1.lvIt (k := la) (c := a) (.inr HT.out.2.1)
      have h2 := HT.out.1.lvIt (k := lb) (c := b) (.inr HT.out.2.2)
      have e1 := (HT.out.1.lv0 (HT.out.1.inIt (k := la) (.inr HT.out.2.1))).1 (by rw [h1, HA.out.1]; omega)
      have e2 := (HT.out.1.lv0 (HT.out.1.inIt (k := lb) (.inr HT.out.2.2))).1 (by rw [h2, HA.out.2]; omega)
      exact absurd (e2.trans e1.symm) this
theorem mtS_one {l : List Nd} (F : Fr l) {a b m d : Nat} (ha : Has l a) (hb : Has l b) (h : MeetIs (par l) (lev l) a b m d) : m = (mtS l a b).1 ∧ d = (mtS l a b).2 :=
  F.tree.meetOne (.inr ha) h (F.tree.mtF_is (.inr ha) (.inr hb) (Nat.le_refl _))
set_option maxRecDepth 100000 in
set_option maxHeartbeats 4000000 in
theorem rMeeting_c (sa : Option Addr) (c : Nat) (l : List Nd) (a b : Int) (w : World) (hl : RdN w sa l) (hf : Fits l) :
    Calls Tryd.prog 18 #[.slice sa l.length c, .int .i64 a, .int .i64 b] w (T3P (meS l a b) w) := by
  obtain ⟨W1, hW1⟩ : ∃ W1, w.alloc (.cells #[.int .i64 a, .int .i64 b] 3) = W1 := ⟨_, rfl⟩
  have B1 : Hid (Below w.heap.size w W1) := by rw [← hW1]; exact bel_one _ _
  have R1 : Rd W1 (some ⟨w.heap.size, 0, none⟩) [a, b] := by rw [← hW1]; exact rd_two w a b _
  have HK : Hid (Calls Tryd.prog 43 #[.slice sa l.length c, .slice (some ⟨w.heap.size, 0, none⟩) 2 2] W1 (IntP (withS l [a, b]) W1)) := Lib.hid (rknownS_c sa c l (some ⟨w.heap.size, 0, none⟩) 2 [a, b] W1 (hl.below B1.out) hf R1)
  have HL := Lib.hid hl
  clear hl hf R1
  by_cases hz : withS l [a, b] = 0
  · obtain ⟨h0, hh⟩ := withS_zero hz
    have F := fr_of h0
    obtain ⟨i, ei, hi⟩ := (hasS_iff F).1 (hh 0 (by simp))
    obtain ⟨k, ek, hk⟩ := (hasS_iff F).1 (hh 1 (by simp))
    have ei : a = (i : Int) := ei
    have ek : b = (k : Int) := ek
    subst ei; subst ek
    have HP : Hid (meS l i k = ((((mtS l i k).1 : Nat) : Int), (((mtS l i k).2 : Nat) : Int), 0)) := by unfold Hid meS; rw [if_neg (by simpa using hz)]; rfl
    have HM := Lib.hid (fun W (hB : Below w.heap.size w W) => rmeeting_c sa c l i k W (HL.out.below hB) F hi hk)
    have HF : Hid (Fr l ∧ Has l i ∧ Has l k) := ⟨F, hi, hk⟩
    rw [hz] at HK
    clear hz h0 hh F hi hk
    go_enter Tryd.func18, Tryd.ntmps18
    go_wp2_with fail
    (with_reducible refine HK.out.mono ?_)
    rintro e W2 ⟨rfl, b2⟩
    have B2 := Lib.hid (B1.out.trans (b2.mono B1.out.size))
    clear b2 hW1 HK
    go_wp2_with fail
    (with_reducible refine (HM.out W2 B2.out).mono ?_)
    rintro e W3 ⟨m, d, rfl, hm, b3⟩
    obtain ⟨e1, e2⟩ := mtS_one HF.out.1 HF.out.2.1 HF.out.2.2 hm
    have B3 := Lib.hid (B2.out.trans (b3.mono B2.out.size))
    have R : Hid (meS l i k = (((m : Nat) : Int), ((d : Nat) : Int), 0)) := by unfold Hid; rw [HP.out, e1, e2]
    clear hm b3 HM HP e1 e2
    go_wp2_with fail
    exact bodyPost_ret (v := .tuple #[.int .i64 (m : Nat), .int .i64 (d : Nat), .int .i64 0]) (by simp [results, Tryd.results18, go_sem]) rfl ⟨by rw [R.out], B3.out⟩
  · have HP : Hid (meS l a b = (0, 0, withS l [a, b])) := by unfold Hid meS; rw [if_pos hz]
    obtain ⟨f, hfl⟩ : ∃ f, withS l [a, b] = f := ⟨_, rfl⟩
    rw [hfl] at hz HK HP
    have f1 : (f == 0) = false := by rw [beq_eq_false_iff_ne]; exact hz
    have f2 : (f != 0) = true := by rw [bne, f1]; rfl
    clear hfl hz
    go_enter Tryd.func18, Tryd.ntmps18
    go_wp2_with fail
    (with_reducible refine HK.out.mono ?_)
    rintro e W2 ⟨rfl, b2⟩
    have B2 := Lib.hid (B1.out.trans (b2.mono B1.out.size))
    clear b2 hW1 HK
    go_wp2_with fail
    exact bodyPost_ret (v := .tuple #[.int .i64 0, .int .i64 0, .int .i64 f]) (by simp [results, Tryd.results18, go_sem]) rfl ⟨by rw [HP.out], B2.out⟩
theorem CheckFrame_c (sa : Option Addr) (c : Nat) (l : List Nd) (w : World) (hl : RdN w sa l) (hf : Fits l) :
    Calls Tryd.prog 10 #[.slice sa l.length c] w (IntP (frS l) w) := by
  have HC := Lib.hid (frameOf_c sa c l w hl hf)
  clear hl hf
  obtain ⟨f, hfl⟩ : ∃ f, frS l = f := ⟨_, rfl⟩
  have HP := Lib.hid hfl
  by_cases hz : frS l = 0
  · have HZ := Lib.hid hz
    obtain rfl : f = 0 := by omega
    rw [hfl]
    clear hz hfl
    go_enter Tryd.func10, Tryd.ntmps10
    go_wp2_with fail
    (with_reducible refine HC.out.mono ?_)
    intro e W2 he
    obtain ⟨x, y, rfl, _, _, b2, _, _⟩ := frame_ok he HZ.out
    have B := Lib.hid (b2.trans ((bel_one W2 (.cells #[row x, row y] 71)).mono b2.size))
    clear b2 he
    go_wp2
    go_ret
    exact ⟨rfl, B.out⟩
  · have HZ := Lib.hid hz
    rw [hfl]
    clear hz hfl
    go_enter Tryd.func10, Tryd.ntmps10
    go_wp2_with fail
    (with_reducible refine HC.out.mono ?_)
    intro e W2 he
    obtain ⟨rfl, b2⟩ := frame_no he HZ.out
    rw [HP.out]
    have B := Lib.hid (b2.trans ((bel_one W2 (.cells #[.slice none 0 0, .slice none 0 0] 71)).mono b2.size))
    clear b2 he
    go_wp2
    go_ret
    exact ⟨rfl, B.out⟩
end Go.Proofs.YtgfjbilhgblbeaaDoor
namespace Go.Proofs.YtgfjbilhgblbeaaDoor
open Go.RowKit Go.WideMaps Go.Maps

def bs (l : List UInt8) : ByteArray := ⟨l.toArray⟩
theorem bs_size (l : List UInt8) : (bs l).size = l.length := by simp [bs, ByteArray.size]
theorem bs_app (a b : List UInt8) : bs a ++ bs b = bs (a ++ b) := by
  apply ByteArray.ext; simp [bs, ByteArray.data_append]
theorem gPow : Tryd.prog.globalNamed "internal/strconv.uint64pow10" = some 0 := by kernel_rfl
def Pow (w : World) : Prop := Lib.TabIs Tryd.prog w "internal/strconv.uint64pow10" .u64 Lib.pow10Tab
theorem Pow.below {w w' : World} (h : Pow w) (hb : Below w.heap.size w w') : Pow w' := Go.Joins.tab_stays gPow h hb (Nat.le_refl _)
/-- A text, not too long, comes back. -/
def TP (l : List UInt8) (w : World) (e : Ending) (w' : World) : Prop :=
  ∃ t : ByteArray, e = .returned (.string t) ∧ t.size ≤ 10000000 ∧ Hid (t = bs l) ∧ Hid (Below w.heap.size w w')
theorem tp_of {l : List UInt8} {w w' : World} {e : Ending} (he : e = .returned (.string (bs l))) (hl : l.length ≤ 10000000) (hb : Below w.heap.size w w') : TP l w e w' :=
  ⟨bs l, he, by rw [bs_size]; exact hl, rfl, hb⟩
theorem itoa_c (n : Int) (w : World) (hE : Pow w) (h0 : -9223372036854775808 ≤ n) (h1 : n ≤ 9223372036854775807) :
    Calls Tryd.prog 31 #[.int .i64 n] w (TP (Lib.itoa n) w) :=
  (Tryd.strconv_Itoa n h0 h1 w hE).mono fun _ _ ⟨he, k, os, hw⟩ => tp_of he (by have := Lib.itoa_length_le n h0 h1; omega) (by rw [hw]; exact Go.Lib.below_grow _ _ (Nat.le_refl _) k os)
theorem blanks_c (v : Nat) (w : World) (hv : v ≤ 8) : Calls Tryd.prog 60 #[.string ⟨#[32, 32]⟩, .int .i64 (v : Nat)] w (TP (Lib.repeatL [32, 32] v) w) := by
  have hl : (Lib.repeatL [32, 32] v).length ≤ 10000000 := by rw [Lib.repeatL_length]; simp; omega
  match v, hv with
  | 0, _ => exact (Tryd.strings_Repeat_zero _ w).mono fun _ _ ⟨he, hw⟩ => tp_of he hl (by rw [hw]; exact Below.refl _ _)
  | 1, _ => exact (Tryd.strings_Repeat_one _ w).mono fun _ _ ⟨he, hw⟩ => tp_of he hl (by rw [hw]; exact Below.refl _ _)
  | c + 2, hv => exact (Tryd.strings_Repeat_main ⟨#[32, 32]⟩ (c + 2) w (by omega) (by omega) (by have : (⟨#[32, 32]⟩ : ByteArray).size = 2 := rfl; rw [this]; omega) (by decide)).mono fun _ _ ⟨he, hb⟩ => tp_of he hl hb
/-- The line of a node. -/
def lnT (v : Nat) (u : Nd) : List UInt8 := Lib.repeatL [32, 32] v ++ Lib.itoa u.cd ++ [32] ++ bts u.ti ++ [10]
def tcat (f : Nat → List UInt8) : Nat → List UInt8
  | 0 => []
  | k + 1 => tcat f k ++ f k
theorem tcat_len (f : Nat → List UInt8) : ∀ k, (tcat f k).length = sm (fun j => (f j).length) k
  | 0 => rfl
  | k + 1 => by unfold tcat sm; rw [List.length_append, tcat_len f k]
theorem sm_mono {f : Nat → Nat} {k n : Nat} (h : k ≤ n) : sm f k ≤ sm f n := by
  induction n with
  | zero => rw [show k = 0 by omega]; exact Nat.le_refl _
  | succ n ih =>
    by_cases e : k = n + 1
    · rw [e]; exact Nat.le_refl _
    · have := ih (by omega); rw [sm]; omega
/-- The lines below a code, of n levels. -/
def txN (l : List Nd) : Nat → Nat → Nat → List UInt8
  | 0, _, _ => []
  | n + 1, p, v => tcat (fun j => if next l p j = true then lnT v (nd l j) ++ txN l n (nd l j).cd.toNat (v + 1) else []) l.length
/-- What node j gives to the lines below p. -/
def kid (l : List Nd) (n p v : Nat) (j : Nat) : List UInt8 := if next l p j = true then lnT v (nd l j) ++ txN l n (nd l j).cd.toNat (v + 1) else []
theorem txN_is (l : List Nd) (n p v : Nat) : txN l (n + 1) p v = tcat (kid l n p v) l.length := rfl
/-- Titles are short. -/
def Short (l : List Nd) : Prop := ∀ j, j < l.length → (nd l j).ti.size ≤ 60
theorem lnT_len {l : List Nd} (F : Fr l) (hT : Short l) {j v : Nat} (hj : j < l.length) (hv : v ≤ 8) : (lnT v (nd l j)).length ≤ 99 := by
  have h1 := F.ord.rng j hj
  have h2 := Lib.itoa_length_le (nd l j).cd (by omega) (by omega)
  have h3 := hT j hj
  unfold lnT bts
  simp only [List.length_append, Lib.repeatL_length, List.length_cons, List.length_nil]
  have h4 : (nd l j).ti.data.toList.length = (nd l j).ti.size := by rw [Array.length_toList]; rfl
  omega
theorem txN_len {l : List Nd} (F : Fr l) (hT : Short l) : ∀ n p v, v + n ≤ 9 → (txN l n p v).length ≤ 99 * dsc l p
  | 0, _, _, _ => Nat.zero_le _
  | n + 1, p, v, h => by
    rw [txN_is, tcat_len]
    refine Nat.le_trans (sm_le (g := fun j => 99 * (ind (next l p j) * (dsc l (nd l j).cd.toNat + 1))) fun j hj => ?_) ?_
    · unfold kid ind
      by_cases e : next l p j = true
      · rw [if_pos e, if_pos e, List.length_append]
        have h1 := lnT_len F hT hj (v := v) (by omega)
        have h2 := txN_len F hT n (nd l j).cd.toNat (v + 1) (by omega)
        omega
      · rw [if_neg e]; exact Nat.zero_le _
    · rw [sm_mul]
      exact Nat.mul_le_mul_left _ (kids_le F p)
theorem part_len {l : List Nd} (F : Fr l) (hT : Short l) {n p v k : Nat} (h : v + (n + 1) ≤ 9) (hk : k ≤ l.length) : (tcat (kid l n p v) k).length ≤ 59400 := by
  have h1 := txN_len F hT (n + 1) p v h
  rw [txN_is, tcat_len] at h1
  have h2 := sm_mono (f := fun j => (kid l n p v j).length) hk
  have h3 := dsc_le l p
  have h4 : l.length ≤ 600 := F.le
  rw [tcat_len]
  omega
/-- The box of the round. -/
def S9 (z : Nat) (u : Nd) (V : World) : Prop := V.cell? ⟨z, 0, none⟩ = some (.int .i64 u.cd) ∧ V.cell? ⟨z, 1, none⟩ = some (.int .i64 u.pr) ∧ V.cell? ⟨z, 2, none⟩ = some (.string u.ti)
set_option maxRecDepth 100000 in
set_option maxHeartbeats 8000000 in
theorem rlines_c (sa : Option Addr) (c : Nat) (l : List Nd) (F : Fr l) (hT : Short l) (w0 : World) (hl : RdN w0 sa l) (hP : Pow w0) : ∀ (n p v : Nat), v + n = 9 → In (Has l) p → lev l p = v → ∀ w, Below w0.heap.size w0 w →
    Calls Tryd.prog 34 #[.slice sa l.length c, .int .i64 (p : Nat), .int .i64 (v : Nat)] w (TP (txN l n p v) w)
  | 0, p, v, h, hp, hlv, w, hw => by
    have : lev l p ≤ 8 := by
      rcases hp with rfl | hp
      · rw [F.tree.zero]; omega
      · exact (F.lev hp).2.2.1
    omega
  | n + 1, p, v, h, hp, hlv, w, hw => by
    have IH := Lib.hid (fun d hd hdl => rlines_c sa c l F hT w0 hl hP n d (v + 1) (by omega) hd hdl)
    have HL := Lib.hid (hl.below hw)
    have HPP := Lib.hid (hP.below hw)
    have HF := Lib.hid (And.intro F hT)
    have HIN := Lib.hid (And.intro hp hlv)
    have BW0 := Lib.hid hw
    have h9 := hl.1
    have hv9 : v ≤ 8 := by omega
    have hv9' : (v : Int) ≤ 8 := by omega
    have hvw : IntKind.i64.wrap ((v : Int) + 1) = (v : Int) + 1 := by rw [IntKind.wrap_i64] <;> omega
    have PL := Lib.hid (fun k (hk : k ≤ l.length) => part_len F hT (n := n) (p := p) (v := v) (k := k) (by omega) hk)
    rw [txN_is]
    clear hl hP hw hp hlv F hT
    go_enter Tryd.func34, Tryd.ntmps34
    go_wp2_with fail
    go_loopw [7, 12] (fun sv i wr => ∃ (k : Nat) (s0 : ByteArray), k ≤ l.length ∧ i = .int .i64 k ∧ sv = .string s0 ∧ Hid (s0 = bs (tcat (kid l n p v) k)) ∧ Hid (Below w.heap.size w wr)) (fun _ i _ => l.length - (intOf i).toNat)
    case atStart => exact ⟨0, ByteArray.empty, Nat.zero_le _, rfl, rfl, rfl, Below.refl _ _⟩
    case round =>
      obtain ⟨k, s0, hk, rfl, rfl, hs0, hS⟩ := hrel
      have HS0 : Hid (s0 = bs (tcat (kid l n p v) k) ∧ s0.size ≤ 59400) := ⟨hs0.out, by rw [hs0.out, bs_size]; exact PL.out k hk⟩
      clear hs0
      by_cases hlt : k < l.length
      · obtain ⟨b', off, rfl, u0, u1, u2⟩ := (HL.out.below hS.out).at_ hlt
        have hlt' : (k : Int) < (l.length : Int) := by omega
        have hlt0 := Lib.hid hlt
        have hrg := HF.out.1.ord.rng k hlt
        have hti := HF.out.2 k hlt
        obtain ⟨W4, hW4⟩ : ∃ W, wr.alloc (.cells #[.int .i64 (nd l k).cd, .int .i64 (nd l k).pr, .string (nd l k).ti] 56) = W := ⟨_, rfl⟩
        have N4 : Hid (NodeB wr W4 (nd l k)) := by unfold Hid; rw [← hW4]; exact node_b _ _
        obtain ⟨z, hz⟩ : ∃ z, wr.heap.size = z := ⟨_, rfl⟩
        have v1 := N4.out.2.2.2.1
        rw [hz] at v1
        have SZ : Hid (S9 z (nd l k) W4 ∧ z < W4.heap.size) := by rw [← hz]; exact ⟨N4.out.2.2, by have := N4.out.2.1; omega⟩
        have BW := Lib.hid (hS.out.trans (N4.out.1.mono hS.out.size))
        clear N4 hS hlt
        by_cases hpq : (nd l k).pr = (p : Int)
        · have HPQ := Lib.hid hpq
          have hpq0 : ((nd l k).pr == (p : Int)) = true := by rw [beq_iff_eq]; exact hpq
          have HSS : Hid (∀ V, Below W4.heap.size W4 V → S9 z (nd l k) V) := fun V hb => ⟨(hb.cell (p := ⟨z, 0, none⟩) SZ.out.2).trans SZ.out.1.1, (hb.cell (p := ⟨z, 1, none⟩) SZ.out.2).trans SZ.out.1.2.1, (hb.cell (p := ⟨z, 2, none⟩) SZ.out.2).trans SZ.out.1.2.2⟩
          have HPW : Hid (∀ V, Below W4.heap.size W4 V → Pow V) := fun V hb => HPP.out.below (BW.out.trans (hb.mono BW.out.size))
          have IHC : Hid (∀ V, Below w.heap.size w V → Calls Tryd.prog 34 #[.slice (some ⟨b', off, none⟩) l.length c, .int .i64 (nd l k).cd, .int .i64 ((v : Int) + 1)] V (TP (txN l n (nd l k).cd.toNat (v + 1)) V)) := fun V hb => by
            obtain ⟨d, hd, hh⟩ := nd_has HF.out.1 hlt0.out
            have hlv : lev l d = v + 1 := by
              have e1 : par l d = p := by
                rw [par_at HF.out.1.ord hlt0.out hd, HPQ.out, Int.toNat_natCast]
              have := (HF.out.1.tree.pos d hh).2.1
              rw [e1, HIN.out.2] at this
              exact this
            have := IH.out d (.inr hh) hlv V (BW0.out.trans (hb.mono BW0.out.size))
            rw [hd, Int.toNat_natCast]
            exact this
          clear hpq IH
          go_wp2_with fail
          refine wp_region_noPanic ?_
          refine wp_region_held_drew (S := S9 z (nd l k)) (by kernel_rfl) (HSS.out _ (Below.refl _ _).drew) (fun hS => ?_)
          obtain ⟨WD, hWD⟩ : ∃ W, W4.drew = W := ⟨_, rfl⟩
          have D0 : Hid (Below W4.heap.size W4 WD) := by unfold Hid; rw [← hWD]; exact (Below.refl _ _).drew
          rw [hWD] at hS ⊢
          clear hWD
          refine wpAnyH_take (i := 0) (v := ?v0z1) rfl (by kernel_rfl) (by kernel_rfl) (by kernel_rfl) (fun _ _ _ h => h) (Or.inl ⟨by rfl, ?hy0z1⟩) (by assumption) ?rest0z1
          case hy0z1 =>
            intro w hSw
            dsimp only [S9] at hSw
            go_simp
            try with_reducible rfl
          simp only [Act.put, List.getElem_toArray, List.getElem_cons_succ, List.getElem_cons_zero, List.setIfInBounds_toArray, List.set_cons_zero, List.set_cons_succ]
          refine wpAnyH_take (i := 1) (v := ?v1z2) rfl (by kernel_rfl) (by kernel_rfl) (by kernel_rfl) (fun _ _ _ h => h) (Or.inl ⟨by rfl, ?hy1z2⟩) (by assumption) ?rest1z2
          case hy1z2 =>
            intro w hSw
            dsimp only [S9] at hSw
            go_simp
            try with_reducible rfl
          simp only [Act.put, List.getElem_toArray, List.getElem_cons_succ, List.getElem_cons_zero, List.setIfInBounds_toArray, List.set_cons_zero, List.set_cons_succ]
          refine wpAnyH_take (i := 3) (v := ?v3z3) rfl (by kernel_rfl) (by kernel_rfl) (by kernel_rfl) (fun _ _ _ h => h) (Or.inl ⟨by rfl, ?hy3z3⟩) (by assumption) ?rest3z3
          case hy3z3 =>
            intro w hSw
            dsimp only [S9] at hSw
            go_simp
            try with_reducible rfl
          simp only [Act.put, List.getElem_toArray, List.getElem_cons_succ, List.getElem_cons_zero, List.setIfInBounds_toArray, List.set_cons_zero, List.set_cons_succ]
          refine wpAnyH_take (i := 4) (v := ?v4z4) rfl (by kernel_rfl) (by kernel_rfl) (by kernel_rfl) (fun _ _ _ h => h) (Or.inl ⟨by rfl, ?hy4z4⟩) (by assumption) ?rest4z4
          case hy4z4 =>
            intro w hSw
            dsimp only [S9] at hSw
            go_simp
            try with_reducible rfl
          simp only [Act.put, List.getElem_toArray, List.getElem_cons_succ, List.getElem_cons_zero, List.setIfInBounds_toArray, List.set_cons_zero, List.set_cons_succ]
          refine wpAnyH_take (i := 8) (v := ?v8z5) rfl (by kernel_rfl) (by kernel_rfl) (by kernel_rfl) (fun _ _ _ h => h) (Or.inl ⟨by rfl, ?hy8z5⟩) (by assumption) ?rest8z5
          case hy8z5 =>
            intro w hSw
            dsimp only [S9] at hSw
            go_simp
            try with_reducible rfl
          simp only [Act.put, List.getElem_toArray, List.getElem_cons_succ, List.getElem_cons_zero, List.setIfInBounds_toArray, List.set_cons_zero, List.set_cons_succ]
          refine wpAnyH_take (i := 9) (v := ?v9z6) rfl (by kernel_rfl) (by kernel_rfl) (by kernel_rfl) (fun _ _ _ h => h) (Or.inl ⟨by rfl, ?hy9z6⟩) (by assumption) ?rest9z6
          case hy9z6 =>
            intro w hSw
            dsimp only [S9] at hSw
            go_simp
            try with_reducible rfl
          simp only [Act.put, List.getElem_toArray, List.getElem_cons_succ, List.getElem_cons_zero, List.setIfInBounds_toArray, List.set_cons_zero, List.set_cons_succ]
          refine wpAnyH_take (i := 12) (v := ?v12z7) rfl (by kernel_rfl) (by kernel_rfl) (by kernel_rfl) (fun _ _ _ h => h) (Or.inl ⟨by rfl, ?hy12z7⟩) (by assumption) ?rest12z7
          case hy12z7 =>
            intro w hSw
            dsimp only [S9] at hSw
            go_simp
            try with_reducible rfl
          simp only [Act.put, List.getElem_toArray, List.getElem_cons_succ, List.getElem_cons_zero, List.setIfInBounds_toArray, List.set_cons_zero, List.set_cons_succ]
          refine wpAnyH_take (i := 13) (v := ?v13z8) rfl (by kernel_rfl) (by kernel_rfl) (by kernel_rfl) (fun _ _ _ h => h) (Or.inl ⟨by rfl, ?hy13z8⟩) (by assumption) ?rest13z8
          case hy13z8 =>
            intro w hSw
            dsimp only [S9] at hSw
            go_simp
            try with_reducible rfl
          simp only [Act.put, List.getElem_toArray, List.getElem_cons_succ, List.getElem_cons_zero, List.setIfInBounds_toArray, List.set_cons_zero, List.set_cons_succ]
          refine wpAnyH_take (i := 14) (v := ?v14z9) rfl (by kernel_rfl) (by kernel_rfl) (by kernel_rfl) (fun _ _ _ h => h) (Or.inl ⟨by rfl, ?hy14z9⟩) (by assumption) ?rest14z9
          case hy14z9 =>
            intro w hSw
            dsimp only [S9] at hSw
            go_simp
            try with_reducible rfl
          simp only [Act.put, List.getElem_toArray, List.getElem_cons_succ, List.getElem_cons_zero, List.setIfInBounds_toArray, List.set_cons_zero, List.set_cons_succ]
          refine wpAnyH_take (i := 15) (v := ?v15z10) rfl (by kernel_rfl) (by kernel_rfl) (by kernel_rfl) (fun _ _ _ h => h) (Or.inl ⟨by rfl, ?hy15z10⟩) (by assumption) ?rest15z10
          case hy15z10 =>
            intro w hSw
            dsimp only [S9] at hSw
            go_simp
            try with_reducible rfl
          simp only [Act.put, List.getElem_toArray, List.getElem_cons_succ, List.getElem_cons_zero, List.setIfInBounds_toArray, List.set_cons_zero, List.set_cons_succ]
          refine wpAnyH_take (i := 16) (v := ?v16z11) rfl (by kernel_rfl) (by kernel_rfl) (by kernel_rfl) (fun _ _ _ h => h) (Or.inl ⟨by rfl, ?hy16z11⟩) (by assumption) ?rest16z11
          case hy16z11 =>
            intro w hSw
            dsimp only [S9] at hSw
            go_simp
            try with_reducible rfl
          simp only [Act.put, List.getElem_toArray, List.getElem_cons_succ, List.getElem_cons_zero, List.setIfInBounds_toArray, List.set_cons_zero, List.set_cons_succ]
          refine wpAnyH_ready (rs := [2]) (by kernel_rfl) (by simp) ?_
          refine AllReadyH.cons rfl (fun K hK => ?_) AllReadyH.nil
          go_simp
          (refine (blanks_c v WD (by omega)).mono ?_)
          rintro e V1 ⟨t1, rfl, _, ht1, bc⟩
          try go_simp
          have D1 : Hid (Below W4.heap.size W4 V1) := D0.out.trans (bc.out.mono D0.out.size)
          have T1 : Hid (t1.size = v * 2) := by unfold Hid; rw [ht1.out, bs_size, Lib.repeatL_length]; rfl
          have hT := HSS.out V1 D1.out
          refine hK.out _ _ hT (fun _ => ?_)
          clear hK K hS
          have hS := hT
          clear hT
          try simp only [Act.put, List.setIfInBounds_toArray, List.set_cons_zero, List.set_cons_succ]
          refine wpAnyH_ready (rs := [5]) (by kernel_rfl) (by simp) ?_
          refine AllReadyH.cons rfl (fun K hK => ?_) AllReadyH.nil
          go_simp
          (refine (itoa_c (nd l k).cd V1 (HPW.out V1 D1.out) (by omega) (by omega)).mono ?_)
          rintro e V2 ⟨t2, rfl, _, ht2, bc2⟩
          try go_simp
          have D2 : Hid (Below W4.heap.size W4 V2) := D1.out.trans (bc2.out.mono D1.out.size)
          have T2 : Hid (t2.size ≤ 21) := by unfold Hid; rw [ht2.out, bs_size]; exact Lib.itoa_length_le (nd l k).cd (by omega) (by omega)
          have hT := HSS.out V2 D2.out
          refine hK.out _ _ hT (fun _ => ?_)
          clear hK K hS
          have hS := hT
          clear hT
          try simp only [Act.put, List.setIfInBounds_toArray, List.set_cons_zero, List.set_cons_succ]
          obtain ⟨x1, hx1⟩ : ∃ x : ByteArray, t1 ++ t2 = x := ⟨_, rfl⟩
          obtain ⟨x2, hx2⟩ : ∃ x : ByteArray, x1 ++ (⟨#[32]⟩ : ByteArray) = x := ⟨_, rfl⟩
          obtain ⟨x3, hx3⟩ : ∃ x : ByteArray, x2 ++ (nd l k).ti = x := ⟨_, rfl⟩
          obtain ⟨x4, hx4⟩ : ∃ x : ByteArray, x3 ++ (⟨#[10]⟩ : ByteArray) = x := ⟨_, rfl⟩
          have s1 : x1.size = t1.size + t2.size := by rw [← hx1, ByteArray.size_append]
          have s2 : x2.size = x1.size + 1 := by rw [← hx2, ByteArray.size_append]; rfl
          have s3 : x3.size = x2.size + (nd l k).ti.size := by rw [← hx3, ByteArray.size_append]
          have s4 : x4.size = x3.size + 1 := by rw [← hx4, ByteArray.size_append]; rfl
          have q1 : ¬ 9223372036854775807 < t1.size + t2.size := by have := T1.out; have := T2.out; omega
          have q2 : ¬ 9223372036854775807 < x1.size + 1 := by have := T1.out; have := T2.out; omega
          have q3 : ¬ 9223372036854775807 < x2.size + (nd l k).ti.size := by have := T1.out; have := T2.out; omega
          have q4 : ¬ 9223372036854775807 < x3.size + 1 := by have := T1.out; have := T2.out; omega
          have HX : Hid (x4 = bs (lnT v (nd l k)) ∧ x4.size ≤ 200) := by
            refine ⟨?_, by have := T1.out; have := T2.out; omega⟩
            rw [← hx4, ← hx3, ← hx2, ← hx1, ht1.out, ht2.out]
            unfold lnT
            apply ByteArray.ext
            simp [ByteArray.data_append, bs, bts]
          clear s1 s2 s3 s4
          refine wpAnyH_take (i := 6) (v := ?v6z12) rfl (by kernel_rfl) (by kernel_rfl) (by kernel_rfl) (fun _ _ _ h => h) (Or.inl ⟨by rfl, ?hy6z12⟩) (by assumption) ?rest6z12
          case hy6z12 =>
            intro w hSw
            dsimp only [S9] at hSw
            go_simp
            try with_reducible rfl
          simp only [Act.put, List.getElem_toArray, List.getElem_cons_succ, List.getElem_cons_zero, List.setIfInBounds_toArray, List.set_cons_zero, List.set_cons_succ]
          refine wpAnyH_take (i := 7) (v := ?v7z13) rfl (by kernel_rfl) (by kernel_rfl) (by kernel_rfl) (fun _ _ _ h => h) (Or.inl ⟨by rfl, ?hy7z13⟩) (by assumption) ?rest7z13
          case hy7z13 =>
            intro w hSw
            dsimp only [S9] at hSw
            go_simp
            try with_reducible rfl
          simp only [Act.put, List.getElem_toArray, List.getElem_cons_succ, List.getElem_cons_zero, List.setIfInBounds_toArray, List.set_cons_zero, List.set_cons_succ]
          refine wpAnyH_take (i := 10) (v := ?v10z14) rfl (by kernel_rfl) (by kernel_rfl) (by kernel_rfl) (fun _ _ _ h => h) (Or.inl ⟨by rfl, ?hy10z14⟩) (by assumption) ?rest10z14
          case hy10z14 =>
            intro w hSw
            dsimp only [S9] at hSw
            go_simp
            try with_reducible rfl
          simp only [Act.put, List.getElem_toArray, List.getElem_cons_succ, List.getElem_cons_zero, List.setIfInBounds_toArray, List.set_cons_zero, List.set_cons_succ]
          refine wpAnyH_take (i := 11) (v := ?v11z15) rfl (by kernel_rfl) (by kernel_rfl) (by kernel_rfl) (fun _ _ _ h => h) (Or.inl ⟨by rfl, ?hy11z15⟩) (by assumption) ?rest11z15
          case hy11z15 =>
            intro w hSw
            dsimp only [S9] at hSw
            go_simp
            try with_reducible rfl
          simp only [Act.put, List.getElem_toArray, List.getElem_cons_succ, List.getElem_cons_zero, List.setIfInBounds_toArray, List.set_cons_zero, List.set_cons_succ]
          refine wpAnyH_ready (rs := [17]) (by kernel_rfl) (by simp) ?_
          refine AllReadyH.cons rfl (fun K hK => ?_) AllReadyH.nil
          go_simp
          (refine (IHC.out V2 (BW.out.trans (D2.out.mono BW.out.size))).mono ?_)
          rintro e V3 ⟨t3, rfl, ht3s, ht3, bc3⟩
          try go_simp
          have D3 : Hid (Below W4.heap.size W4 V3) := D2.out.trans (bc3.out.mono D2.out.size)
          clear hx1 hx2 hx3 hx4 q1 q2 q3 q4
          have hT := HSS.out V3 D3.out
          refine hK.out _ _ hT (fun _ => ?_)
          clear hK K hS
          have hS := hT
          clear hT
          try simp only [Act.put, List.setIfInBounds_toArray, List.set_cons_zero, List.set_cons_succ]
          obtain ⟨x5, hx5⟩ : ∃ x : ByteArray, x4 ++ t3 = x := ⟨_, rfl⟩
          have s5 : x5.size = x4.size + t3.size := by rw [← hx5, ByteArray.size_append]
          obtain ⟨x6, hx6⟩ : ∃ x : ByteArray, s0 ++ x5 = x := ⟨_, rfl⟩
          have q5 : ¬ 9223372036854775807 < x4.size + t3.size := by have := HX.out.2; omega
          have q6 : ¬ 9223372036854775807 < s0.size + x5.size := by have := HX.out.2; have := HS0.out.2; omega
          clear s5
          refine wpAnyH_take (i := 18) (v := ?v18z16) rfl (by kernel_rfl) (by kernel_rfl) (by kernel_rfl) (fun _ _ _ h => h) (Or.inl ⟨by rfl, ?hy18z16⟩) (by assumption) ?rest18z16
          case hy18z16 =>
            intro w hSw
            dsimp only [S9] at hSw
            go_simp
            try with_reducible rfl
          simp only [Act.put, List.getElem_toArray, List.getElem_cons_succ, List.getElem_cons_zero, List.setIfInBounds_toArray, List.set_cons_zero, List.set_cons_succ]
          refine wpAnyH_take (i := 19) (v := ?v19z17) rfl (by kernel_rfl) (by kernel_rfl) (by kernel_rfl) (fun _ _ _ h => h) (Or.inl ⟨by rfl, ?hy19z17⟩) (by assumption) ?rest19z17
          case hy19z17 =>
            intro w hSw
            dsimp only [S9] at hSw
            go_simp
            try with_reducible rfl
          simp only [Act.put, List.getElem_toArray, List.getElem_cons_succ, List.getElem_cons_zero, List.setIfInBounds_toArray, List.set_cons_zero, List.set_cons_succ]
          refine wpAnyH_take (i := 20) (v := ?v20z18) rfl (by kernel_rfl) (by kernel_rfl) (by kernel_rfl) (fun _ _ _ h => h) (Or.inl ⟨by rfl, ?hy20z18⟩) (by assumption) ?rest20z18
          case hy20z18 =>
            intro w hSw
            dsimp only [S9] at hSw
            go_simp
            try with_reducible rfl
          simp only [Act.put, List.getElem_toArray, List.getElem_cons_succ, List.getElem_cons_zero, List.setIfInBounds_toArray, List.set_cons_zero, List.set_cons_succ]
          have NX : Hid (∃ t : ByteArray, x6 = t ∧ Hid (t = bs (tcat (kid l n p v) (k + 1))) ∧ Hid (Below w.heap.size w V3)) := by
            refine ⟨x6, rfl, ?_, BW.out.trans (D3.out.mono BW.out.size)⟩
            unfold Hid
            have ek : kid l n p v k = lnT v (nd l k) ++ txN l n (nd l k).cd.toNat (v + 1) := by
              unfold kid
              exact if_pos (decide_eq_true HPQ.out)
            rw [← hx6, ← hx5, HX.out.1, ht3.out, HS0.out.1, bs_app, bs_app, tcat, ek]
          clear hx5 hx6 hS
          refine wpAnyH_done (by kernel_rfl) ?_ _
          refine NoPanic.normal ?_
          obtain ⟨t, ht, hNX⟩ := NX.out
          subst ht
          have NX := Lib.hid hNX
          clear hNX q5 q6
          go_wp2
          go_roundw
          case rel => exact ⟨k + 1, _, hlt0.out, by go_num, rfl, NX.out.1, NX.out.2⟩
          case measure => have := hlt0.out; simp [intOf]; omega
        · have hpq0 : ((nd l k).pr == (p : Int)) = false := by rw [beq_eq_false_iff_ne]; exact hpq
          have NX : Hid (s0 = bs (tcat (kid l n p v) (k + 1)) ∧ Below w.heap.size w W4) := by
            refine ⟨?_, BW.out⟩
            have ek : kid l n p v k = [] := by
              unfold kid
              exact if_neg (fun q => hpq (of_decide_eq_true q))
            rw [HS0.out.1, tcat, ek, List.append_nil]
          clear hpq
          go_wp2
          go_roundw
          case rel => exact ⟨k + 1, s0, hlt0.out, by go_num, rfl, NX.out.1, NX.out.2⟩
          case measure => have := hlt0.out; simp [intOf]; omega
      · obtain rfl : k = l.length := by omega
        have R : Hid (TP (tcat (kid l n p v) l.length) w (.returned (.string s0)) wr) := ⟨s0, rfl, by have := HS0.out.2; omega, HS0.out.1, hS.out⟩
        clear hlt
        go_wp2
        go_ret
        exact R.out
end Go.Proofs.YtgfjbilhgblbeaaDoor
