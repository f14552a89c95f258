/-
  Package code and its reference: Within.
  CodeFramesMatchSpec: the law.
  Package code: arguments opened: the lists that they read as.
-/
import Derived.Test.YtgfjbilhgblbeaaDoorMf15
import Derived.Test.YtgfjbilhgblbeaaDoorMf12
import Derived.Test.YtgfjbilhgblbeaaDoorMf01
import Derived.ProofKit
import Derived.OpenShut
import Derived.ShutString
import Derived.ChangeOld
import Derived.Deep.DeepHandedRow
import Derived.Lib.SmallJoins
namespace Go.Proofs.YtgfjbilhgblbeaaDoor
open Go.RowKit Go.WideMaps Go.Maps

/-- What lies there in the loop. -/
structure InWl (w wr : World) (v : Value) (zs : List Int) : Prop where
  own : wr.ownsRow w.heap.size 3 1 v zs.length (zs.map (Value.int .i64))
  bel : Below w.heap.size w wr
theorem InWl.keep {w wr W : World} {v : Value} {zs : List Int} (h : InWl w wr v zs) (hb : Below wr.heap.size wr W) : InWl w W v zs := ⟨own_keep h.own hb, h.bel.trans (hb.mono h.bel.size)⟩
theorem InWl.more {w wr w4 : World} {v v' : Value} {zs : List Int} {x : Int} {o : Obj} (h : InWl w wr v zs) (hown : w4.ownsRow w.heap.size 3 1 v' (zs.length + 1) (zs.map (Value.int .i64) ++ [.int .i64 x])) (hg : (wr.alloc o).grownBy w4 v.ownBlock) : InWl w w4 v' (zs ++ [x]) := by
  refine ⟨by rw [List.length_append, List.map_append]; exact hown, ?_⟩
  have hs := h.bel.size
  exact (h.bel.alloc hs o).grown hg (by simp; omega) (fun g hg => (h.own.lt g hg).1)
set_option maxRecDepth 100000 in
set_option maxHeartbeats 4000000 in
theorem Within_c (sa : Option Addr) (c : Nat) (l : List Nd) (a : Int) (w : World) (hl : RdN w sa l) (hf : Fits l) :
    Calls Tryd.prog 15 #[.slice sa l.length c, .int .i64 a] w (WinP l a w) := by
  obtain ⟨i0, hi, hz0, hz1, hz2⟩ := info_parts infoI
  have h9 := hl.1
  obtain ⟨W1, hW1⟩ : ∃ W1, w.alloc (.cells #[.int .i64 a] 3) = W1 := ⟨_, rfl⟩
  have B1 : Hid (Below w.heap.size w W1) := by rw [← hW1]; exact bel_one _ _
  have R1 : Rd W1 (some ⟨w.heap.size, 0, none⟩) [a] := by rw [← hW1]; exact rd_one w a _
  have HK : Hid (Calls Tryd.prog 41 #[.slice sa l.length c, .slice (some ⟨w.heap.size, 0, none⟩) 1 1] W1 (FwP l (withS l [a]) W1)) := Lib.hid (frameWith_c sa c l (some ⟨w.heap.size, 0, none⟩) 1 [a] W1 (hl.below B1.out) hf R1)
  have HL := Lib.hid hl
  clear hl hf R1
  by_cases hz : withS l [a] = 0
  · have HZ := Lib.hid hz
    have F := Lib.hid (fr_of (with_one hz).1)
    have h6 : l.length ≤ 600 := F.out.le
    rw [hz] at HK
    clear hz
    go_enter Tryd.func15, Tryd.ntmps15
    go_wp2_with fail
    (with_reducible refine HK.out.mono ?_)
    intro e W2 he
    obtain ⟨_, x, y, rfl, hx, hy, b2, _, _⟩ | ⟨h, _⟩ := he
    rotate_left
    · exact absurd rfl h
    obtain ⟨W3, hW3⟩ : ∃ W3, W2.alloc (.cells #[row x, row y] 71) = W3 := ⟨_, rfl⟩
    have b3 : Below W2.heap.size W2 W3 := by rw [← hW3]; exact bel_one _ _
    obtain ⟨z, hzz⟩ : ∃ z, W2.heap.size = z := ⟨_, rfl⟩
    have D3 : Hid (B2 W3 z (row x) (row y)) := by rw [← hW3, ← hzz]; exact B2.made _ _ _ _
    have BW3 := Lib.hid ((B1.out.trans (b2.mono B1.out.size)).trans (b3.mono (B1.out.trans (b2.mono B1.out.size)).size))
    have KP := Lib.hid (fun W (d : Nat) (hb : Below W3.heap.size W3 W) (hd : Has l d) => path_c x y (par l) (lev l) (Has l) F.out.tree d W ((hx.below b3).below hb) (.inr hd) (fun c h => (has_pos F.out.ord h).2) (F.out.lev hd).2.2.1)
    clear hx hy b2 b3 hW1 HK
    go_wp2_with fail
    go_loopw [8, 23] (fun v i wr => ∃ k : Nat, k ≤ l.length ∧ i = .int .i64 k ∧ Hid (InWl W3 wr v (winK l a k))) (fun _ i _ => l.length - (intOf i).toNat)
    case atStart => exact ⟨0, Nat.zero_le _, rfl, World.ownsRow_nil _ _ _ _, Below.refl _ _⟩
    case round =>
    obtain ⟨k, hk, rfl, hS⟩ := hrel
    by_cases hlt : k < l.length
    · obtain ⟨b', off, rfl, u0, u1, u2⟩ := (HL.out.below (BW3.out.trans (hS.out.bel.mono BW3.out.size))).at_ hlt
      have hlt' : (k : Int) < (l.length : Int) := by omega
      obtain ⟨d, hd, hh⟩ := nd_has F.out hlt
      obtain ⟨W4, hW4⟩ : ∃ W4, wr.alloc (.cells #[.int .i64 (nd l k).cd, .int .i64 (nd l k).pr, .string (nd l k).ti] 56) = W4 := ⟨_, rfl⟩
      have N4 : Hid (NodeB wr W4 (nd l k)) := by unfold Hid; rw [← hW4]; exact node_b _ _
      have v0 := N4.out.2.2.1
      have S4 := Lib.hid (hS.out.keep N4.out.1)
      have r0 := (D3.out.keep S4.out.bel).c0
      have r1 := (D3.out.keep S4.out.bel).c1
      have KL := Lib.hid (KP.out W4 d S4.out.bel hh)
      have WP : Hid (wiP l a k = (pth (par l) d (lev l d)).contains a) := by
        unfold Hid wiP; rw [hd, Int.toNat_natCast, pth_has]
      have CLE := Lib.hid (winK_len l a k)
      have L8 : Hid (lev l d ≤ 8) := (F.out.lev hh).2.2.1
      have HDD := Lib.hid hd
      have hs4 : Hid (wr.heap.size < W4.heap.size) := by have := N4.out.2.1; unfold Hid; omega
      rw [hd] at hW4 v0 u0
      clear N4 hS hh hd
      go_wp2_with fail
      (with_reducible refine KL.out.mono ?_)
      rintro e W5 ⟨pv, rfl, hrow, b5⟩
      obtain ⟨av, cv, rfl, hrd⟩ := rd_own hrow (pth_len _ _ _) (by have := L8.out; omega)
      clear hrow
      have KC := Lib.hid (contains_c av cv (pth (par l) d (lev l d)) a W5 hrd)
      rw [pth_len] at KC
      have S5 := Lib.hid (S4.out.keep b5)
      have v5 := (b5.cell (p := ⟨wr.heap.size, 0, none⟩) hs4.out).trans v0
      clear KL hrd b5 u0 u1 u2 hW4 v0 r0 r1
      go_wp2_with fail
      (with_reducible refine KC.out.mono ?_)
      rintro e W6 ⟨rfl, rfl⟩
      rw [← WP.out]
      clear KC
      by_cases hw : wiP l a k = true
      · rw [hw]
        have CN : Hid (winK l a (k + 1) = winK l a k ++ [(d : Int)]) := by unfold Hid; rw [winK_hit hw, HDD.out]
        obtain ⟨zs, hzs⟩ : ∃ zs, winK l a k = zs := ⟨_, rfl⟩
        rw [hzs] at S5 CLE CN
        have CL9 := CLE.out
        clear hw WP hzs
        go_wp2_with (at_builtin; refine wpList_append_own _ rfl _ _ 27 rfl W3.heap.size 3 i0 (.int .i64 0) 1 8 Tryd.underlying27 hi hz0 hz1 hz2 rfl (by decide) _ _ _ rfl (S5.out.own.alloc _) ⟨W6.heap.size, 0, none⟩ 1 1 [.int .i64 (d : Nat)] rfl rfl (cell_one_new _ _ _) (ints_oneCell .i64 [((d : Nat) : Int)]) ?c3 ?c4 ?c5 ?_)
        case c3 => unfold maxLen; omega
        case c4 => omega
        case c5 => have := S5.out.bel.size; simp; omega
        intro v' w4 hown' hgrow _
        have NX : Hid (InWl W3 w4 v' (winK l a (k + 1))) := by
          rw [CN.out]
          exact S5.out.more hown' hgrow
        clear hown' hgrow S5 S4 v5
        go_wp2
        go_roundw
        case rel => exact ⟨k + 1, by omega, by go_num, NX.out⟩
        case measure => simp [intOf]; omega
      · have hw' : wiP l a k = false := by simpa using hw
        have NX : Hid (InWl W3 W6 u8 (winK l a (k + 1))) := by
          rw [winK_miss hw']; exact S5.out
        rw [hw']
        clear hw hw' S5 S4 WP v5
        go_wp2
        go_roundw
        case rel => exact ⟨k + 1, by omega, by go_num, NX.out⟩
        case measure => simp [intOf]; omega
    · obtain rfl : k = l.length := by omega
      have R : Hid (WinP l a w (.returned (.tuple #[u8, .int .i64 0])) wr) := by
        obtain ⟨av, cv, e, hr⟩ := rd_own hS.out.own rfl (by have := winK_len l a l.length; omega)
        exact Or.inl ⟨HZ.out, av, cv, by rw [e], hr, BW3.out.trans (hS.out.bel.mono BW3.out.size)⟩
      clear hS hlt
      go_wp2
      go_ret2
      exact R.out
  · obtain ⟨f, hfl⟩ : ∃ f, withS l [a] = f := ⟨_, rfl⟩
    have HP := Lib.hid hfl
    have HZ := Lib.hid hz
    rw [hfl] at hz HK
    have HZ2 := Lib.hid hz
    have f1 : (f == 0) = false := by rw [beq_eq_false_iff_ne]; exact hz
    have f2 : (f != 0) = true := by rw [bne, f1]; rfl
    clear hfl hz
    go_enter Tryd.func15, Tryd.ntmps15
    go_wp2_with fail
    (with_reducible refine HK.out.mono ?_)
    intro e W2 he
    obtain ⟨h, _⟩ | ⟨_, rfl, b2⟩ := he
    · exact absurd h HZ2.out
    have BW2 := (B1.out.trans (b2.mono B1.out.size)).trans ((bel_one W2 (.cells #[.slice none 0 0, .slice none 0 0] 71)).mono (B1.out.trans (b2.mono B1.out.size)).size)
    have R : Hid (WinP l a w (.returned (.tuple #[.slice none 0 0, .int .i64 f])) (W2.alloc (.cells #[.slice none 0 0, .slice none 0 0] 71))) := Or.inr ⟨HZ.out, by rw [HP.out], BW2⟩
    clear b2 hW1 HK BW2
    go_wp2_with fail
    go_ret2
    exact R.out
set_option maxRecDepth 100000 in
set_option maxHeartbeats 4000000 in
theorem rWithinL_c (sa : Option Addr) (c : Nat) (l : List Nd) (a : Int) (w : World) (hl : RdN w sa l) (hf : Fits l) :
    Calls Tryd.prog 16 #[.slice sa l.length c, .int .i64 a] w (WinP l a w) := by
  obtain ⟨i0, hi, hz0, hz1, hz2⟩ := info_parts infoI
  have h9 := hl.1
  obtain ⟨W1, hW1⟩ : ∃ W1, w.alloc (.cells #[.int .i64 a] 3) = W1 := ⟨_, rfl⟩
  have B1 : Hid (Below w.heap.size w W1) := by rw [← hW1]; exact bel_one _ _
  have R1 : Rd W1 (some ⟨w.heap.size, 0, none⟩) [a] := by rw [← hW1]; exact rd_one w a _
  have HK : Hid (Calls Tryd.prog 43 #[.slice sa l.length c, .slice (some ⟨w.heap.size, 0, none⟩) 1 1] W1 (IntP (withS l [a]) W1)) := Lib.hid (rknownS_c sa c l (some ⟨w.heap.size, 0, none⟩) 1 [a] W1 (hl.below B1.out) hf R1)
  have HL := Lib.hid hl
  clear hl hf R1
  by_cases hz : withS l [a] = 0
  · have HZ := Lib.hid hz
    have F := Lib.hid (fr_of (with_one hz).1)
    have h6 : l.length ≤ 600 := F.out.le
    rw [hz] at HK
    clear hz
    go_enter Tryd.func16, Tryd.ntmps16
    go_wp2_with fail
    (with_reducible refine HK.out.mono ?_)
    rintro e W3 ⟨rfl, b2⟩
    have BW3 := Lib.hid (B1.out.trans (b2.mono B1.out.size))
    have KP := Lib.hid (fun W (d : Nat) (hb : Below W3.heap.size W3 W) (hd : Has l d) => rlineage_c sa c l d W (HL.out.below (BW3.out.trans (hb.mono BW3.out.size))) F.out hd)
    clear b2 hW1 HK
    go_wp2_with fail
    go_loopw [7, 19] (fun v i wr => ∃ k : Nat, k ≤ l.length ∧ i = .int .i64 k ∧ Hid (InWl W3 wr v (winK l a k))) (fun _ i _ => l.length - (intOf i).toNat)
    case atStart => exact ⟨0, Nat.zero_le _, rfl, World.ownsRow_nil _ _ _ _, Below.refl _ _⟩
    case round =>
    obtain ⟨k, hk, rfl, hS⟩ := hrel
    by_cases hlt : k < l.length
    · obtain ⟨b', off, rfl, u0, u1, u2⟩ := (HL.out.below (BW3.out.trans (hS.out.bel.mono BW3.out.size))).at_ hlt
      have hlt' : (k : Int) < (l.length : Int) := by omega
      obtain ⟨d, hd, hh⟩ := nd_has F.out hlt
      obtain ⟨W4, hW4⟩ : ∃ W4, wr.alloc (.cells #[.int .i64 (nd l k).cd, .int .i64 (nd l k).pr, .string (nd l k).ti] 56) = W4 := ⟨_, rfl⟩
      have N4 : Hid (NodeB wr W4 (nd l k)) := by unfold Hid; rw [← hW4]; exact node_b _ _
      have v0 := N4.out.2.2.1
      have S4 := Lib.hid (hS.out.keep N4.out.1)
      have KL := Lib.hid (KP.out W4 d S4.out.bel hh)
      have WP : Hid (wiP l a k = (pth (par l) d (lev l d)).contains a) := by
        unfold Hid wiP; rw [hd, Int.toNat_natCast, pth_has]
      have CLE := Lib.hid (winK_len l a k)
      have L8 : Hid (lev l d ≤ 8) := (F.out.lev hh).2.2.1
      have HDD := Lib.hid hd
      have hs4 : Hid (wr.heap.size < W4.heap.size) := by have := N4.out.2.1; unfold Hid; omega
      rw [hd] at hW4 v0 u0
      clear N4 hS hh hd
      go_wp2_with fail
      (with_reducible refine KL.out.mono ?_)
      rintro e W5 ⟨av, cv, rfl, hrd, b5, _⟩
      have KC := Lib.hid (contains_c av cv (pth (par l) d (lev l d)) a W5 hrd)
      rw [pth_len] at KC
      have S5 := Lib.hid (S4.out.keep b5)
      have v5 := (b5.cell (p := ⟨wr.heap.size, 0, none⟩) hs4.out).trans v0
      clear KL hrd b5 u0 u1 u2 hW4 v0
      go_wp2_with fail
      (with_reducible refine KC.out.mono ?_)
      rintro e W6 ⟨rfl, rfl⟩
      rw [← WP.out]
      clear KC
      by_cases hw : wiP l a k = true
      · rw [hw]
        have CN : Hid (winK l a (k + 1) = winK l a k ++ [(d : Int)]) := by unfold Hid; rw [winK_hit hw, HDD.out]
        obtain ⟨zs, hzs⟩ : ∃ zs, winK l a k = zs := ⟨_, rfl⟩
        rw [hzs] at S5 CLE CN
        have CL9 := CLE.out
        clear hw WP hzs
        go_wp2_with (at_builtin; refine wpList_append_own _ rfl _ _ 27 rfl W3.heap.size 3 i0 (.int .i64 0) 1 8 Tryd.underlying27 hi hz0 hz1 hz2 rfl (by decide) _ _ _ rfl (S5.out.own.alloc _) ⟨W6.heap.size, 0, none⟩ 1 1 [.int .i64 (d : Nat)] rfl rfl (cell_one_new _ _ _) (ints_oneCell .i64 [((d : Nat) : Int)]) ?c3 ?c4 ?c5 ?_)
        case c3 => unfold maxLen; omega
        case c4 => omega
        case c5 => have := S5.out.bel.size; simp; omega
        intro v' w4 hown' hgrow _
        have NX : Hid (InWl W3 w4 v' (winK l a (k + 1))) := by
          rw [CN.out]
          exact S5.out.more hown' hgrow
        clear hown' hgrow S5 S4 v5
        go_wp2
        go_roundw
        case rel => exact ⟨k + 1, by omega, by go_num, NX.out⟩
        case measure => simp [intOf]; omega
      · have hw' : wiP l a k = false := by simpa using hw
        have NX : Hid (InWl W3 W6 u7 (winK l a (k + 1))) := by
          rw [winK_miss hw']; exact S5.out
        rw [hw']
        clear hw hw' S5 S4 WP v5
        go_wp2
        go_roundw
        case rel => exact ⟨k + 1, by omega, by go_num, NX.out⟩
        case measure => simp [intOf]; omega
    · obtain rfl : k = l.length := by omega
      have R : Hid (WinP l a w (.returned (.tuple #[u7, .int .i64 0])) wr) := by
        obtain ⟨av, cv, e, hr⟩ := rd_own hS.out.own rfl (by have := winK_len l a l.length; omega)
        exact Or.inl ⟨HZ.out, av, cv, by rw [e], hr, BW3.out.trans (hS.out.bel.mono BW3.out.size)⟩
      clear hS hlt
      go_wp2
      go_ret2
      exact R.out
  · obtain ⟨f, hfl⟩ : ∃ f, withS l [a] = f := ⟨_, rfl⟩
    have HP := Lib.hid hfl
    have HZ := Lib.hid hz
    rw [hfl] at hz HK
    have HZ2 := Lib.hid hz
    have f1 : (f == 0) = false := by rw [beq_eq_false_iff_ne]; exact hz
    have f2 : (f != 0) = true := by rw [bne, f1]; rfl
    clear hfl hz
    go_enter Tryd.func16, Tryd.ntmps16
    go_wp2_with fail
    (with_reducible refine HK.out.mono ?_)
    rintro e W2 ⟨rfl, b2⟩
    have R : Hid (WinP l a w (.returned (.tuple #[.slice none 0 0, .int .i64 f])) W2) := Or.inr ⟨HZ.out, by rw [HP.out], B1.out.trans (b2.mono B1.out.size)⟩
    clear b2 hW1 HK
    go_wp2_with fail
    go_ret2
    exact R.out
end Go.Proofs.YtgfjbilhgblbeaaDoor
namespace Go.Proofs.YtgfjbilhgblbeaaDoor
open Go.RowKit Go.WideMaps Go.Maps

theorem eqI_c (a1 a2 : Option Addr) (c1 c2 : Nat) (l : List Int) (w : World) (h1 : Rd w a1 l) (h2 : Rd w a2 l) :
    Calls Tryd.prog 14 #[.slice a1 l.length c1, .slice a2 l.length c2] w fun e w' => e = .returned (.bool true) ∧ ∃ q, w' = w.drewN q := by
  by_cases h0 : l.length = 0
  · have e := Tryd.slices_Equal_int_empty a1 a2 c1 l.length c2 w h2.1
    rw [h0] at e ⊢
    refine e.mono ?_
    rintro e w' ⟨rfl, rfl⟩
    exact ⟨rfl, 0, rfl⟩
  · obtain ⟨b1, o1, rfl, _, k1⟩ := h1.2 (by omega)
    obtain ⟨b2, o2, rfl, _, k2⟩ := h2.2 (by omega)
    have e := Tryd.slices_Equal_int b1 o1 l.length c1 b2 o2 l.length c2 l l w (Nat.le_refl _) (Nat.le_refl _) h1.1 h1.1 k1 k2
    simpa using e

def txS (l : List Nd) : ByteArray := if frS l = 0 then bs (txN l 9 0 0) else ⟨#[]⟩
theorem txt_one {l : List Nd} {w w' : World} {e : Ending} (h : TxtP l w e w') : e = .returned (.tuple #[.string (txS l), .int .i64 (frS l)]) ∧ Below w.heap.size w w' := by
  rcases h with ⟨h0, he, hb⟩ | ⟨h0, he, hb⟩
  · exact ⟨by rw [he, txS, if_pos h0, h0], hb⟩
  · exact ⟨by rw [he, txS, if_neg h0], hb⟩
/-- What Above and Within answer. -/
def LsP (L : List Int) (f : Int) (w : World) (e : Ending) (w' : World) : Prop := ∃ s c, e = .returned (.tuple #[.slice s L.length c, .int .i64 f]) ∧ Rd w' s L ∧ Below w.heap.size w w'
def avL (l : List Nd) (a : Int) : List Int := if withS l [a] = 0 then abL (par l) a.toNat (lev l a.toNat - 1) else []
def wiL (l : List Nd) (a : Int) : List Int := if withS l [a] = 0 then winK l a l.length else []
theorem av_one {l : List Nd} {a : Int} {w w' : World} {e : Ending} (h : AvP l a w e w') : LsP (avL l a) (withS l [a]) w e w' := by
  rcases h with ⟨h0, s, c, he, hr, hb⟩ | ⟨h0, he, hb⟩
  · exact ⟨s, c, by rw [he, avL, if_pos h0, h0, abL_len], by rw [avL, if_pos h0]; exact hr, hb⟩
  · exact ⟨none, 0, by rw [he, avL, if_neg h0]; rfl, by rw [avL, if_neg h0]; exact Rd.none_ _, hb⟩
theorem wi_one {l : List Nd} {a : Int} {w w' : World} {e : Ending} (h : WinP l a w e w') : LsP (wiL l a) (withS l [a]) w e w' := by
  rcases h with ⟨h0, s, c, he, hr, hb⟩ | ⟨h0, he, hb⟩
  · exact ⟨s, c, by rw [he, wiL, if_pos h0, h0], by rw [wiL, if_pos h0]; exact hr, hb⟩
  · exact ⟨none, 0, by rw [he, wiL, if_neg h0]; rfl, by rw [wiL, if_neg h0]; exact Rd.none_ _, hb⟩
set_option maxRecDepth 100000 in
set_option maxHeartbeats 4000000 in
theorem law_frames (sa : Option Addr) (c : Nat) (l : List Nd) (a b : Int) (w : World) (hl : RdN w sa l) (hf : Fits l) (hP : Pow w) :
    Calls Tryd.prog 3 #[.slice sa l.length c, .int .i64 a, .int .i64 b] w fun e w' => e = .returned (.bool true) ∧ Below w.heap.size w w' := by
  have K1 := Lib.hid (fun W (hb : Below w.heap.size w W) => Text_c sa c l W (hl.below hb) hf (hP.below hb))
  have K2 := Lib.hid (fun W (hb : Below w.heap.size w W) => rText_c sa c l W (hl.below hb) hf (hP.below hb))
  have K3 := Lib.hid (fun W (hb : Below w.heap.size w W) => CheckFrame_c sa c l W (hl.below hb) hf)
  have K4 := Lib.hid (fun W (hb : Below w.heap.size w W) => rCheckFrame_c sa c l W (hl.below hb) hf)
  have K5 := Lib.hid (fun W (hb : Below w.heap.size w W) => Above_c sa c l a W (hl.below hb) hf)
  have K6 := Lib.hid (fun W (hb : Below w.heap.size w W) => rAbove_c sa c l a W (hl.below hb) hf)
  have K8 := Lib.hid (fun W (hb : Below w.heap.size w W) => Within_c sa c l a W (hl.below hb) hf)
  have K9 := Lib.hid (fun W (hb : Below w.heap.size w W) => rWithinL_c sa c l a W (hl.below hb) hf)
  have K11 := Lib.hid (fun W (hb : Below w.heap.size w W) => Meeting_c sa c l a b W (hl.below hb) hf)
  have K12 := Lib.hid (fun W (hb : Below w.heap.size w W) => rMeeting_c sa c l a b W (hl.below hb) hf)
  clear hl hf hP
  have B0 : Hid (Below w.heap.size w w) := Below.refl _ _
  obtain ⟨T, hT⟩ : ∃ T, txS l = T := ⟨_, rfl⟩
  obtain ⟨F, hF⟩ : ∃ F, frS l = F := ⟨_, rfl⟩
  obtain ⟨G, hG⟩ : ∃ G, withS l [a] = G := ⟨_, rfl⟩
  obtain ⟨A, hA⟩ : ∃ A, avL l a = A := ⟨_, rfl⟩
  obtain ⟨X, hX⟩ : ∃ X, wiL l a = X := ⟨_, rfl⟩
  obtain ⟨⟨m1, m2, m3⟩, hM⟩ : ∃ M, meS l a b = M := ⟨_, rfl⟩
  have HH := Lib.hid (And.intro hT (And.intro hF (And.intro hG (And.intro hA (And.intro hX hM)))))
  clear hT hF hG hA hX hM
  have t1 : (T.toList == T.toList) = true := by simp
  have t2 : (T.toList != T.toList) = false := by simp
  go_enter Tryd.func3, Tryd.ntmps3
  go_wp2_with fail
  (with_reducible refine (K1.out w B0.out).mono ?_)
  intro e W1 he
  obtain ⟨rfl, b1⟩ := txt_one he
  rw [HH.out.1, HH.out.2.1]
  have B1 := Lib.hid (B0.out.trans (b1.mono B0.out.size))
  try clear he
  clear K1
  clear b1
  go_wp2_with fail
  (with_reducible refine (K2.out W1 B1.out).mono ?_)
  intro e W2 he
  obtain ⟨rfl, b2⟩ := txt_one he
  rw [HH.out.1, HH.out.2.1]
  have B2 := Lib.hid (B1.out.trans (b2.mono B1.out.size))
  try clear he
  clear K2
  clear b2
  go_wp2_with fail
  (with_reducible refine (K3.out W2 B2.out).mono ?_)
  intro e W3 he
  obtain ⟨rfl, b3⟩ := he
  rw [HH.out.2.1]
  have B3 := Lib.hid (B2.out.trans (b3.mono B2.out.size))
  try clear he
  clear K3
  clear b3
  go_wp2_with fail
  (with_reducible refine (K4.out W3 B3.out).mono ?_)
  intro e W4 he
  obtain ⟨rfl, b4⟩ := he
  rw [HH.out.2.1]
  have B4 := Lib.hid (B3.out.trans (b4.mono B3.out.size))
  try clear he
  clear K4
  clear b4
  go_wp2_with fail
  (with_reducible refine (K5.out W4 B4.out).mono ?_)
  intro e W5 he
  obtain ⟨s5, c5, rfl, r5, b5⟩ := av_one he
  rw [HH.out.2.2.1]
  rw [HH.out.2.2.2.1] at r5 ⊢
  have R5 := Lib.hid r5
  clear r5
  have B5 := Lib.hid (B4.out.trans (b5.mono B4.out.size))
  try clear he
  clear K5
  clear b5
  go_wp2_with fail
  (with_reducible refine (K6.out W5 B5.out).mono ?_)
  intro e W6 he
  obtain ⟨s6, c6, rfl, r6, b6⟩ := av_one he
  rw [HH.out.2.2.1]
  rw [HH.out.2.2.2.1] at r6 ⊢
  have R6 := Lib.hid r6
  clear r6
  have B6 := Lib.hid (B5.out.trans (b6.mono B5.out.size))
  try clear he
  clear K6
  have EQ7 := Lib.hid (eqI_c s5 s6 c5 c6 A W6 (R5.out.below b6) R6.out)
  clear b6
  go_wp2_with fail
  (with_reducible refine EQ7.out.mono ?_)
  rintro e W7 ⟨rfl, q7, h7⟩
  have B7 : Hid (Below w.heap.size w W7) := by rw [h7]; exact below_drewN B6.out _
  clear h7
  go_wp2_with fail
  (with_reducible refine (K8.out W7 B7.out).mono ?_)
  intro e W8 he
  obtain ⟨s8, c8, rfl, r8, b8⟩ := wi_one he
  rw [HH.out.2.2.1]
  rw [HH.out.2.2.2.2.1] at r8 ⊢
  have R8 := Lib.hid r8
  clear r8
  have B8 := Lib.hid (B7.out.trans (b8.mono B7.out.size))
  try clear he
  clear K8
  clear b8
  go_wp2_with fail
  (with_reducible refine (K9.out W8 B8.out).mono ?_)
  intro e W9 he
  obtain ⟨s9, c9, rfl, r9, b9⟩ := wi_one he
  rw [HH.out.2.2.1]
  rw [HH.out.2.2.2.2.1] at r9 ⊢
  have R9 := Lib.hid r9
  clear r9
  have B9 := Lib.hid (B8.out.trans (b9.mono B8.out.size))
  try clear he
  clear K9
  have EQ10 := Lib.hid (eqI_c s8 s9 c8 c9 X W9 (R8.out.below b9) R9.out)
  clear b9
  go_wp2_with fail
  (with_reducible refine EQ10.out.mono ?_)
  rintro e W10 ⟨rfl, q10, h10⟩
  have B10 : Hid (Below w.heap.size w W10) := by rw [h10]; exact below_drewN B9.out _
  clear h10
  go_wp2_with fail
  (with_reducible refine (K11.out W10 B10.out).mono ?_)
  intro e W11 he
  obtain ⟨rfl, b11⟩ := he
  rw [HH.out.2.2.2.2.2]
  have B11 := Lib.hid (B10.out.trans (b11.mono B10.out.size))
  try clear he
  clear K11
  clear b11
  go_wp2_with fail
  (with_reducible refine (K12.out W11 B11.out).mono ?_)
  intro e W12 he
  obtain ⟨rfl, b12⟩ := he
  rw [HH.out.2.2.2.2.2]
  have B12 := Lib.hid (B11.out.trans (b12.mono B11.out.size))
  try clear he
  clear K12
  clear b12
  go_wp2
  go_ret
  exact ⟨rfl, B12.out⟩
end Go.Proofs.YtgfjbilhgblbeaaDoor
namespace Go.Proofs.YtgfjbilhgblbeaaDoor
open Go.ChangeShapes Go.WideShapes Go.ChangeAt Go.RowKit Go.Joins

theorem laidOut : laidOutB Tryd.prog = true := by kernel_rfl
theorem own : ownKnob Tryd.prog.godebug = none := by kernel_rfl
theorem block_lt {W : World} {b o : Nat} {v : Value} (h : W.cell? ⟨b, o, none⟩ = some v) : b < W.heap.size := by
  rcases Nat.lt_or_ge b W.heap.size with l | l
  · exact l
  · simp [World.cell?, Array.getElem?_eq_none l] at h
theorem add_none (b off i : Nat) : (Addr.mk b off none).add i = ⟨b, off + i, none⟩ := by
  unfold Addr.add
  split
  · rename_i h; subst h; simp
  · rfl
theorem cellsI : Tryd.prog.cellsOf 3 = 1 := by kernel_rfl
theorem cellsTx : Tryd.prog.cellsOf 9 = 1 := by kernel_rfl
theorem cellsNd : Tryd.prog.cellsOf 56 = 3 := by kernel_rfl
theorem cellsCg : Tryd.prog.cellsOf 49 = 3 := by kernel_rfl
theorem cellsMv : Tryd.prog.cellsOf 101 = 2 := by kernel_rfl
theorem wf_in {n : Int} (h : (Lit.int .i64 n).wf = true) : in64 n := by
  unfold in64
  simp [Lit.wf, IntKind.min, IntKind.max, IntKind.signed, IntKind.bits] at h
  omega
section
variable {H : Type} {enc : TypeId × Value → H} {W : World}
theorem bulk_all_cons {d : DataW H} {r : List (DataW H)} : Rows.uptoBulkAll (d :: r) = Rows.uptoBulk d + Rows.uptoBulkAll r := by simp only [Rows.uptoBulkAll]
/-- A slice, opened element by element. -/
theorem open_row {α : Type} {tS tE : TypeId} {m : Nat} (hS : Tryd.prog.underlying tS = some (.slice tE)) (hm : Tryd.prog.cellsOf tE = m) (h0 : 0 < m) (El : α → List Value → Prop) (size : α → Nat)
    (hEl : ∀ fuel cs y, DataW.trod enc Tryd.prog W 0 (fun _ => true) true fuel tE cs = some y → ∃ c, El c cs ∧ size c ≤ Rows.uptoBulk y.1)
    {fuel : Nat} {cs : List Value} {x : DataW H × List MemPlace} (h : DataW.trod enc Tryd.prog W 0 (fun _ => true) true fuel tS cs = some x) :
    ∃ (l : List α) (a : Option Addr) (cap : Nat), cs = [.slice a l.length cap] ∧ (l = [] ∨ ∃ b off, a = some ⟨b, off, none⟩ ∧ b < W.heap.size ∧ (l.length ≤ cap ∧ cap ≤ 9223372036854775807) ∧
      ∀ (j : Nat) (c : α), l[j]? = some c → ∃ cs', El c cs' ∧ ∀ i, i < m → W.cell? ⟨b, off + j * m + i, none⟩ = cs'[i]?) ∧ (l.map size).sum + 1 ≤ Rows.uptoBulk x.1 ∧ l.length + 1 ≤ Rows.uptoBulk x.1 := by
  have pos : ∀ d : DataW H, 1 ≤ Rows.uptoBulk d := fun d => by
    cases d with
    | lit v => cases v <;> simp only [Rows.uptoBulk] <;> omega
    | _ => simp only [Rows.uptoBulk]; omega
  rcases DataW.trod_slice hS h with ⟨e7, e8⟩ | ⟨a, len, cap, elems, rest, n, hn, e7, e8, _, hlc, hcm, hel, hat, _, _⟩
  · exact ⟨[], none, 0, e7, .inl rfl, by rw [e8]; simp [Rows.uptoBulk], by rw [e8]; simp [Rows.uptoBulk]⟩
  · have hel1 : Rows.uptoBulkAll (elems.map (·.1)) + 1 ≤ Rows.uptoBulk x.1 := by
      rw [e8]; simp only [Rows.uptoBulk]; omega
    unfold maxLen at hcm
    by_cases hl0 : len = 0
    · subst hl0
      exact ⟨[], some a, cap, e7, .inl rfl, by simp; omega, by simp; omega⟩
    rw [hm] at hat
    have each : ∀ i, i < len → ∃ cs' y, elems[i]? = some y ∧ W.cells? 0 (a.add (i * m)) m = some cs' ∧ DataW.trod enc Tryd.prog W 0 (fun _ => true) true n tE cs' = some y := by
      intro i hi
      have h5 := hat i hi
      have h6 : elems[i]? = some (elems[i]'(by omega)) := List.getElem?_eq_getElem (by omega)
      rw [h6] at h5
      obtain ⟨cs', h7, h8⟩ := Option.bind_eq_some_iff.1 h5
      exact ⟨cs', _, h6, h7, h8⟩
    obtain ⟨b, off, spot⟩ := a
    obtain ⟨hspot, hblk⟩ : spot = none ∧ b < W.heap.size := by
      obtain ⟨cs', y, _, h7, h8⟩ := each 0 (by omega)
      obtain ⟨hlen, _, hc⟩ := World.cells?_some h7
      have hc0 := hc 0 (by omega)
      have hx : ∃ v, cs'[0]? = some v := ⟨cs'[0]'(by omega), List.getElem?_eq_getElem (by omega)⟩
      obtain ⟨v, hv⟩ := hx
      rw [hv] at hc0
      have hs0 : spot = none := by
        simpa [Addr.add] using World.cell?_spot hc0
      subst hs0
      rw [add_none, add_none] at hc0
      exact ⟨rfl, block_lt hc0⟩
    subst hspot
    have row : ∀ j, j ≤ len → ∃ l : List α, l.length = j ∧ (l.map size).sum ≤ Rows.uptoBulkAll ((elems.drop (len - j)).map (·.1)) ∧ l.length ≤ Rows.uptoBulkAll ((elems.drop (len - j)).map (·.1)) ∧
        ∀ (i : Nat) (c : α), l[i]? = some c → ∃ cs', El c cs' ∧ ∀ q, q < m → W.cell? ⟨b, off + (len - j + i) * m + q, none⟩ = cs'[q]? := by
      intro j
      induction j with
      | zero => intro _; exact ⟨[], rfl, by simp, by simp, fun i c hi => by simp at hi⟩
      | succ j ihj =>
        intro hj
        obtain ⟨l, hx1, hx2, hx3, hx4⟩ := ihj (by omega)
        obtain ⟨cs', y, h6, h7, h8⟩ := each (len - (j + 1)) (by omega)
        obtain ⟨c, g1, g2⟩ := hEl _ _ _ h8
        obtain ⟨_, _, hc⟩ := World.cells?_some h7
        rw [add_none] at hc
        have cc : ∀ i, i < m → W.cell? ⟨b, off + (len - (j + 1)) * m + i, none⟩ = cs'[i]? := fun i hi => by
          rw [← add_none]; exact hc i hi
        have hdrop : elems.drop (len - (j + 1)) = y :: elems.drop (len - j) := by
          obtain ⟨hlt, he⟩ := List.getElem?_eq_some_iff.1 h6
          rw [List.drop_eq_getElem_cons hlt, he, show len - (j + 1) + 1 = len - j by omega]
        have hp := pos y.1
        refine ⟨c :: l, by simp [hx1], ?_, ?_, ?_⟩
        · rw [hdrop, List.map_cons, List.map_cons, List.sum_cons, bulk_all_cons]; omega
        · rw [hdrop, List.map_cons, List.length_cons, bulk_all_cons]; omega
        · intro i c' hi
          cases i with
          | zero =>
            simp only [List.getElem?_cons_zero, Option.some.injEq] at hi
            subst hi
            exact ⟨cs', g1, cc⟩
          | succ i =>
            obtain ⟨cs2, g3, g4⟩ := hx4 i c' (by simpa using hi)
            refine ⟨cs2, g3, fun q hq => ?_⟩
            rw [show len - (j + 1) + (i + 1) = len - j + i by omega]
            exact g4 q hq
    obtain ⟨l, hx1, hx2, hx3, hx4⟩ := row len (Nat.le_refl _)
    rw [Nat.sub_self, List.drop_zero] at hx2 hx3
    simp only [Nat.sub_self, Nat.zero_add] at hx4
    exact ⟨l, some ⟨b, off, none⟩, cap, by rw [e7, hx1], .inr ⟨b, off, rfl, hblk, ⟨by omega, by omega⟩, hx4⟩, by omega, by omega⟩


set_option maxRecDepth 100000 in
theorem open_nd (fuel : Nat) (cs : List Value) (y : DataW H × List MemPlace) (h : DataW.trod enc Tryd.prog W 0 (fun _ => true) true fuel 56 cs = some y) :
    ∃ u : Nd, (cs = [.int .i64 u.cd, .int .i64 u.pr, .string u.ti] ∧ ((-9223372036854775808 ≤ u.cd ∧ u.cd ≤ 9223372036854775807) ∧ (-9223372036854775808 ≤ u.pr ∧ u.pr ≤ 9223372036854775807) ∧ u.ti.size ≤ 9223372036854775807)) ∧ 0 ≤ Rows.uptoBulk y.1 := by
  obtain ⟨ys, n, _, rfl, hl, hlen, hf⟩ := DataW.trod_struct Tryd.underlying56 h
  rw [cellsNd] at hl
  obtain ⟨c0, c1, c2, rfl⟩ : ∃ c0 c1 c2, cs = [c0, c1, c2] := by
    match cs, hl with
    | [a0, a1, a2], _ => exact ⟨a0, a1, a2, rfl⟩
  obtain ⟨y0, y1, y2, rfl⟩ : ∃ y0 y1 y2, ys = [y0, y1, y2] := by
    match ys, hlen with
    | [a0, a1, a2], _ => exact ⟨a0, a1, a2, rfl⟩
  have h0 : DataW.trod enc Tryd.prog W 0 (fun _ => true) true n 3 (([c0, c1, c2].drop 0).take (Tryd.prog.cellsOf 3)) = some y0 := hf 0 _ rfl
  have h1 : DataW.trod enc Tryd.prog W 0 (fun _ => true) true n 3 (([c0, c1, c2].drop 1).take (Tryd.prog.cellsOf 3)) = some y1 := hf 1 _ rfl
  have h2 : DataW.trod enc Tryd.prog W 0 (fun _ => true) true n 9 (([c0, c1, c2].drop 2).take (Tryd.prog.cellsOf 9)) = some y2 := hf 2 _ rfl
  simp only [cellsI, cellsTx, List.drop_zero, List.drop_succ_cons, List.take_succ_cons, List.take_zero] at h0 h1 h2
  obtain ⟨v0, e0, _, w0⟩ := DataW.trod_int Tryd.underlying3 h0
  obtain ⟨v1, e1, _, w1⟩ := DataW.trod_int Tryd.underlying3 h1
  obtain ⟨v2, e2, _, w2⟩ := DataW.trod_string Tryd.underlying9 h2
  simp only [List.cons.injEq, and_true] at e0 e1 e2
  subst e0 e1 e2
  unfold maxLen at w2
  exact ⟨⟨v0, v1, v2⟩, ⟨rfl, wf_in w0, wf_in w1, w2⟩, Nat.zero_le _⟩
set_option maxRecDepth 100000 in
theorem open_cg (fuel : Nat) (cs : List Value) (y : DataW H × List MemPlace) (h : DataW.trod enc Tryd.prog W 0 (fun _ => true) true fuel 49 cs = some y) :
    ∃ u : Cg, (cs = [.int .i64 u.ca, .int .i64 u.co, .int .i64 u.cd] ∧ (in64 u.ca ∧ in64 u.co ∧ in64 u.cd)) ∧ 0 ≤ Rows.uptoBulk y.1 := by
  obtain ⟨ys, n, _, rfl, hl, hlen, hf⟩ := DataW.trod_struct Tryd.underlying49 h
  rw [cellsCg] at hl
  obtain ⟨c0, c1, c2, rfl⟩ : ∃ c0 c1 c2, cs = [c0, c1, c2] := by
    match cs, hl with
    | [a0, a1, a2], _ => exact ⟨a0, a1, a2, rfl⟩
  obtain ⟨y0, y1, y2, rfl⟩ : ∃ y0 y1 y2, ys = [y0, y1, y2] := by
    match ys, hlen with
    | [a0, a1, a2], _ => exact ⟨a0, a1, a2, rfl⟩
  have h0 : DataW.trod enc Tryd.prog W 0 (fun _ => true) true n 3 (([c0, c1, c2].drop 0).take (Tryd.prog.cellsOf 3)) = some y0 := hf 0 _ rfl
  have h1 : DataW.trod enc Tryd.prog W 0 (fun _ => true) true n 3 (([c0, c1, c2].drop 1).take (Tryd.prog.cellsOf 3)) = some y1 := hf 1 _ rfl
  have h2 : DataW.trod enc Tryd.prog W 0 (fun _ => true) true n 3 (([c0, c1, c2].drop 2).take (Tryd.prog.cellsOf 3)) = some y2 := hf 2 _ rfl
  simp only [cellsI, cellsTx, List.drop_zero, List.drop_succ_cons, List.take_succ_cons, List.take_zero] at h0 h1 h2
  obtain ⟨v0, e0, _, w0⟩ := DataW.trod_int Tryd.underlying3 h0
  obtain ⟨v1, e1, _, w1⟩ := DataW.trod_int Tryd.underlying3 h1
  obtain ⟨v2, e2, _, w2⟩ := DataW.trod_int Tryd.underlying3 h2
  simp only [List.cons.injEq, and_true] at e0 e1 e2
  subst e0 e1 e2
  skip
  exact ⟨⟨v0, v1, v2⟩, ⟨rfl, wf_in w0, wf_in w1, wf_in w2⟩, Nat.zero_le _⟩
set_option maxRecDepth 100000 in
theorem open_mv (fuel : Nat) (cs : List Value) (y : DataW H × List MemPlace) (h : DataW.trod enc Tryd.prog W 0 (fun _ => true) true fuel 101 cs = some y) :
    ∃ u : Mv, (cs = [.int .i64 u.fr, .int .i64 u.tg] ∧ (in64 u.fr ∧ in64 u.tg)) ∧ 0 ≤ Rows.uptoBulk y.1 := by
  obtain ⟨ys, n, _, rfl, hl, hlen, hf⟩ := DataW.trod_struct Tryd.underlying101 h
  rw [cellsMv] at hl
  obtain ⟨c0, c1, rfl⟩ : ∃ c0 c1, cs = [c0, c1] := by
    match cs, hl with
    | [a0, a1], _ => exact ⟨a0, a1, rfl⟩
  obtain ⟨y0, y1, rfl⟩ : ∃ y0 y1, ys = [y0, y1] := by
    match ys, hlen with
    | [a0, a1], _ => exact ⟨a0, a1, rfl⟩
  have h0 : DataW.trod enc Tryd.prog W 0 (fun _ => true) true n 3 (([c0, c1].drop 0).take (Tryd.prog.cellsOf 3)) = some y0 := hf 0 _ rfl
  have h1 : DataW.trod enc Tryd.prog W 0 (fun _ => true) true n 3 (([c0, c1].drop 1).take (Tryd.prog.cellsOf 3)) = some y1 := hf 1 _ rfl
  simp only [cellsI, cellsTx, List.drop_zero, List.drop_succ_cons, List.take_succ_cons, List.take_zero] at h0 h1
  obtain ⟨v0, e0, _, w0⟩ := DataW.trod_int Tryd.underlying3 h0
  obtain ⟨v1, e1, _, w1⟩ := DataW.trod_int Tryd.underlying3 h1
  simp only [List.cons.injEq, and_true] at e0 e1
  subst e0 e1
  skip
  exact ⟨⟨v0, v1⟩, ⟨rfl, wf_in w0, wf_in w1⟩, Nat.zero_le _⟩
set_option maxRecDepth 100000 in
theorem open_N {b0 : Nat} {v : Value} {d : DataW H} {p : List MemPlace} (hv : Value.okWide Tryd.prog W .any b0 22 v) (h : DataW.Trod enc Tryd.prog W 0 (fun _ => true) true 22 v d p) :
    ∃ a l c, v = .slice a (List.length l) c ∧ RdN W a l ∧ Fits l ∧ List.length l ≤ c := by
  obtain ⟨a0, len, cap, rfl⟩ := okWide_slice Tryd.underlying22 hv
  obtain ⟨m, h⟩ := h
  obtain ⟨l, a, cap', e, hr, _, _⟩ := open_row (α := Nd) Tryd.underlying22 cellsNd (by decide) (fun u cs => cs = [.int .i64 u.cd, .int .i64 u.pr, .string u.ti] ∧ ((-9223372036854775808 ≤ u.cd ∧ u.cd ≤ 9223372036854775807) ∧ (-9223372036854775808 ≤ u.pr ∧ u.pr ≤ 9223372036854775807) ∧ u.ti.size ≤ 9223372036854775807)) (fun _ => 0) open_nd h
  simp [Value.cells] at e
  obtain ⟨rfl, rfl, rfl⟩ := e
  refine ⟨_, l, _, rfl, ?_⟩
  rcases hr with rfl | ⟨b, off, rfl, hb, hc, hr⟩
  · exact ⟨⟨by simp, fun h => by simp at h⟩, (fun u hu => by cases hu), by simp⟩
  · refine ⟨⟨by omega, fun _ => ⟨b, off, rfl, hb, fun j hj => ?_⟩⟩, fun u hu => ?_, hc.1⟩
    · obtain ⟨cs', hcs, hq⟩ := hr j (nd l j) (by unfold nd; rw [List.getD, List.getElem?_eq_getElem hj]; simp)
      obtain ⟨rfl, _⟩ := hcs
      exact ⟨hq 0 (by omega), hq 1 (by omega), hq 2 (by omega)⟩
    · obtain ⟨j, hj, rfl⟩ := List.mem_iff_getElem.1 hu
      obtain ⟨cs', ⟨_, hs⟩, _⟩ := hr j l[j] (List.getElem?_eq_getElem hj)
      exact hs
set_option maxRecDepth 100000 in
theorem open_C {b0 : Nat} {v : Value} {d : DataW H} {p : List MemPlace} (hv : Value.okWide Tryd.prog W .any b0 35 v) (h : DataW.Trod enc Tryd.prog W 0 (fun _ => true) true 35 v d p) :
    ∃ a l c, v = .slice a (List.length l) c ∧ RdC W a l ∧ FitsC l ∧ List.length l ≤ c := by
  obtain ⟨a0, len, cap, rfl⟩ := okWide_slice Tryd.underlying35 hv
  obtain ⟨m, h⟩ := h
  obtain ⟨l, a, cap', e, hr, _, _⟩ := open_row (α := Cg) Tryd.underlying35 cellsCg (by decide) (fun u cs => cs = [.int .i64 u.ca, .int .i64 u.co, .int .i64 u.cd] ∧ (in64 u.ca ∧ in64 u.co ∧ in64 u.cd)) (fun _ => 0) open_cg h
  simp [Value.cells] at e
  obtain ⟨rfl, rfl, rfl⟩ := e
  refine ⟨_, l, _, rfl, ?_⟩
  rcases hr with rfl | ⟨b, off, rfl, hb, hc, hr⟩
  · exact ⟨⟨by simp, fun h => by simp at h⟩, (fun u hu => by cases hu), by simp⟩
  · refine ⟨⟨by omega, fun _ => ⟨b, off, rfl, hb, fun j hj => ?_⟩⟩, fun u hu => ?_, hc.1⟩
    · obtain ⟨cs', hcs, hq⟩ := hr j (cg l j) (by unfold cg; rw [List.getD, List.getElem?_eq_getElem hj]; simp)
      obtain ⟨rfl, _⟩ := hcs
      exact ⟨hq 0 (by omega), hq 1 (by omega), hq 2 (by omega)⟩
    · obtain ⟨j, hj, rfl⟩ := List.mem_iff_getElem.1 hu
      obtain ⟨cs', ⟨_, hs⟩, _⟩ := hr j l[j] (List.getElem?_eq_getElem hj)
      exact hs
set_option maxRecDepth 100000 in
theorem open_M {b0 : Nat} {v : Value} {d : DataW H} {p : List MemPlace} (hv : Value.okWide Tryd.prog W .any b0 44 v) (h : DataW.Trod enc Tryd.prog W 0 (fun _ => true) true 44 v d p) :
    ∃ a l c, v = .slice a (List.length l) c ∧ RdM W a l ∧ FitsM l ∧ List.length l ≤ c := by
  obtain ⟨a0, len, cap, rfl⟩ := okWide_slice Tryd.underlying44 hv
  obtain ⟨m, h⟩ := h
  obtain ⟨l, a, cap', e, hr, _, _⟩ := open_row (α := Mv) Tryd.underlying44 cellsMv (by decide) (fun u cs => cs = [.int .i64 u.fr, .int .i64 u.tg] ∧ (in64 u.fr ∧ in64 u.tg)) (fun _ => 0) open_mv h
  simp [Value.cells] at e
  obtain ⟨rfl, rfl, rfl⟩ := e
  refine ⟨_, l, _, rfl, ?_⟩
  rcases hr with rfl | ⟨b, off, rfl, hb, hc, hr⟩
  · exact ⟨⟨by simp, fun h => by simp at h⟩, (fun u hu => by cases hu), by simp⟩
  · refine ⟨⟨by omega, fun _ => ⟨b, off, rfl, hb, fun j hj => ?_⟩⟩, fun u hu => ?_, hc.1⟩
    · obtain ⟨cs', hcs, hq⟩ := hr j (mv l j) (by unfold mv; rw [List.getD, List.getElem?_eq_getElem hj]; simp)
      obtain ⟨rfl, _⟩ := hcs
      exact ⟨hq 0 (by omega), hq 1 (by omega)⟩
    · obtain ⟨j, hj, rfl⟩ := List.mem_iff_getElem.1 hu
      obtain ⟨cs', ⟨_, hs⟩, _⟩ := hr j l[j] (List.getElem?_eq_getElem hj)
      exact hs
end
end Go.Proofs.YtgfjbilhgblbeaaDoor
