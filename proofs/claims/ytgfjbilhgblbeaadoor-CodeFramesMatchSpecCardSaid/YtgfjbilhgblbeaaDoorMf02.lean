/-
  Package code: titles.
  Package code: the errors of nodes by themselves, and of their parents.
  Package code: checkNodes.
-/
import Derived.Test.YtgfjbilhgblbeaaDoorMf01
import Derived.Lib.TrimByte
namespace Go.Proofs.YtgfjbilhgblbeaaDoor
open Go.RowKit Go.WideMaps Go.Maps

theorem trimR_id {l : List UInt8} {c : UInt8} (h : l.getLast? ≠ some c) : Lib.trimRightB l c = l := by
  unfold Lib.trimRightB
  rw [← List.head?_reverse] at h
  cases e : l.reverse with
  | nil => have : l = [] := by simpa using e
           subst this; rfl
  | cons x r =>
    rw [e] at h
    have hx : (x == c) = false := by
      rw [beq_eq_false_iff_ne]
      intro hc
      exact h (by rw [hc]; rfl)
    rw [List.dropWhile_cons, hx]
    simp only [Bool.false_eq_true, if_false]
    rw [← e, List.reverse_reverse]
theorem trimL_id {l : List UInt8} {c : UInt8} (h : l.head? ≠ some c) : Lib.trimLeftB l c = l := by
  unfold Lib.trimLeftB
  cases l with
  | nil => rfl
  | cons x r =>
    have hx : (x == c) = false := by
      rw [beq_eq_false_iff_ne]
      intro hc
      exact h (by rw [hc]; rfl)
    rw [List.dropWhile_cons, hx]
    simp
theorem trimL_le (l : List UInt8) (c : UInt8) : (Lib.trimLeftB l c).length ≤ l.length := (List.dropWhile_suffix _).length_le
theorem trimL_lt {l : List UInt8} {c : UInt8} (h : l.head? = some c) : (Lib.trimLeftB l c).length < l.length := by
  cases l with
  | nil => simp at h
  | cons x r =>
    simp only [List.head?_cons, Option.some.injEq] at h
    subst h
    unfold Lib.trimLeftB
    rw [List.dropWhile_cons]
    simp only [beq_self_eq_true, if_true]
    have := (List.dropWhile_suffix (l := r) (fun a => a == x)).length_le
    simp only [List.length_cons]; omega
theorem trimR_lt {l : List UInt8} {c : UInt8} (h : l.getLast? = some c) : (Lib.trimRightB l c).length < l.length := by
  rw [← List.head?_reverse] at h
  have := trimL_lt h
  unfold Lib.trimRightB
  unfold Lib.trimLeftB at this
  simpa using this
theorem trim_is (l : List UInt8) (c : UInt8) : decide (Lib.trimB l c = l) = (decide (l.head? ≠ some c) && decide (l.getLast? ≠ some c)) := by
  by_cases h1 : l.getLast? = some c
  · have : Lib.trimB l c ≠ l := fun e => by
      have a := trimR_lt h1
      have b := trimL_le (Lib.trimRightB l c) c
      have : (Lib.trimB l c).length = l.length := by rw [e]
      unfold Lib.trimB at this
      omega
    simp [this, h1]
  · have e1 := trimR_id h1
    by_cases h2 : l.head? = some c
    · have : Lib.trimB l c ≠ l := fun e => by
        have a := trimL_lt h2
        have : (Lib.trimB l c).length = l.length := by rw [e]
        unfold Lib.trimB at this
        rw [e1] at this
        omega
      simp [this, h2]
    · have : Lib.trimB l c = l := by unfold Lib.trimB; rw [e1]; exact trimL_id h2
      simp [this, h1, h2]
def okB (c : UInt8) : Bool := decide (32 ≤ c.toNat ∧ c.toNat ≤ 126)
theorem titS_bad {s : ByteArray} {k : Nat} (hk : k < s.size) (h : okB s[k] = false) : titS s = false := by
  unfold titS
  rw [Bool.and_eq_false_iff]
  left
  rw [List.all_eq_false]
  exact ⟨s[k], Array.mem_toList_iff.2 (Array.getElem_mem (xs := s.data) hk), by unfold okB at h; simpa using h⟩
theorem titS_good {s : ByteArray} (h : ∀ k, (hk : k < s.size) → okB s[k] = true) : titS s = (decide (bts s ≠ []) && (decide ((bts s).head? ≠ some 32) && decide ((bts s).getLast? ≠ some 32))) := by
  unfold titS
  have : (bts s).all (fun c => decide (32 ≤ c.toNat ∧ c.toNat ≤ 126)) = true := by
    rw [List.all_eq_true]
    intro c hc
    obtain ⟨k, hk, rfl⟩ := List.getElem_of_mem hc
    exact h k (by simpa [bts] using hk)
  rw [this, Bool.true_and]
theorem bts_list (s : ByteArray) : s.toList = bts s := Lib.toList_data s
set_option maxHeartbeats 1000000 in
theorem isTitle_c (s : ByteArray) (w : World) (hs : s.size ≤ 9223372036854775807) :
    Calls Tryd.prog 73 #[.string s] w fun e w' => e = .returned (.bool (titS s)) ∧ Below w.heap.size w w' := by
  have HT := Lib.hid (Tryd.strings_Trim_one s 32 (by decide) w hs)
  go_enter Tryd.func73, Tryd.ntmps73
  go_wp2
  go_loop [3, 6] (fun _ i => ∃ k : Nat, k ≤ s.size ∧ i = .int .i64 k ∧ Hid (∀ j, (hj : j < s.size) → j < k → okB s[j] = true)) (fun _ i => s.size - (intOf i).toNat)
  case atStart => exact ⟨0, Nat.zero_le _, rfl, fun j _ h => absurd h (Nat.not_lt_zero _)⟩
  case round =>
    obtain ⟨k, hk, rfl, hR⟩ := hrel
    by_cases hlt : k < s.size
    · have hlt' : (k : Int) < (s.size : Int) := by omega
      have hb := titS_bad hlt
      have NX : Hid (okB s[k] = true → ∀ j, (hj : j < s.size) → j < k + 1 → okB s[j] = true) := fun h j hj hk => by
        by_cases e : j = k
        · subst e; exact h
        · exact hR.out j hj (by omega)
      clear hR HT
      have hB := Lib.hid hb
      clear hb
      by_cases h1 : s[k].toNat < 32
      · have R : Hid (titS s = false) := hB.out (by unfold okB; simp; omega)
        have h1' : (s[k].toNat : Int) < 32 := by omega
        clear h1 hB NX
        go_wp2
        go_ret
        exact ⟨by rw [R.out]; rfl, Below.refl _ _⟩
      by_cases h2 : 126 < s[k].toNat
      · have R : Hid (titS s = false) := hB.out (by unfold okB; simp; omega)
        have h1' : decide ((s[k].toNat : Int) < 32) = false := by rw [decide_eq_false_iff_not]; omega
        have h2' : (126 : Int) < (s[k].toNat : Int) := by omega
        clear h1 h2 hB NX
        go_wp2
        go_ret
        exact ⟨by rw [R.out]; rfl, Below.refl _ _⟩
      · have N2 := Lib.hid (NX.out (by unfold okB; simp; omega))
        have h1' : ¬ (s[k].toNat : Int) < 32 := by omega
        have h2' : ¬ (126 : Int) < (s[k].toNat : Int) := by omega
        clear h1 h2 hB NX
        go_wp2
        go_round
        case rel => exact ⟨k + 1, by omega, by go_num, N2.out⟩
        case measure => simp [intOf]; omega
    · obtain rfl : k = s.size := by omega
      have e := titS_good fun j hj => hR.out j hj hj
      have e2 := trim_is (bts s) 32
      rw [← e2] at e
      obtain ⟨T, hT⟩ : ∃ T : ByteArray, (⟨(Lib.trimB s.data.toList 32).toArray⟩ : ByteArray) = T := ⟨_, rfl⟩
      rw [hT] at HT
      have hTl : bts T = Lib.trimB (bts s) 32 := by rw [← hT]; simp [bts]
      rw [← hTl, ← bts_list, ← bts_list] at e
      clear hT hTl e2 hlt
      by_cases h0 : s.toList = []
      · have R : Hid (titS s = false) := by unfold Hid; rw [e]; simp [h0]
        have f1 : (s.toList == []) = true := by rw [h0]; rfl
        have f2 : (s.toList != []) = false := by rw [h0]; rfl
        clear e h0 hR HT
        go_wp2
        go_ret
        exact ⟨by rw [R.out]; rfl, Below.refl _ _⟩
      · have f1 : (s.toList == []) = false := by rw [beq_eq_false_iff_ne]; exact h0
        have f2 : (s.toList != []) = true := by rw [bne, f1]; rfl
        have R : Hid (titS s = decide (T.toList = s.toList)) := by unfold Hid; rw [e]; simp [h0]
        have f3 : (T.toList == s.toList) = decide (T.toList = s.toList) := by rw [Bool.eq_iff_iff]; simp
        clear e h0 hR
        generalize decide (T.toList = s.toList) = B at *
        go_wp2_with fail
        refine HT.out.mono ?_
        rintro e w' ⟨rfl, hw⟩
        have BW : Hid (Below w.heap.size w w') := by
          rcases hw with rfl | rfl
          · exact Below.refl _ _
          · exact (Below.refl _ _).drew
        clear hw
        go_wp2
        go_ret
        exact ⟨by rw [R.out]; rfl, BW.out⟩
end Go.Proofs.YtgfjbilhgblbeaaDoor
namespace Go.Proofs.YtgfjbilhgblbeaaDoor
open Go.RowKit Go.WideMaps Go.Maps

/-- The errors of checkNodes. -/
def chkS (l : List Nd) : Int :=
  if l.length = 0 then 9 else if 600 < l.length then 2 else if fe (ndE l) l.length ≠ 0 then fe (ndE l) l.length else if fe (prE l) l.length ≠ 0 then 5 else 0
theorem ndE_1 {l : List Nd} {k : Nat} (h : (nd l k).cd < 1 ∨ 999 < (nd l k).cd) : ndE l k = 1 := by unfold ndE; rw [if_pos h]
theorem ndE_2 {l : List Nd} {k : Nat} (h : ¬ ((nd l k).cd < 1 ∨ 999 < (nd l k).cd)) (h2 : k ≠ 0 ∧ (nd l k).cd ≤ (nd l (k - 1)).cd) : ndE l k = 7 := by unfold ndE; rw [if_neg h, if_pos h2]
theorem ndE_3 {l : List Nd} {k : Nat} (h : ¬ ((nd l k).cd < 1 ∨ 999 < (nd l k).cd)) (h2 : ¬ (k ≠ 0 ∧ (nd l k).cd ≤ (nd l (k - 1)).cd)) (h3 : 60 < (nd l k).ti.size) : ndE l k = 2 := by unfold ndE; rw [if_neg h, if_neg h2, if_pos h3]
theorem ndE_4 {l : List Nd} {k : Nat} (h : ¬ ((nd l k).cd < 1 ∨ 999 < (nd l k).cd)) (h2 : ¬ (k ≠ 0 ∧ (nd l k).cd ≤ (nd l (k - 1)).cd)) (h3 : ¬ 60 < (nd l k).ti.size) : ndE l k = if titS (nd l k).ti = false then 3 else 0 := by unfold ndE; rw [if_neg h, if_neg h2, if_neg h3]
theorem chkS_at {l : List Nd} {k : Nat} (h1 : l.length ≠ 0) (h2 : ¬ 600 < l.length) (hk : k < l.length) (h0 : fe (ndE l) k = 0) (h : ndE l k ≠ 0) : chkS l = ndE l k := by
  have e := fe_at hk h0 h
  unfold chkS
  rw [if_neg h1, if_neg h2, if_pos (by rw [e]; exact h), e]
theorem mapElem : (zeroValue 4).run Tryd.prog default = .ok (.bool false) default := by kernel_rfl
theorem knIs_start (w : World) (l : List Nd) : ∃ W0, (Instr.mapUpdate 117 (.map (some w.heap.size)) (.int .i64 0) (.bool true)).run Tryd.prog (w.alloc (.map #[] 0)) = .ok () W0 ∧ KnIs W0 w.heap.size l 0 ∧ (w.alloc (.map #[] 0)).grownBy W0 (some w.heap.size) := by
  obtain ⟨w', h1, h2, h3⟩ := (MapIs.made w).store (s := 0) Tryd.underlying117 (by unfold maxLen; omega) (by omega) (.bool true)
  refine ⟨w', h1, h2.congr fun s => ?_, h3⟩
  show _ = if decide (s = 0) = true then _ else _
  by_cases e : s = 0
  · subst e; simp
  · rw [if_neg e]; simp [e]
theorem grown_cell {w w' : World} {r : Nat} {p : Addr} (h : w.grownBy w' (some r)) (hl : p.block < w.heap.size) (hne : p.block ≠ r) : w'.cell? p = w.cell? p := by
  have e := h.block p.block hl (fun e => hne (by injection e))
  unfold World.cell?
  rw [e]
def NodeB (wr W1 : World) (u : Nd) : Prop := Below wr.heap.size wr W1 ∧ W1.heap.size = wr.heap.size + 1 ∧ W1.cell? ⟨wr.heap.size, 0, none⟩ = some (.int .i64 u.cd) ∧ W1.cell? ⟨wr.heap.size, 1, none⟩ = some (.int .i64 u.pr) ∧ W1.cell? ⟨wr.heap.size, 2, none⟩ = some (.string u.ti)
theorem node_b (wr : World) (u : Nd) : NodeB wr (wr.alloc (.cells #[.int .i64 u.cd, .int .i64 u.pr, .string u.ti] 56)) u :=
  ⟨bel_one _ _, by simp, by rw [World.cell?_alloc_at _ _ _ _ rfl]; rfl, by rw [World.cell?_alloc_at _ _ _ _ rfl]; rfl, by rw [World.cell?_alloc_at _ _ _ _ rfl]; rfl⟩
/-- The closure that says that a parent is not known. -/
theorem known1_c (b m : Nat) (l : List Nd) (u : Nd) (w : World) (h : KnIs w m l l.length) (hb : w.cell? ⟨b, 0, none⟩ = some (.map (some m))) (hbl : b < w.heap.size) (hml : m < w.heap.size) (hu : -9223372036854775808 ≤ u.pr ∧ u.pr ≤ 9223372036854775807) :
    Calls Tryd.prog 75 #[.agg #[.int .i64 u.cd, .int .i64 u.pr, .string u.ti], .pointer (some ⟨b, 0, none⟩)] w fun e w' => e = .returned (.bool (!knw l u.pr l.length)) ∧ Below w.heap.size w w' := by
  obtain ⟨W1, hW1⟩ : ∃ W1, w.alloc (.cells #[.int .i64 u.cd, .int .i64 u.pr, .string u.ti] 56) = W1 := ⟨_, rfl⟩
  have B1 : Hid (NodeB w W1 u) := by unfold Hid; rw [← hW1]; exact node_b w u
  have v0 := (B1.out.1.cell (p := ⟨b, 0, none⟩) hbl).trans hb
  have hrun := (h.below B1.out.1 hml).has hu
  have v1 := B1.out.2.2.2.1
  clear h hb
  go_enter Tryd.func75, Tryd.ntmps75
  go_wp2
  go_ret
  exact ⟨rfl, B1.out.1⟩
/-- The place of the first node whose parent is not known, or -1. -/
def unk (l : List Nd) : Nat → Int → Int
  | 0, r => r
  | k + 1, r => if knw l (nd l k).pr l.length = false then unk l k k else unk l k r
set_option maxHeartbeats 1000000 in
theorem anyUnknown_c (a : Option Addr) (c b m : Nat) (l : List Nd) (w : World) (hl : RdN w a l) (hf : Fits l) (h : KnIs w m l l.length) (hb : w.cell? ⟨b, 0, none⟩ = some (.map (some m))) (hbl : b < w.heap.size) (hml : m < w.heap.size) :
    Calls Tryd.prog 85 #[.slice a l.length c, .func (.func 75) #[] #[.pointer (some ⟨b, 0, none⟩)]] w fun e w' => (∃ r : Int, e = .returned (.int .i64 r) ∧ (decide (0 ≤ r) = decide (fe (prE l) l.length ≠ 0))) ∧ Below w.heap.size w w' := by
  have h9 := hl.1
  have HL := Lib.hid hl
  have HF := Lib.hid hf
  have HK := Lib.hid h
  have HB := Lib.hid hb
  clear hl hf h hb
  go_enter Tryd.func85, Tryd.ntmps85
  go_wp2
  go_loopw [5, 8] (fun _ i wr => ∃ k : Nat, k ≤ l.length ∧ i = .int .i64 k ∧ Hid (Below w.heap.size w wr ∧ fe (prE l) k = 0)) (fun _ i _ => l.length - (intOf i).toNat)
  case atStart => exact ⟨0, Nat.zero_le _, rfl, Below.refl _ _, rfl⟩
  case round =>
    obtain ⟨k, hk, rfl, hS⟩ := hrel
    by_cases hlt : k < l.length
    · obtain ⟨b', off, rfl, u0, u1, u2⟩ := (HL.out.below hS.out.1).at_ hlt
      have hlt' : (k : Int) < (l.length : Int) := by omega
      have HC := Lib.hid (known1_c b m l (nd l k) wr (HK.out.below hS.out.1 hml) ((hS.out.1.cell (p := ⟨b, 0, none⟩) hbl).trans HB.out) (Nat.lt_of_lt_of_le hbl hS.out.1.size) (Nat.lt_of_lt_of_le hml hS.out.1.size) (HF.out _ (nd_mem hlt)).2.1)
      have hN : Hid (fe (prE l) (k + 1) = prE l k) := fe_next hS.out.2
      by_cases hq : knw l (nd l k).pr l.length = true
      · have hz : Hid (fe (prE l) (k + 1) = 0) := by unfold Hid; rw [hN.out]; unfold prE; rw [if_neg (by rw [hq]; simp)]
        rw [hq] at HC
        clear hq
        go_wp2_with fail
        refine HC.out.mono ?_
        rintro e w' ⟨rfl, b2⟩
        have NX : Hid (Below w.heap.size w w' ∧ fe (prE l) (k + 1) = 0) := ⟨hS.out.1.trans (b2.mono hS.out.1.size), hz.out⟩
        clear b2 u0 u1 u2
        go_wp2
        go_roundw
        case rel => exact ⟨k + 1, by omega, by go_num, NX.out⟩
        case measure => simp [intOf]; omega
      · have hq' : knw l (nd l k).pr l.length = false := by simpa using hq
        have hp : prE l k = 5 := by unfold prE; rw [if_pos hq']
        have hz : Hid (fe (prE l) l.length ≠ 0) := by
          unfold Hid
          rw [fe_at hlt hS.out.2 (by rw [hp]; decide), hp]; decide
        rw [hq'] at HC
        clear hq hq' hp hN
        go_wp2_with fail
        refine HC.out.mono ?_
        rintro e w' ⟨rfl, b2⟩
        have NX : Hid (Below w.heap.size w w') := hS.out.1.trans (b2.mono hS.out.1.size)
        clear b2 u0 u1 u2
        go_wp2
        go_ret
        exact ⟨⟨_, rfl, by rw [decide_eq_true hz.out, decide_eq_true (by omega)]⟩, NX.out⟩
    · obtain rfl : k = l.length := by omega
      have hz := Lib.hid hS.out.2
      clear hlt
      go_wp2
      go_ret
      exact ⟨⟨_, rfl, by rw [hz.out]; rfl⟩, hS.out.1⟩
theorem anyUnknown2_c (a : Option Addr) (c b m : Nat) (l : List Nd) (w : World) (hl : RdN w a l) (hf : Fits l) (h : KnIs w m l l.length) (hb : w.cell? ⟨b, 0, none⟩ = some (.map (some m))) (hbl : b < w.heap.size) (hml : m < w.heap.size) :
    Calls Tryd.prog 74 #[.slice a l.length c, .func (.func 75) #[] #[.pointer (some ⟨b, 0, none⟩)]] w fun e w' => e = .returned (.bool (decide (fe (prE l) l.length ≠ 0))) ∧ Below w.heap.size w w' := by
  have HC := Lib.hid (anyUnknown_c a c b m l w hl hf h hb hbl hml)
  clear hl hf h hb
  go_enter Tryd.func74, Tryd.ntmps74
  go_wp2_with fail
  refine HC.out.mono ?_
  rintro e w' ⟨⟨r, rfl, hr⟩, b2⟩
  have BB := Lib.hid b2
  have HR := Lib.hid hr
  clear b2 hr
  go_wp2
  go_ret
  exact ⟨by rw [← HR.out]; rfl, BB.out⟩
end Go.Proofs.YtgfjbilhgblbeaaDoor
namespace Go.Proofs.YtgfjbilhgblbeaaDoor
open Go.RowKit Go.WideMaps Go.Maps

/-- What lies there in the loop of checkNodes. -/
structure InK (w wr : World) (bb : Nat) (l : List Nd) (k : Nat) : Prop where
  kn : KnIs wr w.heap.size l k
  box : wr.cell? ⟨bb, 0, none⟩ = some (.map (some w.heap.size))
  bel : Below w.heap.size w wr
  gt : w.heap.size < bb
  lt : bb < wr.heap.size
theorem InK.keep {w wr W : World} {bb : Nat} {l : List Nd} {k : Nat} (h : InK w wr bb l k) (hb : Below wr.heap.size wr W) : InK w W bb l k where
  kn := h.kn.below hb (Nat.lt_trans h.gt h.lt)
  box := (hb.cell (p := ⟨bb, 0, none⟩) h.lt).trans h.box
  bel := h.bel.trans (hb.mono h.bel.size)
  gt := h.gt
  lt := Nat.lt_of_lt_of_le h.lt hb.size
theorem InK.store {w wr : World} {bb : Nat} {l : List Nd} {k : Nat} (h : InK w wr bb l k) (hk : k < 600) (hf : Fits l) (hkl : k < l.length) :
    ∃ W, (Instr.mapUpdate 117 (.map (some w.heap.size)) (.int .i64 (nd l k).cd) (.bool true)).run Tryd.prog wr = .ok () W ∧ InK w W bb l (k + 1) := by
  obtain ⟨W, h1, h2, h3⟩ := h.kn.store (by unfold maxLen; omega) (hf _ (nd_mem hkl)).1
  refine ⟨W, h1, h2, ?_, ?_, h.gt, Nat.lt_of_lt_of_le h.lt h3.size⟩
  · rw [grown_cell (p := ⟨bb, 0, none⟩) h3 h.lt (Nat.ne_of_gt h.gt)]; exact h.box
  · exact h.bel.grown h3 h.bel.size (fun j hj => by cases hj; exact Nat.le_refl _)
set_option maxRecDepth 100000 in
set_option maxHeartbeats 4000000 in
theorem checkNodes_c (a : Option Addr) (c : Nat) (l : List Nd) (w : World) (hl : RdN w a l) (hf : Fits l) :
    Calls Tryd.prog 61 #[.slice a l.length c] w (IntP (chkS l) w) := by
  have h9 := hl.1
  by_cases h1 : l.length = 0
  · have e : Hid (chkS l = 9) := by unfold Hid chkS; rw [if_pos h1]
    clear hl hf
    have h1' : (l.length : Int) = 0 := by omega
    go_enter Tryd.func61, Tryd.ntmps61
    go_wp2
    go_ret
    exact ⟨by rw [e.out]; rfl, Below.refl _ _⟩
  have h1' : ((l.length : Int) == 0) = false := by rw [beq_eq_false_iff_ne]; omega
  by_cases h2 : 600 < l.length
  · have e : Hid (chkS l = 2) := by unfold Hid chkS; rw [if_neg h1, if_pos h2]
    have h2' : (600 : Int) < (l.length : Int) := by omega
    clear hl hf h1 h2
    go_enter Tryd.func61, Tryd.ntmps61
    go_wp2
    go_ret
    exact ⟨by rw [e.out]; rfl, Below.refl _ _⟩
  have h2' : ¬ (600 : Int) < (l.length : Int) := by omega
  have hmm := @run_makeMap Tryd.prog
  have HL := Lib.hid hl
  have HF := Lib.hid hf
  have HAT : Hid (∀ k, k < l.length → fe (ndE l) k = 0 → ndE l k ≠ 0 → chkS l = ndE l k) := fun k hk h0 h => chkS_at h1 h2 hk h0 h
  have HEND : Hid (fe (ndE l) l.length = 0 → chkS l = if fe (prE l) l.length ≠ 0 then 5 else 0) := fun h => by unfold chkS; rw [if_neg h1, if_neg h2, if_neg (by rw [h]; simp)]
  have hle : Hid (l.length ≤ 600) := by unfold Hid; omega
  obtain ⟨W0, hup, k0, g0⟩ := knIs_start w l
  have K0 := Lib.hid k0
  have G0 := Lib.hid g0
  clear hl hf h1 h2 k0 g0
  have S0 : Hid (InK w (W0.alloc (.cells #[.map (some w.heap.size)] 117)) W0.heap.size l 0) := by
    have s0 : w.heap.size + 1 ≤ W0.heap.size := by have := G0.out.size; simpa using this
    refine ⟨K0.out.below (bel_one _ _) (by omega), ?_, ?_, by omega, by simp⟩
    · rw [World.cell?_alloc_at _ _ _ _ rfl]; rfl
    · exact (((bel_one w _).grown G0.out (by simp) (fun j hj => by cases hj; exact Nat.le_refl _))).trans ((bel_one _ _).mono (by omega))
  go_enter Tryd.func61, Tryd.ntmps61
  go_wp2
  obtain ⟨bb, hbb⟩ : ∃ bb, W0.heap.size = bb := ⟨_, rfl⟩
  rw [hbb] at S0 ⊢
  go_loopw [4, 18] (fun _ i wr => ∃ k : Nat, k ≤ l.length ∧ i = .int .i64 k ∧ Hid (InK w wr bb l k ∧ fe (ndE l) k = 0)) (fun _ i _ => l.length - (intOf i).toNat)
  case atStart => exact ⟨0, Nat.zero_le _, rfl, S0.out, rfl⟩
  case round =>
    clear S0 hup K0 G0 hbb
    obtain ⟨k, hk, rfl, hS⟩ := hrel
    by_cases hlt : k < l.length
    · obtain ⟨b', off, rfl, u0, u1, u2⟩ := (HL.out.below hS.out.1.bel).at_ hlt
      have hlt' : (k : Int) < (l.length : Int) := by omega
      have hF : Hid (ndE l k ≠ 0 → chkS l = ndE l k) := fun h => HAT.out k hlt hS.out.2 h
      have hN : Hid (fe (ndE l) (k + 1) = ndE l k) := fe_next hS.out.2
      obtain ⟨W1, hW1⟩ : ∃ W1, wr.alloc (.cells #[.int .i64 (nd l k).cd, .int .i64 (nd l k).pr, .string (nd l k).ti] 56) = W1 := ⟨_, rfl⟩
      have B1 : Hid (NodeB wr W1 (nd l k)) := by unfold Hid; rw [← hW1]; exact node_b _ _
      have S1 := Lib.hid (hS.out.1.keep B1.out.1)
      have v0 := B1.out.2.2.1
      have v2 := B1.out.2.2.2.2
      have HTI := Lib.hid ((HF.out _ (nd_mem hlt)).2.2)
      by_cases h1 : (nd l k).cd < 1
      · have hE : ndE l k = 1 := ndE_1 (Or.inl h1)
        have R : Hid (chkS l = 1) := by unfold Hid; rw [hF.out (by rw [hE]; decide), hE]
        clear hE hF hN
        go_wp2
        go_ret
        exact ⟨by rw [R.out]; rfl, S1.out.bel⟩
      by_cases h2 : 999 < (nd l k).cd
      · have hE : ndE l k = 1 := ndE_1 (Or.inr h2)
        have R : Hid (chkS l = 1) := by unfold Hid; rw [hF.out (by rw [hE]; decide), hE]
        have h1' : decide ((nd l k).cd < 1) = false := by rw [decide_eq_false_iff_not]; exact h1
        clear hE hF hN h1
        go_wp2
        go_ret
        exact ⟨by rw [R.out]; rfl, S1.out.bel⟩
      have hr : Hid (¬ ((nd l k).cd < 1 ∨ 999 < (nd l k).cd)) := by unfold Hid; omega
      by_cases h3 : k ≠ 0 ∧ (nd l k).cd ≤ (nd l (k - 1)).cd
      · have hE : ndE l k = 7 := ndE_2 hr.out h3
        have R : Hid (chkS l = 7) := by unfold Hid; rw [hF.out (by rw [hE]; decide), hE]
        obtain ⟨m, rfl⟩ : ∃ m, k = m + 1 := ⟨k - 1, by omega⟩
        obtain ⟨_, _, e, p0, _, _⟩ := (HL.out.below S1.out.bel).at_ (k := m) (by omega)
        injection e with e; injection e with e1 e2; subst e1; subst e2
        have hpos : (0 : Int) < ((m + 1 : Nat) : Int) := by omega
        have hm1 : ((m + 1 : Nat) : Int) - 1 = (m : Int) := by omega
        have hm2 : (m : Int) < (l.length : Int) := by omega
        have h3' : (nd l (m + 1)).cd ≤ (nd l m).cd := h3.2
        clear hE hF hN h3
        go_wp2_with fail
        go_quiet (fail)
        go_wp2
        go_ret
        exact ⟨by rw [R.out]; rfl, below_drewN S1.out.bel _⟩
      have h1' : decide ((nd l k).cd < 1) = false := by rw [decide_eq_false_iff_not]; exact h1
      have h2'' : ¬ 999 < (nd l k).cd := h2
      have h3 := Lib.hid h3
      clear h1 h2
      by_cases hk0 : k = 0
      · subst hk0
        simp only [Nat.zero_mul, Nat.add_zero] at u0 u1 u2
        go_wp2_with fail
        go_quiet (fail)
        clear h1' h2''
        have S2 : Hid (InK w (W1.drewN nq) bb l 0 ∧ (W1.drewN nq).cell? ⟨wr.heap.size, 0, none⟩ = some (.int .i64 (nd l 0).cd) ∧ (W1.drewN nq).cell? ⟨wr.heap.size, 2, none⟩ = some (.string (nd l 0).ti) ∧ wr.heap.size < (W1.drewN nq).heap.size) := ⟨S1.out.keep (below_drewN (Below.refl _ _) nq), B1.out.2.2.1, B1.out.2.2.2.2, by have := B1.out.2.1; show wr.heap.size < W1.heap.size; omega⟩
        clear hW1 v0 v2 u0 u1 u2 S1 B1
        generalize W1.drewN nq = W2 at S2 ⊢
        obtain ⟨x0, x2⟩ := And.intro S2.out.2.1 S2.out.2.2.1
        by_cases h4 : 60 < (nd l 0).ti.size
        · have hE : ndE l 0 = 2 := ndE_3 hr.out h3.out h4
          have R : Hid (chkS l = 2) := by unfold Hid; rw [hF.out (by rw [hE]; decide), hE]
          have h4' : (60 : Int) < ((nd l 0).ti.size : Int) := by omega
          clear hE hF hN h4
          go_wp2
          go_ret
          exact ⟨by rw [R.out]; rfl, S2.out.1.bel⟩
        · have hE := Lib.hid (ndE_4 hr.out h3.out h4)
          have h4' : ¬ (60 : Int) < ((nd l 0).ti.size : Int) := by omega
          have HC := Lib.hid (isTitle_c (nd l 0).ti W2 HTI.out)
          by_cases h5 : titS (nd l 0).ti = false
          · have e : ndE l 0 = 3 := by rw [hE.out, if_pos h5]
            have R : Hid (chkS l = 3) := by unfold Hid; rw [hF.out (by rw [e]; decide), e]
            rw [h5] at HC
            clear hE hF hN h4 h5 e
            go_wp2_with fail
            refine HC.out.mono ?_
            rintro e w' ⟨rfl, b2⟩
            have BB := Lib.hid ((S2.out.1.keep b2).bel)
            clear b2 x0 x2
            go_wp2
            go_ret
            exact ⟨by rw [R.out]; rfl, BB.out⟩
          · have h5' : titS (nd l 0).ti = true := by simpa using h5
            have e : ndE l 0 = 0 := by rw [hE.out, if_neg h5]
            have hz : Hid (fe (ndE l) (0 + 1) = 0) := by unfold Hid; rw [hN.out, e]
            rw [h5'] at HC
            clear hE hF hN h4 h5 h5' e
            go_wp2_with fail
            refine HC.out.mono ?_
            rintro e w' ⟨rfl, b2⟩
            have S3 := Lib.hid (S2.out.1.keep b2)
            have y0 : w'.cell? ⟨wr.heap.size, 0, none⟩ = some (.int .i64 (nd l 0).cd) := (b2.cell (p := ⟨wr.heap.size, 0, none⟩) S2.out.2.2.2).trans S2.out.2.1
            have yb := S3.out.box
            obtain ⟨W4, hup, hS4⟩ := S3.out.store (by have := hle.out; omega) HF.out hlt
            have S4 := Lib.hid hS4
            clear b2 x0 x2 hS4
            go_wp2
            go_roundw
            case rel => exact ⟨1, by omega, by go_num, S4.out, hz.out⟩
            case measure => simp [intOf]; omega
      · obtain ⟨m, rfl⟩ : ∃ m, k = m + 1 := ⟨k - 1, by omega⟩
        obtain ⟨_, _, e, p0, _, _⟩ := (HL.out.below S1.out.bel).at_ (k := m) (by omega)
        injection e with e; injection e with e1 e2; subst e1; subst e2
        have hpos : (0 : Int) < ((m + 1 : Nat) : Int) := by omega
        have hm1 : ((m + 1 : Nat) : Int) - 1 = (m : Int) := by omega
        have hm2 : (m : Int) < (l.length : Int) := by omega
        have h3' : decide ((nd l (m + 1)).cd ≤ (nd l m).cd) = false := by rw [decide_eq_false_iff_not]; exact fun h => h3.out ⟨hk0, h⟩
        clear hk0
        go_wp2_with fail
        go_quiet (fail)
        clear h1' h2'' hpos hm1 hm2 p0
        have S2 : Hid (InK w (W1.drewN nq) bb l (m + 1) ∧ (W1.drewN nq).cell? ⟨wr.heap.size, 0, none⟩ = some (.int .i64 (nd l (m + 1)).cd) ∧ (W1.drewN nq).cell? ⟨wr.heap.size, 2, none⟩ = some (.string (nd l (m + 1)).ti) ∧ wr.heap.size < (W1.drewN nq).heap.size) := ⟨S1.out.keep (below_drewN (Below.refl _ _) nq), B1.out.2.2.1, B1.out.2.2.2.2, by have := B1.out.2.1; show wr.heap.size < W1.heap.size; omega⟩
        clear hW1 v0 v2 u0 u1 u2 S1 B1
        generalize W1.drewN nq = W2 at S2 ⊢
        obtain ⟨x0, x2⟩ := And.intro S2.out.2.1 S2.out.2.2.1
        by_cases h4 : 60 < (nd l (m + 1)).ti.size
        · have hE : ndE l (m + 1) = 2 := ndE_3 hr.out h3.out h4
          have R : Hid (chkS l = 2) := by unfold Hid; rw [hF.out (by rw [hE]; decide), hE]
          have h4' : (60 : Int) < ((nd l (m + 1)).ti.size : Int) := by omega
          clear hE hF hN h4
          go_wp2
          go_ret
          exact ⟨by rw [R.out]; rfl, S2.out.1.bel⟩
        · have hE := Lib.hid (ndE_4 hr.out h3.out h4)
          have h4' : ¬ (60 : Int) < ((nd l (m + 1)).ti.size : Int) := by omega
          have HC := Lib.hid (isTitle_c (nd l (m + 1)).ti W2 HTI.out)
          by_cases h5 : titS (nd l (m + 1)).ti = false
          · have e : ndE l (m + 1) = 3 := by rw [hE.out, if_pos h5]
            have R : Hid (chkS l = 3) := by unfold Hid; rw [hF.out (by rw [e]; decide), e]
            rw [h5] at HC
            clear hE hF hN h4 h5 e
            go_wp2_with fail
            refine HC.out.mono ?_
            rintro e w' ⟨rfl, b2⟩
            have BB := Lib.hid ((S2.out.1.keep b2).bel)
            clear b2 x0 x2
            go_wp2
            go_ret
            exact ⟨by rw [R.out]; rfl, BB.out⟩
          · have h5' : titS (nd l (m + 1)).ti = true := by simpa using h5
            have e : ndE l (m + 1) = 0 := by rw [hE.out, if_neg h5]
            have hz : Hid (fe (ndE l) (m + 1 + 1) = 0) := by unfold Hid; rw [hN.out, e]
            rw [h5'] at HC
            clear hE hF hN h4 h5 h5' e
            go_wp2_with fail
            refine HC.out.mono ?_
            rintro e w' ⟨rfl, b2⟩
            have S3 := Lib.hid (S2.out.1.keep b2)
            have y0 : w'.cell? ⟨wr.heap.size, 0, none⟩ = some (.int .i64 (nd l (m + 1)).cd) := (b2.cell (p := ⟨wr.heap.size, 0, none⟩) S2.out.2.2.2).trans S2.out.2.1
            have yb := S3.out.box
            obtain ⟨W4, hup, hS4⟩ := S3.out.store (by have := hle.out; omega) HF.out hlt
            have S4 := Lib.hid hS4
            clear b2 x0 x2 hS4
            go_wp2
            go_roundw
            case rel => exact ⟨m + 1 + 1, by omega, by go_num, S4.out, hz.out⟩
            case measure => simp [intOf]; omega
    · obtain rfl : k = l.length := by omega
      have hR := Lib.hid (HEND.out hS.out.2)
      have BB := Lib.hid hS.out.1
      have yb := BB.out.box
      have HC := Lib.hid (anyUnknown2_c a c bb w.heap.size l wr (HL.out.below BB.out.bel) HF.out BB.out.kn BB.out.box BB.out.lt (Nat.lt_trans BB.out.gt BB.out.lt))
      clear hlt hS
      by_cases hp : fe (prE l) l.length ≠ 0
      · have R : Hid (chkS l = 5) := by unfold Hid; rw [hR.out, if_pos hp]
        rw [decide_eq_true hp] at HC
        clear hp hR
        go_wp2_with fail
        refine HC.out.mono ?_
        rintro e w' ⟨rfl, b2⟩
        have B2 := Lib.hid (BB.out.keep b2).bel
        clear b2 yb
        go_wp2
        go_ret
        exact ⟨by rw [R.out]; rfl, B2.out⟩
      · have R : Hid (chkS l = 0) := by unfold Hid; rw [hR.out, if_neg hp]
        rw [decide_eq_false hp] at HC
        clear hp hR
        go_wp2_with fail
        refine HC.out.mono ?_
        rintro e w' ⟨rfl, b2⟩
        have B2 := Lib.hid (BB.out.keep b2).bel
        clear b2 yb
        go_wp2
        go_ret
        exact ⟨by rw [R.out]; rfl, B2.out⟩
end Go.Proofs.YtgfjbilhgblbeaaDoor
