/-
  Package code: the errors of nodes by themselves, and of their parents.
-/
import Derived.Test.YthdmodmplpoejaaDoorCdTitle
namespace Go.Proofs.YthdmodmplpoejaaDoor
open Go.RowKit Go.WideMaps Go.Maps

/-- The errors of checkNodes. -/
def chkS (l : List Nd) : Int :=
  if l.length = 0 then 9 else if 600 < l.length then 2 else if fe (ndE l) l.length ≠ 0 then fe (ndE l) l.length else if fe (prE l) l.length ≠ 0 then 5 else 0
theorem ndE_1 {l : List Nd} {k : Nat} (h : (nd l k).cd < 1 ∨ 999 < (nd l k).cd) : ndE l k = 1 := by unfold ndE; rw [if_pos h]
theorem ndE_2 {l : List Nd} {k : Nat} (h : ¬ ((nd l k).cd < 1 ∨ 999 < (nd l k).cd)) (h2 : k ≠ 0 ∧ (nd l k).cd ≤ (nd l (k - 1)).cd) : ndE l k = 7 := by unfold ndE; rw [if_neg h, if_pos h2]
theorem ndE_3 {l : List Nd} {k : Nat} (h : ¬ ((nd l k).cd < 1 ∨ 999 < (nd l k).cd)) (h2 : ¬ (k ≠ 0 ∧ (nd l k).cd ≤ (nd l (k - 1)).cd)) (h3 : 60 < (nd l k).ti.size) : ndE l k = 2 := by unfold ndE; rw [if_neg h, if_neg h2, if_pos h3]
theorem ndE_4 {l : List Nd} {k : Nat} (h : ¬ ((nd l k).cd < 1 ∨ 999 < (nd l k).cd)) (h2 : ¬ (k ≠ 0 ∧ (nd l k).cd ≤ (nd l (k - 1)).cd)) (h3 : ¬ 60 < (nd l k).ti.size) : ndE l k = if titS (nd l k).ti = false then 3 else 0 := by unfold ndE; rw [if_neg h, if_neg h2, if_neg h3]
theorem chkS_at {l : List Nd} {k : Nat} (h1 : l.length ≠ 0) (h2 : ¬ 600 < l.length) (hk : k < l.length) (h0 : fe (ndE l) k = 0) (h : ndE l k ≠ 0) : chkS l = ndE l k := by
  have e := fe_at hk h0 h
  unfold chkS
  rw [if_neg h1, if_neg h2, if_pos (by rw [e]; exact h), e]
theorem mapElem : (zeroValue 4).run Tryd.prog default = .ok (.bool false) default := by kernel_rfl
theorem knIs_start (w : World) (l : List Nd) : ∃ W0, (Instr.mapUpdate 117 (.map (some w.heap.size)) (.int .i64 0) (.bool true)).run Tryd.prog (w.alloc (.map #[] 0)) = .ok () W0 ∧ KnIs W0 w.heap.size l 0 ∧ (w.alloc (.map #[] 0)).grownBy W0 (some w.heap.size) := by
  obtain ⟨w', h1, h2, h3⟩ := (MapIs.made w).store (s := 0) Tryd.underlying117 (by unfold maxLen; omega) (by omega) (.bool true)
  refine ⟨w', h1, h2.congr fun s => ?_, h3⟩
  show _ = if decide (s = 0) = true then _ else _
  by_cases e : s = 0
  · subst e; simp
  · rw [if_neg e]; simp [e]
theorem grown_cell {w w' : World} {r : Nat} {p : Addr} (h : w.grownBy w' (some r)) (hl : p.block < w.heap.size) (hne : p.block ≠ r) : w'.cell? p = w.cell? p := by
  have e := h.block p.block hl (fun e => hne (by injection e))
  unfold World.cell?
  rw [e]
def NodeB (wr W1 : World) (u : Nd) : Prop := Below wr.heap.size wr W1 ∧ W1.heap.size = wr.heap.size + 1 ∧ W1.cell? ⟨wr.heap.size, 0, none⟩ = some (.int .i64 u.cd) ∧ W1.cell? ⟨wr.heap.size, 1, none⟩ = some (.int .i64 u.pr) ∧ W1.cell? ⟨wr.heap.size, 2, none⟩ = some (.string u.ti)
theorem node_b (wr : World) (u : Nd) : NodeB wr (wr.alloc (.cells #[.int .i64 u.cd, .int .i64 u.pr, .string u.ti] 56)) u :=
  ⟨bel_one _ _, by simp, by rw [World.cell?_alloc_at _ _ _ _ rfl]; rfl, by rw [World.cell?_alloc_at _ _ _ _ rfl]; rfl, by rw [World.cell?_alloc_at _ _ _ _ rfl]; rfl⟩
/-- The closure that says that a parent is not known. -/
theorem known1_c (b m : Nat) (l : List Nd) (u : Nd) (w : World) (h : KnIs w m l l.length) (hb : w.cell? ⟨b, 0, none⟩ = some (.map (some m))) (hbl : b < w.heap.size) (hml : m < w.heap.size) (hu : -9223372036854775808 ≤ u.pr ∧ u.pr ≤ 9223372036854775807) :
    Calls Tryd.prog 75 #[.agg #[.int .i64 u.cd, .int .i64 u.pr, .string u.ti], .pointer (some ⟨b, 0, none⟩)] w fun e w' => e = .returned (.bool (!knw l u.pr l.length)) ∧ Below w.heap.size w w' := by
  obtain ⟨W1, hW1⟩ : ∃ W1, w.alloc (.cells #[.int .i64 u.cd, .int .i64 u.pr, .string u.ti] 56) = W1 := ⟨_, rfl⟩
  have B1 : Hid (NodeB w W1 u) := by unfold Hid; rw [← hW1]; exact node_b w u
  have v0 := (B1.out.1.cell (p := ⟨b, 0, none⟩) hbl).trans hb
  have hrun := (h.below B1.out.1 hml).has hu
  have v1 := B1.out.2.2.2.1
  clear h hb
  go_enter Tryd.func75, Tryd.ntmps75
  go_wp2
  go_ret
  exact ⟨rfl, B1.out.1⟩
/-- The place of the first node whose parent is not known, or -1. -/
def unk (l : List Nd) : Nat → Int → Int
  | 0, r => r
  | k + 1, r => if knw l (nd l k).pr l.length = false then unk l k k else unk l k r
set_option maxHeartbeats 1000000 in
theorem anyUnknown_c (a : Option Addr) (c b m : Nat) (l : List Nd) (w : World) (hl : RdN w a l) (hf : Fits l) (h : KnIs w m l l.length) (hb : w.cell? ⟨b, 0, none⟩ = some (.map (some m))) (hbl : b < w.heap.size) (hml : m < w.heap.size) :
    Calls Tryd.prog 85 #[.slice a l.length c, .func (.func 75) #[] #[.pointer (some ⟨b, 0, none⟩)]] w fun e w' => (∃ r : Int, e = .returned (.int .i64 r) ∧ (decide (0 ≤ r) = decide (fe (prE l) l.length ≠ 0))) ∧ Below w.heap.size w w' := by
  have h9 := hl.1
  have HL := Lib.hid hl
  have HF := Lib.hid hf
  have HK := Lib.hid h
  have HB := Lib.hid hb
  clear hl hf h hb
  go_enter Tryd.func85, Tryd.ntmps85
  go_wp2
  go_loopw [5, 8] (fun _ i wr => ∃ k : Nat, k ≤ l.length ∧ i = .int .i64 k ∧ Hid (Below w.heap.size w wr ∧ fe (prE l) k = 0)) (fun _ i _ => l.length - (intOf i).toNat)
  case atStart => exact ⟨0, Nat.zero_le _, rfl, Below.refl _ _, rfl⟩
  case round =>
    obtain ⟨k, hk, rfl, hS⟩ := hrel
    by_cases hlt : k < l.length
    · obtain ⟨b', off, rfl, u0, u1, u2⟩ := (HL.out.below hS.out.1).at_ hlt
      have hlt' : (k : Int) < (l.length : Int) := by omega
      have HC := Lib.hid (known1_c b m l (nd l k) wr (HK.out.below hS.out.1 hml) ((hS.out.1.cell (p := ⟨b, 0, none⟩) hbl).trans HB.out) (Nat.lt_of_lt_of_le hbl hS.out.1.size) (Nat.lt_of_lt_of_le hml hS.out.1.size) (HF.out _ (nd_mem hlt)).2.1)
      have hN : Hid (fe (prE l) (k + 1) = prE l k) := fe_next hS.out.2
      by_cases hq : knw l (nd l k).pr l.length = true
      · have hz : Hid (fe (prE l) (k + 1) = 0) := by unfold Hid; rw [hN.out]; unfold prE; rw [if_neg (by rw [hq]; simp)]
        rw [hq] at HC
        clear hq
        go_wp2_with fail
        refine HC.out.mono ?_
        rintro e w' ⟨rfl, b2⟩
        have NX : Hid (Below w.heap.size w w' ∧ fe (prE l) (k + 1) = 0) := ⟨hS.out.1.trans (b2.mono hS.out.1.size), hz.out⟩
        clear b2 u0 u1 u2
        go_wp2
        go_roundw
        case rel => exact ⟨k + 1, by omega, by go_num, NX.out⟩
        case measure => simp [intOf]; omega
      · have hq' : knw l (nd l k).pr l.length = false := by simpa using hq
        have hp : prE l k = 5 := by unfold prE; rw [if_pos hq']
        have hz : Hid (fe (prE l) l.length ≠ 0) := by
          unfold Hid
          rw [fe_at hlt hS.out.2 (by rw [hp]; decide), hp]; decide
        rw [hq'] at HC
        clear hq hq' hp hN
        go_wp2_with fail
        refine HC.out.mono ?_
        rintro e w' ⟨rfl, b2⟩
        have NX : Hid (Below w.heap.size w w') := hS.out.1.trans (b2.mono hS.out.1.size)
        clear b2 u0 u1 u2
        go_wp2
        go_ret
        exact ⟨⟨_, rfl, by rw [decide_eq_true hz.out, decide_eq_true (by omega)]⟩, NX.out⟩
    · obtain rfl : k = l.length := by omega
      have hz := Lib.hid hS.out.2
      clear hlt
      go_wp2
      go_ret
      exact ⟨⟨_, rfl, by rw [hz.out]; rfl⟩, hS.out.1⟩
theorem anyUnknown2_c (a : Option Addr) (c b m : Nat) (l : List Nd) (w : World) (hl : RdN w a l) (hf : Fits l) (h : KnIs w m l l.length) (hb : w.cell? ⟨b, 0, none⟩ = some (.map (some m))) (hbl : b < w.heap.size) (hml : m < w.heap.size) :
    Calls Tryd.prog 74 #[.slice a l.length c, .func (.func 75) #[] #[.pointer (some ⟨b, 0, none⟩)]] w fun e w' => e = .returned (.bool (decide (fe (prE l) l.length ≠ 0))) ∧ Below w.heap.size w w' := by
  have HC := Lib.hid (anyUnknown_c a c b m l w hl hf h hb hbl hml)
  clear hl hf h hb
  go_enter Tryd.func74, Tryd.ntmps74
  go_wp2_with fail
  refine HC.out.mono ?_
  rintro e w' ⟨⟨r, rfl, hr⟩, b2⟩
  have BB := Lib.hid b2
  have HR := Lib.hid hr
  clear b2 hr
  go_wp2
  go_ret
  exact ⟨by rw [← HR.out]; rfl, BB.out⟩
end Go.Proofs.YthdmodmplpoejaaDoor
