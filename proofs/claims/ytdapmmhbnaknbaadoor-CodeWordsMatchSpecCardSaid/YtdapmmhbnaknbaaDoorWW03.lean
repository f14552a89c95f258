/-
  Package code: the errors of nodes by themselves, and of their parents.
  Package code: checkNodes.
  Package code: a frame under way in memory; the greatest level.
  Package code: frameOf.
-/
import Derived.Test.YtdapmmhbnaknbaaDoorWW02
import Derived.Deep.OwnRows
import Derived.Deep.CutBlock
import Derived.Deep.CutRange
import Derived.RegionTactic
import Derived.ChangeAlike
import Derived.Deep.RegionHeld3
namespace Go.Proofs.YtdapmmhbnaknbaaDoor
open Go.RowKit Go.WideMaps Go.Maps

/-- The errors of checkNodes. -/
def chkS (l : List Nd) : Int :=
  if l.length = 0 then 9 else if 600 < l.length then 2 else if fe (ndE l) l.length ≠ 0 then fe (ndE l) l.length else if fe (prE l) l.length ≠ 0 then 5 else 0
theorem ndE_1 {l : List Nd} {k : Nat} (h : (nd l k).cd < 1 ∨ 999 < (nd l k).cd) : ndE l k = 1 := by unfold ndE; rw [if_pos h]
theorem ndE_2 {l : List Nd} {k : Nat} (h : ¬ ((nd l k).cd < 1 ∨ 999 < (nd l k).cd)) (h2 : k ≠ 0 ∧ (nd l k).cd ≤ (nd l (k - 1)).cd) : ndE l k = 7 := by unfold ndE; rw [if_neg h, if_pos h2]
theorem ndE_3 {l : List Nd} {k : Nat} (h : ¬ ((nd l k).cd < 1 ∨ 999 < (nd l k).cd)) (h2 : ¬ (k ≠ 0 ∧ (nd l k).cd ≤ (nd l (k - 1)).cd)) (h3 : 60 < (nd l k).ti.size) : ndE l k = 2 := by unfold ndE; rw [if_neg h, if_neg h2, if_pos h3]
theorem ndE_4 {l : List Nd} {k : Nat} (h : ¬ ((nd l k).cd < 1 ∨ 999 < (nd l k).cd)) (h2 : ¬ (k ≠ 0 ∧ (nd l k).cd ≤ (nd l (k - 1)).cd)) (h3 : ¬ 60 < (nd l k).ti.size) : ndE l k = if titS (nd l k).ti = false then 3 else 0 := by unfold ndE; rw [if_neg h, if_neg h2, if_neg h3]
theorem chkS_at {l : List Nd} {k : Nat} (h1 : l.length ≠ 0) (h2 : ¬ 600 < l.length) (hk : k < l.length) (h0 : fe (ndE l) k = 0) (h : ndE l k ≠ 0) : chkS l = ndE l k := by
  have e := fe_at hk h0 h
  unfold chkS
  rw [if_neg h1, if_neg h2, if_pos (by rw [e]; exact h), e]
theorem mapElem : (zeroValue 4).run Tryd.prog default = .ok (.bool false) default := by kernel_rfl
theorem knIs_start (w : World) (l : List Nd) : ∃ W0, (Instr.mapUpdate 94 (.map (some w.heap.size)) (.int .i64 0) (.bool true)).run Tryd.prog (w.alloc (.map #[] 0)) = .ok () W0 ∧ KnIs W0 w.heap.size l 0 ∧ (w.alloc (.map #[] 0)).grownBy W0 (some w.heap.size) := by
  obtain ⟨w', h1, h2, h3⟩ := (MapIs.made w).store (s := 0) Tryd.underlying94 (by unfold maxLen; omega) (by omega) (.bool true)
  refine ⟨w', h1, h2.congr fun s => ?_, h3⟩
  show _ = if decide (s = 0) = true then _ else _
  by_cases e : s = 0
  · subst e; simp
  · rw [if_neg e]; simp [e]
theorem grown_cell {w w' : World} {r : Nat} {p : Addr} (h : w.grownBy w' (some r)) (hl : p.block < w.heap.size) (hne : p.block ≠ r) : w'.cell? p = w.cell? p := by
  have e := h.block p.block hl (fun e => hne (by injection e))
  unfold World.cell?
  rw [e]
def NodeB (wr W1 : World) (u : Nd) : Prop := Below wr.heap.size wr W1 ∧ W1.heap.size = wr.heap.size + 1 ∧ W1.cell? ⟨wr.heap.size, 0, none⟩ = some (.int .i64 u.cd) ∧ W1.cell? ⟨wr.heap.size, 1, none⟩ = some (.int .i64 u.pr) ∧ W1.cell? ⟨wr.heap.size, 2, none⟩ = some (.string u.ti)
theorem node_b (wr : World) (u : Nd) : NodeB wr (wr.alloc (.cells #[.int .i64 u.cd, .int .i64 u.pr, .string u.ti] 66)) u :=
  ⟨bel_one _ _, by simp, by rw [World.cell?_alloc_at _ _ _ _ rfl]; rfl, by rw [World.cell?_alloc_at _ _ _ _ rfl]; rfl, by rw [World.cell?_alloc_at _ _ _ _ rfl]; rfl⟩
/-- The closure that says that a parent is not known. -/
theorem known1_c (b m : Nat) (l : List Nd) (u : Nd) (w : World) (h : KnIs w m l l.length) (hb : w.cell? ⟨b, 0, none⟩ = some (.map (some m))) (hbl : b < w.heap.size) (hml : m < w.heap.size) (hu : -9223372036854775808 ≤ u.pr ∧ u.pr ≤ 9223372036854775807) :
    Calls Tryd.prog 53 #[.agg #[.int .i64 u.cd, .int .i64 u.pr, .string u.ti], .pointer (some ⟨b, 0, none⟩)] w fun e w' => e = .returned (.bool (!knw l u.pr l.length)) ∧ Below w.heap.size w w' := by
  obtain ⟨W1, hW1⟩ : ∃ W1, w.alloc (.cells #[.int .i64 u.cd, .int .i64 u.pr, .string u.ti] 66) = W1 := ⟨_, rfl⟩
  have B1 : Hid (NodeB w W1 u) := by unfold Hid; rw [← hW1]; exact node_b w u
  have v0 := (B1.out.1.cell (p := ⟨b, 0, none⟩) hbl).trans hb
  have hrun := (h.below B1.out.1 hml).has hu
  have v1 := B1.out.2.2.2.1
  clear h hb
  go_enter Tryd.func53, Tryd.ntmps53
  go_wp2
  go_ret
  exact ⟨rfl, B1.out.1⟩
/-- The place of the first node whose parent is not known, or -1. -/
def unk (l : List Nd) : Nat → Int → Int
  | 0, r => r
  | k + 1, r => if knw l (nd l k).pr l.length = false then unk l k k else unk l k r
set_option maxHeartbeats 1000000 in
theorem anyUnknown_c (a : Option Addr) (c b m : Nat) (l : List Nd) (w : World) (hl : RdN w a l) (hf : Fits l) (h : KnIs w m l l.length) (hb : w.cell? ⟨b, 0, none⟩ = some (.map (some m))) (hbl : b < w.heap.size) (hml : m < w.heap.size) :
    Calls Tryd.prog 66 #[.slice a l.length c, .func (.func 53) #[] #[.pointer (some ⟨b, 0, none⟩)]] w fun e w' => (∃ r : Int, e = .returned (.int .i64 r) ∧ (decide (0 ≤ r) = decide (fe (prE l) l.length ≠ 0))) ∧ Below w.heap.size w w' := by
  have h9 := hl.1
  have HL := Lib.hid hl
  have HF := Lib.hid hf
  have HK := Lib.hid h
  have HB := Lib.hid hb
  clear hl hf h hb
  go_enter Tryd.func66, Tryd.ntmps66
  go_wp2
  go_loopw [5, 8] (fun _ i wr => ∃ k : Nat, k ≤ l.length ∧ i = .int .i64 k ∧ Hid (Below w.heap.size w wr ∧ fe (prE l) k = 0)) (fun _ i _ => l.length - (intOf i).toNat)
  case atStart => exact ⟨0, Nat.zero_le _, rfl, Below.refl _ _, rfl⟩
  case round =>
    obtain ⟨k, hk, rfl, hS⟩ := hrel
    by_cases hlt : k < l.length
    · obtain ⟨b', off, rfl, u0, u1, u2⟩ := (HL.out.below hS.out.1).at_ hlt
      have hlt' : (k : Int) < (l.length : Int) := by omega
      have HC := Lib.hid (known1_c b m l (nd l k) wr (HK.out.below hS.out.1 hml) ((hS.out.1.cell (p := ⟨b, 0, none⟩) hbl).trans HB.out) (Nat.lt_of_lt_of_le hbl hS.out.1.size) (Nat.lt_of_lt_of_le hml hS.out.1.size) (HF.out _ (nd_mem hlt)).2.1)
      have hN : Hid (fe (prE l) (k + 1) = prE l k) := fe_next hS.out.2
      by_cases hq : knw l (nd l k).pr l.length = true
      · have hz : Hid (fe (prE l) (k + 1) = 0) := by unfold Hid; rw [hN.out]; unfold prE; rw [if_neg (by rw [hq]; simp)]
        rw [hq] at HC
        clear hq
        go_wp2_with fail
        refine HC.out.mono ?_
        rintro e w' ⟨rfl, b2⟩
        have NX : Hid (Below w.heap.size w w' ∧ fe (prE l) (k + 1) = 0) := ⟨hS.out.1.trans (b2.mono hS.out.1.size), hz.out⟩
        clear b2 u0 u1 u2
        go_wp2
        go_roundw
        case rel => exact ⟨k + 1, by omega, by go_num, NX.out⟩
        case measure => simp [intOf]; omega
      · have hq' : knw l (nd l k).pr l.length = false := by simpa using hq
        have hp : prE l k = 5 := by unfold prE; rw [if_pos hq']
        have hz : Hid (fe (prE l) l.length ≠ 0) := by
          unfold Hid
          rw [fe_at hlt hS.out.2 (by rw [hp]; decide), hp]; decide
        rw [hq'] at HC
        clear hq hq' hp hN
        go_wp2_with fail
        refine HC.out.mono ?_
        rintro e w' ⟨rfl, b2⟩
        have NX : Hid (Below w.heap.size w w') := hS.out.1.trans (b2.mono hS.out.1.size)
        clear b2 u0 u1 u2
        go_wp2
        go_ret
        exact ⟨⟨_, rfl, by rw [decide_eq_true hz.out, decide_eq_true (by omega)]⟩, NX.out⟩
    · obtain rfl : k = l.length := by omega
      have hz := Lib.hid hS.out.2
      clear hlt
      go_wp2
      go_ret
      exact ⟨⟨_, rfl, by rw [hz.out]; rfl⟩, hS.out.1⟩
theorem anyUnknown2_c (a : Option Addr) (c b m : Nat) (l : List Nd) (w : World) (hl : RdN w a l) (hf : Fits l) (h : KnIs w m l l.length) (hb : w.cell? ⟨b, 0, none⟩ = some (.map (some m))) (hbl : b < w.heap.size) (hml : m < w.heap.size) :
    Calls Tryd.prog 52 #[.slice a l.length c, .func (.func 53) #[] #[.pointer (some ⟨b, 0, none⟩)]] w fun e w' => e = .returned (.bool (decide (fe (prE l) l.length ≠ 0))) ∧ Below w.heap.size w w' := by
  have HC := Lib.hid (anyUnknown_c a c b m l w hl hf h hb hbl hml)
  clear hl hf h hb
  go_enter Tryd.func52, Tryd.ntmps52
  go_wp2_with fail
  refine HC.out.mono ?_
  rintro e w' ⟨⟨r, rfl, hr⟩, b2⟩
  have BB := Lib.hid b2
  have HR := Lib.hid hr
  clear b2 hr
  go_wp2
  go_ret
  exact ⟨by rw [← HR.out]; rfl, BB.out⟩
end Go.Proofs.YtdapmmhbnaknbaaDoor
namespace Go.Proofs.YtdapmmhbnaknbaaDoor
open Go.RowKit Go.WideMaps Go.Maps

/-- What lies there in the loop of checkNodes. -/
structure InK (w wr : World) (bb : Nat) (l : List Nd) (k : Nat) : Prop where
  kn : KnIs wr w.heap.size l k
  box : wr.cell? ⟨bb, 0, none⟩ = some (.map (some w.heap.size))
  bel : Below w.heap.size w wr
  gt : w.heap.size < bb
  lt : bb < wr.heap.size
theorem InK.keep {w wr W : World} {bb : Nat} {l : List Nd} {k : Nat} (h : InK w wr bb l k) (hb : Below wr.heap.size wr W) : InK w W bb l k where
  kn := h.kn.below hb (Nat.lt_trans h.gt h.lt)
  box := (hb.cell (p := ⟨bb, 0, none⟩) h.lt).trans h.box
  bel := h.bel.trans (hb.mono h.bel.size)
  gt := h.gt
  lt := Nat.lt_of_lt_of_le h.lt hb.size
theorem InK.store {w wr : World} {bb : Nat} {l : List Nd} {k : Nat} (h : InK w wr bb l k) (hk : k < 600) (hf : Fits l) (hkl : k < l.length) :
    ∃ W, (Instr.mapUpdate 94 (.map (some w.heap.size)) (.int .i64 (nd l k).cd) (.bool true)).run Tryd.prog wr = .ok () W ∧ InK w W bb l (k + 1) := by
  obtain ⟨W, h1, h2, h3⟩ := h.kn.store (by unfold maxLen; omega) (hf _ (nd_mem hkl)).1
  refine ⟨W, h1, h2, ?_, ?_, h.gt, Nat.lt_of_lt_of_le h.lt h3.size⟩
  · rw [grown_cell (p := ⟨bb, 0, none⟩) h3 h.lt (Nat.ne_of_gt h.gt)]; exact h.box
  · exact h.bel.grown h3 h.bel.size (fun j hj => by cases hj; exact Nat.le_refl _)
set_option maxRecDepth 100000 in
set_option maxHeartbeats 4000000 in
theorem checkNodes_c (a : Option Addr) (c : Nat) (l : List Nd) (w : World) (hl : RdN w a l) (hf : Fits l) :
    Calls Tryd.prog 29 #[.slice a l.length c] w (IntP (chkS l) w) := by
  have h9 := hl.1
  by_cases h1 : l.length = 0
  · have e : Hid (chkS l = 9) := by unfold Hid chkS; rw [if_pos h1]
    clear hl hf
    have h1' : (l.length : Int) = 0 := by omega
    go_enter Tryd.func29, Tryd.ntmps29
    go_wp2
    go_ret
    exact ⟨by rw [e.out]; rfl, Below.refl _ _⟩
  have h1' : ((l.length : Int) == 0) = false := by rw [beq_eq_false_iff_ne]; omega
  by_cases h2 : 600 < l.length
  · have e : Hid (chkS l = 2) := by unfold Hid chkS; rw [if_neg h1, if_pos h2]
    have h2' : (600 : Int) < (l.length : Int) := by omega
    clear hl hf h1 h2
    go_enter Tryd.func29, Tryd.ntmps29
    go_wp2
    go_ret
    exact ⟨by rw [e.out]; rfl, Below.refl _ _⟩
  have h2' : ¬ (600 : Int) < (l.length : Int) := by omega
  have hmm := @run_makeMap Tryd.prog
  have HL := Lib.hid hl
  have HF := Lib.hid hf
  have HAT : Hid (∀ k, k < l.length → fe (ndE l) k = 0 → ndE l k ≠ 0 → chkS l = ndE l k) := fun k hk h0 h => chkS_at h1 h2 hk h0 h
  have HEND : Hid (fe (ndE l) l.length = 0 → chkS l = if fe (prE l) l.length ≠ 0 then 5 else 0) := fun h => by unfold chkS; rw [if_neg h1, if_neg h2, if_neg (by rw [h]; simp)]
  have hle : Hid (l.length ≤ 600) := by unfold Hid; omega
  obtain ⟨W0, hup, k0, g0⟩ := knIs_start w l
  have K0 := Lib.hid k0
  have G0 := Lib.hid g0
  clear hl hf h1 h2 k0 g0
  have S0 : Hid (InK w (W0.alloc (.cells #[.map (some w.heap.size)] 94)) W0.heap.size l 0) := by
    have s0 : w.heap.size + 1 ≤ W0.heap.size := by have := G0.out.size; simpa using this
    refine ⟨K0.out.below (bel_one _ _) (by omega), ?_, ?_, by omega, by simp⟩
    · rw [World.cell?_alloc_at _ _ _ _ rfl]; rfl
    · exact (((bel_one w _).grown G0.out (by simp) (fun j hj => by cases hj; exact Nat.le_refl _))).trans ((bel_one _ _).mono (by omega))
  go_enter Tryd.func29, Tryd.ntmps29
  go_wp2
  obtain ⟨bb, hbb⟩ : ∃ bb, W0.heap.size = bb := ⟨_, rfl⟩
  rw [hbb] at S0 ⊢
  go_loopw [4, 18] (fun _ i wr => ∃ k : Nat, k ≤ l.length ∧ i = .int .i64 k ∧ Hid (InK w wr bb l k ∧ fe (ndE l) k = 0)) (fun _ i _ => l.length - (intOf i).toNat)
  case atStart => exact ⟨0, Nat.zero_le _, rfl, S0.out, rfl⟩
  case round =>
    clear S0 hup K0 G0 hbb
    obtain ⟨k, hk, rfl, hS⟩ := hrel
    by_cases hlt : k < l.length
    · obtain ⟨b', off, rfl, u0, u1, u2⟩ := (HL.out.below hS.out.1.bel).at_ hlt
      have hlt' : (k : Int) < (l.length : Int) := by omega
      have hF : Hid (ndE l k ≠ 0 → chkS l = ndE l k) := fun h => HAT.out k hlt hS.out.2 h
      have hN : Hid (fe (ndE l) (k + 1) = ndE l k) := fe_next hS.out.2
      obtain ⟨W1, hW1⟩ : ∃ W1, wr.alloc (.cells #[.int .i64 (nd l k).cd, .int .i64 (nd l k).pr, .string (nd l k).ti] 66) = W1 := ⟨_, rfl⟩
      have B1 : Hid (NodeB wr W1 (nd l k)) := by unfold Hid; rw [← hW1]; exact node_b _ _
      have S1 := Lib.hid (hS.out.1.keep B1.out.1)
      have v0 := B1.out.2.2.1
      have v2 := B1.out.2.2.2.2
      have HTI := Lib.hid ((HF.out _ (nd_mem hlt)).2.2)
      by_cases h1 : (nd l k).cd < 1
      · have hE : ndE l k = 1 := ndE_1 (Or.inl h1)
        have R : Hid (chkS l = 1) := by unfold Hid; rw [hF.out (by rw [hE]; decide), hE]
        clear hE hF hN
        go_wp2
        go_ret
        exact ⟨by rw [R.out]; rfl, S1.out.bel⟩
      by_cases h2 : 999 < (nd l k).cd
      · have hE : ndE l k = 1 := ndE_1 (Or.inr h2)
        have R : Hid (chkS l = 1) := by unfold Hid; rw [hF.out (by rw [hE]; decide), hE]
        have h1' : decide ((nd l k).cd < 1) = false := by rw [decide_eq_false_iff_not]; exact h1
        clear hE hF hN h1
        go_wp2
        go_ret
        exact ⟨by rw [R.out]; rfl, S1.out.bel⟩
      have hr : Hid (¬ ((nd l k).cd < 1 ∨ 999 < (nd l k).cd)) := by unfold Hid; omega
      by_cases h3 : k ≠ 0 ∧ (nd l k).cd ≤ (nd l (k - 1)).cd
      · have hE : ndE l k = 7 := ndE_2 hr.out h3
        have R : Hid (chkS l = 7) := by unfold Hid; rw [hF.out (by rw [hE]; decide), hE]
        obtain ⟨m, rfl⟩ : ∃ m, k = m + 1 := ⟨k - 1, by omega⟩
        obtain ⟨_, _, e, p0, _, _⟩ := (HL.out.below S1.out.bel).at_ (k := m) (by omega)
        injection e with e; injection e with e1 e2; subst e1; subst e2
        have hpos : (0 : Int) < ((m + 1 : Nat) : Int) := by omega
        have hm1 : ((m + 1 : Nat) : Int) - 1 = (m : Int) := by omega
        have hm2 : (m : Int) < (l.length : Int) := by omega
        have h3' : (nd l (m + 1)).cd ≤ (nd l m).cd := h3.2
        clear hE hF hN h3
        go_wp2_with fail
        go_quiet (fail)
        go_wp2
        go_ret
        exact ⟨by rw [R.out]; rfl, below_drewN S1.out.bel _⟩
      have h1' : decide ((nd l k).cd < 1) = false := by rw [decide_eq_false_iff_not]; exact h1
      have h2'' : ¬ 999 < (nd l k).cd := h2
      have h3 := Lib.hid h3
      clear h1 h2
      by_cases hk0 : k = 0
      · subst hk0
        simp only [Nat.zero_mul, Nat.add_zero] at u0 u1 u2
        go_wp2_with fail
        go_quiet (fail)
        clear h1' h2''
        have S2 : Hid (InK w (W1.drewN nq) bb l 0 ∧ (W1.drewN nq).cell? ⟨wr.heap.size, 0, none⟩ = some (.int .i64 (nd l 0).cd) ∧ (W1.drewN nq).cell? ⟨wr.heap.size, 2, none⟩ = some (.string (nd l 0).ti) ∧ wr.heap.size < (W1.drewN nq).heap.size) := ⟨S1.out.keep (below_drewN (Below.refl _ _) nq), B1.out.2.2.1, B1.out.2.2.2.2, by have := B1.out.2.1; show wr.heap.size < W1.heap.size; omega⟩
        clear hW1 v0 v2 u0 u1 u2 S1 B1
        generalize W1.drewN nq = W2 at S2 ⊢
        obtain ⟨x0, x2⟩ := And.intro S2.out.2.1 S2.out.2.2.1
        by_cases h4 : 60 < (nd l 0).ti.size
        · have hE : ndE l 0 = 2 := ndE_3 hr.out h3.out h4
          have R : Hid (chkS l = 2) := by unfold Hid; rw [hF.out (by rw [hE]; decide), hE]
          have h4' : (60 : Int) < ((nd l 0).ti.size : Int) := by omega
          clear hE hF hN h4
          go_wp2
          go_ret
          exact ⟨by rw [R.out]; rfl, S2.out.1.bel⟩
        · have hE := Lib.hid (ndE_4 hr.out h3.out h4)
          have h4' : ¬ (60 : Int) < ((nd l 0).ti.size : Int) := by omega
          have HC := Lib.hid (isTitle_c (nd l 0).ti W2 HTI.out)
          by_cases h5 : titS (nd l 0).ti = false
          · have e : ndE l 0 = 3 := by rw [hE.out, if_pos h5]
            have R : Hid (chkS l = 3) := by unfold Hid; rw [hF.out (by rw [e]; decide), e]
            rw [h5] at HC
            clear hE hF hN h4 h5 e
            go_wp2_with fail
            refine HC.out.mono ?_
            rintro e w' ⟨rfl, b2⟩
            have BB := Lib.hid ((S2.out.1.keep b2).bel)
            clear b2 x0 x2
            go_wp2
            go_ret
            exact ⟨by rw [R.out]; rfl, BB.out⟩
          · have h5' : titS (nd l 0).ti = true := by simpa using h5
            have e : ndE l 0 = 0 := by rw [hE.out, if_neg h5]
            have hz : Hid (fe (ndE l) (0 + 1) = 0) := by unfold Hid; rw [hN.out, e]
            rw [h5'] at HC
            clear hE hF hN h4 h5 h5' e
            go_wp2_with fail
            refine HC.out.mono ?_
            rintro e w' ⟨rfl, b2⟩
            have S3 := Lib.hid (S2.out.1.keep b2)
            have y0 : w'.cell? ⟨wr.heap.size, 0, none⟩ = some (.int .i64 (nd l 0).cd) := (b2.cell (p := ⟨wr.heap.size, 0, none⟩) S2.out.2.2.2).trans S2.out.2.1
            have yb := S3.out.box
            obtain ⟨W4, hup, hS4⟩ := S3.out.store (by have := hle.out; omega) HF.out hlt
            have S4 := Lib.hid hS4
            clear b2 x0 x2 hS4
            go_wp2
            go_roundw
            case rel => exact ⟨1, by omega, by go_num, S4.out, hz.out⟩
            case measure => simp [intOf]; omega
      · obtain ⟨m, rfl⟩ : ∃ m, k = m + 1 := ⟨k - 1, by omega⟩
        obtain ⟨_, _, e, p0, _, _⟩ := (HL.out.below S1.out.bel).at_ (k := m) (by omega)
        injection e with e; injection e with e1 e2; subst e1; subst e2
        have hpos : (0 : Int) < ((m + 1 : Nat) : Int) := by omega
        have hm1 : ((m + 1 : Nat) : Int) - 1 = (m : Int) := by omega
        have hm2 : (m : Int) < (l.length : Int) := by omega
        have h3' : decide ((nd l (m + 1)).cd ≤ (nd l m).cd) = false := by rw [decide_eq_false_iff_not]; exact fun h => h3.out ⟨hk0, h⟩
        clear hk0
        go_wp2_with fail
        go_quiet (fail)
        clear h1' h2'' hpos hm1 hm2 p0
        have S2 : Hid (InK w (W1.drewN nq) bb l (m + 1) ∧ (W1.drewN nq).cell? ⟨wr.heap.size, 0, none⟩ = some (.int .i64 (nd l (m + 1)).cd) ∧ (W1.drewN nq).cell? ⟨wr.heap.size, 2, none⟩ = some (.string (nd l (m + 1)).ti) ∧ wr.heap.size < (W1.drewN nq).heap.size) := ⟨S1.out.keep (below_drewN (Below.refl _ _) nq), B1.out.2.2.1, B1.out.2.2.2.2, by have := B1.out.2.1; show wr.heap.size < W1.heap.size; omega⟩
        clear hW1 v0 v2 u0 u1 u2 S1 B1
        generalize W1.drewN nq = W2 at S2 ⊢
        obtain ⟨x0, x2⟩ := And.intro S2.out.2.1 S2.out.2.2.1
        by_cases h4 : 60 < (nd l (m + 1)).ti.size
        · have hE : ndE l (m + 1) = 2 := ndE_3 hr.out h3.out h4
          have R : Hid (chkS l = 2) := by unfold Hid; rw [hF.out (by rw [hE]; decide), hE]
          have h4' : (60 : Int) < ((nd l (m + 1)).ti.size : Int) := by omega
          clear hE hF hN h4
          go_wp2
          go_ret
          exact ⟨by rw [R.out]; rfl, S2.out.1.bel⟩
        · have hE := Lib.hid (ndE_4 hr.out h3.out h4)
          have h4' : ¬ (60 : Int) < ((nd l (m + 1)).ti.size : Int) := by omega
          have HC := Lib.hid (isTitle_c (nd l (m + 1)).ti W2 HTI.out)
          by_cases h5 : titS (nd l (m + 1)).ti = false
          · have e : ndE l (m + 1) = 3 := by rw [hE.out, if_pos h5]
            have R : Hid (chkS l = 3) := by unfold Hid; rw [hF.out (by rw [e]; decide), e]
            rw [h5] at HC
            clear hE hF hN h4 h5 e
            go_wp2_with fail
            refine HC.out.mono ?_
            rintro e w' ⟨rfl, b2⟩
            have BB := Lib.hid ((S2.out.1.keep b2).bel)
            clear b2 x0 x2
            go_wp2
            go_ret
            exact ⟨by rw [R.out]; rfl, BB.out⟩
          · have h5' : titS (nd l (m + 1)).ti = true := by simpa using h5
            have e : ndE l (m + 1) = 0 := by rw [hE.out, if_neg h5]
            have hz : Hid (fe (ndE l) (m + 1 + 1) = 0) := by unfold Hid; rw [hN.out, e]
            rw [h5'] at HC
            clear hE hF hN h4 h5 h5' e
            go_wp2_with fail
            refine HC.out.mono ?_
            rintro e w' ⟨rfl, b2⟩
            have S3 := Lib.hid (S2.out.1.keep b2)
            have y0 : w'.cell? ⟨wr.heap.size, 0, none⟩ = some (.int .i64 (nd l (m + 1)).cd) := (b2.cell (p := ⟨wr.heap.size, 0, none⟩) S2.out.2.2.2).trans S2.out.2.1
            have yb := S3.out.box
            obtain ⟨W4, hup, hS4⟩ := S3.out.store (by have := hle.out; omega) HF.out hlt
            have S4 := Lib.hid hS4
            clear b2 x0 x2 hS4
            go_wp2
            go_roundw
            case rel => exact ⟨m + 1 + 1, by omega, by go_num, S4.out, hz.out⟩
            case measure => simp [intOf]; omega
    · obtain rfl : k = l.length := by omega
      have hR := Lib.hid (HEND.out hS.out.2)
      have BB := Lib.hid hS.out.1
      have yb := BB.out.box
      have HC := Lib.hid (anyUnknown2_c a c bb w.heap.size l wr (HL.out.below BB.out.bel) HF.out BB.out.kn BB.out.box BB.out.lt (Nat.lt_trans BB.out.gt BB.out.lt))
      clear hlt hS
      by_cases hp : fe (prE l) l.length ≠ 0
      · have R : Hid (chkS l = 5) := by unfold Hid; rw [hR.out, if_pos hp]
        rw [decide_eq_true hp] at HC
        clear hp hR
        go_wp2_with fail
        refine HC.out.mono ?_
        rintro e w' ⟨rfl, b2⟩
        have B2 := Lib.hid (BB.out.keep b2).bel
        clear b2 yb
        go_wp2
        go_ret
        exact ⟨by rw [R.out]; rfl, B2.out⟩
      · have R : Hid (chkS l = 0) := by unfold Hid; rw [hR.out, if_neg hp]
        rw [decide_eq_false hp] at HC
        clear hp hR
        go_wp2_with fail
        refine HC.out.mono ?_
        rintro e w' ⟨rfl, b2⟩
        have B2 := Lib.hid (BB.out.keep b2).bel
        clear b2 yb
        go_wp2
        go_ret
        exact ⟨by rw [R.out]; rfl, B2.out⟩
end Go.Proofs.YtdapmmhbnaknbaaDoor
namespace Go.Proofs.YtdapmmhbnaknbaaDoor
open Go.RowKit Go.WideMaps Go.Maps

theorem infoI : (Tryd.prog.info? 3).map (fun i => (i.zero, i.size, i.bytes)) = some (some (.int .i64 0), 1, 8) := by kernel_rfl
/-- A box of two cells. -/
structure B2 (W : World) (g : Nat) (x0 x1 : Value) : Prop where
  c0 : W.cell? ⟨g, 0, none⟩ = some x0
  c1 : W.cell? ⟨g, 1, none⟩ = some x1
  fr : ∀ o, W.frozen? ⟨g, o, none⟩ = false
  lt : g < W.heap.size
theorem B2.keep {W W' : World} {g : Nat} {x0 x1 : Value} (h : B2 W g x0 x1) (hb : Below W.heap.size W W') : B2 W' g x0 x1 :=
  ⟨(hb.cell (p := ⟨g, 0, none⟩) h.lt).trans h.c0, (hb.cell (p := ⟨g, 1, none⟩) h.lt).trans h.c1, fun o => (hb.frozen (p := ⟨g, o, none⟩) h.lt).trans (h.fr o), Nat.lt_of_lt_of_le h.lt hb.size⟩
theorem B2.made (W : World) (x0 x1 : Value) (T : TypeId) : B2 (W.alloc (.cells #[x0, x1] T)) W.heap.size x0 x1 := by
  refine ⟨?_, ?_, fun o => by simp, by simp⟩
  all_goals (rw [World.cell?_alloc_new]; rfl)
/-- Both cells are stored. -/
def two (W : World) (g : Nat) (y0 y1 : Value) : World := (W.setCell ⟨g, 0, none⟩ y0).setCell ⟨g, 1, none⟩ y1
theorem two_size (W : World) (g : Nat) (y0 y1 : Value) : (two W g y0 y1).heap.size = W.heap.size := by unfold two; simp
theorem B2.set {W : World} {g : Nat} {x0 x1 : Value} (h : B2 W g x0 x1) (y0 y1 : Value) : B2 (two W g y0 y1) g y0 y1 := by
  have hne : ∀ {i j : Nat}, i ≠ j → (⟨g, i, none⟩ : Addr) ≠ ⟨g, j, none⟩ := fun h e => by injection e with _ e2; exact h e2
  unfold two
  refine ⟨?_, ?_, fun o => by simp only [World.frozen?_setCell]; exact h.fr o, by simpa using h.lt⟩
  · rw [World.cell?_setCell_other _ _ _ _ (hne (by decide)), World.cell?_setCell_same _ _ _ h.c0]
  · rw [World.cell?_setCell_same _ _ _ (u := x1) (by rw [World.cell?_setCell_other _ _ _ _ (hne (by decide))]; exact h.c1)]
theorem two_cell {W : World} {g h : Nat} (hne : h ≠ g) (y0 y1 : Value) (o : Nat) : (two W h y0 y1).cell? ⟨g, o, none⟩ = W.cell? ⟨g, o, none⟩ := by
  have hne' : ∀ {i j : Nat}, (⟨h, i, none⟩ : Addr) ≠ ⟨g, j, none⟩ := fun e => by injection e with e1 _; exact hne e1
  unfold two
  rw [World.cell?_setCell_other _ _ _ _ hne', World.cell?_setCell_other _ _ _ _ hne']
theorem below_two {W0 W : World} {g : Nat} (h : Below W0.heap.size W0 W) (hg : W0.heap.size ≤ g) (y0 y1 : Value) : Below W0.heap.size W0 (two W g y0 y1) :=
  (h.setCell (p := ⟨g, 0, none⟩) hg y0).setCell (p := ⟨g, 1, none⟩) hg y1
/-- A row of 1000 numbers that may be written. -/
structure RowN (w : World) (b : Nat) (g : Nat → Nat) : Prop where
  arr : Arr w b g
  fr : ∀ j, j < 1000 → w.frozen? ⟨b, j, none⟩ = false
theorem RowN.keep {w w' : World} {b : Nat} {g : Nat → Nat} (h : RowN w b g) (hb : Below w.heap.size w w') : RowN w' b g :=
  ⟨h.arr.below hb, fun j hj => (hb.frozen (p := ⟨b, j, none⟩) h.arr.1).trans (h.fr j hj)⟩
theorem RowN.congr {w : World} {b : Nat} {f g : Nat → Nat} (h : RowN w b f) (e : ∀ j, j < 1000 → f j = g j) : RowN w b g :=
  ⟨⟨h.arr.1, fun j hj => by rw [← e j hj]; exact h.arr.2 j hj⟩, h.fr⟩
theorem RowN.set {w : World} {b : Nat} {f : Nat → Nat} (h : RowN w b f) (i x : Nat) : RowN (w.setCell ⟨b, i, none⟩ (.int .i64 (x : Nat))) b (fun j => if (i : Int) = (j : Int) then x else f j) := by
  refine ⟨⟨by simpa using h.arr.1, fun j hj => ?_⟩, fun j hj => by rw [World.frozen?_setCell]; exact h.fr j hj⟩
  by_cases e : i = j
  · subst e
    rw [World.cell?_setCell_same _ _ _ (h.arr.2 i hj)]
    dsimp only
    rw [if_pos rfl]
  · rw [World.cell?_setCell_other _ _ _ _ (by intro h; exact e (by injection h))]
    dsimp only
    rw [if_neg (by omega)]
    exact h.arr.2 j hj
theorem RowN.other {w : World} {b c i : Nat} {f : Nat → Nat} (h : RowN w b f) (hne : c ≠ b) (x : Value) : RowN (w.setCell ⟨c, i, none⟩ x) b f :=
  ⟨⟨by simpa using h.arr.1, fun j hj => by rw [World.cell?_setCell_other _ _ _ _ (by intro h; exact hne (by injection h))]; exact h.arr.2 j hj⟩, fun j hj => by rw [World.frozen?_setCell]; exact h.fr j hj⟩
theorem RowN.two {w : World} {b g : Nat} {f : Nat → Nat} (h : RowN w b f) (hne : g ≠ b) (y0 y1 : Value) : RowN (Go.Proofs.YtdapmmhbnaknbaaDoor.two w g y0 y1) b f := by
  unfold Go.Proofs.YtdapmmhbnaknbaaDoor.two; exact (h.other hne _).other hne _
/-- A frame under way: its two rows, its box, the result's box. -/
structure Fz (w wx : World) (r x y z : Nat) (p q : Nat → Nat) : Prop where
  par : RowN wx x p
  lev : RowN wx y q
  c0 : wx.cell? ⟨z, 0, none⟩ = some (row x)
  c1 : wx.cell? ⟨z, 1, none⟩ = some (row y)
  res : B2 wx r (.slice none 0 0) (.slice none 0 0)
  bel : Below w.heap.size w wx
  xy : x ≠ y
  xz : x ≠ z
  yz : y ≠ z
  rx : r < x
  ry : r < y
  rz : r < z
  zl : z < wx.heap.size
  wr : w.heap.size ≤ r
theorem Fz.keep {w wx W : World} {r x y z : Nat} {p q : Nat → Nat} (h : Fz w wx r x y z p q) (hb : Below wx.heap.size wx W) : Fz w W r x y z p q :=
  { h with
    par := h.par.keep hb
    lev := h.lev.keep hb
    c0 := (hb.cell (p := ⟨z, 0, none⟩) h.zl).trans h.c0
    c1 := (hb.cell (p := ⟨z, 1, none⟩) h.zl).trans h.c1
    res := h.res.keep hb
    bel := h.bel.trans (hb.mono h.bel.size)
    zl := Nat.lt_of_lt_of_le h.zl hb.size }
theorem set_cell {w : World} {b c i o : Nat} (hne : c ≠ b) (x : Value) : (w.setCell ⟨c, i, none⟩ x).cell? ⟨b, o, none⟩ = w.cell? ⟨b, o, none⟩ :=
  World.cell?_setCell_other _ _ _ _ (by intro h; exact hne (by injection h))
theorem B2.otherCell {w : World} {b c i : Nat} {x0 x1 : Value} (h : B2 w b x0 x1) (hne : c ≠ b) (x : Value) : B2 (w.setCell ⟨c, i, none⟩ x) b x0 x1 :=
  ⟨(set_cell hne x).trans h.c0, (set_cell hne x).trans h.c1, fun o => by rw [World.frozen?_setCell]; exact h.fr o, by simpa using h.lt⟩
theorem Fz.setP {w wx : World} {r x y z : Nat} {p q : Nat → Nat} (h : Fz w wx r x y z p q) (i n : Nat) : Fz w (wx.setCell ⟨x, i, none⟩ (.int .i64 (n : Nat))) r x y z (fun j => if (i : Int) = (j : Int) then n else p j) q :=
  { h with
    par := h.par.set i n
    lev := h.lev.other h.xy _
    c0 := (set_cell h.xz _).trans h.c0
    c1 := (set_cell h.xz _).trans h.c1
    res := h.res.otherCell (by have := h.rx; omega) _
    bel := h.bel.setCell (p := ⟨x, i, none⟩) (by have := h.rx; have := h.wr; show _ ≤ x; omega) _
    zl := by simpa using h.zl }
theorem Fz.setL {w wx : World} {r x y z : Nat} {p q : Nat → Nat} (h : Fz w wx r x y z p q) (i n : Nat) : Fz w (wx.setCell ⟨y, i, none⟩ (.int .i64 (n : Nat))) r x y z p (fun j => if (i : Int) = (j : Int) then n else q j) :=
  { h with
    par := h.par.other (Ne.symm h.xy) _
    lev := h.lev.set i n
    c0 := (set_cell h.yz _).trans h.c0
    c1 := (set_cell h.yz _).trans h.c1
    res := h.res.otherCell (by have := h.ry; omega) _
    bel := h.bel.setCell (p := ⟨y, i, none⟩) (by have := h.ry; have := h.wr; show _ ≤ y; omega) _
    zl := by simpa using h.zl }
theorem zeros_at {n j : Nat} (hj : j < n) : (madeCells #[Value.int .i64 0] n)[j]? = some (.int .i64 0) := by
  rw [← Array.getElem?_toList, toList_madeCells_one, List.getElem?_replicate]
  exact if_pos hj
theorem zeros_ex (n : Nat) : ∃ Z, madeCells #[Value.int .i64 0] n = Z ∧ ∀ j, j < n → Z[j]? = some (Value.int .i64 0) := ⟨_, rfl, fun _ h => zeros_at h⟩
theorem heap3 (W : World) (o0 o1 o2 : Obj) : (((W.alloc o0).alloc o1).alloc o2).drew.heap[W.heap.size]? = some o0 ∧ (((W.alloc o0).alloc o1).alloc o2).drew.heap[W.heap.size + 1]? = some o1 ∧ (((W.alloc o0).alloc o1).alloc o2).drew.heap[W.heap.size + 1 + 1]? = some o2 := by
  have e : (((W.alloc o0).alloc o1).alloc o2).drew.heap = ((W.heap.push o0).push o1).push o2 := rfl
  rw [e]
  refine ⟨?_, ?_, ?_⟩
  · rw [Array.getElem?_push, if_neg (by simp <;> omega), Array.getElem?_push, if_neg (by simp <;> omega), Array.getElem?_push, if_pos rfl]
  · rw [Array.getElem?_push, if_neg (by simp <;> omega), Array.getElem?_push, if_pos (by simp)]
  · rw [Array.getElem?_push, if_pos (by simp)]
theorem Fz.made {w W2 wx : World} {r x y z : Nat} {Z : Array Value} (hZ : ∀ j, j < 1000 → Z[j]? = some (Value.int .i64 0)) (h0 : B2 W2 r (.slice none 0 0) (.slice none 0 0)) (hb : Below w.heap.size w W2) (hr : w.heap.size ≤ r)
    (hw : ∃ o0 o1 o2, wx = (((W2.alloc o0).alloc o1).alloc o2).drew) (hx : wx.heap[x]? = some (.cells Z 3)) (hy : wx.heap[y]? = some (.cells Z 3)) (hz : wx.heap[z]? = some (.cells #[row x, row y] 44))
    (ne1 : x ≠ y) (ne2 : x ≠ z) (ne3 : y ≠ z) (lx : W2.heap.size ≤ x) (ly : W2.heap.size ≤ y) (lz : W2.heap.size ≤ z) : Fz w wx r x y z (fun _ => 0) (fun _ => 0) := by
  have bw : Below W2.heap.size W2 wx := by
    obtain ⟨o0, o1, o2, rfl⟩ := hw
    exact ((((Below.refl _ _).alloc (Nat.le_refl _) _).alloc (by simp) _).alloc (by simp; omega) _).drew
  have rr : ∀ u : Nat, wx.heap[u]? = some (.cells Z 3) → RowN wx u (fun _ => 0) := fun u hu => by
    refine ⟨⟨(Array.getElem?_eq_some_iff.1 hu).1, fun j hj => ?_⟩, fun j hj => by simp [World.frozen?, hu]⟩
    simp only [World.cell?, hu]
    exact hZ j hj
  have hl := h0.lt
  exact ⟨rr x hx, rr y hy, by simp [World.cell?, hz], by simp [World.cell?, hz], h0.keep bw, hb.trans (bw.mono hb.size), ne1, ne2, ne3, by omega, by omega, by omega, (Array.getElem?_eq_some_iff.1 hz).1, hr⟩
/-! ### The greatest level -/
theorem foldl_max {n : Int} : ∀ (zs : List Int) (a : Int), n < zs.foldl max a ↔ n < a ∨ ∃ z, z ∈ zs ∧ n < z
  | [], a => by simp
  | x :: r, a => by
    rw [List.foldl_cons, foldl_max r]
    constructor
    · rintro (h | ⟨z, h1, h2⟩)
      · by_cases e : n < a
        · exact Or.inl e
        · exact Or.inr ⟨x, by simp, by omega⟩
      · exact Or.inr ⟨z, by simp [h1], h2⟩
    · rintro (h | ⟨z, h1, h2⟩)
      · exact Or.inl (by omega)
      · rcases List.mem_cons.1 h1 with rfl | h1
        · exact Or.inl (by omega)
        · exact Or.inr ⟨z, h1, h2⟩
theorem maxOf_gt {n : Int} {zs : List Int} (h : zs ≠ []) : n < Lib.maxOf zs ↔ ∃ z, z ∈ zs ∧ n < z := by
  unfold Lib.maxOf
  rw [foldl_max]
  constructor
  · rintro (h1 | h1)
    · cases zs with
      | nil => exact absurd rfl h
      | cons x r => exact ⟨x, by simp, h1⟩
    · exact h1
  · exact Or.inr
def lvs (g : Nat → Nat) : List Int := (List.range 1000).map fun j => (g j : Int)
theorem lvs_len (g : Nat → Nat) : (lvs g).length = 1000 := by unfold lvs; rw [List.length_map, List.length_range]
theorem lvs_at (g : Nat → Nat) {j : Nat} (hj : j < 1000) : (lvs g).getD j 0 = (g j : Int) := by
  unfold lvs
  rw [List.getD, List.getElem?_map, List.getElem?_range hj]
  rfl
theorem lvs_gt (g : Nat → Nat) {n : Nat} : (n : Int) < Lib.maxOf (lvs g) ↔ ∃ j, j < 1000 ∧ n < g j := by
  rw [maxOf_gt (by intro e; have := lvs_len g; rw [e] at this; exact absurd this (by decide))]
  unfold lvs
  constructor
  · rintro ⟨z, hz, h⟩
    obtain ⟨j, hj, rfl⟩ := List.mem_map.1 hz
    exact ⟨j, List.mem_range.1 hj, by omega⟩
  · rintro ⟨j, hj, h⟩
    exact ⟨_, List.mem_map.2 ⟨j, List.mem_range.2 hj, rfl⟩, by omega⟩
theorem lev_ex {l : List Nd} (h : Ord l) {n : Nat} : (∃ j, j < 1000 ∧ n < lev l j) ↔ ∃ k, k < l.length ∧ n < lvl l k := by
  constructor
  · rintro ⟨j, hj, h1⟩
    by_cases hh : Has l j
    · obtain ⟨k, hk, e⟩ := hh
      rw [lev_at h hk e] at h1
      exact ⟨k, hk, h1⟩
    · rw [lev_no hh] at h1; omega
  · rintro ⟨k, hk, h1⟩
    have := h.rng k hk
    refine ⟨(nd l k).cd.toNat, by omega, ?_⟩
    rw [lev_at h hk (by omega)]; exact h1
end Go.Proofs.YtdapmmhbnaknbaaDoor
namespace Go.Proofs.YtdapmmhbnaknbaaDoor
open Go.RowKit Go.WideMaps Go.Maps

def FrP (l : List Nd) (w : World) (e : Ending) (w' : World) : Prop :=
  (frS l = 0 ∧ ∃ x y, e = .returned (.tuple #[fv x y, .int .i64 0]) ∧ Arr w' x (par l) ∧ Arr w' y (lev l) ∧ Below w.heap.size w w' ∧ w.heap.size < x ∧ w.heap.size < y) ∨
  (frS l ≠ 0 ∧ e = .returned (.tuple #[.agg #[.slice none 0 0, .slice none 0 0], .int .i64 (frS l)]) ∧ Below w.heap.size w w')
theorem frS_chk {l : List Nd} (h : chkS l ≠ 0) : frS l = chkS l := by
  unfold chkS at h ⊢
  unfold frS
  by_cases h1 : l.length = 0
  · rw [if_pos h1, if_pos h1]
  rw [if_neg h1] at h ⊢
  rw [if_neg h1]
  by_cases h2 : 600 < l.length
  · rw [if_pos h2, if_pos h2]
  rw [if_neg h2] at h ⊢
  rw [if_neg h2]
  by_cases h3 : fe (ndE l) l.length ≠ 0
  · rw [if_pos h3, if_pos h3]
  rw [if_neg h3] at h ⊢
  rw [if_neg h3]
  by_cases h4 : fe (prE l) l.length ≠ 0
  · rw [if_pos h4, if_pos h4]
  · rw [if_neg h4] at h; exact absurd rfl h
theorem chk_frS {l : List Nd} (h : chkS l = 0) : (l.length ≤ 600 ∧ 0 < l.length ∧ Ord l ∧ Kn l) ∧ frS l = if ∃ k, k < l.length ∧ l.length < lvl l k then 18 else if ∃ k, k < l.length ∧ 8 < lvl l k then 2 else 0 := by
  unfold chkS at h
  unfold frS
  by_cases h1 : l.length = 0
  · rw [if_pos h1] at h; simp at h
  rw [if_neg h1] at h ⊢
  by_cases h2 : 600 < l.length
  · rw [if_pos h2] at h; simp at h
  rw [if_neg h2] at h ⊢
  by_cases h3 : fe (ndE l) l.length ≠ 0
  · rw [if_pos h3] at h; exact absurd h h3
  rw [if_neg h3] at h ⊢
  by_cases h4 : fe (prE l) l.length ≠ 0
  · rw [if_pos h4] at h; simp at h
  rw [if_neg h4]
  exact ⟨⟨by omega, by omega, ord_of (by omega), kn_of (by omega)⟩, rfl⟩
theorem par_lt {l : List Nd} (h : Ord l) (hk : Kn l) (j : Nat) : par l j < 1000 := by
  rcases par_in h hk (c := j) with e | e
  · rw [e]; omega
  · have := has_pos h e; omega
def SN (z x y nb : Nat) (cd : Int) (W : World) : Prop :=
  W.cell? ⟨z, 0, none⟩ = some (row x) ∧ W.cell? ⟨z, 1, none⟩ = some (row y) ∧ W.cell? ⟨nb, 0, none⟩ = some (.int .i64 cd)
set_option maxRecDepth 100000 in
set_option maxHeartbeats 4000000 in
theorem frameOf_c (a : Option Addr) (c : Nat) (l : List Nd) (w : World) (hl : RdN w a l) (hf : Fits l) :
    Calls Tryd.prog 14 #[.slice a l.length c] w (FrP l w) := by
  have h9 := hl.1
  obtain ⟨W1, hW1⟩ : ∃ W1, w.alloc (.cells #[.slice none 0 0, .slice none 0 0] 44) = W1 := ⟨_, rfl⟩
  have B1 : Hid (Below w.heap.size w W1) := by rw [← hW1]; exact bel_one _ _
  have R1 : Hid (B2 W1 w.heap.size (.slice none 0 0) (.slice none 0 0)) := by rw [← hW1]; exact B2.made _ _ _ _
  have HC := Lib.hid (checkNodes_c a c l W1 (hl.below B1.out) hf)
  by_cases hz : chkS l ≠ 0
  · clear hl hf
    obtain ⟨f, hfl⟩ : ∃ f, chkS l = f := ⟨_, rfl⟩
    have HFL : Hid (frS l = f ∧ frS l ≠ 0) := by have e := frS_chk hz; exact ⟨e.trans hfl, by rw [e]; exact hz⟩
    rw [hfl] at HC hz
    have f1 : (f == 0) = false := by rw [beq_eq_false_iff_ne]; exact hz
    have f2 : (f != 0) = true := by rw [bne, f1]; rfl
    clear hfl hz
    go_enter Tryd.func14, Tryd.ntmps14
    go_wp2_with fail
    refine HC.out.mono ?_
    rintro e W2 ⟨rfl, b2⟩
    obtain ⟨W9, hW9⟩ : ∃ W9, two W2 w.heap.size (.slice none 0 0) (.slice none 0 0) = W9 := ⟨_, rfl⟩
    have R2 := R1.out.keep b2
    have R9 : B2 W9 w.heap.size (.slice none 0 0) (.slice none 0 0) := by rw [← hW9]; exact R2.set _ _
    have PP : Hid (FrP l w (.returned (.tuple #[.agg #[.slice none 0 0, .slice none 0 0], .int .i64 f])) W9) := by
      rw [← hW9]
      exact Or.inr ⟨HFL.out.2, by rw [HFL.out.1], below_two (B1.out.trans (b2.mono B1.out.size)) (Nat.le_refl _) _ _⟩
    have q0 := R2.c0
    have q1 := R2.c1
    have g0 := R2.fr 0
    have g1 := R2.fr 1
    obtain ⟨r0, r1, _, _⟩ := id R9
    unfold two at hW9
    clear R9 R2 b2 hW1 R1
    go_wp2_with fail
    exact bodyPost_ret (v := .tuple #[.agg #[.slice none 0 0, .slice none 0 0], .int .i64 f]) (by simp [results, Tryd.results14, go_sem, r0, r1]) rfl PP.out
  have hz : chkS l = 0 := by omega
  obtain ⟨⟨hle, hpos, hO, hK⟩, hFS⟩ := chk_frS hz
  have HO := Lib.hid (And.intro hO hK)
  have HPL := Lib.hid (par_lt hO hK)
  have hle := Lib.hid hle
  have HFS := Lib.hid hFS
  have HL := Lib.hid hl
  rw [hz] at HC
  have hmk := run_make_row' (P := Tryd.prog) 42 3 (.int .i64 0) 8 Tryd.underlying42 infoI rfl .i64 .i64 1000 (by omega) (by omega)
  obtain ⟨Z, hZ, hZ2⟩ := zeros_ex 1000
  rw [show ((1000 : Nat) : Int) = 1000 from rfl, hZ] at hmk
  have HZ := Lib.hid hZ2
  clear hZ hZ2 hl hf hz hO hK hFS hpos
  go_enter Tryd.func14, Tryd.ntmps14
  go_wp2_with fail
  refine HC.out.mono ?_
  rintro e W2 ⟨rfl, b2⟩
  have R2 := Lib.hid (R1.out.keep b2)
  have BW2 := Lib.hid (B1.out.trans (b2.mono B1.out.size))
  clear b2 hW1 R1 HC
  go_wp2_with fail
  go_upto_region 4 with fail
  go_cut [5] from 17 to 22 (fun v5 wx => ∃ x y z : Nat, v5 = .pointer (some ⟨z, 0, none⟩) ∧ Hid (Fz w wx w.heap.size x y z (fun _ => 0) (fun _ => 0)))
  case first =>
    go_region
    · go_wp2_with fail
      go_meet
      case rel => exact ⟨W2.heap.size, W2.heap.size + 1, W2.heap.size + 1 + 1, rfl, Fz.made HZ.out R2.out BW2.out (Nat.le_refl _) ⟨_, _, _, rfl⟩ (heap3 _ _ _ _).1 (heap3 _ _ _ _).2.1 (heap3 _ _ _ _).2.2 (by omega) (by omega) (by omega) (by omega) (by omega) (by omega)⟩
    · go_wp2_with fail
      go_meet
      case rel => exact ⟨W2.heap.size, W2.heap.size + 1 + 1, W2.heap.size + 1, rfl, Fz.made HZ.out R2.out BW2.out (Nat.le_refl _) ⟨_, _, _, rfl⟩ (heap3 _ _ _ _).1 (heap3 _ _ _ _).2.2 (heap3 _ _ _ _).2.1 (by omega) (by omega) (by omega) (by omega) (by omega) (by omega)⟩
    · go_wp2_with fail
      go_meet
      case rel => exact ⟨W2.heap.size + 1, W2.heap.size, W2.heap.size + 1 + 1, rfl, Fz.made HZ.out R2.out BW2.out (Nat.le_refl _) ⟨_, _, _, rfl⟩ (heap3 _ _ _ _).2.1 (heap3 _ _ _ _).1 (heap3 _ _ _ _).2.2 (by omega) (by omega) (by omega) (by omega) (by omega) (by omega)⟩
    · go_wp2_with fail
      go_meet
      case rel => exact ⟨W2.heap.size + 1 + 1, W2.heap.size, W2.heap.size + 1, rfl, Fz.made HZ.out R2.out BW2.out (Nat.le_refl _) ⟨_, _, _, rfl⟩ (heap3 _ _ _ _).2.2 (heap3 _ _ _ _).1 (heap3 _ _ _ _).2.1 (by omega) (by omega) (by omega) (by omega) (by omega) (by omega)⟩
    · go_wp2_with fail
      go_meet
      case rel => exact ⟨W2.heap.size + 1, W2.heap.size + 1 + 1, W2.heap.size, rfl, Fz.made HZ.out R2.out BW2.out (Nat.le_refl _) ⟨_, _, _, rfl⟩ (heap3 _ _ _ _).2.1 (heap3 _ _ _ _).2.2 (heap3 _ _ _ _).1 (by omega) (by omega) (by omega) (by omega) (by omega) (by omega)⟩
    · go_wp2_with fail
      go_meet
      case rel => exact ⟨W2.heap.size + 1 + 1, W2.heap.size + 1, W2.heap.size, rfl, Fz.made HZ.out R2.out BW2.out (Nat.le_refl _) ⟨_, _, _, rfl⟩ (heap3 _ _ _ _).2.2 (heap3 _ _ _ _).2.1 (heap3 _ _ _ _).1 (by omega) (by omega) (by omega) (by omega) (by omega) (by omega)⟩
  case' rest => skip
  obtain ⟨x, y, z, rfl, FZ⟩ := hcut
  clear R2 BW2 hmk HZ
  obtain ⟨r, hr⟩ : ∃ r, w.heap.size = r := ⟨_, rfl⟩
  rw [hr] at FZ
  go_wp2
  go_loopw [22] (fun i wr => ∃ k : Nat, k ≤ l.length ∧ i = .int .i64 k ∧ Hid (Fz w wr r x y z (fun c => parK l c k) (fun _ => 0))) (fun i _ => l.length - (intOf i).toNat)
  case atStart => exact ⟨0, Nat.zero_le _, rfl, FZ.out⟩
  case round =>
    clear FZ
    obtain ⟨k, hk, rfl, hS⟩ := hrel
    by_cases hlt : k < l.length
    · obtain ⟨b', off, rfl, u0, u1, u2⟩ := (HL.out.below hS.out.bel).at_ hlt
      have hlt' : (k : Int) < (l.length : Int) := by omega
      obtain ⟨W3, hW3⟩ : ∃ W3, wr.alloc (.cells #[.int .i64 (nd l k).cd, .int .i64 (nd l k).pr, .string (nd l k).ti] 66) = W3 := ⟨_, rfl⟩
      have N3 : Hid (NodeB wr W3 (nd l k)) := by unfold Hid; rw [← hW3]; exact node_b _ _
      have F3 := Lib.hid (hS.out.keep N3.out.1)
      obtain ⟨cd, hcd⟩ : ∃ cd : Nat, (nd l k).cd = cd := ⟨(nd l k).cd.toNat, by have := HO.out.1.rng k hlt; omega⟩
      have hcd9 : (cd : Int) < 1000 := by have := HO.out.1.rng k hlt; omega
      obtain ⟨pr, hpr⟩ : ∃ pr : Nat, (nd l k).pr = pr := ⟨(nd l k).pr.toNat, by
        rcases HO.out.2 k hlt with e | ⟨j, hj, e⟩
        · rw [e]; rfl
        · have := HO.out.1.rng j hj; omega⟩
      have F4 := Lib.hid (F3.out.setP cd pr)
      have NX : Hid (Fz w (W3.setCell ⟨x, cd, none⟩ (.int .i64 (pr : Nat))) r x y z (fun c => parK l c (k + 1)) (fun _ => 0)) := by
        have e : (fun j : Nat => if (cd : Int) = (j : Int) then pr else parK l j k) = fun c => parK l c (k + 1) := by
          funext j
          show _ = if (nd l k).cd = (j : Int) then (nd l k).pr.toNat else parK l j k
          rw [hcd, hpr, Int.toNat_natCast]
        rw [← e]; exact F4.out
      have v0 := N3.out.2.2.1
      have v1 := N3.out.2.2.2.1
      rw [hcd] at v0 u0 hW3
      rw [hpr] at v1 u1 hW3
      have z0 := F3.out.c0
      have s0 := F3.out.par.arr.2 cd (by omega)
      have s1 := F3.out.par.fr cd (by omega)
      clear hS F3 F4 N3
      go_wp2
      go_roundw
      case rel => exact ⟨k + 1, by omega, by go_num, NX.out⟩
      case measure => simp [intOf]; omega
    · obtain rfl : k = l.length := by omega
      clear hlt
      have FZ1 : Hid (Fz w wr r x y z (par l) (fun _ => 0)) := hS.out
      clear hS
      obtain ⟨wA, hwA⟩ : ∃ x : World, x = wr := ⟨wr, rfl⟩
      subst hwA
      go_wp2
      go_loopw [36] (fun i wr => ∃ k : Nat, k ≤ l.length ∧ i = .int .i64 k ∧ Hid (Fz w wr r x y z (par l) (fun c => lvK l c k))) (fun i _ => l.length - (intOf i).toNat)
      case atStart => exact ⟨0, Nat.zero_le _, rfl, FZ1.out⟩
      case round =>
        clear FZ1
        obtain ⟨k, hk, rfl, hS⟩ := hrel
        by_cases hlt : k < l.length
        · obtain ⟨b', off, rfl, u0, u1, u2⟩ := (HL.out.below hS.out.bel).at_ hlt
          have hlt' : (k : Int) < (l.length : Int) := by omega
          obtain ⟨W3, hW3⟩ : ∃ W3, wr.alloc (.cells #[.int .i64 (nd l k).cd, .int .i64 (nd l k).pr, .string (nd l k).ti] 66) = W3 := ⟨_, rfl⟩
          have N3 : Hid (NodeB wr W3 (nd l k)) := by unfold Hid; rw [← hW3]; exact node_b _ _
          have F3 := Lib.hid (hS.out.keep N3.out.1)
          have hny : Hid (y ≠ wr.heap.size) := by have := hS.out.lev.arr.1; unfold Hid; omega
          have nlt : Hid (wr.heap.size < W3.heap.size) := by have := N3.out.2.1; unfold Hid; omega
          obtain ⟨cd, hcd⟩ : ∃ cd : Nat, (nd l k).cd = cd := ⟨(nd l k).cd.toNat, by have := HO.out.1.rng k hlt; omega⟩
          have hcd9 : (cd : Int) < 1000 := by have := HO.out.1.rng k hlt; omega
          have v0 := N3.out.2.2.1
          rw [hcd] at v0 u0 hW3
          have hcd := Lib.hid hcd
          have hl6 : (l.length : Int) ≤ 600 := by have := hle.out; omega
          have hl7 : (((l.length + 1 : Nat)) : Int) = (l.length : Int) + 1 := by omega
          have hl8 : IntKind.i64.wrap ((l.length : Int) + 1) = ((l.length + 1 : Nat) : Int) := by rw [IntKind.wrap_i64] <;> omega
          clear hS N3 hl7
          go_wp2_with fail
          clear hW3 u0 u1 u2
          have JF := F3.out.keep (Below.refl _ _).drew
          have J1 : Hid (Fz w W3.drew r x y z (par l) (fun c => lvK l c k) ∧ W3.drew.cell? ⟨wr.heap.size, 0, none⟩ = some (.int .i64 (cd : Nat)) ∧ wr.heap.size < W3.drew.heap.size) := ⟨JF, v0, nlt.out⟩
          refine wp_region_noPanic ?_
          refine wp_region_held_drew (S := SN z x y wr.heap.size cd) (by kernel_rfl) ⟨J1.out.1.c0, J1.out.1.c1, J1.out.2.1⟩ (fun hS => ?_)
          obtain ⟨V0, hV0⟩ : ∃ W, W3.drew = W := ⟨_, rfl⟩
          rw [hV0] at hS J1 ⊢
          clear hV0 JF
          refine wpAnyH_take (i := 0) (v := ?v0z1) rfl (by kernel_rfl) (by kernel_rfl) (by kernel_rfl) (fun _ _ _ h => h) (Or.inl ⟨by rfl, ?hy0z1⟩) (by assumption) ?rest0z1
          case hy0z1 =>
            intro w hSw
            dsimp only [SN] at hSw
            go_simp
            try with_reducible rfl
          simp only [Act.put, List.getElem_toArray, List.getElem_cons_succ, List.getElem_cons_zero, List.setIfInBounds_toArray, List.set_cons_zero, List.set_cons_succ]
          refine wpAnyH_take (i := 1) (v := ?v1z2) rfl (by kernel_rfl) (by kernel_rfl) (by kernel_rfl) (fun _ _ _ h => h) (Or.inl ⟨by rfl, ?hy1z2⟩) (by assumption) ?rest1z2
          case hy1z2 =>
            intro w hSw
            dsimp only [SN] at hSw
            go_simp
            try with_reducible rfl
          simp only [Act.put, List.getElem_toArray, List.getElem_cons_succ, List.getElem_cons_zero, List.setIfInBounds_toArray, List.set_cons_zero, List.set_cons_succ]
          refine wpAnyH_take (i := 2) (v := ?v2z3) rfl (by kernel_rfl) (by kernel_rfl) (by kernel_rfl) (fun _ _ _ h => h) (Or.inl ⟨by rfl, ?hy2z3⟩) (by assumption) ?rest2z3
          case hy2z3 =>
            intro w hSw
            dsimp only [SN] at hSw
            go_simp
            try with_reducible rfl
          simp only [Act.put, List.getElem_toArray, List.getElem_cons_succ, List.getElem_cons_zero, List.setIfInBounds_toArray, List.set_cons_zero, List.set_cons_succ]
          refine wpAnyH_take (i := 3) (v := ?v3z4) rfl (by kernel_rfl) (by kernel_rfl) (by kernel_rfl) (fun _ _ _ h => h) (Or.inl ⟨by rfl, ?hy3z4⟩) (by assumption) ?rest3z4
          case hy3z4 =>
            intro w hSw
            dsimp only [SN] at hSw
            go_simp
            try with_reducible rfl
          simp only [Act.put, List.getElem_toArray, List.getElem_cons_succ, List.getElem_cons_zero, List.setIfInBounds_toArray, List.set_cons_zero, List.set_cons_succ]
          refine wpAnyH_take (i := 4) (v := ?v4z5) rfl (by kernel_rfl) (by kernel_rfl) (by kernel_rfl) (fun _ _ _ h => h) (Or.inl ⟨by rfl, ?hy4z5⟩) (by assumption) ?rest4z5
          case hy4z5 =>
            intro w hSw
            dsimp only [SN] at hSw
            go_simp
            try with_reducible rfl
          simp only [Act.put, List.getElem_toArray, List.getElem_cons_succ, List.getElem_cons_zero, List.setIfInBounds_toArray, List.set_cons_zero, List.set_cons_succ]
          refine wpAnyH_take (i := 5) (v := ?v5z6) rfl (by kernel_rfl) (by kernel_rfl) (by kernel_rfl) (fun _ _ _ h => h) (Or.inl ⟨by rfl, ?hy5z6⟩) (by assumption) ?rest5z6
          case hy5z6 =>
            intro w hSw
            dsimp only [SN] at hSw
            go_simp
            try with_reducible rfl
          simp only [Act.put, List.getElem_toArray, List.getElem_cons_succ, List.getElem_cons_zero, List.setIfInBounds_toArray, List.set_cons_zero, List.set_cons_succ]
          refine wpAnyH_take (i := 6) (v := ?v6z7) rfl (by kernel_rfl) (by kernel_rfl) (by kernel_rfl) (fun _ _ _ h => h) (Or.inl ⟨by rfl, ?hy6z7⟩) (by assumption) ?rest6z7
          case hy6z7 =>
            intro w hSw
            dsimp only [SN] at hSw
            go_simp
            try with_reducible rfl
          simp only [Act.put, List.getElem_toArray, List.getElem_cons_succ, List.getElem_cons_zero, List.setIfInBounds_toArray, List.set_cons_zero, List.set_cons_succ]
          refine wpAnyH_take (i := 7) (v := ?v7z8) rfl (by kernel_rfl) (by kernel_rfl) (by kernel_rfl) (fun _ _ _ h => h) (Or.inl ⟨by rfl, ?hy7z8⟩) (by assumption) ?rest7z8
          case hy7z8 =>
            intro w hSw
            dsimp only [SN] at hSw
            go_simp
            try with_reducible rfl
          simp only [Act.put, List.getElem_toArray, List.getElem_cons_succ, List.getElem_cons_zero, List.setIfInBounds_toArray, List.set_cons_zero, List.set_cons_succ]
          refine wpAnyH_take (i := 8) (v := ?v8z9) rfl (by kernel_rfl) (by kernel_rfl) (by kernel_rfl) (fun _ _ _ h => h) (Or.inl ⟨by rfl, ?hy8z9⟩) (by assumption) ?rest8z9
          case hy8z9 =>
            intro w hSw
            dsimp only [SN] at hSw
            go_simp
            try with_reducible rfl
          simp only [Act.put, List.getElem_toArray, List.getElem_cons_succ, List.getElem_cons_zero, List.setIfInBounds_toArray, List.set_cons_zero, List.set_cons_succ]
          refine wpAnyH_take (i := 9) (v := ?v9z10) rfl (by kernel_rfl) (by kernel_rfl) (by kernel_rfl) (fun _ _ _ h => h) (Or.inl ⟨by rfl, ?hy9z10⟩) (by assumption) ?rest9z10
          case hy9z10 =>
            intro w hSw
            dsimp only [SN] at hSw
            go_simp
            try with_reducible rfl
          simp only [Act.put, List.getElem_toArray, List.getElem_cons_succ, List.getElem_cons_zero, List.setIfInBounds_toArray, List.set_cons_zero, List.set_cons_succ]
          refine wpAnyH_ready (rs := [10]) (by kernel_rfl) (by simp) ?_
          refine AllReadyH.cons rfl (fun K hK => ?_) AllReadyH.nil
          go_simp
          (refine (climb_c x y (par l) cd (l.length + 1) V0 J1.out.1.par.arr (by omega) (fun j _ => HPL.out j) (by have := hle.out; omega)).mono ?_)
          rintro e V1 ⟨rfl, bc⟩
          try go_simp
          have J2 : Hid (Fz w V1 r x y z (par l) (fun c => lvK l c k)) := J1.out.1.keep bc
          have hT : SN z x y wr.heap.size cd V1 := ⟨J2.out.c0, J2.out.c1, (bc.cell (p := ⟨wr.heap.size, 0, none⟩) J1.out.2.2).trans J1.out.2.1⟩
          refine hK.out _ _ hT (fun _ => ?_)
          clear hK K hS bc
          have hS := hT
          clear hT
          try simp only [Act.put, List.setIfInBounds_toArray, List.set_cons_zero, List.set_cons_succ]
          refine wpAnyH_take (i := 11) (v := ?v11z11) rfl (by kernel_rfl) (by kernel_rfl) (by kernel_rfl) (fun _ _ _ h => h) (Or.inl ⟨by rfl, ?hy11z11⟩) (by assumption) ?rest11z11
          case hy11z11 =>
            intro w hSw
            dsimp only [SN] at hSw
            go_simp
            try with_reducible rfl
          simp only [Act.put, List.getElem_toArray, List.getElem_cons_succ, List.getElem_cons_zero, List.setIfInBounds_toArray, List.set_cons_zero, List.set_cons_succ]
          refine wpAnyH_ready (rs := [12]) (by kernel_rfl) (by simp) ?_
          refine AllReadyH.cons rfl (fun K hK => ?_) AllReadyH.nil
          have s0 := J2.out.lev.arr.2 cd (by omega)
          have s1 := J2.out.lev.fr cd (by omega)
          go_simp
          have F4 := Lib.hid (J2.out.setL cd (clm (par l) (l.length + 1) cd))
          have NX : Hid (Fz w (V1.setCell ⟨y, cd, none⟩ (.int .i64 (clm (par l) (l.length + 1) cd : Nat))) r x y z (par l) (fun c => lvK l c (k + 1))) := by
            have e : (fun j : Nat => if (cd : Int) = (j : Int) then clm (par l) (l.length + 1) cd else lvK l j k) = fun c => lvK l c (k + 1) := by
              funext j
              show _ = if (nd l k).cd = (j : Int) then lvl l k else lvK l j k
              unfold lvl
              rw [hcd.out, Int.toNat_natCast]
            rw [← e]; exact F4.out
          have hT : SN z x y wr.heap.size cd (V1.setCell ⟨y, cd, none⟩ (.int .i64 (clm (par l) (l.length + 1) cd : Nat))) :=
            ⟨NX.out.c0, NX.out.c1, by rw [set_cell (hny.out)]; exact hS.2.2⟩
          refine hK.out _ _ hT (fun _ => ?_)
          clear hK K hS
          try simp only [Act.put, List.setIfInBounds_toArray, List.set_cons_zero, List.set_cons_succ]
          refine wpAnyH_done (by kernel_rfl) ?_ _
          refine NoPanic.normal ?_
          clear hT s0 s1 F4 J2
          go_wp2
          go_roundw
          case rel => exact ⟨k + 1, by omega, by go_num, NX.out⟩
          case measure => simp [intOf]; omega
        · obtain rfl : k = l.length := by omega
          clear hlt
          have FZ2 : Hid (Fz w wr r x y z (par l) (lev l)) := hS.out
          clear hS
          obtain ⟨wB, hwB⟩ : ∃ x : World, x = wr := ⟨wr, rfl⟩
          subst hwB
          have HM := Lib.hid (Tryd.slices_Max_int y 0 1000 1000 (lvs (lev l)) wB (by omega) (by rw [lvs_len]; omega) (by omega) (fun j hj => by
            rw [lvs_len] at hj
            rw [lvs_at _ hj, Nat.zero_add]
            exact FZ2.out.lev.arr.2 j hj))
          obtain ⟨M, hM⟩ : ∃ M, Lib.maxOf (lvs (lev l)) = M := ⟨_, rfl⟩
          have hM1 : ∀ n : Nat, ((n : Int) < M ↔ ∃ k, k < l.length ∧ n < lvl l k) := fun n => by rw [← hM, lvs_gt, lev_ex HO.out.1]
          have e9 : (lvs (lev l)).take 1000 = lvs (lev l) := List.take_of_length_le (by rw [lvs_len]; omega)
          rw [e9, hM] at HM
          have q1 := FZ2.out.c1
          have HFR := Lib.hid HFS.out
          clear hM e9
          by_cases m1 : (l.length : Int) < M
          · have RR : Hid (frS l = 18) := by unfold Hid; rw [HFR.out, if_pos ((hM1 _).1 m1)]
            clear hM1
            go_wp2_with fail
            (with_reducible refine HM.out.mono ?_)
            rintro e w' ⟨rfl, hw⟩
            have hw := hw.symm
            subst hw
            clear q1
            obtain ⟨W9, hW9⟩ : ∃ W9, two wB r (.slice none 0 0) (.slice none 0 0) = W9 := ⟨_, rfl⟩
            have R9 : B2 W9 r (.slice none 0 0) (.slice none 0 0) := by rw [← hW9]; exact FZ2.out.res.set _ _
            have PP : Hid (FrP l w (.returned (.tuple #[.agg #[.slice none 0 0, .slice none 0 0], .int .i64 18])) W9) := by
              rw [← hW9]
              exact Or.inr ⟨by rw [RR.out]; decide, by rw [RR.out], below_two FZ2.out.bel FZ2.out.wr _ _⟩
            have q0 := FZ2.out.res.c0
            have q1 := FZ2.out.res.c1
            have g0 := FZ2.out.res.fr 0
            have g1 := FZ2.out.res.fr 1
            obtain ⟨r0, r1, _, _⟩ := id R9
            unfold two at hW9
            clear R9
            go_wp2_with fail
            exact bodyPost_ret (v := .tuple #[.agg #[.slice none 0 0, .slice none 0 0], .int .i64 18]) (by simp [results, Tryd.results14, go_sem, r0, r1]) rfl PP.out
          by_cases m2 : 8 < M
          · have RR : Hid (frS l = 2) := by unfold Hid; rw [HFR.out, if_neg (fun h => m1 ((hM1 _).2 h)), if_pos ((hM1 8).1 m2)]
            clear hM1
            go_wp2_with fail
            (with_reducible refine HM.out.mono ?_)
            rintro e w' ⟨rfl, hw⟩
            have hw := hw.symm
            subst hw
            clear q1
            obtain ⟨W9, hW9⟩ : ∃ W9, two wB r (.slice none 0 0) (.slice none 0 0) = W9 := ⟨_, rfl⟩
            have R9 : B2 W9 r (.slice none 0 0) (.slice none 0 0) := by rw [← hW9]; exact FZ2.out.res.set _ _
            have PP : Hid (FrP l w (.returned (.tuple #[.agg #[.slice none 0 0, .slice none 0 0], .int .i64 2])) W9) := by
              rw [← hW9]
              exact Or.inr ⟨by rw [RR.out]; decide, by rw [RR.out], below_two FZ2.out.bel FZ2.out.wr _ _⟩
            have q0 := FZ2.out.res.c0
            have q1 := FZ2.out.res.c1
            have g0 := FZ2.out.res.fr 0
            have g1 := FZ2.out.res.fr 1
            obtain ⟨r0, r1, _, _⟩ := id R9
            unfold two at hW9
            clear R9
            go_wp2_with fail
            exact bodyPost_ret (v := .tuple #[.agg #[.slice none 0 0, .slice none 0 0], .int .i64 2]) (by simp [results, Tryd.results14, go_sem, r0, r1]) rfl PP.out
          · have RR : Hid (frS l = 0) := by unfold Hid; rw [HFR.out, if_neg (fun h => m1 ((hM1 _).2 h)), if_neg (fun h => m2 ((hM1 8).2 h))]
            clear hM1
            go_wp2_with fail
            (with_reducible refine HM.out.mono ?_)
            rintro e w' ⟨rfl, hw⟩
            have hw := hw.symm
            subst hw
            clear q1
            have z0 := FZ2.out.c0
            have z1 := FZ2.out.c1
            obtain ⟨W9, hW9⟩ : ∃ W9, two wB r (row x) (row y) = W9 := ⟨_, rfl⟩
            have R9 : B2 W9 r (row x) (row y) := by rw [← hW9]; exact FZ2.out.res.set _ _
            have PP : Hid (FrP l w (.returned (.tuple #[.agg #[row x, row y], .int .i64 0])) W9) := by
              rw [← hW9]
              exact Or.inl ⟨RR.out, x, y, rfl, (FZ2.out.par.two (by have := FZ2.out.rx; omega) _ _).arr, (FZ2.out.lev.two (by have := FZ2.out.ry; omega) _ _).arr, below_two FZ2.out.bel FZ2.out.wr _ _, by have := FZ2.out.rx; have := FZ2.out.wr; omega, by have := FZ2.out.ry; have := FZ2.out.wr; omega⟩
            have q0 := FZ2.out.res.c0
            have q1 := FZ2.out.res.c1
            have g0 := FZ2.out.res.fr 0
            have g1 := FZ2.out.res.fr 1
            obtain ⟨r0, r1, _, _⟩ := id R9
            unfold two at hW9
            clear R9
            go_wp2_with fail
            exact bodyPost_ret (v := .tuple #[.agg #[row x, row y], .int .i64 0]) (by simp [results, Tryd.results14, go_sem, r0, r1]) rfl PP.out
end Go.Proofs.YtdapmmhbnaknbaaDoor
