/-
  Package code: casesOf.
-/
import Derived.Test.YthdmodmplpoejaaDoorCdRuns
namespace Go.Proofs.YthdmodmplpoejaaDoor
open Go.RowKit Go.WideMaps Go.Maps

/-- What has been given out ahead of coding k. -/
def outK (C : List Cg) (k : Nat) : List (List Cg) := if k < C.length then cas C k else cases_ C
def begK (C : List Cg) (k : Nat) : Nat := if k < C.length then beg C k else C.length
def CsP (C : List Cg) (w : World) (e : Ending) (w' : World) : Prop := ∃ a c, e = .returned (.slice a (cases_ C).length c) ∧ RdR w' a (cases_ C) ∧ Below w.heap.size w w'
theorem outK_in {C : List Cg} {k : Nat} (h : k < C.length) : outK C k = cas C k ∧ begK C k = beg C k := by
  unfold outK begK
  rw [if_pos h, if_pos h]
  exact ⟨rfl, rfl⟩
theorem out_last {C : List Cg} {k : Nat} (h : k + 1 = C.length) : outK C (k + 1) = outK C k ++ [seg C (begK C k) (k + 1 - begK C k)] ∧ begK C (k + 1) = k + 1 := by
  have h1 := outK_in (C := C) (k := k) (by omega)
  rw [h1.1, h1.2]
  unfold outK begK
  rw [if_neg (by omega), if_neg (by omega)]
  unfold cases_
  rw [if_neg (by omega), ← h, Nat.add_sub_cancel]
  exact ⟨rfl, rfl⟩
theorem out_new {C : List Cg} {k : Nat} (h : k + 1 < C.length) (hn : (cg C (k + 1)).ca ≠ (cg C k).ca) : outK C (k + 1) = outK C k ++ [seg C (begK C k) (k + 1 - begK C k)] ∧ begK C (k + 1) = k + 1 := by
  have hN : New C (k + 1) := .inr hn
  have h1 := outK_in (C := C) (k := k) (by omega)
  have h2 := outK_in h
  rw [h1.1, h1.2, h2.1, h2.2, cas_new hN, beg_new hN]
  exact ⟨rfl, rfl⟩
theorem out_old {C : List Cg} {k : Nat} (h : k + 1 < C.length) (hn : (cg C (k + 1)).ca = (cg C k).ca) : outK C (k + 1) = outK C k ∧ begK C (k + 1) = begK C k := by
  have hN : ¬ New C (k + 1) := fun h => by rcases h with h | h; omega; exact h hn
  have h1 := outK_in (C := C) (k := k) (by omega)
  have h2 := outK_in h
  rw [h1.1, h1.2, h2.1, h2.2, cas_old hN, beg_old hN]
  exact ⟨rfl, rfl⟩
theorem begK_le {C : List Cg} {k : Nat} (h : k < C.length) : begK C k ≤ k := by unfold begK; rw [if_pos h]; exact beg_le C k
theorem outK_len {C : List Cg} {k : Nat} (h : k < C.length) : (outK C k).length ≤ k := by unfold outK; rw [if_pos h]; exact cas_len C k
structure InG (w wr : World) (v : Value) (C : List Cg) (k : Nat) : Prop where
  own : OwnR w wr w.heap.size v (outK C k)
  bel : Below w.heap.size w wr
set_option maxRecDepth 100000 in
set_option maxHeartbeats 4000000 in
theorem casesOf_c (a : Option Addr) (c : Nat) (C : List Cg) (w : World) (hC : RdC w a C) (hn : C.length ≤ 20000) (hcap : C.length ≤ c) :
    Calls Tryd.prog 48 #[.slice a C.length c] w (CsP C w) := by
  obtain ⟨i0, hi, hz0, hz1, hz2⟩ := info_parts infoS
  have HC := Lib.hid hC
  have h9 := hC.1
  clear hC
  go_enter Tryd.func48, Tryd.ntmps48
  go_wp2
  go_loopw [3, 4, 9] (fun v f i wr => ∃ k : Nat, k ≤ C.length ∧ i = .int .i64 k ∧ f = .int .i64 (begK C k : Nat) ∧ Hid (InG w wr v C k)) (fun _ _ i _ => C.length - (intOf i).toNat)
  case atStart =>
    have e1 : outK C 0 = [] := by unfold outK cases_; split; rfl; rw [if_pos (by omega)]
    have e2 : begK C 0 = 0 := by unfold begK; split; rfl; omega
    exact ⟨0, Nat.zero_le _, rfl, by rw [e2]; rfl, by rw [e1]; exact OwnR.nil_ _ _ _, Below.refl _ _⟩
  case round =>
    obtain ⟨k, hk, rfl, rfl, hS⟩ := hrel
    by_cases hlt : k < C.length
    · obtain ⟨b', off, rfl, u0, u1, u2⟩ := (HC.out.below hS.out.bel).at_ hlt
      have hlt' : (k : Int) < (C.length : Int) := by omega
      obtain ⟨W1, hW1⟩ : ∃ W1, wr.alloc (.cells #[.int .i64 (cg C k).ca, .int .i64 (cg C k).co, .int .i64 (cg C k).cd] 49) = W1 := ⟨_, rfl⟩
      have N1 : Hid (CodB wr W1 (cg C k)) := by unfold Hid; rw [← hW1]; exact cod_b _ _
      obtain ⟨xs, hown, hx⟩ := hS.out.own
      have BEL := Lib.hid hS.out.bel
      have HX := Lib.hid hx
      have LE := Lib.hid (begK_le hlt)
      have LN := Lib.hid (outK_len hlt)
      have hxl : Hid (xs.length = (outK C k).length) := by
        have := hown.1
        unfold Hid; omega
      have O1 : Hid (W1.ownsRow w.heap.size 35 1 u3 (outK C k).length xs ∧ Below w.heap.size w W1) := ⟨own_keep hown N1.out.1, BEL.out.trans (N1.out.1.mono BEL.out.size)⟩
      have v0 := N1.out.2.c0
      clear hown hx hS
      obtain ⟨f, hf⟩ : ∃ f, begK C k = f := ⟨_, rfl⟩
      rw [hf] at LE ⊢
      have DD : Hid (RdC w (some ⟨b', off + f * 3, none⟩) (seg C f (k + 1 - f))) := RdC.part HC.out (by have := LE.out; omega)
      have hcf : ¬ c = f := by have := LE.out; omega
      have hfl : f ≤ C.length := by have := LE.out; omega
      have hfk : f ≤ k + 1 := by have := LE.out; omega
      by_cases hlast : k + 1 = C.length
      · have E := Lib.hid (out_last hlast)
        rw [hf] at E
        have hl1 : (k : Int) + 1 = (C.length : Int) := by omega
        go_wp2_with fail
        go_quiet (fail)
        have O2 : Hid ((W1.drewN nq).ownsRow w.heap.size 35 1 u3 (outK C k).length xs ∧ Below w.heap.size w (W1.drewN nq)) := ⟨own_keep O1.out.1 (below_drewN (Below.refl _ _) nq), below_drewN O1.out.2 nq⟩
        clear O1 hW1 u0 u1 u2 v0 N1 
        generalize W1.drewN nq = W2 at O2 ⊢
        go_wp2_with (at_builtin; refine wpList_append_own_at _ rfl _ _ 88 rfl w.heap.size 35 i0 (.slice none 0 0) 1 24 Tryd.underlying88 hi hz0 hz1 hz2 rfl (by decide) _ _ _ rfl (O2.out.1.alloc _) ⟨W2.heap.size, 0, none⟩ 1 1 [.slice (some ⟨b', off + f * 3, none⟩) (C.length - f) (c - f)] rfl rfl (cell_one_new _ _ _) (by simp [Value.oneCell']) ?c3 ?c4 ?c5 ?_)
        case c3 => have hh : (outK C k).length ≤ k := LN.out; unfold maxLen; omega
        case c4 => have hh : (outK C k).length ≤ k := LN.out; omega
        case c5 => have := O2.out.2.size; simp; omega
        intro v' w4 hown' hgrow _ hloc
        have NX : Hid (InG w w4 v' C (k + 1)) := by
          have hD : (seg C f (k + 1 - f)).length = C.length - f := by rw [seg_len]; omega
          refine ⟨?_, ?_⟩
          · rw [E.out.1]
            exact OwnR.snoc HX.out hxl.out (by rw [hD]; exact hown') DD.out
          · have hs := O2.out.2.size
            exact (O2.out.2.alloc hs _).grown hgrow (by simp; omega) (fun g hg => (O2.out.1.lt g hg).1)
        clear hown' hgrow hloc O2 HX hxl DD
        go_wp2
        go_roundw
        case rel => exact ⟨k + 1, by omega, by go_num, by rw [E.out.2]; go_num, NX.out⟩
        case measure => simp [intOf]; omega
      · have hl1 : ¬ (k : Int) + 1 = (C.length : Int) := by omega
        obtain ⟨_, _, e, p0, _, _⟩ := (HC.out.below O1.out.2).at_ (k := k + 1) (by omega)
        injection e with e; injection e with e1 e2; subst e1; subst e2
        have hk1 : (k : Int) + 1 < (C.length : Int) := by omega
        have hk9 : (k : Int) < 20000 := by omega
        have hl2 : ((k : Int) + 1 == (C.length : Int)) = false := by rw [beq_eq_false_iff_ne]; exact hl1
        have hl3 : decide ((k : Int) + 1 = (C.length : Int)) = false := decide_eq_false hl1
        by_cases hne : (cg C (k + 1)).ca = (cg C k).ca
        · have E := Lib.hid (out_old (C := C) (k := k) (by omega) hne)
          rw [hf] at E
          have hne0 : ((cg C (k + 1)).ca == (cg C k).ca) = true := by rw [beq_iff_eq]; exact hne
          have hne1 : ((cg C (k + 1)).ca != (cg C k).ca) = false := by rw [bne, hne0]; rfl
          clear hlast hne
          go_wp2_with fail
          go_quiet (fail)
          have NX : Hid (InG w (W1.drewN nq) u3 C (k + 1)) := by
            refine ⟨?_, below_drewN O1.out.2 nq⟩
            rw [E.out.1]
            exact ⟨xs, own_keep O1.out.1 (below_drewN (Below.refl _ _) nq), HX.out⟩
          clear O1 hW1 u0 u1 u2 v0 N1 p0 HX hxl DD
          go_wp2
          go_roundw
          case rel => exact ⟨k + 1, by omega, by go_num, by rw [E.out.2], NX.out⟩
          case measure => simp [intOf]; omega
        · have E := Lib.hid (out_new (C := C) (k := k) (by omega) hne)
          rw [hf] at E
          have hne0 : ((cg C (k + 1)).ca == (cg C k).ca) = false := by rw [beq_eq_false_iff_ne]; exact hne
          have hne1 : ((cg C (k + 1)).ca != (cg C k).ca) = true := by rw [bne, hne0]; rfl
          clear hlast hne
          go_wp2_with fail
          go_quiet (fail)
          have O2 : Hid ((W1.drewN nq).ownsRow w.heap.size 35 1 u3 (outK C k).length xs ∧ Below w.heap.size w (W1.drewN nq)) := ⟨own_keep O1.out.1 (below_drewN (Below.refl _ _) nq), below_drewN O1.out.2 nq⟩
          clear O1 hW1 u0 u1 u2 v0 N1 p0
          generalize W1.drewN nq = W2 at O2 ⊢
          go_wp2_with (at_builtin; refine wpList_append_own_at _ rfl _ _ 88 rfl w.heap.size 35 i0 (.slice none 0 0) 1 24 Tryd.underlying88 hi hz0 hz1 hz2 rfl (by decide) _ _ _ rfl (O2.out.1.alloc _) ⟨W2.heap.size, 0, none⟩ 1 1 [.slice (some ⟨b', off + f * 3, none⟩) ((k + 1) - f) (c - f)] rfl rfl (cell_one_new _ _ _) (by simp [Value.oneCell']) ?c3 ?c4 ?c5 ?_)
          case c3 => have hh : (outK C k).length ≤ k := LN.out; unfold maxLen; omega
          case c4 => have hh : (outK C k).length ≤ k := LN.out; omega
          case c5 => have := O2.out.2.size; simp; omega
          intro v' w4 hown' hgrow _ hloc
          have NX : Hid (InG w w4 v' C (k + 1)) := by
            have hD : (seg C f (k + 1 - f)).length = (k + 1) - f := by rw [seg_len]
            refine ⟨?_, ?_⟩
            · rw [E.out.1]
              exact OwnR.snoc HX.out hxl.out (by rw [hD]; exact hown') DD.out
            · have hs := O2.out.2.size
              exact (O2.out.2.alloc hs _).grown hgrow (by simp; omega) (fun g hg => (O2.out.1.lt g hg).1)
          clear hown' hgrow hloc O2 HX hxl DD
          go_wp2
          go_roundw
          case rel => exact ⟨k + 1, by omega, by go_num, by rw [E.out.2]; go_num, NX.out⟩
          case measure => simp [intOf]; omega
    · obtain rfl : k = C.length := by omega
      have e : outK C C.length = cases_ C := by unfold outK; rw [if_neg (Nat.lt_irrefl _)]
      have R : Hid (CsP C w (.returned u3) wr) := by
        have h := hS.out.own
        rw [e] at h
        obtain ⟨a', c', rfl, hr⟩ := h.rd hS.out.bel
        exact ⟨a', c', rfl, hr, hS.out.bel⟩
      clear hlt hS e
      go_wp2
      go_ret
      exact R.out
end Go.Proofs.YthdmodmplpoejaaDoor
