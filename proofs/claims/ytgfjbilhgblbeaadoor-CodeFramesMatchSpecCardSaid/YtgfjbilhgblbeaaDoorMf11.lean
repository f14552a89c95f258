/-
  Package code: casesOf.
  Package code: Finals.
  The reference of package code: known, Within.
-/
import Derived.Test.YtgfjbilhgblbeaaDoorMf10
import Derived.Test.YtgfjbilhgblbeaaDoorMf05
import Derived.Test.YtgfjbilhgblbeaaDoorMf08
namespace Go.Proofs.YtgfjbilhgblbeaaDoor
open Go.RowKit Go.WideMaps Go.Maps

/-- What has been given out ahead of coding k. -/
def outK (C : List Cg) (k : Nat) : List (List Cg) := if k < C.length then cas C k else cases_ C
def begK (C : List Cg) (k : Nat) : Nat := if k < C.length then beg C k else C.length
def CsP (C : List Cg) (w : World) (e : Ending) (w' : World) : Prop := ∃ a c, e = .returned (.slice a (cases_ C).length c) ∧ RdR w' a (cases_ C) ∧ Below w.heap.size w w'
theorem outK_in {C : List Cg} {k : Nat} (h : k < C.length) : outK C k = cas C k ∧ begK C k = beg C k := by
  unfold outK begK
  rw [if_pos h, if_pos h]
  exact ⟨rfl, rfl⟩
theorem out_last {C : List Cg} {k : Nat} (h : k + 1 = C.length) : outK C (k + 1) = outK C k ++ [seg C (begK C k) (k + 1 - begK C k)] ∧ begK C (k + 1) = k + 1 := by
  have h1 := outK_in (C := C) (k := k) (by omega)
  rw [h1.1, h1.2]
  unfold outK begK
  rw [if_neg (by omega), if_neg (by omega)]
  unfold cases_
  rw [if_neg (by omega), ← h, Nat.add_sub_cancel]
  exact ⟨rfl, rfl⟩
theorem out_new {C : List Cg} {k : Nat} (h : k + 1 < C.length) (hn : (cg C (k + 1)).ca ≠ (cg C k).ca) : outK C (k + 1) = outK C k ++ [seg C (begK C k) (k + 1 - begK C k)] ∧ begK C (k + 1) = k + 1 := by
  have hN : New C (k + 1) := .inr hn
  have h1 := outK_in (C := C) (k := k) (by omega)
  have h2 := outK_in h
  rw [h1.1, h1.2, h2.1, h2.2, cas_new hN, beg_new hN]
  exact ⟨rfl, rfl⟩
theorem out_old {C : List Cg} {k : Nat} (h : k + 1 < C.length) (hn : (cg C (k + 1)).ca = (cg C k).ca) : outK C (k + 1) = outK C k ∧ begK C (k + 1) = begK C k := by
  have hN : ¬ New C (k + 1) := fun h => by rcases h with h | h; omega; exact h hn
  have h1 := outK_in (C := C) (k := k) (by omega)
  have h2 := outK_in h
  rw [h1.1, h1.2, h2.1, h2.2, cas_old hN, beg_old hN]
  exact ⟨rfl, rfl⟩
theorem begK_le {C : List Cg} {k : Nat} (h : k < C.length) : begK C k ≤ k := by unfold begK; rw [if_pos h]; exact beg_le C k
theorem outK_len {C : List Cg} {k : Nat} (h : k < C.length) : (outK C k).length ≤ k := by unfold outK; rw [if_pos h]; exact cas_len C k
structure InG (w wr : World) (v : Value) (C : List Cg) (k : Nat) : Prop where
  own : OwnR w wr w.heap.size v (outK C k)
  bel : Below w.heap.size w wr
set_option maxRecDepth 100000 in
set_option maxHeartbeats 4000000 in
theorem casesOf_c (a : Option Addr) (c : Nat) (C : List Cg) (w : World) (hC : RdC w a C) (hn : C.length ≤ 20000) (hcap : C.length ≤ c) :
    Calls Tryd.prog 48 #[.slice a C.length c] w (CsP C w) := by
  obtain ⟨i0, hi, hz0, hz1, hz2⟩ := info_parts infoS
  have HC := Lib.hid hC
  have h9 := hC.1
  clear hC
  go_enter Tryd.func48, Tryd.ntmps48
  go_wp2
  go_loopw [3, 4, 9] (fun v f i wr => ∃ k : Nat, k ≤ C.length ∧ i = .int .i64 k ∧ f = .int .i64 (begK C k : Nat) ∧ Hid (InG w wr v C k)) (fun _ _ i _ => C.length - (intOf i).toNat)
  case atStart =>
    have e1 : outK C 0 = [] := by unfold outK cases_; split; rfl; rw [if_pos (by omega)]
    have e2 : begK C 0 = 0 := by unfold begK; split; rfl; omega
    exact ⟨0, Nat.zero_le _, rfl, by rw [e2]; rfl, by rw [e1]; exact OwnR.nil_ _ _ _, Below.refl _ _⟩
  case round =>
    obtain ⟨k, hk, rfl, rfl, hS⟩ := hrel
    by_cases hlt : k < C.length
    · obtain ⟨b', off, rfl, u0, u1, u2⟩ := (HC.out.below hS.out.bel).at_ hlt
      have hlt' : (k : Int) < (C.length : Int) := by omega
      obtain ⟨W1, hW1⟩ : ∃ W1, wr.alloc (.cells #[.int .i64 (cg C k).ca, .int .i64 (cg C k).co, .int .i64 (cg C k).cd] 49) = W1 := ⟨_, rfl⟩
      have N1 : Hid (CodB wr W1 (cg C k)) := by unfold Hid; rw [← hW1]; exact cod_b _ _
      obtain ⟨xs, hown, hx⟩ := hS.out.own
      have BEL := Lib.hid hS.out.bel
      have HX := Lib.hid hx
      have LE := Lib.hid (begK_le hlt)
      have LN := Lib.hid (outK_len hlt)
      have hxl : Hid (xs.length = (outK C k).length) := by
        have := hown.1
        unfold Hid; omega
      have O1 : Hid (W1.ownsRow w.heap.size 35 1 u3 (outK C k).length xs ∧ Below w.heap.size w W1) := ⟨own_keep hown N1.out.1, BEL.out.trans (N1.out.1.mono BEL.out.size)⟩
      have v0 := N1.out.2.c0
      clear hown hx hS
      obtain ⟨f, hf⟩ : ∃ f, begK C k = f := ⟨_, rfl⟩
      rw [hf] at LE ⊢
      have DD : Hid (RdC w (some ⟨b', off + f * 3, none⟩) (seg C f (k + 1 - f))) := RdC.part HC.out (by have := LE.out; omega)
      have hcf : ¬ c = f := by have := LE.out; omega
      have hfl : f ≤ C.length := by have := LE.out; omega
      have hfk : f ≤ k + 1 := by have := LE.out; omega
      by_cases hlast : k + 1 = C.length
      · have E := Lib.hid (out_last hlast)
        rw [hf] at E
        have hl1 : (k : Int) + 1 = (C.length : Int) := by omega
        go_wp2_with fail
        go_quiet (fail)
        have O2 : Hid ((W1.drewN nq).ownsRow w.heap.size 35 1 u3 (outK C k).length xs ∧ Below w.heap.size w (W1.drewN nq)) := ⟨own_keep O1.out.1 (below_drewN (Below.refl _ _) nq), below_drewN O1.out.2 nq⟩
        clear O1 hW1 u0 u1 u2 v0 N1 
        generalize W1.drewN nq = W2 at O2 ⊢
        go_wp2_with (at_builtin; refine wpList_append_own_at _ rfl _ _ 88 rfl w.heap.size 35 i0 (.slice none 0 0) 1 24 Tryd.underlying88 hi hz0 hz1 hz2 rfl (by decide) _ _ _ rfl (O2.out.1.alloc _) ⟨W2.heap.size, 0, none⟩ 1 1 [.slice (some ⟨b', off + f * 3, none⟩) (C.length - f) (c - f)] rfl rfl (cell_one_new _ _ _) (by simp [Value.oneCell']) ?c3 ?c4 ?c5 ?_)
        case c3 => have hh : (outK C k).length ≤ k := LN.out; unfold maxLen; omega
        case c4 => have hh : (outK C k).length ≤ k := LN.out; omega
        case c5 => have := O2.out.2.size; simp; omega
        intro v' w4 hown' hgrow _ hloc
        have NX : Hid (InG w w4 v' C (k + 1)) := by
          have hD : (seg C f (k + 1 - f)).length = C.length - f := by rw [seg_len]; omega
          refine ⟨?_, ?_⟩
          · rw [E.out.1]
            exact OwnR.snoc HX.out hxl.out (by rw [hD]; exact hown') DD.out
          · have hs := O2.out.2.size
            exact (O2.out.2.alloc hs _).grown hgrow (by simp; omega) (fun g hg => (O2.out.1.lt g hg).1)
        clear hown' hgrow hloc O2 HX hxl DD
        go_wp2
        go_roundw
        case rel => exact ⟨k + 1, by omega, by go_num, by rw [E.out.2]; go_num, NX.out⟩
        case measure => simp [intOf]; omega
      · have hl1 : ¬ (k : Int) + 1 = (C.length : Int) := by omega
        obtain ⟨_, _, e, p0, _, _⟩ := (HC.out.below O1.out.2).at_ (k := k + 1) (by omega)
        injection e with e; injection e with e1 e2; subst e1; subst e2
        have hk1 : (k : Int) + 1 < (C.length : Int) := by omega
        have hk9 : (k : Int) < 20000 := by omega
        have hl2 : ((k : Int) + 1 == (C.length : Int)) = false := by rw [beq_eq_false_iff_ne]; exact hl1
        have hl3 : decide ((k : Int) + 1 = (C.length : Int)) = false := decide_eq_false hl1
        by_cases hne : (cg C (k + 1)).ca = (cg C k).ca
        · have E := Lib.hid (out_old (C := C) (k := k) (by omega) hne)
          rw [hf] at E
          have hne0 : ((cg C (k + 1)).ca == (cg C k).ca) = true := by rw [beq_iff_eq]; exact hne
          have hne1 : ((cg C (k + 1)).ca != (cg C k).ca) = false := by rw [bne, hne0]; rfl
          clear hlast hne
          go_wp2_with fail
          go_quiet (fail)
          have NX : Hid (InG w (W1.drewN nq) u3 C (k + 1)) := by
            refine ⟨?_, below_drewN O1.out.2 nq⟩
            rw [E.out.1]
            exact ⟨xs, own_keep O1.out.1 (below_drewN (Below.refl _ _) nq), HX.out⟩
          clear O1 hW1 u0 u1 u2 v0 N1 p0 HX hxl DD
          go_wp2
          go_roundw
          case rel => exact ⟨k + 1, by omega, by go_num, by rw [E.out.2], NX.out⟩
          case measure => simp [intOf]; omega
        · have E := Lib.hid (out_new (C := C) (k := k) (by omega) hne)
          rw [hf] at E
          have hne0 : ((cg C (k + 1)).ca == (cg C k).ca) = false := by rw [beq_eq_false_iff_ne]; exact hne
          have hne1 : ((cg C (k + 1)).ca != (cg C k).ca) = true := by rw [bne, hne0]; rfl
          clear hlast hne
          go_wp2_with fail
          go_quiet (fail)
          have O2 : Hid ((W1.drewN nq).ownsRow w.heap.size 35 1 u3 (outK C k).length xs ∧ Below w.heap.size w (W1.drewN nq)) := ⟨own_keep O1.out.1 (below_drewN (Below.refl _ _) nq), below_drewN O1.out.2 nq⟩
          clear O1 hW1 u0 u1 u2 v0 N1 p0
          generalize W1.drewN nq = W2 at O2 ⊢
          go_wp2_with (at_builtin; refine wpList_append_own_at _ rfl _ _ 88 rfl w.heap.size 35 i0 (.slice none 0 0) 1 24 Tryd.underlying88 hi hz0 hz1 hz2 rfl (by decide) _ _ _ rfl (O2.out.1.alloc _) ⟨W2.heap.size, 0, none⟩ 1 1 [.slice (some ⟨b', off + f * 3, none⟩) ((k + 1) - f) (c - f)] rfl rfl (cell_one_new _ _ _) (by simp [Value.oneCell']) ?c3 ?c4 ?c5 ?_)
          case c3 => have hh : (outK C k).length ≤ k := LN.out; unfold maxLen; omega
          case c4 => have hh : (outK C k).length ≤ k := LN.out; omega
          case c5 => have := O2.out.2.size; simp; omega
          intro v' w4 hown' hgrow _ hloc
          have NX : Hid (InG w w4 v' C (k + 1)) := by
            have hD : (seg C f (k + 1 - f)).length = (k + 1) - f := by rw [seg_len]
            refine ⟨?_, ?_⟩
            · rw [E.out.1]
              exact OwnR.snoc HX.out hxl.out (by rw [hD]; exact hown') DD.out
            · have hs := O2.out.2.size
              exact (O2.out.2.alloc hs _).grown hgrow (by simp; omega) (fun g hg => (O2.out.1.lt g hg).1)
          clear hown' hgrow hloc O2 HX hxl DD
          go_wp2
          go_roundw
          case rel => exact ⟨k + 1, by omega, by go_num, by rw [E.out.2]; go_num, NX.out⟩
          case measure => simp [intOf]; omega
    · obtain rfl : k = C.length := by omega
      have e : outK C C.length = cases_ C := by unfold outK; rw [if_neg (Nat.lt_irrefl _)]
      have R : Hid (CsP C w (.returned u3) wr) := by
        have h := hS.out.own
        rw [e] at h
        obtain ⟨a', c', rfl, hr⟩ := h.rd hS.out.bel
        exact ⟨a', c', rfl, hr, hS.out.bel⟩
      clear hlt hS e
      go_wp2
      go_ret
      exact R.out
end Go.Proofs.YtgfjbilhgblbeaaDoor
namespace Go.Proofs.YtgfjbilhgblbeaaDoor
open Go.RowKit Go.WideMaps Go.Maps

/-- What the first k cases come to: case, code and way. -/
def Res (l : List Nd) (C : List Cg) (R : List Cg) : Prop :=
  ∀ j, j < R.length → (cg R j).ca = (cg (rn (cases_ C) j) 0).ca ∧ IsFin (par l) (lev l) (rn (cases_ C) j) (cg R j).co (cg R j).cd
def FnP (l : List Nd) (C : List Cg) (w : World) (e : Ending) (w' : World) : Prop :=
  (forS l C = 0 ∧ ∃ a c R, e = .returned (.tuple #[.slice a (cases_ C).length c, .int .i64 0]) ∧ R.length = (cases_ C).length ∧ Res l C R ∧ RdC w' a R ∧ Below w.heap.size w w') ∨
  (forS l C ≠ 0 ∧ e = .returned (.tuple #[.slice none 0 0, .int .i64 (forS l C)]) ∧ Below w.heap.size w w')
theorem cg_snoc {R : List Cg} {u : Cg} {j : Nat} (h : j < (R ++ [u]).length) : (j < R.length ∧ cg (R ++ [u]) j = cg R j) ∨ (j = R.length ∧ cg (R ++ [u]) j = u) := by
  unfold cg
  rw [List.length_append] at h
  by_cases e : j < R.length
  · exact .inl ⟨e, by rw [List.getD, List.getD, List.getElem?_append_left e]⟩
  · have : j = R.length := by simp at h; omega
    subst this
    exact .inr ⟨rfl, by rw [List.getD, List.getElem?_append_right (Nat.le_refl _)]; simp⟩
theorem Res.snoc {l : List Nd} {C R : List Cg} (h : Res l C R) {u : Cg} (h1 : u.ca = (cg (rn (cases_ C) R.length) 0).ca) (h2 : IsFin (par l) (lev l) (rn (cases_ C) R.length) u.co u.cd) : Res l C (R ++ [u]) := by
  intro j hj
  rcases cg_snoc hj with ⟨e1, e2⟩ | ⟨e1, e2⟩
  · rw [e2]; exact h j e1
  · subst e1
    rw [e2]; exact ⟨h1, h2⟩
theorem rn_in {R : List (List Cg)} {j : Nat} (h : j < R.length) : rn R j ∈ R := by
  unfold rn
  rw [List.getD, List.getElem?_eq_getElem h]
  exact List.getElem_mem h
/-- A case: it has codings, all of the frame. -/
theorem case_has {l : List Nd} {C : List Cg} (hcs : ∀ k, k < C.length → ∃ c : Nat, (cg C k).cd = c ∧ Has l c) {j : Nat} (h : j < (cases_ C).length) : 0 < (rn (cases_ C) j).length ∧ (rn (cases_ C) j).length ≤ C.length ∧ HasD (Has l) (rn (cases_ C) j) := by
  obtain ⟨h1, s, h2, h3⟩ := cases_all (rn_in h)
  refine ⟨h1, by omega, fun i hi => ?_⟩
  rw [h3, seg_at (by rw [h3, seg_len] at hi; exact hi)]
  exact hcs _ (by omega)
theorem rdT_own {w : World} {T : TypeId} {B : Nat} {v : Value} {C : List Cg} (h : w.ownsRow B T 3 v C.length (crow C)) (hn : C.length ≤ 9223372036854775807) : ∃ a c, v = .slice a C.length c ∧ RdC w a C := by
  obtain ⟨a, c, rfl⟩ := own_slice h
  refine ⟨a, c, rfl, hn, fun h0 => ?_⟩
  rcases h.2 with ⟨_, e2⟩ | ⟨g, cap, cur, e1, _⟩
  · omega
  · injection e1 with e1
    subst e1
    refine ⟨g, 0, rfl, (h.lt g rfl).2, fun j hj => ?_⟩
    have hc := h.cells (g := g) rfl
    have at3 : ∀ i, i < 3 → w.cell? ⟨g, j * 3 + i, none⟩ = (ccells (cg C j))[i]? := fun i hi => by
      have e := crow_at C j hj i hi
      have hlt : i < (ccells (cg C j)).length := hi
      rw [List.getElem?_eq_getElem hlt] at e
      have := hc _ _ e
      rw [add_at, Nat.zero_add] at this
      rw [this, List.getElem?_eq_getElem hlt]
    rw [Nat.zero_add]
    exact ⟨at3 0 (by omega), at3 1 (by omega), at3 2 (by omega)⟩
theorem infoFn : (Tryd.prog.info? 42).map (fun i => (i.zero, i.size, i.bytes)) = some (some (.agg #[.int .i64 0, .int .i64 0, .int .i64 0]), 3, 24) := by kernel_rfl
/-- What lies there in the loop of Finals. -/
structure InFn (W4 wr : World) (v : Value) (l : List Nd) (C R : List Cg) : Prop where
  own : wr.ownsRow W4.heap.size 42 3 v R.length (crow R)
  res : Res l C R
  bel : Below W4.heap.size W4 wr
theorem InFn.snoc {W4 W6 w4 : World} {v v' : Value} {l : List Nd} {C R : List Cg} {o : Obj} {u : Cg} (h : InFn W4 W6 v l C R) (h1 : u.ca = (cg (rn (cases_ C) R.length) 0).ca) (h2 : IsFin (par l) (lev l) (rn (cases_ C) R.length) u.co u.cd)
    (ho : w4.ownsRow W4.heap.size 42 3 v' (R.length + 1) (crow R ++ ccells u)) (hg : (W6.alloc o).grownBy w4 v.ownBlock) : InFn W4 w4 v' l C (R ++ [u]) := by
  refine ⟨by rw [List.length_append, crow_snoc]; exact ho, h.res.snoc h1 h2, ?_⟩
  have hs := h.bel.size
  exact (h.bel.alloc hs o).grown hg (by simp; omega) (fun g hg => (h.own.lt g hg).1)
theorem InFn.keep {W4 wr W : World} {v : Value} {l : List Nd} {C R : List Cg} (h : InFn W4 wr v l C R) (hb : Below wr.heap.size wr W) : InFn W4 W v l C R :=
  ⟨own_keep h.own hb, h.res, h.bel.trans (hb.mono h.bel.size)⟩
set_option maxRecDepth 100000 in
set_option maxHeartbeats 4000000 in
theorem Finals_c (sa : Option Addr) (c : Nat) (l : List Nd) (a2 : Option Addr) (c2 : Nat) (C : List Cg) (w : World) (hl : RdN w sa l) (hf : Fits l) (hC : RdC w a2 C) (hcap : C.length ≤ c2) :
    Calls Tryd.prog 19 #[.slice sa l.length c, .slice a2 C.length c2] w (FnP l C w) := by
  obtain ⟨i0, hi, hz0, hz1, hz2⟩ := info_parts infoFn
  have HC := Lib.hid (frameFor_c sa c l a2 c2 C w hl hf hC)
  have HCC := Lib.hid hC
  have h9 := hC.1
  clear hl hf hC
  by_cases hz : forS l C ≠ 0
  · obtain ⟨f, hfl⟩ : ∃ f, forS l C = f := ⟨_, rfl⟩
    have HP := Lib.hid hfl
    have HZ := Lib.hid hz
    rw [hfl] at hz
    have f1 : (f == 0) = false := by rw [beq_eq_false_iff_ne]; exact hz
    have f2 : (f != 0) = true := by rw [bne, f1]; rfl
    clear hfl hz
    go_enter Tryd.func19, Tryd.ntmps19
    go_wp2_with fail
    (with_reducible refine HC.out.mono ?_)
    intro e W2 he
    obtain ⟨h, _⟩ | ⟨_, rfl, b2⟩ := he
    · exact absurd h HZ.out
    rw [HP.out]
    have BW2 := Lib.hid (b2.trans ((bel_one W2 (.cells #[.slice none 0 0, .slice none 0 0] 71)).mono b2.size))
    have R : Hid (FnP l C w (.returned (.tuple #[.slice none 0 0, .int .i64 f])) (W2.alloc (.cells #[.slice none 0 0, .slice none 0 0] 71))) := Or.inr ⟨HZ.out, by rw [HP.out], BW2.out⟩
    clear b2
    go_wp2_with fail
    go_ret2
    exact R.out
  have hz : forS l C = 0 := by omega
  obtain ⟨F, _, hn, hcs⟩ := for_ok hz
  have HF := Lib.hid F
  have HCS := Lib.hid hcs
  have HZ := Lib.hid hz
  have KC := Lib.hid (fun W (hb : Below w.heap.size w W) => casesOf_c a2 c2 C W (HCC.out.below hb) hn hcap)
  have HLEN := Lib.hid (cases_len C)
  rw [hz] at HC
  clear hz F hcs
  go_enter Tryd.func19, Tryd.ntmps19
  go_wp2_with fail
  (with_reducible refine HC.out.mono ?_)
  intro e W2 he
  obtain ⟨_, x, y, rfl, hx, hy, b2, _, _⟩ | ⟨h, _⟩ := he
  rotate_left
  · exact absurd rfl h
  obtain ⟨W3, hW3⟩ : ∃ W3, W2.alloc (.cells #[row x, row y] 71) = W3 := ⟨_, rfl⟩
  have b3 : Below W2.heap.size W2 W3 := by rw [← hW3]; exact bel_one _ _
  have R3 : B2 W3 W2.heap.size (row x) (row y) := by rw [← hW3]; exact B2.made _ _ _ _
  have AX3 := hx.below b3
  have AY3 := hy.below b3
  have BW3 := Lib.hid (b2.trans (b3.mono b2.size))
  obtain ⟨z, hzz⟩ : ∃ z, W2.heap.size = z := ⟨_, rfl⟩
  rw [hzz] at R3
  have K := Lib.hid (KC.out W3 BW3.out)
  have T3 : Hid (B2 W3 z (row x) (row y) ∧ Arr W3 x (par l) ∧ Arr W3 y (lev l)) := ⟨R3, AX3, AY3⟩
  clear hx hy b2 b3 R3 AX3 AY3
  go_wp2_with fail
  (with_reducible refine K.out.mono ?_)
  rintro e W4 ⟨a5, c5, rfl, hrs, b4⟩
  have T4 : Hid (B2 W4 z (row x) (row y) ∧ Arr W4 x (par l) ∧ Arr W4 y (lev l) ∧ RdR W4 a5 (cases_ C)) := ⟨T3.out.1.keep b4, T3.out.2.1.below b4, T3.out.2.2.below b4, hrs⟩
  have BW4 := Lib.hid (BW3.out.trans (b4.mono BW3.out.size))
  clear b4 hrs K HC T3 hW3
  obtain ⟨N, hN⟩ : ∃ N, (cases_ C).length = N := ⟨_, rfl⟩
  have HN := Lib.hid hN
  rw [hN] at HLEN ⊢
  have hN9 : N ≤ 20000 := by have := HLEN.out; omega
  clear hN
  go_wp2_with fail
  go_loopw [8, 25] (fun v i wr => ∃ k : Nat, k ≤ N ∧ i = .int .i64 k ∧ Hid (∃ R : List Cg, R.length = k ∧ InFn W4 wr v l C R)) (fun _ i _ => N - (intOf i).toNat)
  case atStart => exact ⟨0, Nat.zero_le _, rfl, [], rfl, World.ownsRow_nil _ _ _ _, fun j h => by simp at h, Below.refl _ _⟩
  case round =>
    obtain ⟨k, hk, rfl, R, rfl, hS⟩ := hrel
    by_cases hlt : R.length < N
    · have hlt' : (R.length : Int) < (N : Int) := by omega
      obtain ⟨g, a', c', rfl, _, q0, hD0⟩ := T4.out.2.2.2 R.length (by rw [HN.out]; exact hlt)
      obtain ⟨h1, h2, h3⟩ := case_has HCS.out (j := R.length) (by rw [HN.out]; exact hlt)
      have q1 : wr.cell? ⟨g, R.length, none⟩ = some (.slice a' (rn (cases_ C) R.length).length c') := (hS.bel.cell (p := ⟨g, R.length, none⟩) (by assumption)).trans q0
      obtain ⟨D, hDD⟩ : ∃ D, rn (cases_ C) R.length = D := ⟨_, rfl⟩
      rw [hDD] at hD0 h1 h2 h3 q1
      have HD := Lib.hid (And.intro hDD h3)
      have HDC := Lib.hid (hD0.below hS.bel)
      have RB := T4.out.1.keep hS.bel
      have r0 := RB.c0
      have r1 := RB.c1
      have KF := Lib.hid (final_c x y (par l) (lev l) (Has l) HF.out.tree a' c' D wr (T4.out.2.1.below hS.bel) (T4.out.2.2.1.below hS.bel) (fun c hc => (has_pos HF.out.ord hc).2) (fun c hc => (HF.out.lev hc).2.2.1) HDC.out h3 h1 (by omega))
      have HS := Lib.hid hS
      clear hDD h3 hD0 hS RB q0
      go_wp2_with fail
      (with_reducible refine KF.out.mono ?_)
      rintro e W6 ⟨fc, fy, rfl, hfin, _, b6⟩
      have HD6 := HDC.out.below b6
      obtain ⟨b9, off9, rfl, u0, u1, u2⟩ := HD6.at_ h1
      simp only [Nat.zero_mul, Nat.add_zero] at u0 u1 u2
      have S6 := Lib.hid (HS.out.keep b6)
      have hfin := Lib.hid hfin
      have h1' : (0 : Int) < (D.length : Int) := by omega
      clear b6 HD6 HS KF r0 r1 q1
      go_wp2_with (at_builtin; refine wpList_append_own_at _ rfl _ _ 36 rfl W4.heap.size 42 i0 (.agg #[.int .i64 0, .int .i64 0, .int .i64 0]) 3 24 Tryd.underlying36 hi hz0 hz1 hz2 rfl (by decide) _ _ _ rfl (S6.out.own.alloc _) ⟨W6.heap.size, 0, none⟩ 1 1 [.int .i64 (cg D 0).ca, .int .i64 fc, .int .i64 fy] rfl rfl (cell_three_new _ _ _ _ _) (by simp [Value.oneCell']) ?c3 ?c4 ?c5 ?_)
      case c3 => unfold maxLen; omega
      case c4 => omega
      case c5 => have := S6.out.bel.size; simp; omega
      intro v' w4 hown hgrow _ _
      have NX : Hid (∃ R' : List Cg, R'.length = R.length + 1 ∧ InFn W4 w4 v' l C R') :=
        ⟨R ++ [⟨(cg D 0).ca, fc, fy⟩], by simp, S6.out.snoc (u := ⟨(cg D 0).ca, fc, fy⟩) (by rw [HD.out.1]) (by rw [HD.out.1]; exact hfin.out) hown hgrow⟩
      clear hown hgrow S6 u0 u1 u2
      go_wp2
      go_roundw
      case rel => exact ⟨R.length + 1, by omega, by go_num, NX.out⟩
      case measure => simp [intOf]; omega
    · obtain rfl : R.length = N := by omega
      have RR : Hid (∃ a c, u8 = .slice a R.length c ∧ RdC wr a R) := rdT_own hS.own (by omega)
      obtain ⟨a, c, rfl, hr⟩ := RR.out
      have RS : Hid (FnP l C w (.returned (.tuple #[.slice a R.length c, .int .i64 0])) wr) := Or.inl ⟨HZ.out, a, c, R, by rw [HN.out], HN.out.symm, hS.res, hr, BW4.out.trans (hS.bel.mono BW4.out.size)⟩
      clear hS hlt hr RR
      go_wp2
      go_ret2
      exact RS.out
end Go.Proofs.YtgfjbilhgblbeaaDoor
namespace Go.Proofs.YtgfjbilhgblbeaaDoor
open Go.RowKit Go.WideMaps Go.Maps

set_option maxRecDepth 100000 in
set_option maxHeartbeats 2000000 in
theorem rknown_c (a : Option Addr) (ca : Nat) (l : List Nd) (g c : Nat) (w : World) (hl : RdN w a l) (hf : Fits l) (hz : frS l = 0) (hc : Has l c) (hg : w.cell? ⟨g, 0, none⟩ = some (.int .i64 (c : Nat))) (hgl : g < w.heap.size) :
    Calls Tryd.prog 43 #[.slice a l.length ca, .slice (some ⟨g, 0, none⟩) 1 1] w (IntP 0 w) := by
  have HK := Lib.hid (rCheckFrame_c a ca l w hl hf)
  rw [hz] at HK
  have HF := Lib.hid (fun W (hb : Below w.heap.size w W) => rfind_c a ca l (c : Int) W (hl.below hb))
  have HC := Lib.hid hc
  clear hl hf hz hc
  go_enter Tryd.func43, Tryd.ntmps43
  go_wp2_with fail
  (with_reducible refine HK.out.mono ?_)
  rintro e w1 ⟨rfl, b1⟩
  have B1 := Lib.hid b1
  clear b1
  go_wp2_with fail
  go_loopw [15] (fun i wr => ∃ k : Nat, k ≤ 1 ∧ i = .int .i64 k ∧ Hid (Below w.heap.size w wr)) (fun i _ => 1 - (intOf i).toNat)
  case atStart => exact ⟨0, Nat.zero_le _, rfl, B1.out⟩
  case round =>
    obtain ⟨k, hk, rfl, hS⟩ := hrel
    by_cases hlt : k < 1
    · obtain rfl : k = 0 := by omega
      have u0 : wr.cell? ⟨g, 0, none⟩ = some (.int .i64 (c : Nat)) := (hS.out.cell (p := ⟨g, 0, none⟩) hgl).trans hg
      have K := Lib.hid (HF.out wr hS.out)
      clear hlt
      go_wp2_with fail
      (with_reducible refine K.out.mono ?_)
      rintro e w2 ⟨⟨r, rfl, hr⟩, b2⟩
      obtain ⟨j, hj, rfl, _⟩ := fnd_at hr HC.out
      have B2 := Lib.hid (hS.out.trans (b2.mono hS.out.size))
      have hj0 : ¬ (j : Int) < 0 := by omega
      clear b2 hr hS u0
      go_wp2
      go_roundw
      case rel => exact ⟨1, Nat.le_refl _, by go_num, B2.out⟩
      case measure => simp [intOf]
    · obtain rfl : k = 1 := by omega
      clear hlt
      go_wp2
      go_ret
      exact ⟨rfl, hS.out⟩
/-- The node is below the code, or the code itself. -/
def wiP (l : List Nd) (s : Int) (j : Nat) : Bool := decide (s ∈ pth (par l) (nd l j).cd.toNat (lev l (nd l j).cd.toNat))
theorem cvd_is (l : List Nd) (s : Int) : cvd l s = cn (wiP l s) l.length := rfl
theorem pth_has (p : Nat → Nat) (c n : Nat) (s : Int) : (pth p c n).contains s = decide (s ∈ pth p c n) := by simp
def WiP (n : Nat) (w : World) (e : Ending) (w' : World) : Prop := ∃ a c, e = .returned (.tuple #[.slice a n c, .int .i64 0]) ∧ Below w.heap.size w w'
structure InW (w wr : World) (v : Value) (n : Nat) : Prop where
  own : ∃ zs : List Int, zs.length = n ∧ wr.ownsRow w.heap.size 3 1 v n (zs.map (Value.int .i64))
  bel : Below w.heap.size w wr
theorem InW.keep {w wr W : World} {v : Value} {n : Nat} (h : InW w wr v n) (hb : Below wr.heap.size wr W) : InW w W v n := by
  obtain ⟨zs, h1, h2⟩ := h.own
  exact ⟨⟨zs, h1, own_keep h2 hb⟩, h.bel.trans (hb.mono h.bel.size)⟩
set_option maxRecDepth 100000 in
set_option maxHeartbeats 4000000 in
theorem rWithin_c (a : Option Addr) (ca : Nat) (l : List Nd) (c : Nat) (w : World) (hl : RdN w a l) (hf : Fits l) (hz : frS l = 0) (hc : Has l c) :
    Calls Tryd.prog 16 #[.slice a l.length ca, .int .i64 (c : Nat)] w (WiP (cvd l (c : Nat)) w) := by
  obtain ⟨i0, hi, hz0, hz1, hz2⟩ := info_parts infoI
  have F := fr_of hz
  have HF := Lib.hid F
  have h9 := hl.1
  have h6 : l.length ≤ 600 := F.le
  have HL := Lib.hid hl
  have HK : Hid (∀ W g, Below w.heap.size w W → W.cell? ⟨g, 0, none⟩ = some (.int .i64 (c : Nat)) → g < W.heap.size → Calls Tryd.prog 43 #[.slice a l.length ca, .slice (some ⟨g, 0, none⟩) 1 1] W (IntP 0 W)) := fun W g hb h1 h2 => rknown_c a ca l g c W (hl.below hb) hf hz hc h1 h2
  have HLN : Hid (∀ W (d : Nat), Below w.heap.size w W → Has l d → Calls Tryd.prog 44 #[.slice a l.length ca, .int .i64 (d : Nat)] W (LnP l d W)) := fun W d hb hd => rlineage_c a ca l d W (hl.below hb) F hd
  clear hl hf hz hc F
  obtain ⟨W1, hW1⟩ : ∃ W1, w.alloc (.cells #[.int .i64 (c : Nat)] 3) = W1 := ⟨_, rfl⟩
  have B1 : Hid (Below w.heap.size w W1) := by rw [← hW1]; exact bel_one _ _
  have K1 := Lib.hid (HK.out W1 w.heap.size B1.out (by rw [← hW1, World.cell?_alloc_at _ _ _ _ rfl]; rfl) (by rw [← hW1]; simp))
  clear HK
  go_enter Tryd.func16, Tryd.ntmps16
  go_wp2_with fail
  (with_reducible refine K1.out.mono ?_)
  rintro e W2 ⟨rfl, b2⟩
  have B2 := Lib.hid (B1.out.trans (b2.mono B1.out.size))
  clear b2 K1
  go_wp2_with fail
  go_loopw [7, 19] (fun v i wr => ∃ k : Nat, k ≤ l.length ∧ i = .int .i64 k ∧ Hid (InW w wr v (cn (wiP l (c : Nat)) k))) (fun _ i _ => l.length - (intOf i).toNat)
  case atStart => exact ⟨0, Nat.zero_le _, rfl, ⟨[], rfl, World.ownsRow_nil _ _ _ _⟩, B2.out⟩
  case round =>
    obtain ⟨k, hk, rfl, hS⟩ := hrel
    by_cases hlt : k < l.length
    · obtain ⟨b', off, rfl, u0, u1, u2⟩ := (HL.out.below hS.out.bel).at_ hlt
      have hlt' : (k : Int) < (l.length : Int) := by omega
      have hrg := HF.out.ord.rng k hlt
      obtain ⟨d, hd⟩ : ∃ d : Nat, (nd l k).cd = (d : Int) := ⟨(nd l k).cd.toNat, by omega⟩
      have hh : Has l d := ⟨k, hlt, hd⟩
      have hv := HF.out.lev hh
      obtain ⟨W3, hW3⟩ : ∃ W3, wr.alloc (.cells #[.int .i64 (nd l k).cd, .int .i64 (nd l k).pr, .string (nd l k).ti] 56) = W3 := ⟨_, rfl⟩
      have N3 : Hid (NodeB wr W3 (nd l k)) := by unfold Hid; rw [← hW3]; exact node_b _ _
      have v0 := N3.out.2.2.1
      have S3 := Lib.hid (hS.out.keep N3.out.1)
      have KL := Lib.hid (HLN.out W3 d S3.out.bel hh)
      have WP : Hid (wiP l (c : Nat) k = (pth (par l) d (lev l d)).contains (c : Int)) := by
        unfold Hid wiP; rw [hd, Int.toNat_natCast, pth_has]
      have CNX : Hid (cn (wiP l (c : Nat)) (k + 1) = cn (wiP l (c : Nat)) k + if wiP l (c : Nat) k = true then 1 else 0) := rfl
      have CLE := Lib.hid (cn_le (wiP l (c : Nat)) k)
      have L8 : Hid (lev l d ≤ 8) := hv.2.2.1
      rw [hd] at hW3 v0 u0
      have hs3 : Hid (wr.heap.size < W3.heap.size) := by have := N3.out.2.1; unfold Hid; omega
      clear N3 hS hv hh hrg
      go_wp2_with fail
      (with_reducible refine KL.out.mono ?_)
      rintro e W4 ⟨av, cv, rfl, hr, b4, _⟩
      have KC := Lib.hid (contains_c av cv (pth (par l) d (lev l d)) (c : Int) W4 hr)
      rw [pth_len] at KC
      have S4 := Lib.hid (S3.out.keep b4)
      have v4 := (b4.cell (p := ⟨wr.heap.size, 0, none⟩) hs3.out).trans v0
      clear KL hr b4 u0 u1 u2 hW3
      go_wp2_with fail
      (with_reducible refine KC.out.mono ?_)
      rintro e W5 ⟨rfl, rfl⟩
      rw [← WP.out]
      clear KC
      by_cases hw : wiP l (c : Nat) k = true
      · rw [hw]
        have CN : Hid (cn (wiP l (c : Nat)) (k + 1) = cn (wiP l (c : Nat)) k + 1) := by unfold Hid; rw [CNX.out, if_pos hw]
        obtain ⟨m, hm⟩ : ∃ m, cn (wiP l (c : Nat)) k = m := ⟨_, rfl⟩
        rw [hm] at S4 CLE CN
        obtain ⟨zs, hzl, hown⟩ := S4.out.own
        have CL9 := CLE.out
        clear hw CNX WP hm
        go_wp2_with (at_builtin; refine wpList_append_own _ rfl _ _ 27 rfl w.heap.size 3 i0 (.int .i64 0) 1 8 Tryd.underlying27 hi hz0 hz1 hz2 rfl (by decide) _ _ _ rfl (hown.alloc _) ⟨W5.heap.size, 0, none⟩ 1 1 [.int .i64 (d : Nat)] rfl rfl (cell_one_new _ _ _) (ints_oneCell .i64 [((d : Nat) : Int)]) ?c3 ?c4 ?c5 ?_)
        case c3 => unfold maxLen; omega
        case c4 => omega
        case c5 => have := S4.out.bel.size; simp; omega
        intro v' w4 hown' hgrow _
        have NX : Hid (InW w w4 v' (cn (wiP l (c : Nat)) (k + 1))) := by
          rw [CN.out]
          refine ⟨⟨zs ++ [(d : Int)], by simp [hzl], by rw [List.map_append]; exact hown'⟩, ?_⟩
          have hs := S4.out.bel.size
          exact (S4.out.bel.alloc hs _).grown hgrow (by simp; omega) (fun g hg => (hown.lt g hg).1)
        clear hown hown' hgrow S4 S3 v4
        go_wp2
        go_roundw
        case rel => exact ⟨k + 1, by omega, by go_num, NX.out⟩
        case measure => simp [intOf]; omega
      · have hw' : wiP l (c : Nat) k = false := by simpa using hw
        have NX : Hid (InW w W5 u7 (cn (wiP l (c : Nat)) (k + 1))) := by
          rw [CNX.out, if_neg hw, Nat.add_zero]; exact S4.out
        rw [hw']
        clear hw hw' S4 S3 CNX WP v4
        go_wp2
        go_roundw
        case rel => exact ⟨k + 1, by omega, by go_num, NX.out⟩
        case measure => simp [intOf]; omega
    · obtain rfl : k = l.length := by omega
      have R : Hid (WiP (cvd l (c : Nat)) w (.returned (.tuple #[u7, .int .i64 0])) wr) := by
        obtain ⟨zs, hzl, hown⟩ := hS.out.own
        obtain ⟨av, cv, e⟩ := own_slice hown
        exact ⟨av, cv, by rw [e]; rfl, hS.out.bel⟩
      clear hS hlt
      go_wp2
      go_ret2
      exact R.out
end Go.Proofs.YtgfjbilhgblbeaaDoor
