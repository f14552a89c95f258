/-
  Package code: Finals.
-/
import Derived.Test.YthdmodmplpoejaaDoorCdFinC
import Derived.Test.YthdmodmplpoejaaDoorCdCases
import Derived.Test.YthdmodmplpoejaaDoorCdLift
namespace Go.Proofs.YthdmodmplpoejaaDoor
open Go.RowKit Go.WideMaps Go.Maps

/-- What the first k cases come to: case, code and way. -/
def Res (l : List Nd) (C : List Cg) (R : List Cg) : Prop :=
  ∀ j, j < R.length → (cg R j).ca = (cg (rn (cases_ C) j) 0).ca ∧ IsFin (par l) (lev l) (rn (cases_ C) j) (cg R j).co (cg R j).cd
def FnP (l : List Nd) (C : List Cg) (w : World) (e : Ending) (w' : World) : Prop :=
  (forS l C = 0 ∧ ∃ a c R, e = .returned (.tuple #[.slice a (cases_ C).length c, .int .i64 0]) ∧ R.length = (cases_ C).length ∧ Res l C R ∧ RdC w' a R ∧ Below w.heap.size w w') ∨
  (forS l C ≠ 0 ∧ e = .returned (.tuple #[.slice none 0 0, .int .i64 (forS l C)]) ∧ Below w.heap.size w w')
theorem cg_snoc {R : List Cg} {u : Cg} {j : Nat} (h : j < (R ++ [u]).length) : (j < R.length ∧ cg (R ++ [u]) j = cg R j) ∨ (j = R.length ∧ cg (R ++ [u]) j = u) := by
  unfold cg
  rw [List.length_append] at h
  by_cases e : j < R.length
  · exact .inl ⟨e, by rw [List.getD, List.getD, List.getElem?_append_left e]⟩
  · have : j = R.length := by simp at h; omega
    subst this
    exact .inr ⟨rfl, by rw [List.getD, List.getElem?_append_right (Nat.le_refl _)]; simp⟩
theorem Res.snoc {l : List Nd} {C R : List Cg} (h : Res l C R) {u : Cg} (h1 : u.ca = (cg (rn (cases_ C) R.length) 0).ca) (h2 : IsFin (par l) (lev l) (rn (cases_ C) R.length) u.co u.cd) : Res l C (R ++ [u]) := by
  intro j hj
  rcases cg_snoc hj with ⟨e1, e2⟩ | ⟨e1, e2⟩
  · rw [e2]; exact h j e1
  · subst e1
    rw [e2]; exact ⟨h1, h2⟩
theorem rn_in {R : List (List Cg)} {j : Nat} (h : j < R.length) : rn R j ∈ R := by
  unfold rn
  rw [List.getD, List.getElem?_eq_getElem h]
  exact List.getElem_mem h
/-- A case: it has codings, all of the frame. -/
theorem case_has {l : List Nd} {C : List Cg} (hcs : ∀ k, k < C.length → ∃ c : Nat, (cg C k).cd = c ∧ Has l c) {j : Nat} (h : j < (cases_ C).length) : 0 < (rn (cases_ C) j).length ∧ (rn (cases_ C) j).length ≤ C.length ∧ HasD (Has l) (rn (cases_ C) j) := by
  obtain ⟨h1, s, h2, h3⟩ := cases_all (rn_in h)
  refine ⟨h1, by omega, fun i hi => ?_⟩
  rw [h3, seg_at (by rw [h3, seg_len] at hi; exact hi)]
  exact hcs _ (by omega)
theorem rdT_own {w : World} {T : TypeId} {B : Nat} {v : Value} {C : List Cg} (h : w.ownsRow B T 3 v C.length (crow C)) (hn : C.length ≤ 9223372036854775807) : ∃ a c, v = .slice a C.length c ∧ RdC w a C := by
  obtain ⟨a, c, rfl⟩ := own_slice h
  refine ⟨a, c, rfl, hn, fun h0 => ?_⟩
  rcases h.2 with ⟨_, e2⟩ | ⟨g, cap, cur, e1, _⟩
  · omega
  · injection e1 with e1
    subst e1
    refine ⟨g, 0, rfl, (h.lt g rfl).2, fun j hj => ?_⟩
    have hc := h.cells (g := g) rfl
    have at3 : ∀ i, i < 3 → w.cell? ⟨g, j * 3 + i, none⟩ = (ccells (cg C j))[i]? := fun i hi => by
      have e := crow_at C j hj i hi
      have hlt : i < (ccells (cg C j)).length := hi
      rw [List.getElem?_eq_getElem hlt] at e
      have := hc _ _ e
      rw [add_at, Nat.zero_add] at this
      rw [this, List.getElem?_eq_getElem hlt]
    rw [Nat.zero_add]
    exact ⟨at3 0 (by omega), at3 1 (by omega), at3 2 (by omega)⟩
theorem infoFn : (Tryd.prog.info? 42).map (fun i => (i.zero, i.size, i.bytes)) = some (some (.agg #[.int .i64 0, .int .i64 0, .int .i64 0]), 3, 24) := by kernel_rfl
/-- What lies there in the loop of Finals. -/
structure InFn (W4 wr : World) (v : Value) (l : List Nd) (C R : List Cg) : Prop where
  own : wr.ownsRow W4.heap.size 42 3 v R.length (crow R)
  res : Res l C R
  bel : Below W4.heap.size W4 wr
theorem InFn.snoc {W4 W6 w4 : World} {v v' : Value} {l : List Nd} {C R : List Cg} {o : Obj} {u : Cg} (h : InFn W4 W6 v l C R) (h1 : u.ca = (cg (rn (cases_ C) R.length) 0).ca) (h2 : IsFin (par l) (lev l) (rn (cases_ C) R.length) u.co u.cd)
    (ho : w4.ownsRow W4.heap.size 42 3 v' (R.length + 1) (crow R ++ ccells u)) (hg : (W6.alloc o).grownBy w4 v.ownBlock) : InFn W4 w4 v' l C (R ++ [u]) := by
  refine ⟨by rw [List.length_append, crow_snoc]; exact ho, h.res.snoc h1 h2, ?_⟩
  have hs := h.bel.size
  exact (h.bel.alloc hs o).grown hg (by simp; omega) (fun g hg => (h.own.lt g hg).1)
theorem InFn.keep {W4 wr W : World} {v : Value} {l : List Nd} {C R : List Cg} (h : InFn W4 wr v l C R) (hb : Below wr.heap.size wr W) : InFn W4 W v l C R :=
  ⟨own_keep h.own hb, h.res, h.bel.trans (hb.mono h.bel.size)⟩
set_option maxRecDepth 100000 in
set_option maxHeartbeats 4000000 in
theorem Finals_c (sa : Option Addr) (c : Nat) (l : List Nd) (a2 : Option Addr) (c2 : Nat) (C : List Cg) (w : World) (hl : RdN w sa l) (hf : Fits l) (hC : RdC w a2 C) (hcap : C.length ≤ c2) :
    Calls Tryd.prog 19 #[.slice sa l.length c, .slice a2 C.length c2] w (FnP l C w) := by
  obtain ⟨i0, hi, hz0, hz1, hz2⟩ := info_parts infoFn
  have HC := Lib.hid (frameFor_c sa c l a2 c2 C w hl hf hC)
  have HCC := Lib.hid hC
  have h9 := hC.1
  clear hl hf hC
  by_cases hz : forS l C ≠ 0
  · obtain ⟨f, hfl⟩ : ∃ f, forS l C = f := ⟨_, rfl⟩
    have HP := Lib.hid hfl
    have HZ := Lib.hid hz
    rw [hfl] at hz
    have f1 : (f == 0) = false := by rw [beq_eq_false_iff_ne]; exact hz
    have f2 : (f != 0) = true := by rw [bne, f1]; rfl
    clear hfl hz
    go_enter Tryd.func19, Tryd.ntmps19
    go_wp2_with fail
    (with_reducible refine HC.out.mono ?_)
    intro e W2 he
    obtain ⟨h, _⟩ | ⟨_, rfl, b2⟩ := he
    · exact absurd h HZ.out
    rw [HP.out]
    have BW2 := Lib.hid (b2.trans ((bel_one W2 (.cells #[.slice none 0 0, .slice none 0 0] 71)).mono b2.size))
    have R : Hid (FnP l C w (.returned (.tuple #[.slice none 0 0, .int .i64 f])) (W2.alloc (.cells #[.slice none 0 0, .slice none 0 0] 71))) := Or.inr ⟨HZ.out, by rw [HP.out], BW2.out⟩
    clear b2
    go_wp2_with fail
    go_ret2
    exact R.out
  have hz : forS l C = 0 := by omega
  obtain ⟨F, _, hn, hcs⟩ := for_ok hz
  have HF := Lib.hid F
  have HCS := Lib.hid hcs
  have HZ := Lib.hid hz
  have KC := Lib.hid (fun W (hb : Below w.heap.size w W) => casesOf_c a2 c2 C W (HCC.out.below hb) hn hcap)
  have HLEN := Lib.hid (cases_len C)
  rw [hz] at HC
  clear hz F hcs
  go_enter Tryd.func19, Tryd.ntmps19
  go_wp2_with fail
  (with_reducible refine HC.out.mono ?_)
  intro e W2 he
  obtain ⟨_, x, y, rfl, hx, hy, b2, _, _⟩ | ⟨h, _⟩ := he
  rotate_left
  · exact absurd rfl h
  obtain ⟨W3, hW3⟩ : ∃ W3, W2.alloc (.cells #[row x, row y] 71) = W3 := ⟨_, rfl⟩
  have b3 : Below W2.heap.size W2 W3 := by rw [← hW3]; exact bel_one _ _
  have R3 : B2 W3 W2.heap.size (row x) (row y) := by rw [← hW3]; exact B2.made _ _ _ _
  have AX3 := hx.below b3
  have AY3 := hy.below b3
  have BW3 := Lib.hid (b2.trans (b3.mono b2.size))
  obtain ⟨z, hzz⟩ : ∃ z, W2.heap.size = z := ⟨_, rfl⟩
  rw [hzz] at R3
  have K := Lib.hid (KC.out W3 BW3.out)
  have T3 : Hid (B2 W3 z (row x) (row y) ∧ Arr W3 x (par l) ∧ Arr W3 y (lev l)) := ⟨R3, AX3, AY3⟩
  clear hx hy b2 b3 R3 AX3 AY3
  go_wp2_with fail
  (with_reducible refine K.out.mono ?_)
  rintro e W4 ⟨a5, c5, rfl, hrs, b4⟩
  have T4 : Hid (B2 W4 z (row x) (row y) ∧ Arr W4 x (par l) ∧ Arr W4 y (lev l) ∧ RdR W4 a5 (cases_ C)) := ⟨T3.out.1.keep b4, T3.out.2.1.below b4, T3.out.2.2.below b4, hrs⟩
  have BW4 := Lib.hid (BW3.out.trans (b4.mono BW3.out.size))
  clear b4 hrs K HC T3 hW3
  obtain ⟨N, hN⟩ : ∃ N, (cases_ C).length = N := ⟨_, rfl⟩
  have HN := Lib.hid hN
  rw [hN] at HLEN ⊢
  have hN9 : N ≤ 20000 := by have := HLEN.out; omega
  clear hN
  go_wp2_with fail
  go_loopw [8, 25] (fun v i wr => ∃ k : Nat, k ≤ N ∧ i = .int .i64 k ∧ Hid (∃ R : List Cg, R.length = k ∧ InFn W4 wr v l C R)) (fun _ i _ => N - (intOf i).toNat)
  case atStart => exact ⟨0, Nat.zero_le _, rfl, [], rfl, World.ownsRow_nil _ _ _ _, fun j h => by simp at h, Below.refl _ _⟩
  case round =>
    obtain ⟨k, hk, rfl, R, rfl, hS⟩ := hrel
    by_cases hlt : R.length < N
    · have hlt' : (R.length : Int) < (N : Int) := by omega
      obtain ⟨g, a', c', rfl, _, q0, hD0⟩ := T4.out.2.2.2 R.length (by rw [HN.out]; exact hlt)
      obtain ⟨h1, h2, h3⟩ := case_has HCS.out (j := R.length) (by rw [HN.out]; exact hlt)
      have q1 : wr.cell? ⟨g, R.length, none⟩ = some (.slice a' (rn (cases_ C) R.length).length c') := (hS.bel.cell (p := ⟨g, R.length, none⟩) (by assumption)).trans q0
      obtain ⟨D, hDD⟩ : ∃ D, rn (cases_ C) R.length = D := ⟨_, rfl⟩
      rw [hDD] at hD0 h1 h2 h3 q1
      have HD := Lib.hid (And.intro hDD h3)
      have HDC := Lib.hid (hD0.below hS.bel)
      have RB := T4.out.1.keep hS.bel
      have r0 := RB.c0
      have r1 := RB.c1
      have KF := Lib.hid (final_c x y (par l) (lev l) (Has l) HF.out.tree a' c' D wr (T4.out.2.1.below hS.bel) (T4.out.2.2.1.below hS.bel) (fun c hc => (has_pos HF.out.ord hc).2) (fun c hc => (HF.out.lev hc).2.2.1) HDC.out h3 h1 (by omega))
      have HS := Lib.hid hS
      clear hDD h3 hD0 hS RB q0
      go_wp2_with fail
      (with_reducible refine KF.out.mono ?_)
      rintro e W6 ⟨fc, fy, rfl, hfin, _, b6⟩
      have HD6 := HDC.out.below b6
      obtain ⟨b9, off9, rfl, u0, u1, u2⟩ := HD6.at_ h1
      simp only [Nat.zero_mul, Nat.add_zero] at u0 u1 u2
      have S6 := Lib.hid (HS.out.keep b6)
      have hfin := Lib.hid hfin
      have h1' : (0 : Int) < (D.length : Int) := by omega
      clear b6 HD6 HS KF r0 r1 q1
      go_wp2_with (at_builtin; refine wpList_append_own_at _ rfl _ _ 36 rfl W4.heap.size 42 i0 (.agg #[.int .i64 0, .int .i64 0, .int .i64 0]) 3 24 Tryd.underlying36 hi hz0 hz1 hz2 rfl (by decide) _ _ _ rfl (S6.out.own.alloc _) ⟨W6.heap.size, 0, none⟩ 1 1 [.int .i64 (cg D 0).ca, .int .i64 fc, .int .i64 fy] rfl rfl (cell_three_new _ _ _ _ _) (by simp [Value.oneCell']) ?c3 ?c4 ?c5 ?_)
      case c3 => unfold maxLen; omega
      case c4 => omega
      case c5 => have := S6.out.bel.size; simp; omega
      intro v' w4 hown hgrow _ _
      have NX : Hid (∃ R' : List Cg, R'.length = R.length + 1 ∧ InFn W4 w4 v' l C R') :=
        ⟨R ++ [⟨(cg D 0).ca, fc, fy⟩], by simp, S6.out.snoc (u := ⟨(cg D 0).ca, fc, fy⟩) (by rw [HD.out.1]) (by rw [HD.out.1]; exact hfin.out) hown hgrow⟩
      clear hown hgrow S6 u0 u1 u2
      go_wp2
      go_roundw
      case rel => exact ⟨R.length + 1, by omega, by go_num, NX.out⟩
      case measure => simp [intOf]; omega
    · obtain rfl : R.length = N := by omega
      have RR : Hid (∃ a c, u8 = .slice a R.length c ∧ RdC wr a R) := rdT_own hS.own (by omega)
      obtain ⟨a, c, rfl, hr⟩ := RR.out
      have RS : Hid (FnP l C w (.returned (.tuple #[.slice a R.length c, .int .i64 0])) wr) := Or.inl ⟨HZ.out, a, c, R, by rw [HN.out], HN.out.symm, hS.res, hr, BW4.out.trans (hS.bel.mono BW4.out.size)⟩
      clear hS hlt hr RR
      go_wp2
      go_ret2
      exact RS.out
end Go.Proofs.YthdmodmplpoejaaDoor
