/-
  Package code: Lift.
-/
import Derived.Test.YthdmodmplpoejaaDoorCdClone
namespace Go.Proofs.YthdmodmplpoejaaDoor
open Go.RowKit Go.WideMaps Go.Maps

/-- A coding with a code of at most a level. -/
def lif (l : List Nd) (n : Nat) (u : Cg) : Cg := ⟨u.ca, u.co, (it (par l) (lev l u.cd.toNat - n) u.cd.toNat : Nat)⟩
def lifC (l : List Nd) (n : Nat) (C : List Cg) : List Cg := C.map (lif l n)
/-- Lift's error. -/
def liE (l : List Nd) (C : List Cg) (n : Int) : Int := if forS l C ≠ 0 then forS l C else if n < 1 ∨ 8 < n then 1 else 0
/-- Codings in a block of the call's own, by their places. -/
structure OwnF (w : World) (B g n : Nat) (f : Nat → Cg) : Prop where
  at_ : ∀ j, j < n → CgAt w g (j * 3) (f j)
  fr : ∀ o, w.frozen? ⟨g, o, none⟩ = false
  lo : B ≤ g
  lt : g < w.heap.size
theorem OwnF.keep {w W : World} {B g n : Nat} {f : Nat → Cg} (h : OwnF w B g n f) (hb : Below w.heap.size w W) : OwnF W B g n f :=
  ⟨fun j hj => (h.at_ j hj).below hb h.lt, fun o => (hb.frozen (p := ⟨g, o, none⟩) h.lt).trans (h.fr o), h.lo, Nat.lt_of_lt_of_le h.lt hb.size⟩
theorem OwnF.set {w : World} {B g n : Nat} {f : Nat → Cg} (h : OwnF w B g n f) {k : Nat} (hk : k < n) (x : Int) : OwnF (w.setCell ⟨g, k * 3 + 2, none⟩ (.int .i64 x)) B g n (fun j => if j = k then ⟨(f k).ca, (f k).co, x⟩ else f j) := by
  have ne : ∀ {i j : Nat}, i ≠ j → (⟨g, i, none⟩ : Addr) ≠ ⟨g, j, none⟩ := fun h e => by injection e with _ e2; exact h e2
  refine ⟨fun j hj => ?_, fun o => by rw [World.frozen?_setCell]; exact h.fr o, h.lo, by simpa using h.lt⟩
  obtain ⟨h0, h1, h2⟩ := h.at_ j hj
  by_cases e : j = k
  · subst e
    refine ⟨?_, ?_, ?_⟩
    · rw [World.cell?_setCell_other _ _ _ _ (ne (by omega))]; simpa using h0
    · rw [World.cell?_setCell_other _ _ _ _ (ne (by omega))]; simpa using h1
    · rw [World.cell?_setCell_same _ _ _ h2]; simp
  · simp only [if_neg e]
    refine ⟨?_, ?_, ?_⟩
    · rw [World.cell?_setCell_other _ _ _ _ (ne (by omega))]; exact h0
    · rw [World.cell?_setCell_other _ _ _ _ (ne (by omega))]; exact h1
    · rw [World.cell?_setCell_other _ _ _ _ (ne (by omega))]; exact h2
theorem lifC_at {l : List Nd} {n : Nat} {C : List Cg} {j : Nat} (hj : j < C.length) : cg (lifC l n C) j = lif l n (cg C j) := by
  rw [cg_is (by unfold lifC; simpa using hj), cg_is hj]; unfold lifC; simp
theorem lifC_len (l : List Nd) (n : Nat) (C : List Cg) : (lifC l n C).length = C.length := by unfold lifC; simp
theorem cgs_ok {h : Int → Bool} {C : List Cg} (e : cgsS h C = 0) : C.length ≤ 20000 ∧ ∀ k, k < C.length → 1 ≤ (cg C k).ca ∧ h (cg C k).cd = true := by
  unfold cgsS at e
  by_cases h1 : 20000 < C.length
  · rw [if_pos h1] at e; simp at e
  rw [if_neg h1] at e
  refine ⟨by omega, fun k hk => ?_⟩
  have := fe_zero e k hk
  unfold cgE at this
  by_cases g : (cg C k).ca < 1 ∨ (cg C k).co < 1 ∨ 50 < (cg C k).co
  · rw [if_pos g] at this; simp at this
  rw [if_neg g] at this
  by_cases g2 : h (cg C k).cd = false
  · rw [if_pos g2] at this; simp at this
  exact ⟨by omega, by simpa using g2⟩
theorem for_ok {l : List Nd} {C : List Cg} (e : forS l C = 0) : Fr l ∧ cgsS (hasB (lev l)) C = 0 ∧ C.length ≤ 20000 ∧ ∀ k, k < C.length → ∃ c : Nat, (cg C k).cd = c ∧ Has l c := by
  unfold forS at e
  by_cases h1 : frS l ≠ 0
  · rw [if_pos h1] at e; exact absurd e h1
  rw [if_neg h1] at e
  have F := fr_of (show frS l = 0 by omega)
  refine ⟨F, e, (cgs_ok e).1, fun k hk => (hasS_iff F).1 ((cgs_ok e).2 k hk).2⟩
def SB (z x y : Nat) (W : World) : Prop := W.cell? ⟨z, 0, none⟩ = some (row x) ∧ W.cell? ⟨z, 1, none⟩ = some (row y)
/-- What lies there in the loop of Lift. -/
structure InL (w wr : World) (x y z g : Nat) (l : List Nd) (n : Nat) (C : List Cg) (k : Nat) : Prop where
  box : B2 wr z (row x) (row y)
  ax : Arr wr x (par l)
  ay : Arr wr y (lev l)
  own : OwnF wr (z + 1) g C.length (fun j => if j < k then lif l n (cg C j) else cg C j)
  bel : Below w.heap.size w wr
  wz : w.heap.size ≤ z
  xz : x < z
  yz : y < z
theorem InL.keep {w wr W : World} {x y z g : Nat} {l : List Nd} {n : Nat} {C : List Cg} {k : Nat} (h : InL w wr x y z g l n C k) (hb : Below wr.heap.size wr W) : InL w W x y z g l n C k :=
  ⟨h.box.keep hb, h.ax.below hb, h.ay.below hb, h.own.keep hb, h.bel.trans (hb.mono h.bel.size), h.wz, h.xz, h.yz⟩
theorem Arr.other {w : World} {b g i : Nat} {f : Nat → Nat} (h : Arr w b f) (hne : g ≠ b) (x : Value) : Arr (w.setCell ⟨g, i, none⟩ x) b f :=
  ⟨by simpa using h.1, fun j hj => (set_cell hne x).trans (h.2 j hj)⟩
theorem InL.next {w wr : World} {x y z g : Nat} {l : List Nd} {n : Nat} {C : List Cg} {k : Nat} (h : InL w wr x y z g l n C k) (hk : k < C.length) :
    InL w (wr.setCell ⟨g, k * 3 + 2, none⟩ (.int .i64 (it (par l) (lev l (cg C k).cd.toNat - n) (cg C k).cd.toNat : Nat))) x y z g l n C (k + 1) := by
  have lo := h.own.lo
  have xz := h.xz
  have yz := h.yz
  have s := h.own.set hk (it (par l) (lev l (cg C k).cd.toNat - n) (cg C k).cd.toNat : Nat)
  refine ⟨h.box.otherCell (by omega) _, h.ax.other (by omega) _, h.ay.other (by omega) _, ?_, h.bel.setCell (p := ⟨g, k * 3 + 2, none⟩) (by have := h.wz; show _ ≤ g; omega) _, h.wz, xz, yz⟩
  refine ⟨fun j hj => ?_, s.fr, s.lo, s.lt⟩
  have := s.at_ j hj
  by_cases e : j = k
  · subst e
    simp only [if_pos rfl, Nat.lt_irrefl, if_false] at this
    rw [if_pos (Nat.lt_succ_self _)]
    exact this
  · simp only [if_neg e] at this
    by_cases e2 : j < k
    · rw [if_pos e2] at this; rw [if_pos (by omega)]; exact this
    · rw [if_neg e2] at this; rw [if_neg (by omega)]; exact this
def LiP (l : List Nd) (C : List Cg) (n : Int) (w : World) (e : Ending) (w' : World) : Prop :=
  (liE l C n = 0 ∧ ∃ a c, e = .returned (.tuple #[.slice a C.length c, .int .i64 0]) ∧ RdC w' a (lifC l n.toNat C) ∧ Below w.heap.size w w') ∨
  (liE l C n ≠ 0 ∧ e = .returned (.tuple #[.slice none 0 0, .int .i64 (liE l C n)]) ∧ Below w.heap.size w w')
set_option maxRecDepth 100000 in
set_option maxHeartbeats 4000000 in
theorem Lift_c (sa : Option Addr) (c : Nat) (l : List Nd) (a2 : Option Addr) (c2 : Nat) (C : List Cg) (m : Int) (w : World) (hl : RdN w sa l) (hf : Fits l) (hC : RdC w a2 C) :
    Calls Tryd.prog 24 #[.slice sa l.length c, .slice a2 C.length c2, .int .i64 m] w (LiP l C m w) := by
  have h9 := hC.1
  have HC := Lib.hid (frameFor_c sa c l a2 c2 C w hl hf hC)
  have HCC := Lib.hid hC
  clear hl hf hC
  by_cases hz : forS l C ≠ 0
  · have HP : Hid (liE l C m = forS l C ∧ liE l C m ≠ 0) := by
      have e : liE l C m = forS l C := by unfold liE; rw [if_pos hz]
      exact ⟨e, by rw [e]; exact hz⟩
    obtain ⟨f, hfl⟩ : ∃ f, forS l C = f := ⟨_, rfl⟩
    rw [hfl] at hz HC HP
    have HZ := Lib.hid hz
    have f1 : (f == 0) = false := by rw [beq_eq_false_iff_ne]; exact hz
    have f2 : (f != 0) = true := by rw [bne, f1]; rfl
    clear hfl hz
    go_enter Tryd.func24, Tryd.ntmps24
    go_wp2_with fail
    (with_reducible refine HC.out.mono ?_)
    intro e W2 he
    obtain ⟨h, _⟩ | ⟨_, rfl, b2⟩ := he
    · exact absurd h HZ.out
    have BW2 := Lib.hid (b2.trans ((bel_one W2 (.cells #[.slice none 0 0, .slice none 0 0] 71)).mono b2.size))
    clear b2
    go_wp2_with fail
    go_ret2
    exact Or.inr ⟨HP.out.2, by rw [HP.out.1]; rfl, BW2.out⟩
  have hz : forS l C = 0 := by omega
  obtain ⟨F, _, hn, hcs⟩ := for_ok hz
  have HP : Hid (liE l C m = if m < 1 ∨ 8 < m then 1 else 0) := by unfold Hid liE; rw [if_neg (by simpa using hz)]
  rw [hz] at HC
  have HF := Lib.hid F
  have HCS := Lib.hid hcs
  clear hz F hcs
  go_enter Tryd.func24, Tryd.ntmps24
  go_wp2_with fail
  (with_reducible refine HC.out.mono ?_)
  intro e W2 he
  obtain ⟨_, x, y, rfl, hx, hy, b2, _, _⟩ | ⟨h, _⟩ := he
  rotate_left
  · exact absurd rfl h
  obtain ⟨W3, hW3⟩ : ∃ W3, W2.alloc (.cells #[row x, row y] 71) = W3 := ⟨_, rfl⟩
  have b3 : Below W2.heap.size W2 W3 := by rw [← hW3]; exact bel_one _ _
  have D3 : Hid (B2 W3 W2.heap.size (row x) (row y)) := by rw [← hW3]; exact B2.made _ _ _ _
  have X3 := Lib.hid (hx.below b3)
  have Y3 := Lib.hid (hy.below b3)
  have LXY : Hid (x < W2.heap.size ∧ y < W2.heap.size ∧ w.heap.size ≤ W2.heap.size) := ⟨hx.1, hy.1, b2.size⟩
  have BW3 := Lib.hid (b2.trans (b3.mono b2.size))
  clear b2 b3 hx hy HC
  by_cases m1 : m < 1
  · have RR : Hid (liE l C m = 1) := by unfold Hid; rw [HP.out, if_pos (Or.inl m1)]
    go_wp2_with fail
    go_ret2
    exact Or.inr ⟨by rw [RR.out]; decide, by rw [RR.out]; rfl, BW3.out⟩
  have m1' : decide (m < 1) = false := decide_eq_false m1
  by_cases m2 : 8 < m
  · have RR : Hid (liE l C m = 1) := by unfold Hid; rw [HP.out, if_pos (Or.inr m2)]
    clear m1
    go_wp2_with fail
    go_ret2
    exact Or.inr ⟨by rw [RR.out]; decide, by rw [RR.out]; rfl, BW3.out⟩
  have RR : Hid (liE l C m = 0) := by unfold Hid; rw [HP.out, if_neg (by omega)]
  obtain ⟨n, rfl⟩ : ∃ n : Nat, m = n := ⟨m.toNat, by omega⟩
  have HL := Lib.hid (clone_c a2 c2 C W3 (HCC.out.below BW3.out) hn)
  clear m1
  go_wp2_with fail
  clear hW3
  (with_reducible refine HL.out.mono ?_)
  rintro e W4 ⟨v, rfl, hown, b4⟩
  have BW4 := Lib.hid (BW3.out.trans (b4.mono BW3.out.size))
  by_cases h0 : C.length = 0
  · have e : C = [] := List.eq_nil_of_length_eq_zero h0
    subst e
    obtain ⟨a', c', rfl, _⟩ := rdC_own hown (by simp)
    have RD : Hid (RdC W4 a' (lifC l n [])) := RdC.nil_ _ _
    clear hown b4
    go_wp2_with fail
    go_loop [11, 31] (fun _ i => i = .int .i64 0) (fun _ _ => 0)
    case atStart => exact rfl
    case round =>
      obtain rfl := hrel
      go_wp2
      go_ret2
      exact Or.inl ⟨RR.out, a', c', rfl, by rw [Int.toNat_natCast]; exact RD.out, BW4.out⟩
  obtain ⟨g, cap, rfl, hO⟩ := own_C hown (by omega)
  have S0 : Hid (InL w W4 x y W2.heap.size g l n C 0) :=
    ⟨D3.out.keep b4, X3.out.below b4, Y3.out.below b4, ⟨fun j hj => by rw [if_neg (Nat.not_lt_zero _)]; exact hO.at_ j hj, hO.fr, by have := hO.lo; have := D3.out.lt; omega, hO.lt⟩, BW4.out, LXY.out.2.2, LXY.out.1, LXY.out.2.1⟩
  obtain ⟨z, hzz⟩ : ∃ z, W2.heap.size = z := ⟨_, rfl⟩
  rw [hzz] at S0 ⊢
  clear hown b4 hO h0 D3 X3 Y3 LXY BW3 BW4 HL HP
  go_wp2_with fail
  go_loopw [11, 31] (fun _ i wr => ∃ k : Nat, k ≤ C.length ∧ i = .int .i64 k ∧ Hid (InL w wr x y z g l n C k)) (fun _ i _ => C.length - (intOf i).toNat)
  case atStart => exact ⟨0, Nat.zero_le _, rfl, S0.out⟩
  case round =>
    clear S0
    obtain ⟨k, hk, rfl, hS⟩ := hrel
    by_cases hlt : k < C.length
    · have hlt' : (k : Int) < (C.length : Int) := by omega
      obtain ⟨cd, hcd, hcn⟩ := HCS.out k hlt
      have hcd := Lib.hid hcd
      have hcn := Lib.hid hcn
      go_wp2_with fail
      have JF : Hid (InL w wr.drew x y z g l n C k) := hS.out.keep (Below.refl _ _).drew
      refine wp_region_noPanic ?_
      refine wp_region_held_drew (S := SB z x y) (by kernel_rfl) ⟨JF.out.box.c0, JF.out.box.c1⟩ (fun hS => ?_)
      obtain ⟨V0, hV0⟩ : ∃ W, wr.drew = W := ⟨_, rfl⟩
      rw [hV0] at hS JF ⊢
      clear hV0
      refine wpAnyH_take (i := 0) (v := ?v0z1) rfl (by kernel_rfl) (by kernel_rfl) (by kernel_rfl) (fun _ _ _ h => h) (Or.inl ⟨by rfl, ?hy0z1⟩) (by assumption) ?rest0z1
      case hy0z1 =>
        intro w hSw
        dsimp only [SB] at hSw
        go_simp
        try with_reducible rfl
      simp only [Act.put, List.getElem_toArray, List.getElem_cons_succ, List.getElem_cons_zero, List.setIfInBounds_toArray, List.set_cons_zero, List.set_cons_succ]
      refine wpAnyH_take (i := 1) (v := ?v1z2) rfl (by kernel_rfl) (by kernel_rfl) (by kernel_rfl) (fun _ _ _ h => h) (Or.inl ⟨by rfl, ?hy1z2⟩) (by assumption) ?rest1z2
      case hy1z2 =>
        intro w hSw
        dsimp only [SB] at hSw
        go_simp
        try with_reducible rfl
      simp only [Act.put, List.getElem_toArray, List.getElem_cons_succ, List.getElem_cons_zero, List.setIfInBounds_toArray, List.set_cons_zero, List.set_cons_succ]
      refine wpAnyH_take (i := 2) (v := ?v2z3) rfl (by kernel_rfl) (by kernel_rfl) (by kernel_rfl) (fun _ _ _ h => h) (Or.inl ⟨by rfl, ?hy2z3⟩) (by assumption) ?rest2z3
      case hy2z3 =>
        intro w hSw
        dsimp only [SB] at hSw
        go_simp
        try with_reducible rfl
      simp only [Act.put, List.getElem_toArray, List.getElem_cons_succ, List.getElem_cons_zero, List.setIfInBounds_toArray, List.set_cons_zero, List.set_cons_succ]
      refine wpAnyH_take (i := 3) (v := ?v3z4) rfl (by kernel_rfl) (by kernel_rfl) (by kernel_rfl) (fun _ _ _ h => h) (Or.inl ⟨by rfl, ?hy3z4⟩) (by assumption) ?rest3z4
      case hy3z4 =>
        intro w hSw
        dsimp only [SB] at hSw
        go_simp
        try with_reducible rfl
      simp only [Act.put, List.getElem_toArray, List.getElem_cons_succ, List.getElem_cons_zero, List.setIfInBounds_toArray, List.set_cons_zero, List.set_cons_succ]
      refine wpAnyH_take (i := 4) (v := ?v4z5) rfl (by kernel_rfl) (by kernel_rfl) (by kernel_rfl) (fun _ _ _ h => h) (Or.inl ⟨by rfl, ?hy4z5⟩) (by assumption) ?rest4z5
      case hy4z5 =>
        intro w hSw
        dsimp only [SB] at hSw
        go_simp
        try with_reducible rfl
      simp only [Act.put, List.getElem_toArray, List.getElem_cons_succ, List.getElem_cons_zero, List.setIfInBounds_toArray, List.set_cons_zero, List.set_cons_succ]
      refine wpAnyH_take (i := 5) (v := ?v5z6) rfl (by kernel_rfl) (by kernel_rfl) (by kernel_rfl) (fun _ _ _ h => h) (Or.inl ⟨by rfl, ?hy5z6⟩) (by assumption) ?rest5z6
      case hy5z6 =>
        intro w hSw
        dsimp only [SB] at hSw
        go_simp
        try with_reducible rfl
      simp only [Act.put, List.getElem_toArray, List.getElem_cons_succ, List.getElem_cons_zero, List.setIfInBounds_toArray, List.set_cons_zero, List.set_cons_succ]
      refine wpAnyH_take (i := 6) (v := ?v6z7) rfl (by kernel_rfl) (by kernel_rfl) (by kernel_rfl) (fun _ _ _ h => h) (Or.inl ⟨by rfl, ?hy6z7⟩) (by assumption) ?rest6z7
      case hy6z7 =>
        intro w hSw
        dsimp only [SB] at hSw
        go_simp
        try with_reducible rfl
      simp only [Act.put, List.getElem_toArray, List.getElem_cons_succ, List.getElem_cons_zero, List.setIfInBounds_toArray, List.set_cons_zero, List.set_cons_succ]
      refine wpAnyH_take (i := 8) (v := ?v8z8) rfl (by kernel_rfl) (by kernel_rfl) (by kernel_rfl) (fun _ _ _ h => h) (Or.inl ⟨by rfl, ?hy8z8⟩) (by assumption) ?rest8z8
      case hy8z8 =>
        intro w hSw
        dsimp only [SB] at hSw
        go_simp
        try with_reducible rfl
      simp only [Act.put, List.getElem_toArray, List.getElem_cons_succ, List.getElem_cons_zero, List.setIfInBounds_toArray, List.set_cons_zero, List.set_cons_succ]
      refine wpAnyH_ready (rs := [7]) (by kernel_rfl) (by simp) ?_
      refine AllReadyH.cons rfl (fun K hK => ?_) AllReadyH.nil
      have u2 : V0.cell? ⟨g, k * 3 + 2, none⟩ = some (.int .i64 (cg C k).cd) := by
        have := (JF.out.own.at_ k hlt).2.2
        simp only [Nat.lt_irrefl, if_false] at this
        exact this
      go_simp

      refine hK.out _ _ hS (fun _ => ?_)
      clear hK K u2
      try simp only [Act.put, List.setIfInBounds_toArray, List.set_cons_zero, List.set_cons_succ]
      refine wpAnyH_ready (rs := [9]) (by kernel_rfl) (by simp) ?_
      refine AllReadyH.cons rfl (fun K hK => ?_) AllReadyH.nil
      go_simp
      (refine (lifted_c x y (par l) (lev l) (Has l) HF.out.tree cd n V0 JF.out.ax JF.out.ay (Or.inr hcn.out) (fun c h => (has_pos HF.out.ord h).2)).mono ?_)
      rintro e V1 ⟨rfl, bc⟩
      try go_simp
      have J2 : Hid (InL w V1 x y z g l n C k) := JF.out.keep bc
      have hT : SB z x y V1 := ⟨J2.out.box.c0, J2.out.box.c1⟩
      refine hK.out _ _ hT (fun _ => ?_)
      clear hK K hS bc
      have hS := hT
      clear hT
      try simp only [Act.put, List.setIfInBounds_toArray, List.set_cons_zero, List.set_cons_succ]
      refine wpAnyH_take (i := 10) (v := ?v10z9) rfl (by kernel_rfl) (by kernel_rfl) (by kernel_rfl) (fun _ _ _ h => h) (Or.inl ⟨by rfl, ?hy10z9⟩) (by assumption) ?rest10z9
      case hy10z9 =>
        intro w hSw
        dsimp only [SB] at hSw
        go_simp
        try with_reducible rfl
      simp only [Act.put, List.getElem_toArray, List.getElem_cons_succ, List.getElem_cons_zero, List.setIfInBounds_toArray, List.set_cons_zero, List.set_cons_succ]
      refine wpAnyH_take (i := 11) (v := ?v11z10) rfl (by kernel_rfl) (by kernel_rfl) (by kernel_rfl) (fun _ _ _ h => h) (Or.inl ⟨by rfl, ?hy11z10⟩) (by assumption) ?rest11z10
      case hy11z10 =>
        intro w hSw
        dsimp only [SB] at hSw
        go_simp
        try with_reducible rfl
      simp only [Act.put, List.getElem_toArray, List.getElem_cons_succ, List.getElem_cons_zero, List.setIfInBounds_toArray, List.set_cons_zero, List.set_cons_succ]
      refine wpAnyH_ready (rs := [12]) (by kernel_rfl) (by simp) ?_
      refine AllReadyH.cons rfl (fun K hK => ?_) AllReadyH.nil
      have s0 : V1.cell? ⟨g, k * 3 + 2, none⟩ = some (.int .i64 (cg C k).cd) := by
        have := (J2.out.own.at_ k hlt).2.2
        simp only [Nat.lt_irrefl, if_false] at this
        exact this
      have s1 := J2.out.own.fr (k * 3 + 2)
      go_simp
      have NX : Hid (InL w (V1.setCell ⟨g, k * 3 + 2, none⟩ (.int .i64 (it (par l) (lev l cd - n) cd : Nat))) x y z g l n C (k + 1)) := by
        have := J2.out.next hlt
        rw [hcd.out, Int.toNat_natCast] at this
        exact this
      have hT : SB z x y (V1.setCell ⟨g, k * 3 + 2, none⟩ (.int .i64 (it (par l) (lev l cd - n) cd : Nat))) := ⟨NX.out.box.c0, NX.out.box.c1⟩
      refine hK.out _ _ hT (fun _ => ?_)
      clear hK K hS
      try simp only [Act.put, List.setIfInBounds_toArray, List.set_cons_zero, List.set_cons_succ]
      refine wpAnyH_done (by kernel_rfl) ?_ _
      refine NoPanic.normal ?_
      clear hT s0 s1 J2
      go_wp2
      go_roundw
      case rel => exact ⟨k + 1, by omega, by go_num, NX.out⟩
      case measure => simp [intOf]; omega
    · obtain rfl : k = C.length := by omega
      have RD : Hid (RdC wr (some ⟨g, 0, none⟩) (lifC l n C)) := ⟨by rw [lifC_len]; exact h9, fun _ => ⟨g, 0, rfl, hS.out.own.lt, fun j hj => by
        rw [lifC_len] at hj
        have := hS.out.own.at_ j hj
        rw [if_pos hj] at this
        rw [lifC_at hj, Nat.zero_add]; exact this⟩⟩
      clear hlt
      go_wp2
      go_ret2
      exact Or.inl ⟨RR.out, _, cap, rfl, by rw [Int.toNat_natCast]; exact RD.out, hS.out.bel⟩
end Go.Proofs.YthdmodmplpoejaaDoor
