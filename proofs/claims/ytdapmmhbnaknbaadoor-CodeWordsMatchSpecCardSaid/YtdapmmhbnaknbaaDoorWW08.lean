/-
  The reference of package code: CheckCodings.
  Package code: a rule is checked.
  Package code: a coder is checked.
  Package code: what divides the words of a text; the words that are left out.
-/
import Derived.Test.YtdapmmhbnaknbaaDoorWW07
import Derived.Test.YtdapmmhbnaknbaaDoorWW02
namespace Go.Proofs.YtdapmmhbnaknbaaDoor
open Go.RowKit Go.WideMaps Go.Maps

theorem fnd_has {l : List Nd} (Fl : Fr l) {c : Int} {r : Int} (h : FndP l c r) : decide (r < 0) = !(hasS l c) := by
  rcases h with ⟨rfl, h⟩ | ⟨j, hj, rfl, e⟩
  · have : hasS l c = false := by
      rw [Bool.eq_false_iff]
      intro q
      obtain ⟨k, rfl, j, hj, e⟩ := (hasS_iff Fl).1 q
      exact h j hj e
    rw [this]; rfl
  · have : hasS l c = true := (hasS_iff Fl).2 ⟨c.toNat, by have := Fl.ord.rng j hj; omega, j, hj, by have := Fl.ord.rng j hj; omega⟩
    rw [this]
    simp
theorem lst_z (C : List Cg) : lst C 0 = cg0 := rfl
theorem lst_s (C : List Cg) (m : Nat) : lst C (m + 1) = cg C m := by unfold lst; rw [if_neg (by omega)]; rfl
end Go.Proofs.YtdapmmhbnaknbaaDoor
namespace Go.Proofs.YtdapmmhbnaknbaaDoor
open Go.RowKit Go.WideMaps Go.Maps

structure Ru where
  wi : List ByteArray
  wo : List ByteArray
  cd : Int
def ruF (h : Int → Bool) (r : Ru) : Int :=
  if r.wi.length = 0 then 9 else if 60 < r.wi.length ∨ 60 < r.wo.length then 2 else if wlF r.wi ≠ 0 then wlF r.wi else if wlF r.wo ≠ 0 then wlF r.wo else if h r.cd = true then 0 else 5
/-- The boxes of a frame and of a rule. -/
structure RB (W : World) (g z : Nat) (u v : Value) (a b : Value) (cd : Int) : Prop where
  f0 : W.cell? ⟨g, 0, none⟩ = some u
  f1 : W.cell? ⟨g, 1, none⟩ = some v
  r0 : W.cell? ⟨z, 0, none⟩ = some a
  r1 : W.cell? ⟨z, 1, none⟩ = some b
  r2 : W.cell? ⟨z, 2, none⟩ = some (.int .i64 cd)
  lg : g < W.heap.size
  lz : z < W.heap.size
theorem RB.keep {W W' : World} {g z : Nat} {u v a b : Value} {cd : Int} (h : RB W g z u v a b cd) (hb : Below W.heap.size W W') : RB W' g z u v a b cd :=
  ⟨(hb.cell (p := ⟨g, 0, none⟩) h.lg).trans h.f0, (hb.cell (p := ⟨g, 1, none⟩) h.lg).trans h.f1, (hb.cell (p := ⟨z, 0, none⟩) h.lz).trans h.r0, (hb.cell (p := ⟨z, 1, none⟩) h.lz).trans h.r1, (hb.cell (p := ⟨z, 2, none⟩) h.lz).trans h.r2, Nat.lt_of_lt_of_le h.lg hb.size, Nat.lt_of_lt_of_le h.lz hb.size⟩
theorem RB.made (w : World) (u v a b : Value) (cd : Int) (t s : TypeId) : RB ((w.alloc (.cells #[u, v] t)).alloc (.cells #[a, b, .int .i64 cd] s)) w.heap.size (w.heap.size + 1) u v a b cd := by
  have h1 : ∀ o, ((w.alloc (.cells #[u, v] t)).alloc (.cells #[a, b, .int .i64 cd] s)).cell? ⟨w.heap.size, o, none⟩ = (w.alloc (.cells #[u, v] t)).cell? ⟨w.heap.size, o, none⟩ := fun o => (bel_one (w.alloc (.cells #[u, v] t)) _).cell (p := ⟨w.heap.size, o, none⟩) (by simp)
  have e : (w.alloc (.cells #[u, v] t)).heap.size = w.heap.size + 1 := by simp
  refine ⟨?_, ?_, ?_, ?_, ?_, by simp; omega, by simp⟩
  · rw [h1, World.cell?_alloc_at _ _ _ _ rfl]; rfl
  · rw [h1, World.cell?_alloc_at _ _ _ _ rfl]; rfl
  · rw [World.cell?_alloc_at _ _ _ _ e.symm]; rfl
  · rw [World.cell?_alloc_at _ _ _ _ e.symm]; rfl
  · rw [World.cell?_alloc_at _ _ _ _ e.symm]; rfl
set_option maxRecDepth 100000 in
set_option maxHeartbeats 8000000 in
theorem checkRule_c (bp bl : Nat) (lv : Nat → Nat) (a1 a2 : Option Addr) (c1 c2 : Nat) (r : Ru) (w : World) (hl : Arr w bl lv) (h1 : RdW w a1 r.wi) (h2 : RdW w a2 r.wo) :
    Calls Tryd.prog 34 #[fv bp bl, .agg #[.slice a1 r.wi.length c1, .slice a2 r.wo.length c2, .int .i64 r.cd]] w (IntP (ruF (hasB lv) r) w) := by
  obtain ⟨W1, hW1⟩ : ∃ W1, (w.alloc (.cells #[row bp, row bl] 44)).alloc (.cells #[.slice a1 r.wi.length c1, .slice a2 r.wo.length c2, .int .i64 r.cd] 53) = W1 := ⟨_, rfl⟩
  obtain ⟨z, hz⟩ : ∃ z, w.heap.size + 1 = z := ⟨_, rfl⟩
  have X1 : Hid (RB W1 w.heap.size z (row bp) (row bl) (.slice a1 r.wi.length c1) (.slice a2 r.wo.length c2) r.cd) := by unfold Hid; rw [← hW1, ← hz]; exact RB.made _ _ _ _ _ _ _ _
  have B1 : Hid (Below w.heap.size w W1) := by unfold Hid; rw [← hW1]; exact (bel_one _ _).trans ((bel_one _ _).mono (by simp))
  have P1 := Lib.hid (h1.below B1.out)
  have P2 := Lib.hid (h2.below B1.out)
  have PL := Lib.hid (hl.below B1.out)
  have l1 := h1.1
  have l2 := h2.1
  clear hl h1 h2
  obtain ⟨n1, hn1⟩ : ∃ n, r.wi.length = n := ⟨_, rfl⟩
  obtain ⟨n2, hn2⟩ : ∃ n, r.wo.length = n := ⟨_, rfl⟩
  have C1 := Lib.hid (fun (W : World) (hb : Below W1.heap.size W1 W) => checkWords_c a1 c1 r.wi W (P1.out.below hb))
  have C2 := Lib.hid (fun (W : World) (hb : Below W1.heap.size W1 W) => checkWords_c a2 c2 r.wo W (P2.out.below hb))
  rw [hn1] at l1 X1 C1
  rw [hn2] at l2 X1 C2
  rw [hn1, hn2] at hW1 ⊢
  have E : Hid (ruF (hasB lv) r = if n1 = 0 then 9 else if 60 < n1 ∨ 60 < n2 then 2 else if wlF r.wi ≠ 0 then wlF r.wi else if wlF r.wo ≠ 0 then wlF r.wo else if (hasB lv) r.cd = true then 0 else 5) := by unfold Hid ruF; rw [hn1, hn2]
  obtain ⟨R, hR⟩ : ∃ R, ruF (hasB lv) r = R := ⟨_, rfl⟩
  rw [hR] at E ⊢
  obtain ⟨f1, hf1⟩ : ∃ f, wlF r.wi = f := ⟨_, rfl⟩
  obtain ⟨f2, hf2⟩ : ∃ f, wlF r.wo = f := ⟨_, rfl⟩
  rw [hf1] at E C1
  rw [hf2] at E C2
  clear hR hf1 hf2 hn1 hn2
  obtain ⟨x0, x1, x2, x3, x4, _, _⟩ := X1.out
  by_cases k1 : n1 = 0
  · have k1' : (n1 : Int) = 0 := by omega
    have e : Hid (R = 9) := by unfold Hid; rw [E.out, if_pos k1]
    clear E k1
    go_enter Tryd.func34, Tryd.ntmps34
    go_wp2
    go_ret
    exact ⟨by rw [e.out]; rfl, B1.out⟩
  have k1' : ¬ (n1 : Int) = 0 := by omega
  by_cases k2 : 60 < n1
  · have k2' : (60 : Int) < (n1 : Int) := by omega
    have e : Hid (R = 2) := by unfold Hid; rw [E.out, if_neg k1, if_pos (.inl k2)]
    clear E k1 k2
    go_enter Tryd.func34, Tryd.ntmps34
    go_wp2
    go_ret
    exact ⟨by rw [e.out]; rfl, B1.out⟩
  have k2' : ¬ (60 : Int) < (n1 : Int) := by omega
  by_cases k3 : 60 < n2
  · have k3' : (60 : Int) < (n2 : Int) := by omega
    have e : Hid (R = 2) := by unfold Hid; rw [E.out, if_neg k1, if_pos (.inr k3)]
    clear E k1 k2 k3
    go_enter Tryd.func34, Tryd.ntmps34
    go_wp2
    go_ret
    exact ⟨by rw [e.out]; rfl, B1.out⟩
  have k3' : ¬ (60 : Int) < (n2 : Int) := by omega
  have E2 : Hid (R = if f1 ≠ 0 then f1 else if f2 ≠ 0 then f2 else if (hasB lv) r.cd = true then 0 else 5) := by unfold Hid; rw [E.out, if_neg k1, if_neg (fun h => h.elim k2 k3)]
  have D1 := Lib.hid (C1.out W1 (Below.refl _ _))
  clear E k1 k2 k3 C1
  by_cases k4 : f1 = 0
  · subst k4
    by_cases k5 : f2 = 0
    · subst k5
      have E3 : Hid (R = if (hasB lv) r.cd = true then 0 else 5) := by unfold Hid; rw [E2.out]; simp
      cases hh : (hasB lv) r.cd with
      | true =>
        have e : Hid (R = 0) := by unfold Hid; rw [E3.out, hh]; rfl
        clear E2 E3
        go_enter Tryd.func34, Tryd.ntmps34
        go_wp2_with fail
        refine D1.out.mono ?_
        rintro e1 w2 ⟨rfl, b2⟩
        have D2 := Lib.hid (C2.out w2 b2)
        have B2 := Lib.hid (B1.out.trans (b2.mono B1.out.size))
        have X2 := Lib.hid (X1.out.keep b2)
        have L2 := Lib.hid (PL.out.below b2)
        obtain ⟨y0, y1, y2, y3, y4, _, _⟩ := X2.out
        clear b2 x0 x1 x2 x3 x4
        go_wp2_with fail
        refine D2.out.mono ?_
        rintro e1 w3 ⟨rfl, b3⟩
        have B3 := Lib.hid (B2.out.trans (b3.mono B2.out.size))
        have HH := Lib.hid (has_c bp bl lv r.cd w3 (L2.out.below b3))
        rw [hh] at HH
        obtain ⟨z0, z1, z2, z3, z4, _, _⟩ := X2.out.keep b3
        clear b3 y0 y1 y2 y3 y4 hh
        go_wp2_with fail
        refine HH.out.mono ?_
        rintro e1 w4 ⟨rfl, b4⟩
        have B4 := Lib.hid (B3.out.trans (b4.mono B3.out.size))
        clear b4
        go_wp2
        go_ret
        exact ⟨by rw [e.out]; rfl, B4.out⟩
      | false =>
        have e : Hid (R = 5) := by unfold Hid; rw [E3.out, hh]; rfl
        clear E2 E3
        go_enter Tryd.func34, Tryd.ntmps34
        go_wp2_with fail
        refine D1.out.mono ?_
        rintro e1 w2 ⟨rfl, b2⟩
        have D2 := Lib.hid (C2.out w2 b2)
        have B2 := Lib.hid (B1.out.trans (b2.mono B1.out.size))
        have X2 := Lib.hid (X1.out.keep b2)
        have L2 := Lib.hid (PL.out.below b2)
        obtain ⟨y0, y1, y2, y3, y4, _, _⟩ := X2.out
        clear b2 x0 x1 x2 x3 x4
        go_wp2_with fail
        refine D2.out.mono ?_
        rintro e1 w3 ⟨rfl, b3⟩
        have B3 := Lib.hid (B2.out.trans (b3.mono B2.out.size))
        have HH := Lib.hid (has_c bp bl lv r.cd w3 (L2.out.below b3))
        rw [hh] at HH
        obtain ⟨z0, z1, z2, z3, z4, _, _⟩ := X2.out.keep b3
        clear b3 y0 y1 y2 y3 y4 hh
        go_wp2_with fail
        refine HH.out.mono ?_
        rintro e1 w4 ⟨rfl, b4⟩
        have B4 := Lib.hid (B3.out.trans (b4.mono B3.out.size))
        clear b4
        go_wp2
        go_ret
        exact ⟨by rw [e.out]; rfl, B4.out⟩
    · have k5' : (f2 == 0) = false := by rw [beq_eq_false_iff_ne]; exact k5
      have k5b : (f2 != 0) = true := by rw [bne, k5']; rfl
      have e : Hid (R = f2) := by unfold Hid; rw [E2.out, if_neg (by simp), if_pos k5]
      clear E2 k5
      go_enter Tryd.func34, Tryd.ntmps34
      go_wp2_with fail
      refine D1.out.mono ?_
      rintro e1 w2 ⟨rfl, b2⟩
      have D2 := Lib.hid (C2.out w2 b2)
      have B2 := Lib.hid (B1.out.trans (b2.mono B1.out.size))
      obtain ⟨y0, y1, y2, y3, y4, _, _⟩ := X1.out.keep b2
      clear b2 x0 x1 x2 x3 x4
      go_wp2_with fail
      refine D2.out.mono ?_
      rintro e1 w3 ⟨rfl, b3⟩
      have B3 := Lib.hid (B2.out.trans (b3.mono B2.out.size))
      clear b3
      go_wp2
      go_ret
      exact ⟨by rw [e.out]; rfl, B3.out⟩
  · have k4' : (f1 == 0) = false := by rw [beq_eq_false_iff_ne]; exact k4
    have k4b : (f1 != 0) = true := by rw [bne, k4']; rfl
    have e : Hid (R = f1) := by unfold Hid; rw [E2.out, if_pos k4]
    clear E2 k4
    go_enter Tryd.func34, Tryd.ntmps34
    go_wp2_with fail
    refine D1.out.mono ?_
    rintro e1 w2 ⟨rfl, b2⟩
    have B2 := Lib.hid (B1.out.trans (b2.mono B1.out.size))
    clear b2
    go_wp2
    go_ret
    exact ⟨by rw [e.out]; rfl, B2.out⟩
/-- The box of a rule. -/
structure RR (W : World) (z : Nat) (a b : Value) (cd : Int) : Prop where
  r0 : W.cell? ⟨z, 0, none⟩ = some a
  r1 : W.cell? ⟨z, 1, none⟩ = some b
  r2 : W.cell? ⟨z, 2, none⟩ = some (.int .i64 cd)
  lz : z < W.heap.size
theorem RR.keep {W W' : World} {z : Nat} {a b : Value} {cd : Int} (h : RR W z a b cd) (hb : Below W.heap.size W W') : RR W' z a b cd :=
  ⟨(hb.cell (p := ⟨z, 0, none⟩) h.lz).trans h.r0, (hb.cell (p := ⟨z, 1, none⟩) h.lz).trans h.r1, (hb.cell (p := ⟨z, 2, none⟩) h.lz).trans h.r2, Nat.lt_of_lt_of_le h.lz hb.size⟩
theorem RR.made (w : World) (a b : Value) (cd : Int) (s : TypeId) : RR (w.alloc (.cells #[a, b, .int .i64 cd] s)) w.heap.size a b cd := by
  refine ⟨?_, ?_, ?_, by simp⟩
  all_goals (rw [World.cell?_alloc_at _ _ _ _ rfl]; rfl)
set_option maxRecDepth 100000 in
set_option maxHeartbeats 8000000 in
theorem rCheckRule_c (a : Option Addr) (ca : Nat) (L : List Nd) (Fl : Fr L) (a1 a2 : Option Addr) (c1 c2 : Nat) (r : Ru) (w : World) (hl : RdN w a L) (h1 : RdW w a1 r.wi) (h2 : RdW w a2 r.wo) :
    Calls Tryd.prog 19 #[.agg #[.slice a1 r.wi.length c1, .slice a2 r.wo.length c2, .int .i64 r.cd], .slice a L.length ca] w (IntP (ruF (hasS L) r) w) := by
  obtain ⟨W1, hW1⟩ : ∃ W1, w.alloc (.cells #[.slice a1 r.wi.length c1, .slice a2 r.wo.length c2, .int .i64 r.cd] 53) = W1 := ⟨_, rfl⟩
  have X1 : Hid (RR W1 w.heap.size (.slice a1 r.wi.length c1) (.slice a2 r.wo.length c2) r.cd) := by unfold Hid; rw [← hW1]; exact RR.made _ _ _ _ _
  have B1 : Hid (Below w.heap.size w W1) := by unfold Hid; rw [← hW1]; exact bel_one _ _
  have P1 := Lib.hid (h1.below B1.out)
  have P2 := Lib.hid (h2.below B1.out)
  have PL := Lib.hid (hl.below B1.out)
  have l1 := h1.1
  have l2 := h2.1
  clear hl h1 h2
  obtain ⟨n1, hn1⟩ : ∃ n, r.wi.length = n := ⟨_, rfl⟩
  obtain ⟨n2, hn2⟩ : ∃ n, r.wo.length = n := ⟨_, rfl⟩
  have C1 := Lib.hid (fun (W : World) (hb : Below W1.heap.size W1 W) => rCheckWords_c a1 c1 r.wi W (P1.out.below hb))
  have C2 := Lib.hid (fun (W : World) (hb : Below W1.heap.size W1 W) => rCheckWords_c a2 c2 r.wo W (P2.out.below hb))
  rw [hn1] at l1 X1 C1
  rw [hn2] at l2 X1 C2
  rw [hn1, hn2] at hW1 ⊢
  have E : Hid (ruF (hasS L) r = if n1 = 0 then 9 else if 60 < n1 ∨ 60 < n2 then 2 else if wlF r.wi ≠ 0 then wlF r.wi else if wlF r.wo ≠ 0 then wlF r.wo else if (hasS L) r.cd = true then 0 else 5) := by unfold Hid ruF; rw [hn1, hn2]
  obtain ⟨R, hR⟩ : ∃ R, ruF (hasS L) r = R := ⟨_, rfl⟩
  rw [hR] at E ⊢
  obtain ⟨f1, hf1⟩ : ∃ f, wlF r.wi = f := ⟨_, rfl⟩
  obtain ⟨f2, hf2⟩ : ∃ f, wlF r.wo = f := ⟨_, rfl⟩
  rw [hf1] at E C1
  rw [hf2] at E C2
  clear hR hf1 hf2 hn1 hn2
  obtain ⟨x0, x1, x2, _⟩ := X1.out
  by_cases k1 : n1 = 0
  · have k1' : (n1 : Int) = 0 := by omega
    have e : Hid (R = 9) := by unfold Hid; rw [E.out, if_pos k1]
    clear E k1
    go_enter Tryd.func19, Tryd.ntmps19
    go_wp2
    go_ret
    exact ⟨by rw [e.out]; rfl, B1.out⟩
  have k1' : ¬ (n1 : Int) = 0 := by omega
  by_cases k2 : 60 < n1
  · have k2' : (60 : Int) < (n1 : Int) := by omega
    have e : Hid (R = 2) := by unfold Hid; rw [E.out, if_neg k1, if_pos (.inl k2)]
    clear E k1 k2
    go_enter Tryd.func19, Tryd.ntmps19
    go_wp2
    go_ret
    exact ⟨by rw [e.out]; rfl, B1.out⟩
  have k2' : ¬ (60 : Int) < (n1 : Int) := by omega
  by_cases k3 : 60 < n2
  · have k3' : (60 : Int) < (n2 : Int) := by omega
    have e : Hid (R = 2) := by unfold Hid; rw [E.out, if_neg k1, if_pos (.inr k3)]
    clear E k1 k2 k3
    go_enter Tryd.func19, Tryd.ntmps19
    go_wp2
    go_ret
    exact ⟨by rw [e.out]; rfl, B1.out⟩
  have k3' : ¬ (60 : Int) < (n2 : Int) := by omega
  have E2 : Hid (R = if f1 ≠ 0 then f1 else if f2 ≠ 0 then f2 else if (hasS L) r.cd = true then 0 else 5) := by unfold Hid; rw [E.out, if_neg k1, if_neg (fun h => h.elim k2 k3)]
  have D1 := Lib.hid (C1.out W1 (Below.refl _ _))
  clear E k1 k2 k3
  obtain ⟨W2, hW2⟩ : ∃ W2, W1.alloc (.cells #[.slice a1 n1 c1, .slice a2 n2 c2] 23) = W2 := ⟨_, rfl⟩
  obtain ⟨zz, hzz⟩ : ∃ z, W1.heap.size = z := ⟨_, rfl⟩
  have B2 : Hid (Below w.heap.size w W2) := by unfold Hid; rw [← hW2]; exact B1.out.trans ((bel_one _ _).mono B1.out.size)
  have B12 : Hid (Below W1.heap.size W1 W2) := by unfold Hid; rw [← hW2]; exact bel_one _ _
  have Q0 : Hid (W2.cell? ⟨zz, 0, none⟩ = some (.slice a1 n1 c1) ∧ W2.cell? ⟨zz, 1, none⟩ = some (.slice a2 n2 c2) ∧ zz < W2.heap.size) := by
    unfold Hid; rw [← hW2, ← hzz]
    exact ⟨by rw [World.cell?_alloc_at _ _ _ _ rfl]; rfl, by rw [World.cell?_alloc_at _ _ _ _ rfl]; rfl, by simp⟩
  have X2 := Lib.hid (X1.out.keep B12.out)
  clear D1
  go_enter Tryd.func19, Tryd.ntmps19
  go_wp2_with fail
  clear hW1 hW2 hzz x0 x1 x2
  go_loopw [6, 7, 30] (fun _ _ i wr => ∃ k : Nat, k ≤ 2 ∧ i = .int .i64 k ∧ Hid (Below W2.heap.size W2 wr ∧ (0 < k → f1 = 0) ∧ (1 < k → f2 = 0))) (fun _ _ i _ => 2 - (intOf i).toNat)
  case atStart => exact ⟨0, Nat.zero_le _, rfl, Below.refl _ _, fun h => absurd h (Nat.lt_irrefl 0), fun h => absurd h (by omega)⟩
  case round =>
    obtain ⟨k, hk, rfl, hS⟩ := hrel
    have q0 := (hS.out.1.cell (p := ⟨zz, 0, none⟩) Q0.out.2.2).trans Q0.out.1
    have q1 := (hS.out.1.cell (p := ⟨zz, 1, none⟩) Q0.out.2.2).trans Q0.out.2.1
    have hk3 : k = 0 ∨ k = 1 ∨ k = 2 := by omega
    rcases hk3 with rfl | rfl | rfl
    · have D := Lib.hid (C1.out wr (B12.out.trans (hS.out.1.mono B12.out.size)))
      by_cases k4 : f1 = 0
      · subst k4
        go_wp2_with fail
        refine D.out.mono ?_
        rintro e1 w2 ⟨rfl, b2⟩
        have NX : Hid (Below W2.heap.size W2 w2) := hS.out.1.trans (b2.mono hS.out.1.size)
        clear b2
        go_wp2
        go_roundw
        case rel => exact ⟨1, by omega, by go_num, NX.out, fun _ => by simp, fun h => absurd h (by omega)⟩
        case measure => simp [intOf]
      · have k4' : (f1 == 0) = false := by rw [beq_eq_false_iff_ne]; exact k4
        have k4b : (f1 != 0) = true := by rw [bne, k4']; rfl
        have e : Hid (R = f1) := by unfold Hid; rw [E2.out]; simp [k4]
        clear E2 k4
        go_wp2_with fail
        refine D.out.mono ?_
        rintro e1 w2 ⟨rfl, b2⟩
        have B3 : Hid (Below w.heap.size w w2) := B2.out.trans ((hS.out.1.trans (b2.mono hS.out.1.size)).mono B2.out.size)
        clear b2
        go_wp2
        go_ret
        exact ⟨by rw [e.out]; rfl, B3.out⟩
    · have hf := hS.out.2.1 (by omega)
      have D := Lib.hid (C2.out wr (B12.out.trans (hS.out.1.mono B12.out.size)))
      have HF := Lib.hid hf
      clear hf
      by_cases k4 : f2 = 0
      · subst k4
        go_wp2_with fail
        refine D.out.mono ?_
        rintro e1 w2 ⟨rfl, b2⟩
        have NX : Hid (Below W2.heap.size W2 w2) := hS.out.1.trans (b2.mono hS.out.1.size)
        clear b2
        go_wp2
        go_roundw
        case rel => exact ⟨2, by omega, by go_num, NX.out, fun _ => HF.out, fun _ => by simp⟩
        case measure => simp [intOf]
      · have k4' : (f2 == 0) = false := by rw [beq_eq_false_iff_ne]; exact k4
        have k4b : (f2 != 0) = true := by rw [bne, k4']; rfl
        have e : Hid (R = f2) := by unfold Hid; rw [E2.out, HF.out]; simp [k4]
        clear E2 k4
        go_wp2_with fail
        refine D.out.mono ?_
        rintro e1 w2 ⟨rfl, b2⟩
        have B3 : Hid (Below w.heap.size w w2) := B2.out.trans ((hS.out.1.trans (b2.mono hS.out.1.size)).mono B2.out.size)
        clear b2
        go_wp2
        go_ret
        exact ⟨by rw [e.out]; rfl, B3.out⟩
    · have HF1 := Lib.hid (hS.out.2.1 (by omega))
      have HF2 := Lib.hid (hS.out.2.2 (by omega))
      have E3 : Hid (R = if (hasS L) r.cd = true then 0 else 5) := by unfold Hid; rw [E2.out, HF1.out, HF2.out]; simp
      have X3 := Lib.hid (X2.out.keep hS.out.1)
      have FD := Lib.hid (rfind_c a ca L r.cd wr ((PL.out.below B12.out).below hS.out.1))
      have B3 : Hid (Below w.heap.size w wr) := B2.out.trans (hS.out.1.mono B2.out.size)
      obtain ⟨y0, y1, y2, _⟩ := X3.out
      clear q0 q1 E2
      go_wp2_with fail
      refine FD.out.mono ?_
      rintro e1 w3 ⟨⟨rr, rfl, hr⟩, b3⟩
      have hx := fnd_has Fl hr
      have B4 : Hid (Below w.heap.size w w3) := B3.out.trans (b3.mono B3.out.size)
      clear hr b3
      cases hh : (hasS L) r.cd with
      | true =>
        have e : Hid (R = 0) := by unfold Hid; rw [E3.out, hh]; rfl
        rw [hh] at hx
        have hx' : ¬ rr < 0 := of_decide_eq_false (by simpa using hx)
        clear hh E3 hx
        go_wp2
        go_ret
        exact ⟨by rw [e.out]; rfl, B4.out⟩
      | false =>
        have e : Hid (R = 5) := by unfold Hid; rw [E3.out, hh]; rfl
        rw [hh] at hx
        have hx' : rr < 0 := of_decide_eq_true (by simpa using hx)
        clear hh E3 hx
        go_wp2
        go_ret
        exact ⟨by rw [e.out]; rfl, B4.out⟩
end Go.Proofs.YtdapmmhbnaknbaaDoor
namespace Go.Proofs.YtdapmmhbnaknbaaDoor
open Go.RowKit Go.WideMaps Go.Maps

structure Xp where
  tx : ByteArray
  cd : Int
structure Cod where
  nd : List Nd
  st : List ByteArray
  en : List En
  ru : List Ru
  ex : List Xp
def ea (l : List En) (j : Nat) : En := l.getD j ⟨⟨#[]⟩, ⟨#[]⟩⟩
def ra (l : List Ru) (j : Nat) : Ru := l.getD j ⟨[], [], 0⟩
def xa (l : List Xp) (j : Nat) : Xp := l.getD j ⟨⟨#[]⟩, 0⟩
def enE (e : En) : Int := if isW e.fr.data.toList = false then 5 else if e.to.data.toList = [] then 0 else if isW e.to.data.toList = false then 5 else 0
def xpE (h : Int → Bool) (x : Xp) : Int := if 1000 < x.tx.size then 2 else if h x.cd = true then 0 else 5
def enF (l : List En) : Int := fe (fun k => enE (ea l k)) l.length
def rlF (h : Int → Bool) (l : List Ru) : Int := fe (fun k => ruF h (ra l k)) l.length
def xpF (h : Int → Bool) (l : List Xp) : Int := fe (fun k => xpE h (xa l k)) l.length
def ccF (h : Int → Bool) (C : Cod) : Int :=
  if 60 < C.st.length ∨ 40 < C.en.length ∨ 200 < C.ru.length ∨ 2000 < C.ex.length then 2 else if wlF C.st ≠ 0 then wlF C.st else if enF C.en ≠ 0 then enF C.en else if rlF h C.ru ≠ 0 then rlF h C.ru else xpF h C.ex
def cdF (C : Cod) : Int := if frS C.nd ≠ 0 then frS C.nd else ccF (hasS C.nd) C
def RdE (w : World) (a : Option Addr) (l : List En) : Prop :=
  l.length ≤ 9223372036854775807 ∧ (0 < l.length → ∃ b off, a = some ⟨b, off, none⟩ ∧ b < w.heap.size ∧ ∀ j, j < l.length → w.cell? ⟨b, off + j * 2, none⟩ = some (.string (ea l j).fr) ∧ w.cell? ⟨b, off + j * 2 + 1, none⟩ = some (.string (ea l j).to) ∧
    (ea l j).fr.size ≤ 9223372036854775807 ∧ (ea l j).to.size ≤ 9223372036854775807)
def RdU (w : World) (a : Option Addr) (l : List Ru) : Prop :=
  l.length ≤ 9223372036854775807 ∧ (0 < l.length → ∃ b off, a = some ⟨b, off, none⟩ ∧ b < w.heap.size ∧ ∀ j, j < l.length → ∃ a1 c1 a2 c2, w.cell? ⟨b, off + j * 3, none⟩ = some (.slice a1 (ra l j).wi.length c1) ∧
    w.cell? ⟨b, off + j * 3 + 1, none⟩ = some (.slice a2 (ra l j).wo.length c2) ∧ w.cell? ⟨b, off + j * 3 + 2, none⟩ = some (.int .i64 (ra l j).cd) ∧ RdW w a1 (ra l j).wi ∧ RdW w a2 (ra l j).wo)
def RdX (w : World) (a : Option Addr) (l : List Xp) : Prop :=
  l.length ≤ 9223372036854775807 ∧ (0 < l.length → ∃ b off, a = some ⟨b, off, none⟩ ∧ b < w.heap.size ∧ ∀ j, j < l.length → w.cell? ⟨b, off + j * 2, none⟩ = some (.string (xa l j).tx) ∧ w.cell? ⟨b, off + j * 2 + 1, none⟩ = some (.int .i64 (xa l j).cd) ∧
    (xa l j).tx.size ≤ 9223372036854775807)
theorem RdE.below {w w' : World} {a : Option Addr} {l : List En} (h : RdE w a l) (hb : Below w.heap.size w w') : RdE w' a l :=
  ⟨h.1, fun h0 => by
    obtain ⟨b, off, e, hl, hc⟩ := h.2 h0
    exact ⟨b, off, e, Nat.lt_of_lt_of_le hl hb.size, fun j hj => ⟨(hb.cell (p := ⟨b, off + j * 2, none⟩) hl).trans (hc j hj).1, (hb.cell (p := ⟨b, off + j * 2 + 1, none⟩) hl).trans (hc j hj).2.1, (hc j hj).2.2⟩⟩⟩
theorem RdU.below {w w' : World} {a : Option Addr} {l : List Ru} (h : RdU w a l) (hb : Below w.heap.size w w') : RdU w' a l :=
  ⟨h.1, fun h0 => by
    obtain ⟨b, off, e, hl, hc⟩ := h.2 h0
    refine ⟨b, off, e, Nat.lt_of_lt_of_le hl hb.size, fun j hj => ?_⟩
    obtain ⟨a1, c1, a2, c2, h1, h2, h3, h4, h5⟩ := hc j hj
    exact ⟨a1, c1, a2, c2, (hb.cell (p := ⟨b, off + j * 3, none⟩) hl).trans h1, (hb.cell (p := ⟨b, off + j * 3 + 1, none⟩) hl).trans h2, (hb.cell (p := ⟨b, off + j * 3 + 2, none⟩) hl).trans h3, h4.below hb, h5.below hb⟩⟩
theorem RdX.below {w w' : World} {a : Option Addr} {l : List Xp} (h : RdX w a l) (hb : Below w.heap.size w w') : RdX w' a l :=
  ⟨h.1, fun h0 => by
    obtain ⟨b, off, e, hl, hc⟩ := h.2 h0
    exact ⟨b, off, e, Nat.lt_of_lt_of_le hl hb.size, fun j hj => ⟨(hb.cell (p := ⟨b, off + j * 2, none⟩) hl).trans (hc j hj).1, (hb.cell (p := ⟨b, off + j * 2 + 1, none⟩) hl).trans (hc j hj).2.1, (hc j hj).2.2⟩⟩⟩
/-- A coder in memory. -/
structure CoR (w : World) (an sa ae ar ax : Option Addr) (C : Cod) : Prop where
  nd : RdN w an C.nd
  st : RdW w sa C.st
  en : RdE w ae C.en
  ru : RdU w ar C.ru
  ex : RdX w ax C.ex
  fit : Fits C.nd
theorem CoR.below {w w' : World} {an sa ae ar ax : Option Addr} {C : Cod} (h : CoR w an sa ae ar ax C) (hb : Below w.heap.size w w') : CoR w' an sa ae ar ax C :=
  ⟨h.nd.below hb, h.st.below hb, h.en.below hb, h.ru.below hb, h.ex.below hb, h.fit⟩
/-- The box of a coder; a box of two cells. -/
structure KB (W : World) (z : Nat) (v0 v1 v2 v3 v4 : Value) : Prop where
  c0 : W.cell? ⟨z, 0, none⟩ = some v0
  c1 : W.cell? ⟨z, 1, none⟩ = some v1
  c2 : W.cell? ⟨z, 2, none⟩ = some v2
  c3 : W.cell? ⟨z, 3, none⟩ = some v3
  c4 : W.cell? ⟨z, 4, none⟩ = some v4
  lz : z < W.heap.size
theorem KB.keep {W W' : World} {z : Nat} {v0 v1 v2 v3 v4 : Value} (h : KB W z v0 v1 v2 v3 v4) (hb : Below W.heap.size W W') : KB W' z v0 v1 v2 v3 v4 :=
  ⟨(hb.cell (p := ⟨z, 0, none⟩) h.lz).trans h.c0, (hb.cell (p := ⟨z, 1, none⟩) h.lz).trans h.c1, (hb.cell (p := ⟨z, 2, none⟩) h.lz).trans h.c2, (hb.cell (p := ⟨z, 3, none⟩) h.lz).trans h.c3, (hb.cell (p := ⟨z, 4, none⟩) h.lz).trans h.c4, Nat.lt_of_lt_of_le h.lz hb.size⟩
theorem KB.made (w : World) (v0 v1 v2 v3 v4 : Value) (s : TypeId) : KB (w.alloc (.cells #[v0, v1, v2, v3, v4] s)) w.heap.size v0 v1 v2 v3 v4 := by
  refine ⟨?_, ?_, ?_, ?_, ?_, by simp⟩
  all_goals (rw [World.cell?_alloc_at _ _ _ _ rfl]; rfl)
structure B2x (W : World) (z : Nat) (v0 v1 : Value) : Prop where
  c0 : W.cell? ⟨z, 0, none⟩ = some v0
  c1 : W.cell? ⟨z, 1, none⟩ = some v1
  lz : z < W.heap.size
theorem B2x.keep {W W' : World} {z : Nat} {v0 v1 : Value} (h : B2x W z v0 v1) (hb : Below W.heap.size W W') : B2x W' z v0 v1 :=
  ⟨(hb.cell (p := ⟨z, 0, none⟩) h.lz).trans h.c0, (hb.cell (p := ⟨z, 1, none⟩) h.lz).trans h.c1, Nat.lt_of_lt_of_le h.lz hb.size⟩
theorem B2x.made (w : World) (v0 v1 : Value) (s : TypeId) : B2x (w.alloc (.cells #[v0, v1] s)) w.heap.size v0 v1 := by
  refine ⟨?_, ?_, by simp⟩
  all_goals (rw [World.cell?_alloc_at _ _ _ _ rfl]; rfl)
set_option maxRecDepth 100000 in
set_option maxHeartbeats 20000000 in
theorem checkCoder_c (bp bl : Nat) (an sa ae ar ax : Option Addr) (k0 k1 k2 k3 k4 : Nat) (C : Cod) (w : World) (hl : Arr w bl (lev C.nd)) (hC : CoR w an sa ae ar ax C) :
    Calls Tryd.prog 15 #[fv bp bl, .agg #[.slice an C.nd.length k0, .slice sa C.st.length k1, .slice ae C.en.length k2, .slice ar C.ru.length k3, .slice ax C.ex.length k4]] w (IntP (ccF (hasS C.nd) C) w) := by
  obtain ⟨W1, hW1⟩ : ∃ W1, (w.alloc (.cells #[row bp, row bl] 44)).alloc (.cells #[.slice an C.nd.length k0, .slice sa C.st.length k1, .slice ae C.en.length k2, .slice ar C.ru.length k3, .slice ax C.ex.length k4] 28) = W1 := ⟨_, rfl⟩
  obtain ⟨z, hz⟩ : ∃ z, w.heap.size + 1 = z := ⟨_, rfl⟩
  have X1 : Hid (KB W1 z (.slice an C.nd.length k0) (.slice sa C.st.length k1) (.slice ae C.en.length k2) (.slice ar C.ru.length k3) (.slice ax C.ex.length k4)) := by
    unfold Hid; rw [← hW1, ← hz]
    have h := KB.made (w.alloc (.cells #[row bp, row bl] 44)) (.slice an C.nd.length k0) (.slice sa C.st.length k1) (.slice ae C.en.length k2) (.slice ar C.ru.length k3) (.slice ax C.ex.length k4) 28
    rw [show (w.alloc (.cells #[row bp, row bl] 44)).heap.size = w.heap.size + 1 by simp] at h
    exact h
  have Y1 : Hid (B2x W1 w.heap.size (row bp) (row bl)) := by unfold Hid; rw [← hW1]; exact (B2x.made w (row bp) (row bl) 44).keep (bel_one _ _)
  have B1 : Hid (Below w.heap.size w W1) := by unfold Hid; rw [← hW1]; exact (bel_one _ _).trans ((bel_one _ _).mono (by simp))
  have PL := Lib.hid (hl.below B1.out)
  have PC := Lib.hid (hC.below B1.out)
  clear hl hC
  obtain ⟨n0, hn0⟩ : ∃ n, C.nd.length = n := ⟨_, rfl⟩
  obtain ⟨n1, hn1⟩ : ∃ n, C.st.length = n := ⟨_, rfl⟩
  obtain ⟨n2, hn2⟩ : ∃ n, C.en.length = n := ⟨_, rfl⟩
  obtain ⟨n3, hn3⟩ : ∃ n, C.ru.length = n := ⟨_, rfl⟩
  obtain ⟨n4, hn4⟩ : ∃ n, C.ex.length = n := ⟨_, rfl⟩
  have E : Hid (ccF (hasS C.nd) C = if 60 < n1 ∨ 40 < n2 ∨ 200 < n3 ∨ 2000 < n4 then 2 else if wlF C.st ≠ 0 then wlF C.st else if enF C.en ≠ 0 then enF C.en else if rlF (hasS C.nd) C.ru ≠ 0 then rlF (hasS C.nd) C.ru else xpF (hasS C.nd) C.ex) := by unfold Hid ccF; rw [hn1, hn2, hn3, hn4]
  have C1 := Lib.hid (fun (W : World) (hb : Below W1.heap.size W1 W) => checkWords_c sa k1 C.st W (PC.out.st.below hb))
  have m0 := PC.out.nd.1
  have m1 := PC.out.st.1
  have m2 := PC.out.en.1
  have m3 := PC.out.ru.1
  have m4 := PC.out.ex.1
  obtain ⟨R, hR⟩ : ∃ R, ccF (hasS C.nd) C = R := ⟨_, rfl⟩
  obtain ⟨f1, hf1⟩ : ∃ f, wlF C.st = f := ⟨_, rfl⟩
  rw [hR, hf1] at E
  rw [hR]
  rw [hf1, hn1] at C1
  rw [hn0] at m0
  rw [hn1] at m1
  rw [hn2] at m2
  rw [hn3] at m3
  rw [hn4] at m4
  rw [hn0, hn1, hn2, hn3, hn4] at X1 hW1 ⊢
  have N0 := Lib.hid hn0
  have N2 := Lib.hid hn2
  have N3 := Lib.hid hn3
  have N4 := Lib.hid hn4
  clear hR hf1 hn0 hn1 hn2 hn3 hn4
  obtain ⟨x0, x1, x2, x3, x4, _⟩ := X1.out
  by_cases L1 : 60 < n1
  · have l1 : (60 : Int) < (n1 : Int) := by omega
    have e : Hid (R = 2) := by unfold Hid; rw [E.out, if_pos (by omega)]
    clear E L1
    go_enter Tryd.func15, Tryd.ntmps15
    have W0B : Hid (Below W1.heap.size W1 W1) := Below.refl _ _
    have BX := B1
    go_wp2
    go_ret
    exact ⟨by rw [e.out]; rfl, BX.out⟩
  have l1 : ¬ (60 : Int) < (n1 : Int) := by omega
  by_cases L2 : 40 < n2
  · have l2 : (40 : Int) < (n2 : Int) := by omega
    have e : Hid (R = 2) := by unfold Hid; rw [E.out, if_pos (by omega)]
    clear E L2
    go_enter Tryd.func15, Tryd.ntmps15
    have W0B : Hid (Below W1.heap.size W1 W1) := Below.refl _ _
    have BX := B1
    go_wp2
    go_ret
    exact ⟨by rw [e.out]; rfl, BX.out⟩
  have l2 : ¬ (40 : Int) < (n2 : Int) := by omega
  by_cases L3 : 200 < n3
  · have l3 : (200 : Int) < (n3 : Int) := by omega
    have e : Hid (R = 2) := by unfold Hid; rw [E.out, if_pos (by omega)]
    clear E L3
    go_enter Tryd.func15, Tryd.ntmps15
    have W0B : Hid (Below W1.heap.size W1 W1) := Below.refl _ _
    have BX := B1
    go_wp2
    go_ret
    exact ⟨by rw [e.out]; rfl, BX.out⟩
  have l3 : ¬ (200 : Int) < (n3 : Int) := by omega
  by_cases L4 : 2000 < n4
  · have l4 : (2000 : Int) < (n4 : Int) := by omega
    have e : Hid (R = 2) := by unfold Hid; rw [E.out, if_pos (by omega)]
    clear E L4
    go_enter Tryd.func15, Tryd.ntmps15
    have W0B : Hid (Below W1.heap.size W1 W1) := Below.refl _ _
    have BX := B1
    go_wp2
    go_ret
    exact ⟨by rw [e.out]; rfl, BX.out⟩
  have l4 : ¬ (2000 : Int) < (n4 : Int) := by omega
  have E2 : Hid (R = if f1 ≠ 0 then f1 else if enF C.en ≠ 0 then enF C.en else if rlF (hasS C.nd) C.ru ≠ 0 then rlF (hasS C.nd) C.ru else xpF (hasS C.nd) C.ex) := by unfold Hid; rw [E.out, if_neg (by omega)]
  clear E L1 L2 L3 L4
  by_cases g1 : f1 = 0
  case neg =>
    have g1' : (f1 == 0) = false := by rw [beq_eq_false_iff_ne]; exact g1
    have g1b : (f1 != 0) = true := by rw [bne, g1']; rfl
    have e : Hid (R = f1) := by unfold Hid; rw [E2.out, if_pos g1]
    clear E2 g1
    go_enter Tryd.func15, Tryd.ntmps15
    have W0B : Hid (Below W1.heap.size W1 W1) := Below.refl _ _
    have BX := B1
    have D1 := Lib.hid (C1.out W1 W0B.out)
    go_wp2_with fail
    refine D1.out.mono ?_
    rintro e1 w2 ⟨rfl, b2⟩
    have B2 : Hid (Below w.heap.size w w2) := BX.out.trans (b2.mono BX.out.size)
    clear b2
    go_wp2
    go_ret
    exact ⟨by rw [e.out]; rfl, B2.out⟩
  subst g1
  have E3 : Hid (R = if enF C.en ≠ 0 then enF C.en else if rlF (hasS C.nd) C.ru ≠ 0 then rlF (hasS C.nd) C.ru else xpF (hasS C.nd) C.ex) := by unfold Hid; rw [E2.out]; simp
  clear E2
  go_enter Tryd.func15, Tryd.ntmps15
  have W0B : Hid (Below W1.heap.size W1 W1) := Below.refl _ _
  have BX := B1
  have D1 := Lib.hid (C1.out W1 W0B.out)
  go_wp2_with fail
  refine D1.out.mono ?_
  rintro e1 w2 ⟨rfl, b2⟩
  have I2 : Hid (Below W1.heap.size W1 w2) := W0B.out.trans (b2.mono W0B.out.size)
  obtain ⟨y0, y1, y2, y3, y4, _⟩ := X1.out.keep I2.out
  clear b2 x0 x1 x2 x3 x4 hW1
  go_wp2_with fail
  clear y0 y1 y2 y3 y4
  go_loopw [7, 44] (fun _ i wr => ∃ k : Nat, k ≤ n2 ∧ i = .int .i64 k ∧ Hid (Below W1.heap.size W1 wr ∧ ∀ j, j < k → enE (ea C.en j) = 0)) (fun _ i _ => n2 - (intOf i).toNat)
  case atStart => exact ⟨0, Nat.zero_le _, rfl, I2.out, fun j h => absurd h (Nat.not_lt_zero _)⟩
  case round =>
    obtain ⟨k, hk, rfl, hS⟩ := hrel
    have BW : Hid (Below w.heap.size w wr) := B1.out.trans (hS.out.1.mono B1.out.size)
    by_cases hlt : k < n2
    · obtain ⟨b', off, rfl, _, hc⟩ := (PC.out.en.below hS.out.1).2 (by have := N2.out; omega)
      obtain ⟨u0, u1, u2, u3⟩ := hc k (by have := N2.out; omega)
      have hlt' : (k : Int) < (n2 : Int) := by omega
      obtain ⟨en, hen⟩ : ∃ e, ea C.en k = e := ⟨_, rfl⟩
      rw [hen] at u0 u1 u2 u3
      obtain ⟨W3, hW3⟩ : ∃ W3, wr.alloc (.cells #[.string en.fr, .string en.to] 50) = W3 := ⟨_, rfl⟩
      have X3 : Hid (B2x W3 wr.heap.size (.string en.fr) (.string en.to)) := by unfold Hid; rw [← hW3]; exact B2x.made _ _ _ _
      have B3 : Hid (Below wr.heap.size wr W3) := by unfold Hid; rw [← hW3]; exact bel_one _ _
      have HEN := Lib.hid hen
      have A1 := Lib.hid (isWord_c en.fr W3 u2)
      obtain ⟨v0, v1, _⟩ := X3.out
      have U3 := Lib.hid u3
      clear hc hen u2 u3
      have BAD : Hid (enE (ea C.en k) = 5 → R = 5) := fun h => by
        have h2 : enF C.en = 5 := by
          unfold enF
          have := fe_at (s := fun k => enE (ea C.en k)) (n := C.en.length) (k := k) (by rw [N2.out]; exact hlt) (fe_all hS.out.2) (by show enE _ ≠ 0; rw [h]; omega)
          rw [this]; exact h
        rw [E3.out, h2]; simp
      cases h1 : isW en.fr.data.toList with
      | false =>
        rw [h1] at A1
        have e := Lib.hid (BAD.out (by unfold enE; rw [HEN.out, if_pos h1]))
        clear BAD h1 E3
        go_wp2_with fail
        refine A1.out.mono ?_
        rintro e1 w4 ⟨rfl, b4⟩
        have B4 : Hid (Below w.heap.size w w4) := BW.out.trans ((B3.out.trans (b4.mono B3.out.size)).mono BW.out.size)
        clear b4
        go_wp2
        go_ret
        exact ⟨by rw [e.out]; rfl, B4.out⟩
      | true =>
        rw [h1] at A1
        by_cases h2 : en.to.data.toList = []
        · have f1 : (en.to.toList == []) = true := by rw [Lib.toList_data, h2]; rfl
          have f2 : en.to.toList.isEmpty = true := by rw [Lib.toList_data, h2]; rfl
          have f3 : en.to.toList = [] := by rw [Lib.toList_data, h2]
          have eK : enE (ea C.en k) = 0 := by unfold enE; rw [HEN.out, if_neg (by rw [h1]; simp), if_pos h2]
          have NX : Hid (∀ j, j < k + 1 → enE (ea C.en j) = 0) := fun j hj => by
            rcases Nat.lt_or_ge j k with q | q
            · exact hS.out.2 j q
            · obtain rfl : j = k := by omega
              exact eK
          clear BAD h1 h2 eK
          go_wp2_with fail
          refine A1.out.mono ?_
          rintro e1 w4 ⟨rfl, b4⟩
          have I4 : Hid (Below W1.heap.size W1 w4) := hS.out.1.trans ((B3.out.trans (b4.mono B3.out.size)).mono hS.out.1.size)
          obtain ⟨v2, v3, _⟩ := X3.out.keep b4
          clear b4 v0 v1 u0 u1
          go_wp2
          go_roundw
          case rel => exact ⟨k + 1, by omega, by go_num, I4.out, NX.out⟩
          case measure => simp [intOf]; omega
        · have f1 : (en.to.toList == []) = false := by rw [beq_eq_false_iff_ne, Lib.toList_data]; exact h2
          have f2 : en.to.toList.isEmpty = false := by rw [Lib.toList_data]; cases e : en.to.data.toList with | nil => exact absurd e h2 | cons _ _ => rfl
          cases h3 : isW en.to.data.toList with
          | false =>
            have e := Lib.hid (BAD.out (by unfold enE; rw [HEN.out, if_neg (by rw [h1]; simp), if_neg h2, if_pos h3]))
            have H3 := Lib.hid h3
            clear BAD h1 h2 h3 E3
            go_wp2_with fail
            refine A1.out.mono ?_
            rintro e1 w4 ⟨rfl, b4⟩
            have B4 : Hid (Below w.heap.size w w4) := BW.out.trans ((B3.out.trans (b4.mono B3.out.size)).mono BW.out.size)
            have A2 := Lib.hid (isWord_c en.to w4 U3.out)
            rw [H3.out] at A2
            obtain ⟨v2, v3, _⟩ := X3.out.keep b4
            clear b4 v0 v1 u0 u1
            go_wp2_with fail
            refine A2.out.mono ?_
            rintro e1 w5 ⟨rfl, b5⟩
            have B5 : Hid (Below w.heap.size w w5) := B4.out.trans (b5.mono B4.out.size)
            clear b5
            go_wp2
            go_ret
            exact ⟨by rw [e.out]; rfl, B5.out⟩
          | true =>
            have H3 := Lib.hid h3
            have eK : enE (ea C.en k) = 0 := by unfold enE; rw [HEN.out, if_neg (by rw [h1]; simp), if_neg h2, if_neg (by rw [h3]; simp)]
            have NX : Hid (∀ j, j < k + 1 → enE (ea C.en j) = 0) := fun j hj => by
              rcases Nat.lt_or_ge j k with q | q
              · exact hS.out.2 j q
              · obtain rfl : j = k := by omega
                exact eK
            clear BAD h1 h2 h3 eK
            go_wp2_with fail
            refine A1.out.mono ?_
            rintro e1 w4 ⟨rfl, b4⟩
            have I4 : Hid (Below W1.heap.size W1 w4) := hS.out.1.trans ((B3.out.trans (b4.mono B3.out.size)).mono hS.out.1.size)
            have A2 := Lib.hid (isWord_c en.to w4 U3.out)
            rw [H3.out] at A2
            obtain ⟨v2, v3, _⟩ := X3.out.keep b4
            clear b4 v0 v1 u0 u1
            go_wp2_with fail
            refine A2.out.mono ?_
            rintro e1 w5 ⟨rfl, b5⟩
            have I5 : Hid (Below W1.heap.size W1 w5) := I4.out.trans (b5.mono I4.out.size)
            clear b5
            go_wp2
            go_roundw
            case rel => exact ⟨k + 1, by omega, by go_num, I5.out, NX.out⟩
            case measure => simp [intOf]; omega
    · obtain rfl : k = n2 := by omega
      have hlt' : ¬ (k : Int) < (k : Int) := by omega
      have E4 : Hid (R = if rlF (hasS C.nd) C.ru ≠ 0 then rlF (hasS C.nd) C.ru else xpF (hasS C.nd) C.ex) := by
        have h2 : enF C.en = 0 := by unfold enF; rw [N2.out]; exact fe_all hS.out.2
        unfold Hid; rw [E3.out, h2]; simp
      have J2 : Hid (Below W1.heap.size W1 wr) := hS.out.1
      obtain ⟨y0, y1, y2, y3, y4, _⟩ := X1.out.keep J2.out
      clear E3 hS hlt
      go_wp2_with fail
      clear y0 y1 y2 y3 y4 hlt'
      go_loopw [9, 10, 67] (fun _ _ i wr => ∃ k : Nat, k ≤ n3 ∧ i = .int .i64 k ∧ Hid (Below W1.heap.size W1 wr ∧ ∀ j, j < k → ruF (hasS C.nd) (ra C.ru j) = 0)) (fun _ _ i _ => n3 - (intOf i).toNat)
      case atStart => exact ⟨0, Nat.zero_le _, rfl, J2.out, fun j h => absurd h (Nat.not_lt_zero _)⟩
      case round =>
        obtain ⟨k', hk', rfl, hS⟩ := hrel
        have BW' : Hid (Below w.heap.size w wr) := B1.out.trans (hS.out.1.mono B1.out.size)
        by_cases hlt : k' < n3
        · obtain ⟨b', off, rfl, _, hc⟩ := (PC.out.ru.below hS.out.1).2 (by have := N3.out; omega)
          obtain ⟨a1, c1, a2, c2, u0, u1, u2, h4, h5⟩ := hc k' (by have := N3.out; omega)
          have hlt' : (k' : Int) < (n3 : Int) := by omega
          obtain ⟨r, hr⟩ : ∃ r, ra C.ru k' = r := ⟨_, rfl⟩
          rw [hr] at u0 u1 u2 h4 h5
          have HRR := Lib.hid hr
          obtain ⟨p1, hp1⟩ : ∃ n, r.wi.length = n := ⟨_, rfl⟩
          obtain ⟨p2, hp2⟩ : ∃ n, r.wo.length = n := ⟨_, rfl⟩
          obtain ⟨pc, hpc⟩ : ∃ c, r.cd = c := ⟨_, rfl⟩
          rw [hp1] at u0
          rw [hp2] at u1
          rw [hpc] at u2
          obtain ⟨W3, hW3⟩ : ∃ W3, wr.alloc (.cells #[.slice a1 p1 c1, .slice a2 p2 c2, .int .i64 pc] 53) = W3 := ⟨_, rfl⟩
          have X3 : Hid (RR W3 wr.heap.size (.slice a1 p1 c1) (.slice a2 p2 c2) pc) := by unfold Hid; rw [← hW3]; exact RR.made _ _ _ _ _
          have B3 : Hid (Below wr.heap.size wr W3) := by unfold Hid; rw [← hW3]; exact bel_one _ _
          have I3 : Hid (Below W1.heap.size W1 W3) := hS.out.1.trans (B3.out.mono hS.out.1.size)
          have A1 := Lib.hid (checkRule_c bp bl (lev C.nd) a1 a2 c1 c2 r W3 (PL.out.below I3.out) (h4.below B3.out) (h5.below B3.out))
          rw [hp1, hp2, hpc] at A1
          skip
          obtain ⟨v0, v1, v2, _⟩ := X3.out
          obtain ⟨q0, q1, _⟩ := Y1.out.keep I3.out
          clear hc hr hp1 hp2 hpc h4 h5
          obtain ⟨f, hf⟩ : ∃ f, ruF (hasS C.nd) r = f := ⟨_, rfl⟩
          have HF := Lib.hid hf
          have A2 : Hid (Calls Tryd.prog 34 #[fv bp bl, .agg #[.slice a1 p1 c1, .slice a2 p2 c2, .int .i64 pc]] W3 (IntP f W3)) := by rw [← hf]; exact A1.out
          clear A1 hf
          by_cases g : f = 0
          · subst g
            have eK : ruF (hasS C.nd) (ra C.ru k') = 0 := by rw [HRR.out]; exact HF.out
            have NX : Hid (∀ j, j < k' + 1 → ruF (hasS C.nd) (ra C.ru j) = 0) := fun j hj => by
              rcases Nat.lt_or_ge j k' with q | q
              · exact hS.out.2 j q
              · obtain rfl : j = k' := by omega
                exact eK
            clear eK
            go_wp2_with fail
            refine A2.out.mono ?_
            rintro e1 w4 ⟨rfl, b4⟩
            have I4 : Hid (Below W1.heap.size W1 w4) := I3.out.trans (b4.mono I3.out.size)
            clear b4 v0 v1 v2 q0 q1 u0 u1 u2
            go_wp2
            go_roundw
            case rel => exact ⟨k' + 1, by omega, by go_num, I4.out, NX.out⟩
            case measure => simp [intOf]; omega
          · have g' : (f == 0) = false := by rw [beq_eq_false_iff_ne]; exact g
            have gb : (f != 0) = true := by rw [bne, g']; rfl
            have e : Hid (R = f) := by
              have h1 : ruF (hasS C.nd) (ra C.ru k') = f := by rw [HRR.out]; exact HF.out
              have h2 : rlF (hasS C.nd) C.ru = f := by
                unfold rlF
                have := fe_at (s := fun k => ruF (hasS C.nd) (ra C.ru k)) (n := C.ru.length) (k := k') (by rw [N3.out]; exact hlt) (fe_all hS.out.2) (by show ruF _ _ ≠ 0; rw [h1]; exact g)
                rw [this]; exact h1
              unfold Hid; rw [E4.out, h2, if_pos g]
            clear g E4
            go_wp2_with fail
            refine A2.out.mono ?_
            rintro e1 w4 ⟨rfl, b4⟩
            have B4 : Hid (Below w.heap.size w w4) := BW'.out.trans ((B3.out.trans (b4.mono B3.out.size)).mono BW'.out.size)
            clear b4 v0 v1 v2 q0 q1 u0 u1 u2
            go_wp2
            go_ret
            exact ⟨by rw [e.out]; rfl, B4.out⟩
        · obtain rfl : k' = n3 := by omega
          have hlt' : ¬ (k' : Int) < (k' : Int) := by omega
          have E5 : Hid (R = xpF (hasS C.nd) C.ex) := by
            have h2 : rlF (hasS C.nd) C.ru = 0 := by unfold rlF; rw [N3.out]; exact fe_all hS.out.2
            unfold Hid; rw [E4.out, h2]; simp
          have J3 : Hid (Below W1.heap.size W1 wr) := hS.out.1
          obtain ⟨y0, y1, y2, y3, y4, _⟩ := X1.out.keep J3.out
          clear E4 hS hlt
          go_wp2_with fail
          clear y0 y1 y2 y3 y4 hlt'
          go_loopw [12, 81] (fun _ i wr => ∃ k : Nat, k ≤ n4 ∧ i = .int .i64 k ∧ Hid (Below W1.heap.size W1 wr ∧ ∀ j, j < k → xpE (hasS C.nd) (xa C.ex j) = 0)) (fun _ i _ => n4 - (intOf i).toNat)
          case atStart => exact ⟨0, Nat.zero_le _, rfl, J3.out, fun j h => absurd h (Nat.not_lt_zero _)⟩
          case round =>
            obtain ⟨k'', hk'', rfl, hS⟩ := hrel
            have BW'' : Hid (Below w.heap.size w wr) := B1.out.trans (hS.out.1.mono B1.out.size)
            by_cases hlt : k'' < n4
            · obtain ⟨b', off, rfl, _, hc⟩ := (PC.out.ex.below hS.out.1).2 (by have := N4.out; omega)
              obtain ⟨u0, u1, u2⟩ := hc k'' (by have := N4.out; omega)
              have hlt' : (k'' : Int) < (n4 : Int) := by omega
              obtain ⟨x, hx⟩ : ∃ x, xa C.ex k'' = x := ⟨_, rfl⟩
              rw [hx] at u0 u1 u2
              have HXX := Lib.hid hx
              obtain ⟨pc, hpc⟩ : ∃ c, x.cd = c := ⟨_, rfl⟩
              obtain ⟨px, hpx⟩ : ∃ c, x.tx = c := ⟨_, rfl⟩
              have HPC := Lib.hid hpc
              have HPX := Lib.hid hpx
              rw [hpx] at u0 u2
              rw [hpc] at u1
              obtain ⟨W3, hW3⟩ : ∃ W3, wr.alloc (.cells #[.string px, .int .i64 pc] 56) = W3 := ⟨_, rfl⟩
              have X3 : Hid (B2x W3 wr.heap.size (.string px) (.int .i64 pc)) := by unfold Hid; rw [← hW3]; exact B2x.made _ _ _ _
              have B3 : Hid (Below wr.heap.size wr W3) := by unfold Hid; rw [← hW3]; exact bel_one _ _
              have I3 : Hid (Below W1.heap.size W1 W3) := hS.out.1.trans (B3.out.mono hS.out.1.size)
              have B4' : Hid (Below w.heap.size w W3) := BW''.out.trans (B3.out.mono BW''.out.size)
              obtain ⟨v0, v1, _⟩ := X3.out
              obtain ⟨q0, q1, _⟩ := Y1.out.keep I3.out
              clear hc hx hpc hpx
              have BAD : Hid (∀ f, f ≠ 0 → xpE (hasS C.nd) (xa C.ex k'') = f → R = f) := fun f h0 h => by
                have h2 : xpF (hasS C.nd) C.ex = f := by
                  unfold xpF
                  have := fe_at (s := fun k => xpE (hasS C.nd) (xa C.ex k)) (n := C.ex.length) (k := k'') (by rw [N4.out]; exact hlt) (fe_all hS.out.2) (by show xpE _ _ ≠ 0; rw [h]; exact h0)
                  rw [this]; exact h
                rw [E5.out, h2]
              by_cases g : 1000 < px.size
              · have g' : (1000 : Int) < (px.size : Int) := by omega
                have e := Lib.hid (BAD.out 2 (by omega) (by unfold xpE; rw [HXX.out, HPX.out, if_pos g]))
                clear BAD g E5
                go_wp2
                go_ret
                exact ⟨by rw [e.out]; rfl, B4'.out⟩
              · have g' : ¬ (1000 : Int) < (px.size : Int) := by omega
                cases hh : hasS C.nd pc with
                | true =>
                  have HH := Lib.hid hh
                  have eK : xpE (hasS C.nd) (xa C.ex k'') = 0 := by unfold xpE; rw [HXX.out, HPX.out, if_neg g, HPC.out, if_pos hh]
                  have NX : Hid (∀ j, j < k'' + 1 → xpE (hasS C.nd) (xa C.ex j) = 0) := fun j hj => by
                    rcases Nat.lt_or_ge j k'' with q | q
                    · exact hS.out.2 j q
                    · obtain rfl : j = k'' := by omega
                      exact eK
                  clear eK hh g BAD
                  have A1 := Lib.hid (has_c bp bl (lev C.nd) pc W3 (PL.out.below I3.out))
                  rw [show hasB (lev C.nd) pc = true from HH.out] at A1
                  go_wp2_with fail
                  refine A1.out.mono ?_
                  rintro e1 w4 ⟨rfl, b4⟩
                  have I4 : Hid (Below W1.heap.size W1 w4) := I3.out.trans (b4.mono I3.out.size)
                  clear b4 v0 v1 q0 q1 u0 u1 u2
                  go_wp2
                  go_roundw
                  case rel => exact ⟨k'' + 1, by omega, by go_num, I4.out, NX.out⟩
                  case measure => simp [intOf]; omega
                | false =>
                  have HH := Lib.hid hh
                  have e := Lib.hid (BAD.out 5 (by omega) (by unfold xpE; rw [HXX.out, HPX.out, if_neg g, HPC.out, if_neg (by rw [hh]; simp)]))
                  clear hh g BAD E5
                  have A1 := Lib.hid (has_c bp bl (lev C.nd) pc W3 (PL.out.below I3.out))
                  rw [show hasB (lev C.nd) pc = false from HH.out] at A1
                  go_wp2_with fail
                  refine A1.out.mono ?_
                  rintro e1 w4 ⟨rfl, b4⟩
                  have B4 : Hid (Below w.heap.size w w4) := B4'.out.trans (b4.mono B4'.out.size)
                  clear b4 v0 v1 q0 q1 u0 u1 u2
                  go_wp2
                  go_ret
                  exact ⟨by rw [e.out]; rfl, B4.out⟩
            · obtain rfl : k'' = n4 := by omega
              have hlt' : ¬ (k'' : Int) < (k'' : Int) := by omega
              have e : Hid (R = 0) := by
                unfold Hid; rw [E5.out]; unfold xpF; rw [N4.out]; exact fe_all hS.out.2
              clear E5 hlt
              go_wp2
              go_ret
              exact ⟨by rw [e.out]; rfl, BW''.out⟩
set_option maxRecDepth 100000 in
set_option maxHeartbeats 20000000 in
theorem rCheckCoder_ok (an sa ae ar ax : Option Addr) (k0 k1 k2 k3 k4 : Nat) (C : Cod) (w : World) (hC : CoR w an sa ae ar ax C) (h0 : frS C.nd = 0) :
    Calls Tryd.prog 7 #[.agg #[.slice an C.nd.length k0, .slice sa C.st.length k1, .slice ae C.en.length k2, .slice ar C.ru.length k3, .slice ax C.ex.length k4]] w (IntP (ccF (hasS C.nd) C) w) := by
  obtain ⟨W1, hW1⟩ : ∃ W1, w.alloc (.cells #[.slice an C.nd.length k0, .slice sa C.st.length k1, .slice ae C.en.length k2, .slice ar C.ru.length k3, .slice ax C.ex.length k4] 28) = W1 := ⟨_, rfl⟩
  obtain ⟨z, hz⟩ : ∃ z, w.heap.size = z := ⟨_, rfl⟩
  have X1 : Hid (KB W1 z (.slice an C.nd.length k0) (.slice sa C.st.length k1) (.slice ae C.en.length k2) (.slice ar C.ru.length k3) (.slice ax C.ex.length k4)) := by
    unfold Hid; rw [← hW1, ← hz]; exact KB.made _ _ _ _ _ _ _
  have B1 : Hid (Below w.heap.size w W1) := by unfold Hid; rw [← hW1]; exact bel_one _ _
  have PC := Lib.hid (hC.below B1.out)
  have FL := Lib.hid (fr_of h0)
  have FC := Lib.hid (rCheckFrame_c an k0 C.nd W1 PC.out.nd PC.out.fit)
  rw [h0] at FC
  clear hC h0
  obtain ⟨n0, hn0⟩ : ∃ n, C.nd.length = n := ⟨_, rfl⟩
  obtain ⟨n1, hn1⟩ : ∃ n, C.st.length = n := ⟨_, rfl⟩
  obtain ⟨n2, hn2⟩ : ∃ n, C.en.length = n := ⟨_, rfl⟩
  obtain ⟨n3, hn3⟩ : ∃ n, C.ru.length = n := ⟨_, rfl⟩
  obtain ⟨n4, hn4⟩ : ∃ n, C.ex.length = n := ⟨_, rfl⟩
  have E : Hid (ccF (hasS C.nd) C = if 60 < n1 ∨ 40 < n2 ∨ 200 < n3 ∨ 2000 < n4 then 2 else if wlF C.st ≠ 0 then wlF C.st else if enF C.en ≠ 0 then enF C.en else if rlF (hasS C.nd) C.ru ≠ 0 then rlF (hasS C.nd) C.ru else xpF (hasS C.nd) C.ex) := by unfold Hid ccF; rw [hn1, hn2, hn3, hn4]
  have C1 := Lib.hid (fun (W : World) (hb : Below W1.heap.size W1 W) => rCheckWords_c sa k1 C.st W (PC.out.st.below hb))
  have m0 := PC.out.nd.1
  have m1 := PC.out.st.1
  have m2 := PC.out.en.1
  have m3 := PC.out.ru.1
  have m4 := PC.out.ex.1
  obtain ⟨R, hR⟩ : ∃ R, ccF (hasS C.nd) C = R := ⟨_, rfl⟩
  obtain ⟨f1, hf1⟩ : ∃ f, wlF C.st = f := ⟨_, rfl⟩
  rw [hR, hf1] at E
  rw [hR]
  rw [hf1, hn1] at C1
  rw [hn0] at m0 FC
  rw [hn1] at m1
  rw [hn2] at m2
  rw [hn3] at m3
  rw [hn4] at m4
  rw [hn0, hn1, hn2, hn3, hn4] at X1 hW1 ⊢
  have N0 := Lib.hid hn0
  have N2 := Lib.hid hn2
  have N3 := Lib.hid hn3
  have N4 := Lib.hid hn4
  clear hR hf1 hn0 hn1 hn2 hn3 hn4
  obtain ⟨x0, x1, x2, x3, x4, _⟩ := X1.out
  by_cases L1 : 60 < n1
  · have l1 : (60 : Int) < (n1 : Int) := by omega
    have e : Hid (R = 2) := by unfold Hid; rw [E.out, if_pos (by omega)]
    clear E L1
    go_enter Tryd.func7, Tryd.ntmps7
    go_wp2_with fail
    refine FC.out.mono ?_
    rintro e0 w0 ⟨rfl, b0⟩
    have W0B := Lib.hid b0
    have BX : Hid (Below w.heap.size w w0) := B1.out.trans (b0.mono B1.out.size)
    obtain ⟨t0, t1, t2, t3, t4, _⟩ := X1.out.keep b0
    clear b0 x0 x1 x2 x3 x4
    go_wp2
    go_ret
    exact ⟨by rw [e.out]; rfl, BX.out⟩
  have l1 : ¬ (60 : Int) < (n1 : Int) := by omega
  by_cases L2 : 40 < n2
  · have l2 : (40 : Int) < (n2 : Int) := by omega
    have e : Hid (R = 2) := by unfold Hid; rw [E.out, if_pos (by omega)]
    clear E L2
    go_enter Tryd.func7, Tryd.ntmps7
    go_wp2_with fail
    refine FC.out.mono ?_
    rintro e0 w0 ⟨rfl, b0⟩
    have W0B := Lib.hid b0
    have BX : Hid (Below w.heap.size w w0) := B1.out.trans (b0.mono B1.out.size)
    obtain ⟨t0, t1, t2, t3, t4, _⟩ := X1.out.keep b0
    clear b0 x0 x1 x2 x3 x4
    go_wp2
    go_ret
    exact ⟨by rw [e.out]; rfl, BX.out⟩
  have l2 : ¬ (40 : Int) < (n2 : Int) := by omega
  by_cases L3 : 200 < n3
  · have l3 : (200 : Int) < (n3 : Int) := by omega
    have e : Hid (R = 2) := by unfold Hid; rw [E.out, if_pos (by omega)]
    clear E L3
    go_enter Tryd.func7, Tryd.ntmps7
    go_wp2_with fail
    refine FC.out.mono ?_
    rintro e0 w0 ⟨rfl, b0⟩
    have W0B := Lib.hid b0
    have BX : Hid (Below w.heap.size w w0) := B1.out.trans (b0.mono B1.out.size)
    obtain ⟨t0, t1, t2, t3, t4, _⟩ := X1.out.keep b0
    clear b0 x0 x1 x2 x3 x4
    go_wp2
    go_ret
    exact ⟨by rw [e.out]; rfl, BX.out⟩
  have l3 : ¬ (200 : Int) < (n3 : Int) := by omega
  by_cases L4 : 2000 < n4
  · have l4 : (2000 : Int) < (n4 : Int) := by omega
    have e : Hid (R = 2) := by unfold Hid; rw [E.out, if_pos (by omega)]
    clear E L4
    go_enter Tryd.func7, Tryd.ntmps7
    go_wp2_with fail
    refine FC.out.mono ?_
    rintro e0 w0 ⟨rfl, b0⟩
    have W0B := Lib.hid b0
    have BX : Hid (Below w.heap.size w w0) := B1.out.trans (b0.mono B1.out.size)
    obtain ⟨t0, t1, t2, t3, t4, _⟩ := X1.out.keep b0
    clear b0 x0 x1 x2 x3 x4
    go_wp2
    go_ret
    exact ⟨by rw [e.out]; rfl, BX.out⟩
  have l4 : ¬ (2000 : Int) < (n4 : Int) := by omega
  have E2 : Hid (R = if f1 ≠ 0 then f1 else if enF C.en ≠ 0 then enF C.en else if rlF (hasS C.nd) C.ru ≠ 0 then rlF (hasS C.nd) C.ru else xpF (hasS C.nd) C.ex) := by unfold Hid; rw [E.out, if_neg (by omega)]
  clear E L1 L2 L3 L4
  by_cases g1 : f1 = 0
  case neg =>
    have g1' : (f1 == 0) = false := by rw [beq_eq_false_iff_ne]; exact g1
    have g1b : (f1 != 0) = true := by rw [bne, g1']; rfl
    have e : Hid (R = f1) := by unfold Hid; rw [E2.out, if_pos g1]
    clear E2 g1
    go_enter Tryd.func7, Tryd.ntmps7
    go_wp2_with fail
    refine FC.out.mono ?_
    rintro e0 w0 ⟨rfl, b0⟩
    have W0B := Lib.hid b0
    have BX : Hid (Below w.heap.size w w0) := B1.out.trans (b0.mono B1.out.size)
    obtain ⟨t0, t1, t2, t3, t4, _⟩ := X1.out.keep b0
    clear b0 x0 x1 x2 x3 x4
    have D1 := Lib.hid (C1.out w0 W0B.out)
    go_wp2_with fail
    refine D1.out.mono ?_
    rintro e1 w2 ⟨rfl, b2⟩
    have B2 : Hid (Below w.heap.size w w2) := BX.out.trans (b2.mono BX.out.size)
    clear b2
    go_wp2
    go_ret
    exact ⟨by rw [e.out]; rfl, B2.out⟩
  subst g1
  have E3 : Hid (R = if enF C.en ≠ 0 then enF C.en else if rlF (hasS C.nd) C.ru ≠ 0 then rlF (hasS C.nd) C.ru else xpF (hasS C.nd) C.ex) := by unfold Hid; rw [E2.out]; simp
  clear E2
  go_enter Tryd.func7, Tryd.ntmps7
  go_wp2_with fail
  refine FC.out.mono ?_
  rintro e0 w0 ⟨rfl, b0⟩
  have W0B := Lib.hid b0
  have BX : Hid (Below w.heap.size w w0) := B1.out.trans (b0.mono B1.out.size)
  obtain ⟨t0, t1, t2, t3, t4, _⟩ := X1.out.keep b0
  clear b0 x0 x1 x2 x3 x4
  have D1 := Lib.hid (C1.out w0 W0B.out)
  go_wp2_with fail
  refine D1.out.mono ?_
  rintro e1 w2 ⟨rfl, b2⟩
  have I2 : Hid (Below W1.heap.size W1 w2) := W0B.out.trans (b2.mono W0B.out.size)
  obtain ⟨y0, y1, y2, y3, y4, _⟩ := X1.out.keep I2.out
  clear b2 t0 t1 t2 t3 t4 hW1
  go_wp2_with fail
  clear y0 y1 y2 y3 y4
  go_loopw [6, 49] (fun _ i wr => ∃ k : Nat, k ≤ n2 ∧ i = .int .i64 k ∧ Hid (Below W1.heap.size W1 wr ∧ ∀ j, j < k → enE (ea C.en j) = 0)) (fun _ i _ => n2 - (intOf i).toNat)
  case atStart => exact ⟨0, Nat.zero_le _, rfl, I2.out, fun j h => absurd h (Nat.not_lt_zero _)⟩
  case round =>
    obtain ⟨k, hk, rfl, hS⟩ := hrel
    have BW : Hid (Below w.heap.size w wr) := B1.out.trans (hS.out.1.mono B1.out.size)
    by_cases hlt : k < n2
    · obtain ⟨b', off, rfl, _, hc⟩ := (PC.out.en.below hS.out.1).2 (by have := N2.out; omega)
      obtain ⟨u0, u1, u2, u3⟩ := hc k (by have := N2.out; omega)
      have hlt' : (k : Int) < (n2 : Int) := by omega
      obtain ⟨en, hen⟩ : ∃ e, ea C.en k = e := ⟨_, rfl⟩
      rw [hen] at u0 u1 u2 u3
      obtain ⟨W3, hW3⟩ : ∃ W3, wr.alloc (.cells #[.string en.fr, .string en.to] 50) = W3 := ⟨_, rfl⟩
      have X3 : Hid (B2x W3 wr.heap.size (.string en.fr) (.string en.to)) := by unfold Hid; rw [← hW3]; exact B2x.made _ _ _ _
      have B3 : Hid (Below wr.heap.size wr W3) := by unfold Hid; rw [← hW3]; exact bel_one _ _
      have HEN := Lib.hid hen
      have A1 := Lib.hid (rIsWord_c en.fr W3 u2)
      obtain ⟨v0, v1, _⟩ := X3.out
      have U3 := Lib.hid u3
      clear hc hen u2 u3
      have BAD : Hid (enE (ea C.en k) = 5 → R = 5) := fun h => by
        have h2 : enF C.en = 5 := by
          unfold enF
          have := fe_at (s := fun k => enE (ea C.en k)) (n := C.en.length) (k := k) (by rw [N2.out]; exact hlt) (fe_all hS.out.2) (by show enE _ ≠ 0; rw [h]; omega)
          rw [this]; exact h
        rw [E3.out, h2]; simp
      cases h1 : isW en.fr.data.toList with
      | false =>
        rw [h1] at A1
        have e := Lib.hid (BAD.out (by unfold enE; rw [HEN.out, if_pos h1]))
        clear BAD h1 E3
        go_wp2_with fail
        refine A1.out.mono ?_
        rintro e1 w4 ⟨rfl, b4⟩
        have B4 : Hid (Below w.heap.size w w4) := BW.out.trans ((B3.out.trans (b4.mono B3.out.size)).mono BW.out.size)
        clear b4
        go_wp2
        go_ret
        exact ⟨by rw [e.out]; rfl, B4.out⟩
      | true =>
        rw [h1] at A1
        by_cases h2 : en.to.data.toList = []
        · have f1 : (en.to.toList == []) = true := by rw [Lib.toList_data, h2]; rfl
          have f2 : en.to.toList.isEmpty = true := by rw [Lib.toList_data, h2]; rfl
          have f3 : en.to.toList = [] := by rw [Lib.toList_data, h2]
          have eK : enE (ea C.en k) = 0 := by unfold enE; rw [HEN.out, if_neg (by rw [h1]; simp), if_pos h2]
          have NX : Hid (∀ j, j < k + 1 → enE (ea C.en j) = 0) := fun j hj => by
            rcases Nat.lt_or_ge j k with q | q
            · exact hS.out.2 j q
            · obtain rfl : j = k := by omega
              exact eK
          clear BAD h1 h2 eK
          go_wp2_with fail
          refine A1.out.mono ?_
          rintro e1 w4 ⟨rfl, b4⟩
          have I4 : Hid (Below W1.heap.size W1 w4) := hS.out.1.trans ((B3.out.trans (b4.mono B3.out.size)).mono hS.out.1.size)
          obtain ⟨v2, v3, _⟩ := X3.out.keep b4
          clear b4 v0 v1 u0 u1
          go_wp2
          go_roundw
          case rel => exact ⟨k + 1, by omega, by go_num, I4.out, NX.out⟩
          case measure => simp [intOf]; omega
        · have f1 : (en.to.toList == []) = false := by rw [beq_eq_false_iff_ne, Lib.toList_data]; exact h2
          have f2 : en.to.toList.isEmpty = false := by rw [Lib.toList_data]; cases e : en.to.data.toList with | nil => exact absurd e h2 | cons _ _ => rfl
          cases h3 : isW en.to.data.toList with
          | false =>
            have e := Lib.hid (BAD.out (by unfold enE; rw [HEN.out, if_neg (by rw [h1]; simp), if_neg h2, if_pos h3]))
            have H3 := Lib.hid h3
            clear BAD h1 h2 h3 E3
            go_wp2_with fail
            refine A1.out.mono ?_
            rintro e1 w4 ⟨rfl, b4⟩
            have B4 : Hid (Below w.heap.size w w4) := BW.out.trans ((B3.out.trans (b4.mono B3.out.size)).mono BW.out.size)
            have A2 := Lib.hid (rIsWord_c en.to w4 U3.out)
            rw [H3.out] at A2
            obtain ⟨v2, v3, _⟩ := X3.out.keep b4
            clear b4 v0 v1 u0 u1
            go_wp2_with fail
            refine A2.out.mono ?_
            rintro e1 w5 ⟨rfl, b5⟩
            have B5 : Hid (Below w.heap.size w w5) := B4.out.trans (b5.mono B4.out.size)
            clear b5
            go_wp2
            go_ret
            exact ⟨by rw [e.out]; rfl, B5.out⟩
          | true =>
            have H3 := Lib.hid h3
            have eK : enE (ea C.en k) = 0 := by unfold enE; rw [HEN.out, if_neg (by rw [h1]; simp), if_neg h2, if_neg (by rw [h3]; simp)]
            have NX : Hid (∀ j, j < k + 1 → enE (ea C.en j) = 0) := fun j hj => by
              rcases Nat.lt_or_ge j k with q | q
              · exact hS.out.2 j q
              · obtain rfl : j = k := by omega
                exact eK
            clear BAD h1 h2 h3 eK
            go_wp2_with fail
            refine A1.out.mono ?_
            rintro e1 w4 ⟨rfl, b4⟩
            have I4 : Hid (Below W1.heap.size W1 w4) := hS.out.1.trans ((B3.out.trans (b4.mono B3.out.size)).mono hS.out.1.size)
            have A2 := Lib.hid (rIsWord_c en.to w4 U3.out)
            rw [H3.out] at A2
            obtain ⟨v2, v3, _⟩ := X3.out.keep b4
            clear b4 v0 v1 u0 u1
            go_wp2_with fail
            refine A2.out.mono ?_
            rintro e1 w5 ⟨rfl, b5⟩
            have I5 : Hid (Below W1.heap.size W1 w5) := I4.out.trans (b5.mono I4.out.size)
            clear b5
            go_wp2
            go_roundw
            case rel => exact ⟨k + 1, by omega, by go_num, I5.out, NX.out⟩
            case measure => simp [intOf]; omega
    · obtain rfl : k = n2 := by omega
      have hlt' : ¬ (k : Int) < (k : Int) := by omega
      have E4 : Hid (R = if rlF (hasS C.nd) C.ru ≠ 0 then rlF (hasS C.nd) C.ru else xpF (hasS C.nd) C.ex) := by
        have h2 : enF C.en = 0 := by unfold enF; rw [N2.out]; exact fe_all hS.out.2
        unfold Hid; rw [E3.out, h2]; simp
      have J2 : Hid (Below W1.heap.size W1 wr) := hS.out.1
      obtain ⟨y0, y1, y2, y3, y4, _⟩ := X1.out.keep J2.out
      clear E3 hS hlt
      go_wp2_with fail
      clear y0 y1 y2 y3 y4 hlt'
      go_loopw [8, 9, 72] (fun _ _ i wr => ∃ k : Nat, k ≤ n3 ∧ i = .int .i64 k ∧ Hid (Below W1.heap.size W1 wr ∧ ∀ j, j < k → ruF (hasS C.nd) (ra C.ru j) = 0)) (fun _ _ i _ => n3 - (intOf i).toNat)
      case atStart => exact ⟨0, Nat.zero_le _, rfl, J2.out, fun j h => absurd h (Nat.not_lt_zero _)⟩
      case round =>
        obtain ⟨k', hk', rfl, hS⟩ := hrel
        have BW' : Hid (Below w.heap.size w wr) := B1.out.trans (hS.out.1.mono B1.out.size)
        by_cases hlt : k' < n3
        · obtain ⟨b', off, rfl, _, hc⟩ := (PC.out.ru.below hS.out.1).2 (by have := N3.out; omega)
          obtain ⟨a1, c1, a2, c2, u0, u1, u2, h4, h5⟩ := hc k' (by have := N3.out; omega)
          have hlt' : (k' : Int) < (n3 : Int) := by omega
          obtain ⟨r, hr⟩ : ∃ r, ra C.ru k' = r := ⟨_, rfl⟩
          rw [hr] at u0 u1 u2 h4 h5
          have HRR := Lib.hid hr
          obtain ⟨p1, hp1⟩ : ∃ n, r.wi.length = n := ⟨_, rfl⟩
          obtain ⟨p2, hp2⟩ : ∃ n, r.wo.length = n := ⟨_, rfl⟩
          obtain ⟨pc, hpc⟩ : ∃ c, r.cd = c := ⟨_, rfl⟩
          rw [hp1] at u0
          rw [hp2] at u1
          rw [hpc] at u2
          obtain ⟨W3, hW3⟩ : ∃ W3, wr.alloc (.cells #[.slice a1 p1 c1, .slice a2 p2 c2, .int .i64 pc] 53) = W3 := ⟨_, rfl⟩
          have X3 : Hid (RR W3 wr.heap.size (.slice a1 p1 c1) (.slice a2 p2 c2) pc) := by unfold Hid; rw [← hW3]; exact RR.made _ _ _ _ _
          have B3 : Hid (Below wr.heap.size wr W3) := by unfold Hid; rw [← hW3]; exact bel_one _ _
          have I3 : Hid (Below W1.heap.size W1 W3) := hS.out.1.trans (B3.out.mono hS.out.1.size)
          have A1 := Lib.hid (rCheckRule_c an k0 C.nd FL.out a1 a2 c1 c2 r W3 (PC.out.nd.below I3.out) (h4.below B3.out) (h5.below B3.out))
          rw [hp1, hp2, hpc] at A1
          rw [N0.out] at A1
          obtain ⟨v0, v1, v2, _⟩ := X3.out
          obtain ⟨q0, q1, q2, q3, q4, _⟩ := X1.out.keep I3.out
          clear hc hr hp1 hp2 hpc h4 h5
          obtain ⟨f, hf⟩ : ∃ f, ruF (hasS C.nd) r = f := ⟨_, rfl⟩
          have HF := Lib.hid hf
          have A2 : Hid (Calls Tryd.prog 19 #[.agg #[.slice a1 p1 c1, .slice a2 p2 c2, .int .i64 pc], .slice an n0 k0] W3 (IntP f W3)) := by rw [← hf]; exact A1.out
          clear A1 hf
          by_cases g : f = 0
          · subst g
            have eK : ruF (hasS C.nd) (ra C.ru k') = 0 := by rw [HRR.out]; exact HF.out
            have NX : Hid (∀ j, j < k' + 1 → ruF (hasS C.nd) (ra C.ru j) = 0) := fun j hj => by
              rcases Nat.lt_or_ge j k' with q | q
              · exact hS.out.2 j q
              · obtain rfl : j = k' := by omega
                exact eK
            clear eK
            go_wp2_with fail
            refine A2.out.mono ?_
            rintro e1 w4 ⟨rfl, b4⟩
            have I4 : Hid (Below W1.heap.size W1 w4) := I3.out.trans (b4.mono I3.out.size)
            clear b4 v0 v1 v2 q0 q1 q2 q3 q4 u0 u1 u2
            go_wp2
            go_roundw
            case rel => exact ⟨k' + 1, by omega, by go_num, I4.out, NX.out⟩
            case measure => simp [intOf]; omega
          · have g' : (f == 0) = false := by rw [beq_eq_false_iff_ne]; exact g
            have gb : (f != 0) = true := by rw [bne, g']; rfl
            have e : Hid (R = f) := by
              have h1 : ruF (hasS C.nd) (ra C.ru k') = f := by rw [HRR.out]; exact HF.out
              have h2 : rlF (hasS C.nd) C.ru = f := by
                unfold rlF
                have := fe_at (s := fun k => ruF (hasS C.nd) (ra C.ru k)) (n := C.ru.length) (k := k') (by rw [N3.out]; exact hlt) (fe_all hS.out.2) (by show ruF _ _ ≠ 0; rw [h1]; exact g)
                rw [this]; exact h1
              unfold Hid; rw [E4.out, h2, if_pos g]
            clear g E4
            go_wp2_with fail
            refine A2.out.mono ?_
            rintro e1 w4 ⟨rfl, b4⟩
            have B4 : Hid (Below w.heap.size w w4) := BW'.out.trans ((B3.out.trans (b4.mono B3.out.size)).mono BW'.out.size)
            clear b4 v0 v1 v2 q0 q1 q2 q3 q4 u0 u1 u2
            go_wp2
            go_ret
            exact ⟨by rw [e.out]; rfl, B4.out⟩
        · obtain rfl : k' = n3 := by omega
          have hlt' : ¬ (k' : Int) < (k' : Int) := by omega
          have E5 : Hid (R = xpF (hasS C.nd) C.ex) := by
            have h2 : rlF (hasS C.nd) C.ru = 0 := by unfold rlF; rw [N3.out]; exact fe_all hS.out.2
            unfold Hid; rw [E4.out, h2]; simp
          have J3 : Hid (Below W1.heap.size W1 wr) := hS.out.1
          obtain ⟨y0, y1, y2, y3, y4, _⟩ := X1.out.keep J3.out
          clear E4 hS hlt
          go_wp2_with fail
          clear y0 y1 y2 y3 y4 hlt'
          go_loopw [11, 87] (fun _ i wr => ∃ k : Nat, k ≤ n4 ∧ i = .int .i64 k ∧ Hid (Below W1.heap.size W1 wr ∧ ∀ j, j < k → xpE (hasS C.nd) (xa C.ex j) = 0)) (fun _ i _ => n4 - (intOf i).toNat)
          case atStart => exact ⟨0, Nat.zero_le _, rfl, J3.out, fun j h => absurd h (Nat.not_lt_zero _)⟩
          case round =>
            obtain ⟨k'', hk'', rfl, hS⟩ := hrel
            have BW'' : Hid (Below w.heap.size w wr) := B1.out.trans (hS.out.1.mono B1.out.size)
            by_cases hlt : k'' < n4
            · obtain ⟨b', off, rfl, _, hc⟩ := (PC.out.ex.below hS.out.1).2 (by have := N4.out; omega)
              obtain ⟨u0, u1, u2⟩ := hc k'' (by have := N4.out; omega)
              have hlt' : (k'' : Int) < (n4 : Int) := by omega
              obtain ⟨x, hx⟩ : ∃ x, xa C.ex k'' = x := ⟨_, rfl⟩
              rw [hx] at u0 u1 u2
              have HXX := Lib.hid hx
              obtain ⟨pc, hpc⟩ : ∃ c, x.cd = c := ⟨_, rfl⟩
              obtain ⟨px, hpx⟩ : ∃ c, x.tx = c := ⟨_, rfl⟩
              have HPC := Lib.hid hpc
              have HPX := Lib.hid hpx
              rw [hpx] at u0 u2
              rw [hpc] at u1
              obtain ⟨W3, hW3⟩ : ∃ W3, wr.alloc (.cells #[.string px, .int .i64 pc] 56) = W3 := ⟨_, rfl⟩
              have X3 : Hid (B2x W3 wr.heap.size (.string px) (.int .i64 pc)) := by unfold Hid; rw [← hW3]; exact B2x.made _ _ _ _
              have B3 : Hid (Below wr.heap.size wr W3) := by unfold Hid; rw [← hW3]; exact bel_one _ _
              have I3 : Hid (Below W1.heap.size W1 W3) := hS.out.1.trans (B3.out.mono hS.out.1.size)
              have B4' : Hid (Below w.heap.size w W3) := BW''.out.trans (B3.out.mono BW''.out.size)
              obtain ⟨v0, v1, _⟩ := X3.out
              obtain ⟨q0, q1, q2, q3, q4, _⟩ := X1.out.keep I3.out
              clear hc hx hpc hpx
              have BAD : Hid (∀ f, f ≠ 0 → xpE (hasS C.nd) (xa C.ex k'') = f → R = f) := fun f h0 h => by
                have h2 : xpF (hasS C.nd) C.ex = f := by
                  unfold xpF
                  have := fe_at (s := fun k => xpE (hasS C.nd) (xa C.ex k)) (n := C.ex.length) (k := k'') (by rw [N4.out]; exact hlt) (fe_all hS.out.2) (by show xpE _ _ ≠ 0; rw [h]; exact h0)
                  rw [this]; exact h
                rw [E5.out, h2]
              by_cases g : 1000 < px.size
              · have g' : (1000 : Int) < (px.size : Int) := by omega
                have e := Lib.hid (BAD.out 2 (by omega) (by unfold xpE; rw [HXX.out, HPX.out, if_pos g]))
                clear BAD g E5
                go_wp2
                go_ret
                exact ⟨by rw [e.out]; rfl, B4'.out⟩
              · have g' : ¬ (1000 : Int) < (px.size : Int) := by omega
                cases hh : hasS C.nd pc with
                | true =>
                  have HH := Lib.hid hh
                  have eK : xpE (hasS C.nd) (xa C.ex k'') = 0 := by unfold xpE; rw [HXX.out, HPX.out, if_neg g, HPC.out, if_pos hh]
                  have NX : Hid (∀ j, j < k'' + 1 → xpE (hasS C.nd) (xa C.ex j) = 0) := fun j hj => by
                    rcases Nat.lt_or_ge j k'' with q | q
                    · exact hS.out.2 j q
                    · obtain rfl : j = k'' := by omega
                      exact eK
                  clear eK hh g BAD
                  have A1 := Lib.hid (rfind_c an k0 C.nd pc W3 (PC.out.nd.below I3.out))
                  rw [N0.out] at A1
                  go_wp2_with fail
                  refine A1.out.mono ?_
                  rintro e1 w4 ⟨⟨rr, rfl, hr⟩, b4⟩
                  have hx := fnd_has FL.out hr
                  rw [HH.out] at hx
                  have hx' : ¬ rr < 0 := of_decide_eq_false (by simpa using hx)
                  clear hr hx
                  have I4 : Hid (Below W1.heap.size W1 w4) := I3.out.trans (b4.mono I3.out.size)
                  clear b4 v0 v1 q0 q1 q2 q3 q4 u0 u1 u2
                  go_wp2
                  go_roundw
                  case rel => exact ⟨k'' + 1, by omega, by go_num, I4.out, NX.out⟩
                  case measure => simp [intOf]; omega
                | false =>
                  have HH := Lib.hid hh
                  have e := Lib.hid (BAD.out 5 (by omega) (by unfold xpE; rw [HXX.out, HPX.out, if_neg g, HPC.out, if_neg (by rw [hh]; simp)]))
                  clear hh g BAD E5
                  have A1 := Lib.hid (rfind_c an k0 C.nd pc W3 (PC.out.nd.below I3.out))
                  rw [N0.out] at A1
                  go_wp2_with fail
                  refine A1.out.mono ?_
                  rintro e1 w4 ⟨⟨rr, rfl, hr⟩, b4⟩
                  have hx := fnd_has FL.out hr
                  rw [HH.out] at hx
                  have hx' : rr < 0 := of_decide_eq_true (by simpa using hx)
                  clear hr hx
                  have B4 : Hid (Below w.heap.size w w4) := B4'.out.trans (b4.mono B4'.out.size)
                  clear b4 v0 v1 q0 q1 q2 q3 q4 u0 u1 u2
                  go_wp2
                  go_ret
                  exact ⟨by rw [e.out]; rfl, B4.out⟩
            · obtain rfl : k'' = n4 := by omega
              have hlt' : ¬ (k'' : Int) < (k'' : Int) := by omega
              have e : Hid (R = 0) := by
                unfold Hid; rw [E5.out]; unfold xpF; rw [N4.out]; exact fe_all hS.out.2
              clear E5 hlt
              go_wp2
              go_ret
              exact ⟨by rw [e.out]; rfl, BW''.out⟩
end Go.Proofs.YtdapmmhbnaknbaaDoor
namespace Go.Proofs.YtdapmmhbnaknbaaDoor
open Go.RowKit Go.WideMaps Go.Maps

def dvB (r : Nat) : Bool := !wdB r && !(decide (65 ≤ r) && decide (r ≤ 90))
theorem divides_c (r : Nat) (w : World) (hr : r ≤ 1114111) : Calls Tryd.prog 21 #[.int .i32 r] w fun e w' => e = .returned (.bool (dvB r)) ∧ Below w.heap.size w w' := by
  have mixed : Tryd.prog.follows .mixedOrders = true := by kernel_rfl
  have C := Lib.hid (wordByte_c r w hr)
  have E : Hid (dvB r = (!wdB r && !(decide (65 ≤ r) && decide (r ≤ 90)))) := rfl
  obtain ⟨R, hR⟩ : ∃ R, dvB r = R := ⟨_, rfl⟩
  rw [hR] at E ⊢
  clear hR
  cases h : wdB r with
  | true =>
    rw [h] at C
    have e : Hid (R = false) := by unfold Hid; rw [E.out, h]; rfl
    clear E h
    go_enter Tryd.func21, Tryd.ntmps21
    go_wp2_with fail
    refine C.out.mono ?_
    rintro e1 w1 ⟨rfl, b1⟩
    have B1 := Lib.hid b1
    clear b1
    go_wp2
    go_ret
    exact ⟨by rw [e.out]; rfl, B1.out⟩
  | false =>
    rw [h] at C
    by_cases g1 : r < 65
    · have g1' : (r : Int) < 65 := by omega
      have e : Hid (R = true) := by unfold Hid; rw [E.out, h, decide_eq_false (p := 65 ≤ r) (by omega)]; rfl
      clear E h g1
      go_enter Tryd.func21, Tryd.ntmps21
      go_wp2_with fail
      refine C.out.mono ?_
      rintro e1 w1 ⟨rfl, b1⟩
      have B1 := Lib.hid b1
      clear b1
      go_wp2
      go_ret
      exact ⟨by rw [e.out]; rfl, B1.out⟩
    · have g1' : ¬ (r : Int) < 65 := by omega
      by_cases g2 : 90 < r
      · have g2' : (90 : Int) < (r : Int) := by omega
        have e : Hid (R = true) := by unfold Hid; rw [E.out, h, decide_eq_false (p := r ≤ 90) (by omega)]; simp
        clear E h g1 g2
        go_enter Tryd.func21, Tryd.ntmps21
        go_wp2_with fail
        refine C.out.mono ?_
        rintro e1 w1 ⟨rfl, b1⟩
        have B1 := Lib.hid b1
        clear b1
        go_wp2
        go_ret
        exact ⟨by rw [e.out]; rfl, B1.out⟩
      · have g2' : ¬ (90 : Int) < (r : Int) := by omega
        have e : Hid (R = false) := by unfold Hid; rw [E.out, h, decide_eq_true (p := 65 ≤ r) (by omega), decide_eq_true (p := r ≤ 90) (by omega)]; rfl
        clear E h g1 g2
        go_enter Tryd.func21, Tryd.ntmps21
        go_wp2_with fail
        refine C.out.mono ?_
        rintro e1 w1 ⟨rfl, b1⟩
        have B1 := Lib.hid b1
        clear b1
        go_wp2
        go_ret
        exact ⟨by
          rw [e.out]
          show Ending.returned (Value.bool (decide ((r : Int) < 65) || decide ((90 : Int) < (r : Int)))) = _
          rw [decide_eq_false (p := (r : Int) < 65) (by omega), decide_eq_false (p := (90 : Int) < (r : Int)) (by omega)]; rfl, B1.out⟩
/-- A rune divides where its byte is none of a row. -/
theorem dv_row (b : UInt8) : dvB b.toNat = !rowB b := by
  unfold dvB rowB lowB
  by_cases h : 65 ≤ b.toNat ∧ b.toNat ≤ 90
  · rw [if_pos h, decide_eq_true h.1, decide_eq_true h.2]
    have e : (b + 32).toNat = b.toNat + 32 := by rw [UInt8.toNat_add]; have : (32 : UInt8).toNat = 32 := rfl; rw [this]; omega
    have : wdB (b + 32).toNat = true := by
      unfold wdB; rw [e, decide_eq_true (p := 97 ≤ _) (by omega), decide_eq_true (p := b.toNat + 32 ≤ 122) (by omega)]; rfl
    rw [this]; simp
  · rw [if_neg h]
    have : (decide (65 ≤ b.toNat) && decide (b.toNat ≤ 90)) = false := by
      rw [Bool.eq_false_iff]; intro q; simp at q; exact h q
    rw [this]; simp
theorem dv_hi {r : Nat} (h : 128 ≤ r) : dvB r = true := by
  unfold dvB; rw [wdB_hi h, decide_eq_false (p := r ≤ 90) (by omega)]; simp
theorem row_hi {b : UInt8} (h : 128 ≤ b.toNat) : rowB b = false := by
  have := dv_row b
  rw [dv_hi h] at this
  cases e : rowB b with
  | false => rfl
  | true => rw [e] at this; cases this
section
open Go.ChangeMaps Go.MapKept
theorem lawS : Keyed Tryd.prog 9 := string_keyed Tryd.underlying9
/-- A datum that has the value f s at the text s. -/
def MapDS (D : DataW Value) (f : List UInt8 → Option Value) : Prop :=
  Maps.IsMap D ∧ ∀ s : List UInt8, Maps.has D (.string s) = (f s).isSome ∧ ∀ z, D.atKey (.string s) (.held z) = .held ((f s).getD z)
/-- Block b is a map of at most n entries that has the value f s at the text s. -/
def MapS (w : World) (b n : Nat) (f : List UInt8 → Option Value) : Prop := ∃ D : DataW Value, w.ownsMap Tryd.prog 9 asIs b n D ∧ MapDS D f
theorem text_keyS {s x : List UInt8} (h : s ≠ x) : (Lit.string s) ≠ .string x := by
  intro e
  injection e with e
  exact h e
theorem MapDS.none : MapDS (.map []) fun _ => none := ⟨⟨[], rfl⟩, fun _ => ⟨rfl, fun _ => rfl⟩⟩
theorem MapDS.put {D : DataW Value} {f : List UInt8 → Option Value} (h : MapDS D f) (s : List UInt8) (v : Value) : MapDS (D.put (.string s) (.held v)) fun x => if x = s then some v else f x := by
  obtain ⟨hm, hf⟩ := h
  refine ⟨?_, fun x => ?_⟩
  · obtain ⟨es, rfl⟩ := hm
    exact ⟨_, rfl⟩
  · by_cases hx : x = s
    · subst hx
      have hk : WideAt.IsKeyLit (.string x) := trivial
      exact ⟨by rw [Maps.has_put_same hm hk]; simp, fun z => by rw [Maps.atKey_put_same hm hk]; simp⟩
    · simp only [if_neg hx]
      exact ⟨by rw [Maps.has_put_other (text_keyS hx)]; exact (hf x).1, fun z => by rw [Maps.atKey_put_other (text_keyS hx)]; exact (hf x).2 z⟩
theorem MapS.lt {w : World} {b n : Nat} {f : List UInt8 → Option Value} (h : MapS w b n f) : b < w.heap.size := by
  obtain ⟨D, h, _⟩ := h; exact h.lt
theorem MapS.below {w w' : World} {b n B : Nat} {f : List UInt8 → Option Value} (h : MapS w b n f) (hb : Below B w w') (hl : b < B) : MapS w' b n f := by
  obtain ⟨D, ⟨es, clock, h1, h2⟩, hD⟩ := h
  exact ⟨D, ⟨es, clock, (hb.block b hl).trans h1, h2⟩, hD⟩
theorem MapS.made (w : World) : MapS (w.alloc (.map #[] 0)) w.heap.size 0 fun _ => none := ⟨_, World.ownsMap_made w _ _ _, MapDS.none⟩
theorem MapS.kept {w w' : World} {b n : Nat} {f : List UInt8 → Option Value} {row : Option Nat} (h : MapS w b n f) (hg : w.grownBy w' row) (hne : some b ≠ row) : MapS w' b n f := by
  obtain ⟨D, h, hD⟩ := h; exact ⟨D, h.kept hg hne, hD⟩
theorem MapS.store {w : World} {b n : Nat} {f : List UInt8 → Option Value} (h : MapS w b n f) {t e : TypeId} (ht : Tryd.prog.underlying t = some (.map 9 e)) (hn : n < maxLen) (s : ByteArray) (hs : s.size ≤ maxLen) (v : Value) :
    ∃ w', (Instr.mapUpdate t (.map (some b)) (.string s) v).run Tryd.prog w = .ok () w' ∧ MapS w' b (n + 1) (fun x => if x = s.data.toList then some v else f x) ∧ w.grownBy w' (some b) := by
  obtain ⟨D, h, hD⟩ := h
  obtain ⟨w', h1, h2, h3⟩ := h.update lawS ht hn (keyOf_string_mk Tryd.underlying9 hs) (d := .held v) (ps := []) rfl
  exact ⟨w', h1, ⟨_, h2, hD.put s.data.toList v⟩, h3⟩
theorem MapS.look1 {w : World} {b n : Nat} {f : List UInt8 → Option Value} (h : MapS w b n f) {t e : TypeId} (ht : Tryd.prog.underlying t = some (.map 9 e)) {z : Value} (hz : (zeroValue e).run Tryd.prog w = .ok z w) (s : ByteArray) (hs : s.size ≤ maxLen) :
    (Instr.lookup t (.map (some b)) (.string s) false).run Tryd.prog w = .ok ((f s.data.toList).getD z) w := by
  obtain ⟨D, h, hm, hf⟩ := h
  obtain ⟨v, ps, hrun, hv⟩ := h.lookup lawS ht hz (zd := .held z) (zp := []) rfl (keyOf_string_mk Tryd.underlying9 hs)
  rw [hrun]
  rw [(hf s.data.toList).2 z] at hv
  simp only [asIs, Option.some.injEq, Prod.mk.injEq, DataW.held.injEq] at hv
  rw [hv.1]
end
end Go.Proofs.YtdapmmhbnaknbaaDoor
