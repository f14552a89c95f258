/-
  Ratio of the reference's fractions, at numbers of one digit.
-/
import Derived.Test.YtecbkfmdpgkdiaaGreatDoorRatRLow
import Derived.Deep.RegionHeld3
namespace Go.Proofs.YtecbkfmdpgkdiaaGreatDoor
open Go.RowKit

/-- The boxes of Ratio: the fraction in lowest terms, and the result's. -/
def RS (w : World) (x : Nat) (a b : Option Addr) (k c m c2 n d : Nat) (W : World) : Prop :=
  W.cell? ⟨x, 0, none⟩ = some (.bool false) ∧ W.cell? ⟨x, 1, none⟩ = some (.slice a k c) ∧ W.cell? ⟨x, 2, none⟩ = some (.slice b m c2) ∧
  W.cell? ⟨w.heap.size + 1, 0, none⟩ = some (.string ⟨#[]⟩) ∧ W.cell? ⟨w.heap.size + 1, 1, none⟩ = some (.string ⟨#[]⟩) ∧ W.frozen? ⟨w.heap.size + 1, 0, none⟩ = false ∧ W.frozen? ⟨w.heap.size + 1, 1, none⟩ = false ∧
  Hid (Sm W a k n ∧ Sm W b m d ∧ Below w.heap.size w W ∧ x < W.heap.size ∧ w.heap.size + 1 < W.heap.size)
theorem RS.keep {w : World} {x : Nat} {a b : Option Addr} {k c m c2 n d : Nat} {W W' : World} (h : RS w x a b k c m c2 n d W) (hb : Below W.heap.size W W') : RS w x a b k c m c2 n d W' := by
  obtain ⟨a0, a1, a2, r0, r1, f0, f1, q⟩ := h
  obtain ⟨l1, l2, bl, hx, hg⟩ := q.out
  have f := fun (b o : Nat) (hb2 : b < W.heap.size) => hb.cell (p := ⟨b, o, none⟩) hb2
  have z := fun (b o : Nat) (hb2 : b < W.heap.size) => hb.frozen (p := ⟨b, o, none⟩) hb2
  exact ⟨(f _ _ hx).trans a0, (f _ _ hx).trans a1, (f _ _ hx).trans a2, (f _ _ hg).trans r0, (f _ _ hg).trans r1, (z _ _ hg).trans f0, (z _ _ hg).trans f1, l1.below hb, l2.below hb, bl.trans (hb.mono (by omega)), Nat.lt_of_lt_of_le hx hb.size, Nat.lt_of_lt_of_le hg hb.size⟩
/-- The box of r, beside them. -/
def RQ (w : World) (x q : Nat) (u v : ByteArray) (W : World) : Prop :=
  W.cell? ⟨q, 0, none⟩ = some (.string u) ∧ W.cell? ⟨q, 1, none⟩ = some (.string v) ∧ W.frozen? ⟨q, 0, none⟩ = false ∧ W.frozen? ⟨q, 1, none⟩ = false ∧ Hid (x < q ∧ w.heap.size + 1 < q ∧ q < W.heap.size)
theorem RQ.keep {w : World} {x q : Nat} {u v : ByteArray} {W W' : World} (h : RQ w x q u v W) (hb : Below W.heap.size W W') : RQ w x q u v W' := by
  obtain ⟨a0, a1, f0, f1, s⟩ := h
  obtain ⟨h1, h2, h3⟩ := s.out
  have f := fun (o : Nat) => hb.cell (p := ⟨q, o, none⟩) h3
  have z := fun (o : Nat) => hb.frozen (p := ⟨q, o, none⟩) h3
  exact ⟨(f _).trans a0, (f _).trans a1, (z _).trans f0, (z _).trans f1, h1, h2, Nat.lt_of_lt_of_le h3 hb.size⟩
theorem RQ.make {w : World} {x : Nat} {a b : Option Addr} {k c m c2 n d : Nat} {W : World} (h : RS w x a b k c m c2 n d W) : RQ w x W.heap.size ⟨#[]⟩ ⟨#[]⟩ (W.alloc (.cells #[.string ⟨#[]⟩, .string ⟨#[]⟩] 31)) := by
  obtain ⟨a0, a1, a2, r0, r1, f0, f1, q⟩ := h
  obtain ⟨l1, l2, bl, hx, hg⟩ := q.out
  exact ⟨by rw [World.cell?_alloc_at _ _ _ _ rfl]; rfl, by rw [World.cell?_alloc_at _ _ _ _ rfl]; rfl, by simp, by simp, hx, hg, by simp⟩
theorem RS.made {w : World} {x : Nat} {a b : Option Addr} {k c m c2 n d : Nat} {W : World} (h : RS w x a b k c m c2 n d W) (o : Obj) : RS w x a b k c m c2 n d (W.alloc o) := h.keep ((Below.refl _ _).alloc (Nat.le_refl _) _)
theorem RS.stored {w : World} {x q : Nat} {a b : Option Addr} {k c m c2 n d : Nat} {u v u' v' : ByteArray} {W : World} (h : RS w x a b k c m c2 n d W) (hq : RQ w x q u v W) : RS w x a b k c m c2 n d ((W.setCell ⟨q, 0, none⟩ (.string u')).setCell ⟨q, 1, none⟩ (.string v')) := by
  obtain ⟨a0, a1, a2, r0, r1, f0, f1, s⟩ := h
  obtain ⟨l1, l2, bl, hx, hg⟩ := s.out
  obtain ⟨q0, q1, _, _, t⟩ := hq
  obtain ⟨t1, t2, t3⟩ := t.out
  have e1 : (W.setCell ⟨q, 0, none⟩ (.string u')).cell? ⟨q, 1, none⟩ = some (.string v) := by rw [World.cell?_setCell_other _ _ _ _ (by simp)]; exact q1
  exact ⟨(cell_two (by omega)).trans a0, (cell_two (by omega)).trans a1, (cell_two (by omega)).trans a2, (cell_two (by omega)).trans r0, (cell_two (by omega)).trans r1, (frozen_two _).trans f0, (frozen_two _).trans f1,
    (l1.set q0 (fun m e => by cases e) _).set e1 (fun m e => by cases e) _, (l2.set q0 (fun m e => by cases e) _).set e1 (fun m e => by cases e) _,
    (bl.setCell (p := ⟨q, 0, none⟩) (show w.heap.size ≤ q by omega) _).setCell (p := ⟨q, 1, none⟩) (show w.heap.size ≤ q by omega) _, by simpa using hx, by simpa using hg⟩
theorem RQ.stored {w : World} {x q : Nat} {u v u' v' : ByteArray} {W : World} (hq : RQ w x q u v W) : RQ w x q u' v' ((W.setCell ⟨q, 0, none⟩ (.string u')).setCell ⟨q, 1, none⟩ (.string v')) := by
  obtain ⟨q0, q1, g0, g1, t⟩ := hq
  obtain ⟨t1, t2, t3⟩ := t.out
  have e := two_cells (x := .string u') (y := .string v') q0 q1
  exact ⟨e.1, e.2, (frozen_two _).trans g0, (frozen_two _).trans g1, t1, t2, by simpa using t3⟩
theorem rs_num (w : World) (x : Nat) (a b : Option Addr) (k c m c2 n d : Nat) (hE : Pow w) (W : World) (h : RS w x a b k c m c2 n d W) :
    Calls Tryz.prog 29 #[.slice a k c] W fun e w' => e = .returned (.string (decB n)) ∧ Below W.heap.size W w' :=
  (rtext_c a k c n W h.2.2.2.2.2.2.2.out.1 (Go.Joins.tab_stays gPow hE h.2.2.2.2.2.2.2.out.2.2.1 (Nat.le_refl _)))
theorem rs_den (w : World) (x : Nat) (a b : Option Addr) (k c m c2 n d : Nat) (hE : Pow w) (W : World) (h : RS w x a b k c m c2 n d W) :
    Calls Tryz.prog 29 #[.slice b m c2] W fun e w' => e = .returned (.string (decB d)) ∧ Below W.heap.size W w' :=
  (rtext_c b m c2 d W h.2.2.2.2.2.2.2.out.2.1 (Go.Joins.tab_stays gPow hE h.2.2.2.2.2.2.2.out.2.2.1 (Nat.le_refl _)))
set_option maxHeartbeats 4000000 in
theorem RRatio_c (a1 a2 : Option Addr) (c1 c2 k1 k2 n d : Nat) (w : World) (h1 : Sm w a1 k1 n) (h2 : Sm w a2 k2 d) (hd : 0 < d) (hE : Pow w) :
    Calls Tryz.prog 21 #[.agg #[.bool false, .slice a1 k1 c1, .slice a2 k2 c2]] w (RatPost (n / Nat.gcd n d) (d / Nat.gcd n d) w) := by
  have HE := Lib.hid hE
  have s1 : (decB (n / Nat.gcd n d)).size ≤ 21 := decB_size _ (Nat.le_trans (Nat.div_le_self _ _) (Nat.le_of_lt (Nat.lt_trans h1.lt (by decide))))
  have s2 : (decB (d / Nat.gcd n d)).size ≤ 21 := decB_size _ (Nat.le_trans (Nat.div_le_self _ _) (Nat.le_of_lt (Nat.lt_trans h2.lt (by decide))))
  obtain ⟨W0, hW0⟩ : ∃ W0, (w.alloc (.cells #[.bool false, .slice a1 k1 c1, .slice a2 k2 c2] 45)).alloc (.cells #[.string ⟨#[]⟩, .string ⟨#[]⟩] 31) = W0 := ⟨_, rfl⟩
  have B0 : Hid (Below w.heap.size w W0) := by
    rw [← hW0]
    exact ((Below.refl _ _).alloc (Nat.le_refl _) _).alloc (by simp) _
  have X0 : Hid (W0.cell? ⟨w.heap.size + 1, 0, none⟩ = some (.string ⟨#[]⟩) ∧ W0.cell? ⟨w.heap.size + 1, 1, none⟩ = some (.string ⟨#[]⟩) ∧ W0.frozen? ⟨w.heap.size + 1, 0, none⟩ = false ∧ W0.frozen? ⟨w.heap.size + 1, 1, none⟩ = false ∧ w.heap.size + 1 < W0.heap.size) := by
    rw [← hW0]
    refine ⟨?_, ?_, ?_, ?_, by simp⟩
    all_goals simp [go_sem, World.cell?_alloc_past]
  have y0 : W0.cell? ⟨w.heap.size, 0, none⟩ = some (.bool false) := by rw [← hW0]; simp [go_sem, World.cell?_alloc_past]
  have y1 : W0.cell? ⟨w.heap.size, 1, none⟩ = some (.slice a1 k1 c1) := by rw [← hW0]; simp [go_sem, World.cell?_alloc_past]
  have y2 : W0.cell? ⟨w.heap.size, 2, none⟩ = some (.slice a2 k2 c2) := by rw [← hW0]; simp [go_sem, World.cell?_alloc_past]
  have HL := Lib.hid (lowest_c a1 a2 c1 c2 k1 k2 n d W0 (h1.below B0.out) (h2.below B0.out) hd)
  clear h1 h2 hd hE
  generalize n / Nat.gcd n d = n' at *
  generalize d / Nat.gcd n d = d' at *
  have S1 := Lib.hid s1
  have S2 := Lib.hid s2
  clear s1 s2
  go_enter Tryz.func21, Tryz.ntmps21
  go_wp2_with fail
  clear hW0 y0 y1 y2
  refine HL.out.mono ?_
  rintro e w2 ⟨a, k, c, b, m, e2, rfl, l1, l2, b2⟩
  obtain ⟨W3, hW3⟩ : ∃ W3, w2.alloc (.cells #[.bool false, .slice a k c, .slice b m e2] 45) = W3 := ⟨_, rfl⟩
  have R3 : RS w w2.heap.size a b k c m e2 n' d' W3 := by
    obtain ⟨x0, x1, x2, x3, x4⟩ := X0.out
    have bb : Below w2.heap.size w2 W3 := by rw [← hW3]; exact (Below.refl _ _).alloc (Nat.le_refl _) _
    have s2 := b2.size
    have sz : W3.heap.size = w2.heap.size + 1 := by rw [← hW3]; simp
    have hlt : w.heap.size + 1 < w2.heap.size := by omega
    refine ⟨by rw [← hW3, World.cell?_alloc_at _ _ _ _ rfl]; rfl, by rw [← hW3, World.cell?_alloc_at _ _ _ _ rfl]; rfl, by rw [← hW3, World.cell?_alloc_at _ _ _ _ rfl]; rfl, ?_, ?_, ?_, ?_, l1.below bb, l2.below bb, (B0.out.trans (b2.mono B0.out.size)).trans (bb.mono (by omega)), by omega, by omega⟩
    · rw [bb.cell (p := ⟨w.heap.size + 1, 0, none⟩) hlt, b2.cell (p := ⟨w.heap.size + 1, 0, none⟩) x4]; exact x0
    · rw [bb.cell (p := ⟨w.heap.size + 1, 1, none⟩) hlt, b2.cell (p := ⟨w.heap.size + 1, 1, none⟩) x4]; exact x1
    · rw [bb.frozen (p := ⟨w.heap.size + 1, 0, none⟩) hlt, b2.frozen (p := ⟨w.heap.size + 1, 0, none⟩) x4]; exact x2
    · rw [bb.frozen (p := ⟨w.heap.size + 1, 1, none⟩) hlt, b2.frozen (p := ⟨w.heap.size + 1, 1, none⟩) x4]; exact x3
  clear l1 l2 b2 B0 X0 HL
  have HR := Lib.hid R3
  dsimp only [RS] at R3
  go_wp2_with fail
  clear R3
  have R3 := HR.out
  clear HR
  generalize w2.heap.size = x at R3 ⊢
  have hS := R3.keep (Below.refl _ _).drew
  clear hW3 R3
  refine wp_region_noPanic ?_
  refine wp_region_held_drew (S := RS w x a b k c m e2 n' d') (by kernel_rfl) hS (fun hHeld => ?_)
  refine wpAnyH_take (i := 0) (v := ?v0z1) rfl (by kernel_rfl) (by kernel_rfl) (by kernel_rfl) (fun _ _ _ h => h) (Or.inl ⟨by rfl, ?hy0z1⟩) (by assumption) ?rest0z1
  case hy0z1 =>
    intro w hSw
    dsimp only [RS] at hSw
    go_simp
    try with_reducible rfl
  simp only [Act.put, List.getElem_toArray, List.getElem_cons_succ, List.getElem_cons_zero, List.setIfInBounds_toArray, List.set_cons_zero, List.set_cons_succ]
  refine wpAnyH_take (i := 1) (v := ?v1z2) rfl (by kernel_rfl) (by kernel_rfl) (by kernel_rfl) (fun _ _ _ h => h) (Or.inl ⟨by rfl, ?hy1z2⟩) (by assumption) ?rest1z2
  case hy1z2 =>
    intro w hSw
    dsimp only [RS] at hSw
    go_simp
    try with_reducible rfl
  simp only [Act.put, List.getElem_toArray, List.getElem_cons_succ, List.getElem_cons_zero, List.setIfInBounds_toArray, List.set_cons_zero, List.set_cons_succ]
  refine wpAnyH_take (i := 3) (v := ?v3z3) rfl (by kernel_rfl) (by kernel_rfl) (by kernel_rfl) (fun _ _ _ h => h) (Or.inl ⟨by rfl, ?hy3z3⟩) (by assumption) ?rest3z3
  case hy3z3 =>
    intro w hSw
    dsimp only [RS] at hSw
    go_simp
    try with_reducible rfl
  simp only [Act.put, List.getElem_toArray, List.getElem_cons_succ, List.getElem_cons_zero, List.setIfInBounds_toArray, List.set_cons_zero, List.set_cons_succ]
  refine wpAnyH_take (i := 4) (v := ?v4z4) rfl (by kernel_rfl) (by kernel_rfl) (by kernel_rfl) (fun _ _ _ h => h) (Or.inl ⟨by rfl, ?hy4z4⟩) (by assumption) ?rest4z4
  case hy4z4 =>
    intro w hSw
    dsimp only [RS] at hSw
    go_simp
    try with_reducible rfl
  simp only [Act.put, List.getElem_toArray, List.getElem_cons_succ, List.getElem_cons_zero, List.setIfInBounds_toArray, List.set_cons_zero, List.set_cons_succ]
  generalize W3.drew = WD at hHeld ⊢
  clear hS
  have hS := hHeld
  clear hHeld
  refine wpAnyH_ready (rs := [2, 7]) (by kernel_rfl) (by simp) ?_
  refine AllReadyH.cons rfl (fun K hK => ?_) (AllReadyH.cons rfl (fun K hK => ?_) AllReadyH.nil)
  · go_simp
    refine (rs_num w x a b k c m e2 n' d' HE.out _ hS).mono ?_
    rintro e wc ⟨rfl, bc⟩
    try go_simp
    have hT := hS.keep bc
    refine hK.out _ _ hT (fun _ => ?_)
    clear hK K hS bc
    have hS := hT
    clear hT
    try simp only [Act.put, List.setIfInBounds_toArray, List.set_cons_zero, List.set_cons_succ]
    refine wpAnyH_ready (rs := [5, 7]) (by kernel_rfl) (by simp) ?_
    refine AllReadyH.cons rfl (fun K hK => ?_) (AllReadyH.cons rfl (fun K hK => ?_) AllReadyH.nil)
    · go_simp
      refine (rs_den w x a b k c m e2 n' d' HE.out _ hS).mono ?_
      rintro e wc ⟨rfl, bc⟩
      try go_simp
      have hT := hS.keep bc
      refine hK.out _ _ hT (fun _ => ?_)
      clear hK K hS bc
      have hS := hT
      clear hT
      try simp only [Act.put, List.setIfInBounds_toArray, List.set_cons_zero, List.set_cons_succ]
      refine wpAnyH_take (i := 6) (v := ?v6z101) rfl (by kernel_rfl) (by kernel_rfl) (by kernel_rfl) (fun _ _ _ h => h) (Or.inl ⟨by rfl, ?hy6z101⟩) (by assumption) ?rest6z101
      case hy6z101 =>
        intro w hSw
        dsimp only [RS] at hSw
        go_simp
        try with_reducible rfl
      simp only [Act.put, List.getElem_toArray, List.getElem_cons_succ, List.getElem_cons_zero, List.setIfInBounds_toArray, List.set_cons_zero, List.set_cons_succ]
      refine wpAnyH_ready (rs := [7]) (by kernel_rfl) (by simp) ?_
      refine AllReadyH.cons rfl (fun K hK => ?_) AllReadyH.nil
      go_simp
      have hQ := RQ.make hS
      have hT := hS.made (.cells #[.string ⟨#[]⟩, .string ⟨#[]⟩] 31)
      refine hK.out _ _ hT (fun _ => ?_)
      clear hK K hS
      have hS := hT
      clear hT
      try simp only [Act.put, List.setIfInBounds_toArray, List.set_cons_zero, List.set_cons_succ]
      generalize (wc).alloc (.cells #[.string ⟨#[]⟩, .string ⟨#[]⟩] 31) = WA at hQ hS ⊢
      generalize World.heap (wc) = HH at hQ ⊢
      generalize HH.size = q at hQ ⊢
      refine wpAnyH_ready (rs := [8]) (by kernel_rfl) (by simp) ?_
      refine AllReadyH.cons rfl (fun K hK => ?_) AllReadyH.nil
      have e := hQ
      dsimp only [RQ] at e
      go_simp
      clear e
      have hT := hS.stored (u' := decB n') (v' := decB d') hQ
      have hP := hQ.stored (u' := decB n') (v' := decB d')
      refine hK.out _ _ hT (fun _ => ?_)
      clear hK K hS hQ
      try simp only [Act.put, List.setIfInBounds_toArray, List.set_cons_zero, List.set_cons_succ]
      refine wpAnyH_done (by kernel_rfl) ?_ _
      refine NoPanic.normal ?_
      generalize World.setCell _ _ _ = W9 at hT hP ⊢
      have e := hT
      dsimp only [RS] at e
      have e' := hP
      dsimp only [RQ] at e'
      have s1 := S1.out
      have s2 := S2.out
      have FIN := Lib.hid (two_cells (x := .string (decB n')) (y := .string (decB d')) hT.2.2.2.1 hT.2.2.2.2.1)
      have FB := Lib.hid ((hT.2.2.2.2.2.2.2.out.2.2.1.setCell (p := ⟨w.heap.size + 1, 0, none⟩) (Nat.le_succ _) (.string (decB n'))).setCell (p := ⟨w.heap.size + 1, 1, none⟩) (Nat.le_succ _) (.string (decB d')))
      clear hT hP
      go_wp2
      obtain ⟨e0, e1⟩ := FIN.out
      exact bodyPost_ret (v := .tuple #[.agg #[.string (decB n'), .string (decB d')], .int .i64 0]) (by simp [results, Tryz.results21, go_sem, e0, e1]) rfl ⟨rfl, FB.out⟩
    · go_simp
      have hQ := RQ.make hS
      have hT := hS.made (.cells #[.string ⟨#[]⟩, .string ⟨#[]⟩] 31)
      refine hK.out _ _ hT (fun _ => ?_)
      clear hK K hS
      have hS := hT
      clear hT
      try simp only [Act.put, List.setIfInBounds_toArray, List.set_cons_zero, List.set_cons_succ]
      generalize (wc).alloc (.cells #[.string ⟨#[]⟩, .string ⟨#[]⟩] 31) = WA at hQ hS ⊢
      generalize World.heap (wc) = HH at hQ ⊢
      generalize HH.size = q at hQ ⊢
      refine wpAnyH_ready (rs := [5]) (by kernel_rfl) (by simp) ?_
      refine AllReadyH.cons rfl (fun K hK => ?_) AllReadyH.nil
      go_simp
      refine (rs_den w x a b k c m e2 n' d' HE.out _ hS).mono ?_
      rintro e wc ⟨rfl, bc⟩
      try go_simp
      have hT := hS.keep bc
      have hP := hQ.keep bc
      refine hK.out _ _ hT (fun _ => ?_)
      clear hK K hS bc
      clear hQ
      have hQ := hP
      clear hP
      have hS := hT
      clear hT
      try simp only [Act.put, List.setIfInBounds_toArray, List.set_cons_zero, List.set_cons_succ]
      refine wpAnyH_take (i := 6) (v := ?v6z102) rfl (by kernel_rfl) (by kernel_rfl) (by kernel_rfl) (fun _ _ _ h => h) (Or.inl ⟨by rfl, ?hy6z102⟩) (by assumption) ?rest6z102
      case hy6z102 =>
        intro w hSw
        dsimp only [RS] at hSw
        go_simp
        try with_reducible rfl
      simp only [Act.put, List.getElem_toArray, List.getElem_cons_succ, List.getElem_cons_zero, List.setIfInBounds_toArray, List.set_cons_zero, List.set_cons_succ]
      refine wpAnyH_ready (rs := [8]) (by kernel_rfl) (by simp) ?_
      refine AllReadyH.cons rfl (fun K hK => ?_) AllReadyH.nil
      have e := hQ
      dsimp only [RQ] at e
      go_simp
      clear e
      have hT := hS.stored (u' := decB n') (v' := decB d') hQ
      have hP := hQ.stored (u' := decB n') (v' := decB d')
      refine hK.out _ _ hT (fun _ => ?_)
      clear hK K hS hQ
      try simp only [Act.put, List.setIfInBounds_toArray, List.set_cons_zero, List.set_cons_succ]
      refine wpAnyH_done (by kernel_rfl) ?_ _
      refine NoPanic.normal ?_
      generalize World.setCell _ _ _ = W9 at hT hP ⊢
      have e := hT
      dsimp only [RS] at e
      have e' := hP
      dsimp only [RQ] at e'
      have s1 := S1.out
      have s2 := S2.out
      have FIN := Lib.hid (two_cells (x := .string (decB n')) (y := .string (decB d')) hT.2.2.2.1 hT.2.2.2.2.1)
      have FB := Lib.hid ((hT.2.2.2.2.2.2.2.out.2.2.1.setCell (p := ⟨w.heap.size + 1, 0, none⟩) (Nat.le_succ _) (.string (decB n'))).setCell (p := ⟨w.heap.size + 1, 1, none⟩) (Nat.le_succ _) (.string (decB d')))
      clear hT hP
      go_wp2
      obtain ⟨e0, e1⟩ := FIN.out
      exact bodyPost_ret (v := .tuple #[.agg #[.string (decB n'), .string (decB d')], .int .i64 0]) (by simp [results, Tryz.results21, go_sem, e0, e1]) rfl ⟨rfl, FB.out⟩
  · go_simp
    have hQ := RQ.make hS
    have hT := hS.made (.cells #[.string ⟨#[]⟩, .string ⟨#[]⟩] 31)
    refine hK.out _ _ hT (fun _ => ?_)
    clear hK K hS
    have hS := hT
    clear hT
    try simp only [Act.put, List.setIfInBounds_toArray, List.set_cons_zero, List.set_cons_succ]
    generalize (WD).alloc (.cells #[.string ⟨#[]⟩, .string ⟨#[]⟩] 31) = WA at hQ hS ⊢
    generalize World.heap (WD) = HH at hQ ⊢
    generalize HH.size = q at hQ ⊢
    refine wpAnyH_ready (rs := [2]) (by kernel_rfl) (by simp) ?_
    refine AllReadyH.cons rfl (fun K hK => ?_) AllReadyH.nil
    go_simp
    refine (rs_num w x a b k c m e2 n' d' HE.out _ hS).mono ?_
    rintro e wc ⟨rfl, bc⟩
    try go_simp
    have hT := hS.keep bc
    have hP := hQ.keep bc
    refine hK.out _ _ hT (fun _ => ?_)
    clear hK K hS bc
    clear hQ
    have hQ := hP
    clear hP
    have hS := hT
    clear hT
    try simp only [Act.put, List.setIfInBounds_toArray, List.set_cons_zero, List.set_cons_succ]
    refine wpAnyH_ready (rs := [5]) (by kernel_rfl) (by simp) ?_
    refine AllReadyH.cons rfl (fun K hK => ?_) AllReadyH.nil
    go_simp
    refine (rs_den w x a b k c m e2 n' d' HE.out _ hS).mono ?_
    rintro e wc ⟨rfl, bc⟩
    try go_simp
    have hT := hS.keep bc
    have hP := hQ.keep bc
    refine hK.out _ _ hT (fun _ => ?_)
    clear hK K hS bc
    clear hQ
    have hQ := hP
    clear hP
    have hS := hT
    clear hT
    try simp only [Act.put, List.setIfInBounds_toArray, List.set_cons_zero, List.set_cons_succ]
    refine wpAnyH_take (i := 6) (v := ?v6z103) rfl (by kernel_rfl) (by kernel_rfl) (by kernel_rfl) (fun _ _ _ h => h) (Or.inl ⟨by rfl, ?hy6z103⟩) (by assumption) ?rest6z103
    case hy6z103 =>
      intro w hSw
      dsimp only [RS] at hSw
      go_simp
      try with_reducible rfl
    simp only [Act.put, List.getElem_toArray, List.getElem_cons_succ, List.getElem_cons_zero, List.setIfInBounds_toArray, List.set_cons_zero, List.set_cons_succ]
    refine wpAnyH_ready (rs := [8]) (by kernel_rfl) (by simp) ?_
    refine AllReadyH.cons rfl (fun K hK => ?_) AllReadyH.nil
    have e := hQ
    dsimp only [RQ] at e
    go_simp
    clear e
    have hT := hS.stored (u' := decB n') (v' := decB d') hQ
    have hP := hQ.stored (u' := decB n') (v' := decB d')
    refine hK.out _ _ hT (fun _ => ?_)
    clear hK K hS hQ
    try simp only [Act.put, List.setIfInBounds_toArray, List.set_cons_zero, List.set_cons_succ]
    refine wpAnyH_done (by kernel_rfl) ?_ _
    refine NoPanic.normal ?_
    generalize World.setCell _ _ _ = W9 at hT hP ⊢
    have e := hT
    dsimp only [RS] at e
    have e' := hP
    dsimp only [RQ] at e'
    have s1 := S1.out
    have s2 := S2.out
    have FIN := Lib.hid (two_cells (x := .string (decB n')) (y := .string (decB d')) hT.2.2.2.1 hT.2.2.2.2.1)
    have FB := Lib.hid ((hT.2.2.2.2.2.2.2.out.2.2.1.setCell (p := ⟨w.heap.size + 1, 0, none⟩) (Nat.le_succ _) (.string (decB n'))).setCell (p := ⟨w.heap.size + 1, 1, none⟩) (Nat.le_succ _) (.string (decB d')))
    clear hT hP
    go_wp2
    obtain ⟨e0, e1⟩ := FIN.out
    exact bodyPost_ret (v := .tuple #[.agg #[.string (decB n'), .string (decB d')], .int .i64 0]) (by simp [results, Tryz.results21, go_sem, e0, e1]) rfl ⟨rfl, FB.out⟩
end Go.Proofs.YtecbkfmdpgkdiaaGreatDoor
