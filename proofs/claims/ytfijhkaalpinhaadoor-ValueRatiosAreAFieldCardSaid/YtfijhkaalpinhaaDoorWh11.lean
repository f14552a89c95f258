/-
  Ratios of package value: two fractions.
  Whole numbers of any size: quotients by divisors.
  Fractions of whole numbers of any size: Over.
  Fractions in lowest terms: the divisors of sums and products.
-/
import Derived.Test.YtfijhkaalpinhaaDoorWh10
import Derived.Test.YtfijhkaalpinhaaDoorWh08
namespace Go.Proofs.YtfijhkaalpinhaaDoor
open Go.RowKit

def FsPost (n d n' d' : List UInt8) (w : World) (e : Ending) (w' : World) : Prop :=
  ∃ (f h : Fq) (flt : Int), e = .returned (.tuple #[f.v, h.v, .int .i64 flt]) ∧ Below w.heap.size w w' ∧
    ((flt = 0 ∧ ∃ x y x' y', rread n d = some (x, y) ∧ rread n' d' = some (x', y') ∧ Fi w' f x y ∧ Fi w' h x' y') ∨
     (flt ≠ 0 ∧ ((rread n d = none ∧ flt = rflt n d) ∨ (∃ p, rread n d = some p) ∧ rread n' d' = none ∧ flt = rflt n' d')))
/-- The boxes of the arguments and of the results. -/
structure Fs (w : World) (s t s' t' : ByteArray) (W : World) : Prop where
  x : B2 W w.heap.size (.string s) (.string t)
  y : B2 W (w.heap.size + 1) (.string s') (.string t')
  r : B4q W (w.heap.size + 1 + 1) Fq.z
  q : B4q W (w.heap.size + 1 + 1 + 1) Fq.z
  bel : Below w.heap.size w W
theorem Fs.keep {w : World} {s t s' t' : ByteArray} {W W' : World} (h : Fs w s t s' t' W) (hb : Below W.heap.size W W') : Fs w s t s' t' W' :=
  ⟨h.x.keep hb, h.y.keep hb, h.r.keep hb, h.q.keep hb, h.bel.trans (hb.mono h.bel.size)⟩
theorem Fs.set {w : World} {s t s' t' : ByteArray} {W : World} (h : Fs w s t s' t' W) {g : Nat} (hg : w.heap.size + 1 + 1 + 1 < g) (f : Fq) : Fs w s t s' t' (fourq W g f) :=
  ⟨h.x.other4 (by omega) _ _ _ _, h.y.other4 (by omega) _ _ _ _, h.r.other (by omega) _ _ _ _, h.q.other (by omega) _ _ _ _, below_four h.bel (by omega) _ _ _ _⟩
theorem Fs.made (w : World) (s t s' t' : ByteArray) (T1 T2 T3 T4 : TypeId) :
    Fs w s t s' t' ((((w.alloc (.cells #[.string s, .string t] T1)).alloc (.cells #[.string s', .string t'] T2)).alloc (.cells #[.bool false, .slice none 0 0, .bool false, .slice none 0 0] T3)).alloc (.cells #[.bool false, .slice none 0 0, .bool false, .slice none 0 0] T4)) := by
  have s1 : (w.alloc (.cells #[.string s, .string t] T1)).heap.size = w.heap.size + 1 := by simp
  have s2 : ((w.alloc (.cells #[.string s, .string t] T1)).alloc (.cells #[.string s', .string t'] T2)).heap.size = w.heap.size + 1 + 1 := by simp
  have s3 : (((w.alloc (.cells #[.string s, .string t] T1)).alloc (.cells #[.string s', .string t'] T2)).alloc (.cells #[.bool false, .slice none 0 0, .bool false, .slice none 0 0] T3)).heap.size = w.heap.size + 1 + 1 + 1 := by simp
  refine ⟨(((B2.made w _ _ T1).keep (bel_one _ _)).keep (bel_one _ _)).keep (bel_one _ _), ?_, ?_, ?_, ?_⟩
  · rw [← s1]; exact ((B2.made _ _ _ T2).keep (bel_one _ _)).keep (bel_one _ _)
  · rw [← s2]; exact (B4.made _ _ _ _ _ T3).keep (bel_one _ _)
  · rw [← s3]; exact B4.made _ _ _ _ _ T4
  · exact ((((Below.refl _ _).alloc (Nat.le_refl _) _).alloc (by simp) _).alloc (by simp; omega) _).alloc (by simp; omega) _
/-- What region 7 reads. -/
def S8 (gf gh : Nat) (f h : Fq) (W : World) : Prop :=
  W.cell? ⟨gf, 0, none⟩ = some (.bool f.b) ∧ W.cell? ⟨gf, 1, none⟩ = some (.slice f.a f.k f.c) ∧ W.cell? ⟨gf, 2, none⟩ = some (.bool f.b') ∧ W.cell? ⟨gf, 3, none⟩ = some (.slice f.a' f.k' f.c') ∧
  W.cell? ⟨gh, 0, none⟩ = some (.bool h.b) ∧ W.cell? ⟨gh, 1, none⟩ = some (.slice h.a h.k h.c) ∧ W.cell? ⟨gh, 2, none⟩ = some (.bool h.b') ∧ W.cell? ⟨gh, 3, none⟩ = some (.slice h.a' h.k' h.c')
theorem S8.of {gf gh : Nat} {f h : Fq} {W : World} (x : B4q W gf f) (y : B4q W gh h) : S8 gf gh f h W := ⟨x.c0, x.c1, x.c2, x.c3, y.c0, y.c1, y.c2, y.c3⟩
set_option maxRecDepth 100000 in
set_option maxHeartbeats 4000000 in
theorem fractionsOf_c (s t s' t' : ByteArray) (w : World) :
    Calls Tryd.prog 16 #[.agg #[.string s, .string t], .agg #[.string s', .string t']] w (FsPost s.data.toList t.data.toList s'.data.toList t'.data.toList w) := by
  obtain ⟨W0, hW0⟩ : ∃ W0, (((w.alloc (.cells #[.string s, .string t] 23)).alloc (.cells #[.string s', .string t'] 23)).alloc (.cells #[.bool false, .slice none 0 0, .bool false, .slice none 0 0] 39)).alloc (.cells #[.bool false, .slice none 0 0, .bool false, .slice none 0 0] 39) = W0 := ⟨_, rfl⟩
  have J0 : Hid (Fs w s t s' t' W0) := by rw [← hW0]; exact Fs.made _ _ _ _ _ _ _ _ _
  have H1 := Lib.hid (fun w => fractionOf_q s t w)
  have H2 := Lib.hid (fun w => fractionOf_q s' t' w)
  have x0 := J0.out.x.c0
  have x1 := J0.out.x.c1
  go_enter Tryd.func16, Tryd.ntmps16
  go_wp2_with fail
  clear hW0 x0 x1
  refine (H1.out _).mono ?_
  rintro e w1 ⟨f, flt, rfl, b1, hpost⟩
  have J1 := Lib.hid (J0.out.keep b1)
  have P1 := Lib.hid hpost
  clear b1 hpost J0 H1
  obtain ⟨W2, hW2⟩ : ∃ W2, w1.alloc (.cells #[.bool false, .slice none 0 0, .bool false, .slice none 0 0] 39) = W2 := ⟨_, rfl⟩
  have DW2 : B4q W2 w1.heap.size Fq.z := by rw [← hW2]; exact B4.made _ _ _ _ _ _
  have LW2 : Below w1.heap.size w1 W2 := by rw [← hW2]; exact bel_one _ _
  obtain ⟨gf, hgf⟩ : ∃ gf, w1.heap.size = gf := ⟨_, rfl⟩
  have Ggf : Hid (w.heap.size + 1 + 1 + 1 < gf) := by rw [← hgf]; exact J1.out.q.lt
  rw [hgf] at DW2
  obtain ⟨W3, hW3⟩ : ∃ W3, fourq W2 gf f = W3 := ⟨_, rfl⟩
  have J3 : Hid (Fs w s t s' t' W3) := by rw [← hW3]; exact (J1.out.keep LW2).set Ggf.out f
  have Ngf : Hid (B4q W3 gf f) := by rw [← hW3]; exact DW2.set _ _ _ _
  have F3 : Hid (flt = 0 → ∃ x y, rread s.data.toList t.data.toList = some (x, y) ∧ Fi W3 f x y) := by rw [← hW3]; exact (fun h => by obtain ⟨x, y, e1, e2⟩ := P1.out.resolve_right (fun q => q.1 h) |>.2; exact ⟨x, y, e1, (e2.below LW2).set DW2 f⟩)
  have m0gf := DW2.c0
  have m1gf := DW2.c1
  have m2gf := DW2.c2
  have m3gf := DW2.c3
  have u0gf := DW2.fr 0
  have u1gf := DW2.fr 1
  have u2gf := DW2.fr 2
  have u3gf := DW2.fr 3
  clear DW2 LW2
  unfold fourq four at hW3
  have y0' := J3.out.y.c0
  have y1' := J3.out.y.c1
  clear J1
  by_cases hz : flt = 0
  · subst hz
    have P3 := Lib.hid (F3.out rfl)
    clear F3 P1
    go_wp2_with fail
    clear y0' y1'
    clear hW2 hW3 hgf m0gf m1gf m2gf m3gf u0gf u1gf u2gf u3gf
    refine (H2.out _).mono ?_
    rintro e w4 ⟨h, flt2, rfl, b4, hpost⟩
    have J4 := Lib.hid (J3.out.keep b4)
    have P2 := Lib.hid hpost
    have N4 := Lib.hid (Ngf.out.keep b4)
    have F4 : Hid (∃ x y, rread s.data.toList t.data.toList = some (x, y) ∧ Fi w4 f x y) := by
      obtain ⟨x, y, e1, e2⟩ := P3.out
      exact ⟨x, y, e1, e2.below b4⟩
    have G4 : Hid (gf < w4.heap.size) := N4.out.lt
    clear b4 hpost J3 H2 P3 Ngf
    obtain ⟨W5, hW5⟩ : ∃ W5, w4.alloc (.cells #[.bool false, .slice none 0 0, .bool false, .slice none 0 0] 39) = W5 := ⟨_, rfl⟩
    have DW5 : B4q W5 w4.heap.size Fq.z := by rw [← hW5]; exact B4.made _ _ _ _ _ _
    have LW5 : Below w4.heap.size w4 W5 := by rw [← hW5]; exact bel_one _ _
    obtain ⟨gh, hgh⟩ : ∃ gh, w4.heap.size = gh := ⟨_, rfl⟩
    have Ggh : Hid (w.heap.size + 1 + 1 + 1 < gh) := by rw [← hgh]; exact J4.out.q.lt
    rw [hgh] at DW5
    obtain ⟨W6, hW6⟩ : ∃ W6, fourq W5 gh h = W6 := ⟨_, rfl⟩
    have J6 : Hid (Fs w s t s' t' W6) := by rw [← hW6]; exact (J4.out.keep LW5).set Ggh.out h
    have Ngh : Hid (B4q W6 gh h) := by rw [← hW6]; exact DW5.set _ _ _ _
    have H6 : Hid (flt2 = 0 → ∃ x y, rread s'.data.toList t'.data.toList = some (x, y) ∧ Fi W6 h x y) := by rw [← hW6]; exact (fun e => by obtain ⟨x, y, e1, e2⟩ := P2.out.resolve_right (fun q => q.1 e) |>.2; exact ⟨x, y, e1, (e2.below LW5).set DW5 h⟩)
    have F6 : Hid (∃ x y, rread s.data.toList t.data.toList = some (x, y) ∧ Fi W6 f x y) := by rw [← hW6]; exact (by obtain ⟨x, y, e1, e2⟩ := F4.out; exact ⟨x, y, e1, (e2.below LW5).set DW5 h⟩)
    have N6 : Hid (B4q W6 gf f) := by rw [← hW6]; exact ((N4.out.keep LW5).other (by have := G4.out; omega) _ _ _ _)
    have m0gh := DW5.c0
    have m1gh := DW5.c1
    have m2gh := DW5.c2
    have m3gh := DW5.c3
    have u0gh := DW5.fr 0
    have u1gh := DW5.fr 1
    have u2gh := DW5.fr 2
    have u3gh := DW5.fr 3
    clear DW5 LW5
    unfold fourq four at hW6
    have GNE : Hid (gf < gh) := by rw [← hgh]; exact G4.out
    by_cases hz2 : flt2 = 0
    · subst hz2
      have P5 := Lib.hid (H6.out rfl)
      clear H6 P2
      go_wp2_with fail
      clear hW5 hW6 hgh m0gh m1gh m2gh m3gh u0gh u1gh u2gh u3gh
      refine wp_region_noPanic ?_
      refine wp_region_held_drew (S := S8 gf gh f h) (by kernel_rfl) (S8.of (N6.out.keep (Below.refl _ _).drew) (Ngh.out.keep (Below.refl _ _).drew)) (fun hS => ?_)
      have J7 := Lib.hid (J6.out.keep (Below.refl _ _).drew)
      have N7 := Lib.hid (N6.out.keep (Below.refl _ _).drew)
      have K7 := Lib.hid (Ngh.out.keep (Below.refl _ _).drew)
      have PP7 : Hid (∀ W, Below W6.heap.size W6 W → (∃ x y, rread s.data.toList t.data.toList = some (x, y) ∧ Fi W f x y) ∧ (∃ x y, rread s'.data.toList t'.data.toList = some (x, y) ∧ Fi W h x y)) := by
        intro W hb
        obtain ⟨x, y, e1, e2⟩ := F6.out
        obtain ⟨x', y', e3, e4⟩ := P5.out
        exact ⟨⟨x, y, e1, e2.below hb⟩, ⟨x', y', e3, e4.below hb⟩⟩
      have PD := Lib.hid (PP7.out W6.drew (Below.refl _ _).drew)
      clear PP7 F6 P5 J6 N6 Ngh
      obtain ⟨WD, hWD⟩ : ∃ WD, W6.drew = WD := ⟨_, rfl⟩
      rw [hWD] at J7 N7 K7 PD hS ⊢
      clear hWD
      refine wpAnyH_take (i := 0) (v := ?v0z29) rfl (by kernel_rfl) (by kernel_rfl) (by kernel_rfl) (fun _ _ _ h => h) (Or.inl ⟨by rfl, ?hy0z29⟩) (by assumption) ?rest0z29
      case hy0z29 =>
        intro w hSw
        dsimp only [S8] at hSw
        go_simp
        try with_reducible rfl
      simp only [Act.put, List.getElem_toArray, List.getElem_cons_succ, List.getElem_cons_zero, List.setIfInBounds_toArray, List.set_cons_zero, List.set_cons_succ]
      refine wpAnyH_take (i := 1) (v := ?v1z30) rfl (by kernel_rfl) (by kernel_rfl) (by kernel_rfl) (fun _ _ _ h => h) (Or.inl ⟨by rfl, ?hy1z30⟩) (by assumption) ?rest1z30
      case hy1z30 =>
        intro w hSw
        dsimp only [S8] at hSw
        go_simp
        try with_reducible rfl
      simp only [Act.put, List.getElem_toArray, List.getElem_cons_succ, List.getElem_cons_zero, List.setIfInBounds_toArray, List.set_cons_zero, List.set_cons_succ]
      refine wpAnyH_ready (rs := [2]) (by kernel_rfl) (by simp) ?_
      refine AllReadyH.cons rfl (fun K hK => ?_) AllReadyH.nil
      have q0 := J7.out.r.c0
      have q1 := J7.out.r.c1
      have q2 := J7.out.r.c2
      have q3 := J7.out.r.c3
      have g0 := J7.out.r.fr 0
      have g1 := J7.out.r.fr 1
      have g2 := J7.out.r.fr 2
      have g3 := J7.out.r.fr 3
      simp only [Fq.z] at q0 q1 q2 q3
      go_simp
      clear q0 q1 q2 q3 g0 g1 g2 g3
      obtain ⟨WE, hWE⟩ : ∃ WE, fourq WD (w.heap.size + 1 + 1) f = WE := ⟨_, rfl⟩
      have gfo := Ggf.out
      have gho := Ggh.out
      have hT : S8 gf gh f h WE := by rw [← hWE]; exact S8.of (N7.out.other (by omega) _ _ _ _) (K7.out.other (by omega) _ _ _ _)
      have N8 : Hid (B4q WE gf f) := by rw [← hWE]; exact N7.out.other (by omega) _ _ _ _
      have K8 : Hid (B4q WE gh h) := by rw [← hWE]; exact K7.out.other (by omega) _ _ _ _
      have R8 : B4q WE (w.heap.size + 1 + 1) f := by rw [← hWE]; exact J7.out.r.set _ _ _ _
      have Q8 : B4q WE (w.heap.size + 1 + 1 + 1) Fq.z := by rw [← hWE]; exact J7.out.q.other (by omega) _ _ _ _
      have B8 : Hid (Below w.heap.size w WE) := by rw [← hWE]; exact below_four J7.out.bel (by omega) _ _ _ _
      have PE : Hid ((∃ x y, rread s.data.toList t.data.toList = some (x, y) ∧ Fi WE f x y) ∧ (∃ x y, rread s'.data.toList t'.data.toList = some (x, y) ∧ Fi WE h x y)) := by
        obtain ⟨⟨x, y, e1, e2⟩, ⟨x', y', e3, e4⟩⟩ := PD.out
        rw [← hWE]
        exact ⟨⟨x, y, e1, e2.set J7.out.r f⟩, ⟨x', y', e3, e4.set J7.out.r f⟩⟩
      unfold fourq four at hWE
      rw [hWE]
      refine hK.out _ _ hT (fun _ => ?_)
      clear hK K hS hWE N7 K7 J7 PD
      have hS := hT
      clear hT
      try simp only [Act.put, List.setIfInBounds_toArray, List.set_cons_zero, List.set_cons_succ]
      refine wpAnyH_ready (rs := [3]) (by kernel_rfl) (by simp) ?_
      refine AllReadyH.cons rfl (fun K hK => ?_) AllReadyH.nil
      have q0 := Q8.c0
      have q1 := Q8.c1
      have q2 := Q8.c2
      have q3 := Q8.c3
      have g0 := Q8.fr 0
      have g1 := Q8.fr 1
      have g2 := Q8.fr 2
      have g3 := Q8.fr 3
      simp only [Fq.z] at q0 q1 q2 q3
      go_simp
      clear q0 q1 q2 q3 g0 g1 g2 g3
      obtain ⟨WF, hWF⟩ : ∃ WF, fourq WE (w.heap.size + 1 + 1 + 1) h = WF := ⟨_, rfl⟩
      have hT : S8 gf gh f h WF := by rw [← hWF]; exact S8.of (N8.out.other (by omega) _ _ _ _) (K8.out.other (by omega) _ _ _ _)
      have R9 : B4q WF (w.heap.size + 1 + 1) f := by rw [← hWF]; exact R8.other (by omega) _ _ _ _
      have Q9 : B4q WF (w.heap.size + 1 + 1 + 1) h := by rw [← hWF]; exact Q8.set _ _ _ _
      have PP : Hid (FsPost s.data.toList t.data.toList s'.data.toList t'.data.toList w (.returned (.tuple #[f.v, h.v, .int .i64 0])) WF) := by
        obtain ⟨⟨x, y, e1, e2⟩, ⟨x', y', e3, e4⟩⟩ := PE.out
        rw [← hWF]
        exact ⟨_, _, _, rfl, below_four B8.out (by omega) _ _ _ _, .inl ⟨rfl, x, y, x', y', e1, e3, e2.set Q8 h, e4.set Q8 h⟩⟩
      unfold fourq four at hWF
      rw [hWF]
      refine hK.out _ _ hT (fun _ => ?_)
      clear hK K hS hWF N8 K8 R8 Q8 PE
      have hS := hT
      clear hT
      try simp only [Act.put, List.setIfInBounds_toArray, List.set_cons_zero, List.set_cons_succ]
      refine wpAnyH_take (i := 4) (v := ?v4z31) rfl (by kernel_rfl) (by kernel_rfl) (by kernel_rfl) (fun _ _ _ h => h) (Or.inl ⟨by rfl, ?hy4z31⟩) (by assumption) ?rest4z31
      case hy4z31 =>
        intro w hSw
        dsimp only [S8] at hSw
        go_simp
        try with_reducible rfl
      simp only [Act.put, List.getElem_toArray, List.getElem_cons_succ, List.getElem_cons_zero, List.setIfInBounds_toArray, List.set_cons_zero, List.set_cons_succ]
      refine wpAnyH_done (by kernel_rfl) ?_ _
      refine NoPanic.normal ?_
      obtain ⟨r0, r1, r2, r3, _, _⟩ := id R9
      obtain ⟨p0, p1, p2, p3, _, _⟩ := id Q9
      clear hS R9 Q9
      go_wp2_with fail
      exact bodyPost_ret (v := .tuple #[.agg #[.bool f.b, .slice f.a f.k f.c, .bool f.b', .slice f.a' f.k' f.c'], .agg #[.bool h.b, .slice h.a h.k h.c, .bool h.b', .slice h.a' h.k' h.c'], .int .i64 0]) (by simp [results, Tryd.results16, go_sem, r0, r1, r2, r3, p0, p1, p2, p3]) rfl PP.out
    · have PF : Hid (flt2 ≠ 0 ∧ ((rread s.data.toList t.data.toList = none ∧ flt2 = rflt s.data.toList t.data.toList) ∨ (∃ p, rread s.data.toList t.data.toList = some p) ∧ rread s'.data.toList t'.data.toList = none ∧ flt2 = rflt s'.data.toList t'.data.toList)) := by
        obtain ⟨x, y, e1, _⟩ := F6.out
        exact ⟨hz2, .inr ⟨⟨_, e1⟩, (P2.out.resolve_left (fun q => hz2 q.1)).2⟩⟩
      have hne : (flt2 == 0) = false := by rw [beq_eq_false_iff_ne]; exact hz2
      have hne2 : (flt2 != 0) = true := by simp [hz2]
      clear hz2 P2 F6 H6 N6
      have hY : B4q (fourq W6 (w.heap.size + 1 + 1) Fq.z) (w.heap.size + 1 + 1 + 1) Fq.z := J6.out.q.other (by omega) _ _ _ _
      obtain ⟨W9, hW9⟩ : ∃ W9, fourq (fourq W6 (w.heap.size + 1 + 1) Fq.z) (w.heap.size + 1 + 1 + 1) Fq.z = W9 := ⟨_, rfl⟩
      have R9 : B4q W9 (w.heap.size + 1 + 1) Fq.z := by rw [← hW9]; exact (J6.out.r.set _ _ _ _).other (by omega) _ _ _ _
      have Q9 : B4q W9 (w.heap.size + 1 + 1 + 1) Fq.z := by rw [← hW9]; exact hY.set _ _ _ _
      have PP : Hid (FsPost s.data.toList t.data.toList s'.data.toList t'.data.toList w (.returned (.tuple #[Fq.z.v, Fq.z.v, .int .i64 flt2])) W9) := by
        rw [← hW9]
        exact ⟨_, _, _, rfl, below_four (below_four J6.out.bel (by omega) _ _ _ _) (by omega) _ _ _ _, .inr PF.out⟩
      have q0 := J6.out.r.c0
      have q1 := J6.out.r.c1
      have q2 := J6.out.r.c2
      have q3 := J6.out.r.c3
      have g0 := J6.out.r.fr 0
      have g1 := J6.out.r.fr 1
      have g2 := J6.out.r.fr 2
      have g3 := J6.out.r.fr 3
      have z0 := J6.out.q.c0
      have z1 := J6.out.q.c1
      have z2 := J6.out.q.c2
      have z3 := J6.out.q.c3
      have y0 := J6.out.q.fr 0
      have y1 := J6.out.q.fr 1
      have y2 := J6.out.q.fr 2
      have y3 := J6.out.q.fr 3
      obtain ⟨r0, r1, r2, r3, _, _⟩ := id R9
      obtain ⟨p0, p1, p2, p3, _, _⟩ := id Q9
      unfold fourq four at hW9
      clear R9 Q9 hY
      simp only [Fq.z] at *
      go_wp2_with fail
      exact bodyPost_ret (v := .tuple #[.agg #[.bool false, .slice none 0 0, .bool false, .slice none 0 0], .agg #[.bool false, .slice none 0 0, .bool false, .slice none 0 0], .int .i64 flt2]) (by simp [results, Tryd.results16, go_sem, r0, r1, r2, r3, p0, p1, p2, p3]) rfl PP.out
  · have PF : Hid (flt ≠ 0 ∧ ((rread s.data.toList t.data.toList = none ∧ flt = rflt s.data.toList t.data.toList) ∨ (∃ p, rread s.data.toList t.data.toList = some p) ∧ rread s'.data.toList t'.data.toList = none ∧ flt = rflt s'.data.toList t'.data.toList)) :=
      ⟨hz, .inl (P1.out.resolve_left (fun q => hz q.1)).2⟩
    have hne : (flt == 0) = false := by rw [beq_eq_false_iff_ne]; exact hz
    have hne2 : (flt != 0) = true := by simp [hz]
    clear hz P1 F3 H2 y0' y1'
    have hY : B4q (fourq W3 (w.heap.size + 1 + 1) Fq.z) (w.heap.size + 1 + 1 + 1) Fq.z := J3.out.q.other (by omega) _ _ _ _
    obtain ⟨W9, hW9⟩ : ∃ W9, fourq (fourq W3 (w.heap.size + 1 + 1) Fq.z) (w.heap.size + 1 + 1 + 1) Fq.z = W9 := ⟨_, rfl⟩
    have R9 : B4q W9 (w.heap.size + 1 + 1) Fq.z := by rw [← hW9]; exact (J3.out.r.set _ _ _ _).other (by omega) _ _ _ _
    have Q9 : B4q W9 (w.heap.size + 1 + 1 + 1) Fq.z := by rw [← hW9]; exact hY.set _ _ _ _
    have PP : Hid (FsPost s.data.toList t.data.toList s'.data.toList t'.data.toList w (.returned (.tuple #[Fq.z.v, Fq.z.v, .int .i64 flt])) W9) := by
      rw [← hW9]
      exact ⟨_, _, _, rfl, below_four (below_four J3.out.bel (by omega) _ _ _ _) (by omega) _ _ _ _, .inr PF.out⟩
    have q0 := J3.out.r.c0
    have q1 := J3.out.r.c1
    have q2 := J3.out.r.c2
    have q3 := J3.out.r.c3
    have g0 := J3.out.r.fr 0
    have g1 := J3.out.r.fr 1
    have g2 := J3.out.r.fr 2
    have g3 := J3.out.r.fr 3
    have z0 := J3.out.q.c0
    have z1 := J3.out.q.c1
    have z2 := J3.out.q.c2
    have z3 := J3.out.q.c3
    have y0 := J3.out.q.fr 0
    have y1 := J3.out.q.fr 1
    have y2 := J3.out.q.fr 2
    have y3 := J3.out.q.fr 3
    obtain ⟨r0, r1, r2, r3, _, _⟩ := id R9
    obtain ⟨p0, p1, p2, p3, _, _⟩ := id Q9
    unfold fourq four at hW9
    clear R9 Q9 hY
    simp only [Fq.z] at *
    go_wp2_with fail
    exact bodyPost_ret (v := .tuple #[.agg #[.bool false, .slice none 0 0, .bool false, .slice none 0 0], .agg #[.bool false, .slice none 0 0, .bool false, .slice none 0 0], .int .i64 flt]) (by simp [results, Tryd.results16, go_sem, r0, r1, r2, r3, p0, p1, p2, p3]) rfl PP.out
end Go.Proofs.YtfijhkaalpinhaaDoor
namespace Go.Proofs.YtfijhkaalpinhaaDoor
open Go.RowKit

set_option maxRecDepth 100000 in
set_option maxHeartbeats 4000000 in
theorem part_c (b1 b2 : Bool) (a1 a2 : Option Addr) (k1 k2 c1 c2 : Nat) (z1 z2 : Int) (w : World) (h1 : Zn w b1 a1 k1 c1 z1) (h2 : Zn w b2 a2 k2 c2 z2) (hz : z2 ≠ 0) (n1 : z1.natAbs < bp 4000) :
    Calls Tryd.prog 29 #[.agg #[.bool b1, .slice a1 k1 c1], .agg #[.bool b2, .slice a2 k2 c2]] w (ZPost (z1.tdiv z2) w) := by
  obtain ⟨W0, hW0⟩ : ∃ W0, ((w.alloc (.cells #[.bool b1, .slice a1 k1 c1] 37)).alloc (.cells #[.bool b2, .slice a2 k2 c2] 37)).alloc (.cells #[.bool false, .slice none 0 0] 37) = W0 := ⟨_, rfl⟩
  have J0 : Hid (I3 w b1 a1 k1 c1 b2 a2 k2 c2 W0) := by rw [← hW0]; exact I3.made _ _ _ _ _ _ _ _ _ _ _ _
  have M1 := Lib.hid (fun W (h : I3 w b1 a1 k1 c1 b2 a2 k2 c2 W) => h1.below h.bel)
  have M2 := Lib.hid (fun W (h : I3 w b1 a1 k1 c1 b2 a2 k2 c2 W) => h2.below h.bel)
  have N1 := Lib.hid n1
  have HZ0 := Lib.hid hz
  clear h1 h2 n1 hz
  go_enter Tryd.func29, Tryd.ntmps29
  go_wp2_with fail
  clear hW0
  refine wp_region_noPanic ?_
  refine wp_region_held_drew (S := SI w.heap.size b1 a1 k1 c1 b2 a2 k2 c2) (by kernel_rfl) (J0.out.keep (Below.refl _ _).drew).si (fun hS => ?_)
  have J1 := Lib.hid (J0.out.keep (Below.refl _ _).drew)
  refine wpAnyH_take (i := 0) (v := ?v0z29) rfl (by kernel_rfl) (by kernel_rfl) (by kernel_rfl) (fun _ _ _ h => h) (Or.inl ⟨by rfl, ?hy0z29⟩) (by assumption) ?rest0z29
  case hy0z29 =>
    intro w hSw
    dsimp only [SI] at hSw
    go_simp
    try with_reducible rfl
  simp only [Act.put, List.getElem_toArray, List.getElem_cons_succ, List.getElem_cons_zero, List.setIfInBounds_toArray, List.set_cons_zero, List.set_cons_succ]
  refine wpAnyH_ready (rs := [1]) (by kernel_rfl) (by simp) ?_
  refine AllReadyH.cons rfl (fun K hK => ?_) AllReadyH.nil
  go_simp
  refine (Of_c 1 _ (by decide) (by decide)).mono ?_
  rintro e W3 ⟨ob, oa, ok, oc, rfl, hn, bc⟩
  try go_simp
  have J3 := Lib.hid (J1.out.keep bc)
  have hT := J3.out.si
  have HO := Lib.hid hn
  refine hK.out _ _ hT (fun _ => ?_)
  clear hK K hS bc J1 hn
  have hS := hT
  clear hT
  try simp only [Act.put, List.setIfInBounds_toArray, List.set_cons_zero, List.set_cons_succ]
  refine wpAnyH_ready (rs := [2]) (by kernel_rfl) (by simp) ?_
  refine AllReadyH.cons rfl (fun K hK => ?_) AllReadyH.nil
  go_simp
  refine (Equal_c b2 ob a2 oa k2 ok c2 oc z2 1 _ (M2.out _ J3.out) HO.out).mono ?_
  rintro e W4 ⟨rfl, bc⟩
  try go_simp
  have J4 := Lib.hid (J3.out.keep bc)
  have hT := J4.out.si
  refine hK.out _ _ hT (fun _ => ?_)
  clear hK K hS bc J3 HO
  have hS := hT
  clear hT
  try simp only [Act.put, List.setIfInBounds_toArray, List.set_cons_zero, List.set_cons_succ]
  refine wpAnyH_done (by kernel_rfl) ?_ _
  refine NoPanic.normal ?_
  clear hS
  have x0 := J4.out.x.c0
  have x1 := J4.out.x.c1
  have y0 := J4.out.y.c0
  have y1 := J4.out.y.c1
  by_cases h1 : z2 = 1
  · have hd : decide (z2 = 1) = true := decide_eq_true h1
    have HZ : Hid (Zn W4 b1 a1 k1 c1 (z1.tdiv z2)) := by
      rw [h1]
      have := M1.out _ J4.out
      rw [Int.tdiv_one]; exact this
    rw [hd]
    clear h1 hd
    obtain ⟨W9, hW9⟩ : ∃ W9, two W4 (w.heap.size + 1 + 1) (.bool b1) (.slice a1 k1 c1) = W9 := ⟨_, rfl⟩
    have R9 : B2 W9 (w.heap.size + 1 + 1) (.bool b1) (.slice a1 k1 c1) := by rw [← hW9]; exact J4.out.r.set _ _
    have PP : Hid (ZPost (z1.tdiv z2) w (.returned (.agg #[.bool b1, .slice a1 k1 c1])) W9) := by
      rw [← hW9]
      exact ⟨_, _, _, _, rfl, HZ.out.set2 J4.out.r _ _, below_two J4.out.bel (by omega) _ _⟩
    have q0 := J4.out.r.c0
    have q1 := J4.out.r.c1
    have g0 := J4.out.r.fr 0
    have g1 := J4.out.r.fr 1
    obtain ⟨r0, r1, _, _⟩ := id R9
    unfold two at hW9
    clear R9
    go_wp2_with fail
    exact bodyPost_ret (v := .agg #[.bool b1, .slice a1 k1 c1]) (by simp [results, Tryd.results29, go_sem, r0, r1]) rfl PP.out
  · have hd : decide (z2 = 1) = false := decide_eq_false h1
    rw [hd]
    clear h1 hd
    have HD := Lib.hid (Divide_c b1 b2 a1 a2 k1 k2 c1 c2 z1 z2 W4 (M1.out _ J4.out) (M2.out _ J4.out) HZ0.out N1.out)
    go_wp2_with fail
    clear x0 x1 y0 y1
    refine HD.out.mono ?_
    rintro e w6 ⟨qb, qa, qk, qc, rb, ra, rk, rc, rfl, hq, _, b6⟩
    have J6 := Lib.hid (J4.out.keep b6)
    have Q6 := Lib.hid hq
    clear hq b6 J4 HD
    obtain ⟨WA, hWA⟩ : ∃ W, w6.alloc (.cells #[.bool false, .slice none 0 0] 37) = W := ⟨_, rfl⟩
    have A1 : B2 WA w6.heap.size (.bool false) (.slice none 0 0) := by rw [← hWA]; exact B2.made _ _ _ _
    have bA : Below w6.heap.size w6 WA := by rw [← hWA]; exact bel_one _ _
    have sA : WA.heap.size = w6.heap.size + 1 := by rw [← hWA]; simp
    obtain ⟨WB, hWB⟩ : ∃ W, WA.alloc (.cells #[.bool false, .slice none 0 0] 37) = W := ⟨_, rfl⟩
    have B1 : B2 WB WA.heap.size (.bool false) (.slice none 0 0) := by rw [← hWB]; exact B2.made _ _ _ _
    have bB : Below WA.heap.size WA WB := by rw [← hWB]; exact bel_one _ _
    have A2 := A1.keep bB
    have BB : Below w6.heap.size w6 WB := bA.trans (bB.mono bA.size)
    obtain ⟨WC, hWC⟩ : ∃ W, two WB w6.heap.size (.bool qb) (.slice qa qk qc) = W := ⟨_, rfl⟩
    have A3 : B2 WC w6.heap.size (.bool qb) (.slice qa qk qc) := by rw [← hWC]; exact A2.set _ _
    have B3_ : B2 WC WA.heap.size (.bool false) (.slice none 0 0) := by rw [← hWC]; exact B1.other (by omega) _ _
    have BC : Below w6.heap.size w6 WC := by rw [← hWC]; exact below_two BB (Nat.le_refl _) _ _
    obtain ⟨WD, hWD⟩ : ∃ W, two WC WA.heap.size (.bool rb) (.slice ra rk rc) = W := ⟨_, rfl⟩
    have A4 : B2 WD w6.heap.size (.bool qb) (.slice qa qk qc) := by rw [← hWD]; exact A3.other (by omega) _ _
    have BD : Below w6.heap.size w6 WD := by rw [← hWD]; exact below_two BC (by omega) _ _
    have J7 := Lib.hid (J6.out.keep BD)
    have HZ := Lib.hid (Q6.out.below BD)
    have a20 := A2.c0
    have a21 := A2.c1
    have a2f0 := A2.fr 0
    have a2f1 := A2.fr 1
    have b30 := B3_.c0
    have b31 := B3_.c1
    have b3f0 := B3_.fr 0
    have b3f1 := B3_.fr 1
    have a40 := A4.c0
    have a41 := A4.c1
    unfold two at hWC hWD
    have HS := Lib.hid sA
    clear A1 bA B1 bB A2 BB A3 B3_ BC A4 BD J6 Q6 sA
    obtain ⟨W9, hW9⟩ : ∃ W9, two WD (w.heap.size + 1 + 1) (.bool qb) (.slice qa qk qc) = W9 := ⟨_, rfl⟩
    have R9 : B2 W9 (w.heap.size + 1 + 1) (.bool qb) (.slice qa qk qc) := by rw [← hW9]; exact J7.out.r.set _ _
    have PP : Hid (ZPost (z1.tdiv z2) w (.returned (.agg #[.bool qb, .slice qa qk qc])) W9) := by
      rw [← hW9]
      exact ⟨_, _, _, _, rfl, HZ.out.set2 J7.out.r _ _, below_two J7.out.bel (by omega) _ _⟩
    have q0 := J7.out.r.c0
    have q1 := J7.out.r.c1
    have g0 := J7.out.r.fr 0
    have g1 := J7.out.r.fr 1
    obtain ⟨r0, r1, _, _⟩ := id R9
    unfold two at hW9
    clear R9
    go_wp2_with fail
    exact bodyPost_ret (v := .agg #[.bool qb, .slice qa qk qc]) (by simp [results, Tryd.results29, go_sem, r0, r1]) rfl PP.out
end Go.Proofs.YtfijhkaalpinhaaDoor
namespace Go.Proofs.YtfijhkaalpinhaaDoor
open Go.RowKit

/-- What the end of Over reads. -/
def SO (g gd : Nat) (b1 : Bool) (a1 : Option Addr) (k1 c1 : Nat) (b2 : Bool) (a2 : Option Addr) (k2 c2 : Nat) (b3 : Bool) (a3 : Option Addr) (k3 c3 : Nat) (W : World) : Prop :=
  W.cell? ⟨g, 0, none⟩ = some (.bool b1) ∧ W.cell? ⟨g, 1, none⟩ = some (.slice a1 k1 c1) ∧ W.cell? ⟨g + 1, 0, none⟩ = some (.bool b2) ∧ W.cell? ⟨g + 1, 1, none⟩ = some (.slice a2 k2 c2) ∧ W.cell? ⟨gd, 0, none⟩ = some (.bool b3) ∧ W.cell? ⟨gd, 1, none⟩ = some (.slice a3 k3 c3)
theorem Ov.so {w : World} {gd : Nat} {b1 : Bool} {a1 : Option Addr} {k1 c1 : Nat} {b2 : Bool} {a2 : Option Addr} {k2 c2 : Nat} {b3 : Bool} {a3 : Option Addr} {k3 c3 : Nat} {W : World} (h : Ov w gd b1 a1 k1 c1 b2 a2 k2 c2 b3 a3 k3 c3 W) : SO w.heap.size gd b1 a1 k1 c1 b2 a2 k2 c2 b3 a3 k3 c3 W := ⟨h.x.c0, h.x.c1, h.y.c0, h.y.c1, h.d.c0, h.d.c1⟩
theorem Ov.done {w : World} {gd : Nat} {b1 : Bool} {a1 : Option Addr} {k1 c1 : Nat} {b2 : Bool} {a2 : Option Addr} {k2 c2 : Nat} {b3 : Bool} {a3 : Option Addr} {k3 c3 : Nat} {W : World} (h : Ov w gd b1 a1 k1 c1 b2 a2 k2 c2 b3 a3 k3 c3 W) (y0 y1 y2 y3 : Value) : SO w.heap.size gd b1 a1 k1 c1 b2 a2 k2 c2 b3 a3 k3 c3 (four W (w.heap.size + 1 + 1) y0 y1 y2 y3) := by
  have hd := h.hd
  exact ⟨(four_cell (by omega) _ _ _ _ 0).trans h.x.c0, (four_cell (by omega) _ _ _ _ 1).trans h.x.c1, (four_cell (by omega) _ _ _ _ 0).trans h.y.c0, (four_cell (by omega) _ _ _ _ 1).trans h.y.c1, (four_cell (by omega) _ _ _ _ 0).trans h.d.c0, (four_cell (by omega) _ _ _ _ 1).trans h.d.c1⟩
end Go.Proofs.YtfijhkaalpinhaaDoor
namespace Go.Proofs.YtfijhkaalpinhaaDoor

theorem cop_two {a b c d : Nat} (h1 : Nat.Coprime a c) (h2 : Nat.Coprime a d) (h3 : Nat.Coprime b c) (h4 : Nat.Coprime b d) : Nat.Coprime (a * b) (c * d) :=
  Nat.Coprime.mul_left (Nat.Coprime.mul_right h1 h2) (Nat.Coprime.mul_right h3 h4)
theorem cop_parts {a b g : Nat} (hg : 0 < g) (h : Nat.gcd (g * a) (g * b) = g) : Nat.Coprime a b := by
  rw [Nat.gcd_mul_left] at h
  have : g * Nat.gcd a b = g * 1 := by rw [h, Nat.mul_one]
  exact Nat.eq_of_mul_eq_mul_left hg this
/-- Products: the divisors of the one's numerator and the other's denominator are all. -/
theorem cross_gcd {z1 y1 z2 y2 : Int} (p1 : 0 < y1) (p2 : 0 < y2) (h1 : Int.gcd z1 y1 = 1) (h2 : Int.gcd z2 y2 = 1) :
    ((Int.gcd z1 y2 : Nat) : Int) ≠ 0 ∧ ((Int.gcd z2 y1 : Nat) : Int) ≠ 0 ∧
    z1.tdiv (Int.gcd z1 y2 : Nat) * z2.tdiv (Int.gcd z2 y1 : Nat) = (z1 * z2).tdiv (ovG (z1 * z2) (y1 * y2)) ∧
    y1.tdiv (Int.gcd z2 y1 : Nat) * y2.tdiv (Int.gcd z1 y2 : Nat) = (y1 * y2).tdiv (ovG (z1 * z2) (y1 * y2)) := by
  have f0 : 0 < Int.gcd z1 y2 := Int.gcd_pos_of_ne_zero_right z1 (by omega)
  have s0 : 0 < Int.gcd z2 y1 := Int.gcd_pos_of_ne_zero_right z2 (by omega)
  obtain ⟨f, hf⟩ : ∃ f, Int.gcd z1 y2 = f := ⟨_, rfl⟩
  obtain ⟨s, hs⟩ : ∃ s, Int.gcd z2 y1 = s := ⟨_, rfl⟩
  obtain ⟨u, hu⟩ : (f : Int) ∣ z1 := by rw [← hf]; exact Int.gcd_dvd_left ..
  obtain ⟨v, hv⟩ : (f : Int) ∣ y2 := by rw [← hf]; exact Int.gcd_dvd_right ..
  obtain ⟨p, hp⟩ : (s : Int) ∣ z2 := by rw [← hs]; exact Int.gcd_dvd_left ..
  obtain ⟨q, hq⟩ : (s : Int) ∣ y1 := by rw [← hs]; exact Int.gcd_dvd_right ..
  rw [hf] at f0
  rw [hs] at s0
  have cuv : Nat.Coprime u.natAbs v.natAbs := cop_parts f0 (by
    have := hf
    unfold Int.gcd at this
    rw [hu, hv, Int.natAbs_mul, Int.natAbs_mul, Int.natAbs_natCast] at this
    exact this)
  have cpq : Nat.Coprime p.natAbs q.natAbs := cop_parts s0 (by
    have := hs
    unfold Int.gcd at this
    rw [hp, hq, Int.natAbs_mul, Int.natAbs_mul, Int.natAbs_natCast] at this
    exact this)
  have cuq : Nat.Coprime u.natAbs q.natAbs := by
    have h : Nat.Coprime z1.natAbs y1.natAbs := h1
    rw [hu, hq, Int.natAbs_mul, Int.natAbs_mul] at h
    exact Nat.Coprime.coprime_dvd_right (Nat.dvd_mul_left _ _) (Nat.Coprime.coprime_dvd_left (Nat.dvd_mul_left _ _) h)
  have cpv : Nat.Coprime p.natAbs v.natAbs := by
    have h : Nat.Coprime z2.natAbs y2.natAbs := h2
    rw [hp, hv, Int.natAbs_mul, Int.natAbs_mul] at h
    exact Nat.Coprime.coprime_dvd_right (Nat.dvd_mul_left _ _) (Nat.Coprime.coprime_dvd_left (Nat.dvd_mul_left _ _) h)
  have eN : z1 * z2 = ((f * s : Nat) : Int) * (u * p) := by rw [hu, hp, Int.natCast_mul]; simp only [Int.mul_assoc, Int.mul_comm, Int.mul_left_comm]
  have eD : y1 * y2 = ((f * s : Nat) : Int) * (q * v) := by rw [hq, hv, Int.natCast_mul]; simp only [Int.mul_assoc, Int.mul_comm, Int.mul_left_comm]
  have eG : ovG (z1 * z2) (y1 * y2) = ((f * s : Nat) : Int) := by
    have hD : ¬ y1 * y2 < 0 := by have := Int.mul_pos p1 p2; omega
    unfold ovG
    rw [if_neg hD]
    unfold Int.gcd
    rw [eN, eD]
    simp only [Int.natAbs_mul, Int.natAbs_natCast, Nat.gcd_mul_left]
    have : Nat.gcd (u.natAbs * p.natAbs) (q.natAbs * v.natAbs) = 1 := cop_two cuq cuv cpq cpv
    rw [this, Nat.mul_one]
  have fz : (f : Int) ≠ 0 := by omega
  have sz : (s : Int) ≠ 0 := by omega
  have fsz : ((f * s : Nat) : Int) ≠ 0 := by rw [Int.natCast_mul]; exact Int.mul_ne_zero fz sz
  rw [hf, hs, eG, eN, eD, Int.mul_tdiv_cancel_left _ fsz, Int.mul_tdiv_cancel_left _ fsz]
  refine ⟨fz, sz, ?_, ?_⟩
  · rw [hu, hp, Int.mul_tdiv_cancel_left _ fz, Int.mul_tdiv_cancel_left _ sz]
  · rw [hq, hv, Int.mul_tdiv_cancel_left _ sz, Int.mul_tdiv_cancel_left _ fz]
theorem cop_sum {a b t r : Int} (h1 : Int.gcd a r = 1) (h2 : Nat.Coprime r.natAbs t.natAbs) : Nat.Coprime (a * t + b * r).natAbs r.natAbs := by
  obtain ⟨g, hg⟩ : ∃ g, Nat.gcd (a * t + b * r).natAbs r.natAbs = g := ⟨_, rfl⟩
  have d1 : g ∣ (a * t + b * r).natAbs := by rw [← hg]; exact Nat.gcd_dvd_left _ _
  have d2 : g ∣ r.natAbs := by rw [← hg]; exact Nat.gcd_dvd_right _ _
  have e1 : (g : Int) ∣ a * t + b * r := Int.ofNat_dvd_left.2 d1
  have e2 : (g : Int) ∣ r := Int.ofNat_dvd_left.2 d2
  have e3 : (g : Int) ∣ a * t := by
    have := Int.dvd_sub e1 (Int.dvd_trans e2 (Int.dvd_mul_left b r))
    rwa [Int.add_sub_cancel] at this
  have d3 : g ∣ a.natAbs * t.natAbs := by rw [← Int.natAbs_mul]; exact Int.ofNat_dvd_left.1 e3
  have c1 : Nat.Coprime g t.natAbs := Nat.Coprime.coprime_dvd_left d2 h2
  have d4 : g ∣ a.natAbs := Nat.Coprime.dvd_of_dvd_mul_right c1 d3
  have c2 : Nat.Coprime a.natAbs r.natAbs := h1
  have : g ∣ 1 := by rw [← c2]; exact Nat.dvd_gcd d4 d2
  show Nat.gcd _ _ = 1
  rw [hg]
  exact Nat.dvd_one.1 this
/-- Sums: what divides both divides the divisor of the denominators. -/
theorem plus_gcd {z1 y1 z2 y2 : Int} (p1 : 0 < y1) (p2 : 0 < y2) (h1 : Int.gcd z1 y1 = 1) (h2 : Int.gcd z2 y2 = 1) {d e : Nat} {r t num : Int} (hd : Int.gcd y1 y2 = d)
    (hr : y1.tdiv d = r) (ht : y2.tdiv d = t) (hn : z1 * t + z2 * r = num) (he : Int.gcd num d = e) :
    (d : Int) ≠ 0 ∧ (e : Int) ≠ 0 ∧ num.tdiv e = (z1 * y2 + z2 * y1).tdiv (ovG (z1 * y2 + z2 * y1) (y1 * y2)) ∧ r * y2.tdiv e = (y1 * y2).tdiv (ovG (z1 * y2 + z2 * y1) (y1 * y2)) := by
  have d0 : 0 < d := by rw [← hd]; exact Int.gcd_pos_of_ne_zero_right y1 (by omega)
  have dz : (d : Int) ≠ 0 := by omega
  have e0 : 0 < e := by rw [← he]; exact Int.gcd_pos_of_ne_zero_right num dz
  have ez : (e : Int) ≠ 0 := by omega
  have f1 : y1 = (d : Int) * r := by
    obtain ⟨q, hq⟩ : (d : Int) ∣ y1 := by rw [← hd]; exact Int.gcd_dvd_left ..
    rw [← hr, hq, Int.mul_tdiv_cancel_left _ dz]
  have f2 : y2 = (d : Int) * t := by
    obtain ⟨q, hq⟩ : (d : Int) ∣ y2 := by rw [← hd]; exact Int.gcd_dvd_right ..
    rw [← ht, hq, Int.mul_tdiv_cancel_left _ dz]
  have crt : Nat.Coprime r.natAbs t.natAbs := cop_parts d0 (by
    have := hd
    unfold Int.gcd at this
    rw [f1, f2, Int.natAbs_mul, Int.natAbs_mul, Int.natAbs_natCast] at this
    exact this)
  have g1 : Int.gcd z1 r = 1 := by
    have h : Nat.Coprime z1.natAbs y1.natAbs := h1
    rw [f1, Int.natAbs_mul] at h
    exact Nat.Coprime.coprime_dvd_right (Nat.dvd_mul_left _ _) h
  have g2 : Int.gcd z2 t = 1 := by
    have h : Nat.Coprime z2.natAbs y2.natAbs := h2
    rw [f2, Int.natAbs_mul] at h
    exact Nat.Coprime.coprime_dvd_right (Nat.dvd_mul_left _ _) h
  have cr : Nat.Coprime num.natAbs r.natAbs := by rw [← hn]; exact cop_sum g1 crt
  have ct : Nat.Coprime num.natAbs t.natAbs := by rw [← hn, Int.add_comm]; exact cop_sum g2 crt.symm
  have eN : z1 * y2 + z2 * y1 = (d : Int) * num := by
    rw [← hn, f1, f2, Int.mul_add, Int.mul_left_comm, Int.mul_left_comm (z2)]
  have eD : y1 * y2 = (d : Int) * (r * y2) := by rw [f1, Int.mul_assoc]
  have gg : Nat.gcd num.natAbs (r * y2).natAbs = e := by
    have e1 : (r * y2).natAbs = r.natAbs * (t.natAbs * d) := by rw [f2, Int.natAbs_mul, Int.natAbs_mul, Int.natAbs_natCast, Nat.mul_comm d]
    rw [e1, Nat.Coprime.gcd_mul_left_cancel_right _ cr.symm, Nat.Coprime.gcd_mul_left_cancel_right _ ct.symm]
    have := he
    unfold Int.gcd at this
    rwa [Int.natAbs_natCast] at this
  have eG : ovG (z1 * y2 + z2 * y1) (y1 * y2) = ((d * e : Nat) : Int) := by
    have hD : ¬ y1 * y2 < 0 := by have := Int.mul_pos p1 p2; omega
    unfold ovG
    rw [if_neg hD]
    unfold Int.gcd
    rw [eN, eD, Int.natAbs_mul, Int.natAbs_mul (d : Int), Int.natAbs_natCast, Nat.gcd_mul_left, gg]
  obtain ⟨m, hm⟩ : (e : Int) ∣ num := by rw [← he]; exact Int.gcd_dvd_left ..
  obtain ⟨k, hk⟩ : (e : Int) ∣ (d : Int) := by rw [← he]; exact Int.gcd_dvd_right ..
  have dez : ((d * e : Nat) : Int) ≠ 0 := by rw [Int.natCast_mul]; exact Int.mul_ne_zero dz ez
  refine ⟨dz, ez, ?_, ?_⟩
  · rw [eG, eN]
    have : (d : Int) * num = ((d * e : Nat) : Int) * m := by rw [hm, Int.natCast_mul, Int.mul_assoc]
    rw [this, Int.mul_tdiv_cancel_left _ dez, hm, Int.mul_tdiv_cancel_left _ ez]
  · have y2e : y2 = (e : Int) * (k * t) := by rw [f2, hk, Int.mul_assoc]
    have : y1 * y2 = ((d * e : Nat) : Int) * (r * (k * t)) := by
      rw [eD, Int.natCast_mul, y2e]
      simp only [Int.mul_assoc, Int.mul_left_comm]
    rw [eG, this, Int.mul_tdiv_cancel_left _ dez]
    congr 1
    conv => lhs; rw [y2e]
    rw [Int.mul_tdiv_cancel_left _ ez]
end Go.Proofs.YtfijhkaalpinhaaDoor
