/-
  Ratios of package value: two fractions.
-/
import Derived.Test.YtaibpppobblnoaaDoorWhVal2
namespace Go.Proofs.YtaibpppobblnoaaDoor
open Go.RowKit

/-- A fraction's four cells. -/
structure Fq where
  b : Bool
  a : Option Addr
  k : Nat
  c : Nat
  b' : Bool
  a' : Option Addr
  k' : Nat
  c' : Nat
def Fq.z : Fq := ⟨false, none, 0, 0, false, none, 0, 0⟩
abbrev Fq.v (f : Fq) : Value := .agg #[.bool f.b, .slice f.a f.k f.c, .bool f.b', .slice f.a' f.k' f.c']
/-- A fraction in lowest terms, in memory. -/
structure Fi (W : World) (f : Fq) (x y : Int) : Prop where
  n : Zn W f.b f.a f.k f.c x
  d : Zn W f.b' f.a' f.k' f.c' y
  nb : x.natAbs < bp 125
  db : y.natAbs < bp 125
  pos : 0 < y
  one : Int.gcd x y = 1
theorem Fi.below {W W' : World} {f : Fq} {x y : Int} (h : Fi W f x y) (hb : Below W.heap.size W W') : Fi W' f x y := ⟨h.n.below hb, h.d.below hb, h.nb, h.db, h.pos, h.one⟩
abbrev B4q (W : World) (g : Nat) (f : Fq) : Prop := B4 W g (.bool f.b) (.slice f.a f.k f.c) (.bool f.b') (.slice f.a' f.k' f.c')
abbrev fourq (W : World) (g : Nat) (f : Fq) : World := four W g (.bool f.b) (.slice f.a f.k f.c) (.bool f.b') (.slice f.a' f.k' f.c')
theorem Fi.set {W : World} {f : Fq} {x y : Int} (h : Fi W f x y) {g : Nat} {f0 : Fq} (hb : B4q W g f0) (f1 : Fq) : Fi (fourq W g f1) f x y :=
  ⟨h.n.set4 hb (NL.b _) (NL.s _ _ _) (NL.b _) (NL.s _ _ _) _ _ _ _, h.d.set4 hb (NL.b _) (NL.s _ _ _) (NL.b _) (NL.s _ _ _) _ _ _ _, h.nb, h.db, h.pos, h.one⟩
/-- fractionOf's answer. -/
def FqPost (n d : List UInt8) (w : World) (e : Ending) (w' : World) : Prop :=
  ∃ (f : Fq) (flt : Int), e = .returned (.tuple #[f.v, .int .i64 flt]) ∧ Below w.heap.size w w' ∧
    ((flt = 0 ∧ ∃ x y, rread n d = some (x, y) ∧ Fi w' f x y) ∨ (flt ≠ 0 ∧ rread n d = none ∧ flt = rflt n d))
theorem rflt_ne (n d : List UInt8) : rflt n d ≠ 0 := by unfold rflt; split <;> decide
theorem fractionOf_q (s t : ByteArray) (w : World) : Calls Tryd.prog 12 #[.agg #[.string s, .string t]] w (FqPost s.data.toList t.data.toList w) :=
  (fractionOf_c s t w).mono fun e w' h => by
    rcases h with ⟨x, y, b, a, k, c, b', a', k', c', h1, h2, h3, h4, h5, h6, h7, h8, h9⟩ | ⟨h1, h2, h3⟩
    · exact ⟨⟨b, a, k, c, b', a', k', c'⟩, 0, h2, h9, .inl ⟨rfl, x, y, h1, h3, h4, h5, h6, h7, h8⟩⟩
    · exact ⟨Fq.z, rflt _ _, h2, h3, .inr ⟨rflt_ne _ _, h1, rfl⟩⟩
def FsPost (n d n' d' : List UInt8) (w : World) (e : Ending) (w' : World) : Prop :=
  ∃ (f h : Fq) (flt : Int), e = .returned (.tuple #[f.v, h.v, .int .i64 flt]) ∧ Below w.heap.size w w' ∧
    ((flt = 0 ∧ ∃ x y x' y', rread n d = some (x, y) ∧ rread n' d' = some (x', y') ∧ Fi w' f x y ∧ Fi w' h x' y') ∨
     (flt ≠ 0 ∧ ((rread n d = none ∧ flt = rflt n d) ∨ (∃ p, rread n d = some p) ∧ rread n' d' = none ∧ flt = rflt n' d')))
/-- The boxes of the arguments and of the results. -/
structure Fs (w : World) (s t s' t' : ByteArray) (W : World) : Prop where
  x : B2 W w.heap.size (.string s) (.string t)
  y : B2 W (w.heap.size + 1) (.string s') (.string t')
  r : B4q W (w.heap.size + 1 + 1) Fq.z
  q : B4q W (w.heap.size + 1 + 1 + 1) Fq.z
  bel : Below w.heap.size w W
theorem Fs.keep {w : World} {s t s' t' : ByteArray} {W W' : World} (h : Fs w s t s' t' W) (hb : Below W.heap.size W W') : Fs w s t s' t' W' :=
  ⟨h.x.keep hb, h.y.keep hb, h.r.keep hb, h.q.keep hb, h.bel.trans (hb.mono h.bel.size)⟩
theorem Fs.set {w : World} {s t s' t' : ByteArray} {W : World} (h : Fs w s t s' t' W) {g : Nat} (hg : w.heap.size + 1 + 1 + 1 < g) (f : Fq) : Fs w s t s' t' (fourq W g f) :=
  ⟨h.x.other4 (by omega) _ _ _ _, h.y.other4 (by omega) _ _ _ _, h.r.other (by omega) _ _ _ _, h.q.other (by omega) _ _ _ _, below_four h.bel (by omega) _ _ _ _⟩
theorem Fs.made (w : World) (s t s' t' : ByteArray) (T1 T2 T3 T4 : TypeId) :
    Fs w s t s' t' ((((w.alloc (.cells #[.string s, .string t] T1)).alloc (.cells #[.string s', .string t'] T2)).alloc (.cells #[.bool false, .slice none 0 0, .bool false, .slice none 0 0] T3)).alloc (.cells #[.bool false, .slice none 0 0, .bool false, .slice none 0 0] T4)) := by
  have s1 : (w.alloc (.cells #[.string s, .string t] T1)).heap.size = w.heap.size + 1 := by simp
  have s2 : ((w.alloc (.cells #[.string s, .string t] T1)).alloc (.cells #[.string s', .string t'] T2)).heap.size = w.heap.size + 1 + 1 := by simp
  have s3 : (((w.alloc (.cells #[.string s, .string t] T1)).alloc (.cells #[.string s', .string t'] T2)).alloc (.cells #[.bool false, .slice none 0 0, .bool false, .slice none 0 0] T3)).heap.size = w.heap.size + 1 + 1 + 1 := by simp
  refine ⟨(((B2.made w _ _ T1).keep (bel_one _ _)).keep (bel_one _ _)).keep (bel_one _ _), ?_, ?_, ?_, ?_⟩
  · rw [← s1]; exact ((B2.made _ _ _ T2).keep (bel_one _ _)).keep (bel_one _ _)
  · rw [← s2]; exact (B4.made _ _ _ _ _ T3).keep (bel_one _ _)
  · rw [← s3]; exact B4.made _ _ _ _ _ T4
  · exact ((((Below.refl _ _).alloc (Nat.le_refl _) _).alloc (by simp) _).alloc (by simp; omega) _).alloc (by simp; omega) _
/-- What region 7 reads. -/
def S8 (gf gh : Nat) (f h : Fq) (W : World) : Prop :=
  W.cell? ⟨gf, 0, none⟩ = some (.bool f.b) ∧ W.cell? ⟨gf, 1, none⟩ = some (.slice f.a f.k f.c) ∧ W.cell? ⟨gf, 2, none⟩ = some (.bool f.b') ∧ W.cell? ⟨gf, 3, none⟩ = some (.slice f.a' f.k' f.c') ∧
  W.cell? ⟨gh, 0, none⟩ = some (.bool h.b) ∧ W.cell? ⟨gh, 1, none⟩ = some (.slice h.a h.k h.c) ∧ W.cell? ⟨gh, 2, none⟩ = some (.bool h.b') ∧ W.cell? ⟨gh, 3, none⟩ = some (.slice h.a' h.k' h.c')
theorem S8.of {gf gh : Nat} {f h : Fq} {W : World} (x : B4q W gf f) (y : B4q W gh h) : S8 gf gh f h W := ⟨x.c0, x.c1, x.c2, x.c3, y.c0, y.c1, y.c2, y.c3⟩
set_option maxRecDepth 100000 in
set_option maxHeartbeats 4000000 in
theorem fractionsOf_c (s t s' t' : ByteArray) (w : World) :
    Calls Tryd.prog 16 #[.agg #[.string s, .string t], .agg #[.string s', .string t']] w (FsPost s.data.toList t.data.toList s'.data.toList t'.data.toList w) := by
  obtain ⟨W0, hW0⟩ : ∃ W0, (((w.alloc (.cells #[.string s, .string t] 23)).alloc (.cells #[.string s', .string t'] 23)).alloc (.cells #[.bool false, .slice none 0 0, .bool false, .slice none 0 0] 39)).alloc (.cells #[.bool false, .slice none 0 0, .bool false, .slice none 0 0] 39) = W0 := ⟨_, rfl⟩
  have J0 : Hid (Fs w s t s' t' W0) := by rw [← hW0]; exact Fs.made _ _ _ _ _ _ _ _ _
  have H1 := Lib.hid (fun w => fractionOf_q s t w)
  have H2 := Lib.hid (fun w => fractionOf_q s' t' w)
  have x0 := J0.out.x.c0
  have x1 := J0.out.x.c1
  go_enter Tryd.func16, Tryd.ntmps16
  go_wp2_with fail
  clear hW0 x0 x1
  refine (H1.out _).mono ?_
  rintro e w1 ⟨f, flt, rfl, b1, hpost⟩
  have J1 := Lib.hid (J0.out.keep b1)
  have P1 := Lib.hid hpost
  clear b1 hpost J0 H1
  obtain ⟨W2, hW2⟩ : ∃ W2, w1.alloc (.cells #[.bool false, .slice none 0 0, .bool false, .slice none 0 0] 39) = W2 := ⟨_, rfl⟩
  have DW2 : B4q W2 w1.heap.size Fq.z := by rw [← hW2]; exact B4.made _ _ _ _ _ _
  have LW2 : Below w1.heap.size w1 W2 := by rw [← hW2]; exact bel_one _ _
  obtain ⟨gf, hgf⟩ : ∃ gf, w1.heap.size = gf := ⟨_, rfl⟩
  have Ggf : Hid (w.heap.size + 1 + 1 + 1 < gf) := by rw [← hgf]; exact J1.out.q.lt
  rw [hgf] at DW2
  obtain ⟨W3, hW3⟩ : ∃ W3, fourq W2 gf f = W3 := ⟨_, rfl⟩
  have J3 : Hid (Fs w s t s' t' W3) := by rw [← hW3]; exact (J1.out.keep LW2).set Ggf.out f
  have Ngf : Hid (B4q W3 gf f) := by rw [← hW3]; exact DW2.set _ _ _ _
  have F3 : Hid (flt = 0 → ∃ x y, rread s.data.toList t.data.toList = some (x, y) ∧ Fi W3 f x y) := by rw [← hW3]; exact (fun h => by obtain ⟨x, y, e1, e2⟩ := P1.out.resolve_right (fun q => q.1 h) |>.2; exact ⟨x, y, e1, (e2.below LW2).set DW2 f⟩)
  have m0gf := DW2.c0
  have m1gf := DW2.c1
  have m2gf := DW2.c2
  have m3gf := DW2.c3
  have u0gf := DW2.fr 0
  have u1gf := DW2.fr 1
  have u2gf := DW2.fr 2
  have u3gf := DW2.fr 3
  clear DW2 LW2
  unfold fourq four at hW3
  have y0' := J3.out.y.c0
  have y1' := J3.out.y.c1
  clear J1
  by_cases hz : flt = 0
  · subst hz
    have P3 := Lib.hid (F3.out rfl)
    clear F3 P1
    go_wp2_with fail
    clear y0' y1'
    clear hW2 hW3 hgf m0gf m1gf m2gf m3gf u0gf u1gf u2gf u3gf
    refine (H2.out _).mono ?_
    rintro e w4 ⟨h, flt2, rfl, b4, hpost⟩
    have J4 := Lib.hid (J3.out.keep b4)
    have P2 := Lib.hid hpost
    have N4 := Lib.hid (Ngf.out.keep b4)
    have F4 : Hid (∃ x y, rread s.data.toList t.data.toList = some (x, y) ∧ Fi w4 f x y) := by
      obtain ⟨x, y, e1, e2⟩ := P3.out
      exact ⟨x, y, e1, e2.below b4⟩
    have G4 : Hid (gf < w4.heap.size) := N4.out.lt
    clear b4 hpost J3 H2 P3 Ngf
    obtain ⟨W5, hW5⟩ : ∃ W5, w4.alloc (.cells #[.bool false, .slice none 0 0, .bool false, .slice none 0 0] 39) = W5 := ⟨_, rfl⟩
    have DW5 : B4q W5 w4.heap.size Fq.z := by rw [← hW5]; exact B4.made _ _ _ _ _ _
    have LW5 : Below w4.heap.size w4 W5 := by rw [← hW5]; exact bel_one _ _
    obtain ⟨gh, hgh⟩ : ∃ gh, w4.heap.size = gh := ⟨_, rfl⟩
    have Ggh : Hid (w.heap.size + 1 + 1 + 1 < gh) := by rw [← hgh]; exact J4.out.q.lt
    rw [hgh] at DW5
    obtain ⟨W6, hW6⟩ : ∃ W6, fourq W5 gh h = W6 := ⟨_, rfl⟩
    have J6 : Hid (Fs w s t s' t' W6) := by rw [← hW6]; exact (J4.out.keep LW5).set Ggh.out h
    have Ngh : Hid (B4q W6 gh h) := by rw [← hW6]; exact DW5.set _ _ _ _
    have H6 : Hid (flt2 = 0 → ∃ x y, rread s'.data.toList t'.data.toList = some (x, y) ∧ Fi W6 h x y) := by rw [← hW6]; exact (fun e => by obtain ⟨x, y, e1, e2⟩ := P2.out.resolve_right (fun q => q.1 e) |>.2; exact ⟨x, y, e1, (e2.below LW5).set DW5 h⟩)
    have F6 : Hid (∃ x y, rread s.data.toList t.data.toList = some (x, y) ∧ Fi W6 f x y) := by rw [← hW6]; exact (by obtain ⟨x, y, e1, e2⟩ := F4.out; exact ⟨x, y, e1, (e2.below LW5).set DW5 h⟩)
    have N6 : Hid (B4q W6 gf f) := by rw [← hW6]; exact ((N4.out.keep LW5).other (by have := G4.out; omega) _ _ _ _)
    have m0gh := DW5.c0
    have m1gh := DW5.c1
    have m2gh := DW5.c2
    have m3gh := DW5.c3
    have u0gh := DW5.fr 0
    have u1gh := DW5.fr 1
    have u2gh := DW5.fr 2
    have u3gh := DW5.fr 3
    clear DW5 LW5
    unfold fourq four at hW6
    have GNE : Hid (gf < gh) := by rw [← hgh]; exact G4.out
    by_cases hz2 : flt2 = 0
    · subst hz2
      have P5 := Lib.hid (H6.out rfl)
      clear H6 P2
      go_wp2_with fail
      clear hW5 hW6 hgh m0gh m1gh m2gh m3gh u0gh u1gh u2gh u3gh
      refine wp_region_noPanic ?_
      refine wp_region_held_drew (S := S8 gf gh f h) (by kernel_rfl) (S8.of (N6.out.keep (Below.refl _ _).drew) (Ngh.out.keep (Below.refl _ _).drew)) (fun hS => ?_)
      have J7 := Lib.hid (J6.out.keep (Below.refl _ _).drew)
      have N7 := Lib.hid (N6.out.keep (Below.refl _ _).drew)
      have K7 := Lib.hid (Ngh.out.keep (Below.refl _ _).drew)
      have PP7 : Hid (∀ W, Below W6.heap.size W6 W → (∃ x y, rread s.data.toList t.data.toList = some (x, y) ∧ Fi W f x y) ∧ (∃ x y, rread s'.data.toList t'.data.toList = some (x, y) ∧ Fi W h x y)) := by
        intro W hb
        obtain ⟨x, y, e1, e2⟩ := F6.out
        obtain ⟨x', y', e3, e4⟩ := P5.out
        exact ⟨⟨x, y, e1, e2.below hb⟩, ⟨x', y', e3, e4.below hb⟩⟩
      have PD := Lib.hid (PP7.out W6.drew (Below.refl _ _).drew)
      clear PP7 F6 P5 J6 N6 Ngh
      obtain ⟨WD, hWD⟩ : ∃ WD, W6.drew = WD := ⟨_, rfl⟩
      rw [hWD] at J7 N7 K7 PD hS ⊢
      clear hWD
      refine wpAnyH_take (i := 0) (v := ?v0z29) rfl (by kernel_rfl) (by kernel_rfl) (by kernel_rfl) (fun _ _ _ h => h) (Or.inl ⟨by rfl, ?hy0z29⟩) (by assumption) ?rest0z29
      case hy0z29 =>
        intro w hSw
        dsimp only [S8] at hSw
        go_simp
        try with_reducible rfl
      simp only [Act.put, List.getElem_toArray, List.getElem_cons_succ, List.getElem_cons_zero, List.setIfInBounds_toArray, List.set_cons_zero, List.set_cons_succ]
      refine wpAnyH_take (i := 1) (v := ?v1z30) rfl (by kernel_rfl) (by kernel_rfl) (by kernel_rfl) (fun _ _ _ h => h) (Or.inl ⟨by rfl, ?hy1z30⟩) (by assumption) ?rest1z30
      case hy1z30 =>
        intro w hSw
        dsimp only [S8] at hSw
        go_simp
        try with_reducible rfl
      simp only [Act.put, List.getElem_toArray, List.getElem_cons_succ, List.getElem_cons_zero, List.setIfInBounds_toArray, List.set_cons_zero, List.set_cons_succ]
      refine wpAnyH_ready (rs := [2]) (by kernel_rfl) (by simp) ?_
      refine AllReadyH.cons rfl (fun K hK => ?_) AllReadyH.nil
      have q0 := J7.out.r.c0
      have q1 := J7.out.r.c1
      have q2 := J7.out.r.c2
      have q3 := J7.out.r.c3
      have g0 := J7.out.r.fr 0
      have g1 := J7.out.r.fr 1
      have g2 := J7.out.r.fr 2
      have g3 := J7.out.r.fr 3
      simp only [Fq.z] at q0 q1 q2 q3
      go_simp
      clear q0 q1 q2 q3 g0 g1 g2 g3
      obtain ⟨WE, hWE⟩ : ∃ WE, fourq WD (w.heap.size + 1 + 1) f = WE := ⟨_, rfl⟩
      have gfo := Ggf.out
      have gho := Ggh.out
      have hT : S8 gf gh f h WE := by rw [← hWE]; exact S8.of (N7.out.other (by omega) _ _ _ _) (K7.out.other (by omega) _ _ _ _)
      have N8 : Hid (B4q WE gf f) := by rw [← hWE]; exact N7.out.other (by omega) _ _ _ _
      have K8 : Hid (B4q WE gh h) := by rw [← hWE]; exact K7.out.other (by omega) _ _ _ _
      have R8 : B4q WE (w.heap.size + 1 + 1) f := by rw [← hWE]; exact J7.out.r.set _ _ _ _
      have Q8 : B4q WE (w.heap.size + 1 + 1 + 1) Fq.z := by rw [← hWE]; exact J7.out.q.other (by omega) _ _ _ _
      have B8 : Hid (Below w.heap.size w WE) := by rw [← hWE]; exact below_four J7.out.bel (by omega) _ _ _ _
      have PE : Hid ((∃ x y, rread s.data.toList t.data.toList = some (x, y) ∧ Fi WE f x y) ∧ (∃ x y, rread s'.data.toList t'.data.toList = some (x, y) ∧ Fi WE h x y)) := by
        obtain ⟨⟨x, y, e1, e2⟩, ⟨x', y', e3, e4⟩⟩ := PD.out
        rw [← hWE]
        exact ⟨⟨x, y, e1, e2.set J7.out.r f⟩, ⟨x', y', e3, e4.set J7.out.r f⟩⟩
      unfold fourq four at hWE
      rw [hWE]
      refine hK.out _ _ hT (fun _ => ?_)
      clear hK K hS hWE N7 K7 J7 PD
      have hS := hT
      clear hT
      try simp only [Act.put, List.setIfInBounds_toArray, List.set_cons_zero, List.set_cons_succ]
      refine wpAnyH_ready (rs := [3]) (by kernel_rfl) (by simp) ?_
      refine AllReadyH.cons rfl (fun K hK => ?_) AllReadyH.nil
      have q0 := Q8.c0
      have q1 := Q8.c1
      have q2 := Q8.c2
      have q3 := Q8.c3
      have g0 := Q8.fr 0
      have g1 := Q8.fr 1
      have g2 := Q8.fr 2
      have g3 := Q8.fr 3
      simp only [Fq.z] at q0 q1 q2 q3
      go_simp
      clear q0 q1 q2 q3 g0 g1 g2 g3
      obtain ⟨WF, hWF⟩ : ∃ WF, fourq WE (w.heap.size + 1 + 1 + 1) h = WF := ⟨_, rfl⟩
      have hT : S8 gf gh f h WF := by rw [← hWF]; exact S8.of (N8.out.other (by omega) _ _ _ _) (K8.out.other (by omega) _ _ _ _)
      have R9 : B4q WF (w.heap.size + 1 + 1) f := by rw [← hWF]; exact R8.other (by omega) _ _ _ _
      have Q9 : B4q WF (w.heap.size + 1 + 1 + 1) h := by rw [← hWF]; exact Q8.set _ _ _ _
      have PP : Hid (FsPost s.data.toList t.data.toList s'.data.toList t'.data.toList w (.returned (.tuple #[f.v, h.v, .int .i64 0])) WF) := by
        obtain ⟨⟨x, y, e1, e2⟩, ⟨x', y', e3, e4⟩⟩ := PE.out
        rw [← hWF]
        exact ⟨_, _, _, rfl, below_four B8.out (by omega) _ _ _ _, .inl ⟨rfl, x, y, x', y', e1, e3, e2.set Q8 h, e4.set Q8 h⟩⟩
      unfold fourq four at hWF
      rw [hWF]
      refine hK.out _ _ hT (fun _ => ?_)
      clear hK K hS hWF N8 K8 R8 Q8 PE
      have hS := hT
      clear hT
      try simp only [Act.put, List.setIfInBounds_toArray, List.set_cons_zero, List.set_cons_succ]
      refine wpAnyH_take (i := 4) (v := ?v4z31) rfl (by kernel_rfl) (by kernel_rfl) (by kernel_rfl) (fun _ _ _ h => h) (Or.inl ⟨by rfl, ?hy4z31⟩) (by assumption) ?rest4z31
      case hy4z31 =>
        intro w hSw
        dsimp only [S8] at hSw
        go_simp
        try with_reducible rfl
      simp only [Act.put, List.getElem_toArray, List.getElem_cons_succ, List.getElem_cons_zero, List.setIfInBounds_toArray, List.set_cons_zero, List.set_cons_succ]
      refine wpAnyH_done (by kernel_rfl) ?_ _
      refine NoPanic.normal ?_
      obtain ⟨r0, r1, r2, r3, _, _⟩ := id R9
      obtain ⟨p0, p1, p2, p3, _, _⟩ := id Q9
      clear hS R9 Q9
      go_wp2_with fail
      exact bodyPost_ret (v := .tuple #[.agg #[.bool f.b, .slice f.a f.k f.c, .bool f.b', .slice f.a' f.k' f.c'], .agg #[.bool h.b, .slice h.a h.k h.c, .bool h.b', .slice h.a' h.k' h.c'], .int .i64 0]) (by simp [results, Tryd.results16, go_sem, r0, r1, r2, r3, p0, p1, p2, p3]) rfl PP.out
    · have PF : Hid (flt2 ≠ 0 ∧ ((rread s.data.toList t.data.toList = none ∧ flt2 = rflt s.data.toList t.data.toList) ∨ (∃ p, rread s.data.toList t.data.toList = some p) ∧ rread s'.data.toList t'.data.toList = none ∧ flt2 = rflt s'.data.toList t'.data.toList)) := by
        obtain ⟨x, y, e1, _⟩ := F6.out
        exact ⟨hz2, .inr ⟨⟨_, e1⟩, (P2.out.resolve_left (fun q => hz2 q.1)).2⟩⟩
      have hne : (flt2 == 0) = false := by rw [beq_eq_false_iff_ne]; exact hz2
      have hne2 : (flt2 != 0) = true := by simp [hz2]
      clear hz2 P2 F6 H6 N6
      have hY : B4q (fourq W6 (w.heap.size + 1 + 1) Fq.z) (w.heap.size + 1 + 1 + 1) Fq.z := J6.out.q.other (by omega) _ _ _ _
      obtain ⟨W9, hW9⟩ : ∃ W9, fourq (fourq W6 (w.heap.size + 1 + 1) Fq.z) (w.heap.size + 1 + 1 + 1) Fq.z = W9 := ⟨_, rfl⟩
      have R9 : B4q W9 (w.heap.size + 1 + 1) Fq.z := by rw [← hW9]; exact (J6.out.r.set _ _ _ _).other (by omega) _ _ _ _
      have Q9 : B4q W9 (w.heap.size + 1 + 1 + 1) Fq.z := by rw [← hW9]; exact hY.set _ _ _ _
      have PP : Hid (FsPost s.data.toList t.data.toList s'.data.toList t'.data.toList w (.returned (.tuple #[Fq.z.v, Fq.z.v, .int .i64 flt2])) W9) := by
        rw [← hW9]
        exact ⟨_, _, _, rfl, below_four (below_four J6.out.bel (by omega) _ _ _ _) (by omega) _ _ _ _, .inr PF.out⟩
      have q0 := J6.out.r.c0
      have q1 := J6.out.r.c1
      have q2 := J6.out.r.c2
      have q3 := J6.out.r.c3
      have g0 := J6.out.r.fr 0
      have g1 := J6.out.r.fr 1
      have g2 := J6.out.r.fr 2
      have g3 := J6.out.r.fr 3
      have z0 := J6.out.q.c0
      have z1 := J6.out.q.c1
      have z2 := J6.out.q.c2
      have z3 := J6.out.q.c3
      have y0 := J6.out.q.fr 0
      have y1 := J6.out.q.fr 1
      have y2 := J6.out.q.fr 2
      have y3 := J6.out.q.fr 3
      obtain ⟨r0, r1, r2, r3, _, _⟩ := id R9
      obtain ⟨p0, p1, p2, p3, _, _⟩ := id Q9
      unfold fourq four at hW9
      clear R9 Q9 hY
      simp only [Fq.z] at *
      go_wp2_with fail
      exact bodyPost_ret (v := .tuple #[.agg #[.bool false, .slice none 0 0, .bool false, .slice none 0 0], .agg #[.bool false, .slice none 0 0, .bool false, .slice none 0 0], .int .i64 flt2]) (by simp [results, Tryd.results16, go_sem, r0, r1, r2, r3, p0, p1, p2, p3]) rfl PP.out
  · have PF : Hid (flt ≠ 0 ∧ ((rread s.data.toList t.data.toList = none ∧ flt = rflt s.data.toList t.data.toList) ∨ (∃ p, rread s.data.toList t.data.toList = some p) ∧ rread s'.data.toList t'.data.toList = none ∧ flt = rflt s'.data.toList t'.data.toList)) :=
      ⟨hz, .inl (P1.out.resolve_left (fun q => hz q.1)).2⟩
    have hne : (flt == 0) = false := by rw [beq_eq_false_iff_ne]; exact hz
    have hne2 : (flt != 0) = true := by simp [hz]
    clear hz P1 F3 H2 y0' y1'
    have hY : B4q (fourq W3 (w.heap.size + 1 + 1) Fq.z) (w.heap.size + 1 + 1 + 1) Fq.z := J3.out.q.other (by omega) _ _ _ _
    obtain ⟨W9, hW9⟩ : ∃ W9, fourq (fourq W3 (w.heap.size + 1 + 1) Fq.z) (w.heap.size + 1 + 1 + 1) Fq.z = W9 := ⟨_, rfl⟩
    have R9 : B4q W9 (w.heap.size + 1 + 1) Fq.z := by rw [← hW9]; exact (J3.out.r.set _ _ _ _).other (by omega) _ _ _ _
    have Q9 : B4q W9 (w.heap.size + 1 + 1 + 1) Fq.z := by rw [← hW9]; exact hY.set _ _ _ _
    have PP : Hid (FsPost s.data.toList t.data.toList s'.data.toList t'.data.toList w (.returned (.tuple #[Fq.z.v, Fq.z.v, .int .i64 flt])) W9) := by
      rw [← hW9]
      exact ⟨_, _, _, rfl, below_four (below_four J3.out.bel (by omega) _ _ _ _) (by omega) _ _ _ _, .inr PF.out⟩
    have q0 := J3.out.r.c0
    have q1 := J3.out.r.c1
    have q2 := J3.out.r.c2
    have q3 := J3.out.r.c3
    have g0 := J3.out.r.fr 0
    have g1 := J3.out.r.fr 1
    have g2 := J3.out.r.fr 2
    have g3 := J3.out.r.fr 3
    have z0 := J3.out.q.c0
    have z1 := J3.out.q.c1
    have z2 := J3.out.q.c2
    have z3 := J3.out.q.c3
    have y0 := J3.out.q.fr 0
    have y1 := J3.out.q.fr 1
    have y2 := J3.out.q.fr 2
    have y3 := J3.out.q.fr 3
    obtain ⟨r0, r1, r2, r3, _, _⟩ := id R9
    obtain ⟨p0, p1, p2, p3, _, _⟩ := id Q9
    unfold fourq four at hW9
    clear R9 Q9 hY
    simp only [Fq.z] at *
    go_wp2_with fail
    exact bodyPost_ret (v := .tuple #[.agg #[.bool false, .slice none 0 0, .bool false, .slice none 0 0], .agg #[.bool false, .slice none 0 0, .bool false, .slice none 0 0], .int .i64 flt]) (by simp [results, Tryd.results16, go_sem, r0, r1, r2, r3, p0, p1, p2, p3]) rfl PP.out
end Go.Proofs.YtaibpppobblnoaaDoor
