/-
  Ratios of package value: the texts of a fraction.
  Ratios of package value: two fractions.
  Ratios of package value: Sum, Product, Order.
-/
import Derived.Test.YtdkphfafcmogmaaGreatDoorMo17
namespace Go.Proofs.YtdkphfafcmogmaaGreatDoor
open Go.RowKit

theorem trim_tz (z : Int) : Lib.trimPrefix (tz z) [45] = Lib.decDigits z.natAbs := by
  unfold tz
  split
  · exact trim_minus _
  · obtain ⟨c, r, e, _⟩ := head_dec z.natAbs
    have hd := digs_dec z.natAbs
    rw [e] at hd ⊢
    have hx : isDig c = true := by simp [digs] at hd; exact hd.1
    have := isDig_iff.1 hx
    exact trim_plain (by omega)
def fits (x y : Int) : Bool := decide ((Lib.decDigits x.natAbs).length ≤ 2000) && decide ((Lib.decDigits y.natAbs).length ≤ 2000)
/-- The texts of a fraction, and the fault if they are too long. -/
def ra (x y : Int) : ByteArray × ByteArray × Int := if fits x y = true then (tzB x, tzB y, 0) else (⟨#[]⟩, ⟨#[]⟩, 2)
def RaPost (x y : Int) (w : World) (e : Ending) (w' : World) : Prop := e = .returned (.tuple #[.agg #[.string (ra x y).1, .string (ra x y).2.1], .int .i64 (ra x y).2.2]) ∧ Below w.heap.size w w'
structure Rb (w : World) (b1 : Bool) (a1 : Option Addr) (k1 c1 : Nat) (b2 : Bool) (a2 : Option Addr) (k2 c2 : Nat) (W : World) : Prop where
  x : B4 W w.heap.size (.bool b1) (.slice a1 k1 c1) (.bool b2) (.slice a2 k2 c2)
  r : B2 W (w.heap.size + 1) (.string ⟨#[]⟩) (.string ⟨#[]⟩)
  bel : Below w.heap.size w W
theorem Rb.keep {w : World} {b1 : Bool} {a1 : Option Addr} {k1 c1 : Nat} {b2 : Bool} {a2 : Option Addr} {k2 c2 : Nat} {W W' : World} (h : Rb w b1 a1 k1 c1 b2 a2 k2 c2 W) (hb : Below W.heap.size W W') : Rb w b1 a1 k1 c1 b2 a2 k2 c2 W' :=
  ⟨h.x.keep hb, h.r.keep hb, h.bel.trans (hb.mono h.bel.size)⟩
def SR (g : Nat) (b1 : Bool) (a1 : Option Addr) (k1 c1 : Nat) (b2 : Bool) (a2 : Option Addr) (k2 c2 : Nat) (W : World) : Prop :=
  W.cell? ⟨g, 0, none⟩ = some (.bool b1) ∧ W.cell? ⟨g, 1, none⟩ = some (.slice a1 k1 c1) ∧ W.cell? ⟨g, 2, none⟩ = some (.bool b2) ∧ W.cell? ⟨g, 3, none⟩ = some (.slice a2 k2 c2)
theorem Rb.si {w : World} {b1 : Bool} {a1 : Option Addr} {k1 c1 : Nat} {b2 : Bool} {a2 : Option Addr} {k2 c2 : Nat} {W : World} (h : Rb w b1 a1 k1 c1 b2 a2 k2 c2 W) : SR w.heap.size b1 a1 k1 c1 b2 a2 k2 c2 W := ⟨h.x.c0, h.x.c1, h.x.c2, h.x.c3⟩
set_option maxRecDepth 100000 in
set_option maxHeartbeats 4000000 in
theorem ratioOf_c (b1 : Bool) (a1 : Option Addr) (k1 c1 : Nat) (b2 : Bool) (a2 : Option Addr) (k2 c2 : Nat) (x y : Int) (w : World) (h1 : Zn w b1 a1 k1 c1 x) (h2 : Zn w b2 a2 k2 c2 y) (hx : x.natAbs < bp 2000) (hy : y.natAbs < bp 2000) (hp : 0 < y) :
    Calls Tryz.prog 23 #[.agg #[.bool b1, .slice a1 k1 c1, .bool b2, .slice a2 k2 c2]] w (RaPost x y w) := by
  obtain ⟨W0, hW0⟩ : ∃ W0, (w.alloc (.cells #[.bool b1, .slice a1 k1 c1, .bool b2, .slice a2 k2 c2] 46)).alloc (.cells #[.string ⟨#[]⟩, .string ⟨#[]⟩] 23) = W0 := ⟨_, rfl⟩
  have J0 : Hid (Rb w b1 a1 k1 c1 b2 a2 k2 c2 W0) := by
    have s1 : (w.alloc (.cells #[.bool b1, .slice a1 k1 c1, .bool b2, .slice a2 k2 c2] 46)).heap.size = w.heap.size + 1 := by simp
    rw [← hW0]
    refine ⟨(B4.made w _ _ _ _ _).keep (bel_one _ _), ?_, ((Below.refl _ _).alloc (Nat.le_refl _) _).alloc (by simp) _⟩
    rw [← s1]; exact B2.made _ _ _ _
  obtain ⟨u, hu⟩ : ∃ u : ByteArray, u = ⟨(Lib.decDigits x.natAbs).toArray⟩ := ⟨_, rfl⟩
  have hus : u.size = (Lib.decDigits x.natAbs).length := by rw [hu]; simp [ByteArray.size]
  have hts : (tzB y).size = (Lib.decDigits y.natAbs).length := by
    have e : tz y = Lib.decDigits y.natAbs := by unfold tz; rw [if_neg (by omega)]
    unfold tzB
    rw [e]
    simp [ByteArray.size]
  have HTP : Hid (∀ w, Calls Tryz.prog 29 #[.string (tzB x), .string ⟨#[45]⟩] w fun e w' => e = .returned (.string u) ∧ w = w') := fun w => (Tryz.strings_TrimPrefix (tzB x) ⟨#[45]⟩ w).mono fun e w' ⟨he, hw⟩ => ⟨by
    rw [he, hu]
    have e2 : Lib.trimPrefix (tzB x).data.toList (⟨#[45]⟩ : ByteArray).data.toList = Lib.decDigits x.natAbs := trim_tz x
    rw [e2], hw.symm⟩
  have HFT : Hid (fits x y = (decide (u.size ≤ 2000) && decide ((tzB y).size ≤ 2000))) := by unfold Hid fits; rw [hus, hts]
  have M1 := Lib.hid (fun W (h : Rb w b1 a1 k1 c1 b2 a2 k2 c2 W) => Text_c b1 a1 k1 c1 x W (h1.below h.bel) hx)
  have M2 := Lib.hid (fun W (h : Rb w b1 a1 k1 c1 b2 a2 k2 c2 W) => Text_c b2 a2 k2 c2 y W (h2.below h.bel) hy)
  clear h1 h2 hx hy hp hu hus hts
  go_enter Tryz.func23, Tryz.ntmps23
  go_wp2_with fail
  clear hW0
  refine wp_region_noPanic ?_
  refine wp_region_held_drew (S := SR w.heap.size b1 a1 k1 c1 b2 a2 k2 c2) (by kernel_rfl) (J0.out.keep (Below.refl _ _).drew).si (fun hS => ?_)
  have J1 := Lib.hid (J0.out.keep (Below.refl _ _).drew)
  clear J0
  refine wpAnyH_take (i := 0) (v := ?v0z29) rfl (by kernel_rfl) (by kernel_rfl) (by kernel_rfl) (fun _ _ _ h => h) (Or.inl ⟨by rfl, ?hy0z29⟩) (by assumption) ?rest0z29
  case hy0z29 =>
    intro w hSw
    dsimp only [SR] at hSw
    go_simp
    try with_reducible rfl
  simp only [Act.put, List.getElem_toArray, List.getElem_cons_succ, List.getElem_cons_zero, List.setIfInBounds_toArray, List.set_cons_zero, List.set_cons_succ]
  refine wpAnyH_take (i := 1) (v := ?v1z30) rfl (by kernel_rfl) (by kernel_rfl) (by kernel_rfl) (fun _ _ _ h => h) (Or.inl ⟨by rfl, ?hy1z30⟩) (by assumption) ?rest1z30
  case hy1z30 =>
    intro w hSw
    dsimp only [SR] at hSw
    go_simp
    try with_reducible rfl
  simp only [Act.put, List.getElem_toArray, List.getElem_cons_succ, List.getElem_cons_zero, List.setIfInBounds_toArray, List.set_cons_zero, List.set_cons_succ]
  refine wpAnyH_take (i := 3) (v := ?v3z31) rfl (by kernel_rfl) (by kernel_rfl) (by kernel_rfl) (fun _ _ _ h => h) (Or.inl ⟨by rfl, ?hy3z31⟩) (by assumption) ?rest3z31
  case hy3z31 =>
    intro w hSw
    dsimp only [SR] at hSw
    go_simp
    try with_reducible rfl
  simp only [Act.put, List.getElem_toArray, List.getElem_cons_succ, List.getElem_cons_zero, List.setIfInBounds_toArray, List.set_cons_zero, List.set_cons_succ]
  refine wpAnyH_take (i := 4) (v := ?v4z32) rfl (by kernel_rfl) (by kernel_rfl) (by kernel_rfl) (fun _ _ _ h => h) (Or.inl ⟨by rfl, ?hy4z32⟩) (by assumption) ?rest4z32
  case hy4z32 =>
    intro w hSw
    dsimp only [SR] at hSw
    go_simp
    try with_reducible rfl
  simp only [Act.put, List.getElem_toArray, List.getElem_cons_succ, List.getElem_cons_zero, List.setIfInBounds_toArray, List.set_cons_zero, List.set_cons_succ]
  refine wpAnyH_ready (rs := [2]) (by kernel_rfl) (by simp) ?_
  refine AllReadyH.cons rfl (fun K hK => ?_) AllReadyH.nil
  go_simp
  refine (M1.out _ J1.out).mono ?_
  rintro e W3 ⟨rfl, bc⟩
  try go_simp
  have J3 := Lib.hid (J1.out.keep bc)
  have hT := J3.out.si
  refine hK.out _ _ hT (fun _ => ?_)
  clear hK K hS bc J1 
  have hS := hT
  clear hT
  try simp only [Act.put, List.setIfInBounds_toArray, List.set_cons_zero, List.set_cons_succ]
  refine wpAnyH_ready (rs := [5]) (by kernel_rfl) (by simp) ?_
  refine AllReadyH.cons rfl (fun K hK => ?_) AllReadyH.nil
  go_simp
  refine (M2.out _ J3.out).mono ?_
  rintro e W4 ⟨rfl, bc⟩
  try go_simp
  have J4 := Lib.hid (J3.out.keep bc)
  have hT := J4.out.si
  refine hK.out _ _ hT (fun _ => ?_)
  clear hK K hS bc J3 
  have hS := hT
  clear hT
  try simp only [Act.put, List.setIfInBounds_toArray, List.set_cons_zero, List.set_cons_succ]
  refine wpAnyH_take (i := 6) (v := ?v6z33) rfl (by kernel_rfl) (by kernel_rfl) (by kernel_rfl) (fun _ _ _ h => h) (Or.inl ⟨by rfl, ?hy6z33⟩) (by assumption) ?rest6z33
  case hy6z33 =>
    intro w hSw
    dsimp only [SR] at hSw
    go_simp
    try with_reducible rfl
  simp only [Act.put, List.getElem_toArray, List.getElem_cons_succ, List.getElem_cons_zero, List.setIfInBounds_toArray, List.set_cons_zero, List.set_cons_succ]
  refine wpAnyH_take (i := 7) (v := ?v7z34) rfl (by kernel_rfl) (by kernel_rfl) (by kernel_rfl) (fun _ _ _ h => h) (Or.inl ⟨by rfl, ?hy7z34⟩) (by assumption) ?rest7z34
  case hy7z34 =>
    intro w hSw
    dsimp only [SR] at hSw
    go_simp
    try with_reducible rfl
  simp only [Act.put, List.getElem_toArray, List.getElem_cons_succ, List.getElem_cons_zero, List.setIfInBounds_toArray, List.set_cons_zero, List.set_cons_succ]
  refine wpAnyH_done (by kernel_rfl) ?_ _
  refine NoPanic.normal ?_
  clear hS M1 M2
  generalize hty : tzB y = ty at *
  generalize htx : tzB x = tx at *
  by_cases hf : fits x y = true
  · have HRA : Hid (ra x y = (tx, ty, 0)) := by unfold Hid ra; rw [if_pos hf, htx, hty]
    have h1 : u.size ≤ 2000 ∧ ty.size ≤ 2000 := by rw [HFT.out] at hf; simpa using hf
    have i1 : ¬ (2000 : Int) < (u.size : Int) := by omega
    have i2 : ¬ (2000 : Int) < (ty.size : Int) := by omega
    clear hf HFT h1 hty htx
    obtain ⟨W9, hW9⟩ : ∃ W9, two W4 (w.heap.size + 1) (.string tx) (.string ty) = W9 := ⟨_, rfl⟩
    have R9 : B2 W9 (w.heap.size + 1) (.string tx) (.string ty) := by rw [← hW9]; exact J4.out.r.set _ _
    have PP : Hid (RaPost x y w (.returned (.tuple #[.agg #[.string tx, .string ty], .int .i64 0])) W9) := by
      rw [← hW9]
      exact ⟨by rw [HRA.out], below_two J4.out.bel (Nat.le_succ _) _ _⟩
    have q0 := J4.out.r.c0
    have q1 := J4.out.r.c1
    have g0 := J4.out.r.fr 0
    have g1 := J4.out.r.fr 1
    obtain ⟨r0, r1, _, _⟩ := id R9
    unfold two at hW9
    clear R9
    go_wp2_with (go_at_call 29; refine (HTP.out _).mono ?_; rintro e w' ⟨rfl, rfl⟩)
    exact bodyPost_ret (v := .tuple #[.agg #[.string tx, .string ty], .int .i64 0]) (by simp [results, Tryz.results23, go_sem, r0, r1]) rfl PP.out
  · have HRA : Hid (ra x y = (⟨#[]⟩, ⟨#[]⟩, 2)) := by unfold Hid ra; rw [if_neg hf]
    have h1 : 2000 < u.size ∨ (u.size ≤ 2000 ∧ 2000 < ty.size) := by rw [HFT.out] at hf; simp at hf; omega
    clear hf HFT hty htx
    rcases h1 with h | ⟨h, h'⟩
    · have i1 : (2000 : Int) < (u.size : Int) := by omega
      obtain ⟨W9, hW9⟩ : ∃ W9, two W4 (w.heap.size + 1) (.string ⟨#[]⟩) (.string ⟨#[]⟩) = W9 := ⟨_, rfl⟩
      have R9 : B2 W9 (w.heap.size + 1) (.string ⟨#[]⟩) (.string ⟨#[]⟩) := by rw [← hW9]; exact J4.out.r.set _ _
      have PP : Hid (RaPost x y w (.returned (.tuple #[.agg #[.string ⟨#[]⟩, .string ⟨#[]⟩], .int .i64 2])) W9) := by
        rw [← hW9]
        exact ⟨by rw [HRA.out], below_two J4.out.bel (Nat.le_succ _) _ _⟩
      have q0 := J4.out.r.c0
      have q1 := J4.out.r.c1
      have g0 := J4.out.r.fr 0
      have g1 := J4.out.r.fr 1
      obtain ⟨r0, r1, _, _⟩ := id R9
      unfold two at hW9
      clear R9
      go_wp2_with (go_at_call 29; refine (HTP.out _).mono ?_; rintro e w' ⟨rfl, rfl⟩)
      exact bodyPost_ret (v := .tuple #[.agg #[.string ⟨#[]⟩, .string ⟨#[]⟩], .int .i64 2]) (by simp [results, Tryz.results23, go_sem, r0, r1]) rfl PP.out
    · have i1 : ¬ (2000 : Int) < (u.size : Int) := by omega
      have i2 : (2000 : Int) < (ty.size : Int) := by omega
      obtain ⟨W9, hW9⟩ : ∃ W9, two W4 (w.heap.size + 1) (.string ⟨#[]⟩) (.string ⟨#[]⟩) = W9 := ⟨_, rfl⟩
      have R9 : B2 W9 (w.heap.size + 1) (.string ⟨#[]⟩) (.string ⟨#[]⟩) := by rw [← hW9]; exact J4.out.r.set _ _
      have PP : Hid (RaPost x y w (.returned (.tuple #[.agg #[.string ⟨#[]⟩, .string ⟨#[]⟩], .int .i64 2])) W9) := by
        rw [← hW9]
        exact ⟨by rw [HRA.out], below_two J4.out.bel (Nat.le_succ _) _ _⟩
      have q0 := J4.out.r.c0
      have q1 := J4.out.r.c1
      have g0 := J4.out.r.fr 0
      have g1 := J4.out.r.fr 1
      obtain ⟨r0, r1, _, _⟩ := id R9
      unfold two at hW9
      clear R9
      go_wp2_with (go_at_call 29; refine (HTP.out _).mono ?_; rintro e w' ⟨rfl, rfl⟩)
      exact bodyPost_ret (v := .tuple #[.agg #[.string ⟨#[]⟩, .string ⟨#[]⟩], .int .i64 2]) (by simp [results, Tryz.results23, go_sem, r0, r1]) rfl PP.out
end Go.Proofs.YtdkphfafcmogmaaGreatDoor
namespace Go.Proofs.YtdkphfafcmogmaaGreatDoor
open Go.RowKit

/-- A fraction's four cells. -/
structure Fq where
  b : Bool
  a : Option Addr
  k : Nat
  c : Nat
  b' : Bool
  a' : Option Addr
  k' : Nat
  c' : Nat
def Fq.z : Fq := ⟨false, none, 0, 0, false, none, 0, 0⟩
abbrev Fq.v (f : Fq) : Value := .agg #[.bool f.b, .slice f.a f.k f.c, .bool f.b', .slice f.a' f.k' f.c']
/-- A fraction in lowest terms, in memory. -/
structure Fi (W : World) (f : Fq) (x y : Int) : Prop where
  n : Zn W f.b f.a f.k f.c x
  d : Zn W f.b' f.a' f.k' f.c' y
  nb : x.natAbs < bp 125
  db : y.natAbs < bp 125
  pos : 0 < y
  one : Int.gcd x y = 1
theorem Fi.below {W W' : World} {f : Fq} {x y : Int} (h : Fi W f x y) (hb : Below W.heap.size W W') : Fi W' f x y := ⟨h.n.below hb, h.d.below hb, h.nb, h.db, h.pos, h.one⟩
abbrev B4q (W : World) (g : Nat) (f : Fq) : Prop := B4 W g (.bool f.b) (.slice f.a f.k f.c) (.bool f.b') (.slice f.a' f.k' f.c')
abbrev fourq (W : World) (g : Nat) (f : Fq) : World := four W g (.bool f.b) (.slice f.a f.k f.c) (.bool f.b') (.slice f.a' f.k' f.c')
theorem Fi.set {W : World} {f : Fq} {x y : Int} (h : Fi W f x y) {g : Nat} {f0 : Fq} (hb : B4q W g f0) (f1 : Fq) : Fi (fourq W g f1) f x y :=
  ⟨h.n.set4 hb (NL.b _) (NL.s _ _ _) (NL.b _) (NL.s _ _ _) _ _ _ _, h.d.set4 hb (NL.b _) (NL.s _ _ _) (NL.b _) (NL.s _ _ _) _ _ _ _, h.nb, h.db, h.pos, h.one⟩
/-- fractionOf's answer. -/
def FqPost (n d : List UInt8) (w : World) (e : Ending) (w' : World) : Prop :=
  ∃ (f : Fq) (flt : Int), e = .returned (.tuple #[f.v, .int .i64 flt]) ∧ Below w.heap.size w w' ∧
    ((flt = 0 ∧ ∃ x y, rread n d = some (x, y) ∧ Fi w' f x y) ∨ (flt ≠ 0 ∧ rread n d = none ∧ flt = rflt n d))
theorem rflt_ne (n d : List UInt8) : rflt n d ≠ 0 := by unfold rflt; split <;> decide
theorem fractionOf_q (s t : ByteArray) (w : World) : Calls Tryz.prog 28 #[.agg #[.string s, .string t]] w (FqPost s.data.toList t.data.toList w) :=
  (fractionOf_c s t w).mono fun e w' h => by
    rcases h with ⟨x, y, b, a, k, c, b', a', k', c', h1, h2, h3, h4, h5, h6, h7, h8, h9⟩ | ⟨h1, h2, h3⟩
    · exact ⟨⟨b, a, k, c, b', a', k', c'⟩, 0, h2, h9, .inl ⟨rfl, x, y, h1, h3, h4, h5, h6, h7, h8⟩⟩
    · exact ⟨Fq.z, rflt _ _, h2, h3, .inr ⟨rflt_ne _ _, h1, rfl⟩⟩
def FsPost (n d n' d' : List UInt8) (w : World) (e : Ending) (w' : World) : Prop :=
  ∃ (f h : Fq) (flt : Int), e = .returned (.tuple #[f.v, h.v, .int .i64 flt]) ∧ Below w.heap.size w w' ∧
    ((flt = 0 ∧ ∃ x y x' y', rread n d = some (x, y) ∧ rread n' d' = some (x', y') ∧ Fi w' f x y ∧ Fi w' h x' y') ∨
     (flt ≠ 0 ∧ ((rread n d = none ∧ flt = rflt n d) ∨ (∃ p, rread n d = some p) ∧ rread n' d' = none ∧ flt = rflt n' d')))
/-- The boxes of the arguments and of the results. -/
structure Fs (w : World) (s t s' t' : ByteArray) (W : World) : Prop where
  x : B2 W w.heap.size (.string s) (.string t)
  y : B2 W (w.heap.size + 1) (.string s') (.string t')
  r : B4q W (w.heap.size + 1 + 1) Fq.z
  q : B4q W (w.heap.size + 1 + 1 + 1) Fq.z
  bel : Below w.heap.size w W
theorem Fs.keep {w : World} {s t s' t' : ByteArray} {W W' : World} (h : Fs w s t s' t' W) (hb : Below W.heap.size W W') : Fs w s t s' t' W' :=
  ⟨h.x.keep hb, h.y.keep hb, h.r.keep hb, h.q.keep hb, h.bel.trans (hb.mono h.bel.size)⟩
theorem Fs.set {w : World} {s t s' t' : ByteArray} {W : World} (h : Fs w s t s' t' W) {g : Nat} (hg : w.heap.size + 1 + 1 + 1 < g) (f : Fq) : Fs w s t s' t' (fourq W g f) :=
  ⟨h.x.other4 (by omega) _ _ _ _, h.y.other4 (by omega) _ _ _ _, h.r.other (by omega) _ _ _ _, h.q.other (by omega) _ _ _ _, below_four h.bel (by omega) _ _ _ _⟩
theorem Fs.made (w : World) (s t s' t' : ByteArray) (T1 T2 T3 T4 : TypeId) :
    Fs w s t s' t' ((((w.alloc (.cells #[.string s, .string t] T1)).alloc (.cells #[.string s', .string t'] T2)).alloc (.cells #[.bool false, .slice none 0 0, .bool false, .slice none 0 0] T3)).alloc (.cells #[.bool false, .slice none 0 0, .bool false, .slice none 0 0] T4)) := by
  have s1 : (w.alloc (.cells #[.string s, .string t] T1)).heap.size = w.heap.size + 1 := by simp
  have s2 : ((w.alloc (.cells #[.string s, .string t] T1)).alloc (.cells #[.string s', .string t'] T2)).heap.size = w.heap.size + 1 + 1 := by simp
  have s3 : (((w.alloc (.cells #[.string s, .string t] T1)).alloc (.cells #[.string s', .string t'] T2)).alloc (.cells #[.bool false, .slice none 0 0, .bool false, .slice none 0 0] T3)).heap.size = w.heap.size + 1 + 1 + 1 := by simp
  refine ⟨(((B2.made w _ _ T1).keep (bel_one _ _)).keep (bel_one _ _)).keep (bel_one _ _), ?_, ?_, ?_, ?_⟩
  · rw [← s1]; exact ((B2.made _ _ _ T2).keep (bel_one _ _)).keep (bel_one _ _)
  · rw [← s2]; exact (B4.made _ _ _ _ _ T3).keep (bel_one _ _)
  · rw [← s3]; exact B4.made _ _ _ _ _ T4
  · exact ((((Below.refl _ _).alloc (Nat.le_refl _) _).alloc (by simp) _).alloc (by simp; omega) _).alloc (by simp; omega) _
/-- What region 7 reads. -/
def S8 (gf gh : Nat) (f h : Fq) (W : World) : Prop :=
  W.cell? ⟨gf, 0, none⟩ = some (.bool f.b) ∧ W.cell? ⟨gf, 1, none⟩ = some (.slice f.a f.k f.c) ∧ W.cell? ⟨gf, 2, none⟩ = some (.bool f.b') ∧ W.cell? ⟨gf, 3, none⟩ = some (.slice f.a' f.k' f.c') ∧
  W.cell? ⟨gh, 0, none⟩ = some (.bool h.b) ∧ W.cell? ⟨gh, 1, none⟩ = some (.slice h.a h.k h.c) ∧ W.cell? ⟨gh, 2, none⟩ = some (.bool h.b') ∧ W.cell? ⟨gh, 3, none⟩ = some (.slice h.a' h.k' h.c')
theorem S8.of {gf gh : Nat} {f h : Fq} {W : World} (x : B4q W gf f) (y : B4q W gh h) : S8 gf gh f h W := ⟨x.c0, x.c1, x.c2, x.c3, y.c0, y.c1, y.c2, y.c3⟩
set_option maxRecDepth 100000 in
set_option maxHeartbeats 4000000 in
theorem fractionsOf_c (s t s' t' : ByteArray) (w : World) :
    Calls Tryz.prog 34 #[.agg #[.string s, .string t], .agg #[.string s', .string t']] w (FsPost s.data.toList t.data.toList s'.data.toList t'.data.toList w) := by
  obtain ⟨W0, hW0⟩ : ∃ W0, (((w.alloc (.cells #[.string s, .string t] 23)).alloc (.cells #[.string s', .string t'] 23)).alloc (.cells #[.bool false, .slice none 0 0, .bool false, .slice none 0 0] 46)).alloc (.cells #[.bool false, .slice none 0 0, .bool false, .slice none 0 0] 46) = W0 := ⟨_, rfl⟩
  have J0 : Hid (Fs w s t s' t' W0) := by rw [← hW0]; exact Fs.made _ _ _ _ _ _ _ _ _
  have H1 := Lib.hid (fun w => fractionOf_q s t w)
  have H2 := Lib.hid (fun w => fractionOf_q s' t' w)
  have x0 := J0.out.x.c0
  have x1 := J0.out.x.c1
  go_enter Tryz.func34, Tryz.ntmps34
  go_wp2_with fail
  clear hW0 x0 x1
  refine (H1.out _).mono ?_
  rintro e w1 ⟨f, flt, rfl, b1, hpost⟩
  have J1 := Lib.hid (J0.out.keep b1)
  have P1 := Lib.hid hpost
  clear b1 hpost J0 H1
  obtain ⟨W2, hW2⟩ : ∃ W2, w1.alloc (.cells #[.bool false, .slice none 0 0, .bool false, .slice none 0 0] 46) = W2 := ⟨_, rfl⟩
  have DW2 : B4q W2 w1.heap.size Fq.z := by rw [← hW2]; exact B4.made _ _ _ _ _ _
  have LW2 : Below w1.heap.size w1 W2 := by rw [← hW2]; exact bel_one _ _
  obtain ⟨gf, hgf⟩ : ∃ gf, w1.heap.size = gf := ⟨_, rfl⟩
  have Ggf : Hid (w.heap.size + 1 + 1 + 1 < gf) := by rw [← hgf]; exact J1.out.q.lt
  rw [hgf] at DW2
  obtain ⟨W3, hW3⟩ : ∃ W3, fourq W2 gf f = W3 := ⟨_, rfl⟩
  have J3 : Hid (Fs w s t s' t' W3) := by rw [← hW3]; exact (J1.out.keep LW2).set Ggf.out f
  have Ngf : Hid (B4q W3 gf f) := by rw [← hW3]; exact DW2.set _ _ _ _
  have F3 : Hid (flt = 0 → ∃ x y, rread s.data.toList t.data.toList = some (x, y) ∧ Fi W3 f x y) := by rw [← hW3]; exact (fun h => by obtain ⟨x, y, e1, e2⟩ := P1.out.resolve_right (fun q => q.1 h) |>.2; exact ⟨x, y, e1, (e2.below LW2).set DW2 f⟩)
  have m0gf := DW2.c0
  have m1gf := DW2.c1
  have m2gf := DW2.c2
  have m3gf := DW2.c3
  have u0gf := DW2.fr 0
  have u1gf := DW2.fr 1
  have u2gf := DW2.fr 2
  have u3gf := DW2.fr 3
  clear DW2 LW2
  unfold fourq four at hW3
  have y0' := J3.out.y.c0
  have y1' := J3.out.y.c1
  clear J1
  by_cases hz : flt = 0
  · subst hz
    have P3 := Lib.hid (F3.out rfl)
    clear F3 P1
    go_wp2_with fail
    clear y0' y1'
    clear hW2 hW3 hgf m0gf m1gf m2gf m3gf u0gf u1gf u2gf u3gf
    refine (H2.out _).mono ?_
    rintro e w4 ⟨h, flt2, rfl, b4, hpost⟩
    have J4 := Lib.hid (J3.out.keep b4)
    have P2 := Lib.hid hpost
    have N4 := Lib.hid (Ngf.out.keep b4)
    have F4 : Hid (∃ x y, rread s.data.toList t.data.toList = some (x, y) ∧ Fi w4 f x y) := by
      obtain ⟨x, y, e1, e2⟩ := P3.out
      exact ⟨x, y, e1, e2.below b4⟩
    have G4 : Hid (gf < w4.heap.size) := N4.out.lt
    clear b4 hpost J3 H2 P3 Ngf
    obtain ⟨W5, hW5⟩ : ∃ W5, w4.alloc (.cells #[.bool false, .slice none 0 0, .bool false, .slice none 0 0] 46) = W5 := ⟨_, rfl⟩
    have DW5 : B4q W5 w4.heap.size Fq.z := by rw [← hW5]; exact B4.made _ _ _ _ _ _
    have LW5 : Below w4.heap.size w4 W5 := by rw [← hW5]; exact bel_one _ _
    obtain ⟨gh, hgh⟩ : ∃ gh, w4.heap.size = gh := ⟨_, rfl⟩
    have Ggh : Hid (w.heap.size + 1 + 1 + 1 < gh) := by rw [← hgh]; exact J4.out.q.lt
    rw [hgh] at DW5
    obtain ⟨W6, hW6⟩ : ∃ W6, fourq W5 gh h = W6 := ⟨_, rfl⟩
    have J6 : Hid (Fs w s t s' t' W6) := by rw [← hW6]; exact (J4.out.keep LW5).set Ggh.out h
    have Ngh : Hid (B4q W6 gh h) := by rw [← hW6]; exact DW5.set _ _ _ _
    have H6 : Hid (flt2 = 0 → ∃ x y, rread s'.data.toList t'.data.toList = some (x, y) ∧ Fi W6 h x y) := by rw [← hW6]; exact (fun e => by obtain ⟨x, y, e1, e2⟩ := P2.out.resolve_right (fun q => q.1 e) |>.2; exact ⟨x, y, e1, (e2.below LW5).set DW5 h⟩)
    have F6 : Hid (∃ x y, rread s.data.toList t.data.toList = some (x, y) ∧ Fi W6 f x y) := by rw [← hW6]; exact (by obtain ⟨x, y, e1, e2⟩ := F4.out; exact ⟨x, y, e1, (e2.below LW5).set DW5 h⟩)
    have N6 : Hid (B4q W6 gf f) := by rw [← hW6]; exact ((N4.out.keep LW5).other (by have := G4.out; omega) _ _ _ _)
    have m0gh := DW5.c0
    have m1gh := DW5.c1
    have m2gh := DW5.c2
    have m3gh := DW5.c3
    have u0gh := DW5.fr 0
    have u1gh := DW5.fr 1
    have u2gh := DW5.fr 2
    have u3gh := DW5.fr 3
    clear DW5 LW5
    unfold fourq four at hW6
    have GNE : Hid (gf < gh) := by rw [← hgh]; exact G4.out
    by_cases hz2 : flt2 = 0
    · subst hz2
      have P5 := Lib.hid (H6.out rfl)
      clear H6 P2
      go_wp2_with fail
      clear hW5 hW6 hgh m0gh m1gh m2gh m3gh u0gh u1gh u2gh u3gh
      refine wp_region_noPanic ?_
      refine wp_region_held_drew (S := S8 gf gh f h) (by kernel_rfl) (S8.of (N6.out.keep (Below.refl _ _).drew) (Ngh.out.keep (Below.refl _ _).drew)) (fun hS => ?_)
      have J7 := Lib.hid (J6.out.keep (Below.refl _ _).drew)
      have N7 := Lib.hid (N6.out.keep (Below.refl _ _).drew)
      have K7 := Lib.hid (Ngh.out.keep (Below.refl _ _).drew)
      have PP7 : Hid (∀ W, Below W6.heap.size W6 W → (∃ x y, rread s.data.toList t.data.toList = some (x, y) ∧ Fi W f x y) ∧ (∃ x y, rread s'.data.toList t'.data.toList = some (x, y) ∧ Fi W h x y)) := by
        intro W hb
        obtain ⟨x, y, e1, e2⟩ := F6.out
        obtain ⟨x', y', e3, e4⟩ := P5.out
        exact ⟨⟨x, y, e1, e2.below hb⟩, ⟨x', y', e3, e4.below hb⟩⟩
      have PD := Lib.hid (PP7.out W6.drew (Below.refl _ _).drew)
      clear PP7 F6 P5 J6 N6 Ngh
      obtain ⟨WD, hWD⟩ : ∃ WD, W6.drew = WD := ⟨_, rfl⟩
      rw [hWD] at J7 N7 K7 PD hS ⊢
      clear hWD
      refine wpAnyH_take (i := 0) (v := ?v0z29) rfl (by kernel_rfl) (by kernel_rfl) (by kernel_rfl) (fun _ _ _ h => h) (Or.inl ⟨by rfl, ?hy0z29⟩) (by assumption) ?rest0z29
      case hy0z29 =>
        intro w hSw
        dsimp only [S8] at hSw
        go_simp
        try with_reducible rfl
      simp only [Act.put, List.getElem_toArray, List.getElem_cons_succ, List.getElem_cons_zero, List.setIfInBounds_toArray, List.set_cons_zero, List.set_cons_succ]
      refine wpAnyH_take (i := 1) (v := ?v1z30) rfl (by kernel_rfl) (by kernel_rfl) (by kernel_rfl) (fun _ _ _ h => h) (Or.inl ⟨by rfl, ?hy1z30⟩) (by assumption) ?rest1z30
      case hy1z30 =>
        intro w hSw
        dsimp only [S8] at hSw
        go_simp
        try with_reducible rfl
      simp only [Act.put, List.getElem_toArray, List.getElem_cons_succ, List.getElem_cons_zero, List.setIfInBounds_toArray, List.set_cons_zero, List.set_cons_succ]
      refine wpAnyH_ready (rs := [2]) (by kernel_rfl) (by simp) ?_
      refine AllReadyH.cons rfl (fun K hK => ?_) AllReadyH.nil
      have q0 := J7.out.r.c0
      have q1 := J7.out.r.c1
      have q2 := J7.out.r.c2
      have q3 := J7.out.r.c3
      have g0 := J7.out.r.fr 0
      have g1 := J7.out.r.fr 1
      have g2 := J7.out.r.fr 2
      have g3 := J7.out.r.fr 3
      simp only [Fq.z] at q0 q1 q2 q3
      go_simp
      clear q0 q1 q2 q3 g0 g1 g2 g3
      obtain ⟨WE, hWE⟩ : ∃ WE, fourq WD (w.heap.size + 1 + 1) f = WE := ⟨_, rfl⟩
      have gfo := Ggf.out
      have gho := Ggh.out
      have hT : S8 gf gh f h WE := by rw [← hWE]; exact S8.of (N7.out.other (by omega) _ _ _ _) (K7.out.other (by omega) _ _ _ _)
      have N8 : Hid (B4q WE gf f) := by rw [← hWE]; exact N7.out.other (by omega) _ _ _ _
      have K8 : Hid (B4q WE gh h) := by rw [← hWE]; exact K7.out.other (by omega) _ _ _ _
      have R8 : B4q WE (w.heap.size + 1 + 1) f := by rw [← hWE]; exact J7.out.r.set _ _ _ _
      have Q8 : B4q WE (w.heap.size + 1 + 1 + 1) Fq.z := by rw [← hWE]; exact J7.out.q.other (by omega) _ _ _ _
      have B8 : Hid (Below w.heap.size w WE) := by rw [← hWE]; exact below_four J7.out.bel (by omega) _ _ _ _
      have PE : Hid ((∃ x y, rread s.data.toList t.data.toList = some (x, y) ∧ Fi WE f x y) ∧ (∃ x y, rread s'.data.toList t'.data.toList = some (x, y) ∧ Fi WE h x y)) := by
        obtain ⟨⟨x, y, e1, e2⟩, ⟨x', y', e3, e4⟩⟩ := PD.out
        rw [← hWE]
        exact ⟨⟨x, y, e1, e2.set J7.out.r f⟩, ⟨x', y', e3, e4.set J7.out.r f⟩⟩
      unfold fourq four at hWE
      rw [hWE]
      refine hK.out _ _ hT (fun _ => ?_)
      clear hK K hS hWE N7 K7 J7 PD
      have hS := hT
      clear hT
      try simp only [Act.put, List.setIfInBounds_toArray, List.set_cons_zero, List.set_cons_succ]
      refine wpAnyH_ready (rs := [3]) (by kernel_rfl) (by simp) ?_
      refine AllReadyH.cons rfl (fun K hK => ?_) AllReadyH.nil
      have q0 := Q8.c0
      have q1 := Q8.c1
      have q2 := Q8.c2
      have q3 := Q8.c3
      have g0 := Q8.fr 0
      have g1 := Q8.fr 1
      have g2 := Q8.fr 2
      have g3 := Q8.fr 3
      simp only [Fq.z] at q0 q1 q2 q3
      go_simp
      clear q0 q1 q2 q3 g0 g1 g2 g3
      obtain ⟨WF, hWF⟩ : ∃ WF, fourq WE (w.heap.size + 1 + 1 + 1) h = WF := ⟨_, rfl⟩
      have hT : S8 gf gh f h WF := by rw [← hWF]; exact S8.of (N8.out.other (by omega) _ _ _ _) (K8.out.other (by omega) _ _ _ _)
      have R9 : B4q WF (w.heap.size + 1 + 1) f := by rw [← hWF]; exact R8.other (by omega) _ _ _ _
      have Q9 : B4q WF (w.heap.size + 1 + 1 + 1) h := by rw [← hWF]; exact Q8.set _ _ _ _
      have PP : Hid (FsPost s.data.toList t.data.toList s'.data.toList t'.data.toList w (.returned (.tuple #[f.v, h.v, .int .i64 0])) WF) := by
        obtain ⟨⟨x, y, e1, e2⟩, ⟨x', y', e3, e4⟩⟩ := PE.out
        rw [← hWF]
        exact ⟨_, _, _, rfl, below_four B8.out (by omega) _ _ _ _, .inl ⟨rfl, x, y, x', y', e1, e3, e2.set Q8 h, e4.set Q8 h⟩⟩
      unfold fourq four at hWF
      rw [hWF]
      refine hK.out _ _ hT (fun _ => ?_)
      clear hK K hS hWF N8 K8 R8 Q8 PE
      have hS := hT
      clear hT
      try simp only [Act.put, List.setIfInBounds_toArray, List.set_cons_zero, List.set_cons_succ]
      refine wpAnyH_take (i := 4) (v := ?v4z31) rfl (by kernel_rfl) (by kernel_rfl) (by kernel_rfl) (fun _ _ _ h => h) (Or.inl ⟨by rfl, ?hy4z31⟩) (by assumption) ?rest4z31
      case hy4z31 =>
        intro w hSw
        dsimp only [S8] at hSw
        go_simp
        try with_reducible rfl
      simp only [Act.put, List.getElem_toArray, List.getElem_cons_succ, List.getElem_cons_zero, List.setIfInBounds_toArray, List.set_cons_zero, List.set_cons_succ]
      refine wpAnyH_done (by kernel_rfl) ?_ _
      refine NoPanic.normal ?_
      obtain ⟨r0, r1, r2, r3, _, _⟩ := id R9
      obtain ⟨p0, p1, p2, p3, _, _⟩ := id Q9
      clear hS R9 Q9
      go_wp2_with fail
      exact bodyPost_ret (v := .tuple #[.agg #[.bool f.b, .slice f.a f.k f.c, .bool f.b', .slice f.a' f.k' f.c'], .agg #[.bool h.b, .slice h.a h.k h.c, .bool h.b', .slice h.a' h.k' h.c'], .int .i64 0]) (by simp [results, Tryz.results34, go_sem, r0, r1, r2, r3, p0, p1, p2, p3]) rfl PP.out
    · have PF : Hid (flt2 ≠ 0 ∧ ((rread s.data.toList t.data.toList = none ∧ flt2 = rflt s.data.toList t.data.toList) ∨ (∃ p, rread s.data.toList t.data.toList = some p) ∧ rread s'.data.toList t'.data.toList = none ∧ flt2 = rflt s'.data.toList t'.data.toList)) := by
        obtain ⟨x, y, e1, _⟩ := F6.out
        exact ⟨hz2, .inr ⟨⟨_, e1⟩, (P2.out.resolve_left (fun q => hz2 q.1)).2⟩⟩
      have hne : (flt2 == 0) = false := by rw [beq_eq_false_iff_ne]; exact hz2
      have hne2 : (flt2 != 0) = true := by simp [hz2]
      clear hz2 P2 F6 H6 N6
      have hY : B4q (fourq W6 (w.heap.size + 1 + 1) Fq.z) (w.heap.size + 1 + 1 + 1) Fq.z := J6.out.q.other (by omega) _ _ _ _
      obtain ⟨W9, hW9⟩ : ∃ W9, fourq (fourq W6 (w.heap.size + 1 + 1) Fq.z) (w.heap.size + 1 + 1 + 1) Fq.z = W9 := ⟨_, rfl⟩
      have R9 : B4q W9 (w.heap.size + 1 + 1) Fq.z := by rw [← hW9]; exact (J6.out.r.set _ _ _ _).other (by omega) _ _ _ _
      have Q9 : B4q W9 (w.heap.size + 1 + 1 + 1) Fq.z := by rw [← hW9]; exact hY.set _ _ _ _
      have PP : Hid (FsPost s.data.toList t.data.toList s'.data.toList t'.data.toList w (.returned (.tuple #[Fq.z.v, Fq.z.v, .int .i64 flt2])) W9) := by
        rw [← hW9]
        exact ⟨_, _, _, rfl, below_four (below_four J6.out.bel (by omega) _ _ _ _) (by omega) _ _ _ _, .inr PF.out⟩
      have q0 := J6.out.r.c0
      have q1 := J6.out.r.c1
      have q2 := J6.out.r.c2
      have q3 := J6.out.r.c3
      have g0 := J6.out.r.fr 0
      have g1 := J6.out.r.fr 1
      have g2 := J6.out.r.fr 2
      have g3 := J6.out.r.fr 3
      have z0 := J6.out.q.c0
      have z1 := J6.out.q.c1
      have z2 := J6.out.q.c2
      have z3 := J6.out.q.c3
      have y0 := J6.out.q.fr 0
      have y1 := J6.out.q.fr 1
      have y2 := J6.out.q.fr 2
      have y3 := J6.out.q.fr 3
      obtain ⟨r0, r1, r2, r3, _, _⟩ := id R9
      obtain ⟨p0, p1, p2, p3, _, _⟩ := id Q9
      unfold fourq four at hW9
      clear R9 Q9 hY
      simp only [Fq.z] at *
      go_wp2_with fail
      exact bodyPost_ret (v := .tuple #[.agg #[.bool false, .slice none 0 0, .bool false, .slice none 0 0], .agg #[.bool false, .slice none 0 0, .bool false, .slice none 0 0], .int .i64 flt2]) (by simp [results, Tryz.results34, go_sem, r0, r1, r2, r3, p0, p1, p2, p3]) rfl PP.out
  · have PF : Hid (flt ≠ 0 ∧ ((rread s.data.toList t.data.toList = none ∧ flt = rflt s.data.toList t.data.toList) ∨ (∃ p, rread s.data.toList t.data.toList = some p) ∧ rread s'.data.toList t'.data.toList = none ∧ flt = rflt s'.data.toList t'.data.toList)) :=
      ⟨hz, .inl (P1.out.resolve_left (fun q => hz q.1)).2⟩
    have hne : (flt == 0) = false := by rw [beq_eq_false_iff_ne]; exact hz
    have hne2 : (flt != 0) = true := by simp [hz]
    clear hz P1 F3 H2 y0' y1'
    have hY : B4q (fourq W3 (w.heap.size + 1 + 1) Fq.z) (w.heap.size + 1 + 1 + 1) Fq.z := J3.out.q.other (by omega) _ _ _ _
    obtain ⟨W9, hW9⟩ : ∃ W9, fourq (fourq W3 (w.heap.size + 1 + 1) Fq.z) (w.heap.size + 1 + 1 + 1) Fq.z = W9 := ⟨_, rfl⟩
    have R9 : B4q W9 (w.heap.size + 1 + 1) Fq.z := by rw [← hW9]; exact (J3.out.r.set _ _ _ _).other (by omega) _ _ _ _
    have Q9 : B4q W9 (w.heap.size + 1 + 1 + 1) Fq.z := by rw [← hW9]; exact hY.set _ _ _ _
    have PP : Hid (FsPost s.data.toList t.data.toList s'.data.toList t'.data.toList w (.returned (.tuple #[Fq.z.v, Fq.z.v, .int .i64 flt])) W9) := by
      rw [← hW9]
      exact ⟨_, _, _, rfl, below_four (below_four J3.out.bel (by omega) _ _ _ _) (by omega) _ _ _ _, .inr PF.out⟩
    have q0 := J3.out.r.c0
    have q1 := J3.out.r.c1
    have q2 := J3.out.r.c2
    have q3 := J3.out.r.c3
    have g0 := J3.out.r.fr 0
    have g1 := J3.out.r.fr 1
    have g2 := J3.out.r.fr 2
    have g3 := J3.out.r.fr 3
    have z0 := J3.out.q.c0
    have z1 := J3.out.q.c1
    have z2 := J3.out.q.c2
    have z3 := J3.out.q.c3
    have y0 := J3.out.q.fr 0
    have y1 := J3.out.q.fr 1
    have y2 := J3.out.q.fr 2
    have y3 := J3.out.q.fr 3
    obtain ⟨r0, r1, r2, r3, _, _⟩ := id R9
    obtain ⟨p0, p1, p2, p3, _, _⟩ := id Q9
    unfold fourq four at hW9
    clear R9 Q9 hY
    simp only [Fq.z] at *
    go_wp2_with fail
    exact bodyPost_ret (v := .tuple #[.agg #[.bool false, .slice none 0 0, .bool false, .slice none 0 0], .agg #[.bool false, .slice none 0 0, .bool false, .slice none 0 0], .int .i64 flt]) (by simp [results, Tryz.results34, go_sem, r0, r1, r2, r3, p0, p1, p2, p3]) rfl PP.out
end Go.Proofs.YtdkphfafcmogmaaGreatDoor
namespace Go.Proofs.YtdkphfafcmogmaaGreatDoor
open Go.RowKit

/-- A fraction in lowest terms. -/
def red (n d : Int) : Int × Int := (n.tdiv (ovG n d), d.tdiv (ovG n d))
theorem tdiv_abs_le (a b : Int) : (a.tdiv b).natAbs ≤ a.natAbs := by
  rw [Int.natAbs_tdiv]; exact Nat.div_le_self _ _
theorem red_pos {n d : Int} (h : d ≠ 0) : 0 < (red n d).2 := by
  have hg : 0 < Int.gcd n d := Int.gcd_pos_of_ne_zero_right n h
  obtain ⟨k, hk⟩ : (Int.gcd n d : Int) ∣ d := Int.gcd_dvd_right n d
  show 0 < d.tdiv (ovG n d)
  by_cases hd : d < 0
  · have e : ovG n d = -(Int.gcd n d : Int) := by unfold ovG; rw [if_pos hd]
    rw [e]
    generalize Int.gcd n d = g at *
    have hgz : (g : Int) ≠ 0 := by omega
    rw [Int.tdiv_neg, hk, Int.mul_tdiv_cancel_left _ hgz]
    have h2 : (g : Int) * k < 0 := by rw [← hk]; exact hd
    rcases Int.lt_or_le k 0 with h | h
    · omega
    · have := Int.mul_nonneg (show (0 : Int) ≤ g by omega) h
      omega
  · have e : ovG n d = (Int.gcd n d : Int) := by unfold ovG; rw [if_neg hd]
    rw [e]
    generalize Int.gcd n d = g at *
    have hgz : (g : Int) ≠ 0 := by omega
    rw [hk, Int.mul_tdiv_cancel_left _ hgz]
    have h2 : 0 < (g : Int) * k := by rw [← hk]; omega
    rcases Int.lt_or_le 0 k with h | h
    · exact h
    · have := Int.mul_nonneg (show (0 : Int) ≤ g by omega) (show 0 ≤ -k by omega)
      rw [Int.mul_neg] at this
      omega
/-- The texts of a fraction's lowest terms. -/
def raR (n d : Int) : ByteArray × ByteArray × Int := ra (red n d).1 (red n d).2
/-- An operation on two ratios. -/
def opS (F : Int → Int → Int → Int → Int × Int) (n d n' d' : List UInt8) : ByteArray × ByteArray × Int :=
  match rread n d with
  | none => (⟨#[]⟩, ⟨#[]⟩, rflt n d)
  | some (x, y) => match rread n' d' with
    | none => (⟨#[]⟩, ⟨#[]⟩, rflt n' d')
    | some (x', y') => raR (F x y x' y').1 (F x y x' y').2
def OpPost (r : ByteArray × ByteArray × Int) (w : World) (e : Ending) (w' : World) : Prop := e = .returned (.tuple #[.agg #[.string r.1, .string r.2.1], .int .i64 r.2.2]) ∧ Below w.heap.size w w'
def fSum (x y x' y' : Int) : Int × Int := (x * y' + x' * y, y * y')
def fMul (x y x' y' : Int) : Int × Int := (x * x', y * y')
/-- The boxes of Sum: arguments, result, fractions. -/
structure Sb (w : World) (gf gh : Nat) (s t s' t' : ByteArray) (f h : Fq) (W : World) : Prop where
  x : B2 W w.heap.size (.string s) (.string t)
  y : B2 W (w.heap.size + 1) (.string s') (.string t')
  r : B2 W (w.heap.size + 1 + 1) (.string ⟨#[]⟩) (.string ⟨#[]⟩)
  f : B4q W gf f
  h : B4q W gh h
  bel : Below w.heap.size w W
theorem Sb.keep {w : World} {gf gh : Nat} {s t s' t' : ByteArray} {f h : Fq} {W W' : World} (j : Sb w gf gh s t s' t' f h W) (hb : Below W.heap.size W W') : Sb w gf gh s t s' t' f h W' :=
  ⟨j.x.keep hb, j.y.keep hb, j.r.keep hb, j.f.keep hb, j.h.keep hb, j.bel.trans (hb.mono j.bel.size)⟩
/-- The boxes of the arguments and of the result, made. -/
structure Sa (w : World) (s t s' t' : ByteArray) (W : World) : Prop where
  x : B2 W w.heap.size (.string s) (.string t)
  y : B2 W (w.heap.size + 1) (.string s') (.string t')
  r : B2 W (w.heap.size + 1 + 1) (.string ⟨#[]⟩) (.string ⟨#[]⟩)
  bel : Below w.heap.size w W
theorem Sa.keep {w : World} {s t s' t' : ByteArray} {W W' : World} (j : Sa w s t s' t' W) (hb : Below W.heap.size W W') : Sa w s t s' t' W' :=
  ⟨j.x.keep hb, j.y.keep hb, j.r.keep hb, j.bel.trans (hb.mono j.bel.size)⟩
theorem Sa.made (w : World) (s t s' t' : ByteArray) (T1 T2 T3 : TypeId) :
    Sa w s t s' t' (((w.alloc (.cells #[.string s, .string t] T1)).alloc (.cells #[.string s', .string t'] T2)).alloc (.cells #[.string ⟨#[]⟩, .string ⟨#[]⟩] T3)) := by
  have s1 : (w.alloc (.cells #[.string s, .string t] T1)).heap.size = w.heap.size + 1 := by simp
  have s2 : ((w.alloc (.cells #[.string s, .string t] T1)).alloc (.cells #[.string s', .string t'] T2)).heap.size = w.heap.size + 1 + 1 := by simp
  refine ⟨((B2.made w _ _ T1).keep (bel_one _ _)).keep (bel_one _ _), ?_, ?_, (((Below.refl _ _).alloc (Nat.le_refl _) _).alloc (by simp) _).alloc (by simp; omega) _⟩
  · rw [← s1]; exact (B2.made _ _ _ T2).keep (bel_one _ _)
  · rw [← s2]; exact B2.made _ _ _ T3
/-- Two fractions are laid into two fresh boxes. -/
def laid (W : World) (f h : Fq) (T : TypeId) : World :=
  fourq (fourq ((W.alloc (.cells #[.bool false, .slice none 0 0, .bool false, .slice none 0 0] T)).alloc (.cells #[.bool false, .slice none 0 0, .bool false, .slice none 0 0] T)) W.heap.size f) (W.heap.size + 1) h
theorem laid_is {W : World} (f h : Fq) (T : TypeId) : Below W.heap.size W (laid W f h T) ∧ B4q (laid W f h T) W.heap.size f ∧ B4q (laid W f h T) (W.heap.size + 1) h ∧
    (∀ q x y, Fi W q x y → Fi (laid W f h T) q x y) := by
  have s1 : (W.alloc (.cells #[.bool false, .slice none 0 0, .bool false, .slice none 0 0] T)).heap.size = W.heap.size + 1 := by simp
  have hb : Below W.heap.size W ((W.alloc (.cells #[.bool false, .slice none 0 0, .bool false, .slice none 0 0] T)).alloc (.cells #[.bool false, .slice none 0 0, .bool false, .slice none 0 0] T)) := ((Below.refl _ _).alloc (Nat.le_refl _) _).alloc (by simp) _
  have d1 : B4q ((W.alloc (.cells #[.bool false, .slice none 0 0, .bool false, .slice none 0 0] T)).alloc (.cells #[.bool false, .slice none 0 0, .bool false, .slice none 0 0] T)) W.heap.size Fq.z := (B4.made W _ _ _ _ T).keep (bel_one _ _)
  have d2 : B4q ((W.alloc (.cells #[.bool false, .slice none 0 0, .bool false, .slice none 0 0] T)).alloc (.cells #[.bool false, .slice none 0 0, .bool false, .slice none 0 0] T)) (W.heap.size + 1) Fq.z := by rw [← s1]; exact B4.made _ _ _ _ _ T
  have d3 : B4q (fourq ((W.alloc (.cells #[.bool false, .slice none 0 0, .bool false, .slice none 0 0] T)).alloc (.cells #[.bool false, .slice none 0 0, .bool false, .slice none 0 0] T)) W.heap.size f) (W.heap.size + 1) Fq.z := d2.other (by omega) _ _ _ _
  exact ⟨below_four (below_four hb (Nat.le_refl _) _ _ _ _) (by omega) _ _ _ _, (d1.set _ _ _ _).other (by omega) _ _ _ _, d3.set _ _ _ _, fun q x y hq => ((hq.below hb).set d1 f).set d3 h⟩
theorem fSum_bd (x y x' y' : Int) (n1 : x.natAbs < bp 400) (o1 : y.natAbs < bp 400) (n2 : x'.natAbs < bp 400) (o2 : y'.natAbs < bp 400) : (fSum x y x' y').1.natAbs < bp 2000 ∧ (fSum x y x' y').2.natAbs < bp 2000 :=
  ⟨bpz_add (bpz_mul n1 o2 (show 400 + 400 ≤ 800 by decide)) (bpz_mul n2 o1 (show 400 + 400 ≤ 800 by decide)) (show 800 + 1 ≤ 2000 by decide), bpz_mul o1 o2 (show 400 + 400 ≤ 2000 by decide)⟩
theorem fMul_bd (x y x' y' : Int) (n1 : x.natAbs < bp 400) (o1 : y.natAbs < bp 400) (n2 : x'.natAbs < bp 400) (o2 : y'.natAbs < bp 400) : (fMul x y x' y').1.natAbs < bp 2000 ∧ (fMul x y x' y').2.natAbs < bp 2000 :=
  ⟨bpz_mul n1 n2 (show 400 + 400 ≤ 2000 by decide), bpz_mul o1 o2 (show 400 + 400 ≤ 2000 by decide)⟩
def orS (n d n' d' : List UInt8) : Int × Int :=
  match rread n d with
  | none => (0, rflt n d)
  | some (x, y) => match rread n' d' with
    | none => (0, rflt n' d')
    | some (x', y') => (zcmp (x * y') (x' * y), 0)
set_option maxRecDepth 100000 in
set_option maxHeartbeats 4000000 in
theorem Sum_c (s t s' t' : ByteArray) (w : World) :
    Calls Tryz.prog 9 #[.agg #[.string s, .string t], .agg #[.string s', .string t']] w (OpPost (opS fSum s.data.toList t.data.toList s'.data.toList t'.data.toList) w) := by
  obtain ⟨W0, hW0⟩ : ∃ W0, ((w.alloc (.cells #[.string s, .string t] 23)).alloc (.cells #[.string s', .string t'] 23)).alloc (.cells #[.string ⟨#[]⟩, .string ⟨#[]⟩] 23) = W0 := ⟨_, rfl⟩
  have J0 : Hid (Sa w s t s' t' W0) := by rw [← hW0]; exact Sa.made _ _ _ _ _ _ _ _
  have x0 := J0.out.x.c0
  have x1 := J0.out.x.c1
  have y0 := J0.out.y.c0
  have y1 := J0.out.y.c1
  have H1 := Lib.hid (fun w => fractionsOf_c s t s' t' w)
  go_enter Tryz.func9, Tryz.ntmps9
  go_wp2_with fail
  clear hW0 x0 x1 y0 y1
  refine (H1.out _).mono ?_
  rintro e w1 ⟨f, h, flt, rfl, b1, hpost⟩
  have P1 := Lib.hid hpost
  have J1 := Lib.hid (J0.out.keep b1)
  clear b1 hpost H1
  have LD := laid_is (W := w1) f h 46
  obtain ⟨W5, hW5⟩ : ∃ W5, laid w1 f h 46 = W5 := ⟨_, rfl⟩
  rw [hW5] at LD
  have L5 := Lib.hid LD
  clear LD
  -- the walk meets the two boxes one after the other
  obtain ⟨WA, hWA⟩ : ∃ WA, (w1.alloc (.cells #[.bool false, .slice none 0 0, .bool false, .slice none 0 0] 46)).alloc (.cells #[.bool false, .slice none 0 0, .bool false, .slice none 0 0] 46) = WA := ⟨_, rfl⟩
  have s1 : (w1.alloc (.cells #[.bool false, .slice none 0 0, .bool false, .slice none 0 0] 46)).heap.size = w1.heap.size + 1 := by simp
  have D1 : B4q WA w1.heap.size Fq.z := by rw [← hWA]; exact (B4.made _ _ _ _ _ _).keep (bel_one _ _)
  have D2 : B4q WA (w1.heap.size + 1) Fq.z := by rw [← hWA, ← s1]; exact B4.made _ _ _ _ _ _
  have hW5' : fourq (fourq WA w1.heap.size f) (w1.heap.size + 1) h = W5 := by rw [← hW5, ← hWA]; rfl
  clear hW5 s1
  have a0 := D1.c0
  have a1 := D1.c1
  have a2 := D1.c2
  have a3 := D1.c3
  have af0 := D1.fr 0
  have af1 := D1.fr 1
  have af2 := D1.fr 2
  have af3 := D1.fr 3
  have b0 := D2.c0
  have b1 := D2.c1
  have b2 := D2.c2
  have b3 := D2.c3
  have bf0 := D2.fr 0
  have bf1 := D2.fr 1
  have bf2 := D2.fr 2
  have bf3 := D2.fr 3
  clear D1 D2
  simp only [Fq.z] at a0 a1 a2 a3 b0 b1 b2 b3
  unfold fourq four at hW5'
  by_cases hz : flt = 0
  · subst hz
    obtain ⟨x, y, x', y', e1, e2, i1, i2⟩ := (P1.out.resolve_right (fun q => q.1 rfl)).2
    have I1 := Lib.hid (L5.out.2.2.2 f x y i1)
    have I2 := Lib.hid (L5.out.2.2.2 h x' y' i2)
    have RS : Hid (opS fSum s.data.toList t.data.toList s'.data.toList t'.data.toList = raR (fSum x y x' y').1 (fSum x y x' y').2) := by unfold Hid opS; rw [e1, e2]
    have JB5 : Hid (Below w.heap.size w W5) := J1.out.bel.trans (L5.out.1.mono J1.out.bel.size)
    have JR5 := Lib.hid (J1.out.r.keep L5.out.1)
    have p0 := L5.out.2.1.c0
    have p1 := L5.out.2.1.c1
    have p2 := L5.out.2.1.c2
    have p3 := L5.out.2.1.c3
    have q0 := L5.out.2.2.1.c0
    have q1 := L5.out.2.2.1.c1
    have q2 := L5.out.2.2.1.c2
    have q3 := L5.out.2.2.1.c3
    clear e1 e2 i1 i2 P1
    have m4 : bp 125 ≤ bp 400 := bp_mono (by decide)
    have HO := Lib.hid (FPlus_c f.b f.a f.k f.c f.b' f.a' f.k' f.c' h.b h.a h.k h.c h.b' h.a' h.k' h.c' x y x' y' W5 I1.out.n I1.out.d I2.out.n I2.out.d (Nat.lt_of_lt_of_le I1.out.nb m4) (Nat.lt_of_lt_of_le I1.out.db m4) (Nat.lt_of_lt_of_le I2.out.nb m4) (Nat.lt_of_lt_of_le I2.out.db m4) (by have := I1.out.pos; omega) (by have := I2.out.pos; omega))
    clear m4
    go_wp2_with fail
    clear hW5' hWA a0 a1 a2 a3 af0 af1 af2 af3 b0 b1 b2 b3 bf0 bf1 bf2 bf3 p0 p1 p2 p3 q0 q1 q2 q3
    (refine HO.out.mono ?_)
    rintro e w6 ⟨ob, oa, ok, oc, ob', oa', ok', oc', rfl, hn, hd, b6⟩
    have JB6 := Lib.hid (JB5.out.trans (b6.mono JB5.out.size))
    have JR6 := Lib.hid (JR5.out.keep b6)
    have m5 : bp 125 ≤ bp 600 := bp_mono (by decide)
    have bnd := fSum_bd x y x' y' (Nat.lt_of_lt_of_le I1.out.nb (bp_mono (by decide))) (Nat.lt_of_lt_of_le I1.out.db (bp_mono (by decide))) (Nat.lt_of_lt_of_le I2.out.nb (bp_mono (by decide))) (Nat.lt_of_lt_of_le I2.out.db (bp_mono (by decide)))
    have HRO := Lib.hid (ratioOf_c ob oa ok oc ob' oa' ok' oc' _ _ w6 hn hd (Nat.lt_of_le_of_lt (tdiv_abs_le _ _) bnd.1) (Nat.lt_of_le_of_lt (tdiv_abs_le _ _) bnd.2) (red_pos (n := (fSum x y x' y').1) (d := (fSum x y x' y').2) (Int.mul_ne_zero (by have := I1.out.pos; omega) (by have := I2.out.pos; omega))))
    clear hn hd b6 m5 bnd
    go_wp2_with fail
    (refine HRO.out.mono ?_)
    rintro e w7 ⟨rfl, b7⟩
    have JB7 := Lib.hid (JB6.out.trans (b7.mono JB6.out.size))
    have JR7 := Lib.hid (JR6.out.keep b7)
    obtain ⟨rr, hrr⟩ : ∃ rr, ra ((x * y' + x' * y).tdiv (ovG (x * y' + x' * y) (y * y'))) ((y * y').tdiv (ovG (x * y' + x' * y) (y * y'))) = rr := ⟨_, rfl⟩
    have RS2 : Hid (opS fSum s.data.toList t.data.toList s'.data.toList t'.data.toList = rr) := by rw [← hrr]; exact RS.out
    rw [hrr]
    clear b7 hrr HRO RS
    obtain ⟨W9, hW9⟩ : ∃ W9, two w7 (w.heap.size + 1 + 1) (.string rr.1) (.string rr.2.1) = W9 := ⟨_, rfl⟩
    have R9 : B2 W9 (w.heap.size + 1 + 1) (.string rr.1) (.string rr.2.1) := by rw [← hW9]; exact JR7.out.set _ _
    have PP : Hid (OpPost (opS fSum s.data.toList t.data.toList s'.data.toList t'.data.toList) w (.returned (.tuple #[.agg #[.string rr.1, .string rr.2.1], .int .i64 rr.2.2])) W9) := by
      rw [← hW9]
      exact ⟨by rw [RS2.out], below_two JB7.out (by omega) _ _⟩
    have c0 := JR7.out.c0
    have c1 := JR7.out.c1
    have cf0 := JR7.out.fr 0
    have cf1 := JR7.out.fr 1
    obtain ⟨r0, r1, _, _⟩ := id R9
    unfold two at hW9
    clear R9
    go_wp2_with fail
    exact bodyPost_ret (v := .tuple #[.agg #[.string rr.1, .string rr.2.1], .int .i64 rr.2.2]) (by simp [results, Tryz.results9, go_sem, r0, r1]) rfl PP.out
  · have hne : (flt == 0) = false := by rw [beq_eq_false_iff_ne]; exact hz
    have hne2 : (flt != 0) = true := by simp [hz]
    have RS2 : Hid (opS fSum s.data.toList t.data.toList s'.data.toList t'.data.toList = (⟨#[]⟩, ⟨#[]⟩, flt)) := by
      unfold Hid opS
      rcases (P1.out.resolve_left (fun q => hz q.1)).2 with ⟨e1, e2⟩ | ⟨⟨p, e1⟩, e2, e3⟩
      · rw [e1, e2]
      · rw [e1, e2, e3]
    have JB7 : Hid (Below w.heap.size w W5) := J1.out.bel.trans (L5.out.1.mono J1.out.bel.size)
    have JR7 := Lib.hid (J1.out.r.keep L5.out.1)
    clear hz P1 L5 J1
    obtain ⟨W9, hW9⟩ : ∃ W9, two W5 (w.heap.size + 1 + 1) (.string ⟨#[]⟩) (.string ⟨#[]⟩) = W9 := ⟨_, rfl⟩
    have R9 : B2 W9 (w.heap.size + 1 + 1) (.string ⟨#[]⟩) (.string ⟨#[]⟩) := by rw [← hW9]; exact JR7.out.set _ _
    have PP : Hid (OpPost (opS fSum s.data.toList t.data.toList s'.data.toList t'.data.toList) w (.returned (.tuple #[.agg #[.string ⟨#[]⟩, .string ⟨#[]⟩], .int .i64 flt])) W9) := by
      rw [← hW9]
      exact ⟨by rw [RS2.out], below_two JB7.out (by omega) _ _⟩
    have c0 := JR7.out.c0
    have c1 := JR7.out.c1
    have cf0 := JR7.out.fr 0
    have cf1 := JR7.out.fr 1
    obtain ⟨r0, r1, _, _⟩ := id R9
    unfold two at hW9
    clear R9
    go_wp2_with fail
    exact bodyPost_ret (v := .tuple #[.agg #[.string ⟨#[]⟩, .string ⟨#[]⟩], .int .i64 flt]) (by simp [results, Tryz.results9, go_sem, r0, r1]) rfl PP.out
set_option maxRecDepth 100000 in
set_option maxHeartbeats 4000000 in
theorem Product_c (s t s' t' : ByteArray) (w : World) :
    Calls Tryz.prog 11 #[.agg #[.string s, .string t], .agg #[.string s', .string t']] w (OpPost (opS fMul s.data.toList t.data.toList s'.data.toList t'.data.toList) w) := by
  obtain ⟨W0, hW0⟩ : ∃ W0, ((w.alloc (.cells #[.string s, .string t] 23)).alloc (.cells #[.string s', .string t'] 23)).alloc (.cells #[.string ⟨#[]⟩, .string ⟨#[]⟩] 23) = W0 := ⟨_, rfl⟩
  have J0 : Hid (Sa w s t s' t' W0) := by rw [← hW0]; exact Sa.made _ _ _ _ _ _ _ _
  have x0 := J0.out.x.c0
  have x1 := J0.out.x.c1
  have y0 := J0.out.y.c0
  have y1 := J0.out.y.c1
  have H1 := Lib.hid (fun w => fractionsOf_c s t s' t' w)
  go_enter Tryz.func11, Tryz.ntmps11
  go_wp2_with fail
  clear hW0 x0 x1 y0 y1
  refine (H1.out _).mono ?_
  rintro e w1 ⟨f, h, flt, rfl, b1, hpost⟩
  have P1 := Lib.hid hpost
  have J1 := Lib.hid (J0.out.keep b1)
  clear b1 hpost H1
  have LD := laid_is (W := w1) f h 46
  obtain ⟨W5, hW5⟩ : ∃ W5, laid w1 f h 46 = W5 := ⟨_, rfl⟩
  rw [hW5] at LD
  have L5 := Lib.hid LD
  clear LD
  -- the walk meets the two boxes one after the other
  obtain ⟨WA, hWA⟩ : ∃ WA, (w1.alloc (.cells #[.bool false, .slice none 0 0, .bool false, .slice none 0 0] 46)).alloc (.cells #[.bool false, .slice none 0 0, .bool false, .slice none 0 0] 46) = WA := ⟨_, rfl⟩
  have s1 : (w1.alloc (.cells #[.bool false, .slice none 0 0, .bool false, .slice none 0 0] 46)).heap.size = w1.heap.size + 1 := by simp
  have D1 : B4q WA w1.heap.size Fq.z := by rw [← hWA]; exact (B4.made _ _ _ _ _ _).keep (bel_one _ _)
  have D2 : B4q WA (w1.heap.size + 1) Fq.z := by rw [← hWA, ← s1]; exact B4.made _ _ _ _ _ _
  have hW5' : fourq (fourq WA w1.heap.size f) (w1.heap.size + 1) h = W5 := by rw [← hW5, ← hWA]; rfl
  clear hW5 s1
  have a0 := D1.c0
  have a1 := D1.c1
  have a2 := D1.c2
  have a3 := D1.c3
  have af0 := D1.fr 0
  have af1 := D1.fr 1
  have af2 := D1.fr 2
  have af3 := D1.fr 3
  have b0 := D2.c0
  have b1 := D2.c1
  have b2 := D2.c2
  have b3 := D2.c3
  have bf0 := D2.fr 0
  have bf1 := D2.fr 1
  have bf2 := D2.fr 2
  have bf3 := D2.fr 3
  clear D1 D2
  simp only [Fq.z] at a0 a1 a2 a3 b0 b1 b2 b3
  unfold fourq four at hW5'
  by_cases hz : flt = 0
  · subst hz
    obtain ⟨x, y, x', y', e1, e2, i1, i2⟩ := (P1.out.resolve_right (fun q => q.1 rfl)).2
    have I1 := Lib.hid (L5.out.2.2.2 f x y i1)
    have I2 := Lib.hid (L5.out.2.2.2 h x' y' i2)
    have RS : Hid (opS fMul s.data.toList t.data.toList s'.data.toList t'.data.toList = raR (fMul x y x' y').1 (fMul x y x' y').2) := by unfold Hid opS; rw [e1, e2]
    have JB5 : Hid (Below w.heap.size w W5) := J1.out.bel.trans (L5.out.1.mono J1.out.bel.size)
    have JR5 := Lib.hid (J1.out.r.keep L5.out.1)
    have p0 := L5.out.2.1.c0
    have p1 := L5.out.2.1.c1
    have p2 := L5.out.2.1.c2
    have p3 := L5.out.2.1.c3
    have q0 := L5.out.2.2.1.c0
    have q1 := L5.out.2.2.1.c1
    have q2 := L5.out.2.2.1.c2
    have q3 := L5.out.2.2.1.c3
    clear e1 e2 i1 i2 P1
    have m4 : bp 125 ≤ bp 400 := bp_mono (by decide)
    have HO := Lib.hid (FTimes_c f.b f.a f.k f.c f.b' f.a' f.k' f.c' h.b h.a h.k h.c h.b' h.a' h.k' h.c' x y x' y' W5 I1.out.n I1.out.d I2.out.n I2.out.d (Nat.lt_of_lt_of_le I1.out.nb m4) (Nat.lt_of_lt_of_le I1.out.db m4) (Nat.lt_of_lt_of_le I2.out.nb m4) (Nat.lt_of_lt_of_le I2.out.db m4) (by have := I1.out.pos; omega) (by have := I2.out.pos; omega))
    clear m4
    go_wp2_with fail
    clear hW5' hWA a0 a1 a2 a3 af0 af1 af2 af3 b0 b1 b2 b3 bf0 bf1 bf2 bf3 p0 p1 p2 p3 q0 q1 q2 q3
    (refine HO.out.mono ?_)
    rintro e w6 ⟨ob, oa, ok, oc, ob', oa', ok', oc', rfl, hn, hd, b6⟩
    have JB6 := Lib.hid (JB5.out.trans (b6.mono JB5.out.size))
    have JR6 := Lib.hid (JR5.out.keep b6)
    have m5 : bp 125 ≤ bp 600 := bp_mono (by decide)
    have bnd := fMul_bd x y x' y' (Nat.lt_of_lt_of_le I1.out.nb (bp_mono (by decide))) (Nat.lt_of_lt_of_le I1.out.db (bp_mono (by decide))) (Nat.lt_of_lt_of_le I2.out.nb (bp_mono (by decide))) (Nat.lt_of_lt_of_le I2.out.db (bp_mono (by decide)))
    have HRO := Lib.hid (ratioOf_c ob oa ok oc ob' oa' ok' oc' _ _ w6 hn hd (Nat.lt_of_le_of_lt (tdiv_abs_le _ _) bnd.1) (Nat.lt_of_le_of_lt (tdiv_abs_le _ _) bnd.2) (red_pos (n := (fMul x y x' y').1) (d := (fMul x y x' y').2) (Int.mul_ne_zero (by have := I1.out.pos; omega) (by have := I2.out.pos; omega))))
    clear hn hd b6 m5 bnd
    go_wp2_with fail
    (refine HRO.out.mono ?_)
    rintro e w7 ⟨rfl, b7⟩
    have JB7 := Lib.hid (JB6.out.trans (b7.mono JB6.out.size))
    have JR7 := Lib.hid (JR6.out.keep b7)
    obtain ⟨rr, hrr⟩ : ∃ rr, ra ((x * x').tdiv (ovG (x * x') (y * y'))) ((y * y').tdiv (ovG (x * x') (y * y'))) = rr := ⟨_, rfl⟩
    have RS2 : Hid (opS fMul s.data.toList t.data.toList s'.data.toList t'.data.toList = rr) := by rw [← hrr]; exact RS.out
    rw [hrr]
    clear b7 hrr HRO RS
    obtain ⟨W9, hW9⟩ : ∃ W9, two w7 (w.heap.size + 1 + 1) (.string rr.1) (.string rr.2.1) = W9 := ⟨_, rfl⟩
    have R9 : B2 W9 (w.heap.size + 1 + 1) (.string rr.1) (.string rr.2.1) := by rw [← hW9]; exact JR7.out.set _ _
    have PP : Hid (OpPost (opS fMul s.data.toList t.data.toList s'.data.toList t'.data.toList) w (.returned (.tuple #[.agg #[.string rr.1, .string rr.2.1], .int .i64 rr.2.2])) W9) := by
      rw [← hW9]
      exact ⟨by rw [RS2.out], below_two JB7.out (by omega) _ _⟩
    have c0 := JR7.out.c0
    have c1 := JR7.out.c1
    have cf0 := JR7.out.fr 0
    have cf1 := JR7.out.fr 1
    obtain ⟨r0, r1, _, _⟩ := id R9
    unfold two at hW9
    clear R9
    go_wp2_with fail
    exact bodyPost_ret (v := .tuple #[.agg #[.string rr.1, .string rr.2.1], .int .i64 rr.2.2]) (by simp [results, Tryz.results11, go_sem, r0, r1]) rfl PP.out
  · have hne : (flt == 0) = false := by rw [beq_eq_false_iff_ne]; exact hz
    have hne2 : (flt != 0) = true := by simp [hz]
    have RS2 : Hid (opS fMul s.data.toList t.data.toList s'.data.toList t'.data.toList = (⟨#[]⟩, ⟨#[]⟩, flt)) := by
      unfold Hid opS
      rcases (P1.out.resolve_left (fun q => hz q.1)).2 with ⟨e1, e2⟩ | ⟨⟨p, e1⟩, e2, e3⟩
      · rw [e1, e2]
      · rw [e1, e2, e3]
    have JB7 : Hid (Below w.heap.size w W5) := J1.out.bel.trans (L5.out.1.mono J1.out.bel.size)
    have JR7 := Lib.hid (J1.out.r.keep L5.out.1)
    clear hz P1 L5 J1
    obtain ⟨W9, hW9⟩ : ∃ W9, two W5 (w.heap.size + 1 + 1) (.string ⟨#[]⟩) (.string ⟨#[]⟩) = W9 := ⟨_, rfl⟩
    have R9 : B2 W9 (w.heap.size + 1 + 1) (.string ⟨#[]⟩) (.string ⟨#[]⟩) := by rw [← hW9]; exact JR7.out.set _ _
    have PP : Hid (OpPost (opS fMul s.data.toList t.data.toList s'.data.toList t'.data.toList) w (.returned (.tuple #[.agg #[.string ⟨#[]⟩, .string ⟨#[]⟩], .int .i64 flt])) W9) := by
      rw [← hW9]
      exact ⟨by rw [RS2.out], below_two JB7.out (by omega) _ _⟩
    have c0 := JR7.out.c0
    have c1 := JR7.out.c1
    have cf0 := JR7.out.fr 0
    have cf1 := JR7.out.fr 1
    obtain ⟨r0, r1, _, _⟩ := id R9
    unfold two at hW9
    clear R9
    go_wp2_with fail
    exact bodyPost_ret (v := .tuple #[.agg #[.string ⟨#[]⟩, .string ⟨#[]⟩], .int .i64 flt]) (by simp [results, Tryz.results11, go_sem, r0, r1]) rfl PP.out
set_option maxRecDepth 100000 in
set_option maxHeartbeats 4000000 in
theorem Order_c (s t s' t' : ByteArray) (w : World) :
    Calls Tryz.prog 15 #[.agg #[.string s, .string t], .agg #[.string s', .string t']] w fun e w' => e = .returned (.tuple #[.int .i64 (orS s.data.toList t.data.toList s'.data.toList t'.data.toList).1, .int .i64 (orS s.data.toList t.data.toList s'.data.toList t'.data.toList).2]) ∧ Below w.heap.size w w' := by
  obtain ⟨W0, hW0⟩ : ∃ W0, (w.alloc (.cells #[.string s, .string t] 23)).alloc (.cells #[.string s', .string t'] 23) = W0 := ⟨_, rfl⟩
  have s1 : (w.alloc (.cells #[.string s, .string t] 23)).heap.size = w.heap.size + 1 := by simp
  have X0 : B2 W0 w.heap.size (.string s) (.string t) := by rw [← hW0]; exact (B2.made w _ _ _).keep (bel_one _ _)
  have Y0 : B2 W0 (w.heap.size + 1) (.string s') (.string t') := by rw [← hW0, ← s1]; exact B2.made _ _ _ _
  have BB0 : Hid (Below w.heap.size w W0) := by rw [← hW0]; exact ((Below.refl _ _).alloc (Nat.le_refl _) _).alloc (by simp) _
  have x0 := X0.c0
  have x1 := X0.c1
  have y0 := Y0.c0
  have y1 := Y0.c1
  clear X0 Y0 s1
  have H1 := Lib.hid (fun w => fractionsOf_c s t s' t' w)
  go_enter Tryz.func15, Tryz.ntmps15
  go_wp2_with fail
  clear hW0 x0 x1 y0 y1
  refine (H1.out _).mono ?_
  rintro e w1 ⟨f, h, flt, rfl, b1, hpost⟩
  have P1 := Lib.hid hpost
  have J1 := Lib.hid (BB0.out.trans (b1.mono BB0.out.size))
  clear b1 hpost H1
  have LD := laid_is (W := w1) f h 46
  obtain ⟨W5, hW5⟩ : ∃ W5, laid w1 f h 46 = W5 := ⟨_, rfl⟩
  rw [hW5] at LD
  have L5 := Lib.hid LD
  clear LD
  -- the walk meets the two boxes one after the other
  obtain ⟨WA, hWA⟩ : ∃ WA, (w1.alloc (.cells #[.bool false, .slice none 0 0, .bool false, .slice none 0 0] 46)).alloc (.cells #[.bool false, .slice none 0 0, .bool false, .slice none 0 0] 46) = WA := ⟨_, rfl⟩
  have s1 : (w1.alloc (.cells #[.bool false, .slice none 0 0, .bool false, .slice none 0 0] 46)).heap.size = w1.heap.size + 1 := by simp
  have D1 : B4q WA w1.heap.size Fq.z := by rw [← hWA]; exact (B4.made _ _ _ _ _ _).keep (bel_one _ _)
  have D2 : B4q WA (w1.heap.size + 1) Fq.z := by rw [← hWA, ← s1]; exact B4.made _ _ _ _ _ _
  have hW5' : fourq (fourq WA w1.heap.size f) (w1.heap.size + 1) h = W5 := by rw [← hW5, ← hWA]; rfl
  clear hW5 s1
  have a0 := D1.c0
  have a1 := D1.c1
  have a2 := D1.c2
  have a3 := D1.c3
  have af0 := D1.fr 0
  have af1 := D1.fr 1
  have af2 := D1.fr 2
  have af3 := D1.fr 3
  have b0 := D2.c0
  have b1 := D2.c1
  have b2 := D2.c2
  have b3 := D2.c3
  have bf0 := D2.fr 0
  have bf1 := D2.fr 1
  have bf2 := D2.fr 2
  have bf3 := D2.fr 3
  clear D1 D2
  simp only [Fq.z] at a0 a1 a2 a3 b0 b1 b2 b3
  unfold fourq four at hW5'
  by_cases hz : flt = 0
  · subst hz
    obtain ⟨x, y, x', y', e1, e2, i1, i2⟩ := (P1.out.resolve_right (fun q => q.1 rfl)).2
    have I1 := Lib.hid (L5.out.2.2.2 f x y i1)
    have I2 := Lib.hid (L5.out.2.2.2 h x' y' i2)
    have RS : Hid (orS s.data.toList t.data.toList s'.data.toList t'.data.toList = (zcmp (x * y') (x' * y), 0)) := by unfold Hid orS; rw [e1, e2]
    have JB5 : Hid (Below w.heap.size w W5) := J1.out.trans (L5.out.1.mono J1.out.size)
    have p0 := L5.out.2.1.c0
    have p1 := L5.out.2.1.c1
    have p2 := L5.out.2.1.c2
    have p3 := L5.out.2.1.c3
    have q0 := L5.out.2.2.1.c0
    have q1 := L5.out.2.2.1.c1
    have q2 := L5.out.2.2.1.c2
    have q3 := L5.out.2.2.1.c3
    clear e1 e2 i1 i2 P1
    have m4 : bp 125 ≤ bp 400 := bp_mono (by decide)
    have HO := Lib.hid (FCompare_c f.b f.a f.k f.c f.b' f.a' f.k' f.c' h.b h.a h.k h.c h.b' h.a' h.k' h.c' x y x' y' W5 I1.out.n I1.out.d I2.out.n I2.out.d (Nat.lt_of_lt_of_le I1.out.nb m4) (Nat.lt_of_lt_of_le I1.out.db m4) (Nat.lt_of_lt_of_le I2.out.nb m4) (Nat.lt_of_lt_of_le I2.out.db m4))
    clear m4
    go_wp2_with fail
    clear hW5' hWA a0 a1 a2 a3 af0 af1 af2 af3 b0 b1 b2 b3 bf0 bf1 bf2 bf3 p0 p1 p2 p3 q0 q1 q2 q3
    (with_reducible refine HO.out.mono ?_)
    rintro e w6 ⟨rfl, b6⟩
    have PP : Hid (Below w.heap.size w w6) := JB5.out.trans (b6.mono JB5.out.size)
    clear b6
    go_wp2_with fail
    go_ret2
    exact ⟨by rw [RS.out]; rfl, PP.out⟩
  · have hne : (flt == 0) = false := by rw [beq_eq_false_iff_ne]; exact hz
    have hne2 : (flt != 0) = true := by simp [hz]
    have RS : Hid (orS s.data.toList t.data.toList s'.data.toList t'.data.toList = (0, flt)) := by
      unfold Hid orS
      rcases (P1.out.resolve_left (fun q => hz q.1)).2 with ⟨e1, e2⟩ | ⟨⟨p, e1⟩, e2, e3⟩
      · rw [e1, e2]
      · rw [e1, e2, e3]
    have JB5 : Hid (Below w.heap.size w W5) := J1.out.trans (L5.out.1.mono J1.out.size)
    clear hz P1 L5 J1
    go_wp2_with fail
    go_ret2
    exact ⟨by rw [RS.out]; rfl, JB5.out⟩
end Go.Proofs.YtdkphfafcmogmaaGreatDoor
