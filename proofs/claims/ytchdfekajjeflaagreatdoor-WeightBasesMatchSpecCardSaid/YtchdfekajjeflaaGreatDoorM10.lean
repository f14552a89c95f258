/-
  Ratios: what an operation answers, in texts.
  Ratios of package value: a fraction in four cells.
  Numbers of any size in the reference: the arithmetic of rows of digits to the base 10^9.
  Reading numbers of the reference: the arithmetic of blocks of nine digits.
-/
import Derived.Test.YtchdfekajjeflaaGreatDoorM09
import Derived.Test.YtchdfekajjeflaaGreatDoorM08
import Derived.Test.YtchdfekajjeflaaGreatDoorM07
import Derived.Test.YtchdfekajjeflaaGreatDoorM01
import Derived.Lib.AtoiAll
namespace Go.Proofs.YtchdfekajjeflaaGreatDoor
open Go.RowKit

theorem trim_tz (z : Int) : Lib.trimPrefix (tz z) [45] = Lib.decDigits z.natAbs := by
  unfold tz
  split
  · exact trim_minus _
  · obtain ⟨c, r, e, _⟩ := head_dec z.natAbs
    have hd := digs_dec z.natAbs
    rw [e] at hd ⊢
    have hx : isDig c = true := by simp [digs] at hd; exact hd.1
    have := isDig_iff.1 hx
    exact trim_plain (by omega)
def fits (x y : Int) : Bool := decide ((Lib.decDigits x.natAbs).length ≤ 2000) && decide ((Lib.decDigits y.natAbs).length ≤ 2000)
/-- The texts of a fraction, and the fault if they are too long. -/
def ra (x y : Int) : ByteArray × ByteArray × Int := if fits x y = true then (tzB x, tzB y, 0) else (⟨#[]⟩, ⟨#[]⟩, 2)
def RaPost (x y : Int) (w : World) (e : Ending) (w' : World) : Prop := e = .returned (.tuple #[.agg #[.string (ra x y).1, .string (ra x y).2.1], .int .i64 (ra x y).2.2]) ∧ Below w.heap.size w w'
/-- A fraction in lowest terms. -/
def red (n d : Int) : Int × Int := (n.tdiv (ovG n d), d.tdiv (ovG n d))
theorem tdiv_abs_le (a b : Int) : (a.tdiv b).natAbs ≤ a.natAbs := by
  rw [Int.natAbs_tdiv]; exact Nat.div_le_self _ _
theorem red_pos {n d : Int} (h : d ≠ 0) : 0 < (red n d).2 := by
  have hg : 0 < Int.gcd n d := Int.gcd_pos_of_ne_zero_right n h
  obtain ⟨k, hk⟩ : (Int.gcd n d : Int) ∣ d := Int.gcd_dvd_right n d
  show 0 < d.tdiv (ovG n d)
  by_cases hd : d < 0
  · have e : ovG n d = -(Int.gcd n d : Int) := by unfold ovG; rw [if_pos hd]
    rw [e]
    generalize Int.gcd n d = g at *
    have hgz : (g : Int) ≠ 0 := by omega
    rw [Int.tdiv_neg, hk, Int.mul_tdiv_cancel_left _ hgz]
    have h2 : (g : Int) * k < 0 := by rw [← hk]; exact hd
    rcases Int.lt_or_le k 0 with h | h
    · omega
    · have := Int.mul_nonneg (show (0 : Int) ≤ g by omega) h
      omega
  · have e : ovG n d = (Int.gcd n d : Int) := by unfold ovG; rw [if_neg hd]
    rw [e]
    generalize Int.gcd n d = g at *
    have hgz : (g : Int) ≠ 0 := by omega
    rw [hk, Int.mul_tdiv_cancel_left _ hgz]
    have h2 : 0 < (g : Int) * k := by rw [← hk]; omega
    rcases Int.lt_or_le 0 k with h | h
    · exact h
    · have := Int.mul_nonneg (show (0 : Int) ≤ g by omega) (show 0 ≤ -k by omega)
      rw [Int.mul_neg] at this
      omega
/-- The texts of a fraction's lowest terms. -/
def raR (n d : Int) : ByteArray × ByteArray × Int := ra (red n d).1 (red n d).2
/-- An operation on two ratios. -/
def opS (F : Int → Int → Int → Int → Int × Int) (n d n' d' : List UInt8) : ByteArray × ByteArray × Int :=
  match rread n d with
  | none => (⟨#[]⟩, ⟨#[]⟩, rflt n d)
  | some (x, y) => match rread n' d' with
    | none => (⟨#[]⟩, ⟨#[]⟩, rflt n' d')
    | some (x', y') => raR (F x y x' y').1 (F x y x' y').2
def OpPost (r : ByteArray × ByteArray × Int) (w : World) (e : Ending) (w' : World) : Prop := e = .returned (.tuple #[.agg #[.string r.1, .string r.2.1], .int .i64 r.2.2]) ∧ Below w.heap.size w w'
def fSum (x y x' y' : Int) : Int × Int := (x * y' + x' * y, y * y')
def fMul (x y x' y' : Int) : Int × Int := (x * x', y * y')
/-- The boxes of the arguments and of the result, made. -/
structure Sa (w : World) (s t s' t' : ByteArray) (W : World) : Prop where
  x : B2 W w.heap.size (.string s) (.string t)
  y : B2 W (w.heap.size + 1) (.string s') (.string t')
  r : B2 W (w.heap.size + 1 + 1) (.string ⟨#[]⟩) (.string ⟨#[]⟩)
  bel : Below w.heap.size w W
theorem Sa.keep {w : World} {s t s' t' : ByteArray} {W W' : World} (j : Sa w s t s' t' W) (hb : Below W.heap.size W W') : Sa w s t s' t' W' :=
  ⟨j.x.keep hb, j.y.keep hb, j.r.keep hb, j.bel.trans (hb.mono j.bel.size)⟩
theorem Sa.made (w : World) (s t s' t' : ByteArray) (T1 T2 T3 : TypeId) :
    Sa w s t s' t' (((w.alloc (.cells #[.string s, .string t] T1)).alloc (.cells #[.string s', .string t'] T2)).alloc (.cells #[.string ⟨#[]⟩, .string ⟨#[]⟩] T3)) := by
  have s1 : (w.alloc (.cells #[.string s, .string t] T1)).heap.size = w.heap.size + 1 := by simp
  have s2 : ((w.alloc (.cells #[.string s, .string t] T1)).alloc (.cells #[.string s', .string t'] T2)).heap.size = w.heap.size + 1 + 1 := by simp
  refine ⟨((B2.made w _ _ T1).keep (bel_one _ _)).keep (bel_one _ _), ?_, ?_, (((Below.refl _ _).alloc (Nat.le_refl _) _).alloc (by simp) _).alloc (by simp; omega) _⟩
  · rw [← s1]; exact (B2.made _ _ _ T2).keep (bel_one _ _)
  · rw [← s2]; exact B2.made _ _ _ T3
def orS (n d n' d' : List UInt8) : Int × Int :=
  match rread n d with
  | none => (0, rflt n d)
  | some (x, y) => match rread n' d' with
    | none => (0, rflt n' d')
    | some (x', y') => (zcmp (x * y') (x' * y), 0)
def ivS (n d : List UInt8) : ByteArray × ByteArray × Int :=
  match rread n d with
  | none => (⟨#[]⟩, ⟨#[]⟩, rflt n d)
  | some (x, y) => if x = 0 then (⟨#[]⟩, ⟨#[]⟩, 19) else raR y x
end Go.Proofs.YtchdfekajjeflaaGreatDoor
namespace Go.Proofs.YtchdfekajjeflaaGreatDoor
open Go.RowKit

/-- A fraction's four cells. -/
structure Fq where
  b : Bool
  a : Option Addr
  k : Nat
  c : Nat
  b' : Bool
  a' : Option Addr
  k' : Nat
  c' : Nat
def Fq.z : Fq := ⟨false, none, 0, 0, false, none, 0, 0⟩
abbrev Fq.v (f : Fq) : Value := .agg #[.bool f.b, .slice f.a f.k f.c, .bool f.b', .slice f.a' f.k' f.c']
/-- A fraction in lowest terms, in memory. -/
structure Fi (W : World) (f : Fq) (x y : Int) : Prop where
  n : Zn W f.b f.a f.k f.c x
  d : Zn W f.b' f.a' f.k' f.c' y
  nb : x.natAbs < bp 125
  db : y.natAbs < bp 125
  pos : 0 < y
  one : Int.gcd x y = 1
theorem Fi.below {W W' : World} {f : Fq} {x y : Int} (h : Fi W f x y) (hb : Below W.heap.size W W') : Fi W' f x y := ⟨h.n.below hb, h.d.below hb, h.nb, h.db, h.pos, h.one⟩
abbrev B4q (W : World) (g : Nat) (f : Fq) : Prop := B4 W g (.bool f.b) (.slice f.a f.k f.c) (.bool f.b') (.slice f.a' f.k' f.c')
abbrev fourq (W : World) (g : Nat) (f : Fq) : World := four W g (.bool f.b) (.slice f.a f.k f.c) (.bool f.b') (.slice f.a' f.k' f.c')
theorem Fi.set {W : World} {f : Fq} {x y : Int} (h : Fi W f x y) {g : Nat} {f0 : Fq} (hb : B4q W g f0) (f1 : Fq) : Fi (fourq W g f1) f x y :=
  ⟨h.n.set4 hb (NL.b _) (NL.s _ _ _) (NL.b _) (NL.s _ _ _) _ _ _ _, h.d.set4 hb (NL.b _) (NL.s _ _ _) (NL.b _) (NL.s _ _ _) _ _ _ _, h.nb, h.db, h.pos, h.one⟩
/-- fractionOf's answer. -/
def FqPost (n d : List UInt8) (w : World) (e : Ending) (w' : World) : Prop :=
  ∃ (f : Fq) (flt : Int), e = .returned (.tuple #[f.v, .int .i64 flt]) ∧ Below w.heap.size w w' ∧
    ((flt = 0 ∧ ∃ x y, rread n d = some (x, y) ∧ Fi w' f x y) ∨ (flt ≠ 0 ∧ rread n d = none ∧ flt = rflt n d))
theorem rflt_ne (n d : List UInt8) : rflt n d ≠ 0 := by unfold rflt; split <;> decide
theorem fractionOf_q (s t : ByteArray) (w : World) : Calls Tryz.prog 36 #[.agg #[.string s, .string t]] w (FqPost s.data.toList t.data.toList w) :=
  (fractionOf_c s t w).mono fun e w' h => by
    rcases h with ⟨x, y, b, a, k, c, b', a', k', c', h1, h2, h3, h4, h5, h6, h7, h8, h9⟩ | ⟨h1, h2, h3⟩
    · exact ⟨⟨b, a, k, c, b', a', k', c'⟩, 0, h2, h9, .inl ⟨rfl, x, y, h1, h3, h4, h5, h6, h7, h8⟩⟩
    · exact ⟨Fq.z, rflt _ _, h2, h3, .inr ⟨rflt_ne _ _, h1, rfl⟩⟩
/-- A fraction is laid into a fresh box. -/
def laid1 (W : World) (f : Fq) (T : TypeId) : World := fourq (W.alloc (.cells #[.bool false, .slice none 0 0, .bool false, .slice none 0 0] T)) W.heap.size f
theorem laid1_is {W : World} (f : Fq) (T : TypeId) : Below W.heap.size W (laid1 W f T) ∧ B4q (laid1 W f T) W.heap.size f ∧ (∀ q x y, Fi W q x y → Fi (laid1 W f T) q x y) := by
  have hb := bel_one W (.cells #[.bool false, .slice none 0 0, .bool false, .slice none 0 0] T)
  have d1 : B4q (W.alloc (.cells #[.bool false, .slice none 0 0, .bool false, .slice none 0 0] T)) W.heap.size Fq.z := B4.made W _ _ _ _ T
  exact ⟨below_four hb (Nat.le_refl _) _ _ _ _, d1.set _ _ _ _, fun q x y hq => (hq.below hb).set d1 f⟩
/-! ### The boxes of a fraction's texts -/
structure Rb (w : World) (b1 : Bool) (a1 : Option Addr) (k1 c1 : Nat) (b2 : Bool) (a2 : Option Addr) (k2 c2 : Nat) (W : World) : Prop where
  x : B4 W w.heap.size (.bool b1) (.slice a1 k1 c1) (.bool b2) (.slice a2 k2 c2)
  r : B2 W (w.heap.size + 1) (.string ⟨#[]⟩) (.string ⟨#[]⟩)
  bel : Below w.heap.size w W
theorem Rb.keep {w : World} {b1 : Bool} {a1 : Option Addr} {k1 c1 : Nat} {b2 : Bool} {a2 : Option Addr} {k2 c2 : Nat} {W W' : World} (h : Rb w b1 a1 k1 c1 b2 a2 k2 c2 W) (hb : Below W.heap.size W W') : Rb w b1 a1 k1 c1 b2 a2 k2 c2 W' :=
  ⟨h.x.keep hb, h.r.keep hb, h.bel.trans (hb.mono h.bel.size)⟩
def SR (g : Nat) (b1 : Bool) (a1 : Option Addr) (k1 c1 : Nat) (b2 : Bool) (a2 : Option Addr) (k2 c2 : Nat) (W : World) : Prop :=
  W.cell? ⟨g, 0, none⟩ = some (.bool b1) ∧ W.cell? ⟨g, 1, none⟩ = some (.slice a1 k1 c1) ∧ W.cell? ⟨g, 2, none⟩ = some (.bool b2) ∧ W.cell? ⟨g, 3, none⟩ = some (.slice a2 k2 c2)
theorem Rb.si {w : World} {b1 : Bool} {a1 : Option Addr} {k1 c1 : Nat} {b2 : Bool} {a2 : Option Addr} {k2 c2 : Nat} {W : World} (h : Rb w b1 a1 k1 c1 b2 a2 k2 c2 W) : SR w.heap.size b1 a1 k1 c1 b2 a2 k2 c2 W := ⟨h.x.c0, h.x.c1, h.x.c2, h.x.c3⟩
end Go.Proofs.YtchdfekajjeflaaGreatDoor
namespace Go.Proofs.YtchdfekajjeflaaGreatDoor

@[irreducible] def tp (j : Nat) : Nat := 1000000000 ^ j
theorem tp_zero : tp 0 = 1 := by unfold tp; rfl
theorem tp_succ (j : Nat) : tp (j + 1) = tp j * 1000000000 := by unfold tp; exact Nat.pow_succ ..
theorem tp_one : tp 1 = 1000000000 := by rw [tp_succ, tp_zero]
theorem tp_pos (j : Nat) : 0 < tp j := by unfold tp; exact Nat.pow_pos (by decide)
theorem tp_add (i j : Nat) : tp (i + j) = tp i * tp j := by unfold tp; exact Nat.pow_add _ _ _
theorem tp_mono {i j : Nat} (h : i ≤ j) : tp i ≤ tp j := by
  obtain ⟨d, rfl⟩ := Nat.exists_eq_add_of_le h
  rw [tp_add]
  exact Nat.le_mul_of_pos_right _ (tp_pos d)
theorem tp_lt {i j : Nat} (h : tp i < tp j) : i < j := by
  rcases Nat.lt_or_ge i j with l | l
  · exact l
  · have := tp_mono l; omega
theorem tp_pow (j : Nat) : tp j = 1000000000 ^ j := by unfold tp; rfl
/-- What k limbs are as a number. -/
def Tn (f : Nat → Nat) : Nat → Nat
  | 0 => 0
  | k + 1 => Tn f k + f k * tp k
theorem Tn_zero (f : Nat → Nat) : Tn f 0 = 0 := rfl
theorem Tn_succ (f : Nat → Nat) (k : Nat) : Tn f (k + 1) = Tn f k + f k * tp k := rfl
theorem Tn_one (f : Nat → Nat) : Tn f 1 = f 0 := by rw [Tn_succ, Tn_zero, tp_zero]; omega
theorem Tn_congr {f g : Nat → Nat} : ∀ {k}, (∀ j, j < k → f j = g j) → Tn f k = Tn g k
  | 0, _ => rfl
  | k + 1, h => by rw [Tn_succ, Tn_succ, Tn_congr (fun j hj => h j (by omega)), h k (by omega)]
/-- Limbs are limbs. -/
def Ld (f : Nat → Nat) (k : Nat) : Prop := ∀ j, j < k → f j < 1000000000
theorem Tn_lt {f : Nat → Nat} : ∀ {k}, Ld f k → Tn f k < tp k
  | 0, _ => by rw [tp_zero]; exact Nat.zero_lt_one
  | k + 1, h => by
    have t := Tn_lt (f := f) (k := k) (fun j hj => h j (by omega))
    have u := h k (by omega)
    rw [Tn_succ, tp_succ]
    have q : f k * tp k ≤ 999999999 * tp k := Nat.mul_le_mul_right _ (by omega)
    omega
theorem Tn_zeros {f : Nat → Nat} : ∀ {k}, (∀ j, j < k → f j = 0) → Tn f k = 0
  | 0, _ => rfl
  | k + 1, h => by rw [Tn_succ, Tn_zeros (fun j hj => h j (by omega)), h k (by omega)]; omega
theorem Tn_split (f : Nat → Nat) (k : Nat) : ∀ m, Tn f (k + m) = Tn f k + tp k * Tn (fun j => f (k + j)) m
  | 0 => by simp [Tn]
  | m + 1 => by
    rw [← Nat.add_assoc, Tn_succ, Tn_split f k m, Tn_succ, tp_add, Nat.mul_add, Nat.mul_left_comm (tp k)]
    omega
theorem Tn_front (f : Nat → Nat) (m : Nat) : Tn f (m + 1) = f 0 + 1000000000 * Tn (fun j => f (j + 1)) m := by
  have h := Tn_split f 1 m
  rw [Tn_one, tp_one, Nat.add_comm 1 m] at h
  rw [h]
  have e : Tn (fun j => f (1 + j)) m = Tn (fun j => f (j + 1)) m := Tn_congr (fun j _ => by rw [Nat.add_comm])
  rw [e]
theorem Tn_ge {f : Nat → Nat} {k : Nat} (h : f k ≠ 0) : tp k ≤ Tn f (k + 1) := by
  rw [Tn_succ]
  have : 1 * tp k ≤ f k * tp k := Nat.mul_le_mul_right _ (by omega)
  omega
/-- No needless zeros. -/
def Tod (f : Nat → Nat) (k : Nat) : Prop := k = 0 ∨ f (k - 1) ≠ 0
theorem tod_ge {f : Nat → Nat} {k : Nat} (h : Tod f k) (hk : 0 < k) : tp (k - 1) ≤ Tn f k := by
  obtain ⟨m, rfl⟩ : ∃ m, k = m + 1 := ⟨k - 1, by omega⟩
  rcases h with h | h
  · omega
  · exact Tn_ge (by simpa using h)
theorem tod_len {f : Nat → Nat} {k K : Nat} (h : Tod f k) (hn : Tn f k < tp K) : k ≤ K := by
  rcases Nat.eq_zero_or_pos k with e | e
  · omega
  · have := tp_lt (Nat.lt_of_le_of_lt (tod_ge h e) hn)
    omega
theorem tod_zero {f : Nat → Nat} {k : Nat} (h : Tod f k) (hn : Tn f k = 0) : k = 0 := by
  rcases Nat.eq_zero_or_pos k with e | e
  · exact e
  · have := tod_ge h e; have := tp_pos (k - 1); omega
theorem dlen_lt {f g : Nat → Nat} {k m : Nat} (hf : Ld f k) (hg : Tod g m) (h : k < m) : Tn f k < Tn g m := by
  have a := Tn_lt hf
  have b := tod_ge hg (by omega)
  have c := tp_mono (show k ≤ m - 1 by omega)
  omega
/-- Numbers of equally many limbs differ as their highest limb that differs. -/
theorem dcmp_lt {f g : Nat → Nat} {k i : Nat} (hf : Ld f k) (hi : i < k) (hlt : f i < g i) (he : ∀ j, i < j → j < k → f j = g j) : Tn f k < Tn g k := by
  obtain ⟨m, rfl⟩ := Nat.exists_eq_add_of_lt hi
  rw [show i + m + 1 = (i + 1) + m by omega, Tn_split f (i + 1) m, Tn_split g (i + 1) m]
  have e : Tn (fun j => f (i + 1 + j)) m = Tn (fun j => g (i + 1 + j)) m := Tn_congr (fun j hj => he _ (by omega) (by omega))
  rw [e, Tn_succ, Tn_succ]
  have a := Tn_lt (f := f) (k := i) (fun j hj => hf j (by omega))
  have b : (f i + 1) * tp i ≤ g i * tp i := Nat.mul_le_mul_right _ (by omega)
  rw [Nat.add_mul, Nat.one_mul] at b
  omega
theorem Tn_inj {f g : Nat → Nat} : ∀ {k}, Ld f k → Ld g k → Tn f k = Tn g k → ∀ j, j < k → f j = g j
  | 0, _, _, _ => fun j hj => by omega
  | k + 1, hf, hg, h => by
    have a := Tn_lt (f := f) (k := k) (fun j hj => hf j (by omega))
    have b := Tn_lt (f := g) (k := k) (fun j hj => hg j (by omega))
    rw [Tn_succ, Tn_succ] at h
    have e : f k = g k := by
      rcases Nat.lt_trichotomy (f k) (g k) with l | l | l
      · have : (f k + 1) * tp k ≤ g k * tp k := Nat.mul_le_mul_right _ (by omega)
        rw [Nat.add_mul, Nat.one_mul] at this
        omega
      · exact l
      · have : (g k + 1) * tp k ≤ f k * tp k := Nat.mul_le_mul_right _ (by omega)
        rw [Nat.add_mul, Nat.one_mul] at this
        omega
    rw [e] at h
    intro j hj
    by_cases ej : j = k
    · rw [ej, e]
    · exact Tn_inj (f := f) (g := g) (k := k) (fun j hj => hf j (by omega)) (fun j hj => hg j (by omega)) (by omega) j (by omega)
theorem dstep_add {P G X Y c x y s c' : Nat} (h : G + c * P = X + Y) (h2 : x + y + c = s + c' * 1000000000) :
    (G + s * P) + c' * (P * 1000000000) = (X + x * P) + (Y + y * P) := by grind
theorem dstep_mul {P G X c x f s c' : Nat} {m0 : Nat} (h : G + c * P = f * X + m0) (h2 : x * f + c = s + c' * 1000000000) :
    (G + s * P) + c' * (P * 1000000000) = f * (X + x * P) + m0 := by grind
theorem dstep_addmul {P G X Y c x y f s c' : Nat} (h : G + c * P = Y + f * X) (h2 : x * f + c + y = s + c' * 1000000000) :
    (G + s * P) + c' * (P * 1000000000) = (Y + y * P) + f * (X + x * P) := by grind
theorem dstep_submul {P G X Y c x y f s c' : Nat} (h : G + f * X = Y + c * P) (h2 : s + (x * f + c) = y + c' * 1000000000) :
    (G + s * P) + f * (X + x * P) = (Y + y * P) + c' * (P * 1000000000) := by grind
theorem dstep_sub {P G X Y c x y s c' : Nat} (h : G + X = Y + c * P) (h2 : s + (x + c) = y + c' * 1000000000) :
    (G + s * P) + (X + x * P) = (Y + y * P) + c' * (P * 1000000000) := by grind
theorem Tn_put {f : Nat → Nat} {i x : Nat} : Tn (put f i x) (i + 1) = Tn f i + x * tp i := by
  rw [Tn_succ, put_same, Tn_congr (fun j hj => put_ne (by omega))]
theorem Tn_put_low {f : Nat → Nat} {i x k : Nat} (h : k ≤ i) : Tn (put f i x) k = Tn f k := Tn_congr (fun j hj => put_ne (by omega))
theorem ld_put {f : Nat → Nat} {i x k : Nat} (h : Ld f k) (hx : x < 1000000000) : Ld (put f i x) k := fun j hj => by
  unfold put
  split
  · exact hx
  · exact h j hj
end Go.Proofs.YtchdfekajjeflaaGreatDoor
namespace Go.Proofs.YtchdfekajjeflaaGreatDoor

theorem val_split (l : List UInt8) (m q : Nat) (hq : q ≤ m) (hm : m ≤ l.length) : val (l.take m) = val (l.take q) * 10 ^ (m - q) + val ((l.take m).drop q) := by
  have h := List.take_append_drop q (l.take m)
  rw [List.take_take, Nat.min_eq_left hq] at h
  have e := val_append (l.take q) ((l.take m).drop q)
  rw [h] at e
  rw [e, List.length_drop, List.length_take, Nat.min_eq_left hm]
theorem digs_mem {l : List UInt8} (h : digs l = true) : ∀ c, c ∈ l → isDig c = true := List.all_eq_true.1 h
theorem digs_sub {l m : List UInt8} (h : digs l = true) (hs : ∀ c, c ∈ m → c ∈ l) : digs m = true := List.all_eq_true.2 fun c hc => digs_mem h c (hs c hc)
theorem digs_take {l : List UInt8} (h : digs l = true) (m : Nat) : digs (l.take m) = true := digs_sub h fun _ hc => List.mem_of_mem_take hc
theorem digs_drop {l : List UInt8} (h : digs l = true) (m : Nat) : digs (l.drop m) = true := digs_sub h fun _ hc => List.mem_of_mem_drop hc
theorem tp_ten (j : Nat) : tp j = 10 ^ (9 * j) := by rw [tp_pow, Nat.pow_mul]
theorem parse_digs : ∀ (l : List UInt8) (acc : Nat), digs l = true → acc * 10 ^ l.length + val l < 1844674407370955162 → Lib.parseUint10 acc l = .ok (acc * 10 ^ l.length + val l)
  | [], acc, _, _ => by simp [Lib.parseUint10, val]
  | c :: r, acc, h, hb => by
    have hx : isDig c = true ∧ digs r = true := by simpa [digs] using h
    have h1 := isDig_iff.1 hx.1
    have e : val (c :: r) = (c.toNat - 48) * 10 ^ r.length + val r := by
      have := val_append [c] r
      simpa [val] using this
    have e2 : acc * 10 ^ (c :: r).length + val (c :: r) = (acc * 10 + (c.toNat - 48)) * 10 ^ r.length + val r := by
      rw [e, List.length_cons, Nat.pow_succ, Nat.add_mul]
      have : acc * (10 ^ r.length * 10) = acc * 10 * 10 ^ r.length := by grind
      omega
    rw [e2] at hb ⊢
    have hp : 0 < 10 ^ r.length := Nat.pow_pos (by decide)
    have hle : (acc * 10 + (c.toNat - 48)) * 1 ≤ (acc * 10 + (c.toNat - 48)) * 10 ^ r.length := Nat.mul_le_mul_left _ hp
    rw [Lib.parseUint10, if_pos h1, if_neg (by omega), if_neg (by omega)]
    exact parse_digs r _ hx.2 hb
theorem atoi_digs {l : List UInt8} (h : digs l = true) (hne : l ≠ []) (hl : l.length ≤ 9) : Lib.atoiAll l = .ok (val l : Int) := by
  cases l with
  | nil => exact absurd rfl hne
  | cons c r =>
    have hx : isDig c = true ∧ digs r = true := by simpa [digs] using h
    have h1 := isDig_iff.1 hx.1
    have hv := val_lt h
    have h9 : 10 ^ (c :: r).length ≤ 10 ^ 9 := Nat.pow_le_pow_right (by decide) hl
    have hv9 : val (c :: r) < 1000000000 := Nat.lt_of_lt_of_le hv h9
    have hp : Lib.parseMag (c :: r) = .ok (val (c :: r)) := by
      unfold Lib.parseMag
      rw [if_neg (by simp)]
      have := parse_digs (c :: r) 0 h (by rw [Nat.zero_mul, Nat.zero_add]; omega)
      rw [Nat.zero_mul, Nat.zero_add] at this
      exact this
    have n43 : ¬ (c.toNat = 43 ∨ c.toNat = 45) := by omega
    have n45 : ¬ c.toNat = 45 := by omega
    unfold Lib.atoiAll
    have n4 : ¬ c.toNat = 43 := by omega
    simp only [n4, n45, or_self, if_false, not_false_eq_true, true_and, false_and]
    rw [hp]
    show (if 9223372036854775808 ≤ val (c :: r) then Lib.NumEnd.range else Lib.NumEnd.ok (val (c :: r) : Int)) = _
    rw [if_neg (by omega)]
/-- One block more. -/
theorem block_more {l : List UInt8} {m j s : Nat} (hd : digs l = true) (hm : m ≤ l.length) (hm0 : 0 < m) (h : val (l.take m) * tp j + s = val l) :
    val (l.take (m - 9)) * tp (j + 1) + (s + val ((l.take m).drop (m - 9)) * tp j) = val l ∧ val ((l.take m).drop (m - 9)) < 1000000000 := by
  have hs := val_split l m (m - 9) (by omega) hm
  have hl : ((l.take m).drop (m - 9)).length ≤ 9 := by rw [List.length_drop, List.length_take]; omega
  have hv := val_lt (digs_drop (digs_take hd m) (m - 9))
  have h9 : 10 ^ ((l.take m).drop (m - 9)).length ≤ 10 ^ 9 := Nat.pow_le_pow_right (by decide) hl
  refine ⟨?_, Nat.lt_of_lt_of_le hv h9⟩
  generalize val ((l.take m).drop (m - 9)) = x at *
  rw [tp_succ]
  rcases Nat.lt_or_ge m 9 with l9 | l9
  · have e0 : m - 9 = 0 := by omega
    have z : val (l.take (m - 9)) = 0 := by rw [e0]; rfl
    rw [z] at hs ⊢
    rw [Nat.zero_mul, Nat.zero_add] at hs ⊢
    rw [← hs, ← h]
    omega
  · have e9 : m - (m - 9) = 9 := by omega
    rw [e9] at hs
    rw [← h, hs]
    have : (10 : Nat) ^ 9 = 1000000000 := by decide
    rw [this]
    grind
end Go.Proofs.YtchdfekajjeflaaGreatDoor
