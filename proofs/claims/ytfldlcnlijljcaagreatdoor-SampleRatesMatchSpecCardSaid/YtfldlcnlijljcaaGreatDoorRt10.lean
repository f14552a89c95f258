/-
  Reading decimal texts of numbers of any size: Read.
  Ratios of package value: the fraction that a ratio writes.
  Ratios: what an operation answers, in texts.
  Ratios of package value: a fraction in four cells.
-/
import Derived.Test.YtfldlcnlijljcaaGreatDoorRt09
import Derived.Test.YtfldlcnlijljcaaGreatDoorRt07
namespace Go.Proofs.YtfldlcnlijljcaaGreatDoor
open Go.RowKit

def RdPost (l : List UInt8) (w : World) (e : Ending) (w' : World) : Prop :=
  (∃ z b a k c, zread l = some z ∧ e = .returned (.tuple #[.agg #[.bool b, .slice a k c], .bool true]) ∧ Zn w' b a k c z ∧ z.natAbs < bp 125 ∧ Below w.heap.size w w') ∨
  (zread l = none ∧ e = .returned (.tuple #[.agg #[.bool false, .slice none 0 0], .bool false]) ∧ Below w.heap.size w w')
/-- Where Read is: what was read, and what is left. -/
structure Rdg (w : World) (d : List UInt8) (p : Nat) (x : ByteArray) (a : Option Addr) (k c : Nat) (W : World) : Prop where
  left : x.data.toList = d.drop p
  lim : Nm W a k c (val (d.take p))
  dig : digs (d.take p) = true
  row : p = 0 ∨ (d.length - p) % 19 = 0
  box : B2 W w.heap.size (.bool false) (.slice none 0 0)
  bel : Below w.heap.size w W
theorem toNat48 {c : UInt8} : c = 48 ↔ c.toNat = 48 := by
  constructor
  · intro e; rw [e]; rfl
  · intro e; exact UInt8.toNat_inj.1 (by rw [e]; rfl)
theorem extract_list (x : ByteArray) (a b : Nat) : (x.extract a b).data.toList = (x.data.toList.drop a).take (b - a) := Lib.extract_data x a b
end Go.Proofs.YtfldlcnlijljcaaGreatDoor
namespace Go.Proofs.YtfldlcnlijljcaaGreatDoor
open Go.RowKit

/-- The fraction that two texts write. -/
def large (n d : List UInt8) : Bool := decide (2000 < (Lib.trimPrefix n [45]).length) || decide (2000 < d.length)
def rread (n d : List UInt8) : Option (Int × Int) :=
  if large n d = true then none
  else match zread n, zread d with
    | some x, some y => if 0 < y ∧ Int.gcd x y = 1 then some (x, y) else none
    | _, _ => none
def rflt (n d : List UInt8) : Int := if large n d = true then 2 else 3
abbrev fz4 : Value := .agg #[.bool false, .slice none 0 0, .bool false, .slice none 0 0]
def FoPost (n d : List UInt8) (w : World) (e : Ending) (w' : World) : Prop :=
  (∃ x y b a k c b' a' k' c', rread n d = some (x, y) ∧ e = .returned (.tuple #[.agg #[.bool b, .slice a k c, .bool b', .slice a' k' c'], .int .i64 0]) ∧ Zn w' b a k c x ∧ Zn w' b' a' k' c' y ∧ x.natAbs < bp 125 ∧ y.natAbs < bp 125 ∧ 0 < y ∧ Int.gcd x y = 1 ∧ Below w.heap.size w w') ∨
  (rread n d = none ∧ e = .returned (.tuple #[fz4, .int .i64 (rflt n d)]) ∧ Below w.heap.size w w')
theorem B2.other4 {W : World} {g h : Nat} {x0 x1 : Value} (hb : B2 W g x0 x1) (hne : h ≠ g) (y0 y1 y2 y3 : Value) : B2 (four W h y0 y1 y2 y3) g x0 x1 :=
  ⟨(four_cell hne _ _ _ _ 0).trans hb.c0, (four_cell hne _ _ _ _ 1).trans hb.c1, fun o => by unfold four; simp only [World.frozen?_setCell]; exact hb.fr o, by rw [four_size]; exact hb.lt⟩
/-- Read's answer, sound or not. -/
def RdAny (l : List UInt8) (w : World) (e : Ending) (w' : World) : Prop :=
  ∃ b a k c ok, e = .returned (.tuple #[.agg #[.bool b, .slice a k c], .bool ok]) ∧ Below w.heap.size w w' ∧ (ok = true → ∃ z, zread l = some z ∧ Zn w' b a k c z ∧ z.natAbs < bp 125) ∧ (ok = false → zread l = none)
theorem trim_len (l p : List UInt8) : (Lib.trimPrefix l p).length ≤ l.length := by
  unfold Lib.trimPrefix
  split
  · rw [List.length_drop]; omega
  · exact Nat.le_refl _
/-- The boxes of fractionOf. -/
structure Fo (w : World) (gn gd : Nat) (s t : ByteArray) (b1 : Bool) (a1 : Option Addr) (k1 c1 : Nat) (b2 : Bool) (a2 : Option Addr) (k2 c2 : Nat) (W : World) : Prop where
  x : B2 W w.heap.size (.string s) (.string t)
  r : B4 W (w.heap.size + 1) (.bool false) (.slice none 0 0) (.bool false) (.slice none 0 0)
  n : B2 W gn (.bool b1) (.slice a1 k1 c1)
  d : B2 W gd (.bool b2) (.slice a2 k2 c2)
  hn : w.heap.size + 1 < gn
  hd : gn < gd
  bel : Below w.heap.size w W
theorem Fo.keep {w : World} {gn gd : Nat} {s t : ByteArray} {b1 : Bool} {a1 : Option Addr} {k1 c1 : Nat} {b2 : Bool} {a2 : Option Addr} {k2 c2 : Nat} {W W' : World} (h : Fo w gn gd s t b1 a1 k1 c1 b2 a2 k2 c2 W) (hb : Below W.heap.size W W') : Fo w gn gd s t b1 a1 k1 c1 b2 a2 k2 c2 W' :=
  ⟨h.x.keep hb, h.r.keep hb, h.n.keep hb, h.d.keep hb, h.hn, h.hd, h.bel.trans (hb.mono h.bel.size)⟩
end Go.Proofs.YtfldlcnlijljcaaGreatDoor
namespace Go.Proofs.YtfldlcnlijljcaaGreatDoor
open Go.RowKit

theorem trim_tz (z : Int) : Lib.trimPrefix (tz z) [45] = Lib.decDigits z.natAbs := by
  unfold tz
  split
  · exact trim_minus _
  · obtain ⟨c, r, e, _⟩ := head_dec z.natAbs
    have hd := digs_dec z.natAbs
    rw [e] at hd ⊢
    have hx : isDig c = true := by simp [digs] at hd; exact hd.1
    have := isDig_iff.1 hx
    exact trim_plain (by omega)
def fits (x y : Int) : Bool := decide ((Lib.decDigits x.natAbs).length ≤ 2000) && decide ((Lib.decDigits y.natAbs).length ≤ 2000)
/-- The texts of a fraction, and the fault if they are too long. -/
def ra (x y : Int) : ByteArray × ByteArray × Int := if fits x y = true then (tzB x, tzB y, 0) else (⟨#[]⟩, ⟨#[]⟩, 2)
def RaPost (x y : Int) (w : World) (e : Ending) (w' : World) : Prop := e = .returned (.tuple #[.agg #[.string (ra x y).1, .string (ra x y).2.1], .int .i64 (ra x y).2.2]) ∧ Below w.heap.size w w'
/-- A fraction in lowest terms. -/
def red (n d : Int) : Int × Int := (n.tdiv (ovG n d), d.tdiv (ovG n d))
theorem tdiv_abs_le (a b : Int) : (a.tdiv b).natAbs ≤ a.natAbs := by
  rw [Int.natAbs_tdiv]; exact Nat.div_le_self _ _
theorem red_pos {n d : Int} (h : d ≠ 0) : 0 < (red n d).2 := by
  have hg : 0 < Int.gcd n d := Int.gcd_pos_of_ne_zero_right n h
  obtain ⟨k, hk⟩ : (Int.gcd n d : Int) ∣ d := Int.gcd_dvd_right n d
  show 0 < d.tdiv (ovG n d)
  by_cases hd : d < 0
  · have e : ovG n d = -(Int.gcd n d : Int) := by unfold ovG; rw [if_pos hd]
    rw [e]
    generalize Int.gcd n d = g at *
    have hgz : (g : Int) ≠ 0 := by omega
    rw [Int.tdiv_neg, hk, Int.mul_tdiv_cancel_left _ hgz]
    have h2 : (g : Int) * k < 0 := by rw [← hk]; exact hd
    rcases Int.lt_or_le k 0 with h | h
    · omega
    · have := Int.mul_nonneg (show (0 : Int) ≤ g by omega) h
      omega
  · have e : ovG n d = (Int.gcd n d : Int) := by unfold ovG; rw [if_neg hd]
    rw [e]
    generalize Int.gcd n d = g at *
    have hgz : (g : Int) ≠ 0 := by omega
    rw [hk, Int.mul_tdiv_cancel_left _ hgz]
    have h2 : 0 < (g : Int) * k := by rw [← hk]; omega
    rcases Int.lt_or_le 0 k with h | h
    · exact h
    · have := Int.mul_nonneg (show (0 : Int) ≤ g by omega) (show 0 ≤ -k by omega)
      rw [Int.mul_neg] at this
      omega
/-- The texts of a fraction's lowest terms. -/
def raR (n d : Int) : ByteArray × ByteArray × Int := ra (red n d).1 (red n d).2
/-- An operation on two ratios. -/
def opS (F : Int → Int → Int → Int → Int × Int) (n d n' d' : List UInt8) : ByteArray × ByteArray × Int :=
  match rread n d with
  | none => (⟨#[]⟩, ⟨#[]⟩, rflt n d)
  | some (x, y) => match rread n' d' with
    | none => (⟨#[]⟩, ⟨#[]⟩, rflt n' d')
    | some (x', y') => raR (F x y x' y').1 (F x y x' y').2
def OpPost (r : ByteArray × ByteArray × Int) (w : World) (e : Ending) (w' : World) : Prop := e = .returned (.tuple #[.agg #[.string r.1, .string r.2.1], .int .i64 r.2.2]) ∧ Below w.heap.size w w'
def fSum (x y x' y' : Int) : Int × Int := (x * y' + x' * y, y * y')
def fMul (x y x' y' : Int) : Int × Int := (x * x', y * y')
/-- The boxes of the arguments and of the result, made. -/
structure Sa (w : World) (s t s' t' : ByteArray) (W : World) : Prop where
  x : B2 W w.heap.size (.string s) (.string t)
  y : B2 W (w.heap.size + 1) (.string s') (.string t')
  r : B2 W (w.heap.size + 1 + 1) (.string ⟨#[]⟩) (.string ⟨#[]⟩)
  bel : Below w.heap.size w W
theorem Sa.keep {w : World} {s t s' t' : ByteArray} {W W' : World} (j : Sa w s t s' t' W) (hb : Below W.heap.size W W') : Sa w s t s' t' W' :=
  ⟨j.x.keep hb, j.y.keep hb, j.r.keep hb, j.bel.trans (hb.mono j.bel.size)⟩
theorem Sa.made (w : World) (s t s' t' : ByteArray) (T1 T2 T3 : TypeId) :
    Sa w s t s' t' (((w.alloc (.cells #[.string s, .string t] T1)).alloc (.cells #[.string s', .string t'] T2)).alloc (.cells #[.string ⟨#[]⟩, .string ⟨#[]⟩] T3)) := by
  have s1 : (w.alloc (.cells #[.string s, .string t] T1)).heap.size = w.heap.size + 1 := by simp
  have s2 : ((w.alloc (.cells #[.string s, .string t] T1)).alloc (.cells #[.string s', .string t'] T2)).heap.size = w.heap.size + 1 + 1 := by simp
  refine ⟨((B2.made w _ _ T1).keep (bel_one _ _)).keep (bel_one _ _), ?_, ?_, (((Below.refl _ _).alloc (Nat.le_refl _) _).alloc (by simp) _).alloc (by simp; omega) _⟩
  · rw [← s1]; exact (B2.made _ _ _ T2).keep (bel_one _ _)
  · rw [← s2]; exact B2.made _ _ _ T3
def orS (n d n' d' : List UInt8) : Int × Int :=
  match rread n d with
  | none => (0, rflt n d)
  | some (x, y) => match rread n' d' with
    | none => (0, rflt n' d')
    | some (x', y') => (zcmp (x * y') (x' * y), 0)
def ivS (n d : List UInt8) : ByteArray × ByteArray × Int :=
  match rread n d with
  | none => (⟨#[]⟩, ⟨#[]⟩, rflt n d)
  | some (x, y) => if x = 0 then (⟨#[]⟩, ⟨#[]⟩, 19) else raR y x
end Go.Proofs.YtfldlcnlijljcaaGreatDoor
namespace Go.Proofs.YtfldlcnlijljcaaGreatDoor
open Go.RowKit

/-- A fraction's four cells. -/
structure Fq where
  b : Bool
  a : Option Addr
  k : Nat
  c : Nat
  b' : Bool
  a' : Option Addr
  k' : Nat
  c' : Nat
def Fq.z : Fq := ⟨false, none, 0, 0, false, none, 0, 0⟩
abbrev Fq.v (f : Fq) : Value := .agg #[.bool f.b, .slice f.a f.k f.c, .bool f.b', .slice f.a' f.k' f.c']
/-- A fraction in lowest terms, in memory. -/
structure Fi (W : World) (f : Fq) (x y : Int) : Prop where
  n : Zn W f.b f.a f.k f.c x
  d : Zn W f.b' f.a' f.k' f.c' y
  nb : x.natAbs < bp 125
  db : y.natAbs < bp 125
  pos : 0 < y
  one : Int.gcd x y = 1
theorem Fi.below {W W' : World} {f : Fq} {x y : Int} (h : Fi W f x y) (hb : Below W.heap.size W W') : Fi W' f x y := ⟨h.n.below hb, h.d.below hb, h.nb, h.db, h.pos, h.one⟩
abbrev B4q (W : World) (g : Nat) (f : Fq) : Prop := B4 W g (.bool f.b) (.slice f.a f.k f.c) (.bool f.b') (.slice f.a' f.k' f.c')
abbrev fourq (W : World) (g : Nat) (f : Fq) : World := four W g (.bool f.b) (.slice f.a f.k f.c) (.bool f.b') (.slice f.a' f.k' f.c')
theorem Fi.set {W : World} {f : Fq} {x y : Int} (h : Fi W f x y) {g : Nat} {f0 : Fq} (hb : B4q W g f0) (f1 : Fq) : Fi (fourq W g f1) f x y :=
  ⟨h.n.set4 hb (NL.b _) (NL.s _ _ _) (NL.b _) (NL.s _ _ _) _ _ _ _, h.d.set4 hb (NL.b _) (NL.s _ _ _) (NL.b _) (NL.s _ _ _) _ _ _ _, h.nb, h.db, h.pos, h.one⟩
/-- fractionOf's answer. -/
def FqPost (n d : List UInt8) (w : World) (e : Ending) (w' : World) : Prop :=
  ∃ (f : Fq) (flt : Int), e = .returned (.tuple #[f.v, .int .i64 flt]) ∧ Below w.heap.size w w' ∧
    ((flt = 0 ∧ ∃ x y, rread n d = some (x, y) ∧ Fi w' f x y) ∨ (flt ≠ 0 ∧ rread n d = none ∧ flt = rflt n d))
theorem rflt_ne (n d : List UInt8) : rflt n d ≠ 0 := by unfold rflt; split <;> decide
/-- A fraction is laid into a fresh box. -/
def laid1 (W : World) (f : Fq) (T : TypeId) : World := fourq (W.alloc (.cells #[.bool false, .slice none 0 0, .bool false, .slice none 0 0] T)) W.heap.size f
theorem laid1_is {W : World} (f : Fq) (T : TypeId) : Below W.heap.size W (laid1 W f T) ∧ B4q (laid1 W f T) W.heap.size f ∧ (∀ q x y, Fi W q x y → Fi (laid1 W f T) q x y) := by
  have hb := bel_one W (.cells #[.bool false, .slice none 0 0, .bool false, .slice none 0 0] T)
  have d1 : B4q (W.alloc (.cells #[.bool false, .slice none 0 0, .bool false, .slice none 0 0] T)) W.heap.size Fq.z := B4.made W _ _ _ _ T
  exact ⟨below_four hb (Nat.le_refl _) _ _ _ _, d1.set _ _ _ _, fun q x y hq => (hq.below hb).set d1 f⟩
/-! ### The boxes of a fraction's texts -/
structure Rb (w : World) (b1 : Bool) (a1 : Option Addr) (k1 c1 : Nat) (b2 : Bool) (a2 : Option Addr) (k2 c2 : Nat) (W : World) : Prop where
  x : B4 W w.heap.size (.bool b1) (.slice a1 k1 c1) (.bool b2) (.slice a2 k2 c2)
  r : B2 W (w.heap.size + 1) (.string ⟨#[]⟩) (.string ⟨#[]⟩)
  bel : Below w.heap.size w W
theorem Rb.keep {w : World} {b1 : Bool} {a1 : Option Addr} {k1 c1 : Nat} {b2 : Bool} {a2 : Option Addr} {k2 c2 : Nat} {W W' : World} (h : Rb w b1 a1 k1 c1 b2 a2 k2 c2 W) (hb : Below W.heap.size W W') : Rb w b1 a1 k1 c1 b2 a2 k2 c2 W' :=
  ⟨h.x.keep hb, h.r.keep hb, h.bel.trans (hb.mono h.bel.size)⟩
def SR (g : Nat) (b1 : Bool) (a1 : Option Addr) (k1 c1 : Nat) (b2 : Bool) (a2 : Option Addr) (k2 c2 : Nat) (W : World) : Prop :=
  W.cell? ⟨g, 0, none⟩ = some (.bool b1) ∧ W.cell? ⟨g, 1, none⟩ = some (.slice a1 k1 c1) ∧ W.cell? ⟨g, 2, none⟩ = some (.bool b2) ∧ W.cell? ⟨g, 3, none⟩ = some (.slice a2 k2 c2)
theorem Rb.si {w : World} {b1 : Bool} {a1 : Option Addr} {k1 c1 : Nat} {b2 : Bool} {a2 : Option Addr} {k2 c2 : Nat} {W : World} (h : Rb w b1 a1 k1 c1 b2 a2 k2 c2 W) : SR w.heap.size b1 a1 k1 c1 b2 a2 k2 c2 W := ⟨h.x.c0, h.x.c1, h.x.c2, h.x.c3⟩
end Go.Proofs.YtfldlcnlijljcaaGreatDoor
