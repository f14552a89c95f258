/-
  Ratios: what the operations on texts have to do with numbers.
-/
import Derived.Test.YtaibpppobblnoaaDoorWhField
namespace Go.Proofs.YtaibpppobblnoaaDoor

/-- A ratio's two texts. -/
abbrev Rp := ByteArray × ByteArray
def rdP (a : Rp) : Option (Int × Int) := rread a.1.data.toList a.2.data.toList
def noP : Rp := (⟨#[]⟩, ⟨#[]⟩)
def opP (F : Int → Int → Int → Int → Int × Int) (a b : Rp) : Rp × Bool :=
  (((opS F a.1.data.toList a.2.data.toList b.1.data.toList b.2.data.toList).1, (opS F a.1.data.toList a.2.data.toList b.1.data.toList b.2.data.toList).2.1), decide ((opS F a.1.data.toList a.2.data.toList b.1.data.toList b.2.data.toList).2.2 = 0))
theorem rread_pos {n d : List UInt8} {x y : Int} (h : rread n d = some (x, y)) : 0 < y ∧ Int.gcd x y = 1 := by
  unfold rread at h
  split at h
  · cases h
  · split at h
    · split at h
      · next hc => cases h; exact hc
      · cases h
    · cases h
theorem tz_read (z : Int) : zread (tz z) = some z := by
  have h := zread_tz (decide (z < 0)) z.natAbs (fun e => by simp at e; omega)
  have e : (if decide (z < 0) = true then 45 :: Lib.decDigits z.natAbs else Lib.decDigits z.natAbs) = tz z := by
    unfold tz; by_cases hz : z < 0 <;> simp [hz]
  rw [e] at h
  rw [h]
  congr 1
  by_cases hz : z < 0 <;> simp [hz] <;> omega
theorem ra_read {x y : Int} (hf : fits x y = true) (hp : 0 < y) (h1 : Int.gcd x y = 1) : rdP (tzB x, tzB y) = some (x, y) := by
  have hy : tz y = Lib.decDigits y.natAbs := by unfold tz; rw [if_neg (by omega)]
  have hl : large (tz x) (tz y) = false := by
    unfold fits at hf
    simp at hf
    unfold large
    rw [trim_tz, hy]
    simp
    omega
  show rread (tz x) (tz y) = some (x, y)
  unfold rread
  rw [hl, tz_read, tz_read]
  simp [hp, h1]
theorem op_none {F : Int → Int → Int → Int → Int × Int} {a b : Rp} (h : rdP a = none ∨ rdP b = none) : opP F a b = (noP, false) := by
  have hne := rflt_ne
  unfold opP opS
  rcases h with h | h
  · unfold rdP at h
    rw [h]
    simp [noP, hne]
  · unfold rdP at h
    cases ha : rread a.1.data.toList a.2.data.toList with
    | none => simp [noP, hne]
    | some p => obtain ⟨x, y⟩ := p; simp [noP, hne, h]
theorem op_some {F : Int → Int → Int → Int → Int × Int} {a b : Rp} {x y x' y' : Int} (h1 : rdP a = some (x, y)) (h2 : rdP b = some (x', y')) :
    opP F a b = (((raR (F x y x' y').1 (F x y x' y').2).1, (raR (F x y x' y').1 (F x y x' y').2).2.1), decide ((raR (F x y x' y').1 (F x y x' y').2).2.2 = 0)) := by
  unfold rdP at h1 h2
  unfold opP opS
  rw [h1, h2]
theorem raR_ok {n d : Int} (hd : d ≠ 0) (h : (raR n d).2.2 = 0) : ((raR n d).1, (raR n d).2.1) = (tzB (red n d).1, tzB (red n d).2) ∧ rdP ((raR n d).1, (raR n d).2.1) = some (red n d) := by
  unfold raR ra at h ⊢
  by_cases hf : fits (red n d).1 (red n d).2 = true
  · rw [if_pos hf]
    have l := red_low (n := n) hd
    exact ⟨rfl, ra_read hf l.pos l.one⟩
  · rw [if_neg hf] at h
    cases h
/-- An operation that has a result. -/
theorem op_ok {F : Int → Int → Int → Int → Int × Int} (hF : ∀ x y x' y', (F x y x' y').2 = y * y') {a b : Rp} (h : (opP F a b).2 = true) :
    ∃ x y x' y', rdP a = some (x, y) ∧ rdP b = some (x', y') ∧ 0 < y ∧ 0 < y' ∧ (F x y x' y').2 ≠ 0 ∧ rdP (opP F a b).1 = some (red (F x y x' y').1 (F x y x' y').2) ∧ (opP F a b).1 = (tzB (red (F x y x' y').1 (F x y x' y').2).1, tzB (red (F x y x' y').1 (F x y x' y').2).2) := by
  cases ha : rdP a with
  | none => rw [op_none (.inl ha)] at h; cases h
  | some p =>
    obtain ⟨x, y⟩ := p
    cases hb : rdP b with
    | none => rw [op_none (.inr hb)] at h; cases h
    | some q =>
      obtain ⟨x', y'⟩ := q
      have p1 := rread_pos (n := a.1.data.toList) (d := a.2.data.toList) ha
      have p2 := rread_pos (n := b.1.data.toList) (d := b.2.data.toList) hb
      have hd : (F x y x' y').2 ≠ 0 := by rw [hF]; exact Int.mul_ne_zero (by omega) (by omega)
      rw [op_some ha hb] at h ⊢
      have h0 : (raR (F x y x' y').1 (F x y x' y').2).2.2 = 0 := by simpa using h
      have r := raR_ok hd h0
      exact ⟨x, y, x', y', rfl, rfl, p1.1, p2.1, hd, r.2, r.1⟩
theorem hSum : ∀ x y x' y', (fSum x y x' y').2 = y * y' := fun _ _ _ _ => rfl
theorem hMul : ∀ x y x' y', (fMul x y x' y').2 = y * y' := fun _ _ _ _ => rfl
theorem sum_comm (a b : Rp) : opP fSum a b = opP fSum b a := by
  cases ha : rdP a with
  | none => rw [op_none (.inl ha), op_none (.inr ha)]
  | some p =>
    obtain ⟨x, y⟩ := p
    cases hb : rdP b with
    | none => rw [op_none (.inr hb), op_none (.inl hb)]
    | some q =>
      obtain ⟨x', y'⟩ := q
      rw [op_some ha hb, op_some hb ha]
      have e : fSum x y x' y' = fSum x' y' x y := by
        unfold fSum
        rw [Int.add_comm (x * y'), Int.mul_comm y y']
      rw [e]
def bothP (F : Int → Int → Int → Int → Int × Int) (a : Rp) (x : Bool) (b : Rp) (y : Bool) : Rp × Bool := if x = true ∧ y = true then opP F a b else (noP, false)
def agreeP (a : Rp) (x : Bool) (b : Rp) (y : Bool) : Bool := !x || !y || decide (a = b)
theorem agree_of {a b : Rp} {x y : Bool} (h : x = true → y = true → a = b) : agreeP a x b y = true := by
  unfold agreeP
  cases x <;> cases y <;> simp
  exact h rfl rfl
theorem both_ok {F : Int → Int → Int → Int → Int × Int} {a b : Rp} {x y : Bool} (h : (bothP F a x b y).2 = true) : x = true ∧ y = true ∧ (opP F a b).2 = true ∧ bothP F a x b y = opP F a b := by
  unfold bothP at h ⊢
  by_cases hc : x = true ∧ y = true
  · rw [if_pos hc] at h ⊢
    exact ⟨hc.1, hc.2, h, rfl⟩
  · rw [if_neg hc] at h
    cases h
theorem some_inj2 {x y x' y' : Int} {o : Option (Int × Int)} (h1 : o = some (x, y)) (h2 : o = some (x', y')) : x = x' ∧ y = y' := by
  rw [h1] at h2; cases h2; exact ⟨rfl, rfl⟩
theorem field_assoc (a b c : Rp) :
    agreeP (bothP fSum (opP fSum a b).1 (opP fSum a b).2 c true).1 (bothP fSum (opP fSum a b).1 (opP fSum a b).2 c true).2 (bothP fSum a true (opP fSum b c).1 (opP fSum b c).2).1 (bothP fSum a true (opP fSum b c).1 (opP fSum b c).2).2 = true := by
  refine agree_of fun hl hr => ?_
  obtain ⟨l1, _, l3, l4⟩ := both_ok hl
  obtain ⟨_, r2, r3, r4⟩ := both_ok hr
  rw [l4, r4]
  obtain ⟨xa, ya, xb, yb, a1, a2, a3, a4, a5, a6, _⟩ := op_ok hSum l1
  obtain ⟨xb', yb', xc, yc, b1, b2, b3, b4, b5, b6, _⟩ := op_ok hSum r2
  obtain ⟨rfl, rfl⟩ := some_inj2 b1 a2
  obtain ⟨p1, q1, xc', yc', c1, c2, c3, c4, c5, _, c7⟩ := op_ok hSum l3
  obtain ⟨xa', ya', p2, q2, d1, d2, d3, d4, d5, _, d7⟩ := op_ok hSum r3
  obtain ⟨rfl, rfl⟩ := some_inj2 d1 a1
  obtain ⟨rfl, rfl⟩ := some_inj2 c2 b2
  have la := red_low (n := (fSum xa' ya' xb' yb').1) a5
  have lb := red_low (n := (fSum xb' yb' xc' yc').1) b5
  rw [a6] at c1
  rw [b6] at d2
  have e1 : red (fSum xa' ya' xb' yb').1 (fSum xa' ya' xb' yb').2 = (p1, q1) := Option.some.inj c1
  have e2 : red (fSum xb' yb' xc' yc').1 (fSum xb' yb' xc' yc').2 = (p2, q2) := Option.some.inj d2
  rw [e1] at la
  rw [e2] at lb
  rw [c7, d7]
  have e : red (fSum p1 q1 xc' yc').1 (fSum p1 q1 xc' yc').2 = red (fSum xa' ya' p2 q2).1 (fSum xa' ya' p2 q2).2 :=
    red_eq c5 d5 (assoc_cross (by omega) la.eq lb.eq)
  rw [e]
theorem field_distr (a b c : Rp) :
    agreeP (bothP fMul a true (opP fSum b c).1 (opP fSum b c).2).1 (bothP fMul a true (opP fSum b c).1 (opP fSum b c).2).2 (bothP fSum (opP fMul a b).1 (opP fMul a b).2 (opP fMul a c).1 (opP fMul a c).2).1 (bothP fSum (opP fMul a b).1 (opP fMul a b).2 (opP fMul a c).1 (opP fMul a c).2).2 = true := by
  refine agree_of fun hl hr => ?_
  obtain ⟨_, l2, l3, l4⟩ := both_ok hl
  obtain ⟨r1, r2, r3, r4⟩ := both_ok hr
  rw [l4, r4]
  obtain ⟨xb, yb, xc, yc, b1, b2, b3, b4, b5, b6, _⟩ := op_ok hSum l2
  obtain ⟨xa, ya, xb', yb', a1, a2, a3, a4, a5, a6, _⟩ := op_ok hMul r1
  obtain ⟨rfl, rfl⟩ := some_inj2 a2 b1
  obtain ⟨xa', ya', xc', yc', c1, c2, c3, c4, c5, c6, _⟩ := op_ok hMul r2
  obtain ⟨rfl, rfl⟩ := some_inj2 c1 a1
  obtain ⟨rfl, rfl⟩ := some_inj2 c2 b2
  obtain ⟨xa2, ya2, p2, q2, d1, d2, d3, d4, d5, _, d7⟩ := op_ok hMul l3
  obtain ⟨p3, q3, p4, q4, f1, f2, f3, f4, f5, _, f7⟩ := op_ok hSum r3
  obtain ⟨rfl, rfl⟩ := some_inj2 d1 a1
  have lb := red_low (n := (fSum xb' yb' xc' yc').1) b5
  have l3' := red_low (n := (fMul xa2 ya2 xb' yb').1) a5
  have l4' := red_low (n := (fMul xa2 ya2 xc' yc').1) c5
  rw [b6] at d2
  rw [a6] at f1
  rw [c6] at f2
  have e2 : red (fSum xb' yb' xc' yc').1 (fSum xb' yb' xc' yc').2 = (p2, q2) := Option.some.inj d2
  have e3 : red (fMul xa2 ya2 xb' yb').1 (fMul xa2 ya2 xb' yb').2 = (p3, q3) := Option.some.inj f1
  have e4 : red (fMul xa2 ya2 xc' yc').1 (fMul xa2 ya2 xc' yc').2 = (p4, q4) := Option.some.inj f2
  rw [e2] at lb
  rw [e3] at l3'
  rw [e4] at l4'
  rw [d7, f7]
  have e : red (fMul xa2 ya2 p2 q2).1 (fMul xa2 ya2 p2 q2).2 = red (fSum p3 q3 p4 q4).1 (fSum p3 q3 p4 q4).2 :=
    red_eq d5 f5 (distr_cross (by omega) (by omega) (by omega) lb.eq l3'.eq l4'.eq)
  rw [e]
def ivP (a : Rp) : Rp × Int := (((ivS a.1.data.toList a.2.data.toList).1, (ivS a.1.data.toList a.2.data.toList).2.1), (ivS a.1.data.toList a.2.data.toList).2.2)
def oneP : Rp := (⟨#[49]⟩, ⟨#[49]⟩)
theorem tzB_one : tzB 1 = ⟨#[49]⟩ := by unfold tzB tz; rw [if_neg (by decide), show (1 : Int).natAbs = 1 from rfl, Lib.decDigits_one (by decide)]; rfl
theorem field_inv (a : Rp) (h : (ivP a).2 = 0) (h1 : (opP fMul a (ivP a).1).2 = true) : (opP fMul a (ivP a).1).1 = oneP := by
  obtain ⟨x, y, p, q, a1, a2, a3, a4, a5, _, a7⟩ := op_ok hMul h1
  have hiv : ivS a.1.data.toList a.2.data.toList = if x = 0 then (⟨#[]⟩, ⟨#[]⟩, 19) else raR y x := by
    unfold ivS
    have a1' : rread a.1.data.toList a.2.data.toList = some (x, y) := a1
    rw [a1']
  have hx : x ≠ 0 := by
    intro hx
    unfold ivP at h
    rw [hiv, if_pos hx] at h
    cases h
  rw [if_neg hx] at hiv
  have h0 : (raR y x).2.2 = 0 := by
    unfold ivP at h
    rw [hiv] at h
    exact h
  have r := raR_ok hx h0
  have e1 : (ivP a).1 = ((raR y x).1, (raR y x).2.1) := by unfold ivP; rw [hiv]
  rw [e1, r.2] at a2
  have e2 : red y x = (p, q) := Option.some.inj a2
  have l := red_low (n := y) hx
  rw [e2] at l
  have e3 : (fMul x y p q).1 = (fMul x y p q).2 := by
    show x * p = y * q
    rw [Int.mul_comm x p]; exact l.eq
  rw [a7]
  have e4 : red (fMul x y p q).1 (fMul x y p q).2 = (1, 1) := by rw [e3]; exact red_self a5
  rw [e4, tzB_one]
  rfl
def orP (a b : Rp) : Int × Int := orS a.1.data.toList a.2.data.toList b.1.data.toList b.2.data.toList
theorem or_some {a b : Rp} {x y x' y' : Int} (h1 : rdP a = some (x, y)) (h2 : rdP b = some (x', y')) : orP a b = (zcmp (x * y') (x' * y), 0) := by
  unfold rdP at h1 h2
  unfold orP orS
  rw [h1, h2]
theorem field_order (a b c : Rp) (h1 : (opP fSum a c).2 = true) (h2 : (opP fSum b c).2 = true) : orP (opP fSum a c).1 (opP fSum b c).1 = ((orP a b).1, 0) := by
  obtain ⟨xa, ya, xc, yc, a1, a2, a3, a4, a5, a6, _⟩ := op_ok hSum h1
  obtain ⟨xb, yb, xc', yc', b1, b2, b3, b4, b5, b6, _⟩ := op_ok hSum h2
  obtain ⟨rfl, rfl⟩ := some_inj2 b2 a2
  have la := red_low (n := (fSum xa ya xc' yc').1) a5
  have lb := red_low (n := (fSum xb yb xc' yc').1) b5
  obtain ⟨⟨p5, q5⟩, e5⟩ : ∃ r, red (fSum xa ya xc' yc').1 (fSum xa ya xc' yc').2 = r := ⟨_, rfl⟩
  obtain ⟨⟨p2, q2⟩, e2⟩ : ∃ r, red (fSum xb yb xc' yc').1 (fSum xb yb xc' yc').2 = r := ⟨_, rfl⟩
  rw [e5] at a6 la
  rw [e2] at b6 lb
  rw [or_some a6 b6, or_some a1 b1, order_cross a3 b3 a4 la.pos lb.pos la.eq lb.eq]
end Go.Proofs.YtaibpppobblnoaaDoor
