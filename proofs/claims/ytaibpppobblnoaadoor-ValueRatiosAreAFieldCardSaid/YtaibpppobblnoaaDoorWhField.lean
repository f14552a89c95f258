/-
  Ratios: the arithmetic of fractions in lowest terms.
-/
import Derived.Test.YtaibpppobblnoaaDoorWhVal5
namespace Go.Proofs.YtaibpppobblnoaaDoor

theorem cop_dvd {a b c : Nat} (h : Nat.gcd a b = 1) (hd : a ∣ b * c) : a ∣ c := Nat.Coprime.dvd_of_dvd_mul_left h hd
/-- A fraction in lowest terms is one alone. -/
theorem low_eq {p q p' q' : Int} (hq : 0 < q) (hq' : 0 < q') (h1 : Int.gcd p q = 1) (h2 : Int.gcd p' q' = 1) (h : p * q' = p' * q) : p = p' ∧ q = q' := by
  have e : p.natAbs * q'.natAbs = p'.natAbs * q.natAbs := by rw [← Int.natAbs_mul, h, Int.natAbs_mul]
  have g1 : Nat.gcd q.natAbs p.natAbs = 1 := by rw [Nat.gcd_comm]; exact h1
  have g2 : Nat.gcd q'.natAbs p'.natAbs = 1 := by rw [Nat.gcd_comm]; exact h2
  have d1 : q.natAbs ∣ q'.natAbs := cop_dvd g1 (by rw [e]; exact Nat.dvd_mul_left _ _)
  have d2 : q'.natAbs ∣ q.natAbs := cop_dvd g2 (by rw [← e]; exact Nat.dvd_mul_left _ _)
  have e2 : q.natAbs = q'.natAbs := Nat.dvd_antisymm d1 d2
  have e3 : q = q' := by omega
  subst e3
  exact ⟨Int.eq_of_mul_eq_mul_right (by omega) h, rfl⟩
/-- What the lowest terms of a fraction are. -/
structure Low (n d p q : Int) : Prop where
  pos : 0 < q
  one : Int.gcd p q = 1
  eq : p * d = n * q
theorem red_low {n d : Int} (h : d ≠ 0) : Low n d (red n d).1 (red n d).2 := by
  have hp := red_pos (n := n) h
  have hg : 0 < Int.gcd n d := Int.gcd_pos_of_ne_zero_right n h
  have hgn : ovG n d ≠ 0 := ovG_ne h
  have habs := ovG_abs n d
  have hdn : ovG n d ∣ n := by rw [← Int.natAbs_dvd, habs]; exact Int.gcd_dvd_left n d
  have hdd : ovG n d ∣ d := by rw [← Int.natAbs_dvd, habs]; exact Int.gcd_dvd_right n d
  refine ⟨hp, ?_, ?_⟩
  · show Nat.gcd (n.tdiv (ovG n d)).natAbs (d.tdiv (ovG n d)).natAbs = 1
    rw [Int.natAbs_tdiv, Int.natAbs_tdiv, habs]
    have hg2 : 0 < Nat.gcd n.natAbs d.natAbs := hg
    show Nat.gcd (n.natAbs / Nat.gcd n.natAbs d.natAbs) (d.natAbs / Nat.gcd n.natAbs d.natAbs) = 1
    rw [Nat.gcd_div (Nat.gcd_dvd_left _ _) (Nat.gcd_dvd_right _ _), Nat.div_self hg2]
  · show n.tdiv (ovG n d) * d = n * d.tdiv (ovG n d)
    have a := Int.tdiv_mul_cancel hdn
    have b := Int.tdiv_mul_cancel hdd
    generalize n.tdiv (ovG n d) = u at *
    generalize d.tdiv (ovG n d) = v at *
    generalize ovG n d = g at *
    rw [← a, ← b, Int.mul_assoc, Int.mul_comm g v]
theorem red_eq {n d n' d' : Int} (h : d ≠ 0) (h' : d' ≠ 0) (e : n * d' = n' * d) : red n d = red n' d' := by
  have l := red_low (n := n) h
  have l' := red_low (n := n') h'
  generalize red n d = r at *
  generalize red n' d' = r' at *
  have hx : r.1 * r'.2 = r'.1 * r.2 := by
    have a := l.eq
    have b := l'.eq
    have t : (r.1 * r'.2) * (d * d') = (r'.1 * r.2) * (d * d') := by
      have c1 : (r.1 * r'.2) * (d * d') = (r.1 * d) * (d' * r'.2) := by grind
      have c2 : (r'.1 * r.2) * (d * d') = (r'.1 * d') * (d * r.2) := by grind
      rw [c1, c2, a, b]
      have c3 : n * r.2 * (d' * r'.2) = (n * d') * (r.2 * r'.2) := by grind
      have c4 : n' * r'.2 * (d * r.2) = (n' * d) * (r.2 * r'.2) := by grind
      rw [c3, c4, e]
    exact Int.eq_of_mul_eq_mul_right (Int.mul_ne_zero h h') t
  have := low_eq l.pos l'.pos l.one l'.one hx
  exact Prod.ext this.1 this.2
theorem red_self {n : Int} (h : n ≠ 0) : red n n = (1, 1) := by
  have l := red_low (n := n) h
  generalize red n n = r at *
  have h1 : r.1 = r.2 := Int.eq_of_mul_eq_mul_right h (by rw [l.eq, Int.mul_comm])
  have := low_eq (p := r.1) (q := r.2) (p' := 1) (q' := 1) l.pos (by decide) l.one rfl (by omega)
  exact Prod.ext this.1 this.2
theorem low_cancel {a b k : Int} (hk : k ≠ 0) (h : a * k = b * k) : a = b := Int.eq_of_mul_eq_mul_right hk h
/-- Sums are associative. -/
theorem assoc_cross {xa ya xb yb xc yc p1 q1 p2 q2 : Int} (hb : yb ≠ 0) (h1 : p1 * (ya * yb) = (xa * yb + xb * ya) * q1) (h2 : p2 * (yb * yc) = (xb * yc + xc * yb) * q2) :
    (p1 * yc + xc * q1) * (ya * q2) = (xa * q2 + p2 * ya) * (q1 * yc) := by
  refine low_cancel hb ?_
  have c1 : (p1 * yc + xc * q1) * (ya * q2) * yb = (p1 * (ya * yb)) * (yc * q2) + xc * q1 * ya * q2 * yb := by grind
  have c2 : (xa * q2 + p2 * ya) * (q1 * yc) * yb = xa * q2 * q1 * yc * yb + (p2 * (yb * yc)) * (ya * q1) := by grind
  rw [c1, c2, h1, h2]
  grind
/-- Products distribute over sums. -/
theorem distr_cross {xa ya xb yb xc yc p2 q2 p3 q3 p4 q4 : Int} (ha : ya ≠ 0) (hb : yb ≠ 0) (hc : yc ≠ 0) (h2 : p2 * (yb * yc) = (xb * yc + xc * yb) * q2) (h3 : p3 * (ya * yb) = (xa * xb) * q3) (h4 : p4 * (ya * yc) = (xa * xc) * q4) :
    (xa * p2) * (q3 * q4) = (p3 * q4 + p4 * q3) * (ya * q2) := by
  refine low_cancel (Int.mul_ne_zero ha (Int.mul_ne_zero hb hc)) ?_
  have c1 : (xa * p2) * (q3 * q4) * (ya * (yb * yc)) = (p2 * (yb * yc)) * (xa * q3 * q4 * ya) := by grind
  have c2 : (p3 * q4 + p4 * q3) * (ya * q2) * (ya * (yb * yc)) = (p3 * (ya * yb)) * (q4 * ya * q2 * yc) + (p4 * (ya * yc)) * (q3 * ya * q2 * yb) := by grind
  rw [c1, c2, h2, h3, h4]
  grind
theorem zcmp_scale {u v u' v' k m : Int} (hk : 0 < k) (hm : 0 < m) (h : (u - v) * k = m * (u' - v')) : zcmp u v = zcmp u' v' := by
  have s1 : (u - v).sign = (u' - v').sign := by
    have e := congrArg Int.sign h
    rw [Int.sign_mul, Int.sign_mul, Int.sign_eq_one_of_pos hk, Int.sign_eq_one_of_pos hm] at e
    omega
  unfold zcmp
  rcases Int.lt_trichotomy u v with l | l | l
  · have e : (u - v).sign = -1 := Int.sign_eq_neg_one_of_neg (by omega)
    rcases Int.lt_trichotomy u' v' with l' | l' | l'
    · rw [if_pos l, if_pos l']
    · rw [l', Int.sub_self] at s1; rw [e] at s1; cases s1
    · rw [e, Int.sign_eq_one_of_pos (show 0 < u' - v' by omega)] at s1; cases s1
  · subst l
    rw [Int.sub_self] at s1
    have : u' - v' = 0 := Int.sign_eq_zero_iff_zero.1 s1.symm
    have e2 : u' = v' := by omega
    rw [e2, if_neg (by omega), if_neg (by omega), if_neg (by omega), if_neg (by omega)]
  · have e : (u - v).sign = 1 := Int.sign_eq_one_of_pos (by omega)
    rcases Int.lt_trichotomy u' v' with l' | l' | l'
    · rw [e, Int.sign_eq_neg_one_of_neg (show u' - v' < 0 by omega)] at s1; cases s1
    · rw [l', Int.sub_self] at s1; rw [e] at s1; cases s1
    · rw [if_neg (by omega), if_pos l, if_neg (by omega), if_pos l']
theorem order_cross {xa ya xb yb xc yc p5 q5 p2 q2 : Int} (ha : 0 < ya) (hb : 0 < yb) (hc : 0 < yc) (h5p : 0 < q5) (h2p : 0 < q2) (h5 : p5 * (ya * yc) = (xa * yc + xc * ya) * q5) (h2 : p2 * (yb * yc) = (xb * yc + xc * yb) * q2) :
    zcmp (xa * yb) (xb * ya) = zcmp (p5 * q2) (p2 * q5) := by
  refine (zcmp_scale (k := ya * yb * yc) (m := q5 * q2 * yc) ?_ ?_ ?_).symm
  · exact Int.mul_pos (Int.mul_pos ha hb) hc
  · exact Int.mul_pos (Int.mul_pos h5p h2p) hc
  · have c1 : (p5 * q2 - p2 * q5) * (ya * yb * yc) = (p5 * (ya * yc)) * (q2 * yb) - (p2 * (yb * yc)) * (q5 * ya) := by grind
    rw [c1, h5, h2]
    grind
end Go.Proofs.YtaibpppobblnoaaDoor
