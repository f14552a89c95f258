/-
  Ratios: what the operations on texts have to do with numbers.
  The helpers of the law: sum, product, agree.
  The law's helper both, called with sum and with product.
  The law ValueRatiosAreAField, walked.
-/
import Derived.Test.YtfijhkaalpinhaaDoorWh13
namespace Go.Proofs.YtfijhkaalpinhaaDoor

/-- A ratio's two texts. -/
abbrev Rp := ByteArray × ByteArray
def rdP (a : Rp) : Option (Int × Int) := rread a.1.data.toList a.2.data.toList
def noP : Rp := (⟨#[]⟩, ⟨#[]⟩)
def opP (F : Int → Int → Int → Int → Int × Int) (a b : Rp) : Rp × Bool :=
  (((opS F a.1.data.toList a.2.data.toList b.1.data.toList b.2.data.toList).1, (opS F a.1.data.toList a.2.data.toList b.1.data.toList b.2.data.toList).2.1), decide ((opS F a.1.data.toList a.2.data.toList b.1.data.toList b.2.data.toList).2.2 = 0))
theorem rread_pos {n d : List UInt8} {x y : Int} (h : rread n d = some (x, y)) : 0 < y ∧ Int.gcd x y = 1 := by
  unfold rread at h
  split at h
  · cases h
  · split at h
    · split at h
      · next hc => cases h; exact hc
      · cases h
    · cases h
theorem tz_read (z : Int) : zread (tz z) = some z := by
  have h := zread_tz (decide (z < 0)) z.natAbs (fun e => by simp at e; omega)
  have e : (if decide (z < 0) = true then 45 :: Lib.decDigits z.natAbs else Lib.decDigits z.natAbs) = tz z := by
    unfold tz; by_cases hz : z < 0 <;> simp [hz]
  rw [e] at h
  rw [h]
  congr 1
  by_cases hz : z < 0 <;> simp [hz] <;> omega
theorem ra_read {x y : Int} (hf : fits x y = true) (hp : 0 < y) (h1 : Int.gcd x y = 1) : rdP (tzB x, tzB y) = some (x, y) := by
  have hy : tz y = Lib.decDigits y.natAbs := by unfold tz; rw [if_neg (by omega)]
  have hl : large (tz x) (tz y) = false := by
    unfold fits at hf
    simp at hf
    unfold large
    rw [trim_tz, hy]
    simp
    omega
  show rread (tz x) (tz y) = some (x, y)
  unfold rread
  rw [hl, tz_read, tz_read]
  simp [hp, h1]
theorem op_none {F : Int → Int → Int → Int → Int × Int} {a b : Rp} (h : rdP a = none ∨ rdP b = none) : opP F a b = (noP, false) := by
  have hne := rflt_ne
  unfold opP opS
  rcases h with h | h
  · unfold rdP at h
    rw [h]
    simp [noP, hne]
  · unfold rdP at h
    cases ha : rread a.1.data.toList a.2.data.toList with
    | none => simp [noP, hne]
    | some p => obtain ⟨x, y⟩ := p; simp [noP, hne, h]
theorem op_some {F : Int → Int → Int → Int → Int × Int} {a b : Rp} {x y x' y' : Int} (h1 : rdP a = some (x, y)) (h2 : rdP b = some (x', y')) :
    opP F a b = (((raR (F x y x' y').1 (F x y x' y').2).1, (raR (F x y x' y').1 (F x y x' y').2).2.1), decide ((raR (F x y x' y').1 (F x y x' y').2).2.2 = 0)) := by
  unfold rdP at h1 h2
  unfold opP opS
  rw [h1, h2]
theorem raR_ok {n d : Int} (hd : d ≠ 0) (h : (raR n d).2.2 = 0) : ((raR n d).1, (raR n d).2.1) = (tzB (red n d).1, tzB (red n d).2) ∧ rdP ((raR n d).1, (raR n d).2.1) = some (red n d) := by
  unfold raR ra at h ⊢
  by_cases hf : fits (red n d).1 (red n d).2 = true
  · rw [if_pos hf]
    have l := red_low (n := n) hd
    exact ⟨rfl, ra_read hf l.pos l.one⟩
  · rw [if_neg hf] at h
    cases h
/-- An operation that has a result. -/
theorem op_ok {F : Int → Int → Int → Int → Int × Int} (hF : ∀ x y x' y', (F x y x' y').2 = y * y') {a b : Rp} (h : (opP F a b).2 = true) :
    ∃ x y x' y', rdP a = some (x, y) ∧ rdP b = some (x', y') ∧ 0 < y ∧ 0 < y' ∧ (F x y x' y').2 ≠ 0 ∧ rdP (opP F a b).1 = some (red (F x y x' y').1 (F x y x' y').2) ∧ (opP F a b).1 = (tzB (red (F x y x' y').1 (F x y x' y').2).1, tzB (red (F x y x' y').1 (F x y x' y').2).2) := by
  cases ha : rdP a with
  | none => rw [op_none (.inl ha)] at h; cases h
  | some p =>
    obtain ⟨x, y⟩ := p
    cases hb : rdP b with
    | none => rw [op_none (.inr hb)] at h; cases h
    | some q =>
      obtain ⟨x', y'⟩ := q
      have p1 := rread_pos (n := a.1.data.toList) (d := a.2.data.toList) ha
      have p2 := rread_pos (n := b.1.data.toList) (d := b.2.data.toList) hb
      have hd : (F x y x' y').2 ≠ 0 := by rw [hF]; exact Int.mul_ne_zero (by omega) (by omega)
      rw [op_some ha hb] at h ⊢
      have h0 : (raR (F x y x' y').1 (F x y x' y').2).2.2 = 0 := by simpa using h
      have r := raR_ok hd h0
      exact ⟨x, y, x', y', rfl, rfl, p1.1, p2.1, hd, r.2, r.1⟩
theorem hSum : ∀ x y x' y', (fSum x y x' y').2 = y * y' := fun _ _ _ _ => rfl
theorem hMul : ∀ x y x' y', (fMul x y x' y').2 = y * y' := fun _ _ _ _ => rfl
theorem sum_comm (a b : Rp) : opP fSum a b = opP fSum b a := by
  cases ha : rdP a with
  | none => rw [op_none (.inl ha), op_none (.inr ha)]
  | some p =>
    obtain ⟨x, y⟩ := p
    cases hb : rdP b with
    | none => rw [op_none (.inr hb), op_none (.inl hb)]
    | some q =>
      obtain ⟨x', y'⟩ := q
      rw [op_some ha hb, op_some hb ha]
      have e : fSum x y x' y' = fSum x' y' x y := by
        unfold fSum
        rw [Int.add_comm (x * y'), Int.mul_comm y y']
      rw [e]
def bothP (F : Int → Int → Int → Int → Int × Int) (a : Rp) (x : Bool) (b : Rp) (y : Bool) : Rp × Bool := if x = true ∧ y = true then opP F a b else (noP, false)
def agreeP (a : Rp) (x : Bool) (b : Rp) (y : Bool) : Bool := !x || !y || decide (a = b)
theorem agree_of {a b : Rp} {x y : Bool} (h : x = true → y = true → a = b) : agreeP a x b y = true := by
  unfold agreeP
  cases x <;> cases y <;> simp
  exact h rfl rfl
theorem both_ok {F : Int → Int → Int → Int → Int × Int} {a b : Rp} {x y : Bool} (h : (bothP F a x b y).2 = true) : x = true ∧ y = true ∧ (opP F a b).2 = true ∧ bothP F a x b y = opP F a b := by
  unfold bothP at h ⊢
  by_cases hc : x = true ∧ y = true
  · rw [if_pos hc] at h ⊢
    exact ⟨hc.1, hc.2, h, rfl⟩
  · rw [if_neg hc] at h
    cases h
theorem some_inj2 {x y x' y' : Int} {o : Option (Int × Int)} (h1 : o = some (x, y)) (h2 : o = some (x', y')) : x = x' ∧ y = y' := by
  rw [h1] at h2; cases h2; exact ⟨rfl, rfl⟩
theorem field_assoc (a b c : Rp) :
    agreeP (bothP fSum (opP fSum a b).1 (opP fSum a b).2 c true).1 (bothP fSum (opP fSum a b).1 (opP fSum a b).2 c true).2 (bothP fSum a true (opP fSum b c).1 (opP fSum b c).2).1 (bothP fSum a true (opP fSum b c).1 (opP fSum b c).2).2 = true := by
  refine agree_of fun hl hr => ?_
  obtain ⟨l1, _, l3, l4⟩ := both_ok hl
  obtain ⟨_, r2, r3, r4⟩ := both_ok hr
  rw [l4, r4]
  obtain ⟨xa, ya, xb, yb, a1, a2, a3, a4, a5, a6, _⟩ := op_ok hSum l1
  obtain ⟨xb', yb', xc, yc, b1, b2, b3, b4, b5, b6, _⟩ := op_ok hSum r2
  obtain ⟨rfl, rfl⟩ := some_inj2 b1 a2
  obtain ⟨p1, q1, xc', yc', c1, c2, c3, c4, c5, _, c7⟩ := op_ok hSum l3
  obtain ⟨xa', ya', p2, q2, d1, d2, d3, d4, d5, _, d7⟩ := op_ok hSum r3
  obtain ⟨rfl, rfl⟩ := some_inj2 d1 a1
  obtain ⟨rfl, rfl⟩ := some_inj2 c2 b2
  have la := red_low (n := (fSum xa' ya' xb' yb').1) a5
  have lb := red_low (n := (fSum xb' yb' xc' yc').1) b5
  rw [a6] at c1
  rw [b6] at d2
  have e1 : red (fSum xa' ya' xb' yb').1 (fSum xa' ya' xb' yb').2 = (p1, q1) := Option.some.inj c1
  have e2 : red (fSum xb' yb' xc' yc').1 (fSum xb' yb' xc' yc').2 = (p2, q2) := Option.some.inj d2
  rw [e1] at la
  rw [e2] at lb
  rw [c7, d7]
  have e : red (fSum p1 q1 xc' yc').1 (fSum p1 q1 xc' yc').2 = red (fSum xa' ya' p2 q2).1 (fSum xa' ya' p2 q2).2 :=
    red_eq c5 d5 (assoc_cross (by omega) la.eq lb.eq)
  rw [e]
theorem field_distr (a b c : Rp) :
    agreeP (bothP fMul a true (opP fSum b c).1 (opP fSum b c).2).1 (bothP fMul a true (opP fSum b c).1 (opP fSum b c).2).2 (bothP fSum (opP fMul a b).1 (opP fMul a b).2 (opP fMul a c).1 (opP fMul a c).2).1 (bothP fSum (opP fMul a b).1 (opP fMul a b).2 (opP fMul a c).1 (opP fMul a c).2).2 = true := by
  refine agree_of fun hl hr => ?_
  obtain ⟨_, l2, l3, l4⟩ := both_ok hl
  obtain ⟨r1, r2, r3, r4⟩ := both_ok hr
  rw [l4, r4]
  obtain ⟨xb, yb, xc, yc, b1, b2, b3, b4, b5, b6, _⟩ := op_ok hSum l2
  obtain ⟨xa, ya, xb', yb', a1, a2, a3, a4, a5, a6, _⟩ := op_ok hMul r1
  obtain ⟨rfl, rfl⟩ := some_inj2 a2 b1
  obtain ⟨xa', ya', xc', yc', c1, c2, c3, c4, c5, c6, _⟩ := op_ok hMul r2
  obtain ⟨rfl, rfl⟩ := some_inj2 c1 a1
  obtain ⟨rfl, rfl⟩ := some_inj2 c2 b2
  obtain ⟨xa2, ya2, p2, q2, d1, d2, d3, d4, d5, _, d7⟩ := op_ok hMul l3
  obtain ⟨p3, q3, p4, q4, f1, f2, f3, f4, f5, _, f7⟩ := op_ok hSum r3
  obtain ⟨rfl, rfl⟩ := some_inj2 d1 a1
  have lb := red_low (n := (fSum xb' yb' xc' yc').1) b5
  have l3' := red_low (n := (fMul xa2 ya2 xb' yb').1) a5
  have l4' := red_low (n := (fMul xa2 ya2 xc' yc').1) c5
  rw [b6] at d2
  rw [a6] at f1
  rw [c6] at f2
  have e2 : red (fSum xb' yb' xc' yc').1 (fSum xb' yb' xc' yc').2 = (p2, q2) := Option.some.inj d2
  have e3 : red (fMul xa2 ya2 xb' yb').1 (fMul xa2 ya2 xb' yb').2 = (p3, q3) := Option.some.inj f1
  have e4 : red (fMul xa2 ya2 xc' yc').1 (fMul xa2 ya2 xc' yc').2 = (p4, q4) := Option.some.inj f2
  rw [e2] at lb
  rw [e3] at l3'
  rw [e4] at l4'
  rw [d7, f7]
  have e : red (fMul xa2 ya2 p2 q2).1 (fMul xa2 ya2 p2 q2).2 = red (fSum p3 q3 p4 q4).1 (fSum p3 q3 p4 q4).2 :=
    red_eq d5 f5 (distr_cross (by omega) (by omega) (by omega) lb.eq l3'.eq l4'.eq)
  rw [e]
def ivP (a : Rp) : Rp × Int := (((ivS a.1.data.toList a.2.data.toList).1, (ivS a.1.data.toList a.2.data.toList).2.1), (ivS a.1.data.toList a.2.data.toList).2.2)
def oneP : Rp := (⟨#[49]⟩, ⟨#[49]⟩)
theorem tzB_one : tzB 1 = ⟨#[49]⟩ := by unfold tzB tz; rw [if_neg (by decide), show (1 : Int).natAbs = 1 from rfl, Lib.decDigits_one (by decide)]; rfl
theorem field_inv (a : Rp) (h : (ivP a).2 = 0) (h1 : (opP fMul a (ivP a).1).2 = true) : (opP fMul a (ivP a).1).1 = oneP := by
  obtain ⟨x, y, p, q, a1, a2, a3, a4, a5, _, a7⟩ := op_ok hMul h1
  have hiv : ivS a.1.data.toList a.2.data.toList = if x = 0 then (⟨#[]⟩, ⟨#[]⟩, 19) else raR y x := by
    unfold ivS
    have a1' : rread a.1.data.toList a.2.data.toList = some (x, y) := a1
    rw [a1']
  have hx : x ≠ 0 := by
    intro hx
    unfold ivP at h
    rw [hiv, if_pos hx] at h
    cases h
  rw [if_neg hx] at hiv
  have h0 : (raR y x).2.2 = 0 := by
    unfold ivP at h
    rw [hiv] at h
    exact h
  have r := raR_ok hx h0
  have e1 : (ivP a).1 = ((raR y x).1, (raR y x).2.1) := by unfold ivP; rw [hiv]
  rw [e1, r.2] at a2
  have e2 : red y x = (p, q) := Option.some.inj a2
  have l := red_low (n := y) hx
  rw [e2] at l
  have e3 : (fMul x y p q).1 = (fMul x y p q).2 := by
    show x * p = y * q
    rw [Int.mul_comm x p]; exact l.eq
  rw [a7]
  have e4 : red (fMul x y p q).1 (fMul x y p q).2 = (1, 1) := by rw [e3]; exact red_self a5
  rw [e4, tzB_one]
  rfl
def orP (a b : Rp) : Int × Int := orS a.1.data.toList a.2.data.toList b.1.data.toList b.2.data.toList
theorem or_some {a b : Rp} {x y x' y' : Int} (h1 : rdP a = some (x, y)) (h2 : rdP b = some (x', y')) : orP a b = (zcmp (x * y') (x' * y), 0) := by
  unfold rdP at h1 h2
  unfold orP orS
  rw [h1, h2]
theorem field_order (a b c : Rp) (h1 : (opP fSum a c).2 = true) (h2 : (opP fSum b c).2 = true) : orP (opP fSum a c).1 (opP fSum b c).1 = ((orP a b).1, 0) := by
  obtain ⟨xa, ya, xc, yc, a1, a2, a3, a4, a5, a6, _⟩ := op_ok hSum h1
  obtain ⟨xb, yb, xc', yc', b1, b2, b3, b4, b5, b6, _⟩ := op_ok hSum h2
  obtain ⟨rfl, rfl⟩ := some_inj2 b2 a2
  have la := red_low (n := (fSum xa ya xc' yc').1) a5
  have lb := red_low (n := (fSum xb yb xc' yc').1) b5
  obtain ⟨⟨p5, q5⟩, e5⟩ : ∃ r, red (fSum xa ya xc' yc').1 (fSum xa ya xc' yc').2 = r := ⟨_, rfl⟩
  obtain ⟨⟨p2, q2⟩, e2⟩ : ∃ r, red (fSum xb yb xc' yc').1 (fSum xb yb xc' yc').2 = r := ⟨_, rfl⟩
  rw [e5] at a6 la
  rw [e2] at b6 lb
  rw [or_some a6 b6, or_some a1 b1, order_cross a3 b3 a4 la.pos lb.pos la.eq lb.eq]
end Go.Proofs.YtfijhkaalpinhaaDoor
namespace Go.Proofs.YtfijhkaalpinhaaDoor
open Go.RowKit

abbrev pv (a : Rp) : Value := .agg #[.string a.1, .string a.2]
theorem ba_eq {s s' : ByteArray} (h : s.toList = s'.toList) : s = s' := by
  rw [Lib.toList_data, Lib.toList_data] at h
  cases s; cases s'
  simp only [ByteArray.mk.injEq]
  exact Array.toList_inj.1 h
def LpPost (p : Rp × Bool) (w : World) (e : Ending) (w' : World) : Prop := e = .returned (.tuple #[pv p.1, .bool p.2]) ∧ Below w.heap.size w w'
set_option maxRecDepth 100000 in
set_option maxHeartbeats 4000000 in
theorem Lsum_c (a b : Rp) (w : World) :
    Calls Tryd.prog 4 #[pv a, pv b] w (LpPost (opP fSum a b) w) := by
  obtain ⟨s, t⟩ := a
  obtain ⟨s', t'⟩ := b
  obtain ⟨W0, hW0⟩ : ∃ W0, ((w.alloc (.cells #[.string s, .string t] 23)).alloc (.cells #[.string s', .string t'] 23)).alloc (.cells #[.string ⟨#[]⟩, .string ⟨#[]⟩] 23) = W0 := ⟨_, rfl⟩
  have J0 : Hid (Sa w s t s' t' W0) := by rw [← hW0]; exact Sa.made _ _ _ _ _ _ _ _
  have x0 := J0.out.x.c0
  have x1 := J0.out.x.c1
  have y0 := J0.out.y.c0
  have y1 := J0.out.y.c1
  have H1 := Lib.hid (fun w => Sum_c s t s' t' w)
  have HOP : Hid (opP fSum (s, t) (s', t') = (((opS fSum s.data.toList t.data.toList s'.data.toList t'.data.toList).1, (opS fSum s.data.toList t.data.toList s'.data.toList t'.data.toList).2.1), decide ((opS fSum s.data.toList t.data.toList s'.data.toList t'.data.toList).2.2 = 0))) := rfl
  obtain ⟨rr, hrr⟩ : ∃ rr, opS fSum s.data.toList t.data.toList s'.data.toList t'.data.toList = rr := ⟨_, rfl⟩
  rw [hrr] at H1 HOP
  clear hrr
  obtain ⟨r1, r2, fl⟩ := rr
  obtain ⟨bb, hbb⟩ : ∃ bb, (fl == 0) = bb := ⟨_, rfl⟩
  have HBB : Hid (decide (fl = 0) = bb) := hbb
  go_enter Tryd.func4, Tryd.ntmps4
  go_wp2_with fail
  clear hW0 x0 x1 y0 y1
  refine (H1.out _).mono ?_
  rintro e w1 ⟨rfl, b1⟩
  have J1 := Lib.hid (J0.out.keep b1)
  clear b1 H1 J0
  obtain ⟨WA, hWA⟩ : ∃ WA, w1.alloc (.cells #[.string ⟨#[]⟩, .string ⟨#[]⟩] 23) = WA := ⟨_, rfl⟩
  have D1 : B2 WA w1.heap.size (.string ⟨#[]⟩) (.string ⟨#[]⟩) := by rw [← hWA]; exact B2.made _ _ _ _
  obtain ⟨WB, hWB⟩ : ∃ WB, two WA w1.heap.size (.string r1) (.string r2) = WB := ⟨_, rfl⟩
  have hbb1 : Below w1.heap.size w1 WB := by rw [← hWB]; exact below_two (by rw [← hWA]; exact bel_one _ _) (Nat.le_refl _) _ _
  have D2 : B2 WB w1.heap.size (.string r1) (.string r2) := by rw [← hWB]; exact D1.set _ _
  have J2 := Lib.hid (J1.out.keep hbb1)
  have a0 := D1.c0
  have a1 := D1.c1
  have af0 := D1.fr 0
  have af1 := D1.fr 1
  have d0 := D2.c0
  have d1 := D2.c1
  obtain ⟨WC, hWC⟩ : ∃ WC, two WB (w.heap.size + 1 + 1) (.string r1) (.string r2) = WC := ⟨_, rfl⟩
  have R9 : B2 WC (w.heap.size + 1 + 1) (.string r1) (.string r2) := by rw [← hWC]; exact J2.out.r.set _ _
  have PP : Hid (LpPost (opP fSum (s, t) (s', t')) w (.returned (.tuple #[.agg #[.string r1, .string r2], .bool bb])) WC) := by
    rw [← hWC]
    exact ⟨by rw [HOP.out, ← HBB.out], below_two J2.out.bel (by omega) _ _⟩
  have c0 := J2.out.r.c0
  have c1 := J2.out.r.c1
  have cf0 := J2.out.r.fr 0
  have cf1 := J2.out.r.fr 1
  obtain ⟨q0, q1, _, _⟩ := id R9
  unfold two at hWB hWC
  clear R9 D1 D2 hbb1 J1
  go_wp2_with fail
  exact bodyPost_ret (v := .tuple #[.agg #[.string r1, .string r2], .bool bb]) (by simp [results, Tryd.results4, go_sem, q0, q1]) rfl PP.out
set_option maxRecDepth 100000 in
set_option maxHeartbeats 4000000 in
theorem Lproduct_c (a b : Rp) (w : World) :
    Calls Tryd.prog 7 #[pv a, pv b] w (LpPost (opP fMul a b) w) := by
  obtain ⟨s, t⟩ := a
  obtain ⟨s', t'⟩ := b
  obtain ⟨W0, hW0⟩ : ∃ W0, ((w.alloc (.cells #[.string s, .string t] 23)).alloc (.cells #[.string s', .string t'] 23)).alloc (.cells #[.string ⟨#[]⟩, .string ⟨#[]⟩] 23) = W0 := ⟨_, rfl⟩
  have J0 : Hid (Sa w s t s' t' W0) := by rw [← hW0]; exact Sa.made _ _ _ _ _ _ _ _
  have x0 := J0.out.x.c0
  have x1 := J0.out.x.c1
  have y0 := J0.out.y.c0
  have y1 := J0.out.y.c1
  have H1 := Lib.hid (fun w => Product_c s t s' t' w)
  have HOP : Hid (opP fMul (s, t) (s', t') = (((opS fMul s.data.toList t.data.toList s'.data.toList t'.data.toList).1, (opS fMul s.data.toList t.data.toList s'.data.toList t'.data.toList).2.1), decide ((opS fMul s.data.toList t.data.toList s'.data.toList t'.data.toList).2.2 = 0))) := rfl
  obtain ⟨rr, hrr⟩ : ∃ rr, opS fMul s.data.toList t.data.toList s'.data.toList t'.data.toList = rr := ⟨_, rfl⟩
  rw [hrr] at H1 HOP
  clear hrr
  obtain ⟨r1, r2, fl⟩ := rr
  obtain ⟨bb, hbb⟩ : ∃ bb, (fl == 0) = bb := ⟨_, rfl⟩
  have HBB : Hid (decide (fl = 0) = bb) := hbb
  go_enter Tryd.func7, Tryd.ntmps7
  go_wp2_with fail
  clear hW0 x0 x1 y0 y1
  refine (H1.out _).mono ?_
  rintro e w1 ⟨rfl, b1⟩
  have J1 := Lib.hid (J0.out.keep b1)
  clear b1 H1 J0
  obtain ⟨WA, hWA⟩ : ∃ WA, w1.alloc (.cells #[.string ⟨#[]⟩, .string ⟨#[]⟩] 23) = WA := ⟨_, rfl⟩
  have D1 : B2 WA w1.heap.size (.string ⟨#[]⟩) (.string ⟨#[]⟩) := by rw [← hWA]; exact B2.made _ _ _ _
  obtain ⟨WB, hWB⟩ : ∃ WB, two WA w1.heap.size (.string r1) (.string r2) = WB := ⟨_, rfl⟩
  have hbb1 : Below w1.heap.size w1 WB := by rw [← hWB]; exact below_two (by rw [← hWA]; exact bel_one _ _) (Nat.le_refl _) _ _
  have D2 : B2 WB w1.heap.size (.string r1) (.string r2) := by rw [← hWB]; exact D1.set _ _
  have J2 := Lib.hid (J1.out.keep hbb1)
  have a0 := D1.c0
  have a1 := D1.c1
  have af0 := D1.fr 0
  have af1 := D1.fr 1
  have d0 := D2.c0
  have d1 := D2.c1
  obtain ⟨WC, hWC⟩ : ∃ WC, two WB (w.heap.size + 1 + 1) (.string r1) (.string r2) = WC := ⟨_, rfl⟩
  have R9 : B2 WC (w.heap.size + 1 + 1) (.string r1) (.string r2) := by rw [← hWC]; exact J2.out.r.set _ _
  have PP : Hid (LpPost (opP fMul (s, t) (s', t')) w (.returned (.tuple #[.agg #[.string r1, .string r2], .bool bb])) WC) := by
    rw [← hWC]
    exact ⟨by rw [HOP.out, ← HBB.out], below_two J2.out.bel (by omega) _ _⟩
  have c0 := J2.out.r.c0
  have c1 := J2.out.r.c1
  have cf0 := J2.out.r.fr 0
  have cf1 := J2.out.r.fr 1
  obtain ⟨q0, q1, _, _⟩ := id R9
  unfold two at hWB hWC
  clear R9 D1 D2 hbb1 J1
  go_wp2_with fail
  exact bodyPost_ret (v := .tuple #[.agg #[.string r1, .string r2], .bool bb]) (by simp [results, Tryd.results7, go_sem, q0, q1]) rfl PP.out
set_option maxRecDepth 100000 in
set_option maxHeartbeats 4000000 in
theorem Lagree_c (a : Rp) (x : Bool) (b : Rp) (y : Bool) (w : World) :
    Calls Tryd.prog 6 #[pv a, .bool x, pv b, .bool y] w fun e w' => e = .returned (.bool (agreeP a x b y)) ∧ Below w.heap.size w w' := by
  obtain ⟨s, t⟩ := a
  obtain ⟨s', t'⟩ := b
  have HAG : Hid (agreeP (s, t) x (s', t') y = (!x || !y || decide ((s, t) = (s', t')))) := rfl
  have BB : Hid (Below w.heap.size w ((w.alloc (.cells #[.string s, .string t] 23)).alloc (.cells #[.string s', .string t'] 23))) := ((Below.refl _ _).alloc (Nat.le_refl _) _).alloc (by simp) _
  cases x
  · go_enter Tryd.func6, Tryd.ntmps6
    go_wp2
    go_ret
    exact ⟨by rw [HAG.out]; rfl, BB.out⟩
  · cases y
    · go_enter Tryd.func6, Tryd.ntmps6
      go_wp2
      go_ret
      exact ⟨by rw [HAG.out]; rfl, BB.out⟩
    · by_cases h1 : s.toList = s'.toList
      · by_cases h2 : t.toList = t'.toList
        · have E : Hid (agreeP (s, t) true (s', t') true = true) := by
            unfold Hid agreeP
            rw [ba_eq h1, ba_eq h2]
            simp
          rw [E.out]
          clear HAG
          go_enter Tryd.func6, Tryd.ntmps6
          go_wp2
          go_ret
          exact ⟨rfl, BB.out⟩
        · have E : Hid (agreeP (s, t) true (s', t') true = false) := by
            unfold Hid agreeP
            simp
            intro _ e
            exact h2 (by rw [e])
          rw [E.out]
          clear HAG
          go_enter Tryd.func6, Tryd.ntmps6
          go_wp2
          go_ret
          exact ⟨rfl, BB.out⟩
      · have E : Hid (agreeP (s, t) true (s', t') true = false) := by
          unfold Hid agreeP
          simp
          intro e
          exact absurd (by rw [e]) h1
        rw [E.out]
        clear HAG
        go_enter Tryd.func6, Tryd.ntmps6
        go_wp2
        go_ret
        exact ⟨rfl, BB.out⟩
end Go.Proofs.YtfijhkaalpinhaaDoor
namespace Go.Proofs.YtfijhkaalpinhaaDoor
open Go.RowKit

set_option maxRecDepth 100000 in
set_option maxHeartbeats 4000000 in
theorem Lboth_sum_c (a : Rp) (x : Bool) (b : Rp) (y : Bool) (w : World) :
    Calls Tryd.prog 5 #[.func (.func 4) #[] #[], pv a, .bool x, pv b, .bool y] w (LpPost (bothP fSum a x b y) w) := by
  obtain ⟨s, t⟩ := a
  obtain ⟨s', t'⟩ := b
  obtain ⟨W0, hW0⟩ : ∃ W0, ((w.alloc (.cells #[.string s, .string t] 23)).alloc (.cells #[.string s', .string t'] 23)).alloc (.cells #[.string ⟨#[]⟩, .string ⟨#[]⟩] 23) = W0 := ⟨_, rfl⟩
  have J0 : Hid (Sa w s t s' t' W0) := by rw [← hW0]; exact Sa.made _ _ _ _ _ _ _ _
  have x0 := J0.out.x.c0
  have x1 := J0.out.x.c1
  have y0 := J0.out.y.c0
  have y1 := J0.out.y.c1
  have H1 := Lib.hid (fun w => Lsum_c (s, t) (s', t') w)
  cases x
  · have HOP : Hid (bothP fSum (s, t) false (s', t') y = (noP, false)) := by unfold Hid bothP; rw [if_neg (by simp)]
    obtain ⟨WC, hWC⟩ : ∃ WC, two W0 (w.heap.size + 1 + 1) (.string ⟨#[]⟩) (.string ⟨#[]⟩) = WC := ⟨_, rfl⟩
    have R9 : B2 WC (w.heap.size + 1 + 1) (.string ⟨#[]⟩) (.string ⟨#[]⟩) := by rw [← hWC]; exact J0.out.r.set _ _
    have PP : Hid (LpPost (bothP fSum (s, t) false (s', t') y) w (.returned (.tuple #[.agg #[.string ⟨#[]⟩, .string ⟨#[]⟩], .bool false])) WC) := by
      rw [← hWC]
      exact ⟨by rw [HOP.out]; rfl, below_two J0.out.bel (by omega) _ _⟩
    have r0 := J0.out.r.c0
    have r1 := J0.out.r.c1
    have rf0 := J0.out.r.fr 0
    have rf1 := J0.out.r.fr 1
    obtain ⟨q0, q1, _, _⟩ := id R9
    unfold two at hWC
    clear R9 H1
    go_enter Tryd.func5, Tryd.ntmps5
    go_wp2_with fail
    exact bodyPost_ret (v := .tuple #[.agg #[.string ⟨#[]⟩, .string ⟨#[]⟩], .bool false]) (by simp [results, Tryd.results5, go_sem, q0, q1]) rfl PP.out
  cases y
  · have HOP : Hid (bothP fSum (s, t) true (s', t') false = (noP, false)) := by unfold Hid bothP; rw [if_neg (by simp)]
    obtain ⟨WC, hWC⟩ : ∃ WC, two W0 (w.heap.size + 1 + 1) (.string ⟨#[]⟩) (.string ⟨#[]⟩) = WC := ⟨_, rfl⟩
    have R9 : B2 WC (w.heap.size + 1 + 1) (.string ⟨#[]⟩) (.string ⟨#[]⟩) := by rw [← hWC]; exact J0.out.r.set _ _
    have PP : Hid (LpPost (bothP fSum (s, t) true (s', t') false) w (.returned (.tuple #[.agg #[.string ⟨#[]⟩, .string ⟨#[]⟩], .bool false])) WC) := by
      rw [← hWC]
      exact ⟨by rw [HOP.out]; rfl, below_two J0.out.bel (by omega) _ _⟩
    have r0 := J0.out.r.c0
    have r1 := J0.out.r.c1
    have rf0 := J0.out.r.fr 0
    have rf1 := J0.out.r.fr 1
    obtain ⟨q0, q1, _, _⟩ := id R9
    unfold two at hWC
    clear R9 H1
    go_enter Tryd.func5, Tryd.ntmps5
    go_wp2_with fail
    exact bodyPost_ret (v := .tuple #[.agg #[.string ⟨#[]⟩, .string ⟨#[]⟩], .bool false]) (by simp [results, Tryd.results5, go_sem, q0, q1]) rfl PP.out
  · have HOP : Hid (bothP fSum (s, t) true (s', t') true = opP fSum (s, t) (s', t')) := by unfold Hid bothP; rw [if_pos ⟨rfl, rfl⟩]
    obtain ⟨rr, hrr⟩ : ∃ rr, opP fSum (s, t) (s', t') = rr := ⟨_, rfl⟩
    rw [hrr] at H1 HOP
    clear hrr
    obtain ⟨⟨r1, r2⟩, bb⟩ := rr
    have H2 : Hid (∀ w, Calls Tryd.prog 4 #[.agg #[.string s, .string t], .agg #[.string s', .string t']] w fun e w' => e = .returned (.tuple #[.agg #[.string r1, .string r2], .bool bb]) ∧ Below w.heap.size w w') := H1.out
    clear H1
    go_enter Tryd.func5, Tryd.ntmps5
    go_wp2_with fail
    clear hW0 x0 x1 y0 y1
    refine (H2.out _).mono ?_
    rintro e w1 ⟨rfl, b1⟩
    have J1 := Lib.hid (J0.out.keep b1)
    clear b1 H2 J0
    obtain ⟨WC, hWC⟩ : ∃ WC, two w1 (w.heap.size + 1 + 1) (.string r1) (.string r2) = WC := ⟨_, rfl⟩
    have R9 : B2 WC (w.heap.size + 1 + 1) (.string r1) (.string r2) := by rw [← hWC]; exact J1.out.r.set _ _
    have PP : Hid (LpPost (bothP fSum (s, t) true (s', t') true) w (.returned (.tuple #[.agg #[.string r1, .string r2], .bool bb])) WC) := by
      rw [← hWC]
      exact ⟨by rw [HOP.out], below_two J1.out.bel (by omega) _ _⟩
    have c0 := J1.out.r.c0
    have c1 := J1.out.r.c1
    have cf0 := J1.out.r.fr 0
    have cf1 := J1.out.r.fr 1
    obtain ⟨q0, q1, _, _⟩ := id R9
    unfold two at hWC
    clear R9
    go_wp2_with fail
    exact bodyPost_ret (v := .tuple #[.agg #[.string r1, .string r2], .bool bb]) (by simp [results, Tryd.results5, go_sem, q0, q1]) rfl PP.out
set_option maxRecDepth 100000 in
set_option maxHeartbeats 4000000 in
theorem Lboth_product_c (a : Rp) (x : Bool) (b : Rp) (y : Bool) (w : World) :
    Calls Tryd.prog 5 #[.func (.func 7) #[] #[], pv a, .bool x, pv b, .bool y] w (LpPost (bothP fMul a x b y) w) := by
  obtain ⟨s, t⟩ := a
  obtain ⟨s', t'⟩ := b
  obtain ⟨W0, hW0⟩ : ∃ W0, ((w.alloc (.cells #[.string s, .string t] 23)).alloc (.cells #[.string s', .string t'] 23)).alloc (.cells #[.string ⟨#[]⟩, .string ⟨#[]⟩] 23) = W0 := ⟨_, rfl⟩
  have J0 : Hid (Sa w s t s' t' W0) := by rw [← hW0]; exact Sa.made _ _ _ _ _ _ _ _
  have x0 := J0.out.x.c0
  have x1 := J0.out.x.c1
  have y0 := J0.out.y.c0
  have y1 := J0.out.y.c1
  have H1 := Lib.hid (fun w => Lproduct_c (s, t) (s', t') w)
  cases x
  · have HOP : Hid (bothP fMul (s, t) false (s', t') y = (noP, false)) := by unfold Hid bothP; rw [if_neg (by simp)]
    obtain ⟨WC, hWC⟩ : ∃ WC, two W0 (w.heap.size + 1 + 1) (.string ⟨#[]⟩) (.string ⟨#[]⟩) = WC := ⟨_, rfl⟩
    have R9 : B2 WC (w.heap.size + 1 + 1) (.string ⟨#[]⟩) (.string ⟨#[]⟩) := by rw [← hWC]; exact J0.out.r.set _ _
    have PP : Hid (LpPost (bothP fMul (s, t) false (s', t') y) w (.returned (.tuple #[.agg #[.string ⟨#[]⟩, .string ⟨#[]⟩], .bool false])) WC) := by
      rw [← hWC]
      exact ⟨by rw [HOP.out]; rfl, below_two J0.out.bel (by omega) _ _⟩
    have r0 := J0.out.r.c0
    have r1 := J0.out.r.c1
    have rf0 := J0.out.r.fr 0
    have rf1 := J0.out.r.fr 1
    obtain ⟨q0, q1, _, _⟩ := id R9
    unfold two at hWC
    clear R9 H1
    go_enter Tryd.func5, Tryd.ntmps5
    go_wp2_with fail
    exact bodyPost_ret (v := .tuple #[.agg #[.string ⟨#[]⟩, .string ⟨#[]⟩], .bool false]) (by simp [results, Tryd.results5, go_sem, q0, q1]) rfl PP.out
  cases y
  · have HOP : Hid (bothP fMul (s, t) true (s', t') false = (noP, false)) := by unfold Hid bothP; rw [if_neg (by simp)]
    obtain ⟨WC, hWC⟩ : ∃ WC, two W0 (w.heap.size + 1 + 1) (.string ⟨#[]⟩) (.string ⟨#[]⟩) = WC := ⟨_, rfl⟩
    have R9 : B2 WC (w.heap.size + 1 + 1) (.string ⟨#[]⟩) (.string ⟨#[]⟩) := by rw [← hWC]; exact J0.out.r.set _ _
    have PP : Hid (LpPost (bothP fMul (s, t) true (s', t') false) w (.returned (.tuple #[.agg #[.string ⟨#[]⟩, .string ⟨#[]⟩], .bool false])) WC) := by
      rw [← hWC]
      exact ⟨by rw [HOP.out]; rfl, below_two J0.out.bel (by omega) _ _⟩
    have r0 := J0.out.r.c0
    have r1 := J0.out.r.c1
    have rf0 := J0.out.r.fr 0
    have rf1 := J0.out.r.fr 1
    obtain ⟨q0, q1, _, _⟩ := id R9
    unfold two at hWC
    clear R9 H1
    go_enter Tryd.func5, Tryd.ntmps5
    go_wp2_with fail
    exact bodyPost_ret (v := .tuple #[.agg #[.string ⟨#[]⟩, .string ⟨#[]⟩], .bool false]) (by simp [results, Tryd.results5, go_sem, q0, q1]) rfl PP.out
  · have HOP : Hid (bothP fMul (s, t) true (s', t') true = opP fMul (s, t) (s', t')) := by unfold Hid bothP; rw [if_pos ⟨rfl, rfl⟩]
    obtain ⟨rr, hrr⟩ : ∃ rr, opP fMul (s, t) (s', t') = rr := ⟨_, rfl⟩
    rw [hrr] at H1 HOP
    clear hrr
    obtain ⟨⟨r1, r2⟩, bb⟩ := rr
    have H2 : Hid (∀ w, Calls Tryd.prog 7 #[.agg #[.string s, .string t], .agg #[.string s', .string t']] w fun e w' => e = .returned (.tuple #[.agg #[.string r1, .string r2], .bool bb]) ∧ Below w.heap.size w w') := H1.out
    clear H1
    go_enter Tryd.func5, Tryd.ntmps5
    go_wp2_with fail
    clear hW0 x0 x1 y0 y1
    refine (H2.out _).mono ?_
    rintro e w1 ⟨rfl, b1⟩
    have J1 := Lib.hid (J0.out.keep b1)
    clear b1 H2 J0
    obtain ⟨WC, hWC⟩ : ∃ WC, two w1 (w.heap.size + 1 + 1) (.string r1) (.string r2) = WC := ⟨_, rfl⟩
    have R9 : B2 WC (w.heap.size + 1 + 1) (.string r1) (.string r2) := by rw [← hWC]; exact J1.out.r.set _ _
    have PP : Hid (LpPost (bothP fMul (s, t) true (s', t') true) w (.returned (.tuple #[.agg #[.string r1, .string r2], .bool bb])) WC) := by
      rw [← hWC]
      exact ⟨by rw [HOP.out], below_two J1.out.bel (by omega) _ _⟩
    have c0 := J1.out.r.c0
    have c1 := J1.out.r.c1
    have cf0 := J1.out.r.fr 0
    have cf1 := J1.out.r.fr 1
    obtain ⟨q0, q1, _, _⟩ := id R9
    unfold two at hWC
    clear R9
    go_wp2_with fail
    exact bodyPost_ret (v := .tuple #[.agg #[.string r1, .string r2], .bool bb]) (by simp [results, Tryd.results5, go_sem, q0, q1]) rfl PP.out
end Go.Proofs.YtfijhkaalpinhaaDoor
namespace Go.Proofs.YtfijhkaalpinhaaDoor
open Go.RowKit

set_option maxRecDepth 100000 in
set_option maxHeartbeats 4000000 in
theorem law_field (a b c : Rp) (w : World) :
    Calls Tryd.prog 3 #[pv a, pv b, pv c] w fun e w' => e = .returned (.bool true) ∧ Below w.heap.size w w' := by
  obtain ⟨AB, hAB⟩ : ∃ r, opP fSum a b = r := ⟨_, rfl⟩
  obtain ⟨BC, hBC⟩ : ∃ r, opP fSum b c = r := ⟨_, rfl⟩
  obtain ⟨L, hL⟩ : ∃ r, bothP fSum AB.1 AB.2 c true = r := ⟨_, rfl⟩
  obtain ⟨R, hR⟩ : ∃ r, bothP fSum a true BC.1 BC.2 = r := ⟨_, rfl⟩
  obtain ⟨M, hM⟩ : ∃ r, bothP fMul a true BC.1 BC.2 = r := ⟨_, rfl⟩
  obtain ⟨U, hU⟩ : ∃ r, opP fMul a b = r := ⟨_, rfl⟩
  obtain ⟨V, hV⟩ : ∃ r, opP fMul a c = r := ⟨_, rfl⟩
  obtain ⟨N, hN⟩ : ∃ r, bothP fSum U.1 U.2 V.1 V.2 = r := ⟨_, rfl⟩
  obtain ⟨I, hI⟩ : ∃ r, ivP a = r := ⟨_, rfl⟩
  obtain ⟨O, hO⟩ : ∃ r, opP fMul a I.1 = r := ⟨_, rfl⟩
  obtain ⟨G, hG⟩ : ∃ r, orP a b = r := ⟨_, rfl⟩
  obtain ⟨X, hX⟩ : ∃ r, opP fSum a c = r := ⟨_, rfl⟩
  obtain ⟨H, hH⟩ : ∃ r, orP X.1 BC.1 = r := ⟨_, rfl⟩
  have F1 : agreeP L.1 L.2 R.1 R.2 = true := by have h := field_assoc a b c; rw [hAB, hBC, hL, hR] at h; exact h
  have F2 : agreeP M.1 M.2 N.1 N.2 = true := by have h := field_distr a b c; rw [hBC, hM, hU, hV, hN] at h; exact h
  have F3 : I.2 = 0 → O.2 = true → O.1 = oneP := by have h := field_inv a; rw [hI, hO] at h; exact h
  have F4 : X.2 = true → BC.2 = true → H = (G.1, 0) := by have h := field_order a b c; rw [hX, hBC, hH, hG] at h; exact h
  have K1 := fun w => Lsum_c a b w
  have K2 := fun w => Lsum_c b a w
  have K3 := fun w => Lsum_c b c w
  have K4 := fun w => Lboth_sum_c AB.1 AB.2 c true w
  have K5 := fun w => Lboth_sum_c a true BC.1 BC.2 w
  have K6 := fun w => Lagree_c L.1 L.2 R.1 R.2 w
  have K7 := fun w => Lboth_product_c a true BC.1 BC.2 w
  have K8 := fun w => Lproduct_c a b w
  have K9 := fun w => Lproduct_c a c w
  have K10 := fun w => Lboth_sum_c U.1 U.2 V.1 V.2 w
  have K11 := fun w => Lagree_c M.1 M.2 N.1 N.2 w
  have K12 : ∀ w, Calls Tryd.prog 8 #[pv a] w fun e w' => e = .returned (.tuple #[pv (ivP a).1, .int .i64 (ivP a).2]) ∧ Below w.heap.size w w' := fun w => Inverse_c a.1 a.2 w
  have K13 := fun w => Lproduct_c a I.1 w
  have K14 : ∀ w, Calls Tryd.prog 9 #[pv a, pv b] w fun e w' => e = .returned (.tuple #[.int .i64 (orP a b).1, .int .i64 (orP a b).2]) ∧ Below w.heap.size w w' := fun w => Order_c a.1 a.2 b.1 b.2 w
  have K15 := fun w => Lsum_c a c w
  have K16 : ∀ w, Calls Tryd.prog 9 #[pv X.1, pv BC.1] w fun e w' => e = .returned (.tuple #[.int .i64 (orP X.1 BC.1).1, .int .i64 (orP X.1 BC.1).2]) ∧ Below w.heap.size w w' := fun w => Order_c X.1.1 X.1.2 BC.1.1 BC.1.2 w
  rw [hAB] at K1
  rw [sum_comm b a, hAB] at K2
  rw [hBC] at K3
  rw [hL] at K4
  rw [hR] at K5
  rw [F1] at K6
  rw [hM] at K7
  rw [hU] at K8
  rw [hV] at K9
  rw [hN] at K10
  rw [F2] at K11
  rw [hI] at K12
  rw [hO] at K13
  rw [hG] at K14
  rw [hX] at K15
  rw [hH] at K16
  clear hAB hBC hL hR hM hU hV hN hI hO hG hX hH F1 F2
  obtain ⟨a1, a2⟩ := a
  obtain ⟨b1, b2⟩ := b
  obtain ⟨c1, c2⟩ := c
  obtain ⟨⟨p1, p2⟩, f1⟩ := AB
  obtain ⟨⟨q1, q2⟩, f2⟩ := BC
  obtain ⟨⟨l1, l2⟩, f3⟩ := L
  obtain ⟨⟨r1, r2⟩, f4⟩ := R
  obtain ⟨⟨m1, m2⟩, f5⟩ := M
  obtain ⟨⟨u1, u2⟩, f6⟩ := U
  obtain ⟨⟨v1, v2⟩, f7⟩ := V
  obtain ⟨⟨n1, n2⟩, f8⟩ := N
  obtain ⟨⟨i1, i2⟩, k⟩ := I
  obtain ⟨⟨o1, o2⟩, f9⟩ := O
  obtain ⟨g, k2⟩ := G
  obtain ⟨⟨x1, x2⟩, f10⟩ := X
  obtain ⟨h, k3⟩ := H
  have C1 : Hid (∀ w, Calls Tryd.prog 4 #[.agg #[.string a1, .string a2], .agg #[.string b1, .string b2]] w fun e w' => e = .returned (.tuple #[.agg #[.string p1, .string p2], .bool f1]) ∧ Below w.heap.size w w') := K1
  have C2 : Hid (∀ w, Calls Tryd.prog 4 #[.agg #[.string b1, .string b2], .agg #[.string a1, .string a2]] w fun e w' => e = .returned (.tuple #[.agg #[.string p1, .string p2], .bool f1]) ∧ Below w.heap.size w w') := K2
  have C3 : Hid (∀ w, Calls Tryd.prog 4 #[.agg #[.string b1, .string b2], .agg #[.string c1, .string c2]] w fun e w' => e = .returned (.tuple #[.agg #[.string q1, .string q2], .bool f2]) ∧ Below w.heap.size w w') := K3
  have C4 : Hid (∀ w, Calls Tryd.prog 5 #[.func (.func 4) #[] #[], .agg #[.string p1, .string p2], .bool f1, .agg #[.string c1, .string c2], .bool true] w fun e w' => e = .returned (.tuple #[.agg #[.string l1, .string l2], .bool f3]) ∧ Below w.heap.size w w') := K4
  have C5 : Hid (∀ w, Calls Tryd.prog 5 #[.func (.func 4) #[] #[], .agg #[.string a1, .string a2], .bool true, .agg #[.string q1, .string q2], .bool f2] w fun e w' => e = .returned (.tuple #[.agg #[.string r1, .string r2], .bool f4]) ∧ Below w.heap.size w w') := K5
  have C6 : Hid (∀ w, Calls Tryd.prog 6 #[.agg #[.string l1, .string l2], .bool f3, .agg #[.string r1, .string r2], .bool f4] w fun e w' => e = .returned (.bool true) ∧ Below w.heap.size w w') := K6
  have C7 : Hid (∀ w, Calls Tryd.prog 5 #[.func (.func 7) #[] #[], .agg #[.string a1, .string a2], .bool true, .agg #[.string q1, .string q2], .bool f2] w fun e w' => e = .returned (.tuple #[.agg #[.string m1, .string m2], .bool f5]) ∧ Below w.heap.size w w') := K7
  have C8 : Hid (∀ w, Calls Tryd.prog 7 #[.agg #[.string a1, .string a2], .agg #[.string b1, .string b2]] w fun e w' => e = .returned (.tuple #[.agg #[.string u1, .string u2], .bool f6]) ∧ Below w.heap.size w w') := K8
  have C9 : Hid (∀ w, Calls Tryd.prog 7 #[.agg #[.string a1, .string a2], .agg #[.string c1, .string c2]] w fun e w' => e = .returned (.tuple #[.agg #[.string v1, .string v2], .bool f7]) ∧ Below w.heap.size w w') := K9
  have C10 : Hid (∀ w, Calls Tryd.prog 5 #[.func (.func 4) #[] #[], .agg #[.string u1, .string u2], .bool f6, .agg #[.string v1, .string v2], .bool f7] w fun e w' => e = .returned (.tuple #[.agg #[.string n1, .string n2], .bool f8]) ∧ Below w.heap.size w w') := K10
  have C11 : Hid (∀ w, Calls Tryd.prog 6 #[.agg #[.string m1, .string m2], .bool f5, .agg #[.string n1, .string n2], .bool f8] w fun e w' => e = .returned (.bool true) ∧ Below w.heap.size w w') := K11
  have C12 : Hid (∀ w, Calls Tryd.prog 8 #[.agg #[.string a1, .string a2]] w fun e w' => e = .returned (.tuple #[.agg #[.string i1, .string i2], .int .i64 k]) ∧ Below w.heap.size w w') := K12
  have C13 : Hid (∀ w, Calls Tryd.prog 7 #[.agg #[.string a1, .string a2], .agg #[.string i1, .string i2]] w fun e w' => e = .returned (.tuple #[.agg #[.string o1, .string o2], .bool f9]) ∧ Below w.heap.size w w') := K13
  have C14 : Hid (∀ w, Calls Tryd.prog 9 #[.agg #[.string a1, .string a2], .agg #[.string b1, .string b2]] w fun e w' => e = .returned (.tuple #[.int .i64 g, .int .i64 k2]) ∧ Below w.heap.size w w') := K14
  have C15 : Hid (∀ w, Calls Tryd.prog 4 #[.agg #[.string a1, .string a2], .agg #[.string c1, .string c2]] w fun e w' => e = .returned (.tuple #[.agg #[.string x1, .string x2], .bool f10]) ∧ Below w.heap.size w w') := K15
  have C16 : Hid (∀ w, Calls Tryd.prog 9 #[.agg #[.string x1, .string x2], .agg #[.string q1, .string q2]] w fun e w' => e = .returned (.tuple #[.int .i64 h, .int .i64 k3]) ∧ Below w.heap.size w w') := K16
  clear K1 K2 K3 K4 K5 K6 K7 K8 K9 K10 K11 K12 K13 K14 K15 K16
  have E3 : Hid (k = 0 → f9 = true → o1 = ⟨#[49]⟩ ∧ o2 = ⟨#[49]⟩) := fun e1 e2 => by
    have h : ((o1, o2) : Rp) = (⟨#[49]⟩, ⟨#[49]⟩) := F3 e1 e2
    injection h with h1 h2
    exact ⟨h1, h2⟩
  have E4 : Hid (f10 = true → f2 = true → h = g ∧ k3 = 0) := fun e1 e2 => by
    have h : (h, k3) = (g, 0) := F4 e1 e2
    injection h with h1 h2
    exact ⟨h1, h2⟩
  clear F3 F4
  obtain ⟨W0, hW0⟩ : ∃ W, ((w.alloc (.cells #[.string a1, .string a2] 23)).alloc (.cells #[.string b1, .string b2] 23)).alloc (.cells #[.string c1, .string c2] 23) = W := ⟨_, rfl⟩
  have s1 : (w.alloc (.cells #[.string a1, .string a2] 23)).heap.size = w.heap.size + 1 := by simp
  have s2 : ((w.alloc (.cells #[.string a1, .string a2] 23)).alloc (.cells #[.string b1, .string b2] 23)).heap.size = w.heap.size + 1 + 1 := by simp
  have XA_0 : Hid (B2 W0 w.heap.size (.string a1) (.string a2)) := by rw [← hW0]; exact ((B2.made w _ _ _).keep (bel_one _ _)).keep (bel_one _ _)
  have XB_0 : Hid (B2 W0 (w.heap.size + 1) (.string b1) (.string b2)) := by rw [← hW0, ← s1]; exact (B2.made _ _ _ _).keep (bel_one _ _)
  have XC_0 : Hid (B2 W0 (w.heap.size + 1 + 1) (.string c1) (.string c2)) := by rw [← hW0, ← s2]; exact B2.made _ _ _ _
  have KB_0 : Hid (Below w.heap.size w W0) := by rw [← hW0]; exact (((Below.refl _ _).alloc (Nat.le_refl _) _).alloc (by simp) _).alloc (by simp; omega) _
  clear s1 s2
  have lA0 := XA_0.out.c0
  have lA1 := XA_0.out.c1
  have lB0 := XB_0.out.c0
  have lB1 := XB_0.out.c1
  go_enter Tryd.func3, Tryd.ntmps3
  go_wp2_with fail
  clear lA0 lA1 lB0 lB1 hW0
  refine (C1.out _).mono ?_
  rintro e w1 ⟨rfl, b1⟩
  obtain ⟨WA1, hWA⟩ : ∃ W, w1.alloc (.cells #[.string ⟨#[]⟩, .string ⟨#[]⟩] 23) = W := ⟨_, rfl⟩
  have D1 : B2 WA1 w1.heap.size (.string ⟨#[]⟩) (.string ⟨#[]⟩) := by rw [← hWA]; exact B2.made _ _ _ _
  obtain ⟨WB1, hWB⟩ : ∃ W, two WA1 w1.heap.size (.string p1) (.string p2) = W := ⟨_, rfl⟩
  have hb : Below w1.heap.size w1 WB1 := by rw [← hWB]; exact below_two (by rw [← hWA]; exact bel_one _ _) (Nat.le_refl _) _ _
  have hc : Below W0.heap.size W0 WB1 := b1.trans (hb.mono b1.size)
  have XA_1 := Lib.hid (XA_0.out.keep hc)
  have XB_1 := Lib.hid (XB_0.out.keep hc)
  have XC_1 := Lib.hid (XC_0.out.keep hc)
  have KB_1 := Lib.hid (KB_0.out.trans (hc.mono KB_0.out.size))
  clear XA_0 XB_0 XC_0 KB_0
  have X7_1 : Hid (B2 WB1 w1.heap.size (.string p1) (.string p2)) := by rw [← hWB]; exact D1.set _ _
  have a0 := D1.c0
  have a1' := D1.c1
  have af0 := D1.fr 0
  have af1 := D1.fr 1
  unfold two at hWB
  clear D1 hb hc b1
  have lB0 := XB_1.out.c0
  have lB1 := XB_1.out.c1
  have lA0 := XA_1.out.c0
  have lA1 := XA_1.out.c1
  go_wp2_with fail
  clear hWA hWB a0 a1' af0 af1 lB0 lB1 lA0 lA1
  refine (C2.out _).mono ?_
  rintro e w2 ⟨rfl, b2⟩
  obtain ⟨WA2, hWA⟩ : ∃ W, w2.alloc (.cells #[.string ⟨#[]⟩, .string ⟨#[]⟩] 23) = W := ⟨_, rfl⟩
  have D1 : B2 WA2 w2.heap.size (.string ⟨#[]⟩) (.string ⟨#[]⟩) := by rw [← hWA]; exact B2.made _ _ _ _
  obtain ⟨WB2, hWB⟩ : ∃ W, two WA2 w2.heap.size (.string p1) (.string p2) = W := ⟨_, rfl⟩
  have hb : Below w2.heap.size w2 WB2 := by rw [← hWB]; exact below_two (by rw [← hWA]; exact bel_one _ _) (Nat.le_refl _) _ _
  have hc : Below WB1.heap.size WB1 WB2 := b2.trans (hb.mono b2.size)
  have XA_2 := Lib.hid (XA_1.out.keep hc)
  have XB_2 := Lib.hid (XB_1.out.keep hc)
  have XC_2 := Lib.hid (XC_1.out.keep hc)
  have X7_2 := Lib.hid (X7_1.out.keep hc)
  have KB_2 := Lib.hid (KB_1.out.trans (hc.mono KB_1.out.size))
  clear XA_1 XB_1 XC_1 X7_1 KB_1
  have X9_2 : Hid (B2 WB2 w2.heap.size (.string p1) (.string p2)) := by rw [← hWB]; exact D1.set _ _
  have a0 := D1.c0
  have a1' := D1.c1
  have af0 := D1.fr 0
  have af1 := D1.fr 1
  unfold two at hWB
  clear D1 hb hc b2
  have lB0 := XB_2.out.c0
  have lB1 := XB_2.out.c1
  have lC0 := XC_2.out.c0
  have lC1 := XC_2.out.c1
  go_wp2_with fail
  clear hWA hWB a0 a1' af0 af1 lB0 lB1 lC0 lC1
  refine (C3.out _).mono ?_
  rintro e w3 ⟨rfl, b3⟩
  obtain ⟨WA3, hWA⟩ : ∃ W, w3.alloc (.cells #[.string ⟨#[]⟩, .string ⟨#[]⟩] 23) = W := ⟨_, rfl⟩
  have D1 : B2 WA3 w3.heap.size (.string ⟨#[]⟩) (.string ⟨#[]⟩) := by rw [← hWA]; exact B2.made _ _ _ _
  obtain ⟨WB3, hWB⟩ : ∃ W, two WA3 w3.heap.size (.string q1) (.string q2) = W := ⟨_, rfl⟩
  have hb : Below w3.heap.size w3 WB3 := by rw [← hWB]; exact below_two (by rw [← hWA]; exact bel_one _ _) (Nat.le_refl _) _ _
  have hc : Below WB2.heap.size WB2 WB3 := b3.trans (hb.mono b3.size)
  have XA_3 := Lib.hid (XA_2.out.keep hc)
  have XB_3 := Lib.hid (XB_2.out.keep hc)
  have XC_3 := Lib.hid (XC_2.out.keep hc)
  have X7_3 := Lib.hid (X7_2.out.keep hc)
  have X9_3 := Lib.hid (X9_2.out.keep hc)
  have KB_3 := Lib.hid (KB_2.out.trans (hc.mono KB_2.out.size))
  clear XA_2 XB_2 XC_2 X7_2 X9_2 KB_2
  have X11_3 : Hid (B2 WB3 w3.heap.size (.string q1) (.string q2)) := by rw [← hWB]; exact D1.set _ _
  have a0 := D1.c0
  have a1' := D1.c1
  have af0 := D1.fr 0
  have af1 := D1.fr 1
  unfold two at hWB
  clear D1 hb hc b3
  have l70 := X7_3.out.c0
  have l71 := X7_3.out.c1
  have l90 := X9_3.out.c0
  have l91 := X9_3.out.c1
  have lC0 := XC_3.out.c0
  have lC1 := XC_3.out.c1
  go_wp2_with fail
  clear hWA hWB a0 a1' af0 af1 l70 l71 l90 l91 lC0 lC1
  clear X7_3
  clear X9_3
  refine (C4.out _).mono ?_
  rintro e w4 ⟨rfl, b4⟩
  have ne13_A : Hid (w4.heap.size ≠ w.heap.size) := by
    have h1 := XA_3.out.lt
    have h2 := b4.size
    unfold Hid
    omega
  have ne13_B : Hid (w4.heap.size ≠ w.heap.size + 1) := by
    have h1 := XB_3.out.lt
    have h2 := b4.size
    unfold Hid
    omega
  have ne13_C : Hid (w4.heap.size ≠ w.heap.size + 1 + 1) := by
    have h1 := XC_3.out.lt
    have h2 := b4.size
    unfold Hid
    omega
  have ne13_11 : Hid (w4.heap.size ≠ w3.heap.size) := by
    have h1 := X11_3.out.lt
    have h2 := b4.size
    unfold Hid
    omega
  have ge13 : Hid (w.heap.size ≤ w4.heap.size) := by
    have h1 := KB_3.out.size
    have h2 := b4.size
    unfold Hid
    omega
  obtain ⟨WA4, hWA⟩ : ∃ W, w4.alloc (.cells #[.string ⟨#[]⟩, .string ⟨#[]⟩] 23) = W := ⟨_, rfl⟩
  have D1 : B2 WA4 w4.heap.size (.string ⟨#[]⟩) (.string ⟨#[]⟩) := by rw [← hWA]; exact B2.made _ _ _ _
  obtain ⟨WB4, hWB⟩ : ∃ W, two WA4 w4.heap.size (.string l1) (.string l2) = W := ⟨_, rfl⟩
  have hb : Below w4.heap.size w4 WB4 := by rw [← hWB]; exact below_two (by rw [← hWA]; exact bel_one _ _) (Nat.le_refl _) _ _
  have hc : Below WB3.heap.size WB3 WB4 := b4.trans (hb.mono b4.size)
  have XA_4 := Lib.hid (XA_3.out.keep hc)
  have XB_4 := Lib.hid (XB_3.out.keep hc)
  have XC_4 := Lib.hid (XC_3.out.keep hc)
  have X11_4 := Lib.hid (X11_3.out.keep hc)
  have KB_4 := Lib.hid (KB_3.out.trans (hc.mono KB_3.out.size))
  clear XA_3 XB_3 XC_3 X11_3 KB_3
  have X13_4 : Hid (B2 WB4 w4.heap.size (.string l1) (.string l2)) := by rw [← hWB]; exact D1.set _ _
  have a0 := D1.c0
  have a1' := D1.c1
  have af0 := D1.fr 0
  have af1 := D1.fr 1
  unfold two at hWB
  clear D1 hb hc b4
  have lA0 := XA_4.out.c0
  have lA1 := XA_4.out.c1
  have l110 := X11_4.out.c0
  have l111 := X11_4.out.c1
  go_wp2_with fail
  clear hWA hWB a0 a1' af0 af1 lA0 lA1 l110 l111
  refine (C5.out _).mono ?_
  rintro e w5 ⟨rfl, b5⟩
  have ne15_A : Hid (w5.heap.size ≠ w.heap.size) := by
    have h1 := XA_4.out.lt
    have h2 := b5.size
    unfold Hid
    omega
  have ne15_B : Hid (w5.heap.size ≠ w.heap.size + 1) := by
    have h1 := XB_4.out.lt
    have h2 := b5.size
    unfold Hid
    omega
  have ne15_C : Hid (w5.heap.size ≠ w.heap.size + 1 + 1) := by
    have h1 := XC_4.out.lt
    have h2 := b5.size
    unfold Hid
    omega
  have ne15_11 : Hid (w5.heap.size ≠ w3.heap.size) := by
    have h1 := X11_4.out.lt
    have h2 := b5.size
    unfold Hid
    omega
  have ne15_13 : Hid (w5.heap.size ≠ w4.heap.size) := by
    have h1 := X13_4.out.lt
    have h2 := b5.size
    unfold Hid
    omega
  have ge15 : Hid (w.heap.size ≤ w5.heap.size) := by
    have h1 := KB_4.out.size
    have h2 := b5.size
    unfold Hid
    omega
  obtain ⟨WA5, hWA⟩ : ∃ W, w5.alloc (.cells #[.string ⟨#[]⟩, .string ⟨#[]⟩] 23) = W := ⟨_, rfl⟩
  have D1 : B2 WA5 w5.heap.size (.string ⟨#[]⟩) (.string ⟨#[]⟩) := by rw [← hWA]; exact B2.made _ _ _ _
  obtain ⟨WB5, hWB⟩ : ∃ W, two WA5 w5.heap.size (.string r1) (.string r2) = W := ⟨_, rfl⟩
  have hb : Below w5.heap.size w5 WB5 := by rw [← hWB]; exact below_two (by rw [← hWA]; exact bel_one _ _) (Nat.le_refl _) _ _
  have hc : Below WB4.heap.size WB4 WB5 := b5.trans (hb.mono b5.size)
  have XA_5 := Lib.hid (XA_4.out.keep hc)
  have XB_5 := Lib.hid (XB_4.out.keep hc)
  have XC_5 := Lib.hid (XC_4.out.keep hc)
  have X11_5 := Lib.hid (X11_4.out.keep hc)
  have X13_5 := Lib.hid (X13_4.out.keep hc)
  have KB_5 := Lib.hid (KB_4.out.trans (hc.mono KB_4.out.size))
  clear XA_4 XB_4 XC_4 X11_4 X13_4 KB_4
  have X15_5 : Hid (B2 WB5 w5.heap.size (.string r1) (.string r2)) := by rw [← hWB]; exact D1.set _ _
  have a0 := D1.c0
  have a1' := D1.c1
  have af0 := D1.fr 0
  have af1 := D1.fr 1
  unfold two at hWB
  clear D1 hb hc b5
  have l130 := X13_5.out.c0
  have l131 := X13_5.out.c1
  have l150 := X15_5.out.c0
  have l151 := X15_5.out.c1
  go_wp2_with fail
  clear hWA hWB a0 a1' af0 af1 l130 l131 l150 l151
  refine (C6.out _).mono ?_
  rintro e w6 ⟨rfl, b6⟩
  have XA_6 := Lib.hid (XA_5.out.keep b6)
  have XB_6 := Lib.hid (XB_5.out.keep b6)
  have XC_6 := Lib.hid (XC_5.out.keep b6)
  have X11_6 := Lib.hid (X11_5.out.keep b6)
  have X13_6 := Lib.hid (X13_5.out.keep b6)
  have X15_6 := Lib.hid (X15_5.out.keep b6)
  have KB_6 := Lib.hid (KB_5.out.trans (b6.mono KB_5.out.size))
  clear XA_5 XB_5 XC_5 X11_5 X13_5 X15_5 KB_5
  clear b6
  have lA0 := XA_6.out.c0
  have lA1 := XA_6.out.c1
  have l110 := X11_6.out.c0
  have l111 := X11_6.out.c1
  go_wp2_with fail
  clear lA0 lA1 l110 l111
  refine (C7.out _).mono ?_
  rintro e w7 ⟨rfl, b7⟩
  have c0 := (X13_6.out.keep b7).c0
  have c1' := (X13_6.out.keep b7).c1
  have cf0 := (X13_6.out.keep b7).fr 0
  have cf1 := (X13_6.out.keep b7).fr 1
  obtain ⟨WB7, hWB⟩ : ∃ W, two w7 w4.heap.size (.string m1) (.string m2) = W := ⟨_, rfl⟩
  have XA_7 : Hid (B2 WB7 (w.heap.size) (.string a1) (.string a2)) := by rw [← hWB]; exact (XA_6.out.keep b7).other ne13_A.out _ _
  have XB_7 : Hid (B2 WB7 (w.heap.size + 1) (.string b1) (.string b2)) := by rw [← hWB]; exact (XB_6.out.keep b7).other ne13_B.out _ _
  have XC_7 : Hid (B2 WB7 (w.heap.size + 1 + 1) (.string c1) (.string c2)) := by rw [← hWB]; exact (XC_6.out.keep b7).other ne13_C.out _ _
  have X11_7 : Hid (B2 WB7 (w3.heap.size) (.string q1) (.string q2)) := by rw [← hWB]; exact (X11_6.out.keep b7).other ne13_11.out _ _
  have X13_7 : Hid (B2 WB7 w4.heap.size (.string m1) (.string m2)) := by rw [← hWB]; exact (X13_6.out.keep b7).set _ _
  have X15_7 : Hid (B2 WB7 (w5.heap.size) (.string r1) (.string r2)) := by rw [← hWB]; exact (X15_6.out.keep b7).other (Ne.symm ne15_13.out) _ _
  have KB_7 : Hid (Below w.heap.size w WB7) := by rw [← hWB]; exact below_two (KB_6.out.trans (b7.mono KB_6.out.size)) ge13.out _ _
  clear XA_6 XB_6 XC_6 X11_6 X13_6 X15_6 KB_6 b7
  unfold two at hWB
  have lA0 := XA_7.out.c0
  have lA1 := XA_7.out.c1
  have lB0 := XB_7.out.c0
  have lB1 := XB_7.out.c1
  go_wp2_with fail
  clear hWB c0 c1' cf0 cf1 lA0 lA1 lB0 lB1
  refine (C8.out _).mono ?_
  rintro e w8 ⟨rfl, b8⟩
  have ne17_15 : Hid (w8.heap.size ≠ w5.heap.size) := by
    have h1 := X15_7.out.lt
    have h2 := b8.size
    unfold Hid
    omega
  have ge17 : Hid (w.heap.size ≤ w8.heap.size) := by
    have h1 := KB_7.out.size
    have h2 := b8.size
    unfold Hid
    omega
  obtain ⟨WA8, hWA⟩ : ∃ W, w8.alloc (.cells #[.string ⟨#[]⟩, .string ⟨#[]⟩] 23) = W := ⟨_, rfl⟩
  have D1 : B2 WA8 w8.heap.size (.string ⟨#[]⟩) (.string ⟨#[]⟩) := by rw [← hWA]; exact B2.made _ _ _ _
  obtain ⟨WB8, hWB⟩ : ∃ W, two WA8 w8.heap.size (.string u1) (.string u2) = W := ⟨_, rfl⟩
  have hb : Below w8.heap.size w8 WB8 := by rw [← hWB]; exact below_two (by rw [← hWA]; exact bel_one _ _) (Nat.le_refl _) _ _
  have hc : Below WB7.heap.size WB7 WB8 := b8.trans (hb.mono b8.size)
  have XA_8 := Lib.hid (XA_7.out.keep hc)
  have XB_8 := Lib.hid (XB_7.out.keep hc)
  have XC_8 := Lib.hid (XC_7.out.keep hc)
  have X11_8 := Lib.hid (X11_7.out.keep hc)
  have X13_8 := Lib.hid (X13_7.out.keep hc)
  have X15_8 := Lib.hid (X15_7.out.keep hc)
  have KB_8 := Lib.hid (KB_7.out.trans (hc.mono KB_7.out.size))
  clear XA_7 XB_7 XC_7 X11_7 X13_7 X15_7 KB_7
  have X17_8 : Hid (B2 WB8 w8.heap.size (.string u1) (.string u2)) := by rw [← hWB]; exact D1.set _ _
  have a0 := D1.c0
  have a1' := D1.c1
  have af0 := D1.fr 0
  have af1 := D1.fr 1
  unfold two at hWB
  clear D1 hb hc b8
  have lA0 := XA_8.out.c0
  have lA1 := XA_8.out.c1
  have lC0 := XC_8.out.c0
  have lC1 := XC_8.out.c1
  go_wp2_with fail
  clear hWA hWB a0 a1' af0 af1 lA0 lA1 lC0 lC1
  refine (C9.out _).mono ?_
  rintro e w9 ⟨rfl, b9⟩
  have ne19_15 : Hid (w9.heap.size ≠ w5.heap.size) := by
    have h1 := X15_8.out.lt
    have h2 := b9.size
    unfold Hid
    omega
  have ge19 : Hid (w.heap.size ≤ w9.heap.size) := by
    have h1 := KB_8.out.size
    have h2 := b9.size
    unfold Hid
    omega
  obtain ⟨WA9, hWA⟩ : ∃ W, w9.alloc (.cells #[.string ⟨#[]⟩, .string ⟨#[]⟩] 23) = W := ⟨_, rfl⟩
  have D1 : B2 WA9 w9.heap.size (.string ⟨#[]⟩) (.string ⟨#[]⟩) := by rw [← hWA]; exact B2.made _ _ _ _
  obtain ⟨WB9, hWB⟩ : ∃ W, two WA9 w9.heap.size (.string v1) (.string v2) = W := ⟨_, rfl⟩
  have hb : Below w9.heap.size w9 WB9 := by rw [← hWB]; exact below_two (by rw [← hWA]; exact bel_one _ _) (Nat.le_refl _) _ _
  have hc : Below WB8.heap.size WB8 WB9 := b9.trans (hb.mono b9.size)
  have XA_9 := Lib.hid (XA_8.out.keep hc)
  have XB_9 := Lib.hid (XB_8.out.keep hc)
  have XC_9 := Lib.hid (XC_8.out.keep hc)
  have X11_9 := Lib.hid (X11_8.out.keep hc)
  have X13_9 := Lib.hid (X13_8.out.keep hc)
  have X15_9 := Lib.hid (X15_8.out.keep hc)
  have X17_9 := Lib.hid (X17_8.out.keep hc)
  have KB_9 := Lib.hid (KB_8.out.trans (hc.mono KB_8.out.size))
  clear XA_8 XB_8 XC_8 X11_8 X13_8 X15_8 X17_8 KB_8
  have X19_9 : Hid (B2 WB9 w9.heap.size (.string v1) (.string v2)) := by rw [← hWB]; exact D1.set _ _
  have a0 := D1.c0
  have a1' := D1.c1
  have af0 := D1.fr 0
  have af1 := D1.fr 1
  unfold two at hWB
  clear D1 hb hc b9
  have l170 := X17_9.out.c0
  have l171 := X17_9.out.c1
  have l190 := X19_9.out.c0
  have l191 := X19_9.out.c1
  go_wp2_with fail
  clear hWA hWB a0 a1' af0 af1 l170 l171 l190 l191
  refine (C10.out _).mono ?_
  rintro e w10 ⟨rfl, b10⟩
  have c0 := (X15_9.out.keep b10).c0
  have c1' := (X15_9.out.keep b10).c1
  have cf0 := (X15_9.out.keep b10).fr 0
  have cf1 := (X15_9.out.keep b10).fr 1
  obtain ⟨WB10, hWB⟩ : ∃ W, two w10 w5.heap.size (.string n1) (.string n2) = W := ⟨_, rfl⟩
  have XA_10 : Hid (B2 WB10 (w.heap.size) (.string a1) (.string a2)) := by rw [← hWB]; exact (XA_9.out.keep b10).other ne15_A.out _ _
  have XB_10 : Hid (B2 WB10 (w.heap.size + 1) (.string b1) (.string b2)) := by rw [← hWB]; exact (XB_9.out.keep b10).other ne15_B.out _ _
  have XC_10 : Hid (B2 WB10 (w.heap.size + 1 + 1) (.string c1) (.string c2)) := by rw [← hWB]; exact (XC_9.out.keep b10).other ne15_C.out _ _
  have X11_10 : Hid (B2 WB10 (w3.heap.size) (.string q1) (.string q2)) := by rw [← hWB]; exact (X11_9.out.keep b10).other ne15_11.out _ _
  have X13_10 : Hid (B2 WB10 (w4.heap.size) (.string m1) (.string m2)) := by rw [← hWB]; exact (X13_9.out.keep b10).other ne15_13.out _ _
  have X15_10 : Hid (B2 WB10 w5.heap.size (.string n1) (.string n2)) := by rw [← hWB]; exact (X15_9.out.keep b10).set _ _
  have X17_10 : Hid (B2 WB10 (w8.heap.size) (.string u1) (.string u2)) := by rw [← hWB]; exact (X17_9.out.keep b10).other (Ne.symm ne17_15.out) _ _
  have X19_10 : Hid (B2 WB10 (w9.heap.size) (.string v1) (.string v2)) := by rw [← hWB]; exact (X19_9.out.keep b10).other (Ne.symm ne19_15.out) _ _
  have KB_10 : Hid (Below w.heap.size w WB10) := by rw [← hWB]; exact below_two (KB_9.out.trans (b10.mono KB_9.out.size)) ge15.out _ _
  clear XA_9 XB_9 XC_9 X11_9 X13_9 X15_9 X17_9 X19_9 KB_9 b10
  unfold two at hWB
  clear X17_10
  clear X19_10
  have l130 := X13_10.out.c0
  have l131 := X13_10.out.c1
  have l150 := X15_10.out.c0
  have l151 := X15_10.out.c1
  go_wp2_with fail
  clear hWB c0 c1' cf0 cf1 l130 l131 l150 l151
  clear X13_10
  clear X15_10
  refine (C11.out _).mono ?_
  rintro e w11 ⟨rfl, b11⟩
  have XA_11 := Lib.hid (XA_10.out.keep b11)
  have XB_11 := Lib.hid (XB_10.out.keep b11)
  have XC_11 := Lib.hid (XC_10.out.keep b11)
  have X11_11 := Lib.hid (X11_10.out.keep b11)
  have KB_11 := Lib.hid (KB_10.out.trans (b11.mono KB_10.out.size))
  clear XA_10 XB_10 XC_10 X11_10 KB_10
  clear b11
  have lA0 := XA_11.out.c0
  have lA1 := XA_11.out.c1
  go_wp2_with fail
  clear lA0 lA1
  refine (C12.out _).mono ?_
  rintro e w12 ⟨rfl, b12⟩
  obtain ⟨WA12, hWA⟩ : ∃ W, w12.alloc (.cells #[.string ⟨#[]⟩, .string ⟨#[]⟩] 23) = W := ⟨_, rfl⟩
  have D1 : B2 WA12 w12.heap.size (.string ⟨#[]⟩) (.string ⟨#[]⟩) := by rw [← hWA]; exact B2.made _ _ _ _
  obtain ⟨WB12, hWB⟩ : ∃ W, two WA12 w12.heap.size (.string i1) (.string i2) = W := ⟨_, rfl⟩
  have hb : Below w12.heap.size w12 WB12 := by rw [← hWB]; exact below_two (by rw [← hWA]; exact bel_one _ _) (Nat.le_refl _) _ _
  have hc : Below w11.heap.size w11 WB12 := b12.trans (hb.mono b12.size)
  have XA_12 := Lib.hid (XA_11.out.keep hc)
  have XB_12 := Lib.hid (XB_11.out.keep hc)
  have XC_12 := Lib.hid (XC_11.out.keep hc)
  have X11_12 := Lib.hid (X11_11.out.keep hc)
  have KB_12 := Lib.hid (KB_11.out.trans (hc.mono KB_11.out.size))
  clear XA_11 XB_11 XC_11 X11_11 KB_11
  have X21_12 : Hid (B2 WB12 w12.heap.size (.string i1) (.string i2)) := by rw [← hWB]; exact D1.set _ _
  have a0 := D1.c0
  have a1' := D1.c1
  have af0 := D1.fr 0
  have af1 := D1.fr 1
  unfold two at hWB
  clear D1 hb hc b12
  by_cases hk : k = 0
  · subst hk
    have lA0 := XA_12.out.c0
    have lA1 := XA_12.out.c1
    have l210 := X21_12.out.c0
    have l211 := X21_12.out.c1
    go_wp2_with fail
    clear hWA hWB a0 a1' af0 af1 lA0 lA1 l210 l211
    clear X21_12
    refine (C13.out _).mono ?_
    rintro e w13 ⟨rfl, b13⟩
    obtain ⟨WA13, hWA⟩ : ∃ W, w13.alloc (.cells #[.string ⟨#[]⟩, .string ⟨#[]⟩] 23) = W := ⟨_, rfl⟩
    have D1 : B2 WA13 w13.heap.size (.string ⟨#[]⟩) (.string ⟨#[]⟩) := by rw [← hWA]; exact B2.made _ _ _ _
    obtain ⟨WB13, hWB⟩ : ∃ W, two WA13 w13.heap.size (.string o1) (.string o2) = W := ⟨_, rfl⟩
    have hb : Below w13.heap.size w13 WB13 := by rw [← hWB]; exact below_two (by rw [← hWA]; exact bel_one _ _) (Nat.le_refl _) _ _
    have hc : Below WB12.heap.size WB12 WB13 := b13.trans (hb.mono b13.size)
    have XA_13 := Lib.hid (XA_12.out.keep hc)
    have XB_13 := Lib.hid (XB_12.out.keep hc)
    have XC_13 := Lib.hid (XC_12.out.keep hc)
    have X11_13 := Lib.hid (X11_12.out.keep hc)
    have KB_13 := Lib.hid (KB_12.out.trans (hc.mono KB_12.out.size))
    clear XA_12 XB_12 XC_12 X11_12 KB_12
    have X23_13 : Hid (B2 WB13 w13.heap.size (.string o1) (.string o2)) := by rw [← hWB]; exact D1.set _ _
    have a0 := D1.c0
    have a1' := D1.c1
    have af0 := D1.fr 0
    have af1 := D1.fr 1
    unfold two at hWB
    clear D1 hb hc b13
    cases f9
    · clear E3
      have l230 := X23_13.out.c0
      have l231 := X23_13.out.c1
      have lA0 := XA_13.out.c0
      have lA1 := XA_13.out.c1
      have lB0 := XB_13.out.c0
      have lB1 := XB_13.out.c1
      go_wp2_with fail
      clear hWA hWB a0 a1' af0 af1 l230 l231 lA0 lA1 lB0 lB1
      clear X23_13
      refine (C14.out _).mono ?_
      rintro e w14 ⟨rfl, b14⟩
      have XA_14 := Lib.hid (XA_13.out.keep b14)
      have XB_14 := Lib.hid (XB_13.out.keep b14)
      have XC_14 := Lib.hid (XC_13.out.keep b14)
      have X11_14 := Lib.hid (X11_13.out.keep b14)
      have KB_14 := Lib.hid (KB_13.out.trans (b14.mono KB_13.out.size))
      clear XA_13 XB_13 XC_13 X11_13 KB_13
      clear b14
      have lA0 := XA_14.out.c0
      have lA1 := XA_14.out.c1
      have lC0 := XC_14.out.c0
      have lC1 := XC_14.out.c1
      go_wp2_with fail
      clear lA0 lA1 lC0 lC1
      clear XA_14
      clear XB_14
      clear XC_14
      refine (C15.out _).mono ?_
      rintro e w15 ⟨rfl, b15⟩
      obtain ⟨WA15, hWA⟩ : ∃ W, w15.alloc (.cells #[.string ⟨#[]⟩, .string ⟨#[]⟩] 23) = W := ⟨_, rfl⟩
      have D1 : B2 WA15 w15.heap.size (.string ⟨#[]⟩) (.string ⟨#[]⟩) := by rw [← hWA]; exact B2.made _ _ _ _
      obtain ⟨WB15, hWB⟩ : ∃ W, two WA15 w15.heap.size (.string x1) (.string x2) = W := ⟨_, rfl⟩
      have hb : Below w15.heap.size w15 WB15 := by rw [← hWB]; exact below_two (by rw [← hWA]; exact bel_one _ _) (Nat.le_refl _) _ _
      have hc : Below w14.heap.size w14 WB15 := b15.trans (hb.mono b15.size)
      have X11_15 := Lib.hid (X11_14.out.keep hc)
      have KB_15 := Lib.hid (KB_14.out.trans (hc.mono KB_14.out.size))
      clear X11_14 KB_14
      have X27_15 : Hid (B2 WB15 w15.heap.size (.string x1) (.string x2)) := by rw [← hWB]; exact D1.set _ _
      have a0 := D1.c0
      have a1' := D1.c1
      have af0 := D1.fr 0
      have af1 := D1.fr 1
      unfold two at hWB
      clear D1 hb hc b15
      by_cases hk2 : k2 = 0
      · subst hk2
        cases f10
        · clear E4
          clear C16
          go_wp2
          go_ret
          exact ⟨rfl, KB_15.out⟩
        cases f2
        · clear E4
          clear C16
          go_wp2
          go_ret
          exact ⟨rfl, KB_15.out⟩
        · obtain ⟨rfl, rfl⟩ := E4.out (by simp) (by simp)
          clear E4
          have l270 := X27_15.out.c0
          have l271 := X27_15.out.c1
          have l110 := X11_15.out.c0
          have l111 := X11_15.out.c1
          go_wp2_with fail
          clear hWA hWB a0 a1' af0 af1 l270 l271 l110 l111
          refine (C16.out _).mono ?_
          rintro e w16 ⟨rfl, b16⟩
          have KZ := Lib.hid (KB_15.out.trans (b16.mono KB_15.out.size))
          clear b16
          go_wp2
          go_ret
          exact ⟨rfl, KZ.out⟩
      · clear E4
        clear C16
        go_wp2
        go_ret
        exact ⟨rfl, KB_15.out⟩
    · obtain ⟨rfl, rfl⟩ := E3.out (by simp) (by simp)
      clear E3
      have l230 := X23_13.out.c0
      have l231 := X23_13.out.c1
      have lA0 := XA_13.out.c0
      have lA1 := XA_13.out.c1
      have lB0 := XB_13.out.c0
      have lB1 := XB_13.out.c1
      go_wp2_with fail
      clear hWA hWB a0 a1' af0 af1 l230 l231 lA0 lA1 lB0 lB1
      clear X23_13
      refine (C14.out _).mono ?_
      rintro e w14 ⟨rfl, b14⟩
      have XA_14 := Lib.hid (XA_13.out.keep b14)
      have XB_14 := Lib.hid (XB_13.out.keep b14)
      have XC_14 := Lib.hid (XC_13.out.keep b14)
      have X11_14 := Lib.hid (X11_13.out.keep b14)
      have KB_14 := Lib.hid (KB_13.out.trans (b14.mono KB_13.out.size))
      clear XA_13 XB_13 XC_13 X11_13 KB_13
      clear b14
      have lA0 := XA_14.out.c0
      have lA1 := XA_14.out.c1
      have lC0 := XC_14.out.c0
      have lC1 := XC_14.out.c1
      go_wp2_with fail
      clear lA0 lA1 lC0 lC1
      clear XA_14
      clear XB_14
      clear XC_14
      refine (C15.out _).mono ?_
      rintro e w15 ⟨rfl, b15⟩
      obtain ⟨WA15, hWA⟩ : ∃ W, w15.alloc (.cells #[.string ⟨#[]⟩, .string ⟨#[]⟩] 23) = W := ⟨_, rfl⟩
      have D1 : B2 WA15 w15.heap.size (.string ⟨#[]⟩) (.string ⟨#[]⟩) := by rw [← hWA]; exact B2.made _ _ _ _
      obtain ⟨WB15, hWB⟩ : ∃ W, two WA15 w15.heap.size (.string x1) (.string x2) = W := ⟨_, rfl⟩
      have hb : Below w15.heap.size w15 WB15 := by rw [← hWB]; exact below_two (by rw [← hWA]; exact bel_one _ _) (Nat.le_refl _) _ _
      have hc : Below w14.heap.size w14 WB15 := b15.trans (hb.mono b15.size)
      have X11_15 := Lib.hid (X11_14.out.keep hc)
      have KB_15 := Lib.hid (KB_14.out.trans (hc.mono KB_14.out.size))
      clear X11_14 KB_14
      have X27_15 : Hid (B2 WB15 w15.heap.size (.string x1) (.string x2)) := by rw [← hWB]; exact D1.set _ _
      have a0 := D1.c0
      have a1' := D1.c1
      have af0 := D1.fr 0
      have af1 := D1.fr 1
      unfold two at hWB
      clear D1 hb hc b15
      by_cases hk2 : k2 = 0
      · subst hk2
        cases f10
        · clear E4
          clear C16
          go_wp2
          go_ret
          exact ⟨rfl, KB_15.out⟩
        cases f2
        · clear E4
          clear C16
          go_wp2
          go_ret
          exact ⟨rfl, KB_15.out⟩
        · obtain ⟨rfl, rfl⟩ := E4.out (by simp) (by simp)
          clear E4
          have l270 := X27_15.out.c0
          have l271 := X27_15.out.c1
          have l110 := X11_15.out.c0
          have l111 := X11_15.out.c1
          go_wp2_with fail
          clear hWA hWB a0 a1' af0 af1 l270 l271 l110 l111
          refine (C16.out _).mono ?_
          rintro e w16 ⟨rfl, b16⟩
          have KZ := Lib.hid (KB_15.out.trans (b16.mono KB_15.out.size))
          clear b16
          go_wp2
          go_ret
          exact ⟨rfl, KZ.out⟩
      · clear E4
        clear C16
        go_wp2
        go_ret
        exact ⟨rfl, KB_15.out⟩
  · clear E3
    have lA0 := XA_12.out.c0
    have lA1 := XA_12.out.c1
    have lB0 := XB_12.out.c0
    have lB1 := XB_12.out.c1
    go_wp2_with fail
    clear hWA hWB a0 a1' af0 af1 lA0 lA1 lB0 lB1 hk
    clear X21_12
    refine (C14.out _).mono ?_
    rintro e w14 ⟨rfl, b14⟩
    have XA_13 := Lib.hid (XA_12.out.keep b14)
    have XB_13 := Lib.hid (XB_12.out.keep b14)
    have XC_13 := Lib.hid (XC_12.out.keep b14)
    have X11_13 := Lib.hid (X11_12.out.keep b14)
    have KB_13 := Lib.hid (KB_12.out.trans (b14.mono KB_12.out.size))
    clear XA_12 XB_12 XC_12 X11_12 KB_12
    clear b14
    have lA0 := XA_13.out.c0
    have lA1 := XA_13.out.c1
    have lC0 := XC_13.out.c0
    have lC1 := XC_13.out.c1
    go_wp2_with fail
    clear lA0 lA1 lC0 lC1
    clear XA_13
    clear XB_13
    clear XC_13
    refine (C15.out _).mono ?_
    rintro e w15 ⟨rfl, b15⟩
    obtain ⟨WA15, hWA⟩ : ∃ W, w15.alloc (.cells #[.string ⟨#[]⟩, .string ⟨#[]⟩] 23) = W := ⟨_, rfl⟩
    have D1 : B2 WA15 w15.heap.size (.string ⟨#[]⟩) (.string ⟨#[]⟩) := by rw [← hWA]; exact B2.made _ _ _ _
    obtain ⟨WB15, hWB⟩ : ∃ W, two WA15 w15.heap.size (.string x1) (.string x2) = W := ⟨_, rfl⟩
    have hb : Below w15.heap.size w15 WB15 := by rw [← hWB]; exact below_two (by rw [← hWA]; exact bel_one _ _) (Nat.le_refl _) _ _
    have hc : Below w14.heap.size w14 WB15 := b15.trans (hb.mono b15.size)
    have X11_14 := Lib.hid (X11_13.out.keep hc)
    have KB_14 := Lib.hid (KB_13.out.trans (hc.mono KB_13.out.size))
    clear X11_13 KB_13
    have X27_14 : Hid (B2 WB15 w15.heap.size (.string x1) (.string x2)) := by rw [← hWB]; exact D1.set _ _
    have a0 := D1.c0
    have a1' := D1.c1
    have af0 := D1.fr 0
    have af1 := D1.fr 1
    unfold two at hWB
    clear D1 hb hc b15
    by_cases hk2 : k2 = 0
    · subst hk2
      cases f10
      · clear E4
        clear C16
        go_wp2
        go_ret
        exact ⟨rfl, KB_14.out⟩
      cases f2
      · clear E4
        clear C16
        go_wp2
        go_ret
        exact ⟨rfl, KB_14.out⟩
      · obtain ⟨rfl, rfl⟩ := E4.out (by simp) (by simp)
        clear E4
        have l270 := X27_14.out.c0
        have l271 := X27_14.out.c1
        have l110 := X11_14.out.c0
        have l111 := X11_14.out.c1
        go_wp2_with fail
        clear hWA hWB a0 a1' af0 af1 l270 l271 l110 l111
        refine (C16.out _).mono ?_
        rintro e w16 ⟨rfl, b16⟩
        have KZ := Lib.hid (KB_14.out.trans (b16.mono KB_14.out.size))
        clear b16
        go_wp2
        go_ret
        exact ⟨rfl, KZ.out⟩
    · clear E4
      clear C16
      go_wp2
      go_ret
      exact ⟨rfl, KB_14.out⟩
end Go.Proofs.YtfijhkaalpinhaaDoor
