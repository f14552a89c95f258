/-
  kind of the reference: the kind of an expression at a place (its pieces made by a program).
-/
import Derived.Test.YtngijlmokhkdjaaDoorTyRef3
import Derived.Test.YtngijlmokhkdjaaDoorTyTree
namespace Go.Proofs.YtngijlmokhkdjaaDoor
open Go.RowKit

/-- Of two loops of one name there is one. -/
def PairC (C : List Cl) : Prop := C.Pairwise fun a b => a.nm ≠ b.nm
theorem cells_pair : ∀ (C seen : List Cl), cellsS seen C = 0 → PairC C ∧ ∀ c ∈ C, ∀ s ∈ seen, s.nm ≠ c.nm
  | [], _, _ => ⟨List.Pairwise.nil, fun c hc => by simp at hc⟩
  | x :: r, seen, h0 => by
    rw [cellsS_step] at h0
    by_cases hs : stepC seen x ≠ 0
    · rw [if_pos hs] at h0; exact absurd h0 hs
    · rw [if_neg hs] at h0
      obtain ⟨h1, h2⟩ := cells_pair r (seen ++ [x]) h0
      have hx : findC seen x.nm = none := by
        have hs' : stepC seen x = 0 := by simpa using hs
        unfold stepC at hs'
        by_cases a1 : nameS x.nm = false
        · rw [if_pos a1] at hs'; cases hs'
        rw [if_neg a1] at hs'
        by_cases a2 : (findC seen x.nm).isSome = true
        · rw [if_pos a2] at hs'; cases hs'
        · simpa using a2
      refine ⟨List.Pairwise.cons (fun y hy => h2 y hy x (by simp)) h1, fun c hc s hs2 => ?_⟩
      rcases List.mem_cons.1 hc with rfl | hc
      · exact findC_none.1 hx s hs2
      · exact h2 c hc s (by simp [hs2])
/-- The first cell of a name that can be named at a place. -/
def restS (nm : ByteArray) (pl : List ByteArray) : List Cl → Int × Int
  | [] => (0, 5)
  | c :: r => if c.nm = nm ∧ beginsS c.lp pl = true then (c.kind, 0) else restS nm pl r
theorem rest_none {nm : ByteArray} {pl : List ByteArray} : ∀ {C : List Cl}, (∀ c ∈ C, c.nm ≠ nm) → restS nm pl C = (0, 5)
  | [], _ => rfl
  | c :: r, h => by
    simp only [restS]
    rw [if_neg (fun q => h c (by simp) q.1)]
    exact rest_none fun x hx => h x (by simp [hx])
theorem rest_find {nm : ByteArray} {pl : List ByteArray} : ∀ {C : List Cl}, PairC C → restS nm pl C = (match findC C nm with | some c => if beginsS c.lp pl = true then (c.kind, 0) else (0, 5) | none => (0, 5))
  | [], _ => rfl
  | c :: r, h => by
    obtain ⟨h1, h2⟩ := List.pairwise_cons.1 h
    simp only [restS]
    unfold findC
    rw [List.find?_cons]
    by_cases hn : c.nm = nm
    · simp only [hn, true_and, decide_true]
      by_cases hb : beginsS c.lp pl = true
      · rw [if_pos hb, if_pos hb]
      · rw [if_neg hb, if_neg hb]
        exact rest_none fun x hx => by rw [← hn]; exact (h1 x hx).symm
    · simp only [hn, false_and, if_false, decide_false]
      exact rest_find h2
theorem rest_drop {nm : ByteArray} {pl : List ByteArray} {C : List Cl} {k : Nat} {c : Cl} (h : C[k]? = some c) : restS nm pl (C.drop k) = if c.nm = nm ∧ beginsS c.lp pl = true then (c.kind, 0) else restS nm pl (C.drop (k + 1)) := by
  obtain ⟨hk, he⟩ := List.getElem?_eq_some_iff.1 h
  rw [List.drop_eq_getElem_cons hk, he]; rfl
theorem oper_26 : ∀ a ∈ ([2, 3, 4, 5, 6, 7] : List Int), ∀ b ∈ ([2, 3, 4, 5, 6, 7] : List Int), ∀ c ∈ ([2, 3, 4, 5, 6, 7] : List Int), operF (marksS 26) 0 [a, b, c] 0 ≠ some 0 := by decide +kernel
theorem oper_27 : ∀ a ∈ ([2, 3, 4, 5, 6, 7] : List Int), ∀ b ∈ ([2, 3, 4, 5, 6, 7] : List Int), operF (marksS 27) 0 [a, b] 0 ≠ some 0 := by decide +kernel
theorem result_pos (o : Int) (h1 : 1 ≤ o) (h2 : o ≤ 39) (hn : ¬ (o = 24 ∨ o = 25 ∨ o = 26 ∨ o = 27)) : 0 < resultS o := by
  have ho : o = 1 ∨ o = 2 ∨ o = 3 ∨ o = 4 ∨ o = 5 ∨ o = 6 ∨ o = 7 ∨ o = 8 ∨ o = 9 ∨ o = 10 ∨ o = 11 ∨ o = 12 ∨ o = 13 ∨ o = 14 ∨ o = 15 ∨ o = 16 ∨ o = 17 ∨ o = 18 ∨ o = 19 ∨ o = 20 ∨ o = 21 ∨ o = 22 ∨ o = 23 ∨ o = 28 ∨ o = 29 ∨ o = 30 ∨ o = 31 ∨ o = 32 ∨ o = 33 ∨ o = 34 ∨ o = 35 ∨ o = 36 ∨ o = 37 ∨ o = 38 ∨ o = 39 := by omega
  clear h1 h2 hn
  rcases ho with rfl | rfl | rfl | rfl | rfl | rfl | rfl | rfl | rfl | rfl | rfl | rfl | rfl | rfl | rfl | rfl | rfl | rfl | rfl | rfl | rfl | rfl | rfl | rfl | rfl | rfl | rfl | rfl | rfl | rfl | rfl | rfl | rfl | rfl | rfl
  all_goals decide
/-- What the reference says of an operation is what package value says. -/
theorem oper_kind (o : Int) (h1 : 1 ≤ o) (h2 : o ≤ 39) (ks : List Int) (hl : leastS o ≤ ks.length) (hm : (ks.length : Int) ≤ mostS o) (hk : ∀ k ∈ ks, 2 ≤ k ∧ k ≤ 7) :
    orType (kindR o ks) = if (operR o (operF (marksS o) 0 ks 0)).2 = true then ((operR o (operF (marksS o) 0 ks 0)).1, 0) else (0, 8) := by
  have ht := tables o h1 h2 ks hl hm hk
  have kk := fun k (h : k ∈ ks) => mem_kinds (hk k h)
  rw [ht]
  unfold operS
  cases hz : operF (marksS o) 0 ks 0 with
  | none => rfl
  | some so =>
    simp only [operR]
    have hne : (if resultS o < 0 then so else resultS o) ≠ 0 := by
      by_cases hs : o = 24 ∨ o = 25 ∨ o = 26 ∨ o = 27
      · have hso : so ≠ 0 := by
          intro e
          subst e
          by_cases h24 : o = 24 ∨ o = 25
          · cases ks with
            | nil =>
              have : leastS o = 2 := by rcases h24 with rfl | rfl <;> rfl
              simp [this] at hl
            | cons k r =>
              have hm2 : marksS o = [-2] := by rcases h24 with rfl | rfl <;> rfl
              rw [hm2, meas_cons k r (hk k (by simp)).1] at hz
              split at hz
              · simp only [Option.some.injEq] at hz
                have := (hk k (by simp)).1
                omega
              · cases hz
          · by_cases h26 : o = 26
            · subst h26
              obtain ⟨a, b, c, rfl⟩ := list_3 (ks := ks) (by have e1 : leastS 26 = 3 := rfl; have e2 : mostS 26 = 3 := rfl; omega)
              exact oper_26 a (kk a (by simp)) b (kk b (by simp)) c (kk c (by simp)) hz
            · obtain rfl : o = 27 := by omega
              obtain ⟨a, b, rfl⟩ := list_2 (ks := ks) (by have e1 : leastS 27 = 2 := rfl; have e2 : mostS 27 = 2 := rfl; omega)
              exact oper_27 a (kk a (by simp)) b (kk b (by simp)) hz
        have hneg : resultS o < 0 := by rcases hs with rfl | rfl | rfl | rfl <;> decide
        rw [if_pos hneg]; exact hso
      · have := result_pos o h1 h2 hs
        rw [if_neg (by omega)]; omega
    unfold orType
    rw [if_neg hne]; rfl

/-- What kind has boxed: the two lists and an expression. -/
structure RBox (w : World) (vC vL : Value) (E : List Value) (W : World) : Prop where
  s0 : W.cell? ⟨w.heap.size, 0, none⟩ = some vC
  s1 : W.cell? ⟨w.heap.size, 1, none⟩ = some vL
  e : ∀ i, i < 8 → W.cell? ⟨w.heap.size + 1, i, none⟩ = E[i]?
  bel : Below w.heap.size w W
  sz : w.heap.size + 2 ≤ W.heap.size
theorem RBox.keep {w W W' : World} {vC vL : Value} {E : List Value} (h : RBox w vC vL E W) (hb : Below W.heap.size W W') : RBox w vC vL E W' where
  s0 := by rw [hb.cell (p := ⟨w.heap.size, 0, none⟩) (by have := h.sz; show w.heap.size < _; omega)]; exact h.s0
  s1 := by rw [hb.cell (p := ⟨w.heap.size, 1, none⟩) (by have := h.sz; show w.heap.size < _; omega)]; exact h.s1
  e := fun i hi => by rw [hb.cell (p := ⟨w.heap.size + 1, i, none⟩) (by have := h.sz; show w.heap.size + 1 < _; omega)]; exact h.e i hi
  bel := h.bel.trans (hb.mono (by have := h.sz; omega))
  sz := Nat.le_trans h.sz hb.size
theorem RBox.start (w : World) (vC vL : Value) (E : List Value) : RBox w vC vL E ((w.alloc (.cells #[vC, vL] 49)).alloc (.cells E.toArray 27)) where
  s0 := by rw [World.cell?_alloc_past _ _ _ (by simp), World.cell?_alloc_at _ _ _ _ rfl]; rfl
  s1 := by rw [World.cell?_alloc_past _ _ _ (by simp), World.cell?_alloc_at _ _ _ _ rfl]; rfl
  e := fun i _ => by rw [World.cell?_alloc_at _ _ _ _ (by simp)]; simp
  bel := ((Below.refl _ _).alloc (Nat.le_refl _) _).alloc (by simp) _
  sz := by simp
/-- kind tells the kind of an expression. -/
def RKindC (C : List Cl) (L : List Ne) (vC vL : Value) (w0 : World) (h : Hd) (xs : Fo) : Prop :=
  ∀ (v pv : Value) (pl : List ByteArray) (w : World), Below w0.heap.size w0 w → IsX w h xs v → IsN w pv pl → pl.length ≤ 1048576 →
    Calls Tryd.prog 14 #[.agg #[vC, vL], v, pv] w fun e w' => e = .returned (.tuple #[.int .i64 (kindS C L h xs pl).1, .int .i64 (kindS C L h xs pl).2]) ∧ Below w.heap.size w w'
theorem len_zero {h : Hd} {a : Fo} (hp : PartOk h a) (h4 : h.k ≠ 4) (h5 : h.k ≠ 5) : a.len = 0 := by
  have := hp.form
  unfold formS leastK mostK at this
  simp [h4, h5] at this
  omega

set_option maxRecDepth 100000 in
set_option maxHeartbeats 4000000 in
theorem rkind_const (C : List Cl) (L : List Ne) (vC vL : Value) (w0 : World) (hC : IsC w0 vC C) (hL : IsM w0 vL L) (hnC : C.length ≤ 1048576) (hnL : L.length ≤ 1048576) (o : Int) (nm : ByteArray) (vk vn : Int) (vs : ByteArray) (vl : List Int) (xs : Fo) (hp : PartOk ⟨1, o, nm, vk, vn, vs, vl⟩ xs) : RKindC C L vC vL w0 ⟨1, o, nm, vk, vn, vs, vl⟩ xs := by
  intro v pv pl w hb hx hN hpl
  have hC0 := Lib.hid hC
  have hL0 := Lib.hid hL
  obtain ⟨aC, cC, rfl, hC⟩ := hC
  obtain ⟨aL, cL, rfl, hL⟩ := hL
  obtain ⟨sv, a, n, c, rfl, hLv, rfl, hs⟩ := hx
  obtain ⟨p, m, q, rfl⟩ := hLv.form
  clear hLv hC hL
  have h0 := len_zero hp (by simp) (by simp)
  obtain ⟨pa, pc, rfl⟩ := hN.form
  clear hN hs hp hb hC0 hL0
  have n0 : ¬ ((0 : Int) < (xs.len : Int)) := by omega
  have HB := Lib.hid (((((Below.refl w.heap.size w).alloc (Nat.le_refl _) _).alloc (by simp) _) : Below w.heap.size w ((w.alloc (.cells #[.slice aC C.length cC, .slice aL L.length cL] 49)).alloc (.cells #[.int .i64 1, .int .i64 o, .string nm, .int .i64 vk, .int .i64 vn, .string vs, .slice p m q, .slice a xs.len c] 27))))
  have HW : Hid (RBox w (.slice aC C.length cC) (.slice aL L.length cL) [.int .i64 1, .int .i64 o, .string nm, .int .i64 vk, .int .i64 vn, .string vs, .slice p m q, .slice a xs.len c] ((w.alloc (.cells #[.slice aC C.length cC, .slice aL L.length cL] 49)).alloc (.cells #[.int .i64 1, .int .i64 o, .string nm, .int .i64 vk, .int .i64 vn, .string vs, .slice p m q, .slice a xs.len c] 27))) := RBox.start _ _ _ _
  have H0 := Lib.hid h0
  clear h0
  go_enter Tryd.func14, Tryd.ntmps14
  go_wp2_with fail
  generalize ((w.alloc (.cells #[.slice aC C.length cC, .slice aL L.length cL] 49)).alloc (.cells #[.int .i64 1, .int .i64 o, .string nm, .int .i64 vk, .int .i64 vn, .string vs, .slice p m q, .slice a xs.len c] 27)) = W1 at HB HW ⊢
  have y0 := HW.out.e 0 (by omega)
  have y3 := HW.out.e 3 (by omega)
  simp only [List.getElem?_cons_zero, List.getElem?_cons_succ] at y0 y3
  go_loop [8, 10, 11, 12, 29] (fun s _ _ _ i => i = .int .i64 0 ∧ s = .slice none 0 0) (fun _ _ _ _ _ => 0)
  case atStart => exact ⟨rfl, rfl⟩
  case round =>
    obtain ⟨rfl, rfl⟩ := hrel
    go_wp2
    go_ret2
    exact ⟨rfl, HB.out⟩

set_option maxRecDepth 100000 in
set_option maxHeartbeats 4000000 in
theorem rkind_row (C : List Cl) (L : List Ne) (vC vL : Value) (w0 : World) (hC : IsC w0 vC C) (hL : IsM w0 vL L) (hnC : C.length ≤ 1048576) (hnL : L.length ≤ 1048576) (o : Int) (nm : ByteArray) (vk vn : Int) (vs : ByteArray) (vl : List Int) (xs : Fo) (hp : PartOk ⟨3, o, nm, vk, vn, vs, vl⟩ xs) : RKindC C L vC vL w0 ⟨3, o, nm, vk, vn, vs, vl⟩ xs := by
  intro v pv pl w hb hx hN hpl
  have hC0 := Lib.hid hC
  have hL0 := Lib.hid hL
  obtain ⟨aC, cC, rfl, hC⟩ := hC
  obtain ⟨aL, cL, rfl, hL⟩ := hL
  obtain ⟨sv, a, n, c, rfl, hLv, rfl, hs⟩ := hx
  obtain ⟨p, m, q, rfl⟩ := hLv.form
  clear hLv hC hL
  have h0 := len_zero hp (by simp) (by simp)
  have e0 : Hid (kindS C L ⟨3, o, nm, vk, vn, vs, vl⟩ xs pl = if (pl.any fun x => decide (x = nm)) = true then (2, 0) else (0, 5)) := rfl
  have HQ := Lib.hid (fun W (hW : Below w.heap.size w W) => contains_c W pv pl nm (hN.below hW))
  obtain ⟨pa, pc, rfl⟩ := hN.form
  clear hN hs hp hb hC0 hL0
  have n0 : ¬ ((0 : Int) < (xs.len : Int)) := by omega
  obtain ⟨t, ht⟩ : ∃ t, t = (pl.any fun x => decide (x = nm)) := ⟨_, rfl⟩
  rw [← ht] at e0 HQ
  clear ht
  generalize kindS C L ⟨3, o, nm, vk, vn, vs, vl⟩ xs pl = R at e0 ⊢
  have HB := Lib.hid (((((Below.refl w.heap.size w).alloc (Nat.le_refl _) _).alloc (by simp) _) : Below w.heap.size w ((w.alloc (.cells #[.slice aC C.length cC, .slice aL L.length cL] 49)).alloc (.cells #[.int .i64 3, .int .i64 o, .string nm, .int .i64 vk, .int .i64 vn, .string vs, .slice p m q, .slice a xs.len c] 27))))
  have HW : Hid (RBox w (.slice aC C.length cC) (.slice aL L.length cL) [.int .i64 3, .int .i64 o, .string nm, .int .i64 vk, .int .i64 vn, .string vs, .slice p m q, .slice a xs.len c] ((w.alloc (.cells #[.slice aC C.length cC, .slice aL L.length cL] 49)).alloc (.cells #[.int .i64 3, .int .i64 o, .string nm, .int .i64 vk, .int .i64 vn, .string vs, .slice p m q, .slice a xs.len c] 27))) := RBox.start _ _ _ _
  have H0 := Lib.hid h0
  clear h0
  go_enter Tryd.func14, Tryd.ntmps14
  go_wp2_with fail
  generalize ((w.alloc (.cells #[.slice aC C.length cC, .slice aL L.length cL] 49)).alloc (.cells #[.int .i64 3, .int .i64 o, .string nm, .int .i64 vk, .int .i64 vn, .string vs, .slice p m q, .slice a xs.len c] 27)) = W1 at HB HW ⊢
  have y0 := HW.out.e 0 (by omega)
  have y2 := HW.out.e 2 (by omega)
  simp only [List.getElem?_cons_zero, List.getElem?_cons_succ] at y0 y2
  go_loop [8, 10, 11, 12, 29] (fun s _ _ _ i => i = .int .i64 0 ∧ s = .slice none 0 0) (fun _ _ _ _ _ => 0)
  case atStart => exact ⟨rfl, rfl⟩
  case round =>
    obtain ⟨rfl, rfl⟩ := hrel
    cases t with
    | true =>
      go_wp2_with fail
      refine (HQ.out _ HB.out).mono ?_
      rintro e w4 ⟨rfl, hB⟩
      have HB4 := Lib.hid (HB.out.trans (hB.mono HB.out.size))
      clear hB y0 y2
      go_wp2
      go_ret2
      exact ⟨by rw [e0.out]; rfl, HB4.out⟩
    | false =>
      go_wp2_with fail
      refine (HQ.out _ HB.out).mono ?_
      rintro e w4 ⟨rfl, hB⟩
      have HB4 := Lib.hid (HB.out.trans (hB.mono HB.out.size))
      clear hB y0 y2
      go_wp2
      go_ret2
      exact ⟨by rw [e0.out]; rfl, HB4.out⟩

set_option maxRecDepth 100000 in
set_option maxHeartbeats 4000000 in
theorem rkind_answer (C : List Cl) (L : List Ne) (vC vL : Value) (w0 : World) (hC : IsC w0 vC C) (hL : IsM w0 vL L) (hnC : C.length ≤ 1048576) (hnL : L.length ≤ 1048576) (o : Int) (nm : ByteArray) (vk vn : Int) (vs : ByteArray) (vl : List Int) (xs : Fo) (hp : PartOk ⟨2, o, nm, vk, vn, vs, vl⟩ xs) (hP : PairC C) : RKindC C L vC vL w0 ⟨2, o, nm, vk, vn, vs, vl⟩ xs := by
  intro v pv pl w hb hx hN hpl
  have hC0 := Lib.hid hC
  have hL0 := Lib.hid hL
  obtain ⟨aC, cC, rfl, hC⟩ := hC
  obtain ⟨aL, cL, rfl, hL⟩ := hL
  obtain ⟨sv, a, n, c, rfl, hLv, rfl, hs⟩ := hx
  obtain ⟨p, m, q, rfl⟩ := hLv.form
  clear hLv hC hL
  have h0 := len_zero hp (by simp) (by simp)
  have e0 : kindS C L ⟨2, o, nm, vk, vn, vs, vl⟩ xs pl = restS nm pl C := (rest_find hP).symm
  have HZ : Hid (restS nm pl C = restS nm pl (C.drop 0)) := rfl
  rw [e0]
  generalize restS nm pl C = Z at HZ ⊢
  have HQ := Lib.hid (fun W (hW : Below w.heap.size w W) v l (hi : IsN W v l) => begins_c W v pv l pl hi (hN.below hW))
  obtain ⟨pa, pc, rfl⟩ := hN.form
  have HB0 := Lib.hid hb
  clear hN hs hp hb hL0 e0
  have n0 : ¬ ((0 : Int) < (xs.len : Int)) := by omega
  have HB := Lib.hid (((((Below.refl w.heap.size w).alloc (Nat.le_refl _) _).alloc (by simp) _) : Below w.heap.size w ((w.alloc (.cells #[.slice aC C.length cC, .slice aL L.length cL] 49)).alloc (.cells #[.int .i64 2, .int .i64 o, .string nm, .int .i64 vk, .int .i64 vn, .string vs, .slice p m q, .slice a xs.len c] 27))))
  have HW : Hid (RBox w (.slice aC C.length cC) (.slice aL L.length cL) [.int .i64 2, .int .i64 o, .string nm, .int .i64 vk, .int .i64 vn, .string vs, .slice p m q, .slice a xs.len c] ((w.alloc (.cells #[.slice aC C.length cC, .slice aL L.length cL] 49)).alloc (.cells #[.int .i64 2, .int .i64 o, .string nm, .int .i64 vk, .int .i64 vn, .string vs, .slice p m q, .slice a xs.len c] 27))) := RBox.start _ _ _ _
  have H0 := Lib.hid h0
  clear h0
  go_enter Tryd.func14, Tryd.ntmps14
  go_wp2_with fail
  generalize ((w.alloc (.cells #[.slice aC C.length cC, .slice aL L.length cL] 49)).alloc (.cells #[.int .i64 2, .int .i64 o, .string nm, .int .i64 vk, .int .i64 vn, .string vs, .slice p m q, .slice a xs.len c] 27)) = W1 at HB HW ⊢
  have y0 := HW.out.e 0 (by omega)
  have y2 := HW.out.e 2 (by omega)
  simp only [List.getElem?_cons_zero, List.getElem?_cons_succ] at y0 y2
  go_loop [8, 10, 11, 12, 29] (fun s _ _ _ i => i = .int .i64 0 ∧ s = .slice none 0 0) (fun _ _ _ _ _ => 0)
  case atStart => exact ⟨rfl, rfl⟩
  case round =>
    obtain ⟨rfl, rfl⟩ := hrel
    have s0 := HW.out.s0
    go_wp2_with fail
    clear s0 y0 y2
    go_loopw [14, 60] (fun _ i wr => ∃ k : Nat, k ≤ C.length ∧ i = .int .i64 k ∧ Hid (RBox w (.slice aC C.length cC) (.slice aL L.length cL) [.int .i64 2, .int .i64 o, .string nm, .int .i64 vk, .int .i64 vn, .string vs, .slice p m q, .slice a xs.len c] wr) ∧ Hid (Z = restS nm pl (C.drop k))) (fun _ i _ => C.length - (intOf i).toNat)
    case atStart => exact ⟨0, Nat.zero_le _, rfl, HW.out, HZ.out⟩
    case round =>
      obtain ⟨k, hk, rfl, hS, hA⟩ := hrel
      clear HZ
      by_cases hlt : k < C.length
      · have hkk : (k : Int) < (C.length : Int) := by omega
        obtain ⟨_, _, e1, hC1⟩ := hC0.out
        simp only [Value.slice.injEq] at e1
        obtain ⟨rfl, _, rfl⟩ := e1
        obtain ⟨b, off, rfl, hbl, hCs⟩ : ∃ b off, aC = some ⟨b, off, none⟩ ∧ b < w0.heap.size ∧ IsCs w0 b C off := by
          rcases hC1 with h | ⟨b, off, h1, h2, _, h3⟩
          · omega
          · exact ⟨b, off, h1, h2, h3⟩
        obtain ⟨c, hc⟩ : ∃ c, C[k]? = some c := ⟨C[k], List.getElem?_eq_getElem hlt⟩
        obtain ⟨lv, g0, g1, g2, hi⟩ := hCs.at hc
        have HI := Lib.hid hi
        obtain ⟨la, lc, rfl⟩ := hi.form
        have hBW := HB0.out.trans (hS.out.bel.mono HB0.out.size)
        have cc := fun (z : Nat) => hBW.cell (p := ⟨b, z, none⟩) hbl
        have k0 := (cc _).trans g0
        have k1 := (cc _).trans g1
        have k2 := (cc _).trans g2
        have hz := hS.out.sz
        have hz0 : w.heap.size + 1 < wr.heap.size := by omega
        have y2 := hS.out.e 2 (by omega)
        simp only [List.getElem?_cons_zero, List.getElem?_cons_succ] at y2
        have hS1 := Lib.hid (hS.out.keep ((Below.refl wr.heap.size wr).alloc (Nat.le_refl _) (.cells #[.string c.nm, .int .i64 c.kind, .slice la c.lp.length lc] 57)))
        have hQ := Lib.hid (HQ.out _ hS1.out.bel _ c.lp (HI.out.below (HB0.out.trans (hS1.out.bel.mono HB0.out.size))))
        have hE := hA.out.trans (rest_drop hc)
        clear g0 g1 g2 cc hCs hi hc hA hBW hC1 hz
        by_cases hnm : c.nm = nm
        · have t1 := eqB hnm
          obtain ⟨u, hu⟩ : ∃ u, u = beginsS c.lp pl := ⟨_, rfl⟩
          rw [← hu] at hQ hE
          have HNM := Lib.hid hnm
          clear hu hnm
          cases u with
          | true =>
            have eZ : Hid (Z = (c.kind, 0)) := hE.trans (if_pos ⟨HNM.out, rfl⟩)
            clear hE
            go_wp2_with fail
            refine hQ.out.mono ?_
            rintro e w4 ⟨rfl, hB⟩
            have hS4 := Lib.hid (hS1.out.keep hB)
            have d1 : w4.cell? ⟨wr.heap.size, 1, none⟩ = some (.int .i64 c.kind) := by
              rw [hB.cell (p := ⟨wr.heap.size, 1, none⟩) (by simp), World.cell?_alloc_at _ _ _ _ rfl]; rfl
            clear hB hS1 hS k0 k1 k2 y2 hz0
            go_wp2
            go_ret2
            exact ⟨by rw [eZ.out]; rfl, hS4.out.bel⟩
          | false =>
            have eZ : Hid (Z = restS nm pl (C.drop (k + 1))) := hE.trans (if_neg (fun h => by cases h.2))
            clear hE
            go_wp2_with fail
            refine hQ.out.mono ?_
            rintro e w4 ⟨rfl, hB⟩
            have hS4 := Lib.hid (hS1.out.keep hB)
            clear hB hS1 hS k0 k1 k2 y2 hz0
            go_wp2
            go_roundw
            case rel => exact ⟨k + 1, by omega, by go_num, hS4.out, eZ.out⟩
            case measure => simp [intOf]; omega
        · have t1 := neB hnm
          have eZ : Hid (Z = restS nm pl (C.drop (k + 1))) := hE.trans (if_neg (fun h => hnm h.1))
          clear hE hnm
          go_wp2
          go_roundw
          case rel => exact ⟨k + 1, by omega, by go_num, hS1.out, eZ.out⟩
          case measure => simp [intOf]; omega
      · obtain rfl : k = C.length := by omega
        have eZ : Hid (Z = (0, 5)) := by unfold Hid; rw [hA.out, List.drop_length]; rfl
        clear hA
        go_wp2
        go_ret2
        exact ⟨by rw [eZ.out]; rfl, hS.out.bel⟩

/-- While the reference finds the kinds of arguments. -/
structure GKs (wB : World) (ks : List Int) (v : Value) (W : World) : Prop where
  row : W.ownsRow wB.heap.size 3 1 v ks.length (ks.map (Value.int .i64))
  bel : Below wB.heap.size wB W
theorem own_bel {w w' : World} {base : Nat} {e : TypeId} {size : Nat} {v : Value} {n : Nat} {xs : List Value} (h : w.ownsRow base e size v n xs) (hb : Below w.heap.size w w') : w'.ownsRow base e size v n xs := by
  obtain ⟨hl, h | ⟨g, cap, cur, rfl, hg0, hg, hnc, hm, hs, ht⟩⟩ := h
  · exact ⟨hl, .inl h⟩
  · refine ⟨hl, .inr ⟨g, cap, cur, rfl, hg0, ?_, hnc, hm, hs, ht⟩⟩
    rw [hb.block g (lt_of_block hg)]; exact hg
theorem GKs.keep {wB W W' : World} {ks : List Int} {v : Value} (h : GKs wB ks v W) (hb : Below W.heap.size W W') : GKs wB ks v W' :=
  ⟨own_bel h.row hb, h.bel.trans (hb.mono h.bel.size)⟩
theorem isL_own {w : World} {base : Nat} {v : Value} {l : List Int} (h : w.ownsRow base 3 1 v l.length (l.map (Value.int .i64))) (hm : l.length ≤ 9223372036854775807) : IsL w v l := by
  obtain ⟨_, hh⟩ := id h
  rcases hh with ⟨rfl, hn⟩ | ⟨g, cap, cur, rfl, _, hg, hnc, _⟩
  · exact .inl ⟨none, 0, rfl, List.eq_nil_of_length_eq_zero hn⟩
  · by_cases h0 : l.length = 0
    · obtain rfl := List.eq_nil_of_length_eq_zero h0
      exact .inl ⟨_, cap, rfl, rfl⟩
    · refine .inr ⟨g, 0, cap, rfl, by omega, hm, lt_of_block hg, fun j hj => ?_⟩
      rw [Nat.zero_add, h.cellAt j (by omega), List.getElem?_map, List.getElem?_eq_getElem hj, List.getD_eq_getElem?_getD, List.getElem?_eq_getElem hj]
      rfl

set_option maxRecDepth 100000 in
set_option maxHeartbeats 4000000 in
theorem rkind_op (C : List Cl) (L : List Ne) (vC vL : Value) (w0 : World) (hC : IsC w0 vC C) (hL : IsM w0 vL L) (hnC : C.length ≤ 1048576) (hnL : L.length ≤ 1048576) (o : Int) (nm : ByteArray) (vk vn : Int) (vs : ByteArray) (vl : List Int) (xs : Fo) (hp : PartOk ⟨4, o, nm, vk, vn, vs, vl⟩ xs) (hA : allS xs = 0) (hK : ∀ c ∈ C, 2 ≤ c.kind ∧ c.kind ≤ 7) (hlen : xs.len ≤ 1000) (ih : ∀ k h' a', xs.drop k = .cons h' a' (xs.drop (k + 1)) → RKindC C L vC vL w0 h' a') : RKindC C L vC vL w0 ⟨4, o, nm, vk, vn, vs, vl⟩ xs := by
  intro v pv pl w hb hx hN hpl
  have hC0 := Lib.hid hC
  have hL0 := Lib.hid hL
  obtain ⟨aC, cC, rfl, hC⟩ := hC
  obtain ⟨aL, cL, rfl, hL⟩ := hL
  obtain ⟨sv, a, n, c, rfl, hLv, rfl, hs⟩ := hx
  obtain ⟨p, m, q, rfl⟩ := hLv.form
  clear hLv hC hL
  have h14 := hp.op rfl
  have hargs := hp.args rfl
  have eK : Hid (kindS C L ⟨4, o, nm, vk, vn, vs, vl⟩ xs pl = if (kindsF C L xs pl).2 ≠ 0 then (0, (kindsF C L xs pl).2) else orType (kindR o (kindsF C L xs pl).1)) := rfl
  have HT : Hid (∀ ks, kindsF C L xs pl = (ks, 0) → kindS C L ⟨4, o, nm, vk, vn, vs, vl⟩ xs pl = if (operR o (operF (marksS o) 0 ks 0)).2 = true then ((operR o (operF (marksS o) 0 ks 0)).1, 0) else (0, 8)) := by
    intro ks he
    have hr := kinds_ok hK xs hA pl (by rw [he])
    rw [he] at hr
    rw [eK.out, he, ← oper_kind o h14.1 h14.2 ks (by rw [hr.1]; exact hargs.1) (by rw [hr.1]; exact hargs.2) hr.2]
    simp
  have HOP := Lib.hid (fun v ks W hv hk => operation_c o v ks W h14.1 h14.2 hv hk)
  have HF : Hid (xs.len = 0 ∨ ∃ b off, a = some ⟨b, off, none⟩ ∧ b < w.heap.size ∧ IsF w b xs off) := hs
  have HK0 : Hid (kindsF C L xs pl = addK [] (kindsF C L (xs.drop 0) pl)) := (addK_nil _ (kindsF_fault xs pl)).symm
  have HPL := Lib.hid (fun W (hW : Below w.heap.size w W) => hN.below hW)
  have HPLL := Lib.hid hpl
  have HB0 := Lib.hid hb
  have IH := Lib.hid ih
  obtain ⟨pa, pc, rfl⟩ := hN.form
  obtain ⟨i0, hi, hz0, hz1, hz2⟩ := info_parts infoI_t
  clear hN hp hb ih hA hK h14 hargs hpl hs hC0 hL0
  generalize kindS C L ⟨4, o, nm, vk, vn, vs, vl⟩ xs pl = R at eK HT ⊢
  have HB := Lib.hid (((((Below.refl w.heap.size w).alloc (Nat.le_refl _) _).alloc (by simp) _) : Below w.heap.size w ((w.alloc (.cells #[.slice aC C.length cC, .slice aL L.length cL] 49)).alloc (.cells #[.int .i64 4, .int .i64 o, .string nm, .int .i64 vk, .int .i64 vn, .string vs, .slice p m q, .slice a xs.len c] 27))))
  have HW : Hid (RBox w (.slice aC C.length cC) (.slice aL L.length cL) [.int .i64 4, .int .i64 o, .string nm, .int .i64 vk, .int .i64 vn, .string vs, .slice p m q, .slice a xs.len c] ((w.alloc (.cells #[.slice aC C.length cC, .slice aL L.length cL] 49)).alloc (.cells #[.int .i64 4, .int .i64 o, .string nm, .int .i64 vk, .int .i64 vn, .string vs, .slice p m q, .slice a xs.len c] 27))) := RBox.start _ _ _ _
  go_enter Tryd.func14, Tryd.ntmps14
  go_wp2_with fail
  generalize ((w.alloc (.cells #[.slice aC C.length cC, .slice aL L.length cL] 49)).alloc (.cells #[.int .i64 4, .int .i64 o, .string nm, .int .i64 vk, .int .i64 vn, .string vs, .slice p m q, .slice a xs.len c] 27)) = wB at HB HW ⊢
  have S0 : Hid (GKs wB [] (.slice none 0 0) wB) := ⟨World.ownsRow_nil _ _ _ _, Below.refl _ _⟩
  go_loopw [8, 10, 11, 12, 29] (fun s _ _ _ i wr => ∃ (j : Nat) (ks : List Int) (vv : Value), j ≤ xs.len ∧ ks.length = j ∧ i = .int .i64 j ∧ vv = s ∧ Hid (GKs wB ks vv wr) ∧ Hid (kindsF C L xs pl = addK ks (kindsF C L (xs.drop j) pl))) (fun _ _ _ _ i _ => xs.len - (intOf i).toNat)
  case atStart => exact ⟨0, [], _, Nat.zero_le _, rfl, rfl, rfl, S0.out, HK0.out⟩
  case round =>
    obtain ⟨j, ks, vv, hj, hkl, rfl, rfl, hK, hA⟩ := hrel
    clear S0 HK0
    have HKL := Lib.hid hkl; clear hkl
    have HWR := Lib.hid (HW.out.keep hK.out.bel)
    by_cases hlt : j < xs.len
    · have hjj : (j : Int) < (xs.len : Int) := by omega
      obtain ⟨b, off, rfl, hbl, hF⟩ : ∃ b off, a = some ⟨b, off, none⟩ ∧ b < w.heap.size ∧ IsF w b xs off := by
        rcases HF.out with h | h
        · omega
        · exact h
      obtain ⟨h', a', hd⟩ := Fo.drop_at j xs hlt
      obtain ⟨sp, sm, sq, p', n', c', g0, g1, g2, g3, g4, g5, g6, g7, hX⟩ := hF.cells hd
      have cc := fun (z : Nat) => HWR.out.bel.cell (p := ⟨b, z, none⟩) hbl
      have k0 := (cc _).trans g0
      have k1 := (cc _).trans g1
      have k2 := (cc _).trans g2
      have k3 := (cc _).trans g3
      have k4 := (cc _).trans g4
      have k5 := (cc _).trans g5
      have k6 := (cc _).trans g6
      have k7 := (cc _).trans g7
      have m0 := HWR.out.s0
      have m1 := HWR.out.s1
      have hz9 : w.heap.size < wr.heap.size := by have := HWR.out.sz; omega
      have hz8 : w.heap.size + 1 < wr.heap.size := by have := HWR.out.sz; omega
      have HX := Lib.hid hX
      have HD := Lib.hid hd
      have HB9 := Lib.hid ((Below.refl wr.heap.size wr).alloc (Nat.le_refl _) (.cells #[.int .i64 h'.k, .int .i64 h'.o, .string h'.nm, .int .i64 h'.vk, .int .i64 h'.vn, .string h'.vs, .slice sp sm sq, .slice p' n' c'] 27))
      have HK1 := Lib.hid (hK.out.keep HB9.out)
      have HW1 := Lib.hid (HWR.out.keep HB9.out)
      clear g0 g1 g2 g3 g4 g5 g6 g7 hX hd cc hF
      obtain ⟨Q, hQ⟩ : ∃ Q, Q = kindS C L h' a' pl := ⟨_, rfl⟩
      have hC1 := Lib.hid (IH.out j h' a' HD.out _ (.slice pa pl.length pc) pl _ (HB0.out.trans (HW1.out.bel.mono HB0.out.size)) (HX.out.below HW1.out.bel) (HPL.out _ HW1.out.bel) HPLL.out)
      rw [← hQ] at hC1
      have HQE := Lib.hid hQ
      clear hQ
      by_cases hQ0 : Q.2 = 0
      · have eQ2 : Hid (kindsF C L xs pl = addK (ks ++ [Q.1]) (kindsF C L (xs.drop (j + 1)) pl)) := by
          unfold Hid; rw [hA.out, addK_step pl HD.out (by rw [← HQE.out]; exact hQ0), ← HQE.out]
        have q1 : (Q.2 != 0) = false := by simpa using hQ0
        clear hA hQ0
        go_wp2_with fail
        refine hC1.out.mono ?_
        rintro e w4 ⟨rfl, hB⟩
        have HK4 := Lib.hid (HK1.out.keep hB)
        clear hB hC1 HK1 HW1 HB9 hK HWR k0 k1 k2 k3 k4 k5 k6 k7 m0 m1 hz8 hz9
        go_wp2_with (at_builtin; refine wpList_append_own _ rfl _ _ 22 rfl wB.heap.size 3 i0 (.int .i64 0) 1 8 Tryd.underlying22 hi hz0 hz1 hz2 rfl (by decide) _ _ _ rfl (HK4.out.row.alloc _) ⟨w4.heap.size, 0, none⟩ 1 1 [.int .i64 Q.1] rfl rfl ?c1 ?c2 ?c3 ?c4 ?c5 ?_)
        case c1 =>
          intro j u hj
          match j, hj with
          | 0, hj => simp at hj; subst hj; simp [Addr.add]
        case c2 => intro u hu; simp at hu; subst hu; rfl
        case c3 => unfold maxLen; rw [HKL.out]; omega
        case c4 => rw [HKL.out]; omega
        case c5 => have := HK4.out.bel.size; simp; omega
        intro v5 w5 hown hgrow _
        have HK5 : Hid (GKs wB (ks ++ [Q.1]) v5 w5) := by
          refine ⟨by simpa using hown, ?_⟩
          have hb := HK4.out.bel
          have hb2 := hb.alloc hb.size (.cells #[.int .i64 Q.1] 3)
          exact below_grown hb2 hgrow (fun k hk => (HK4.out.row.lt k hk).1)
        clear hown hgrow HK4
        go_wp2
        go_roundw
        case rel => exact ⟨j + 1, ks ++ [Q.1], _, by omega, by simp [HKL.out], by go_num, rfl, HK5.out, eQ2.out⟩
        case measure => simp [intOf]; omega
      · have eQ2 : Hid (kindsF C L xs pl = ([], Q.2)) := by
          unfold Hid; rw [hA.out, addK_stop pl HD.out (by rw [← HQE.out]; exact hQ0), ← HQE.out]
        have q1 : (Q.2 != 0) = true := by simpa using hQ0
        have eS : Hid (R = (0, Q.2)) := by
          unfold Hid
          rw [eK.out, eQ2.out]
          exact if_pos hQ0
        clear hA hQ0
        go_wp2_with fail
        refine hC1.out.mono ?_
        rintro e w4 ⟨rfl, hB⟩
        have HB4 := Lib.hid (HW1.out.keep hB).bel
        clear hB hC1 HK1 HW1 HB9 hK HWR k0 k1 k2 k3 k4 k5 k6 k7 m0 m1 hz8 hz9
        go_wp2
        go_ret2
        exact ⟨by rw [eS.out]; rfl, HB4.out⟩
    · obtain rfl : j = xs.len := by omega
      have eA : Hid (kindsF C L xs pl = (ks, 0)) := by unfold Hid; rw [hA.out, addK_end pl rfl]
      have y0 := HWR.out.e 0 (by omega)
      have y1 := HWR.out.e 1 (by omega)
      simp only [List.getElem?_cons_zero, List.getElem?_cons_succ] at y0 y1
      have hR2 := Lib.hid (HOP.out vv ks wr (isL_own (by rw [HKL.out]; have := hK.out.row; rw [HKL.out] at this; exact this) (by rw [HKL.out]; omega)) (by rw [HKL.out]; omega))
      have HFin := Lib.hid (HT.out ks eA.out)
      have HBL := Lib.hid HWR.out.bel
      clear hA eA hK HWR
      generalize operR o (operF (marksS o) 0 ks 0) = Y at hR2 HFin
      obtain ⟨Y1, Y2⟩ := Y
      simp only at hR2 HFin
      cases Y2 with
      | true =>
        go_wp2_with fail
        refine hR2.out.mono ?_
        rintro e w4 ⟨rfl, hB⟩
        have HB4 := Lib.hid (HBL.out.trans (hB.mono HBL.out.size))
        clear hB y0 y1
        go_wp2
        go_ret2
        exact ⟨by rw [HFin.out]; rfl, HB4.out⟩
      | false =>
        go_wp2_with fail
        refine hR2.out.mono ?_
        rintro e w4 ⟨rfl, hB⟩
        have HB4 := Lib.hid (HBL.out.trans (hB.mono HBL.out.size))
        clear hB y0 y1
        go_wp2
        go_ret2
        exact ⟨by rw [HFin.out]; rfl, HB4.out⟩
end Go.Proofs.YtngijlmokhkdjaaDoor
