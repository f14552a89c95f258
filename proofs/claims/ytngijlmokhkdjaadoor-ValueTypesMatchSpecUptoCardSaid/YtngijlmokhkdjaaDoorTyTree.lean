/-
  kindOf of package value: the kind of an expression at a place (its pieces made by a program).
-/
import Derived.Test.YtngijlmokhkdjaaDoorTyAll
import Derived.Test.YtngijlmokhkdjaaDoorTyWithin
import Derived.Test.YtngijlmokhkdjaaDoorTyAdd
namespace Go.Proofs.YtngijlmokhkdjaaDoor
open Go.RowKit

/-- A row of ints in one block, as a function of the place. -/
def RowF (w : World) (b n : Nat) (k : IntKind) (f : Nat → Int) : Prop := ∀ j, j < n → w.cell? ⟨b, j, none⟩ = some (.int k (f j)) ∧ w.frozen? ⟨b, j, none⟩ = false
theorem RowF.made (w : World) (n : Nat) (k : IntKind) (e : TypeId) : RowF (w.alloc (.cells (madeCells #[.int k 0] n) e)) w.heap.size n k (fun _ => 0) := by
  intro j hj
  refine ⟨?_, by simp⟩
  rw [World.cell?_alloc_new]
  rw [← Array.getElem?_toList, toList_madeCells_one]
  simp [hj]
theorem RowF.congr {w : World} {b n : Nat} {k : IntKind} {f g : Nat → Int} (h : RowF w b n k f) (e : ∀ j, j < n → f j = g j) : RowF w b n k g :=
  fun j hj => by rw [← e j hj]; exact h j hj
theorem RowF.set {w : World} {b n : Nat} {k : IntKind} {f : Nat → Int} (h : RowF w b n k f) (i : Nat) (x : Int) : RowF (w.setCell ⟨b, i, none⟩ (.int k x)) b n k (fun j => if j = i then x else f j) := by
  intro j hj
  refine ⟨?_, by rw [World.frozen?_setCell]; exact (h j hj).2⟩
  by_cases e : j = i
  · subst e
    rw [World.cell?_setCell_same _ _ _ (h j hj).1]; simp
  · rw [World.cell?_setCell_other _ _ _ _ (by intro h; exact e (by injection h with _ h2; exact h2.symm))]
    simp only [if_neg e]
    exact (h j hj).1
theorem RowF.below {w w' : World} {B b n : Nat} {k : IntKind} {f : Nat → Int} (h : RowF w b n k f) (hb : Below B w w') (hB : b < B) : RowF w' b n k f :=
  fun j hj => ⟨by rw [hb.cell (p := ⟨b, j, none⟩) hB]; exact (h j hj).1, by rw [hb.frozen (p := ⟨b, j, none⟩) hB]; exact (h j hj).2⟩

/-- What kindOf has boxed: a sight and an expression. -/
structure BoxW (w : World) (b1 b2 : Nat) (E : List Value) (W : World) : Prop where
  s0 : W.cell? ⟨w.heap.size, 0, none⟩ = some (.map (some b1))
  s1 : W.cell? ⟨w.heap.size, 1, none⟩ = some (.map (some b2))
  e : ∀ i, i < 8 → W.cell? ⟨w.heap.size + 1, i, none⟩ = E[i]?
  bel : Below w.heap.size w W
  sz : w.heap.size + 2 ≤ W.heap.size
theorem BoxW.keep {w W W' : World} {b1 b2 : Nat} {E : List Value} (h : BoxW w b1 b2 E W) (hb : Below W.heap.size W W') : BoxW w b1 b2 E W' where
  s0 := by rw [hb.cell (p := ⟨w.heap.size, 0, none⟩) (by have := h.sz; show w.heap.size < _; omega)]; exact h.s0
  s1 := by rw [hb.cell (p := ⟨w.heap.size, 1, none⟩) (by have := h.sz; show w.heap.size < _; omega)]; exact h.s1
  e := fun i hi => by rw [hb.cell (p := ⟨w.heap.size + 1, i, none⟩) (by have := h.sz; show w.heap.size + 1 < _; omega)]; exact h.e i hi
  bel := h.bel.trans (hb.mono (by have := h.sz; omega))
  sz := Nat.le_trans h.sz hb.size
theorem BoxW.start (w : World) (b1 b2 : Nat) (E : List Value) : BoxW w b1 b2 E ((w.alloc (.cells #[.map (some b1), .map (some b2)] 44)).alloc (.cells E.toArray 27)) where
  s0 := by rw [World.cell?_alloc_past _ _ _ (by simp), World.cell?_alloc_at _ _ _ _ rfl]; rfl
  s1 := by rw [World.cell?_alloc_past _ _ _ (by simp), World.cell?_alloc_at _ _ _ _ rfl]; rfl
  e := fun i _ => by rw [World.cell?_alloc_at _ _ _ _ (by simp)]; simp
  bel := ((Below.refl _ _).alloc (Nat.le_refl _) _).alloc (by simp) _
  sz := by simp
/-- While the kinds of arguments are found: those so far in block g. -/
structure KSt (w wB : World) (b1 b2 : Nat) (E : List Value) (g n : Nat) (ks : List Int) (W : World) : Prop where
  row : RowF W g n .i64 (fun j => ks.getD j 0)
  box : BoxW w b1 b2 E W
  bel : Below wB.heap.size wB W
  lo : wB.heap.size ≤ g
  hi : g < W.heap.size
theorem KSt.keep {w wB W W' : World} {b1 b2 : Nat} {E : List Value} {g n : Nat} {ks : List Int} (h : KSt w wB b1 b2 E g n ks W) (hb : Below W.heap.size W W') : KSt w wB b1 b2 E g n ks W' where
  row := h.row.below hb h.hi
  box := h.box.keep hb
  bel := h.bel.trans (hb.mono h.bel.size)
  lo := h.lo
  hi := Nat.lt_of_lt_of_le h.hi hb.size
theorem KSt.start {w wB : World} {b1 b2 : Nat} {E : List Value} (n : Nat) (h : BoxW w b1 b2 E wB) : KSt w wB b1 b2 E wB.heap.size n [] (wB.alloc (.cells (madeCells #[.int .i64 0] n) 3)) where
  row := (RowF.made wB n .i64 3).congr (fun j _ => by simp)
  box := h.keep ((Below.refl _ _).alloc (Nat.le_refl _) _)
  bel := (Below.refl _ _).alloc (Nat.le_refl _) _
  lo := Nat.le_refl _
  hi := by simp
theorem KSt.put {w wB W : World} {b1 b2 : Nat} {E : List Value} {g n : Nat} {ks : List Int} (h : KSt w wB b1 b2 E g n ks W) (hBW : w.heap.size + 2 ≤ wB.heap.size) (x : Int) (hk : ks.length < n) :
    W.cell? ⟨g, ks.length, none⟩ = some (.int .i64 0) ∧ W.frozen? ⟨g, ks.length, none⟩ = false ∧ KSt w wB b1 b2 E g n (ks ++ [x]) (W.setCell ⟨g, ks.length, none⟩ (.int .i64 x)) := by
  have r := h.row ks.length hk
  have hlo := h.lo
  refine ⟨by simpa using r.1, r.2, (h.row.set ks.length x).congr (fun j _ => ?_), ?_, h.bel.setCell (p := ⟨g, ks.length, none⟩) h.lo _, h.lo, by simpa using h.hi⟩
  · by_cases hj : j = ks.length
    · subst hj; simp
    · simp only [if_neg hj, List.getD_eq_getElem?_getD]
      rcases Nat.lt_or_ge j ks.length with hl | hl
      · rw [List.getElem?_append_left hl]
      · rw [List.getElem?_append_right hl, List.getElem?_eq_none hl]
        cases e : j - ks.length with
        | zero => omega
        | succ q => simp
  · have b := h.box
    refine ⟨?_, ?_, fun i hi => ?_, b.bel.setCell (p := ⟨g, ks.length, none⟩) (by show w.heap.size ≤ g; omega) _, by simpa using b.sz⟩
    · rw [World.cell?_setCell_other _ _ _ _ (by intro q; injection q with q1; omega)]; exact b.s0
    · rw [World.cell?_setCell_other _ _ _ _ (by intro q; injection q with q1; omega)]; exact b.s1
    · rw [World.cell?_setCell_other _ _ _ _ (by intro q; injection q with q1; omega)]; exact b.e i hi
theorem RowF.isL {w : World} {g n : Nat} {ks : List Int} (h : RowF w g n .i64 (fun j => ks.getD j 0)) (hn : ks.length = n) (h0 : 0 < n) (hm : n ≤ 1048576) (hg : g < w.heap.size) : IsL w (.slice (some ⟨g, 0, none⟩) n n) ks := by
  subst hn
  exact .inr ⟨g, 0, ks.length, rfl, h0, by omega, hg, fun j hj => by rw [Nat.zero_add]; exact (h j hj).1⟩
theorem infoI_t : (Tryd.prog.info? 3).map (fun i => (i.zero, i.size, i.bytes)) = some (some (.int .i64 0), 1, 8) := by kernel_rfl

theorem containsS_any (l : List ByteArray) (x : ByteArray) : Lib.containsS l x = l.any fun y => decide (y = x) := by
  rw [Bool.eq_iff_iff, Lib.containsS_iff, List.any_eq_true]
  constructor
  · intro h; exact ⟨x, h, by simp⟩
  · rintro ⟨y, hy, he⟩
    have : y = x := by simpa using he
    rw [← this]; exact hy
theorem contains_c (w : World) (v : Value) (l : List ByteArray) (x : ByteArray) (h : IsN w v l) : Calls Tryd.prog 33 #[v, .string x] w fun e w' => e = .returned (.bool (l.any fun y => decide (y = x))) ∧ Below w.heap.size w w' := by
  rcases h with ⟨a, c, rfl, rfl⟩ | ⟨b, off, cap, rfl, h1, h2, h3, h4⟩
  · exact (Tryd.slices_Contains_string_empty a c x w).mono fun e w' ⟨he, hw⟩ => ⟨he, by rw [hw]; exact Below.refl _ _⟩
  · refine (Tryd.slices_Contains_string b off l.length cap l x w (Nat.le_refl _) (by omega) h4).mono fun e w' ⟨he, hw⟩ => ⟨?_, by rw [hw]; exact Below.refl _ _⟩
    rw [he, List.take_length]
    exact ret_bool (containsS_any l x)
/-- kindOf tells the kind of an expression. -/
def KindC (C : List Cl) (L : List Ne) (b1 b2 : Nat) (w0 : World) (h : Hd) (xs : Fo) : Prop :=
  ∀ (v pv : Value) (pl : List ByteArray) (w : World), Below w0.heap.size w0 w → IsX w h xs v → IsN w pv pl → SeesC w0 w b1 C → SeesL w0 w b2 L → pl.length ≤ 1048576 →
    Calls Tryd.prog 23 #[.agg #[.map (some b1), .map (some b2)], v, pv] w fun e w' => e = .returned (.tuple #[.int .i64 (kindS C L h xs pl).1, .int .i64 (kindS C L h xs pl).2]) ∧ Below w.heap.size w w'
theorem name_le {nm : ByteArray} (h : nameS nm = true) : nm.size ≤ 16 := by
  unfold nameS at h
  simp at h
  omega

set_option maxRecDepth 100000 in
set_option maxHeartbeats 4000000 in
theorem kind_const (C : List Cl) (L : List Ne) (b1 b2 : Nat) (w0 : World) (o : Int) (nm : ByteArray) (vk vn : Int) (vs : ByteArray) (vl : List Int) (xs : Fo) (hp : PartOk ⟨1, o, nm, vk, vn, vs, vl⟩ xs) : KindC C L b1 b2 w0 ⟨1, o, nm, vk, vn, vs, vl⟩ xs := by
  intro v pv pl w hb hx hN hSC hSL hpl
  obtain ⟨sv, a, n, c, rfl, hL, rfl, hs⟩ := hx
  obtain ⟨p, m, q, rfl⟩ := hL.form
  clear hL
  obtain ⟨pa, pc, rfl⟩ := hN.form
  clear hN hSC hSL hs hp hb
  go_enter Tryd.func23, Tryd.ntmps23
  go_wp2
  go_ret2
  exact ⟨rfl, ((Below.refl w.heap.size w).alloc (Nat.le_refl _) _).alloc (by simp) _⟩

set_option maxRecDepth 100000 in
set_option maxHeartbeats 4000000 in
theorem kind_row (C : List Cl) (L : List Ne) (b1 b2 : Nat) (w0 : World) (o : Int) (nm : ByteArray) (vk vn : Int) (vs : ByteArray) (vl : List Int) (xs : Fo) (hp : PartOk ⟨3, o, nm, vk, vn, vs, vl⟩ xs) : KindC C L b1 b2 w0 ⟨3, o, nm, vk, vn, vs, vl⟩ xs := by
  intro v pv pl w hb hx hN hSC hSL hpl
  obtain ⟨sv, a, n, c, rfl, hL, rfl, hs⟩ := hx
  obtain ⟨p, m, q, rfl⟩ := hL.form
  clear hL
  have e0 : Hid (kindS C L ⟨3, o, nm, vk, vn, vs, vl⟩ xs pl = if (pl.any fun x => decide (x = nm)) = true then (2, 0) else (0, 5)) := rfl
  have hnm := name_le (hp.name (by simp) (by simp))
  simp only at hnm
  have HQ := Lib.hid (fun W (hW : Below w.heap.size w W) => contains_c W pv pl nm (hN.below hW))
  obtain ⟨pa, pc, rfl⟩ := hN.form
  clear hN hSC hSL hs hp hb
  have BB := fun o1 o2 => ((Below.refl w.heap.size w).alloc (Nat.le_refl _) o1).alloc (by simp) o2
  by_cases hc : (pl.any fun x => decide (x = nm)) = true
  · rw [if_pos hc] at e0
    rw [hc] at HQ
    clear hc
    go_enter Tryd.func23, Tryd.ntmps23
    go_wp2_with fail
    refine (HQ.out _ (BB _ _)).mono ?_
    rintro e w4 ⟨rfl, hB⟩
    have HB := Lib.hid ((BB _ _).trans (hB.mono (BB _ _).size))
    clear hB BB
    go_wp2
    go_ret2
    exact ⟨by first | (rw [e0.out]; done) | (rw [e0.out]; rfl), HB.out⟩
  · have hc' : (pl.any fun x => decide (x = nm)) = false := by cases hh : (pl.any fun x => decide (x = nm)); rfl; exact absurd hh hc
    rw [if_neg hc] at e0
    rw [hc'] at HQ
    clear hc hc'
    go_enter Tryd.func23, Tryd.ntmps23
    go_wp2_with fail
    refine (HQ.out _ (BB _ _)).mono ?_
    rintro e w4 ⟨rfl, hB⟩
    have HB := Lib.hid ((BB _ _).trans (hB.mono (BB _ _).size))
    clear hB BB
    go_wp2
    go_ret2
    exact ⟨by first | (rw [e0.out]; done) | (rw [e0.out]; rfl), HB.out⟩

set_option maxRecDepth 100000 in
set_option maxHeartbeats 4000000 in
theorem kind_answer (C : List Cl) (L : List Ne) (b1 b2 : Nat) (w0 : World) (o : Int) (nm : ByteArray) (vk vn : Int) (vs : ByteArray) (vl : List Int) (xs : Fo) (hp : PartOk ⟨2, o, nm, vk, vn, vs, vl⟩ xs) : KindC C L b1 b2 w0 ⟨2, o, nm, vk, vn, vs, vl⟩ xs := by
  intro v pv pl w hb hx hN hSC hSL hpl
  obtain ⟨sv, a, n, c, rfl, hL, rfl, hs⟩ := hx
  obtain ⟨p, m, q, rfl⟩ := hL.form
  clear hL
  have hnm := name_le (hp.name (by simp) (by simp))
  simp only at hnm
  have BB : Below w.heap.size w ((w.alloc (.cells #[.map (some b1), .map (some b2)] 44)).alloc (.cells #[.int .i64 2, .int .i64 o, .string nm, .int .i64 vk, .int .i64 vn, .string vs, .slice p m q, .slice a xs.len c] 27)) := ((Below.refl w.heap.size w).alloc (Nat.le_refl _) _).alloc (by simp) _
  rcases hSC.look nm (by omega) with ⟨hf, hrun⟩ | ⟨x, lvx, hf, hix, hrun⟩
  · have e0 : Hid (kindS C L ⟨2, o, nm, vk, vn, vs, vl⟩ xs pl = (0, 5)) := by
      have : kindS C L ⟨2, o, nm, vk, vn, vs, vl⟩ xs pl = (match findC C nm with | some c => if beginsS c.lp pl = true then (c.kind, 0) else (0, 5) | none => (0, 5)) := rfl
      unfold Hid; rw [this, hf]
    have r1 := hrun _ BB
    obtain ⟨pa, pc, rfl⟩ := hN.form
    clear hN hSC hSL hs hp hb hf hrun
    go_enter Tryd.func23, Tryd.ntmps23
    go_wp2_with fail
    go_ret2
    exact ⟨by first | (rw [e0.out]; done) | (rw [e0.out]; rfl), BB.alloc BB.size _⟩
  · have hix2 := hix.below hb
    have HQ := Lib.hid (fun W (hW : Below w.heap.size w W) => isAround_c W lvx pv x.lp pl (hix2.below hW) (hN.below hW))
    have e0 : Hid (kindS C L ⟨2, o, nm, vk, vn, vs, vl⟩ xs pl = if beginsS x.lp pl = true then (x.kind, 0) else (0, 5)) := by
      have : kindS C L ⟨2, o, nm, vk, vn, vs, vl⟩ xs pl = (match findC C nm with | some c => if beginsS c.lp pl = true then (c.kind, 0) else (0, 5) | none => (0, 5)) := rfl
      unfold Hid; rw [this, hf]
    obtain ⟨xa, xc, rfl⟩ := hix.form
    have r1 := hrun _ BB
    have BB3 := fun o3 => BB.alloc BB.size o3
    obtain ⟨pa, pc, rfl⟩ := hN.form
    obtain ⟨xnm, xk, xlp⟩ := x
    simp only at r1 e0 HQ ⊢
    clear hN hSC hSL hs hp hb hf hrun hix hix2
    obtain ⟨t, ht⟩ : ∃ t, t = beginsS xlp pl := ⟨_, rfl⟩
    rw [← ht] at e0 HQ
    clear ht
    cases t with
    | true =>
      go_enter Tryd.func23, Tryd.ntmps23
      go_wp2_with fail
      refine (HQ.out _ (BB3 _)).mono ?_
      rintro e w4 ⟨rfl, hB⟩
      have HB := Lib.hid ((BB3 _).trans (hB.mono (BB3 _).size))
      have d1 : w4.cell? ⟨w.heap.size + 2, 1, none⟩ = some (.int .i64 xk) := by
        rw [hB.cell (p := ⟨w.heap.size + 2, 1, none⟩) (by simp), World.cell?_alloc_at _ _ _ _ (by simp)]; rfl
      clear hB BB BB3 r1
      go_wp2
      go_ret2
      exact ⟨by rw [e0.out]; rfl, HB.out⟩
    | false =>
      go_enter Tryd.func23, Tryd.ntmps23
      go_wp2_with fail
      refine (HQ.out _ (BB3 _)).mono ?_
      rintro e w4 ⟨rfl, hB⟩
      have HB := Lib.hid ((BB3 _).trans (hB.mono (BB3 _).size))
      clear hB BB BB3 r1
      go_wp2
      go_ret2
      exact ⟨by rw [e0.out]; rfl, HB.out⟩

set_option maxRecDepth 100000 in
set_option maxHeartbeats 4000000 in
theorem kind_op (C : List Cl) (L : List Ne) (b1 b2 : Nat) (w0 : World) (o : Int) (nm : ByteArray) (vk vn : Int) (vs : ByteArray) (vl : List Int) (xs : Fo) (hp : PartOk ⟨4, o, nm, vk, vn, vs, vl⟩ xs) (hA : allS xs = 0) (hC : ∀ c ∈ C, 2 ≤ c.kind ∧ c.kind ≤ 7) (hlen : xs.len ≤ 1000) (ih : ∀ k h' a', xs.drop k = .cons h' a' (xs.drop (k + 1)) → KindC C L b1 b2 w0 h' a') : KindC C L b1 b2 w0 ⟨4, o, nm, vk, vn, vs, vl⟩ xs := by
  intro v pv pl w hb hx hN hSC hSL hpl
  obtain ⟨sv, a, n, c, rfl, hL, rfl, hs⟩ := hx
  obtain ⟨p, m, q, rfl⟩ := hL.form
  clear hL
  have h14 := hp.op rfl
  have hargs := hp.args rfl
  have hpos : 0 < xs.len := by
    have : 1 ≤ leastS o := by unfold leastS; repeat' split <;> omega
    have := hargs.1
    simp only at this
    omega
  obtain ⟨b, off, rfl, hbl, hF⟩ : ∃ b off, a = some ⟨b, off, none⟩ ∧ b < w.heap.size ∧ IsF w b xs off := by
    rcases hs with h | h
    · omega
    · exact h
  have HF : Hid (b < w.heap.size ∧ IsF w b xs off) := ⟨hbl, hF⟩
  clear hs hF
  have eK : Hid (kindS C L ⟨4, o, nm, vk, vn, vs, vl⟩ xs pl = if (kindsF C L xs pl).2 ≠ 0 then (0, (kindsF C L xs pl).2) else orType (kindR o (kindsF C L xs pl).1)) := rfl
  have HT : Hid (∀ ks, kindsF C L xs pl = (ks, 0) → kindS C L ⟨4, o, nm, vk, vn, vs, vl⟩ xs pl = if (resK o ks).2 = true then ((resK o ks).1, 0) else (0, 8)) := by
    intro ks he
    have hr := kinds_ok hC xs hA pl (by rw [he])
    rw [he] at hr
    have h8 := res_range o ks h14.1 h14.2 (by rw [hr.1]; exact hargs.1) hr.2
    rw [eK.out, he]
    simp only [ne_eq, not_true_eq_false, if_false]
    unfold orType kindR
    by_cases h2 : (resK o ks).2 = true
    · simp only [if_pos h2]
      rw [if_neg (by omega)]
    · simp only [if_neg h2]
      rfl
  have HR : Hid (∀ (ks : List Int), ks.length = xs.len → kindsF C L xs pl = (ks, 0) → ∀ (W : World) , IsL W (.slice (some ⟨w.heap.size + 1 + 1, 0, none⟩) xs.len xs.len) ks →
      Calls Tryd.prog 47 #[.agg #[.int .i64 4, .int .i64 o, .string nm, .int .i64 vk, .int .i64 vn, .string vs, .slice p m q, .slice (some ⟨b, off, none⟩) xs.len c], .slice (some ⟨w.heap.size + 1 + 1, 0, none⟩) xs.len xs.len] W fun e w' => e = .returned (.tuple #[.int .i64 (resK o ks).1, .bool (resK o ks).2]) ∧ Below W.heap.size W w') :=
    fun ks hl _ W hv => resultKind_c o nm vk vn vs p m q _ xs.len c _ ks W h14.1 h14.2 hv (by rw [hl]; exact hargs.1) (by rw [hl]; exact hargs.2) (by omega)
  have HK0 : Hid (kindsF C L xs pl = addK [] (kindsF C L (xs.drop 0) pl)) := (addK_nil _ (kindsF_fault xs pl)).symm
  have HPL := Lib.hid (fun W (hW : Below (((w.alloc (.cells #[.map (some b1), .map (some b2)] 44)).alloc (.cells #[.int .i64 4, .int .i64 o, .string nm, .int .i64 vk, .int .i64 vn, .string vs, .slice p m q, .slice (some ⟨b, off, none⟩) xs.len c] 27))).heap.size ((w.alloc (.cells #[.map (some b1), .map (some b2)] 44)).alloc (.cells #[.int .i64 4, .int .i64 o, .string nm, .int .i64 vk, .int .i64 vn, .string vs, .slice p m q, .slice (some ⟨b, off, none⟩) xs.len c] 27)) W) => hN.below ((((Below.refl w.heap.size w).alloc (Nat.le_refl _) _).alloc (by simp) _).trans (hW.mono (((Below.refl w.heap.size w).alloc (Nat.le_refl _) _).alloc (by simp) _).size)))
  have HSC := Lib.hid (fun W (hW : Below w.heap.size w W) => hSC.below hW hSC.lt)
  have HSL := Lib.hid (fun W (hW : Below w.heap.size w W) => hSL.below hW hSL.lt)
  have HPLL := Lib.hid hpl
  have HB0 := Lib.hid hb
  have IH := Lib.hid ih
  obtain ⟨E, hE⟩ : ∃ E : List Value, E = [.int .i64 4, .int .i64 o, .string nm, .int .i64 vk, .int .i64 vn, .string vs, .slice p m q, .slice (some ⟨b, off, none⟩) xs.len c] := ⟨_, rfl⟩
  have HW : Hid (BoxW w b1 b2 E ((w.alloc (.cells #[.map (some b1), .map (some b2)] 44)).alloc (.cells #[.int .i64 4, .int .i64 o, .string nm, .int .i64 vk, .int .i64 vn, .string vs, .slice p m q, .slice (some ⟨b, off, none⟩) xs.len c] 27))) := by rw [hE]; exact BoxW.start w b1 b2 _
  have HBW : Hid (w.heap.size + 2 ≤ (((w.alloc (.cells #[.map (some b1), .map (some b2)] 44)).alloc (.cells #[.int .i64 4, .int .i64 o, .string nm, .int .i64 vk, .int .i64 vn, .string vs, .slice p m q, .slice (some ⟨b, off, none⟩) xs.len c] 27))).heap.size) := HW.out.sz
  have HE := Lib.hid hE
  have hmk := run_make_row' (P := Tryd.prog) 22 3 (.int .i64 0) 8 Tryd.underlying22 infoI_t rfl .i64 .i64 xs.len (by omega) (by omega)
  have HWS : Hid ((((w.alloc (.cells #[.map (some b1), .map (some b2)] 44)).alloc (.cells #[.int .i64 4, .int .i64 o, .string nm, .int .i64 vk, .int .i64 vn, .string vs, .slice p m q, .slice (some ⟨b, off, none⟩) xs.len c] 27))).heap.size = w.heap.size + 2) := by unfold Hid; simp
  obtain ⟨pa, pc, rfl⟩ := hN.form
  clear hN hSC hSL hp hb ih hA hC h14 hargs hpl hE hbl
  go_enter Tryd.func23, Tryd.ntmps23
  go_wp2_with fail
  generalize ((w.alloc (.cells #[.map (some b1), .map (some b2)] 44)).alloc (.cells #[.int .i64 4, .int .i64 o, .string nm, .int .i64 vk, .int .i64 vn, .string vs, .slice p m q, .slice (some ⟨b, off, none⟩) xs.len c] 27)) = wB at HW HBW HPL HWS ⊢
  have S0 : Hid (KSt w wB b1 b2 E (w.heap.size + 1 + 1) xs.len [] (wB.alloc (.cells (madeCells #[.int .i64 0] xs.len) 3))) := by have := KSt.start xs.len HW.out; rw [HWS.out] at this; exact this
  clear hmk
  go_loopw [13, 14, 15, 16, 79] (fun _ _ _ _ i wr => ∃ (j : Nat) (ks : List Int), j ≤ xs.len ∧ ks.length = j ∧ i = .int .i64 j ∧ Hid (KSt w wB b1 b2 E (w.heap.size + 1 + 1) xs.len ks wr) ∧ Hid (kindsF C L xs pl = addK ks (kindsF C L (xs.drop j) pl))) (fun _ _ _ _ i _ => xs.len - (intOf i).toNat)
  case atStart => exact ⟨0, [], Nat.zero_le _, rfl, rfl, S0.out, HK0.out⟩
  case round =>
    obtain ⟨j, ks, hj, hkl, rfl, hK, hA⟩ := hrel
    clear S0 HK0
    have HKL := Lib.hid hkl; clear hkl
    by_cases hlt : j < xs.len
    · have hjj : (j : Int) < (xs.len : Int) := by omega
      obtain ⟨h', a', hd⟩ := Fo.drop_at j xs hlt
      obtain ⟨sp, sm, sq, p', n', c', g0, g1, g2, g3, g4, g5, g6, g7, hX⟩ := HF.out.2.cells hd
      have cc := fun (z : Nat) => hK.out.box.bel.cell (p := ⟨b, z, none⟩) HF.out.1
      have k0 := (cc _).trans g0
      have k1 := (cc _).trans g1
      have k2 := (cc _).trans g2
      have k3 := (cc _).trans g3
      have k4 := (cc _).trans g4
      have k5 := (cc _).trans g5
      have k6 := (cc _).trans g6
      have k7 := (cc _).trans g7
      have m0 := hK.out.box.s0
      have m1 := hK.out.box.s1
      have hz0 : w.heap.size < wr.heap.size := by have := hK.out.box.sz; omega
      have hz1 : w.heap.size + 1 < wr.heap.size := by have := hK.out.box.sz; omega
      have HX := Lib.hid hX
      have HD := Lib.hid hd
      have HB9 := Lib.hid (Below.refl wr.heap.size wr |>.alloc (Nat.le_refl _) (.cells #[.int .i64 h'.k, .int .i64 h'.o, .string h'.nm, .int .i64 h'.vk, .int .i64 h'.vn, .string h'.vs, .slice sp sm sq, .slice p' n' c'] 27))
      have HK1 := Lib.hid (hK.out.keep HB9.out)
      clear g0 g1 g2 g3 g4 g5 g6 g7 hX hd cc
      obtain ⟨Q, hQ⟩ : ∃ Q, Q = kindS C L h' a' pl := ⟨_, rfl⟩
      have hC1 := Lib.hid (IH.out j h' a' HD.out _ (.slice pa pl.length pc) pl _ (HB0.out.trans (HK1.out.box.bel.mono HB0.out.size)) (HX.out.below HK1.out.box.bel) (HPL.out _ HK1.out.bel) (HSC.out _ HK1.out.box.bel) (HSL.out _ HK1.out.box.bel) HPLL.out)
      rw [← hQ] at hC1
      have HQE := Lib.hid hQ
      clear hQ
      by_cases hQ0 : Q.2 = 0
      · have eQ2 : Hid (kindsF C L xs pl = addK (ks ++ [Q.1]) (kindsF C L (xs.drop (j + 1)) pl)) := by
          unfold Hid; rw [hA.out, addK_step pl HD.out (by rw [← HQE.out]; exact hQ0), ← HQE.out]
        have q1 : (Q.2 != 0) = false := by simpa using hQ0
        clear hA hQ0
        go_wp2_with fail
        refine hC1.out.mono ?_
        rintro e w4 ⟨rfl, hB⟩
        obtain ⟨z1, z2, z3⟩ := (HK1.out.keep hB).put HBW.out Q.1 (by rw [HKL.out]; exact hlt)
        have HZ3 := Lib.hid z3
        rw [HKL.out] at z1 z2 HZ3
        clear hB z3 hC1 HK1 HB9 hK k0 k1 k2 k3 k4 k5 k6 k7 m0 m1
        go_wp2
        go_roundw
        case rel => exact ⟨j + 1, ks ++ [Q.1], by omega, by simp [HKL.out], by go_num, HZ3.out, eQ2.out⟩
        case measure => simp [intOf]; omega
      · have eQ2 : Hid (kindsF C L xs pl = ([], Q.2)) := by
          unfold Hid; rw [hA.out, addK_stop pl HD.out (by rw [← HQE.out]; exact hQ0), ← HQE.out]
        have q1 : (Q.2 != 0) = true := by simpa using hQ0
        have eS : Hid (kindS C L ⟨4, o, nm, vk, vn, vs, vl⟩ xs pl = (0, Q.2)) := by
          unfold Hid
          rw [eK.out, eQ2.out]
          exact if_pos hQ0
        clear hA hQ0
        go_wp2_with fail
        refine hC1.out.mono ?_
        rintro e w4 ⟨rfl, hB⟩
        have HB := Lib.hid (HK1.out.keep hB).box.bel
        clear hB hC1 HK1 HB9 hK k0 k1 k2 k3 k4 k5 k6 k7 m0 m1
        go_wp2
        go_ret2
        exact ⟨by rw [eS.out]; rfl, HB.out⟩
    · obtain rfl : j = xs.len := by omega
      have eA : Hid (kindsF C L xs pl = (ks, 0)) := by unfold Hid; rw [hA.out, addK_end pl rfl]
      have ee := fun i hi => hK.out.box.e i hi
      have y0 := ee 0 (by omega)
      have y1 := ee 1 (by omega)
      have y2 := ee 2 (by omega)
      have y3 := ee 3 (by omega)
      have y4 := ee 4 (by omega)
      have y5 := ee 5 (by omega)
      have y6 := ee 6 (by omega)
      have y7 := ee 7 (by omega)
      rw [HE.out] at y0 y1 y2 y3 y4 y5 y6 y7
      simp only [List.getElem?_cons_zero, List.getElem?_cons_succ] at y0 y1 y2 y3 y4 y5 y6 y7
      have hR2 := Lib.hid (HR.out ks HKL.out eA.out wr (hK.out.row.isL HKL.out (by omega) (by omega) hK.out.hi))
      have HBL := Lib.hid hK.out.box.bel
      have HFin := Lib.hid (HT.out ks eA.out)
      clear ee hA eA hK
      obtain ⟨R, hRe⟩ : ∃ R, R = resK o ks := ⟨_, rfl⟩
      rw [← hRe] at hR2 HFin
      clear hRe
      obtain ⟨R1, R2⟩ := R
      simp only at hR2 HFin
      cases R2 with
      | true =>
        go_wp2_with fail
        refine hR2.out.mono ?_
        rintro e w4 ⟨rfl, hB⟩
        have HB := Lib.hid (HBL.out.trans (hB.mono HBL.out.size))
        clear hB y0 y1 y2 y3 y4 y5 y6 y7
        go_wp2
        go_ret2
        exact ⟨by rw [HFin.out]; rfl, HB.out⟩
      | false =>
        go_wp2_with fail
        refine hR2.out.mono ?_
        rintro e w4 ⟨rfl, hB⟩
        have HB := Lib.hid (HBL.out.trans (hB.mono HBL.out.size))
        clear hB y0 y1 y2 y3 y4 y5 y6 y7
        go_wp2
        go_ret2
        exact ⟨by rw [HFin.out]; rfl, HB.out⟩

set_option maxRecDepth 100000 in
set_option maxHeartbeats 4000000 in
theorem kind_over (C : List Cl) (L : List Ne) (b1 b2 : Nat) (w0 : World) (o : Int) (nm : ByteArray) (vk vn : Int) (vs : ByteArray) (vl : List Int) (xs : Fo) (hp : PartOk ⟨5, o, nm, vk, vn, vs, vl⟩ xs) (hA : allS xs = 0) (hC : ∀ c ∈ C, 2 ≤ c.kind ∧ c.kind ≤ 7) (hlen : xs.len ≤ 1000) (hLL : ∀ l ∈ L, l.lp.length ≤ 1048575) (ih : ∀ k h' a', xs.drop k = .cons h' a' (xs.drop (k + 1)) → KindC C L b1 b2 w0 h' a') : KindC C L b1 b2 w0 ⟨5, o, nm, vk, vn, vs, vl⟩ xs := by
  intro v pv pl w hb hx hN hSC hSL hpl
  obtain ⟨sv, a, n, c, rfl, hL, rfl, hs⟩ := hx
  obtain ⟨p, m, q, rfl⟩ := hL.form
  clear hL
  have h16 := hp.over rfl
  have hone := hp.one rfl
  have hpos : 0 < xs.len := by omega
  have HONE := Lib.hid hone
  clear hone
  obtain ⟨b, off, rfl, hbl, hF⟩ : ∃ b off, a = some ⟨b, off, none⟩ ∧ b < w.heap.size ∧ IsF w b xs off := by
    rcases hs with h | h
    · omega
    · exact h
  have HF : Hid (b < w.heap.size ∧ IsF w b xs off) := ⟨hbl, hF⟩
  clear hs hF
  have hnm := name_le (hp.name (by simp) (by simp))
  simp only at hnm
  have BB : Below w.heap.size w ((w.alloc (.cells #[.map (some b1), .map (some b2)] 44)).alloc (.cells #[.int .i64 5, .int .i64 o, .string nm, .int .i64 vk, .int .i64 vn, .string vs, .slice p m q, .slice (some ⟨b, off, none⟩) xs.len c] 27)) := ((Below.refl w.heap.size w).alloc (Nat.le_refl _) _).alloc (by simp) _
  rcases hSL.look nm (by omega) with ⟨hf, hrun⟩ | ⟨x, lvx, hf, hix, hrun⟩
  · have e0 : Hid (kindS C L ⟨5, o, nm, vk, vn, vs, vl⟩ xs pl = (0, 5)) := by
      have : kindS C L ⟨5, o, nm, vk, vn, vs, vl⟩ xs pl = (match findL L nm with | some l => if beginsS l.lp pl = true then (if (kindsF C L xs (l.lp ++ [l.nm])).2 ≠ 0 then (0, (kindsF C L xs (l.lp ++ [l.nm])).2) else orType (overR o ((kindsF C L xs (l.lp ++ [l.nm])).1.getD 0 0))) else (0, 5) | none => (0, 5)) := rfl
      unfold Hid; rw [this, hf]
    have r1 := hrun _ BB
    obtain ⟨pa, pc, rfl⟩ := hN.form
    clear hN hSC hSL hp hb hf hrun ih hA hC hLL
    go_enter Tryd.func23, Tryd.ntmps23
    go_wp2_with fail
    go_ret2
    exact ⟨by first | (rw [e0.out]; done) | (rw [e0.out]; rfl), BB.alloc BB.size _⟩
  · have hix2 := hix.below hb
    have HQ := Lib.hid (fun W (hW : Below w.heap.size w W) => isAround_c W lvx pv x.lp pl (hix2.below hW) (hN.below hW))
    have eF : kindS C L ⟨5, o, nm, vk, vn, vs, vl⟩ xs pl = if beginsS x.lp pl = true then (if (kindsF C L xs (x.lp ++ [x.nm])).2 ≠ 0 then (0, (kindsF C L xs (x.lp ++ [x.nm])).2) else orType (overR o ((kindsF C L xs (x.lp ++ [x.nm])).1.getD 0 0))) else (0, 5) := by
      have : kindS C L ⟨5, o, nm, vk, vn, vs, vl⟩ xs pl = (match findL L nm with | some l => if beginsS l.lp pl = true then (if (kindsF C L xs (l.lp ++ [l.nm])).2 ≠ 0 then (0, (kindsF C L xs (l.lp ++ [l.nm])).2) else orType (overR o ((kindsF C L xs (l.lp ++ [l.nm])).1.getD 0 0))) else (0, 5) | none => (0, 5)) := rfl
      rw [this, hf]
    have hxl := hLL x (findL_some hf).1
    have HWI := Lib.hid (fun W (hW : Below w.heap.size w W) => within_c W x lvx (hix2.below hW) (by omega))
    have HXL : Hid ((x.lp ++ [x.nm]).length ≤ 1048576) := by unfold Hid; simp; omega
    obtain ⟨xa, xc, rfl⟩ := hix.form
    have r1 := hrun _ BB
    have BB3 := fun o3 => BB.alloc BB.size o3
    have HSC := Lib.hid (fun W (hW : Below w.heap.size w W) => hSC.below hW hSC.lt)
    have HSL := Lib.hid (fun W (hW : Below w.heap.size w W) => hSL.below hW hSL.lt)
    have HB0 := Lib.hid hb
    have IH := Lib.hid ih
    obtain ⟨pa, pc, rfl⟩ := hN.form
    obtain ⟨xnm, xlp⟩ := x
    simp only at r1 eF HQ HWI HXL ⊢
    clear hN hSC hSL hp hb hf hrun hix hix2 ih hA hC hLL hxl
    obtain ⟨PLN, hPLN⟩ : ∃ PLN, PLN = xlp ++ [xnm] := ⟨_, rfl⟩
    rw [← hPLN] at eF HXL
    obtain ⟨t, ht⟩ : ∃ t, t = beginsS xlp pl := ⟨_, rfl⟩
    rw [← ht] at eF HQ
    clear ht
    cases t with
    | false =>
      have e0 : Hid (kindS C L ⟨5, o, nm, vk, vn, vs, vl⟩ xs pl = (0, 5)) := by unfold Hid; rw [eF]; rfl
      clear eF hPLN HWI
      go_enter Tryd.func23, Tryd.ntmps23
      go_wp2_with fail
      refine (HQ.out _ (BB3 _)).mono ?_
      rintro e w4 ⟨rfl, hB⟩
      have HB := Lib.hid ((BB3 _).trans (hB.mono (BB3 _).size))
      clear hB BB BB3 r1
      go_wp2
      go_ret2
      exact ⟨by rw [e0.out]; rfl, HB.out⟩
    | true =>
      have eK : Hid (kindS C L ⟨5, o, nm, vk, vn, vs, vl⟩ xs pl = if (kindsF C L xs PLN).2 ≠ 0 then (0, (kindsF C L xs PLN).2) else orType (overR o ((kindsF C L xs PLN).1.getD 0 0))) := by unfold Hid; rw [eF, if_pos rfl]
      have HPLE := Lib.hid hPLN
      clear eF hPLN
      have HT : Hid (∀ ks, kindsF C L xs PLN = (ks, 0) → kindS C L ⟨5, o, nm, vk, vn, vs, vl⟩ xs pl = if (overK o (ks.getD 0 0)).2 = true then ((overK o (ks.getD 0 0)).1, 0) else (0, 8)) := by
        intro ks he
        rw [eK.out, he]
        simp only [ne_eq, not_true_eq_false, if_false]
        unfold orType overR
        by_cases h2 : (overK o (ks.getD 0 0)).2 = true
        · have h8 := over_range o (ks.getD 0 0) h16.1 h16.2 h2
          simp only [if_pos h2]
          rw [if_neg (by omega)]
        · simp only [if_neg h2]
          rfl
      have HRA : Hid (∀ (v : Value) (ks : List Int), ks.length = xs.len → ∀ (W : World), IsL W v ks →
          Calls Tryd.prog 47 #[.agg #[.int .i64 5, .int .i64 o, .string nm, .int .i64 vk, .int .i64 vn, .string vs, .slice p m q, .slice (some ⟨b, off, none⟩) xs.len c], v] W fun e w' => e = .returned (.tuple #[.int .i64 (overK o (ks.getD 0 0)).1, .bool (overK o (ks.getD 0 0)).2]) ∧ Below W.heap.size W w') := by
        intro v ks hl W hv
        obtain ⟨x, rfl⟩ := list_1 (ks := ks) (by rw [hl, HONE.out]; rfl)
        exact resK_over o x nm vk vn vs p m q _ xs.len c _ W hv
      have HK0 : Hid (kindsF C L xs PLN = addK [] (kindsF C L (xs.drop 0) PLN)) := (addK_nil _ (kindsF_fault xs PLN)).symm
      obtain ⟨E, hE⟩ : ∃ E : List Value, E = [.int .i64 5, .int .i64 o, .string nm, .int .i64 vk, .int .i64 vn, .string vs, .slice p m q, .slice (some ⟨b, off, none⟩) xs.len c] := ⟨_, rfl⟩
      have HW : Hid (BoxW w b1 b2 E ((w.alloc (.cells #[.map (some b1), .map (some b2)] 44)).alloc (.cells #[.int .i64 5, .int .i64 o, .string nm, .int .i64 vk, .int .i64 vn, .string vs, .slice p m q, .slice (some ⟨b, off, none⟩) xs.len c] 27))) := by rw [hE]; exact BoxW.start w b1 b2 _
      have HE := Lib.hid hE
      have hmk := run_make_row' (P := Tryd.prog) 22 3 (.int .i64 0) 8 Tryd.underlying22 infoI_t rfl .i64 .i64 xs.len (by omega) (by omega)
      clear hE hbl h16 hnm hpl
      go_enter Tryd.func23, Tryd.ntmps23
      go_wp2_with fail
      refine (HQ.out _ (BB3 _)).mono ?_
      rintro e w4 ⟨rfl, hB⟩
      have dd : ∀ i, i < 2 → w4.cell? ⟨w.heap.size + 2, i, none⟩ = (#[.string xnm, .slice xa xlp.length xc] : Array Value)[i]? := fun i hi => by
        rw [hB.cell (p := ⟨w.heap.size + 2, i, none⟩) (by simp), World.cell?_alloc_at _ _ _ _ (by simp)]
      have d0 := dd 0 (by omega)
      have d1 := dd 1 (by omega)
      simp only [List.getElem?_toArray, List.getElem?_cons_zero, List.getElem?_cons_succ] at d0 d1
      have yy : ∀ i, i < 8 → w4.cell? ⟨w.heap.size + 1, i, none⟩ = E[i]? := fun i hi => by
        rw [hB.cell (p := ⟨w.heap.size + 1, i, none⟩) (by simp), World.cell?_alloc_past _ _ _ (by simp)]
        exact HW.out.e i hi
      have HB4 := Lib.hid ((BB3 _).trans (hB.mono (BB3 _).size))
      have HW4 := Lib.hid ((HW.out.keep ((Below.refl _ _).alloc (Nat.le_refl _) (.cells #[.string xnm, .slice xa xlp.length xc] 60))).keep hB)
      clear dd yy hB BB BB3 r1
      go_wp2_with fail
      refine (HWI.out _ HB4.out).mono ?_
      rintro e wB ⟨vv, rfl, hNN, hB⟩
      have HNN := Lib.hid hNN
      have HW := Lib.hid (HW4.out.keep hB)
      clear hNN
      rw [← HPLE.out] at HNN
      have yy := fun i hi => HW.out.e i hi
      have y4 := yy 7 (by omega)
      rw [HE.out] at y4
      simp only [List.getElem?_cons_zero, List.getElem?_cons_succ] at y4
      have hzB : w.heap.size + 1 < wB.heap.size := by have := HW.out.sz; omega
      clear yy hB d0 d1 HB4 HW4
      have HPL := Lib.hid (fun W (hW : Below wB.heap.size wB W) => HNN.out.below hW)
      have HBW : Hid (w.heap.size + 2 ≤ wB.heap.size) := HW.out.sz
      have HPLL := Lib.hid HXL.out
      have S0 : Hid (KSt w wB b1 b2 E wB.heap.size xs.len [] (wB.alloc (.cells (madeCells #[.int .i64 0] xs.len) 3))) := KSt.start xs.len HW.out
      have HR : Hid (∀ (ks : List Int), ks.length = xs.len → kindsF C L xs PLN = (ks, 0) → ∀ (W : World) , IsL W (.slice (some ⟨wB.heap.size, 0, none⟩) xs.len xs.len) ks →
          Calls Tryd.prog 47 #[.agg #[.int .i64 5, .int .i64 o, .string nm, .int .i64 vk, .int .i64 vn, .string vs, .slice p m q, .slice (some ⟨b, off, none⟩) xs.len c], .slice (some ⟨wB.heap.size, 0, none⟩) xs.len xs.len] W fun e w' => e = .returned (.tuple #[.int .i64 (overK o (ks.getD 0 0)).1, .bool (overK o (ks.getD 0 0)).2]) ∧ Below W.heap.size W w') := fun ks hl _ W hv => HRA.out _ ks hl W hv
      go_wp2_with fail
      clear hmk
      go_loopw [13, 14, 15, 16, 79] (fun _ _ _ _ i wr => ∃ (j : Nat) (ks : List Int), j ≤ xs.len ∧ ks.length = j ∧ i = .int .i64 j ∧ Hid (KSt w wB b1 b2 E wB.heap.size xs.len ks wr) ∧ Hid (kindsF C L xs PLN = addK ks (kindsF C L (xs.drop j) PLN))) (fun _ _ _ _ i _ => xs.len - (intOf i).toNat)
      case atStart => exact ⟨0, [], Nat.zero_le _, rfl, rfl, S0.out, HK0.out⟩
      case round =>
        obtain ⟨j, ks, hj, hkl, rfl, hK, hA⟩ := hrel
        clear S0 HK0
        have HKL := Lib.hid hkl; clear hkl
        by_cases hlt : j < xs.len
        · have hjj : (j : Int) < (xs.len : Int) := by omega
          obtain ⟨h', a', hd⟩ := Fo.drop_at j xs hlt
          obtain ⟨sp, sm, sq, p', n', c', g0, g1, g2, g3, g4, g5, g6, g7, hX⟩ := HF.out.2.cells hd
          have cc := fun (z : Nat) => hK.out.box.bel.cell (p := ⟨b, z, none⟩) HF.out.1
          have k0 := (cc _).trans g0
          have k1 := (cc _).trans g1
          have k2 := (cc _).trans g2
          have k3 := (cc _).trans g3
          have k4 := (cc _).trans g4
          have k5 := (cc _).trans g5
          have k6 := (cc _).trans g6
          have k7 := (cc _).trans g7
          have m0 := hK.out.box.s0
          have m1 := hK.out.box.s1
          have hz0 : w.heap.size < wr.heap.size := by have := hK.out.box.sz; omega
          have hz1 : w.heap.size + 1 < wr.heap.size := by have := hK.out.box.sz; omega
          have HX := Lib.hid hX
          have HD := Lib.hid hd
          have HB9 := Lib.hid (Below.refl wr.heap.size wr |>.alloc (Nat.le_refl _) (.cells #[.int .i64 h'.k, .int .i64 h'.o, .string h'.nm, .int .i64 h'.vk, .int .i64 h'.vn, .string h'.vs, .slice sp sm sq, .slice p' n' c'] 27))
          have HK1 := Lib.hid (hK.out.keep HB9.out)
          clear g0 g1 g2 g3 g4 g5 g6 g7 hX hd cc
          obtain ⟨Q, hQ⟩ : ∃ Q, Q = kindS C L h' a' PLN := ⟨_, rfl⟩
          have hC1 := Lib.hid (IH.out j h' a' HD.out _ vv PLN _ (HB0.out.trans (HK1.out.box.bel.mono HB0.out.size)) (HX.out.below HK1.out.box.bel) (HPL.out _ HK1.out.bel) (HSC.out _ HK1.out.box.bel) (HSL.out _ HK1.out.box.bel) HPLL.out)
          rw [← hQ] at hC1
          have HQE := Lib.hid hQ
          clear hQ
          by_cases hQ0 : Q.2 = 0
          · have eQ2 : Hid (kindsF C L xs PLN = addK (ks ++ [Q.1]) (kindsF C L (xs.drop (j + 1)) PLN)) := by
              unfold Hid; rw [hA.out, addK_step PLN HD.out (by rw [← HQE.out]; exact hQ0), ← HQE.out]
            have q1 : (Q.2 != 0) = false := by simpa using hQ0
            clear hA hQ0
            go_wp2_with fail
            refine hC1.out.mono ?_
            rintro e w4 ⟨rfl, hB⟩
            obtain ⟨z1, z2, z3⟩ := (HK1.out.keep hB).put HBW.out Q.1 (by rw [HKL.out]; exact hlt)
            have HZ3 := Lib.hid z3
            rw [HKL.out] at z1 z2 HZ3
            clear hB z3 hC1 HK1 HB9 hK k0 k1 k2 k3 k4 k5 k6 k7 m0 m1
            go_wp2
            go_roundw
            case rel => exact ⟨j + 1, ks ++ [Q.1], by omega, by simp [HKL.out], by go_num, HZ3.out, eQ2.out⟩
            case measure => simp [intOf]; omega
          · have eQ2 : Hid (kindsF C L xs PLN = ([], Q.2)) := by
              unfold Hid; rw [hA.out, addK_stop PLN HD.out (by rw [← HQE.out]; exact hQ0), ← HQE.out]
            have q1 : (Q.2 != 0) = true := by simpa using hQ0
            have eS : Hid (kindS C L ⟨5, o, nm, vk, vn, vs, vl⟩ xs pl = (0, Q.2)) := by
              unfold Hid
              rw [eK.out, eQ2.out]
              exact if_pos hQ0
            clear hA hQ0
            go_wp2_with fail
            refine hC1.out.mono ?_
            rintro e w4 ⟨rfl, hB⟩
            have HB := Lib.hid (HK1.out.keep hB).box.bel
            clear hB hC1 HK1 HB9 hK k0 k1 k2 k3 k4 k5 k6 k7 m0 m1
            go_wp2
            go_ret2
            exact ⟨by rw [eS.out]; rfl, HB.out⟩
        · obtain rfl : j = xs.len := by omega
          have eA : Hid (kindsF C L xs PLN = (ks, 0)) := by unfold Hid; rw [hA.out, addK_end PLN rfl]
          have ee := fun i hi => hK.out.box.e i hi
          have y0 := ee 0 (by omega)
          have y1 := ee 1 (by omega)
          have y2 := ee 2 (by omega)
          have y3 := ee 3 (by omega)
          have y4 := ee 4 (by omega)
          have y5 := ee 5 (by omega)
          have y6 := ee 6 (by omega)
          have y7 := ee 7 (by omega)
          rw [HE.out] at y0 y1 y2 y3 y4 y5 y6 y7
          simp only [List.getElem?_cons_zero, List.getElem?_cons_succ] at y0 y1 y2 y3 y4 y5 y6 y7
          have hR2 := Lib.hid (HR.out ks HKL.out eA.out wr (hK.out.row.isL HKL.out (by omega) (by omega) hK.out.hi))
          have HBL := Lib.hid hK.out.box.bel
          have HFin := Lib.hid (HT.out ks eA.out)
          clear ee hA eA hK
          obtain ⟨R, hRe⟩ : ∃ R, R = overK o (ks.getD 0 0) := ⟨_, rfl⟩
          rw [← hRe] at hR2 HFin
          clear hRe
          obtain ⟨R1, R2⟩ := R
          simp only at hR2 HFin
          cases R2 with
          | true =>
            go_wp2_with fail
            refine hR2.out.mono ?_
            rintro e w4 ⟨rfl, hB⟩
            have HB := Lib.hid (HBL.out.trans (hB.mono HBL.out.size))
            clear hB y0 y1 y2 y3 y4 y5 y6 y7
            go_wp2
            go_ret2
            exact ⟨by rw [HFin.out]; rfl, HB.out⟩
          | false =>
            go_wp2_with fail
            refine hR2.out.mono ?_
            rintro e w4 ⟨rfl, hB⟩
            have HB := Lib.hid (HBL.out.trans (hB.mono HBL.out.size))
            clear hB y0 y1 y2 y3 y4 y5 y6 y7
            go_wp2
            go_ret2
            exact ⟨by rw [HFin.out]; rfl, HB.out⟩
end Go.Proofs.YtngijlmokhkdjaaDoor
