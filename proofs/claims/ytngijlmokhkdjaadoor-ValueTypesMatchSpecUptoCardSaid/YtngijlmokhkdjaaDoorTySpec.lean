/-
  Cells, loops and places, and what both TypeOf say, as plain functions; how lists of texts, cells and loops lie in memory, and that they stay there.
-/
import Derived.Test.YtngijlmokhkdjaaDoorTyMath
import Derived.Test.YtngijlmokhkdjaaDoorExMath
namespace Go.Proofs.YtngijlmokhkdjaaDoor
open Go.RowKit

/-- A cell: its name, its kind, and the loops around it. -/
structure Cl where
  nm : ByteArray
  kind : Int
  lp : List ByteArray
/-- A loop: its name, and the loops around it. -/
structure Ne where
  nm : ByteArray
  lp : List ByteArray
abbrev noText : ByteArray := ByteArray.empty
/-- Whether loops are a place: none, or those of a loop with its name behind. -/
def placeS (L : List Ne) (pl : List ByteArray) : Bool :=
  decide (pl = []) || L.any fun l => decide (l.nm = pl.getD (pl.length - 1) noText ∧ l.lp = pl.take (pl.length - 1))
/-- Whether loops are a beginning of a place. -/
def beginsS (a b : List ByteArray) : Bool := decide (a.length ≤ b.length ∧ b.take a.length = a)
def findC (C : List Cl) (nm : ByteArray) : Option Cl := C.find? fun c => decide (c.nm = nm)
def findL (L : List Ne) (nm : ByteArray) : Option Ne := L.find? fun l => decide (l.nm = nm)
/-- What is said of cells, one after the other, behind those that were seen. -/
def cellsS : List Cl → List Cl → Int
  | _, [] => 0
  | seen, c :: r => if nameS c.nm = false then 5 else if (findC seen c.nm).isSome = true then 6 else if c.kind < 2 ∨ 7 < c.kind then 4 else cellsS (seen ++ [c]) r
/-- What is said of loops. -/
def loopsS : List Ne → List Ne → Int
  | _, [] => 0
  | seen, l :: r => if nameS l.nm = false then 5 else if (findL seen l.nm).isSome = true then 6 else if placeS seen l.lp = false then 7 else loopsS (seen ++ [l]) r
/-- What is said of the places of cells. -/
def atS (L : List Ne) : List Cl → Int
  | [] => 0
  | c :: r => if placeS L c.lp = false then 9 else atS L r
def sightS (C : List Cl) (L : List Ne) : Int := if cellsS [] C ≠ 0 then cellsS [] C else if loopsS [] L ≠ 0 then loopsS [] L else atS L C

/-- The kind of an aggregate, and whether its argument fits. -/
def overK (o k : Int) : Int × Bool := if o = 1 then (2, k == 2) else if o = 2 then (2, k == 7) else if o = 3 ∨ o = 4 then (7, k == 7) else (k, k == 2 || k == 6)
/-- The kind of an aggregate; 0: it has none. -/
def overR (o k : Int) : Int := if (overK o k).2 = true then (overK o k).1 else 0
def orType (k : Int) : Int × Int := if k = 0 then (0, 8) else (k, 0)
/-- The kind of a part, and what is said of it, once the kinds of its arguments are known for each place. -/
def partK (C : List Cl) (L : List Ne) (h : Hd) (pl : List ByteArray) (sub : List ByteArray → List Int × Int) : Int × Int :=
  if h.k = 1 then (h.vk, 0)
  else if h.k = 2 then (match findC C h.nm with
    | some c => if beginsS c.lp pl = true then (c.kind, 0) else (0, 5)
    | none => (0, 5))
  else if h.k = 3 then (if (pl.any fun x => decide (x = h.nm)) = true then (2, 0) else (0, 5))
  else if h.k = 5 then (match findL L h.nm with
    | some l => if beginsS l.lp pl = true then (if (sub (l.lp ++ [l.nm])).2 ≠ 0 then (0, (sub (l.lp ++ [l.nm])).2) else orType (overR h.o ((sub (l.lp ++ [l.nm])).1.getD 0 0))) else (0, 5)
    | none => (0, 5))
  else if (sub pl).2 ≠ 0 then (0, (sub pl).2) else orType (kindR h.o (sub pl).1)
/-- The kinds of a row of expressions at a place, and what is said of them. -/
def kindsF (C : List Cl) (L : List Ne) : Fo → List ByteArray → List Int × Int
  | .nil, _ => ([], 0)
  | .cons h a r, pl =>
    if (partK C L h pl (kindsF C L a)).2 ≠ 0 then ([], (partK C L h pl (kindsF C L a)).2)
    else if (kindsF C L r pl).2 ≠ 0 then ([], (kindsF C L r pl).2) else ((partK C L h pl (kindsF C L a)).1 :: (kindsF C L r pl).1, 0)
def kindS (C : List Cl) (L : List Ne) (h : Hd) (a : Fo) (pl : List ByteArray) : Int × Int := partK C L h pl (kindsF C L a)
/-- What TypeOf gives. -/
noncomputable def typeS (C : List Cl) (L : List Ne) (h : Hd) (a : Fo) (pl : List ByteArray) : Int × Int :=
  if exprS h a ≠ 0 then (0, exprS h a) else if sightS C L ≠ 0 then (0, sightS C L) else if placeS L pl = false then (0, 9) else kindS C L h a pl

/-- A slice that reads as a list of texts. -/
def IsN (w : World) (v : Value) (l : List ByteArray) : Prop :=
  (∃ a c, v = .slice a 0 c ∧ l = []) ∨ ∃ b off cap, v = .slice (some ⟨b, off, none⟩) l.length cap ∧ 0 < l.length ∧ (l.length ≤ cap ∧ cap ≤ 9223372036854775807) ∧ b < w.heap.size ∧ ∀ j, j < l.length → w.cell? ⟨b, off + j, none⟩ = some (.string (l.getD j noText))
theorem IsN.below {w w' : World} {v : Value} {l : List ByteArray} (h : IsN w v l) (hb : Below w.heap.size w w') : IsN w' v l := by
  rcases h with h | ⟨b, off, cap, h1, h2, h3, h4, h5⟩
  · exact .inl h
  · exact .inr ⟨b, off, cap, h1, h2, h3, Nat.lt_of_lt_of_le h4 hb.size, fun j hj => by rw [hb.cell (p := ⟨b, off + j, none⟩) h4]; exact h5 j hj⟩
theorem IsN.form {w : World} {v : Value} {l : List ByteArray} (h : IsN w v l) : ∃ a c, v = .slice a l.length c := by
  rcases h with ⟨a, c, rfl, rfl⟩ | ⟨b, off, cap, rfl, _⟩
  · exact ⟨a, c, rfl⟩
  · exact ⟨_, cap, rfl⟩
/-- The cells of block b from an offset on read as a row of cells. -/
def IsCs (w : World) (b : Nat) : List Cl → Nat → Prop
  | [], _ => True
  | c :: r, off => (∃ lv, w.cell? ⟨b, off, none⟩ = some (.string c.nm) ∧ w.cell? ⟨b, off + 1, none⟩ = some (.int .i64 c.kind) ∧ w.cell? ⟨b, off + 2, none⟩ = some lv ∧ IsN w lv c.lp) ∧ IsCs w b r (off + 3)
/-- The cells of block b from an offset on read as a row of loops. -/
def IsNs (w : World) (b : Nat) : List Ne → Nat → Prop
  | [], _ => True
  | c :: r, off => (∃ lv, w.cell? ⟨b, off, none⟩ = some (.string c.nm) ∧ w.cell? ⟨b, off + 1, none⟩ = some lv ∧ IsN w lv c.lp) ∧ IsNs w b r (off + 2)
/-- A slice that reads as a list of cells. -/
def IsC (w : World) (v : Value) (l : List Cl) : Prop :=
  ∃ a c, v = .slice a l.length c ∧ (l.length = 0 ∨ ∃ b off, a = some ⟨b, off, none⟩ ∧ b < w.heap.size ∧ (l.length ≤ c ∧ c ≤ 9223372036854775807) ∧ IsCs w b l off)
/-- A slice that reads as a list of loops. -/
def IsM (w : World) (v : Value) (l : List Ne) : Prop :=
  ∃ a c, v = .slice a l.length c ∧ (l.length = 0 ∨ ∃ b off, a = some ⟨b, off, none⟩ ∧ b < w.heap.size ∧ (l.length ≤ c ∧ c ≤ 9223372036854775807) ∧ IsNs w b l off)
theorem IsCs.below {w w' : World} (hb : Below w.heap.size w w') {b : Nat} (hl : b < w.heap.size) : ∀ {l : List Cl} {off : Nat}, IsCs w b l off → IsCs w' b l off
  | [], _, _ => trivial
  | c :: r, off, h => by
    simp only [IsCs] at h ⊢
    obtain ⟨⟨lv, h0, h1, h2, h3⟩, hr⟩ := h
    have cc := fun (o : Nat) => hb.cell (p := ⟨b, o, none⟩) hl
    exact ⟨⟨lv, by rw [cc]; exact h0, by rw [cc]; exact h1, by rw [cc]; exact h2, h3.below hb⟩, IsCs.below hb hl hr⟩
theorem IsNs.below {w w' : World} (hb : Below w.heap.size w w') {b : Nat} (hl : b < w.heap.size) : ∀ {l : List Ne} {off : Nat}, IsNs w b l off → IsNs w' b l off
  | [], _, _ => trivial
  | c :: r, off, h => by
    simp only [IsNs] at h ⊢
    obtain ⟨⟨lv, h0, h1, h3⟩, hr⟩ := h
    have cc := fun (o : Nat) => hb.cell (p := ⟨b, o, none⟩) hl
    exact ⟨⟨lv, by rw [cc]; exact h0, by rw [cc]; exact h1, h3.below hb⟩, IsNs.below hb hl hr⟩
theorem IsC.below {w w' : World} {v : Value} {l : List Cl} (h : IsC w v l) (hb : Below w.heap.size w w') : IsC w' v l := by
  obtain ⟨a, c, hv, h⟩ := h
  refine ⟨a, c, hv, ?_⟩
  rcases h with h | ⟨b, off, ha, hl, hn, hs⟩
  · exact .inl h
  · exact .inr ⟨b, off, ha, Nat.lt_of_lt_of_le hl hb.size, hn, hs.below hb hl⟩
theorem IsM.below {w w' : World} {v : Value} {l : List Ne} (h : IsM w v l) (hb : Below w.heap.size w w') : IsM w' v l := by
  obtain ⟨a, c, hv, h⟩ := h
  refine ⟨a, c, hv, ?_⟩
  rcases h with h | ⟨b, off, ha, hl, hn, hs⟩
  · exact .inl h
  · exact .inr ⟨b, off, ha, Nat.lt_of_lt_of_le hl hb.size, hn, hs.below hb hl⟩
/-- The k-th cell of a row. -/
theorem IsCs.at {w : World} {b : Nat} : ∀ {l : List Cl} {off k : Nat} {c : Cl}, IsCs w b l off → l[k]? = some c →
    ∃ lv, w.cell? ⟨b, off + k * 3, none⟩ = some (.string c.nm) ∧ w.cell? ⟨b, off + k * 3 + 1, none⟩ = some (.int .i64 c.kind) ∧ w.cell? ⟨b, off + k * 3 + 2, none⟩ = some lv ∧ IsN w lv c.lp
  | [], _, _, _, _, h => by simp at h
  | x :: r, off, 0, c, h, hk => by
    simp only [List.getElem?_cons_zero, Option.some.injEq] at hk
    subst hk
    simp only [IsCs] at h
    simpa using h.1
  | x :: r, off, k + 1, c, h, hk => by
    simp only [IsCs] at h
    have := IsCs.at (k := k) h.2 (by simpa using hk)
    rw [show off + (k + 1) * 3 = off + 3 + k * 3 by omega]
    exact this
/-- The k-th loop of a row. -/
theorem IsNs.at {w : World} {b : Nat} : ∀ {l : List Ne} {off k : Nat} {c : Ne}, IsNs w b l off → l[k]? = some c →
    ∃ lv, w.cell? ⟨b, off + k * 2, none⟩ = some (.string c.nm) ∧ w.cell? ⟨b, off + k * 2 + 1, none⟩ = some lv ∧ IsN w lv c.lp
  | [], _, _, _, _, h => by simp at h
  | x :: r, off, 0, c, h, hk => by
    simp only [List.getElem?_cons_zero, Option.some.injEq] at hk
    subst hk
    simp only [IsNs] at h
    simpa using h.1
  | x :: r, off, k + 1, c, h, hk => by
    simp only [IsNs] at h
    have := IsNs.at (k := k) h.2 (by simpa using hk)
    rw [show off + (k + 1) * 2 = off + 2 + k * 2 by omega]
    exact this

/-! ### Names that are there once -/
theorem findC_append (seen : List Cl) (c : Cl) (nm : ByteArray) : findC (seen ++ [c]) nm = (findC seen nm).or (if c.nm = nm then some c else none) := by
  unfold findC
  rw [List.find?_append]
  congr 1
  by_cases h : c.nm = nm <;> simp [h]
theorem findL_append (seen : List Ne) (c : Ne) (nm : ByteArray) : findL (seen ++ [c]) nm = (findL seen nm).or (if c.nm = nm then some c else none) := by
  unfold findL
  rw [List.find?_append]
  congr 1
  by_cases h : c.nm = nm <;> simp [h]
/-- No name is there twice. -/
def OnceL (L : List Ne) : Prop := ∀ (i j : Nat) (x y : Ne), L[i]? = some x → L[j]? = some y → x.nm = y.nm → i = j
def OnceC (C : List Cl) : Prop := ∀ (i j : Nat) (x y : Cl), C[i]? = some x → C[j]? = some y → x.nm = y.nm → i = j
theorem findL_none {L : List Ne} {nm : ByteArray} : findL L nm = none ↔ ∀ l ∈ L, l.nm ≠ nm := by
  unfold findL; rw [List.find?_eq_none]; simp
theorem findC_none {L : List Cl} {nm : ByteArray} : findC L nm = none ↔ ∀ l ∈ L, l.nm ≠ nm := by
  unfold findC; rw [List.find?_eq_none]; simp
theorem findL_some {L : List Ne} {nm : ByteArray} {l : Ne} (h : findL L nm = some l) : l ∈ L ∧ l.nm = nm :=
  ⟨List.mem_of_find?_eq_some h, by simpa using List.find?_some h⟩
theorem findC_some {L : List Cl} {nm : ByteArray} {l : Cl} (h : findC L nm = some l) : l ∈ L ∧ l.nm = nm :=
  ⟨List.mem_of_find?_eq_some h, by simpa using List.find?_some h⟩
/-- Where names are there once, a loop is found by its name. -/
theorem placeS_find {L : List Ne} (h1 : OnceL L) (pl : List ByteArray) : placeS L pl = (decide (pl = []) || match findL L (pl.getD (pl.length - 1) noText) with
    | some l => decide (l.lp = pl.take (pl.length - 1))
    | none => false) := by
  unfold placeS
  congr 1
  generalize pl.getD (pl.length - 1) noText = q
  generalize pl.take (pl.length - 1) = t
  cases hf : findL L (q) with
  | none =>
    rw [List.any_eq_false]
    intro l hl
    have := findL_none.1 hf l hl
    simp [this]
  | some l =>
    obtain ⟨hm, hn⟩ := findL_some hf
    simp only
    by_cases he : l.lp = t
    · rw [decide_eq_true he, List.any_eq_true]
      exact ⟨l, hm, by simp [he, hn]⟩
    · rw [decide_eq_false he, List.any_eq_false]
      intro x hx
      by_cases hxn : x.nm = q
      · obtain ⟨i, hi, hie⟩ := List.getElem_of_mem hm
        obtain ⟨j, hj, hje⟩ := List.getElem_of_mem hx
        have hij := h1 i j l x (by rw [List.getElem?_eq_getElem hi, hie]) (by rw [List.getElem?_eq_getElem hj, hje]) (hn.trans hxn.symm)
        subst hij
        have : l = x := hie.symm.trans hje
        subst this
        simp [he]
      · simp [hxn]
end Go.Proofs.YtngijlmokhkdjaaDoor
