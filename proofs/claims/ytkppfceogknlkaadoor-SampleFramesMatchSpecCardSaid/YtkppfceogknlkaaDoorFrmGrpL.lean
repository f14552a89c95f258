/-
  groupBy of package sample: what its second loop keeps.
-/
import Derived.Test.YtkppfceogknlkaaDoorFrmKeys
import Derived.Maps.AppendAt
namespace Go.Proofs.YtkppfceogknlkaaDoor
open Go.RowKit Go.WideMaps Go.Maps

theorem infoI : (Tryd.prog.info? 3).map (fun i => (i.zero, i.size, i.bytes)) = some (some (.int .i64 0), 1, 8) := by kernel_rfl
theorem zeroInts (w : World) : (zeroValue 34).run Tryd.prog w = .ok (.slice none 0 0) w := by kernel_rfl
theorem lawS : Keyed Tryd.prog 9 := string_keyed Tryd.underlying9
theorem lawI : Keyed Tryd.prog 3 := int_keyed Tryd.underlying3
/-- The cells of j groups. -/
def gcells (E : Nat → Value) (V : Nat → Value) : Nat → List Value
  | 0 => []
  | j + 1 => gcells E V j ++ [E j, V j]
theorem gcells_len (E V : Nat → Value) : ∀ j, (gcells E V j).length = j * 2
  | 0 => rfl
  | j + 1 => by show (gcells E V j ++ [E j, V j]).length = _; rw [List.length_append, gcells_len E V j]; simp; omega
theorem gcells_at (E V : Nat → Value) : ∀ {j i}, i < j → (gcells E V j)[i * 2]? = some (E i) ∧ (gcells E V j)[i * 2 + 1]? = some (V i)
  | 0, i, h => by omega
  | j + 1, i, h => by
    show (gcells E V j ++ [E j, V j])[i * 2]? = _ ∧ (gcells E V j ++ [E j, V j])[i * 2 + 1]? = _
    have hl := gcells_len E V j
    by_cases e : i = j
    · subst e
      constructor
      · rw [List.getElem?_append_right (by omega), hl]; simp
      · rw [List.getElem?_append_right (by omega), hl]; simp
    · have t := gcells_at E V (j := j) (i := i) (by omega)
      constructor
      · rw [List.getElem?_append_left (by omega)]; exact t.1
      · rw [List.getElem?_append_left (by omega)]; exact t.2
theorem gcells_congr {E V V' : Nat → Value} : ∀ {j}, (∀ i, i < j → V i = V' i) → gcells E V j = gcells E V' j
  | 0, _ => rfl
  | j + 1, h => by
    show gcells E V j ++ [E j, V j] = gcells E V' j ++ [E j, V' j]
    rw [gcells_congr (j := j) fun i hi => h i (by omega), h j (by omega)]
/-- What the second loop keeps: B is the map's block, L the heap's size behind the first loop, gK the block of the sorted keys, tK and tG the keys' type and the group's. -/
structure R2 (tK tG : TypeId) (w : World) (L n : Nat) (D : DataW Unit) (m gK : Nat) (E : Nat → Value) (P : Nat → List Int) (V : Nat → Value) (j : Nat) (out : Value) (W : World) : Prop where
  grp : W.ownsGroups Tryd.prog tK (w.heap.size + 1) 3 .i64 w.heap.size n D
  shun : W.Shuns w.heap.size (fun g => L ≤ g)
  row : W.ownsRow L tG 2 out j (gcells E V j)
  vals : ∀ i, i < j → W.ownsInts (w.heap.size + 1) 3 .i64 (V i) (P i) ∧ ∀ g, (V i).ownBlock = some g → g < L
  keys : 0 < m → gK < W.heap.size ∧ out.ownBlock ≠ some gK ∧ ∀ i, i < m → W.cell? ⟨gK, i, none⟩ = some (E i)
  bel : Below w.heap.size w W
  lo : w.heap.size + 1 ≤ L
  hi : L ≤ W.heap.size
theorem R2.step {tK tG : TypeId} {w : World} {L n : Nat} {D : DataW Unit} {m gK : Nat} {E : Nat → Value} {P : Nat → List Int} {V : Nat → Value} {j : Nat} {out : Value} {W w1 : World} {o : Obj} {v v' : Value}
    (h : R2 tK tG w L n D m gK E P V j out W) (hoi : W.ownsInts (w.heap.size + 1) 3 .i64 v (P j)) (hsh : ∀ No : Nat → Prop, W.Shuns w.heap.size No → ∀ g, v.ownBlock = some g → ¬ No g)
    (hown : w1.ownsRow L tG 2 v' (j + 1) (gcells E V j ++ [E j, v])) (hgrow : (W.alloc o).grownBy w1 out.ownBlock) (hloc : v'.ownBlock = out.ownBlock ∨ v'.ownBlock = some (W.alloc o).heap.size) :
    R2 tK tG w L n D m gK E P (fun i => if i = j then v else V i) (j + 1) v' w1 := by
  have hg : W.grownBy w1 out.ownBlock := (World.grownBy_alloc W o _).trans hgrow
  have hob : ∀ g, out.ownBlock = some g → L ≤ g := fun g e => (h.row.lt g e).1
  have lo := h.lo
  have hi := h.hi
  have e0 : gcells E V j = gcells E (fun i => if i = j then v else V i) j := gcells_congr fun i hi => by
    show V i = if i = j then v else V i
    rw [if_neg (by omega)]
  have hne : ∀ (u : Value), (∀ g, u.ownBlock = some g → g < L) → u.ownBlock = none ∨ u.ownBlock ≠ out.ownBlock := fun u hu => by
    cases hx : u.ownBlock with
    | none => exact .inl rfl
    | some g => exact .inr fun e => by have h1 := hu g hx; have h2 := hob g e.symm; omega
  have hvb : ∀ g, v.ownBlock = some g → g < L := fun g e => Nat.lt_of_not_le (hsh _ h.shun g e)
  refine ⟨h.grp.kept hg (fun e => by have := hob _ e.symm; omega) (h.shun.rowsOff hob), h.shun.kept hg (by omega) (fun e => by have := hob _ e.symm; omega), ?_, fun i hi => ?_, fun h0 => ?_, h.bel.grown hg h.bel.size (fun g e => by have := hob g e; omega), lo, Nat.le_trans hi hg.size⟩
  · show w1.ownsRow L tG 2 v' (j + 1) (gcells E (fun i => if i = j then v else V i) j ++ [E j, if j = j then v else V j])
    rw [← e0, if_pos rfl]
    exact hown
  · by_cases e : i = j
    · subst e
      simp only [if_pos]
      exact ⟨hoi.kept hg (hne v hvb), hvb⟩
    · simp only [if_neg e]
      have t := h.vals i (by omega)
      exact ⟨t.1.kept hg (hne _ t.2), t.2⟩
  · obtain ⟨k1, k2, k3⟩ := h.keys h0
    refine ⟨Nat.lt_of_lt_of_le k1 hg.size, ?_, fun i hi => hg.cell (k3 i hi) (Ne.symm k2)⟩
    rcases hloc with e | e
    · rw [e]; exact k2
    · rw [e]
      intro e2
      injection e2 with e3
      simp at e3
      omega
/-- An owned slice of ints reads as its list. -/
theorem ownsInts_rd {W : World} {base : Nat} {v : Value} {zs : List Int} (h : W.ownsInts base 3 .i64 v zs) (hz : zs.length ≤ 9223372036854775807) : ∃ a c, v = .slice a zs.length c ∧ Rd W a zs := by
  rcases h.1.2 with ⟨e, h0⟩ | ⟨g, cap, cur, e, hb, hg, r1, r2, r3, r4⟩
  · have : zs = [] := List.length_eq_zero_iff.1 h0
    subst this
    exact ⟨none, 0, e, Rd.none_ W⟩
  · refine ⟨_, cap, e, hz, fun _ => ⟨g, 0, rfl, (Array.getElem?_eq_some_iff.1 hg).1, fun j hj => ?_⟩⟩
    have hj2 : cur[j]? = some (.int .i64 (zs.getD j 0)) := by
      have e1 : (cur.toList.take (zs.length * 1))[j]? = (zs.map (Value.int .i64))[j]? := by rw [r4]
      rw [List.getElem?_take, if_pos (by omega)] at e1
      rw [← Array.getElem?_toList, e1, List.getElem?_map, List.getElem?_eq_getElem hj]
      simp [hj]
    rw [Nat.zero_add]
    unfold fn
    simp [World.cell?, hg, hj2]
/-- A slice of groups: the keys as values, the places of each. -/
def IsG (W : World) (v : Value) (m : Nat) (E : Nat → Value) (P : Nat → List Int) : Prop :=
  ∃ a c, v = .slice a m c ∧ m ≤ 9223372036854775807 ∧ (0 < m → ∃ b, a = some ⟨b, 0, none⟩ ∧ b < W.heap.size ∧ ∀ i, i < m → W.cell? ⟨b, i * 2, none⟩ = some (E i) ∧ ∃ pa pc, W.cell? ⟨b, i * 2 + 1, none⟩ = some (.slice pa (P i).length pc) ∧ Rd W pa (P i))
theorem IsG.below {W W' : World} {v : Value} {m : Nat} {E : Nat → Value} {P : Nat → List Int} (h : IsG W v m E P) (hb : Below W.heap.size W W') : IsG W' v m E P := by
  obtain ⟨a, c, e, hm, h⟩ := h
  refine ⟨a, c, e, hm, fun h0 => ?_⟩
  obtain ⟨b, e2, hl, hc⟩ := h h0
  refine ⟨b, e2, Nat.lt_of_lt_of_le hl hb.size, fun i hi => ?_⟩
  obtain ⟨c1, pa, pc, c2, c3⟩ := hc i hi
  exact ⟨(hb.cell (p := ⟨b, i * 2, none⟩) hl).trans c1, pa, pc, (hb.cell (p := ⟨b, i * 2 + 1, none⟩) hl).trans c2, c3.below hb⟩
theorem R2.done {tK tG : TypeId} {w : World} {L n : Nat} {D : DataW Unit} {m gK : Nat} {E : Nat → Value} {P : Nat → List Int} {V : Nat → Value} {out : Value} {W : World}
    (h : R2 tK tG w L n D m gK E P V m out W) (hm : m ≤ 9223372036854775807) (hP : ∀ i, i < m → (P i).length ≤ 9223372036854775807) : IsG W out m E P := by
  rcases h.row.2 with ⟨e, h0⟩ | ⟨g, cap, cur, e, hb, hg, r1, r2, r3, r4⟩
  · subst h0
    exact ⟨none, 0, e, hm, fun h => by omega⟩
  · refine ⟨_, cap, e, hm, fun _ => ⟨g, rfl, (Array.getElem?_eq_some_iff.1 hg).1, fun i hi => ?_⟩⟩
    obtain ⟨t1, t2⟩ := gcells_at E V hi
    have cc : ∀ k u, k < m * 2 → (gcells E V m)[k]? = some u → W.cell? ⟨g, k, none⟩ = some u := fun k u hk hu => by
      rw [← r4, List.getElem?_take, if_pos (by omega), Array.getElem?_toList] at hu
      simp [World.cell?, hg, hu]
    obtain ⟨pa, pc, e2, hr⟩ := ownsInts_rd (h.vals i hi).1 (hP i hi)
    exact ⟨cc _ _ (by omega) t1, pa, pc, by rw [cc _ _ (by omega) t2, e2], hr⟩
theorem below_grow {W W' : World} (h : Below W.heap.size W W') : W.grownBy W' none := ⟨h.os, h.tape, h.output, h.size, fun i hi _ => h.block i hi⟩
theorem off_none {W : World} {b : Nat} : ∀ es clock, W.heap[b]? = some (.map es clock) → ∀ x ∈ es.toList, x.val.ownBlock = none ∨ x.val.ownBlock ≠ none := fun _ _ _ x _ => by
  cases x.val.ownBlock with
  | none => exact .inl rfl
  | some _ => exact .inr (by simp)
/-- The second loop's beginning: from the first loop's end (wr) by make (wm), the box of maps.Keys and the sorting. -/
theorem R2.start {tK tG tM : TypeId} {w wr wm w4 : World} {n c : Nat} {D : DataW Unit} {m gK : Nat} {E : Nat → Value} {P : Nat → List Int} {mb : Option Nat}
    (hown : wr.ownsGroups Tryd.prog tK (w.heap.size + 1) 3 .i64 w.heap.size n D) (hnx : Below w.heap.size w wr) (hws : w.heap.size + 1 ≤ wr.heap.size)
    (hout : wm.ownsRow wr.heap.size tG 2 (.slice (some ⟨wr.heap.size, 0, none⟩) 0 c) 0 []) (hgm : wr.grownBy wm none)
    (hb4 : Below (wm.alloc (.cells #[.map mb] tM)).heap.size (wm.alloc (.cells #[.map mb] tM)) w4)
    (hK : 0 < m → (wm.alloc (.cells #[.map mb] tM)).heap.size ≤ gK ∧ gK < w4.heap.size ∧ ∀ i, i < m → w4.cell? ⟨gK, i, none⟩ = some (E i)) :
    R2 tK tG w wr.heap.size n D m gK E P (fun _ => undef) 0 (.slice (some ⟨wr.heap.size, 0, none⟩) 0 c) w4 := by
  have ga := World.grownBy_alloc wm (.cells #[.map mb] tM) none
  have g4 := below_grow hb4
  have sh : wr.Shuns w.heap.size (fun g => wr.heap.size ≤ g) := World.Shuns.reno (No := fun _ => False) (fun _ _ _ _ _ _ _ h => h) hown (fun _ h => .inr h)
  have l1 := hgm.size
  have l2 := ga.size
  have l3 := g4.size
  have hlt : wr.heap.size < wm.heap.size := (hout.lt wr.heap.size rfl).2
  refine ⟨((hown.kept hgm (by simp) off_none).kept ga (by simp) off_none).kept g4 (by simp) off_none, ((sh.kept hgm (by omega) (by simp)).kept ga (by omega) (by simp)).kept g4 (by omega) (by simp), ?_, fun i hi => by omega, fun h0 => ?_, ((hnx.grown hgm hnx.size (by simp)).grown ga (Nat.le_trans hnx.size l1) (by simp)).grown g4 (by omega) (by simp), hws, by omega⟩
  · exact (hout.kept ga (.inr (by simp [Value.ownBlock]))).kept g4 (.inr (by simp [Value.ownBlock]))
  · obtain ⟨k1, k2, k3⟩ := hK h0
    exact ⟨k2, by simp [Value.ownBlock]; simp at k1; omega, k3⟩
theorem cell_two_new (w : World) (x y : Value) (e : TypeId) : ∀ j u, [x, y][j]? = some u → (w.alloc (.cells #[x, y] e)).cell? ((⟨w.heap.size, 0, none⟩ : Addr).add j) = some u := fun j u h => by
  match j, h with
  | 0, h =>
    have e1 : (⟨w.heap.size, 0, none⟩ : Addr).add 0 = ⟨w.heap.size, 0, none⟩ := by simp [Addr.add]
    rw [e1, World.cell?_alloc_at _ _ _ _ rfl]
    simpa using h
  | 1, h =>
    have e1 : (⟨w.heap.size, 0, none⟩ : Addr).add 1 = ⟨w.heap.size, 1, none⟩ := by simp [Addr.add]
    rw [e1, World.cell?_alloc_at _ _ _ _ rfl]
    simpa using h
  | k + 2, h => simp at h
/-- A row of sorted keys. -/
theorem row_keys {α : Type} (en : α → Value) (z : α) {tK : TypeId} {W : World} {base : Nat} {v : Value} {K : List α} (h : W.ownsRow base tK 1 v K.length (K.map en)) :
    ∃ aK capK gK, v = .slice aK K.length capK ∧ (0 < K.length → aK = some ⟨gK, 0, none⟩ ∧ base ≤ gK ∧ gK < W.heap.size ∧ ∀ i, i < K.length → W.cell? ⟨gK, i, none⟩ = some (en (K.getD i z))) := by
  rcases h.2 with ⟨e, h0⟩ | ⟨g, cap, cur, e, hb, hg, r1, r2, r3, r4⟩
  · exact ⟨none, 0, 0, by rw [e, h0], fun h => by omega⟩
  · refine ⟨_, cap, g, e, fun _ => ⟨rfl, hb, (Array.getElem?_eq_some_iff.1 hg).1, fun i hi => ?_⟩⟩
    have hj2 : cur[i]? = some (en (K.getD i z)) := by
      have e1 : (cur.toList.take (K.length * 1))[i]? = (K.map en)[i]? := by rw [r4]
      rw [List.getElem?_take, if_pos (by omega)] at e1
      rw [← Array.getElem?_toList, e1, List.getElem?_map, List.getElem?_eq_getElem hi]
      simp [hi]
    simp [World.cell?, hg, hj2]
end Go.Proofs.YtkppfceogknlkaaDoor
