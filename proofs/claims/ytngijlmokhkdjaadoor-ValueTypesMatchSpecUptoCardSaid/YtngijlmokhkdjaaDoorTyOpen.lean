/-
  The arguments of the law, opened: an expression, a scene, and a place, in memory.
-/
import Derived.Test.YtngijlmokhkdjaaDoorExMath
import Derived.Test.YtngijlmokhkdjaaDoorExSpec
import Derived.Test.YtngijlmokhkdjaaDoorTxtBase
import Derived.Test.YtngijlmokhkdjaaDoorCards
import Derived.Test.YtngijlmokhkdjaaDoorTyScnB
import Derived.Deep.DeepHandedRow
namespace Go.Proofs.YtngijlmokhkdjaaDoor
open Go.ChangeShapes Go.WideShapes Go.ChangeAt Go.RowKit Go.Joins

theorem cellsExpr : Tryd.prog.cellsOf 27 = 8 := by kernel_rfl
theorem cellsI : Tryd.prog.cellsOf 3 = 1 := by kernel_rfl
theorem cellsTx : Tryd.prog.cellsOf 9 = 1 := by kernel_rfl
theorem cellsL : Tryd.prog.cellsOf 22 = 1 := by kernel_rfl
theorem cellsR : Tryd.prog.cellsOf 25 = 1 := by kernel_rfl
theorem add_none (b off i : Nat) : (Addr.mk b off none).add i = ⟨b, off + i, none⟩ := by
  unfold Addr.add
  split
  · rename_i h; subst h; rfl
  · rfl

section
variable {H : Type} {enc : TypeId × Value → H} {W : World}
/-- A slice of ints, opened. -/
theorem open_L {fuel : Nat} {cs : List Value} {x : DataW H × List MemPlace} (h : DataW.trod enc Tryd.prog W 0 (fun _ => true) true fuel 22 cs = some x) : ∃ sv l, cs = [sv] ∧ IsL W sv l := by
  rcases open_ints Tryd.underlying22 Tryd.underlying3 cellsI h with ⟨e3, _⟩ | ⟨x, l, c, zs, e3, _, hl, hm, hz, _, hcell, _⟩
  · exact ⟨_, [], e3, .inl ⟨none, 0, rfl, rfl⟩⟩
  · subst e3
    simp only [if_true] at hz
    by_cases hl0 : l = 0
    · subst hl0
      exact ⟨_, [], rfl, .inl ⟨some x, c, rfl, rfl⟩⟩
    · obtain ⟨b, off, spot⟩ := x
      have hc := hcell 0 (by omega)
      have hspot : spot = none := by simpa [Addr.add] using World.cell?_spot hc
      subst hspot
      have hlen : (zs.take l).length = l := by simp; omega
      have hc' : ∀ i, i < zs.length → W.cell? ⟨b, off + i, none⟩ = some (.int .i64 (zs.getD i 0)) := fun i hi => by
        rw [← add_none]; exact hcell i hi
      have hl2 : l ≤ 9223372036854775807 := by unfold maxLen at hm; omega
      refine ⟨_, zs.take l, rfl, .inr ⟨b, off, c, by simp only [hlen], by simp only [hlen]; omega, by simp only [hlen]; exact hl2, block_lt (hc' 0 (by omega)), fun j hj => ?_⟩⟩
      simp only [hlen] at hj
      show _ = some (Value.int .i64 ((zs.take l).getD j 0))
      rw [getD_take _ _ _ hj]
      exact hc' j (by omega)
set_option maxRecDepth 100000 in
/-- A value, opened in its cells. -/
theorem open_val {fuel : Nat} {cs : List Value} {x : DataW H × List MemPlace} (h : DataW.trod enc Tryd.prog W 0 (fun _ => true) true fuel 24 cs = some x) :
    ∃ k n s sv l, cs = [.int .i64 k, .int .i64 n, .string s, sv] ∧ IsL W sv l ∧ s.size ≤ 9223372036854775807 := by
  obtain ⟨ys, n, _, _, hl, hlen, hf⟩ := DataW.trod_struct Tryd.underlying24 h
  rw [cells24] at hl
  obtain ⟨c0, c1, c2, c3, rfl⟩ : ∃ c0 c1 c2 c3, cs = [c0, c1, c2, c3] := by
    match cs, hl with
    | [a, b, c, d], _ => exact ⟨a, b, c, d, rfl⟩
  obtain ⟨y0, y1, y2, y3, rfl⟩ : ∃ y0 y1 y2 y3, ys = [y0, y1, y2, y3] := by
    match ys, hlen with
    | [a, b, c, d], _ => exact ⟨a, b, c, d, rfl⟩
  have h0 : DataW.trod enc Tryd.prog W 0 (fun _ => true) true n 3 (([c0, c1, c2, c3].drop 0).take (Tryd.prog.cellsOf 3)) = some y0 := hf 0 _ rfl
  have h1 : DataW.trod enc Tryd.prog W 0 (fun _ => true) true n 3 (([c0, c1, c2, c3].drop 1).take (Tryd.prog.cellsOf 3)) = some y1 := hf 1 _ rfl
  have h2 : DataW.trod enc Tryd.prog W 0 (fun _ => true) true n 9 (([c0, c1, c2, c3].drop 2).take (Tryd.prog.cellsOf 9)) = some y2 := hf 2 _ rfl
  have h3 : DataW.trod enc Tryd.prog W 0 (fun _ => true) true n 22 (([c0, c1, c2, c3].drop 3).take (Tryd.prog.cellsOf 22)) = some y3 := hf 3 _ rfl
  simp only [cellsI, cellsTx, cellsL, List.drop_zero, List.drop_succ_cons, List.take_succ_cons, List.take_zero] at h0 h1 h2 h3
  obtain ⟨k, e0, _, _⟩ := DataW.trod_int Tryd.underlying3 h0
  obtain ⟨m, e1, _, _⟩ := DataW.trod_int Tryd.underlying3 h1
  obtain ⟨s, e2, _, hs⟩ := DataW.trod_string Tryd.underlying9 h2
  obtain ⟨sv, l, e3, hL⟩ := open_L h3
  simp only [List.cons.injEq, and_true] at e0 e1 e2 e3
  subst e0 e1 e2 e3
  unfold maxLen at hs
  exact ⟨k, m, s, _, l, rfl, hL, hs⟩

set_option maxRecDepth 100000 in
/-- An expression, opened in its cells. -/
theorem open_E : ∀ (fuel : Nat) (cs : List Value) (x : DataW H × List MemPlace), DataW.trod enc Tryd.prog W 0 (fun _ => true) true fuel 27 cs = some x →
    ∃ (h : Hd) (xs : Fo) (sv : Value) (a : Option Addr) (n c : Nat), cs = [.int .i64 h.k, .int .i64 h.o, .string h.nm, .int .i64 h.vk, .int .i64 h.vn, .string h.vs, sv, .slice a n c] ∧ IsL W sv h.vl ∧ n = xs.len ∧
      (n = 0 ∨ ∃ b off, a = some ⟨b, off, none⟩ ∧ b < W.heap.size ∧ IsF W b xs off) ∧ xs.parts + 1 ≤ Rows.uptoBulk x.1 ∧ h.vs.size ≤ 9223372036854775807 ∧ xs.fine := by
  intro fuel
  induction fuel using Nat.strongRecOn with
  | ind fuel ih =>
  intro cs x h
  obtain ⟨ys, n, hfu, rfl, hl, hlen, hf⟩ := DataW.trod_struct Tryd.underlying27 h
  rw [cellsExpr] at hl
  obtain ⟨c0, c1, c2, c3, c4, c5, c6, c7, rfl⟩ : ∃ c0 c1 c2 c3 c4 c5 c6 c7, cs = [c0, c1, c2, c3, c4, c5, c6, c7] := by
    match cs, hl with
    | [a, b, c, d, e, f, g, i], _ => exact ⟨a, b, c, d, e, f, g, i, rfl⟩
  obtain ⟨y0, y1, y2, y3, y4, rfl⟩ : ∃ y0 y1 y2 y3 y4, ys = [y0, y1, y2, y3, y4] := by
    match ys, hlen with
    | [a, b, c, d, e], _ => exact ⟨a, b, c, d, e, rfl⟩
  have h0 : DataW.trod enc Tryd.prog W 0 (fun _ => true) true n 3 (([c0, c1, c2, c3, c4, c5, c6, c7].drop 0).take (Tryd.prog.cellsOf 3)) = some y0 := hf 0 _ rfl
  have h1 : DataW.trod enc Tryd.prog W 0 (fun _ => true) true n 3 (([c0, c1, c2, c3, c4, c5, c6, c7].drop 1).take (Tryd.prog.cellsOf 3)) = some y1 := hf 1 _ rfl
  have h2 : DataW.trod enc Tryd.prog W 0 (fun _ => true) true n 9 (([c0, c1, c2, c3, c4, c5, c6, c7].drop 2).take (Tryd.prog.cellsOf 9)) = some y2 := hf 2 _ rfl
  have h3 : DataW.trod enc Tryd.prog W 0 (fun _ => true) true n 24 (([c0, c1, c2, c3, c4, c5, c6, c7].drop 3).take (Tryd.prog.cellsOf 24)) = some y3 := hf 3 _ rfl
  have h4 : DataW.trod enc Tryd.prog W 0 (fun _ => true) true n 25 (([c0, c1, c2, c3, c4, c5, c6, c7].drop 7).take (Tryd.prog.cellsOf 25)) = some y4 := hf 4 _ rfl
  simp only [cellsI, cellsTx, cellsR, cells24, List.drop_zero, List.drop_succ_cons, List.take_succ_cons, List.take_zero] at h0 h1 h2 h3 h4
  obtain ⟨k, e0, _, _⟩ := DataW.trod_int Tryd.underlying3 h0
  obtain ⟨o, e1, _, _⟩ := DataW.trod_int Tryd.underlying3 h1
  obtain ⟨nm, e2, _, _⟩ := DataW.trod_string Tryd.underlying9 h2
  obtain ⟨vk, vn, vs, sv, l, e3, hL, hs⟩ := open_val h3
  simp only [List.cons.injEq, and_true] at e0 e1 e2 e3
  obtain ⟨e3, e4, e5, e6⟩ := e3
  subst e0 e1 e2 e3 e4 e5 e6
  have hbulk : Rows.uptoBulk y4.1 + 1 ≤ Rows.uptoBulk (DataW.agg ([y0, y1, y2, y3, y4].map (·.1))) := by
    simp only [List.map_cons, List.map_nil, Rows.uptoBulk, Rows.uptoBulkAll]; omega
  rcases DataW.trod_slice Tryd.underlying25 h4 with ⟨e7, _⟩ | ⟨a, len, cap, elems, rest, m, hm, e7, e8, _, _, _, hel, hat, _, _⟩
  · simp only [List.cons.injEq, and_true] at e7
    subst e7
    exact ⟨⟨k, o, nm, vk, vn, vs, l⟩, .nil, _, none, 0, 0, rfl, hL, rfl, .inl rfl, by simp only [Fo.parts]; omega, hs, by simp only [Fo.fine]⟩
  · simp only [List.cons.injEq, and_true] at e7
    subst e7
    have hel1 : Rows.uptoBulkAll (elems.map (·.1)) + 1 ≤ Rows.uptoBulk y4.1 := by
      rw [e8]; simp only [Rows.uptoBulk]; omega
    by_cases hl0 : len = 0
    · exact ⟨⟨k, o, nm, vk, vn, vs, l⟩, .nil, _, some a, len, cap, rfl, hL, hl0, .inl hl0, by simp only [Fo.parts]; omega, hs, by simp only [Fo.fine]⟩
    rw [cellsExpr] at hat
    have each : ∀ i, i < len → ∃ cs' y, elems[i]? = some y ∧ W.cells? 0 (a.add (i * 8)) 8 = some cs' ∧ DataW.trod enc Tryd.prog W 0 (fun _ => true) true m 27 cs' = some y := by
      intro i hi
      have h5 := hat i hi
      have h6 : elems[i]? = some (elems[i]'(by omega)) := List.getElem?_eq_getElem (by omega)
      rw [h6] at h5
      obtain ⟨cs', h7, h8⟩ := Option.bind_eq_some_iff.1 h5
      exact ⟨cs', _, h6, h7, h8⟩
    obtain ⟨b, off, spot⟩ := a
    obtain ⟨hspot, hblk⟩ : spot = none ∧ b < W.heap.size := by
      obtain ⟨cs', y, _, h7, h8⟩ := each 0 (by omega)
      obtain ⟨_, _, _, _, _, _, rfl, _⟩ := ih m (by omega) _ _ h8
      obtain ⟨_, _, hc⟩ := World.cells?_some h7
      have hc0 := hc 0 (by omega)
      have hs0 : spot = none := by
        simpa [Addr.add] using World.cell?_spot hc0
      subst hs0
      rw [add_none, add_none] at hc0
      exact ⟨rfl, block_lt hc0⟩
    subst hspot
    have row : ∀ j, j ≤ len → ∃ xs : Fo, xs.len = j ∧ xs.parts ≤ Rows.uptoBulkAll ((elems.drop (len - j)).map (·.1)) ∧ xs.fine ∧ IsF W b xs (off + (len - j) * 8) := by
      intro j
      induction j with
      | zero => intro _; exact ⟨.nil, rfl, by simp only [Fo.parts]; omega, by simp only [Fo.fine], by simp only [IsF]⟩
      | succ j ihj =>
        intro hj
        obtain ⟨xs, hx1, hx2, hx3, hx4⟩ := ihj (by omega)
        obtain ⟨cs', y, h6, h7, h8⟩ := each (len - (j + 1)) (by omega)
        obtain ⟨h', xs', sv', a', n', c', rfl, g1, g2, g3, g4, g5, g6⟩ := ih m (by omega) _ _ h8
        obtain ⟨_, _, hc⟩ := World.cells?_some h7
        rw [add_none] at hc
        have cc : ∀ i, i < 8 → W.cell? ⟨b, off + (len - (j + 1)) * 8 + i, none⟩ = [Value.int .i64 h'.k, .int .i64 h'.o, .string h'.nm, .int .i64 h'.vk, .int .i64 h'.vn, .string h'.vs, sv', .slice a' n' c'][i]? := fun i hi => by
          rw [← add_none]; exact hc i hi
        have hdrop : elems.drop (len - (j + 1)) = y :: elems.drop (len - j) := by
          obtain ⟨hlt, he⟩ := List.getElem?_eq_some_iff.1 h6
          rw [List.drop_eq_getElem_cons hlt, he, show len - (j + 1) + 1 = len - j by omega]
        refine ⟨.cons h' xs' xs, by simp only [Fo.len, hx1], ?_, ?_, ?_⟩
        · rw [hdrop]
          simp only [List.map_cons, Rows.uptoBulkAll, Fo.parts]
          omega
        · simp only [Fo.fine]; exact ⟨g5, g6, hx3⟩
        · simp only [IsF]
          refine ⟨⟨sv', a', n', c', cc 0 (by omega), cc 1 (by omega), cc 2 (by omega), cc 3 (by omega), cc 4 (by omega), cc 5 (by omega), cc 6 (by omega), cc 7 (by omega), g1, g2, g3⟩, ?_⟩
          rw [show off + (len - (j + 1)) * 8 + 8 = off + (len - j) * 8 by omega]
          exact hx4
    obtain ⟨xs, hx1, hx2, hx3, hx4⟩ := row len (Nat.le_refl _)
    rw [Nat.sub_self, List.drop_zero] at hx2
    rw [Nat.sub_self, Nat.zero_mul, Nat.add_zero] at hx4
    exact ⟨⟨k, o, nm, vk, vn, vs, l⟩, xs, _, some ⟨b, off, none⟩, len, cap, rfl, hL, hx1.symm, .inr ⟨b, off, rfl, hblk, hx4⟩, Nat.le_trans (show xs.parts + 1 ≤ Rows.uptoBulk y4.1 + 1 by omega) hbulk, hs, hx3⟩

set_option maxRecDepth 100000 in
/-- An argument of the type api.Expr, opened. -/
theorem open_X {b0 : Nat} {v : Value} {d : DataW H} {p : List MemPlace}
    (hv : Value.okWide Tryd.prog W .any b0 27 v) (h : DataW.Trod enc Tryd.prog W 0 (fun _ => true) true 27 v d p) :
    ∃ (h : Hd) (xs : Fo), IsX W h xs v ∧ xs.parts + 1 ≤ Rows.uptoBulk d ∧ h.vs.size ≤ 9223372036854775807 ∧ xs.fine := by
  obtain ⟨cs, rfl, _⟩ := okWide_struct Tryd.underlying27 hv
  obtain ⟨fuel, hf⟩ := h
  obtain ⟨h, xs, sv, a, n, c, e, g1, g2, g3, g4, g5, g6⟩ := open_E fuel _ _ hf
  cases cs with
  | mk l =>
    have e' : l = _ := e
    subst e'
    exact ⟨h, xs, ⟨sv, a, n, c, rfl, g1, g2, g3⟩, g4, g5, g6⟩

theorem bulk_all_cons {d : DataW H} {r : List (DataW H)} : Rows.uptoBulkAll (d :: r) = Rows.uptoBulk d + Rows.uptoBulkAll r := by simp only [Rows.uptoBulkAll]
/-- A slice, opened element by element. -/
theorem open_row {α : Type} {tS tE : TypeId} {m : Nat} (hS : Tryd.prog.underlying tS = some (.slice tE)) (hm : Tryd.prog.cellsOf tE = m) (h0 : 0 < m) (El : α → List Value → Prop) (size : α → Nat)
    (hEl : ∀ fuel cs y, DataW.trod enc Tryd.prog W 0 (fun _ => true) true fuel tE cs = some y → ∃ c, El c cs ∧ size c ≤ Rows.uptoBulk y.1)
    {fuel : Nat} {cs : List Value} {x : DataW H × List MemPlace} (h : DataW.trod enc Tryd.prog W 0 (fun _ => true) true fuel tS cs = some x) :
    ∃ (l : List α) (a : Option Addr) (cap : Nat), cs = [.slice a l.length cap] ∧ (l = [] ∨ ∃ b off, a = some ⟨b, off, none⟩ ∧ b < W.heap.size ∧ (l.length ≤ cap ∧ cap ≤ 9223372036854775807) ∧
      ∀ (j : Nat) (c : α), l[j]? = some c → ∃ cs', El c cs' ∧ ∀ i, i < m → W.cell? ⟨b, off + j * m + i, none⟩ = cs'[i]?) ∧ (l.map size).sum + 1 ≤ Rows.uptoBulk x.1 ∧ l.length + 1 ≤ Rows.uptoBulk x.1 := by
  have pos : ∀ d : DataW H, 1 ≤ Rows.uptoBulk d := fun d => by
    cases d with
    | lit v => cases v <;> simp only [Rows.uptoBulk] <;> omega
    | _ => simp only [Rows.uptoBulk]; omega
  rcases DataW.trod_slice hS h with ⟨e7, e8⟩ | ⟨a, len, cap, elems, rest, n, hn, e7, e8, _, hlc, hcm, hel, hat, _, _⟩
  · exact ⟨[], none, 0, e7, .inl rfl, by rw [e8]; simp [Rows.uptoBulk], by rw [e8]; simp [Rows.uptoBulk]⟩
  · have hel1 : Rows.uptoBulkAll (elems.map (·.1)) + 1 ≤ Rows.uptoBulk x.1 := by
      rw [e8]; simp only [Rows.uptoBulk]; omega
    unfold maxLen at hcm
    by_cases hl0 : len = 0
    · subst hl0
      exact ⟨[], some a, cap, e7, .inl rfl, by simp; omega, by simp; omega⟩
    rw [hm] at hat
    have each : ∀ i, i < len → ∃ cs' y, elems[i]? = some y ∧ W.cells? 0 (a.add (i * m)) m = some cs' ∧ DataW.trod enc Tryd.prog W 0 (fun _ => true) true n tE cs' = some y := by
      intro i hi
      have h5 := hat i hi
      have h6 : elems[i]? = some (elems[i]'(by omega)) := List.getElem?_eq_getElem (by omega)
      rw [h6] at h5
      obtain ⟨cs', h7, h8⟩ := Option.bind_eq_some_iff.1 h5
      exact ⟨cs', _, h6, h7, h8⟩
    obtain ⟨b, off, spot⟩ := a
    obtain ⟨hspot, hblk⟩ : spot = none ∧ b < W.heap.size := by
      obtain ⟨cs', y, _, h7, h8⟩ := each 0 (by omega)
      obtain ⟨hlen, _, hc⟩ := World.cells?_some h7
      have hc0 := hc 0 (by omega)
      have hx : ∃ v, cs'[0]? = some v := ⟨cs'[0]'(by omega), List.getElem?_eq_getElem (by omega)⟩
      obtain ⟨v, hv⟩ := hx
      rw [hv] at hc0
      have hs0 : spot = none := by
        simpa [Addr.add] using World.cell?_spot hc0
      subst hs0
      rw [add_none, add_none] at hc0
      exact ⟨rfl, block_lt hc0⟩
    subst hspot
    have row : ∀ j, j ≤ len → ∃ l : List α, l.length = j ∧ (l.map size).sum ≤ Rows.uptoBulkAll ((elems.drop (len - j)).map (·.1)) ∧ l.length ≤ Rows.uptoBulkAll ((elems.drop (len - j)).map (·.1)) ∧
        ∀ (i : Nat) (c : α), l[i]? = some c → ∃ cs', El c cs' ∧ ∀ q, q < m → W.cell? ⟨b, off + (len - j + i) * m + q, none⟩ = cs'[q]? := by
      intro j
      induction j with
      | zero => intro _; exact ⟨[], rfl, by simp, by simp, fun i c hi => by simp at hi⟩
      | succ j ihj =>
        intro hj
        obtain ⟨l, hx1, hx2, hx3, hx4⟩ := ihj (by omega)
        obtain ⟨cs', y, h6, h7, h8⟩ := each (len - (j + 1)) (by omega)
        obtain ⟨c, g1, g2⟩ := hEl _ _ _ h8
        obtain ⟨_, _, hc⟩ := World.cells?_some h7
        rw [add_none] at hc
        have cc : ∀ i, i < m → W.cell? ⟨b, off + (len - (j + 1)) * m + i, none⟩ = cs'[i]? := fun i hi => by
          rw [← add_none]; exact hc i hi
        have hdrop : elems.drop (len - (j + 1)) = y :: elems.drop (len - j) := by
          obtain ⟨hlt, he⟩ := List.getElem?_eq_some_iff.1 h6
          rw [List.drop_eq_getElem_cons hlt, he, show len - (j + 1) + 1 = len - j by omega]
        have hp := pos y.1
        refine ⟨c :: l, by simp [hx1], ?_, ?_, ?_⟩
        · rw [hdrop, List.map_cons, List.map_cons, List.sum_cons, bulk_all_cons]; omega
        · rw [hdrop, List.map_cons, List.length_cons, bulk_all_cons]; omega
        · intro i c' hi
          cases i with
          | zero =>
            simp only [List.getElem?_cons_zero, Option.some.injEq] at hi
            subst hi
            exact ⟨cs', g1, cc⟩
          | succ i =>
            obtain ⟨cs2, g3, g4⟩ := hx4 i c' (by simpa using hi)
            refine ⟨cs2, g3, fun q hq => ?_⟩
            rw [show len - (j + 1) + (i + 1) = len - j + i by omega]
            exact g4 q hq
    obtain ⟨l, hx1, hx2, hx3, hx4⟩ := row len (Nat.le_refl _)
    rw [Nat.sub_self, List.drop_zero] at hx2 hx3
    simp only [Nat.sub_self, Nat.zero_add] at hx4
    exact ⟨l, some ⟨b, off, none⟩, cap, by rw [e7, hx1], .inr ⟨b, off, rfl, hblk, ⟨by omega, by omega⟩, hx4⟩, by omega, by omega⟩
/-- A slice of texts, opened. -/
theorem open_N {fuel : Nat} {cs : List Value} {x : DataW H × List MemPlace} (h : DataW.trod enc Tryd.prog W 0 (fun _ => true) true fuel 34 cs = some x) :
    ∃ v l, cs = [v] ∧ IsN W v l ∧ (l.map ByteArray.size).sum + 1 ≤ Rows.uptoBulk x.1 ∧ l.length + 1 ≤ Rows.uptoBulk x.1 := by
  obtain ⟨l, a, cap, e, hr, h1, h2⟩ := open_row (α := ByteArray) Tryd.underlying34 cellsTx (by decide) (fun t cs => cs = [.string t]) ByteArray.size (fun fuel cs y hy => by
    obtain ⟨s, e2, e3, _⟩ := DataW.trod_string Tryd.underlying9 hy
    refine ⟨s, e2, ?_⟩
    rw [e3]
    simp only [Rows.uptoBulk, Lib.size_eq]; omega) h
  refine ⟨_, l, e, ?_, h1, h2⟩
  rcases hr with rfl | ⟨b, off, rfl, hb, hc, hcell⟩
  · exact .inl ⟨a, cap, rfl, rfl⟩
  · by_cases h0 : l.length = 0
    · obtain rfl := List.eq_nil_of_length_eq_zero h0
      exact .inl ⟨_, cap, rfl, rfl⟩
    · refine .inr ⟨b, off, cap, rfl, by omega, hc, hb, fun j hj => ?_⟩
      obtain ⟨cs', e1, e2⟩ := hcell j l[j] (List.getElem?_eq_getElem hj)
      have := e2 0 (by decide)
      rw [e1] at this
      rw [List.getD_eq_getElem?_getD, List.getElem?_eq_getElem hj]
      simpa using this
end
end Go.Proofs.YtngijlmokhkdjaaDoor
