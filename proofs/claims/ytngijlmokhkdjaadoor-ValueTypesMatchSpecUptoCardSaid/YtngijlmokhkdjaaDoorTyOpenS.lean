/-
  A scene, opened: its cells, its loops, its Bounds and its Rows, in memory; and a place as an argument.
-/
import Derived.Test.YtngijlmokhkdjaaDoorTyOpen
import Derived.Test.YtngijlmokhkdjaaDoorTyScene
namespace Go.Proofs.YtngijlmokhkdjaaDoor
open Go.ChangeShapes Go.WideShapes Go.ChangeAt Go.RowKit Go.Joins

theorem cellsN : Tryd.prog.cellsOf 34 = 1 := by kernel_rfl
theorem cellsB : Tryd.prog.cellsOf 4 = 1 := by kernel_rfl
theorem cellsCell : Tryd.prog.cellsOf 57 = 3 := by kernel_rfl
theorem cellsNest : Tryd.prog.cellsOf 60 = 2 := by kernel_rfl
theorem cellsBound : Tryd.prog.cellsOf 75 = 7 := by kernel_rfl
theorem cellsRows : Tryd.prog.cellsOf 80 = 3 := by kernel_rfl
theorem cellsScene : Tryd.prog.cellsOf 33 = 4 := by kernel_rfl
theorem cellsCs : Tryd.prog.cellsOf 28 = 1 := by kernel_rfl
theorem cellsNs : Tryd.prog.cellsOf 29 = 1 := by kernel_rfl
theorem cellsBs : Tryd.prog.cellsOf 30 = 1 := by kernel_rfl
theorem cellsRs : Tryd.prog.cellsOf 31 = 1 := by kernel_rfl
theorem le_sum {α : Type} (f : α → Nat) : ∀ {l : List α} {x : α}, x ∈ l → f x ≤ (l.map f).sum
  | [], _, h => by cases h
  | y :: r, x, h => by
    rw [List.map_cons, List.sum_cons]
    rcases List.mem_cons.1 h with rfl | h
    · omega
    · have := le_sum f h; omega
def szC (c : Cl) : Nat := max c.nm.size (max (c.lp.map ByteArray.size).sum c.lp.length)
def szN (c : Ne) : Nat := max c.nm.size (max (c.lp.map ByteArray.size).sum c.lp.length)
def szB (c : Bd) : Nat := c.nm.size
def szR (c : Ro) : Nat := c.nm.size

section
variable {H : Type} {enc : TypeId × Value → H} {W : World}
def ElC (W : World) (c : Cl) (cs : List Value) : Prop := ∃ lv, cs = [.string c.nm, .int .i64 c.kind, lv] ∧ IsN W lv c.lp
def ElN (W : World) (c : Ne) (cs : List Value) : Prop := ∃ lv, cs = [.string c.nm, lv] ∧ IsN W lv c.lp
def ElB (W : World) (c : Bd) (cs : List Value) : Prop := ∃ rv sv, cs = [.string c.nm, rv, .int .i64 c.vk, .int .i64 c.vn, .string c.vs, sv, .bool c.asked] ∧ IsL W rv c.row ∧ IsL W sv c.vl ∧ c.vs.size ≤ 9223372036854775807
def ElR (W : World) (c : Ro) (cs : List Value) : Prop := ∃ rv nv, cs = [.string c.nm, rv, nv] ∧ IsL W rv c.row ∧ IsL W nv c.nums
set_option maxRecDepth 100000 in
theorem open_cell (fuel : Nat) (cs : List Value) (y : DataW H × List MemPlace) (h : DataW.trod enc Tryd.prog W 0 (fun _ => true) true fuel 57 cs = some y) : ∃ c, ElC W c cs ∧ szC c ≤ Rows.uptoBulk y.1 := by
  obtain ⟨ys, n, _, rfl, hl, hlen, hf⟩ := DataW.trod_struct Tryd.underlying57 h
  rw [cellsCell] at hl
  obtain ⟨c0, c1, c2, rfl⟩ : ∃ c0 c1 c2, cs = [c0, c1, c2] := by
    match cs, hl with
    | [a, b, c], _ => exact ⟨a, b, c, rfl⟩
  obtain ⟨y0, y1, y2, rfl⟩ : ∃ y0 y1 y2, ys = [y0, y1, y2] := by
    match ys, hlen with
    | [a, b, c], _ => exact ⟨a, b, c, rfl⟩
  have h0 : DataW.trod enc Tryd.prog W 0 (fun _ => true) true n 9 (([c0, c1, c2].drop 0).take (Tryd.prog.cellsOf 9)) = some y0 := hf 0 _ rfl
  have h1 : DataW.trod enc Tryd.prog W 0 (fun _ => true) true n 3 (([c0, c1, c2].drop 1).take (Tryd.prog.cellsOf 3)) = some y1 := hf 1 _ rfl
  have h2 : DataW.trod enc Tryd.prog W 0 (fun _ => true) true n 34 (([c0, c1, c2].drop 2).take (Tryd.prog.cellsOf 34)) = some y2 := hf 2 _ rfl
  simp only [cellsI, cellsTx, cellsN, List.drop_zero, List.drop_succ_cons, List.take_succ_cons, List.take_zero] at h0 h1 h2
  obtain ⟨s, e0, b0, _⟩ := DataW.trod_string Tryd.underlying9 h0
  obtain ⟨k, e1, _, _⟩ := DataW.trod_int Tryd.underlying3 h1
  obtain ⟨lv, l, e2, hN, g1, g2⟩ := open_N h2
  simp only [List.cons.injEq, and_true] at e0 e1 e2
  subst e0 e1 e2
  refine ⟨⟨s, k, l⟩, ⟨_, rfl, hN⟩, ?_⟩
  have b1 : s.size + 1 = Rows.uptoBulk y0.1 := by rw [b0]; simp only [Rows.uptoBulk, Lib.size_eq]
  simp only [List.map_cons, List.map_nil, Rows.uptoBulk, Rows.uptoBulkAll, szC]
  omega
set_option maxRecDepth 100000 in
theorem open_nest (fuel : Nat) (cs : List Value) (y : DataW H × List MemPlace) (h : DataW.trod enc Tryd.prog W 0 (fun _ => true) true fuel 60 cs = some y) : ∃ c, ElN W c cs ∧ szN c ≤ Rows.uptoBulk y.1 := by
  obtain ⟨ys, n, _, rfl, hl, hlen, hf⟩ := DataW.trod_struct Tryd.underlying60 h
  rw [cellsNest] at hl
  obtain ⟨c0, c1, rfl⟩ : ∃ c0 c1, cs = [c0, c1] := by
    match cs, hl with
    | [a, b], _ => exact ⟨a, b, rfl⟩
  obtain ⟨y0, y1, rfl⟩ : ∃ y0 y1, ys = [y0, y1] := by
    match ys, hlen with
    | [a, b], _ => exact ⟨a, b, rfl⟩
  have h0 : DataW.trod enc Tryd.prog W 0 (fun _ => true) true n 9 (([c0, c1].drop 0).take (Tryd.prog.cellsOf 9)) = some y0 := hf 0 _ rfl
  have h1 : DataW.trod enc Tryd.prog W 0 (fun _ => true) true n 34 (([c0, c1].drop 1).take (Tryd.prog.cellsOf 34)) = some y1 := hf 1 _ rfl
  simp only [cellsTx, cellsN, List.drop_zero, List.drop_succ_cons, List.take_succ_cons, List.take_zero] at h0 h1
  obtain ⟨s, e0, b0, _⟩ := DataW.trod_string Tryd.underlying9 h0
  obtain ⟨lv, l, e2, hN, g1, g2⟩ := open_N h1
  simp only [List.cons.injEq, and_true] at e0 e2
  subst e0 e2
  refine ⟨⟨s, l⟩, ⟨_, rfl, hN⟩, ?_⟩
  have b1 : s.size + 1 = Rows.uptoBulk y0.1 := by rw [b0]; simp only [Rows.uptoBulk, Lib.size_eq]
  simp only [List.map_cons, List.map_nil, Rows.uptoBulk, Rows.uptoBulkAll, szN]
  omega
set_option maxRecDepth 100000 in
theorem open_bound (fuel : Nat) (cs : List Value) (y : DataW H × List MemPlace) (h : DataW.trod enc Tryd.prog W 0 (fun _ => true) true fuel 75 cs = some y) : ∃ c, ElB W c cs ∧ szB c ≤ Rows.uptoBulk y.1 := by
  obtain ⟨ys, n, _, rfl, hl, hlen, hf⟩ := DataW.trod_struct Tryd.underlying75 h
  rw [cellsBound] at hl
  obtain ⟨c0, c1, c2, c3, c4, c5, c6, rfl⟩ : ∃ c0 c1 c2 c3 c4 c5 c6, cs = [c0, c1, c2, c3, c4, c5, c6] := by
    match cs, hl with
    | [a, b, c, d, e, f, g], _ => exact ⟨a, b, c, d, e, f, g, rfl⟩
  obtain ⟨y0, y1, y2, y3, rfl⟩ : ∃ y0 y1 y2 y3, ys = [y0, y1, y2, y3] := by
    match ys, hlen with
    | [a, b, c, d], _ => exact ⟨a, b, c, d, rfl⟩
  have h0 : DataW.trod enc Tryd.prog W 0 (fun _ => true) true n 9 (([c0, c1, c2, c3, c4, c5, c6].drop 0).take (Tryd.prog.cellsOf 9)) = some y0 := hf 0 _ rfl
  have h1 : DataW.trod enc Tryd.prog W 0 (fun _ => true) true n 22 (([c0, c1, c2, c3, c4, c5, c6].drop 1).take (Tryd.prog.cellsOf 22)) = some y1 := hf 1 _ rfl
  have h2 : DataW.trod enc Tryd.prog W 0 (fun _ => true) true n 24 (([c0, c1, c2, c3, c4, c5, c6].drop 2).take (Tryd.prog.cellsOf 24)) = some y2 := hf 2 _ rfl
  have h3 : DataW.trod enc Tryd.prog W 0 (fun _ => true) true n 4 (([c0, c1, c2, c3, c4, c5, c6].drop 6).take (Tryd.prog.cellsOf 4)) = some y3 := hf 3 _ rfl
  simp only [cellsL, cellsTx, cells24, cellsB, List.drop_zero, List.drop_succ_cons, List.take_succ_cons, List.take_zero] at h0 h1 h2 h3
  obtain ⟨s, e0, b0, _⟩ := DataW.trod_string Tryd.underlying9 h0
  obtain ⟨rv, l, e1, hL⟩ := open_L h1
  obtain ⟨vk, vn, vs, sv, vl, e2, hV, hvs⟩ := open_val h2
  obtain ⟨b, e3, _⟩ := DataW.trod_bool Tryd.underlying4 h3
  simp only [List.cons.injEq, and_true] at e0 e1 e2 e3
  obtain ⟨e2, e4, e5, e6⟩ := e2
  subst e0 e1 e2 e3 e4 e5 e6
  refine ⟨⟨s, l, vk, vn, vs, vl, b⟩, ⟨_, _, rfl, hL, hV, hvs⟩, ?_⟩
  have b1 : s.size + 1 = Rows.uptoBulk y0.1 := by rw [b0]; simp only [Rows.uptoBulk, Lib.size_eq]
  simp only [List.map_cons, List.map_nil, Rows.uptoBulk, Rows.uptoBulkAll, szB]
  omega
set_option maxRecDepth 100000 in
theorem open_rows (fuel : Nat) (cs : List Value) (y : DataW H × List MemPlace) (h : DataW.trod enc Tryd.prog W 0 (fun _ => true) true fuel 80 cs = some y) : ∃ c, ElR W c cs ∧ szR c ≤ Rows.uptoBulk y.1 := by
  obtain ⟨ys, n, _, rfl, hl, hlen, hf⟩ := DataW.trod_struct Tryd.underlying80 h
  rw [cellsRows] at hl
  obtain ⟨c0, c1, c2, rfl⟩ : ∃ c0 c1 c2, cs = [c0, c1, c2] := by
    match cs, hl with
    | [a, b, c], _ => exact ⟨a, b, c, rfl⟩
  obtain ⟨y0, y1, y2, rfl⟩ : ∃ y0 y1 y2, ys = [y0, y1, y2] := by
    match ys, hlen with
    | [a, b, c], _ => exact ⟨a, b, c, rfl⟩
  have h0 : DataW.trod enc Tryd.prog W 0 (fun _ => true) true n 9 (([c0, c1, c2].drop 0).take (Tryd.prog.cellsOf 9)) = some y0 := hf 0 _ rfl
  have h1 : DataW.trod enc Tryd.prog W 0 (fun _ => true) true n 22 (([c0, c1, c2].drop 1).take (Tryd.prog.cellsOf 22)) = some y1 := hf 1 _ rfl
  have h2 : DataW.trod enc Tryd.prog W 0 (fun _ => true) true n 22 (([c0, c1, c2].drop 2).take (Tryd.prog.cellsOf 22)) = some y2 := hf 2 _ rfl
  simp only [cellsL, cellsTx, List.drop_zero, List.drop_succ_cons, List.take_succ_cons, List.take_zero] at h0 h1 h2
  obtain ⟨s, e0, b0, _⟩ := DataW.trod_string Tryd.underlying9 h0
  obtain ⟨rv, l, e1, hL⟩ := open_L h1
  obtain ⟨nv, l2, e2, hL2⟩ := open_L h2
  simp only [List.cons.injEq, and_true] at e0 e1 e2
  subst e0 e1 e2
  refine ⟨⟨s, l, l2⟩, ⟨_, _, rfl, hL, hL2⟩, ?_⟩
  have b1 : s.size + 1 = Rows.uptoBulk y0.1 := by rw [b0]; simp only [Rows.uptoBulk, Lib.size_eq]
  simp only [List.map_cons, List.map_nil, Rows.uptoBulk, Rows.uptoBulkAll, szR]
  omega

theorem row_C {b : Nat} : ∀ {l : List Cl} {off : Nat}, (∀ (j : Nat) (c : Cl), l[j]? = some c → ∃ cs', ElC W c cs' ∧ ∀ i, i < 3 → W.cell? ⟨b, off + j * 3 + i, none⟩ = cs'[i]?) → IsCs W b l off
  | [], _, _ => trivial
  | c :: r, off, h => by
    obtain ⟨cs', ⟨lv, rfl, hN⟩, hc⟩ := h 0 c rfl
    simp only [Nat.zero_mul, Nat.add_zero] at hc
    exact ⟨⟨lv, hc 0 (by decide), hc 1 (by decide), hc 2 (by decide), hN⟩, row_C fun j c' hj => by
      obtain ⟨cs2, h1, h2⟩ := h (j + 1) c' (by simpa using hj)
      exact ⟨cs2, h1, fun i hi => by rw [show off + 3 + j * 3 + i = off + (j + 1) * 3 + i by omega]; exact h2 i hi⟩⟩
theorem row_N {b : Nat} : ∀ {l : List Ne} {off : Nat}, (∀ (j : Nat) (c : Ne), l[j]? = some c → ∃ cs', ElN W c cs' ∧ ∀ i, i < 2 → W.cell? ⟨b, off + j * 2 + i, none⟩ = cs'[i]?) → IsNs W b l off
  | [], _, _ => trivial
  | c :: r, off, h => by
    obtain ⟨cs', ⟨lv, rfl, hN⟩, hc⟩ := h 0 c rfl
    simp only [Nat.zero_mul, Nat.add_zero] at hc
    exact ⟨⟨lv, hc 0 (by decide), hc 1 (by decide), hN⟩, row_N fun j c' hj => by
      obtain ⟨cs2, h1, h2⟩ := h (j + 1) c' (by simpa using hj)
      exact ⟨cs2, h1, fun i hi => by rw [show off + 2 + j * 2 + i = off + (j + 1) * 2 + i by omega]; exact h2 i hi⟩⟩
theorem row_B {b : Nat} : ∀ {l : List Bd} {off : Nat}, (∀ (j : Nat) (c : Bd), l[j]? = some c → ∃ cs', ElB W c cs' ∧ ∀ i, i < 7 → W.cell? ⟨b, off + j * 7 + i, none⟩ = cs'[i]?) → IsBs W b l off
  | [], _, _ => trivial
  | c :: r, off, h => by
    obtain ⟨cs', ⟨rv, sv, rfl, hR, hV, _⟩, hc⟩ := h 0 c rfl
    simp only [Nat.zero_mul, Nat.add_zero] at hc
    exact ⟨⟨rv, sv, hc 0 (by decide), hc 1 (by decide), hc 2 (by decide), hc 3 (by decide), hc 4 (by decide), hc 5 (by decide), hc 6 (by decide), hR, hV⟩, row_B fun j c' hj => by
      obtain ⟨cs2, h1, h2⟩ := h (j + 1) c' (by simpa using hj)
      exact ⟨cs2, h1, fun i hi => by rw [show off + 7 + j * 7 + i = off + (j + 1) * 7 + i by omega]; exact h2 i hi⟩⟩
theorem row_R {b : Nat} : ∀ {l : List Ro} {off : Nat}, (∀ (j : Nat) (c : Ro), l[j]? = some c → ∃ cs', ElR W c cs' ∧ ∀ i, i < 3 → W.cell? ⟨b, off + j * 3 + i, none⟩ = cs'[i]?) → IsRs W b l off
  | [], _, _ => trivial
  | c :: r, off, h => by
    obtain ⟨cs', ⟨rv, nv, rfl, hR, hV⟩, hc⟩ := h 0 c rfl
    simp only [Nat.zero_mul, Nat.add_zero] at hc
    exact ⟨⟨rv, nv, hc 0 (by decide), hc 1 (by decide), hc 2 (by decide), hR, hV⟩, row_R fun j c' hj => by
      obtain ⟨cs2, h1, h2⟩ := h (j + 1) c' (by simpa using hj)
      exact ⟨cs2, h1, fun i hi => by rw [show off + 3 + j * 3 + i = off + (j + 1) * 3 + i by omega]; exact h2 i hi⟩⟩

theorem open_Cs {fuel : Nat} {cs : List Value} {x : DataW H × List MemPlace} (h : DataW.trod enc Tryd.prog W 0 (fun _ => true) true fuel 28 cs = some x) :
    ∃ v l, cs = [v] ∧ IsC W v l ∧ (Rows.uptoBulk x.1 ≤ 1048576 → FineC l ∧ l.length ≤ 1048576) := by
  obtain ⟨l, a, cap, e, hr, h1, h2⟩ := open_row (α := Cl) Tryd.underlying28 cellsCell (by decide) (ElC W) szC open_cell h
  refine ⟨_, l, e, ⟨a, cap, rfl, ?_⟩, fun hx => ⟨fun c hc => ?_, by omega⟩⟩
  · rcases hr with rfl | ⟨b, off, rfl, hb, hc, hcell⟩
    · exact .inl rfl
    · exact .inr ⟨b, off, rfl, hb, hc, row_C hcell⟩
  · have h3 := le_sum szC hc
    have h4 : szC c ≤ 1048575 := by omega
    unfold szC at h4
    refine ⟨by omega, fun s hs => ?_, by omega⟩
    have := le_sum ByteArray.size hs
    omega
theorem open_Ns {fuel : Nat} {cs : List Value} {x : DataW H × List MemPlace} (h : DataW.trod enc Tryd.prog W 0 (fun _ => true) true fuel 29 cs = some x) :
    ∃ v l, cs = [v] ∧ IsM W v l ∧ (Rows.uptoBulk x.1 ≤ 1048576 → FineL l ∧ l.length ≤ 1048576) := by
  obtain ⟨l, a, cap, e, hr, h1, h2⟩ := open_row (α := Ne) Tryd.underlying29 cellsNest (by decide) (ElN W) szN open_nest h
  refine ⟨_, l, e, ⟨a, cap, rfl, ?_⟩, fun hx => ⟨fun c hc => ?_, by omega⟩⟩
  · rcases hr with rfl | ⟨b, off, rfl, hb, hc, hcell⟩
    · exact .inl rfl
    · exact .inr ⟨b, off, rfl, hb, hc, row_N hcell⟩
  · have h3 := le_sum szN hc
    have h4 : szN c ≤ 1048575 := by omega
    unfold szN at h4
    refine ⟨by omega, fun s hs => ?_, by omega⟩
    have := le_sum ByteArray.size hs
    omega
theorem open_Bs {fuel : Nat} {cs : List Value} {x : DataW H × List MemPlace} (h : DataW.trod enc Tryd.prog W 0 (fun _ => true) true fuel 30 cs = some x) :
    ∃ v l, cs = [v] ∧ IsB W v l ∧ (Rows.uptoBulk x.1 ≤ 1048576 → FineB l ∧ l.length ≤ 1048576) := by
  obtain ⟨l, a, cap, e, hr, h1, h2⟩ := open_row (α := Bd) Tryd.underlying30 cellsBound (by decide) (ElB W) szB open_bound h
  refine ⟨_, l, e, ⟨a, cap, rfl, ?_⟩, fun hx => ⟨fun c hc => ?_, by omega⟩⟩
  · rcases hr with rfl | ⟨b, off, rfl, hb, hc, hcell⟩
    · exact .inl rfl
    · exact .inr ⟨b, off, rfl, hb, by omega, row_B hcell⟩
  · have h3 := le_sum szB hc
    have h4 : szB c ≤ 1048575 := by omega
    unfold szB at h4
    refine ⟨by omega, ?_⟩
    rcases hr with rfl | ⟨b, off, rfl, hb, hc2, hcell⟩
    · cases hc
    · obtain ⟨j, hj⟩ := List.getElem?_of_mem hc
      obtain ⟨_, ⟨_, _, _, _, _, hs⟩, _⟩ := hcell j c hj
      exact hs
theorem open_Rs {fuel : Nat} {cs : List Value} {x : DataW H × List MemPlace} (h : DataW.trod enc Tryd.prog W 0 (fun _ => true) true fuel 31 cs = some x) :
    ∃ v l, cs = [v] ∧ IsR W v l ∧ (Rows.uptoBulk x.1 ≤ 1048576 → FineR l ∧ l.length ≤ 1048576) := by
  obtain ⟨l, a, cap, e, hr, h1, h2⟩ := open_row (α := Ro) Tryd.underlying31 cellsRows (by decide) (ElR W) szR open_rows h
  refine ⟨_, l, e, ⟨a, cap, rfl, ?_⟩, fun hx => ⟨fun c hc => ?_, by omega⟩⟩
  · rcases hr with rfl | ⟨b, off, rfl, hb, hc, hcell⟩
    · exact .inl rfl
    · exact .inr ⟨b, off, rfl, hb, by omega, row_R hcell⟩
  · have h3 := le_sum szR hc
    have h4 : szR c ≤ 1048575 := by omega
    unfold szR at h4
    omega
set_option maxRecDepth 100000 in
/-- An argument of the type api.Scene, opened. -/
theorem open_S {b0 : Nat} {v : Value} {d : DataW H} {p : List MemPlace}
    (hv : Value.okWide Tryd.prog W .any b0 33 v) (h : DataW.Trod enc Tryd.prog W 0 (fun _ => true) true 33 v d p) (hd : Rows.uptoBulk d ≤ 1048576) :
    ∃ (vC vL vB vR : Value) (C : List Cl) (L : List Ne) (B : List Bd) (R : List Ro), v = .agg #[vC, vL, vB, vR] ∧ IsC W vC C ∧ IsM W vL L ∧ IsB W vB B ∧ IsR W vR R ∧ FineC C ∧ FineL L ∧ FineB B ∧ FineR R ∧ C.length ≤ 1048576 ∧ L.length ≤ 1048576 ∧ B.length ≤ 1048576 ∧ R.length ≤ 1048576 := by
  obtain ⟨cs, rfl, _⟩ := okWide_struct Tryd.underlying33 hv
  obtain ⟨fuel, hf⟩ := h
  cases cs with
  | mk cs =>
    have hf' : DataW.trod enc Tryd.prog W 0 (fun _ => true) true fuel 33 cs = some (d, p) := hf
    obtain ⟨ys, n, _, hdd, hl, hlen, hf⟩ := DataW.trod_struct Tryd.underlying33 hf'
    rw [cellsScene] at hl
    obtain ⟨c0, c1, c2, c3, rfl⟩ : ∃ c0 c1 c2 c3, cs = [c0, c1, c2, c3] := by
      match cs, hl with
      | [a, b, c, d], _ => exact ⟨a, b, c, d, rfl⟩
    obtain ⟨y0, y1, y2, y3, rfl⟩ : ∃ y0 y1 y2 y3, ys = [y0, y1, y2, y3] := by
      match ys, hlen with
      | [a, b, c, d], _ => exact ⟨a, b, c, d, rfl⟩
    have h0 : DataW.trod enc Tryd.prog W 0 (fun _ => true) true n 28 (([c0, c1, c2, c3].drop 0).take (Tryd.prog.cellsOf 28)) = some y0 := hf 0 _ rfl
    have h1 : DataW.trod enc Tryd.prog W 0 (fun _ => true) true n 29 (([c0, c1, c2, c3].drop 1).take (Tryd.prog.cellsOf 29)) = some y1 := hf 1 _ rfl
    have h2 : DataW.trod enc Tryd.prog W 0 (fun _ => true) true n 30 (([c0, c1, c2, c3].drop 2).take (Tryd.prog.cellsOf 30)) = some y2 := hf 2 _ rfl
    have h3 : DataW.trod enc Tryd.prog W 0 (fun _ => true) true n 31 (([c0, c1, c2, c3].drop 3).take (Tryd.prog.cellsOf 31)) = some y3 := hf 3 _ rfl
    simp only [cellsCs, cellsNs, cellsBs, cellsRs, List.drop_zero, List.drop_succ_cons, List.take_succ_cons, List.take_zero] at h0 h1 h2 h3
    obtain ⟨vC, C, e0, hC, fC⟩ := open_Cs h0
    obtain ⟨vL, L, e1, hL, fL⟩ := open_Ns h1
    obtain ⟨vB, B, e2, hB, fB⟩ := open_Bs h2
    obtain ⟨vR, R, e3, hR, fR⟩ := open_Rs h3
    simp only [List.cons.injEq, and_true] at e0 e1 e2 e3
    subst e0 e1 e2 e3
    have hd2 : d = DataW.agg ([y0, y1, y2, y3].map (·.1)) := congrArg Prod.fst hdd
    rw [hd2] at hd
    simp only [List.map_cons, List.map_nil, Rows.uptoBulk, Rows.uptoBulkAll] at hd
    obtain ⟨a1, a2⟩ := fC (by omega)
    obtain ⟨a3, a4⟩ := fL (by omega)
    obtain ⟨a5, a6⟩ := fB (by omega)
    obtain ⟨a7, a8⟩ := fR (by omega)
    exact ⟨_, _, _, _, C, L, B, R, rfl, hC, hL, hB, hR, a1, a3, a5, a7, a2, a4, a6, a8⟩
set_option maxRecDepth 100000 in
/-- An argument of the type []string, opened. -/
theorem open_P {b0 : Nat} {v : Value} {d : DataW H} {p : List MemPlace}
    (hv : Value.okWide Tryd.prog W .any b0 34 v) (h : DataW.Trod enc Tryd.prog W 0 (fun _ => true) true 34 v d p) (hd : Rows.uptoBulk d ≤ 1048576) :
    ∃ pl, IsN W v pl ∧ pl.length ≤ 1048576 ∧ ∀ s ∈ pl, s.size ≤ 9223372036854775807 := by
  obtain ⟨a, n, c, rfl⟩ := okWide_slice Tryd.underlying34 hv
  obtain ⟨fuel, hf⟩ := h
  have hf' : DataW.trod enc Tryd.prog W 0 (fun _ => true) true fuel 34 [Value.slice a n c] = some (d, p) := hf
  obtain ⟨v', l, e, hN, h1, h2⟩ := open_N hf'
  simp only [List.cons.injEq, and_true] at e
  subst e
  refine ⟨l, hN, by simp only at h2; omega, fun s hs => ?_⟩
  have := le_sum ByteArray.size hs
  simp only at h1
  omega
end
end Go.Proofs.YtngijlmokhkdjaaDoor
