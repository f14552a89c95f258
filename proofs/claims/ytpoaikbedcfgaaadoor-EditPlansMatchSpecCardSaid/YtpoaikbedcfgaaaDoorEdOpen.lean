/-
  An argument of the type api.EditPlan, opened: the lists that it reads as.
-/
import Derived.Test.YtpoaikbedcfgaaaDoorEdLaw
import Derived.ProofKit
import Derived.OpenShut
import Derived.ShutString
import Derived.ChangeOld
import Derived.Deep.DeepHandedRow
import Derived.Lib.SmallJoins
namespace Go.Proofs.YtpoaikbedcfgaaaDoor
open Go.ChangeShapes Go.WideShapes Go.ChangeAt Go.RowKit Go.Joins

theorem laidOut : laidOutB Tryd.prog = true := by kernel_rfl
theorem own : ownKnob Tryd.prog.godebug = none := by kernel_rfl
theorem block_lt {W : World} {b o : Nat} {v : Value} (h : W.cell? ⟨b, o, none⟩ = some v) : b < W.heap.size := by
  rcases Nat.lt_or_ge b W.heap.size with l | l
  · exact l
  · simp [World.cell?, Array.getElem?_eq_none l] at h
theorem add_none (b off i : Nat) : (Addr.mk b off none).add i = ⟨b, off + i, none⟩ := by
  unfold Addr.add
  split
  · rename_i h; subst h; simp
  · rfl
theorem cellsI : Tryd.prog.cellsOf 3 = 1 := by kernel_rfl
theorem cellsTx : Tryd.prog.cellsOf 9 = 1 := by kernel_rfl
theorem cellsSI : Tryd.prog.cellsOf 35 = 1 := by kernel_rfl
theorem cellsSL : Tryd.prog.cellsOf 44 = 1 := by kernel_rfl
theorem cellsSF : Tryd.prog.cellsOf 22 = 1 := by kernel_rfl
theorem cellsSE : Tryd.prog.cellsOf 23 = 1 := by kernel_rfl
theorem cellsF : Tryd.prog.cellsOf 37 = 3 := by kernel_rfl
theorem cellsE : Tryd.prog.cellsOf 46 = 2 := by kernel_rfl
theorem cellsP : Tryd.prog.cellsOf 25 = 2 := by kernel_rfl
section
variable {H : Type} {enc : TypeId × Value → H} {W : World}
theorem bulk_all_cons {d : DataW H} {r : List (DataW H)} : Rows.uptoBulkAll (d :: r) = Rows.uptoBulk d + Rows.uptoBulkAll r := by simp only [Rows.uptoBulkAll]
/-- A slice, opened element by element. -/
theorem open_row {α : Type} {tS tE : TypeId} {m : Nat} (hS : Tryd.prog.underlying tS = some (.slice tE)) (hm : Tryd.prog.cellsOf tE = m) (h0 : 0 < m) (El : α → List Value → Prop) (size : α → Nat)
    (hEl : ∀ fuel cs y, DataW.trod enc Tryd.prog W 0 (fun _ => true) true fuel tE cs = some y → ∃ c, El c cs ∧ size c ≤ Rows.uptoBulk y.1)
    {fuel : Nat} {cs : List Value} {x : DataW H × List MemPlace} (h : DataW.trod enc Tryd.prog W 0 (fun _ => true) true fuel tS cs = some x) :
    ∃ (l : List α) (a : Option Addr) (cap : Nat), cs = [.slice a l.length cap] ∧ (l = [] ∨ ∃ b off, a = some ⟨b, off, none⟩ ∧ b < W.heap.size ∧ (l.length ≤ cap ∧ cap ≤ 9223372036854775807) ∧
      ∀ (j : Nat) (c : α), l[j]? = some c → ∃ cs', El c cs' ∧ ∀ i, i < m → W.cell? ⟨b, off + j * m + i, none⟩ = cs'[i]?) ∧ (l.map size).sum + 1 ≤ Rows.uptoBulk x.1 ∧ l.length + 1 ≤ Rows.uptoBulk x.1 := by
  have pos : ∀ d : DataW H, 1 ≤ Rows.uptoBulk d := fun d => by
    cases d with
    | lit v => cases v <;> simp only [Rows.uptoBulk] <;> omega
    | _ => simp only [Rows.uptoBulk]; omega
  rcases DataW.trod_slice hS h with ⟨e7, e8⟩ | ⟨a, len, cap, elems, rest, n, hn, e7, e8, _, hlc, hcm, hel, hat, _, _⟩
  · exact ⟨[], none, 0, e7, .inl rfl, by rw [e8]; simp [Rows.uptoBulk], by rw [e8]; simp [Rows.uptoBulk]⟩
  · have hel1 : Rows.uptoBulkAll (elems.map (·.1)) + 1 ≤ Rows.uptoBulk x.1 := by
      rw [e8]; simp only [Rows.uptoBulk]; omega
    unfold maxLen at hcm
    by_cases hl0 : len = 0
    · subst hl0
      exact ⟨[], some a, cap, e7, .inl rfl, by simp; omega, by simp; omega⟩
    rw [hm] at hat
    have each : ∀ i, i < len → ∃ cs' y, elems[i]? = some y ∧ W.cells? 0 (a.add (i * m)) m = some cs' ∧ DataW.trod enc Tryd.prog W 0 (fun _ => true) true n tE cs' = some y := by
      intro i hi
      have h5 := hat i hi
      have h6 : elems[i]? = some (elems[i]'(by omega)) := List.getElem?_eq_getElem (by omega)
      rw [h6] at h5
      obtain ⟨cs', h7, h8⟩ := Option.bind_eq_some_iff.1 h5
      exact ⟨cs', _, h6, h7, h8⟩
    obtain ⟨b, off, spot⟩ := a
    obtain ⟨hspot, hblk⟩ : spot = none ∧ b < W.heap.size := by
      obtain ⟨cs', y, _, h7, h8⟩ := each 0 (by omega)
      obtain ⟨hlen, _, hc⟩ := World.cells?_some h7
      have hc0 := hc 0 (by omega)
      have hx : ∃ v, cs'[0]? = some v := ⟨cs'[0]'(by omega), List.getElem?_eq_getElem (by omega)⟩
      obtain ⟨v, hv⟩ := hx
      rw [hv] at hc0
      have hs0 : spot = none := by
        simpa [Addr.add] using World.cell?_spot hc0
      subst hs0
      rw [add_none, add_none] at hc0
      exact ⟨rfl, block_lt hc0⟩
    subst hspot
    have row : ∀ j, j ≤ len → ∃ l : List α, l.length = j ∧ (l.map size).sum ≤ Rows.uptoBulkAll ((elems.drop (len - j)).map (·.1)) ∧ l.length ≤ Rows.uptoBulkAll ((elems.drop (len - j)).map (·.1)) ∧
        ∀ (i : Nat) (c : α), l[i]? = some c → ∃ cs', El c cs' ∧ ∀ q, q < m → W.cell? ⟨b, off + (len - j + i) * m + q, none⟩ = cs'[q]? := by
      intro j
      induction j with
      | zero => intro _; exact ⟨[], rfl, by simp, by simp, fun i c hi => by simp at hi⟩
      | succ j ihj =>
        intro hj
        obtain ⟨l, hx1, hx2, hx3, hx4⟩ := ihj (by omega)
        obtain ⟨cs', y, h6, h7, h8⟩ := each (len - (j + 1)) (by omega)
        obtain ⟨c, g1, g2⟩ := hEl _ _ _ h8
        obtain ⟨_, _, hc⟩ := World.cells?_some h7
        rw [add_none] at hc
        have cc : ∀ i, i < m → W.cell? ⟨b, off + (len - (j + 1)) * m + i, none⟩ = cs'[i]? := fun i hi => by
          rw [← add_none]; exact hc i hi
        have hdrop : elems.drop (len - (j + 1)) = y :: elems.drop (len - j) := by
          obtain ⟨hlt, he⟩ := List.getElem?_eq_some_iff.1 h6
          rw [List.drop_eq_getElem_cons hlt, he, show len - (j + 1) + 1 = len - j by omega]
        have hp := pos y.1
        refine ⟨c :: l, by simp [hx1], ?_, ?_, ?_⟩
        · rw [hdrop, List.map_cons, List.map_cons, List.sum_cons, bulk_all_cons]; omega
        · rw [hdrop, List.map_cons, List.length_cons, bulk_all_cons]; omega
        · intro i c' hi
          cases i with
          | zero =>
            simp only [List.getElem?_cons_zero, Option.some.injEq] at hi
            subst hi
            exact ⟨cs', g1, cc⟩
          | succ i =>
            obtain ⟨cs2, g3, g4⟩ := hx4 i c' (by simpa using hi)
            refine ⟨cs2, g3, fun q hq => ?_⟩
            rw [show len - (j + 1) + (i + 1) = len - j + i by omega]
            exact g4 q hq
    obtain ⟨l, hx1, hx2, hx3, hx4⟩ := row len (Nat.le_refl _)
    rw [Nat.sub_self, List.drop_zero] at hx2 hx3
    simp only [Nat.sub_self, Nat.zero_add] at hx4
    exact ⟨l, some ⟨b, off, none⟩, cap, by rw [e7, hx1], .inr ⟨b, off, rfl, hblk, ⟨by omega, by omega⟩, hx4⟩, by omega, by omega⟩


theorem open_i (fuel : Nat) (cs : List Value) (y : DataW H × List MemPlace) (h : DataW.trod enc Tryd.prog W 0 (fun _ => true) true fuel 3 cs = some y) : ∃ x : Int, cs = [.int .i64 x] ∧ 0 ≤ Rows.uptoBulk y.1 := by
  obtain ⟨i, e0, _, _⟩ := DataW.trod_int Tryd.underlying3 h
  exact ⟨i, e0, Nat.zero_le _⟩
theorem open_ints (fuel : Nat) (cs : List Value) (y : DataW H × List MemPlace) (h : DataW.trod enc Tryd.prog W 0 (fun _ => true) true fuel 35 cs = some y) :
    ∃ l : List Int, (∃ a c, cs = [.slice a l.length c] ∧ Rd W a l) ∧ 0 ≤ Rows.uptoBulk y.1 := by
  obtain ⟨l, a, cap, e, hr, _, _⟩ := open_row (α := Int) Tryd.underlying35 cellsI (by decide) (fun x cs => cs = [.int .i64 x]) (fun _ => 0) open_i h
  refine ⟨l, ⟨a, cap, e, ?_⟩, Nat.zero_le _⟩
  rcases hr with rfl | ⟨b, off, rfl, hb, hc, hr⟩
  · exact ⟨by simp, fun h => by simp at h⟩
  · refine ⟨by omega, fun _ => ⟨b, off, rfl, hb, fun j hj => ?_⟩⟩
    obtain ⟨cs', rfl, hq⟩ := hr j (fn l j) (by unfold fn; rw [List.getD, List.getElem?_eq_getElem hj]; simp)
    have := hq 0 (by omega)
    simpa using this
theorem open_sets (fuel : Nat) (cs : List Value) (y : DataW H × List MemPlace) (h : DataW.trod enc Tryd.prog W 0 (fun _ => true) true fuel 44 cs = some y) :
    ∃ l : List (List Int), (∃ a c, cs = [.slice a l.length c] ∧ RdL W a l) ∧ 0 ≤ Rows.uptoBulk y.1 := by
  obtain ⟨l, a, cap, e, hr, _, _⟩ := open_row (α := List Int) Tryd.underlying44 cellsSI (by decide) (fun x cs => ∃ a c, cs = [.slice a x.length c] ∧ Rd W a x) (fun _ => 0) open_ints h
  refine ⟨l, ⟨a, cap, e, ?_⟩, Nat.zero_le _⟩
  rcases hr with rfl | ⟨b, off, rfl, hb, hc, hr⟩
  · exact ⟨by simp, fun h => by simp at h⟩
  · refine ⟨by omega, fun _ => ⟨b, off, rfl, hb, fun j hj => ?_⟩⟩
    obtain ⟨cs', ⟨a', c', rfl, hR⟩, hq⟩ := hr j (st l j) (by unfold st; rw [List.getD, List.getElem?_eq_getElem hj]; simp)
    have := hq 0 (by omega)
    exact ⟨a', c', by simpa using this, hR⟩
set_option maxRecDepth 100000 in
theorem open_fd (fuel : Nat) (cs : List Value) (y : DataW H × List MemPlace) (h : DataW.trod enc Tryd.prog W 0 (fun _ => true) true fuel 37 cs = some y) :
    ∃ u : Fd, (∃ a c, cs = [.string u.nm, .slice a u.cs.length c, .int .i64 u.wt] ∧ Rd W a u.cs ∧ u.nm.size ≤ maxLen) ∧ 0 ≤ Rows.uptoBulk y.1 := by
  obtain ⟨ys, n, _, rfl, hl, hlen, hf⟩ := DataW.trod_struct Tryd.underlying37 h
  rw [cellsF] at hl
  obtain ⟨c0, c1, c2, rfl⟩ : ∃ c0 c1 c2, cs = [c0, c1, c2] := by
    match cs, hl with
    | [a, b, c], _ => exact ⟨a, b, c, rfl⟩
  obtain ⟨y0, y1, y2, rfl⟩ : ∃ y0 y1 y2, ys = [y0, y1, y2] := by
    match ys, hlen with
    | [a, b, c], _ => exact ⟨a, b, c, rfl⟩
  have h0 : DataW.trod enc Tryd.prog W 0 (fun _ => true) true n 9 (([c0, c1, c2].drop 0).take (Tryd.prog.cellsOf 9)) = some y0 := hf 0 _ rfl
  have h1 : DataW.trod enc Tryd.prog W 0 (fun _ => true) true n 35 (([c0, c1, c2].drop 1).take (Tryd.prog.cellsOf 35)) = some y1 := hf 1 _ rfl
  have h2 : DataW.trod enc Tryd.prog W 0 (fun _ => true) true n 3 (([c0, c1, c2].drop 2).take (Tryd.prog.cellsOf 3)) = some y2 := hf 2 _ rfl
  simp only [cellsI, cellsTx, cellsSI, List.drop_zero, List.drop_succ_cons, List.take_succ_cons, List.take_zero] at h0 h1 h2
  obtain ⟨s, e0, _, hs⟩ := DataW.trod_string Tryd.underlying9 h0
  obtain ⟨l, ⟨a, c, e1, hR⟩, _⟩ := open_ints _ _ _ h1
  obtain ⟨z, e2, _, _⟩ := DataW.trod_int Tryd.underlying3 h2
  simp only [List.cons.injEq, and_true] at e0 e1 e2
  subst e0 e1 e2
  exact ⟨⟨s, l, z⟩, ⟨a, c, rfl, hR, hs⟩, Nat.zero_le _⟩
set_option maxRecDepth 100000 in
theorem open_ed (fuel : Nat) (cs : List Value) (y : DataW H × List MemPlace) (h : DataW.trod enc Tryd.prog W 0 (fun _ => true) true fuel 46 cs = some y) :
    ∃ u : Ed, (∃ a c, cs = [.string u.nm, .slice a u.ss.length c] ∧ RdL W a u.ss ∧ u.nm.size ≤ maxLen) ∧ 0 ≤ Rows.uptoBulk y.1 := by
  obtain ⟨ys, n, _, rfl, hl, hlen, hf⟩ := DataW.trod_struct Tryd.underlying46 h
  rw [cellsE] at hl
  obtain ⟨c0, c1, rfl⟩ : ∃ c0 c1, cs = [c0, c1] := by
    match cs, hl with
    | [a, b], _ => exact ⟨a, b, rfl⟩
  obtain ⟨y0, y1, rfl⟩ : ∃ y0 y1, ys = [y0, y1] := by
    match ys, hlen with
    | [a, b], _ => exact ⟨a, b, rfl⟩
  have h0 : DataW.trod enc Tryd.prog W 0 (fun _ => true) true n 9 (([c0, c1].drop 0).take (Tryd.prog.cellsOf 9)) = some y0 := hf 0 _ rfl
  have h1 : DataW.trod enc Tryd.prog W 0 (fun _ => true) true n 44 (([c0, c1].drop 1).take (Tryd.prog.cellsOf 44)) = some y1 := hf 1 _ rfl
  simp only [cellsTx, cellsSL, List.drop_zero, List.drop_succ_cons, List.take_succ_cons, List.take_zero] at h0 h1
  obtain ⟨s, e0, _, hs⟩ := DataW.trod_string Tryd.underlying9 h0
  obtain ⟨l, ⟨a, c, e1, hR⟩, _⟩ := open_sets _ _ _ h1
  simp only [List.cons.injEq, and_true] at e0 e1
  subst e0 e1
  exact ⟨⟨s, l⟩, ⟨a, c, rfl, hR, hs⟩, Nat.zero_le _⟩
theorem open_fds {fuel : Nat} {cs : List Value} {y : DataW H × List MemPlace} (h : DataW.trod enc Tryd.prog W 0 (fun _ => true) true fuel 22 cs = some y) :
    ∃ (l : List Fd) (a : Option Addr) (c : Nat), cs = [.slice a l.length c] ∧ RdF W a l ∧ (∀ u, u ∈ l → u.nm.size ≤ maxLen) ∧ l.length ≤ c := by
  obtain ⟨l, a, cap, e, hr, _, _⟩ := open_row (α := Fd) Tryd.underlying22 cellsF (by decide) (fun u cs => ∃ a c, cs = [.string u.nm, .slice a u.cs.length c, .int .i64 u.wt] ∧ Rd W a u.cs ∧ u.nm.size ≤ maxLen) (fun _ => 0) open_fd h
  refine ⟨l, a, cap, e, ?_⟩
  rcases hr with rfl | ⟨b, off, rfl, hb, hc, hr⟩
  · exact ⟨⟨by simp, fun h => by simp at h⟩, (fun u hu => by cases hu), by simp⟩
  · refine ⟨⟨by omega, fun _ => ⟨b, off, rfl, hb, fun j hj => ?_⟩⟩, fun u hu => ?_, hc.1⟩
    · obtain ⟨cs', ⟨a', c', rfl, hR, _⟩, hq⟩ := hr j (fd l j) (by unfold fd; rw [List.getD, List.getElem?_eq_getElem hj]; simp)
      exact ⟨hq 0 (by omega), ⟨a', c', hq 1 (by omega), hR⟩, hq 2 (by omega)⟩
    · obtain ⟨j, hj, rfl⟩ := List.mem_iff_getElem.1 hu
      obtain ⟨cs', ⟨_, _, _, _, hs⟩, _⟩ := hr j l[j] (List.getElem?_eq_getElem hj)
      exact hs
theorem open_eds {fuel : Nat} {cs : List Value} {y : DataW H × List MemPlace} (h : DataW.trod enc Tryd.prog W 0 (fun _ => true) true fuel 23 cs = some y) :
    ∃ (l : List Ed) (a : Option Addr) (c : Nat), cs = [.slice a l.length c] ∧ RdE W a l ∧ (∀ u, u ∈ l → u.nm.size ≤ maxLen) ∧ l.length ≤ c := by
  obtain ⟨l, a, cap, e, hr, _, _⟩ := open_row (α := Ed) Tryd.underlying23 cellsE (by decide) (fun u cs => ∃ a c, cs = [.string u.nm, .slice a u.ss.length c] ∧ RdL W a u.ss ∧ u.nm.size ≤ maxLen) (fun _ => 0) open_ed h
  refine ⟨l, a, cap, e, ?_⟩
  rcases hr with rfl | ⟨b, off, rfl, hb, hc, hr⟩
  · exact ⟨⟨by simp, fun h => by simp at h⟩, (fun u hu => by cases hu), by simp⟩
  · refine ⟨⟨by omega, fun _ => ⟨b, off, rfl, hb, fun j hj => ?_⟩⟩, fun u hu => ?_, hc.1⟩
    · obtain ⟨cs', ⟨a', c', rfl, hR, _⟩, hq⟩ := hr j (ed l j) (by unfold ed; rw [List.getD, List.getElem?_eq_getElem hj]; simp)
      exact ⟨hq 0 (by omega), a', c', hq 1 (by omega), hR⟩
    · obtain ⟨j, hj, rfl⟩ := List.mem_iff_getElem.1 hu
      obtain ⟨cs', ⟨_, _, _, _, hs⟩, _⟩ := hr j l[j] (List.getElem?_eq_getElem hj)
      exact hs
set_option maxRecDepth 100000 in
theorem open_plan {b0 : Nat} {v : Value} {d : DataW H} {p : List MemPlace} (hv : Value.okWide Tryd.prog W .any b0 25 v) (h : DataW.Trod enc Tryd.prog W 0 (fun _ => true) true 25 v d p) :
    ∃ (l : List Fd) (a : Option Addr) (c : Nat) (E : List Ed) (a2 : Option Addr) (c2 : Nat), v = .agg #[.slice a l.length c, .slice a2 E.length c2] ∧ RdF W a l ∧ RdE W a2 E ∧ (∀ u, u ∈ l → u.nm.size ≤ maxLen) ∧ (∀ u, u ∈ E → u.nm.size ≤ maxLen) ∧ l.length ≤ c ∧ E.length ≤ c2 := by
  obtain ⟨cs, rfl, _⟩ := okWide_struct Tryd.underlying25 hv
  obtain ⟨fuel, hf⟩ := h
  cases cs with
  | mk cs =>
    have hf' : DataW.trod enc Tryd.prog W 0 (fun _ => true) true fuel 25 cs = some (d, p) := hf
    obtain ⟨ys, n, _, hdd, hl, hlen, hf⟩ := DataW.trod_struct Tryd.underlying25 hf'
    rw [cellsP] at hl
    obtain ⟨c0, c1, rfl⟩ : ∃ c0 c1, cs = [c0, c1] := by
      match cs, hl with
      | [a, b], _ => exact ⟨a, b, rfl⟩
    obtain ⟨y0, y1, rfl⟩ : ∃ y0 y1, ys = [y0, y1] := by
      match ys, hlen with
      | [a, b], _ => exact ⟨a, b, rfl⟩
    have h0 : DataW.trod enc Tryd.prog W 0 (fun _ => true) true n 22 (([c0, c1].drop 0).take (Tryd.prog.cellsOf 22)) = some y0 := hf 0 _ rfl
    have h1 : DataW.trod enc Tryd.prog W 0 (fun _ => true) true n 23 (([c0, c1].drop 1).take (Tryd.prog.cellsOf 23)) = some y1 := hf 1 _ rfl
    simp only [cellsSF, cellsSE, List.drop_zero, List.drop_succ_cons, List.take_succ_cons, List.take_zero] at h0 h1
    obtain ⟨l, a, c, e0, hF, hs, hc⟩ := open_fds h0
    obtain ⟨E, a2, c2, e1, hE, hs2, hc2⟩ := open_eds h1
    simp only [List.cons.injEq, and_true] at e0 e1
    subst e0 e1
    exact ⟨l, a, c, E, a2, c2, rfl, hF, hE, hs, hs2, hc, hc2⟩
end
end Go.Proofs.YtpoaikbedcfgaaaDoor
