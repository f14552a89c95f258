/-
  An argument of the type api.Expr, opened: what memory holds of it reads as a tree, of no more parts than its bulk.
  From what the row's list gives to what the walks need of memory.
  ValueFormsMatchSpec, the second form: for every expression of bulk at most 1048576 the law returns true: the form of an expression, how it is printed, and its names are as the reference has them. It speaks of the program whose listed package-level variables read as the program's text lays them (the card ties them).
-/
import Derived.Test.YtcdifmnakppfkaaGreatDoorExMath
import Derived.Test.YtcdifmnakppfkaaGreatDoorExSpec
import Derived.Test.YtcdifmnakppfkaaGreatDoorTxtBase
import Derived.Test.YtcdifmnakppfkaaGreatDoorCards
import Derived.Test.YtcdifmnakppfkaaGreatDoorTie
import Derived.Test.YtcdifmnakppfkaaGreatDoorTxtLib
import Derived.Deep.DeepHandedRow
import Derived.Lib.LaidTab
import Derived.Lib.LaidU8
import Derived.LaidSub
import Derived.LaidLaws
import Derived.MakeChecks
import Derived.Test.YtcdifmnakppfkaaGreatDoorExLaw
import Derived.Deep.DeepWitnessRowRef
namespace Go.Proofs.YtcdifmnakppfkaaGreatDoor
open Go.ChangeShapes Go.WideShapes Go.ChangeAt Go.RowKit Go.Joins

theorem cellsExpr : Tryz.prog.cellsOf 27 = 8 := by kernel_rfl
theorem cellsI : Tryz.prog.cellsOf 3 = 1 := by kernel_rfl
theorem cellsS : Tryz.prog.cellsOf 9 = 1 := by kernel_rfl
theorem cellsL : Tryz.prog.cellsOf 22 = 1 := by kernel_rfl
theorem cellsR : Tryz.prog.cellsOf 25 = 1 := by kernel_rfl
theorem add_none (b off i : Nat) : (Addr.mk b off none).add i = ⟨b, off + i, none⟩ := by
  unfold Addr.add
  split
  · rename_i h; subst h; rfl
  · rfl

section
variable {H : Type} {enc : TypeId × Value → H} {W : World}
/-- A slice of ints, opened. -/
theorem open_L {fuel : Nat} {cs : List Value} {x : DataW H × List MemPlace} (h : DataW.trod enc Tryz.prog W 0 (fun _ => true) true fuel 22 cs = some x) : ∃ sv l, cs = [sv] ∧ IsL W sv l := by
  rcases open_ints Tryz.underlying22 Tryz.underlying3 cellsI h with ⟨e3, _⟩ | ⟨x, l, c, zs, e3, _, hl, hm, hz, _, hcell, _⟩
  · exact ⟨_, [], e3, .inl ⟨none, 0, rfl, rfl⟩⟩
  · subst e3
    simp only [if_true] at hz
    by_cases hl0 : l = 0
    · subst hl0
      exact ⟨_, [], rfl, .inl ⟨some x, c, rfl, rfl⟩⟩
    · obtain ⟨b, off, spot⟩ := x
      have hc := hcell 0 (by omega)
      have hspot : spot = none := by simpa [Addr.add] using World.cell?_spot hc
      subst hspot
      have hlen : (zs.take l).length = l := by simp; omega
      have hc' : ∀ i, i < zs.length → W.cell? ⟨b, off + i, none⟩ = some (.int .i64 (zs.getD i 0)) := fun i hi => by
        rw [← add_none]; exact hcell i hi
      have hl2 : l ≤ 9223372036854775807 := by unfold maxLen at hm; omega
      refine ⟨_, zs.take l, rfl, .inr ⟨b, off, c, by simp only [hlen], by simp only [hlen]; omega, by simp only [hlen]; exact hl2, block_lt (hc' 0 (by omega)), fun j hj => ?_⟩⟩
      simp only [hlen] at hj
      show _ = some (Value.int .i64 ((zs.take l).getD j 0))
      rw [getD_take _ _ _ hj]
      exact hc' j (by omega)
set_option maxRecDepth 100000 in
/-- A value, opened in its cells. -/
theorem open_val {fuel : Nat} {cs : List Value} {x : DataW H × List MemPlace} (h : DataW.trod enc Tryz.prog W 0 (fun _ => true) true fuel 24 cs = some x) :
    ∃ k n s sv l, cs = [.int .i64 k, .int .i64 n, .string s, sv] ∧ IsL W sv l ∧ s.size ≤ 9223372036854775807 := by
  obtain ⟨ys, n, _, _, hl, hlen, hf⟩ := DataW.trod_struct Tryz.underlying24 h
  rw [cells24] at hl
  obtain ⟨c0, c1, c2, c3, rfl⟩ : ∃ c0 c1 c2 c3, cs = [c0, c1, c2, c3] := by
    match cs, hl with
    | [a, b, c, d], _ => exact ⟨a, b, c, d, rfl⟩
  obtain ⟨y0, y1, y2, y3, rfl⟩ : ∃ y0 y1 y2 y3, ys = [y0, y1, y2, y3] := by
    match ys, hlen with
    | [a, b, c, d], _ => exact ⟨a, b, c, d, rfl⟩
  have h0 : DataW.trod enc Tryz.prog W 0 (fun _ => true) true n 3 (([c0, c1, c2, c3].drop 0).take (Tryz.prog.cellsOf 3)) = some y0 := hf 0 _ rfl
  have h1 : DataW.trod enc Tryz.prog W 0 (fun _ => true) true n 3 (([c0, c1, c2, c3].drop 1).take (Tryz.prog.cellsOf 3)) = some y1 := hf 1 _ rfl
  have h2 : DataW.trod enc Tryz.prog W 0 (fun _ => true) true n 9 (([c0, c1, c2, c3].drop 2).take (Tryz.prog.cellsOf 9)) = some y2 := hf 2 _ rfl
  have h3 : DataW.trod enc Tryz.prog W 0 (fun _ => true) true n 22 (([c0, c1, c2, c3].drop 3).take (Tryz.prog.cellsOf 22)) = some y3 := hf 3 _ rfl
  simp only [cellsI, cellsS, cellsL, List.drop_zero, List.drop_succ_cons, List.take_succ_cons, List.take_zero] at h0 h1 h2 h3
  obtain ⟨k, e0, _, _⟩ := DataW.trod_int Tryz.underlying3 h0
  obtain ⟨m, e1, _, _⟩ := DataW.trod_int Tryz.underlying3 h1
  obtain ⟨s, e2, _, hs⟩ := DataW.trod_string Tryz.underlying9 h2
  obtain ⟨sv, l, e3, hL⟩ := open_L h3
  simp only [List.cons.injEq, and_true] at e0 e1 e2 e3
  subst e0 e1 e2 e3
  unfold maxLen at hs
  exact ⟨k, m, s, _, l, rfl, hL, hs⟩

set_option maxRecDepth 100000 in
/-- An expression, opened in its cells. -/
theorem open_E : ∀ (fuel : Nat) (cs : List Value) (x : DataW H × List MemPlace), DataW.trod enc Tryz.prog W 0 (fun _ => true) true fuel 27 cs = some x →
    ∃ (h : Hd) (xs : Fo) (sv : Value) (a : Option Addr) (n c : Nat), cs = [.int .i64 h.k, .int .i64 h.o, .string h.nm, .int .i64 h.vk, .int .i64 h.vn, .string h.vs, sv, .slice a n c] ∧ IsL W sv h.vl ∧ n = xs.len ∧
      (n = 0 ∨ ∃ b off, a = some ⟨b, off, none⟩ ∧ b < W.heap.size ∧ IsF W b xs off) ∧ xs.parts + 1 ≤ Rows.uptoBulk x.1 ∧ h.vs.size ≤ 9223372036854775807 ∧ xs.fine := by
  intro fuel
  induction fuel using Nat.strongRecOn with
  | ind fuel ih =>
  intro cs x h
  obtain ⟨ys, n, hfu, rfl, hl, hlen, hf⟩ := DataW.trod_struct Tryz.underlying27 h
  rw [cellsExpr] at hl
  obtain ⟨c0, c1, c2, c3, c4, c5, c6, c7, rfl⟩ : ∃ c0 c1 c2 c3 c4 c5 c6 c7, cs = [c0, c1, c2, c3, c4, c5, c6, c7] := by
    match cs, hl with
    | [a, b, c, d, e, f, g, i], _ => exact ⟨a, b, c, d, e, f, g, i, rfl⟩
  obtain ⟨y0, y1, y2, y3, y4, rfl⟩ : ∃ y0 y1 y2 y3 y4, ys = [y0, y1, y2, y3, y4] := by
    match ys, hlen with
    | [a, b, c, d, e], _ => exact ⟨a, b, c, d, e, rfl⟩
  have h0 : DataW.trod enc Tryz.prog W 0 (fun _ => true) true n 3 (([c0, c1, c2, c3, c4, c5, c6, c7].drop 0).take (Tryz.prog.cellsOf 3)) = some y0 := hf 0 _ rfl
  have h1 : DataW.trod enc Tryz.prog W 0 (fun _ => true) true n 3 (([c0, c1, c2, c3, c4, c5, c6, c7].drop 1).take (Tryz.prog.cellsOf 3)) = some y1 := hf 1 _ rfl
  have h2 : DataW.trod enc Tryz.prog W 0 (fun _ => true) true n 9 (([c0, c1, c2, c3, c4, c5, c6, c7].drop 2).take (Tryz.prog.cellsOf 9)) = some y2 := hf 2 _ rfl
  have h3 : DataW.trod enc Tryz.prog W 0 (fun _ => true) true n 24 (([c0, c1, c2, c3, c4, c5, c6, c7].drop 3).take (Tryz.prog.cellsOf 24)) = some y3 := hf 3 _ rfl
  have h4 : DataW.trod enc Tryz.prog W 0 (fun _ => true) true n 25 (([c0, c1, c2, c3, c4, c5, c6, c7].drop 7).take (Tryz.prog.cellsOf 25)) = some y4 := hf 4 _ rfl
  simp only [cellsI, cellsS, cellsR, cells24, List.drop_zero, List.drop_succ_cons, List.take_succ_cons, List.take_zero] at h0 h1 h2 h3 h4
  obtain ⟨k, e0, _, _⟩ := DataW.trod_int Tryz.underlying3 h0
  obtain ⟨o, e1, _, _⟩ := DataW.trod_int Tryz.underlying3 h1
  obtain ⟨nm, e2, _, _⟩ := DataW.trod_string Tryz.underlying9 h2
  obtain ⟨vk, vn, vs, sv, l, e3, hL, hs⟩ := open_val h3
  simp only [List.cons.injEq, and_true] at e0 e1 e2 e3
  obtain ⟨e3, e4, e5, e6⟩ := e3
  subst e0 e1 e2 e3 e4 e5 e6
  have hbulk : Rows.uptoBulk y4.1 + 1 ≤ Rows.uptoBulk (DataW.agg ([y0, y1, y2, y3, y4].map (·.1))) := by
    simp only [List.map_cons, List.map_nil, Rows.uptoBulk, Rows.uptoBulkAll]; omega
  rcases DataW.trod_slice Tryz.underlying25 h4 with ⟨e7, _⟩ | ⟨a, len, cap, elems, rest, m, hm, e7, e8, _, _, _, hel, hat, _, _⟩
  · simp only [List.cons.injEq, and_true] at e7
    subst e7
    exact ⟨⟨k, o, nm, vk, vn, vs, l⟩, .nil, _, none, 0, 0, rfl, hL, rfl, .inl rfl, by simp only [Fo.parts]; omega, hs, by simp only [Fo.fine]⟩
  · simp only [List.cons.injEq, and_true] at e7
    subst e7
    have hel1 : Rows.uptoBulkAll (elems.map (·.1)) + 1 ≤ Rows.uptoBulk y4.1 := by
      rw [e8]; simp only [Rows.uptoBulk]; omega
    by_cases hl0 : len = 0
    · exact ⟨⟨k, o, nm, vk, vn, vs, l⟩, .nil, _, some a, len, cap, rfl, hL, hl0, .inl hl0, by simp only [Fo.parts]; omega, hs, by simp only [Fo.fine]⟩
    rw [cellsExpr] at hat
    have each : ∀ i, i < len → ∃ cs' y, elems[i]? = some y ∧ W.cells? 0 (a.add (i * 8)) 8 = some cs' ∧ DataW.trod enc Tryz.prog W 0 (fun _ => true) true m 27 cs' = some y := by
      intro i hi
      have h5 := hat i hi
      have h6 : elems[i]? = some (elems[i]'(by omega)) := List.getElem?_eq_getElem (by omega)
      rw [h6] at h5
      obtain ⟨cs', h7, h8⟩ := Option.bind_eq_some_iff.1 h5
      exact ⟨cs', _, h6, h7, h8⟩
    obtain ⟨b, off, spot⟩ := a
    obtain ⟨hspot, hblk⟩ : spot = none ∧ b < W.heap.size := by
      obtain ⟨cs', y, _, h7, h8⟩ := each 0 (by omega)
      obtain ⟨_, _, _, _, _, _, rfl, _⟩ := ih m (by omega) _ _ h8
      obtain ⟨_, _, hc⟩ := World.cells?_some h7
      have hc0 := hc 0 (by omega)
      have hs0 : spot = none := by
        simpa [Addr.add] using World.cell?_spot hc0
      subst hs0
      rw [add_none, add_none] at hc0
      exact ⟨rfl, block_lt hc0⟩
    subst hspot
    have row : ∀ j, j ≤ len → ∃ xs : Fo, xs.len = j ∧ xs.parts ≤ Rows.uptoBulkAll ((elems.drop (len - j)).map (·.1)) ∧ xs.fine ∧ IsF W b xs (off + (len - j) * 8) := by
      intro j
      induction j with
      | zero => intro _; exact ⟨.nil, rfl, by simp only [Fo.parts]; omega, by simp only [Fo.fine], by simp only [IsF]⟩
      | succ j ihj =>
        intro hj
        obtain ⟨xs, hx1, hx2, hx3, hx4⟩ := ihj (by omega)
        obtain ⟨cs', y, h6, h7, h8⟩ := each (len - (j + 1)) (by omega)
        obtain ⟨h', xs', sv', a', n', c', rfl, g1, g2, g3, g4, g5, g6⟩ := ih m (by omega) _ _ h8
        obtain ⟨_, _, hc⟩ := World.cells?_some h7
        rw [add_none] at hc
        have cc : ∀ i, i < 8 → W.cell? ⟨b, off + (len - (j + 1)) * 8 + i, none⟩ = [Value.int .i64 h'.k, .int .i64 h'.o, .string h'.nm, .int .i64 h'.vk, .int .i64 h'.vn, .string h'.vs, sv', .slice a' n' c'][i]? := fun i hi => by
          rw [← add_none]; exact hc i hi
        have hdrop : elems.drop (len - (j + 1)) = y :: elems.drop (len - j) := by
          obtain ⟨hlt, he⟩ := List.getElem?_eq_some_iff.1 h6
          rw [List.drop_eq_getElem_cons hlt, he, show len - (j + 1) + 1 = len - j by omega]
        refine ⟨.cons h' xs' xs, by simp only [Fo.len, hx1], ?_, ?_, ?_⟩
        · rw [hdrop]
          simp only [List.map_cons, Rows.uptoBulkAll, Fo.parts]
          omega
        · simp only [Fo.fine]; exact ⟨g5, g6, hx3⟩
        · simp only [IsF]
          refine ⟨⟨sv', a', n', c', cc 0 (by omega), cc 1 (by omega), cc 2 (by omega), cc 3 (by omega), cc 4 (by omega), cc 5 (by omega), cc 6 (by omega), cc 7 (by omega), g1, g2, g3⟩, ?_⟩
          rw [show off + (len - (j + 1)) * 8 + 8 = off + (len - j) * 8 by omega]
          exact hx4
    obtain ⟨xs, hx1, hx2, hx3, hx4⟩ := row len (Nat.le_refl _)
    rw [Nat.sub_self, List.drop_zero] at hx2
    rw [Nat.sub_self, Nat.zero_mul, Nat.add_zero] at hx4
    exact ⟨⟨k, o, nm, vk, vn, vs, l⟩, xs, _, some ⟨b, off, none⟩, len, cap, rfl, hL, hx1.symm, .inr ⟨b, off, rfl, hblk, hx4⟩, Nat.le_trans (show xs.parts + 1 ≤ Rows.uptoBulk y4.1 + 1 by omega) hbulk, hs, hx3⟩

set_option maxRecDepth 100000 in
/-- An argument of the type api.Expr, opened. -/
theorem open_X {b0 : Nat} {v : Value} {d : DataW H} {p : List MemPlace}
    (hv : Value.okWide Tryz.prog W .any b0 27 v) (h : DataW.Trod enc Tryz.prog W 0 (fun _ => true) true 27 v d p) :
    ∃ (h : Hd) (xs : Fo), IsX W h xs v ∧ xs.parts + 1 ≤ Rows.uptoBulk d ∧ h.vs.size ≤ 9223372036854775807 ∧ xs.fine := by
  obtain ⟨cs, rfl, _⟩ := okWide_struct Tryz.underlying27 hv
  obtain ⟨fuel, hf⟩ := h
  obtain ⟨h, xs, sv, a, n, c, e, g1, g2, g3, g4, g5, g6⟩ := open_E fuel _ _ hf
  cases cs with
  | mk l =>
    have e' : l = _ := e
    subst e'
    exact ⟨h, xs, ⟨sv, a, n, c, rfl, g1, g2, g3⟩, g4, g5, g6⟩
end
end Go.Proofs.YtcdifmnakppfkaaGreatDoor

namespace Go.Proofs.YtcdifmnakppfkaaGreatDoor
open Go.ChangeShapes Go.WideShapes Go.ChangeAt Go.RowKit

def theLaid : List (String × DataW Unit) := Rows.valueFormsMatchSpecRow.laid
theorem noHandle : (theLaid.all fun x => x.2.handleName?.isNone) = true := by kernel_rfl
theorem plainLaid {W : World} (h : laidMetH Tryz.prog theLaid W) : laidMet Tryz.prog theLaid W := by
  rw [Go.MakeChecks.laidMetH_plain _ _ _ noHandle] at h; exact h
/-- One entry of the list. -/
theorem entry {W : World} (h : laidMetH Tryz.prog theLaid W) (n : String) (d : DataW Unit) (e : (theLaid.filter fun x => x.1 == n) = [(n, d)]) : laidMet Tryz.prog [(n, d)] W := by
  have := (plainLaid h).filter (fun x => x.1 == n)
  rw [e] at this; exact this

/-- A listed array of texts holds them. -/
theorem cells_of_strs {H : Type} {enc : TypeId × Value → H} {P : Program} {w : World} {base : Nat} {sp : Nat → Bool} {held : Bool} {fuel : Nat} {t e : TypeId} {n : Nat} {cs : List Value} {zs : List (List UInt8)} {p : List MemPlace}
    (ht : P.underlying t = some (.array n e)) (he : P.underlying e = some .string) (hce : P.cellsOf e = 1) (hct : P.cellsOf t = n)
    (h : DataW.trod enc P w base sp held fuel t cs = some (.agg (zs.map fun z => .lit (.string z)), p)) : cs = zs.map fun z => Value.string (bs z) := by
  cases fuel with
  | zero => simp [DataW.trod] at h
  | succ fuel =>
    simp only [DataW.trod, ht, hce, hct, Nat.mul_one] at h
    split at h
    · rename_i hl
      obtain ⟨xs, hm, hx⟩ := Option.map_eq_some_iff.1 h
      have hxs : xs.map (·.1) = zs.map fun z => (DataW.lit (.string z) : DataW H) := by
        have := congrArg Prod.fst hx
        simpa using this
      have hxl : xs.length = n := by simpa using Lib.mapM_length hm
      have hzl : zs.length = n := by
        have := congrArg List.length hxs
        simp at this
        omega
      apply List.ext_getElem?
      intro i
      by_cases hi : i < n
      · obtain ⟨b, hb, hf⟩ := Lib.mapM_at hm i i (by simp [hi])
        obtain ⟨s, hc, rfl, _⟩ := DataW.trod_string he hf
        have h1 : cs[i]? = some (.string s) := by
          have := congrArg (·[0]?) hc
          simpa [List.getElem?_take, List.getElem?_drop] using this
        have h2 : (xs.map (·.1))[i]? = some (DataW.lit (.string s.data.toList) : DataW H) := by simp [hb]
        rw [hxs] at h2
        simp only [List.getElem?_map, Option.map_eq_some_iff, DataW.lit.injEq, Lit.string.injEq] at h2
        obtain ⟨z', hz', rfl⟩ := h2
        simp [h1, hz', bs_of]
      · rw [List.getElem?_eq_none (by omega), List.getElem?_eq_none (by simp; omega)]
    · cases h

theorem cellsStr : Tryz.prog.cellsOf 9 = 1 := by kernel_rfl
/-- A listed variable that is an array of texts. -/
theorem strs_var {W : World} {name : String} {g : Nat} {t : TypeId} {n : Nat} {zs : List (List UInt8)} (h : laidMetH Tryz.prog theLaid W) (hg : Tryz.prog.globalNamed name = some g) (ht : (Tryz.prog.globals[g]?).map (·.type) = some t)
    (hu : Tryz.prog.underlying t = some (.array n 9)) (hct : Tryz.prog.cellsOf t = n) (he : (theLaid.filter fun x => x.1 == name) = [(name, .agg (zs.map fun z => .lit (.string z)))]) : ∀ o, W.cell? ⟨g, o, none⟩ = (zs.map fun z => Value.string (bs z))[o]? := by
  obtain ⟨ps, ⟨g', t', cs, fuel, p, q, hg', ht', hvar, hd, _, _⟩, _⟩ := entry h name _ he
  obtain rfl := Option.some.inj (hg.symm.trans hg')
  obtain rfl := Option.some.inj (ht.symm.trans ht')
  have e := cells_of_strs hu Tryz.underlying9 cellsStr hct hd
  intro o
  have h0 := World.var?_cell hg hvar o
  rw [h0]
  cases cs with
  | mk l => simp only at e; rw [e]; simp
theorem gReasons : Tryz.prog.globalNamed "canvass/value.reasons" = some 3 := by kernel_rfl
theorem gReasonsT : (Tryz.prog.globals[3]?).map (·.type) = some 84 := by kernel_rfl
theorem reasons_cells {W : World} (h : laidMetH Tryz.prog theLaid W) : ∀ o, W.cell? ⟨3, o, none⟩ = ([[100, 111, 110, 116, 107, 110, 111, 119], [114, 101, 102, 117, 115, 101, 100], [110, 111, 97, 110, 115, 119, 101, 114]].map fun z => Value.string (bs z))[o]? :=
  strs_var h gReasons gReasonsT Tryz.underlying84 (by kernel_rfl) (by kernel_rfl)
theorem gOps : Tryz.prog.globalNamed "canvass/value.opWords" = some 1 := by kernel_rfl
theorem gOpsT : (Tryz.prog.globals[1]?).map (·.type) = some 55 := by kernel_rfl
theorem ops_cells {W : World} (h : laidMetH Tryz.prog theLaid W) : ∀ o, W.cell? ⟨1, o, none⟩ = (opWL.map fun z => Value.string (bs z))[o]? :=
  strs_var h gOps gOpsT Tryz.underlying55 (by kernel_rfl) (by kernel_rfl)
theorem gOvs : Tryz.prog.globalNamed "canvass/value.overWords" = some 0 := by kernel_rfl
theorem gOvsT : (Tryz.prog.globals[0]?).map (·.type) = some 54 := by kernel_rfl
theorem ovs_cells {W : World} (h : laidMetH Tryz.prog theLaid W) : ∀ o, W.cell? ⟨0, o, none⟩ = (overWL.map fun z => Value.string (bs z))[o]? :=
  strs_var h gOvs gOvsT Tryz.underlying54 (by kernel_rfl) (by kernel_rfl)
theorem at_word {zs : List (List UInt8)} {o : Nat} (h : o < zs.length) : (zs.map fun z => Value.string (bs z))[o]? = some (Value.string (bs (zs.getD o []))) := by
  rw [List.getElem?_map, List.getElem?_eq_getElem h]; simp [h]

theorem gTab : Tryz.prog.globalNamed "canvass/value.lengths" = some 5 := by kernel_rfl
theorem gTabType : (Tryz.prog.globals[5]?).map (·.type) = some 168 := by kernel_rfl
theorem table {W : World} (h : laidMetH Tryz.prog theLaid W) : Lib.TabIs Tryz.prog W "canvass/value.lengths" .i64 [31, 28, 31, 30, 31, 30, 31, 31, 30, 31, 30, 31] :=
  Lib.tabIs_of_head (rest := []) gTab gTabType Tryz.underlying168 Tryz.underlying3 (by kernel_rfl) (by kernel_rfl) (entry h "canvass/value.lengths" _ (by kernel_rfl))
theorem gPowType : (Tryz.prog.globals[9]?).map (·.type) = some 174 := by kernel_rfl
theorem powData : Rows.laid_internal_strconv_uint64pow10 (H := Unit) = Lib.tabData .u64 Lib.pow10Tab := by kernel_rfl
theorem pow_tab {W : World} (h : laidMetH Tryz.prog theLaid W) : Lib.TabIs Tryz.prog W "internal/strconv.uint64pow10" .u64 Lib.pow10Tab :=
  Lib.tabIs_of_head (rest := []) gPow gPowType Tryz.underlying174 Tryz.underlying83 (by kernel_rfl) (by kernel_rfl) (by
    rw [← powData]; exact entry h "internal/strconv.uint64pow10" _ (by kernel_rfl))
theorem gSpaceType : (Tryz.prog.globals[2]?).map (·.type) = some 62 := by kernel_rfl
theorem spaceData : Rows.laid_strings_asciiSpace (H := Unit) = Lib.tabData .u8 Lib.asciiSpaceTab := by kernel_rfl
theorem space_tab {W : World} (h : laidMetH Tryz.prog theLaid W) : Lib.TabIs Tryz.prog W "strings.asciiSpace" .u8 Lib.asciiSpaceTab :=
  Lib.tabIs_of_head (rest := []) gSpace gSpaceType Tryz.underlying62 Tryz.underlying5 (by kernel_rfl) (by kernel_rfl) (by
    rw [← spaceData]; exact entry h "strings.asciiSpace" _ (by kernel_rfl))
theorem block_of {W : World} {b o : Nat} {v : Value} (h : W.cell? ⟨b, o, none⟩ = some v) : b < W.heap.size := by
  rcases Nat.lt_or_ge b W.heap.size with l | l
  · exact l
  · simp [World.cell?, Array.getElem?_eq_none l] at h

theorem gDb : Tryz.prog.globalNamed "math/bits.deBruijn64tab" = some 11 := by kernel_rfl
theorem gDbT : (Tryz.prog.globals[11]?).map (·.type) = some 178 := by kernel_rfl
set_option maxRecDepth 100000 in
/-- All that the walks need. -/
theorem env_of {W : World} (h : laidMetH Tryz.prog theLaid W) (hsh : W.ShapedOpen Tryz.prog) : Env W := by
  have t := table h
  have r := reasons_cells h
  have c0 := t.cell gTab 0 (by decide)
  have k0 : W.cell? ⟨3, 0, none⟩ = some (.string ⟨#[100, 111, 110, 116, 107, 110, 111, 119]⟩) := r 0
  have k1 : W.cell? ⟨3, 1, none⟩ = some (.string ⟨#[114, 101, 102, 117, 115, 101, 100]⟩) := r 1
  have k2 : W.cell? ⟨3, 2, none⟩ = some (.string ⟨#[110, 111, 97, 110, 115, 119, 101, 114]⟩) := r 2
  have hbig : 10 ≤ W.heap.size := by
    have h1 := entry h "math/bits.deBruijn64tab" Rows.laid_math_bits_deBruijn64tab (by kernel_rfl)
    have h2 := Lib.tabIs_of_head (rest := []) (k := .u8) (zs := [0, 1, 56, 2, 57, 49, 28, 3, 61, 58, 42, 50, 38, 29, 17, 4, 62, 47, 59, 36, 45, 43, 51, 22, 53, 39, 33, 30, 24, 18, 12, 5, 63, 55, 48, 27, 60, 41, 37, 16, 46, 35, 44, 21, 52, 32, 23, 11, 54, 26, 40, 15, 34, 20, 31, 10, 25, 14, 19, 9, 13, 8, 7, 6]) gDb gDbT Tryz.underlying178 Tryz.underlying5 (by kernel_rfl) (by kernel_rfl) h1
    have := block_of (h2.cell gDb 0 (by decide))
    omega
  have hops : ∀ o : Nat, 1 ≤ o → o ≤ 39 → W.cell? ⟨1, o, none⟩ = some (.string (bs (opW o))) := fun o _ h2 => (ops_cells h o).trans (at_word (Nat.lt_of_le_of_lt h2 (by decide)))
  have hovs : ∀ o : Nat, 1 ≤ o → o ≤ 6 → W.cell? ⟨0, o, none⟩ = some (.string (bs (overW o))) := fun o _ h2 => (ovs_cells h o).trans (at_word (Nat.lt_of_le_of_lt h2 (by decide)))
  exact ⟨⟨c0, t.cell gTab 1 (by decide), t.cell gTab 2 (by decide), t.cell gTab 3 (by decide), t.cell gTab 4 (by decide), t.cell gTab 5 (by decide), t.cell gTab 6 (by decide), t.cell gTab 7 (by decide), t.cell gTab 8 (by decide), t.cell gTab 9 (by decide), t.cell gTab 10 (by decide), t.cell gTab 11 (by decide), block_of c0⟩,
    pow_tab h, hops, hovs, space_tab h, Tryz.laysM154.s1_3 W hsh, k0, k1, k2, hbig⟩
end Go.Proofs.YtcdifmnakppfkaaGreatDoor

namespace Go.Proofs.YtcdifmnakppfkaaGreatDoor.lawForms
open Go.ChangeShapes Go.WideShapes Go.ChangeAt Go.RowKit

/-- A tree of bounded bulk has few parts. -/
theorem few_of {H : Type} {d : DataW H} (h : Rows.uptoSmall H ([d] ++ []) = true) : Rows.uptoBulk d ≤ 1048576 := by
  have h1 := of_decide_eq_true h
  simp only [List.append_nil, Rows.uptoBulkAll] at h1
  omega

set_option maxRecDepth 100000 in
theorem contract (H : Type) (enc : TypeId × Value → H) (W : World) (base : Nat) (args : Array Value) (ds gs : List (DataW H)) (before : List MemPlace)
    (hval : ∀ (j : Nat) t v, Tryz.f3.params[j]? = some t → args[j]? = some v → Value.okWide Tryz.prog W .any base t v)
    (hW : DataW.Whole enc Tryz.prog Tryz.f3.params.toList Rows.valueFormsMatchSpecSpec.vars false W args.toList ds gs before) (hL : laidMetH Tryz.prog theLaid W) (hsh : W.ShapedOpen Tryz.prog)
    (hk : Rows.uptoSmall H (ds ++ gs) = true) :
    Calls Tryz.prog 3 args W fun e W' => ∃ v, e = .returned v ∧ Rows.valueFormsMatchSpecSpec.post enc Tryz.prog Tryz.f3 false true false false W args v W' := by
  have hW' := hW
  obtain ⟨p, q, hA0, hV, rfl, hfz, hnd⟩ := hW
  have hA : DataW.TrodAll enc Tryz.prog W 0 (fun _ => true) true Tryz.f3.params.toList args.toList ds p := hA0
  rw [Tryz.params3] at hA hval
  obtain ⟨v0, vs0, d0, ds0, p0, q0, hargs, rfl, rfl, h0, r0⟩ := trodAll_cons hA
  obtain ⟨rfl, rfl, rfl⟩ := trodAll_nil r0
  obtain rfl : args = #[v0] := by cases args; simp_all
  obtain ⟨rfl, rfl⟩ := trodVars_none hV
  have k0 := h0
  have lt0 : ∀ x ∈ p0, x.block < W.heap.size := by obtain ⟨m, hm⟩ := k0; exact DataW.trod_lt m _ _ _ hm
  obtain ⟨h, xs, hx, hp, hz, hf⟩ := open_X (hval 0 27 v0 rfl rfl) h0
  clear hA0
  have hsz := few_of hk
  refine (law_forms h xs v0 W (env_of hL hsh) hx (by omega) hz hf).mono fun e W' ⟨he, bel⟩ => ?_
  subst he
  exact ⟨_, rfl, _, _, _, [], _, [], hW', trodAll_mk1 (shut_bool Tryz.underlying4 _), (trodAll_cons_mk (Below.trod laidOut (by kernel_rfl) (of_decide_eq_true (by kernel_rfl)) k0 bel lt0) trodAll_mk0), rfl, bel.frame _, fun h => by cases h⟩

/-! ### A world for the witness. -/
noncomputable def low : Nat := (World.holding Tryz.prog default ⟨#[], #[], []⟩).heap.size
def tabU8 (l : List Nat) : Array Value := (l.map fun (z : Nat) => Value.int .u8 (z : Int)).toArray
def put (h : Array Obj) (g : Nat) (cs : Array Value) : Array Obj := h.modify g fun
  | .cells _ t frozen => .cells cs t frozen
  | o => o
noncomputable def laidWorld (os : Os) : World :=
  let w0 := World.holding Tryz.prog os ⟨#[.cells ([9, 13, 1, 32, 133, 101, 160, 5760, 5600, 8192, 8202, 1, 8232, 8233, 1, 8239, 8287, 48, 12288, 12288, 1].map fun (z : Nat) => Value.int .u16 (z : Int)).toArray 143, .cells #[.slice (some ⟨low, 0, none⟩) 7 7, .slice none 0 0, .int .i64 2] 140], #[], []⟩
  let h0 := put w0.heap 3 #[.string (bs [100, 111, 110, 116, 107, 110, 111, 119]), .string (bs [114, 101, 102, 117, 115, 101, 100]), .string (bs [110, 111, 97, 110, 115, 119, 101, 114])]
  let h1 := put h0 5 #[.int .i64 31, .int .i64 28, .int .i64 31, .int .i64 30, .int .i64 31, .int .i64 30, .int .i64 31, .int .i64 31, .int .i64 30, .int .i64 31, .int .i64 30, .int .i64 31]
  let h2 := put h1 7 (tabU8 Go.Pinned.utf8FirstZ)
  let h3 := put h2 8 (tabU8 [128, 191, 160, 191, 128, 159, 144, 191, 128, 143, 0, 0, 0, 0, 0, 0, 0, 0, 0, 0, 0, 0, 0, 0, 0, 0, 0, 0, 0, 0, 0, 0])
  let h4 := put h3 9 (Lib.pow10Tab.map fun z => Value.int .u64 z).toArray
  let h5 := put h4 1 (opWL.map fun z => Value.string (bs z)).toArray
  let h6 := put h5 0 (overWL.map fun z => Value.string (bs z)).toArray
  let h7 := put h6 10 (tabU8 [0, 1, 28, 2, 29, 14, 24, 3, 30, 22, 20, 15, 25, 17, 4, 8, 31, 27, 13, 23, 21, 19, 16, 7, 26, 12, 18, 6, 11, 5, 10, 9])
  let h8 := put h7 11 (tabU8 [0, 1, 56, 2, 57, 49, 28, 3, 61, 58, 42, 50, 38, 29, 17, 4, 62, 47, 59, 36, 45, 43, 51, 22, 53, 39, 33, 30, 24, 18, 12, 5, 63, 55, 48, 27, 60, 41, 37, 16, 46, 35, 44, 21, 52, 32, 23, 11, 54, 26, 40, 15, 34, 20, 31, 10, 25, 14, 19, 9, 13, 8, 7, 6])
  let h9 := put h8 2 (tabU8 [0, 0, 0, 0, 0, 0, 0, 0, 0, 1, 1, 1, 1, 1, 0, 0, 0, 0, 0, 0, 0, 0, 0, 0, 0, 0, 0, 0, 0, 0, 0, 0, 1, 0, 0, 0, 0, 0, 0, 0, 0, 0, 0, 0, 0, 0, 0, 0, 0, 0, 0, 0, 0, 0, 0, 0, 0, 0, 0, 0, 0, 0, 0, 0, 0, 0, 0, 0, 0, 0, 0, 0, 0, 0, 0, 0, 0, 0, 0, 0, 0, 0, 0, 0, 0, 0, 0, 0, 0, 0, 0, 0, 0, 0, 0, 0, 0, 0, 0, 0, 0, 0, 0, 0, 0, 0, 0, 0, 0, 0, 0, 0, 0, 0, 0, 0, 0, 0, 0, 0, 0, 0, 0, 0, 0, 0, 0, 0, 0, 0, 0, 0, 0, 0, 0, 0, 0, 0, 0, 0, 0, 0, 0, 0, 0, 0, 0, 0, 0, 0, 0, 0, 0, 0, 0, 0, 0, 0, 0, 0, 0, 0, 0, 0, 0, 0, 0, 0, 0, 0, 0, 0, 0, 0, 0, 0, 0, 0, 0, 0, 0, 0, 0, 0, 0, 0, 0, 0, 0, 0, 0, 0, 0, 0, 0, 0, 0, 0, 0, 0, 0, 0, 0, 0, 0, 0, 0, 0, 0, 0, 0, 0, 0, 0, 0, 0, 0, 0, 0, 0, 0, 0, 0, 0, 0, 0, 0, 0, 0, 0, 0, 0, 0, 0, 0, 0, 0, 0, 0, 0, 0, 0, 0, 0, 0, 0, 0, 0, 0, 0, 0, 0, 0, 0, 0, 0])
  let h10 := put h9 4 #[.pointer (some ⟨low + 1, 0, none⟩)]
  { w0 with heap := h10 }
abbrev wit : Array Value := #[.agg #[.int .i64 0, .int .i64 0, .string ⟨#[]⟩, .int .i64 0, .int .i64 0, .string ⟨#[]⟩, .slice none 0 0, .slice none 0 0]]
/-! That many places are all different: by one number in which each has its own bit. -/
def keyOf : MemPlace → Nat
  | .cell b off => b * 1024 + off
  | .map _ => 0
def bitsB : List MemPlace → Nat → Bool
  | [], _ => true
  | k :: r, acc => !(acc.testBit (keyOf k)) && bitsB r (acc ||| 2 ^ keyOf k)
theorem bits_nodup : ∀ (l : List MemPlace) (acc : Nat), bitsB l acc = true → l.Nodup ∧ ∀ k ∈ l, acc.testBit (keyOf k) = false
  | [], _, _ => ⟨List.nodup_nil, fun _ h => by cases h⟩
  | k :: r, acc, h => by
    simp only [bitsB, Bool.and_eq_true, Bool.not_eq_true'] at h
    obtain ⟨h1, h2⟩ := bits_nodup r _ h.2
    refine ⟨List.nodup_cons.2 ⟨fun hk => ?_, h1⟩, fun x hx => ?_⟩
    · have := h2 k hk
      rw [Nat.testBit_or, Nat.testBit_two_pow_self] at this
      simp at this
    · rcases List.mem_cons.1 hx with rfl | hx
      · exact h.1
      · have := h2 x hx
        rw [Nat.testBit_or, Bool.or_eq_false_iff] at this
        exact this.1
theorem laid_met (os : Os) : laidMet Tryz.prog theLaid ((laidWorld os).forCall (fun _ _ => 0) ⟨#[], wit, []⟩).memory := by
  have h : (DataW.laidRun Tryz.prog ((laidWorld os).forCall (fun _ _ => 0) ⟨#[], wit, []⟩).memory 8 (theLaid.map (·.1))).map (·.1) = some theLaid := by kernel_rfl
  have hr : (DataW.laidRun Tryz.prog ((laidWorld os).forCall (fun _ _ => 0) ⟨#[], wit, []⟩).memory 8 (theLaid.map (·.1))).map (fun x => bitsB x.2 0 && laidRowsB Tryz.prog ((laidWorld os).forCall (fun _ _ => 0) ⟨#[], wit, []⟩).memory x.2) = some true := by kernel_rfl
  cases hx : DataW.laidRun Tryz.prog ((laidWorld os).forCall (fun _ _ => 0) ⟨#[], wit, []⟩).memory 8 (theLaid.map (·.1)) with
  | none => rw [hx] at h; cases h
  | some x =>
    obtain ⟨l', ps⟩ := x
    rw [hx] at h hr
    simp only [Option.map_some, Option.some.injEq, Bool.and_eq_true] at h hr
    subst h
    exact laidMet_of_run 8 hx (decide_eq_true (bits_nodup ps 0 hr.1).1) hr.2
theorem reads (os : Os) {H : Type} (enc : TypeId × Value → H) : ∃ places, DataW.whole enc Tryz.prog ((laidWorld os).forCall (fun _ _ => 0) ⟨#[], wit, []⟩).memory Tryz.f3.params.toList Rows.valueFormsMatchSpecSpec.vars false wit.toList 8 = some ([.agg [.lit (.int .i64 0), .lit (.int .i64 0), .lit (.string []), .agg [.lit (.int .i64 0), .lit (.int .i64 0), .lit (.string []), .nil], .nil]], [], places) :=
  ⟨[], by kernel_rfl⟩

set_option maxRecDepth 100000 in
theorem lifted (os : Os) (started : os.Started) (H : Type) (enc : TypeId × Value → H) (F : Stop.Interp) :
    ReturnsInHanded {} Tryz.checked os 3 .any ((Rows.OpenSpec.upto Rows.valueFormsMatchSpecSpec).preRow enc Tryz.prog Tryz.f3 Rows.valueFormsMatchSpecUptoRow.domain false Rows.valueFormsMatchSpecUptoRow.laid) (((Rows.OpenSpec.upto Rows.valueFormsMatchSpecSpec).at F).post enc Tryz.prog Tryz.f3 false true false false) := by
  obtain ⟨places, hx⟩ := reads os enc
  refine returnsInHanded_of_row (C := Tryz.checked) (s := Rows.OpenSpec.upto Rows.valueFormsMatchSpecSpec) own started (by kernel_rfl) Tryz.func3
    (witness_row_atRef (enc := enc) (C := Tryz.checked) false (laidWorld os) wit rfl (by kernel_rfl) (by kernel_rfl) (by kernel_rfl)
      (OpenSpec.preRow_of_cond 8 hx (by kernel_rfl) (fun k hk => by cases hk; kernel_rfl) (by kernel_rfl) (laid_met os))) ?_
  intro W base args ds gs before hval hW _ hcond _ hL hsh _
  exact contract H enc W base args ds gs before hval hW hL hsh (hcond _ rfl)

theorem said : Rows.ValueFormsMatchSpecUptoSaid :=
  OpenClaim.holds_of_cond 3 Tryz.f3 rfl rfl rfl rfl rfl rfl rfl ⟨rfl, rfl, rfl, rfl, rfl⟩ rfl rfl rfl rfl rfl (by kernel_rfl) Tryz.func3 (by kernel_rfl)
    (of_decide_eq_true (by kernel_rfl)) (by unfold Func.isWrapper; first | (rw [if_pos (by decide +kernel)]; kernel_rfl) | (rw [if_neg (by decide +kernel)]; exact ⟨rfl, rfl⟩))
    (fun os started H enc _ F => by rw [OpenClaim.pre_eq_preRow]; exact lifted os started H enc F)

theorem plain (f : FuncId) (fn : Func) (hf : Tryz.pinned.checked.prog.funcNamed "canvass/canvasslaw1.ValueFormsMatchSpec" = some f) (hfn : Tryz.pinned.checked.prog.funcs[f]? = some fn) :
    false = Tryz.pinned.checked.prog.looks [] ∧ ∀ (j : Nat) t, fn.params[j]? = some t → Tryz.pinned.checked.prog.wantsStandIn t = false := by
  obtain rfl : f = 3 := Option.some.inj ((show Tryz.prog.funcNamed "canvass/canvasslaw1.ValueFormsMatchSpec" = some 3 by kernel_rfl).symm.trans hf) |>.symm
  obtain rfl : fn = Tryz.f3 := (Option.some.inj (Tryz.func3.symm.trans hfn)).symm
  refine ⟨by kernel_rfl, fun j t ht => ?_⟩
  rw [Tryz.params3] at ht
  have ht' : t = 27 := by simpa using Array.mem_of_getElem? ht
  subst ht'
  exact (show Tryz.prog.wantsStandIn 27 = false by kernel_rfl)

/-- For every expression of bounded bulk the law of forms that match the reference returns true. -/
theorem card : Rows.ValueFormsMatchSpecUptoCardSaid :=
  Claim7.holds_tied_plain_at .later [] _ _ _ _ said (fun _ h => by cases h) (by kernel_rfl) (fun _ h => by cases h) valueFormsMatchSpecUpto_row_tie rfl ⟨rfl, rfl⟩ (by kernel_rfl) rfl plain (by kernel_rfl)
#print axioms card
end Go.Proofs.YtcdifmnakppfkaaGreatDoor.lawForms
