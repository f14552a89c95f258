/-
  A row of the call's own, sorted and compacted by the library.
-/
import Derived.Test.YtkppfceogknlkaaDoorFrmStr
import Derived.Sort.OwnSorted
import Derived.Sort.OwnSortedInts
namespace Go.Proofs.YtkppfceogknlkaaDoor
open Go.RowKit Go.Sort Go.Lib

/-- A slice of texts that reads as a list. -/
def RdS (w : World) (a : Option Addr) (l : List (List UInt8)) : Prop :=
  l.length ≤ 5000 ∧ (0 < l.length → ∃ g, a = some ⟨g, 0, none⟩ ∧ g < w.heap.size ∧ ∀ j, j < l.length → w.cell? ⟨g, j, none⟩ = some (.string (bs (l.getD j []))))
theorem RdS.below {w w' : World} {a : Option Addr} {l : List (List UInt8)} (h : RdS w a l) (hb : Below w.heap.size w w') : RdS w' a l :=
  ⟨h.1, fun h0 => by
    obtain ⟨g, e, hl, hc⟩ := h.2 h0
    exact ⟨g, e, Nat.lt_of_lt_of_le hl hb.size, fun j hj => by rw [hb.cell (p := ⟨g, j, none⟩) hl]; exact hc j hj⟩⟩
theorem RdS.at_ {w : World} {a : Option Addr} {l : List (List UInt8)} (h : RdS w a l) {k : Nat} (hk : k < l.length) : ∃ g, a = some ⟨g, 0, none⟩ ∧ w.cell? ⟨g, k, none⟩ = some (.string (bs (l.getD k []))) := by
  obtain ⟨g, e, _, hc⟩ := h.2 (by omega)
  exact ⟨g, e, hc k hk⟩
theorem encStr_bs (x : List UInt8) : encStr x = .string (bs x) := rfl
theorem sortS_c (base : Nat) (v : Value) (ss : List (List UInt8)) (w : World) (h : w.ownsRow base 9 1 v ss.length (ss.map encStr)) (hn : ss.length ≤ 5000) :
    Calls Tryd.prog 23 #[v] w fun e w' => e = .returned (.tuple #[]) ∧ w'.ownsRow base 9 1 v ss.length ((ss.mergeSort leS).map encStr) ∧ w.grownBy w' v.ownBlock := by
  rcases h.2 with ⟨rfl, h0⟩ | ⟨g, cap, cur, rfl, hbase, hb, h1, h2, h3, h4⟩
  · have e0 : ss = [] := List.length_eq_zero_iff.1 h0
    subst e0
    refine (Tryd.slices_Sort_string_none none 0 w).mono ?_
    rintro e w' ⟨rfl, rfl⟩
    exact ⟨rfl, by simpa using h, ⟨rfl, rfl, rfl, Nat.le_refl _, fun _ _ _ => rfl⟩⟩
  · refine (Tryd.slices_Sort_string g 0 cap ss w (holds_of_block hb (by simpa using h4)) (Array.getElem?_eq_some_iff.1 hb).1 (by omega)).mono ?_
    rintro e w' ⟨rfl, n, os, rfl⟩
    exact ⟨rfl, ownsRow_sorted (by simp) hbase hb h1 h2 h3, grownBy_sorted _⟩
theorem compact_len_le {α : Type} [Inhabited α] [DecidableEq α] (zs : List α) : (Lib.compact zs).length ≤ zs.length := (compact_sub zs).length_le
theorem compactS_c (base : Nat) (v : Value) (ss : List (List UInt8)) (w : World) (h : w.ownsRow base 9 1 v ss.length (ss.map encStr)) (hn : ss.length ≤ 5000) (hB : base ≤ w.heap.size) :
    Calls Tryd.prog 24 #[v] w fun e w' => ∃ a c, e = .returned (.slice a (Lib.compact ss).length c) ∧ RdS w' a (Lib.compact ss) ∧ Below base w w' := by
  have hcl := compact_len_le ss
  rcases h.2 with ⟨rfl, h0⟩ | ⟨g, cap, cur, rfl, hbase, hb, h1, h2, h3, h4⟩
  · have e0 : ss = [] := List.length_eq_zero_iff.1 h0
    subst e0
    refine (Tryd.slices_Compact_string_empty none 0 w).mono ?_
    rintro e w' ⟨rfl, rfl⟩
    exact ⟨none, 0, rfl, ⟨by simp [Lib.compact, Lib.compactUpTo], fun h => by simp [Lib.compact, Lib.compactUpTo] at h⟩, Below.refl _ _⟩
  · refine (Tryd.slices_Compact_string g 0 cap ss w (holds_of_block hb (by simpa using h4)) (by omega) h1).mono ?_
    rintro e w' ⟨rfl, n, rfl⟩
    have hlen : (Lib.compact ss ++ List.replicate (ss.length - (Lib.compact ss).length) []).length = ss.length := by simp; omega
    have R := ownsRow_sorted (n := n) (os := #[]) hlen hbase hb h1 h2 h3
    have G := grownBy_sorted (w := w) (g := g) (n := n) (os := #[]) (Lib.compact ss ++ List.replicate (ss.length - (Lib.compact ss).length) []).toArray
    rw [grow_empty] at R G
    refine ⟨_, _, rfl, ⟨by omega, fun _ => ⟨g, rfl, Nat.lt_of_lt_of_le (Array.getElem?_eq_some_iff.1 hb).1 G.size, fun j hj => ?_⟩⟩, (Below.refl _ _).grown G hB (fun k hk => by cases hk; exact hbase)⟩
    rw [R.cellAt j (by omega)]
    rw [List.getElem?_map, List.getElem?_append_left hj]
    simp [List.getD, List.getElem?_eq_getElem hj, encStr_bs]
theorem sortI_c (base : Nat) (v : Value) (ss : List Int) (w : World) (h : w.ownsRow base 3 1 v ss.length (ss.map (Value.int .i64))) (hn : ss.length ≤ 5000) :
    Calls Tryd.prog 25 #[v] w fun e w' => e = .returned (.tuple #[]) ∧ w'.ownsRow base 3 1 v ss.length ((ss.mergeSort leN).map (Value.int .i64)) ∧ w.grownBy w' v.ownBlock := by
  rcases h.2 with ⟨rfl, h0⟩ | ⟨g, cap, cur, rfl, hbase, hb, h1, h2, h3, h4⟩
  · have e0 : ss = [] := List.length_eq_zero_iff.1 h0
    subst e0
    refine (Tryd.slices_Sort_int_none none 0 w).mono ?_
    rintro e w' ⟨rfl, rfl⟩
    exact ⟨rfl, by simpa using h, ⟨rfl, rfl, rfl, Nat.le_refl _, fun _ _ _ => rfl⟩⟩
  · refine (Tryd.slices_Sort_int g 0 cap ss w (holds_of_blockI hb (by simpa using h4)) (Array.getElem?_eq_some_iff.1 hb).1 (by omega)).mono ?_
    rintro e w' ⟨rfl, n, os, rfl⟩
    exact ⟨rfl, ownsRow_sortedI (by simp) hbase hb h1 h2 h3, grownBy_sortedI _⟩
theorem compactI_c (base : Nat) (v : Value) (ss : List Int) (w : World) (h : w.ownsRow base 3 1 v ss.length (ss.map (Value.int .i64))) (hn : ss.length ≤ 5000) (hB : base ≤ w.heap.size) :
    Calls Tryd.prog 26 #[v] w fun e w' => ∃ a c, e = .returned (.slice a (Lib.compact ss).length c) ∧ Below base w w' := by
  rcases h.2 with ⟨rfl, h0⟩ | ⟨g, cap, cur, rfl, hbase, hb, h1, h2, h3, h4⟩
  · have e0 : ss = [] := List.length_eq_zero_iff.1 h0
    subst e0
    refine (Tryd.slices_Compact_int_empty none 0 w).mono ?_
    rintro e w' ⟨rfl, rfl⟩
    exact ⟨none, 0, rfl, Below.refl _ _⟩
  · refine (Tryd.slices_Compact_int g 0 cap ss w (holds_of_blockI hb (by simpa using h4)) (by omega) h1).mono ?_
    rintro e w' ⟨rfl, n, rfl⟩
    have G := grownBy_sortedI (w := w) (g := g) (n := n) (os := #[]) (Lib.compact ss ++ List.replicate (ss.length - (Lib.compact ss).length) 0).toArray
    rw [grow_empty] at G
    exact ⟨_, _, rfl, (Below.refl _ _).grown G hB (fun k hk => by cases hk; exact hbase)⟩
end Go.Proofs.YtkppfceogknlkaaDoor
