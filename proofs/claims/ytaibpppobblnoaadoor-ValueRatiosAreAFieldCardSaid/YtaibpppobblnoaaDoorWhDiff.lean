/-
  Numbers of any size: a copy of a row, differences.
-/
import Derived.Test.YtaibpppobblnoaaDoorWhDivS
import Derived.Laws.OwnMore
import Derived.Laws.Cover3
namespace Go.Proofs.YtaibpppobblnoaaDoor
open Go.RowKit

theorem info_limb : ∃ i, Tryd.prog.info? 59 = some i ∧ i.zero = some (.int .u64 0) ∧ i.size = 1 ∧ i.bytes = 8 := by
  have h := infoL
  cases e : Tryd.prog.info? 59 with
  | none => rw [e] at h; cases h
  | some i => rw [e] at h; simp at h; exact ⟨i, rfl, h⟩
theorem nil_eq (a : Option Addr) (k c : Nat) (w : World) : (binOp .eql 35 (.slice a k c) (.slice none 0 0)).run Tryd.prog w = .ok (.bool a.isNone) w := by
  simp only [binOp]
  simp [run_equal_slice_nil w 35 59 a k c Tryd.underlying35]
/-- A copy of a row, the caller's own. -/
def CopyPost (k : Nat) (f : Nat → Nat) (w : World) (e : Ending) (w' : World) : Prop :=
  ∃ a c, e = .returned (.slice a k c) ∧ k ≤ c ∧ c ≤ 9223372036854775807 ∧ Pl a c ∧ Below w.heap.size w w' ∧ (0 < k → ∃ g, a = some ⟨g, 0, none⟩ ∧ w.heap.size ≤ g ∧ Bf w' g k f)
set_option maxRecDepth 100000 in
set_option maxHeartbeats 1000000 in
theorem clone_c (a : Option Addr) (k c : Nat) (f : Nat → Nat) (w : World) (h : Rl w a k f) (ha : Pl a c) :
    Calls Tryd.prog 63 #[.slice a k c] w (CopyPost k f w) := by
  rcases ha with ⟨rfl, rfl⟩ | ⟨b, off, rfl⟩
  · have hk : k = 0 := by
      rcases Nat.eq_zero_or_pos k with e | e
      · exact e
      · obtain ⟨b, off, he, _⟩ := h.2.2 e
        cases he
    subst hk
    have hnil := nil_eq none 0 0
    go_enter Tryd.func63, Tryd.ntmps63
    go_wp2
    go_ret
    exact ⟨_, _, rfl, by omega, by omega, Pl.none_, Below.refl _ _, fun h => by omega⟩
  · obtain ⟨i0, hi, hz0, hz1, hz2⟩ := info_limb
    have H := Lib.hid h
    have hk := h.1
    clear h
    have hnil := nil_eq (some ⟨b, off, none⟩) k c
    go_enter Tryd.func63, Tryd.ntmps63
    go_wp2_with (at_builtin; refine wpList_append_own _ rfl _ _ 35 rfl w.heap.size 59 i0 (.int .u64 0) 1 8 Tryd.underlying35 hi hz0 hz1 hz2 rfl (by decide) _ _ _ rfl (World.ownsRow_made w #[] 0 (Nat.le_refl _) (by decide) rfl) ⟨b, off, none⟩ k c (lcells f k) rfl ?c1 ?c2 ?c3 ?c4 ?c5 ?c6 ?_)
    case c1 => simp [lcells]
    case c2 =>
      intro j u hj
      have hjk : j < k := by
        have := (List.getElem?_eq_some_iff.1 hj).1
        simpa [lcells] using this
      rw [lcells_at hjk] at hj
      cases hj
      have hb : Below w.heap.size w (w.alloc (.cells #[] 59)) := bel_one _ _
      obtain ⟨b', off', e, _, hc⟩ := (H.out.below hb).at_ hjk
      injection e with e
      injection e with e1 e2
      subst e1 e2
      have e2 : (Addr.mk b off none).add j = ⟨b, off + j, none⟩ := by
        unfold Addr.add
        split
        · rename_i h; subst h; rfl
        · rfl
      rw [e2]; exact hc
    case c3 => intro u hu; unfold lcells at hu; obtain ⟨j, _, rfl⟩ := List.mem_map.1 hu; rfl
    case c4 => unfold maxLen; omega
    case c5 => omega
    case c6 => simp
    intro v' w1 hown hgrow _
    have hb : Below w.heap.size w w1 := (bel_one w (.cells #[] 59)).grown hgrow (by simp) (fun b hb => by simp [Value.ownBlock] at hb; omega)
    have hpost : Hid (CopyPost k f w (.returned v') w1) := by
      obtain ⟨hl, ⟨rfl, h0⟩ | ⟨g, cap, cur, rfl, hg, hobj, hnc, hm, hs, ht⟩⟩ := id hown
      · obtain rfl : k = 0 := by omega
        exact ⟨none, 0, rfl, by omega, by omega, Pl.none_, hb, fun h => by omega⟩
      · refine ⟨some ⟨g, 0, none⟩, cap, rfl, by omega, by unfold maxLen at hm; exact hm, Pl.some_ _ _, hb, fun hk0 => ⟨g, rfl, hg, lt_of_block hobj, H.out.2.1, fun j hj => ⟨?_, hown.frozenAt j⟩⟩⟩
        have t := World.ownsRow.cells hown rfl j (.int .u64 (f j : Int)) (lcells_at hj)
        by_cases h0 : j = 0 <;> simpa [Addr.add, h0] using t
    clear hown hgrow hb
    go_wp2
    go_ret
    exact hpost.out
end Go.Proofs.YtaibpppobblnoaaDoor
