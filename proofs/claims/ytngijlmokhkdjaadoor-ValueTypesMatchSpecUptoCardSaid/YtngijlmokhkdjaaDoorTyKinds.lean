/-
  The kinds that operations and aggregates give: the walks of package value.
-/
import Derived.Test.YtngijlmokhkdjaaDoorTySpec
import Derived.Test.YtngijlmokhkdjaaDoorTxtBase
import Derived.Laws.EntriesVeiled
import Derived.Deep.RegionHeld3
import Derived.Deep.RegionWith
namespace Go.Proofs.YtngijlmokhkdjaaDoor
open Go.RowKit

set_option maxHeartbeats 2000000 in
theorem overKind_c (o k : Int) (w : World) : Calls Tryd.prog 70 #[.int .i64 o, .int .i64 k] w fun e w' => e = .returned (.tuple #[.int .i64 (overK o k).1, .bool (overK o k).2]) ∧ w' = w := by
  by_cases h1 : o = 1
  · subst h1
    go_enter Tryd.func70, Tryd.ntmps70
    go_wp2
    go_ret2
    exact ⟨rfl, rfl⟩
  by_cases h2 : o = 2
  · subst h2
    clear h1
    go_enter Tryd.func70, Tryd.ntmps70
    go_wp2
    go_ret2
    exact ⟨rfl, rfl⟩
  by_cases h3 : o = 3
  · subst h3
    clear h1 h2
    go_enter Tryd.func70, Tryd.ntmps70
    go_wp2
    go_ret2
    exact ⟨rfl, rfl⟩
  by_cases h4 : o = 4
  · subst h4
    clear h1 h2 h3
    go_enter Tryd.func70, Tryd.ntmps70
    go_wp2
    go_ret2
    exact ⟨rfl, rfl⟩
  have e : Hid (overK o k = (k, k == 2 || k == 6)) := by unfold Hid overK; rw [if_neg h1, if_neg h2, if_neg (by omega)]
  have n1 : (o == 1) = false := by simpa using h1
  have n2 : (o == 2) = false := by simpa using h2
  have n3 : (o == 3) = false := by simpa using h3
  have n4 : (o == 4) = false := by simpa using h4
  clear h1 h2 h3 h4
  by_cases h5 : k = 2
  · subst h5
    go_enter Tryd.func70, Tryd.ntmps70
    go_wp2
    go_ret2
    exact ⟨by rw [e.out]; rfl, rfl⟩
  · have n5 : (k == 2) = false := by simpa using h5
    clear h5
    go_enter Tryd.func70, Tryd.ntmps70
    go_wp2
    go_ret2
    exact ⟨by rw [e.out]; simp [n5], rfl⟩

/-- A slice that reads as a list has its length. -/
theorem isL_len {w : World} {v : Value} {l : List Int} (h : IsL w v l) : ∃ a c, v = .slice a l.length c := by
  rcases h with ⟨a, c, rfl, rfl⟩ | ⟨b, off, cap, rfl, _⟩
  · exact ⟨a, c, rfl⟩
  · exact ⟨_, cap, rfl⟩
/-- The function that areAll hands on: whether a kind is another one. -/
theorem other_c (x k : Int) (g : Nat) (w : World) (hg : w.cell? ⟨g, 0, none⟩ = some (.int .i64 k)) : Calls Tryd.prog 88 #[.int .i64 x, .pointer (some ⟨g, 0, none⟩)] w fun e w' => e = .returned (.bool (x != k)) ∧ Below w.heap.size w w' := by
  go_enter Tryd.func88, Tryd.ntmps88
  go_wp2
  go_ret
  exact ⟨rfl, Below.refl _ _⟩

set_option maxRecDepth 100000 in
set_option maxHeartbeats 2000000 in
theorem indexFunc_c (ks : List Int) (v : Value) (k : Int) (g : Nat) (w : World) (hv : IsL w v ks) (hg : w.cell? ⟨g, 0, none⟩ = some (.int .i64 k)) (hl : g < w.heap.size) (hk : ks.length ≤ 1048576) :
    Calls Tryd.prog 92 #[v, .func (.func 88) #[] #[.pointer (some ⟨g, 0, none⟩)]] w fun e w' => ∃ i : Int, e = .returned (.int .i64 i) ∧ (i < 0 ↔ allK ks k = true) ∧ Below w.heap.size w w' := by
  have HV := Lib.hid hv
  obtain ⟨a, c, rfl⟩ := isL_len hv
  clear hv
  go_enter Tryd.func92, Tryd.ntmps92
  go_wp2
  have h0 : Hid (∀ t, t < 0 → ks.getD t 0 = k) := fun t ht => absurd ht (by omega)
  go_loopw [5, 8] (fun _ i wr => ∃ j : Nat, j ≤ ks.length ∧ i = .int .i64 j ∧ Hid (Below w.heap.size w wr) ∧ Hid (∀ t, t < j → ks.getD t 0 = k)) (fun _ i _ => ks.length - (intOf i).toNat)
  case atStart => exact ⟨0, Nat.zero_le _, rfl, Below.refl _ _, h0.out⟩
  case round =>
    obtain ⟨j, hj, rfl, hB, hA⟩ := hrel
    clear h0
    by_cases hlt : j < ks.length
    · have hjj : (j : Int) < (ks.length : Int) := by omega
      obtain ⟨b, off, rfl, hbl, hc⟩ : ∃ b off, a = some ⟨b, off, none⟩ ∧ b < w.heap.size ∧ ∀ j, j < ks.length → w.cell? ⟨b, off + j, none⟩ = some (.int .i64 (ks.getD j 0)) := by
        rcases HV.out with ⟨a', c', e, e0⟩ | ⟨b, off, cap, e, h1, h2, h3, h4⟩
        · rw [e0] at hlt; simp at hlt
        · simp only [Value.slice.injEq] at e
          exact ⟨b, off, e.1, h3, h4⟩
      have c1 := (hB.out.cell (p := ⟨b, off + j, none⟩) hbl).trans (hc j hlt)
      have c2 := (hB.out.cell (p := ⟨g, 0, none⟩) hl).trans hg
      clear hc
      obtain ⟨x, hxe⟩ : ∃ x, x = ks.getD j 0 := ⟨_, rfl⟩
      have HXE := Lib.hid hxe
      rw [← hxe] at c1
      clear hxe
      go_wp2_with fail
      refine (other_c x k g _ c2).mono ?_
      rintro e w4 ⟨rfl, hB4⟩
      have HB4 := Lib.hid (hB.out.trans (hB4.mono hB.out.size))
      clear hB4
      by_cases hx : x = k
      · have hx' : (x != k) = false := by simpa using hx
        have hA' : Hid (∀ t, t < j + 1 → ks.getD t 0 = k) := fun t ht => by
          rcases Nat.lt_or_ge t j with h | h
          · exact hA.out t h
          · obtain rfl : t = j := by omega
            exact HXE.out.symm.trans hx
        clear hx
        go_wp2
        go_roundw
        case rel => exact ⟨j + 1, by omega, by go_num, HB4.out, hA'.out⟩
        case measure => simp [intOf]; omega
      · have hx' : (x != k) = true := by simpa using hx
        have hx2 := Lib.hid hx
        clear hx
        go_wp2
        go_ret
        refine ⟨j, rfl, ⟨fun h => by omega, fun h => ?_⟩, HB4.out⟩
        have := List.all_eq_true.1 h (ks.getD j 0) (by rw [List.getD_eq_getElem?_getD, List.getElem?_eq_getElem hlt]; simp)
        rw [← HXE.out] at this
        exact absurd (by simpa using this) hx2.out
    · obtain rfl : j = ks.length := by omega
      go_wp2
      go_ret
      refine ⟨-1, rfl, ⟨fun _ => ?_, fun _ => by omega⟩, hB.out⟩
      rw [allK, List.all_eq_true]
      intro x hx
      obtain ⟨t, ht, rfl⟩ := List.getElem_of_mem hx
      have := hA.out t ht
      rw [List.getD_eq_getElem?_getD, List.getElem?_eq_getElem ht] at this
      simpa using this

set_option maxRecDepth 100000 in
theorem containsFunc_c (ks : List Int) (v : Value) (k : Int) (g : Nat) (w : World) (hv : IsL w v ks) (hg : w.cell? ⟨g, 0, none⟩ = some (.int .i64 k)) (hl : g < w.heap.size) (hk : ks.length ≤ 1048576) :
    Calls Tryd.prog 87 #[v, .func (.func 88) #[] #[.pointer (some ⟨g, 0, none⟩)]] w fun e w' => e = .returned (.bool (!allK ks k)) ∧ Below w.heap.size w w' := by
  have hI := Lib.hid (indexFunc_c ks v k g w hv hg hl hk)
  clear hv hg
  go_enter Tryd.func87, Tryd.ntmps87
  go_wp2_with fail
  refine hI.out.mono ?_
  rintro e w4 ⟨i, rfl, hi, hB⟩
  have HB := Lib.hid hB; clear hB
  by_cases h0 : i < 0
  · have e1 : Hid (allK ks k = true) := hi.1 h0
    have e2 : ¬ (0 ≤ i) := by omega
    clear hi h0 hI
    go_wp2
    go_ret
    exact ⟨by rw [e1.out]; first | rfl | (simp; omega), HB.out⟩
  · have e1 : Hid (allK ks k = false) := by
      have : ¬ allK ks k = true := fun h => h0 (hi.2 h)
      exact Lib.hid (by simpa using this)
    have e2 : 0 ≤ i := by omega
    clear hi h0 hI
    go_wp2
    go_ret
    exact ⟨by rw [e1.out]; first | rfl | (simp; omega), HB.out⟩
/-- Whether all kinds are one. -/
def AreC (v : Value) (ks : List Int) (w : World) : Prop := ∀ k : Int, Calls Tryd.prog 71 #[v, .int .i64 k] w fun e w' => e = .returned (.bool (allK ks k)) ∧ Below w.heap.size w w'
set_option maxRecDepth 100000 in
theorem areAll_c (ks : List Int) (v : Value) (w : World) (hv : IsL w v ks) (hk : ks.length ≤ 1048576) : AreC v ks w := by
  intro k
  have hmf : ∀ (fn : Fn) (first cap : Array Value) (w : World), (Instr.makeFunc fn first cap).run Tryd.prog w = .ok (.func fn first cap) w := fun _ _ _ _ => rfl
  have hC := Lib.hid (containsFunc_c ks v k w.heap.size (w.alloc (.cells #[.int .i64 k] 3)) (hv.alloc _) (by rw [World.cell?_alloc_new]; rfl) (by simp) hk)
  obtain ⟨a, c, rfl⟩ := isL_len hv
  clear hv
  go_enter Tryd.func71, Tryd.ntmps71
  go_wp2_with fail
  refine hC.out.mono ?_
  rintro e w4 ⟨rfl, hB⟩
  have HB := Lib.hid (((Below.refl w.heap.size w).alloc (Nat.le_refl _) _).trans (hB.mono (by simp)))
  clear hB hC
  go_wp2
  go_ret
  exact ⟨by simp, HB.out⟩
end Go.Proofs.YtngijlmokhkdjaaDoor
