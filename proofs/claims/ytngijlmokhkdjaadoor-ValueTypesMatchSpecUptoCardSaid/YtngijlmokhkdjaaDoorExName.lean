/-
  IsName of package value.
-/
import Derived.Test.YtngijlmokhkdjaaDoorExPart
namespace Go.Proofs.YtngijlmokhkdjaaDoor
open Go.RowKit

def resL : List (List UInt8) := [[97, 110, 100], [111, 114], [110, 111, 116], [105, 110], [104, 97, 115], [109, 111, 100], [116, 114, 117, 101], [102, 97, 108, 115, 101]]
def resS (l : List UInt8) : Bool := resL.contains l
theorem beq_no {t : ByteArray} {l : List UInt8} (h : t.data.toList ≠ l) : (t.toList == l) = false := by
  rw [Lib.toList_data]; simpa using h
theorem bytes_lit {t : ByteArray} {l : List UInt8} (h : t.data.toList = l) : t = ⟨l.toArray⟩ := by
  cases t with
  | mk d => cases d with
    | mk x => simp only at h; subst h; rfl
set_option maxHeartbeats 1000000 in
theorem isReserved_c (t : ByteArray) (w : World) : Calls Tryd.prog 68 #[.string t] w fun e w' => e = .returned (.bool (resS t.data.toList)) ∧ w' = w := by
  by_cases hm : t.data.toList ∈ resL
  · have e : Hid (resS t.data.toList = true) := by unfold Hid resS; simpa using hm
    have hm' : t.data.toList = [97, 110, 100] ∨ t.data.toList = [111, 114] ∨ t.data.toList = [110, 111, 116] ∨ t.data.toList = [105, 110] ∨ t.data.toList = [104, 97, 115] ∨ t.data.toList = [109, 111, 100] ∨ t.data.toList = [116, 114, 117, 101] ∨ t.data.toList = [102, 97, 108, 115, 101] := by simpa [resL] using hm
    clear hm
    rcases hm' with h | h | h | h | h | h | h | h
    all_goals
      obtain rfl := bytes_lit h
      clear h
      go_enter Tryd.func68, Tryd.ntmps68
      go_wp2
      go_ret
      exact ⟨by rw [e.out]; rfl, rfl⟩
  · have e : Hid (resS t.data.toList = false) := by unfold Hid resS; simpa using hm
    have ne : ∀ l, l ∈ resL → t.data.toList ≠ l := fun l hl h => hm (by rw [h]; exact hl)
    have n1 := beq_no (ne [97, 110, 100] (by decide))
    have n2 := beq_no (ne [111, 114] (by decide))
    have n3 := beq_no (ne [110, 111, 116] (by decide))
    have n4 := beq_no (ne [105, 110] (by decide))
    have n5 := beq_no (ne [104, 97, 115] (by decide))
    have n6 := beq_no (ne [109, 111, 100] (by decide))
    have n7 := beq_no (ne [116, 114, 117, 101] (by decide))
    have n8 := beq_no (ne [102, 97, 108, 115, 101] (by decide))
    clear hm ne
    go_enter Tryd.func68, Tryd.ntmps68
    go_wp2
    go_ret
    exact ⟨by rw [e.out]; rfl, rfl⟩

/-- A text is a name. -/
def nameS (t : ByteArray) : Bool := decide (0 < t.size ∧ t.size ≤ 16) && letB (t.data.toList.getD 0 0).toNat && t.data.toList.all (fun b => wordB b.toNat) && !resS t.data.toList
theorem at_getD {t : ByteArray} {k : Nat} (h : k < t.size) : t[k] = t.data.toList.getD k 0 := by
  have hl : k < t.data.toList.length := by rw [← Lib.size_eq]; exact h
  rw [List.getD_eq_getElem?_getD, List.getElem?_eq_getElem hl]; rfl
theorem all_upto {p : UInt8 → Bool} {l : List UInt8} (h : ∀ j, j < l.length → p (l.getD j 0) = true) : l.all p = true := by
  rw [List.all_eq_true]
  intro x hx
  obtain ⟨j, hj, e⟩ := List.getElem_of_mem hx
  have := h j hj
  rw [List.getD_eq_getElem?_getD, List.getElem?_eq_getElem hj] at this
  simpa [e] using this
theorem not_all {p : UInt8 → Bool} {l : List UInt8} {j : Nat} (hj : j < l.length) (h : p (l.getD j 0) = false) : l.all p = false := by
  rw [List.all_eq_false]
  refine ⟨l[j], List.getElem_mem hj, ?_⟩
  rw [List.getD_eq_getElem?_getD, List.getElem?_eq_getElem hj] at h
  simpa using h
set_option maxHeartbeats 2000000 in
theorem isName_c (t : ByteArray) (w : World) : Calls Tryd.prog 44 #[.string t] w fun e w' => e = .returned (.bool (nameS t)) ∧ w' = w := by
  by_cases h0 : t.size = 0
  · have e : Hid (nameS t = false) := by unfold Hid nameS; simp [h0]
    have z : ((t.size : Int) == 0) = true := by simp [h0]
    clear h0
    go_enter Tryd.func44, Tryd.ntmps44
    go_wp2
    go_ret
    exact ⟨by rw [e.out]; rfl, rfl⟩
  · have z : ((t.size : Int) == 0) = false := by rw [beq_eq_false_iff_ne]; omega
    by_cases h1 : 16 < t.size
    · have e : Hid (nameS t = false) := by
        unfold Hid nameS; have : ¬ (0 < t.size ∧ t.size ≤ 16) := by omega
        simp [this]
      have z1 : (16 : Int) < t.size := by omega
      clear h0 h1
      go_enter Tryd.func44, Tryd.ntmps44
      go_wp2
      go_ret
      exact ⟨by rw [e.out]; rfl, rfl⟩
    · have z1 : decide ((16 : Int) < t.size) = false := by simp; omega
      have hp : 0 < t.size := by omega
      have hpi : (0 : Int) < t.size := by omega
      have hsz : 0 < t.size ∧ t.size ≤ 16 := by omega
      have hll := Lib.hid (Lib.size_eq t)
      have e0 := Lib.hid (at_getD hp)
      have hA := Lib.hid (fun (k : Nat) (h : k < t.size) => at_getD h)
      have hL := Lib.hid (fun w => isLetter_c (t[0].toNat : Int) w)
      have hS : Hid (nameS t = (letB (t.data.toList.getD 0 0).toNat && t.data.toList.all (fun b => wordB b.toNat) && !resS t.data.toList)) := by unfold Hid nameS; simp [hsz]
      have hR := Lib.hid (fun w => isReserved_c t w)
      by_cases h2 : letB (t[0].toNat : Int) = true
      · rw [h2] at hL
        have hS2 : Hid (nameS t = (t.data.toList.all (fun b => wordB b.toNat) && !resS t.data.toList)) := by
          unfold Hid; rw [hS.out, ← e0.out, h2]; simp
        have hsz1 : t.size ≤ 16 := hsz.2
        clear h0 h1 h2 e0 hsz hS
        go_enter Tryd.func44, Tryd.ntmps44
        go_wp2_with fail
        refine (hL.out _).mono ?_
        rintro e w1 ⟨rfl, rfl⟩
        go_wp2_with fail
        go_loop [3, 20] (fun _ i => ∃ k : Nat, k ≤ t.size ∧ i = .int .i64 k ∧ Hid (∀ j, j < k → wordB ((t.data.toList.getD j 0).toNat : Int) = true)) (fun _ i => t.size - (intOf i).toNat)
        case atStart => exact ⟨0, Nat.zero_le _, rfl, fun j hj => absurd hj (Nat.not_lt_zero _)⟩
        case round =>
          obtain ⟨k, hk, rfl, hW⟩ := hrel
          by_cases hlt : k < t.size
          · have hkk : (k : Int) < (t.size : Int) := by omega
            have eA := hA.out k hlt
            have hB := Lib.hid (fun w => isWordByte_c (t[k].toNat : Int) w)
            by_cases hw : wordB (t[k].toNat : Int) = true
            · rw [hw] at hB
              have hW2 : Hid (∀ j, j < k + 1 → wordB ((t.data.toList.getD j 0).toNat : Int) = true) := by
                intro j hj
                by_cases e : j = k
                · subst e; rw [← eA]; exact hw
                · exact hW.out j (by omega)
              clear hw eA hW
              go_wp2_with fail
              refine (hB.out _).mono ?_
              rintro e w1 ⟨rfl, rfl⟩
              go_wp2
              go_round
              case rel => exact ⟨k + 1, by omega, by go_num, hW2.out⟩
              case measure => simp [intOf]; omega
            · have hw' : wordB (t[k].toNat : Int) = false := by simpa using hw
              rw [hw'] at hB
              have e : Hid (nameS t = false) := by
                unfold Hid
                rw [hS2.out, not_all (p := fun b => wordB b.toNat) (j := k) (by rw [← hll.out]; exact hlt) (by rw [← eA]; exact hw')]
                rfl
              clear hw hw' eA hW
              go_wp2_with fail
              refine (hB.out _).mono ?_
              rintro e w1 ⟨rfl, rfl⟩
              go_wp2
              go_ret
              exact ⟨by rw [e.out]; rfl, rfl⟩
          · obtain rfl : k = t.size := by omega
            have e : Hid (nameS t = !resS t.data.toList) := by
              unfold Hid
              rw [hS2.out, all_upto (p := fun b => wordB b.toNat) (fun j hj => hW.out j (by rw [hll.out]; exact hj))]
              rfl
            clear hW
            go_wp2_with fail
            refine (hR.out _).mono ?_
            rintro e w1 ⟨rfl, rfl⟩
            go_wp2
            go_ret
            exact ⟨by rw [e.out]; rfl, rfl⟩
      · have h2' : letB (t[0].toNat : Int) = false := by simpa using h2
        rw [h2'] at hL
        have e : Hid (nameS t = false) := by
          unfold Hid; rw [hS.out, ← e0.out, h2']; simp
        clear h0 h1 h2 h2' e0 hsz hS hA
        go_enter Tryd.func44, Tryd.ntmps44
        go_wp2_with fail
        refine (hL.out _).mono ?_
        rintro e w1 ⟨rfl, rfl⟩
        go_wp2
        go_ret
        exact ⟨by rw [e.out]; rfl, rfl⟩
end Go.Proofs.YtngijlmokhkdjaaDoor
