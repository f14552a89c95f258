/-
  strings.Fields of the reference's word lists; and IsName of the reference.
-/
import Derived.Test.YtngijlmokhkdjaaDoorTxtLib
import Derived.Test.YtngijlmokhkdjaaDoorExRSmall
namespace Go.Proofs.YtngijlmokhkdjaaDoor
open Go.RowKit

/-- A row of texts in a block. -/
def RowS (w : World) (b : Nat) (L : List (List UInt8)) : Prop := b < w.heap.size ∧ ∀ j, j < L.length → w.cell? ⟨b, j, none⟩ = some (.string (bs (L.getD j [])))
theorem RowS.below {w w' : World} {b : Nat} {L : List (List UInt8)} (h : RowS w b L) (hb : Below w.heap.size w w') : RowS w' b L :=
  ⟨Nat.lt_of_lt_of_le h.1 hb.size, fun j hj => by rw [hb.cell (p := ⟨b, j, none⟩) h.1]; exact h.2 j hj⟩
def FieldsP (L : List (List UInt8)) (w : World) (e : Ending) (w' : World) : Prop := ∃ b, e = .returned (.slice (some ⟨b, 0, none⟩) L.length L.length) ∧ Hid (RowS w' b L) ∧ Hid (Below w.heap.size w w')
theorem fields_c (s : ByteArray) (L : List (List UInt8)) (hL : Lib.fields s.data.toList = L) (hs : s.size < 4294967281) (ha : ∀ b ∈ s.data.toList, b.toNat < 128) (w : World) (hE : Env w) :
    Calls Tryd.prog 49 #[.string s] w (FieldsP L w) := by
  refine (Tryd.strings_Fields_laid s w hs (fun j b hj => ha b (List.mem_of_getElem? hj)) hE.asp).mono ?_
  rintro e w' ⟨rfl, rfl⟩
  rw [hL]
  refine ⟨w.heap.size, rfl, ⟨by simp, fun j hj => ?_⟩, (Below.refl _ _).alloc (Nat.le_refl _) _⟩
  rw [World.cell?_alloc_new, ← Array.getElem?_toList]
  simp [hj, bs]

abbrev namesText : ByteArray := ⟨#[97, 110, 100, 32, 111, 114, 32, 110, 111, 116, 32, 105, 110, 32, 104, 97, 115, 32, 109, 111, 100, 32, 116, 114, 117, 101, 32, 102, 97, 108, 115, 101]⟩
theorem fieldsNames (w : World) (hE : Env w) : Calls Tryd.prog 49 #[.string namesText] w (FieldsP resL w) :=
  fields_c namesText resL (by decide +kernel) (by decide) (by decide +kernel) w hE
theorem containsRow (b : Nat) (L : List (List UInt8)) (hl : L.length ≤ 1000) (t : ByteArray) (w : World) (h : RowS w b L) :
    Calls Tryd.prog 33 #[.slice (some ⟨b, 0, none⟩) L.length L.length, .string t] w fun e w' => e = .returned (.bool (L.contains t.data.toList)) ∧ w' = w := by
  refine (Tryd.slices_Contains_string b 0 L.length L.length (L.map bs) t w (by simp) (by omega) (fun j hj => by
    rw [List.length_map] at hj
    rw [Nat.zero_add, h.2 j hj]; simp [hj])).mono ?_
  rintro e w' ⟨rfl, rfl⟩
  refine ⟨ret_bool ?_, rfl⟩
  rw [Bool.eq_iff_iff, Lib.containsS_iff, List.take_of_length_le (by simp)]
  simp only [List.mem_map, List.contains_iff_mem]
  constructor
  · rintro ⟨x, hx, rfl⟩
    rw [bs_list]; exact hx
  · intro hx
    exact ⟨_, hx, bs_of t⟩
theorem not_true' {b : Bool} (h : ¬ b = true) : b = false := by cases b <;> simp_all
theorem nameS_no {t : ByteArray} (h : ¬ (0 < t.size ∧ t.size ≤ 16)) : nameS t = false := by unfold nameS; simp [h]
theorem nameS_eq {t : ByteArray} (h : 0 < t.size ∧ t.size ≤ 16) (hp : 0 < t.size) : nameS t = (letB (t[0].toNat : Int) && t.data.toList.all (fun b => wordB b.toNat) && !resS t.data.toList) := by
  unfold nameS; simp only [h, and_self, decide_true, Bool.true_and]; rw [at_getD h.1]
set_option maxHeartbeats 2000000 in
theorem rIsName_c (t : ByteArray) (w : World) (hE : Env w) : Calls Tryd.prog 26 #[.string t] w fun e w' => e = .returned (.bool (nameS t)) ∧ Below w.heap.size w w' := by
  have HE := Lib.hid hE; clear hE
  have HR0 : Hid (Below w.heap.size w w) := Below.refl _ _
  by_cases h0 : t.size = 0
  · obtain rfl := empty_of h0
    have e : Hid (nameS ⟨#[]⟩ = false) := nameS_no (by decide)
    clear h0
    go_enter Tryd.func26, Tryd.ntmps26
    go_wp2
    go_ret
    exact ⟨ret_bool e.out.symm, HR0.out⟩
  have z := text_some h0
  have z2 : (t.toList == []) = false := by rw [beq_eq_false_iff_ne]; exact z.1
  by_cases h1 : 16 < t.size
  · have e : Hid (nameS t = false) := nameS_no (by omega)
    have z1 : (16 : Int) < t.size := by omega
    clear h0 h1 z
    go_enter Tryd.func26, Tryd.ntmps26
    go_wp2
    go_ret
    exact ⟨ret_bool e.out.symm, HR0.out⟩
  have hsz : 0 < t.size ∧ t.size ≤ 16 := by omega
  have hp : 0 < t.size := hsz.1
  have hN := Lib.hid (nameS_eq hsz hp)
  have hpi : (0 : Int) < t.size := by omega
  have hsz1 : (t.size : Int) ≤ 16 := by omega
  have hsz2 : t.size ≤ 16 := by omega
  have hll := Lib.hid (Lib.size_eq t)
  have hA := Lib.hid (fun (k : Nat) (h : k < t.size) => at_getD h)
  clear h0 h1 z hsz
  by_cases c1 : (t[0].toNat : Int) < 97
  · have e : Hid (nameS t = false) := by unfold Hid; rw [hN.out, show letB (t[0].toNat : Int) = false by unfold letB; simp; omega]; rfl
    clear hN
    go_enter Tryd.func26, Tryd.ntmps26
    go_wp2
    go_ret
    exact ⟨ret_bool e.out.symm, HR0.out⟩
  have c1' : decide ((t[0].toNat : Int) < 97) = false := by simpa using c1
  by_cases c2 : (122 : Int) < (t[0].toNat : Int)
  · have e : Hid (nameS t = false) := by unfold Hid; rw [hN.out, show letB (t[0].toNat : Int) = false by unfold letB; simp; omega]; rfl
    clear hN c1
    go_enter Tryd.func26, Tryd.ntmps26
    go_wp2
    go_ret
    exact ⟨ret_bool e.out.symm, HR0.out⟩
  have c2' : decide ((122 : Int) < (t[0].toNat : Int)) = false := by simpa using c2
  have hN2 : Hid (nameS t = (t.data.toList.all (fun b => wordB b.toNat) && !resS t.data.toList)) := by
    unfold Hid; rw [hN.out, show letB (t[0].toNat : Int) = true by unfold letB; simp; omega]; rfl
  clear hN c1 c2
  have hF := Lib.hid fieldsNames
  by_cases hres : resL.contains t.data.toList = true
  · have e : Hid (nameS t = false) := by unfold Hid; rw [hN2.out]; unfold resS; rw [hres]; simp
    clear hN2
    go_enter Tryd.func26, Tryd.ntmps26
    go_wp2_with fail
    refine (hF.out _ HE.out).mono ?_
    rintro e1 w1 ⟨b, rfl, hR, hB⟩
    have HB := Lib.hid hB.out
    have hC := Lib.hid (containsRow b resL (by decide) t w1 hR.out)
    clear hR
    rw [hres] at hC
    clear hres hF hA
    go_wp2_with fail
    refine hC.out.mono ?_
    rintro e2 w2 ⟨rfl, rfl⟩
    go_wp2
    go_ret
    exact ⟨ret_bool e.out.symm, HB.out⟩
  · have hres := not_true' hres
    have hN3 : Hid (nameS t = t.data.toList.all (fun b => wordB b.toNat)) := by unfold Hid; rw [hN2.out]; unfold resS; rw [hres]; simp
    clear hN2
    go_enter Tryd.func26, Tryd.ntmps26
    go_wp2_with fail
    refine (hF.out _ HE.out).mono ?_
    rintro e1 w1 ⟨b, rfl, hR, hB⟩
    have HB := Lib.hid hB.out
    have hC := Lib.hid (containsRow b resL (by decide) t w1 hR.out)
    clear hR
    rw [hres] at hC
    clear hres hF
    go_wp2_with fail
    refine hC.out.mono ?_
    rintro e2 w2 ⟨rfl, rfl⟩
    clear hC
    go_wp2_with fail
    go_loop [3, 28] (fun _ i => ∃ k : Nat, k ≤ t.size ∧ i = .int .i64 k ∧ Hid (∀ j, j < k → wordB ((t.data.toList.getD j 0).toNat : Int) = true)) (fun _ i => t.size - (intOf i).toNat)
    case atStart => exact ⟨0, Nat.zero_le _, rfl, fun j hj => absurd hj (Nat.not_lt_zero _)⟩
    case round =>
      obtain ⟨k, hk, rfl, hW⟩ := hrel
      by_cases hlt : k < t.size
      · have hkk : (k : Int) < (t.size : Int) := by omega
        have eA := hA.out k hlt
        have hB := Lib.hid (fun w => rWordByte_c (t[k].toNat : Int) w)
        by_cases hw : wordB (t[k].toNat : Int) = true
        · rw [hw] at hB
          have hW2 : Hid (∀ j, j < k + 1 → wordB ((t.data.toList.getD j 0).toNat : Int) = true) := by
            intro j hj
            by_cases e : j = k
            · subst e; rw [← eA]; exact hw
            · exact hW.out j (by omega)
          clear hw eA hW
          go_wp2_with fail
          refine (hB.out _).mono ?_
          rintro e w1 ⟨rfl, rfl⟩
          go_wp2
          go_round
          case rel => exact ⟨k + 1, by omega, by go_num, hW2.out⟩
          case measure => simp [intOf]; omega
        · have hw' : wordB (t[k].toNat : Int) = false := by simpa using hw
          rw [hw'] at hB
          have e : Hid (nameS t = false) := by
            unfold Hid
            rw [hN3.out, not_all (p := fun b => wordB b.toNat) (j := k) (by rw [← hll.out]; exact hlt) (by rw [← eA]; exact hw')]
          clear hw hw' eA hW
          go_wp2_with fail
          refine (hB.out _).mono ?_
          rintro e w1 ⟨rfl, rfl⟩
          go_wp2
          go_ret
          exact ⟨ret_bool e.out.symm, HB.out⟩
      · obtain rfl : k = t.size := by omega
        have e : Hid (nameS t = true) := by
          unfold Hid
          rw [hN3.out, all_upto (p := fun b => wordB b.toNat) (fun j hj => hW.out j (by rw [hll.out]; exact hj))]
        clear hW
        go_wp2
        go_ret
        exact ⟨ret_bool e.out.symm, HB.out⟩
end Go.Proofs.YtngijlmokhkdjaaDoor
