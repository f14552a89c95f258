/-
  IsName of package value and of the reference.
-/
import Derived.Test.YtpoaikbedcfgaaaDoorFrmBase
import Derived.Test.YtpoaikbedcfgaaaDoorShelf
import Derived.Lib.Bytealg
namespace Go.Proofs.YtpoaikbedcfgaaaDoor
open Go.RowKit

theorem ret_bool {a b : Bool} (h : a = b) : Ending.returned (.bool a) = .returned (.bool b) := by rw [h]
def bs (l : List UInt8) : ByteArray := ⟨l.toArray⟩
theorem bs_list (l : List UInt8) : (bs l).data.toList = l := by simp [bs]
theorem bs_of (s : ByteArray) : bs s.data.toList = s := by cases s; simp [bs]
theorem gSpace : Tryd.prog.globalNamed "strings.asciiSpace" = some 0 := by kernel_rfl
theorem empty_of {s : ByteArray} (h : s.size = 0) : s = ⟨#[]⟩ := by
  cases s with
  | mk d => simp only [ByteArray.size, ByteArray.mk.injEq] at h ⊢; exact Array.eq_empty_of_size_eq_zero h

theorem text_some {s : ByteArray} (h : s.size ≠ 0) : ¬ s.toList = [] ∧ s.toList.isEmpty = false := by
  have e : s.toList = s.data.toList := Lib.toList_data s
  have h' : s.data.toList ≠ [] := by
    intro hn; apply h
    have := congrArg List.length hn
    simpa using this
  rw [e]
  exact ⟨h', by simpa using h'⟩
/-- The one table of the library that IsName of the reference reads. -/
structure Env (w : World) : Prop where
  asp : Lib.TabIs Tryd.prog w "strings.asciiSpace" .u8 Lib.asciiSpaceTab

def letB (n : Int) : Bool := decide (97 ≤ n ∧ n ≤ 122)
def digB (n : Int) : Bool := decide (48 ≤ n ∧ n ≤ 57)
def wordB (n : Int) : Bool := letB n || digB n || decide (n = 95)
theorem isLetter_c (n : Int) (w : World) : Calls Tryd.prog 44 #[.int .u8 n] w fun e w' => e = .returned (.bool (letB n)) ∧ w' = w := by
  by_cases h1 : 97 ≤ n
  · by_cases h2 : n ≤ 122
    · have e : Hid (letB n = true) := by unfold Hid letB; simp; omega
      go_enter Tryd.func44, Tryd.ntmps44
      go_wp2
      go_ret
      exact ⟨by rw [e.out]; rfl, rfl⟩
    · have e : Hid (letB n = false) := by unfold Hid letB; simp; omega
      have h2' : decide (n ≤ 122) = false := by simp; omega
      clear h2
      go_enter Tryd.func44, Tryd.ntmps44
      go_wp2
      go_ret
      exact ⟨by rw [e.out]; rfl, rfl⟩
  · have e : Hid (letB n = false) := by unfold Hid letB; simp; omega
    have h1' : decide (97 ≤ n) = false := by simp; omega
    clear h1
    go_enter Tryd.func44, Tryd.ntmps44
    go_wp2
    go_ret
    exact ⟨by rw [e.out]; rfl, rfl⟩
theorem isDigit_c (n : Int) (w : World) : Calls Tryd.prog 55 #[.int .u8 n] w fun e w' => e = .returned (.bool (digB n)) ∧ w' = w := by
  by_cases h1 : 48 ≤ n
  · by_cases h2 : n ≤ 57
    · have e : Hid (digB n = true) := by unfold Hid digB; simp; omega
      go_enter Tryd.func55, Tryd.ntmps55
      go_wp2
      go_ret
      exact ⟨by rw [e.out]; rfl, rfl⟩
    · have e : Hid (digB n = false) := by unfold Hid digB; simp; omega
      have h2' : decide (n ≤ 57) = false := by simp; omega
      clear h2
      go_enter Tryd.func55, Tryd.ntmps55
      go_wp2
      go_ret
      exact ⟨by rw [e.out]; rfl, rfl⟩
  · have e : Hid (digB n = false) := by unfold Hid digB; simp; omega
    have h1' : decide (48 ≤ n) = false := by simp; omega
    clear h1
    go_enter Tryd.func55, Tryd.ntmps55
    go_wp2
    go_ret
    exact ⟨by rw [e.out]; rfl, rfl⟩
theorem isWordByte_c (n : Int) (w : World) : Calls Tryd.prog 45 #[.int .u8 n] w fun e w' => e = .returned (.bool (wordB n)) ∧ w' = w := by
  have hL := Lib.hid (fun w => isLetter_c n w)
  have hD := Lib.hid (fun w => isDigit_c n w)
  have e : Hid (wordB n = (letB n || digB n || decide (n = 95))) := rfl
  generalize letB n = a at hL e
  generalize digB n = b at hD e
  cases a
  · cases b
    · by_cases h : n = 95
      · have h' : (n == 95) = true := by simpa using h
        have e2 : Hid (wordB n = true) := by unfold Hid; rw [e.out]; simp [h]
        clear h e
        go_enter Tryd.func45, Tryd.ntmps45
        go_wp2_with fail
        refine (hL.out _).mono ?_
        rintro e w1 ⟨rfl, rfl⟩
        go_wp2_with fail
        refine (hD.out _).mono ?_
        rintro e w1 ⟨rfl, rfl⟩
        go_wp2
        go_ret
        exact ⟨by rw [e2.out]; rfl, rfl⟩
      · have h' : (n == 95) = false := by simpa using h
        have e2 : Hid (wordB n = false) := by unfold Hid; rw [e.out]; simp [h]
        clear h e
        go_enter Tryd.func45, Tryd.ntmps45
        go_wp2_with fail
        refine (hL.out _).mono ?_
        rintro e w1 ⟨rfl, rfl⟩
        go_wp2_with fail
        refine (hD.out _).mono ?_
        rintro e w1 ⟨rfl, rfl⟩
        go_wp2
        go_ret
        exact ⟨by rw [e2.out]; rfl, rfl⟩
    · have e2 : Hid (wordB n = true) := by unfold Hid; rw [e.out]; simp
      clear e
      go_enter Tryd.func45, Tryd.ntmps45
      go_wp2_with fail
      refine (hL.out _).mono ?_
      rintro e w1 ⟨rfl, rfl⟩
      go_wp2_with fail
      refine (hD.out _).mono ?_
      rintro e w1 ⟨rfl, rfl⟩
      go_wp2
      go_ret
      exact ⟨by rw [e2.out]; rfl, rfl⟩
  · have e2 : Hid (wordB n = true) := by unfold Hid; rw [e.out]; simp
    clear e
    go_enter Tryd.func45, Tryd.ntmps45
    go_wp2_with fail
    refine (hL.out _).mono ?_
    rintro e w1 ⟨rfl, rfl⟩
    go_wp2
    go_ret
    exact ⟨by rw [e2.out]; rfl, rfl⟩

def resL : List (List UInt8) := [[97, 110, 100], [111, 114], [110, 111, 116], [105, 110], [104, 97, 115], [109, 111, 100], [116, 114, 117, 101], [102, 97, 108, 115, 101]]
def resS (l : List UInt8) : Bool := resL.contains l
theorem beq_no {t : ByteArray} {l : List UInt8} (h : t.data.toList ≠ l) : (t.toList == l) = false := by
  rw [Lib.toList_data]; simpa using h
theorem bytes_lit {t : ByteArray} {l : List UInt8} (h : t.data.toList = l) : t = ⟨l.toArray⟩ := by
  cases t with
  | mk d => cases d with
    | mk x => simp only at h; subst h; rfl
set_option maxHeartbeats 1000000 in
theorem isReserved_c (t : ByteArray) (w : World) : Calls Tryd.prog 46 #[.string t] w fun e w' => e = .returned (.bool (resS t.data.toList)) ∧ w' = w := by
  by_cases hm : t.data.toList ∈ resL
  · have e : Hid (resS t.data.toList = true) := by unfold Hid resS; simpa using hm
    have hm' : t.data.toList = [97, 110, 100] ∨ t.data.toList = [111, 114] ∨ t.data.toList = [110, 111, 116] ∨ t.data.toList = [105, 110] ∨ t.data.toList = [104, 97, 115] ∨ t.data.toList = [109, 111, 100] ∨ t.data.toList = [116, 114, 117, 101] ∨ t.data.toList = [102, 97, 108, 115, 101] := by simpa [resL] using hm
    clear hm
    rcases hm' with h | h | h | h | h | h | h | h
    all_goals
      obtain rfl := bytes_lit h
      clear h
      go_enter Tryd.func46, Tryd.ntmps46
      go_wp2
      go_ret
      exact ⟨by rw [e.out]; rfl, rfl⟩
  · have e : Hid (resS t.data.toList = false) := by unfold Hid resS; simpa using hm
    have ne : ∀ l, l ∈ resL → t.data.toList ≠ l := fun l hl h => hm (by rw [h]; exact hl)
    have n1 := beq_no (ne [97, 110, 100] (by decide))
    have n2 := beq_no (ne [111, 114] (by decide))
    have n3 := beq_no (ne [110, 111, 116] (by decide))
    have n4 := beq_no (ne [105, 110] (by decide))
    have n5 := beq_no (ne [104, 97, 115] (by decide))
    have n6 := beq_no (ne [109, 111, 100] (by decide))
    have n7 := beq_no (ne [116, 114, 117, 101] (by decide))
    have n8 := beq_no (ne [102, 97, 108, 115, 101] (by decide))
    clear hm ne
    go_enter Tryd.func46, Tryd.ntmps46
    go_wp2
    go_ret
    exact ⟨by rw [e.out]; rfl, rfl⟩

/-- A text is a name. -/
def nameS (t : ByteArray) : Bool := decide (0 < t.size ∧ t.size ≤ 16) && letB (t.data.toList.getD 0 0).toNat && t.data.toList.all (fun b => wordB b.toNat) && !resS t.data.toList
theorem at_getD {t : ByteArray} {k : Nat} (h : k < t.size) : t[k] = t.data.toList.getD k 0 := by
  have hl : k < t.data.toList.length := by rw [← Lib.size_eq]; exact h
  rw [List.getD_eq_getElem?_getD, List.getElem?_eq_getElem hl]; rfl
theorem all_upto {p : UInt8 → Bool} {l : List UInt8} (h : ∀ j, j < l.length → p (l.getD j 0) = true) : l.all p = true := by
  rw [List.all_eq_true]
  intro x hx
  obtain ⟨j, hj, e⟩ := List.getElem_of_mem hx
  have := h j hj
  rw [List.getD_eq_getElem?_getD, List.getElem?_eq_getElem hj] at this
  simpa [e] using this
theorem not_all {p : UInt8 → Bool} {l : List UInt8} {j : Nat} (hj : j < l.length) (h : p (l.getD j 0) = false) : l.all p = false := by
  rw [List.all_eq_false]
  refine ⟨l[j], List.getElem_mem hj, ?_⟩
  rw [List.getD_eq_getElem?_getD, List.getElem?_eq_getElem hj] at h
  simpa using h
set_option maxHeartbeats 2000000 in
theorem isName_c (t : ByteArray) (w : World) : Calls Tryd.prog 33 #[.string t] w fun e w' => e = .returned (.bool (nameS t)) ∧ w' = w := by
  by_cases h0 : t.size = 0
  · have e : Hid (nameS t = false) := by unfold Hid nameS; simp [h0]
    have z : ((t.size : Int) == 0) = true := by simp [h0]
    clear h0
    go_enter Tryd.func33, Tryd.ntmps33
    go_wp2
    go_ret
    exact ⟨by rw [e.out]; rfl, rfl⟩
  · have z : ((t.size : Int) == 0) = false := by rw [beq_eq_false_iff_ne]; omega
    by_cases h1 : 16 < t.size
    · have e : Hid (nameS t = false) := by
        unfold Hid nameS; have : ¬ (0 < t.size ∧ t.size ≤ 16) := by omega
        simp [this]
      have z1 : (16 : Int) < t.size := by omega
      clear h0 h1
      go_enter Tryd.func33, Tryd.ntmps33
      go_wp2
      go_ret
      exact ⟨by rw [e.out]; rfl, rfl⟩
    · have z1 : decide ((16 : Int) < t.size) = false := by simp; omega
      have hp : 0 < t.size := by omega
      have hpi : (0 : Int) < t.size := by omega
      have hsz : 0 < t.size ∧ t.size ≤ 16 := by omega
      have hll := Lib.hid (Lib.size_eq t)
      have e0 := Lib.hid (at_getD hp)
      have hA := Lib.hid (fun (k : Nat) (h : k < t.size) => at_getD h)
      have hL := Lib.hid (fun w => isLetter_c (t[0].toNat : Int) w)
      have hS : Hid (nameS t = (letB (t.data.toList.getD 0 0).toNat && t.data.toList.all (fun b => wordB b.toNat) && !resS t.data.toList)) := by unfold Hid nameS; simp [hsz]
      have hR := Lib.hid (fun w => isReserved_c t w)
      by_cases h2 : letB (t[0].toNat : Int) = true
      · rw [h2] at hL
        have hS2 : Hid (nameS t = (t.data.toList.all (fun b => wordB b.toNat) && !resS t.data.toList)) := by
          unfold Hid; rw [hS.out, ← e0.out, h2]; simp
        have hsz1 : t.size ≤ 16 := hsz.2
        clear h0 h1 h2 e0 hsz hS
        go_enter Tryd.func33, Tryd.ntmps33
        go_wp2_with fail
        refine (hL.out _).mono ?_
        rintro e w1 ⟨rfl, rfl⟩
        go_wp2_with fail
        go_loop [3, 20] (fun _ i => ∃ k : Nat, k ≤ t.size ∧ i = .int .i64 k ∧ Hid (∀ j, j < k → wordB ((t.data.toList.getD j 0).toNat : Int) = true)) (fun _ i => t.size - (intOf i).toNat)
        case atStart => exact ⟨0, Nat.zero_le _, rfl, fun j hj => absurd hj (Nat.not_lt_zero _)⟩
        case round =>
          obtain ⟨k, hk, rfl, hW⟩ := hrel
          by_cases hlt : k < t.size
          · have hkk : (k : Int) < (t.size : Int) := by omega
            have eA := hA.out k hlt
            have hB := Lib.hid (fun w => isWordByte_c (t[k].toNat : Int) w)
            by_cases hw : wordB (t[k].toNat : Int) = true
            · rw [hw] at hB
              have hW2 : Hid (∀ j, j < k + 1 → wordB ((t.data.toList.getD j 0).toNat : Int) = true) := by
                intro j hj
                by_cases e : j = k
                · subst e; rw [← eA]; exact hw
                · exact hW.out j (by omega)
              clear hw eA hW
              go_wp2_with fail
              refine (hB.out _).mono ?_
              rintro e w1 ⟨rfl, rfl⟩
              go_wp2
              go_round
              case rel => exact ⟨k + 1, by omega, by go_num, hW2.out⟩
              case measure => simp [intOf]; omega
            · have hw' : wordB (t[k].toNat : Int) = false := by simpa using hw
              rw [hw'] at hB
              have e : Hid (nameS t = false) := by
                unfold Hid
                rw [hS2.out, not_all (p := fun b => wordB b.toNat) (j := k) (by rw [← hll.out]; exact hlt) (by rw [← eA]; exact hw')]
                rfl
              clear hw hw' eA hW
              go_wp2_with fail
              refine (hB.out _).mono ?_
              rintro e w1 ⟨rfl, rfl⟩
              go_wp2
              go_ret
              exact ⟨by rw [e.out]; rfl, rfl⟩
          · obtain rfl : k = t.size := by omega
            have e : Hid (nameS t = !resS t.data.toList) := by
              unfold Hid
              rw [hS2.out, all_upto (p := fun b => wordB b.toNat) (fun j hj => hW.out j (by rw [hll.out]; exact hj))]
              rfl
            clear hW
            go_wp2_with fail
            refine (hR.out _).mono ?_
            rintro e w1 ⟨rfl, rfl⟩
            go_wp2
            go_ret
            exact ⟨by rw [e.out]; rfl, rfl⟩
      · have h2' : letB (t[0].toNat : Int) = false := by simpa using h2
        rw [h2'] at hL
        have e : Hid (nameS t = false) := by
          unfold Hid; rw [hS.out, ← e0.out, h2']; simp
        clear h0 h1 h2 h2' e0 hsz hS hA
        go_enter Tryd.func33, Tryd.ntmps33
        go_wp2_with fail
        refine (hL.out _).mono ?_
        rintro e w1 ⟨rfl, rfl⟩
        go_wp2
        go_ret
        exact ⟨by rw [e.out]; rfl, rfl⟩
theorem rWordByte_c (n : Int) (w : World) : Calls Tryd.prog 38 #[.int .u8 n] w fun e w' => e = .returned (.bool (wordB n)) ∧ w' = w := by
  have hc : (97 ≤ n ∧ n ≤ 122) ∨ (122 < n) ∨ (n = 95) ∨ (48 ≤ n ∧ n ≤ 57) ∨ (n < 48) ∨ (57 < n ∧ n ≤ 96 ∧ n ≠ 95) := by omega
  rcases hc with hc | hc | hc | hc | hc | hc
  · have e : Hid (wordB n = true) := by unfold Hid wordB letB digB; simp; omega
    have t1 : decide (97 ≤ n) = true := by simp; omega
    have t2 : decide (n ≤ 122) = true := by simp; omega
    clear hc
    go_enter Tryd.func38, Tryd.ntmps38
    go_wp2
    go_ret
    exact ⟨by rw [e.out]; rfl, rfl⟩
  · have e : Hid (wordB n = false) := by unfold Hid wordB letB digB; simp; omega
    have t1 : decide (97 ≤ n) = true := by simp; omega
    have t2 : decide (n ≤ 122) = false := by simp; omega
    have t3 : decide (48 ≤ n) = true := by simp; omega
    have t4 : decide (n ≤ 57) = false := by simp; omega
    have t5 : (n == 95) = false := by rw [beq_eq_false_iff_ne]; omega
    clear hc
    go_enter Tryd.func38, Tryd.ntmps38
    go_wp2
    go_ret
    exact ⟨by rw [e.out]; rfl, rfl⟩
  · have e : Hid (wordB n = true) := by unfold Hid wordB letB digB; simp; omega
    have t1 : decide (97 ≤ n) = false := by simp; omega
    have t3 : decide (48 ≤ n) = true := by simp; omega
    have t4 : decide (n ≤ 57) = false := by simp; omega
    have t5 : (n == 95) = true := by rw [beq_iff_eq]; omega
    clear hc
    go_enter Tryd.func38, Tryd.ntmps38
    go_wp2
    go_ret
    exact ⟨by rw [e.out]; rfl, rfl⟩
  · have e : Hid (wordB n = true) := by unfold Hid wordB letB digB; simp; omega
    have t1 : decide (97 ≤ n) = false := by simp; omega
    have t3 : decide (48 ≤ n) = true := by simp; omega
    have t4 : decide (n ≤ 57) = true := by simp; omega
    clear hc
    go_enter Tryd.func38, Tryd.ntmps38
    go_wp2
    go_ret
    exact ⟨by rw [e.out]; rfl, rfl⟩
  · have e : Hid (wordB n = false) := by unfold Hid wordB letB digB; simp; omega
    have t1 : decide (97 ≤ n) = false := by simp; omega
    have t3 : decide (48 ≤ n) = false := by simp; omega
    have t5 : (n == 95) = false := by rw [beq_eq_false_iff_ne]; omega
    clear hc
    go_enter Tryd.func38, Tryd.ntmps38
    go_wp2
    go_ret
    exact ⟨by rw [e.out]; rfl, rfl⟩
  · have e : Hid (wordB n = false) := by unfold Hid wordB letB digB; simp; omega
    have t1 : decide (97 ≤ n) = false := by simp; omega
    have t3 : decide (48 ≤ n) = true := by simp; omega
    have t4 : decide (n ≤ 57) = false := by simp; omega
    have t5 : (n == 95) = false := by rw [beq_eq_false_iff_ne]; omega
    clear hc
    go_enter Tryd.func38, Tryd.ntmps38
    go_wp2
    go_ret
    exact ⟨by rw [e.out]; rfl, rfl⟩

/-- A row of texts in a block. -/
def RowS (w : World) (b : Nat) (L : List (List UInt8)) : Prop := b < w.heap.size ∧ ∀ j, j < L.length → w.cell? ⟨b, j, none⟩ = some (.string (bs (L.getD j [])))
theorem RowS.below {w w' : World} {b : Nat} {L : List (List UInt8)} (h : RowS w b L) (hb : Below w.heap.size w w') : RowS w' b L :=
  ⟨Nat.lt_of_lt_of_le h.1 hb.size, fun j hj => by rw [hb.cell (p := ⟨b, j, none⟩) h.1]; exact h.2 j hj⟩
def FieldsP (L : List (List UInt8)) (w : World) (e : Ending) (w' : World) : Prop := ∃ b, e = .returned (.slice (some ⟨b, 0, none⟩) L.length L.length) ∧ Hid (RowS w' b L) ∧ Hid (Below w.heap.size w w')
theorem fields_c (s : ByteArray) (L : List (List UInt8)) (hL : Lib.fields s.data.toList = L) (hs : s.size < 4294967281) (ha : ∀ b ∈ s.data.toList, b.toNat < 128) (w : World) (hE : Env w) :
    Calls Tryd.prog 37 #[.string s] w (FieldsP L w) := by
  refine (Tryd.strings_Fields_laid s w hs (fun j b hj => ha b (List.mem_of_getElem? hj)) hE.asp).mono ?_
  rintro e w' ⟨rfl, rfl⟩
  rw [hL]
  refine ⟨w.heap.size, rfl, ⟨by simp, fun j hj => ?_⟩, (Below.refl _ _).alloc (Nat.le_refl _) _⟩
  rw [World.cell?_alloc_new, ← Array.getElem?_toList]
  simp [hj, bs]

abbrev namesText : ByteArray := ⟨#[97, 110, 100, 32, 111, 114, 32, 110, 111, 116, 32, 105, 110, 32, 104, 97, 115, 32, 109, 111, 100, 32, 116, 114, 117, 101, 32, 102, 97, 108, 115, 101]⟩
theorem fieldsNames (w : World) (hE : Env w) : Calls Tryd.prog 37 #[.string namesText] w (FieldsP resL w) :=
  fields_c namesText resL (by decide +kernel) (by decide) (by decide +kernel) w hE
theorem containsRow (b : Nat) (L : List (List UInt8)) (hl : L.length ≤ 1000) (t : ByteArray) (w : World) (h : RowS w b L) :
    Calls Tryd.prog 36 #[.slice (some ⟨b, 0, none⟩) L.length L.length, .string t] w fun e w' => e = .returned (.bool (L.contains t.data.toList)) ∧ w' = w := by
  refine (Tryd.slices_Contains_string b 0 L.length L.length (L.map bs) t w (by simp) (by omega) (fun j hj => by
    rw [List.length_map] at hj
    rw [Nat.zero_add, h.2 j hj]; simp [hj])).mono ?_
  rintro e w' ⟨rfl, rfl⟩
  refine ⟨ret_bool ?_, rfl⟩
  rw [Bool.eq_iff_iff, Lib.containsS_iff, List.take_of_length_le (by simp)]
  simp only [List.mem_map, List.contains_iff_mem]
  constructor
  · rintro ⟨x, hx, rfl⟩
    rw [bs_list]; exact hx
  · intro hx
    exact ⟨_, hx, bs_of t⟩
theorem not_true' {b : Bool} (h : ¬ b = true) : b = false := by cases b <;> simp_all
theorem nameS_no {t : ByteArray} (h : ¬ (0 < t.size ∧ t.size ≤ 16)) : nameS t = false := by unfold nameS; simp [h]
theorem nameS_eq {t : ByteArray} (h : 0 < t.size ∧ t.size ≤ 16) (hp : 0 < t.size) : nameS t = (letB (t[0].toNat : Int) && t.data.toList.all (fun b => wordB b.toNat) && !resS t.data.toList) := by
  unfold nameS; simp only [h, and_self, decide_true, Bool.true_and]; rw [at_getD h.1]
set_option maxHeartbeats 2000000 in
theorem rIsName_c (t : ByteArray) (w : World) (hE : Env w) : Calls Tryd.prog 28 #[.string t] w fun e w' => e = .returned (.bool (nameS t)) ∧ Below w.heap.size w w' := by
  have HE := Lib.hid hE; clear hE
  have HR0 : Hid (Below w.heap.size w w) := Below.refl _ _
  by_cases h0 : t.size = 0
  · obtain rfl := empty_of h0
    have e : Hid (nameS ⟨#[]⟩ = false) := nameS_no (by decide)
    clear h0
    go_enter Tryd.func28, Tryd.ntmps28
    go_wp2
    go_ret
    exact ⟨ret_bool e.out.symm, HR0.out⟩
  have z := text_some h0
  have z2 : (t.toList == []) = false := by rw [beq_eq_false_iff_ne]; exact z.1
  by_cases h1 : 16 < t.size
  · have e : Hid (nameS t = false) := nameS_no (by omega)
    have z1 : (16 : Int) < t.size := by omega
    clear h0 h1 z
    go_enter Tryd.func28, Tryd.ntmps28
    go_wp2
    go_ret
    exact ⟨ret_bool e.out.symm, HR0.out⟩
  have hsz : 0 < t.size ∧ t.size ≤ 16 := by omega
  have hp : 0 < t.size := hsz.1
  have hN := Lib.hid (nameS_eq hsz hp)
  have hpi : (0 : Int) < t.size := by omega
  have hsz1 : (t.size : Int) ≤ 16 := by omega
  have hsz2 : t.size ≤ 16 := by omega
  have hll := Lib.hid (Lib.size_eq t)
  have hA := Lib.hid (fun (k : Nat) (h : k < t.size) => at_getD h)
  clear h0 h1 z hsz
  by_cases c1 : (t[0].toNat : Int) < 97
  · have e : Hid (nameS t = false) := by unfold Hid; rw [hN.out, show letB (t[0].toNat : Int) = false by unfold letB; simp; omega]; rfl
    clear hN
    go_enter Tryd.func28, Tryd.ntmps28
    go_wp2
    go_ret
    exact ⟨ret_bool e.out.symm, HR0.out⟩
  have c1' : decide ((t[0].toNat : Int) < 97) = false := by simpa using c1
  by_cases c2 : (122 : Int) < (t[0].toNat : Int)
  · have e : Hid (nameS t = false) := by unfold Hid; rw [hN.out, show letB (t[0].toNat : Int) = false by unfold letB; simp; omega]; rfl
    clear hN c1
    go_enter Tryd.func28, Tryd.ntmps28
    go_wp2
    go_ret
    exact ⟨ret_bool e.out.symm, HR0.out⟩
  have c2' : decide ((122 : Int) < (t[0].toNat : Int)) = false := by simpa using c2
  have hN2 : Hid (nameS t = (t.data.toList.all (fun b => wordB b.toNat) && !resS t.data.toList)) := by
    unfold Hid; rw [hN.out, show letB (t[0].toNat : Int) = true by unfold letB; simp; omega]; rfl
  clear hN c1 c2
  have hF := Lib.hid fieldsNames
  by_cases hres : resL.contains t.data.toList = true
  · have e : Hid (nameS t = false) := by unfold Hid; rw [hN2.out]; unfold resS; rw [hres]; simp
    clear hN2
    go_enter Tryd.func28, Tryd.ntmps28
    go_wp2_with fail
    refine (hF.out _ HE.out).mono ?_
    rintro e1 w1 ⟨b, rfl, hR, hB⟩
    have HB := Lib.hid hB.out
    have hC := Lib.hid (containsRow b resL (by decide) t w1 hR.out)
    clear hR
    rw [hres] at hC
    clear hres hF hA
    go_wp2_with fail
    refine hC.out.mono ?_
    rintro e2 w2 ⟨rfl, rfl⟩
    go_wp2
    go_ret
    exact ⟨ret_bool e.out.symm, HB.out⟩
  · have hres := not_true' hres
    have hN3 : Hid (nameS t = t.data.toList.all (fun b => wordB b.toNat)) := by unfold Hid; rw [hN2.out]; unfold resS; rw [hres]; simp
    clear hN2
    go_enter Tryd.func28, Tryd.ntmps28
    go_wp2_with fail
    refine (hF.out _ HE.out).mono ?_
    rintro e1 w1 ⟨b, rfl, hR, hB⟩
    have HB := Lib.hid hB.out
    have hC := Lib.hid (containsRow b resL (by decide) t w1 hR.out)
    clear hR
    rw [hres] at hC
    clear hres hF
    go_wp2_with fail
    refine hC.out.mono ?_
    rintro e2 w2 ⟨rfl, rfl⟩
    clear hC
    go_wp2_with fail
    go_loop [3, 28] (fun _ i => ∃ k : Nat, k ≤ t.size ∧ i = .int .i64 k ∧ Hid (∀ j, j < k → wordB ((t.data.toList.getD j 0).toNat : Int) = true)) (fun _ i => t.size - (intOf i).toNat)
    case atStart => exact ⟨0, Nat.zero_le _, rfl, fun j hj => absurd hj (Nat.not_lt_zero _)⟩
    case round =>
      obtain ⟨k, hk, rfl, hW⟩ := hrel
      by_cases hlt : k < t.size
      · have hkk : (k : Int) < (t.size : Int) := by omega
        have eA := hA.out k hlt
        have hB := Lib.hid (fun w => rWordByte_c (t[k].toNat : Int) w)
        by_cases hw : wordB (t[k].toNat : Int) = true
        · rw [hw] at hB
          have hW2 : Hid (∀ j, j < k + 1 → wordB ((t.data.toList.getD j 0).toNat : Int) = true) := by
            intro j hj
            by_cases e : j = k
            · subst e; rw [← eA]; exact hw
            · exact hW.out j (by omega)
          clear hw eA hW
          go_wp2_with fail
          refine (hB.out _).mono ?_
          rintro e w1 ⟨rfl, rfl⟩
          go_wp2
          go_round
          case rel => exact ⟨k + 1, by omega, by go_num, hW2.out⟩
          case measure => simp [intOf]; omega
        · have hw' : wordB (t[k].toNat : Int) = false := by simpa using hw
          rw [hw'] at hB
          have e : Hid (nameS t = false) := by
            unfold Hid
            rw [hN3.out, not_all (p := fun b => wordB b.toNat) (j := k) (by rw [← hll.out]; exact hlt) (by rw [← eA]; exact hw')]
          clear hw hw' eA hW
          go_wp2_with fail
          refine (hB.out _).mono ?_
          rintro e w1 ⟨rfl, rfl⟩
          go_wp2
          go_ret
          exact ⟨ret_bool e.out.symm, HB.out⟩
      · obtain rfl : k = t.size := by omega
        have e : Hid (nameS t = true) := by
          unfold Hid
          rw [hN3.out, all_upto (p := fun b => wordB b.toNat) (fun j hj => hW.out j (by rw [hll.out]; exact hj))]
        clear hW
        go_wp2
        go_ret
        exact ⟨ret_bool e.out.symm, HB.out⟩
end Go.Proofs.YtpoaikbedcfgaaaDoor
