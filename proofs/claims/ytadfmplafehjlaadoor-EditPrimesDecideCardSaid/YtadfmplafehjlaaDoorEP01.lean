/-
  IsName of package value and of the reference.
  EditPlansMatchSpec: what CheckPlan gives, of lists.
  Package edit: sets of numbers as bits.
  Package edit: records, the edits that they fail, and the parts of a box.
-/
import Derived.Test.YtadfmplafehjlaaDoorFrmBase
import Derived.Test.YtadfmplafehjlaaDoorShelf
import Derived.Lib.Bytealg
import Derived.Lib.TrailingZeros
namespace Go.Proofs.YtadfmplafehjlaaDoor
open Go.RowKit

theorem ret_bool {a b : Bool} (h : a = b) : Ending.returned (.bool a) = .returned (.bool b) := by rw [h]
def bs (l : List UInt8) : ByteArray := ⟨l.toArray⟩
theorem bs_list (l : List UInt8) : (bs l).data.toList = l := by simp [bs]
theorem bs_of (s : ByteArray) : bs s.data.toList = s := by cases s; simp [bs]
theorem gSpace : Tryd.prog.globalNamed "strings.asciiSpace" = some 1 := by kernel_rfl
theorem empty_of {s : ByteArray} (h : s.size = 0) : s = ⟨#[]⟩ := by
  cases s with
  | mk d => simp only [ByteArray.size, ByteArray.mk.injEq] at h ⊢; exact Array.eq_empty_of_size_eq_zero h

theorem text_some {s : ByteArray} (h : s.size ≠ 0) : ¬ s.toList = [] ∧ s.toList.isEmpty = false := by
  have e : s.toList = s.data.toList := Lib.toList_data s
  have h' : s.data.toList ≠ [] := by
    intro hn; apply h
    have := congrArg List.length hn
    simpa using this
  rw [e]
  exact ⟨h', by simpa using h'⟩
/-- The one table of the library that IsName of the reference reads. -/
structure Env (w : World) : Prop where
  asp : Lib.TabIs Tryd.prog w "strings.asciiSpace" .u8 Lib.asciiSpaceTab

def letB (n : Int) : Bool := decide (97 ≤ n ∧ n ≤ 122)
def digB (n : Int) : Bool := decide (48 ≤ n ∧ n ≤ 57)
def wordB (n : Int) : Bool := letB n || digB n || decide (n = 95)
theorem isLetter_c (n : Int) (w : World) : Calls Tryd.prog 126 #[.int .u8 n] w fun e w' => e = .returned (.bool (letB n)) ∧ w' = w := by
  by_cases h1 : 97 ≤ n
  · by_cases h2 : n ≤ 122
    · have e : Hid (letB n = true) := by unfold Hid letB; simp; omega
      go_enter Tryd.func126, Tryd.ntmps126
      go_wp2
      go_ret
      exact ⟨by rw [e.out]; rfl, rfl⟩
    · have e : Hid (letB n = false) := by unfold Hid letB; simp; omega
      have h2' : decide (n ≤ 122) = false := by simp; omega
      clear h2
      go_enter Tryd.func126, Tryd.ntmps126
      go_wp2
      go_ret
      exact ⟨by rw [e.out]; rfl, rfl⟩
  · have e : Hid (letB n = false) := by unfold Hid letB; simp; omega
    have h1' : decide (97 ≤ n) = false := by simp; omega
    clear h1
    go_enter Tryd.func126, Tryd.ntmps126
    go_wp2
    go_ret
    exact ⟨by rw [e.out]; rfl, rfl⟩
theorem isDigit_c (n : Int) (w : World) : Calls Tryd.prog 131 #[.int .u8 n] w fun e w' => e = .returned (.bool (digB n)) ∧ w' = w := by
  by_cases h1 : 48 ≤ n
  · by_cases h2 : n ≤ 57
    · have e : Hid (digB n = true) := by unfold Hid digB; simp; omega
      go_enter Tryd.func131, Tryd.ntmps131
      go_wp2
      go_ret
      exact ⟨by rw [e.out]; rfl, rfl⟩
    · have e : Hid (digB n = false) := by unfold Hid digB; simp; omega
      have h2' : decide (n ≤ 57) = false := by simp; omega
      clear h2
      go_enter Tryd.func131, Tryd.ntmps131
      go_wp2
      go_ret
      exact ⟨by rw [e.out]; rfl, rfl⟩
  · have e : Hid (digB n = false) := by unfold Hid digB; simp; omega
    have h1' : decide (48 ≤ n) = false := by simp; omega
    clear h1
    go_enter Tryd.func131, Tryd.ntmps131
    go_wp2
    go_ret
    exact ⟨by rw [e.out]; rfl, rfl⟩
theorem isWordByte_c (n : Int) (w : World) : Calls Tryd.prog 127 #[.int .u8 n] w fun e w' => e = .returned (.bool (wordB n)) ∧ w' = w := by
  have hL := Lib.hid (fun w => isLetter_c n w)
  have hD := Lib.hid (fun w => isDigit_c n w)
  have e : Hid (wordB n = (letB n || digB n || decide (n = 95))) := rfl
  generalize letB n = a at hL e
  generalize digB n = b at hD e
  cases a
  · cases b
    · by_cases h : n = 95
      · have h' : (n == 95) = true := by simpa using h
        have e2 : Hid (wordB n = true) := by unfold Hid; rw [e.out]; simp [h]
        clear h e
        go_enter Tryd.func127, Tryd.ntmps127
        go_wp2_with fail
        refine (hL.out _).mono ?_
        rintro e w1 ⟨rfl, rfl⟩
        go_wp2_with fail
        refine (hD.out _).mono ?_
        rintro e w1 ⟨rfl, rfl⟩
        go_wp2
        go_ret
        exact ⟨by rw [e2.out]; rfl, rfl⟩
      · have h' : (n == 95) = false := by simpa using h
        have e2 : Hid (wordB n = false) := by unfold Hid; rw [e.out]; simp [h]
        clear h e
        go_enter Tryd.func127, Tryd.ntmps127
        go_wp2_with fail
        refine (hL.out _).mono ?_
        rintro e w1 ⟨rfl, rfl⟩
        go_wp2_with fail
        refine (hD.out _).mono ?_
        rintro e w1 ⟨rfl, rfl⟩
        go_wp2
        go_ret
        exact ⟨by rw [e2.out]; rfl, rfl⟩
    · have e2 : Hid (wordB n = true) := by unfold Hid; rw [e.out]; simp
      clear e
      go_enter Tryd.func127, Tryd.ntmps127
      go_wp2_with fail
      refine (hL.out _).mono ?_
      rintro e w1 ⟨rfl, rfl⟩
      go_wp2_with fail
      refine (hD.out _).mono ?_
      rintro e w1 ⟨rfl, rfl⟩
      go_wp2
      go_ret
      exact ⟨by rw [e2.out]; rfl, rfl⟩
  · have e2 : Hid (wordB n = true) := by unfold Hid; rw [e.out]; simp
    clear e
    go_enter Tryd.func127, Tryd.ntmps127
    go_wp2_with fail
    refine (hL.out _).mono ?_
    rintro e w1 ⟨rfl, rfl⟩
    go_wp2
    go_ret
    exact ⟨by rw [e2.out]; rfl, rfl⟩

def resL : List (List UInt8) := [[97, 110, 100], [111, 114], [110, 111, 116], [105, 110], [104, 97, 115], [109, 111, 100], [116, 114, 117, 101], [102, 97, 108, 115, 101]]
def resS (l : List UInt8) : Bool := resL.contains l
theorem beq_no {t : ByteArray} {l : List UInt8} (h : t.data.toList ≠ l) : (t.toList == l) = false := by
  rw [Lib.toList_data]; simpa using h
theorem bytes_lit {t : ByteArray} {l : List UInt8} (h : t.data.toList = l) : t = ⟨l.toArray⟩ := by
  cases t with
  | mk d => cases d with
    | mk x => simp only at h; subst h; rfl
set_option maxHeartbeats 1000000 in
theorem isReserved_c (t : ByteArray) (w : World) : Calls Tryd.prog 128 #[.string t] w fun e w' => e = .returned (.bool (resS t.data.toList)) ∧ w' = w := by
  by_cases hm : t.data.toList ∈ resL
  · have e : Hid (resS t.data.toList = true) := by unfold Hid resS; simpa using hm
    have hm' : t.data.toList = [97, 110, 100] ∨ t.data.toList = [111, 114] ∨ t.data.toList = [110, 111, 116] ∨ t.data.toList = [105, 110] ∨ t.data.toList = [104, 97, 115] ∨ t.data.toList = [109, 111, 100] ∨ t.data.toList = [116, 114, 117, 101] ∨ t.data.toList = [102, 97, 108, 115, 101] := by simpa [resL] using hm
    clear hm
    rcases hm' with h | h | h | h | h | h | h | h
    all_goals
      obtain rfl := bytes_lit h
      clear h
      go_enter Tryd.func128, Tryd.ntmps128
      go_wp2
      go_ret
      exact ⟨by rw [e.out]; rfl, rfl⟩
  · have e : Hid (resS t.data.toList = false) := by unfold Hid resS; simpa using hm
    have ne : ∀ l, l ∈ resL → t.data.toList ≠ l := fun l hl h => hm (by rw [h]; exact hl)
    have n1 := beq_no (ne [97, 110, 100] (by decide))
    have n2 := beq_no (ne [111, 114] (by decide))
    have n3 := beq_no (ne [110, 111, 116] (by decide))
    have n4 := beq_no (ne [105, 110] (by decide))
    have n5 := beq_no (ne [104, 97, 115] (by decide))
    have n6 := beq_no (ne [109, 111, 100] (by decide))
    have n7 := beq_no (ne [116, 114, 117, 101] (by decide))
    have n8 := beq_no (ne [102, 97, 108, 115, 101] (by decide))
    clear hm ne
    go_enter Tryd.func128, Tryd.ntmps128
    go_wp2
    go_ret
    exact ⟨by rw [e.out]; rfl, rfl⟩

/-- A text is a name. -/
def nameS (t : ByteArray) : Bool := decide (0 < t.size ∧ t.size ≤ 16) && letB (t.data.toList.getD 0 0).toNat && t.data.toList.all (fun b => wordB b.toNat) && !resS t.data.toList
theorem at_getD {t : ByteArray} {k : Nat} (h : k < t.size) : t[k] = t.data.toList.getD k 0 := by
  have hl : k < t.data.toList.length := by rw [← Lib.size_eq]; exact h
  rw [List.getD_eq_getElem?_getD, List.getElem?_eq_getElem hl]; rfl
theorem all_upto {p : UInt8 → Bool} {l : List UInt8} (h : ∀ j, j < l.length → p (l.getD j 0) = true) : l.all p = true := by
  rw [List.all_eq_true]
  intro x hx
  obtain ⟨j, hj, e⟩ := List.getElem_of_mem hx
  have := h j hj
  rw [List.getD_eq_getElem?_getD, List.getElem?_eq_getElem hj] at this
  simpa [e] using this
theorem not_all {p : UInt8 → Bool} {l : List UInt8} {j : Nat} (hj : j < l.length) (h : p (l.getD j 0) = false) : l.all p = false := by
  rw [List.all_eq_false]
  refine ⟨l[j], List.getElem_mem hj, ?_⟩
  rw [List.getD_eq_getElem?_getD, List.getElem?_eq_getElem hj] at h
  simpa using h
set_option maxHeartbeats 2000000 in
theorem isName_c (t : ByteArray) (w : World) : Calls Tryd.prog 121 #[.string t] w fun e w' => e = .returned (.bool (nameS t)) ∧ w' = w := by
  by_cases h0 : t.size = 0
  · have e : Hid (nameS t = false) := by unfold Hid nameS; simp [h0]
    have z : ((t.size : Int) == 0) = true := by simp [h0]
    clear h0
    go_enter Tryd.func121, Tryd.ntmps121
    go_wp2
    go_ret
    exact ⟨by rw [e.out]; rfl, rfl⟩
  · have z : ((t.size : Int) == 0) = false := by rw [beq_eq_false_iff_ne]; omega
    by_cases h1 : 16 < t.size
    · have e : Hid (nameS t = false) := by
        unfold Hid nameS; have : ¬ (0 < t.size ∧ t.size ≤ 16) := by omega
        simp [this]
      have z1 : (16 : Int) < t.size := by omega
      clear h0 h1
      go_enter Tryd.func121, Tryd.ntmps121
      go_wp2
      go_ret
      exact ⟨by rw [e.out]; rfl, rfl⟩
    · have z1 : decide ((16 : Int) < t.size) = false := by simp; omega
      have hp : 0 < t.size := by omega
      have hpi : (0 : Int) < t.size := by omega
      have hsz : 0 < t.size ∧ t.size ≤ 16 := by omega
      have hll := Lib.hid (Lib.size_eq t)
      have e0 := Lib.hid (at_getD hp)
      have hA := Lib.hid (fun (k : Nat) (h : k < t.size) => at_getD h)
      have hL := Lib.hid (fun w => isLetter_c (t[0].toNat : Int) w)
      have hS : Hid (nameS t = (letB (t.data.toList.getD 0 0).toNat && t.data.toList.all (fun b => wordB b.toNat) && !resS t.data.toList)) := by unfold Hid nameS; simp [hsz]
      have hR := Lib.hid (fun w => isReserved_c t w)
      by_cases h2 : letB (t[0].toNat : Int) = true
      · rw [h2] at hL
        have hS2 : Hid (nameS t = (t.data.toList.all (fun b => wordB b.toNat) && !resS t.data.toList)) := by
          unfold Hid; rw [hS.out, ← e0.out, h2]; simp
        have hsz1 : t.size ≤ 16 := hsz.2
        clear h0 h1 h2 e0 hsz hS
        go_enter Tryd.func121, Tryd.ntmps121
        go_wp2_with fail
        refine (hL.out _).mono ?_
        rintro e w1 ⟨rfl, rfl⟩
        go_wp2_with fail
        go_loop [3, 20] (fun _ i => ∃ k : Nat, k ≤ t.size ∧ i = .int .i64 k ∧ Hid (∀ j, j < k → wordB ((t.data.toList.getD j 0).toNat : Int) = true)) (fun _ i => t.size - (intOf i).toNat)
        case atStart => exact ⟨0, Nat.zero_le _, rfl, fun j hj => absurd hj (Nat.not_lt_zero _)⟩
        case round =>
          obtain ⟨k, hk, rfl, hW⟩ := hrel
          by_cases hlt : k < t.size
          · have hkk : (k : Int) < (t.size : Int) := by omega
            have eA := hA.out k hlt
            have hB := Lib.hid (fun w => isWordByte_c (t[k].toNat : Int) w)
            by_cases hw : wordB (t[k].toNat : Int) = true
            · rw [hw] at hB
              have hW2 : Hid (∀ j, j < k + 1 → wordB ((t.data.toList.getD j 0).toNat : Int) = true) := by
                intro j hj
                by_cases e : j = k
                · subst e; rw [← eA]; exact hw
                · exact hW.out j (by omega)
              clear hw eA hW
              go_wp2_with fail
              refine (hB.out _).mono ?_
              rintro e w1 ⟨rfl, rfl⟩
              go_wp2
              go_round
              case rel => exact ⟨k + 1, by omega, by go_num, hW2.out⟩
              case measure => simp [intOf]; omega
            · have hw' : wordB (t[k].toNat : Int) = false := by simpa using hw
              rw [hw'] at hB
              have e : Hid (nameS t = false) := by
                unfold Hid
                rw [hS2.out, not_all (p := fun b => wordB b.toNat) (j := k) (by rw [← hll.out]; exact hlt) (by rw [← eA]; exact hw')]
                rfl
              clear hw hw' eA hW
              go_wp2_with fail
              refine (hB.out _).mono ?_
              rintro e w1 ⟨rfl, rfl⟩
              go_wp2
              go_ret
              exact ⟨by rw [e.out]; rfl, rfl⟩
          · obtain rfl : k = t.size := by omega
            have e : Hid (nameS t = !resS t.data.toList) := by
              unfold Hid
              rw [hS2.out, all_upto (p := fun b => wordB b.toNat) (fun j hj => hW.out j (by rw [hll.out]; exact hj))]
              rfl
            clear hW
            go_wp2_with fail
            refine (hR.out _).mono ?_
            rintro e w1 ⟨rfl, rfl⟩
            go_wp2
            go_ret
            exact ⟨by rw [e.out]; rfl, rfl⟩
      · have h2' : letB (t[0].toNat : Int) = false := by simpa using h2
        rw [h2'] at hL
        have e : Hid (nameS t = false) := by
          unfold Hid; rw [hS.out, ← e0.out, h2']; simp
        clear h0 h1 h2 h2' e0 hsz hS hA
        go_enter Tryd.func121, Tryd.ntmps121
        go_wp2_with fail
        refine (hL.out _).mono ?_
        rintro e w1 ⟨rfl, rfl⟩
        go_wp2
        go_ret
        exact ⟨by rw [e.out]; rfl, rfl⟩
theorem rWordByte_c (n : Int) (w : World) : Calls Tryd.prog 104 #[.int .u8 n] w fun e w' => e = .returned (.bool (wordB n)) ∧ w' = w := by
  have hc : (97 ≤ n ∧ n ≤ 122) ∨ (122 < n) ∨ (n = 95) ∨ (48 ≤ n ∧ n ≤ 57) ∨ (n < 48) ∨ (57 < n ∧ n ≤ 96 ∧ n ≠ 95) := by omega
  rcases hc with hc | hc | hc | hc | hc | hc
  · have e : Hid (wordB n = true) := by unfold Hid wordB letB digB; simp; omega
    have t1 : decide (97 ≤ n) = true := by simp; omega
    have t2 : decide (n ≤ 122) = true := by simp; omega
    clear hc
    go_enter Tryd.func104, Tryd.ntmps104
    go_wp2
    go_ret
    exact ⟨by rw [e.out]; rfl, rfl⟩
  · have e : Hid (wordB n = false) := by unfold Hid wordB letB digB; simp; omega
    have t1 : decide (97 ≤ n) = true := by simp; omega
    have t2 : decide (n ≤ 122) = false := by simp; omega
    have t3 : decide (48 ≤ n) = true := by simp; omega
    have t4 : decide (n ≤ 57) = false := by simp; omega
    have t5 : (n == 95) = false := by rw [beq_eq_false_iff_ne]; omega
    clear hc
    go_enter Tryd.func104, Tryd.ntmps104
    go_wp2
    go_ret
    exact ⟨by rw [e.out]; rfl, rfl⟩
  · have e : Hid (wordB n = true) := by unfold Hid wordB letB digB; simp; omega
    have t1 : decide (97 ≤ n) = false := by simp; omega
    have t3 : decide (48 ≤ n) = true := by simp; omega
    have t4 : decide (n ≤ 57) = false := by simp; omega
    have t5 : (n == 95) = true := by rw [beq_iff_eq]; omega
    clear hc
    go_enter Tryd.func104, Tryd.ntmps104
    go_wp2
    go_ret
    exact ⟨by rw [e.out]; rfl, rfl⟩
  · have e : Hid (wordB n = true) := by unfold Hid wordB letB digB; simp; omega
    have t1 : decide (97 ≤ n) = false := by simp; omega
    have t3 : decide (48 ≤ n) = true := by simp; omega
    have t4 : decide (n ≤ 57) = true := by simp; omega
    clear hc
    go_enter Tryd.func104, Tryd.ntmps104
    go_wp2
    go_ret
    exact ⟨by rw [e.out]; rfl, rfl⟩
  · have e : Hid (wordB n = false) := by unfold Hid wordB letB digB; simp; omega
    have t1 : decide (97 ≤ n) = false := by simp; omega
    have t3 : decide (48 ≤ n) = false := by simp; omega
    have t5 : (n == 95) = false := by rw [beq_eq_false_iff_ne]; omega
    clear hc
    go_enter Tryd.func104, Tryd.ntmps104
    go_wp2
    go_ret
    exact ⟨by rw [e.out]; rfl, rfl⟩
  · have e : Hid (wordB n = false) := by unfold Hid wordB letB digB; simp; omega
    have t1 : decide (97 ≤ n) = false := by simp; omega
    have t3 : decide (48 ≤ n) = true := by simp; omega
    have t4 : decide (n ≤ 57) = false := by simp; omega
    have t5 : (n == 95) = false := by rw [beq_eq_false_iff_ne]; omega
    clear hc
    go_enter Tryd.func104, Tryd.ntmps104
    go_wp2
    go_ret
    exact ⟨by rw [e.out]; rfl, rfl⟩

/-- A row of texts in a block. -/
def RowS (w : World) (b : Nat) (L : List (List UInt8)) : Prop := b < w.heap.size ∧ ∀ j, j < L.length → w.cell? ⟨b, j, none⟩ = some (.string (bs (L.getD j [])))
theorem RowS.below {w w' : World} {b : Nat} {L : List (List UInt8)} (h : RowS w b L) (hb : Below w.heap.size w w') : RowS w' b L :=
  ⟨Nat.lt_of_lt_of_le h.1 hb.size, fun j hj => by rw [hb.cell (p := ⟨b, j, none⟩) h.1]; exact h.2 j hj⟩
def FieldsP (L : List (List UInt8)) (w : World) (e : Ending) (w' : World) : Prop := ∃ b, e = .returned (.slice (some ⟨b, 0, none⟩) L.length L.length) ∧ Hid (RowS w' b L) ∧ Hid (Below w.heap.size w w')
theorem fields_c (s : ByteArray) (L : List (List UInt8)) (hL : Lib.fields s.data.toList = L) (hs : s.size < 4294967281) (ha : ∀ b ∈ s.data.toList, b.toNat < 128) (w : World) (hE : Env w) :
    Calls Tryd.prog 103 #[.string s] w (FieldsP L w) := by
  refine (Tryd.strings_Fields_laid s w hs (fun j b hj => ha b (List.mem_of_getElem? hj)) hE.asp).mono ?_
  rintro e w' ⟨rfl, rfl⟩
  rw [hL]
  refine ⟨w.heap.size, rfl, ⟨by simp, fun j hj => ?_⟩, (Below.refl _ _).alloc (Nat.le_refl _) _⟩
  rw [World.cell?_alloc_new, ← Array.getElem?_toList]
  simp [hj, bs]

abbrev namesText : ByteArray := ⟨#[97, 110, 100, 32, 111, 114, 32, 110, 111, 116, 32, 105, 110, 32, 104, 97, 115, 32, 109, 111, 100, 32, 116, 114, 117, 101, 32, 102, 97, 108, 115, 101]⟩
theorem fieldsNames (w : World) (hE : Env w) : Calls Tryd.prog 103 #[.string namesText] w (FieldsP resL w) :=
  fields_c namesText resL (by decide +kernel) (by decide) (by decide +kernel) w hE
theorem containsRow (b : Nat) (L : List (List UInt8)) (hl : L.length ≤ 1000) (t : ByteArray) (w : World) (h : RowS w b L) :
    Calls Tryd.prog 102 #[.slice (some ⟨b, 0, none⟩) L.length L.length, .string t] w fun e w' => e = .returned (.bool (L.contains t.data.toList)) ∧ w' = w := by
  refine (Tryd.slices_Contains_string b 0 L.length L.length (L.map bs) t w (by simp) (by omega) (fun j hj => by
    rw [List.length_map] at hj
    rw [Nat.zero_add, h.2 j hj]; simp [hj])).mono ?_
  rintro e w' ⟨rfl, rfl⟩
  refine ⟨ret_bool ?_, rfl⟩
  rw [Bool.eq_iff_iff, Lib.containsS_iff, List.take_of_length_le (by simp)]
  simp only [List.mem_map, List.contains_iff_mem]
  constructor
  · rintro ⟨x, hx, rfl⟩
    rw [bs_list]; exact hx
  · intro hx
    exact ⟨_, hx, bs_of t⟩
theorem not_true' {b : Bool} (h : ¬ b = true) : b = false := by cases b <;> simp_all
theorem nameS_no {t : ByteArray} (h : ¬ (0 < t.size ∧ t.size ≤ 16)) : nameS t = false := by unfold nameS; simp [h]
theorem nameS_eq {t : ByteArray} (h : 0 < t.size ∧ t.size ≤ 16) (hp : 0 < t.size) : nameS t = (letB (t[0].toNat : Int) && t.data.toList.all (fun b => wordB b.toNat) && !resS t.data.toList) := by
  unfold nameS; simp only [h, and_self, decide_true, Bool.true_and]; rw [at_getD h.1]
set_option maxHeartbeats 2000000 in
theorem rIsName_c (t : ByteArray) (w : World) (hE : Env w) : Calls Tryd.prog 77 #[.string t] w fun e w' => e = .returned (.bool (nameS t)) ∧ Below w.heap.size w w' := by
  have HE := Lib.hid hE; clear hE
  have HR0 : Hid (Below w.heap.size w w) := Below.refl _ _
  by_cases h0 : t.size = 0
  · obtain rfl := empty_of h0
    have e : Hid (nameS ⟨#[]⟩ = false) := nameS_no (by decide)
    clear h0
    go_enter Tryd.func77, Tryd.ntmps77
    go_wp2
    go_ret
    exact ⟨ret_bool e.out.symm, HR0.out⟩
  have z := text_some h0
  have z2 : (t.toList == []) = false := by rw [beq_eq_false_iff_ne]; exact z.1
  by_cases h1 : 16 < t.size
  · have e : Hid (nameS t = false) := nameS_no (by omega)
    have z1 : (16 : Int) < t.size := by omega
    clear h0 h1 z
    go_enter Tryd.func77, Tryd.ntmps77
    go_wp2
    go_ret
    exact ⟨ret_bool e.out.symm, HR0.out⟩
  have hsz : 0 < t.size ∧ t.size ≤ 16 := by omega
  have hp : 0 < t.size := hsz.1
  have hN := Lib.hid (nameS_eq hsz hp)
  have hpi : (0 : Int) < t.size := by omega
  have hsz1 : (t.size : Int) ≤ 16 := by omega
  have hsz2 : t.size ≤ 16 := by omega
  have hll := Lib.hid (Lib.size_eq t)
  have hA := Lib.hid (fun (k : Nat) (h : k < t.size) => at_getD h)
  clear h0 h1 z hsz
  by_cases c1 : (t[0].toNat : Int) < 97
  · have e : Hid (nameS t = false) := by unfold Hid; rw [hN.out, show letB (t[0].toNat : Int) = false by unfold letB; simp; omega]; rfl
    clear hN
    go_enter Tryd.func77, Tryd.ntmps77
    go_wp2
    go_ret
    exact ⟨ret_bool e.out.symm, HR0.out⟩
  have c1' : decide ((t[0].toNat : Int) < 97) = false := by simpa using c1
  by_cases c2 : (122 : Int) < (t[0].toNat : Int)
  · have e : Hid (nameS t = false) := by unfold Hid; rw [hN.out, show letB (t[0].toNat : Int) = false by unfold letB; simp; omega]; rfl
    clear hN c1
    go_enter Tryd.func77, Tryd.ntmps77
    go_wp2
    go_ret
    exact ⟨ret_bool e.out.symm, HR0.out⟩
  have c2' : decide ((122 : Int) < (t[0].toNat : Int)) = false := by simpa using c2
  have hN2 : Hid (nameS t = (t.data.toList.all (fun b => wordB b.toNat) && !resS t.data.toList)) := by
    unfold Hid; rw [hN.out, show letB (t[0].toNat : Int) = true by unfold letB; simp; omega]; rfl
  clear hN c1 c2
  have hF := Lib.hid fieldsNames
  by_cases hres : resL.contains t.data.toList = true
  · have e : Hid (nameS t = false) := by unfold Hid; rw [hN2.out]; unfold resS; rw [hres]; simp
    clear hN2
    go_enter Tryd.func77, Tryd.ntmps77
    go_wp2_with fail
    refine (hF.out _ HE.out).mono ?_
    rintro e1 w1 ⟨b, rfl, hR, hB⟩
    have HB := Lib.hid hB.out
    have hC := Lib.hid (containsRow b resL (by decide) t w1 hR.out)
    clear hR
    rw [hres] at hC
    clear hres hF hA
    go_wp2_with fail
    refine hC.out.mono ?_
    rintro e2 w2 ⟨rfl, rfl⟩
    go_wp2
    go_ret
    exact ⟨ret_bool e.out.symm, HB.out⟩
  · have hres := not_true' hres
    have hN3 : Hid (nameS t = t.data.toList.all (fun b => wordB b.toNat)) := by unfold Hid; rw [hN2.out]; unfold resS; rw [hres]; simp
    clear hN2
    go_enter Tryd.func77, Tryd.ntmps77
    go_wp2_with fail
    refine (hF.out _ HE.out).mono ?_
    rintro e1 w1 ⟨b, rfl, hR, hB⟩
    have HB := Lib.hid hB.out
    have hC := Lib.hid (containsRow b resL (by decide) t w1 hR.out)
    clear hR
    rw [hres] at hC
    clear hres hF
    go_wp2_with fail
    refine hC.out.mono ?_
    rintro e2 w2 ⟨rfl, rfl⟩
    clear hC
    go_wp2_with fail
    go_loop [3, 28] (fun _ i => ∃ k : Nat, k ≤ t.size ∧ i = .int .i64 k ∧ Hid (∀ j, j < k → wordB ((t.data.toList.getD j 0).toNat : Int) = true)) (fun _ i => t.size - (intOf i).toNat)
    case atStart => exact ⟨0, Nat.zero_le _, rfl, fun j hj => absurd hj (Nat.not_lt_zero _)⟩
    case round =>
      obtain ⟨k, hk, rfl, hW⟩ := hrel
      by_cases hlt : k < t.size
      · have hkk : (k : Int) < (t.size : Int) := by omega
        have eA := hA.out k hlt
        have hB := Lib.hid (fun w => rWordByte_c (t[k].toNat : Int) w)
        by_cases hw : wordB (t[k].toNat : Int) = true
        · rw [hw] at hB
          have hW2 : Hid (∀ j, j < k + 1 → wordB ((t.data.toList.getD j 0).toNat : Int) = true) := by
            intro j hj
            by_cases e : j = k
            · subst e; rw [← eA]; exact hw
            · exact hW.out j (by omega)
          clear hw eA hW
          go_wp2_with fail
          refine (hB.out _).mono ?_
          rintro e w1 ⟨rfl, rfl⟩
          go_wp2
          go_round
          case rel => exact ⟨k + 1, by omega, by go_num, hW2.out⟩
          case measure => simp [intOf]; omega
        · have hw' : wordB (t[k].toNat : Int) = false := by simpa using hw
          rw [hw'] at hB
          have e : Hid (nameS t = false) := by
            unfold Hid
            rw [hN3.out, not_all (p := fun b => wordB b.toNat) (j := k) (by rw [← hll.out]; exact hlt) (by rw [← eA]; exact hw')]
          clear hw hw' eA hW
          go_wp2_with fail
          refine (hB.out _).mono ?_
          rintro e w1 ⟨rfl, rfl⟩
          go_wp2
          go_ret
          exact ⟨ret_bool e.out.symm, HB.out⟩
      · obtain rfl : k = t.size := by omega
        have e : Hid (nameS t = true) := by
          unfold Hid
          rw [hN3.out, all_upto (p := fun b => wordB b.toNat) (fun j hj => hW.out j (by rw [hll.out]; exact hj))]
        clear hW
        go_wp2
        go_ret
        exact ⟨ret_bool e.out.symm, HB.out⟩
end Go.Proofs.YtadfmplafehjlaaDoor
namespace Go.Proofs.YtadfmplafehjlaaDoor

/-- The first error of the first k places. -/
def fe (s : Nat → Int) : Nat → Int
  | 0 => 0
  | k + 1 => if fe s k = 0 then s k else fe s k
theorem fe_next {s : Nat → Int} {k : Nat} (h : fe s k = 0) : fe s (k + 1) = s k := by
  show (if fe s k = 0 then _ else _) = _
  rw [if_pos h]
theorem fe_stays {s : Nat → Int} {k : Nat} (h : fe s k ≠ 0) : ∀ m, fe s (k + m) = fe s k
  | 0 => rfl
  | m + 1 => by
    show (if fe s (k + m) = 0 then _ else fe s (k + m)) = _
    rw [fe_stays h m, if_neg h]
theorem fe_at {s : Nat → Int} {k n : Nat} (hk : k < n) (h0 : fe s k = 0) (h1 : s k ≠ 0) : fe s n = s k := by
  have e := fe_next h0
  have t := fe_stays (s := s) (k := k + 1) (by rw [e]; exact h1) (n - (k + 1))
  rw [show k + 1 + (n - (k + 1)) = n by omega, e] at t
  exact t
theorem fe_zero {s : Nat → Int} : ∀ {n : Nat}, fe s n = 0 → ∀ k, k < n → s k = 0
  | n + 1, h, k, hk => by
    by_cases h0 : fe s n = 0
    · rw [fe_next h0] at h
      by_cases e : k = n
      · rw [e]; exact h
      · exact fe_zero h0 k (by omega)
    · have := fe_stays h0 1
      rw [this] at h
      exact absurd h h0

/-- The error of number k of a list whose numbers ok knows. -/
def stepE (ok : Int → Bool) (l : List Int) (k : Nat) : Int := if ok (fn l k) = false then 1 else if k ≠ 0 ∧ fn l k ≤ fn l (k - 1) then 7 else 0
def incS (ok : Int → Bool) (l : List Int) : Int := fe (stepE ok l) l.length
def okC (c : Int) : Bool := decide (1 ≤ c ∧ c ≤ 999)
def codesS (l : List Int) : Int := if l.length = 0 then 9 else if 20 < l.length then 2 else incS okC l
/-- A field, an edit. -/
structure Fd where
  nm : ByteArray
  cs : List Int
  wt : Int
structure Ed where
  nm : ByteArray
  ss : List (List Int)
def fd0 : Fd := ⟨⟨#[]⟩, [], 0⟩
def fd (l : List Fd) (j : Nat) : Fd := l.getD j fd0
def ed0 : Ed := ⟨⟨#[]⟩, []⟩
def ed (l : List Ed) (j : Nat) : Ed := l.getD j ed0
def st (l : List (List Int)) (j : Nat) : List Int := l.getD j []
/-- One of the first k names is s. -/
def old (ns : Nat → ByteArray) (s : ByteArray) : Nat → Bool
  | 0 => false
  | k + 1 => decide (ns k = s) || old ns s k
theorem old_mem {ns : Nat → ByteArray} {s : ByteArray} : ∀ {k : Nat}, old ns s k = true ↔ ∃ i, i < k ∧ ns i = s
  | 0 => by simp [old]
  | k + 1 => by
    unfold old
    rw [Bool.or_eq_true, old_mem]
    constructor
    · rintro (h | ⟨i, h1, h2⟩)
      · exact ⟨k, by omega, by simpa using h⟩
      · exact ⟨i, by omega, h2⟩
    · rintro ⟨i, h1, h2⟩
      by_cases e : i = k
      · left; simpa [← e] using h2
      · exact Or.inr ⟨i, by omega, h2⟩
/-- The error of name s behind some k names. -/
def nmE (ns : Nat → ByteArray) (s : ByteArray) (k : Nat) : Int := if nameS s = false then 5 else if old ns s k = true then 6 else 0
def wtE (n : Int) : Int := if n < 1 then 1 else if 1000 < n then 1 else 0
/-- The error of field k. -/
def fdE (l : List Fd) (k : Nat) : Int :=
  if nmE (fun i => (fd l i).nm) (fd l k).nm k ≠ 0 then nmE (fun i => (fd l i).nm) (fd l k).nm k
  else if codesS (fd l k).cs ≠ 0 then codesS (fd l k).cs else wtE (fd l k).wt
def fdsS (l : List Fd) : Int := if l.length = 0 then 9 else if 12 < l.length then 2 else fe (fdE l) l.length
/-- The product of the numbers of codes of the first k fields. -/
def mix (l : List Fd) : Nat → Nat
  | 0 => 1
  | k + 1 => mix l k * (fd l k).cs.length
def inC (l : List Int) (c : Int) : Bool := l.contains c
def setE (l : List Fd) (L : List (List Int)) (i : Nat) : Int := if (st L i).length = 0 then 9 else incS (inC (fd l i).cs) (st L i)
/-- The error of edit k. -/
def edE (l : List Fd) (E : List Ed) (k : Nat) : Int :=
  if nmE (fun i => (ed E i).nm) (ed E k).nm k ≠ 0 then nmE (fun i => (ed E i).nm) (ed E k).nm k
  else if (ed E k).ss.length ≠ l.length then 3 else fe (setE l (ed E k).ss) (ed E k).ss.length
def planS (l : List Fd) (E : List Ed) : Int :=
  if fdsS l ≠ 0 then fdsS l else if 20000 < mix l l.length then 2 else if 60 < E.length then 2 else fe (edE l E) E.length
theorem mix_le {l : List Fd} : ∀ {k : Nat}, (∀ i, i < k → (fd l i).cs.length ≤ 20) → mix l k ≤ 20 ^ k
  | 0, _ => Nat.le_refl _
  | k + 1, h => by
    have h1 := mix_le (k := k) fun i hi => h i (by omega)
    have h2 := h k (by omega)
    show mix l k * _ ≤ _
    rw [Nat.pow_succ]
    exact Nat.mul_le_mul h1 h2
theorem codes_le {l : List Int} (h : codesS l = 0) : 0 < l.length ∧ l.length ≤ 20 := by
  unfold codesS at h
  split at h
  · simp at h
  · split at h
    · simp at h
    · omega
theorem fds_codes {l : List Fd} (h : fdsS l = 0) : l.length ≤ 12 ∧ 0 < l.length ∧ ∀ i, i < l.length → 0 < (fd l i).cs.length ∧ (fd l i).cs.length ≤ 20 := by
  unfold fdsS at h
  split at h
  · simp at h
  split at h
  · simp at h
  refine ⟨by omega, by omega, fun i hi => ?_⟩
  have e := fe_zero h i hi
  unfold fdE at e
  split at e
  · exact absurd e ‹_›
  split at e
  · exact absurd e ‹_›
  · exact codes_le (by simpa using ‹¬ codesS _ ≠ 0›)
end Go.Proofs.YtadfmplafehjlaaDoor
namespace Go.Proofs.YtadfmplafehjlaaDoor

/-- The numbers below n for which p holds, as bits. -/
def bz (p : Nat → Bool) : Nat → Nat
  | 0 => 0
  | n + 1 => bz p n ||| (if p n = true then 2 ^ n else 0)
theorem bz_lt (p : Nat → Bool) : ∀ n, bz p n < 2 ^ n
  | 0 => by simp [bz]
  | n + 1 => by
    have h := bz_lt p n
    have h2 : bz p n < 2 ^ (n + 1) := by rw [Nat.pow_succ]; omega
    refine Nat.or_lt_two_pow h2 ?_
    split
    · exact Nat.pow_lt_pow_right (by omega) (by omega)
    · exact Nat.two_pow_pos _
theorem bz_bit (p : Nat → Bool) : ∀ (n j : Nat), (bz p n).testBit j = (decide (j < n) && p j)
  | 0, j => by simp [bz]
  | n + 1, j => by
    show (bz p n ||| (if p n = true then 2 ^ n else 0)).testBit j = _
    rw [Nat.testBit_or, bz_bit p n j]
    by_cases hj : j = n
    · subst hj
      cases h : p j <;> simp
    · have e : (decide (j < n + 1) : Bool) = decide (j < n) := by rw [Bool.eq_iff_iff]; simp; omega
      rw [e]
      split
      · rw [Nat.testBit_two_pow]
        have : decide (n = j) = false := decide_eq_false (fun h => hj h.symm)
        rw [this, Bool.or_false]
      · simp
theorem nat_ext {a b : Nat} (h : ∀ j, a.testBit j = b.testBit j) : a = b := Nat.eq_of_testBit_eq h
theorem bz_ext {p q : Nat → Bool} {n : Nat} (h : ∀ j, j < n → p j = q j) : bz p n = bz q n :=
  nat_ext fun j => by
    rw [bz_bit, bz_bit]
    by_cases hj : j < n
    · rw [h j hj]
    · simp [hj]
theorem bz_and (p q : Nat → Bool) (n : Nat) : bz p n &&& bz q n = bz (fun j => p j && q j) n :=
  nat_ext fun j => by
    rw [Nat.testBit_and, bz_bit, bz_bit, bz_bit]
    cases decide (j < n) <;> cases p j <;> cases q j <;> rfl
theorem bz_or (p q : Nat → Bool) (n : Nat) : bz p n ||| bz q n = bz (fun j => p j || q j) n :=
  nat_ext fun j => by
    rw [Nat.testBit_or, bz_bit, bz_bit, bz_bit]
    cases decide (j < n) <;> cases p j <;> cases q j <;> rfl
theorem bz_one {n k : Nat} (h : k < n) : bz (fun j => decide (j = k)) n = 2 ^ k :=
  nat_ext fun j => by
    rw [bz_bit, Nat.testBit_two_pow, Bool.eq_iff_iff]
    simp
    omega
theorem bz_all (n : Nat) : bz (fun _ => true) n = 2 ^ n - 1 :=
  nat_ext fun j => by
    rw [bz_bit, Nat.testBit_two_pow_sub_one]; simp
theorem bz_none {p : Nat → Bool} {n : Nat} (h : ∀ j, j < n → p j = false) : bz p n = 0 :=
  nat_ext fun j => by
    rw [bz_bit, Nat.zero_testBit]
    by_cases hj : j < n
    · simp [h j hj]
    · simp [hj]
theorem bz_zero {p : Nat → Bool} {n : Nat} : bz p n = 0 ↔ ∀ j, j < n → p j = false := by
  refine ⟨fun h j hj => ?_, bz_none⟩
  have := bz_bit p n j
  rw [h, Nat.zero_testBit] at this
  simpa [hj] using this.symm
theorem bz_pos {p : Nat → Bool} {n j : Nat} (hj : j < n) (h : p j = true) : bz p n ≠ 0 := fun e => by
  rw [bz_zero.1 e j hj] at h; cases h
/-- A set is what its bits say. -/
theorem bz_of {x n : Nat} (h : x < 2 ^ n) : bz (fun j => x.testBit j) n = x :=
  nat_ext fun j => by
    rw [bz_bit]
    by_cases hj : j < n
    · simp [hj]
    · rw [Nat.testBit_lt_two_pow (Nat.lt_of_lt_of_le h (Nat.pow_le_pow_right (by omega) (by omega)))]; simp
/-- The first number for which p holds. -/
theorem first_ex {p : Nat → Bool} : ∀ {n : Nat}, (∃ j, j < n ∧ p j = true) → ∃ t, t < n ∧ p t = true ∧ ∀ j, j < t → p j = false
  | 0, ⟨j, h, _⟩ => by omega
  | n + 1, ⟨j, hj, h⟩ => by
    by_cases q : ∃ j, j < n ∧ p j = true
    · obtain ⟨t, h1, h2, h3⟩ := first_ex q
      exact ⟨t, by omega, h2, h3⟩
    · have e : j = n := by
        rcases Nat.lt_or_ge j n with x | x
        · exact absurd ⟨j, x, h⟩ q
        · omega
      subst e
      refine ⟨j, hj, h, fun i hi => ?_⟩
      cases hp : p i with
      | false => rfl
      | true => exact absurd ⟨i, hi, hp⟩ q
theorem bz_first {p : Nat → Bool} {n : Nat} (h : bz p n ≠ 0) : ∃ t, t < n ∧ p t = true ∧ ∀ j, j < t → p j = false := by
  refine first_ex ?_
  refine Classical.byContradiction fun q => h (bz_none fun j hj => ?_)
  cases hp : p j with
  | false => rfl
  | true => exact absurd ⟨j, hj, hp⟩ q
theorem pow_odd_bit (c m j : Nat) : (2 ^ c * (2 * m + 1)).testBit j = (decide (c ≤ j) && (2 * m + 1).testBit (j - c)) := by
  rw [Nat.testBit_two_pow_mul]
/-- The trailing zeros of a set: its first number. -/
theorem ctz_first {x t : Nat} (hx : x < 2 ^ 64) (h1 : x.testBit t = true) (h2 : ∀ j, j < t → x.testBit j = false) : Lib.ctz 64 x = t := by
  have h0 : x ≠ 0 := fun e => by rw [e, Nat.zero_testBit] at h1; cases h1
  unfold Lib.ctz
  rw [if_neg h0]
  obtain ⟨m, hm, hc⟩ := Lib.ctzFrom_spec 64 x (by omega) hx
  generalize Lib.ctzFrom 64 x = c at hm hc
  have bc : x.testBit c = true := by rw [hm, pow_odd_bit]; simp
  have bl : ∀ j, j < c → x.testBit j = false := fun j hj => by rw [hm, pow_odd_bit]; simp; omega
  rcases Nat.lt_trichotomy c t with q | q | q
  · rw [h2 c q] at bc; cases bc
  · exact q
  · rw [bl t q] at h1; cases h1
theorem ctz_bz {p : Nat → Bool} {n t : Nat} (hn : n ≤ 64) (ht : t < n) (h1 : p t = true) (h2 : ∀ j, j < t → p j = false) : Lib.ctz 64 (bz p n) = t := by
  refine ctz_first (Nat.lt_of_lt_of_le (bz_lt p n) (Nat.pow_le_pow_right (by omega) hn)) ?_ fun j hj => ?_
  · rw [bz_bit, h1]; simp [ht]
  · rw [bz_bit, h2 j hj]; simp
/-- x and x - 1: without its first number. -/
theorem and_pred {x t : Nat} (h1 : x.testBit t = true) (h2 : ∀ j, j < t → x.testBit j = false) (j : Nat) : (x &&& (x - 1)).testBit j = (x.testBit j && decide (t < j)) := by
  have h0 : x ≠ 0 := fun e => by rw [e, Nat.zero_testBit] at h1; cases h1
  -- x = 2 ^ t * (2 m + 1)
  obtain ⟨m, hm⟩ : ∃ m, x = 2 ^ t * (2 * m + 1) := by
    have d : x % 2 ^ t = 0 := by
      refine nat_ext fun j => ?_
      rw [Nat.testBit_mod_two_pow, Nat.zero_testBit]
      by_cases hj : j < t
      · rw [h2 j hj]; simp
      · simp [hj]
    have e := Nat.div_add_mod x (2 ^ t)
    rw [d, Nat.add_zero] at e
    have b : (x / 2 ^ t).testBit 0 = true := by rw [Nat.testBit_div_two_pow]; simpa using h1
    have b2 : (x / 2 ^ t) % 2 = 1 := by simpa [Nat.testBit_zero] using b
    exact ⟨x / 2 ^ t / 2, by rw [show 2 * (x / 2 ^ t / 2) + 1 = x / 2 ^ t by omega]; exact e.symm⟩
  have hp : 0 < 2 ^ t := Nat.two_pow_pos t
  have e1 : x - 1 = 2 ^ t * (2 * m) + (2 ^ t - 1) := by rw [hm, Nat.mul_add]; omega
  rw [Nat.testBit_and, e1, Nat.testBit_two_pow_mul_add (2 * m) (by omega)]
  by_cases hj : j < t
  · rw [if_pos hj, h2 j hj]; simp
  · rw [if_neg hj]
    by_cases e : j = t
    · subst e; simp
    · rw [hm, pow_odd_bit]
      have q : decide (t ≤ j) = true := decide_eq_true (by omega)
      have q2 : decide (t < j) = true := decide_eq_true (by omega)
      rw [q, q2]
      obtain ⟨i, hi⟩ : ∃ i, j - t = i + 1 := ⟨j - t - 1, by omega⟩
      rw [hi, Nat.testBit_succ, Nat.testBit_succ, show (2 * m + 1) / 2 = m by omega, show 2 * m / 2 = m by omega]
      simp
theorem bz_pred {p : Nat → Bool} {n t : Nat} (ht : t < n) (h1 : p t = true) (h2 : ∀ j, j < t → p j = false) : bz p n &&& (bz p n - 1) = bz (fun j => p j && decide (t < j)) n := by
  refine nat_ext fun j => ?_
  rw [and_pred (t := t) (by rw [bz_bit, h1]; simp [ht]) (fun j hj => by rw [bz_bit, h2 j hj]; simp), bz_bit, bz_bit]
  cases decide (j < n) <;> cases p j <;> rfl
/-- Without the numbers of another set. -/
theorem andNot_bit (a b j : Nat) (hj : j < 64) : (a &&& (18446744073709551615 - b)).testBit j = (a.testBit j && !(b.testBit j)) ∨ 18446744073709551616 ≤ b := by
  by_cases hb : b < 18446744073709551616
  · left
    have e : 18446744073709551615 - b = 2 ^ 64 - (b + 1) := by omega
    rw [Nat.testBit_and, e, Nat.testBit_two_pow_sub_succ (by omega)]
    simp [hj]
  · right; omega
/-- Numbers for which p holds, increasing. -/
def lst (p : Nat → Bool) (n : Nat) : List Nat := (List.range n).filter fun j => p j
theorem lst_none {p : Nat → Bool} {n k : Nat} (h : ∀ j, j < n → k ≤ j → p j = false) (hk : k ≤ n) : lst p n = lst p k := by
  unfold lst
  obtain ⟨d, rfl⟩ : ∃ d, n = k + d := ⟨n - k, by omega⟩
  rw [List.range_add, List.filter_append]
  have : ((List.range d).map fun x => k + x).filter (fun j => p j) = [] := by
    rw [List.filter_eq_nil_iff]
    intro x hx
    obtain ⟨y, hy, rfl⟩ := List.mem_map.1 hx
    rw [h (k + y) (by have := List.mem_range.1 hy; omega) (by omega)]; simp
  rw [this, List.append_nil]
theorem lst_next {p : Nat → Bool} {k t : Nat} (hk : k ≤ t) (h1 : p t = true) (h2 : ∀ j, k ≤ j → j < t → p j = false) : lst p (t + 1) = lst p k ++ [t] := by
  have e := lst_none (p := p) (n := t) (k := k) (fun j h3 h4 => h2 j h4 h3) hk
  unfold lst at e ⊢
  rw [List.range_succ, List.filter_append, e]
  simp [h1]
end Go.Proofs.YtadfmplafehjlaaDoor
namespace Go.Proofs.YtadfmplafehjlaaDoor

/-- The edits whose set for field i has its code number k. -/
def hdB (l : List Fd) (E : List Ed) (i k n : Nat) : Bool := inC (st (ed E n).ss i) (fn (fd l i).cs k)
def hdS (l : List Fd) (E : List Ed) (i k : Nat) : Nat := bz (hdB l E i k) E.length
/-- The set of one code. -/
def mkS (cs : List Int) (c : Int) : Nat := bz (fun k => decide (fn cs k = c)) cs.length
def fuS (l : List Fd) (i : Nat) : Nat := if i < l.length then 2 ^ (fd l i).cs.length - 1 else 0
def evS (E : List Ed) : Nat := 2 ^ E.length - 1
/-- All of the first n. -/
def al (p : Nat → Bool) : Nat → Bool
  | 0 => true
  | n + 1 => al p n && p n
theorem al_iff {p : Nat → Bool} : ∀ {n : Nat}, al p n = true ↔ ∀ j, j < n → p j = true
  | 0 => by simp [al]
  | n + 1 => by
    unfold al
    rw [Bool.and_eq_true, al_iff]
    constructor
    · rintro ⟨h1, h2⟩ j hj
      by_cases e : j = n
      · rw [e]; exact h2
      · exact h1 j (by omega)
    · intro h
      exact ⟨fun j hj => h j (by omega), h n (by omega)⟩
theorem al_ext {p q : Nat → Bool} {n : Nat} (h : ∀ j, j < n → p j = q j) : al p n = al q n := by
  rw [Bool.eq_iff_iff, al_iff, al_iff]
  exact ⟨fun a j hj => by rw [← h j hj]; exact a j hj, fun a j hj => by rw [h j hj]; exact a j hj⟩
/-- A record fails an edit; it passes. -/
def flB (E : List Ed) (r : List Int) (n : Nat) : Bool := al (fun j => inC (st (ed E n).ss j) (fn r j)) (ed E n).ss.length
def flL (E : List Ed) (r : List Int) : List Nat := lst (flB E r) E.length
def vdB (l : List Fd) (r : List Int) : Bool := al (fun j => inC (fd l j).cs (fn r j)) l.length
def paB (l : List Fd) (E : List Ed) (r : List Int) : Bool := vdB l r && al (fun n => !flB E r n) E.length
/-- A plan without faults, as far as records go. -/
structure Ok (l : List Fd) (E : List Ed) : Prop where
  n1 : 0 < l.length
  n12 : l.length ≤ 12
  c1 : ∀ i, i < l.length → 0 < (fd l i).cs.length
  c20 : ∀ i, i < l.length → (fd l i).cs.length ≤ 20
  m60 : E.length ≤ 60
  inc : ∀ i, i < l.length → ∀ a b, a < b → b < (fd l i).cs.length → fn (fd l i).cs a < fn (fd l i).cs b
  cd : ∀ i, i < l.length → ∀ a, a < (fd l i).cs.length → 1 ≤ fn (fd l i).cs a ∧ fn (fd l i).cs a ≤ 999
  sl : ∀ n, n < E.length → (ed E n).ss.length = l.length
  si : ∀ n, n < E.length → ∀ i, i < l.length → ∀ c, inC (st (ed E n).ss i) c = true → inC (fd l i).cs c = true
  s1 : ∀ n, n < E.length → ∀ i, i < l.length → 0 < (st (ed E n).ss i).length ∧ (st (ed E n).ss i).length ≤ 20
  wt : ∀ i, i < l.length → 1 ≤ (fd l i).wt ∧ (fd l i).wt ≤ 1000
  mx : mix l l.length ≤ 20000
theorem inC_iff {l : List Int} {c : Int} : inC l c = true ↔ ∃ k, k < l.length ∧ fn l k = c := by
  unfold inC fn
  rw [List.contains_iff_mem]
  constructor
  · intro h
    obtain ⟨k, hk, e⟩ := List.getElem_of_mem h
    exact ⟨k, hk, by simp [List.getD, hk, e]⟩
  · rintro ⟨k, hk, e⟩
    have : l.getD k 0 = l[k] := by simp [List.getD, hk]
    rw [this] at e
    rw [← e]; exact List.getElem_mem hk
section
variable {l : List Fd} {E : List Ed}
theorem inc_nums (ok : Int → Bool) (s : List Int) (h : incS ok s = 0) : (∀ a, a < s.length → ok (fn s a) = true) ∧ ∀ a b, a < b → b < s.length → fn s a < fn s b := by
  have h1 := fun k hk => fe_zero (s := stepE ok s) (n := s.length) h k hk
  refine ⟨fun a ha => ?_, fun a b => ?_⟩
  · have := h1 a ha
    unfold stepE at this
    cases e : ok (fn s a) with
    | true => rfl
    | false => rw [if_pos e] at this; cases this
  · induction b with
    | zero => intro h; omega
    | succ b ih =>
      intro hab hb
      have := h1 (b + 1) hb
      unfold stepE at this
      split at this
      · cases this
      · split at this
        · cases this
        · rename_i _ q
          have q2 : ¬ fn s (b + 1) ≤ fn s b := fun x => q ⟨by omega, by simpa using x⟩
          by_cases e : a = b
          · subst e; omega
          · have := ih (by omega) (by omega); omega
theorem nodup_len : ∀ (s c : List Int), s.Nodup → (∀ x, x ∈ s → x ∈ c) → s.length ≤ c.length
  | [], _, _, _ => Nat.zero_le _
  | x :: s, c, hn, hs => by
    rw [List.nodup_cons] at hn
    have h1 := nodup_len s (c.erase x) hn.2 fun y hy => (List.mem_erase_of_ne (fun e => hn.1 (by rw [← e]; exact hy))).2 (hs y (by simp [hy]))
    have h2 := List.length_erase_of_mem (hs x (by simp))
    have h3 := List.length_pos_of_mem (hs x (by simp))
    rw [List.length_cons]; omega
theorem inc_len {ok : Int → Bool} {s c : List Int} (hs : ∀ a b, a < b → b < s.length → fn s a < fn s b) (hc : ∀ a, a < s.length → inC c (fn s a) = true) : s.length ≤ c.length := by
  have hn : s.Nodup := by
    rw [List.nodup_iff_pairwise_ne, List.pairwise_iff_getElem]
    intro i j hi hj hij e
    have := hs i j hij hj
    unfold fn at this
    simp [List.getD, hi, hj] at this
    omega
  have hsub : s ⊆ c := fun x hx => by
    obtain ⟨k, hk, e⟩ := List.getElem_of_mem hx
    have := hc k hk
    unfold inC fn at this
    rw [List.contains_iff_mem] at this
    simp [List.getD, hk, e] at this
    exact this
  exact nodup_len s c hn hsub
theorem plan_ok (h : planS l E = 0) : Ok l E := by
  unfold planS at h
  split at h
  · exact absurd h ‹_›
  rename_i h1
  have h1 : fdsS l = 0 := by simpa using h1
  split at h
  · cases h
  rename_i h2
  split at h
  · cases h
  rename_i h3
  have hf := fds_codes h1
  have hfe : ∀ i, i < l.length → fdE l i = 0 := by
    have h9 := h1
    unfold fdsS at h9
    rw [if_neg (by omega), if_neg (by omega)] at h9
    exact fun i hi => fe_zero h9 i hi
  have hcs : ∀ i, i < l.length → codesS (fd l i).cs = 0 ∧ wtE (fd l i).wt = 0 := fun i hi => by
    have e := hfe i hi
    unfold fdE at e
    split at e
    · exact absurd e ‹_›
    split at e
    · exact absurd e ‹_›
    · exact ⟨by simpa using ‹¬ codesS _ ≠ 0›, e⟩
  have hin : ∀ i, i < l.length → incS okC (fd l i).cs = 0 := fun i hi => by
    have e := (hcs i hi).1
    have := hf.2.2 i hi
    unfold codesS at e
    rw [if_neg (by omega), if_neg (by omega)] at e
    exact e
  have hed : ∀ n, n < E.length → (ed E n).ss.length = l.length ∧ ∀ i, i < l.length → 0 < (st (ed E n).ss i).length ∧ incS (inC (fd l i).cs) (st (ed E n).ss i) = 0 := fun n hn => by
    have e := fe_zero h n hn
    unfold edE at e
    split at e
    · exact absurd e ‹_›
    split at e
    · cases e
    rename_i q
    have q : (ed E n).ss.length = l.length := by simpa using q
    refine ⟨q, fun i hi => ?_⟩
    have e2 := fe_zero e i (by omega)
    unfold setE at e2
    split at e2
    · cases e2
    · exact ⟨by omega, e2⟩
  have wtb : ∀ i, i < l.length → 1 ≤ (fd l i).wt ∧ (fd l i).wt ≤ 1000 := fun i hi => by
    have := (hcs i hi).2
    unfold wtE at this
    split at this
    · cases this
    · split at this
      · cases this
      · omega
  refine ⟨hf.2.1, hf.1, fun i hi => (hf.2.2 i hi).1, fun i hi => (hf.2.2 i hi).2, by omega, fun i hi => (inc_nums _ _ (hin i hi)).2, fun i hi a ha => ?_, fun n hn => (hed n hn).1, fun n hn i hi c hc => ?_, fun n hn i hi => ?_, wtb, by omega⟩
  · have := (inc_nums _ _ (hin i hi)).1 a ha
    unfold okC at this
    simpa using this
  · obtain ⟨k, hk, e⟩ := inC_iff.1 hc
    rw [← e]
    exact (inc_nums _ _ ((hed n hn).2 i hi).2).1 k hk
  · have h5 := (hed n hn).2 i hi
    have h6 := inc_nums _ _ h5.2
    have h7 := inc_len (ok := okC) h6.2 h6.1
    have := (hf.2.2 i hi).2
    exact ⟨h5.1, by omega⟩
variable (hok : Ok l E)
include hok
theorem Ok.inj {i a b : Nat} (hi : i < l.length) (ha : a < (fd l i).cs.length) (hb : b < (fd l i).cs.length) (e : fn (fd l i).cs a = fn (fd l i).cs b) : a = b := by
  rcases Nat.lt_trichotomy a b with q | q | q
  · have := hok.inc i hi a b q hb; omega
  · exact q
  · have := hok.inc i hi b a q ha; omega
theorem Ok.mk_at {i k : Nat} (hi : i < l.length) (hk : k < (fd l i).cs.length) : mkS (fd l i).cs (fn (fd l i).cs k) = 2 ^ k := by
  unfold mkS
  rw [← bz_one hk]
  refine bz_ext fun j hj => ?_
  rw [Bool.eq_iff_iff]; simp
  exact ⟨fun e => hok.inj hi hj hk e, fun e => by rw [e]⟩
omit hok in
theorem mk_none {cs : List Int} {c : Int} (h : inC cs c = false) : mkS cs c = 0 := by
  refine bz_none fun j hj => ?_
  refine decide_eq_false fun e => ?_
  have := inC_iff.2 ⟨j, hj, e⟩
  rw [h] at this; cases this
end
end Go.Proofs.YtadfmplafehjlaaDoor
