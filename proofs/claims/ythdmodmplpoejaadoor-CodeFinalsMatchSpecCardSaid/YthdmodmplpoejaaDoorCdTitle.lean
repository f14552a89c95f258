/-
  Package code: titles.
-/
import Derived.Test.YthdmodmplpoejaaDoorCdTree
import Derived.Lib.TrimByte
namespace Go.Proofs.YthdmodmplpoejaaDoor
open Go.RowKit Go.WideMaps Go.Maps

theorem trimR_id {l : List UInt8} {c : UInt8} (h : l.getLast? ≠ some c) : Lib.trimRightB l c = l := by
  unfold Lib.trimRightB
  rw [← List.head?_reverse] at h
  cases e : l.reverse with
  | nil => have : l = [] := by simpa using e
           subst this; rfl
  | cons x r =>
    rw [e] at h
    have hx : (x == c) = false := by
      rw [beq_eq_false_iff_ne]
      intro hc
      exact h (by rw [hc]; rfl)
    rw [List.dropWhile_cons, hx]
    simp only [Bool.false_eq_true, if_false]
    rw [← e, List.reverse_reverse]
theorem trimL_id {l : List UInt8} {c : UInt8} (h : l.head? ≠ some c) : Lib.trimLeftB l c = l := by
  unfold Lib.trimLeftB
  cases l with
  | nil => rfl
  | cons x r =>
    have hx : (x == c) = false := by
      rw [beq_eq_false_iff_ne]
      intro hc
      exact h (by rw [hc]; rfl)
    rw [List.dropWhile_cons, hx]
    simp
theorem trimL_le (l : List UInt8) (c : UInt8) : (Lib.trimLeftB l c).length ≤ l.length := (List.dropWhile_suffix _).length_le
theorem trimL_lt {l : List UInt8} {c : UInt8} (h : l.head? = some c) : (Lib.trimLeftB l c).length < l.length := by
  cases l with
  | nil => simp at h
  | cons x r =>
    simp only [List.head?_cons, Option.some.injEq] at h
    subst h
    unfold Lib.trimLeftB
    rw [List.dropWhile_cons]
    simp only [beq_self_eq_true, if_true]
    have := (List.dropWhile_suffix (l := r) (fun a => a == x)).length_le
    simp only [List.length_cons]; omega
theorem trimR_lt {l : List UInt8} {c : UInt8} (h : l.getLast? = some c) : (Lib.trimRightB l c).length < l.length := by
  rw [← List.head?_reverse] at h
  have := trimL_lt h
  unfold Lib.trimRightB
  unfold Lib.trimLeftB at this
  simpa using this
theorem trim_is (l : List UInt8) (c : UInt8) : decide (Lib.trimB l c = l) = (decide (l.head? ≠ some c) && decide (l.getLast? ≠ some c)) := by
  by_cases h1 : l.getLast? = some c
  · have : Lib.trimB l c ≠ l := fun e => by
      have a := trimR_lt h1
      have b := trimL_le (Lib.trimRightB l c) c
      have : (Lib.trimB l c).length = l.length := by rw [e]
      unfold Lib.trimB at this
      omega
    simp [this, h1]
  · have e1 := trimR_id h1
    by_cases h2 : l.head? = some c
    · have : Lib.trimB l c ≠ l := fun e => by
        have a := trimL_lt h2
        have : (Lib.trimB l c).length = l.length := by rw [e]
        unfold Lib.trimB at this
        rw [e1] at this
        omega
      simp [this, h2]
    · have : Lib.trimB l c = l := by unfold Lib.trimB; rw [e1]; exact trimL_id h2
      simp [this, h1, h2]
def okB (c : UInt8) : Bool := decide (32 ≤ c.toNat ∧ c.toNat ≤ 126)
theorem titS_bad {s : ByteArray} {k : Nat} (hk : k < s.size) (h : okB s[k] = false) : titS s = false := by
  unfold titS
  rw [Bool.and_eq_false_iff]
  left
  rw [List.all_eq_false]
  exact ⟨s[k], Array.mem_toList_iff.2 (Array.getElem_mem (xs := s.data) hk), by unfold okB at h; simpa using h⟩
theorem titS_good {s : ByteArray} (h : ∀ k, (hk : k < s.size) → okB s[k] = true) : titS s = (decide (bts s ≠ []) && (decide ((bts s).head? ≠ some 32) && decide ((bts s).getLast? ≠ some 32))) := by
  unfold titS
  have : (bts s).all (fun c => decide (32 ≤ c.toNat ∧ c.toNat ≤ 126)) = true := by
    rw [List.all_eq_true]
    intro c hc
    obtain ⟨k, hk, rfl⟩ := List.getElem_of_mem hc
    exact h k (by simpa [bts] using hk)
  rw [this, Bool.true_and]
theorem bts_list (s : ByteArray) : s.toList = bts s := Lib.toList_data s
set_option maxHeartbeats 1000000 in
theorem isTitle_c (s : ByteArray) (w : World) (hs : s.size ≤ 9223372036854775807) :
    Calls Tryd.prog 73 #[.string s] w fun e w' => e = .returned (.bool (titS s)) ∧ Below w.heap.size w w' := by
  have HT := Lib.hid (Tryd.strings_Trim_one s 32 (by decide) w hs)
  go_enter Tryd.func73, Tryd.ntmps73
  go_wp2
  go_loop [3, 6] (fun _ i => ∃ k : Nat, k ≤ s.size ∧ i = .int .i64 k ∧ Hid (∀ j, (hj : j < s.size) → j < k → okB s[j] = true)) (fun _ i => s.size - (intOf i).toNat)
  case atStart => exact ⟨0, Nat.zero_le _, rfl, fun j _ h => absurd h (Nat.not_lt_zero _)⟩
  case round =>
    obtain ⟨k, hk, rfl, hR⟩ := hrel
    by_cases hlt : k < s.size
    · have hlt' : (k : Int) < (s.size : Int) := by omega
      have hb := titS_bad hlt
      have NX : Hid (okB s[k] = true → ∀ j, (hj : j < s.size) → j < k + 1 → okB s[j] = true) := fun h j hj hk => by
        by_cases e : j = k
        · subst e; exact h
        · exact hR.out j hj (by omega)
      clear hR HT
      have hB := Lib.hid hb
      clear hb
      by_cases h1 : s[k].toNat < 32
      · have R : Hid (titS s = false) := hB.out (by unfold okB; simp; omega)
        have h1' : (s[k].toNat : Int) < 32 := by omega
        clear h1 hB NX
        go_wp2
        go_ret
        exact ⟨by rw [R.out]; rfl, Below.refl _ _⟩
      by_cases h2 : 126 < s[k].toNat
      · have R : Hid (titS s = false) := hB.out (by unfold okB; simp; omega)
        have h1' : decide ((s[k].toNat : Int) < 32) = false := by rw [decide_eq_false_iff_not]; omega
        have h2' : (126 : Int) < (s[k].toNat : Int) := by omega
        clear h1 h2 hB NX
        go_wp2
        go_ret
        exact ⟨by rw [R.out]; rfl, Below.refl _ _⟩
      · have N2 := Lib.hid (NX.out (by unfold okB; simp; omega))
        have h1' : ¬ (s[k].toNat : Int) < 32 := by omega
        have h2' : ¬ (126 : Int) < (s[k].toNat : Int) := by omega
        clear h1 h2 hB NX
        go_wp2
        go_round
        case rel => exact ⟨k + 1, by omega, by go_num, N2.out⟩
        case measure => simp [intOf]; omega
    · obtain rfl : k = s.size := by omega
      have e := titS_good fun j hj => hR.out j hj hj
      have e2 := trim_is (bts s) 32
      rw [← e2] at e
      obtain ⟨T, hT⟩ : ∃ T : ByteArray, (⟨(Lib.trimB s.data.toList 32).toArray⟩ : ByteArray) = T := ⟨_, rfl⟩
      rw [hT] at HT
      have hTl : bts T = Lib.trimB (bts s) 32 := by rw [← hT]; simp [bts]
      rw [← hTl, ← bts_list, ← bts_list] at e
      clear hT hTl e2 hlt
      by_cases h0 : s.toList = []
      · have R : Hid (titS s = false) := by unfold Hid; rw [e]; simp [h0]
        have f1 : (s.toList == []) = true := by rw [h0]; rfl
        have f2 : (s.toList != []) = false := by rw [h0]; rfl
        clear e h0 hR HT
        go_wp2
        go_ret
        exact ⟨by rw [R.out]; rfl, Below.refl _ _⟩
      · have f1 : (s.toList == []) = false := by rw [beq_eq_false_iff_ne]; exact h0
        have f2 : (s.toList != []) = true := by rw [bne, f1]; rfl
        have R : Hid (titS s = decide (T.toList = s.toList)) := by unfold Hid; rw [e]; simp [h0]
        have f3 : (T.toList == s.toList) = decide (T.toList = s.toList) := by rw [Bool.eq_iff_iff]; simp
        clear e h0 hR
        generalize decide (T.toList = s.toList) = B at *
        go_wp2_with fail
        refine HT.out.mono ?_
        rintro e w' ⟨rfl, hw⟩
        have BW : Hid (Below w.heap.size w w') := by
          rcases hw with rfl | rfl
          · exact Below.refl _ _
          · exact (Below.refl _ _).drew
        clear hw
        go_wp2
        go_ret
        exact ⟨by rw [R.out]; rfl, BW.out⟩
end Go.Proofs.YthdmodmplpoejaaDoor
