/-
  Read of the reference: it returns the sound value with the text, if there is one, and ErrSyntax otherwise.
-/
import Derived.Test.YtcohkmpjendhnaaGreatDoorTxtRefMeantS
import Derived.Test.YtcohkmpjendhnaaGreatDoorTxtRead
namespace Go.Proofs.YtcohkmpjendhnaaGreatDoor
open Go.RowKit

theorem rmeant_c (t : ByteArray) (w : World) (hE : Env w) (hs : t.size ≤ 2000000) :
    Calls Tryz.prog 21 #[.string t] w (MeantPost t w) := by
  by_cases h : ∃ i, 1 ≤ i ∧ i ≤ 3 ∧ t.data.toList = reasonT i
  · obtain ⟨i, h1, h2, h3⟩ := h
    rw [bytes_eq h3]
    exact rmeant_reason i w h1 h2
  · by_cases hc : t.data.toList.head? = some 123
    · obtain ⟨r, hr⟩ : ∃ r, t.data.toList = 123 :: r := by
        cases e : t.data.toList with
        | nil => rw [e] at hc; cases hc
        | cons a r => rw [e] at hc; injection hc with hc; exact ⟨r, by rw [hc]⟩
      exact rmeant_set t r w hE hs hr
    · exact rmeant_flat t w hE hs (fun i h1 h2 h3 => h ⟨i, h1, h2, h3⟩) hc

set_option maxHeartbeats 4000000 in
theorem RRead_c (t : ByteArray) (w : World) (hE : Env w) (hs : t.size ≤ 2000000) :
    Calls Tryz.prog 8 #[.string t] w (ReadPost t w) := by
  have HE := Lib.hid hE; clear hE
  have HB0 := Lib.hid (box_bel w (.cells #[.int .i64 0, .int .i64 0, .string ⟨#[]⟩, .slice none 0 0] 24))
  go_enter Tryz.func8, Tryz.ntmps8
  go_wp2_with fail
  refine (rmeant_c t _ (HE.out.below HB0.out) hs).mono ?_
  rintro e w1 ⟨k, n, s, v, l, rfl, hsz, hI, hM, hB, a, m, c, rfl, hf⟩
  have hf2 : m = 0 ∨ ∃ b, a = some ⟨b, 0, none⟩ ∧ w.heap.size ≠ b := by
    rcases hf with h | ⟨b, h1, h2⟩
    · exact .inl h
    · exact .inr ⟨b, h1, by simp at h2; omega⟩
  have HF := Lib.hid hf2; clear hf hf2
  obtain ⟨bc1, bf1⟩ := bcell hB.out
  have hz : w.heap.size < w1.heap.size := by have := hB.out.size; simp at this; omega
  have HE1 := Lib.hid ((HE.out.below HB0.out).below hB.out)
  have HB1 := Lib.hid (HB0.out.trans (hB.out.mono (by simp)))
  have HD1 := Lib.hid hB.out
  clear hB
  go_wp2_with fail
  refine (RShow_c k n s _ l _ (hI.out.alloc _) (HE1.out.alloc _) (by omega)).mono ?_
  rintro e w2 ⟨o, rfl, ho, ho1, ho2, hB⟩
  obtain ⟨bc2, bf2⟩ := bcell hB.out
  have HB2 := Lib.hid (HB1.out.trans ((box_bel _ _).trans (hB.out.mono (by simp)) |>.mono HB1.out.size))
  have hI2 := Lib.hid ((hI.out.alloc (.cells #[.int .i64 k, .int .i64 n, .string s, .slice a m c] 24)).below hB.out)
  have hD := HD1.out.trans ((box_bel w1 (.cells #[.int .i64 k, .int .i64 n, .string s, .slice a m c] 24)).trans (hB.out.mono (by simp)) |>.mono HD1.out.size)
  obtain ⟨bc, bf⟩ := bcell hD
  clear hB hI hD
  obtain ⟨f, hf⟩ : ∃ f, f = cChk k n s l := ⟨_, rfl⟩
  rw [← hf]
  by_cases h0 : f = 0
  · have g1 : (f != 0) = false := by simp [h0]
    by_cases h1 : showT k n s l = t.data.toList
    · have e1 : Hid (o = t) := by unfold Hid; rw [ho1.out (by rw [← hf]; exact h0), h1, bs_of]
      have g2 : (o.toList == t.toList) = true := by rw [e1.out]; simp
      have hT : Hid (IsText t.data.toList k n s l) := ⟨by rw [← hf]; exact h0, h1⟩
      clear hf h0 h1 ho1 ho2
      go_wp2
      refine bodyPost_ret (v := .tuple #[.agg #[.int .i64 k, .int .i64 n, .string s, .slice a m c], .int .i64 0]) (by simp [results, Tryz.results8, go_sem, bc]) rfl ?_
      refine .inl ⟨k, n, s, _, l, hT.out, rfl, hsz, ?_, below4 HB2.out (Nat.le_refl _) _ _ _ _⟩
      exact (((hI2.out.other _ HF.out).other _ HF.out).other _ HF.out).other _ HF.out
    · have g2 : (o.toList == t.toList) = false := by
        have e1 : o = bs (showT k n s l) := ho1.out (by rw [← hf]; exact h0)
        have : o.data.toList ≠ t.data.toList := by rw [e1, bs_list]; exact h1
        rw [Lib.toList_data, Lib.toList_data]; simpa using this
      have hN : Hid (∀ k n s l, ¬ IsText t.data.toList k n s l) := by
        intro k' n' s' l' ⟨q1, q2⟩
        obtain ⟨rfl, rfl, rfl, rfl⟩ := hM.out k' n' s' l' (good_of q1) q2
        exact h1 q2
      clear hf h0 h1 ho1 ho2
      go_wp2
      refine bodyPost_ret (v := .tuple #[kn 0 0, .int .i64 10]) (by simp [results, Tryz.results8, go_sem, bc]) rfl ?_
      exact .inr ⟨hN.out, rfl, below4 HB2.out (Nat.le_refl _) _ _ _ _⟩
  · have g1 : (f != 0) = true := by simp [h0]
    have hN : Hid (∀ k n s l, ¬ IsText t.data.toList k n s l) := by
      intro k' n' s' l' ⟨q1, q2⟩
      obtain ⟨rfl, rfl, rfl, rfl⟩ := hM.out k' n' s' l' (good_of q1) q2
      exact h0 (by rw [hf]; exact q1)
    clear hf h0 ho1 ho2
    go_wp2
    refine bodyPost_ret (v := .tuple #[kn 0 0, .int .i64 10]) (by simp [results, Tryz.results8, go_sem, bc]) rfl ?_
    exact .inr ⟨hN.out, rfl, below4 HB2.out (Nat.le_refl _) _ _ _ _⟩
end Go.Proofs.YtcohkmpjendhnaaGreatDoor
