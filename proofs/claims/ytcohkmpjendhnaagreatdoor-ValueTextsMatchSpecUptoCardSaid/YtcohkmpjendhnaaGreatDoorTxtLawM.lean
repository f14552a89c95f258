/-
  ValueTextsMatchSpec: the walk of the law.
-/
import Derived.Test.YtcohkmpjendhnaaGreatDoorTxtLaw
import Derived.Test.YtcohkmpjendhnaaGreatDoorTxtRefRead
namespace Go.Proofs.YtcohkmpjendhnaaGreatDoor
open Go.RowKit

/-- What Show writes. -/
noncomputable def showO (k n : Int) (s : ByteArray) (l : List Int) : ByteArray := if cChk k n s l = 0 then bs (showT k n s l) else ⟨#[]⟩
theorem post_O {k n : Int} {s : ByteArray} {l : List Int} {w : World} {e : Ending} {w' : World} (h : ShowPost k n s l w e w') : e = .returned (.tuple #[.string (showO k n s l), .int .i64 (cChk k n s l)]) ∧ Below w.heap.size w w' := by
  obtain ⟨t, he, _, h1, h2, hB⟩ := h
  refine ⟨?_, hB.out⟩
  have : t = showO k n s l := by
    unfold showO
    by_cases h0 : cChk k n s l = 0
    · rw [if_pos h0]; exact h1.out h0
    · rw [if_neg h0]; exact h2.out h0
  rw [he, this]
/-- The reference's Read finds the value of a text. -/
theorem RRead_at (t : ByteArray) (k n : Int) (s : ByteArray) (l : List Int) (w : World) (hE : Env w) (hs : t.size ≤ 2000000) (h : IsText t.data.toList k n s l) :
    Calls Tryz.prog 8 #[.string t] w fun e w' => ∃ v, e = .returned (.tuple #[.agg #[.int .i64 k, .int .i64 n, .string s, v], .int .i64 0]) ∧ Hid (IsL w' v l) ∧ Hid (Below w.heap.size w w') :=
  (RRead_c t w hE hs).mono fun e w' hp => by
    rcases hp with ⟨k', n', s', v, l', h', he, _, hI, hB⟩ | ⟨hN, _⟩
    · obtain ⟨rfl, rfl, rfl, rfl⟩ := text_inj h h'
      exact ⟨v, he, hI, hB⟩
    · exact absurd h (hN _ _ _ _)
theorem RRead_not (t : ByteArray) (w : World) (hE : Env w) (hs : t.size ≤ 2000000) (h : ∀ k n s l, ¬ IsText t.data.toList k n s l) :
    Calls Tryz.prog 8 #[.string t] w fun e w' => e = .returned (.tuple #[kn 0 0, .int .i64 10]) ∧ Below w.heap.size w w' :=
  (RRead_c t w hE hs).mono fun e w' hp => by
    rcases hp with ⟨k', n', s', v, l', h', _⟩ | ⟨_, he, hB⟩
    · exact absurd h' (h _ _ _ _)
    · exact ⟨he, hB⟩

set_option maxHeartbeats 4000000 in
theorem law_spec (k n : Int) (s : ByteArray) (v : Value) (l : List Int) (t : ByteArray) (w : World) (hv : IsL w v l) (hE : Env w) (hz : s.size ≤ 9223372036854775807) (hs : t.size ≤ 2000000) :
    Calls Tryz.prog 3 #[.agg #[.int .i64 k, .int .i64 n, .string s, v], .string t] w fun e w' => e = .returned (.bool true) ∧ Below w.heap.size w w' := by
  have HE := Lib.hid hE; clear hE
  have HV := Lib.hid hv
  obtain ⟨a, m, c, rfl⟩ := hv.form
  clear hv
  have HB0 := Lib.hid (box_bel w (.cells #[.int .i64 k, .int .i64 n, .string s, .slice a m c] 24))
  have hS := Lib.hid (fun w (hv : IsL w (.slice a m c) l) (hE : Env w) => (Show_c k n s _ l w hv hE hz).mono fun _ _ h => post_O h)
  have hS' := Lib.hid (fun w (hv : IsL w (.slice a m c) l) (hE : Env w) => (RShow_c k n s _ l w hv hE hz).mono fun _ _ h => post_O h)
  generalize showO k n s l = o at hS hS'
  generalize cChk k n s l = f at hS hS'
  by_cases hx : ∃ k n s l, IsText t.data.toList k n s l
  · obtain ⟨k', n', s', l', hx⟩ := hx
    have hR := Lib.hid (fun w (hE : Env w) => Read_at t k' n' s' l' w hE hs hx)
    have hR' := Lib.hid (fun w (hE : Env w) => RRead_at t k' n' s' l' w hE hs hx)
    clear hx
    go_enter Tryz.func3, Tryz.ntmps3
    go_wp2_with fail
    refine (hS.out _ (HV.out.alloc _) (HE.out.alloc _)).mono ?_
    rintro e w1 ⟨rfl, hB⟩
    have B1 := Lib.hid (HB0.out.trans (hB.mono (by simp)))
    have C1 := Lib.hid hB
    have z1 := hB.size
    obtain ⟨bc, bf⟩ := bcell hB
    clear hB
    go_wp2_with fail
    refine (hS'.out _ (HV.out.below B1.out) (HE.out.below B1.out)).mono ?_
    rintro e w2 ⟨rfl, hB⟩
    have B2 := Lib.hid (B1.out.trans (hB.mono B1.out.size))
    clear hB
    go_wp2_with fail
    refine (hR.out _ (HE.out.below B2.out)).mono ?_
    rintro e w3 ⟨v3, rfl, hI3, hB⟩
    obtain ⟨a3, m3, c3, rfl⟩ := hI3.out.form
    have B3 := Lib.hid (B2.out.trans (hB.out.mono B2.out.size))
    clear hB bc bf z1
    go_wp2_with fail
    refine (hR'.out _ ((HE.out.below B3.out).alloc _)).mono ?_
    rintro e w4 ⟨v4, rfl, hI4, hB⟩
    obtain ⟨a4, m4, c4, rfl⟩ := hI4.out.form
    have hI5 := Lib.hid ((hI3.out.alloc (.cells #[.int .i64 k', .int .i64 n', .string s', .slice a3 m3 c3] 24)).below hB.out)
    have B4 := Lib.hid (B3.out.trans ((box_bel _ _).trans (hB.out.mono (by simp)) |>.mono B3.out.size))
    obtain ⟨bc, bf⟩ := bcell hB.out
    have z4 : w3.heap.size < w4.heap.size := by have := hB.out.size; simp at this; omega
    clear hB hI3
    go_wp2_with fail
    refine (same_eq k' n' s' _ _ l' _ (hI5.out.alloc _) (hI4.out.alloc _)).mono ?_
    rintro e w5 ⟨rfl, hB⟩
    have B5 := Lib.hid (B4.out.trans ((box_bel _ _).trans (hB.mono (by simp)) |>.mono B4.out.size))
    clear hB
    go_wp2
    go_ret
    exact ⟨ret_bool (by simp), B5.out⟩
  · have hR := Lib.hid (fun w (hE : Env w) => Read_not t w hE hs (fun k n s l h => hx ⟨k, n, s, l, h⟩))
    have hR' := Lib.hid (fun w (hE : Env w) => RRead_not t w hE hs (fun k n s l h => hx ⟨k, n, s, l, h⟩))
    clear hx
    go_enter Tryz.func3, Tryz.ntmps3
    go_wp2_with fail
    refine (hS.out _ (HV.out.alloc _) (HE.out.alloc _)).mono ?_
    rintro e w1 ⟨rfl, hB⟩
    have B1 := Lib.hid (HB0.out.trans (hB.mono (by simp)))
    have C1 := Lib.hid hB
    have z1 := hB.size
    obtain ⟨bc, bf⟩ := bcell hB
    clear hB
    go_wp2_with fail
    refine (hS'.out _ (HV.out.below B1.out) (HE.out.below B1.out)).mono ?_
    rintro e w2 ⟨rfl, hB⟩
    have B2 := Lib.hid (B1.out.trans (hB.mono B1.out.size))
    clear hB
    go_wp2_with fail
    refine (hR.out _ (HE.out.below B2.out)).mono ?_
    rintro e w3 ⟨rfl, hB⟩
    have B3 := Lib.hid (B2.out.trans (hB.mono B2.out.size))
    clear hB bc bf z1
    go_wp2_with fail
    refine (hR'.out _ ((HE.out.below B3.out).alloc _)).mono ?_
    rintro e w4 ⟨rfl, hB⟩
    have B4 := Lib.hid (B3.out.trans ((box_bel _ _).trans (hB.mono (by simp)) |>.mono B3.out.size))
    obtain ⟨bc, bf⟩ := bcell hB
    have z4 : w3.heap.size < w4.heap.size := by have := hB.size; simp at this; omega
    clear hB
    go_wp2_with fail
    refine (same_eq 0 0 ⟨#[]⟩ _ _ [] _ (.inl ⟨none, 0, rfl, rfl⟩) (.inl ⟨none, 0, rfl, rfl⟩)).mono ?_
    rintro e w5 ⟨rfl, hB⟩
    have B5 := Lib.hid (B4.out.trans ((box_bel _ _).trans (hB.mono (by simp)) |>.mono B4.out.size))
    clear hB
    go_wp2
    go_ret
    exact ⟨ret_bool (by simp), B5.out⟩
end Go.Proofs.YtcohkmpjendhnaaGreatDoor
