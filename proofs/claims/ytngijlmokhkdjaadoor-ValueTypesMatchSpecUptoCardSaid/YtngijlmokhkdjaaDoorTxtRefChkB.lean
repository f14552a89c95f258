/-
  The reference's Check for texts and sets, and for all values.
-/
import Derived.Test.YtngijlmokhkdjaaDoorTxtRefChk
namespace Go.Proofs.YtngijlmokhkdjaaDoor
open Go.RowKit

set_option maxHeartbeats 8000000 in
theorem ref_text_ok (a : Option Addr) (c : Nat) (s : ByteArray) (w : World) (hz : s.size ≤ 9223372036854775807) :
    Calls Tryd.prog 41 #[.agg #[.int .i64 3, .int .i64 0, .string s, .slice a 0 c]] w fun e w' => e = .returned (.int .i64 (cChk 3 0 s [])) ∧ Below w.heap.size w w' := by
  have e0 : cChk 3 0 s [] = cText s := by unfold cChk; simp [usesN]
  rw [e0]
  by_cases hl : 200 < s.size
  · have e : Hid (cText s = 2) := by unfold Hid cText; rw [if_pos hl]
    have hl' : (200 : Int) < (s.size : Int) := by omega
    clear hl e0
    go_enter Tryd.func41, Tryd.ntmps41
    go_wp2_with fail
    refine (within_y _ _ _ _ (by omega) (by omega)).mono ?_; rintro e w' ⟨rfl, rfl⟩
    go_wp2_with fail
    refine (inRange_o 3 _ _ (by simp)).mono ?_; rintro e w' ⟨rfl, rfl⟩
    go_wp2
    go_ret
    exact ⟨by rw [e.out]; rfl, (Below.refl _ _).alloc (Nat.le_refl _) _⟩
  · have hl' : (s.size : Int) ≤ 200 := by omega
    have hl2 : decide ((200 : Int) < (s.size : Int)) = false := by simp; omega
    have HL := Lib.hid hl; clear hl e0
    go_enter Tryd.func41, Tryd.ntmps41
    go_wp2_with fail
    refine (within_y _ _ _ _ (by omega) (by omega)).mono ?_; rintro e w' ⟨rfl, rfl⟩
    go_wp2_with fail
    refine (inRange_o 3 _ _ (by simp)).mono ?_; rintro e w' ⟨rfl, rfl⟩
    go_wp2_with fail
    go_loop [4, 86] (fun _ i => ∃ k : Nat, k ≤ s.size ∧ i = .int .i64 k ∧ Hid (∀ (j : Nat) (h : j < s.size), j < k → ¬ badB s[j])) (fun _ i => s.size - (intOf i).toNat)
    case atStart => exact ⟨0, Nat.zero_le _, rfl, fun j _ h => absurd h (Nat.not_lt_zero j)⟩
    case round =>
      obtain ⟨k, hk, rfl, hE⟩ := hrel
      by_cases hlt : k < s.size
      · by_cases h1 : (s[k].toNat : Int) < 32
        · have e : Hid (cText s = 1) := by unfold Hid cText; rw [if_neg HL.out, if_pos ⟨k, hlt, .inl (by omega)⟩]
          go_wp2
          go_ret
          exact ⟨by rw [e.out]; rfl, (Below.refl _ _).alloc (Nat.le_refl _) _⟩
        · have h1' : decide ((s[k].toNat : Int) < 32) = false := by simpa using h1
          by_cases h2 : (126 : Int) < (s[k].toNat : Int)
          · have e : Hid (cText s = 1) := by unfold Hid cText; rw [if_neg HL.out, if_pos ⟨k, hlt, .inr (by omega)⟩]
            go_wp2
            go_ret
            exact ⟨by rw [e.out]; rfl, (Below.refl _ _).alloc (Nat.le_refl _) _⟩
          · have h2' : decide ((126 : Int) < (s[k].toNat : Int)) = false := by simpa using h2
            have hG : Hid (∀ (j : Nat) (h : j < s.size), j < k + 1 → ¬ badB s[j]) := by
              intro j hj hjk
              rcases Nat.lt_or_ge j k with l | l
              · exact hE.out j hj l
              · obtain rfl : j = k := by omega
                unfold badB; omega
            go_wp2
            go_round
            case rel => exact ⟨k + 1, by omega, by go_num, hG⟩
            case measure => simp [intOf]; omega
      · have e : Hid (cText s = 0) := by unfold Hid cText; rw [if_neg HL.out, if_neg (fun ⟨j, hj, hb⟩ => hE.out j hj (by omega) hb)]
        go_wp2_with fail
        go_loop [6, 105] (fun _ i => i = .int .i64 0) (fun _ _ => 0)
        case atStart => rfl
        case round =>
          obtain rfl := hrel
          go_wp2_with fail
          go_loop [7] (fun i => i = .int .i64 1) (fun _ => 0)
          case atStart => rfl
          case round =>
            obtain rfl := hrel
            go_wp2
            go_ret
            exact ⟨by rw [e.out]; rfl, (Below.refl _ _).alloc (Nat.le_refl _) _⟩

set_option maxHeartbeats 8000000 in
theorem ref_set_ok (v : Value) (l : List Int) (w : World) (hv : IsL w v l) :
    Calls Tryd.prog 41 #[.agg #[.int .i64 5, .int .i64 0, .string ⟨#[]⟩, v]] w fun e w' => e = .returned (.int .i64 (cChk 5 0 ⟨#[]⟩ l)) ∧ Below w.heap.size w w' := by
  have e0 : cChk 5 0 ⟨#[]⟩ l = cSet l := by unfold cChk; rw [if_neg (by omega), if_neg (by rintro (⟨_, h⟩ | ⟨_, h⟩ | ⟨h, _⟩) <;> exact h rfl), if_neg (by simp [usesN]), if_neg (by omega), if_pos rfl]
  rw [e0]
  clear e0
  obtain ⟨a, c, rfl, m⟩ := hv.len
  have HV := Lib.hid hv; clear hv
  by_cases hl : 40 < l.length
  · have e : Hid (cSet l = 2) := by unfold Hid cSet; rw [if_pos hl]
    have hl' : (40 : Int) < (l.length : Int) := by omega
    clear hl
    go_enter Tryd.func41, Tryd.ntmps41
    go_wp2_with fail
    refine (within_y _ _ _ _ (by omega) (by omega)).mono ?_; rintro e w' ⟨rfl, rfl⟩
    go_wp2_with fail
    refine (inRange_o 5 _ _ (by simp)).mono ?_; rintro e w' ⟨rfl, rfl⟩
    go_wp2
    go_ret
    exact ⟨by rw [e.out]; rfl, (Below.refl _ _).alloc (Nat.le_refl _) _⟩
  · have hl' : (l.length : Int) ≤ 40 := by omega
    have hl2 : decide ((40 : Int) < (l.length : Int)) = false := by simp; omega
    have HL := Lib.hid hl; clear hl
    go_enter Tryd.func41, Tryd.ntmps41
    go_wp2_with fail
    refine (within_y _ _ _ _ (by omega) (by omega)).mono ?_; rintro e w' ⟨rfl, rfl⟩
    go_wp2_with fail
    refine (inRange_o 5 _ _ (by simp)).mono ?_; rintro e w' ⟨rfl, rfl⟩
    go_wp2_with fail
    go_loop [4, 86] (fun _ i => i = .int .i64 0) (fun _ _ => 0)
    case atStart => rfl
    case round =>
      obtain rfl := hrel
      go_wp2_with fail
      obtain ⟨W, hW⟩ : ∃ W, W = w.alloc (.cells #[.int .i64 5, .int .i64 0, .string ⟨#[]⟩, .slice a l.length c] 24) := ⟨_, rfl⟩
      rw [← hW]
      have f3 : W.cell? ⟨w.heap.size, 3, none⟩ = some (.slice a l.length c) := by rw [hW]; simp [go_sem]
      have HW := Lib.hid (show IsL W (.slice a l.length c) l by rw [hW]; exact HV.out.alloc _)
      have HB := Lib.hid (show Below w.heap.size w W by rw [hW]; exact (Below.refl _ _).alloc (Nat.le_refl _) _)
      clear hW
      go_loop [6, 105] (fun _ i => ∃ k : Nat, k ≤ l.length ∧ i = .int .i64 k ∧ Hid (∀ j, j < k → ¬ (l.getD j 0 < 1 ∨ 999 < l.getD j 0))) (fun _ i => l.length - (intOf i).toNat)
      case atStart => exact ⟨0, Nat.zero_le _, rfl, fun j h => absurd h (Nat.not_lt_zero j)⟩
      case round =>
        obtain ⟨k, hk, rfl, hE⟩ := hrel
        by_cases hlt : k < l.length
        · obtain ⟨b, off, rfl, _, g5⟩ := HW.out.cells (by omega)
          have c1 : W.cell? ⟨b, off + k, none⟩ = some (.int .i64 (l.getD k 0)) := g5 k hlt
          clear g5
          by_cases hb : l.getD k 0 < 1 ∨ 999 < l.getD k 0
          · have e : Hid (cSet l = 1) := by unfold Hid cSet; rw [if_neg HL.out, if_pos ⟨k, hlt, hb⟩]
            generalize l.getD k 0 = x at c1 hb
            have HX := Lib.hid hb; clear hb
            go_wp2_with fail
            refine (within_n _ _ _ _ HX.out).mono ?_; rintro e w2 ⟨rfl, rfl⟩
            go_wp2
            go_ret
            exact ⟨by rw [e.out]; rfl, HB.out⟩
          · have hG : Hid (∀ j, j < k + 1 → ¬ (l.getD j 0 < 1 ∨ 999 < l.getD j 0)) := by
              intro j hjk
              rcases Nat.lt_or_ge j k with q | q
              · exact hE.out j q
              · obtain rfl : j = k := by omega
                exact hb
            generalize l.getD k 0 = x at c1 hb
            have HX := Lib.hid hb; clear hb
            go_wp2_with fail
            refine (within_y _ _ _ _ (by have := HX.out; omega) (by have := HX.out; omega)).mono ?_; rintro e w2 ⟨rfl, rfl⟩
            go_wp2
            go_round
            case rel => exact ⟨k + 1, by omega, by go_num, hG⟩
            case measure => simp [intOf]; omega
        · have HN : Hid (¬ NumBad l) := fun ⟨j, hj, hb⟩ => hE.out j (by omega) hb
          clear hE
          go_wp2_with fail
          go_loopw [7] (fun i wr => ∃ k : Nat, 1 ≤ k ∧ (k ≤ l.length ∨ k = 1) ∧ i = .int .i64 k ∧ Hid (∀ j, 1 ≤ j → j < k → l.getD (j - 1) 0 < l.getD j 0) ∧ Hid (Drawn W wr)) (fun i _ => l.length - (intOf i).toNat)
          case atStart => exact ⟨1, by omega, .inr rfl, rfl, fun j h1 h2 => by omega, Drawn.refl _⟩
          case round =>
            obtain ⟨q, hk1, hk2, rfl, hE, hD⟩ := hrel
            have HK := Lib.hid hk2; clear hk2
            have f3' : wr.cell? ⟨w.heap.size, 3, none⟩ = some (.slice a l.length c) := by rw [hD.out.cell]; exact f3
            by_cases hlt2 : q < l.length
            · obtain ⟨b, off, rfl, _, g5⟩ := HW.out.cells (by omega)
              obtain ⟨m', rfl⟩ : ∃ m', q = m' + 1 := ⟨q - 1, by omega⟩
              have c1 : wr.cell? ⟨b, off + (m' + 1), none⟩ = some (.int .i64 (l.getD (m' + 1) 0)) := by rw [hD.out.cell]; exact g5 (m' + 1) hlt2
              have c2 : wr.cell? ⟨b, off + m', none⟩ = some (.int .i64 (l.getD m' 0)) := by rw [hD.out.cell]; exact g5 m' (by omega)
              clear g5 f3
              by_cases hb : l.getD (m' + 1) 0 ≤ l.getD m' 0
              · have e : Hid (cSet l = 7) := by unfold Hid cSet; rw [if_neg HL.out, if_neg HN.out, if_pos ⟨m' + 1, by omega, hlt2, hb⟩]
                generalize l.getD (m' + 1) 0 = x at c1 hb
                generalize l.getD m' 0 = y at c2 hb
                have i1 : ((m' : Int) + 1) < (l.length : Int) := by omega
                have i2 : (m' : Int) < (l.length : Int) := by omega
                have hm : (m' : Int) + 1 - 1 = (m' : Int) := by omega
                go_wp2_with fail
                go_quiet (fail)
                go_wp2
                go_ret
                exact ⟨by rw [e.out]; rfl, (hD.out.more _).below HB.out⟩
              · have hG : Hid (∀ j, 1 ≤ j → j < m' + 1 + 1 → l.getD (j - 1) 0 < l.getD j 0) := by
                  intro j h1 h2
                  rcases Nat.lt_or_ge j (m' + 1) with q | q
                  · exact hE.out j h1 q
                  · obtain rfl : j = m' + 1 := by omega
                    show l.getD m' 0 < _
                    omega
                generalize l.getD (m' + 1) 0 = x at c1 hb
                generalize l.getD m' 0 = y at c2 hb
                have i1 : ((m' : Int) + 1) < (l.length : Int) := by omega
                have i2 : (m' : Int) < (l.length : Int) := by omega
                have hm : (m' : Int) + 1 - 1 = (m' : Int) := by omega
                go_wp2_with fail
                go_quiet (fail)
                go_wp2
                go_roundw
                case rel => exact ⟨m' + 1 + 1, by omega, .inl (by omega), by go_num, hG, hD.out.more _⟩
                case measure => simp [intOf]; omega
            · have e : Hid (cSet l = 0) := by unfold Hid cSet; rw [if_neg HL.out, if_neg HN.out, if_neg (fun ⟨j, h1, h2, hb⟩ => by have := hE.out j h1 (by omega); omega)]
              clear f3
              go_wp2
              go_ret
              exact ⟨by rw [e.out]; rfl, hD.out.below HB.out⟩

theorem refCheck_c (k n : Int) (s : ByteArray) (v : Value) (l : List Int) (w : World) (hv : IsL w v l) (hz : s.size ≤ 9223372036854775807) :
    Calls Tryd.prog 41 #[.agg #[.int .i64 k, .int .i64 n, .string s, v]] w fun e w' => e = .returned (.int .i64 (cChk k n s l)) ∧ Below w.heap.size w w' := by
  by_cases hk : k < 0 ∨ 7 < k
  · exact ref_kind k n s v l w hk
  · by_cases hu : k = 1 ∨ k = 2 ∨ k = 4 ∨ k = 6 ∨ k = 7
    · by_cases hs : s.size = 0
      · obtain rfl := empty_of hs
        rcases hv with ⟨a, c, rfl, rfl⟩ | ⟨b, off, cap, rfl, g2, _⟩
        · by_cases h1 : n < lo k ∨ hi k < n
          · exact ref_range k n a c w hu h1
          · exact ref_ok k n a c w hu (by omega)
        · exact ref_set k n b off cap l w hu g2
      · exact ref_text k n s v l w hu hs
    · have hk' : k = 0 ∨ k = 3 ∨ k = 5 := by omega
      by_cases hn : n = 0
      · subst hn
        rcases hk' with rfl | rfl | rfl
        · by_cases hs : s.size = 0
          · obtain rfl := empty_of hs
            rcases hv with ⟨a, c, rfl, rfl⟩ | ⟨b, off, cap, rfl, g2, _⟩
            · exact ref_none_ok a c w
            · exact ref_plain_set 0 b off cap _ l w (.inl ⟨rfl, rfl⟩) g2
          · exact ref_plain_text 0 s v l w (.inl rfl) hs
        · rcases hv with ⟨a, c, rfl, rfl⟩ | ⟨b, off, cap, rfl, g2, _⟩
          · exact ref_text_ok a c s w hz
          · exact ref_plain_set 3 b off cap s l w (.inr rfl) g2
        · by_cases hs : s.size = 0
          · obtain rfl := empty_of hs
            exact ref_set_ok v l w hv
          · exact ref_plain_text 5 s v l w (.inr rfl) hs
      · exact ref_plain_n k n s v l w hk' hn
end Go.Proofs.YtngijlmokhkdjaaDoor
