/-
  Check of package value and of its reference, on values of any parts: both say the same.
-/
import Derived.Test.YtngijlmokhkdjaaDoorTxtBase
namespace Go.Proofs.YtngijlmokhkdjaaDoor
open Go.RowKit

/-! ### What Check says of a text and of a set. -/
def badB (b : UInt8) : Prop := b.toNat < 32 ∨ 126 < b.toNat
def TextBad (s : ByteArray) : Prop := ∃ (j : Nat) (h : j < s.size), badB s[j]
def NumBad (l : List Int) : Prop := ∃ j, j < l.length ∧ (l.getD j 0 < 1 ∨ 999 < l.getD j 0)
def OrdBad (l : List Int) : Prop := ∃ j, 1 ≤ j ∧ j < l.length ∧ l.getD j 0 ≤ l.getD (j - 1) 0
open Classical in
noncomputable def cText (s : ByteArray) : Int := if 200 < s.size then 2 else if TextBad s then 1 else 0
open Classical in
noncomputable def cNum (l : List Int) : Int := if NumBad l then 1 else 0
open Classical in
noncomputable def cSet (l : List Int) : Int := if 40 < l.length then 2 else if NumBad l then 1 else if OrdBad l then 7 else 0

set_option maxHeartbeats 1000000 in
theorem checkText_c (s : ByteArray) (w : World) (hs : s.size ≤ 9223372036854775807) :
    Calls Tryd.prog 78 #[.string s] w fun e w' => e = .returned (.int .i64 (cText s)) ∧ w' = w := by
  by_cases hl : 200 < s.size
  · have e : Hid (cText s = 2) := by unfold Hid cText; rw [if_pos hl]
    have hl' : (200 : Int) < (s.size : Int) := by omega
    go_enter Tryd.func78, Tryd.ntmps78
    go_wp2
    go_ret
    exact ⟨by rw [e.out]; rfl, rfl⟩
  · have hl' : (s.size : Int) ≤ 200 := by omega
    have HL := Lib.hid hl; clear hl
    go_enter Tryd.func78, Tryd.ntmps78
    go_wp2
    go_loop [3, 9] (fun _ i => ∃ k : Nat, k ≤ s.size ∧ i = .int .i64 k ∧ Hid (∀ (j : Nat) (h : j < s.size), j < k → ¬ badB s[j])) (fun _ i => s.size - (intOf i).toNat)
    case atStart => exact ⟨0, Nat.zero_le _, rfl, fun j _ h => absurd h (Nat.not_lt_zero j)⟩
    case round =>
      obtain ⟨k, hk, rfl, hE⟩ := hrel
      by_cases hlt : k < s.size
      · by_cases h1 : (s[k].toNat : Int) < 32
        · have e : Hid (cText s = 1) := by unfold Hid cText; rw [if_neg HL.out, if_pos ⟨k, hlt, .inl (by omega)⟩]
          go_wp2
          go_ret
          exact ⟨by rw [e.out]; rfl, rfl⟩
        · have h1' : decide ((s[k].toNat : Int) < 32) = false := by simpa using h1
          by_cases h2 : (126 : Int) < (s[k].toNat : Int)
          · have e : Hid (cText s = 1) := by unfold Hid cText; rw [if_neg HL.out, if_pos ⟨k, hlt, .inr (by omega)⟩]
            go_wp2
            go_ret
            exact ⟨by rw [e.out]; rfl, rfl⟩
          · have h2' : decide ((126 : Int) < (s[k].toNat : Int)) = false := by simpa using h2
            have hG : Hid (∀ (j : Nat) (h : j < s.size), j < k + 1 → ¬ badB s[j]) := by
              intro j hj hjk
              rcases Nat.lt_or_ge j k with l | l
              · exact hE.out j hj l
              · obtain rfl : j = k := by omega
                unfold badB; omega
            go_wp2
            go_round
            case rel => exact ⟨k + 1, by omega, by go_num, hG⟩
            case measure => simp [intOf]; omega
      · have e : Hid (cText s = 0) := by unfold Hid cText; rw [if_neg HL.out, if_neg (fun ⟨j, hj, hb⟩ => hE.out j hj (by omega) hb)]
        go_wp2
        go_ret
        exact ⟨by rw [e.out]; rfl, rfl⟩

set_option maxHeartbeats 1000000 in
theorem checkNumbers_c (v : Value) (l : List Int) (w : World) (h : IsL w v l) :
    Calls Tryd.prog 76 #[v] w fun e w' => e = .returned (.int .i64 (cNum l)) ∧ w' = w := by
  rcases h with ⟨a, c, rfl, rfl⟩ | ⟨b, off, cap, rfl, g2, g3, g4, g5⟩
  · have e : Hid (cNum [] = 0) := by unfold Hid cNum; rw [if_neg]; rintro ⟨j, hj, _⟩; simp at hj
    go_enter Tryd.func76, Tryd.ntmps76
    go_wp2
    go_loop [4, 7] (fun _ i => i = .int .i64 0) (fun _ _ => 0)
    case atStart => rfl
    case round =>
      obtain rfl := hrel
      go_wp2
      go_ret
      exact ⟨by rw [e.out]; rfl, rfl⟩
  · have G5 := Lib.hid g5; clear g5
    go_enter Tryd.func76, Tryd.ntmps76
    go_wp2
    go_loop [4, 7] (fun _ i => ∃ k : Nat, k ≤ l.length ∧ i = .int .i64 k ∧ Hid (∀ j, j < k → ¬ (l.getD j 0 < 1 ∨ 999 < l.getD j 0))) (fun _ i => l.length - (intOf i).toNat)
    case atStart => exact ⟨0, Nat.zero_le _, rfl, fun j h => absurd h (Nat.not_lt_zero j)⟩
    case round =>
      obtain ⟨k, hk, rfl, hE⟩ := hrel
      by_cases hlt : k < l.length
      · have c1 : w.cell? ⟨b, off + k, none⟩ = some (.int .i64 (l.getD k 0)) := G5.out k hlt
        by_cases hb : l.getD k 0 < 1 ∨ 999 < l.getD k 0
        · have e : Hid (cNum l = 1) := by unfold Hid cNum; rw [if_pos ⟨k, hlt, hb⟩]
          generalize l.getD k 0 = x at c1 hb
          rcases hb with hb | hb
          · go_wp2
            go_ret
            exact ⟨by rw [e.out]; rfl, rfl⟩
          · have hb' : decide (x < 1) = false := by simp; omega
            go_wp2
            go_ret
            exact ⟨by rw [e.out]; rfl, rfl⟩
        · have hG : Hid (∀ j, j < k + 1 → ¬ (l.getD j 0 < 1 ∨ 999 < l.getD j 0)) := by
            intro j hjk
            rcases Nat.lt_or_ge j k with q | q
            · exact hE.out j q
            · obtain rfl : j = k := by omega
              exact hb
          generalize l.getD k 0 = x at c1 hb
          have b1 : decide (x < 1) = false := by simp; omega
          have b2 : decide (999 < x) = false := by simp; omega
          clear hb
          go_wp2
          go_round
          case rel => exact ⟨k + 1, by omega, by go_num, hG⟩
          case measure => simp [intOf]; omega
      · have e : Hid (cNum l = 0) := by unfold Hid cNum; rw [if_neg (fun ⟨j, hj, hb⟩ => hE.out j (by omega) hb)]
        go_wp2
        go_ret
        exact ⟨by rw [e.out]; rfl, rfl⟩

/-- The world has drawn some answers, and nothing else. -/
def Drawn (w w' : World) : Prop := ∃ n, w' = w.drewN n
theorem Drawn.refl (w : World) : Drawn w w := ⟨0, rfl⟩
theorem Drawn.more {w w' : World} (h : Drawn w w') (n : Nat) : Drawn w (w'.drewN n) := by
  obtain ⟨m, e⟩ := h
  exact ⟨m + n, by rw [e, drewN_drewN]⟩
theorem Drawn.below {w w' : World} {B : Nat} {w0 : World} (h : Drawn w w') (hb : Below B w0 w) : Below B w0 w' := by
  obtain ⟨m, e⟩ := h
  rw [e]; exact below_drewN hb m
theorem Drawn.cell {w w' : World} (h : Drawn w w') (a : Addr) : w'.cell? a = w.cell? a := by obtain ⟨m, e⟩ := h; rw [e]; rfl

set_option maxHeartbeats 2000000 in
theorem checkSet_c (v : Value) (l : List Int) (w : World) (h : IsL w v l) :
    Calls Tryd.prog 79 #[v] w fun e w' => e = .returned (.int .i64 (cSet l)) ∧ Drawn w w' := by
  have hv := h
  rcases h with ⟨a, c, rfl, rfl⟩ | ⟨b, off, cap, rfl, g2, g3, g4, g5⟩
  · have e : Hid (cSet [] = 0) := by unfold Hid cSet; rw [if_neg (by simp), if_neg, if_neg] <;> (rintro ⟨j, h⟩; simp at h)
    have eN : cNum [] = 0 := by unfold cNum; rw [if_neg]; rintro ⟨j, hj, _⟩; simp at hj
    have HV := Lib.hid hv; clear hv
    have EN := Lib.hid eN; clear eN
    go_enter Tryd.func79, Tryd.ntmps79
    go_wp2_with fail
    refine (checkNumbers_c _ _ _ HV.out).mono ?_
    rw [EN.out]
    rintro e w' ⟨rfl, rfl⟩
    go_wp2
    go_loop [4] (fun i => i = .int .i64 1) (fun _ => 0)
    case atStart => rfl
    case round =>
      obtain rfl := hrel
      go_wp2
      go_ret
      exact ⟨by rw [e.out]; rfl, Drawn.refl _⟩
  · have G5 := Lib.hid g5; clear g5
    have HV := Lib.hid hv; clear hv
    by_cases hl : 40 < l.length
    · have e : Hid (cSet l = 2) := by unfold Hid cSet; rw [if_pos hl]
      have hl' : (40 : Int) < (l.length : Int) := by omega
      clear hl
      go_enter Tryd.func79, Tryd.ntmps79
      go_wp2
      go_ret
      exact ⟨by rw [e.out]; rfl, Drawn.refl _⟩
    · have hl' : (l.length : Int) ≤ 40 := by omega
      have HL := Lib.hid hl; clear hl
      by_cases hN : NumBad l
      · have e : Hid (cSet l = 1) := by unfold Hid cSet; rw [if_neg HL.out, if_pos hN]
        have eN : Hid (cNum l = 1) := by unfold Hid cNum; rw [if_pos hN]
        clear hN
        go_enter Tryd.func79, Tryd.ntmps79
        go_wp2_with fail
        refine (checkNumbers_c _ _ _ HV.out).mono ?_
        rw [eN.out]
        rintro e w' ⟨rfl, rfl⟩
        go_wp2
        go_ret
        exact ⟨by rw [e.out]; rfl, Drawn.refl _⟩
      · have eN : Hid (cNum l = 0) := by unfold Hid cNum; rw [if_neg hN]
        have HN := Lib.hid hN; clear hN
        go_enter Tryd.func79, Tryd.ntmps79
        go_wp2_with fail
        refine (checkNumbers_c _ _ _ HV.out).mono ?_
        rw [eN.out]
        rintro e w' ⟨rfl, rfl⟩
        go_wp2
        go_loopw [4] (fun i wr => ∃ k : Nat, 1 ≤ k ∧ (k ≤ l.length ∨ k = 1) ∧ i = .int .i64 k ∧ Hid (∀ j, 1 ≤ j → j < k → l.getD (j - 1) 0 < l.getD j 0) ∧ Hid (Drawn w' wr)) (fun i _ => l.length - (intOf i).toNat)
        case atStart => exact ⟨1, by omega, .inr rfl, rfl, fun j h1 h2 => by omega, Drawn.refl _⟩
        case round =>
          obtain ⟨k, hk1, hk2, rfl, hE, hD⟩ := hrel
          have HK := Lib.hid hk2; clear hk2
          by_cases hlt : k < l.length
          · obtain ⟨m, rfl⟩ : ∃ m, k = m + 1 := ⟨k - 1, by omega⟩
            have c1 : wr.cell? ⟨b, off + (m + 1), none⟩ = some (.int .i64 (l.getD (m + 1) 0)) := by rw [hD.out.cell]; exact G5.out (m + 1) hlt
            have c2 : wr.cell? ⟨b, off + m, none⟩ = some (.int .i64 (l.getD m 0)) := by rw [hD.out.cell]; exact G5.out m (by omega)
            have hx : Hid (l.getD (m + 1) 0 = l.getD (m + 1) 0) := rfl
            by_cases hb : l.getD (m + 1) 0 ≤ l.getD m 0
            · have e : Hid (cSet l = 7) := by unfold Hid cSet; rw [if_neg HL.out, if_neg HN.out, if_pos ⟨m + 1, by omega, hlt, hb⟩]
              generalize l.getD (m + 1) 0 = x at c1 hb
              generalize l.getD m 0 = y at c2 hb
              have hlt' : ((m : Int) + 1) < (l.length : Int) := by omega
              have hlt2 : (m : Int) < (l.length : Int) := by omega
              have hm : (m : Int) + 1 - 1 = (m : Int) := by omega
              go_wp2
              go_quiet (fail)
              go_wp2
              go_ret
              exact ⟨by rw [e.out]; rfl, hD.out.more _⟩
            · have hG : Hid (∀ j, 1 ≤ j → j < m + 1 + 1 → l.getD (j - 1) 0 < l.getD j 0) := by
                intro j h1 h2
                rcases Nat.lt_or_ge j (m + 1) with q | q
                · exact hE.out j h1 q
                · obtain rfl : j = m + 1 := by omega
                  show l.getD m 0 < _
                  omega
              generalize l.getD (m + 1) 0 = x at c1 hb
              generalize l.getD m 0 = y at c2 hb
              have hlt' : ((m : Int) + 1) < (l.length : Int) := by omega
              have hlt2 : (m : Int) < (l.length : Int) := by omega
              have hm : (m : Int) + 1 - 1 = (m : Int) := by omega
              go_wp2
              go_quiet (fail)
              go_wp2
              go_roundw
              case rel => exact ⟨m + 1 + 1, by omega, .inl (by omega), by go_num, hG, hD.out.more _⟩
              case measure => simp [intOf]; omega
          · have e : Hid (cSet l = 0) := by unfold Hid cSet; rw [if_neg HL.out, if_neg HN.out, if_neg (fun ⟨j, h1, h2, hb⟩ => by have := hE.out j h1 (by omega); omega)]
            go_wp2
            go_ret
            exact ⟨by rw [e.out]; rfl, hD.out⟩
end Go.Proofs.YtngijlmokhkdjaaDoor
