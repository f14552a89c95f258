/-
  Rotations: the check and who is in a wave, on both sides.
-/
import Derived.Test.YtiengbhncgnjnaaGreatDoorRatRRat
namespace Go.Proofs.YtiengbhncgnjnaaGreatDoor
open Go.RowKit

/-- What CheckRotation gives. -/
def chkRot (i o g : Int) : Int := if i < 1 ∨ 1000 < i ∨ o < 0 ∨ 1000 < o ∨ g < 0 ∨ 1000 < g then 1 else if g = 0 ∧ o ≠ 0 then 3 else 0
def inB (i o g grp wave : Int) : Bool := decide (wave - grp < i) || (decide (0 ≤ wave - grp - i - o) && decide (wave - grp - i - o < g))
abbrev rotV (i o g : Int) : Value := .agg #[.int .i64 i, .int .i64 o, .int .i64 g]
theorem ret_bool {a b : Bool} (h : a = b) : Ending.returned (.bool a) = .returned (.bool b) := by rw [h]
theorem bel_one (w : World) (o : Obj) : Below w.heap.size w (w.alloc o) := (Below.refl _ _).alloc (Nat.le_refl _) o
set_option maxHeartbeats 2000000 in
theorem chk_c (i o g : Int) (w : World) : Calls Tryz.prog 7 #[rotV i o g] w fun e w' => e = .returned (.int .i64 (chkRot i o g)) ∧ Below w.heap.size w w' := by
  go_enter Tryz.func7, Tryz.ntmps7
  go_wp2
  all_goals go_ret
  all_goals refine ⟨ret_int ?_, bel_one _ _⟩
  all_goals try simp only [bne_iff_ne, ne_eq, bne_eq_false_iff_eq, beq_iff_eq, beq_eq_false_iff_ne, Bool.not_eq_true] at *
  all_goals first
    | (unfold chkRot; rw [if_pos (by omega)])
    | (unfold chkRot; rw [if_neg (by omega), if_pos (by omega)])
    | (unfold chkRot; rw [if_neg (by omega), if_neg (by omega)])
theorem within_c (n l h : Int) (w : World) : Calls Tryz.prog 15 #[.int .i64 n, .int .i64 l, .int .i64 h] w fun e w' => e = .returned (.bool (decide (l ≤ n) && decide (n ≤ h))) ∧ w = w' := by
  go_enter Tryz.func15, Tryz.ntmps15
  go_wp2
  all_goals go_ret
  all_goals refine ⟨ret_bool ?_, rfl⟩
  all_goals (simp_all <;> omega)
set_option maxHeartbeats 2000000 in
theorem isIn_c (i o g grp wave : Int) (w : World) (hi : 1 ≤ i ∧ i ≤ 1000) (ho : 0 ≤ o ∧ o ≤ 1000) (hg : 0 ≤ g ∧ g ≤ 1000) (h1 : 1 ≤ grp ∧ grp ≤ 1000) (h2 : 1 ≤ wave ∧ wave ≤ 1000) :
    Calls Tryz.prog 17 #[rotV i o g, .int .i64 grp, .int .i64 wave] w fun e w' => e = .returned (.bool (inB i o g grp wave)) ∧ Below w.heap.size w w' := by
  go_enter Tryz.func17, Tryz.ntmps17
  go_wp2
  all_goals go_ret
  all_goals refine ⟨ret_bool ?_, bel_one _ _⟩
  all_goals unfold inB
  all_goals simp_all
  all_goals omega
theorem add_w (a b : Int) (ha : -10000 ≤ a ∧ a ≤ 10000) (hb : -10000 ≤ b ∧ b ≤ 10000) : IntKind.i64.wrap (a + b) = a + b := by rw [IntKind.wrap_i64]; omega
set_option maxHeartbeats 2000000 in
theorem rIsIn_c (i o g grp wave : Int) (w : World) (hi : 1 ≤ i ∧ i ≤ 1000) (ho : 0 ≤ o ∧ o ≤ 1000) (hg : 0 ≤ g ∧ g ≤ 1000) (h1 : 1 ≤ grp ∧ grp ≤ wave) (h2 : wave ≤ 1000) :
    Calls Tryz.prog 19 #[rotV i o g, .int .i64 grp, .int .i64 wave] w fun e w' => e = .returned (.bool (inB i o g grp wave)) ∧ Below w.heap.size w w' := by
  have e : inB i o g grp wave = ((decide (grp ≤ wave) && decide (wave ≤ grp + i - 1)) || (decide (grp + i + o ≤ wave) && decide (wave ≤ grp + i + o + g - 1))) := by
    unfold inB
    rw [Bool.eq_iff_iff]
    simp
    omega
  rw [e]
  clear e
  go_enter Tryz.func19, Tryz.ntmps19
  go_wp2_with (go_at_call 15; refine (within_c _ _ _ _).mono ?_; rintro e w' ⟨rfl, rfl⟩)
  all_goals go_ret
  all_goals refine ⟨ret_bool ?_, bel_one _ _⟩
  all_goals (simp_all <;> omega)
set_option maxHeartbeats 2000000 in
theorem rchk_c (i o g : Int) (w : World) : Calls Tryz.prog 8 #[rotV i o g] w fun e w' => e = .returned (.int .i64 (chkRot i o g)) ∧ Below w.heap.size w w' := by
  go_enter Tryz.func8, Tryz.ntmps8
  go_wp2_with (go_at_call 15; refine (within_c _ _ _ _).mono ?_; rintro e w' ⟨rfl, rfl⟩)
  all_goals go_ret
  all_goals refine ⟨ret_int ?_, bel_one _ _⟩
  all_goals try simp only [bne_iff_ne, ne_eq, bne_eq_false_iff_eq, beq_iff_eq, beq_eq_false_iff_ne, Bool.not_eq_true, Bool.not_eq_false', Bool.not_eq_true', Bool.or_eq_true, Bool.or_eq_false_iff, Bool.and_eq_true, Bool.and_eq_false_imp, decide_eq_true_eq, decide_eq_false_iff_not] at *
  all_goals first
    | (unfold chkRot; rw [if_pos (by omega)])
    | (unfold chkRot; rw [if_neg (by omega), if_pos (by omega)])
    | (unfold chkRot; rw [if_neg (by omega), if_neg (by omega)])
end Go.Proofs.YtiengbhncgnjnaaGreatDoor
