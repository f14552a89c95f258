/-
  Rates of package sample.
-/
import Derived.Test.YtecbkfmdpgkdiaaGreatDoorRtsVal
namespace Go.Proofs.YtecbkfmdpgkdiaaGreatDoor
open Go.RowKit

/-- The one counter that is read between the calls. -/
def Sb (g : Nat) (x : Nat) (W : World) : Prop := W.cell? ⟨g + 1, 7, none⟩ = some (.int .i64 x)
set_option maxRecDepth 100000 in
set_option maxHeartbeats 2500000 in
theorem Rates_c (a : Option Addr) (c : Nat) (l : List Int) (w : World) (h : Rd w a l) : Calls Tryz.prog 12 #[.slice a l.length c] w (RtsPost l w) := by
  have h9 := h.1
  by_cases hn : l.length ≤ 5000
  · obtain ⟨W0, hW0⟩ : ∃ W0, mk0 w = W0 := ⟨_, rfl⟩
    have H0 := Lib.hid (mk0_lp w l)
    rw [hW0] at H0
    unfold mk0 at hW0
    have H := Lib.hid h
    have HN := Lib.hid hn
    clear h
    go_enter Tryz.func12, Tryz.ntmps12
    go_wp2_with fail
    clear hW0
    go_loopw [20] (fun i wr => ∃ k : Nat, k ≤ l.length ∧ i = .int .i64 k ∧ Hid (Lp w l k wr ∧ ∀ j, j < k → isOc (fn l j))) (fun i _ => l.length - (intOf i).toNat)
    case atStart => exact ⟨0, Nat.zero_le _, rfl, H0.out, fun j hj => by omega⟩
    case round =>
      obtain ⟨k, hk, rfl, hL⟩ := hrel
      by_cases hlt : k < l.length
      · have hlt' : (k : Int) < (l.length : Int) := by omega
        obtain ⟨b, off, rfl, hc⟩ := (H.out.below hL.out.1.bel).at_ hlt
        by_cases hx : isOc (fn l k)
        · have dx : decide (isOc (fn l k)) = true := decide_eq_true hx
          obtain ⟨m, hm⟩ : ∃ m : Nat, fn l k = (m : Nat) := ⟨(fn l k).toNat, by unfold isOc at hx; omega⟩
          have hm8 : m < 8 := by unfold isOc at hx; omega
          have hm8' : (m : Int) < 8 := by omega
          have NX := Lib.hid (hL.out.1.next hm8 hm)
          obtain ⟨q1, q2⟩ := hL.out.1.tl m hm8
          have hcc := cn_le (fn l) (m : Nat) k
          rw [hm] at hc dx
          have HO := Lib.hid (show ∀ j, j < k + 1 → isOc (fn l j) from fun j hj => by rcases Nat.lt_succ_iff_lt_or_eq.1 hj with e | e; exact hL.out.2 j e; rw [e]; exact hx)
          clear hx hm
          generalize cn (fn l) (m : Nat) k = cc at q1 NX hcc
          have hcc' : (cc : Int) ≤ 5000 := by omega
          go_wp2_with (go_at_call 22; refine (isOutcome_c _ _).mono ?_; rw [dx]; rintro e w' ⟨rfl, rfl⟩)
          go_roundw
          case rel => exact ⟨k + 1, by omega, by go_num, NX.out, HO.out⟩
          case measure => simp [intOf]; omega
        · have dx : decide (isOc (fn l k)) = false := decide_eq_false hx
          have E1 : Hid (ratesV l = _) := ratesV_no (fun h => hx (h.2 k hlt))
          have E2 := Lib.hid (rf_kind HN.out (fun h => hx (h k hlt)))
          have FIN := Lib.hid (set14_fin hL.out.1.box hL.out.1.bel (Nat.le_refl _) (.string ⟨#[]⟩) (.string ⟨#[]⟩) (.string ⟨#[]⟩) (.string ⟨#[]⟩) (.string ⟨#[]⟩) (.string ⟨#[]⟩) (.string ⟨#[]⟩) (.string ⟨#[]⟩) (.string ⟨#[]⟩) (.string ⟨#[]⟩) (.string ⟨#[]⟩) (.string ⟨#[]⟩) (.string ⟨#[]⟩) (.string ⟨#[]⟩))
          have R := hL.out.1.box.all
          clear hx
          go_wp2_with (go_at_call 22; refine (isOutcome_c _ _).mono ?_; rw [dx]; rintro e w' ⟨rfl, rfl⟩)
          clear R
          obtain ⟨e0, e1, e2, e3, e4, e5, e6, e7, e8, e9, e10, e11, e12, e13, hB⟩ := FIN.out
          unfold set14 at *
          exact bodyPost_ret (v := .tuple #[.agg #[.string ⟨#[]⟩, .string ⟨#[]⟩, .string ⟨#[]⟩, .string ⟨#[]⟩, .string ⟨#[]⟩, .string ⟨#[]⟩, .string ⟨#[]⟩, .string ⟨#[]⟩, .string ⟨#[]⟩, .string ⟨#[]⟩, .string ⟨#[]⟩, .string ⟨#[]⟩, .string ⟨#[]⟩, .string ⟨#[]⟩], .int .i64 4]) (by simp [results, Tryz.results12, go_sem, e0, e1, e2, e3, e4, e5, e6, e7, e8, e9, e10, e11, e12, e13]) rfl ⟨by rw [E1.out, E2.out], hB⟩
      · obtain rfl : k = l.length := by omega
        have hok : l.length ≤ 5000 ∧ okL l := ⟨hn, hL.out.2⟩
        have E1 : Hid (ratesV l = _) := ratesV_ok hok
        have E2 := Lib.hid (rf_ok hn hok.2)
        obtain ⟨bk, bp, bq, _⟩ := bounds hn
        have T : ∀ j : Nat, j < 8 → wr.cell? ⟨w.heap.size + 1, j, none⟩ = some (.int .i64 (C l (j : Nat) : Nat)) := fun j hj => (hL.out.1.tl j hj).1
        have t1 : wr.cell? ⟨w.heap.size + 1, 1, none⟩ = some (.int .i64 (C l 1 : Nat)) := T 1 (by decide)
        have t2 : wr.cell? ⟨w.heap.size + 1, 2, none⟩ = some (.int .i64 (C l 2 : Nat)) := T 2 (by decide)
        have t3 : wr.cell? ⟨w.heap.size + 1, 3, none⟩ = some (.int .i64 (C l 3 : Nat)) := T 3 (by decide)
        have t4 : wr.cell? ⟨w.heap.size + 1, 4, none⟩ = some (.int .i64 (C l 4 : Nat)) := T 4 (by decide)
        have t5 : wr.cell? ⟨w.heap.size + 1, 5, none⟩ = some (.int .i64 (C l 5 : Nat)) := T 5 (by decide)
        have t6 : wr.cell? ⟨w.heap.size + 1, 6, none⟩ = some (.int .i64 (C l 6 : Nat)) := T 6 (by decide)
        have t7 : wr.cell? ⟨w.heap.size + 1, 7, none⟩ = some (.int .i64 (C l 7 : Nat)) := T 7 (by decide)
        clear T hok hlt
        have hIV : IV l = C l 1 + C l 3 := rfl
        have hRA : RA l = IV l + C l 4 := rfl
        have hRE : RE l = RA l + C l 5 := rfl
        have hEL : EL l = RE l + C l 6 := rfl
        have hKN : KN l = EL l + C l 2 := rfl
        have hAL : AL l = EL l + C l 7 := rfl
        have hKU : KU l = KN l + C l 7 := rfl
        have iP1 : (C l 1 : Int) * (KN l : Int) = (P1 l : Int) := (Int.natCast_mul _ _).symm
        have iQ : (EL l : Int) * (KU l : Int) = (Q l : Int) := (Int.natCast_mul _ _).symm
        generalize C l 1 = c1 at *
        generalize C l 2 = c2 at *
        generalize C l 3 = c3 at *
        generalize C l 4 = c4 at *
        generalize C l 5 = c5 at *
        generalize C l 6 = c6 at *
        generalize C l 7 = c7 at *
        generalize IV l = iv at *
        generalize RA l = ra at *
        generalize RE l = re at *
        generalize EL l = el at *
        generalize KN l = kn at *
        generalize AL l = al at *
        generalize P1 l = p1 at *
        generalize KU l = ku at *
        generalize Q l = q at *
        have B1 : Hid (c1 ≤ 9223372036854775807) := by unfold Hid; omega
        have B2 : Hid (iv ≤ 9223372036854775807) := by unfold Hid; omega
        have B3 : Hid (p1 ≤ 9223372036854775807) := by unfold Hid; omega
        have B4 : Hid (c4 ≤ 9223372036854775807) := by unfold Hid; omega
        have B5 : Hid (re ≤ 9223372036854775807) := by unfold Hid; omega
        have B6 : Hid (al ≤ 9223372036854775807) := by unfold Hid; omega
        have B7 : Hid (q ≤ 9223372036854775807) := by unfold Hid; omega
        have B8 : Hid (el ≤ 9223372036854775807) := by unfold Hid; omega
        have iIV : (c1 : Int) + (c3 : Int) = (iv : Int) := by omega
        have iRA : (iv : Int) + (c4 : Int) = (ra : Int) := by omega
        have iRE : (ra : Int) + (c5 : Int) = (re : Int) := by omega
        have iEL : (re : Int) + (c6 : Int) = (el : Int) := by omega
        have iKN : (el : Int) + (c2 : Int) = (kn : Int) := by omega
        have iAL : (el : Int) + (c7 : Int) = (al : Int) := by omega
        have iKU : (kn : Int) + (c7 : Int) = (ku : Int) := by omega
        have bIV : (iv : Int) ≤ 5000 := by omega
        have bRA : (ra : Int) ≤ 5000 := by omega
        have bRE : (re : Int) ≤ 5000 := by omega
        have bEL : (el : Int) ≤ 5000 := by omega
        have bKN : (kn : Int) ≤ 5000 := by omega
        have bAL : (al : Int) ≤ 5000 := by omega
        have bKU : (ku : Int) ≤ 5000 := by omega
        have bP1 : (p1 : Int) ≤ 25000000 := by omega
        have bQ : (q : Int) ≤ 25000000 := by omega
        clear hIV hRA hRE hEL hKN hAL hKU bk bp bq
        go_wp2_with fail
        go_quiet (fail)
        go_wp2_with fail
        generalize hw1 : wr.drewN _ = W1
        have HD := Lib.hid (show Lp w l l.length W1.drew by rw [← hw1]; exact hL.out.1.keep (below_drewN (Below.refl _ _) _).drew)
        have hS : Sb w.heap.size c7 W1.drew := by rw [← hw1]; exact t7
        clear hw1 t1 t2 t3 t4 t5 t6 t7 hL
        have vP1 : IntKind.i64.wrap (p1 : Int) = p1 := by rw [IntKind.wrap_i64]; omega
        have vKU : IntKind.i64.wrap (ku : Int) = ku := by rw [IntKind.wrap_i64]; omega
        have vQ : IntKind.i64.wrap (q : Int) = q := by rw [IntKind.wrap_i64]; omega
        refine wp_region_noPanic ?_
        refine wp_region_held_drew (S := Sb w.heap.size c7) (by kernel_rfl) hS (fun hHeld => ?_)
        clear hHeld
        generalize W1.drew = WD at HD hS ⊢
        refine wpAnyH_take (i := 0) (v := ?v0z1) rfl (by kernel_rfl) (by kernel_rfl) (by kernel_rfl) (fun _ _ _ h => h) (Or.inl ⟨by rfl, ?hy0z1⟩) (by assumption) ?rest0z1
        case hy0z1 =>
          intro w hSw
          dsimp only [Sb] at hSw
          go_simp
          try with_reducible rfl
        simp only [Act.put, List.getElem_toArray, List.getElem_cons_succ, List.getElem_cons_zero, List.setIfInBounds_toArray, List.set_cons_zero, List.set_cons_succ]
        refine wpAnyH_take (i := 1) (v := ?v1z2) rfl (by kernel_rfl) (by kernel_rfl) (by kernel_rfl) (fun _ _ _ h => h) (Or.inl ⟨by rfl, ?hy1z2⟩) (by assumption) ?rest1z2
        case hy1z2 =>
          intro w hSw
          dsimp only [Sb] at hSw
          go_simp
          try with_reducible rfl
        simp only [Act.put, List.getElem_toArray, List.getElem_cons_succ, List.getElem_cons_zero, List.setIfInBounds_toArray, List.set_cons_zero, List.set_cons_succ]
        refine wpAnyH_take (i := 3) (v := ?v3z3) rfl (by kernel_rfl) (by kernel_rfl) (by kernel_rfl) (fun _ _ _ h => h) (Or.inl ⟨by rfl, ?hy3z3⟩) (by assumption) ?rest3z3
        case hy3z3 =>
          intro w hSw
          dsimp only [Sb] at hSw
          go_simp
          try with_reducible rfl
        simp only [Act.put, List.getElem_toArray, List.getElem_cons_succ, List.getElem_cons_zero, List.setIfInBounds_toArray, List.set_cons_zero, List.set_cons_succ]
        refine wpAnyH_take (i := 4) (v := ?v4z4) rfl (by kernel_rfl) (by kernel_rfl) (by kernel_rfl) (fun _ _ _ h => h) (Or.inl ⟨by rfl, ?hy4z4⟩) (by assumption) ?rest4z4
        case hy4z4 =>
          intro w hSw
          dsimp only [Sb] at hSw
          go_simp
          try with_reducible rfl
        simp only [Act.put, List.getElem_toArray, List.getElem_cons_succ, List.getElem_cons_zero, List.setIfInBounds_toArray, List.set_cons_zero, List.set_cons_succ]
        refine wpAnyH_take (i := 6) (v := ?v6z5) rfl (by kernel_rfl) (by kernel_rfl) (by kernel_rfl) (fun _ _ _ h => h) (Or.inl ⟨by rfl, ?hy6z5⟩) (by assumption) ?rest6z5
        case hy6z5 =>
          intro w hSw
          dsimp only [Sb] at hSw
          go_simp
          try with_reducible rfl
        simp only [Act.put, List.getElem_toArray, List.getElem_cons_succ, List.getElem_cons_zero, List.setIfInBounds_toArray, List.set_cons_zero, List.set_cons_succ]
        refine wpAnyH_take (i := 7) (v := ?v7z6) rfl (by kernel_rfl) (by kernel_rfl) (by kernel_rfl) (fun _ _ _ h => h) (Or.inl ⟨by rfl, ?hy7z6⟩) (by assumption) ?rest7z6
        case hy7z6 =>
          intro w hSw
          dsimp only [Sb] at hSw
          go_simp
          try with_reducible rfl
        simp only [Act.put, List.getElem_toArray, List.getElem_cons_succ, List.getElem_cons_zero, List.setIfInBounds_toArray, List.set_cons_zero, List.set_cons_succ]
        refine wpAnyH_take (i := 8) (v := ?v8z7) rfl (by kernel_rfl) (by kernel_rfl) (by kernel_rfl) (fun _ _ _ h => h) (Or.inl ⟨by rfl, ?hy8z7⟩) (by assumption) ?rest8z7
        case hy8z7 =>
          intro w hSw
          dsimp only [Sb] at hSw
          go_simp
          try with_reducible rfl
        simp only [Act.put, List.getElem_toArray, List.getElem_cons_succ, List.getElem_cons_zero, List.setIfInBounds_toArray, List.set_cons_zero, List.set_cons_succ]
        refine wpAnyH_take (i := 9) (v := ?v9z8) rfl (by kernel_rfl) (by kernel_rfl) (by kernel_rfl) (fun _ _ _ h => h) (Or.inl ⟨by rfl, ?hy9z8⟩) (by assumption) ?rest9z8
        case hy9z8 =>
          intro w hSw
          dsimp only [Sb] at hSw
          go_simp
          try with_reducible rfl
        simp only [Act.put, List.getElem_toArray, List.getElem_cons_succ, List.getElem_cons_zero, List.setIfInBounds_toArray, List.set_cons_zero, List.set_cons_succ]
        refine wpAnyH_take (i := 10) (v := ?v10z9) rfl (by kernel_rfl) (by kernel_rfl) (by kernel_rfl) (fun _ _ _ h => h) (Or.inl ⟨by rfl, ?hy10z9⟩) (by assumption) ?rest10z9
        case hy10z9 =>
          intro w hSw
          dsimp only [Sb] at hSw
          go_simp
          try with_reducible rfl
        simp only [Act.put, List.getElem_toArray, List.getElem_cons_succ, List.getElem_cons_zero, List.setIfInBounds_toArray, List.set_cons_zero, List.set_cons_succ]
        refine wpAnyH_take (i := 11) (v := ?v11z10) rfl (by kernel_rfl) (by kernel_rfl) (by kernel_rfl) (fun _ _ _ h => h) (Or.inl ⟨by rfl, ?hy11z10⟩) (by assumption) ?rest11z10
        case hy11z10 =>
          intro w hSw
          dsimp only [Sb] at hSw
          go_simp
          try with_reducible rfl
        simp only [Act.put, List.getElem_toArray, List.getElem_cons_succ, List.getElem_cons_zero, List.setIfInBounds_toArray, List.set_cons_zero, List.set_cons_succ]
        refine wpAnyH_take (i := 12) (v := ?v12z11) rfl (by kernel_rfl) (by kernel_rfl) (by kernel_rfl) (fun _ _ _ h => h) (Or.inl ⟨by rfl, ?hy12z11⟩) (by assumption) ?rest12z11
        case hy12z11 =>
          intro w hSw
          dsimp only [Sb] at hSw
          go_simp
          try with_reducible rfl
        simp only [Act.put, List.getElem_toArray, List.getElem_cons_succ, List.getElem_cons_zero, List.setIfInBounds_toArray, List.set_cons_zero, List.set_cons_succ]
        refine wpAnyH_take (i := 13) (v := ?v13z12) rfl (by kernel_rfl) (by kernel_rfl) (by kernel_rfl) (fun _ _ _ h => h) (Or.inl ⟨by rfl, ?hy13z12⟩) (by assumption) ?rest13z12
        case hy13z12 =>
          intro w hSw
          dsimp only [Sb] at hSw
          go_simp
          try with_reducible rfl
        simp only [Act.put, List.getElem_toArray, List.getElem_cons_succ, List.getElem_cons_zero, List.setIfInBounds_toArray, List.set_cons_zero, List.set_cons_succ]
        refine wpAnyH_take (i := 14) (v := ?v14z13) rfl (by kernel_rfl) (by kernel_rfl) (by kernel_rfl) (fun _ _ _ h => h) (Or.inl ⟨by rfl, ?hy14z13⟩) (by assumption) ?rest14z13
        case hy14z13 =>
          intro w hSw
          dsimp only [Sb] at hSw
          go_simp
          try with_reducible rfl
        simp only [Act.put, List.getElem_toArray, List.getElem_cons_succ, List.getElem_cons_zero, List.setIfInBounds_toArray, List.set_cons_zero, List.set_cons_succ]
        refine wpAnyH_take (i := 16) (v := ?v16z14) rfl (by kernel_rfl) (by kernel_rfl) (by kernel_rfl) (fun _ _ _ h => h) (Or.inl ⟨by rfl, ?hy16z14⟩) (by assumption) ?rest16z14
        case hy16z14 =>
          intro w hSw
          dsimp only [Sb] at hSw
          go_simp
          try with_reducible rfl
        simp only [Act.put, List.getElem_toArray, List.getElem_cons_succ, List.getElem_cons_zero, List.setIfInBounds_toArray, List.set_cons_zero, List.set_cons_succ]
        refine wpAnyH_take (i := 17) (v := ?v17z15) rfl (by kernel_rfl) (by kernel_rfl) (by kernel_rfl) (fun _ _ _ h => h) (Or.inl ⟨by rfl, ?hy17z15⟩) (by assumption) ?rest17z15
        case hy17z15 =>
          intro w hSw
          dsimp only [Sb] at hSw
          go_simp
          try with_reducible rfl
        simp only [Act.put, List.getElem_toArray, List.getElem_cons_succ, List.getElem_cons_zero, List.setIfInBounds_toArray, List.set_cons_zero, List.set_cons_succ]
        refine wpAnyH_take (i := 19) (v := ?v19z16) rfl (by kernel_rfl) (by kernel_rfl) (by kernel_rfl) (fun _ _ _ h => h) (Or.inl ⟨by rfl, ?hy19z16⟩) (by assumption) ?rest19z16
        case hy19z16 =>
          intro w hSw
          dsimp only [Sb] at hSw
          go_simp
          try with_reducible rfl
        simp only [Act.put, List.getElem_toArray, List.getElem_cons_succ, List.getElem_cons_zero, List.setIfInBounds_toArray, List.set_cons_zero, List.set_cons_succ]
        refine wpAnyH_take (i := 20) (v := ?v20z17) rfl (by kernel_rfl) (by kernel_rfl) (by kernel_rfl) (fun _ _ _ h => h) (Or.inl ⟨by rfl, ?hy20z17⟩) (by assumption) ?rest20z17
        case hy20z17 =>
          intro w hSw
          dsimp only [Sb] at hSw
          go_simp
          try with_reducible rfl
        simp only [Act.put, List.getElem_toArray, List.getElem_cons_succ, List.getElem_cons_zero, List.setIfInBounds_toArray, List.set_cons_zero, List.set_cons_succ]
        refine wpAnyH_take (i := 22) (v := ?v22z18) rfl (by kernel_rfl) (by kernel_rfl) (by kernel_rfl) (fun _ _ _ h => h) (Or.inl ⟨by rfl, ?hy22z18⟩) (by assumption) ?rest22z18
        case hy22z18 =>
          intro w hSw
          dsimp only [Sb] at hSw
          go_simp
          try with_reducible rfl
        simp only [Act.put, List.getElem_toArray, List.getElem_cons_succ, List.getElem_cons_zero, List.setIfInBounds_toArray, List.set_cons_zero, List.set_cons_succ]
        refine wpAnyH_take (i := 23) (v := ?v23z19) rfl (by kernel_rfl) (by kernel_rfl) (by kernel_rfl) (fun _ _ _ h => h) (Or.inl ⟨by rfl, ?hy23z19⟩) (by assumption) ?rest23z19
        case hy23z19 =>
          intro w hSw
          dsimp only [Sb] at hSw
          go_simp
          try with_reducible rfl
        simp only [Act.put, List.getElem_toArray, List.getElem_cons_succ, List.getElem_cons_zero, List.setIfInBounds_toArray, List.set_cons_zero, List.set_cons_succ]
        refine wpAnyH_take (i := 25) (v := ?v25z20) rfl (by kernel_rfl) (by kernel_rfl) (by kernel_rfl) (fun _ _ _ h => h) (Or.inl ⟨by rfl, ?hy25z20⟩) (by assumption) ?rest25z20
        case hy25z20 =>
          intro w hSw
          dsimp only [Sb] at hSw
          go_simp
          try with_reducible rfl
        simp only [Act.put, List.getElem_toArray, List.getElem_cons_succ, List.getElem_cons_zero, List.setIfInBounds_toArray, List.set_cons_zero, List.set_cons_succ]
        refine wpAnyH_take (i := 26) (v := ?v26z21) rfl (by kernel_rfl) (by kernel_rfl) (by kernel_rfl) (fun _ _ _ h => h) (Or.inl ⟨by rfl, ?hy26z21⟩) (by assumption) ?rest26z21
        case hy26z21 =>
          intro w hSw
          dsimp only [Sb] at hSw
          go_simp
          try with_reducible rfl
        simp only [Act.put, List.getElem_toArray, List.getElem_cons_succ, List.getElem_cons_zero, List.setIfInBounds_toArray, List.set_cons_zero, List.set_cons_succ]
        refine wpAnyH_ready (rs := [2]) (by kernel_rfl) (by simp) ?_
        refine AllReadyH.cons rfl (fun K hK => ?_) AllReadyH.nil
        go_simp
        refine (ratio_c c1 al _ B1.out B6.out).mono ?_
        rintro e w1 ⟨rfl, bc⟩
        try go_simp
        have hT : Sb w.heap.size c7 w1 := (bc.cell (p := ⟨w.heap.size + 1, 7, none⟩) (by have := HD.out.size; show w.heap.size + 1 < _; omega)).trans hS
        have HE := Lib.hid (HD.out.keep bc)
        refine hK.out _ _ hT (fun _ => ?_)
        clear hK K hS bc HD
        have HD := HE
        have hS := hT
        clear HE hT
        try simp only [Act.put, List.setIfInBounds_toArray, List.set_cons_zero, List.set_cons_succ]
        refine wpAnyH_ready (rs := [5]) (by kernel_rfl) (by simp) ?_
        refine AllReadyH.cons rfl (fun K hK => ?_) AllReadyH.nil
        go_simp
        refine (ratio_c iv al _ B2.out B6.out).mono ?_
        rintro e w2 ⟨rfl, bc⟩
        try go_simp
        have hT : Sb w.heap.size c7 w2 := (bc.cell (p := ⟨w.heap.size + 1, 7, none⟩) (by have := HD.out.size; show w.heap.size + 1 < _; omega)).trans hS
        have HE := Lib.hid (HD.out.keep bc)
        refine hK.out _ _ hT (fun _ => ?_)
        clear hK K hS bc HD
        have HD := HE
        have hS := hT
        clear HE hT
        try simp only [Act.put, List.setIfInBounds_toArray, List.set_cons_zero, List.set_cons_succ]
        refine wpAnyH_ready (rs := [15]) (by kernel_rfl) (by simp) ?_
        refine AllReadyH.cons rfl (fun K hK => ?_) AllReadyH.nil
        go_simp
        refine (ratio_c p1 q _ B3.out B7.out).mono ?_
        rintro e w3 ⟨rfl, bc⟩
        try go_simp
        have hT : Sb w.heap.size c7 w3 := (bc.cell (p := ⟨w.heap.size + 1, 7, none⟩) (by have := HD.out.size; show w.heap.size + 1 < _; omega)).trans hS
        have HE := Lib.hid (HD.out.keep bc)
        refine hK.out _ _ hT (fun _ => ?_)
        clear hK K hS bc HD
        have HD := HE
        have hS := hT
        clear HE hT
        try simp only [Act.put, List.setIfInBounds_toArray, List.set_cons_zero, List.set_cons_succ]
        refine wpAnyH_ready (rs := [18]) (by kernel_rfl) (by simp) ?_
        refine AllReadyH.cons rfl (fun K hK => ?_) AllReadyH.nil
        go_simp
        refine (ratio_c c1 el _ B1.out B8.out).mono ?_
        rintro e w4 ⟨rfl, bc⟩
        try go_simp
        have hT : Sb w.heap.size c7 w4 := (bc.cell (p := ⟨w.heap.size + 1, 7, none⟩) (by have := HD.out.size; show w.heap.size + 1 < _; omega)).trans hS
        have HE := Lib.hid (HD.out.keep bc)
        refine hK.out _ _ hT (fun _ => ?_)
        clear hK K hS bc HD
        have HD := HE
        have hS := hT
        clear HE hT
        try simp only [Act.put, List.setIfInBounds_toArray, List.set_cons_zero, List.set_cons_succ]
        refine wpAnyH_ready (rs := [21]) (by kernel_rfl) (by simp) ?_
        refine AllReadyH.cons rfl (fun K hK => ?_) AllReadyH.nil
        go_simp
        refine (ratio_c c1 re _ B1.out B5.out).mono ?_
        rintro e w5 ⟨rfl, bc⟩
        try go_simp
        have hT : Sb w.heap.size c7 w5 := (bc.cell (p := ⟨w.heap.size + 1, 7, none⟩) (by have := HD.out.size; show w.heap.size + 1 < _; omega)).trans hS
        have HE := Lib.hid (HD.out.keep bc)
        refine hK.out _ _ hT (fun _ => ?_)
        clear hK K hS bc HD
        have HD := HE
        have hS := hT
        clear HE hT
        try simp only [Act.put, List.setIfInBounds_toArray, List.set_cons_zero, List.set_cons_succ]
        refine wpAnyH_ready (rs := [24]) (by kernel_rfl) (by simp) ?_
        refine AllReadyH.cons rfl (fun K hK => ?_) AllReadyH.nil
        go_simp
        refine (ratio_c c4 al _ B4.out B6.out).mono ?_
        rintro e w6 ⟨rfl, bc⟩
        try go_simp
        have hT : Sb w.heap.size c7 w6 := (bc.cell (p := ⟨w.heap.size + 1, 7, none⟩) (by have := HD.out.size; show w.heap.size + 1 < _; omega)).trans hS
        have HE := Lib.hid (HD.out.keep bc)
        refine hK.out _ _ hT (fun _ => ?_)
        clear hK K hS bc HD
        have HD := HE
        have hS := hT
        clear HE hT
        try simp only [Act.put, List.setIfInBounds_toArray, List.set_cons_zero, List.set_cons_succ]
        refine wpAnyH_ready (rs := [27]) (by kernel_rfl) (by simp) ?_
        refine AllReadyH.cons rfl (fun K hK => ?_) AllReadyH.nil
        go_simp
        refine (ratio_c re al _ B5.out B6.out).mono ?_
        rintro e w7 ⟨rfl, bc⟩
        try go_simp
        have hT : Sb w.heap.size c7 w7 := (bc.cell (p := ⟨w.heap.size + 1, 7, none⟩) (by have := HD.out.size; show w.heap.size + 1 < _; omega)).trans hS
        have HE := Lib.hid (HD.out.keep bc)
        refine hK.out _ _ hT (fun _ => ?_)
        clear hK K hS bc HD
        have HD := HE
        have hS := hT
        clear HE hT
        try simp only [Act.put, List.setIfInBounds_toArray, List.set_cons_zero, List.set_cons_succ]
        refine wpAnyH_take (i := 28) (v := ?v28z22) rfl (by kernel_rfl) (by kernel_rfl) (by kernel_rfl) (fun _ _ _ h => h) (Or.inl ⟨by rfl, ?hy28z22⟩) (by assumption) ?rest28z22
        case hy28z22 =>
          intro w hSw
          dsimp only [Sb] at hSw
          go_simp
          try with_reducible rfl
        simp only [Act.put, List.getElem_toArray, List.getElem_cons_succ, List.getElem_cons_zero, List.setIfInBounds_toArray, List.set_cons_zero, List.set_cons_succ]
        refine wpAnyH_ready (rs := [29]) (by kernel_rfl) (by simp) ?_
        refine AllReadyH.cons rfl (fun K hK => ?_) AllReadyH.nil
        have R := HD.out.box.all
        have hT : Sb w.heap.size c7 (set14 w7 w.heap.size (.string (decB (rtN c1 al))) (.string (decB (rtD c1 al))) (.string (decB (rtN iv al))) (.string (decB (rtD iv al))) (.string (decB (rtN p1 q))) (.string (decB (rtD p1 q))) (.string (decB (rtN c1 el))) (.string (decB (rtD c1 el))) (.string (decB (rtN c1 re))) (.string (decB (rtD c1 re))) (.string (decB (rtN c4 al))) (.string (decB (rtD c4 al))) (.string (decB (rtN re al))) (.string (decB (rtD re al)))) := by
          unfold Sb
          rw [set14_is]
          exact (setL_far _ w7 0 (w.heap.size + 1) 7 (.inl (Nat.succ_ne_self _))).trans hS
        unfold set14 at hT
        have FIN := Lib.hid (set14_fin HD.out.box HD.out.bel (Nat.le_refl _) (.string (decB (rtN c1 al))) (.string (decB (rtD c1 al))) (.string (decB (rtN iv al))) (.string (decB (rtD iv al))) (.string (decB (rtN p1 q))) (.string (decB (rtD p1 q))) (.string (decB (rtN c1 el))) (.string (decB (rtD c1 el))) (.string (decB (rtN c1 re))) (.string (decB (rtD c1 re))) (.string (decB (rtN c4 al))) (.string (decB (rtD c4 al))) (.string (decB (rtN re al))) (.string (decB (rtD re al))))
        go_simp
        clear R
        refine hK.out _ _ hT (fun _ => ?_)
        clear hK K hS
        have hS := hT
        clear hT
        try simp only [Act.put, List.setIfInBounds_toArray, List.set_cons_zero, List.set_cons_succ]
        refine wpAnyH_take (i := 30) (v := ?v30z23) rfl (by kernel_rfl) (by kernel_rfl) (by kernel_rfl) (fun _ _ _ h => h) (Or.inl ⟨by rfl, ?hy30z23⟩) (by assumption) ?rest30z23
        case hy30z23 =>
          intro w hSw
          dsimp only [Sb] at hSw
          go_simp
          try with_reducible rfl
        simp only [Act.put, List.getElem_toArray, List.getElem_cons_succ, List.getElem_cons_zero, List.setIfInBounds_toArray, List.set_cons_zero, List.set_cons_succ]
        refine wpAnyH_done (by kernel_rfl) ?_ _
        refine NoPanic.normal ?_
        go_wp2
        obtain ⟨e0, e1, e2, e3, e4, e5, e6, e7, e8, e9, e10, e11, e12, e13, hB⟩ := FIN.out
        unfold set14 at *
        exact bodyPost_ret (v := .tuple #[.agg #[.string (decB (rtN c1 al)), .string (decB (rtD c1 al)), .string (decB (rtN iv al)), .string (decB (rtD iv al)), .string (decB (rtN p1 q)), .string (decB (rtD p1 q)), .string (decB (rtN c1 el)), .string (decB (rtD c1 el)), .string (decB (rtN c1 re)), .string (decB (rtD c1 re)), .string (decB (rtN c4 al)), .string (decB (rtD c4 al)), .string (decB (rtN re al)), .string (decB (rtD re al))], .int .i64 0]) (by simp [results, Tryz.results12, go_sem, e0, e1, e2, e3, e4, e5, e6, e7, e8, e9, e10, e11, e12, e13]) rfl ⟨by rw [E1.out, E2.out], hB⟩
  · have E1 : Hid (ratesV l = _) := ratesV_no (fun h => hn h.1)
    have E2 := Lib.hid (rf_large hn)
    clear h
    go_enter Tryz.func12, Tryz.ntmps12
    go_wp2_with fail
    exact bodyPost_ret (v := .tuple #[.agg #[.string ⟨#[]⟩, .string ⟨#[]⟩, .string ⟨#[]⟩, .string ⟨#[]⟩, .string ⟨#[]⟩, .string ⟨#[]⟩, .string ⟨#[]⟩, .string ⟨#[]⟩, .string ⟨#[]⟩, .string ⟨#[]⟩, .string ⟨#[]⟩, .string ⟨#[]⟩, .string ⟨#[]⟩, .string ⟨#[]⟩], .int .i64 2]) (by simp [results, Tryz.results12, go_sem]) rfl ⟨by rw [E1.out, E2.out], (Below.refl _ _).alloc (Nat.le_refl _) _⟩
end Go.Proofs.YtecbkfmdpgkdiaaGreatDoor
