/-
  Rates of package sample.
  A builder of strings that is written once: fresh, WriteString, String.
  Numbers of one digit to the base 10^9 in the reference: small, trim, order, short.
  Numbers of one digit to the base 10^9 in the reference: trim, order, short.
-/
import Derived.Test.YtfldlcnlijljcaaGreatDoorRt12
import Derived.Test.YtfldlcnlijljcaaGreatDoorRt11
import Derived.Lib.AppendStr
namespace Go.Proofs.YtfldlcnlijljcaaGreatDoor
open Go.RowKit

/-- The one counter that is read between the calls. -/
def Sb (g : Nat) (x : Nat) (W : World) : Prop := W.cell? ⟨g + 1, 7, none⟩ = some (.int .i64 x)
set_option maxRecDepth 100000 in
set_option maxHeartbeats 2500000 in
theorem Rates_c (a : Option Addr) (c : Nat) (l : List Int) (w : World) (h : Rd w a l) : Calls Tryz.prog 12 #[.slice a l.length c] w (RtsPost l w) := by
  have h9 := h.1
  by_cases hn : l.length ≤ 5000
  · obtain ⟨W0, hW0⟩ : ∃ W0, mk0 w = W0 := ⟨_, rfl⟩
    have H0 := Lib.hid (mk0_lp w l)
    rw [hW0] at H0
    unfold mk0 at hW0
    have H := Lib.hid h
    have HN := Lib.hid hn
    clear h
    go_enter Tryz.func12, Tryz.ntmps12
    go_wp2_with fail
    clear hW0
    go_loopw [20] (fun i wr => ∃ k : Nat, k ≤ l.length ∧ i = .int .i64 k ∧ Hid (Lp w l k wr ∧ ∀ j, j < k → isOc (fn l j))) (fun i _ => l.length - (intOf i).toNat)
    case atStart => exact ⟨0, Nat.zero_le _, rfl, H0.out, fun j hj => by omega⟩
    case round =>
      obtain ⟨k, hk, rfl, hL⟩ := hrel
      by_cases hlt : k < l.length
      · have hlt' : (k : Int) < (l.length : Int) := by omega
        obtain ⟨b, off, rfl, hc⟩ := (H.out.below hL.out.1.bel).at_ hlt
        by_cases hx : isOc (fn l k)
        · have dx : decide (isOc (fn l k)) = true := decide_eq_true hx
          obtain ⟨m, hm⟩ : ∃ m : Nat, fn l k = (m : Nat) := ⟨(fn l k).toNat, by unfold isOc at hx; omega⟩
          have hm8 : m < 8 := by unfold isOc at hx; omega
          have hm8' : (m : Int) < 8 := by omega
          have NX := Lib.hid (hL.out.1.next hm8 hm)
          obtain ⟨q1, q2⟩ := hL.out.1.tl m hm8
          have hcc := cn_le (fn l) (m : Nat) k
          rw [hm] at hc dx
          have HO := Lib.hid (show ∀ j, j < k + 1 → isOc (fn l j) from fun j hj => by rcases Nat.lt_succ_iff_lt_or_eq.1 hj with e | e; exact hL.out.2 j e; rw [e]; exact hx)
          clear hx hm
          generalize cn (fn l) (m : Nat) k = cc at q1 NX hcc
          have hcc' : (cc : Int) ≤ 5000 := by omega
          go_wp2_with (go_at_call 22; refine (isOutcome_c _ _).mono ?_; rw [dx]; rintro e w' ⟨rfl, rfl⟩)
          go_roundw
          case rel => exact ⟨k + 1, by omega, by go_num, NX.out, HO.out⟩
          case measure => simp [intOf]; omega
        · have dx : decide (isOc (fn l k)) = false := decide_eq_false hx
          have E1 : Hid (ratesV l = _) := ratesV_no (fun h => hx (h.2 k hlt))
          have E2 := Lib.hid (rf_kind HN.out (fun h => hx (h k hlt)))
          have FIN := Lib.hid (set14_fin hL.out.1.box hL.out.1.bel (Nat.le_refl _) (.string ⟨#[]⟩) (.string ⟨#[]⟩) (.string ⟨#[]⟩) (.string ⟨#[]⟩) (.string ⟨#[]⟩) (.string ⟨#[]⟩) (.string ⟨#[]⟩) (.string ⟨#[]⟩) (.string ⟨#[]⟩) (.string ⟨#[]⟩) (.string ⟨#[]⟩) (.string ⟨#[]⟩) (.string ⟨#[]⟩) (.string ⟨#[]⟩))
          have R := hL.out.1.box.all
          clear hx
          go_wp2_with (go_at_call 22; refine (isOutcome_c _ _).mono ?_; rw [dx]; rintro e w' ⟨rfl, rfl⟩)
          clear R
          obtain ⟨e0, e1, e2, e3, e4, e5, e6, e7, e8, e9, e10, e11, e12, e13, hB⟩ := FIN.out
          unfold set14 at *
          exact bodyPost_ret (v := .tuple #[.agg #[.string ⟨#[]⟩, .string ⟨#[]⟩, .string ⟨#[]⟩, .string ⟨#[]⟩, .string ⟨#[]⟩, .string ⟨#[]⟩, .string ⟨#[]⟩, .string ⟨#[]⟩, .string ⟨#[]⟩, .string ⟨#[]⟩, .string ⟨#[]⟩, .string ⟨#[]⟩, .string ⟨#[]⟩, .string ⟨#[]⟩], .int .i64 4]) (by simp [results, Tryz.results12, go_sem, e0, e1, e2, e3, e4, e5, e6, e7, e8, e9, e10, e11, e12, e13]) rfl ⟨by rw [E1.out, E2.out], hB⟩
      · obtain rfl : k = l.length := by omega
        have hok : l.length ≤ 5000 ∧ okL l := ⟨hn, hL.out.2⟩
        have E1 : Hid (ratesV l = _) := ratesV_ok hok
        have E2 := Lib.hid (rf_ok hn hok.2)
        obtain ⟨bk, bp, bq, _⟩ := bounds hn
        have T : ∀ j : Nat, j < 8 → wr.cell? ⟨w.heap.size + 1, j, none⟩ = some (.int .i64 (C l (j : Nat) : Nat)) := fun j hj => (hL.out.1.tl j hj).1
        have t1 : wr.cell? ⟨w.heap.size + 1, 1, none⟩ = some (.int .i64 (C l 1 : Nat)) := T 1 (by decide)
        have t2 : wr.cell? ⟨w.heap.size + 1, 2, none⟩ = some (.int .i64 (C l 2 : Nat)) := T 2 (by decide)
        have t3 : wr.cell? ⟨w.heap.size + 1, 3, none⟩ = some (.int .i64 (C l 3 : Nat)) := T 3 (by decide)
        have t4 : wr.cell? ⟨w.heap.size + 1, 4, none⟩ = some (.int .i64 (C l 4 : Nat)) := T 4 (by decide)
        have t5 : wr.cell? ⟨w.heap.size + 1, 5, none⟩ = some (.int .i64 (C l 5 : Nat)) := T 5 (by decide)
        have t6 : wr.cell? ⟨w.heap.size + 1, 6, none⟩ = some (.int .i64 (C l 6 : Nat)) := T 6 (by decide)
        have t7 : wr.cell? ⟨w.heap.size + 1, 7, none⟩ = some (.int .i64 (C l 7 : Nat)) := T 7 (by decide)
        clear T hok hlt
        have hIV : IV l = C l 1 + C l 3 := rfl
        have hRA : RA l = IV l + C l 4 := rfl
        have hRE : RE l = RA l + C l 5 := rfl
        have hEL : EL l = RE l + C l 6 := rfl
        have hKN : KN l = EL l + C l 2 := rfl
        have hAL : AL l = EL l + C l 7 := rfl
        have hKU : KU l = KN l + C l 7 := rfl
        have iP1 : (C l 1 : Int) * (KN l : Int) = (P1 l : Int) := (Int.natCast_mul _ _).symm
        have iQ : (EL l : Int) * (KU l : Int) = (Q l : Int) := (Int.natCast_mul _ _).symm
        generalize C l 1 = c1 at *
        generalize C l 2 = c2 at *
        generalize C l 3 = c3 at *
        generalize C l 4 = c4 at *
        generalize C l 5 = c5 at *
        generalize C l 6 = c6 at *
        generalize C l 7 = c7 at *
        generalize IV l = iv at *
        generalize RA l = ra at *
        generalize RE l = re at *
        generalize EL l = el at *
        generalize KN l = kn at *
        generalize AL l = al at *
        generalize P1 l = p1 at *
        generalize KU l = ku at *
        generalize Q l = q at *
        have B1 : Hid (c1 ≤ 9223372036854775807) := by unfold Hid; omega
        have B2 : Hid (iv ≤ 9223372036854775807) := by unfold Hid; omega
        have B3 : Hid (p1 ≤ 9223372036854775807) := by unfold Hid; omega
        have B4 : Hid (c4 ≤ 9223372036854775807) := by unfold Hid; omega
        have B5 : Hid (re ≤ 9223372036854775807) := by unfold Hid; omega
        have B6 : Hid (al ≤ 9223372036854775807) := by unfold Hid; omega
        have B7 : Hid (q ≤ 9223372036854775807) := by unfold Hid; omega
        have B8 : Hid (el ≤ 9223372036854775807) := by unfold Hid; omega
        have iIV : (c1 : Int) + (c3 : Int) = (iv : Int) := by omega
        have iRA : (iv : Int) + (c4 : Int) = (ra : Int) := by omega
        have iRE : (ra : Int) + (c5 : Int) = (re : Int) := by omega
        have iEL : (re : Int) + (c6 : Int) = (el : Int) := by omega
        have iKN : (el : Int) + (c2 : Int) = (kn : Int) := by omega
        have iAL : (el : Int) + (c7 : Int) = (al : Int) := by omega
        have iKU : (kn : Int) + (c7 : Int) = (ku : Int) := by omega
        have bIV : (iv : Int) ≤ 5000 := by omega
        have bRA : (ra : Int) ≤ 5000 := by omega
        have bRE : (re : Int) ≤ 5000 := by omega
        have bEL : (el : Int) ≤ 5000 := by omega
        have bKN : (kn : Int) ≤ 5000 := by omega
        have bAL : (al : Int) ≤ 5000 := by omega
        have bKU : (ku : Int) ≤ 5000 := by omega
        have bP1 : (p1 : Int) ≤ 25000000 := by omega
        have bQ : (q : Int) ≤ 25000000 := by omega
        clear hIV hRA hRE hEL hKN hAL hKU bk bp bq
        go_wp2_with fail
        go_quiet (fail)
        go_wp2_with fail
        generalize hw1 : wr.drewN _ = W1
        have HD := Lib.hid (show Lp w l l.length W1.drew by rw [← hw1]; exact hL.out.1.keep (below_drewN (Below.refl _ _) _).drew)
        have hS : Sb w.heap.size c7 W1.drew := by rw [← hw1]; exact t7
        clear hw1 t1 t2 t3 t4 t5 t6 t7 hL
        have vP1 : IntKind.i64.wrap (p1 : Int) = p1 := by rw [IntKind.wrap_i64]; omega
        have vKU : IntKind.i64.wrap (ku : Int) = ku := by rw [IntKind.wrap_i64]; omega
        have vQ : IntKind.i64.wrap (q : Int) = q := by rw [IntKind.wrap_i64]; omega
        refine wp_region_noPanic ?_
        refine wp_region_held_drew (S := Sb w.heap.size c7) (by kernel_rfl) hS (fun hHeld => ?_)
        clear hHeld
        generalize W1.drew = WD at HD hS ⊢
        refine wpAnyH_take (i := 0) (v := ?v0z1) rfl (by kernel_rfl) (by kernel_rfl) (by kernel_rfl) (fun _ _ _ h => h) (Or.inl ⟨by rfl, ?hy0z1⟩) (by assumption) ?rest0z1
        case hy0z1 =>
          intro w hSw
          dsimp only [Sb] at hSw
          go_simp
          try with_reducible rfl
        simp only [Act.put, List.getElem_toArray, List.getElem_cons_succ, List.getElem_cons_zero, List.setIfInBounds_toArray, List.set_cons_zero, List.set_cons_succ]
        refine wpAnyH_take (i := 1) (v := ?v1z2) rfl (by kernel_rfl) (by kernel_rfl) (by kernel_rfl) (fun _ _ _ h => h) (Or.inl ⟨by rfl, ?hy1z2⟩) (by assumption) ?rest1z2
        case hy1z2 =>
          intro w hSw
          dsimp only [Sb] at hSw
          go_simp
          try with_reducible rfl
        simp only [Act.put, List.getElem_toArray, List.getElem_cons_succ, List.getElem_cons_zero, List.setIfInBounds_toArray, List.set_cons_zero, List.set_cons_succ]
        refine wpAnyH_take (i := 3) (v := ?v3z3) rfl (by kernel_rfl) (by kernel_rfl) (by kernel_rfl) (fun _ _ _ h => h) (Or.inl ⟨by rfl, ?hy3z3⟩) (by assumption) ?rest3z3
        case hy3z3 =>
          intro w hSw
          dsimp only [Sb] at hSw
          go_simp
          try with_reducible rfl
        simp only [Act.put, List.getElem_toArray, List.getElem_cons_succ, List.getElem_cons_zero, List.setIfInBounds_toArray, List.set_cons_zero, List.set_cons_succ]
        refine wpAnyH_take (i := 4) (v := ?v4z4) rfl (by kernel_rfl) (by kernel_rfl) (by kernel_rfl) (fun _ _ _ h => h) (Or.inl ⟨by rfl, ?hy4z4⟩) (by assumption) ?rest4z4
        case hy4z4 =>
          intro w hSw
          dsimp only [Sb] at hSw
          go_simp
          try with_reducible rfl
        simp only [Act.put, List.getElem_toArray, List.getElem_cons_succ, List.getElem_cons_zero, List.setIfInBounds_toArray, List.set_cons_zero, List.set_cons_succ]
        refine wpAnyH_take (i := 6) (v := ?v6z5) rfl (by kernel_rfl) (by kernel_rfl) (by kernel_rfl) (fun _ _ _ h => h) (Or.inl ⟨by rfl, ?hy6z5⟩) (by assumption) ?rest6z5
        case hy6z5 =>
          intro w hSw
          dsimp only [Sb] at hSw
          go_simp
          try with_reducible rfl
        simp only [Act.put, List.getElem_toArray, List.getElem_cons_succ, List.getElem_cons_zero, List.setIfInBounds_toArray, List.set_cons_zero, List.set_cons_succ]
        refine wpAnyH_take (i := 7) (v := ?v7z6) rfl (by kernel_rfl) (by kernel_rfl) (by kernel_rfl) (fun _ _ _ h => h) (Or.inl ⟨by rfl, ?hy7z6⟩) (by assumption) ?rest7z6
        case hy7z6 =>
          intro w hSw
          dsimp only [Sb] at hSw
          go_simp
          try with_reducible rfl
        simp only [Act.put, List.getElem_toArray, List.getElem_cons_succ, List.getElem_cons_zero, List.setIfInBounds_toArray, List.set_cons_zero, List.set_cons_succ]
        refine wpAnyH_take (i := 8) (v := ?v8z7) rfl (by kernel_rfl) (by kernel_rfl) (by kernel_rfl) (fun _ _ _ h => h) (Or.inl ⟨by rfl, ?hy8z7⟩) (by assumption) ?rest8z7
        case hy8z7 =>
          intro w hSw
          dsimp only [Sb] at hSw
          go_simp
          try with_reducible rfl
        simp only [Act.put, List.getElem_toArray, List.getElem_cons_succ, List.getElem_cons_zero, List.setIfInBounds_toArray, List.set_cons_zero, List.set_cons_succ]
        refine wpAnyH_take (i := 9) (v := ?v9z8) rfl (by kernel_rfl) (by kernel_rfl) (by kernel_rfl) (fun _ _ _ h => h) (Or.inl ⟨by rfl, ?hy9z8⟩) (by assumption) ?rest9z8
        case hy9z8 =>
          intro w hSw
          dsimp only [Sb] at hSw
          go_simp
          try with_reducible rfl
        simp only [Act.put, List.getElem_toArray, List.getElem_cons_succ, List.getElem_cons_zero, List.setIfInBounds_toArray, List.set_cons_zero, List.set_cons_succ]
        refine wpAnyH_take (i := 10) (v := ?v10z9) rfl (by kernel_rfl) (by kernel_rfl) (by kernel_rfl) (fun _ _ _ h => h) (Or.inl ⟨by rfl, ?hy10z9⟩) (by assumption) ?rest10z9
        case hy10z9 =>
          intro w hSw
          dsimp only [Sb] at hSw
          go_simp
          try with_reducible rfl
        simp only [Act.put, List.getElem_toArray, List.getElem_cons_succ, List.getElem_cons_zero, List.setIfInBounds_toArray, List.set_cons_zero, List.set_cons_succ]
        refine wpAnyH_take (i := 11) (v := ?v11z10) rfl (by kernel_rfl) (by kernel_rfl) (by kernel_rfl) (fun _ _ _ h => h) (Or.inl ⟨by rfl, ?hy11z10⟩) (by assumption) ?rest11z10
        case hy11z10 =>
          intro w hSw
          dsimp only [Sb] at hSw
          go_simp
          try with_reducible rfl
        simp only [Act.put, List.getElem_toArray, List.getElem_cons_succ, List.getElem_cons_zero, List.setIfInBounds_toArray, List.set_cons_zero, List.set_cons_succ]
        refine wpAnyH_take (i := 12) (v := ?v12z11) rfl (by kernel_rfl) (by kernel_rfl) (by kernel_rfl) (fun _ _ _ h => h) (Or.inl ⟨by rfl, ?hy12z11⟩) (by assumption) ?rest12z11
        case hy12z11 =>
          intro w hSw
          dsimp only [Sb] at hSw
          go_simp
          try with_reducible rfl
        simp only [Act.put, List.getElem_toArray, List.getElem_cons_succ, List.getElem_cons_zero, List.setIfInBounds_toArray, List.set_cons_zero, List.set_cons_succ]
        refine wpAnyH_take (i := 13) (v := ?v13z12) rfl (by kernel_rfl) (by kernel_rfl) (by kernel_rfl) (fun _ _ _ h => h) (Or.inl ⟨by rfl, ?hy13z12⟩) (by assumption) ?rest13z12
        case hy13z12 =>
          intro w hSw
          dsimp only [Sb] at hSw
          go_simp
          try with_reducible rfl
        simp only [Act.put, List.getElem_toArray, List.getElem_cons_succ, List.getElem_cons_zero, List.setIfInBounds_toArray, List.set_cons_zero, List.set_cons_succ]
        refine wpAnyH_take (i := 14) (v := ?v14z13) rfl (by kernel_rfl) (by kernel_rfl) (by kernel_rfl) (fun _ _ _ h => h) (Or.inl ⟨by rfl, ?hy14z13⟩) (by assumption) ?rest14z13
        case hy14z13 =>
          intro w hSw
          dsimp only [Sb] at hSw
          go_simp
          try with_reducible rfl
        simp only [Act.put, List.getElem_toArray, List.getElem_cons_succ, List.getElem_cons_zero, List.setIfInBounds_toArray, List.set_cons_zero, List.set_cons_succ]
        refine wpAnyH_take (i := 16) (v := ?v16z14) rfl (by kernel_rfl) (by kernel_rfl) (by kernel_rfl) (fun _ _ _ h => h) (Or.inl ⟨by rfl, ?hy16z14⟩) (by assumption) ?rest16z14
        case hy16z14 =>
          intro w hSw
          dsimp only [Sb] at hSw
          go_simp
          try with_reducible rfl
        simp only [Act.put, List.getElem_toArray, List.getElem_cons_succ, List.getElem_cons_zero, List.setIfInBounds_toArray, List.set_cons_zero, List.set_cons_succ]
        refine wpAnyH_take (i := 17) (v := ?v17z15) rfl (by kernel_rfl) (by kernel_rfl) (by kernel_rfl) (fun _ _ _ h => h) (Or.inl ⟨by rfl, ?hy17z15⟩) (by assumption) ?rest17z15
        case hy17z15 =>
          intro w hSw
          dsimp only [Sb] at hSw
          go_simp
          try with_reducible rfl
        simp only [Act.put, List.getElem_toArray, List.getElem_cons_succ, List.getElem_cons_zero, List.setIfInBounds_toArray, List.set_cons_zero, List.set_cons_succ]
        refine wpAnyH_take (i := 19) (v := ?v19z16) rfl (by kernel_rfl) (by kernel_rfl) (by kernel_rfl) (fun _ _ _ h => h) (Or.inl ⟨by rfl, ?hy19z16⟩) (by assumption) ?rest19z16
        case hy19z16 =>
          intro w hSw
          dsimp only [Sb] at hSw
          go_simp
          try with_reducible rfl
        simp only [Act.put, List.getElem_toArray, List.getElem_cons_succ, List.getElem_cons_zero, List.setIfInBounds_toArray, List.set_cons_zero, List.set_cons_succ]
        refine wpAnyH_take (i := 20) (v := ?v20z17) rfl (by kernel_rfl) (by kernel_rfl) (by kernel_rfl) (fun _ _ _ h => h) (Or.inl ⟨by rfl, ?hy20z17⟩) (by assumption) ?rest20z17
        case hy20z17 =>
          intro w hSw
          dsimp only [Sb] at hSw
          go_simp
          try with_reducible rfl
        simp only [Act.put, List.getElem_toArray, List.getElem_cons_succ, List.getElem_cons_zero, List.setIfInBounds_toArray, List.set_cons_zero, List.set_cons_succ]
        refine wpAnyH_take (i := 22) (v := ?v22z18) rfl (by kernel_rfl) (by kernel_rfl) (by kernel_rfl) (fun _ _ _ h => h) (Or.inl ⟨by rfl, ?hy22z18⟩) (by assumption) ?rest22z18
        case hy22z18 =>
          intro w hSw
          dsimp only [Sb] at hSw
          go_simp
          try with_reducible rfl
        simp only [Act.put, List.getElem_toArray, List.getElem_cons_succ, List.getElem_cons_zero, List.setIfInBounds_toArray, List.set_cons_zero, List.set_cons_succ]
        refine wpAnyH_take (i := 23) (v := ?v23z19) rfl (by kernel_rfl) (by kernel_rfl) (by kernel_rfl) (fun _ _ _ h => h) (Or.inl ⟨by rfl, ?hy23z19⟩) (by assumption) ?rest23z19
        case hy23z19 =>
          intro w hSw
          dsimp only [Sb] at hSw
          go_simp
          try with_reducible rfl
        simp only [Act.put, List.getElem_toArray, List.getElem_cons_succ, List.getElem_cons_zero, List.setIfInBounds_toArray, List.set_cons_zero, List.set_cons_succ]
        refine wpAnyH_take (i := 25) (v := ?v25z20) rfl (by kernel_rfl) (by kernel_rfl) (by kernel_rfl) (fun _ _ _ h => h) (Or.inl ⟨by rfl, ?hy25z20⟩) (by assumption) ?rest25z20
        case hy25z20 =>
          intro w hSw
          dsimp only [Sb] at hSw
          go_simp
          try with_reducible rfl
        simp only [Act.put, List.getElem_toArray, List.getElem_cons_succ, List.getElem_cons_zero, List.setIfInBounds_toArray, List.set_cons_zero, List.set_cons_succ]
        refine wpAnyH_take (i := 26) (v := ?v26z21) rfl (by kernel_rfl) (by kernel_rfl) (by kernel_rfl) (fun _ _ _ h => h) (Or.inl ⟨by rfl, ?hy26z21⟩) (by assumption) ?rest26z21
        case hy26z21 =>
          intro w hSw
          dsimp only [Sb] at hSw
          go_simp
          try with_reducible rfl
        simp only [Act.put, List.getElem_toArray, List.getElem_cons_succ, List.getElem_cons_zero, List.setIfInBounds_toArray, List.set_cons_zero, List.set_cons_succ]
        refine wpAnyH_ready (rs := [2]) (by kernel_rfl) (by simp) ?_
        refine AllReadyH.cons rfl (fun K hK => ?_) AllReadyH.nil
        go_simp
        refine (ratio_c c1 al _ B1.out B6.out).mono ?_
        rintro e w1 ⟨rfl, bc⟩
        try go_simp
        have hT : Sb w.heap.size c7 w1 := (bc.cell (p := ⟨w.heap.size + 1, 7, none⟩) (by have := HD.out.size; show w.heap.size + 1 < _; omega)).trans hS
        have HE := Lib.hid (HD.out.keep bc)
        refine hK.out _ _ hT (fun _ => ?_)
        clear hK K hS bc HD
        have HD := HE
        have hS := hT
        clear HE hT
        try simp only [Act.put, List.setIfInBounds_toArray, List.set_cons_zero, List.set_cons_succ]
        refine wpAnyH_ready (rs := [5]) (by kernel_rfl) (by simp) ?_
        refine AllReadyH.cons rfl (fun K hK => ?_) AllReadyH.nil
        go_simp
        refine (ratio_c iv al _ B2.out B6.out).mono ?_
        rintro e w2 ⟨rfl, bc⟩
        try go_simp
        have hT : Sb w.heap.size c7 w2 := (bc.cell (p := ⟨w.heap.size + 1, 7, none⟩) (by have := HD.out.size; show w.heap.size + 1 < _; omega)).trans hS
        have HE := Lib.hid (HD.out.keep bc)
        refine hK.out _ _ hT (fun _ => ?_)
        clear hK K hS bc HD
        have HD := HE
        have hS := hT
        clear HE hT
        try simp only [Act.put, List.setIfInBounds_toArray, List.set_cons_zero, List.set_cons_succ]
        refine wpAnyH_ready (rs := [15]) (by kernel_rfl) (by simp) ?_
        refine AllReadyH.cons rfl (fun K hK => ?_) AllReadyH.nil
        go_simp
        refine (ratio_c p1 q _ B3.out B7.out).mono ?_
        rintro e w3 ⟨rfl, bc⟩
        try go_simp
        have hT : Sb w.heap.size c7 w3 := (bc.cell (p := ⟨w.heap.size + 1, 7, none⟩) (by have := HD.out.size; show w.heap.size + 1 < _; omega)).trans hS
        have HE := Lib.hid (HD.out.keep bc)
        refine hK.out _ _ hT (fun _ => ?_)
        clear hK K hS bc HD
        have HD := HE
        have hS := hT
        clear HE hT
        try simp only [Act.put, List.setIfInBounds_toArray, List.set_cons_zero, List.set_cons_succ]
        refine wpAnyH_ready (rs := [18]) (by kernel_rfl) (by simp) ?_
        refine AllReadyH.cons rfl (fun K hK => ?_) AllReadyH.nil
        go_simp
        refine (ratio_c c1 el _ B1.out B8.out).mono ?_
        rintro e w4 ⟨rfl, bc⟩
        try go_simp
        have hT : Sb w.heap.size c7 w4 := (bc.cell (p := ⟨w.heap.size + 1, 7, none⟩) (by have := HD.out.size; show w.heap.size + 1 < _; omega)).trans hS
        have HE := Lib.hid (HD.out.keep bc)
        refine hK.out _ _ hT (fun _ => ?_)
        clear hK K hS bc HD
        have HD := HE
        have hS := hT
        clear HE hT
        try simp only [Act.put, List.setIfInBounds_toArray, List.set_cons_zero, List.set_cons_succ]
        refine wpAnyH_ready (rs := [21]) (by kernel_rfl) (by simp) ?_
        refine AllReadyH.cons rfl (fun K hK => ?_) AllReadyH.nil
        go_simp
        refine (ratio_c c1 re _ B1.out B5.out).mono ?_
        rintro e w5 ⟨rfl, bc⟩
        try go_simp
        have hT : Sb w.heap.size c7 w5 := (bc.cell (p := ⟨w.heap.size + 1, 7, none⟩) (by have := HD.out.size; show w.heap.size + 1 < _; omega)).trans hS
        have HE := Lib.hid (HD.out.keep bc)
        refine hK.out _ _ hT (fun _ => ?_)
        clear hK K hS bc HD
        have HD := HE
        have hS := hT
        clear HE hT
        try simp only [Act.put, List.setIfInBounds_toArray, List.set_cons_zero, List.set_cons_succ]
        refine wpAnyH_ready (rs := [24]) (by kernel_rfl) (by simp) ?_
        refine AllReadyH.cons rfl (fun K hK => ?_) AllReadyH.nil
        go_simp
        refine (ratio_c c4 al _ B4.out B6.out).mono ?_
        rintro e w6 ⟨rfl, bc⟩
        try go_simp
        have hT : Sb w.heap.size c7 w6 := (bc.cell (p := ⟨w.heap.size + 1, 7, none⟩) (by have := HD.out.size; show w.heap.size + 1 < _; omega)).trans hS
        have HE := Lib.hid (HD.out.keep bc)
        refine hK.out _ _ hT (fun _ => ?_)
        clear hK K hS bc HD
        have HD := HE
        have hS := hT
        clear HE hT
        try simp only [Act.put, List.setIfInBounds_toArray, List.set_cons_zero, List.set_cons_succ]
        refine wpAnyH_ready (rs := [27]) (by kernel_rfl) (by simp) ?_
        refine AllReadyH.cons rfl (fun K hK => ?_) AllReadyH.nil
        go_simp
        refine (ratio_c re al _ B5.out B6.out).mono ?_
        rintro e w7 ⟨rfl, bc⟩
        try go_simp
        have hT : Sb w.heap.size c7 w7 := (bc.cell (p := ⟨w.heap.size + 1, 7, none⟩) (by have := HD.out.size; show w.heap.size + 1 < _; omega)).trans hS
        have HE := Lib.hid (HD.out.keep bc)
        refine hK.out _ _ hT (fun _ => ?_)
        clear hK K hS bc HD
        have HD := HE
        have hS := hT
        clear HE hT
        try simp only [Act.put, List.setIfInBounds_toArray, List.set_cons_zero, List.set_cons_succ]
        refine wpAnyH_take (i := 28) (v := ?v28z22) rfl (by kernel_rfl) (by kernel_rfl) (by kernel_rfl) (fun _ _ _ h => h) (Or.inl ⟨by rfl, ?hy28z22⟩) (by assumption) ?rest28z22
        case hy28z22 =>
          intro w hSw
          dsimp only [Sb] at hSw
          go_simp
          try with_reducible rfl
        simp only [Act.put, List.getElem_toArray, List.getElem_cons_succ, List.getElem_cons_zero, List.setIfInBounds_toArray, List.set_cons_zero, List.set_cons_succ]
        refine wpAnyH_ready (rs := [29]) (by kernel_rfl) (by simp) ?_
        refine AllReadyH.cons rfl (fun K hK => ?_) AllReadyH.nil
        have R := HD.out.box.all
        have hT : Sb w.heap.size c7 (set14 w7 w.heap.size (.string (decB (rtN c1 al))) (.string (decB (rtD c1 al))) (.string (decB (rtN iv al))) (.string (decB (rtD iv al))) (.string (decB (rtN p1 q))) (.string (decB (rtD p1 q))) (.string (decB (rtN c1 el))) (.string (decB (rtD c1 el))) (.string (decB (rtN c1 re))) (.string (decB (rtD c1 re))) (.string (decB (rtN c4 al))) (.string (decB (rtD c4 al))) (.string (decB (rtN re al))) (.string (decB (rtD re al)))) := by
          unfold Sb
          rw [set14_is]
          exact (setL_far _ w7 0 (w.heap.size + 1) 7 (.inl (Nat.succ_ne_self _))).trans hS
        unfold set14 at hT
        have FIN := Lib.hid (set14_fin HD.out.box HD.out.bel (Nat.le_refl _) (.string (decB (rtN c1 al))) (.string (decB (rtD c1 al))) (.string (decB (rtN iv al))) (.string (decB (rtD iv al))) (.string (decB (rtN p1 q))) (.string (decB (rtD p1 q))) (.string (decB (rtN c1 el))) (.string (decB (rtD c1 el))) (.string (decB (rtN c1 re))) (.string (decB (rtD c1 re))) (.string (decB (rtN c4 al))) (.string (decB (rtD c4 al))) (.string (decB (rtN re al))) (.string (decB (rtD re al))))
        go_simp
        clear R
        refine hK.out _ _ hT (fun _ => ?_)
        clear hK K hS
        have hS := hT
        clear hT
        try simp only [Act.put, List.setIfInBounds_toArray, List.set_cons_zero, List.set_cons_succ]
        refine wpAnyH_take (i := 30) (v := ?v30z23) rfl (by kernel_rfl) (by kernel_rfl) (by kernel_rfl) (fun _ _ _ h => h) (Or.inl ⟨by rfl, ?hy30z23⟩) (by assumption) ?rest30z23
        case hy30z23 =>
          intro w hSw
          dsimp only [Sb] at hSw
          go_simp
          try with_reducible rfl
        simp only [Act.put, List.getElem_toArray, List.getElem_cons_succ, List.getElem_cons_zero, List.setIfInBounds_toArray, List.set_cons_zero, List.set_cons_succ]
        refine wpAnyH_done (by kernel_rfl) ?_ _
        refine NoPanic.normal ?_
        go_wp2
        obtain ⟨e0, e1, e2, e3, e4, e5, e6, e7, e8, e9, e10, e11, e12, e13, hB⟩ := FIN.out
        unfold set14 at *
        exact bodyPost_ret (v := .tuple #[.agg #[.string (decB (rtN c1 al)), .string (decB (rtD c1 al)), .string (decB (rtN iv al)), .string (decB (rtD iv al)), .string (decB (rtN p1 q)), .string (decB (rtD p1 q)), .string (decB (rtN c1 el)), .string (decB (rtD c1 el)), .string (decB (rtN c1 re)), .string (decB (rtD c1 re)), .string (decB (rtN c4 al)), .string (decB (rtD c4 al)), .string (decB (rtN re al)), .string (decB (rtD re al))], .int .i64 0]) (by simp [results, Tryz.results12, go_sem, e0, e1, e2, e3, e4, e5, e6, e7, e8, e9, e10, e11, e12, e13]) rfl ⟨by rw [E1.out, E2.out], hB⟩
  · have E1 : Hid (ratesV l = _) := ratesV_no (fun h => hn h.1)
    have E2 := Lib.hid (rf_large hn)
    clear h
    go_enter Tryz.func12, Tryz.ntmps12
    go_wp2_with fail
    exact bodyPost_ret (v := .tuple #[.agg #[.string ⟨#[]⟩, .string ⟨#[]⟩, .string ⟨#[]⟩, .string ⟨#[]⟩, .string ⟨#[]⟩, .string ⟨#[]⟩, .string ⟨#[]⟩, .string ⟨#[]⟩, .string ⟨#[]⟩, .string ⟨#[]⟩, .string ⟨#[]⟩, .string ⟨#[]⟩, .string ⟨#[]⟩, .string ⟨#[]⟩], .int .i64 2]) (by simp [results, Tryz.results12, go_sem]) rfl ⟨by rw [E1.out, E2.out], (Below.refl _ _).alloc (Nat.le_refl _) _⟩
end Go.Proofs.YtfldlcnlijljcaaGreatDoor
namespace Go.Proofs.YtfldlcnlijljcaaGreatDoor
open Go.RowKit

theorem sizeBuilder : (Tryz.prog.info? 74).map (·.size) = some 2 := by kernel_rfl
/-- A builder that is not written yet. -/
def Fresh (w : World) (b : Nat) : Prop := w.heap[b]? = some (.cells #[.pointer none, .slice none 0 0] 74 (0, 0))
theorem Fresh.c0 {w : World} {b : Nat} (h : Fresh w b) : w.cell? ⟨b, 0, none⟩ = some (.pointer none) := by rw [Lib.cell_of_heap h]; rfl
theorem Fresh.c1 {w : World} {b : Nat} (h : Fresh w b) : w.cell? ⟨b, 1, none⟩ = some (.slice none 0 0) := by rw [Lib.cell_of_heap h]; rfl
set_option maxHeartbeats 1000000 in
set_option maxRecDepth 100000 in
theorem check_c (b : Nat) (w : World) (h : Fresh w b) :
    Calls Tryz.prog 57 #[.pointer (some ⟨b, 0, none⟩)] w fun e w' => e = .returned (.tuple #[]) ∧ w' = w.setCell ⟨b, 0, none⟩ (.pointer (some ⟨b, 0, none⟩)) := by
  obtain ⟨j, hj, hjs⟩ := Option.map_eq_some_iff.1 sizeBuilder
  have h0 := h.c0
  have hfz : w.frozen? ⟨b, 0, none⟩ = false := Lib.frozen_of_heap h 0
  have hsh : w.shape? b = some (74, 2) := by simp [World.shape?, show w.heap[b]? = _ from h]
  have hlies : liesAt Tryz.prog Tryz.prog.depth 74 (2 / Tryz.prog.cellsOf 74) 0 74 1 = true := by kernel_rfl
  have u1 := Lib.run_to_unsafe (P := Tryz.prog) w ⟨b, 0, none⟩ Tryz.underlying71 Tryz.underlying107 hj (by rw [hjs]; decide) hsh (Nat.zero_lt_succ 1)
  have u3 := Lib.run_from_unsafe (P := Tryz.prog) w ⟨b, 0, none⟩ Tryz.underlying107 Tryz.underlying71 hj hsh hlies
  clear hsh hlies hj hjs
  go_enter Tryz.func57, Tryz.ntmps57
  go_wp2
  rw [run_callFunc_extern Tryz.func71 (by kernel_rfl) (by kernel_rfl) (by kernel_rfl) (e := Extern.AbiNoEscape.same) (by kernel_rfl)]
  rw [Lib.run_noEscape]
  simp only [Result.andThen]
  rw [Oper.upon_value]
  go_wp2
  go_end0
  exact ⟨rfl, rfl⟩
set_option maxHeartbeats 1000000 in
/-- One text, written into a fresh builder. -/
theorem write_c (B b : Nat) (s : ByteArray) (w : World) (h : Fresh w b) (hB : B ≤ b) (hs : s.size ≤ 4096) :
    Calls Tryz.prog 42 #[.pointer (some ⟨b, 0, none⟩), .string s] w fun e w' => e = .returned (.tuple #[.int .i64 s.size, .nilIface]) ∧ Lib.IsBuilder 74 5 B b (Lib.strCells s) w' ∧ Below B w w' := by
  obtain ⟨i0, hi, hz0, hz1, hz2⟩ := info_parts infoB
  have hlt : b < w.heap.size := lt_of_block h
  have HF := Lib.hid h
  have hu := (show Lib.BuilderAt 74 5 B b (.pointer none) [] w from ⟨hB, .slice none 0 0, h, World.ownsRow_nil _ _ _ _, by simp [Value.ownBlock]⟩).used (.pointer (some ⟨b, 0, none⟩))
  have HU := Lib.hid hu
  have HS := Lib.hid hs
  have HBB := Lib.hid hB
  have B1 : Hid (Below B w (w.setCell ⟨b, 0, none⟩ (.pointer (some ⟨b, 0, none⟩)))) := (Below.refl _ _).setCell (p := ⟨b, 0, none⟩) hB _
  have S1 : Hid (b < (w.setCell ⟨b, 0, none⟩ (.pointer (some ⟨b, 0, none⟩))).heap.size) := by unfold Hid; simpa using hlt
  clear h hu hs hlt hB
  go_enter Tryz.func42, Tryz.ntmps42
  go_wp2_with fail
  refine (check_c b w HF.out).mono ?_
  rintro e w1 ⟨rfl, rfl⟩
  generalize w.setCell ⟨b, 0, none⟩ (.pointer (some ⟨b, 0, none⟩)) = w1 at *
  obtain ⟨hB, v, hbk, hown, hne⟩ := HU.out
  have HBk := Lib.hid hbk
  have HNE := Lib.hid hne
  have HOW := Lib.hid hown
  have c0 : w1.cell? ⟨b, 0, none⟩ = some (.pointer (some ⟨b, 0, none⟩)) := by rw [Lib.cell_of_heap hbk]; rfl
  have c1 : w1.cell? ⟨b, 1, none⟩ = some v := by rw [Lib.cell_of_heap hbk]; rfl
  clear hbk hne hB hown HU
  go_wp2_with (at_builtin; refine Lib.wpList_append_own_string _ rfl _ _ 72 9 rfl B 5 i0 Tryz.underlying72 Tryz.underlying9 hi hz0 hz1 hz2 _ _ _ rfl HOW.out s rfl ?c3 ?c4 ?c5 ?_)
  case c3 => have := HS.out; unfold maxLen; simp; omega
  case c4 => have := HS.out; simp; omega
  case c5 => have := S1.out; have := HBB.out; omega
  intro v' w2 hown' hgrow _
  have hb2 : w2.heap[b]? = some (.cells #[.pointer (some ⟨b, 0, none⟩), v] 74 (0, 0)) := by
    rw [hgrow.block b S1.out (fun e => HNE.out e.symm)]
    exact HBk.out
  have d0 : w2.cell? ⟨b, 0, none⟩ = some (.pointer (some ⟨b, 0, none⟩)) := by rw [Lib.cell_of_heap hb2]; rfl
  have d1 : w2.cell? ⟨b, 1, none⟩ = some v := by rw [Lib.cell_of_heap hb2]; rfl
  have f1 : w2.frozen? ⟨b, 1, none⟩ = false := Lib.frozen_of_heap hb2 1
  obtain ⟨ao, n', cap, rfl⟩ : ∃ ao n' cap, v' = .slice ao n' cap := by
    rcases hown'.2 with ⟨hv, _⟩ | ⟨g, cap, cur, hv, _⟩
    · exact ⟨_, _, _, hv⟩
    · exact ⟨_, _, _, hv⟩
  have HO2 := Lib.hid hown'
  have HB2 := Lib.hid hb2
  have HG2 := Lib.hid hgrow
  clear hown' hb2 hgrow c0 c1 hi hz0 hz1 hz2
  go_wp2
  go_ret2
  have hh := HO2.out
  refine ⟨rfl, .inr (Lib.BuilderAt.put (T := 74) (e := 5) HBB.out HB2.out (bs' := Lib.strCells s) (by simpa [Lib.strCells_length] using hh) (by decide)), ?_⟩
  exact (B1.out.grown HG2.out (by have := S1.out; have := HBB.out; omega) (fun k hk => (HOW.out.lt k hk).1)).setCell (p := ⟨b, 1, none⟩) HBB.out _
end Go.Proofs.YtfldlcnlijljcaaGreatDoor
namespace Go.Proofs.YtfldlcnlijljcaaGreatDoor
open Go.RowKit

theorem infoI : (Tryz.prog.info? 3).map (fun i => (i.zero, i.size, i.bytes)) = some (some (.int .i64 0), 1, 8) := by kernel_rfl
/-- A row of digits that reads as a number of at most one digit. -/
def Sm (w : World) (a : Option Addr) (k n : Nat) : Prop :=
  (k = 0 ∧ n = 0) ∨ (k = 1 ∧ 0 < n ∧ n < 1000000000 ∧ ∃ b off, a = some ⟨b, off, none⟩ ∧ b < w.heap.size ∧ w.cell? ⟨b, off, none⟩ = some (.int .i64 n))
theorem Sm.below {w w' : World} {a : Option Addr} {k n : Nat} (h : Sm w a k n) (hb : Below w.heap.size w w') : Sm w' a k n := by
  rcases h with h | ⟨h1, h2, h3, b, off, e, hl, hc⟩
  · exact .inl h
  · exact .inr ⟨h1, h2, h3, b, off, e, Nat.lt_of_lt_of_le hl hb.size, by rw [hb.cell (p := ⟨b, off, none⟩) hl]; exact hc⟩
theorem Sm.zero (w : World) (a : Option Addr) : Sm w a 0 0 := .inl ⟨rfl, rfl⟩
theorem Sm.nul {w : World} {a : Option Addr} {k : Nat} (h : Sm w a k 0) : k = 0 := by
  rcases h with ⟨h, _⟩ | ⟨_, h, _⟩
  · exact h
  · omega
theorem Sm.pos {w : World} {a : Option Addr} {k n : Nat} (h : Sm w a k n) (hn : 0 < n) : k = 1 ∧ n < 1000000000 ∧ ∃ b off, a = some ⟨b, off, none⟩ ∧ b < w.heap.size ∧ w.cell? ⟨b, off, none⟩ = some (.int .i64 n) := by
  rcases h with ⟨_, h⟩ | ⟨h1, _, h3, h4⟩
  · omega
  · exact ⟨h1, h3, h4⟩
theorem Sm.lt {w : World} {a : Option Addr} {k n : Nat} (h : Sm w a k n) : n < 1000000000 := by
  rcases h with ⟨_, h⟩ | ⟨_, _, h, _⟩
  · omega
  · exact h
def SmPost (n : Nat) (w : World) (e : Ending) (w' : World) : Prop := ∃ a k c, e = .returned (.slice a k c) ∧ Sm w' a k n ∧ Below w.heap.size w w'
theorem small_zero (w : World) : Calls Tryz.prog 27 #[.int .i64 0] w (SmPost 0 w) := by
  go_enter Tryz.func27, Tryz.ntmps27
  go_wp2
  go_loop [0, 3] (fun n v => n = .int .i64 0 ∧ v = .slice none 0 0) (fun _ _ => 0)
  case atStart => exact ⟨rfl, rfl⟩
  case round =>
    obtain ⟨rfl, rfl⟩ := hrel
    go_wp2
    go_ret
    exact ⟨none, 0, 0, rfl, Sm.zero _ _, Below.refl _ _⟩
set_option maxRecDepth 100000 in
set_option maxHeartbeats 1000000 in
theorem small_pos (n : Nat) (w : World) (h0 : 0 < n) (hn : n < 1000000000) : Calls Tryz.prog 27 #[.int .i64 n] w (SmPost n w) := by
  obtain ⟨i0, hi, hz0, hz1, hz2⟩ := info_parts infoI
  have hp : (0 : Int) < (n : Int) := by omega
  have hq : (n : Int).tdiv 1000000000 = 0 := by rw [Int.tdiv_eq_ediv_of_nonneg (by omega)]; omega
  have hr : (n : Int).tmod 1000000000 = n := by rw [Int.tmod_eq_emod_of_nonneg (by omega)]; omega
  have HN := Lib.hid hn
  have H0 := Lib.hid h0
  clear hn h0
  go_enter Tryz.func27, Tryz.ntmps27
  go_wp2
  go_loopw [0, 3] (fun x v wr => (x = .int .i64 n ∧ v = .slice none 0 0 ∧ Hid (wr = w)) ∨ (x = .int .i64 0 ∧ ∃ a k c, v = .slice a k c ∧ Hid (Sm wr a k n ∧ Below w.heap.size w wr))) (fun x _ _ => (intOf x).toNat)
  case atStart => exact .inl ⟨rfl, rfl, rfl⟩
  case round =>
    rcases hrel with ⟨rfl, rfl, hw⟩ | ⟨rfl, a, k, c, rfl, hS⟩
    · obtain rfl := hw.out
      go_wp2_with (at_builtin; refine wpList_append_own _ rfl _ _ 43 rfl wr.heap.size 3 i0 (.int .i64 0) 1 8 Tryz.underlying43 hi hz0 hz1 hz2 rfl (by decide) _ _ _ rfl (World.ownsRow_nil _ _ _ _) ⟨wr.heap.size, 0, none⟩ 1 1 [.int .i64 n] rfl rfl ?c1 ?c2 ?c3 ?c4 ?c5 ?_)
      case c2 => first | (intro u hu; simp at hu; subst hu; rfl) | rfl | trivial
      case c3 => first | (unfold maxLen; omega) | decide
      intro v' w1 hown' hgrow _
      obtain ⟨g, cap, rfl, hgB, hgs, hcell⟩ := own_open hown' (by omega)
      have hS : Hid (Sm w1 (some ⟨g, 0, none⟩) 1 n ∧ Below wr.heap.size wr w1) := by
        refine ⟨.inr ⟨rfl, H0.out, HN.out, g, 0, rfl, hgs, hcell 0 _ rfl⟩, ?_⟩
        exact ((Below.refl _ _).alloc (Nat.le_refl _) (.cells #[.int .i64 n] 3)).grown hgrow (by simp) (fun b hb => by simp [Value.ownBlock] at hb)
      clear hown' hgrow hcell
      go_wp2
      go_roundw
      case rel => exact .inr ⟨by simp, _, _, _, rfl, hS⟩
      case measure => simp [intOf]; have := H0.out; omega
    · go_wp2
      go_ret
      exact ⟨a, k, c, rfl, hS.out.1, hS.out.2⟩
theorem small_c (n : Nat) (w : World) (hn : n < 1000000000) : Calls Tryz.prog 27 #[.int .i64 n] w (SmPost n w) := by
  rcases Nat.eq_zero_or_pos n with h | h
  · subst h; exact small_zero w
  · exact small_pos n w h hn
end Go.Proofs.YtfldlcnlijljcaaGreatDoor
namespace Go.Proofs.YtfldlcnlijljcaaGreatDoor
open Go.RowKit

/-- A row of one digit, that may be 0, before its zeros go. -/
theorem rtrim_c (b o c n : Nat) (w : World) (h1 : 1 ≤ c) (hc9 : c ≤ 9223372036854775807) (hn : n < 1000000000) (hb : b < w.heap.size) (hc : w.cell? ⟨b, o, none⟩ = some (.int .i64 n)) :
    Calls Tryz.prog 46 #[.slice (some ⟨b, o, none⟩) 1 c] w (SmPost n w) := by
  have HB := Lib.hid hb
  have HN := Lib.hid hn
  clear hb hn
  by_cases h0 : n = 0
  · subst h0
    go_enter Tryz.func46, Tryz.ntmps46
    go_wp2
    go_loop [3] (fun i => ∃ k : Nat, k ≤ 1 ∧ i = .int .i64 k) (fun i => (intOf i).toNat)
    case atStart => exact ⟨1, Nat.le_refl _, rfl⟩
    case round =>
      obtain ⟨k, hk, rfl⟩ := hrel
      rcases Nat.eq_zero_or_pos k with h | h
      · subst h
        go_wp2
        go_ret
        exact ⟨_, 0, c, rfl, Sm.zero _ _, Below.refl _ _⟩
      · obtain rfl : k = 1 := by omega
        go_wp2
        go_round
        case rel => exact ⟨0, by omega, rfl⟩
        case measure => simp [intOf]
  · have d : ((n : Int) == 0) = false := by rw [beq_eq_false_iff_ne]; omega
    have d' : (n == 0) = false := by rw [beq_eq_false_iff_ne]; omega
    have HP := Lib.hid (Nat.pos_of_ne_zero h0)
    have HC := Lib.hid hc
    clear h0
    go_enter Tryz.func46, Tryz.ntmps46
    go_wp2
    go_loop [3] (fun i => i = .int .i64 1) (fun _ => 0)
    case atStart => rfl
    case round =>
      obtain rfl := hrel
      go_wp2
      go_ret
      exact ⟨_, 1, c, rfl, .inr ⟨rfl, HP.out, HN.out, b, o, rfl, HB.out, HC.out⟩, Below.refl _ _⟩
theorem rtrim_zero (a : Option Addr) (c : Nat) (w : World) : Calls Tryz.prog 46 #[.slice a 0 c] w (SmPost 0 w) := by
  go_enter Tryz.func46, Tryz.ntmps46
  go_wp2
  go_loop [3] (fun i => i = .int .i64 0) (fun _ => 0)
  case atStart => rfl
  case round =>
    obtain rfl := hrel
    go_wp2
    go_ret
    exact ⟨_, 0, _, rfl, Sm.zero _ _, Below.refl _ _⟩
theorem rorder_c (a1 a2 : Option Addr) (c1 c2 k1 k2 n1 n2 : Nat) (w : World) (h1 : Sm w a1 k1 n1) (h2 : Sm w a2 k2 n2) :
    Calls Tryz.prog 33 #[.slice a1 k1 c1, .slice a2 k2 c2] w fun e w' => e = .returned (.int .i64 (sgn n1 n2)) ∧ ∃ q, w' = w.drewN q := by
  rcases h1 with ⟨rfl, rfl⟩ | ⟨rfl, p1, m1, b1, o1, rfl, _, g1⟩
  · rcases h2 with ⟨rfl, rfl⟩ | ⟨rfl, p2, m2, b2, o2, rfl, _, g2⟩
    · go_enter Tryz.func33, Tryz.ntmps33
      go_wp2
      go_loop [5] (fun i => i = .int .i64 (-1)) (fun _ => 0)
      case atStart => rfl
      case round =>
        obtain rfl := hrel
        go_wp2
        go_ret
        exact ⟨rfl, 0, rfl⟩
    · have e : sgn 0 n2 = -1 := by unfold sgn; rw [if_pos p2]
      rw [e]
      clear e
      go_enter Tryz.func33, Tryz.ntmps33
      go_wp2
      go_ret
      exact ⟨rfl, 0, rfl⟩
  · rcases h2 with ⟨rfl, rfl⟩ | ⟨rfl, p2, m2, b2, o2, rfl, _, g2⟩
    · have e : sgn n1 0 = 1 := by unfold sgn; rw [if_neg (by omega), if_pos p1]
      rw [e]
      clear e
      go_enter Tryz.func33, Tryz.ntmps33
      go_wp2
      go_ret
      exact ⟨rfl, 0, rfl⟩
    · rcases Nat.lt_trichotomy n1 n2 with h | h | h
      · have e : sgn n1 n2 = -1 := by unfold sgn; rw [if_pos h]
        have h2 : (n1 : Int) < (n2 : Int) := by omega
        have hb : ((n1 : Int) == (n2 : Int)) = false := by simp; omega
        have hb' : (n1 == n2) = false := by simp; omega
        rw [e]
        clear e m1 m2 p1 p2 h
        go_enter Tryz.func33, Tryz.ntmps33
        go_wp2
        go_loop [5] (fun i => i = .int .i64 0) (fun _ => 0)
        case atStart => rfl
        case round =>
          obtain rfl := hrel
          go_wp2
          go_quiet (fail)
          go_wp2
          go_quiet (fail)
          go_wp2
          go_ret
          exact ⟨rfl, _, drewN_drewN _ _ _⟩
      · subst h
        have e : sgn n1 n1 = 0 := by unfold sgn; rw [if_neg (by omega), if_neg (by omega)]
        rw [e]
        clear e m1 m2 p1 p2
        go_enter Tryz.func33, Tryz.ntmps33
        go_wp2
        go_loopw [5] (fun i wr => (i = .int .i64 0 ∧ wr = w) ∨ (i = .int .i64 (-1) ∧ ∃ q, wr = w.drewN q)) (fun i _ => (intOf i + 1).toNat)
        case atStart => exact .inl ⟨rfl, rfl⟩
        case round =>
          rcases hrel with ⟨rfl, rfl⟩ | ⟨rfl, hq⟩
          · go_wp2
            go_quiet (fail)
            go_wp2
            go_roundw
            case rel => exact .inr ⟨rfl, _, rfl⟩
            case measure => simp [intOf]
          · have HQ := Lib.hid hq
            clear hq
            go_wp2
            go_ret
            exact ⟨rfl, HQ.out⟩
      · have e : sgn n1 n2 = 1 := by unfold sgn; rw [if_neg (by omega), if_pos h]
        have h2 : ¬ (n1 : Int) < (n2 : Int) := by omega
        have hb : ((n1 : Int) == (n2 : Int)) = false := by simp; omega
        have hb' : (n1 == n2) = false := by simp; omega
        rw [e]
        clear e m1 m2 p1 p2 h
        go_enter Tryz.func33, Tryz.ntmps33
        go_wp2
        go_loop [5] (fun i => i = .int .i64 0) (fun _ => 0)
        case atStart => rfl
        case round =>
          obtain rfl := hrel
          go_wp2
          go_quiet (fail)
          go_wp2
          go_quiet (fail)
          go_wp2
          go_ret
          exact ⟨rfl, _, drewN_drewN _ _ _⟩
/-- A number of one digit, divided: the quotient's digits and the rest. -/
def ShPost (q r : Nat) (w : World) (e : Ending) (w' : World) : Prop := ∃ a k c, e = .returned (.tuple #[.slice a k c, .int .i64 r]) ∧ Sm w' a k q ∧ Below w.heap.size w w'
theorem rshort_zero (a : Option Addr) (c d : Nat) (w : World) (hd : 0 < d) :
    Calls Tryz.prog 52 #[.slice a 0 c, .int .i64 d] w (ShPost (0 / d) (0 % d) w) := by
  have hmk := run_make_row' (P := Tryz.prog) 43 3 (.int .i64 0) 8 Tryz.underlying43 infoI rfl .i64 .i64 0 (by omega) (by omega)
  have hmk' : ∀ w : World, (Instr.makeSlice 43 (.int .i64 0) (.int .i64 0)).run Tryz.prog w = .ok (.slice (some ⟨w.heap.size, 0, none⟩) 0 0) (w.alloc (.cells (madeCells #[.int .i64 0] 0) 3)) := fun w => by simpa using hmk w
  clear hmk hd
  go_enter Tryz.func52, Tryz.ntmps52
  go_wp2_with fail
  have hB := Lib.hid (show Below w.heap.size w (w.alloc (.cells (madeCells #[.int .i64 0] 0) 3)) from (Below.refl _ _).alloc (Nat.le_refl _) _)
  generalize w.alloc (.cells (madeCells #[.int .i64 0] 0) 3) = w1 at hB
  clear hmk'
  go_loop [7, 8] (fun r i => r = .int .i64 0 ∧ i = .int .i64 (-1)) (fun _ _ => 0)
  case atStart => exact ⟨rfl, rfl⟩
  case round =>
    obtain ⟨rfl, rfl⟩ := hrel
    go_wp2_with fail
    refine (rtrim_zero _ _ _).mono ?_
    rintro e w2 ⟨a2, k2, c2, rfl, hl, b2⟩
    have HL := Lib.hid hl
    have HB := Lib.hid (hB.out.trans (b2.mono hB.out.size))
    clear hl b2
    go_wp2
    go_ret2
    exact ⟨a2, k2, c2, by simp, by simpa using HL.out, HB.out⟩
set_option maxRecDepth 100000 in
set_option maxHeartbeats 1000000 in
theorem rshort_c (a : Option Addr) (k c n d : Nat) (w : World) (h : Sm w a k n) (hd : 0 < d) :
    Calls Tryz.prog 52 #[.slice a k c, .int .i64 d] w (ShPost (n / d) (n % d) w) := by
  rcases h with ⟨rfl, rfl⟩ | ⟨rfl, p1, m1, b1, o1, rfl, hb, g1⟩
  · exact rshort_zero a c d w hd
  · have hmk := run_make_row' (P := Tryz.prog) 43 3 (.int .i64 0) 8 Tryz.underlying43 infoI rfl .i64 .i64 1 (by omega) (by omega)
    have hmk' : ∀ w : World, (Instr.makeSlice 43 (.int .i64 1) (.int .i64 1)).run Tryz.prog w = .ok (.slice (some ⟨w.heap.size, 0, none⟩) 1 1) (w.alloc (.cells (madeCells #[.int .i64 0] 1) 3)) := fun w => by simpa using hmk w
    clear hmk
    have hn9 : Hid (n / d < 1000000000) := Nat.lt_of_le_of_lt (Nat.div_le_self n d) m1
    have hq : (n : Int).tdiv (d : Int) = ((n / d : Nat) : Int) := by rw [Int.tdiv_eq_ediv_of_nonneg (by omega)]; exact (Int.natCast_ediv n d).symm
    have hr : (n : Int).tmod (d : Int) = ((n % d : Nat) : Int) := by rw [Int.tmod_eq_emod_of_nonneg (by omega)]; exact (Int.natCast_emod n d).symm
    have hd' : (0 : Int) < (d : Int) := by omega
    have hm1 : (n : Int) < 1000000000 := by omega
    have HQ : Hid (n / d = n / d) := rfl
    have hqle : n / d ≤ n := Nat.div_le_self n d
    generalize hqq : n / d = q at *
    generalize hrr : n % d = r at *
    clear hqq hrr HQ
    go_enter Tryz.func52, Tryz.ntmps52
    go_wp2_with fail
    have hB := Lib.hid (show Below w.heap.size w (w.alloc (.cells (madeCells #[.int .i64 0] 1) 3)) from (Below.refl _ _).alloc (Nat.le_refl _) _)
    have hC : Hid ((w.alloc (.cells (madeCells #[.int .i64 0] 1) 3)).cell? ⟨w.heap.size, 0, none⟩ = some (.int .i64 0)) := by
      unfold Hid; rw [World.cell?_alloc_new]; rw [← Array.getElem?_toList, toList_madeCells_one]; simp
    have hF : Hid ((w.alloc (.cells (madeCells #[.int .i64 0] 1) 3)).frozen? ⟨w.heap.size, 0, none⟩ = false) := by unfold Hid; simp
    have hS : Hid (w.heap.size < (w.alloc (.cells (madeCells #[.int .i64 0] 1) 3)).heap.size) := by unfold Hid; simp
    have hg : Hid ((w.alloc (.cells (madeCells #[.int .i64 0] 1) 3)).cell? ⟨b1, o1, none⟩ = some (.int .i64 n)) := by unfold Hid; rw [World.cell?_alloc_lt _ _ _ hb]; exact g1
    generalize w.alloc (.cells (madeCells #[.int .i64 0] 1) 3) = w1 at *
    clear hmk' g1 hb
    go_loopw [7, 8] (fun x i wr => (x = .int .i64 0 ∧ i = .int .i64 0 ∧ Hid (wr = w1)) ∨ (x = .int .i64 r ∧ i = .int .i64 (-1) ∧ Hid (wr = w1.setCell ⟨w.heap.size, 0, none⟩ (.int .i64 q)))) (fun _ i _ => (intOf i + 1).toNat)
    case atStart => exact .inl ⟨rfl, rfl, rfl⟩
    case round =>
      rcases hrel with ⟨rfl, rfl, hw⟩ | ⟨rfl, rfl, hw⟩
      · have c1 : wr.cell? ⟨w.heap.size, 0, none⟩ = some (.int .i64 0) := by rw [hw.out]; exact hC.out
        have c2 : wr.cell? ⟨b1, o1, none⟩ = some (.int .i64 n) := by rw [hw.out]; exact hg.out
        have c3 : wr.frozen? ⟨w.heap.size, 0, none⟩ = false := by rw [hw.out]; exact hF.out
        go_wp2
        go_roundw
        case rel => exact .inr ⟨by first | rfl | simp, rfl, by rw [hw.out]; rfl⟩
        case measure => simp [intOf]
      · have hb2 : Hid (Below w.heap.size w wr) := by unfold Hid; rw [hw.out]; exact hB.out.setCell (p := ⟨w.heap.size, 0, none⟩) (Nat.le_refl _) _
        have hc2 : wr.cell? ⟨w.heap.size, 0, none⟩ = some (.int .i64 q) := by
          rw [hw.out]; exact World.cell?_setCell_same _ _ _ hC.out
        have hs2 : Hid (w.heap.size < wr.heap.size) := by unfold Hid; rw [hw.out]; simpa using hS.out
        have HC2 := Lib.hid hc2
        clear hc2 hw
        go_wp2_with fail
        refine (rtrim_c w.heap.size 0 1 q wr (Nat.le_refl _) (by omega) hn9.out hs2.out HC2.out).mono ?_
        rintro e w2 ⟨a2, k2, c2, rfl, hl, b2⟩
        have HL := Lib.hid hl
        have HB := Lib.hid (hb2.out.trans (b2.mono hb2.out.size))
        clear hl b2
        go_wp2
        go_ret2
        exact ⟨a2, k2, c2, rfl, HL.out, HB.out⟩
end Go.Proofs.YtfldlcnlijljcaaGreatDoor
