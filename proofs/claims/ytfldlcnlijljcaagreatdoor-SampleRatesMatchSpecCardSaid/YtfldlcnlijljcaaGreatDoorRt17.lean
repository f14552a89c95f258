/-
  Rates of the reference: some case is eligible or not eligible.
  Rates of the reference.
  SampleRatesMatchSpec: the walk of the law.
  An argument of the type []int, opened: the list that it reads as.
-/
import Derived.Test.YtfldlcnlijljcaaGreatDoorRt16
import Derived.Test.YtfldlcnlijljcaaGreatDoorRt13
import Derived.Test.YtfldlcnlijljcaaGreatDoorRt12
import Derived.ProofKit
import Derived.OpenShut
import Derived.ShutString
import Derived.ChangeOld
import Derived.Below
import Derived.Lib.SmallJoins
namespace Go.Proofs.YtfldlcnlijljcaaGreatDoor
open Go.RowKit

set_option maxRecDepth 100000 in
set_option maxHeartbeats 8000000 in
theorem RRates_p (a : Option Addr) (c : Nat) (l : List Int) (w : World) (h : Rd w a l) (hE : Pow w) (hk0 : KN l ≠ 0) : Calls Tryz.prog 13 #[.slice a l.length c] w (RtsPost l w) := by
  have h9 := h.1
  have HPW := Lib.hid hE
  clear hE
  by_cases hn : l.length ≤ 5000
  · obtain ⟨W0, hW0⟩ : ∃ W0, mk0 w = W0 := ⟨_, rfl⟩
    have H0 := Lib.hid (mk0_lp w l)
    rw [hW0] at H0
    unfold mk0 at hW0
    have H := Lib.hid h
    have HN := Lib.hid hn
    clear h
    go_enter Tryz.func13, Tryz.ntmps13
    go_wp2_with fail
    clear hW0
    go_loopw [21] (fun i wr => ∃ k : Nat, k ≤ l.length ∧ i = .int .i64 k ∧ Hid (Lp w l k wr ∧ ∀ j, j < k → isOc (fn l j))) (fun i _ => l.length - (intOf i).toNat)
    case atStart => exact ⟨0, Nat.zero_le _, rfl, H0.out, fun j hj => by omega⟩
    case round =>
      obtain ⟨k, hk, rfl, hL⟩ := hrel
      by_cases hlt : k < l.length
      · have hlt' : (k : Int) < (l.length : Int) := by omega
        obtain ⟨b, off, rfl, hc⟩ := (H.out.below hL.out.1.bel).at_ hlt
        by_cases hx : isOc (fn l k)
        · have dx : decide (isOc (fn l k)) = true := decide_eq_true hx
          obtain ⟨m, hm⟩ : ∃ m : Nat, fn l k = (m : Nat) := ⟨(fn l k).toNat, by unfold isOc at hx; omega⟩
          have hm8 : m < 8 := by unfold isOc at hx; omega
          have hm8' : (m : Int) < 8 := by omega
          have NX := Lib.hid (hL.out.1.next hm8 hm)
          obtain ⟨q1, q2⟩ := hL.out.1.tl m hm8
          have hcc := cn_le (fn l) (m : Nat) k
          rw [hm] at hc dx
          have HO := Lib.hid (show ∀ j, j < k + 1 → isOc (fn l j) from fun j hj => by rcases Nat.lt_succ_iff_lt_or_eq.1 hj with e | e; exact hL.out.2 j e; rw [e]; exact hx)
          clear hx hm
          generalize cn (fn l) (m : Nat) k = cc at q1 NX hcc
          have hcc' : (cc : Int) ≤ 5000 := by omega
          go_wp2_with (go_at_call 15; refine (withinOc_c _ _).mono ?_; rw [dx]; rintro e w' ⟨rfl, rfl⟩)
          go_roundw
          case rel => exact ⟨k + 1, by omega, by go_num, NX.out, HO.out⟩
          case measure => simp [intOf]; omega
        · have dx : decide (isOc (fn l k)) = false := decide_eq_false hx
          have E1 : Hid (ratesV l = _) := ratesV_no (fun h => hx (h.2 k hlt))
          have E2 := Lib.hid (rf_kind HN.out (fun h => hx (h k hlt)))
          have FIN := Lib.hid (set14_fin hL.out.1.box hL.out.1.bel (Nat.le_refl _) (.string ⟨#[]⟩) (.string ⟨#[]⟩) (.string ⟨#[]⟩) (.string ⟨#[]⟩) (.string ⟨#[]⟩) (.string ⟨#[]⟩) (.string ⟨#[]⟩) (.string ⟨#[]⟩) (.string ⟨#[]⟩) (.string ⟨#[]⟩) (.string ⟨#[]⟩) (.string ⟨#[]⟩) (.string ⟨#[]⟩) (.string ⟨#[]⟩))
          have R := hL.out.1.box.all
          clear hx
          go_wp2_with (go_at_call 15; refine (withinOc_c _ _).mono ?_; rw [dx]; rintro e w' ⟨rfl, rfl⟩)
          clear R
          obtain ⟨e0, e1, e2, e3, e4, e5, e6, e7, e8, e9, e10, e11, e12, e13, hB⟩ := FIN.out
          unfold set14 at *
          exact bodyPost_ret (v := .tuple #[.agg #[.string ⟨#[]⟩, .string ⟨#[]⟩, .string ⟨#[]⟩, .string ⟨#[]⟩, .string ⟨#[]⟩, .string ⟨#[]⟩, .string ⟨#[]⟩, .string ⟨#[]⟩, .string ⟨#[]⟩, .string ⟨#[]⟩, .string ⟨#[]⟩, .string ⟨#[]⟩, .string ⟨#[]⟩, .string ⟨#[]⟩], .int .i64 4]) (by simp [results, Tryz.results13, go_sem, e0, e1, e2, e3, e4, e5, e6, e7, e8, e9, e10, e11, e12, e13]) rfl ⟨by rw [E1.out, E2.out], hB⟩
      · obtain rfl : k = l.length := by omega
        have hok : l.length ≤ 5000 ∧ okL l := ⟨hn, hL.out.2⟩
        have E1 : Hid (ratesV l = _) := ratesV_ok hok
        have E2 := Lib.hid (rf_ok hn hok.2)
        obtain ⟨bk, bp, bq, be⟩ := bounds hn
        have T : ∀ j : Nat, j < 8 → wr.cell? ⟨w.heap.size + 1, j, none⟩ = some (.int .i64 (C l (j : Nat) : Nat)) := fun j hj => (hL.out.1.tl j hj).1
        have t1 : wr.cell? ⟨w.heap.size + 1, 1, none⟩ = some (.int .i64 (C l 1 : Nat)) := T 1 (by decide)
        have t2 : wr.cell? ⟨w.heap.size + 1, 2, none⟩ = some (.int .i64 (C l 2 : Nat)) := T 2 (by decide)
        have t3 : wr.cell? ⟨w.heap.size + 1, 3, none⟩ = some (.int .i64 (C l 3 : Nat)) := T 3 (by decide)
        have t4 : wr.cell? ⟨w.heap.size + 1, 4, none⟩ = some (.int .i64 (C l 4 : Nat)) := T 4 (by decide)
        have t5 : wr.cell? ⟨w.heap.size + 1, 5, none⟩ = some (.int .i64 (C l 5 : Nat)) := T 5 (by decide)
        have t6 : wr.cell? ⟨w.heap.size + 1, 6, none⟩ = some (.int .i64 (C l 6 : Nat)) := T 6 (by decide)
        have t7 : wr.cell? ⟨w.heap.size + 1, 7, none⟩ = some (.int .i64 (C l 7 : Nat)) := T 7 (by decide)
        clear T hok hlt
        have hIV : IV l = C l 1 + C l 3 := rfl
        have hRA : RA l = IV l + C l 4 := rfl
        have hRE : RE l = RA l + C l 5 := rfl
        have hEL : EL l = RE l + C l 6 := rfl
        have hKN : KN l = EL l + C l 2 := rfl
        have hAL : AL l = EL l + C l 7 := rfl
        have hKU : KU l = KN l + C l 7 := rfl
        have iP1 : (C l 1 : Int) * (KN l : Int) = (P1 l : Int) := (Int.natCast_mul _ _).symm
        have iQ : (EL l : Int) * (KU l : Int) = (Q l : Int) := (Int.natCast_mul _ _).symm
        have iEU : (EL l : Int) * (C l 7 : Int) = (EU l : Int) := (Int.natCast_mul _ _).symm
        have dP1 : Hid (C l 1 * KN l = P1 l) := rfl
        have dQ : Hid (EL l * KU l = Q l) := rfl
        have dEU : Hid (EL l * C l 7 = EU l) := rfl
        generalize C l 1 = c1 at *
        generalize C l 2 = c2 at *
        generalize C l 3 = c3 at *
        generalize C l 4 = c4 at *
        generalize C l 5 = c5 at *
        generalize C l 6 = c6 at *
        generalize C l 7 = c7 at *
        generalize IV l = iv at *
        generalize RA l = ra at *
        generalize RE l = re at *
        generalize EL l = el at *
        generalize KN l = kn at *
        generalize AL l = al at *
        generalize P1 l = p1 at *
        generalize KU l = ku at *
        generalize Q l = q at *
        generalize EU l = eu at *
        have B1 : Hid (c1 < 1000000000) := by unfold Hid; omega
        have B2 : Hid (iv < 1000000000) := by unfold Hid; omega
        have B3 : Hid (p1 < 1000000000) := by unfold Hid; omega
        have B4 : Hid (c4 < 1000000000) := by unfold Hid; omega
        have B5 : Hid (re < 1000000000) := by unfold Hid; omega
        have B6 : Hid (al < 1000000000) := by unfold Hid; omega
        have B7 : Hid (q < 1000000000) := by unfold Hid; omega
        have B8 : Hid (el < 1000000000) := by unfold Hid; omega
        have iIV : (c1 : Int) + (c3 : Int) = (iv : Int) := by omega
        have iRA : (iv : Int) + (c4 : Int) = (ra : Int) := by omega
        have iRE : (ra : Int) + (c5 : Int) = (re : Int) := by omega
        have iEL : (re : Int) + (c6 : Int) = (el : Int) := by omega
        have iKN : (el : Int) + (c2 : Int) = (kn : Int) := by omega
        have iAL : (el : Int) + (c7 : Int) = (al : Int) := by omega
        have iKU : (kn : Int) + (c7 : Int) = (ku : Int) := by omega
        have bIV : (iv : Int) ≤ 5000 := by omega
        have bRA : (ra : Int) ≤ 5000 := by omega
        have bRE : (re : Int) ≤ 5000 := by omega
        have bEL : (el : Int) ≤ 5000 := by omega
        have bKN : (kn : Int) ≤ 5000 := by omega
        have bAL : (al : Int) ≤ 5000 := by omega
        have bKU : (ku : Int) ≤ 5000 := by omega
        have bP1 : (p1 : Int) ≤ 25000000 := by omega
        have bQ : (q : Int) ≤ 25000000 := by omega
        have bEU : (eu : Int) ≤ 25000000 := by omega
        have B9 : Hid (eu < 1000000000) := by unfold Hid; omega
        have B10 : Hid (kn < 1000000000) := by unfold Hid; omega
        have gKU : Hid (ku = kn + c7) := hKU
        have gLE : Hid (el ≤ kn) := by unfold Hid; omega
        clear hIV hRA hRE hEL hKN hAL hKU bk bp bq be
        have vIV : IntKind.i64.wrap (iv : Int) = iv := by rw [IntKind.wrap_i64]; omega
        have vRA : IntKind.i64.wrap (ra : Int) = ra := by rw [IntKind.wrap_i64]; omega
        have vRE : IntKind.i64.wrap (re : Int) = re := by rw [IntKind.wrap_i64]; omega
        have vKN : IntKind.i64.wrap (kn : Int) = kn := by rw [IntKind.wrap_i64]; omega
        have vEU : IntKind.i64.wrap (eu : Int) = eu := by rw [IntKind.wrap_i64]; omega
        go_wp2_with fail
        go_quiet (fail)
        go_wp2_with fail
        generalize hw1 : wr.drewN _ = W1
        have HL := Lib.hid (show Lp w l l.length W1 by rw [← hw1]; exact hL.out.1.keep (below_drewN (Below.refl _ _) _))
        have HT := Lib.hid (show Sq w.heap.size c2 c7 W1 by rw [← hw1]; exact ⟨t2, t7⟩)
        clear hw1 t1 t2 t3 t4 t5 t6 t7 hL
        refine (Whole_c el W1 B8.out).mono ?_
        rintro e W2 ⟨ae, ke, ce, be, me, de, rfl, l1, l2, bc⟩
        have HL2 := Lib.hid (HL.out.keep bc)
        have HT2 := Lib.hid (HT.out.keep bc (by have := HL.out.size; omega))
        have L1 := Lib.hid l1
        have L2 := Lib.hid l2
        clear HL HT l1 l2 bc
        obtain ⟨W3, hW3⟩ : ∃ W3, W2.alloc (.cells #[.bool false, .slice ae ke ce, .slice be me de] 45) = W3 := ⟨_, rfl⟩
        have HF : Hid (Rf w l W2.heap.size ae ke ce be me de el 1 W3) := by
          unfold Hid
          rw [← hW3]
          exact ⟨HL2.out.keep (bel_one' _ _), ⟨by rw [World.cell?_alloc_at _ _ _ _ rfl]; rfl, by rw [World.cell?_alloc_at _ _ _ _ rfl]; rfl, by rw [World.cell?_alloc_at _ _ _ _ rfl]; rfl⟩, ⟨by simp, by simp, by simp⟩, HL2.out.size, by simp, L1.out.below (bel_one' _ _), L2.out.below (bel_one' _ _)⟩
        have hQ : Sq w.heap.size c2 c7 W3 := by rw [← hW3]; exact HT2.out.keep (bel_one' _ _) (by have := HL2.out.size; omega)
        have HQ := Lib.hid hQ
        unfold Sq at hQ
        clear HL2 HT2 L1 L2
        have pk : (0 : Int) < (kn : Int) := by omega
        have ek : (0 : Nat) < kn := Nat.pos_of_ne_zero hk0
        clear hk0
        have EN : Hid (rtN (c1 * (1 * kn)) (el * kn + eu * 1) = rtN p1 q) := by unfold Hid; rw [Nat.one_mul, Nat.mul_one, dP1.out, ← dEU.out, ← dQ.out, gKU.out, Nat.mul_add]
        have ED : Hid (rtD (c1 * (1 * kn)) (el * kn + eu * 1) = rtD p1 q) := by unfold Hid; rw [Nat.one_mul, Nat.mul_one, dP1.out, ← dEU.out, ← dQ.out, gKU.out, Nat.mul_add]
        have BD : Hid (c1 * (1 * kn) < 1000000000) := by unfold Hid; rw [Nat.one_mul, dP1.out]; omega
        have Q0 : el * kn ≤ 25000000 := Nat.le_trans (Nat.mul_le_mul (show el ≤ 5000 by omega) (show kn ≤ 5000 by omega)) (by decide)
        have Q1 : Hid (el * kn < 1000000000) := by unfold Hid; omega
        have Q2 : Hid (eu * 1 < 1000000000) := by unfold Hid; omega
        have Q3 : Hid (1 * kn < 1000000000) := by unfold Hid; omega
        have Q4 : Hid (el * kn + eu * 1 < 1000000000) := by unfold Hid; omega
        clear ek Q0
        go_wp2_with fail
        clear hW3 hQ
        generalize W2.heap.size = x at *
        have HD := Lib.hid (HF.out.keep (Below.refl _ _).drew)
        have hS := HQ.out.keep (Below.refl _ _).drew (by have := HF.out.lp.size; omega)
        clear HF HQ
        refine wp_region_noPanic ?_
        refine wp_region_held_drew (S := Sq w.heap.size c2 c7) (by kernel_rfl) hS (fun hHeld => ?_)
        clear hHeld
        generalize W3.drew = WD at HD hS ⊢
        refine wpAnyH_take (i := 1) (v := ?v1z54) rfl (by kernel_rfl) (by kernel_rfl) (by kernel_rfl) (fun _ _ _ h => h) (Or.inl ⟨by rfl, ?hy1z54⟩) (by assumption) ?rest1z54
        case hy1z54 =>
          intro w hSw
          dsimp only [Sq] at hSw
          go_simp
          try with_reducible rfl
        simp only [Act.put, List.getElem_toArray, List.getElem_cons_succ, List.getElem_cons_zero, List.setIfInBounds_toArray, List.set_cons_zero, List.set_cons_succ]
        refine wpAnyH_take (i := 2) (v := ?v2z55) rfl (by kernel_rfl) (by kernel_rfl) (by kernel_rfl) (fun _ _ _ h => h) (Or.inl ⟨by rfl, ?hy2z55⟩) (by assumption) ?rest2z55
        case hy2z55 =>
          intro w hSw
          dsimp only [Sq] at hSw
          go_simp
          try with_reducible rfl
        simp only [Act.put, List.getElem_toArray, List.getElem_cons_succ, List.getElem_cons_zero, List.setIfInBounds_toArray, List.set_cons_zero, List.set_cons_succ]
        refine wpAnyH_take (i := 3) (v := ?v3z56) rfl (by kernel_rfl) (by kernel_rfl) (by kernel_rfl) (fun _ _ _ h => h) (Or.inl ⟨by rfl, ?hy3z56⟩) (by assumption) ?rest3z56
        case hy3z56 =>
          intro w hSw
          dsimp only [Sq] at hSw
          go_simp
          try with_reducible rfl
        simp only [Act.put, List.getElem_toArray, List.getElem_cons_succ, List.getElem_cons_zero, List.setIfInBounds_toArray, List.set_cons_zero, List.set_cons_succ]
        refine wpAnyH_take (i := 4) (v := ?v4z57) rfl (by kernel_rfl) (by kernel_rfl) (by kernel_rfl) (fun _ _ _ h => h) (Or.inl ⟨by rfl, ?hy4z57⟩) (by assumption) ?rest4z57
        case hy4z57 =>
          intro w hSw
          dsimp only [Sq] at hSw
          go_simp
          try with_reducible rfl
        simp only [Act.put, List.getElem_toArray, List.getElem_cons_succ, List.getElem_cons_zero, List.setIfInBounds_toArray, List.set_cons_zero, List.set_cons_succ]
        refine wpAnyH_take (i := 5) (v := ?v5z58) rfl (by kernel_rfl) (by kernel_rfl) (by kernel_rfl) (fun _ _ _ h => h) (Or.inl ⟨by rfl, ?hy5z58⟩) (by assumption) ?rest5z58
        case hy5z58 =>
          intro w hSw
          dsimp only [Sq] at hSw
          go_simp
          try with_reducible rfl
        simp only [Act.put, List.getElem_toArray, List.getElem_cons_succ, List.getElem_cons_zero, List.setIfInBounds_toArray, List.set_cons_zero, List.set_cons_succ]
        refine wpAnyH_take (i := 6) (v := ?v6z59) rfl (by kernel_rfl) (by kernel_rfl) (by kernel_rfl) (fun _ _ _ h => h) (Or.inl ⟨by rfl, ?hy6z59⟩) (by assumption) ?rest6z59
        case hy6z59 =>
          intro w hSw
          dsimp only [Sq] at hSw
          go_simp
          try with_reducible rfl
        simp only [Act.put, List.getElem_toArray, List.getElem_cons_succ, List.getElem_cons_zero, List.setIfInBounds_toArray, List.set_cons_zero, List.set_cons_succ]
        refine wpAnyH_take (i := 7) (v := ?v7z60) rfl (by kernel_rfl) (by kernel_rfl) (by kernel_rfl) (fun _ _ _ h => h) (Or.inl ⟨by rfl, ?hy7z60⟩) (by assumption) ?rest7z60
        case hy7z60 =>
          intro w hSw
          dsimp only [Sq] at hSw
          go_simp
          try with_reducible rfl
        simp only [Act.put, List.getElem_toArray, List.getElem_cons_succ, List.getElem_cons_zero, List.setIfInBounds_toArray, List.set_cons_zero, List.set_cons_succ]
        refine wpAnyH_take (i := 8) (v := ?v8z61) rfl (by kernel_rfl) (by kernel_rfl) (by kernel_rfl) (fun _ _ _ h => h) (Or.inl ⟨by rfl, ?hy8z61⟩) (by assumption) ?rest8z61
        case hy8z61 =>
          intro w hSw
          dsimp only [Sq] at hSw
          go_simp
          try with_reducible rfl
        simp only [Act.put, List.getElem_toArray, List.getElem_cons_succ, List.getElem_cons_zero, List.setIfInBounds_toArray, List.set_cons_zero, List.set_cons_succ]
        refine wpAnyH_ready (rs := [0, 9]) (by kernel_rfl) (by simp) ?_
        refine AllReadyH.cons rfl (fun K hK => ?_) (AllReadyH.cons rfl (fun K hK => ?_) AllReadyH.nil)
        · have e := HD.out.est
          dsimp only [Eb] at e
          go_simp
          clear e
          refine hK.out _ _ hS (fun _ => ?_)
          clear hK K
          try simp only [Act.put, List.setIfInBounds_toArray, List.set_cons_zero, List.set_cons_succ]
          refine wpAnyH_ready (rs := [9]) (by kernel_rfl) (by simp) ?_
          refine AllReadyH.cons rfl (fun K hK => ?_) AllReadyH.nil
          go_simp
          refine (Part_c eu kn _ B9.out B10.out).mono ?_
          rintro e wp ⟨ap, kp, cp, bp, mp, dp, rfl, lp, lq, bc⟩
          try go_simp
          have HE := Lib.hid (HD.out.keep bc)
          have LP := Lib.hid lp
          have LQ := Lib.hid lq
          have hT := hS.keep bc (by have := HD.out.lp.size; omega)
          refine hK.out _ _ hT (fun _ => ?_)
          clear hK K hS bc HD lp lq
          have HD := HE
          have hS := hT
          clear HE hT
          try simp only [Act.put, List.setIfInBounds_toArray, List.set_cons_zero, List.set_cons_succ]
          refine wpAnyH_ready (rs := [10]) (by kernel_rfl) (by simp) ?_
          refine AllReadyH.cons rfl (fun K hK => ?_) AllReadyH.nil
          go_simp
          refine (RPlus_c ae be ap bp ce de cp dp ke me kp mp el 1 eu kn _ HD.out.s1 HD.out.s2 LP.out LQ.out Q1.out Q2.out Q3.out Q4.out).mono ?_
          rintro e wq ⟨ar, kr, cr, br, mr, dr, rfl, lp, lq, bc⟩
          try go_simp
          have HE := Lib.hid (HD.out.keep bc)
          have LR := Lib.hid lp
          have LS := Lib.hid lq
          have hT := hS.keep bc (by have := HD.out.lp.size; omega)
          refine hK.out _ _ hT (fun _ => ?_)
          clear hK K hS bc HD lp lq LP LQ
          have HD := HE
          have hS := hT
          clear HE hT
          try simp only [Act.put, List.setIfInBounds_toArray, List.set_cons_zero, List.set_cons_succ]
          refine wpAnyH_ready (rs := [11]) (by kernel_rfl) (by simp) ?_
          refine AllReadyH.cons rfl (fun K hK => ?_) AllReadyH.nil
          have e := HD.out.est
          dsimp only [Eb] at e
          have f := HD.out.fz
          have ne : w.heap.size + 1 ≠ x := by have := HD.out.lo; omega
          have hT : Sq w.heap.size c2 c7 (set3 wq x (.bool false) (.slice ar kr cr) (.slice br mr dr)) := ⟨(set3_other ne).trans hS.1, (set3_other ne).trans hS.2⟩
          have HG := Lib.hid (HD.out.stored (a' := ar) (k' := kr) (c' := cr) (b' := br) (m' := mr) (c2' := dr) LR.out LS.out)
          unfold set3 at hT HG
          clear ne
          go_simp
          clear e f
          refine hK.out _ _ hT (fun _ => ?_)
          clear hK K hS hT HD LR LS
          try simp only [Act.put, List.setIfInBounds_toArray, List.set_cons_zero, List.set_cons_succ]
          refine wpAnyH_done (by kernel_rfl) ?_ _
          refine NoPanic.normal ?_
          generalize World.setCell _ _ _ = WG at HG ⊢
          go_wp2_with fail
          have HF := HG
          clear HG
          have HD := Lib.hid (HF.out.keep (Below.refl _ _).drew)
          have hS := HD.out.est
          clear HF
          refine wp_region_noPanic ?_
          refine wp_region_held_drew (S := Eb x (.slice ar kr cr) (.slice br mr dr)) (by kernel_rfl) hS (fun hHeld => ?_)
          clear hHeld
          generalize WG.drew = WD at HD hS ⊢
          refine wpAnyH_take (i := 0) (v := ?v0z62) rfl (by kernel_rfl) (by kernel_rfl) (by kernel_rfl) (fun _ _ _ h => h) (Or.inl ⟨by rfl, ?hy0z62⟩) (by assumption) ?rest0z62
          case hy0z62 =>
            intro w hSw
            dsimp only [Eb] at hSw
            go_simp
            try with_reducible rfl
          simp only [Act.put, List.getElem_toArray, List.getElem_cons_succ, List.getElem_cons_zero, List.setIfInBounds_toArray, List.set_cons_zero, List.set_cons_succ]
          refine wpAnyH_take (i := 1) (v := ?v1z63) rfl (by kernel_rfl) (by kernel_rfl) (by kernel_rfl) (fun _ _ _ h => h) (Or.inl ⟨by rfl, ?hy1z63⟩) (by assumption) ?rest1z63
          case hy1z63 =>
            intro w hSw
            dsimp only [Eb] at hSw
            go_simp
            try with_reducible rfl
          simp only [Act.put, List.getElem_toArray, List.getElem_cons_succ, List.getElem_cons_zero, List.setIfInBounds_toArray, List.set_cons_zero, List.set_cons_succ]
          refine wpAnyH_take (i := 4) (v := ?v4z64) rfl (by kernel_rfl) (by kernel_rfl) (by kernel_rfl) (fun _ _ _ h => h) (Or.inl ⟨by rfl, ?hy4z64⟩) (by assumption) ?rest4z64
          case hy4z64 =>
            intro w hSw
            dsimp only [Eb] at hSw
            go_simp
            try with_reducible rfl
          simp only [Act.put, List.getElem_toArray, List.getElem_cons_succ, List.getElem_cons_zero, List.setIfInBounds_toArray, List.set_cons_zero, List.set_cons_succ]
          refine wpAnyH_take (i := 5) (v := ?v5z65) rfl (by kernel_rfl) (by kernel_rfl) (by kernel_rfl) (fun _ _ _ h => h) (Or.inl ⟨by rfl, ?hy5z65⟩) (by assumption) ?rest5z65
          case hy5z65 =>
            intro w hSw
            dsimp only [Eb] at hSw
            go_simp
            try with_reducible rfl
          simp only [Act.put, List.getElem_toArray, List.getElem_cons_succ, List.getElem_cons_zero, List.setIfInBounds_toArray, List.set_cons_zero, List.set_cons_succ]
          refine wpAnyH_take (i := 6) (v := ?v6z66) rfl (by kernel_rfl) (by kernel_rfl) (by kernel_rfl) (fun _ _ _ h => h) (Or.inl ⟨by rfl, ?hy6z66⟩) (by assumption) ?rest6z66
          case hy6z66 =>
            intro w hSw
            dsimp only [Eb] at hSw
            go_simp
            try with_reducible rfl
          simp only [Act.put, List.getElem_toArray, List.getElem_cons_succ, List.getElem_cons_zero, List.setIfInBounds_toArray, List.set_cons_zero, List.set_cons_succ]
          refine wpAnyH_take (i := 7) (v := ?v7z67) rfl (by kernel_rfl) (by kernel_rfl) (by kernel_rfl) (fun _ _ _ h => h) (Or.inl ⟨by rfl, ?hy7z67⟩) (by assumption) ?rest7z67
          case hy7z67 =>
            intro w hSw
            dsimp only [Eb] at hSw
            go_simp
            try with_reducible rfl
          simp only [Act.put, List.getElem_toArray, List.getElem_cons_succ, List.getElem_cons_zero, List.setIfInBounds_toArray, List.set_cons_zero, List.set_cons_succ]
          refine wpAnyH_take (i := 10) (v := ?v10z68) rfl (by kernel_rfl) (by kernel_rfl) (by kernel_rfl) (fun _ _ _ h => h) (Or.inl ⟨by rfl, ?hy10z68⟩) (by assumption) ?rest10z68
          case hy10z68 =>
            intro w hSw
            dsimp only [Eb] at hSw
            go_simp
            try with_reducible rfl
          simp only [Act.put, List.getElem_toArray, List.getElem_cons_succ, List.getElem_cons_zero, List.setIfInBounds_toArray, List.set_cons_zero, List.set_cons_succ]
          refine wpAnyH_take (i := 11) (v := ?v11z69) rfl (by kernel_rfl) (by kernel_rfl) (by kernel_rfl) (fun _ _ _ h => h) (Or.inl ⟨by rfl, ?hy11z69⟩) (by assumption) ?rest11z69
          case hy11z69 =>
            intro w hSw
            dsimp only [Eb] at hSw
            go_simp
            try with_reducible rfl
          simp only [Act.put, List.getElem_toArray, List.getElem_cons_succ, List.getElem_cons_zero, List.setIfInBounds_toArray, List.set_cons_zero, List.set_cons_succ]
          refine wpAnyH_take (i := 13) (v := ?v13z70) rfl (by kernel_rfl) (by kernel_rfl) (by kernel_rfl) (fun _ _ _ h => h) (Or.inl ⟨by rfl, ?hy13z70⟩) (by assumption) ?rest13z70
          case hy13z70 =>
            intro w hSw
            dsimp only [Eb] at hSw
            go_simp
            try with_reducible rfl
          simp only [Act.put, List.getElem_toArray, List.getElem_cons_succ, List.getElem_cons_zero, List.setIfInBounds_toArray, List.set_cons_zero, List.set_cons_succ]
          refine wpAnyH_take (i := 14) (v := ?v14z71) rfl (by kernel_rfl) (by kernel_rfl) (by kernel_rfl) (fun _ _ _ h => h) (Or.inl ⟨by rfl, ?hy14z71⟩) (by assumption) ?rest14z71
          case hy14z71 =>
            intro w hSw
            dsimp only [Eb] at hSw
            go_simp
            try with_reducible rfl
          simp only [Act.put, List.getElem_toArray, List.getElem_cons_succ, List.getElem_cons_zero, List.setIfInBounds_toArray, List.set_cons_zero, List.set_cons_succ]
          refine wpAnyH_take (i := 17) (v := ?v17z72) rfl (by kernel_rfl) (by kernel_rfl) (by kernel_rfl) (fun _ _ _ h => h) (Or.inl ⟨by rfl, ?hy17z72⟩) (by assumption) ?rest17z72
          case hy17z72 =>
            intro w hSw
            dsimp only [Eb] at hSw
            go_simp
            try with_reducible rfl
          simp only [Act.put, List.getElem_toArray, List.getElem_cons_succ, List.getElem_cons_zero, List.setIfInBounds_toArray, List.set_cons_zero, List.set_cons_succ]
          refine wpAnyH_take (i := 18) (v := ?v18z73) rfl (by kernel_rfl) (by kernel_rfl) (by kernel_rfl) (fun _ _ _ h => h) (Or.inl ⟨by rfl, ?hy18z73⟩) (by assumption) ?rest18z73
          case hy18z73 =>
            intro w hSw
            dsimp only [Eb] at hSw
            go_simp
            try with_reducible rfl
          simp only [Act.put, List.getElem_toArray, List.getElem_cons_succ, List.getElem_cons_zero, List.setIfInBounds_toArray, List.set_cons_zero, List.set_cons_succ]
          refine wpAnyH_take (i := 19) (v := ?v19z74) rfl (by kernel_rfl) (by kernel_rfl) (by kernel_rfl) (fun _ _ _ h => h) (Or.inl ⟨by rfl, ?hy19z74⟩) (by assumption) ?rest19z74
          case hy19z74 =>
            intro w hSw
            dsimp only [Eb] at hSw
            go_simp
            try with_reducible rfl
          simp only [Act.put, List.getElem_toArray, List.getElem_cons_succ, List.getElem_cons_zero, List.setIfInBounds_toArray, List.set_cons_zero, List.set_cons_succ]
          refine wpAnyH_take (i := 20) (v := ?v20z75) rfl (by kernel_rfl) (by kernel_rfl) (by kernel_rfl) (fun _ _ _ h => h) (Or.inl ⟨by rfl, ?hy20z75⟩) (by assumption) ?rest20z75
          case hy20z75 =>
            intro w hSw
            dsimp only [Eb] at hSw
            go_simp
            try with_reducible rfl
          simp only [Act.put, List.getElem_toArray, List.getElem_cons_succ, List.getElem_cons_zero, List.setIfInBounds_toArray, List.set_cons_zero, List.set_cons_succ]
          refine wpAnyH_take (i := 21) (v := ?v21z76) rfl (by kernel_rfl) (by kernel_rfl) (by kernel_rfl) (fun _ _ _ h => h) (Or.inl ⟨by rfl, ?hy21z76⟩) (by assumption) ?rest21z76
          case hy21z76 =>
            intro w hSw
            dsimp only [Eb] at hSw
            go_simp
            try with_reducible rfl
          simp only [Act.put, List.getElem_toArray, List.getElem_cons_succ, List.getElem_cons_zero, List.setIfInBounds_toArray, List.set_cons_zero, List.set_cons_succ]
          refine wpAnyH_take (i := 22) (v := ?v22z77) rfl (by kernel_rfl) (by kernel_rfl) (by kernel_rfl) (fun _ _ _ h => h) (Or.inl ⟨by rfl, ?hy22z77⟩) (by assumption) ?rest22z77
          case hy22z77 =>
            intro w hSw
            dsimp only [Eb] at hSw
            go_simp
            try with_reducible rfl
          simp only [Act.put, List.getElem_toArray, List.getElem_cons_succ, List.getElem_cons_zero, List.setIfInBounds_toArray, List.set_cons_zero, List.set_cons_succ]
          refine wpAnyH_take (i := 23) (v := ?v23z78) rfl (by kernel_rfl) (by kernel_rfl) (by kernel_rfl) (fun _ _ _ h => h) (Or.inl ⟨by rfl, ?hy23z78⟩) (by assumption) ?rest23z78
          case hy23z78 =>
            intro w hSw
            dsimp only [Eb] at hSw
            go_simp
            try with_reducible rfl
          simp only [Act.put, List.getElem_toArray, List.getElem_cons_succ, List.getElem_cons_zero, List.setIfInBounds_toArray, List.set_cons_zero, List.set_cons_succ]
          refine wpAnyH_take (i := 24) (v := ?v24z79) rfl (by kernel_rfl) (by kernel_rfl) (by kernel_rfl) (fun _ _ _ h => h) (Or.inl ⟨by rfl, ?hy24z79⟩) (by assumption) ?rest24z79
          case hy24z79 =>
            intro w hSw
            dsimp only [Eb] at hSw
            go_simp
            try with_reducible rfl
          simp only [Act.put, List.getElem_toArray, List.getElem_cons_succ, List.getElem_cons_zero, List.setIfInBounds_toArray, List.set_cons_zero, List.set_cons_succ]
          refine wpAnyH_take (i := 27) (v := ?v27z80) rfl (by kernel_rfl) (by kernel_rfl) (by kernel_rfl) (fun _ _ _ h => h) (Or.inl ⟨by rfl, ?hy27z80⟩) (by assumption) ?rest27z80
          case hy27z80 =>
            intro w hSw
            dsimp only [Eb] at hSw
            go_simp
            try with_reducible rfl
          simp only [Act.put, List.getElem_toArray, List.getElem_cons_succ, List.getElem_cons_zero, List.setIfInBounds_toArray, List.set_cons_zero, List.set_cons_succ]
          refine wpAnyH_take (i := 28) (v := ?v28z81) rfl (by kernel_rfl) (by kernel_rfl) (by kernel_rfl) (fun _ _ _ h => h) (Or.inl ⟨by rfl, ?hy28z81⟩) (by assumption) ?rest28z81
          case hy28z81 =>
            intro w hSw
            dsimp only [Eb] at hSw
            go_simp
            try with_reducible rfl
          simp only [Act.put, List.getElem_toArray, List.getElem_cons_succ, List.getElem_cons_zero, List.setIfInBounds_toArray, List.set_cons_zero, List.set_cons_succ]
          refine wpAnyH_take (i := 31) (v := ?v31z82) rfl (by kernel_rfl) (by kernel_rfl) (by kernel_rfl) (fun _ _ _ h => h) (Or.inl ⟨by rfl, ?hy31z82⟩) (by assumption) ?rest31z82
          case hy31z82 =>
            intro w hSw
            dsimp only [Eb] at hSw
            go_simp
            try with_reducible rfl
          simp only [Act.put, List.getElem_toArray, List.getElem_cons_succ, List.getElem_cons_zero, List.setIfInBounds_toArray, List.set_cons_zero, List.set_cons_succ]
          refine wpAnyH_take (i := 32) (v := ?v32z83) rfl (by kernel_rfl) (by kernel_rfl) (by kernel_rfl) (fun _ _ _ h => h) (Or.inl ⟨by rfl, ?hy32z83⟩) (by assumption) ?rest32z83
          case hy32z83 =>
            intro w hSw
            dsimp only [Eb] at hSw
            go_simp
            try with_reducible rfl
          simp only [Act.put, List.getElem_toArray, List.getElem_cons_succ, List.getElem_cons_zero, List.setIfInBounds_toArray, List.set_cons_zero, List.set_cons_succ]
          refine wpAnyH_take (i := 33) (v := ?v33z84) rfl (by kernel_rfl) (by kernel_rfl) (by kernel_rfl) (fun _ _ _ h => h) (Or.inl ⟨by rfl, ?hy33z84⟩) (by assumption) ?rest33z84
          case hy33z84 =>
            intro w hSw
            dsimp only [Eb] at hSw
            go_simp
            try with_reducible rfl
          simp only [Act.put, List.getElem_toArray, List.getElem_cons_succ, List.getElem_cons_zero, List.setIfInBounds_toArray, List.set_cons_zero, List.set_cons_succ]
          refine wpAnyH_take (i := 34) (v := ?v34z85) rfl (by kernel_rfl) (by kernel_rfl) (by kernel_rfl) (fun _ _ _ h => h) (Or.inl ⟨by rfl, ?hy34z85⟩) (by assumption) ?rest34z85
          case hy34z85 =>
            intro w hSw
            dsimp only [Eb] at hSw
            go_simp
            try with_reducible rfl
          simp only [Act.put, List.getElem_toArray, List.getElem_cons_succ, List.getElem_cons_zero, List.setIfInBounds_toArray, List.set_cons_zero, List.set_cons_succ]
          refine wpAnyH_take (i := 35) (v := ?v35z86) rfl (by kernel_rfl) (by kernel_rfl) (by kernel_rfl) (fun _ _ _ h => h) (Or.inl ⟨by rfl, ?hy35z86⟩) (by assumption) ?rest35z86
          case hy35z86 =>
            intro w hSw
            dsimp only [Eb] at hSw
            go_simp
            try with_reducible rfl
          simp only [Act.put, List.getElem_toArray, List.getElem_cons_succ, List.getElem_cons_zero, List.setIfInBounds_toArray, List.set_cons_zero, List.set_cons_succ]
          refine wpAnyH_take (i := 36) (v := ?v36z87) rfl (by kernel_rfl) (by kernel_rfl) (by kernel_rfl) (fun _ _ _ h => h) (Or.inl ⟨by rfl, ?hy36z87⟩) (by assumption) ?rest36z87
          case hy36z87 =>
            intro w hSw
            dsimp only [Eb] at hSw
            go_simp
            try with_reducible rfl
          simp only [Act.put, List.getElem_toArray, List.getElem_cons_succ, List.getElem_cons_zero, List.setIfInBounds_toArray, List.set_cons_zero, List.set_cons_succ]
          refine wpAnyH_take (i := 37) (v := ?v37z88) rfl (by kernel_rfl) (by kernel_rfl) (by kernel_rfl) (fun _ _ _ h => h) (Or.inl ⟨by rfl, ?hy37z88⟩) (by assumption) ?rest37z88
          case hy37z88 =>
            intro w hSw
            dsimp only [Eb] at hSw
            go_simp
            try with_reducible rfl
          simp only [Act.put, List.getElem_toArray, List.getElem_cons_succ, List.getElem_cons_zero, List.setIfInBounds_toArray, List.set_cons_zero, List.set_cons_succ]
          refine wpAnyH_take (i := 38) (v := ?v38z89) rfl (by kernel_rfl) (by kernel_rfl) (by kernel_rfl) (fun _ _ _ h => h) (Or.inl ⟨by rfl, ?hy38z89⟩) (by assumption) ?rest38z89
          case hy38z89 =>
            intro w hSw
            dsimp only [Eb] at hSw
            go_simp
            try with_reducible rfl
          simp only [Act.put, List.getElem_toArray, List.getElem_cons_succ, List.getElem_cons_zero, List.setIfInBounds_toArray, List.set_cons_zero, List.set_cons_succ]
          refine wpAnyH_ready (rs := [2]) (by kernel_rfl) (by simp) ?_
          refine AllReadyH.cons rfl (fun K hK => ?_) AllReadyH.nil
          go_simp
          refine (Whole_c al _ B6.out).mono ?_
          rintro e v1 ⟨a1, k1, s1, o1, m1, t1, rfl, lw, lx, bc⟩
          try go_simp
          have HE := Lib.hid (HD.out.keep bc)
          have LW := Lib.hid lw
          have LX := Lib.hid lx
          refine hK.out _ _ HE.out.est (fun _ => ?_)
          clear hK K hS bc HD lw lx
          have HD := HE
          have hS := HD.out.est
          clear HE
          try simp only [Act.put, List.setIfInBounds_toArray, List.set_cons_zero, List.set_cons_succ]
          refine wpAnyH_ready (rs := [3]) (by kernel_rfl) (by simp) ?_
          refine AllReadyH.cons rfl (fun K hK => ?_) AllReadyH.nil
          go_simp
          refine (rate1_c c1 a1 o1 s1 t1 k1 m1 al _ B1.out LW.out LX.out (Go.Joins.tab_stays gPow HPW.out HD.out.lp.bel (Nat.le_refl _))).mono ?_
          rintro e vr1 ⟨rfl, bc⟩
          try go_simp
          have HE := Lib.hid (HD.out.keep bc)
          refine hK.out _ _ HE.out.est (fun _ => ?_)
          clear hK K hS bc HD LW LX
          have HD := HE
          have hS := HD.out.est
          clear HE
          try simp only [Act.put, List.setIfInBounds_toArray, List.set_cons_zero, List.set_cons_succ]
          refine wpAnyH_ready (rs := [8]) (by kernel_rfl) (by simp) ?_
          refine AllReadyH.cons rfl (fun K hK => ?_) AllReadyH.nil
          go_simp
          refine (Whole_c al _ B6.out).mono ?_
          rintro e v2 ⟨a2, k2, s2, o2, m2, t2, rfl, lw, lx, bc⟩
          try go_simp
          have HE := Lib.hid (HD.out.keep bc)
          have LW := Lib.hid lw
          have LX := Lib.hid lx
          refine hK.out _ _ HE.out.est (fun _ => ?_)
          clear hK K hS bc HD lw lx
          have HD := HE
          have hS := HD.out.est
          clear HE
          try simp only [Act.put, List.setIfInBounds_toArray, List.set_cons_zero, List.set_cons_succ]
          refine wpAnyH_ready (rs := [9]) (by kernel_rfl) (by simp) ?_
          refine AllReadyH.cons rfl (fun K hK => ?_) AllReadyH.nil
          go_simp
          refine (rate1_c iv a2 o2 s2 t2 k2 m2 al _ B2.out LW.out LX.out (Go.Joins.tab_stays gPow HPW.out HD.out.lp.bel (Nat.le_refl _))).mono ?_
          rintro e vr2 ⟨rfl, bc⟩
          try go_simp
          have HE := Lib.hid (HD.out.keep bc)
          refine hK.out _ _ HE.out.est (fun _ => ?_)
          clear hK K hS bc HD LW LX
          have HD := HE
          have hS := HD.out.est
          clear HE
          try simp only [Act.put, List.setIfInBounds_toArray, List.set_cons_zero, List.set_cons_succ]
          refine wpAnyH_ready (rs := [12]) (by kernel_rfl) (by simp) ?_
          refine AllReadyH.cons rfl (fun K hK => ?_) AllReadyH.nil
          go_simp
          refine (rate_c c1 ar br cr dr kr mr (el * kn + eu * 1) (1 * kn) _ B1.out HD.out.s1 HD.out.s2 BD.out (Go.Joins.tab_stays gPow HPW.out HD.out.lp.bel (Nat.le_refl _))).mono ?_
          rintro e vr3 ⟨rfl, bc⟩
          rw [EN.out, ED.out]
          try go_simp
          have HE := Lib.hid (HD.out.keep bc)
          refine hK.out _ _ HE.out.est (fun _ => ?_)
          clear hK K hS bc HD
          have HD := HE
          have hS := HD.out.est
          clear HE
          try simp only [Act.put, List.setIfInBounds_toArray, List.set_cons_zero, List.set_cons_succ]
          refine wpAnyH_ready (rs := [15]) (by kernel_rfl) (by simp) ?_
          refine AllReadyH.cons rfl (fun K hK => ?_) AllReadyH.nil
          go_simp
          refine (Whole_c el _ B8.out).mono ?_
          rintro e v4 ⟨a4, k4, s4, o4, m4, t4, rfl, lw, lx, bc⟩
          try go_simp
          have HE := Lib.hid (HD.out.keep bc)
          have LW := Lib.hid lw
          have LX := Lib.hid lx
          refine hK.out _ _ HE.out.est (fun _ => ?_)
          clear hK K hS bc HD lw lx
          have HD := HE
          have hS := HD.out.est
          clear HE
          try simp only [Act.put, List.setIfInBounds_toArray, List.set_cons_zero, List.set_cons_succ]
          refine wpAnyH_ready (rs := [16]) (by kernel_rfl) (by simp) ?_
          refine AllReadyH.cons rfl (fun K hK => ?_) AllReadyH.nil
          go_simp
          refine (rate1_c c1 a4 o4 s4 t4 k4 m4 el _ B1.out LW.out LX.out (Go.Joins.tab_stays gPow HPW.out HD.out.lp.bel (Nat.le_refl _))).mono ?_
          rintro e vr4 ⟨rfl, bc⟩
          try go_simp
          have HE := Lib.hid (HD.out.keep bc)
          refine hK.out _ _ HE.out.est (fun _ => ?_)
          clear hK K hS bc HD LW LX
          have HD := HE
          have hS := HD.out.est
          clear HE
          try simp only [Act.put, List.setIfInBounds_toArray, List.set_cons_zero, List.set_cons_succ]
          refine wpAnyH_ready (rs := [25]) (by kernel_rfl) (by simp) ?_
          refine AllReadyH.cons rfl (fun K hK => ?_) AllReadyH.nil
          go_simp
          refine (Whole_c re _ B5.out).mono ?_
          rintro e v5 ⟨a5, k5, s5, o5, m5, t5, rfl, lw, lx, bc⟩
          try go_simp
          have HE := Lib.hid (HD.out.keep bc)
          have LW := Lib.hid lw
          have LX := Lib.hid lx
          refine hK.out _ _ HE.out.est (fun _ => ?_)
          clear hK K hS bc HD lw lx
          have HD := HE
          have hS := HD.out.est
          clear HE
          try simp only [Act.put, List.setIfInBounds_toArray, List.set_cons_zero, List.set_cons_succ]
          refine wpAnyH_ready (rs := [26]) (by kernel_rfl) (by simp) ?_
          refine AllReadyH.cons rfl (fun K hK => ?_) AllReadyH.nil
          go_simp
          refine (rate1_c c1 a5 o5 s5 t5 k5 m5 re _ B1.out LW.out LX.out (Go.Joins.tab_stays gPow HPW.out HD.out.lp.bel (Nat.le_refl _))).mono ?_
          rintro e vr5 ⟨rfl, bc⟩
          try go_simp
          have HE := Lib.hid (HD.out.keep bc)
          refine hK.out _ _ HE.out.est (fun _ => ?_)
          clear hK K hS bc HD LW LX
          have HD := HE
          have hS := HD.out.est
          clear HE
          try simp only [Act.put, List.setIfInBounds_toArray, List.set_cons_zero, List.set_cons_succ]
          refine wpAnyH_ready (rs := [29]) (by kernel_rfl) (by simp) ?_
          refine AllReadyH.cons rfl (fun K hK => ?_) AllReadyH.nil
          go_simp
          refine (Whole_c al _ B6.out).mono ?_
          rintro e v6 ⟨a6, k6, s6, o6, m6, t6, rfl, lw, lx, bc⟩
          try go_simp
          have HE := Lib.hid (HD.out.keep bc)
          have LW := Lib.hid lw
          have LX := Lib.hid lx
          refine hK.out _ _ HE.out.est (fun _ => ?_)
          clear hK K hS bc HD lw lx
          have HD := HE
          have hS := HD.out.est
          clear HE
          try simp only [Act.put, List.setIfInBounds_toArray, List.set_cons_zero, List.set_cons_succ]
          refine wpAnyH_ready (rs := [30]) (by kernel_rfl) (by simp) ?_
          refine AllReadyH.cons rfl (fun K hK => ?_) AllReadyH.nil
          go_simp
          refine (rate1_c c4 a6 o6 s6 t6 k6 m6 al _ B4.out LW.out LX.out (Go.Joins.tab_stays gPow HPW.out HD.out.lp.bel (Nat.le_refl _))).mono ?_
          rintro e vr6 ⟨rfl, bc⟩
          try go_simp
          have HE := Lib.hid (HD.out.keep bc)
          refine hK.out _ _ HE.out.est (fun _ => ?_)
          clear hK K hS bc HD LW LX
          have HD := HE
          have hS := HD.out.est
          clear HE
          try simp only [Act.put, List.setIfInBounds_toArray, List.set_cons_zero, List.set_cons_succ]
          refine wpAnyH_ready (rs := [39]) (by kernel_rfl) (by simp) ?_
          refine AllReadyH.cons rfl (fun K hK => ?_) AllReadyH.nil
          go_simp
          refine (Whole_c al _ B6.out).mono ?_
          rintro e v7 ⟨a7, k7, s7, o7, m7, t7, rfl, lw, lx, bc⟩
          try go_simp
          have HE := Lib.hid (HD.out.keep bc)
          have LW := Lib.hid lw
          have LX := Lib.hid lx
          refine hK.out _ _ HE.out.est (fun _ => ?_)
          clear hK K hS bc HD lw lx
          have HD := HE
          have hS := HD.out.est
          clear HE
          try simp only [Act.put, List.setIfInBounds_toArray, List.set_cons_zero, List.set_cons_succ]
          refine wpAnyH_ready (rs := [40]) (by kernel_rfl) (by simp) ?_
          refine AllReadyH.cons rfl (fun K hK => ?_) AllReadyH.nil
          go_simp
          refine (rate1_c re a7 o7 s7 t7 k7 m7 al _ B5.out LW.out LX.out (Go.Joins.tab_stays gPow HPW.out HD.out.lp.bel (Nat.le_refl _))).mono ?_
          rintro e vr7 ⟨rfl, bc⟩
          try go_simp
          have HE := Lib.hid (HD.out.keep bc)
          refine hK.out _ _ HE.out.est (fun _ => ?_)
          clear hK K hS bc HD LW LX
          have HD := HE
          have hS := HD.out.est
          clear HE
          try simp only [Act.put, List.setIfInBounds_toArray, List.set_cons_zero, List.set_cons_succ]
          refine wpAnyH_take (i := 41) (v := ?v41z90) rfl (by kernel_rfl) (by kernel_rfl) (by kernel_rfl) (fun _ _ _ h => h) (Or.inl ⟨by rfl, ?hy41z90⟩) (by assumption) ?rest41z90
          case hy41z90 =>
            intro w hSw
            dsimp only [Eb] at hSw
            go_simp
            try with_reducible rfl
          simp only [Act.put, List.getElem_toArray, List.getElem_cons_succ, List.getElem_cons_zero, List.setIfInBounds_toArray, List.set_cons_zero, List.set_cons_succ]
          refine wpAnyH_ready (rs := [42]) (by kernel_rfl) (by simp) ?_
          refine AllReadyH.cons rfl (fun K hK => ?_) AllReadyH.nil
          have R := HD.out.lp.box.all
          have ne : x ≠ w.heap.size := by have := HD.out.lo; omega
          have hT : Eb x (.slice ar kr cr) (.slice br mr dr) (set14 vr7 w.heap.size (.string (decB (rtN c1 al))) (.string (decB (rtD c1 al))) (.string (decB (rtN iv al))) (.string (decB (rtD iv al))) (.string (decB (rtN p1 q))) (.string (decB (rtD p1 q))) (.string (decB (rtN c1 el))) (.string (decB (rtD c1 el))) (.string (decB (rtN c1 re))) (.string (decB (rtD c1 re))) (.string (decB (rtN c4 al))) (.string (decB (rtD c4 al))) (.string (decB (rtN re al))) (.string (decB (rtD re al)))) := by
            unfold Eb
            rw [set14_is]
            exact ⟨(setL_far _ vr7 0 x 0 (.inl ne)).trans hS.1, (setL_far _ vr7 0 x 1 (.inl ne)).trans hS.2.1, (setL_far _ vr7 0 x 2 (.inl ne)).trans hS.2.2⟩
          unfold set14 at hT
          have FIN := Lib.hid (set14_fin HD.out.lp.box HD.out.lp.bel (Nat.le_refl _) (.string (decB (rtN c1 al))) (.string (decB (rtD c1 al))) (.string (decB (rtN iv al))) (.string (decB (rtD iv al))) (.string (decB (rtN p1 q))) (.string (decB (rtD p1 q))) (.string (decB (rtN c1 el))) (.string (decB (rtD c1 el))) (.string (decB (rtN c1 re))) (.string (decB (rtD c1 re))) (.string (decB (rtN c4 al))) (.string (decB (rtD c4 al))) (.string (decB (rtN re al))) (.string (decB (rtD re al))))
          clear ne
          go_simp
          clear R
          refine hK.out _ _ hT (fun _ => ?_)
          clear hK K hS
          have hS := hT
          clear hT
          try simp only [Act.put, List.setIfInBounds_toArray, List.set_cons_zero, List.set_cons_succ]
          refine wpAnyH_take (i := 43) (v := ?v43z91) rfl (by kernel_rfl) (by kernel_rfl) (by kernel_rfl) (fun _ _ _ h => h) (Or.inl ⟨by rfl, ?hy43z91⟩) (by assumption) ?rest43z91
          case hy43z91 =>
            intro w hSw
            dsimp only [Eb] at hSw
            go_simp
            try with_reducible rfl
          simp only [Act.put, List.getElem_toArray, List.getElem_cons_succ, List.getElem_cons_zero, List.setIfInBounds_toArray, List.set_cons_zero, List.set_cons_succ]
          refine wpAnyH_done (by kernel_rfl) ?_ _
          refine NoPanic.normal ?_
          go_wp2
          obtain ⟨e0, e1, e2, e3, e4, e5, e6, e7, e8, e9, e10, e11, e12, e13, hB⟩ := FIN.out
          unfold set14 at *
          exact bodyPost_ret (v := .tuple #[.agg #[.string (decB (rtN c1 al)), .string (decB (rtD c1 al)), .string (decB (rtN iv al)), .string (decB (rtD iv al)), .string (decB (rtN p1 q)), .string (decB (rtD p1 q)), .string (decB (rtN c1 el)), .string (decB (rtD c1 el)), .string (decB (rtN c1 re)), .string (decB (rtD c1 re)), .string (decB (rtN c4 al)), .string (decB (rtD c4 al)), .string (decB (rtN re al)), .string (decB (rtD re al))], .int .i64 0]) (by simp [results, Tryz.results13, go_sem, e0, e1, e2, e3, e4, e5, e6, e7, e8, e9, e10, e11, e12, e13]) rfl ⟨by rw [E1.out, E2.out], hB⟩
        · go_simp
          refine (Part_c eu kn _ B9.out B10.out).mono ?_
          rintro e wp ⟨ap, kp, cp, bp, mp, dp, rfl, lp, lq, bc⟩
          try go_simp
          have HE := Lib.hid (HD.out.keep bc)
          have LP := Lib.hid lp
          have LQ := Lib.hid lq
          have hT := hS.keep bc (by have := HD.out.lp.size; omega)
          refine hK.out _ _ hT (fun _ => ?_)
          clear hK K hS bc HD lp lq
          have HD := HE
          have hS := hT
          clear HE hT
          try simp only [Act.put, List.setIfInBounds_toArray, List.set_cons_zero, List.set_cons_succ]
          refine wpAnyH_ready (rs := [0]) (by kernel_rfl) (by simp) ?_
          refine AllReadyH.cons rfl (fun K hK => ?_) AllReadyH.nil
          have e := HD.out.est
          dsimp only [Eb] at e
          go_simp
          clear e
          refine hK.out _ _ hS (fun _ => ?_)
          clear hK K
          try simp only [Act.put, List.setIfInBounds_toArray, List.set_cons_zero, List.set_cons_succ]
          refine wpAnyH_ready (rs := [10]) (by kernel_rfl) (by simp) ?_
          refine AllReadyH.cons rfl (fun K hK => ?_) AllReadyH.nil
          go_simp
          refine (RPlus_c ae be ap bp ce de cp dp ke me kp mp el 1 eu kn _ HD.out.s1 HD.out.s2 LP.out LQ.out Q1.out Q2.out Q3.out Q4.out).mono ?_
          rintro e wq ⟨ar, kr, cr, br, mr, dr, rfl, lp, lq, bc⟩
          try go_simp
          have HE := Lib.hid (HD.out.keep bc)
          have LR := Lib.hid lp
          have LS := Lib.hid lq
          have hT := hS.keep bc (by have := HD.out.lp.size; omega)
          refine hK.out _ _ hT (fun _ => ?_)
          clear hK K hS bc HD lp lq LP LQ
          have HD := HE
          have hS := hT
          clear HE hT
          try simp only [Act.put, List.setIfInBounds_toArray, List.set_cons_zero, List.set_cons_succ]
          refine wpAnyH_ready (rs := [11]) (by kernel_rfl) (by simp) ?_
          refine AllReadyH.cons rfl (fun K hK => ?_) AllReadyH.nil
          have e := HD.out.est
          dsimp only [Eb] at e
          have f := HD.out.fz
          have ne : w.heap.size + 1 ≠ x := by have := HD.out.lo; omega
          have hT : Sq w.heap.size c2 c7 (set3 wq x (.bool false) (.slice ar kr cr) (.slice br mr dr)) := ⟨(set3_other ne).trans hS.1, (set3_other ne).trans hS.2⟩
          have HG := Lib.hid (HD.out.stored (a' := ar) (k' := kr) (c' := cr) (b' := br) (m' := mr) (c2' := dr) LR.out LS.out)
          unfold set3 at hT HG
          clear ne
          go_simp
          clear e f
          refine hK.out _ _ hT (fun _ => ?_)
          clear hK K hS hT HD LR LS
          try simp only [Act.put, List.setIfInBounds_toArray, List.set_cons_zero, List.set_cons_succ]
          refine wpAnyH_done (by kernel_rfl) ?_ _
          refine NoPanic.normal ?_
          generalize World.setCell _ _ _ = WG at HG ⊢
          go_wp2_with fail
          have HF := HG
          clear HG
          have HD := Lib.hid (HF.out.keep (Below.refl _ _).drew)
          have hS := HD.out.est
          clear HF
          refine wp_region_noPanic ?_
          refine wp_region_held_drew (S := Eb x (.slice ar kr cr) (.slice br mr dr)) (by kernel_rfl) hS (fun hHeld => ?_)
          clear hHeld
          generalize WG.drew = WD at HD hS ⊢
          refine wpAnyH_take (i := 0) (v := ?v0z92) rfl (by kernel_rfl) (by kernel_rfl) (by kernel_rfl) (fun _ _ _ h => h) (Or.inl ⟨by rfl, ?hy0z92⟩) (by assumption) ?rest0z92
          case hy0z92 =>
            intro w hSw
            dsimp only [Eb] at hSw
            go_simp
            try with_reducible rfl
          simp only [Act.put, List.getElem_toArray, List.getElem_cons_succ, List.getElem_cons_zero, List.setIfInBounds_toArray, List.set_cons_zero, List.set_cons_succ]
          refine wpAnyH_take (i := 1) (v := ?v1z93) rfl (by kernel_rfl) (by kernel_rfl) (by kernel_rfl) (fun _ _ _ h => h) (Or.inl ⟨by rfl, ?hy1z93⟩) (by assumption) ?rest1z93
          case hy1z93 =>
            intro w hSw
            dsimp only [Eb] at hSw
            go_simp
            try with_reducible rfl
          simp only [Act.put, List.getElem_toArray, List.getElem_cons_succ, List.getElem_cons_zero, List.setIfInBounds_toArray, List.set_cons_zero, List.set_cons_succ]
          refine wpAnyH_take (i := 4) (v := ?v4z94) rfl (by kernel_rfl) (by kernel_rfl) (by kernel_rfl) (fun _ _ _ h => h) (Or.inl ⟨by rfl, ?hy4z94⟩) (by assumption) ?rest4z94
          case hy4z94 =>
            intro w hSw
            dsimp only [Eb] at hSw
            go_simp
            try with_reducible rfl
          simp only [Act.put, List.getElem_toArray, List.getElem_cons_succ, List.getElem_cons_zero, List.setIfInBounds_toArray, List.set_cons_zero, List.set_cons_succ]
          refine wpAnyH_take (i := 5) (v := ?v5z95) rfl (by kernel_rfl) (by kernel_rfl) (by kernel_rfl) (fun _ _ _ h => h) (Or.inl ⟨by rfl, ?hy5z95⟩) (by assumption) ?rest5z95
          case hy5z95 =>
            intro w hSw
            dsimp only [Eb] at hSw
            go_simp
            try with_reducible rfl
          simp only [Act.put, List.getElem_toArray, List.getElem_cons_succ, List.getElem_cons_zero, List.setIfInBounds_toArray, List.set_cons_zero, List.set_cons_succ]
          refine wpAnyH_take (i := 6) (v := ?v6z96) rfl (by kernel_rfl) (by kernel_rfl) (by kernel_rfl) (fun _ _ _ h => h) (Or.inl ⟨by rfl, ?hy6z96⟩) (by assumption) ?rest6z96
          case hy6z96 =>
            intro w hSw
            dsimp only [Eb] at hSw
            go_simp
            try with_reducible rfl
          simp only [Act.put, List.getElem_toArray, List.getElem_cons_succ, List.getElem_cons_zero, List.setIfInBounds_toArray, List.set_cons_zero, List.set_cons_succ]
          refine wpAnyH_take (i := 7) (v := ?v7z97) rfl (by kernel_rfl) (by kernel_rfl) (by kernel_rfl) (fun _ _ _ h => h) (Or.inl ⟨by rfl, ?hy7z97⟩) (by assumption) ?rest7z97
          case hy7z97 =>
            intro w hSw
            dsimp only [Eb] at hSw
            go_simp
            try with_reducible rfl
          simp only [Act.put, List.getElem_toArray, List.getElem_cons_succ, List.getElem_cons_zero, List.setIfInBounds_toArray, List.set_cons_zero, List.set_cons_succ]
          refine wpAnyH_take (i := 10) (v := ?v10z98) rfl (by kernel_rfl) (by kernel_rfl) (by kernel_rfl) (fun _ _ _ h => h) (Or.inl ⟨by rfl, ?hy10z98⟩) (by assumption) ?rest10z98
          case hy10z98 =>
            intro w hSw
            dsimp only [Eb] at hSw
            go_simp
            try with_reducible rfl
          simp only [Act.put, List.getElem_toArray, List.getElem_cons_succ, List.getElem_cons_zero, List.setIfInBounds_toArray, List.set_cons_zero, List.set_cons_succ]
          refine wpAnyH_take (i := 11) (v := ?v11z99) rfl (by kernel_rfl) (by kernel_rfl) (by kernel_rfl) (fun _ _ _ h => h) (Or.inl ⟨by rfl, ?hy11z99⟩) (by assumption) ?rest11z99
          case hy11z99 =>
            intro w hSw
            dsimp only [Eb] at hSw
            go_simp
            try with_reducible rfl
          simp only [Act.put, List.getElem_toArray, List.getElem_cons_succ, List.getElem_cons_zero, List.setIfInBounds_toArray, List.set_cons_zero, List.set_cons_succ]
          refine wpAnyH_take (i := 13) (v := ?v13z100) rfl (by kernel_rfl) (by kernel_rfl) (by kernel_rfl) (fun _ _ _ h => h) (Or.inl ⟨by rfl, ?hy13z100⟩) (by assumption) ?rest13z100
          case hy13z100 =>
            intro w hSw
            dsimp only [Eb] at hSw
            go_simp
            try with_reducible rfl
          simp only [Act.put, List.getElem_toArray, List.getElem_cons_succ, List.getElem_cons_zero, List.setIfInBounds_toArray, List.set_cons_zero, List.set_cons_succ]
          refine wpAnyH_take (i := 14) (v := ?v14z101) rfl (by kernel_rfl) (by kernel_rfl) (by kernel_rfl) (fun _ _ _ h => h) (Or.inl ⟨by rfl, ?hy14z101⟩) (by assumption) ?rest14z101
          case hy14z101 =>
            intro w hSw
            dsimp only [Eb] at hSw
            go_simp
            try with_reducible rfl
          simp only [Act.put, List.getElem_toArray, List.getElem_cons_succ, List.getElem_cons_zero, List.setIfInBounds_toArray, List.set_cons_zero, List.set_cons_succ]
          refine wpAnyH_take (i := 17) (v := ?v17z102) rfl (by kernel_rfl) (by kernel_rfl) (by kernel_rfl) (fun _ _ _ h => h) (Or.inl ⟨by rfl, ?hy17z102⟩) (by assumption) ?rest17z102
          case hy17z102 =>
            intro w hSw
            dsimp only [Eb] at hSw
            go_simp
            try with_reducible rfl
          simp only [Act.put, List.getElem_toArray, List.getElem_cons_succ, List.getElem_cons_zero, List.setIfInBounds_toArray, List.set_cons_zero, List.set_cons_succ]
          refine wpAnyH_take (i := 18) (v := ?v18z103) rfl (by kernel_rfl) (by kernel_rfl) (by kernel_rfl) (fun _ _ _ h => h) (Or.inl ⟨by rfl, ?hy18z103⟩) (by assumption) ?rest18z103
          case hy18z103 =>
            intro w hSw
            dsimp only [Eb] at hSw
            go_simp
            try with_reducible rfl
          simp only [Act.put, List.getElem_toArray, List.getElem_cons_succ, List.getElem_cons_zero, List.setIfInBounds_toArray, List.set_cons_zero, List.set_cons_succ]
          refine wpAnyH_take (i := 19) (v := ?v19z104) rfl (by kernel_rfl) (by kernel_rfl) (by kernel_rfl) (fun _ _ _ h => h) (Or.inl ⟨by rfl, ?hy19z104⟩) (by assumption) ?rest19z104
          case hy19z104 =>
            intro w hSw
            dsimp only [Eb] at hSw
            go_simp
            try with_reducible rfl
          simp only [Act.put, List.getElem_toArray, List.getElem_cons_succ, List.getElem_cons_zero, List.setIfInBounds_toArray, List.set_cons_zero, List.set_cons_succ]
          refine wpAnyH_take (i := 20) (v := ?v20z105) rfl (by kernel_rfl) (by kernel_rfl) (by kernel_rfl) (fun _ _ _ h => h) (Or.inl ⟨by rfl, ?hy20z105⟩) (by assumption) ?rest20z105
          case hy20z105 =>
            intro w hSw
            dsimp only [Eb] at hSw
            go_simp
            try with_reducible rfl
          simp only [Act.put, List.getElem_toArray, List.getElem_cons_succ, List.getElem_cons_zero, List.setIfInBounds_toArray, List.set_cons_zero, List.set_cons_succ]
          refine wpAnyH_take (i := 21) (v := ?v21z106) rfl (by kernel_rfl) (by kernel_rfl) (by kernel_rfl) (fun _ _ _ h => h) (Or.inl ⟨by rfl, ?hy21z106⟩) (by assumption) ?rest21z106
          case hy21z106 =>
            intro w hSw
            dsimp only [Eb] at hSw
            go_simp
            try with_reducible rfl
          simp only [Act.put, List.getElem_toArray, List.getElem_cons_succ, List.getElem_cons_zero, List.setIfInBounds_toArray, List.set_cons_zero, List.set_cons_succ]
          refine wpAnyH_take (i := 22) (v := ?v22z107) rfl (by kernel_rfl) (by kernel_rfl) (by kernel_rfl) (fun _ _ _ h => h) (Or.inl ⟨by rfl, ?hy22z107⟩) (by assumption) ?rest22z107
          case hy22z107 =>
            intro w hSw
            dsimp only [Eb] at hSw
            go_simp
            try with_reducible rfl
          simp only [Act.put, List.getElem_toArray, List.getElem_cons_succ, List.getElem_cons_zero, List.setIfInBounds_toArray, List.set_cons_zero, List.set_cons_succ]
          refine wpAnyH_take (i := 23) (v := ?v23z108) rfl (by kernel_rfl) (by kernel_rfl) (by kernel_rfl) (fun _ _ _ h => h) (Or.inl ⟨by rfl, ?hy23z108⟩) (by assumption) ?rest23z108
          case hy23z108 =>
            intro w hSw
            dsimp only [Eb] at hSw
            go_simp
            try with_reducible rfl
          simp only [Act.put, List.getElem_toArray, List.getElem_cons_succ, List.getElem_cons_zero, List.setIfInBounds_toArray, List.set_cons_zero, List.set_cons_succ]
          refine wpAnyH_take (i := 24) (v := ?v24z109) rfl (by kernel_rfl) (by kernel_rfl) (by kernel_rfl) (fun _ _ _ h => h) (Or.inl ⟨by rfl, ?hy24z109⟩) (by assumption) ?rest24z109
          case hy24z109 =>
            intro w hSw
            dsimp only [Eb] at hSw
            go_simp
            try with_reducible rfl
          simp only [Act.put, List.getElem_toArray, List.getElem_cons_succ, List.getElem_cons_zero, List.setIfInBounds_toArray, List.set_cons_zero, List.set_cons_succ]
          refine wpAnyH_take (i := 27) (v := ?v27z110) rfl (by kernel_rfl) (by kernel_rfl) (by kernel_rfl) (fun _ _ _ h => h) (Or.inl ⟨by rfl, ?hy27z110⟩) (by assumption) ?rest27z110
          case hy27z110 =>
            intro w hSw
            dsimp only [Eb] at hSw
            go_simp
            try with_reducible rfl
          simp only [Act.put, List.getElem_toArray, List.getElem_cons_succ, List.getElem_cons_zero, List.setIfInBounds_toArray, List.set_cons_zero, List.set_cons_succ]
          refine wpAnyH_take (i := 28) (v := ?v28z111) rfl (by kernel_rfl) (by kernel_rfl) (by kernel_rfl) (fun _ _ _ h => h) (Or.inl ⟨by rfl, ?hy28z111⟩) (by assumption) ?rest28z111
          case hy28z111 =>
            intro w hSw
            dsimp only [Eb] at hSw
            go_simp
            try with_reducible rfl
          simp only [Act.put, List.getElem_toArray, List.getElem_cons_succ, List.getElem_cons_zero, List.setIfInBounds_toArray, List.set_cons_zero, List.set_cons_succ]
          refine wpAnyH_take (i := 31) (v := ?v31z112) rfl (by kernel_rfl) (by kernel_rfl) (by kernel_rfl) (fun _ _ _ h => h) (Or.inl ⟨by rfl, ?hy31z112⟩) (by assumption) ?rest31z112
          case hy31z112 =>
            intro w hSw
            dsimp only [Eb] at hSw
            go_simp
            try with_reducible rfl
          simp only [Act.put, List.getElem_toArray, List.getElem_cons_succ, List.getElem_cons_zero, List.setIfInBounds_toArray, List.set_cons_zero, List.set_cons_succ]
          refine wpAnyH_take (i := 32) (v := ?v32z113) rfl (by kernel_rfl) (by kernel_rfl) (by kernel_rfl) (fun _ _ _ h => h) (Or.inl ⟨by rfl, ?hy32z113⟩) (by assumption) ?rest32z113
          case hy32z113 =>
            intro w hSw
            dsimp only [Eb] at hSw
            go_simp
            try with_reducible rfl
          simp only [Act.put, List.getElem_toArray, List.getElem_cons_succ, List.getElem_cons_zero, List.setIfInBounds_toArray, List.set_cons_zero, List.set_cons_succ]
          refine wpAnyH_take (i := 33) (v := ?v33z114) rfl (by kernel_rfl) (by kernel_rfl) (by kernel_rfl) (fun _ _ _ h => h) (Or.inl ⟨by rfl, ?hy33z114⟩) (by assumption) ?rest33z114
          case hy33z114 =>
            intro w hSw
            dsimp only [Eb] at hSw
            go_simp
            try with_reducible rfl
          simp only [Act.put, List.getElem_toArray, List.getElem_cons_succ, List.getElem_cons_zero, List.setIfInBounds_toArray, List.set_cons_zero, List.set_cons_succ]
          refine wpAnyH_take (i := 34) (v := ?v34z115) rfl (by kernel_rfl) (by kernel_rfl) (by kernel_rfl) (fun _ _ _ h => h) (Or.inl ⟨by rfl, ?hy34z115⟩) (by assumption) ?rest34z115
          case hy34z115 =>
            intro w hSw
            dsimp only [Eb] at hSw
            go_simp
            try with_reducible rfl
          simp only [Act.put, List.getElem_toArray, List.getElem_cons_succ, List.getElem_cons_zero, List.setIfInBounds_toArray, List.set_cons_zero, List.set_cons_succ]
          refine wpAnyH_take (i := 35) (v := ?v35z116) rfl (by kernel_rfl) (by kernel_rfl) (by kernel_rfl) (fun _ _ _ h => h) (Or.inl ⟨by rfl, ?hy35z116⟩) (by assumption) ?rest35z116
          case hy35z116 =>
            intro w hSw
            dsimp only [Eb] at hSw
            go_simp
            try with_reducible rfl
          simp only [Act.put, List.getElem_toArray, List.getElem_cons_succ, List.getElem_cons_zero, List.setIfInBounds_toArray, List.set_cons_zero, List.set_cons_succ]
          refine wpAnyH_take (i := 36) (v := ?v36z117) rfl (by kernel_rfl) (by kernel_rfl) (by kernel_rfl) (fun _ _ _ h => h) (Or.inl ⟨by rfl, ?hy36z117⟩) (by assumption) ?rest36z117
          case hy36z117 =>
            intro w hSw
            dsimp only [Eb] at hSw
            go_simp
            try with_reducible rfl
          simp only [Act.put, List.getElem_toArray, List.getElem_cons_succ, List.getElem_cons_zero, List.setIfInBounds_toArray, List.set_cons_zero, List.set_cons_succ]
          refine wpAnyH_take (i := 37) (v := ?v37z118) rfl (by kernel_rfl) (by kernel_rfl) (by kernel_rfl) (fun _ _ _ h => h) (Or.inl ⟨by rfl, ?hy37z118⟩) (by assumption) ?rest37z118
          case hy37z118 =>
            intro w hSw
            dsimp only [Eb] at hSw
            go_simp
            try with_reducible rfl
          simp only [Act.put, List.getElem_toArray, List.getElem_cons_succ, List.getElem_cons_zero, List.setIfInBounds_toArray, List.set_cons_zero, List.set_cons_succ]
          refine wpAnyH_take (i := 38) (v := ?v38z119) rfl (by kernel_rfl) (by kernel_rfl) (by kernel_rfl) (fun _ _ _ h => h) (Or.inl ⟨by rfl, ?hy38z119⟩) (by assumption) ?rest38z119
          case hy38z119 =>
            intro w hSw
            dsimp only [Eb] at hSw
            go_simp
            try with_reducible rfl
          simp only [Act.put, List.getElem_toArray, List.getElem_cons_succ, List.getElem_cons_zero, List.setIfInBounds_toArray, List.set_cons_zero, List.set_cons_succ]
          refine wpAnyH_ready (rs := [2]) (by kernel_rfl) (by simp) ?_
          refine AllReadyH.cons rfl (fun K hK => ?_) AllReadyH.nil
          go_simp
          refine (Whole_c al _ B6.out).mono ?_
          rintro e v1 ⟨a1, k1, s1, o1, m1, t1, rfl, lw, lx, bc⟩
          try go_simp
          have HE := Lib.hid (HD.out.keep bc)
          have LW := Lib.hid lw
          have LX := Lib.hid lx
          refine hK.out _ _ HE.out.est (fun _ => ?_)
          clear hK K hS bc HD lw lx
          have HD := HE
          have hS := HD.out.est
          clear HE
          try simp only [Act.put, List.setIfInBounds_toArray, List.set_cons_zero, List.set_cons_succ]
          refine wpAnyH_ready (rs := [3]) (by kernel_rfl) (by simp) ?_
          refine AllReadyH.cons rfl (fun K hK => ?_) AllReadyH.nil
          go_simp
          refine (rate1_c c1 a1 o1 s1 t1 k1 m1 al _ B1.out LW.out LX.out (Go.Joins.tab_stays gPow HPW.out HD.out.lp.bel (Nat.le_refl _))).mono ?_
          rintro e vr1 ⟨rfl, bc⟩
          try go_simp
          have HE := Lib.hid (HD.out.keep bc)
          refine hK.out _ _ HE.out.est (fun _ => ?_)
          clear hK K hS bc HD LW LX
          have HD := HE
          have hS := HD.out.est
          clear HE
          try simp only [Act.put, List.setIfInBounds_toArray, List.set_cons_zero, List.set_cons_succ]
          refine wpAnyH_ready (rs := [8]) (by kernel_rfl) (by simp) ?_
          refine AllReadyH.cons rfl (fun K hK => ?_) AllReadyH.nil
          go_simp
          refine (Whole_c al _ B6.out).mono ?_
          rintro e v2 ⟨a2, k2, s2, o2, m2, t2, rfl, lw, lx, bc⟩
          try go_simp
          have HE := Lib.hid (HD.out.keep bc)
          have LW := Lib.hid lw
          have LX := Lib.hid lx
          refine hK.out _ _ HE.out.est (fun _ => ?_)
          clear hK K hS bc HD lw lx
          have HD := HE
          have hS := HD.out.est
          clear HE
          try simp only [Act.put, List.setIfInBounds_toArray, List.set_cons_zero, List.set_cons_succ]
          refine wpAnyH_ready (rs := [9]) (by kernel_rfl) (by simp) ?_
          refine AllReadyH.cons rfl (fun K hK => ?_) AllReadyH.nil
          go_simp
          refine (rate1_c iv a2 o2 s2 t2 k2 m2 al _ B2.out LW.out LX.out (Go.Joins.tab_stays gPow HPW.out HD.out.lp.bel (Nat.le_refl _))).mono ?_
          rintro e vr2 ⟨rfl, bc⟩
          try go_simp
          have HE := Lib.hid (HD.out.keep bc)
          refine hK.out _ _ HE.out.est (fun _ => ?_)
          clear hK K hS bc HD LW LX
          have HD := HE
          have hS := HD.out.est
          clear HE
          try simp only [Act.put, List.setIfInBounds_toArray, List.set_cons_zero, List.set_cons_succ]
          refine wpAnyH_ready (rs := [12]) (by kernel_rfl) (by simp) ?_
          refine AllReadyH.cons rfl (fun K hK => ?_) AllReadyH.nil
          go_simp
          refine (rate_c c1 ar br cr dr kr mr (el * kn + eu * 1) (1 * kn) _ B1.out HD.out.s1 HD.out.s2 BD.out (Go.Joins.tab_stays gPow HPW.out HD.out.lp.bel (Nat.le_refl _))).mono ?_
          rintro e vr3 ⟨rfl, bc⟩
          rw [EN.out, ED.out]
          try go_simp
          have HE := Lib.hid (HD.out.keep bc)
          refine hK.out _ _ HE.out.est (fun _ => ?_)
          clear hK K hS bc HD
          have HD := HE
          have hS := HD.out.est
          clear HE
          try simp only [Act.put, List.setIfInBounds_toArray, List.set_cons_zero, List.set_cons_succ]
          refine wpAnyH_ready (rs := [15]) (by kernel_rfl) (by simp) ?_
          refine AllReadyH.cons rfl (fun K hK => ?_) AllReadyH.nil
          go_simp
          refine (Whole_c el _ B8.out).mono ?_
          rintro e v4 ⟨a4, k4, s4, o4, m4, t4, rfl, lw, lx, bc⟩
          try go_simp
          have HE := Lib.hid (HD.out.keep bc)
          have LW := Lib.hid lw
          have LX := Lib.hid lx
          refine hK.out _ _ HE.out.est (fun _ => ?_)
          clear hK K hS bc HD lw lx
          have HD := HE
          have hS := HD.out.est
          clear HE
          try simp only [Act.put, List.setIfInBounds_toArray, List.set_cons_zero, List.set_cons_succ]
          refine wpAnyH_ready (rs := [16]) (by kernel_rfl) (by simp) ?_
          refine AllReadyH.cons rfl (fun K hK => ?_) AllReadyH.nil
          go_simp
          refine (rate1_c c1 a4 o4 s4 t4 k4 m4 el _ B1.out LW.out LX.out (Go.Joins.tab_stays gPow HPW.out HD.out.lp.bel (Nat.le_refl _))).mono ?_
          rintro e vr4 ⟨rfl, bc⟩
          try go_simp
          have HE := Lib.hid (HD.out.keep bc)
          refine hK.out _ _ HE.out.est (fun _ => ?_)
          clear hK K hS bc HD LW LX
          have HD := HE
          have hS := HD.out.est
          clear HE
          try simp only [Act.put, List.setIfInBounds_toArray, List.set_cons_zero, List.set_cons_succ]
          refine wpAnyH_ready (rs := [25]) (by kernel_rfl) (by simp) ?_
          refine AllReadyH.cons rfl (fun K hK => ?_) AllReadyH.nil
          go_simp
          refine (Whole_c re _ B5.out).mono ?_
          rintro e v5 ⟨a5, k5, s5, o5, m5, t5, rfl, lw, lx, bc⟩
          try go_simp
          have HE := Lib.hid (HD.out.keep bc)
          have LW := Lib.hid lw
          have LX := Lib.hid lx
          refine hK.out _ _ HE.out.est (fun _ => ?_)
          clear hK K hS bc HD lw lx
          have HD := HE
          have hS := HD.out.est
          clear HE
          try simp only [Act.put, List.setIfInBounds_toArray, List.set_cons_zero, List.set_cons_succ]
          refine wpAnyH_ready (rs := [26]) (by kernel_rfl) (by simp) ?_
          refine AllReadyH.cons rfl (fun K hK => ?_) AllReadyH.nil
          go_simp
          refine (rate1_c c1 a5 o5 s5 t5 k5 m5 re _ B1.out LW.out LX.out (Go.Joins.tab_stays gPow HPW.out HD.out.lp.bel (Nat.le_refl _))).mono ?_
          rintro e vr5 ⟨rfl, bc⟩
          try go_simp
          have HE := Lib.hid (HD.out.keep bc)
          refine hK.out _ _ HE.out.est (fun _ => ?_)
          clear hK K hS bc HD LW LX
          have HD := HE
          have hS := HD.out.est
          clear HE
          try simp only [Act.put, List.setIfInBounds_toArray, List.set_cons_zero, List.set_cons_succ]
          refine wpAnyH_ready (rs := [29]) (by kernel_rfl) (by simp) ?_
          refine AllReadyH.cons rfl (fun K hK => ?_) AllReadyH.nil
          go_simp
          refine (Whole_c al _ B6.out).mono ?_
          rintro e v6 ⟨a6, k6, s6, o6, m6, t6, rfl, lw, lx, bc⟩
          try go_simp
          have HE := Lib.hid (HD.out.keep bc)
          have LW := Lib.hid lw
          have LX := Lib.hid lx
          refine hK.out _ _ HE.out.est (fun _ => ?_)
          clear hK K hS bc HD lw lx
          have HD := HE
          have hS := HD.out.est
          clear HE
          try simp only [Act.put, List.setIfInBounds_toArray, List.set_cons_zero, List.set_cons_succ]
          refine wpAnyH_ready (rs := [30]) (by kernel_rfl) (by simp) ?_
          refine AllReadyH.cons rfl (fun K hK => ?_) AllReadyH.nil
          go_simp
          refine (rate1_c c4 a6 o6 s6 t6 k6 m6 al _ B4.out LW.out LX.out (Go.Joins.tab_stays gPow HPW.out HD.out.lp.bel (Nat.le_refl _))).mono ?_
          rintro e vr6 ⟨rfl, bc⟩
          try go_simp
          have HE := Lib.hid (HD.out.keep bc)
          refine hK.out _ _ HE.out.est (fun _ => ?_)
          clear hK K hS bc HD LW LX
          have HD := HE
          have hS := HD.out.est
          clear HE
          try simp only [Act.put, List.setIfInBounds_toArray, List.set_cons_zero, List.set_cons_succ]
          refine wpAnyH_ready (rs := [39]) (by kernel_rfl) (by simp) ?_
          refine AllReadyH.cons rfl (fun K hK => ?_) AllReadyH.nil
          go_simp
          refine (Whole_c al _ B6.out).mono ?_
          rintro e v7 ⟨a7, k7, s7, o7, m7, t7, rfl, lw, lx, bc⟩
          try go_simp
          have HE := Lib.hid (HD.out.keep bc)
          have LW := Lib.hid lw
          have LX := Lib.hid lx
          refine hK.out _ _ HE.out.est (fun _ => ?_)
          clear hK K hS bc HD lw lx
          have HD := HE
          have hS := HD.out.est
          clear HE
          try simp only [Act.put, List.setIfInBounds_toArray, List.set_cons_zero, List.set_cons_succ]
          refine wpAnyH_ready (rs := [40]) (by kernel_rfl) (by simp) ?_
          refine AllReadyH.cons rfl (fun K hK => ?_) AllReadyH.nil
          go_simp
          refine (rate1_c re a7 o7 s7 t7 k7 m7 al _ B5.out LW.out LX.out (Go.Joins.tab_stays gPow HPW.out HD.out.lp.bel (Nat.le_refl _))).mono ?_
          rintro e vr7 ⟨rfl, bc⟩
          try go_simp
          have HE := Lib.hid (HD.out.keep bc)
          refine hK.out _ _ HE.out.est (fun _ => ?_)
          clear hK K hS bc HD LW LX
          have HD := HE
          have hS := HD.out.est
          clear HE
          try simp only [Act.put, List.setIfInBounds_toArray, List.set_cons_zero, List.set_cons_succ]
          refine wpAnyH_take (i := 41) (v := ?v41z120) rfl (by kernel_rfl) (by kernel_rfl) (by kernel_rfl) (fun _ _ _ h => h) (Or.inl ⟨by rfl, ?hy41z120⟩) (by assumption) ?rest41z120
          case hy41z120 =>
            intro w hSw
            dsimp only [Eb] at hSw
            go_simp
            try with_reducible rfl
          simp only [Act.put, List.getElem_toArray, List.getElem_cons_succ, List.getElem_cons_zero, List.setIfInBounds_toArray, List.set_cons_zero, List.set_cons_succ]
          refine wpAnyH_ready (rs := [42]) (by kernel_rfl) (by simp) ?_
          refine AllReadyH.cons rfl (fun K hK => ?_) AllReadyH.nil
          have R := HD.out.lp.box.all
          have ne : x ≠ w.heap.size := by have := HD.out.lo; omega
          have hT : Eb x (.slice ar kr cr) (.slice br mr dr) (set14 vr7 w.heap.size (.string (decB (rtN c1 al))) (.string (decB (rtD c1 al))) (.string (decB (rtN iv al))) (.string (decB (rtD iv al))) (.string (decB (rtN p1 q))) (.string (decB (rtD p1 q))) (.string (decB (rtN c1 el))) (.string (decB (rtD c1 el))) (.string (decB (rtN c1 re))) (.string (decB (rtD c1 re))) (.string (decB (rtN c4 al))) (.string (decB (rtD c4 al))) (.string (decB (rtN re al))) (.string (decB (rtD re al)))) := by
            unfold Eb
            rw [set14_is]
            exact ⟨(setL_far _ vr7 0 x 0 (.inl ne)).trans hS.1, (setL_far _ vr7 0 x 1 (.inl ne)).trans hS.2.1, (setL_far _ vr7 0 x 2 (.inl ne)).trans hS.2.2⟩
          unfold set14 at hT
          have FIN := Lib.hid (set14_fin HD.out.lp.box HD.out.lp.bel (Nat.le_refl _) (.string (decB (rtN c1 al))) (.string (decB (rtD c1 al))) (.string (decB (rtN iv al))) (.string (decB (rtD iv al))) (.string (decB (rtN p1 q))) (.string (decB (rtD p1 q))) (.string (decB (rtN c1 el))) (.string (decB (rtD c1 el))) (.string (decB (rtN c1 re))) (.string (decB (rtD c1 re))) (.string (decB (rtN c4 al))) (.string (decB (rtD c4 al))) (.string (decB (rtN re al))) (.string (decB (rtD re al))))
          clear ne
          go_simp
          clear R
          refine hK.out _ _ hT (fun _ => ?_)
          clear hK K hS
          have hS := hT
          clear hT
          try simp only [Act.put, List.setIfInBounds_toArray, List.set_cons_zero, List.set_cons_succ]
          refine wpAnyH_take (i := 43) (v := ?v43z121) rfl (by kernel_rfl) (by kernel_rfl) (by kernel_rfl) (fun _ _ _ h => h) (Or.inl ⟨by rfl, ?hy43z121⟩) (by assumption) ?rest43z121
          case hy43z121 =>
            intro w hSw
            dsimp only [Eb] at hSw
            go_simp
            try with_reducible rfl
          simp only [Act.put, List.getElem_toArray, List.getElem_cons_succ, List.getElem_cons_zero, List.setIfInBounds_toArray, List.set_cons_zero, List.set_cons_succ]
          refine wpAnyH_done (by kernel_rfl) ?_ _
          refine NoPanic.normal ?_
          go_wp2
          obtain ⟨e0, e1, e2, e3, e4, e5, e6, e7, e8, e9, e10, e11, e12, e13, hB⟩ := FIN.out
          unfold set14 at *
          exact bodyPost_ret (v := .tuple #[.agg #[.string (decB (rtN c1 al)), .string (decB (rtD c1 al)), .string (decB (rtN iv al)), .string (decB (rtD iv al)), .string (decB (rtN p1 q)), .string (decB (rtD p1 q)), .string (decB (rtN c1 el)), .string (decB (rtD c1 el)), .string (decB (rtN c1 re)), .string (decB (rtD c1 re)), .string (decB (rtN c4 al)), .string (decB (rtD c4 al)), .string (decB (rtN re al)), .string (decB (rtD re al))], .int .i64 0]) (by simp [results, Tryz.results13, go_sem, e0, e1, e2, e3, e4, e5, e6, e7, e8, e9, e10, e11, e12, e13]) rfl ⟨by rw [E1.out, E2.out], hB⟩
  · have E1 : Hid (ratesV l = _) := ratesV_no (fun h => hn h.1)
    have E2 := Lib.hid (rf_large hn)
    clear h
    go_enter Tryz.func13, Tryz.ntmps13
    go_wp2_with fail
    exact bodyPost_ret (v := .tuple #[.agg #[.string ⟨#[]⟩, .string ⟨#[]⟩, .string ⟨#[]⟩, .string ⟨#[]⟩, .string ⟨#[]⟩, .string ⟨#[]⟩, .string ⟨#[]⟩, .string ⟨#[]⟩, .string ⟨#[]⟩, .string ⟨#[]⟩, .string ⟨#[]⟩, .string ⟨#[]⟩, .string ⟨#[]⟩, .string ⟨#[]⟩], .int .i64 2]) (by simp [results, Tryz.results13, go_sem]) rfl ⟨by rw [E1.out, E2.out], (Below.refl _ _).alloc (Nat.le_refl _) _⟩
end Go.Proofs.YtfldlcnlijljcaaGreatDoor
namespace Go.Proofs.YtfldlcnlijljcaaGreatDoor
open Go.RowKit

theorem RRates_c (a : Option Addr) (c : Nat) (l : List Int) (w : World) (h : Rd w a l) (hE : Pow w) : Calls Tryz.prog 13 #[.slice a l.length c] w (RtsPost l w) := by
  by_cases hk : KN l = 0
  · exact RRates_z a c l w h hE hk
  · exact RRates_p a c l w h hE hk
end Go.Proofs.YtfldlcnlijljcaaGreatDoor
namespace Go.Proofs.YtfldlcnlijljcaaGreatDoor
open Go.RowKit

set_option maxRecDepth 100000 in
set_option maxHeartbeats 4000000 in
theorem law_rates (a : Option Addr) (c : Nat) (l : List Int) (w : World) (h : Rd w a l) (hE : Pow w) :
    Calls Tryz.prog 4 #[.slice a l.length c] w fun e w' => e = .returned (.bool true) ∧ Below w.heap.size w w' := by
  have HC := fun W (hW : Rd W a l) => Rates_c a c l W hW
  have HR := fun W (hW : Rd W a l) (hP : Pow W) => RRates_c a c l W hW hP
  unfold RtsPost ratesV at HC HR
  generalize ns l 0 = n0 at *
  generalize ds l 0 = d0 at *
  generalize ns l 1 = n1 at *
  generalize ds l 1 = d1 at *
  generalize ns l 2 = n2 at *
  generalize ds l 2 = d2 at *
  generalize ns l 3 = n3 at *
  generalize ds l 3 = d3 at *
  generalize ns l 4 = n4 at *
  generalize ds l 4 = d4 at *
  generalize ns l 5 = n5 at *
  generalize ds l 5 = d5 at *
  generalize ns l 6 = n6 at *
  generalize ds l 6 = d6 at *
  generalize rf l = f at *
  have C1 := Lib.hid HC
  have C2 := Lib.hid HR
  have H := Lib.hid h
  have HP := Lib.hid hE
  clear HC HR h hE
  go_enter Tryz.func4, Tryz.ntmps4
  go_wp2_with fail
  refine (C1.out w H.out).mono ?_
  rintro e w1 ⟨rfl, b1⟩
  have B1 := Lib.hid b1
  clear b1
  obtain ⟨W2, hW2⟩ : ∃ W2, w1.alloc (.cells #[.string n0, .string d0, .string n1, .string d1, .string n2, .string d2, .string n3, .string d3, .string n4, .string d4, .string n5, .string d5, .string n6, .string d6] 36) = W2 := ⟨_, rfl⟩
  have B2 : Hid (Below w.heap.size w W2) := by unfold Hid; rw [← hW2]; exact B1.out.trans ((bel_one' w1 _).mono B1.out.size)
  have Q2 : Hid ((W2.heap.size = w1.heap.size + 1) ∧ W2.cell? ⟨w1.heap.size, 0, none⟩ = some (.string n0) ∧ W2.cell? ⟨w1.heap.size, 1, none⟩ = some (.string d0) ∧ W2.cell? ⟨w1.heap.size, 2, none⟩ = some (.string n1) ∧ W2.cell? ⟨w1.heap.size, 3, none⟩ = some (.string d1) ∧ W2.cell? ⟨w1.heap.size, 4, none⟩ = some (.string n2) ∧ W2.cell? ⟨w1.heap.size, 5, none⟩ = some (.string d2) ∧ W2.cell? ⟨w1.heap.size, 6, none⟩ = some (.string n3) ∧ W2.cell? ⟨w1.heap.size, 7, none⟩ = some (.string d3) ∧ W2.cell? ⟨w1.heap.size, 8, none⟩ = some (.string n4) ∧ W2.cell? ⟨w1.heap.size, 9, none⟩ = some (.string d4) ∧ W2.cell? ⟨w1.heap.size, 10, none⟩ = some (.string n5) ∧ W2.cell? ⟨w1.heap.size, 11, none⟩ = some (.string d5) ∧ W2.cell? ⟨w1.heap.size, 12, none⟩ = some (.string n6) ∧ W2.cell? ⟨w1.heap.size, 13, none⟩ = some (.string d6)) := by
    unfold Hid
    exact ⟨by rw [← hW2]; simp, by rw [← hW2, World.cell?_alloc_at _ _ _ _ rfl]; rfl, by rw [← hW2, World.cell?_alloc_at _ _ _ _ rfl]; rfl, by rw [← hW2, World.cell?_alloc_at _ _ _ _ rfl]; rfl, by rw [← hW2, World.cell?_alloc_at _ _ _ _ rfl]; rfl, by rw [← hW2, World.cell?_alloc_at _ _ _ _ rfl]; rfl, by rw [← hW2, World.cell?_alloc_at _ _ _ _ rfl]; rfl, by rw [← hW2, World.cell?_alloc_at _ _ _ _ rfl]; rfl, by rw [← hW2, World.cell?_alloc_at _ _ _ _ rfl]; rfl, by rw [← hW2, World.cell?_alloc_at _ _ _ _ rfl]; rfl, by rw [← hW2, World.cell?_alloc_at _ _ _ _ rfl]; rfl, by rw [← hW2, World.cell?_alloc_at _ _ _ _ rfl]; rfl, by rw [← hW2, World.cell?_alloc_at _ _ _ _ rfl]; rfl, by rw [← hW2, World.cell?_alloc_at _ _ _ _ rfl]; rfl, by rw [← hW2, World.cell?_alloc_at _ _ _ _ rfl]; rfl⟩
  go_wp2_with fail
  clear hW2
  refine (C2.out W2 (H.out.below B2.out) (Go.Joins.tab_stays gPow HP.out B2.out (Nat.le_refl _))).mono ?_
  rintro e w3 ⟨rfl, b3⟩
  have B3 := Lib.hid (B2.out.trans (b3.mono B2.out.size))
  have lt : w1.heap.size < W2.heap.size := by have := Q2.out.1; omega
  have k := fun (o : Nat) => b3.cell (p := ⟨w1.heap.size, o, none⟩) lt
  have s3 : w1.heap.size < w3.heap.size := Nat.lt_of_lt_of_le lt b3.size
  obtain ⟨W4, hW4⟩ : ∃ W4, w3.alloc (.cells #[.string n0, .string d0, .string n1, .string d1, .string n2, .string d2, .string n3, .string d3, .string n4, .string d4, .string n5, .string d5, .string n6, .string d6] 36) = W4 := ⟨_, rfl⟩
  have B4 : Hid (Below w.heap.size w W4) := by unfold Hid; rw [← hW4]; exact B3.out.trans ((bel_one' w3 _).mono B3.out.size)
  have k4 := fun (o : Nat) => (bel_one' w3 (.cells #[.string n0, .string d0, .string n1, .string d1, .string n2, .string d2, .string n3, .string d3, .string n4, .string d4, .string n5, .string d5, .string n6, .string d6] 36)).cell (p := ⟨w1.heap.size, o, none⟩) s3
  rw [hW4] at k4
  have Q4 : W4.cell? ⟨w1.heap.size, 0, none⟩ = some (.string n0) ∧ W4.cell? ⟨w1.heap.size, 1, none⟩ = some (.string d0) ∧ W4.cell? ⟨w1.heap.size, 2, none⟩ = some (.string n1) ∧ W4.cell? ⟨w1.heap.size, 3, none⟩ = some (.string d1) ∧ W4.cell? ⟨w1.heap.size, 4, none⟩ = some (.string n2) ∧ W4.cell? ⟨w1.heap.size, 5, none⟩ = some (.string d2) ∧ W4.cell? ⟨w1.heap.size, 6, none⟩ = some (.string n3) ∧ W4.cell? ⟨w1.heap.size, 7, none⟩ = some (.string d3) ∧ W4.cell? ⟨w1.heap.size, 8, none⟩ = some (.string n4) ∧ W4.cell? ⟨w1.heap.size, 9, none⟩ = some (.string d4) ∧ W4.cell? ⟨w1.heap.size, 10, none⟩ = some (.string n5) ∧ W4.cell? ⟨w1.heap.size, 11, none⟩ = some (.string d5) ∧ W4.cell? ⟨w1.heap.size, 12, none⟩ = some (.string n6) ∧ W4.cell? ⟨w1.heap.size, 13, none⟩ = some (.string d6) := by
    obtain ⟨_, q0, q1, q2, q3, q4, q5, q6, q7, q8, q9, q10, q11, q12, q13⟩ := Q2.out
    exact ⟨(k4 _).trans ((k _).trans q0), (k4 _).trans ((k _).trans q1), (k4 _).trans ((k _).trans q2), (k4 _).trans ((k _).trans q3), (k4 _).trans ((k _).trans q4), (k4 _).trans ((k _).trans q5), (k4 _).trans ((k _).trans q6), (k4 _).trans ((k _).trans q7), (k4 _).trans ((k _).trans q8), (k4 _).trans ((k _).trans q9), (k4 _).trans ((k _).trans q10), (k4 _).trans ((k _).trans q11), (k4 _).trans ((k _).trans q12), (k4 _).trans ((k _).trans q13)⟩
  have Q5 : W4.cell? ⟨w3.heap.size, 0, none⟩ = some (.string n0) ∧ W4.cell? ⟨w3.heap.size, 1, none⟩ = some (.string d0) ∧ W4.cell? ⟨w3.heap.size, 2, none⟩ = some (.string n1) ∧ W4.cell? ⟨w3.heap.size, 3, none⟩ = some (.string d1) ∧ W4.cell? ⟨w3.heap.size, 4, none⟩ = some (.string n2) ∧ W4.cell? ⟨w3.heap.size, 5, none⟩ = some (.string d2) ∧ W4.cell? ⟨w3.heap.size, 6, none⟩ = some (.string n3) ∧ W4.cell? ⟨w3.heap.size, 7, none⟩ = some (.string d3) ∧ W4.cell? ⟨w3.heap.size, 8, none⟩ = some (.string n4) ∧ W4.cell? ⟨w3.heap.size, 9, none⟩ = some (.string d4) ∧ W4.cell? ⟨w3.heap.size, 10, none⟩ = some (.string n5) ∧ W4.cell? ⟨w3.heap.size, 11, none⟩ = some (.string d5) ∧ W4.cell? ⟨w3.heap.size, 12, none⟩ = some (.string n6) ∧ W4.cell? ⟨w3.heap.size, 13, none⟩ = some (.string d6) := ⟨by rw [← hW4, World.cell?_alloc_at _ _ _ _ rfl]; rfl, by rw [← hW4, World.cell?_alloc_at _ _ _ _ rfl]; rfl, by rw [← hW4, World.cell?_alloc_at _ _ _ _ rfl]; rfl, by rw [← hW4, World.cell?_alloc_at _ _ _ _ rfl]; rfl, by rw [← hW4, World.cell?_alloc_at _ _ _ _ rfl]; rfl, by rw [← hW4, World.cell?_alloc_at _ _ _ _ rfl]; rfl, by rw [← hW4, World.cell?_alloc_at _ _ _ _ rfl]; rfl, by rw [← hW4, World.cell?_alloc_at _ _ _ _ rfl]; rfl, by rw [← hW4, World.cell?_alloc_at _ _ _ _ rfl]; rfl, by rw [← hW4, World.cell?_alloc_at _ _ _ _ rfl]; rfl, by rw [← hW4, World.cell?_alloc_at _ _ _ _ rfl]; rfl, by rw [← hW4, World.cell?_alloc_at _ _ _ _ rfl]; rfl, by rw [← hW4, World.cell?_alloc_at _ _ _ _ rfl]; rfl, by rw [← hW4, World.cell?_alloc_at _ _ _ _ rfl]; rfl⟩
  clear k k4 b3 lt s3 Q2
  go_wp2
  go_ret
  exact ⟨rfl, B4.out⟩
end Go.Proofs.YtfldlcnlijljcaaGreatDoor
namespace Go.Proofs.YtfldlcnlijljcaaGreatDoor
open Go.ChangeShapes Go.WideShapes Go.ChangeAt Go.RowKit Go.Joins

theorem laidOut : laidOutB Tryz.prog = true := by kernel_rfl
theorem own : ownKnob Tryz.prog.godebug = none := by kernel_rfl
theorem block_lt {W : World} {b o : Nat} {v : Value} (h : W.cell? ⟨b, o, none⟩ = some v) : b < W.heap.size := by
  rcases Nat.lt_or_ge b W.heap.size with l | l
  · exact l
  · simp [World.cell?, Array.getElem?_eq_none l] at h
theorem getD_take (zs : List Int) (n j : Nat) (h : j < n) : (zs.take n).getD j 0 = zs.getD j 0 := by
  simp [h]
set_option maxRecDepth 100000 in
theorem open_L {H : Type} {enc : TypeId × Value → H} {W : World} {b0 : Nat} {v : Value} {d : DataW H} {p : List MemPlace} (hv : Value.okWide Tryz.prog W .any b0 24 v) (h : DataW.Trod enc Tryz.prog W 0 (fun _ => true) true 24 v d p) :
    ∃ a l c, v = .slice a (List.length l) c ∧ Rd W a l ∧ (List.length l = 0 ∨ ∃ e s, d = .slice e s ∧ List.length l ≤ e.length) := by
  obtain ⟨a0, len, cap, rfl⟩ := okWide_slice Tryz.underlying24 hv
  obtain ⟨m, h⟩ := h
  rcases open_ints Tryz.underlying24 Tryz.underlying3 (by kernel_rfl) h with ⟨e3, _⟩ | ⟨x, l', c', zs, e3, _, hl, hm, hz, hx, hcell, _⟩
  · simp [Value.cells] at e3
    obtain ⟨rfl, rfl, rfl⟩ := e3
    exact ⟨none, [], 0, rfl, Rd.none_ W, .inl rfl⟩
  · simp [Value.cells] at e3
    obtain ⟨rfl, rfl, rfl⟩ := e3
    simp only [if_true] at hz
    by_cases hl0 : len = 0
    · subst hl0
      exact ⟨some x, [], cap, rfl, ⟨by simp, fun h => by simp at h⟩, .inl rfl⟩
    · obtain ⟨b, off, spot⟩ := x
      have hc := hcell 0 (by omega)
      have hspot : spot = none := by simpa [Addr.add] using World.cell?_spot hc
      subst hspot
      have hlen : (zs.take len).length = len := by simp; omega
      have hc' : ∀ i, i < zs.length → W.cell? ⟨b, off + i, none⟩ = some (.int .i64 (zs.getD i 0)) := fun i hi => by
        have e := hcell i hi
        unfold Addr.add at e
        split at e
        · rename_i h0; subst h0; simpa using e
        · exact e
      simp only [Prod.mk.injEq] at hx
      refine ⟨_, zs.take len, cap, by rw [hlen], ⟨by rw [hlen]; unfold maxLen at hm; omega, fun _ => ⟨b, off, rfl, block_lt (hc' 0 (by omega)), fun j hj => ?_⟩⟩, .inr ⟨_, _, hx.1, by simp [lits]⟩⟩
      rw [hlen] at hj
      unfold fn
      rw [getD_take _ _ _ hj]
      exact hc' j (by omega)
end Go.Proofs.YtfldlcnlijljcaaGreatDoor
