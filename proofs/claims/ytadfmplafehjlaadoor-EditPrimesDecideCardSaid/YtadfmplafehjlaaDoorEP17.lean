/-
  Package edit: join.
  Package edit: primes.
  Package edit: weights of fields; what the law of Least asks.
-/
import Derived.Test.YtadfmplafehjlaaDoorEP16
import Derived.Test.YtadfmplafehjlaaDoorEP15
namespace Go.Proofs.YtadfmplafehjlaaDoor
open Go.RowKit Go.WideMaps Go.Maps Go.Shelf

attribute [local go_sem] Oper.semAt_some

/-- The outcome of join. -/
def JoinP (w0 : World) (s p base : Nat) (l : List Fd) (E : List Ed) (pa : Option Addr) (pc : Nat) (L : List (Nat → Nat)) (A B : Nat → Nat) (e : Ending) (w' : World) : Prop :=
  ∃ M, PrI w0 s p base l E pa pc (L ++ M) w' ∧ Good l E (L ++ M) ∧
    ((e = .returned (.bool true) ∧ (L ++ M).length ≤ 40 ∧ ∀ k, k < l.length → emB l (joB A B k) = false → Cov (L ++ M) (joB A B k)) ∨ e = .returned (.bool false))
set_option maxRecDepth 100000 in
set_option maxHeartbeats 8000000 in
theorem join_c (w0 : World) (s p base : Nat) (l : List Fd) (E : List Ed) (pa : Option Addr) (pc : Nat) (L : List (Nat → Nat)) (A B : Nat → Nat) (w : World) (hI : PrI w0 s p base l E pa pc L w) (hok : Ok l E) (hG : Good l E L) (hL : L.length ≤ 40)
    (hA : Vb l A ∧ Clo l E A) (hB : Vb l B ∧ Clo l E B) :
    Calls Tryd.prog 66 #[.pointer (some ⟨s, 0, none⟩), bxV A, bxV B] w (JoinP w0 s p base l E pa pc L A B) := by
  have mixed : Tryd.prog.follows .mixedOrders = true := by kernel_rfl
  obtain ⟨W1, hW1⟩ : ∃ V, w.alloc (.cells #[.int .u64 (A 0), .int .u64 (A 1), .int .u64 (A 2), .int .u64 (A 3), .int .u64 (A 4), .int .u64 (A 5), .int .u64 (A 6), .int .u64 (A 7), .int .u64 (A 8), .int .u64 (A 9), .int .u64 (A 10), .int .u64 (A 11)] 57) = V := ⟨_, rfl⟩
  obtain ⟨W2, hW2⟩ : ∃ V, W1.alloc (.cells #[.int .u64 (B 0), .int .u64 (B 1), .int .u64 (B 2), .int .u64 (B 3), .int .u64 (B 4), .int .u64 (B 5), .int .u64 (B 6), .int .u64 (B 7), .int .u64 (B 8), .int .u64 (B 9), .int .u64 (B 10), .int .u64 (B 11)] 57) = V := ⟨_, rfl⟩
  obtain ⟨z0, hz0⟩ : ∃ q, w.heap.size = q := ⟨_, rfl⟩
  obtain ⟨z1, hz1⟩ : ∃ q, W1.heap.size = q := ⟨_, rfl⟩
  have b1 : Below w.heap.size w W1 := by rw [← hW1]; exact bel_one _ _
  have b2 : Below W1.heap.size W1 W2 := by rw [← hW2]; exact bel_one _ _
  have s1 : z1 = z0 + 1 := by rw [← hz1, ← hW1, ← hz0]; simp
  have a1 : BxAt W1 z0 0 A := by rw [← hW1, ← hz0]; exact bx_made w A
  have a2 : BxAt W2 z1 0 B := by rw [← hW2, ← hz1]; exact bx_made W1 B
  have I2 := hI.below (b1.trans (b2.mono b1.size))
  have a3 := a1.below b2 (by omega)
  have HI2 := Lib.hid I2
  obtain ⟨v, hv, ho⟩ := hI.ex
  have NO : Hid (∀ b, SO s W2 b → b < z0) := fun b ⟨u, e1, e2⟩ => by
    have e3 := (b1.trans (b2.mono b1.size)).cell (p := ⟨s, 2, none⟩) (show s < w.heap.size from cellLt hI.c0)
    rw [e3, hv] at e1
    injection e1 with e1
    subst e1
    have := (ho.lt b e2).2
    omega
  have SN : Hid (s < z0 ∧ z1 = z0 + 1 ∧ w.heap.size = z0) := ⟨by rw [← hz0]; exact cellLt hI.c0, s1, hz0⟩
  have KA : Hid (∀ V, Kg (fun b => b = s) (SO s) W2 V → BxAt V z0 0 A ∧ BxAt V z1 0 B) := fun V hV => by
    have := SN.out
    refine ⟨fun i hi => hV.cell (a3 i hi) (by show z0 ≠ s; omega) (fun q => by have := NO.out _ q; have : z0 < z0 := this; omega), fun i hi => hV.cell (a2 i hi) (by show z1 ≠ s; omega) (fun q => by have := NO.out _ q; have : z1 < z0 := this; omega)⟩
  have HOK := Lib.hid hok
  have HG := Lib.hid hG
  have HA := Lib.hid hA
  have HB := Lib.hid hB
  have HLL := Lib.hid hL
  obtain ⟨n, hn⟩ : ∃ n, l.length = n := ⟨_, rfl⟩
  have HN := Lib.hid hn
  have n12 : n ≤ 12 := by rw [← hn]; exact hok.n12
  have d0 := I2.c0
  obtain ⟨fb, fc, e0, _, _⟩ := I2.pm.pl.fs
  rw [hn] at e0
  unfold bxV
  clear b1 b2 a1 a2 a3 s1 hI hok hG hL hA hB hv ho I2
  go_enter Tryd.func66, Tryd.ntmps66
  go_wp2_with fail
  clear hW1 hW2 d0 e0
  go_loopw [7, 8, 17] (fun _ _ iv wr => ∃ (k : Nat) (M : List (Nat → Nat)), iv = .int .i64 k ∧ Hid (k ≤ n ∧ PrI w0 s p base l E pa pc (L ++ M) wr ∧ Good l E (L ++ M) ∧ (L ++ M).length ≤ 40 ∧ Kg (fun b => b = s) (SO s) W2 wr ∧ ∀ q, q < k → emB l (joB A B q) = false → Cov (L ++ M) (joB A B q))) (fun _ _ iv _ => n - (intOf iv).toNat)
  case atStart => exact ⟨0, [], rfl, Nat.zero_le _, by rw [List.append_nil]; exact HI2.out, by rw [List.append_nil]; exact HG.out, by rw [List.append_nil]; exact HLL.out, Kg.of_below (Below.refl _ _) (fun _ q => q), fun q hq => absurd hq (by omega)⟩
  case round =>
    obtain ⟨k, M, rfl, hS⟩ := hrel
    obtain ⟨hk, hI, hG, hLn, hkg, hcv⟩ := hS.out
    have HI := Lib.hid hI
    have HGM := Lib.hid hG
    have HLM := Lib.hid hLn
    have HKG := Lib.hid hkg
    have HCV := Lib.hid hcv
    by_cases hlt : k < n
    · have hlt' : (k : Int) < (n : Int) := by omega
      have hk0 : (0 : Int) ≤ (k : Int) := by omega
      obtain ⟨AX, BX⟩ := KA.out wr hkg
      have x0 := AX 0 (by decide)
      have x1 := AX 1 (by decide)
      have x2 := AX 2 (by decide)
      have x3 := AX 3 (by decide)
      have x4 := AX 4 (by decide)
      have x5 := AX 5 (by decide)
      have x6 := AX 6 (by decide)
      have x7 := AX 7 (by decide)
      have x8 := AX 8 (by decide)
      have x9 := AX 9 (by decide)
      have x10 := AX 10 (by decide)
      have x11 := AX 11 (by decide)
      simp only [Nat.zero_add] at x0 x1 x2 x3 x4 x5 x6 x7 x8 x9 x10 x11
      have y0 := BX 0 (by decide)
      have y1 := BX 1 (by decide)
      have y2 := BX 2 (by decide)
      have y3 := BX 3 (by decide)
      have y4 := BX 4 (by decide)
      have y5 := BX 5 (by decide)
      have y6 := BX 6 (by decide)
      have y7 := BX 7 (by decide)
      have y8 := BX 8 (by decide)
      have y9 := BX 9 (by decide)
      have y10 := BX 10 (by decide)
      have y11 := BX 11 (by decide)
      simp only [Nat.zero_add] at y0 y1 y2 y3 y4 y5 y6 y7 y8 y9 y10 y11
      have C1 := Lib.hid (joined_c A B k wr (vb_20 HOK.out HA.out.1) (vb_20 HOK.out HB.out.1) (by omega))
      obtain ⟨J, hJ⟩ : ∃ J, joB A B k = J := ⟨_, rfl⟩
      have HJ := Lib.hid hJ
      rw [hJ] at C1
      unfold bxV at C1
      obtain ⟨wo, hwo⟩ : ∃ V : World, V = wr := ⟨_, rfl⟩
      subst hwo
      clear hS hk hI hG hLn hkg hcv AX BX hJ
      go_wp2_with fail
      refine C1.out.mono ?_
      rintro e1 w2 ⟨rfl, b2⟩
      have B2 := Lib.hid b2
      obtain ⟨W3, hW3⟩ : ∃ V, w2.alloc (.cells #[.int .u64 0, .int .u64 0, .int .u64 0, .int .u64 0, .int .u64 0, .int .u64 0, .int .u64 0, .int .u64 0, .int .u64 0, .int .u64 0, .int .u64 0, .int .u64 0] 57) = V := ⟨_, rfl⟩
      obtain ⟨z, hz⟩ : ∃ q, w2.heap.size = q := ⟨_, rfl⟩
      obtain ⟨W4, hW4⟩ : ∃ V, putB W3 z J 12 = V := ⟨_, rfl⟩
      have ZZ : BxAt W3 z 0 (fun _ => 0) := by rw [← hW3, ← hz]; exact bx_made w2 (fun _ => 0)
      have ZF : ∀ o, W3.frozen? ⟨z, o, none⟩ = false := fun o => by rw [← hW3, ← hz]; simp
      have RX : Hid (BxAt W4 z 0 J) := by unfold Hid; rw [← hW4]; exact bx_set12 ZZ J
      have b3 : Below w2.heap.size w2 W3 := by rw [← hW3]; exact bel_one _ _
      have B4 : Hid (Below wo.heap.size wo W4) := by
        unfold Hid
        rw [← hW4]
        exact putB_below (b2.trans (b3.mono b2.size)) (by rw [← hz]; exact b2.size) J 12
      have I4 := Lib.hid (HI.out.below B4.out)
      have K4 := Lib.hid (HKG.out.trans (HI.out.kg B4.out))
      have HJX : Hid (∀ V, Below W4.heap.size W4 V → BxAt V z 0 J) := fun V hV => RX.out.below hV (cellLt (RX.out 0 (by decide)))
      have HS : Hid (∀ V, Below W4.heap.size W4 V → S1e ⟨s, 0, none⟩ (.pointer (some ⟨p, 0, none⟩)) V) := fun V hV => (I4.out.below hV).c0
      have C5 : Hid (∀ V, Below W4.heap.size W4 V → Calls Tryd.prog 53 #[.pointer (some ⟨p, 0, none⟩), bxV J] V fun e w' => e = .returned (.bool (emB l J)) ∧ Below V.heap.size V w') := fun V hV =>
        isEmpty_c p l E J V (I4.out.below hV).pm.pl HOK.out.n12
      have CA : Hid (∀ V, Below W4.heap.size W4 V → emB l J = false → Calls Tryd.prog 65 #[.pointer (some ⟨s, 0, none⟩), .pointer (some ⟨z, 0, none⟩)] V fun e w' => ∃ (t : Bool) (M2 : List (Nat → Nat)), e = .returned (.bool t) ∧ Hid (t = decide ((L ++ M ++ M2).length ≤ 40)) ∧ Kg (fun b => b = s) (SO s) V w' ∧ PrI w0 s p base l E pa pc (L ++ M ++ M2) w' ∧ Good l E (L ++ M ++ M2) ∧ Cov (L ++ M ++ M2) J) := fun V hV he => by
        have hsl : s < wo.heap.size := cellLt HI.out.c0
        obtain ⟨u, hu, huo⟩ := HI.out.ex
        have hz2 := B2.out.size
        refine (add_c w0 s p base l E pa pc (L ++ M) z 0 J V (I4.out.below hV) HOK.out HGM.out HLM.out (HJX.out V hV) (by omega) (fun v e q => ?_) ?_ ?_).mono fun e w' ⟨k6, M2, he, _, i6, g6, c6⟩ => ⟨_, M2, he, rfl, k6, i6, g6, c6⟩
        · have e3 := (B4.out.trans (hV.mono B4.out.size)).cell (p := ⟨s, 2, none⟩) hsl
          rw [e3, hu] at e
          injection e with e
          subst e
          have := (huo.lt z q).2
          omega
        · rw [← HJ.out] at he ⊢; exact jo_vb HA.out.1 HB.out.1 he
        · rw [← HJ.out]; exact jo_clo HOK.out HA.out.2 HB.out.2 (by rw [HN.out]; exact hlt)
      simp only [putB] at hW4
      clear b2 b3 x0 x1 x2 x3 x4 x5 x6 x7 x8 x9 x10 x11 y0 y1 y2 y3 y4 y5 y6 y7 y8 y9 y10 y11
      have q0 := ZZ 0 (by decide)
      have q1 := ZZ 1 (by decide)
      have q2 := ZZ 2 (by decide)
      have q3 := ZZ 3 (by decide)
      have q4 := ZZ 4 (by decide)
      have q5 := ZZ 5 (by decide)
      have q6 := ZZ 6 (by decide)
      have q7 := ZZ 7 (by decide)
      have q8 := ZZ 8 (by decide)
      have q9 := ZZ 9 (by decide)
      have q10 := ZZ 10 (by decide)
      have q11 := ZZ 11 (by decide)
      simp only [Nat.zero_add] at q0 q1 q2 q3 q4 q5 q6 q7 q8 q9 q10 q11
      clear ZZ
      go_wp2_with fail
      clear hW3 hW4 ZF q0 q1 q2 q3 q4 q5 q6 q7 q8 q9 q10 q11
      obtain ⟨em, hem⟩ : ∃ t, emB l J = t := ⟨_, rfl⟩
      have HEM := Lib.hid hem
      rw [hem] at C5 CA
      unfold bxV at C5
      clear hem
      cases em with
      | true =>
        refine wp_region_noPanic ?_
        refine wp_region_held_drew (S := (S1e ⟨s, 0, none⟩ (.pointer (some ⟨p, 0, none⟩)))) (by kernel_rfl) (by exact HS.out _ (Below.refl _ _).drew) (fun hS => ?_)
        obtain ⟨WD, hWD⟩ : ∃ W, W4.drew = W := ⟨_, rfl⟩
        have D0 : Hid (Below W4.heap.size W4 WD) := by unfold Hid; rw [← hWD]; exact (Below.refl _ _).drew
        rw [hWD] at hS ⊢
        clear hWD
        refine wpAnyH_take (i := 0) (v := ?v0a0t) rfl (by kernel_rfl) (by kernel_rfl) (by kernel_rfl) (fun _ _ _ h => h) (Or.inl ⟨by rfl, ?hy0a0t⟩) (by assumption) ?rest0a0t
        case hy0a0t =>
          intro w hSw
          dsimp only [S1e] at hSw
          go_simp
          try with_reducible rfl
        simp only [Act.put, List.getElem_toArray, List.getElem_cons_succ, List.getElem_cons_zero, List.setIfInBounds_toArray, List.set_cons_zero, List.set_cons_succ]
        refine wpAnyH_take (i := 1) (v := ?v1a1t) rfl (by kernel_rfl) (by kernel_rfl) (by kernel_rfl) (fun _ _ _ h => h) (Or.inl ⟨by rfl, ?hy1a1t⟩) (by assumption) ?rest1a1t
        case hy1a1t =>
          intro w hSw
          dsimp only [S1e] at hSw
          go_simp
          try with_reducible rfl
        simp only [Act.put, List.getElem_toArray, List.getElem_cons_succ, List.getElem_cons_zero, List.setIfInBounds_toArray, List.set_cons_zero, List.set_cons_succ]
        refine wpAnyH_take (i := 2) (v := ?v2a2t) rfl (by kernel_rfl) (by kernel_rfl) (by kernel_rfl) (fun _ _ _ h => h) (Or.inl ⟨by rfl, ?hy2a2t⟩) (by assumption) ?rest2a2t
        case hy2a2t =>
          intro w hSw
          dsimp only [S1e] at hSw
          go_simp
          try with_reducible rfl
        simp only [Act.put, List.getElem_toArray, List.getElem_cons_succ, List.getElem_cons_zero, List.setIfInBounds_toArray, List.set_cons_zero, List.set_cons_succ]
        refine wpAnyH_take (i := 3) (v := ?v3a3t) rfl (by kernel_rfl) (by kernel_rfl) (by kernel_rfl) (fun _ _ _ h => h) (Or.inl ⟨by rfl, ?hy3a3t⟩) (by assumption) ?rest3a3t
        case hy3a3t =>
          intro w hSw
          dsimp only [S1e] at hSw
          go_simp
          try with_reducible rfl
        simp only [Act.put, List.getElem_toArray, List.getElem_cons_succ, List.getElem_cons_zero, List.setIfInBounds_toArray, List.set_cons_zero, List.set_cons_succ]
        refine wpAnyH_ready (rs := [4]) (by kernel_rfl) (by simp) ?_
        refine AllReadyH.cons rfl (fun K hK => ?_) AllReadyH.nil
        have JX := HJX.out WD D0.out
        have j0 := JX 0 (by decide)
        have j1 := JX 1 (by decide)
        have j2 := JX 2 (by decide)
        have j3 := JX 3 (by decide)
        have j4 := JX 4 (by decide)
        have j5 := JX 5 (by decide)
        have j6 := JX 6 (by decide)
        have j7 := JX 7 (by decide)
        have j8 := JX 8 (by decide)
        have j9 := JX 9 (by decide)
        have j10 := JX 10 (by decide)
        have j11 := JX 11 (by decide)
        simp only [Nat.zero_add] at j0 j1 j2 j3 j4 j5 j6 j7 j8 j9 j10 j11
        go_simp
        refine hK _ _ hS (fun _ => ?_)
        clear hK K JX j0 j1 j2 j3 j4 j5 j6 j7 j8 j9 j10 j11
        try simp only [Act.put, List.setIfInBounds_toArray, List.set_cons_zero, List.set_cons_succ]
        refine wpAnyH_ready (rs := [5]) (by kernel_rfl) (by simp) ?_
        refine AllReadyH.cons rfl (fun K hK => ?_) AllReadyH.nil
        go_simp
        refine (C5.out WD D0.out).mono ?_
        rintro e1 w5 ⟨rfl, b5⟩
        try go_simp
        have D5 : Hid (Below W4.heap.size W4 w5) := D0.out.trans (b5.mono D0.out.size)
        clear b5
        have hT := HS.out w5 D5.out
        refine hK _ _ hT (fun _ => ?_)
        clear hK K hT
        try simp only [Act.put, List.setIfInBounds_toArray, List.set_cons_zero, List.set_cons_succ]
        refine wpAnyH_take (i := 6) (v := ?v6b6t) rfl (by kernel_rfl) (by kernel_rfl) (by kernel_rfl) (fun _ _ _ h => h) (Or.inl ⟨by rfl, ?hy6b6t⟩) (by assumption) ?rest6b6t
        case hy6b6t =>
          intro w hSw
          dsimp only [S1e] at hSw
          go_simp
          try with_reducible rfl
        simp only [Act.put, List.getElem_toArray, List.getElem_cons_succ, List.getElem_cons_zero, List.setIfInBounds_toArray, List.set_cons_zero, List.set_cons_succ]
        refine wpAnyH_take (i := 7) (v := ?v7b7t) rfl (by kernel_rfl) (by kernel_rfl) (by kernel_rfl) (fun _ _ _ h => h) (Or.inl ⟨by rfl, ?hy7b7t⟩) (by assumption) ?rest7b7t
        case hy7b7t =>
          intro w hSw
          dsimp only [S1e] at hSw
          go_simp
          try with_reducible rfl
        simp only [Act.put, List.getElem_toArray, List.getElem_cons_succ, List.getElem_cons_zero, List.setIfInBounds_toArray, List.set_cons_zero, List.set_cons_succ]
        refine wpAnyH_take (i := 8) (v := undef) rfl (by kernel_rfl) (by kernel_rfl) (by kernel_rfl) (fun _ _ _ h => h) (Or.inr ⟨by rfl, rfl⟩) (by assumption) ?rest8t
        simp only [Act.put, List.getElem_toArray, List.getElem_cons_succ, List.getElem_cons_zero, List.setIfInBounds_toArray, List.set_cons_zero, List.set_cons_succ]
        refine wpAnyH_take (i := 9) (v := undef) rfl (by kernel_rfl) (by kernel_rfl) (by kernel_rfl) (fun _ _ _ h => h) (Or.inr ⟨by rfl, rfl⟩) (by assumption) ?rest9t
        simp only [Act.put, List.getElem_toArray, List.getElem_cons_succ, List.getElem_cons_zero, List.setIfInBounds_toArray, List.set_cons_zero, List.set_cons_succ]
        refine wpAnyH_take (i := 10) (v := undef) rfl (by kernel_rfl) (by kernel_rfl) (by kernel_rfl) (fun _ _ _ h => h) (Or.inr ⟨by rfl, rfl⟩) (by assumption) ?rest10t
        simp only [Act.put, List.getElem_toArray, List.getElem_cons_succ, List.getElem_cons_zero, List.setIfInBounds_toArray, List.set_cons_zero, List.set_cons_succ]
        refine wpAnyH_take (i := 11) (v := ?v11ct) rfl (by kernel_rfl) (by kernel_rfl) (by kernel_rfl) (fun _ _ _ h => h) (Or.inl ⟨by rfl, ?hy11ct⟩) (by assumption) ?rest11ct
        case hy11ct =>
          intro w hSw
          dsimp only [S1e] at hSw
          go_simp
          try with_reducible rfl
        simp only [Act.put, List.getElem_toArray, List.getElem_cons_succ, List.getElem_cons_zero, List.setIfInBounds_toArray, List.set_cons_zero, List.set_cons_succ]
        refine wpAnyH_done (by kernel_rfl) ?_ _
        refine NoPanic.normal ?_
        have NX : Hid (k + 1 ≤ n ∧ PrI w0 s p base l E pa pc (L ++ M) w5 ∧ Good l E (L ++ M) ∧ (L ++ M).length ≤ 40 ∧ Kg (fun b => b = s) (SO s) W2 w5 ∧ ∀ q, q < k + 1 → emB l (joB A B q) = false → Cov (L ++ M) (joB A B q)) := by
          refine ⟨hlt, I4.out.below D5.out, HGM.out, HLM.out, K4.out.trans (I4.out.kg D5.out), fun q hq he => ?_⟩
          by_cases e : q = k
          · subst e
            rw [HJ.out, HEM.out] at he; cases he
          · exact HCV.out q (by omega) he
        clear hS C5 CA HS
        go_wp2_with fail
        go_roundw
        case rel => exact ⟨k + 1, M, by go_num, NX.out⟩
        case measure => simp [intOf]; omega
      | false =>
        refine wp_region_noPanic ?_
        refine wp_region_held_drew (S := (S1e ⟨s, 0, none⟩ (.pointer (some ⟨p, 0, none⟩)))) (by kernel_rfl) (by exact HS.out _ (Below.refl _ _).drew) (fun hS => ?_)
        obtain ⟨WD, hWD⟩ : ∃ W, W4.drew = W := ⟨_, rfl⟩
        have D0 : Hid (Below W4.heap.size W4 WD) := by unfold Hid; rw [← hWD]; exact (Below.refl _ _).drew
        rw [hWD] at hS ⊢
        clear hWD
        refine wpAnyH_take (i := 0) (v := ?v0a0f) rfl (by kernel_rfl) (by kernel_rfl) (by kernel_rfl) (fun _ _ _ h => h) (Or.inl ⟨by rfl, ?hy0a0f⟩) (by assumption) ?rest0a0f
        case hy0a0f =>
          intro w hSw
          dsimp only [S1e] at hSw
          go_simp
          try with_reducible rfl
        simp only [Act.put, List.getElem_toArray, List.getElem_cons_succ, List.getElem_cons_zero, List.setIfInBounds_toArray, List.set_cons_zero, List.set_cons_succ]
        refine wpAnyH_take (i := 1) (v := ?v1a1f) rfl (by kernel_rfl) (by kernel_rfl) (by kernel_rfl) (fun _ _ _ h => h) (Or.inl ⟨by rfl, ?hy1a1f⟩) (by assumption) ?rest1a1f
        case hy1a1f =>
          intro w hSw
          dsimp only [S1e] at hSw
          go_simp
          try with_reducible rfl
        simp only [Act.put, List.getElem_toArray, List.getElem_cons_succ, List.getElem_cons_zero, List.setIfInBounds_toArray, List.set_cons_zero, List.set_cons_succ]
        refine wpAnyH_take (i := 2) (v := ?v2a2f) rfl (by kernel_rfl) (by kernel_rfl) (by kernel_rfl) (fun _ _ _ h => h) (Or.inl ⟨by rfl, ?hy2a2f⟩) (by assumption) ?rest2a2f
        case hy2a2f =>
          intro w hSw
          dsimp only [S1e] at hSw
          go_simp
          try with_reducible rfl
        simp only [Act.put, List.getElem_toArray, List.getElem_cons_succ, List.getElem_cons_zero, List.setIfInBounds_toArray, List.set_cons_zero, List.set_cons_succ]
        refine wpAnyH_take (i := 3) (v := ?v3a3f) rfl (by kernel_rfl) (by kernel_rfl) (by kernel_rfl) (fun _ _ _ h => h) (Or.inl ⟨by rfl, ?hy3a3f⟩) (by assumption) ?rest3a3f
        case hy3a3f =>
          intro w hSw
          dsimp only [S1e] at hSw
          go_simp
          try with_reducible rfl
        simp only [Act.put, List.getElem_toArray, List.getElem_cons_succ, List.getElem_cons_zero, List.setIfInBounds_toArray, List.set_cons_zero, List.set_cons_succ]
        refine wpAnyH_ready (rs := [4]) (by kernel_rfl) (by simp) ?_
        refine AllReadyH.cons rfl (fun K hK => ?_) AllReadyH.nil
        have JX := HJX.out WD D0.out
        have j0 := JX 0 (by decide)
        have j1 := JX 1 (by decide)
        have j2 := JX 2 (by decide)
        have j3 := JX 3 (by decide)
        have j4 := JX 4 (by decide)
        have j5 := JX 5 (by decide)
        have j6 := JX 6 (by decide)
        have j7 := JX 7 (by decide)
        have j8 := JX 8 (by decide)
        have j9 := JX 9 (by decide)
        have j10 := JX 10 (by decide)
        have j11 := JX 11 (by decide)
        simp only [Nat.zero_add] at j0 j1 j2 j3 j4 j5 j6 j7 j8 j9 j10 j11
        go_simp
        refine hK _ _ hS (fun _ => ?_)
        clear hK K JX j0 j1 j2 j3 j4 j5 j6 j7 j8 j9 j10 j11
        try simp only [Act.put, List.setIfInBounds_toArray, List.set_cons_zero, List.set_cons_succ]
        refine wpAnyH_ready (rs := [5]) (by kernel_rfl) (by simp) ?_
        refine AllReadyH.cons rfl (fun K hK => ?_) AllReadyH.nil
        go_simp
        refine (C5.out WD D0.out).mono ?_
        rintro e1 w5 ⟨rfl, b5⟩
        try go_simp
        have D5 : Hid (Below W4.heap.size W4 w5) := D0.out.trans (b5.mono D0.out.size)
        clear b5
        have hT := HS.out w5 D5.out
        refine hK _ _ hT (fun _ => ?_)
        clear hK K hT
        try simp only [Act.put, List.setIfInBounds_toArray, List.set_cons_zero, List.set_cons_succ]
        refine wpAnyH_take (i := 6) (v := ?v6b6f) rfl (by kernel_rfl) (by kernel_rfl) (by kernel_rfl) (fun _ _ _ h => h) (Or.inl ⟨by rfl, ?hy6b6f⟩) (by assumption) ?rest6b6f
        case hy6b6f =>
          intro w hSw
          dsimp only [S1e] at hSw
          go_simp
          try with_reducible rfl
        simp only [Act.put, List.getElem_toArray, List.getElem_cons_succ, List.getElem_cons_zero, List.setIfInBounds_toArray, List.set_cons_zero, List.set_cons_succ]
        refine wpAnyH_take (i := 7) (v := ?v7b7f) rfl (by kernel_rfl) (by kernel_rfl) (by kernel_rfl) (fun _ _ _ h => h) (Or.inl ⟨by rfl, ?hy7b7f⟩) (by assumption) ?rest7b7f
        case hy7b7f =>
          intro w hSw
          dsimp only [S1e] at hSw
          go_simp
          try with_reducible rfl
        simp only [Act.put, List.getElem_toArray, List.getElem_cons_succ, List.getElem_cons_zero, List.setIfInBounds_toArray, List.set_cons_zero, List.set_cons_succ]
        refine wpAnyH_take (i := 8) (v := ?v8cf) rfl (by kernel_rfl) (by kernel_rfl) (by kernel_rfl) (fun _ _ _ h => h) (Or.inl ⟨by rfl, ?hy8cf⟩) (by assumption) ?rest8cf
        case hy8cf =>
          intro w hSw
          dsimp only [S1e] at hSw
          go_simp
          try with_reducible rfl
        simp only [Act.put, List.getElem_toArray, List.getElem_cons_succ, List.getElem_cons_zero, List.setIfInBounds_toArray, List.set_cons_zero, List.set_cons_succ]
        refine wpAnyH_ready (rs := [9]) (by kernel_rfl) (by simp) ?_
        refine AllReadyH.cons rfl (fun K hK => ?_) AllReadyH.nil
        go_simp
        refine (CA.out w5 D5.out rfl).mono ?_
        rintro e1 w6 ⟨t, M2, rfl, HT, k6, i6, g6, cov6⟩
        try go_simp
        have I6 := Lib.hid i6
        have K6 := Lib.hid k6
        have G6 := Lib.hid g6
        have V6 := Lib.hid cov6
        clear k6 i6 g6 cov6
        have hT := I6.out.c0
        refine hK _ _ hT (fun _ => ?_)
        clear hK K hT
        try simp only [Act.put, List.setIfInBounds_toArray, List.set_cons_zero, List.set_cons_succ]
        refine wpAnyH_take (i := 10) (v := ?v10df) rfl (by kernel_rfl) (by kernel_rfl) (by kernel_rfl) (fun _ _ _ h => h) (Or.inl ⟨by rfl, ?hy10df⟩) (by assumption) ?rest10df
        case hy10df =>
          intro w hSw
          dsimp only [S1e] at hSw
          go_simp
          try with_reducible rfl
        simp only [Act.put, List.getElem_toArray, List.getElem_cons_succ, List.getElem_cons_zero, List.setIfInBounds_toArray, List.set_cons_zero, List.set_cons_succ]
        refine wpAnyH_take (i := 11) (v := ?v11ef) rfl (by kernel_rfl) (by kernel_rfl) (by kernel_rfl) (fun _ _ _ h => h) (Or.inl ⟨by rfl, ?hy11ef⟩) (by assumption) ?rest11ef
        case hy11ef =>
          intro w hSw
          dsimp only [S1e] at hSw
          go_simp
          try with_reducible rfl
        simp only [Act.put, List.getElem_toArray, List.getElem_cons_succ, List.getElem_cons_zero, List.setIfInBounds_toArray, List.set_cons_zero, List.set_cons_succ]
        refine wpAnyH_done (by kernel_rfl) ?_ _
        refine NoPanic.normal ?_
        have IA : Hid (PrI w0 s p base l E pa pc (L ++ (M ++ M2)) w6 ∧ Good l E (L ++ (M ++ M2))) := by
          unfold Hid; rw [← List.append_assoc]; exact ⟨I6.out, G6.out⟩
        cases t with
        | true =>
          have NX : Hid (k + 1 ≤ n ∧ PrI w0 s p base l E pa pc (L ++ (M ++ M2)) w6 ∧ Good l E (L ++ (M ++ M2)) ∧ (L ++ (M ++ M2)).length ≤ 40 ∧ Kg (fun b => b = s) (SO s) W2 w6 ∧ ∀ q, q < k + 1 → emB l (joB A B q) = false → Cov (L ++ (M ++ M2)) (joB A B q)) := by
            refine ⟨hlt, IA.out.1, IA.out.2, ?_, (K4.out.trans (I4.out.kg D5.out)).trans K6.out, fun q hq he => ?_⟩
            · rw [← List.append_assoc]; exact of_decide_eq_true HT.out.symm
            · rw [← List.append_assoc]
              by_cases e : q = k
              · subst e
                rw [HJ.out]; exact V6.out
              · exact (HCV.out q (by omega) he).app M2
          clear hS C5 CA HS
          go_wp2_with fail
          go_roundw
          case rel => exact ⟨k + 1, M ++ M2, by go_num, NX.out⟩
          case measure => simp [intOf]; omega
        | false =>
          have PP : Hid (JoinP w0 s p base l E pa pc L A B (.returned (.bool false)) w6) := ⟨M ++ M2, IA.out.1, IA.out.2, .inr rfl⟩
          clear hS C5 CA HS
          go_wp2_with fail
          go_ret
          exact PP.out
    · have hlt' : ¬ (k : Int) < (n : Int) := by omega
      have PP : Hid (JoinP w0 s p base l E pa pc L A B (.returned (.bool true)) wr) := by
        refine ⟨M, hI, hG, .inl ⟨rfl, hLn, fun q hq he => hcv q (by rw [HN.out] at hq; omega) he⟩⟩
      clear hS hk hI hG hLn hkg hcv hlt
      go_wp2_with fail
      go_ret
      exact PP.out
end Go.Proofs.YtadfmplafehjlaaDoor
namespace Go.Proofs.YtadfmplafehjlaaDoor
open Go.RowKit Go.WideMaps Go.Maps Go.Shelf

attribute [local go_sem] Oper.semAt_some

/-- The joint boxes of two boxes that are found are covered. -/
def JC (l : List Fd) (L : List (Nat → Nat)) (a b : Nat) : Prop := ∀ k, k < l.length → emB l (joB (bxAt L a) (bxAt L b) k) = false → Cov L (joB (bxAt L a) (bxAt L b) k)
theorem bx_app {L M : List (Nat → Nat)} {a : Nat} (h : a < L.length) : bxAt (L ++ M) a = bxAt L a := by
  unfold bxAt
  rw [List.getD_eq_getElem?_getD, List.getD_eq_getElem?_getD, List.getElem?_append_left h]
theorem JC.app {l : List Fd} {L : List (Nat → Nat)} {a b : Nat} (h : JC l L a b) (ha : a < L.length) (hb : b < L.length) (M : List (Nat → Nat)) : JC l (L ++ M) a b := fun k hk he => by
  rw [bx_app ha, bx_app hb] at he ⊢
  exact (h k hk he).app M
/-- Where the search for prime boxes stands. -/
def PmI (w2 : World) (s p base : Nat) (l : List Fd) (E : List Ed) (pa : Option Addr) (pc m i j : Nat) (L : List (Nat → Nat)) (W : World) : Prop :=
  PrI w2 s p base l E pa pc L W ∧ Good l E L ∧ L.length ≤ 40 ∧ (∀ q, q < m → Cov L (ebS l E q)) ∧ (∀ a, a < i → ∀ b, b < a → JC l L a b) ∧ ∀ b, b < j → JC l L i b
section
variable {w2 W W' : World} {s p base : Nat} {l : List Fd} {E : List Ed} {pa : Option Addr} {pc m i j : Nat} {L M : List (Nat → Nat)}
theorem PmI.next (h : PmI w2 s p base l E pa pc m i i L W) : PmI w2 s p base l E pa pc m (i + 1) 0 L W :=
  ⟨h.1, h.2.1, h.2.2.1, h.2.2.2.1, fun a ha b hb => by
    by_cases e : a = i
    · subst e; exact h.2.2.2.2.2 b hb
    · exact h.2.2.2.2.1 a (by omega) b hb, fun b hb => absurd hb (by omega)⟩
theorem PmI.step (h : PmI w2 s p base l E pa pc m i j L W) (hi : i < L.length) (hj : j < i) (h1 : PrI w2 s p base l E pa pc (L ++ M) W') (h2 : Good l E (L ++ M)) (h3 : (L ++ M).length ≤ 40)
    (h4 : ∀ k, k < l.length → emB l (joB (bxAt L i) (bxAt L j) k) = false → Cov (L ++ M) (joB (bxAt L i) (bxAt L j) k)) : PmI w2 s p base l E pa pc m i (j + 1) (L ++ M) W' := by
  obtain ⟨_, _, _, g4, g5, g6⟩ := h
  refine ⟨h1, h2, h3, fun q hq => (g4 q hq).app M, fun a ha b hb => (g5 a ha b hb).app (by omega) (by omega) M, fun b hb => ?_⟩
  by_cases e : b = j
  · subst e
    intro k hk he
    rw [bx_app hi, bx_app (by omega)] at he ⊢
    exact h4 k hk he
  · exact (g6 b (by omega)).app hi (by omega) M
end
/-- The outcome of primes. -/
def PrmP (l : List Fd) (E : List Ed) (w : World) (e : Ending) (w' : World) : Prop :=
  Below w.heap.size w w' ∧ (e = .returned (.tuple #[.slice none 0 0, .int .i64 2]) ∨ ∃ L a c, e = .returned (.tuple #[.slice a L.length c, .int .i64 0]) ∧ RdX w' a L ∧ Good l E L ∧ L.length ≤ 40 ∧ (∀ q, q < E.length → Cov L (ebS l E q)) ∧ ∀ a, a < L.length → ∀ b, b < a → JC l L a b)
set_option maxRecDepth 100000 in
set_option maxHeartbeats 16000000 in
theorem primes_c (p : Nat) (l : List Fd) (E : List Ed) (w : World) (hP : PlR w p l E) (hok : Ok l E)
    (hT : TabAt 0 Lib.deBruijn64tab w) (ht : 0 < w.heap.size) :
    Calls Tryd.prog 38 #[.pointer (some ⟨p, 0, none⟩)] w (PrmP l E w) := by
  have mixed : Tryd.prog.follows .mixedOrders = true := by kernel_rfl
  have C0 := Lib.hid (passing_c p l E w hP hok hT ht)
  unfold PsgP at C0
  have HP := Lib.hid hP
  have HOK := Lib.hid hok
  obtain ⟨m, hm⟩ : ∃ n, E.length = n := ⟨_, rfl⟩
  have HM := Lib.hid hm
  have m60 : m ≤ 60 := by rw [← hm]; exact hok.m60
  obtain ⟨PL, hPL⟩ : ∃ n, (pss l E).length = n := ⟨_, rfl⟩
  have HPL := Lib.hid hPL
  rw [hPL] at C0
  clear hP hok hT hm hPL
  go_enter Tryd.func38, Tryd.ntmps38
  go_wp2_with fail
  refine C0.out.mono ?_
  rintro e1 w2 ⟨b2, pa, pc, rfl, hrd⟩
  obtain ⟨W3, hW3⟩ : ∃ V, w2.alloc (.cells #[.pointer none, .slice none 0 0, .slice none 0 0] 108) = V := ⟨_, rfl⟩
  obtain ⟨s, hs⟩ : ∃ q, w2.heap.size = q := ⟨_, rfl⟩
  obtain ⟨W4, hW4⟩ : ∃ V, ((W3.setCell ⟨s, 0, none⟩ (.pointer (some ⟨p, 0, none⟩))).setCell ⟨s, 1, none⟩ (.slice pa PL pc)).setCell ⟨s, 2, none⟩ (.slice none 0 0) = V := ⟨_, rfl⟩
  have b3 : Below w2.heap.size w2 W3 := by rw [← hW3]; exact bel_one _ _
  have n0 : W3.cell? ⟨s, 0, none⟩ = some (.pointer none) := by rw [← hW3, ← hs, World.cell?_alloc_new]; rfl
  have n1 : W3.cell? ⟨s, 1, none⟩ = some (.slice none 0 0) := by rw [← hW3, ← hs, World.cell?_alloc_new]; rfl
  have n2 : W3.cell? ⟨s, 2, none⟩ = some (.slice none 0 0) := by rw [← hW3, ← hs, World.cell?_alloc_new]; rfl
  have nf : ∀ o, W3.frozen? ⟨s, o, none⟩ = false := fun o => by rw [← hW3, ← hs]; simp
  have B2 := Lib.hid b2
  have I4 : Hid (PrI w2 s p (s + 1) l E pa pc [] W4) := by
    refine ⟨by omega, by omega, ?_, HP.out.below B2.out, hrd, ?_, ?_, ?_, fun o => ?_, .slice none 0 0, ?_, World.ownsRow_nil _ _ _ _⟩
    · rw [← hW4, ← hW3, ← hs]; simp
    · rw [← hW4]
      exact ((b3.setCell (p := ⟨s, 0, none⟩) (by rw [hs]; exact Nat.le_refl _) _).setCell (p := ⟨s, 1, none⟩) (by rw [hs]; exact Nat.le_refl _) _).setCell (p := ⟨s, 2, none⟩) (by rw [hs]; exact Nat.le_refl _) _
    · rw [← hW4, World.cell?_setCell_other _ _ _ _ (fun q => by injection q with _ q; cases q), World.cell?_setCell_other _ _ _ _ (fun q => by injection q with _ q; cases q), World.cell?_setCell_same _ _ _ n0]
    · rw [← hW4, World.cell?_setCell_other _ _ _ _ (fun q => by injection q with _ q; cases q), World.cell?_setCell_same _ _ _ (u := .slice none 0 0) (by rw [World.cell?_setCell_other _ _ _ _ (fun q => by injection q with _ q; cases q)]; exact n1), HPL.out]
    · rw [← hW4, World.frozen?_setCell, World.frozen?_setCell, World.frozen?_setCell]; exact nf o
    · rw [← hW4, World.cell?_setCell_same _ _ _ (u := .slice none 0 0) (by rw [World.cell?_setCell_other _ _ _ _ (fun q => by injection q with _ q; cases q), World.cell?_setCell_other _ _ _ _ (fun q => by injection q with _ q; cases q)]; exact n2)]
  have P2 := HP.out.below B2.out
  obtain ⟨ea, ec, e0, hes⟩ := P2.es
  rw [HM.out] at e0 hes
  have HES := Lib.hid hes
  have HS : Hid (w2.heap.size = s) := hs
  have E0 : Hid (∀ V, Below w2.heap.size w2 V → V.cell? ⟨p, 13, none⟩ = some (.slice ea m ec)) := fun V hV => (hV.cell (p := ⟨p, 13, none⟩) (cellLt e0)).trans e0
  have BW : Hid (∀ V, Below w2.heap.size w2 V → Below w.heap.size w V) := fun V hV => B2.out.trans (hV.mono B2.out.size)
  have e1 := E0.out W4 I4.out.bel
  clear C0 b2 hrd b3 hes e0 P2
  go_wp2_with fail
  clear hW3 hW4 n0 n1 n2 nf e1
  go_loopw [5, 17] (fun _ iv wr => ∃ (k : Nat) (L : List (Nat → Nat)), iv = .int .i64 k ∧ Hid (k ≤ m ∧ PmI w2 s p (s + 1) l E pa pc k 0 0 L wr)) (fun _ iv _ => m - (intOf iv).toNat)
  case atStart => exact ⟨0, [], rfl, Nat.zero_le _, I4.out, fun P h => by simp at h, by simp, fun q h => absurd h (by omega), fun a h => absurd h (by omega), fun b h => absurd h (by omega)⟩
  case round =>
    obtain ⟨k, L, rfl, hS⟩ := hrel
    obtain ⟨hk, hI⟩ := hS.out
    have HI := Lib.hid hI
    by_cases hlt : k < m
    · have hlt' : (k : Int) < (m : Int) := by omega
      have hk0 : (0 : Int) ≤ (k : Int) := by omega
      obtain ⟨eb, hea, hel, hec⟩ := HES.out (by omega)
      subst hea
      have c1 := E0.out wr hI.1.bel
      have hkl : k < E.length := by rw [HM.out]; exact hlt
      have CA : Hid (Calls Tryd.prog 65 #[.pointer (some ⟨s, 0, none⟩), .pointer (some ⟨eb, k * 12, none⟩)] wr fun e w' => ∃ (t : Bool) (M : List (Nat → Nat)), e = .returned (.bool t) ∧ Hid (t = decide ((L ++ M).length ≤ 40)) ∧ PrI w2 s p (s + 1) l E pa pc (L ++ M) w' ∧ Good l E (L ++ M) ∧ Cov (L ++ M) (ebS l E k)) := by
        have hs := HS.out
        refine (add_c w2 s p (s + 1) l E pa pc L eb (k * 12) (ebS l E k) wr hI.1 HOK.out hI.2.1 hI.2.2.1 ((hec k hlt).below hI.1.bel hel) (by omega) (fun v e q => ?_) (eb_vb HOK.out hkl) (eb_clo HOK.out hkl)).mono fun e w' ⟨_, M, he, _, i6, g6, c6⟩ => ⟨_, M, he, rfl, i6, g6, c6⟩
        obtain ⟨u, h1, h2⟩ := hI.1.ex
        rw [h1] at e
        injection e with e
        subst e
        have := (h2.lt eb q).1
        omega
      clear hS hk hI hec
      go_wp2_with fail
      refine CA.out.mono ?_
      rintro e1 w5 ⟨t, M, rfl, ht, i5, g5, c5⟩
      have HT := Lib.hid ht
      have I5 := Lib.hid i5
      have G5 := Lib.hid g5
      have V5 := Lib.hid c5
      clear i5 g5 c5 CA ht c1
      cases t with
      | true =>
        have NX : Hid (k + 1 ≤ m ∧ PmI w2 s p (s + 1) l E pa pc (k + 1) 0 0 (L ++ M) w5) := by
          refine ⟨hlt, I5.out, G5.out, of_decide_eq_true HT.out.out.symm, fun q hq => ?_, fun a h => absurd h (by omega), fun b h => absurd h (by omega)⟩
          by_cases e : q = k
          · subst e; exact V5.out
          · exact (HI.out.2.2.2.1 q (by omega)).app M
        clear HT
        go_wp2_with fail
        go_roundw
        case rel => exact ⟨k + 1, L ++ M, by go_num, NX.out⟩
        case measure => simp [intOf]; omega
      | false =>
        have PP : Hid (PrmP l E w (.returned (.tuple #[.slice none 0 0, .int .i64 2])) w5) := ⟨BW.out w5 I5.out.bel, .inl rfl⟩
        clear HT
        go_wp2_with fail
        go_ret2
        exact PP.out
    · have hlt' : ¬ (k : Int) < (m : Int) := by omega
      have e : k = m := by omega
      subst e
      obtain ⟨wq, hwq⟩ : ∃ V : World, V = wr := ⟨_, rfl⟩
      subst hwq
      clear hS hk hI hlt
      go_wp2_with fail
      go_loopw [6, 7] (fun iv _ wr => ∃ (i : Nat) (L : List (Nat → Nat)), iv = .int .i64 i ∧ Hid (i ≤ L.length ∧ PmI w2 s p (s + 1) l E pa pc k i 0 L wr)) (fun iv _ _ => 40 - (intOf iv).toNat)
      case atStart => exact ⟨0, L, rfl, Nat.zero_le _, HI.out⟩
      case round =>
        clear HI
        obtain ⟨i, L, rfl, hS⟩ := hrel
        obtain ⟨hi, hI⟩ := hS.out
        have HI := Lib.hid hI
        obtain ⟨u, y2, ho⟩ := hI.1.ex
        have h40 := hI.2.2.1
        obtain ⟨la, lc, rfl, hrl⟩ := rdX_own ho (by omega)
        have HRL := Lib.hid hrl
        by_cases hlt : i < L.length
        · have hlt' : (i : Int) < (L.length : Int) := by omega
          have hi0 : (0 : Int) ≤ (i : Int) := by omega
          clear hS hI ho hrl
          go_wp2_with fail
          clear y2
          go_loopw [7, 37] (fun _ iv wr => ∃ (j : Nat) (L : List (Nat → Nat)), iv = .int .i64 j ∧ Hid (j ≤ i ∧ i < L.length ∧ PmI w2 s p (s + 1) l E pa pc k i j L wr)) (fun _ iv _ => i - (intOf iv).toNat)
          case atStart => exact ⟨0, L, rfl, Nat.zero_le _, hlt, HI.out⟩
          case round =>
            clear HI HRL
            obtain ⟨j, L, rfl, hS⟩ := hrel
            obtain ⟨hj, hiL, hI⟩ := hS.out
            have HI := Lib.hid hI
            by_cases hlt2 : j < i
            · have hlt2' : (j : Int) < (i : Int) := by omega
              have hj0 : (0 : Int) ≤ (j : Int) := by omega
              obtain ⟨u, y2, ho⟩ := hI.1.ex
              have h40 := hI.2.2.1
              obtain ⟨la, cc, rfl, hrl⟩ := rdX_own ho (by omega)
              obtain ⟨lb, ela, hll, hlc⟩ := hrl.2 (by omega)
              subst ela
              have hA := hI.2.1 _ (bx_mem hiL)
              have hB := hI.2.1 _ (bx_mem (show j < L.length by omega))
              obtain ⟨wo, hwo⟩ : ∃ V : World, V = wr := ⟨_, rfl⟩
              subst hwo
              have CJ0 : Hid (∀ V, Below wo.heap.size wo V → Calls Tryd.prog 66 #[.pointer (some ⟨s, 0, none⟩), bxV (bxAt L i), bxV (bxAt L j)] V fun e w' => ∃ (t : Bool) (M : List (Nat → Nat)), e = .returned (.bool t) ∧ PrI w2 s p (s + 1) l E pa pc (L ++ M) w' ∧ (t = true → PmI w2 s p (s + 1) l E pa pc k i (j + 1) (L ++ M) w')) := fun V hV =>
                (join_c w2 s p (s + 1) l E pa pc L (bxAt L i) (bxAt L j) V (HI.out.1.below hV) HOK.out HI.out.2.1 h40 hA hB).mono fun e w' ⟨M, i5, g5, h⟩ => by
                  rcases h with ⟨rfl, h3, h4⟩ | rfl
                  · exact ⟨true, M, rfl, i5, fun _ => HI.out.step hiL hlt2 i5 g5 h3 h4⟩
                  · exact ⟨false, M, rfl, i5, fun q => by cases q⟩
              obtain ⟨A, hAe⟩ : ∃ A, bxAt L i = A := ⟨_, rfl⟩
              obtain ⟨B, hBe⟩ : ∃ A, bxAt L j = A := ⟨_, rfl⟩
              have CJ := CJ0
              rw [hAe, hBe] at CJ
              obtain ⟨n, hn⟩ : ∃ n, L.length = n := ⟨_, rfl⟩
              have LDW : Hid (∀ V, Below wo.heap.size wo V → V.cell? ⟨s, 2, none⟩ = some (.slice (some ⟨lb, 0, none⟩) n cc) ∧ BxAt V lb (i * 12) A ∧ BxAt V lb (j * 12) B) := fun V hV => by
                have a1 := (hlc i hiL).below hV hll
                have b1 := (hlc j (by omega)).below hV hll
                rw [hAe] at a1
                rw [hBe] at b1
                rw [hn] at y2
                exact ⟨(hV.cell (p := ⟨s, 2, none⟩) (cellLt y2)).trans y2, a1, b1⟩
              have FT : Hid (∀ M w5, (true = true → PmI w2 s p (s + 1) l E pa pc k i (j + 1) (L ++ M) w5) → PrI w2 s p (s + 1) l E pa pc (L ++ M) w5 → Hid (j + 1 ≤ i ∧ i < (L ++ M).length ∧ PmI w2 s p (s + 1) l E pa pc k i (j + 1) (L ++ M) w5)) := fun M w5 h _ =>
                ⟨hlt2, by rw [List.length_append]; omega, h rfl⟩
              have FB : Hid (∀ M w5, PrI w2 s p (s + 1) l E pa pc (L ++ M) w5 → Hid (PrmP l E w (.returned (.tuple #[.slice none 0 0, .int .i64 2])) w5)) := fun M w5 h => ⟨BW.out w5 h.bel, .inl rfl⟩
              have hin : (i : Int) < (n : Int) := by omega
              have hjn : (j : Int) < (n : Int) := by omega
              unfold bxV at CJ
              clear hS hj hI ho hrl hlc hA hB CJ0 hAe hBe y2
              go_wp2_with fail
              refine wp_region_noPanic ?_
              refine wp_region_held_drew (S := (S1e ⟨s, 0, none⟩ (.pointer (some ⟨p, 0, none⟩)))) (by kernel_rfl) (by exact (HI.out.1.below (Below.refl _ _).drew).c0) (fun hS => ?_)
              obtain ⟨WD, hWD⟩ : ∃ W, wo.drew = W := ⟨_, rfl⟩
              have D0 : Hid (Below wo.heap.size wo WD) := by unfold Hid; rw [← hWD]; exact (Below.refl _ _).drew
              rw [hWD] at hS ⊢
              clear hWD
              refine wpAnyH_take (i := 0) (v := ?v0a0) rfl (by kernel_rfl) (by kernel_rfl) (by kernel_rfl) (fun _ _ _ h => h) (Or.inl ⟨by rfl, ?hy0a0⟩) (by assumption) ?rest0a0
              case hy0a0 =>
                intro w hSw
                dsimp only [S1e] at hSw
                go_simp
                try with_reducible rfl
              simp only [Act.put, List.getElem_toArray, List.getElem_cons_succ, List.getElem_cons_zero, List.setIfInBounds_toArray, List.set_cons_zero, List.set_cons_succ]
              refine wpAnyH_take (i := 2) (v := ?v2a2) rfl (by kernel_rfl) (by kernel_rfl) (by kernel_rfl) (fun _ _ _ h => h) (Or.inl ⟨by rfl, ?hy2a2⟩) (by assumption) ?rest2a2
              case hy2a2 =>
                intro w hSw
                dsimp only [S1e] at hSw
                go_simp
                try with_reducible rfl
              simp only [Act.put, List.getElem_toArray, List.getElem_cons_succ, List.getElem_cons_zero, List.setIfInBounds_toArray, List.set_cons_zero, List.set_cons_succ]
              refine wpAnyH_take (i := 5) (v := ?v5a5) rfl (by kernel_rfl) (by kernel_rfl) (by kernel_rfl) (fun _ _ _ h => h) (Or.inl ⟨by rfl, ?hy5a5⟩) (by assumption) ?rest5a5
              case hy5a5 =>
                intro w hSw
                dsimp only [S1e] at hSw
                go_simp
                try with_reducible rfl
              simp only [Act.put, List.getElem_toArray, List.getElem_cons_succ, List.getElem_cons_zero, List.setIfInBounds_toArray, List.set_cons_zero, List.set_cons_succ]
              refine wpAnyH_take (i := 7) (v := ?v7a7) rfl (by kernel_rfl) (by kernel_rfl) (by kernel_rfl) (fun _ _ _ h => h) (Or.inl ⟨by rfl, ?hy7a7⟩) (by assumption) ?rest7a7
              case hy7a7 =>
                intro w hSw
                dsimp only [S1e] at hSw
                go_simp
                try with_reducible rfl
              simp only [Act.put, List.getElem_toArray, List.getElem_cons_succ, List.getElem_cons_zero, List.setIfInBounds_toArray, List.set_cons_zero, List.set_cons_succ]
              have LD : Hid (WD.cell? ⟨s, 2, none⟩ = some (.slice (some ⟨lb, 0, none⟩) n cc) ∧ BxAt WD lb (i * 12) A ∧ BxAt WD lb (j * 12) B) := LDW.out WD D0.out
              refine wpAnyH_ready (rs := [1, 6]) (by kernel_rfl) (by simp) ?_
              refine AllReadyH.cons rfl (fun K hK => ?_) (AllReadyH.cons rfl (fun K hK => ?_) AllReadyH.nil)
              · have ld0 := LD.out.1
                go_simp
                refine hK _ _ hS (fun _ => ?_)
                clear hK K ld0
                try simp only [Act.put, List.setIfInBounds_toArray, List.set_cons_zero, List.set_cons_succ]
                refine wpAnyH_take (i := 3) (v := ?v3ku1) rfl (by kernel_rfl) (by kernel_rfl) (by kernel_rfl) (fun _ _ _ h => h) (Or.inl ⟨by rfl, ?hy3ku1⟩) (by assumption) ?rest3ku1
                case hy3ku1 =>
                  intro w hSw
                  dsimp only [S1e] at hSw
                  go_simp
                  try with_reducible rfl
                simp only [Act.put, List.getElem_toArray, List.getElem_cons_succ, List.getElem_cons_zero, List.setIfInBounds_toArray, List.set_cons_zero, List.set_cons_succ]
                refine wpAnyH_ready (rs := [4, 6]) (by kernel_rfl) (by simp) ?_
                refine AllReadyH.cons rfl (fun K hK => ?_) (AllReadyH.cons rfl (fun K hK => ?_) AllReadyH.nil)
                · have JX := LD.out.2.1
                  have r0 := JX 0 (by decide)
                  have r1 := JX 1 (by decide)
                  have r2 := JX 2 (by decide)
                  have r3 := JX 3 (by decide)
                  have r4 := JX 4 (by decide)
                  have r5 := JX 5 (by decide)
                  have r6 := JX 6 (by decide)
                  have r7 := JX 7 (by decide)
                  have r8 := JX 8 (by decide)
                  have r9 := JX 9 (by decide)
                  have r10 := JX 10 (by decide)
                  have r11 := JX 11 (by decide)
                  simp only [Nat.add_zero] at r0 r1 r2 r3 r4 r5 r6 r7 r8 r9 r10 r11
                  go_simp
                  refine hK _ _ hS (fun _ => ?_)
                  clear hK K JX r0 r1 r2 r3 r4 r5 r6 r7 r8 r9 r10 r11
                  try simp only [Act.put, List.setIfInBounds_toArray, List.set_cons_zero, List.set_cons_succ]
                  refine wpAnyH_ready (rs := [6]) (by kernel_rfl) (by simp) ?_
                  refine AllReadyH.cons rfl (fun K hK => ?_) AllReadyH.nil
                  have ld0 := LD.out.1
                  go_simp
                  refine hK _ _ hS (fun _ => ?_)
                  clear hK K ld0
                  try simp only [Act.put, List.setIfInBounds_toArray, List.set_cons_zero, List.set_cons_succ]
                  refine wpAnyH_take (i := 8) (v := ?v8ku2) rfl (by kernel_rfl) (by kernel_rfl) (by kernel_rfl) (fun _ _ _ h => h) (Or.inl ⟨by rfl, ?hy8ku2⟩) (by assumption) ?rest8ku2
                  case hy8ku2 =>
                    intro w hSw
                    dsimp only [S1e] at hSw
                    go_simp
                    try with_reducible rfl
                  simp only [Act.put, List.getElem_toArray, List.getElem_cons_succ, List.getElem_cons_zero, List.setIfInBounds_toArray, List.set_cons_zero, List.set_cons_succ]
                  refine wpAnyH_ready (rs := [9]) (by kernel_rfl) (by simp) ?_
                  refine AllReadyH.cons rfl (fun K hK => ?_) AllReadyH.nil
                  have JX := LD.out.2.2
                  have r0 := JX 0 (by decide)
                  have r1 := JX 1 (by decide)
                  have r2 := JX 2 (by decide)
                  have r3 := JX 3 (by decide)
                  have r4 := JX 4 (by decide)
                  have r5 := JX 5 (by decide)
                  have r6 := JX 6 (by decide)
                  have r7 := JX 7 (by decide)
                  have r8 := JX 8 (by decide)
                  have r9 := JX 9 (by decide)
                  have r10 := JX 10 (by decide)
                  have r11 := JX 11 (by decide)
                  simp only [Nat.add_zero] at r0 r1 r2 r3 r4 r5 r6 r7 r8 r9 r10 r11
                  go_simp
                  refine hK _ _ hS (fun _ => ?_)
                  clear hK K JX r0 r1 r2 r3 r4 r5 r6 r7 r8 r9 r10 r11
                  try simp only [Act.put, List.setIfInBounds_toArray, List.set_cons_zero, List.set_cons_succ]
                  refine wpAnyH_ready (rs := [10]) (by kernel_rfl) (by simp) ?_
                  refine AllReadyH.cons rfl (fun K hK => ?_) AllReadyH.nil
                  go_simp
                  refine (CJ.out WD D0.out).mono ?_
                  rintro e1 w5 ⟨t, M, rfl, i5, hj5⟩
                  have I5 := Lib.hid i5
                  have J5 := Lib.hid hj5
                  clear i5 hj5
                  try go_simp
                  have hS5 := I5.out.c0
                  refine hK _ _ hS5 (fun _ => ?_)
                  clear hK K hS5
                  try simp only [Act.put, List.setIfInBounds_toArray, List.set_cons_zero, List.set_cons_succ]
                  refine wpAnyH_take (i := 11) (v := ?v11fu3) rfl (by kernel_rfl) (by kernel_rfl) (by kernel_rfl) (fun _ _ _ h => h) (Or.inl ⟨by rfl, ?hy11fu3⟩) (by assumption) ?rest11fu3
                  case hy11fu3 =>
                    intro w hSw
                    dsimp only [S1e] at hSw
                    go_simp
                    try with_reducible rfl
                  simp only [Act.put, List.getElem_toArray, List.getElem_cons_succ, List.getElem_cons_zero, List.setIfInBounds_toArray, List.set_cons_zero, List.set_cons_succ]
                  refine wpAnyH_done (by kernel_rfl) ?_ _
                  refine NoPanic.normal ?_
                  clear hS LD CJ
                  cases t with
                  | true =>
                    have NX := FT.out M w5 (fun _ => J5.out rfl) I5.out
                    go_wp2_with fail
                    go_roundw
                    case rel => exact ⟨j + 1, L ++ M, by go_num, NX⟩
                    case measure => simp [intOf]; omega
                  | false =>
                    have PP := FB.out M w5 I5.out
                    go_wp2_with fail
                    go_ret2
                    exact PP.out
                · have ld0 := LD.out.1
                  go_simp
                  refine hK _ _ hS (fun _ => ?_)
                  clear hK K ld0
                  try simp only [Act.put, List.setIfInBounds_toArray, List.set_cons_zero, List.set_cons_succ]
                  refine wpAnyH_take (i := 8) (v := ?v8ku4) rfl (by kernel_rfl) (by kernel_rfl) (by kernel_rfl) (fun _ _ _ h => h) (Or.inl ⟨by rfl, ?hy8ku4⟩) (by assumption) ?rest8ku4
                  case hy8ku4 =>
                    intro w hSw
                    dsimp only [S1e] at hSw
                    go_simp
                    try with_reducible rfl
                  simp only [Act.put, List.getElem_toArray, List.getElem_cons_succ, List.getElem_cons_zero, List.setIfInBounds_toArray, List.set_cons_zero, List.set_cons_succ]
                  refine wpAnyH_ready (rs := [4, 9]) (by kernel_rfl) (by simp) ?_
                  refine AllReadyH.cons rfl (fun K hK => ?_) (AllReadyH.cons rfl (fun K hK => ?_) AllReadyH.nil)
                  · have JX := LD.out.2.1
                    have r0 := JX 0 (by decide)
                    have r1 := JX 1 (by decide)
                    have r2 := JX 2 (by decide)
                    have r3 := JX 3 (by decide)
                    have r4 := JX 4 (by decide)
                    have r5 := JX 5 (by decide)
                    have r6 := JX 6 (by decide)
                    have r7 := JX 7 (by decide)
                    have r8 := JX 8 (by decide)
                    have r9 := JX 9 (by decide)
                    have r10 := JX 10 (by decide)
                    have r11 := JX 11 (by decide)
                    simp only [Nat.add_zero] at r0 r1 r2 r3 r4 r5 r6 r7 r8 r9 r10 r11
                    go_simp
                    refine hK _ _ hS (fun _ => ?_)
                    clear hK K JX r0 r1 r2 r3 r4 r5 r6 r7 r8 r9 r10 r11
                    try simp only [Act.put, List.setIfInBounds_toArray, List.set_cons_zero, List.set_cons_succ]
                    refine wpAnyH_ready (rs := [9]) (by kernel_rfl) (by simp) ?_
                    refine AllReadyH.cons rfl (fun K hK => ?_) AllReadyH.nil
                    have JX := LD.out.2.2
                    have r0 := JX 0 (by decide)
                    have r1 := JX 1 (by decide)
                    have r2 := JX 2 (by decide)
                    have r3 := JX 3 (by decide)
                    have r4 := JX 4 (by decide)
                    have r5 := JX 5 (by decide)
                    have r6 := JX 6 (by decide)
                    have r7 := JX 7 (by decide)
                    have r8 := JX 8 (by decide)
                    have r9 := JX 9 (by decide)
                    have r10 := JX 10 (by decide)
                    have r11 := JX 11 (by decide)
                    simp only [Nat.add_zero] at r0 r1 r2 r3 r4 r5 r6 r7 r8 r9 r10 r11
                    go_simp
                    refine hK _ _ hS (fun _ => ?_)
                    clear hK K JX r0 r1 r2 r3 r4 r5 r6 r7 r8 r9 r10 r11
                    try simp only [Act.put, List.setIfInBounds_toArray, List.set_cons_zero, List.set_cons_succ]
                    refine wpAnyH_ready (rs := [10]) (by kernel_rfl) (by simp) ?_
                    refine AllReadyH.cons rfl (fun K hK => ?_) AllReadyH.nil
                    go_simp
                    refine (CJ.out WD D0.out).mono ?_
                    rintro e1 w5 ⟨t, M, rfl, i5, hj5⟩
                    have I5 := Lib.hid i5
                    have J5 := Lib.hid hj5
                    clear i5 hj5
                    try go_simp
                    have hS5 := I5.out.c0
                    refine hK _ _ hS5 (fun _ => ?_)
                    clear hK K hS5
                    try simp only [Act.put, List.setIfInBounds_toArray, List.set_cons_zero, List.set_cons_succ]
                    refine wpAnyH_take (i := 11) (v := ?v11fu5) rfl (by kernel_rfl) (by kernel_rfl) (by kernel_rfl) (fun _ _ _ h => h) (Or.inl ⟨by rfl, ?hy11fu5⟩) (by assumption) ?rest11fu5
                    case hy11fu5 =>
                      intro w hSw
                      dsimp only [S1e] at hSw
                      go_simp
                      try with_reducible rfl
                    simp only [Act.put, List.getElem_toArray, List.getElem_cons_succ, List.getElem_cons_zero, List.setIfInBounds_toArray, List.set_cons_zero, List.set_cons_succ]
                    refine wpAnyH_done (by kernel_rfl) ?_ _
                    refine NoPanic.normal ?_
                    clear hS LD CJ
                    cases t with
                    | true =>
                      have NX := FT.out M w5 (fun _ => J5.out rfl) I5.out
                      go_wp2_with fail
                      go_roundw
                      case rel => exact ⟨j + 1, L ++ M, by go_num, NX⟩
                      case measure => simp [intOf]; omega
                    | false =>
                      have PP := FB.out M w5 I5.out
                      go_wp2_with fail
                      go_ret2
                      exact PP.out
                  · have JX := LD.out.2.2
                    have r0 := JX 0 (by decide)
                    have r1 := JX 1 (by decide)
                    have r2 := JX 2 (by decide)
                    have r3 := JX 3 (by decide)
                    have r4 := JX 4 (by decide)
                    have r5 := JX 5 (by decide)
                    have r6 := JX 6 (by decide)
                    have r7 := JX 7 (by decide)
                    have r8 := JX 8 (by decide)
                    have r9 := JX 9 (by decide)
                    have r10 := JX 10 (by decide)
                    have r11 := JX 11 (by decide)
                    simp only [Nat.add_zero] at r0 r1 r2 r3 r4 r5 r6 r7 r8 r9 r10 r11
                    go_simp
                    refine hK _ _ hS (fun _ => ?_)
                    clear hK K JX r0 r1 r2 r3 r4 r5 r6 r7 r8 r9 r10 r11
                    try simp only [Act.put, List.setIfInBounds_toArray, List.set_cons_zero, List.set_cons_succ]
                    refine wpAnyH_ready (rs := [4]) (by kernel_rfl) (by simp) ?_
                    refine AllReadyH.cons rfl (fun K hK => ?_) AllReadyH.nil
                    have JX := LD.out.2.1
                    have r0 := JX 0 (by decide)
                    have r1 := JX 1 (by decide)
                    have r2 := JX 2 (by decide)
                    have r3 := JX 3 (by decide)
                    have r4 := JX 4 (by decide)
                    have r5 := JX 5 (by decide)
                    have r6 := JX 6 (by decide)
                    have r7 := JX 7 (by decide)
                    have r8 := JX 8 (by decide)
                    have r9 := JX 9 (by decide)
                    have r10 := JX 10 (by decide)
                    have r11 := JX 11 (by decide)
                    simp only [Nat.add_zero] at r0 r1 r2 r3 r4 r5 r6 r7 r8 r9 r10 r11
                    go_simp
                    refine hK _ _ hS (fun _ => ?_)
                    clear hK K JX r0 r1 r2 r3 r4 r5 r6 r7 r8 r9 r10 r11
                    try simp only [Act.put, List.setIfInBounds_toArray, List.set_cons_zero, List.set_cons_succ]
                    refine wpAnyH_ready (rs := [10]) (by kernel_rfl) (by simp) ?_
                    refine AllReadyH.cons rfl (fun K hK => ?_) AllReadyH.nil
                    go_simp
                    refine (CJ.out WD D0.out).mono ?_
                    rintro e1 w5 ⟨t, M, rfl, i5, hj5⟩
                    have I5 := Lib.hid i5
                    have J5 := Lib.hid hj5
                    clear i5 hj5
                    try go_simp
                    have hS5 := I5.out.c0
                    refine hK _ _ hS5 (fun _ => ?_)
                    clear hK K hS5
                    try simp only [Act.put, List.setIfInBounds_toArray, List.set_cons_zero, List.set_cons_succ]
                    refine wpAnyH_take (i := 11) (v := ?v11fu6) rfl (by kernel_rfl) (by kernel_rfl) (by kernel_rfl) (fun _ _ _ h => h) (Or.inl ⟨by rfl, ?hy11fu6⟩) (by assumption) ?rest11fu6
                    case hy11fu6 =>
                      intro w hSw
                      dsimp only [S1e] at hSw
                      go_simp
                      try with_reducible rfl
                    simp only [Act.put, List.getElem_toArray, List.getElem_cons_succ, List.getElem_cons_zero, List.setIfInBounds_toArray, List.set_cons_zero, List.set_cons_succ]
                    refine wpAnyH_done (by kernel_rfl) ?_ _
                    refine NoPanic.normal ?_
                    clear hS LD CJ
                    cases t with
                    | true =>
                      have NX := FT.out M w5 (fun _ => J5.out rfl) I5.out
                      go_wp2_with fail
                      go_roundw
                      case rel => exact ⟨j + 1, L ++ M, by go_num, NX⟩
                      case measure => simp [intOf]; omega
                    | false =>
                      have PP := FB.out M w5 I5.out
                      go_wp2_with fail
                      go_ret2
                      exact PP.out
              · have ld0 := LD.out.1
                go_simp
                refine hK _ _ hS (fun _ => ?_)
                clear hK K ld0
                try simp only [Act.put, List.setIfInBounds_toArray, List.set_cons_zero, List.set_cons_succ]
                refine wpAnyH_take (i := 8) (v := ?v8ku7) rfl (by kernel_rfl) (by kernel_rfl) (by kernel_rfl) (fun _ _ _ h => h) (Or.inl ⟨by rfl, ?hy8ku7⟩) (by assumption) ?rest8ku7
                case hy8ku7 =>
                  intro w hSw
                  dsimp only [S1e] at hSw
                  go_simp
                  try with_reducible rfl
                simp only [Act.put, List.getElem_toArray, List.getElem_cons_succ, List.getElem_cons_zero, List.setIfInBounds_toArray, List.set_cons_zero, List.set_cons_succ]
                refine wpAnyH_ready (rs := [1, 9]) (by kernel_rfl) (by simp) ?_
                refine AllReadyH.cons rfl (fun K hK => ?_) (AllReadyH.cons rfl (fun K hK => ?_) AllReadyH.nil)
                · have ld0 := LD.out.1
                  go_simp
                  refine hK _ _ hS (fun _ => ?_)
                  clear hK K ld0
                  try simp only [Act.put, List.setIfInBounds_toArray, List.set_cons_zero, List.set_cons_succ]
                  refine wpAnyH_take (i := 3) (v := ?v3ku8) rfl (by kernel_rfl) (by kernel_rfl) (by kernel_rfl) (fun _ _ _ h => h) (Or.inl ⟨by rfl, ?hy3ku8⟩) (by assumption) ?rest3ku8
                  case hy3ku8 =>
                    intro w hSw
                    dsimp only [S1e] at hSw
                    go_simp
                    try with_reducible rfl
                  simp only [Act.put, List.getElem_toArray, List.getElem_cons_succ, List.getElem_cons_zero, List.setIfInBounds_toArray, List.set_cons_zero, List.set_cons_succ]
                  refine wpAnyH_ready (rs := [4, 9]) (by kernel_rfl) (by simp) ?_
                  refine AllReadyH.cons rfl (fun K hK => ?_) (AllReadyH.cons rfl (fun K hK => ?_) AllReadyH.nil)
                  · have JX := LD.out.2.1
                    have r0 := JX 0 (by decide)
                    have r1 := JX 1 (by decide)
                    have r2 := JX 2 (by decide)
                    have r3 := JX 3 (by decide)
                    have r4 := JX 4 (by decide)
                    have r5 := JX 5 (by decide)
                    have r6 := JX 6 (by decide)
                    have r7 := JX 7 (by decide)
                    have r8 := JX 8 (by decide)
                    have r9 := JX 9 (by decide)
                    have r10 := JX 10 (by decide)
                    have r11 := JX 11 (by decide)
                    simp only [Nat.add_zero] at r0 r1 r2 r3 r4 r5 r6 r7 r8 r9 r10 r11
                    go_simp
                    refine hK _ _ hS (fun _ => ?_)
                    clear hK K JX r0 r1 r2 r3 r4 r5 r6 r7 r8 r9 r10 r11
                    try simp only [Act.put, List.setIfInBounds_toArray, List.set_cons_zero, List.set_cons_succ]
                    refine wpAnyH_ready (rs := [9]) (by kernel_rfl) (by simp) ?_
                    refine AllReadyH.cons rfl (fun K hK => ?_) AllReadyH.nil
                    have JX := LD.out.2.2
                    have r0 := JX 0 (by decide)
                    have r1 := JX 1 (by decide)
                    have r2 := JX 2 (by decide)
                    have r3 := JX 3 (by decide)
                    have r4 := JX 4 (by decide)
                    have r5 := JX 5 (by decide)
                    have r6 := JX 6 (by decide)
                    have r7 := JX 7 (by decide)
                    have r8 := JX 8 (by decide)
                    have r9 := JX 9 (by decide)
                    have r10 := JX 10 (by decide)
                    have r11 := JX 11 (by decide)
                    simp only [Nat.add_zero] at r0 r1 r2 r3 r4 r5 r6 r7 r8 r9 r10 r11
                    go_simp
                    refine hK _ _ hS (fun _ => ?_)
                    clear hK K JX r0 r1 r2 r3 r4 r5 r6 r7 r8 r9 r10 r11
                    try simp only [Act.put, List.setIfInBounds_toArray, List.set_cons_zero, List.set_cons_succ]
                    refine wpAnyH_ready (rs := [10]) (by kernel_rfl) (by simp) ?_
                    refine AllReadyH.cons rfl (fun K hK => ?_) AllReadyH.nil
                    go_simp
                    refine (CJ.out WD D0.out).mono ?_
                    rintro e1 w5 ⟨t, M, rfl, i5, hj5⟩
                    have I5 := Lib.hid i5
                    have J5 := Lib.hid hj5
                    clear i5 hj5
                    try go_simp
                    have hS5 := I5.out.c0
                    refine hK _ _ hS5 (fun _ => ?_)
                    clear hK K hS5
                    try simp only [Act.put, List.setIfInBounds_toArray, List.set_cons_zero, List.set_cons_succ]
                    refine wpAnyH_take (i := 11) (v := ?v11fu9) rfl (by kernel_rfl) (by kernel_rfl) (by kernel_rfl) (fun _ _ _ h => h) (Or.inl ⟨by rfl, ?hy11fu9⟩) (by assumption) ?rest11fu9
                    case hy11fu9 =>
                      intro w hSw
                      dsimp only [S1e] at hSw
                      go_simp
                      try with_reducible rfl
                    simp only [Act.put, List.getElem_toArray, List.getElem_cons_succ, List.getElem_cons_zero, List.setIfInBounds_toArray, List.set_cons_zero, List.set_cons_succ]
                    refine wpAnyH_done (by kernel_rfl) ?_ _
                    refine NoPanic.normal ?_
                    clear hS LD CJ
                    cases t with
                    | true =>
                      have NX := FT.out M w5 (fun _ => J5.out rfl) I5.out
                      go_wp2_with fail
                      go_roundw
                      case rel => exact ⟨j + 1, L ++ M, by go_num, NX⟩
                      case measure => simp [intOf]; omega
                    | false =>
                      have PP := FB.out M w5 I5.out
                      go_wp2_with fail
                      go_ret2
                      exact PP.out
                  · have JX := LD.out.2.2
                    have r0 := JX 0 (by decide)
                    have r1 := JX 1 (by decide)
                    have r2 := JX 2 (by decide)
                    have r3 := JX 3 (by decide)
                    have r4 := JX 4 (by decide)
                    have r5 := JX 5 (by decide)
                    have r6 := JX 6 (by decide)
                    have r7 := JX 7 (by decide)
                    have r8 := JX 8 (by decide)
                    have r9 := JX 9 (by decide)
                    have r10 := JX 10 (by decide)
                    have r11 := JX 11 (by decide)
                    simp only [Nat.add_zero] at r0 r1 r2 r3 r4 r5 r6 r7 r8 r9 r10 r11
                    go_simp
                    refine hK _ _ hS (fun _ => ?_)
                    clear hK K JX r0 r1 r2 r3 r4 r5 r6 r7 r8 r9 r10 r11
                    try simp only [Act.put, List.setIfInBounds_toArray, List.set_cons_zero, List.set_cons_succ]
                    refine wpAnyH_ready (rs := [4]) (by kernel_rfl) (by simp) ?_
                    refine AllReadyH.cons rfl (fun K hK => ?_) AllReadyH.nil
                    have JX := LD.out.2.1
                    have r0 := JX 0 (by decide)
                    have r1 := JX 1 (by decide)
                    have r2 := JX 2 (by decide)
                    have r3 := JX 3 (by decide)
                    have r4 := JX 4 (by decide)
                    have r5 := JX 5 (by decide)
                    have r6 := JX 6 (by decide)
                    have r7 := JX 7 (by decide)
                    have r8 := JX 8 (by decide)
                    have r9 := JX 9 (by decide)
                    have r10 := JX 10 (by decide)
                    have r11 := JX 11 (by decide)
                    simp only [Nat.add_zero] at r0 r1 r2 r3 r4 r5 r6 r7 r8 r9 r10 r11
                    go_simp
                    refine hK _ _ hS (fun _ => ?_)
                    clear hK K JX r0 r1 r2 r3 r4 r5 r6 r7 r8 r9 r10 r11
                    try simp only [Act.put, List.setIfInBounds_toArray, List.set_cons_zero, List.set_cons_succ]
                    refine wpAnyH_ready (rs := [10]) (by kernel_rfl) (by simp) ?_
                    refine AllReadyH.cons rfl (fun K hK => ?_) AllReadyH.nil
                    go_simp
                    refine (CJ.out WD D0.out).mono ?_
                    rintro e1 w5 ⟨t, M, rfl, i5, hj5⟩
                    have I5 := Lib.hid i5
                    have J5 := Lib.hid hj5
                    clear i5 hj5
                    try go_simp
                    have hS5 := I5.out.c0
                    refine hK _ _ hS5 (fun _ => ?_)
                    clear hK K hS5
                    try simp only [Act.put, List.setIfInBounds_toArray, List.set_cons_zero, List.set_cons_succ]
                    refine wpAnyH_take (i := 11) (v := ?v11fu10) rfl (by kernel_rfl) (by kernel_rfl) (by kernel_rfl) (fun _ _ _ h => h) (Or.inl ⟨by rfl, ?hy11fu10⟩) (by assumption) ?rest11fu10
                    case hy11fu10 =>
                      intro w hSw
                      dsimp only [S1e] at hSw
                      go_simp
                      try with_reducible rfl
                    simp only [Act.put, List.getElem_toArray, List.getElem_cons_succ, List.getElem_cons_zero, List.setIfInBounds_toArray, List.set_cons_zero, List.set_cons_succ]
                    refine wpAnyH_done (by kernel_rfl) ?_ _
                    refine NoPanic.normal ?_
                    clear hS LD CJ
                    cases t with
                    | true =>
                      have NX := FT.out M w5 (fun _ => J5.out rfl) I5.out
                      go_wp2_with fail
                      go_roundw
                      case rel => exact ⟨j + 1, L ++ M, by go_num, NX⟩
                      case measure => simp [intOf]; omega
                    | false =>
                      have PP := FB.out M w5 I5.out
                      go_wp2_with fail
                      go_ret2
                      exact PP.out
                · have JX := LD.out.2.2
                  have r0 := JX 0 (by decide)
                  have r1 := JX 1 (by decide)
                  have r2 := JX 2 (by decide)
                  have r3 := JX 3 (by decide)
                  have r4 := JX 4 (by decide)
                  have r5 := JX 5 (by decide)
                  have r6 := JX 6 (by decide)
                  have r7 := JX 7 (by decide)
                  have r8 := JX 8 (by decide)
                  have r9 := JX 9 (by decide)
                  have r10 := JX 10 (by decide)
                  have r11 := JX 11 (by decide)
                  simp only [Nat.add_zero] at r0 r1 r2 r3 r4 r5 r6 r7 r8 r9 r10 r11
                  go_simp
                  refine hK _ _ hS (fun _ => ?_)
                  clear hK K JX r0 r1 r2 r3 r4 r5 r6 r7 r8 r9 r10 r11
                  try simp only [Act.put, List.setIfInBounds_toArray, List.set_cons_zero, List.set_cons_succ]
                  refine wpAnyH_ready (rs := [1]) (by kernel_rfl) (by simp) ?_
                  refine AllReadyH.cons rfl (fun K hK => ?_) AllReadyH.nil
                  have ld0 := LD.out.1
                  go_simp
                  refine hK _ _ hS (fun _ => ?_)
                  clear hK K ld0
                  try simp only [Act.put, List.setIfInBounds_toArray, List.set_cons_zero, List.set_cons_succ]
                  refine wpAnyH_take (i := 3) (v := ?v3ku11) rfl (by kernel_rfl) (by kernel_rfl) (by kernel_rfl) (fun _ _ _ h => h) (Or.inl ⟨by rfl, ?hy3ku11⟩) (by assumption) ?rest3ku11
                  case hy3ku11 =>
                    intro w hSw
                    dsimp only [S1e] at hSw
                    go_simp
                    try with_reducible rfl
                  simp only [Act.put, List.getElem_toArray, List.getElem_cons_succ, List.getElem_cons_zero, List.setIfInBounds_toArray, List.set_cons_zero, List.set_cons_succ]
                  refine wpAnyH_ready (rs := [4]) (by kernel_rfl) (by simp) ?_
                  refine AllReadyH.cons rfl (fun K hK => ?_) AllReadyH.nil
                  have JX := LD.out.2.1
                  have r0 := JX 0 (by decide)
                  have r1 := JX 1 (by decide)
                  have r2 := JX 2 (by decide)
                  have r3 := JX 3 (by decide)
                  have r4 := JX 4 (by decide)
                  have r5 := JX 5 (by decide)
                  have r6 := JX 6 (by decide)
                  have r7 := JX 7 (by decide)
                  have r8 := JX 8 (by decide)
                  have r9 := JX 9 (by decide)
                  have r10 := JX 10 (by decide)
                  have r11 := JX 11 (by decide)
                  simp only [Nat.add_zero] at r0 r1 r2 r3 r4 r5 r6 r7 r8 r9 r10 r11
                  go_simp
                  refine hK _ _ hS (fun _ => ?_)
                  clear hK K JX r0 r1 r2 r3 r4 r5 r6 r7 r8 r9 r10 r11
                  try simp only [Act.put, List.setIfInBounds_toArray, List.set_cons_zero, List.set_cons_succ]
                  refine wpAnyH_ready (rs := [10]) (by kernel_rfl) (by simp) ?_
                  refine AllReadyH.cons rfl (fun K hK => ?_) AllReadyH.nil
                  go_simp
                  refine (CJ.out WD D0.out).mono ?_
                  rintro e1 w5 ⟨t, M, rfl, i5, hj5⟩
                  have I5 := Lib.hid i5
                  have J5 := Lib.hid hj5
                  clear i5 hj5
                  try go_simp
                  have hS5 := I5.out.c0
                  refine hK _ _ hS5 (fun _ => ?_)
                  clear hK K hS5
                  try simp only [Act.put, List.setIfInBounds_toArray, List.set_cons_zero, List.set_cons_succ]
                  refine wpAnyH_take (i := 11) (v := ?v11fu12) rfl (by kernel_rfl) (by kernel_rfl) (by kernel_rfl) (fun _ _ _ h => h) (Or.inl ⟨by rfl, ?hy11fu12⟩) (by assumption) ?rest11fu12
                  case hy11fu12 =>
                    intro w hSw
                    dsimp only [S1e] at hSw
                    go_simp
                    try with_reducible rfl
                  simp only [Act.put, List.getElem_toArray, List.getElem_cons_succ, List.getElem_cons_zero, List.setIfInBounds_toArray, List.set_cons_zero, List.set_cons_succ]
                  refine wpAnyH_done (by kernel_rfl) ?_ _
                  refine NoPanic.normal ?_
                  clear hS LD CJ
                  cases t with
                  | true =>
                    have NX := FT.out M w5 (fun _ => J5.out rfl) I5.out
                    go_wp2_with fail
                    go_roundw
                    case rel => exact ⟨j + 1, L ++ M, by go_num, NX⟩
                    case measure => simp [intOf]; omega
                  | false =>
                    have PP := FB.out M w5 I5.out
                    go_wp2_with fail
                    go_ret2
                    exact PP.out
            · have hlt2' : ¬ (j : Int) < (i : Int) := by omega
              have e : j = i := by omega
              have NX : Hid (i + 1 ≤ L.length ∧ PmI w2 s p (s + 1) l E pa pc k (i + 1) 0 L wr) := ⟨hiL, PmI.next (by rw [e] at hI; exact hI)⟩
              have h40 := hI.2.2.1
              clear hS hj hI hlt2 e HI
              go_wp2_with fail
              go_roundw
              case rel => exact ⟨i + 1, L, by go_num, NX.out⟩
              case measure => simp [intOf]; omega
        · have hlt' : ¬ (i : Int) < (L.length : Int) := by omega
          have PP : Hid (PrmP l E w (.returned (.tuple #[.slice la L.length lc, .int .i64 0])) wr) := by
            have hiL : i = L.length := by omega
            refine ⟨BW.out wr hI.1.bel, .inr ⟨L, la, lc, rfl, hrl, hI.2.1, h40, ?_, ?_⟩⟩
            · rw [HM.out]; exact hI.2.2.2.1
            · rw [← hiL]; exact hI.2.2.2.2.1
          clear hS hi hI ho hrl hlt
          go_wp2_with fail
          go_ret2
          exact PP.out
end Go.Proofs.YtadfmplafehjlaaDoor
namespace Go.Proofs.YtadfmplafehjlaaDoor
open Go.RowKit Go.WideMaps Go.Maps Go.Shelf

/-- The weights of fields, together. -/
def wsL (l : List Fd) : List Nat → Nat
  | [] => 0
  | k :: g => wtN l k + wsL l g
theorem wsL_app (l : List Fd) : ∀ (g h : List Nat), wsL l (g ++ h) = wsL l g + wsL l h
  | [], h => by simp [wsL]
  | k :: g, h => by
    show wtN l k + wsL l (g ++ h) = wtN l k + wsL l g + wsL l h
    rw [wsL_app l g h]; omega
theorem wsL_erase (l : List Fd) {x : Nat} : ∀ {g : List Nat}, x ∈ g → wsL l g = wtN l x + wsL l (g.erase x)
  | [], h => by cases h
  | k :: g, h => by
    by_cases e : k = x
    · subst e; rw [List.erase_cons_head]; rfl
    · have hm : x ∈ g := by
        rcases List.mem_cons.1 h with q | q
        · exact absurd q.symm e
        · exact q
      rw [List.erase_cons_tail (by simpa using e)]
      show wtN l k + wsL l g = wtN l x + (wtN l k + wsL l (g.erase x))
      rw [wsL_erase l hm]; omega
theorem wsL_le (l : List Fd) : ∀ (s g : List Nat), s.Nodup → (∀ x, x ∈ s → x ∈ g) → wsL l s ≤ wsL l g
  | [], _, _, _ => Nat.zero_le _
  | x :: s, g, hn, hs => by
    rw [List.nodup_cons] at hn
    have h1 := wsL_le l s (g.erase x) hn.2 fun y hy => (List.mem_erase_of_ne (fun e => hn.1 (by rw [← e]; exact hy))).2 (hs y (by simp [hy]))
    rw [wsL_erase l (hs x (by simp))]
    show wtN l x + wsL l s ≤ _
    omega
theorem lst_nodup (p : Nat → Bool) (n : Nat) : (lst p n).Nodup := by
  unfold lst
  exact List.Nodup.sublist List.filter_sublist List.nodup_range
theorem wsL_lst (l : List Fd) (p : Nat → Bool) : ∀ n, wsL l (lst p n) = smS (wtN l) p n
  | 0 => rfl
  | n + 1 => by
    rw [lst_succ', wsL_app, wsL_lst l p n, sm_succ]
    by_cases h : p n = true
    · rw [if_pos h, if_pos h]; simp [wsL]
    · rw [if_neg h, if_neg h]; simp [wsL]
theorem mem_lst {p : Nat → Bool} {n x : Nat} : x ∈ lst p n ↔ x < n ∧ p x = true := by
  unfold lst
  rw [List.mem_filter, List.mem_range]
theorem lst_inc (p : Nat → Bool) (n : Nat) : (lst p n).Pairwise (· < ·) := by
  unfold lst
  exact List.Pairwise.sublist List.filter_sublist List.pairwise_lt_range
theorem natL_toI (g : List Nat) : natL (toI g) = g := by
  unfold natL toI
  rw [List.map_map]
  conv => rhs; rw [← List.map_id g]
  exact List.map_congr_left fun x _ => by simp
theorem fn_toI {g : List Nat} {k : Nat} (hk : k < g.length) : fn (toI g) k = ((g.getD k 0 : Nat) : Int) := by
  unfold fn toI
  rw [List.getD_eq_getElem?_getD, List.getElem?_map, List.getElem?_eq_getElem hk, List.getD_eq_getElem?_getD, List.getElem?_eq_getElem hk]; rfl
theorem fe_none {s : Nat → Int} : ∀ {n : Nat}, (∀ k, k < n → s k = 0) → fe s n = 0
  | 0, _ => rfl
  | n + 1, h => by rw [fe_next (fe_none fun k hk => h k (by omega)), h n (by omega)]
theorem fre_ok {n : Nat} {g : List Nat} (h1 : ∀ x, x ∈ g → x < n) (h2 : g.Pairwise (· < ·)) : freS n (toI g) = 0 := by
  unfold freS
  refine fe_none fun k hk => ?_
  rw [toI_len] at hk
  have a1 : ∀ j (hj : j < g.length), fn (toI g) j = ((g[j] : Nat) : Int) := fun j hj => by
    rw [fn_toI hj, List.getD_eq_getElem?_getD, List.getElem?_eq_getElem hj]; rfl
  have b1 := h1 g[k] (List.getElem_mem hk)
  unfold frE
  rw [a1 k hk, if_neg (by omega)]
  by_cases h0 : k = 0
  · rw [if_neg (fun q => q.1 h0)]
  · have := List.pairwise_iff_getElem.1 h2 (k - 1) k (by omega) hk (by omega)
    rw [a1 (k - 1) (by omega), if_neg]
    intro q
    have := q.2
    omega
theorem inc_short : ∀ (n : Nat) (g : List Nat), (∀ x, x ∈ g → x < n) → g.Nodup → g.length ≤ n := by
  intro n g h hn
  have := wsL_le
  have h2 : ∀ (s t : List Nat), s.Nodup → (∀ x, x ∈ s → x ∈ t) → s.length ≤ t.length := by
    intro s
    induction s with
    | nil => intro t _ _; exact Nat.zero_le _
    | cons x s ih =>
      intro t hn hs
      rw [List.nodup_cons] at hn
      have h1 := ih (t.erase x) hn.2 fun y hy => (List.mem_erase_of_ne (fun e => hn.1 (by rw [← e]; exact hy))).2 (hs y (by simp [hy]))
      have h2 := List.length_erase_of_mem (hs x (by simp))
      have h3 := List.length_pos_of_mem (hs x (by simp))
      rw [List.length_cons]; omega
  have := h2 g (List.range n) hn fun x hx => List.mem_range.2 (h x hx)
  simpa using this
theorem wsL_bd {l : List Fd} {E : List Ed} (hok : Ok l E) : ∀ (g : List Nat), (∀ x, x ∈ g → x < l.length) → wsL l g ≤ g.length * 1000
  | [], _ => Nat.zero_le _
  | k :: g, h => by
    have h1 := wsL_bd hok g fun x hx => h x (by simp [hx])
    have h2 := hok.wt k (h k (by simp))
    have h3 : wtN l k ≤ 1000 := by unfold wtN; omega
    show wtN l k + wsL l g ≤ (g.length + 1) * 1000
    omega
theorem wsL_take (l : List Fd) {g : List Nat} {k : Nat} (hk : k < g.length) : wsL l (g.take (k + 1)) = wsL l (g.take k) + wtN l (g.getD k 0) := by
  rw [List.take_add_one, List.getElem?_eq_getElem hk, wsL_app, List.getD_eq_getElem?_getD, List.getElem?_eq_getElem hk]
  simp [wsL]
/-- What First finds has no fault. -/
theorem fr_some {l : List Fd} {E : List Ed} {r x : List Int} (h : frS l E r = 0) (hx : x.length = l.length) (hp : paB l E x = true) : frS l E x = 0 := by
  have hok := (fr_ok h).1
  unfold frS at h ⊢
  split at h
  · contradiction
  · rename_i h1
    rw [if_neg h1]
    have hv : vdB l x = true := by unfold paB at hp; rw [Bool.and_eq_true] at hp; exact hp.1
    unfold recE
    rw [if_neg (by simpa using hx), if_pos]
    refine al_iff.2 fun j hj => ?_
    obtain ⟨k, hk, e⟩ := inC_iff.1 (al_iff.1 hv j (by omega))
    have := hok.cd j (by omega) k hk
    unfold okN
    rw [← e]
    simp; omega
/-- No fields that weigh less are enough. -/
theorem ls_weigh {l : List Fd} {E : List Ed} (hok : Ok l E) {r x : List Int} (hr : r.length = l.length) {C : Nat → Nat} (hC : LsC l E r C) {g : List Nat} (hg : ∀ i, i ∈ g → i < l.length) (h : fil l E g r = some x) : wsL l (lst (chB l r C) l.length) ≤ wsL l g := by
  obtain ⟨D, hD, h1⟩ := fil_ls hok hr hg h
  have h2 := cs_wt hok.n12 (hC.2 D hD)
  have h3 := wsL_le l (lst (chB l r D) l.length) g (lst_nodup _ _) fun y hy => by
    have := mem_lst.1 hy
    exact h1 y this.1 this.2
  rw [wsL_lst] at h3 ⊢
  omega
set_option maxRecDepth 100000 in
set_option maxHeartbeats 4000000 in
theorem weight_c (q : Nat) (a : Option Addr) (c : Nat) (l : List Fd) (E : List Ed) (ga : Option Addr) (gc : Nat) (g : List Nat) (w : World) (hl : RdF w a l) (hok : Ok l E) (hg : Rd w ga (toI g)) (hgl : ∀ x, x ∈ g → x < l.length) (hgn : g.length ≤ 12)
    (hq : w.cell? ⟨q, 0, none⟩ = some (.slice a l.length c)) :
    Calls Tryd.prog 24 #[.slice ga (toI g).length gc, .pointer (some ⟨q, 0, none⟩)] w fun e w' => e = .returned (.int .i64 (wsL l g : Nat)) ∧ w' = w := by
  have HG := Lib.hid hg
  have HL := Lib.hid hl
  have HGL := Lib.hid hgl
  have HOK := Lib.hid hok
  rw [toI_len]
  obtain ⟨m, hm⟩ : ∃ m, g.length = m := ⟨_, rfl⟩
  obtain ⟨n, hn⟩ : ∃ m, l.length = m := ⟨_, rfl⟩
  have HM := Lib.hid hm
  have HN := Lib.hid hn
  rw [hn] at hq
  rw [hm] at hgn ⊢
  clear hg hl hgl hok hm hn
  go_enter Tryd.func24, Tryd.ntmps24
  go_wp2_with fail
  go_loopw [4, 6, 9] (fun sv _ iv wr => ∃ (k s : Nat), iv = .int .i64 k ∧ sv = .int .i64 s ∧ Hid (k ≤ m ∧ s = wsL l (g.take k) ∧ w = wr)) (fun _ _ iv _ => m - (intOf iv).toNat)
  case atStart => exact ⟨0, 0, rfl, rfl, Nat.zero_le _, rfl, rfl⟩
  case round =>
    obtain ⟨k, s, rfl, rfl, hS⟩ := hrel
    obtain ⟨hk, hs, rfl⟩ := hS.out
    by_cases hlt : k < m
    · have hlt' : (k : Int) < (m : Int) := by omega
      have hkg : k < g.length := by rw [HM.out]; exact hlt
      obtain ⟨gb, go, rfl, _, hgc⟩ := HG.out.2 (by rw [toI_len]; omega)
      have c0 := hgc k (by rw [toI_len]; exact hkg)
      rw [fn_toI hkg] at c0
      have hx := HGL.out (g.getD k 0) (by rw [List.getD_eq_getElem?_getD, List.getElem?_eq_getElem hkg]; exact List.getElem_mem hkg)
      have hT := wsL_take l hkg
      have hsb : s ≤ 12000 := by
        rw [hs]
        have := wsL_bd HOK.out (g.take k) fun x hx => HGL.out x (List.mem_of_mem_take hx)
        rw [List.length_take] at this
        have : min k g.length ≤ 12 := by omega
        omega
      obtain ⟨x, hxx⟩ : ∃ x, g.getD k 0 = x := ⟨_, rfl⟩
      rw [hxx] at c0 hx hT
      obtain ⟨fb, fo, rfl, hfd⟩ := HL.out.at_ hx
      obtain ⟨_, _, c1⟩ := hfd
      have hwt := HOK.out.wt x hx
      obtain ⟨y, hy⟩ : ∃ y, wtN l x = y := ⟨_, rfl⟩
      have hye : (fd l x).wt = (y : Int) := by rw [← hy]; unfold wtN; omega
      rw [hye] at c1 hwt
      rw [hy] at hT
      have hxn : (x : Int) < (n : Int) := by rw [HN.out] at hx; omega
      have hx0 : (0 : Int) ≤ (x : Int) := by omega
      have NX : Hid (k + 1 ≤ m ∧ s + y = wsL l (g.take (k + 1)) ∧ w = w) := ⟨hlt, by rw [hT, ← hs], rfl⟩
      obtain ⟨z, hz⟩ : ∃ z, s + y = z := ⟨_, rfl⟩
      rw [hz] at NX
      have hsy : (s : Int) + (y : Int) = (z : Int) := by omega
      have hzb : z ≤ 13000 := by omega
      clear hS hk hs hT hgc hkg hx hxx hy hye hz
      go_wp2_with fail
      go_roundw
      case rel => exact ⟨k + 1, z, by go_num, rfl, (by unfold Hid; exact ⟨NX.out.1, NX.out.2.1, trivial⟩)⟩
      case measure => simp [intOf]; omega
    · have hlt' : ¬ (k : Int) < (m : Int) := by omega
      have e : s = wsL l g := by
        rw [hs, List.take_of_length_le (by rw [HM.out]; omega)]
      subst e
      clear hS hk hs hlt
      go_wp2_with fail
      go_ret
      exact ⟨rfl, rfl⟩
end Go.Proofs.YtadfmplafehjlaaDoor
