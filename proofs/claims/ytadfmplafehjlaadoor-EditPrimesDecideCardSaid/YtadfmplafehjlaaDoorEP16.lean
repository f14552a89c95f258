/-
  Package edit: widened.
  Package edit: the search for a box that another one is within.
  Package edit: what is found of the prime boxes, in memory.
  Package edit: add.
-/
import Derived.Test.YtadfmplafehjlaaDoorEP15
namespace Go.Proofs.YtadfmplafehjlaaDoor
open Go.RowKit Go.WideMaps Go.Maps Go.Shelf

attribute [local go_sem] Oper.semAt_some

/-- What looks for prime boxes, beside what it has found. -/
structure PmR (W : World) (s p : Nat) (l : List Fd) (E : List Ed) (pa : Option Addr) (pc : Nat) : Prop where
  c0 : W.cell? ⟨s, 0, none⟩ = some (.pointer (some ⟨p, 0, none⟩))
  c1 : W.cell? ⟨s, 1, none⟩ = some (.slice pa (pss l E).length pc)
  pl : PlR W p l E
  rd : RdX W pa (pss l E)
theorem PmR.below {W W' : World} {s p : Nat} {l : List Fd} {E : List Ed} {pa : Option Addr} {pc : Nat} (h : PmR W s p l E pa pc) (hb : Below W.heap.size W W') : PmR W' s p l E pa pc :=
  ⟨(hb.cell (p := ⟨s, 0, none⟩) (cellLt h.c0)).trans h.c0, (hb.cell (p := ⟨s, 1, none⟩) (cellLt h.c1)).trans h.c1, h.pl.below hb, h.rd.below hb⟩
set_option maxRecDepth 100000 in
set_option maxHeartbeats 8000000 in
theorem widened_c (s p : Nat) (l : List Fd) (E : List Ed) (pa : Option Addr) (pc : Nat) (B : Nat → Nat) (w : World) (hM : PmR w s p l E pa pc) (hok : Ok l E) (hV : Vb l B) (hC : Clo l E B) :
    Calls Tryd.prog 85 #[.pointer (some ⟨s, 0, none⟩), bxV B] w fun e w' => e = .returned (bxV (wdS l (pss l E) B l.length)) ∧ Below w.heap.size w w' := by
  have mixed : Tryd.prog.follows .mixedOrders = true := by kernel_rfl
  obtain ⟨W1, hW1⟩ : ∃ V, w.alloc (.cells #[.int .u64 (B 0), .int .u64 (B 1), .int .u64 (B 2), .int .u64 (B 3), .int .u64 (B 4), .int .u64 (B 5), .int .u64 (B 6), .int .u64 (B 7), .int .u64 (B 8), .int .u64 (B 9), .int .u64 (B 10), .int .u64 (B 11)] 57) = V := ⟨_, rfl⟩
  obtain ⟨W2, hW2⟩ : ∃ V, W1.alloc (.cells #[.int .u64 0, .int .u64 0, .int .u64 0, .int .u64 0, .int .u64 0, .int .u64 0, .int .u64 0, .int .u64 0, .int .u64 0, .int .u64 0, .int .u64 0, .int .u64 0] 57) = V := ⟨_, rfl⟩
  obtain ⟨z0, hz0⟩ : ∃ q, w.heap.size = q := ⟨_, rfl⟩
  obtain ⟨z1, hz1⟩ : ∃ q, W1.heap.size = q := ⟨_, rfl⟩
  have b1 : Below w.heap.size w W1 := by rw [← hW1]; exact bel_one _ _
  have b2 : Below W1.heap.size W1 W2 := by rw [← hW2]; exact bel_one _ _
  have s1 : z1 = z0 + 1 := by rw [← hz1, ← hW1, ← hz0]; simp
  have s2 : W2.heap.size = z1 + 1 := by rw [← hW2, ← hz1]; simp
  have a1 : BxAt W1 z0 0 B := by rw [← hW1, ← hz0]; exact bx_made w B
  have a2 : BxAt W2 z1 0 (fun _ => 0) := by rw [← hW2, ← hz1]; exact bx_made W1 (fun _ => 0)
  have f1 : ∀ o, W1.frozen? ⟨z0, o, none⟩ = false := fun o => by rw [← hW1, ← hz0]; simp
  have f2 : ∀ o, W2.frozen? ⟨z1, o, none⟩ = false := fun o => by rw [← hW2, ← hz1]; simp
  have X2 : Hid (BxAt W2 z0 0 (wdS l (pss l E) B 0) ∧ BxAt W2 z1 0 (fun _ => 0) ∧ (∀ o, W2.frozen? ⟨z0, o, none⟩ = false) ∧ (∀ o, W2.frozen? ⟨z1, o, none⟩ = false) ∧ Below w.heap.size w W2) :=
    ⟨a1.below b2 (by omega), a2, fun o => (b2.frozen (p := ⟨z0, o, none⟩) (show z0 < W1.heap.size by omega)).trans (f1 o), f2, b1.trans (b2.mono b1.size)⟩
  have SZ : Hid (z1 = z0 + 1 ∧ w.heap.size = z0 ∧ W2.heap.size = z1 + 1) := ⟨s1, hz0, s2⟩
  have HOK := Lib.hid hok
  have HMM : Hid (∀ V, Kx (fun b => b = z0) W2 V → PmR V s p l E pa pc ∧ Below w.heap.size w V) := fun V hV => by
    have h2 : Below w.heap.size W2 V := hV.below (by omega) (fun b e => by omega)
    have h1 : Below w.heap.size w V := X2.out.2.2.2.2.trans h2
    exact ⟨hM.below h1, h1⟩
  have HVC : Hid (∀ i, i ≤ l.length → ∀ j, j < l.length → wdS l (pss l E) B i j < 2 ^ 20) := fun i hi j hj => p20 hok hj ((wd_ok hok hV hC i hi).1.lt j hj)
  have HLB : Hid (∀ m, m < (pss l E).length → ∀ j, j < l.length → bxAt (pss l E) m j < 2 ^ 20) := fun m hm j hj => p20 hok hj (pss_bd (pss_nth hm) j hj).2
  have HFU : Hid (∀ j, j < l.length → fuS l j < 2 ^ 20) := fun j hj => p20 hok hj (fu_lt l j hj)
  obtain ⟨n, hn⟩ : ∃ n, l.length = n := ⟨_, rfl⟩
  have HN := Lib.hid hn
  have n12 : n ≤ 12 := by rw [← hn]; exact hok.n12
  obtain ⟨PL, hPL⟩ : ∃ n, (pss l E).length = n := ⟨_, rfl⟩
  have HPL := Lib.hid hPL
  have hPLb : PL ≤ 9223372036854775807 := by rw [← hPL]; exact hM.rd.1
  have M2 := (HMM.out W2 (Kx.refl _ _)).1
  have d0 := M2.c0
  obtain ⟨fb, fc, e0, _, _⟩ := M2.pl.fs
  rw [hn] at e0 ⊢
  unfold bxV
  clear b1 b2 a1 a2 f1 f2 s1 s2 hM hok hV hC M2
  go_enter Tryd.func85, Tryd.ntmps85
  go_wp2_with fail
  clear hW1 hW2 d0 e0
  go_loopw [5, 6, 7, 8, 17] (fun _ _ _ _ iv wr => ∃ j : Nat, iv = .int .i64 j ∧ Hid (j ≤ n ∧ BxAt wr z0 0 (wdS l (pss l E) B j) ∧ Kx (fun b => b = z0) W2 wr ∧ ∀ o, wr.frozen? ⟨z0, o, none⟩ = false)) (fun _ _ _ _ iv _ => n - (intOf iv).toNat)
  case atStart => exact ⟨0, rfl, Nat.zero_le _, X2.out.1, Kx.refl _ _, X2.out.2.2.1⟩
  case round =>
    obtain ⟨j, rfl, hS⟩ := hrel
    obtain ⟨hj, hX, hk, hfr⟩ := hS.out
    have HX := Lib.hid hX
    have HK := Lib.hid hk
    have HF := Lib.hid hfr
    by_cases hlt : j < n
    · have hlt' : (j : Int) < (n : Int) := by omega
      have hj0 : (0 : Int) ≤ (j : Int) := by omega
      have hj12 : (j : Int) < 12 := by omega
      have M := (HMM.out wr hk).1
      have d0 := M.c0
      have d1 := M.pl.fu j (by omega)
      have hfj := HFU.out j (by rw [HN.out]; exact hlt)
      have o0 := hX j (by omega)
      rw [Nat.zero_add] at o0
      have hf := hfr j
      obtain ⟨fu, hfu⟩ : ∃ x, fuS l j = x := ⟨_, rfl⟩
      have HFJ := Lib.hid hfu
      rw [hfu] at d1 hfj
      obtain ⟨W3, hW3⟩ : ∃ V, wr.setCell ⟨z0, j, none⟩ (.int .u64 fu) = V := ⟨_, rfl⟩
      obtain ⟨D, hD⟩ : ∃ D, upd (wdS l (pss l E) B j) j fu = D := ⟨_, rfl⟩
      have HD := Lib.hid hD
      have K3 : Hid (BxAt W3 z0 0 D ∧ Kx (fun b => b = z0) W2 W3 ∧ (∀ o, W3.frozen? ⟨z0, o, none⟩ = false) ∧ z0 < W3.heap.size) := by
        rw [← hW3, ← hD]
        refine ⟨?_, HK.out.trans kx_set, fun o => ?_, ?_⟩
        · have h1 := HX.out.set (k := j) (by omega) fu
          rw [Nat.zero_add] at h1
          exact h1
        · rw [World.frozen?_setCell]; exact HF.out o
        · have := HK.out.size
          have := SZ.out
          simp; omega
      have M3 := (HMM.out W3 K3.out.2.1).1
      have y0 := M3.c0
      have y1 := M3.c1
      rw [HPL.out] at y1
      have HDB : Hid (∀ i, i < l.length → D i < 2 ^ 20) := fun i hi => by
        rw [← HD.out]
        unfold upd
        split
        · rw [← HFJ.out]; exact HFU.out j (by rw [HN.out]; exact hlt)
        · exact HVC.out j (by rw [HN.out]; exact hj) i hi
      clear hS hX hk hfr M M3 hfu hD
      go_wp2_with fail
      clear hW3 d0 d1 o0 hf
      go_loopw [6, 7, 8, 36] (fun bv _ _ iv w5 => ∃ m b : Nat, iv = .int .i64 m ∧ bv = .int .u64 b ∧ Hid (m ≤ PL ∧ b = brS l (pss l E) D j m ∧ Below W3.heap.size W3 w5)) (fun _ _ _ iv _ => PL - (intOf iv).toNat)
      case atStart => exact ⟨0, 0, rfl, rfl, Nat.zero_le _, rfl, Below.refl _ _⟩
      case round =>
        obtain ⟨m, b, rfl, rfl, hS⟩ := hrel
        obtain ⟨hm, hb, hbl⟩ := hS.out
        have HB := Lib.hid hb
        have HBL := Lib.hid hbl
        obtain ⟨wo, hwo⟩ : ∃ V : World, V = wr := ⟨_, rfl⟩
        subst hwo
        have K5 : Hid (Kx (fun b => b = z0) W2 wo) := K3.out.2.1.trans (Kx.of_below hbl)
        have M5 := Lib.hid (HMM.out wo K5.out).1
        have q0 := M5.out.c0
        have hjl : j < l.length := by rw [HN.out]; exact hlt
        by_cases hlt2 : m < PL
        · have hlt2' : (m : Int) < (PL : Int) := by omega
          have hm0 : (0 : Int) ≤ (m : Int) := by omega
          have q1 := M5.out.c1
          rw [HPL.out] at q1
          obtain ⟨lb, ea, hll, hlc⟩ := M5.out.rd.2 (by rw [HPL.out]; omega)
          subst ea
          have LC : Hid (BxAt wo lb (m * 12) (bxAt (pss l E) m) ∧ lb < wo.heap.size) := ⟨hlc m (by rw [HPL.out]; exact hlt2), hll⟩
          have C := Lib.hid (meet_c p l E z0 0 lb (m * 12) D (bxAt (pss l E) m) wo M5.out.pl HOK.out.n12 (K3.out.1.below hbl K3.out.2.2.2) LC.out.1 HDB.out (HLB.out m (by rw [HPL.out]; exact hlt2)))
          have hCj := HLB.out m (by rw [HPL.out]; exact hlt2) j hjl
          have hbb : b < 2 ^ 20 := by rw [hb]; exact br_lt (fun q hq => HLB.out q hq j hjl) m (by rw [HPL.out]; exact hm)
          obtain ⟨t, ht⟩ : ∃ t, meB l D (bxAt (pss l E) m) = t := ⟨_, rfl⟩
          have HT := Lib.hid ht
          rw [ht] at C
          obtain ⟨x, hx⟩ : ∃ x, bxAt (pss l E) m j = x := ⟨_, rfl⟩
          have HXX := Lib.hid hx
          rw [hx] at hCj
          have hl0 := LC.out.1 j (by omega)
          rw [hx] at hl0
          have HL0 := Lib.hid hl0
          clear hS hm hb hbl hlc ht hx hl0
          go_wp2_with fail
          refine C.out.mono ?_
          rintro e1 w6 ⟨rfl, b6⟩
          have B6 : Hid (Below W3.heap.size W3 w6) := HBL.out.trans (b6.mono HBL.out.size)
          have l6 := (b6.cell (p := ⟨lb, m * 12 + j, none⟩) LC.out.2).trans HL0.out
          clear C q0 q1 b6
          cases t with
          | true =>
            have hor : bits .or .u64 (b : Int) (x : Int) = ((b ||| x : Nat) : Int) := Go.u64_or_nat _ _ (by omega) (by omega)
            obtain ⟨b2, hb2⟩ : ∃ z, b ||| x = z := ⟨_, rfl⟩
            rw [hb2] at hor
            have NX : Hid (m + 1 ≤ PL ∧ b2 = brS l (pss l E) D j (m + 1) ∧ Below W3.heap.size W3 w6) := by
              refine ⟨hlt2, ?_, B6.out⟩
              rw [← hb2]
              show _ = if meB l D (bxAt (pss l E) m) = true then brS l (pss l E) D j m ||| bxAt (pss l E) m j else brS l (pss l E) D j m
              rw [HT.out, if_pos rfl, HXX.out, ← HB.out]
            clear hb2
            go_wp2_with fail
            go_roundw
            case rel => exact ⟨m + 1, b2, by go_num, rfl, NX.out⟩
            case measure => simp [intOf]; omega
          | false =>
            have NX : Hid (m + 1 ≤ PL ∧ b = brS l (pss l E) D j (m + 1) ∧ Below W3.heap.size W3 w6) := by
              refine ⟨hlt2, ?_, B6.out⟩
              show _ = if meB l D (bxAt (pss l E) m) = true then brS l (pss l E) D j m ||| bxAt (pss l E) m j else brS l (pss l E) D j m
              rw [HT.out, if_neg (by simp), ← HB.out]
            clear l6
            go_wp2_with fail
            go_roundw
            case rel => exact ⟨m + 1, b, by go_num, rfl, NX.out⟩
            case measure => simp [intOf]; omega
        · have hlt2' : ¬ (m : Int) < (PL : Int) := by omega
          have e : m = PL := by omega
          have hbb : b < 2 ^ 20 := by rw [hb]; exact br_lt (fun q hq => HLB.out q hq j hjl) m (by rw [HPL.out]; exact hm)
          have HB2 : Hid (b = brS l (pss l E) D j (pss l E).length) := by unfold Hid; rw [HPL.out, ← e]; exact hb
          have a0 := (K3.out.1.below hbl K3.out.2.2.2) j (by omega)
          rw [Nat.zero_add] at a0
          have hDj : D j = fu := by rw [← HD.out]; unfold upd; rw [if_pos rfl]
          rw [hDj] at a0
          have hf := (hbl.frozen (p := ⟨z0, j, none⟩) K3.out.2.2.2).trans (K3.out.2.2.1 j)
          have hand : bits .andNot .u64 (fu : Int) (b : Int) = ((fu &&& (18446744073709551615 - b) : Nat) : Int) := Go.u64_andNot_nat _ _ (by omega) (by omega)
          obtain ⟨v, hv⟩ : ∃ z, fu &&& (18446744073709551615 - b) = z := ⟨_, rfl⟩
          rw [hv] at hand
          have HVV := Lib.hid hv
          obtain ⟨W7, hW7⟩ : ∃ V, wo.setCell ⟨z0, j, none⟩ (.int .u64 v) = V := ⟨_, rfl⟩
          have NX : Hid (j + 1 ≤ n ∧ BxAt W7 z0 0 (wdS l (pss l E) B (j + 1)) ∧ Kx (fun b => b = z0) W2 W7 ∧ ∀ o, W7.frozen? ⟨z0, o, none⟩ = false) := by
            rw [← hW7]
            refine ⟨hlt, ?_, K5.out.trans kx_set, fun o => ?_⟩
            · have h1 := (K3.out.1.below hbl K3.out.2.2.2).set (k := j) (by omega) v
              rw [Nat.zero_add] at h1
              have e2 : wdS l (pss l E) B (j + 1) = upd D j v := by
                show upd (upd (wdS l (pss l E) B j) j (fuS l j)) j (fuS l j &&& (18446744073709551615 - brS l (pss l E) (upd (wdS l (pss l E) B j) j (fuS l j)) j (pss l E).length)) = _
                rw [HFJ.out, HD.out, ← HB2.out, HVV.out]
              rw [e2]; exact h1
            · rw [World.frozen?_setCell]
              exact (hbl.frozen (p := ⟨z0, o, none⟩) K3.out.2.2.2).trans (K3.out.2.2.1 o)
          clear hS hm hb hbl hlt2 e hv hDj q0
          go_wp2_with fail
          clear hW7 a0 hf
          go_roundw
          case rel => exact ⟨j + 1, by go_num, NX.out⟩
          case measure => simp [intOf]; omega
    · have hlt' : ¬ (j : Int) < (n : Int) := by omega
      have e : j = n := by omega
      subst e
      obtain ⟨J, hJ⟩ : ∃ J, wdS l (pss l E) B j = J := ⟨_, rfl⟩
      have HJ := Lib.hid hJ
      have XX : BxAt wr z0 0 J := by rw [← hJ]; exact hX
      have ZZ : BxAt wr z1 0 (fun _ => 0) := fun i hi => hk.cell (X2.out.2.1 i hi) (by have := SZ.out; show z1 ≠ z0; omega)
      have ZF : ∀ o, wr.frozen? ⟨z1, o, none⟩ = false := fun o => (hk.frozen (p := ⟨z1, o, none⟩) (by have := SZ.out; show z1 < _; omega) (by have := SZ.out; show z1 ≠ z0; omega)).trans (X2.out.2.2.2.1 o)
      obtain ⟨W8, hW8⟩ : ∃ W, putB wr z1 J 12 = W := ⟨_, rfl⟩
      have RX : BxAt W8 z1 0 J := by rw [← hW8]; exact bx_set12 ZZ J
      have RB : Hid (Below w.heap.size w W8) := by
        unfold Hid; rw [← hW8]
        have := SZ.out
        exact putB_below (HMM.out wr hk).2 (by omega) J 12
      have m0 := XX 0 (by decide)
      have m1 := XX 1 (by decide)
      have m2 := XX 2 (by decide)
      have m3 := XX 3 (by decide)
      have m4 := XX 4 (by decide)
      have m5 := XX 5 (by decide)
      have m6 := XX 6 (by decide)
      have m7 := XX 7 (by decide)
      have m8 := XX 8 (by decide)
      have m9 := XX 9 (by decide)
      have m10 := XX 10 (by decide)
      have m11 := XX 11 (by decide)
      simp only [Nat.zero_add] at m0 m1 m2 m3 m4 m5 m6 m7 m8 m9 m10 m11
      have t0 := ZZ 0 (by decide)
      have t1 := ZZ 1 (by decide)
      have t2 := ZZ 2 (by decide)
      have t3 := ZZ 3 (by decide)
      have t4 := ZZ 4 (by decide)
      have t5 := ZZ 5 (by decide)
      have t6 := ZZ 6 (by decide)
      have t7 := ZZ 7 (by decide)
      have t8 := ZZ 8 (by decide)
      have t9 := ZZ 9 (by decide)
      have t10 := ZZ 10 (by decide)
      have t11 := ZZ 11 (by decide)
      simp only [Nat.zero_add] at t0 t1 t2 t3 t4 t5 t6 t7 t8 t9 t10 t11
      have r0 := RX 0 (by decide)
      have r1 := RX 1 (by decide)
      have r2 := RX 2 (by decide)
      have r3 := RX 3 (by decide)
      have r4 := RX 4 (by decide)
      have r5 := RX 5 (by decide)
      have r6 := RX 6 (by decide)
      have r7 := RX 7 (by decide)
      have r8 := RX 8 (by decide)
      have r9 := RX 9 (by decide)
      have r10 := RX 10 (by decide)
      have r11 := RX 11 (by decide)
      simp only [Nat.zero_add] at r0 r1 r2 r3 r4 r5 r6 r7 r8 r9 r10 r11
      simp only [putB] at hW8
      clear hJ XX ZZ RX hS hX hk hfr hlt
      go_wp2_with fail
      refine bodyPost_ret (v := bxV J) (by unfold bxV; simp [results, Tryd.results85, go_sem, r0, r1, r2, r3, r4, r5, r6, r7, r8, r9, r10, r11]) rfl ?_
      exact ⟨by rw [HJ.out]; rfl, by have := RB.out; rw [hz0] at this; exact this⟩
end Go.Proofs.YtadfmplafehjlaaDoor
namespace Go.Proofs.YtadfmplafehjlaaDoor
open Go.RowKit Go.WideMaps Go.Maps Go.Shelf

attribute [local go_sem] Oper.semAt_some

/-- Whether a box is within one of a list. -/
def cvB (C : Nat → Nat) (L : List (Nat → Nat)) : Bool := !(al (fun q => !wiB C (bxAt L q)) L.length)
abbrev adV (cb : Nat) : Value := .func (.func 83) #[] #[.pointer (some ⟨cb, 0, none⟩)]
set_option maxRecDepth 100000 in
set_option maxHeartbeats 8000000 in
theorem add1_c (cb qb qo : Nat) (C P : Nat → Nat) (w : World) (h0 : w.cell? ⟨cb, 0, none⟩ = some (.pointer (some ⟨qb, qo, none⟩))) (hC : BxAt w qb qo C) (hq : qb < w.heap.size) (hCb : ∀ i, C i < 2 ^ 20) (hPb : ∀ i, P i < 2 ^ 20) :
    Calls Tryd.prog 83 #[bxV P, .pointer (some ⟨cb, 0, none⟩)] w fun e w' => e = .returned (.bool (wiB C P)) ∧ Below w.heap.size w w' := by
  obtain ⟨W1, hW1⟩ : ∃ V, w.alloc (.cells #[.int .u64 (P 0), .int .u64 (P 1), .int .u64 (P 2), .int .u64 (P 3), .int .u64 (P 4), .int .u64 (P 5), .int .u64 (P 6), .int .u64 (P 7), .int .u64 (P 8), .int .u64 (P 9), .int .u64 (P 10), .int .u64 (P 11)] 57) = V := ⟨_, rfl⟩
  obtain ⟨z0, hz0⟩ : ∃ q, w.heap.size = q := ⟨_, rfl⟩
  have b1 : Below w.heap.size w W1 := by rw [← hW1]; exact bel_one _ _
  have a1 : BxAt W1 z0 0 P := by rw [← hW1, ← hz0]; exact bx_made w P
  have B1 := Lib.hid b1
  have g0 := (b1.cell (p := ⟨cb, 0, none⟩) (cellLt h0)).trans h0
  have C1 := Lib.hid (isWithin_c qb qo z0 0 C P W1 (hC.below b1 hq) a1 hCb hPb)
  unfold bxV
  clear h0 hC hCb hPb b1 a1
  go_enter Tryd.func83, Tryd.ntmps83
  go_wp2_with fail
  refine C1.out.mono ?_
  rintro e1 w2 ⟨rfl, b2⟩
  have B2 : Hid (Below w.heap.size w w2) := B1.out.trans (b2.mono B1.out.size)
  clear b2 hW1 g0
  go_wp2
  go_ret
  exact ⟨rfl, B2.out⟩
def IxP (C : Nat → Nat) (L : List (Nat → Nat)) (w : World) (e : Ending) (w' : World) : Prop := ∃ i : Int, e = .returned (.int .i64 i) ∧ decide (0 ≤ i) = cvB C L ∧ Below w.heap.size w w'
set_option maxRecDepth 100000 in
set_option maxHeartbeats 8000000 in
theorem indexX_c (a : Option Addr) (c : Nat) (L : List (Nat → Nat)) (cb qb qo : Nat) (C : Nat → Nat) (w : World) (hL : RdX w a L) (h0 : w.cell? ⟨cb, 0, none⟩ = some (.pointer (some ⟨qb, qo, none⟩))) (hC : BxAt w qb qo C) (hq : qb < w.heap.size) (hCb : ∀ i, C i < 2 ^ 20) (hLb : ∀ n, n < L.length → ∀ i, bxAt L n i < 2 ^ 20) :
    Calls Tryd.prog 109 #[.slice a L.length c, adV cb] w (IxP C L w) := by
  have mixed : Tryd.prog.follows .mixedOrders = true := by kernel_rfl
  obtain ⟨n, hn⟩ : ∃ n, L.length = n := ⟨_, rfl⟩
  have HN := Lib.hid hn
  have n64 : n ≤ 9223372036854775807 := by rw [← hn]; exact hL.1
  have HL := Lib.hid hL
  have CC : Hid (∀ k V, k < n → Below w.heap.size w V → Calls Tryd.prog 83 #[bxV (bxAt L k), .pointer (some ⟨cb, 0, none⟩)] V fun e w' => e = .returned (.bool (wiB C (bxAt L k))) ∧ Below V.heap.size V w') := fun k V hk hV =>
    add1_c cb qb qo C (bxAt L k) V ((hV.cell (p := ⟨cb, 0, none⟩) (cellLt h0)).trans h0) (hC.below hV hq) (Nat.lt_of_lt_of_le hq hV.size) hCb (hLb k (by rw [hn]; exact hk))
  rw [hn]
  unfold bxV at CC
  clear hL h0 hC hq hCb hLb hn
  go_enter Tryd.func109, Tryd.ntmps109
  go_wp2_with fail
  go_loopw [5, 8] (fun _ iv wr => ∃ k : Nat, iv = .int .i64 k ∧ Hid (k ≤ n ∧ al (fun q => !wiB C (bxAt L q)) k = true ∧ Below w.heap.size w wr)) (fun _ iv _ => n - (intOf iv).toNat)
  case atStart => exact ⟨0, rfl, Nat.zero_le _, rfl, Below.refl _ _⟩
  case round =>
    obtain ⟨k, rfl, hS⟩ := hrel
    obtain ⟨hk, hall, hb⟩ := hS.out
    have BR := Lib.hid hb
    have HALL := Lib.hid hall
    by_cases hlt : k < n
    · have hlt' : (k : Int) < (n : Int) := by omega
      have hk0 : (0 : Int) ≤ (k : Int) := by omega
      obtain ⟨lb, ea, hll, hlc⟩ := (HL.out.below hb).2 (by rw [HN.out]; omega)
      subst ea
      have LC := hlc k (by rw [HN.out]; exact hlt)
      have C1 := Lib.hid (CC.out k wr hlt hb)
      obtain ⟨P, hP⟩ : ∃ P, bxAt L k = P := ⟨_, rfl⟩
      have HPP := Lib.hid hP
      rw [hP] at C1 LC
      have x0 := LC 0 (by decide)
      have x1 := LC 1 (by decide)
      have x2 := LC 2 (by decide)
      have x3 := LC 3 (by decide)
      have x4 := LC 4 (by decide)
      have x5 := LC 5 (by decide)
      have x6 := LC 6 (by decide)
      have x7 := LC 7 (by decide)
      have x8 := LC 8 (by decide)
      have x9 := LC 9 (by decide)
      have x10 := LC 10 (by decide)
      have x11 := LC 11 (by decide)
      simp only [Nat.add_zero] at x0 x1 x2 x3 x4 x5 x6 x7 x8 x9 x10 x11
      obtain ⟨t, ht⟩ : ∃ t, wiB C P = t := ⟨_, rfl⟩
      have HT := Lib.hid ht
      rw [ht] at C1
      clear hS hk hall hb hlc LC hP ht hll
      go_wp2_with fail
      refine C1.out.mono ?_
      rintro e1 w2 ⟨rfl, b2⟩
      have B2 : Hid (Below w.heap.size w w2) := BR.out.trans (b2.mono BR.out.size)
      clear b2 C1 x0 x1 x2 x3 x4 x5 x6 x7 x8 x9 x10 x11
      cases t with
      | true =>
        have PP : Hid (IxP C L w (.returned (.int .i64 k)) w2) := by
          refine ⟨k, rfl, ?_, B2.out⟩
          unfold cvB
          rw [al_stop (i := k) (by rw [HN.out]; exact hlt) (by rw [HPP.out, HT.out]; rfl)]
          simp
        go_wp2_with fail
        go_ret
        exact PP.out
      | false =>
        have NX : Hid (k + 1 ≤ n ∧ al (fun q => !wiB C (bxAt L q)) (k + 1) = true ∧ Below w.heap.size w w2) := ⟨hlt, al_step HALL.out (by rw [HPP.out, HT.out]; rfl), B2.out⟩
        go_wp2_with fail
        go_roundw
        case rel => exact ⟨k + 1, by go_num, NX.out⟩
        case measure => simp [intOf]; omega
    · have hlt' : ¬ (k : Int) < (n : Int) := by omega
      have PP : Hid (IxP C L w (.returned (.int .i64 (-1))) wr) := by
        refine ⟨-1, rfl, ?_, hb⟩
        unfold cvB
        rw [HN.out, ← (show k = n by omega), hall]; rfl
      clear hS hk hall hb hlt
      go_wp2_with fail
      go_ret
      exact PP.out
set_option maxRecDepth 100000 in
theorem containsX_c (a : Option Addr) (c : Nat) (L : List (Nat → Nat)) (cb qb qo : Nat) (C : Nat → Nat) (w : World) (hL : RdX w a L) (h0 : w.cell? ⟨cb, 0, none⟩ = some (.pointer (some ⟨qb, qo, none⟩))) (hC : BxAt w qb qo C) (hq : qb < w.heap.size) (hCb : ∀ i, C i < 2 ^ 20) (hLb : ∀ n, n < L.length → ∀ i, bxAt L n i < 2 ^ 20) :
    Calls Tryd.prog 82 #[.slice a L.length c, adV cb] w fun e w' => e = .returned (.bool (cvB C L)) ∧ Below w.heap.size w w' := by
  have C1 := Lib.hid (indexX_c a c L cb qb qo C w hL h0 hC hq hCb hLb)
  obtain ⟨n, hn⟩ : ∃ n, L.length = n := ⟨_, rfl⟩
  unfold IxP at C1
  rw [hn] at C1 ⊢
  clear hL h0 hC hq hCb hLb hn
  go_enter Tryd.func82, Tryd.ntmps82
  go_wp2_with fail
  refine C1.out.mono ?_
  rintro e w1 ⟨z, rfl, hz, hw⟩
  have HZ := Lib.hid hz
  have HW := Lib.hid hw
  clear hz hw
  go_wp2
  go_ret
  exact ⟨by rw [← HZ.out]; rfl, HW.out⟩
end Go.Proofs.YtadfmplafehjlaaDoor
namespace Go.Proofs.YtadfmplafehjlaaDoor
open Go.RowKit Go.WideMaps Go.Maps Go.Shelf

/-- Boxes without empty sets whose records all fail. -/
def Good (l : List Fd) (E : List Ed) (L : List (Nat → Nat)) : Prop := ∀ P, P ∈ L → Vb l P ∧ Clo l E P
theorem vb_20 {l : List Fd} {E : List Ed} (hok : Ok l E) {P : Nat → Nat} (h : Vb l P) : ∀ i, P i < 2 ^ 20 := fun i => by
  by_cases hi : i < l.length
  · exact p20 hok hi (h.lt i hi)
  · rw [h.out i (by omega)]; decide
theorem bx_mem {L : List (Nat → Nat)} {n : Nat} (h : n < L.length) : bxAt L n ∈ L := by
  unfold bxAt
  rw [List.getD_eq_getElem?_getD, List.getElem?_eq_getElem h]
  exact List.getElem_mem h
theorem mem_bx {L : List (Nat → Nat)} {P : Nat → Nat} (h : P ∈ L) : ∃ n, n < L.length ∧ bxAt L n = P := by
  obtain ⟨n, hn, e⟩ := List.getElem_of_mem h
  exact ⟨n, hn, by unfold bxAt; rw [List.getD_eq_getElem?_getD, List.getElem?_eq_getElem hn]; exact e⟩
theorem Cov.app {L : List (Nat → Nat)} {C : Nat → Nat} (h : Cov L C) (M : List (Nat → Nat)) : Cov (L ++ M) C := by
  obtain ⟨P, h1, h2⟩ := h
  exact ⟨P, List.mem_append_left _ h1, h2⟩
theorem cv_yes {l : List Fd} {E : List Ed} (hok : Ok l E) {L : List (Nat → Nat)} (hG : Good l E L) {C : Nat → Nat} (hC : Vb l C) (h : cvB C L = true) : Cov L C := by
  unfold cvB at h
  have h1 : ¬ ∀ q, q < L.length → (!wiB C (bxAt L q)) = true := fun q => by rw [al_iff.2 q] at h; cases h
  have h2 : ∃ q, q < L.length ∧ wiB C (bxAt L q) = true := Classical.byContradiction fun x => h1 fun q hq => by
    cases e : wiB C (bxAt L q) with
    | false => rfl
    | true => exact absurd ⟨q, hq, e⟩ x
  obtain ⟨q, hq, e⟩ := h2
  exact ⟨_, bx_mem hq, (wiB_iff (vb_20 hok hC) (vb_20 hok (hG _ (bx_mem hq)).1) (fun i hi => hC.out i (by have := hok.n12; omega))).1 e⟩
/-- The prime boxes are looked for. -/
structure PrI (w0 : World) (s p base : Nat) (l : List Fd) (E : List Ed) (pa : Option Addr) (pc : Nat) (L : List (Nat → Nat)) (W : World) : Prop where
  s0 : w0.heap.size ≤ s
  sb : s < base
  sz : base ≤ W.heap.size
  pl : PlR w0 p l E
  rd : RdX w0 pa (pss l E)
  bel : Below w0.heap.size w0 W
  c0 : W.cell? ⟨s, 0, none⟩ = some (.pointer (some ⟨p, 0, none⟩))
  c1 : W.cell? ⟨s, 1, none⟩ = some (.slice pa (pss l E).length pc)
  fr : ∀ o, W.frozen? ⟨s, o, none⟩ = false
  ex : ∃ v, W.cell? ⟨s, 2, none⟩ = some v ∧ W.ownsRow base 57 12 v L.length (bxC L)
section
variable {w0 W W' : World} {s p base : Nat} {l : List Fd} {E : List Ed} {pa : Option Addr} {pc : Nat} {L : List (Nat → Nat)}
theorem PrI.pm (h : PrI w0 s p base l E pa pc L W) : PmR W s p l E pa pc := ⟨h.c0, h.c1, h.pl.below h.bel, h.rd.below h.bel⟩
theorem PrI.below (h : PrI w0 s p base l E pa pc L W) (hb : Below W.heap.size W W') : PrI w0 s p base l E pa pc L W' := by
  have hs : s < W.heap.size := cellLt h.c0
  obtain ⟨v, h1, h2⟩ := h.ex
  exact ⟨h.s0, h.sb, Nat.le_trans h.sz hb.size, h.pl, h.rd, h.bel.trans (hb.mono h.bel.size), (hb.cell (p := ⟨s, 0, none⟩) hs).trans h.c0, (hb.cell (p := ⟨s, 1, none⟩) hs).trans h.c1,
    fun o => (hb.frozen (p := ⟨s, o, none⟩) hs).trans (h.fr o), v, (hb.cell (p := ⟨s, 2, none⟩) hs).trans h1, keep_own h2 hb⟩
/-- A box more. -/
theorem PrI.add {W5 w6 : World} {v : Value} {g cap : Nat} {P : Nat → Nat} (h : PrI w0 s p base l E pa pc L W5) (hv : W5.cell? ⟨s, 2, none⟩ = some v)
    (hown : w6.ownsRow base 57 12 (.slice (some ⟨g, 0, none⟩) (L.length + 1) cap) (L.length + 1) (bxC L ++ bxL P)) (hg : W5.grownBy w6 v.ownBlock) :
    w6.cell? ⟨s, 2, none⟩ = some v ∧ (∀ o, w6.frozen? ⟨s, o, none⟩ = false) ∧ PrI w0 s p base l E pa pc (L ++ [P]) (w6.setCell ⟨s, 2, none⟩ (.slice (some ⟨g, 0, none⟩) (L.length + 1) cap)) := by
  obtain ⟨v', e1, ho⟩ := h.ex
  rw [hv] at e1
  injection e1 with e1
  subst e1
  have hs : s < W5.heap.size := cellLt h.c0
  have hsb := h.sb
  have hs0 := h.s0
  have ne : some s ≠ v.ownBlock := fun q => by have := (ho.lt s q.symm).1; omega
  have blk : w6.heap[s]? = W5.heap[s]? := hg.block s hs ne
  have cl : ∀ o u, W5.cell? ⟨s, o, none⟩ = some u → w6.cell? ⟨s, o, none⟩ = some u := fun o u e => (World.cell?_of_block blk).trans e
  have f6 : ∀ o, w6.frozen? ⟨s, o, none⟩ = false := fun o => (World.frozen?_of_block blk).trans (h.fr o)
  have gs : g ≠ s := fun e => by have := (hown.lt g rfl).1; omega
  have hsz := hg.size
  refine ⟨cl 2 v hv, f6, h.s0, h.sb, ?_, h.pl, h.rd, ?_, ?_, ?_, fun o => ?_, .slice (some ⟨g, 0, none⟩) (L.length + 1) cap, ?_, ?_⟩
  · have := h.sz; simp; omega
  · exact (h.bel.grown hg h.bel.size (fun b e => by have := (ho.lt b e).1; omega)).setCell (p := ⟨s, 2, none⟩) h.s0 _
  · rw [World.cell?_setCell_other _ _ _ _ (fun q => by injection q with _ q; cases q)]; exact cl 0 _ h.c0
  · rw [World.cell?_setCell_other _ _ _ _ (fun q => by injection q with _ q; cases q)]; exact cl 1 _ h.c1
  · rw [World.frozen?_setCell]; exact f6 o
  · rw [World.cell?_setCell_same _ _ _ (cl 2 v hv)]
  · rw [bxC_snoc, List.length_append]
    exact own_same hown fun b e => set_block w6 s 2 _ (fun q => by
      have e : some g = some b := e
      injection e with e
      exact gs (e.trans q))
/-- The block of the row of what is found. -/
def SO (s : Nat) (W : World) (b : Nat) : Prop := ∃ v : Value, W.cell? ⟨s, 2, none⟩ = some v ∧ v.ownBlock = some b
theorem PrI.kg (h : PrI w0 s p base l E pa pc L W) (hb : Below W.heap.size W W') : Kg (fun b => b = s) (SO s) W W' :=
  Kg.of_below hb fun b ⟨v, e1, e2⟩ => ⟨v, (hb.cell (p := ⟨s, 2, none⟩) (show s < W.heap.size from cellLt h.c0)).symm.trans e1, e2⟩
theorem PrI.addKg {W5 w6 : World} {v : Value} {g cap n : Nat} (h : PrI w0 s p base l E pa pc L W5) (hv : W5.cell? ⟨s, 2, none⟩ = some v) (hg : W5.grownBy w6 v.ownBlock) (hat : v.ownBlock = some g ∨ g = W5.heap.size) (hc : w6.cell? ⟨s, 2, none⟩ = some v) :
    Kg (fun b => b = s) (SO s) W5 (w6.setCell ⟨s, 2, none⟩ (.slice (some ⟨g, 0, none⟩) n cap)) := by
  refine ⟨hg.os, hg.tape, hg.output, by have := hg.size; simp; omega, fun b h1 h2 h3 => ?_, fun b ⟨u, e1, e2⟩ => ?_⟩
  · exact (set_block w6 s 2 _ h2).trans (hg.block b h1 fun q => h3 ⟨v, hv, q.symm⟩)
  · rw [World.cell?_setCell_same _ _ _ hc] at e1
    injection e1 with e1
    subst e1
    have e2 : some g = some b := e2
    injection e2 with e2
    subst e2
    rcases hat with q | q
    · exact .inl ⟨v, hv, q⟩
    · exact .inr (by omega)
end
end Go.Proofs.YtadfmplafehjlaaDoor
namespace Go.Proofs.YtadfmplafehjlaaDoor
open Go.RowKit Go.WideMaps Go.Maps Go.Shelf

attribute [local go_sem] Oper.semAt_some

def S13 (q o : Nat) (C : Nat → Nat) (a1 : Addr) (v1 : Value) (w : World) : Prop := w.cell? ⟨q, o, none⟩ = some (.int .u64 (C 0)) ∧ w.cell? ⟨q, o + 1, none⟩ = some (.int .u64 (C 1)) ∧ w.cell? ⟨q, o + 2, none⟩ = some (.int .u64 (C 2)) ∧ w.cell? ⟨q, o + 3, none⟩ = some (.int .u64 (C 3)) ∧ w.cell? ⟨q, o + 4, none⟩ = some (.int .u64 (C 4)) ∧ w.cell? ⟨q, o + 5, none⟩ = some (.int .u64 (C 5)) ∧ w.cell? ⟨q, o + 6, none⟩ = some (.int .u64 (C 6)) ∧ w.cell? ⟨q, o + 7, none⟩ = some (.int .u64 (C 7)) ∧ w.cell? ⟨q, o + 8, none⟩ = some (.int .u64 (C 8)) ∧ w.cell? ⟨q, o + 9, none⟩ = some (.int .u64 (C 9)) ∧ w.cell? ⟨q, o + 10, none⟩ = some (.int .u64 (C 10)) ∧ w.cell? ⟨q, o + 11, none⟩ = some (.int .u64 (C 11)) ∧ w.cell? a1 = some v1
theorem S13.of {q o : Nat} {C : Nat → Nat} {a1 : Addr} {v1 : Value} {w : World} (h : BxAt w q o C ∧ w.cell? a1 = some v1) : S13 q o C a1 v1 w :=
  ⟨h.1 0 (by decide), h.1 1 (by decide), h.1 2 (by decide), h.1 3 (by decide), h.1 4 (by decide), h.1 5 (by decide), h.1 6 (by decide), h.1 7 (by decide), h.1 8 (by decide), h.1 9 (by decide), h.1 10 (by decide), h.1 11 (by decide), h.2⟩
/-- The outcome of add. -/
def AddP (w0 : World) (s p base : Nat) (l : List Fd) (E : List Ed) (pa : Option Addr) (pc : Nat) (L : List (Nat → Nat)) (C : Nat → Nat) (w : World) (e : Ending) (w' : World) : Prop :=
  Kg (fun b => b = s) (SO s) w w' ∧ ∃ M, e = .returned (.bool (decide ((L ++ M).length ≤ 40))) ∧ (L ++ M).length ≤ 41 ∧ PrI w0 s p base l E pa pc (L ++ M) w' ∧ Good l E (L ++ M) ∧ Cov (L ++ M) C
set_option maxRecDepth 100000 in
set_option maxHeartbeats 8000000 in
theorem add_c (w0 : World) (s p base : Nat) (l : List Fd) (E : List Ed) (pa : Option Addr) (pc : Nat) (L : List (Nat → Nat)) (qb qo : Nat) (C : Nat → Nat) (w : World) (hI : PrI w0 s p base l E pa pc L w) (hok : Ok l E) (hG : Good l E L) (hL : L.length ≤ 40)
    (hC : BxAt w qb qo C) (hqs : qb ≠ s) (hqo : ∀ v, w.cell? ⟨s, 2, none⟩ = some v → v.ownBlock ≠ some qb) (hV : Vb l C) (hCl : Clo l E C) :
    Calls Tryd.prog 65 #[.pointer (some ⟨s, 0, none⟩), .pointer (some ⟨qb, qo, none⟩)] w (AddP w0 s p base l E pa pc L C w) := by
  have mixed : Tryd.prog.follows .mixedOrders = true := by kernel_rfl
  obtain ⟨zf, hzi, hzf⟩ := infoBx
  obtain ⟨i0, hi, hz0', hz1', hz2'⟩ := info_parts hzi
  obtain ⟨v, hv2, ho⟩ := hI.ex
  obtain ⟨a, cc, rfl, hrd⟩ := rdX_own ho (by omega)
  have hq : qb < w.heap.size := cellLt (hC 0 (by decide))
  have hs : s < w.heap.size := cellLt hI.c0
  obtain ⟨W1, hW1⟩ : ∃ V, w.alloc (.cells #[.pointer (some ⟨qb, qo, none⟩)] 110) = V := ⟨_, rfl⟩
  obtain ⟨z0, hzz⟩ : ∃ q, w.heap.size = q := ⟨_, rfl⟩
  have b1 : Below w.heap.size w W1 := by rw [← hW1]; exact bel_one _ _
  have x1 : W1.cell? ⟨z0, 0, none⟩ = some (.pointer (some ⟨qb, qo, none⟩)) := by rw [← hW1, ← hzz, World.cell?_alloc_new]; rfl
  have lz : z0 < W1.heap.size := by rw [← hW1, ← hzz]; simp
  have I1 := hI.below b1
  have C1x := hC.below b1 hq
  have v1 := (b1.cell (p := ⟨s, 2, none⟩) hs).trans hv2
  have R1 := hrd.below b1
  have O1 := keep_own ho b1
  have CF := Lib.hid (containsX_c a cc L z0 qb qo C W1 R1 x1 C1x (Nat.lt_of_lt_of_le hq b1.size) (vb_20 hok hV) (fun m hm => vb_20 hok (hG _ (bx_mem hm)).1))
  have HN0 : L.length ≤ 40 := hL
  have NQ : Hid (some qb ≠ (Value.slice a L.length cc).ownBlock ∧ some z0 ≠ (Value.slice a L.length cc).ownBlock ∧ qb ≠ s ∧ z0 ≠ s) :=
    ⟨fun q => hqo _ hv2 q.symm, fun q => by have := (ho.lt z0 q.symm).2; omega, hqs, by omega⟩
  have HOK := Lib.hid hok
  have HG := Lib.hid hG
  have HVC : Hid (Vb l C ∧ Clo l E C) := ⟨hV, hCl⟩
  obtain ⟨n, hn⟩ : ∃ n, L.length = n := ⟨_, rfl⟩
  have HN := Lib.hid hn
  have I1h := Lib.hid I1
  have KW0 : Hid (∀ V, Below W1.heap.size W1 V → Kg (fun b => b = s) (SO s) w V) := fun V hV => hI.kg (b1.trans (hV.mono b1.size))
  rw [hn] at CF v1 HN0 O1 NQ
  have O1h := Lib.hid O1
  have C1h := Lib.hid C1x
  have V1h := Lib.hid v1
  have X1h := Lib.hid x1
  clear hI hok hG hL hC hqs hqo hV hCl hv2 ho hrd b1 hn C1x R1 O1 I1
  go_enter Tryd.func65, Tryd.ntmps65
  go_wp2_with fail
  refine CF.out.mono ?_
  rintro e1 w2 ⟨rfl, b2⟩
  have B2 := Lib.hid b2
  obtain ⟨t, ht⟩ : ∃ t, cvB C L = t := ⟨_, rfl⟩
  have HT := Lib.hid ht
  rw [ht]
  have HI2 := Lib.hid (I1h.out.below b2)
  have v2 := (b2.cell (p := ⟨s, 2, none⟩) (cellLt V1h.out)).trans V1h.out
  clear hW1 CF b2 ht
  cases t with
  | true =>
    have hle : (n : Int) ≤ 40 := by omega
    have PP : Hid (AddP w0 s p base l E pa pc L C w (.returned (.bool true)) w2) := by
      refine ⟨KW0.out w2 B2.out, [], ?_, ?_, ?_, ?_, ?_⟩
      · rw [List.append_nil, HN.out, decide_eq_true (by omega)]
      · rw [List.append_nil, HN.out]; omega
      · rw [List.append_nil]; exact HI2.out
      · rw [List.append_nil]; exact HG.out
      · rw [List.append_nil]; exact cv_yes HOK.out HG.out HVC.out.1 HT.out
    clear HI2 v1 x1
    go_wp2_with fail
    go_ret
    exact PP.out
  | false =>
    have HV2 : Hid (∀ V, Below w2.heap.size w2 V → V.cell? ⟨s, 2, none⟩ = some (.slice a n cc)) := fun V hV => (hV.cell (p := ⟨s, 2, none⟩) (cellLt v2)).trans v2
    have HO2 := Lib.hid (keep_own O1h.out B2.out)
    have XQ : Hid (∀ V, Below w2.heap.size w2 V → BxAt V qb qo C ∧ V.cell? ⟨z0, 0, none⟩ = some (.pointer (some ⟨qb, qo, none⟩))) := fun V hV => by
      have h := B2.out.trans (hV.mono B2.out.size)
      have hq1 : qb < W1.heap.size := cellLt (C1h.out 0 (by decide))
      exact ⟨C1h.out.below h hq1, (h.cell (p := ⟨z0, 0, none⟩) lz).trans X1h.out⟩
    obtain ⟨P, hP⟩ : ∃ P, wdS l (pss l E) C l.length = P := ⟨_, rfl⟩
    have WOK := Lib.hid (wd_ok HOK.out HVC.out.1 HVC.out.2 l.length (Nat.le_refl _))
    rw [hP] at WOK
    have C2 : Hid (∀ V, Below w2.heap.size w2 V → Calls Tryd.prog 85 #[.pointer (some ⟨s, 0, none⟩), bxV C] V fun e w' => e = .returned (bxV P) ∧ Below V.heap.size V w') := fun V hV => by
      rw [← hP]
      exact widened_c s p l E pa pc C V (HI2.out.below hV).pm HOK.out HVC.out.1 HVC.out.2
    have FIN : Hid (∀ W8 t, t = decide (n + 1 ≤ 40) → PrI w0 s p base l E pa pc (L ++ [P]) W8 → Kg (fun b => b = s) (SO s) w W8 → AddP w0 s p base l E pa pc L C w (.returned (.bool t)) W8) := fun W8 t ht hI hk => by
      have e : (L ++ [P]).length = n + 1 := by rw [List.length_append, HN.out]; rfl
      refine ⟨hk, [P], ?_, ?_, hI, fun Q hQ => ?_, P, List.mem_append_right _ (by simp), WOK.out.2.2⟩
      · rw [e, ht]
      · rw [e]; omega
      · rcases List.mem_append.1 hQ with q | q
        · exact HG.out Q q
        · rw [List.mem_singleton.1 q]; exact ⟨WOK.out.1, WOK.out.2.1⟩
    have AFT : Hid (∀ {W8 : World}, PrI w0 s p base l E pa pc (L ++ [P]) W8 → ∃ a8 c8, W8.cell? ⟨s, 2, none⟩ = some (.slice a8 (n + 1) c8)) := fun {W8} hI => by
      obtain ⟨u, h1, h2⟩ := hI.ex
      obtain ⟨a8, c8, e⟩ := own_slE h2
      rw [List.length_append, HN.out] at e
      exact ⟨a8, c8, by rw [h1, e]; rfl⟩
    unfold bxV at C2
    clear hP v2 v1 x1
    go_wp2_with fail
    refine wp_region_noPanic ?_
    refine wp_region_held_drew (S := (S13 qb qo C ⟨z0, 0, none⟩ (.pointer (some ⟨qb, qo, none⟩)))) (by kernel_rfl) (by exact S13.of (XQ.out _ (Below.refl _ _).drew)) (fun hS => ?_)
    obtain ⟨WD, hWD⟩ : ∃ W, w2.drew = W := ⟨_, rfl⟩
    have D0 : Hid (Below w2.heap.size w2 WD) := by unfold Hid; rw [← hWD]; exact (Below.refl _ _).drew
    rw [hWD] at hS ⊢
    clear hWD
    refine wpAnyH_take (i := 0) (v := ?v0a0) rfl (by kernel_rfl) (by kernel_rfl) (by kernel_rfl) (fun _ _ _ h => h) (Or.inl ⟨by rfl, ?hy0a0⟩) (by assumption) ?rest0a0
    case hy0a0 =>
      intro w hSw
      dsimp only [S13] at hSw
      go_simp
      try with_reducible rfl
    simp only [Act.put, List.getElem_toArray, List.getElem_cons_succ, List.getElem_cons_zero, List.setIfInBounds_toArray, List.set_cons_zero, List.set_cons_succ]
    refine wpAnyH_take (i := 1) (v := ?v1a1) rfl (by kernel_rfl) (by kernel_rfl) (by kernel_rfl) (fun _ _ _ h => h) (Or.inl ⟨by rfl, ?hy1a1⟩) (by assumption) ?rest1a1
    case hy1a1 =>
      intro w hSw
      dsimp only [S13] at hSw
      go_simp
      try with_reducible rfl
    simp only [Act.put, List.getElem_toArray, List.getElem_cons_succ, List.getElem_cons_zero, List.setIfInBounds_toArray, List.set_cons_zero, List.set_cons_succ]
    refine wpAnyH_take (i := 2) (v := ?v2a2) rfl (by kernel_rfl) (by kernel_rfl) (by kernel_rfl) (fun _ _ _ h => h) (Or.inl ⟨by rfl, ?hy2a2⟩) (by assumption) ?rest2a2
    case hy2a2 =>
      intro w hSw
      dsimp only [S13] at hSw
      go_simp
      try with_reducible rfl
    simp only [Act.put, List.getElem_toArray, List.getElem_cons_succ, List.getElem_cons_zero, List.setIfInBounds_toArray, List.set_cons_zero, List.set_cons_succ]
    refine wpAnyH_take (i := 3) (v := ?v3a3) rfl (by kernel_rfl) (by kernel_rfl) (by kernel_rfl) (fun _ _ _ h => h) (Or.inl ⟨by rfl, ?hy3a3⟩) (by assumption) ?rest3a3
    case hy3a3 =>
      intro w hSw
      dsimp only [S13] at hSw
      go_simp
      try with_reducible rfl
    simp only [Act.put, List.getElem_toArray, List.getElem_cons_succ, List.getElem_cons_zero, List.setIfInBounds_toArray, List.set_cons_zero, List.set_cons_succ]
    refine wpAnyH_take (i := 5) (v := ?v5a5) rfl (by kernel_rfl) (by kernel_rfl) (by kernel_rfl) (fun _ _ _ h => h) (Or.inl ⟨by rfl, ?hy5a5⟩) (by assumption) ?rest5a5
    case hy5a5 =>
      intro w hSw
      dsimp only [S13] at hSw
      go_simp
      try with_reducible rfl
    simp only [Act.put, List.getElem_toArray, List.getElem_cons_succ, List.getElem_cons_zero, List.setIfInBounds_toArray, List.set_cons_zero, List.set_cons_succ]
    refine wpAnyH_take (i := 6) (v := ?v6a6) rfl (by kernel_rfl) (by kernel_rfl) (by kernel_rfl) (fun _ _ _ h => h) (Or.inl ⟨by rfl, ?hy6a6⟩) (by assumption) ?rest6a6
    case hy6a6 =>
      intro w hSw
      dsimp only [S13] at hSw
      go_simp
      try with_reducible rfl
    simp only [Act.put, List.getElem_toArray, List.getElem_cons_succ, List.getElem_cons_zero, List.setIfInBounds_toArray, List.set_cons_zero, List.set_cons_succ]
    refine wpAnyH_take (i := 7) (v := ?v7a7) rfl (by kernel_rfl) (by kernel_rfl) (by kernel_rfl) (fun _ _ _ h => h) (Or.inl ⟨by rfl, ?hy7a7⟩) (by assumption) ?rest7a7
    case hy7a7 =>
      intro w hSw
      dsimp only [S13] at hSw
      go_simp
      try with_reducible rfl
    simp only [Act.put, List.getElem_toArray, List.getElem_cons_succ, List.getElem_cons_zero, List.setIfInBounds_toArray, List.set_cons_zero, List.set_cons_succ]
    refine wpAnyH_take (i := 8) (v := ?v8a8) rfl (by kernel_rfl) (by kernel_rfl) (by kernel_rfl) (fun _ _ _ h => h) (Or.inl ⟨by rfl, ?hy8a8⟩) (by assumption) ?rest8a8
    case hy8a8 =>
      intro w hSw
      dsimp only [S13] at hSw
      go_simp
      try with_reducible rfl
    simp only [Act.put, List.getElem_toArray, List.getElem_cons_succ, List.getElem_cons_zero, List.setIfInBounds_toArray, List.set_cons_zero, List.set_cons_succ]
    refine wpAnyH_ready (rs := [4, 9]) (by kernel_rfl) (by simp) ?_
    refine AllReadyH.cons rfl (fun K hK => ?_) (AllReadyH.cons rfl (fun K hK => ?_) AllReadyH.nil)
    · have ld0 := HV2.out WD D0.out
      go_simp
      refine hK _ _ hS (fun _ => ?_)
      clear hK K ld0
      try simp only [Act.put, List.setIfInBounds_toArray, List.set_cons_zero, List.set_cons_succ]
      refine wpAnyH_ready (rs := [9]) (by kernel_rfl) (by simp) ?_
      refine AllReadyH.cons rfl (fun K hK => ?_) AllReadyH.nil
      go_simp
      refine (C2.out WD D0.out).mono ?_
      rintro e1 w4 ⟨rfl, b4⟩
      have D4 : Hid (Below w2.heap.size w2 w4) := D0.out.trans (b4.mono D0.out.size)
      have hS4 := S13.of (XQ.out w4 D4.out)
      have HL4 : Hid (w4.cell? ⟨s, 2, none⟩ = some (.slice a n cc)) := HV2.out w4 D4.out
      clear b4
      try go_simp
      refine hK _ _ hS4 (fun _ => ?_)
      clear hK K
      try simp only [Act.put, List.setIfInBounds_toArray, List.set_cons_zero, List.set_cons_succ]
      refine wpAnyH_ready (rs := [10]) (by kernel_rfl) (by simp) ?_
      refine AllReadyH.cons rfl (fun K hK => ?_) AllReadyH.nil
      obtain ⟨W5, hW5⟩ : ∃ W, w4.alloc (.cells #[.int .u64 (P 0), .int .u64 (P 1), .int .u64 (P 2), .int .u64 (P 3), .int .u64 (P 4), .int .u64 (P 5), .int .u64 (P 6), .int .u64 (P 7), .int .u64 (P 8), .int .u64 (P 9), .int .u64 (P 10), .int .u64 (P 11)] 57) = W := ⟨_, rfl⟩
      have b5 : Below w4.heap.size w4 W5 := by rw [← hW5]; exact bel_one _ _
      have D5 : Hid (Below w2.heap.size w2 W5) := D4.out.trans (b5.mono D4.out.size)
      have hS5 := S13.of (XQ.out W5 D5.out)
      go_simp
      try rw [hW5]
      refine hK _ _ hS5 (fun _ => ?_)
      clear hK K
      try simp only [Act.put, List.setIfInBounds_toArray, List.set_cons_zero, List.set_cons_succ]
      refine wpAnyH_ready (rs := [11]) (by kernel_rfl) (by simp) ?_
      refine AllReadyH.cons rfl (fun K hK => ?_) AllReadyH.nil
      rw [if_pos (by rfl)]
      have I5 := HI2.out.below D5.out
      refine wp_append_lies _ _ _ 65 rfl base 57 i0 zf 12 96 Tryd.underlying65 hi hz0' hz1' hz2' hzf (by decide) (.slice a n cc) n (bxC L) rfl (keep_own HO2.out D5.out) ⟨w4.heap.size, 0, none⟩ 1 1 (bxL P) rfl rfl (World.news_of_block (t := 57) (fr := (0, 0)) (by rw [← hW5]; exact newBlock _ _)) ?d1A (by decide) ?d2A ?d3A ?d4A _ rfl ?_
      case d1A => intro u hu; simp [bxL] at hu; rcases hu with rfl | rfl | rfl | rfl | rfl | rfl | rfl | rfl | rfl | rfl | rfl | rfl <;> rfl
      case d2A => unfold maxLen; omega
      case d3A => omega
      case d4A => exact I5.sz
      intro g6 cap6 w6 hown6 hgrow6 hat6 hlt6
      have HX6 : Hid (S13 qb qo C ⟨z0, 0, none⟩ (.pointer (some ⟨qb, qo, none⟩)) w6 ∧ S13 qb qo C ⟨z0, 0, none⟩ (.pointer (some ⟨qb, qo, none⟩)) (w6.setCell ⟨s, 2, none⟩ (.slice (some ⟨g6, 0, none⟩) (n + 1) cap6))) := by
        have k0 := XQ.out W5 D5.out
        have nb : ∀ {b : Nat} {o : Nat} {u : Value}, W5.cell? ⟨b, o, none⟩ = some u → some b ≠ (Value.slice a n cc).ownBlock → w6.cell? ⟨b, o, none⟩ = some u := fun e q => hgrow6.cell e q
        have nq : ∀ {b : Nat} {o : Nat} {u : Value}, b ≠ s → w6.cell? ⟨b, o, none⟩ = some u → (w6.setCell ⟨s, 2, none⟩ (.slice (some ⟨g6, 0, none⟩) (n + 1) cap6)).cell? ⟨b, o, none⟩ = some u := fun hb e => by
          rw [World.cell?_setCell_other _ _ _ _ (fun q => by injection q with q; exact hb q.symm)]; exact e
        have k6 : BxAt w6 qb qo C ∧ w6.cell? ⟨z0, 0, none⟩ = some (.pointer (some ⟨qb, qo, none⟩)) := ⟨fun i hi => nb (k0.1 i hi) NQ.out.1, nb k0.2 NQ.out.2.1⟩
        exact ⟨S13.of k6, S13.of ⟨fun i hi => nq NQ.out.2.2.1 (k6.1 i hi), nq NQ.out.2.2.2 k6.2⟩⟩
      obtain ⟨p6, f6, I7⟩ := I5.add (HV2.out W5 D5.out) (by rw [HN.out]; exact hown6) hgrow6
      rw [HN.out] at I7
      have P6 : Hid (w6.cell? ⟨s, 2, none⟩ = some (.slice a n cc) ∧ w6.frozen? ⟨s, 2, none⟩ = false) := ⟨p6, f6 2⟩
      have I7 := Lib.hid I7
      have K7 : Hid (Kg (fun b => b = s) (SO s) w (w6.setCell ⟨s, 2, none⟩ (.slice (some ⟨g6, 0, none⟩) (n + 1) cap6))) := (KW0.out W5 (B2.out.trans (D5.out.mono B2.out.size))).trans (I5.addKg (HV2.out W5 D5.out) hgrow6 hat6 p6)
      clear hown6 hgrow6 hat6 hlt6 hW5 b5 I5 p6 f6
      have hS6 := HX6.out.1
      refine hK _ _ hS6 (fun _ => ?_)
      clear hK K
      try simp only [Act.put, List.setIfInBounds_toArray, List.set_cons_zero, List.set_cons_succ]
      refine wpAnyH_take (i := 12) (v := ?v12xA) rfl (by kernel_rfl) (by kernel_rfl) (by kernel_rfl) (fun _ _ _ h => h) (Or.inl ⟨by rfl, ?hy12xA⟩) (by assumption) ?rest12xA
      case hy12xA =>
        intro w hSw
        dsimp only [S13] at hSw
        go_simp
        try with_reducible rfl
      simp only [Act.put, List.getElem_toArray, List.getElem_cons_succ, List.getElem_cons_zero, List.setIfInBounds_toArray, List.set_cons_zero, List.set_cons_succ]
      refine wpAnyH_take (i := 13) (v := ?v13xA) rfl (by kernel_rfl) (by kernel_rfl) (by kernel_rfl) (fun _ _ _ h => h) (Or.inl ⟨by rfl, ?hy13xA⟩) (by assumption) ?rest13xA
      case hy13xA =>
        intro w hSw
        dsimp only [S13] at hSw
        go_simp
        try with_reducible rfl
      simp only [Act.put, List.getElem_toArray, List.getElem_cons_succ, List.getElem_cons_zero, List.setIfInBounds_toArray, List.set_cons_zero, List.set_cons_succ]
      refine wpAnyH_ready (rs := [14]) (by kernel_rfl) (by simp) ?_
      refine AllReadyH.cons rfl (fun K hK => ?_) AllReadyH.nil
      obtain ⟨p6, p7⟩ := P6.out
      have hS7 := HX6.out.2
      obtain ⟨W8, hW8⟩ : ∃ W, w6.setCell ⟨s, 2, none⟩ (.slice (some ⟨g6, 0, none⟩) (n + 1) cap6) = W := ⟨_, rfl⟩
      rw [hW8] at I7 hS7 K7
      go_simp
      try rw [hW8]
      refine hK _ _ hS7 (fun _ => ?_)
      clear hK K hS6 hS7 hW8 p6 p7 HX6 P6 hS5 hS4 hS
      try simp only [Act.put, List.setIfInBounds_toArray, List.set_cons_zero, List.set_cons_succ]
      refine wpAnyH_done (by kernel_rfl) ?_ _
      refine NoPanic.normal ?_
      obtain ⟨a8, c8, y8⟩ := AFT.out I7.out
      clear HO2 HI2 HV2 XQ NQ C2
      by_cases hle : n + 1 ≤ 40
      · have hle' : (n : Int) + 1 ≤ 40 := by omega
        have hdc : Hid (decide (n + 1 ≤ 40) = true) := decide_eq_true hle
        go_wp2_with fail
        go_ret
        exact FIN.out W8 true hdc.out.symm I7.out K7.out
      · have hle' : ¬ (n : Int) + 1 ≤ 40 := by omega
        have hdc : Hid (decide (n + 1 ≤ 40) = false) := decide_eq_false hle
        go_wp2_with fail
        go_ret
        exact FIN.out W8 false hdc.out.symm I7.out K7.out
    · go_simp
      refine (C2.out WD D0.out).mono ?_
      rintro e1 w4 ⟨rfl, b4⟩
      have D4 : Hid (Below w2.heap.size w2 w4) := D0.out.trans (b4.mono D0.out.size)
      have hS4 := S13.of (XQ.out w4 D4.out)
      have HL4 : Hid (w4.cell? ⟨s, 2, none⟩ = some (.slice a n cc)) := HV2.out w4 D4.out
      clear b4
      try go_simp
      refine hK _ _ hS4 (fun _ => ?_)
      clear hK K
      try simp only [Act.put, List.setIfInBounds_toArray, List.set_cons_zero, List.set_cons_succ]
      refine wpAnyH_ready (rs := [4, 10]) (by kernel_rfl) (by simp) ?_
      refine AllReadyH.cons rfl (fun K hK => ?_) (AllReadyH.cons rfl (fun K hK => ?_) AllReadyH.nil)
      · have ld0 := HL4.out
        go_simp
        refine hK _ _ hS4 (fun _ => ?_)
        clear hK K ld0
        try simp only [Act.put, List.setIfInBounds_toArray, List.set_cons_zero, List.set_cons_succ]
        refine wpAnyH_ready (rs := [10]) (by kernel_rfl) (by simp) ?_
        refine AllReadyH.cons rfl (fun K hK => ?_) AllReadyH.nil
        obtain ⟨W5, hW5⟩ : ∃ W, w4.alloc (.cells #[.int .u64 (P 0), .int .u64 (P 1), .int .u64 (P 2), .int .u64 (P 3), .int .u64 (P 4), .int .u64 (P 5), .int .u64 (P 6), .int .u64 (P 7), .int .u64 (P 8), .int .u64 (P 9), .int .u64 (P 10), .int .u64 (P 11)] 57) = W := ⟨_, rfl⟩
        have b5 : Below w4.heap.size w4 W5 := by rw [← hW5]; exact bel_one _ _
        have D5 : Hid (Below w2.heap.size w2 W5) := D4.out.trans (b5.mono D4.out.size)
        have hS5 := S13.of (XQ.out W5 D5.out)
        go_simp
        try rw [hW5]
        refine hK _ _ hS5 (fun _ => ?_)
        clear hK K
        try simp only [Act.put, List.setIfInBounds_toArray, List.set_cons_zero, List.set_cons_succ]
        refine wpAnyH_ready (rs := [11]) (by kernel_rfl) (by simp) ?_
        refine AllReadyH.cons rfl (fun K hK => ?_) AllReadyH.nil
        rw [if_pos (by rfl)]
        have I5 := HI2.out.below D5.out
        refine wp_append_lies _ _ _ 65 rfl base 57 i0 zf 12 96 Tryd.underlying65 hi hz0' hz1' hz2' hzf (by decide) (.slice a n cc) n (bxC L) rfl (keep_own HO2.out D5.out) ⟨w4.heap.size, 0, none⟩ 1 1 (bxL P) rfl rfl (World.news_of_block (t := 57) (fr := (0, 0)) (by rw [← hW5]; exact newBlock _ _)) ?d1B (by decide) ?d2B ?d3B ?d4B _ rfl ?_
        case d1B => intro u hu; simp [bxL] at hu; rcases hu with rfl | rfl | rfl | rfl | rfl | rfl | rfl | rfl | rfl | rfl | rfl | rfl <;> rfl
        case d2B => unfold maxLen; omega
        case d3B => omega
        case d4B => exact I5.sz
        intro g6 cap6 w6 hown6 hgrow6 hat6 hlt6
        have HX6 : Hid (S13 qb qo C ⟨z0, 0, none⟩ (.pointer (some ⟨qb, qo, none⟩)) w6 ∧ S13 qb qo C ⟨z0, 0, none⟩ (.pointer (some ⟨qb, qo, none⟩)) (w6.setCell ⟨s, 2, none⟩ (.slice (some ⟨g6, 0, none⟩) (n + 1) cap6))) := by
          have k0 := XQ.out W5 D5.out
          have nb : ∀ {b : Nat} {o : Nat} {u : Value}, W5.cell? ⟨b, o, none⟩ = some u → some b ≠ (Value.slice a n cc).ownBlock → w6.cell? ⟨b, o, none⟩ = some u := fun e q => hgrow6.cell e q
          have nq : ∀ {b : Nat} {o : Nat} {u : Value}, b ≠ s → w6.cell? ⟨b, o, none⟩ = some u → (w6.setCell ⟨s, 2, none⟩ (.slice (some ⟨g6, 0, none⟩) (n + 1) cap6)).cell? ⟨b, o, none⟩ = some u := fun hb e => by
            rw [World.cell?_setCell_other _ _ _ _ (fun q => by injection q with q; exact hb q.symm)]; exact e
          have k6 : BxAt w6 qb qo C ∧ w6.cell? ⟨z0, 0, none⟩ = some (.pointer (some ⟨qb, qo, none⟩)) := ⟨fun i hi => nb (k0.1 i hi) NQ.out.1, nb k0.2 NQ.out.2.1⟩
          exact ⟨S13.of k6, S13.of ⟨fun i hi => nq NQ.out.2.2.1 (k6.1 i hi), nq NQ.out.2.2.2 k6.2⟩⟩
        obtain ⟨p6, f6, I7⟩ := I5.add (HV2.out W5 D5.out) (by rw [HN.out]; exact hown6) hgrow6
        rw [HN.out] at I7
        have P6 : Hid (w6.cell? ⟨s, 2, none⟩ = some (.slice a n cc) ∧ w6.frozen? ⟨s, 2, none⟩ = false) := ⟨p6, f6 2⟩
        have I7 := Lib.hid I7
        have K7 : Hid (Kg (fun b => b = s) (SO s) w (w6.setCell ⟨s, 2, none⟩ (.slice (some ⟨g6, 0, none⟩) (n + 1) cap6))) := (KW0.out W5 (B2.out.trans (D5.out.mono B2.out.size))).trans (I5.addKg (HV2.out W5 D5.out) hgrow6 hat6 p6)
        clear hown6 hgrow6 hat6 hlt6 hW5 b5 I5 p6 f6
        have hS6 := HX6.out.1
        refine hK _ _ hS6 (fun _ => ?_)
        clear hK K
        try simp only [Act.put, List.setIfInBounds_toArray, List.set_cons_zero, List.set_cons_succ]
        refine wpAnyH_take (i := 12) (v := ?v12xB) rfl (by kernel_rfl) (by kernel_rfl) (by kernel_rfl) (fun _ _ _ h => h) (Or.inl ⟨by rfl, ?hy12xB⟩) (by assumption) ?rest12xB
        case hy12xB =>
          intro w hSw
          dsimp only [S13] at hSw
          go_simp
          try with_reducible rfl
        simp only [Act.put, List.getElem_toArray, List.getElem_cons_succ, List.getElem_cons_zero, List.setIfInBounds_toArray, List.set_cons_zero, List.set_cons_succ]
        refine wpAnyH_take (i := 13) (v := ?v13xB) rfl (by kernel_rfl) (by kernel_rfl) (by kernel_rfl) (fun _ _ _ h => h) (Or.inl ⟨by rfl, ?hy13xB⟩) (by assumption) ?rest13xB
        case hy13xB =>
          intro w hSw
          dsimp only [S13] at hSw
          go_simp
          try with_reducible rfl
        simp only [Act.put, List.getElem_toArray, List.getElem_cons_succ, List.getElem_cons_zero, List.setIfInBounds_toArray, List.set_cons_zero, List.set_cons_succ]
        refine wpAnyH_ready (rs := [14]) (by kernel_rfl) (by simp) ?_
        refine AllReadyH.cons rfl (fun K hK => ?_) AllReadyH.nil
        obtain ⟨p6, p7⟩ := P6.out
        have hS7 := HX6.out.2
        obtain ⟨W8, hW8⟩ : ∃ W, w6.setCell ⟨s, 2, none⟩ (.slice (some ⟨g6, 0, none⟩) (n + 1) cap6) = W := ⟨_, rfl⟩
        rw [hW8] at I7 hS7 K7
        go_simp
        try rw [hW8]
        refine hK _ _ hS7 (fun _ => ?_)
        clear hK K hS6 hS7 hW8 p6 p7 HX6 P6 hS5 hS4 hS
        try simp only [Act.put, List.setIfInBounds_toArray, List.set_cons_zero, List.set_cons_succ]
        refine wpAnyH_done (by kernel_rfl) ?_ _
        refine NoPanic.normal ?_
        obtain ⟨a8, c8, y8⟩ := AFT.out I7.out
        clear HO2 HI2 HV2 XQ NQ C2
        by_cases hle : n + 1 ≤ 40
        · have hle' : (n : Int) + 1 ≤ 40 := by omega
          have hdc : Hid (decide (n + 1 ≤ 40) = true) := decide_eq_true hle
          go_wp2_with fail
          go_ret
          exact FIN.out W8 true hdc.out.symm I7.out K7.out
        · have hle' : ¬ (n : Int) + 1 ≤ 40 := by omega
          have hdc : Hid (decide (n + 1 ≤ 40) = false) := decide_eq_false hle
          go_wp2_with fail
          go_ret
          exact FIN.out W8 false hdc.out.symm I7.out K7.out
      · obtain ⟨W5, hW5⟩ : ∃ W, w4.alloc (.cells #[.int .u64 (P 0), .int .u64 (P 1), .int .u64 (P 2), .int .u64 (P 3), .int .u64 (P 4), .int .u64 (P 5), .int .u64 (P 6), .int .u64 (P 7), .int .u64 (P 8), .int .u64 (P 9), .int .u64 (P 10), .int .u64 (P 11)] 57) = W := ⟨_, rfl⟩
        have b5 : Below w4.heap.size w4 W5 := by rw [← hW5]; exact bel_one _ _
        have D5 : Hid (Below w2.heap.size w2 W5) := D4.out.trans (b5.mono D4.out.size)
        have hS5 := S13.of (XQ.out W5 D5.out)
        go_simp
        try rw [hW5]
        refine hK _ _ hS5 (fun _ => ?_)
        clear hK K
        try simp only [Act.put, List.setIfInBounds_toArray, List.set_cons_zero, List.set_cons_succ]
        refine wpAnyH_ready (rs := [4]) (by kernel_rfl) (by simp) ?_
        refine AllReadyH.cons rfl (fun K hK => ?_) AllReadyH.nil
        have ld0 := HV2.out W5 D5.out
        go_simp
        refine hK _ _ hS5 (fun _ => ?_)
        clear hK K ld0
        try simp only [Act.put, List.setIfInBounds_toArray, List.set_cons_zero, List.set_cons_succ]
        refine wpAnyH_ready (rs := [11]) (by kernel_rfl) (by simp) ?_
        refine AllReadyH.cons rfl (fun K hK => ?_) AllReadyH.nil
        rw [if_pos (by rfl)]
        have I5 := HI2.out.below D5.out
        refine wp_append_lies _ _ _ 65 rfl base 57 i0 zf 12 96 Tryd.underlying65 hi hz0' hz1' hz2' hzf (by decide) (.slice a n cc) n (bxC L) rfl (keep_own HO2.out D5.out) ⟨w4.heap.size, 0, none⟩ 1 1 (bxL P) rfl rfl (World.news_of_block (t := 57) (fr := (0, 0)) (by rw [← hW5]; exact newBlock _ _)) ?d1C (by decide) ?d2C ?d3C ?d4C _ rfl ?_
        case d1C => intro u hu; simp [bxL] at hu; rcases hu with rfl | rfl | rfl | rfl | rfl | rfl | rfl | rfl | rfl | rfl | rfl | rfl <;> rfl
        case d2C => unfold maxLen; omega
        case d3C => omega
        case d4C => exact I5.sz
        intro g6 cap6 w6 hown6 hgrow6 hat6 hlt6
        have HX6 : Hid (S13 qb qo C ⟨z0, 0, none⟩ (.pointer (some ⟨qb, qo, none⟩)) w6 ∧ S13 qb qo C ⟨z0, 0, none⟩ (.pointer (some ⟨qb, qo, none⟩)) (w6.setCell ⟨s, 2, none⟩ (.slice (some ⟨g6, 0, none⟩) (n + 1) cap6))) := by
          have k0 := XQ.out W5 D5.out
          have nb : ∀ {b : Nat} {o : Nat} {u : Value}, W5.cell? ⟨b, o, none⟩ = some u → some b ≠ (Value.slice a n cc).ownBlock → w6.cell? ⟨b, o, none⟩ = some u := fun e q => hgrow6.cell e q
          have nq : ∀ {b : Nat} {o : Nat} {u : Value}, b ≠ s → w6.cell? ⟨b, o, none⟩ = some u → (w6.setCell ⟨s, 2, none⟩ (.slice (some ⟨g6, 0, none⟩) (n + 1) cap6)).cell? ⟨b, o, none⟩ = some u := fun hb e => by
            rw [World.cell?_setCell_other _ _ _ _ (fun q => by injection q with q; exact hb q.symm)]; exact e
          have k6 : BxAt w6 qb qo C ∧ w6.cell? ⟨z0, 0, none⟩ = some (.pointer (some ⟨qb, qo, none⟩)) := ⟨fun i hi => nb (k0.1 i hi) NQ.out.1, nb k0.2 NQ.out.2.1⟩
          exact ⟨S13.of k6, S13.of ⟨fun i hi => nq NQ.out.2.2.1 (k6.1 i hi), nq NQ.out.2.2.2 k6.2⟩⟩
        obtain ⟨p6, f6, I7⟩ := I5.add (HV2.out W5 D5.out) (by rw [HN.out]; exact hown6) hgrow6
        rw [HN.out] at I7
        have P6 : Hid (w6.cell? ⟨s, 2, none⟩ = some (.slice a n cc) ∧ w6.frozen? ⟨s, 2, none⟩ = false) := ⟨p6, f6 2⟩
        have I7 := Lib.hid I7
        have K7 : Hid (Kg (fun b => b = s) (SO s) w (w6.setCell ⟨s, 2, none⟩ (.slice (some ⟨g6, 0, none⟩) (n + 1) cap6))) := (KW0.out W5 (B2.out.trans (D5.out.mono B2.out.size))).trans (I5.addKg (HV2.out W5 D5.out) hgrow6 hat6 p6)
        clear hown6 hgrow6 hat6 hlt6 hW5 b5 I5 p6 f6
        have hS6 := HX6.out.1
        refine hK _ _ hS6 (fun _ => ?_)
        clear hK K
        try simp only [Act.put, List.setIfInBounds_toArray, List.set_cons_zero, List.set_cons_succ]
        refine wpAnyH_take (i := 12) (v := ?v12xC) rfl (by kernel_rfl) (by kernel_rfl) (by kernel_rfl) (fun _ _ _ h => h) (Or.inl ⟨by rfl, ?hy12xC⟩) (by assumption) ?rest12xC
        case hy12xC =>
          intro w hSw
          dsimp only [S13] at hSw
          go_simp
          try with_reducible rfl
        simp only [Act.put, List.getElem_toArray, List.getElem_cons_succ, List.getElem_cons_zero, List.setIfInBounds_toArray, List.set_cons_zero, List.set_cons_succ]
        refine wpAnyH_take (i := 13) (v := ?v13xC) rfl (by kernel_rfl) (by kernel_rfl) (by kernel_rfl) (fun _ _ _ h => h) (Or.inl ⟨by rfl, ?hy13xC⟩) (by assumption) ?rest13xC
        case hy13xC =>
          intro w hSw
          dsimp only [S13] at hSw
          go_simp
          try with_reducible rfl
        simp only [Act.put, List.getElem_toArray, List.getElem_cons_succ, List.getElem_cons_zero, List.setIfInBounds_toArray, List.set_cons_zero, List.set_cons_succ]
        refine wpAnyH_ready (rs := [14]) (by kernel_rfl) (by simp) ?_
        refine AllReadyH.cons rfl (fun K hK => ?_) AllReadyH.nil
        obtain ⟨p6, p7⟩ := P6.out
        have hS7 := HX6.out.2
        obtain ⟨W8, hW8⟩ : ∃ W, w6.setCell ⟨s, 2, none⟩ (.slice (some ⟨g6, 0, none⟩) (n + 1) cap6) = W := ⟨_, rfl⟩
        rw [hW8] at I7 hS7 K7
        go_simp
        try rw [hW8]
        refine hK _ _ hS7 (fun _ => ?_)
        clear hK K hS6 hS7 hW8 p6 p7 HX6 P6 hS5 hS4 hS
        try simp only [Act.put, List.setIfInBounds_toArray, List.set_cons_zero, List.set_cons_succ]
        refine wpAnyH_done (by kernel_rfl) ?_ _
        refine NoPanic.normal ?_
        obtain ⟨a8, c8, y8⟩ := AFT.out I7.out
        clear HO2 HI2 HV2 XQ NQ C2
        by_cases hle : n + 1 ≤ 40
        · have hle' : (n : Int) + 1 ≤ 40 := by omega
          have hdc : Hid (decide (n + 1 ≤ 40) = true) := decide_eq_true hle
          go_wp2_with fail
          go_ret
          exact FIN.out W8 true hdc.out.symm I7.out K7.out
        · have hle' : ¬ (n : Int) + 1 ≤ 40 := by omega
          have hdc : Hid (decide (n + 1 ≤ 40) = false) := decide_eq_false hle
          go_wp2_with fail
          go_ret
          exact FIN.out W8 false hdc.out.symm I7.out K7.out
end Go.Proofs.YtadfmplafehjlaaDoor
