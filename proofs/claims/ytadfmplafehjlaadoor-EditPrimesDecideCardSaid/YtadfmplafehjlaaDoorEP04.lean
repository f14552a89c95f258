/-
  Package edit: boxes without records; the edits that a box fails.
  Package edit: the edits that the records of a box fail.
  Package edit: whether the records of a box pass; the box of a record.
  Package edit: a field made ready.
-/
import Derived.Test.YtadfmplafehjlaaDoorEP03
import Derived.Deep.RegionHeld3
import Derived.Deep.CutBlock
import Derived.Deep.CutRange
import Derived.RegionTactic
import Derived.ChangeAlike
namespace Go.Proofs.YtadfmplafehjlaaDoor
open Go.RowKit Go.WideMaps Go.Maps

theorem u64_ne (x : Nat) : ((0 : Int) == (x : Int)) = decide (x = 0) := by
  rw [Bool.eq_iff_iff]; simp; omega
def IzP (f : Nat → Nat) (n : Nat) (w : World) (e : Ending) (w' : World) : Prop := (∃ z : Int, e = .returned (.int .i64 z) ∧ decide (0 ≤ z) = !(al (fun i => decide (f i ≠ 0)) n)) ∧ w = w'
/-- The first set of a row that is empty. -/
theorem indexZ_c (b off n c : Nat) (f : Nat → Nat) (w : World) (hn : n ≤ 12) (hc : ∀ j, j < n → w.cell? ⟨b, off + j, none⟩ = some (.int .u64 (f j))) :
    Calls Tryd.prog 101 #[.slice (some ⟨b, off, none⟩) n c, .int .u64 0] w (IzP f n w) := by
  have HC := Lib.hid hc
  clear hc
  go_enter Tryd.func101, Tryd.ntmps101
  go_wp2_with fail
  go_loopw [5, 8] (fun _ iv wr => ∃ k : Nat, iv = .int .i64 k ∧ Hid (k ≤ n ∧ al (fun i => decide (f i ≠ 0)) k = true ∧ w = wr)) (fun _ iv _ => n - (intOf iv).toNat)
  case atStart => exact ⟨0, rfl, Nat.zero_le _, rfl, rfl⟩
  case round =>
    obtain ⟨k, rfl, hS⟩ := hrel
    by_cases hlt : k < n
    · have hlt' : (k : Int) < (n : Int) := by omega
      have c0 := HC.out k hlt
      rw [hS.out.2.2] at c0
      obtain ⟨x, hx⟩ : ∃ x, f k = x := ⟨_, rfl⟩
      rw [hx] at c0
      have HX := Lib.hid hx
      clear hx
      by_cases h0 : x = 0
      · have h0' : ((0 : Int) == (x : Int)) = true := by rw [u64_ne]; simpa using h0
        have PP : Hid (IzP f n w (.returned (.int .i64 k)) wr) := by
          refine ⟨⟨k, rfl, ?_⟩, hS.out.2.2⟩
          have : al (fun i => decide (f i ≠ 0)) n = false := by
            cases q : al (fun i => decide (f i ≠ 0)) n with
            | false => rfl
            | true => have := of_decide_eq_true (al_iff.1 q k hlt); exact absurd (HX.out.trans h0) this
          rw [this]; simp
        clear h0 hlt
        go_wp2
        go_ret
        exact PP.out
      · have h0' : ((0 : Int) == (x : Int)) = false := by rw [u64_ne]; simpa using h0
        have NX : Hid (k + 1 ≤ n ∧ al (fun i => decide (f i ≠ 0)) (k + 1) = true ∧ w = wr) := by
          refine ⟨hlt, ?_, hS.out.2.2⟩
          show (al _ k && _) = true
          rw [hS.out.2.1, Bool.true_and, decide_eq_true_iff, HX.out]; exact h0
        clear h0
        go_wp2
        go_roundw
        case rel => exact ⟨k + 1, by go_num, NX.out⟩
        case measure => simp [intOf]; omega
    · have hlt' : ¬ (k : Int) < (n : Int) := by omega
      have PP : Hid (IzP f n w (.returned (.int .i64 (-1))) wr) := by
        refine ⟨⟨-1, rfl, ?_⟩, hS.out.2.2⟩
        have e : k = n := by have := hS.out.1; omega
        rw [← e, hS.out.2.1]; rfl
      clear hlt
      go_wp2
      go_ret
      exact PP.out
theorem containsZ_c (b off n c : Nat) (f : Nat → Nat) (w : World) (hn : n ≤ 12) (hc : ∀ j, j < n → w.cell? ⟨b, off + j, none⟩ = some (.int .u64 (f j))) :
    Calls Tryd.prog 75 #[.slice (some ⟨b, off, none⟩) n c, .int .u64 0] w fun e w' => e = .returned (.bool (!(al (fun i => decide (f i ≠ 0)) n))) ∧ w = w' := by
  have C := Lib.hid (indexZ_c b off n c f w hn hc)
  clear hc
  go_enter Tryd.func75, Tryd.ntmps75
  go_wp2_with fail
  refine C.out.mono ?_
  rintro e w1 ⟨⟨z, rfl, hz⟩, hw⟩
  have HZ := Lib.hid hz
  have HW := Lib.hid hw
  clear hz hw
  go_wp2
  go_ret
  exact ⟨by rw [← HZ.out]; rfl, HW.out⟩
theorem bx_made (w : World) (B : Nat → Nat) : BxAt (w.alloc (.cells #[.int .u64 (B 0), .int .u64 (B 1), .int .u64 (B 2), .int .u64 (B 3), .int .u64 (B 4), .int .u64 (B 5), .int .u64 (B 6), .int .u64 (B 7), .int .u64 (B 8), .int .u64 (B 9), .int .u64 (B 10), .int .u64 (B 11)] 57)) w.heap.size 0 B := by
  intro i hi
  rw [Nat.zero_add, World.cell?_alloc_new]
  match i, hi with
  | 0, _ => rfl
  | 1, _ => rfl
  | 2, _ => rfl
  | 3, _ => rfl
  | 4, _ => rfl
  | 5, _ => rfl
  | 6, _ => rfl
  | 7, _ => rfl
  | 8, _ => rfl
  | 9, _ => rfl
  | 10, _ => rfl
  | 11, _ => rfl
set_option maxRecDepth 100000 in
theorem isEmpty_c (p : Nat) (l : List Fd) (E : List Ed) (B : Nat → Nat) (w : World) (hP : PlR w p l E) (h12 : l.length ≤ 12) :
    Calls Tryd.prog 53 #[.pointer (some ⟨p, 0, none⟩), bxV B] w fun e w' => e = .returned (.bool (emB l B)) ∧ Below w.heap.size w w' := by
  obtain ⟨W1, hW1⟩ : ∃ W, w.alloc (.cells #[.int .u64 (B 0), .int .u64 (B 1), .int .u64 (B 2), .int .u64 (B 3), .int .u64 (B 4), .int .u64 (B 5), .int .u64 (B 6), .int .u64 (B 7), .int .u64 (B 8), .int .u64 (B 9), .int .u64 (B 10), .int .u64 (B 11)] 57) = W := ⟨_, rfl⟩
  have hb : Below w.heap.size w W1 := by rw [← hW1]; exact bel_one _ _
  have hx : BxAt W1 w.heap.size 0 B := by rw [← hW1]; exact bx_made w B
  obtain ⟨fb, c, f0, _, _⟩ := (hP.below hb).fs
  obtain ⟨n, hn⟩ : ∃ n, l.length = n := ⟨_, rfl⟩
  have C := Lib.hid (containsZ_c w.heap.size 0 l.length 12 B W1 h12 fun j hj => by rw [Nat.zero_add]; have := hx j (by omega); rwa [Nat.zero_add] at this)
  have HB := Lib.hid hb
  obtain ⟨R, hR⟩ : ∃ R, emB l B = R := ⟨_, rfl⟩
  have E1 : (!(al (fun i => decide (B i ≠ 0)) l.length)) = R := by rw [← hR]; rfl
  rw [E1] at C
  rw [hR]
  rw [hn] at C f0 h12
  have hz0 : (0 : Int) ≤ (n : Int) := by omega
  have hz1 : (n : Int) ≤ 12 := by omega
  clear hb hx hP hR E1
  unfold bxV
  go_enter Tryd.func53, Tryd.ntmps53
  go_wp2_with fail
  refine C.out.mono ?_
  rintro e w1 ⟨rfl, rfl⟩
  go_wp2
  go_ret
  exact ⟨rfl, HB.out⟩
end Go.Proofs.YtadfmplafehjlaaDoor
namespace Go.Proofs.YtadfmplafehjlaaDoor
open Go.RowKit Go.WideMaps Go.Maps

theorem ch_lt {B : Nat → Nat} {i n : Nat} (hn : n ≤ 64) (h0 : B i ≠ 0) (h : B i < 2 ^ n) : ch B i < n := by
  have h1 : B i = bz (fun j => (B i).testBit j) n := (bz_of h).symm
  obtain ⟨t, ht, h2, h3⟩ := bz_first (p := fun j => (B i).testBit j) (n := n) (by rw [← h1]; exact h0)
  unfold ch
  rw [ctz_first (Nat.lt_of_lt_of_le h (Nat.pow_le_pow_right (by omega) hn)) h2 h3]; exact ht
def S3c (a1 a2 a3 : Addr) (v1 v2 v3 : Value) (w : World) : Prop := w.cell? a1 = some v1 ∧ w.cell? a2 = some v2 ∧ w.cell? a3 = some v3
theorem fl_step {l : List Fd} {E : List Ed} {B : Nat → Nat} {k : Nat} : bz (fun n => al (fun j => hdB l E j (ch B j) n) (k + 1)) E.length = bz (fun n => al (fun j => hdB l E j (ch B j) n) k) E.length &&& hdS l E k (ch B k) := by
  rw [hd_and]; rfl
theorem hd_lt (l : List Fd) (E : List Ed) (i k : Nat) (h : E.length ≤ 60) : hdS l E i k < 18446744073709551616 := Nat.lt_of_lt_of_le (bz_lt _ _) (Nat.pow_le_pow_right (by omega) (show E.length ≤ 64 by omega))
set_option maxRecDepth 100000 in
set_option maxHeartbeats 4000000 in
theorem failed_c (p : Nat) (l : List Fd) (E : List Ed) (B : Nat → Nat) (w : World) (hP : PlR w p l E) (hok : Ok l E) (hB : ∀ i, i < l.length → B i < 2 ^ (fd l i).cs.length)
    (hT : TabAt 0 Lib.deBruijn64tab w) (ht : 0 < w.heap.size) :
    Calls Tryd.prog 26 #[.pointer (some ⟨p, 0, none⟩), bxV B] w fun e w' => e = .returned (.int .u64 (flS l E B)) ∧ Below w.heap.size w w' := by
  have mixed : Tryd.prog.follows .mixedOrders = true := by kernel_rfl
  obtain ⟨W1, hW1⟩ : ∃ W, w.alloc (.cells #[.int .u64 (B 0), .int .u64 (B 1), .int .u64 (B 2), .int .u64 (B 3), .int .u64 (B 4), .int .u64 (B 5), .int .u64 (B 6), .int .u64 (B 7), .int .u64 (B 8), .int .u64 (B 9), .int .u64 (B 10), .int .u64 (B 11)] 57) = W := ⟨_, rfl⟩
  obtain ⟨q, hq⟩ : ∃ q, w.heap.size = q := ⟨_, rfl⟩
  have B1 : Hid (Below w.heap.size w W1) := by unfold Hid; rw [← hW1]; exact bel_one _ _
  have X1 : Hid (BxAt W1 q 0 B ∧ q < W1.heap.size) := by unfold Hid; rw [← hW1, ← hq]; exact ⟨bx_made w B, by simp⟩
  have P1 := Lib.hid (hP.below B1.out)
  have C := Lib.hid (isEmpty_c p l E B W1 P1.out hok.n12)
  have HT := Lib.hid hT
  have TW : Hid (∀ V, Below W1.heap.size W1 V → TabAt 0 Lib.deBruijn64tab V) := fun V hV => tab_below HT.out ht (B1.out.trans (hV.mono B1.out.size))
  have HBB := Lib.hid hB
  have HOK := Lib.hid hok
  have x0 := X1.out.1 0 (by decide)
  have x1 := X1.out.1 1 (by decide)
  have x2 := X1.out.1 2 (by decide)
  have x3 := X1.out.1 3 (by decide)
  have x4 := X1.out.1 4 (by decide)
  have x5 := X1.out.1 5 (by decide)
  have x6 := X1.out.1 6 (by decide)
  have x7 := X1.out.1 7 (by decide)
  have x8 := X1.out.1 8 (by decide)
  have x9 := X1.out.1 9 (by decide)
  have x10 := X1.out.1 10 (by decide)
  have x11 := X1.out.1 11 (by decide)
  simp only [Nat.zero_add] at x0 x1 x2 x3 x4 x5 x6 x7 x8 x9 x10 x11
  clear hP hT hB hok
  unfold bxV at C ⊢
  obtain ⟨R, hR⟩ : ∃ R, flS l E B = R := ⟨_, rfl⟩
  rw [hR]
  have HR := Lib.hid hR
  clear hR
  cases hem : emB l B with
  | true =>
    rw [hem] at C
    have e : Hid (R = 0) := by unfold Hid; rw [← HR.out]; unfold flS; rw [if_pos hem]
    clear hem
    go_enter Tryd.func26, Tryd.ntmps26
    go_wp2_with fail
    refine C.out.mono ?_
    rintro e1 w2 ⟨rfl, b2⟩
    have B2 : Hid (Below w.heap.size w w2) := B1.out.trans (b2.mono B1.out.size)
    clear b2 x0 x1 x2 x3 x4 x5 x6 x7 x8 x9 x10 x11 hW1
    go_wp2
    go_ret
    exact ⟨by rw [e.out]; rfl, B2.out⟩
  | false =>
    rw [hem] at C
    have HE : Hid (R = bz (fun n => al (fun j => hdB l E j (ch B j) n) l.length) E.length) := by unfold Hid; rw [← HR.out]; unfold flS; rw [if_neg (by rw [hem]; simp)]
    have HNE := Lib.hid (em_iff.1 hem)
    clear hem
    go_enter Tryd.func26, Tryd.ntmps26
    go_wp2_with fail
    refine C.out.mono ?_
    rintro e1 w2 ⟨rfl, b2⟩
    have B2 := Lib.hid b2
    have P2 := Lib.hid (P1.out.below b2)
    obtain ⟨fb, fc, f0, fl, hfl⟩ := P2.out.fs
    have HFL := Lib.hid hfl
    clear hfl
    have ev := P2.out.ev
    obtain ⟨ev0, hev0⟩ : ∃ v, evS E = v := ⟨_, rfl⟩
    rw [hev0] at ev
    have HEV := Lib.hid hev0
    obtain ⟨n, hn⟩ : ∃ n, l.length = n := ⟨_, rfl⟩
    have HN := Lib.hid hn
    have hn12 : n ≤ 12 := by rw [← hn]; exact HOK.out.n12
    rw [hn] at f0
    clear b2 x0 x1 x2 x3 x4 x5 x6 x7 x8 x9 x10 x11 hW1 hev0 hn
    go_wp2_with fail
    clear ev f0
    go_loopw [5, 6, 7, 20] (fun ov _ _ iv wr => ∃ k x : Nat, iv = .int .i64 k ∧ ov = .int .u64 x ∧ Hid (k ≤ n ∧ x = bz (fun m => al (fun j => hdB l E j (ch B j) m) k) E.length ∧ Below w2.heap.size w2 wr)) (fun _ _ _ iv _ => n - (intOf iv).toNat)
    case atStart =>
      refine ⟨0, ev0, rfl, rfl, Nat.zero_le _, ?_, Below.refl _ _⟩
      rw [← HEV.out]; unfold evS; rw [← bz_all]; exact bz_ext fun j _ => rfl
    case round =>
      obtain ⟨k, x, rfl, rfl, hS0⟩ := hrel
      by_cases hlt : k < n
      · have hlt' : (k : Int) < (n : Int) := by omega
        have hkl : k < l.length := by rw [HN.out]; exact hlt
        have hk0 : (0 : Int) ≤ (k : Int) := by omega
        have hk12 : (k : Int) < 12 := by omega
        have Br := Lib.hid hS0.out.2.2
        obtain ⟨⟨c0, ⟨ca, cc, c1, _⟩, c2⟩, ⟨mm, c3, _, _⟩, h, c4', c4, hlt4, hh⟩ := (HFL.out k hkl).below Br.out fl
        obtain ⟨u, hu⟩ : ∃ u, fd l k = u := ⟨_, rfl⟩
        have HU := Lib.hid hu
        have b20 := HOK.out.c20 k hkl
        obtain ⟨t, htt⟩ : ∃ t, ch B k = t := ⟨_, rfl⟩
        have htl : t < (fd l k).cs.length := by rw [← htt]; exact ch_lt (by omega) (HNE.out k hkl) (HBB.out k hkl)
        have ht8 := hh t htl
        obtain ⟨hk, hhk⟩ : ∃ v, hdS l E k t = v := ⟨_, rfl⟩
        have hklt : hk < 18446744073709551616 := by rw [← hhk]; exact hd_lt _ _ _ _ HOK.out.m60
        rw [hhk] at ht8
        rw [hu] at c0 c1 c2 c4 htl b20
        have bkq : BxAt wr q 0 B := X1.out.1.below (B2.out.trans (Br.out.mono B2.out.size)) X1.out.2
        have bk8 := bkq k (by omega)
        rw [Nat.zero_add] at bk8
        obtain ⟨bk, hbk⟩ : ∃ v, B k = v := ⟨_, rfl⟩
        have hbk0 : bk ≠ 0 := by rw [← hbk]; exact HNE.out k hkl
        have hbk64 : bk < 18446744073709551616 := by
          rw [← hbk]; exact Nat.lt_of_lt_of_le (HBB.out k hkl) (Nat.pow_le_pow_right (by omega) (show (fd l k).cs.length ≤ 64 by rw [hu]; omega))
        rw [hbk] at bk8
        have HCH : Hid (Lib.ctz 64 bk = t) := by unfold Hid; rw [← hbk, ← htt]; rfl
        obtain ⟨m, hm⟩ : ∃ m, u.cs.length = m := ⟨_, rfl⟩
        rw [hm] at c1 c4 htl b20
        have ht0 : (0 : Int) ≤ (t : Int) := by omega
        have htm : (t : Int) < (m : Int) := by omega
        obtain ⟨w3, hw3⟩ : ∃ W, wr.alloc (.cells #[.string u.nm, .slice ca m cc, .int .i64 u.wt, .map (some mm), .slice (some ⟨h, 0, none⟩) m c4'] 94) = W := ⟨_, rfl⟩
        have B3 : Hid (Below wr.heap.size wr w3) := by unfold Hid; rw [← hw3]; exact bel_one _ _
        have I3 : Hid (Below w2.heap.size w2 w3) := Br.out.trans (B3.out.mono Br.out.size)
        have HS3 : Hid (S3c ⟨wr.heap.size, 4, none⟩ ⟨q, k, none⟩ ⟨h, t, none⟩ (.slice (some ⟨h, 0, none⟩) m c4') (.int .u64 (bk : Nat)) (.int .u64 (hk : Nat)) w3) := by
          unfold Hid
          refine ⟨by rw [← hw3, World.cell?_alloc_new]; rfl, ?_, ?_⟩
          · exact (B3.out.cell (p := ⟨q, k, none⟩) (Nat.lt_of_lt_of_le X1.out.2 (B2.out.trans (Br.out.mono B2.out.size)).size)).trans bk8
          · exact (B3.out.cell (p := ⟨h, t, none⟩) hlt4).trans ht8
        have C1 : Hid (∀ V, Below w3.heap.size w3 V → Calls Tryd.prog 54 #[.int .u64 bk] V fun e w' => e = .returned (.int .i64 t) ∧ w' = V) := fun V hV => by
          have := first_c bk V hbk64 hbk0 (TW.out V (B2.out.trans ((I3.out.trans (hV.mono I3.out.size)).mono B2.out.size)))
          rw [HCH.out] at this; exact this
        have hxx := hS0.out.2.1
        have hx64 : x < 18446744073709551616 := by rw [hxx]; exact Nat.lt_of_lt_of_le (bz_lt _ _) (Nat.pow_le_pow_right (by omega) (show E.length ≤ 64 by have := HOK.out.m60; omega))
        have hand : bits .and .u64 (x : Int) (hk : Int) = ((x &&& hk : Nat) : Int) := Go.u64_and_nat _ _ hx64 hklt
        obtain ⟨y, hy⟩ : ∃ y, x &&& hk = y := ⟨_, rfl⟩
        rw [hy] at hand
        have HY : Hid (y = bz (fun m => al (fun j => hdB l E j (ch B j) m) (k + 1)) E.length) := by
          unfold Hid; rw [← hy, hxx, ← hhk, ← htt]; exact fl_step.symm
        obtain ⟨y0, y1, y2⟩ := HS3.out
        clear hu htt hhk hbk hm hxx hy hkl hh bkq ht8 bk8 hlt4 b20 hbk0 hbk64 hx64 hklt htl y0 y1 y2
        go_wp2_with fail
        clear c0 c1 c2 c3 c4 hw3
        refine wp_region_noPanic ?_
        refine wp_region_held_drew (S := (S3c ⟨wr.heap.size, 4, none⟩ ⟨q, k, none⟩ ⟨h, t, none⟩ (.slice (some ⟨h, 0, none⟩) m c4') (.int .u64 (bk : Nat)) (.int .u64 (hk : Nat)))) (by kernel_rfl) (by exact HS3.out) (fun hS => ?_)
        obtain ⟨WD, hWD⟩ : ∃ W, w3.drew = W := ⟨_, rfl⟩
        have D0 : Hid (Below w3.heap.size w3 WD) := by unfold Hid; rw [← hWD]; exact (Below.refl _ _).drew
        rw [hWD] at hS ⊢
        clear hWD
        refine wpAnyH_take (i := 0) (v := ?v0a0) rfl (by kernel_rfl) (by kernel_rfl) (by kernel_rfl) (fun _ _ _ h => h) (Or.inl ⟨by rfl, ?hy0a0⟩) (by assumption) ?rest0a0
        case hy0a0 =>
          intro w hSw
          dsimp only [S3c] at hSw
          go_simp
          try with_reducible rfl
        simp only [Act.put, List.getElem_toArray, List.getElem_cons_succ, List.getElem_cons_zero, List.setIfInBounds_toArray, List.set_cons_zero, List.set_cons_succ]
        refine wpAnyH_take (i := 1) (v := ?v1a1) rfl (by kernel_rfl) (by kernel_rfl) (by kernel_rfl) (fun _ _ _ h => h) (Or.inl ⟨by rfl, ?hy1a1⟩) (by assumption) ?rest1a1
        case hy1a1 =>
          intro w hSw
          dsimp only [S3c] at hSw
          go_simp
          try with_reducible rfl
        simp only [Act.put, List.getElem_toArray, List.getElem_cons_succ, List.getElem_cons_zero, List.setIfInBounds_toArray, List.set_cons_zero, List.set_cons_succ]
        refine wpAnyH_take (i := 2) (v := ?v2a2) rfl (by kernel_rfl) (by kernel_rfl) (by kernel_rfl) (fun _ _ _ h => h) (Or.inl ⟨by rfl, ?hy2a2⟩) (by assumption) ?rest2a2
        case hy2a2 =>
          intro w hSw
          dsimp only [S3c] at hSw
          go_simp
          try with_reducible rfl
        simp only [Act.put, List.getElem_toArray, List.getElem_cons_succ, List.getElem_cons_zero, List.setIfInBounds_toArray, List.set_cons_zero, List.set_cons_succ]
        refine wpAnyH_take (i := 3) (v := ?v3a3) rfl (by kernel_rfl) (by kernel_rfl) (by kernel_rfl) (fun _ _ _ h => h) (Or.inl ⟨by rfl, ?hy3a3⟩) (by assumption) ?rest3a3
        case hy3a3 =>
          intro w hSw
          dsimp only [S3c] at hSw
          go_simp
          try with_reducible rfl
        simp only [Act.put, List.getElem_toArray, List.getElem_cons_succ, List.getElem_cons_zero, List.setIfInBounds_toArray, List.set_cons_zero, List.set_cons_succ]
        refine wpAnyH_take (i := 4) (v := ?v4a4) rfl (by kernel_rfl) (by kernel_rfl) (by kernel_rfl) (fun _ _ _ h => h) (Or.inl ⟨by rfl, ?hy4a4⟩) (by assumption) ?rest4a4
        case hy4a4 =>
          intro w hSw
          dsimp only [S3c] at hSw
          go_simp
          try with_reducible rfl
        simp only [Act.put, List.getElem_toArray, List.getElem_cons_succ, List.getElem_cons_zero, List.setIfInBounds_toArray, List.set_cons_zero, List.set_cons_succ]
        refine wpAnyH_take (i := 5) (v := ?v5a5) rfl (by kernel_rfl) (by kernel_rfl) (by kernel_rfl) (fun _ _ _ h => h) (Or.inl ⟨by rfl, ?hy5a5⟩) (by assumption) ?rest5a5
        case hy5a5 =>
          intro w hSw
          dsimp only [S3c] at hSw
          go_simp
          try with_reducible rfl
        simp only [Act.put, List.getElem_toArray, List.getElem_cons_succ, List.getElem_cons_zero, List.setIfInBounds_toArray, List.set_cons_zero, List.set_cons_succ]
        refine wpAnyH_ready (rs := [6]) (by kernel_rfl) (by simp) ?_
        refine AllReadyH.cons rfl (fun K hK => ?_) AllReadyH.nil
        go_simp
        refine (C1.out WD D0.out).mono ?_
        rintro e1 w4 ⟨rfl, rfl⟩
        try go_simp
        have hT := hS
        refine hK _ _ hT (fun _ => ?_)
        clear hK K hT
        try simp only [Act.put, List.setIfInBounds_toArray, List.set_cons_zero, List.set_cons_succ]
        refine wpAnyH_take (i := 7) (v := ?v7b7) rfl (by kernel_rfl) (by kernel_rfl) (by kernel_rfl) (fun _ _ _ h => h) (Or.inl ⟨by rfl, ?hy7b7⟩) (by assumption) ?rest7b7
        case hy7b7 =>
          intro w hSw
          dsimp only [S3c] at hSw
          go_simp
          try with_reducible rfl
        simp only [Act.put, List.getElem_toArray, List.getElem_cons_succ, List.getElem_cons_zero, List.setIfInBounds_toArray, List.set_cons_zero, List.set_cons_succ]
        refine wpAnyH_take (i := 8) (v := ?v8b8) rfl (by kernel_rfl) (by kernel_rfl) (by kernel_rfl) (fun _ _ _ h => h) (Or.inl ⟨by rfl, ?hy8b8⟩) (by assumption) ?rest8b8
        case hy8b8 =>
          intro w hSw
          dsimp only [S3c] at hSw
          go_simp
          try with_reducible rfl
        simp only [Act.put, List.getElem_toArray, List.getElem_cons_succ, List.getElem_cons_zero, List.setIfInBounds_toArray, List.set_cons_zero, List.set_cons_succ]
        refine wpAnyH_take (i := 9) (v := ?v9b9) rfl (by kernel_rfl) (by kernel_rfl) (by kernel_rfl) (fun _ _ _ h => h) (Or.inl ⟨by rfl, ?hy9b9⟩) (by assumption) ?rest9b9
        case hy9b9 =>
          intro w hSw
          dsimp only [S3c] at hSw
          go_simp
          try with_reducible rfl
        simp only [Act.put, List.getElem_toArray, List.getElem_cons_succ, List.getElem_cons_zero, List.setIfInBounds_toArray, List.set_cons_zero, List.set_cons_succ]
        refine wpAnyH_take (i := 10) (v := ?v10b10) rfl (by kernel_rfl) (by kernel_rfl) (by kernel_rfl) (fun _ _ _ h => h) (Or.inl ⟨by rfl, ?hy10b10⟩) (by assumption) ?rest10b10
        case hy10b10 =>
          intro w hSw
          dsimp only [S3c] at hSw
          go_simp
          try with_reducible rfl
        simp only [Act.put, List.getElem_toArray, List.getElem_cons_succ, List.getElem_cons_zero, List.setIfInBounds_toArray, List.set_cons_zero, List.set_cons_succ]
        refine wpAnyH_done (by kernel_rfl) ?_ _
        refine NoPanic.normal ?_
        clear hS hand
        go_wp2
        go_roundw
        case rel => exact ⟨k + 1, y, by go_num, rfl, hlt, HY.out, I3.out.trans (D0.out.mono I3.out.size)⟩
        case measure => simp [intOf]; omega
      · have hlt' : ¬ (k : Int) < (n : Int) := by omega
        have e : Hid (R = x) := by
          unfold Hid
          have hk := hS0.out.1
          rw [HE.out, hS0.out.2.1, HN.out, show n = k by omega]
        have BW : Hid (Below w.heap.size w wr) := B1.out.trans ((B2.out.trans (hS0.out.2.2.mono B2.out.size)).mono B1.out.size)
        clear hlt
        go_wp2
        go_ret
        exact ⟨by rw [e.out]; rfl, by rw [← hq]; exact BW.out⟩
end Go.Proofs.YtadfmplafehjlaaDoor
namespace Go.Proofs.YtadfmplafehjlaaDoor
open Go.RowKit Go.WideMaps Go.Maps

set_option maxRecDepth 100000 in
set_option maxHeartbeats 4000000 in
theorem passes_c (p : Nat) (l : List Fd) (E : List Ed) (B : Nat → Nat) (w : World) (hP : PlR w p l E) (hok : Ok l E) (hB : ∀ i, i < l.length → B i < 2 ^ (fd l i).cs.length)
    (hT : TabAt 0 Lib.deBruijn64tab w) (ht : 0 < w.heap.size) :
    Calls Tryd.prog 32 #[.pointer (some ⟨p, 0, none⟩), bxV B] w fun e w' => e = .returned (.bool (!emB l B && decide (flS l E B = 0))) ∧ Below w.heap.size w w' := by
  obtain ⟨W1, hW1⟩ : ∃ W, w.alloc (.cells #[.int .u64 (B 0), .int .u64 (B 1), .int .u64 (B 2), .int .u64 (B 3), .int .u64 (B 4), .int .u64 (B 5), .int .u64 (B 6), .int .u64 (B 7), .int .u64 (B 8), .int .u64 (B 9), .int .u64 (B 10), .int .u64 (B 11)] 57) = W := ⟨_, rfl⟩
  obtain ⟨q, hq⟩ : ∃ q, w.heap.size = q := ⟨_, rfl⟩
  have B1 : Hid (Below w.heap.size w W1) := by unfold Hid; rw [← hW1]; exact bel_one _ _
  have X1 : Hid (BxAt W1 q 0 B ∧ q < W1.heap.size) := by unfold Hid; rw [← hW1, ← hq]; exact ⟨bx_made w B, by simp⟩
  have P1 := Lib.hid (hP.below B1.out)
  have C := Lib.hid (isEmpty_c p l E B W1 P1.out hok.n12)
  have C2 : Hid (∀ V, Below W1.heap.size W1 V → Calls Tryd.prog 26 #[.pointer (some ⟨p, 0, none⟩), bxV B] V fun e w' => e = .returned (.int .u64 (flS l E B)) ∧ Below V.heap.size V w') := fun V hV =>
    failed_c p l E B V (P1.out.below hV) hok hB (tab_below hT ht (B1.out.trans (hV.mono B1.out.size))) (Nat.lt_of_lt_of_le ht (B1.out.trans (hV.mono B1.out.size)).size)
  have x0 := X1.out.1 0 (by decide)
  have x1 := X1.out.1 1 (by decide)
  have x2 := X1.out.1 2 (by decide)
  have x3 := X1.out.1 3 (by decide)
  have x4 := X1.out.1 4 (by decide)
  have x5 := X1.out.1 5 (by decide)
  have x6 := X1.out.1 6 (by decide)
  have x7 := X1.out.1 7 (by decide)
  have x8 := X1.out.1 8 (by decide)
  have x9 := X1.out.1 9 (by decide)
  have x10 := X1.out.1 10 (by decide)
  have x11 := X1.out.1 11 (by decide)
  simp only [Nat.zero_add] at x0 x1 x2 x3 x4 x5 x6 x7 x8 x9 x10 x11
  clear hP hT hB hok
  unfold bxV at C C2 ⊢
  obtain ⟨R, hR⟩ : ∃ R, (!emB l B && decide (flS l E B = 0)) = R := ⟨_, rfl⟩
  rw [hR]
  cases hem : emB l B with
  | true =>
    rw [hem] at C
    have e : Hid (R = false) := by unfold Hid; rw [← hR, hem]; rfl
    clear hem hR
    go_enter Tryd.func32, Tryd.ntmps32
    go_wp2_with fail
    refine C.out.mono ?_
    rintro e1 w2 ⟨rfl, b2⟩
    have B2 : Hid (Below w.heap.size w w2) := B1.out.trans (b2.mono B1.out.size)
    have X2 := Lib.hid (X1.out.1.below b2 X1.out.2)
    clear b2 x0 x1 x2 x3 x4 x5 x6 x7 x8 x9 x10 x11 hW1
    go_wp2
    go_ret
    exact ⟨by rw [e.out]; rfl, B2.out⟩
  | false =>
    rw [hem] at C
    obtain ⟨v, hv⟩ : ∃ v, flS l E B = v := ⟨_, rfl⟩
    rw [hv] at C2
    have e : Hid (R = decide (v = 0)) := by unfold Hid; rw [← hR, hem, hv]; rfl
    clear hem hR hv
    go_enter Tryd.func32, Tryd.ntmps32
    go_wp2_with fail
    refine C.out.mono ?_
    rintro e1 w2 ⟨rfl, b2⟩
    have B2 : Hid (Below w.heap.size w w2) := B1.out.trans (b2.mono B1.out.size)
    have X2 := X1.out.1.below b2 X1.out.2
    have y0 := X2 0 (by decide)
    have y1 := X2 1 (by decide)
    have y2 := X2 2 (by decide)
    have y3 := X2 3 (by decide)
    have y4 := X2 4 (by decide)
    have y5 := X2 5 (by decide)
    have y6 := X2 6 (by decide)
    have y7 := X2 7 (by decide)
    have y8 := X2 8 (by decide)
    have y9 := X2 9 (by decide)
    have y10 := X2 10 (by decide)
    have y11 := X2 11 (by decide)
    simp only [Nat.zero_add] at y0 y1 y2 y3 y4 y5 y6 y7 y8 y9 y10 y11
    have C3 := Lib.hid (C2.out w2 b2)
    clear b2 x0 x1 x2 x3 x4 x5 x6 x7 x8 x9 x10 x11 hW1 X2
    go_wp2_with fail
    refine C3.out.mono ?_
    rintro e1 w3 ⟨rfl, b3⟩
    have B3 : Hid (Below w.heap.size w w3) := B2.out.trans (b3.mono B2.out.size)
    clear b3 y0 y1 y2 y3 y4 y5 y6 y7 y8 y9 y10 y11
    have hvv : ((v : Int) == 0) = R := by rw [e.out, Bool.eq_iff_iff]; simp
    go_wp2
    go_ret
    exact ⟨rfl, B3.out⟩
theorem BxAt.set {w : World} {b o : Nat} {B : Nat → Nat} (h : BxAt w b o B) {k : Nat} (hk : k < 12) (v : Nat) : BxAt (w.setCell ⟨b, o + k, none⟩ (.int .u64 v)) b o (upd B k v) := by
  intro i hi
  by_cases e : i = k
  · subst e
    rw [World.cell?_setCell_same _ _ _ (h i hi)]; simp [upd]
  · rw [World.cell?_setCell_other _ _ _ _ (fun q => by injection q with _ q; omega), h i hi]
    simp [upd, e]
def putB (w : World) (b : Nat) (B : Nat → Nat) : Nat → World
  | 0 => w
  | n + 1 => (putB w b B n).setCell ⟨b, n, none⟩ (.int .u64 (B n))
theorem putB_at {w : World} {b : Nat} {B0 : Nat → Nat} (h : BxAt w b 0 B0) (B : Nat → Nat) : ∀ n, n ≤ 12 → BxAt (putB w b B n) b 0 (fun i => if i < n then B i else B0 i)
  | 0, _ => fun i hi => by
    have := h i hi
    show w.cell? _ = _
    rw [this]
    dsimp only
    rw [if_neg (by omega)]
  | n + 1, hn => by
    have h1 := (putB_at h B n (by omega)).set (k := n) (by omega) (B n)
    rw [Nat.zero_add] at h1
    intro i hi
    have h2 := h1 i hi
    show World.cell? (World.setCell _ _ _) _ = _
    rw [h2]
    unfold upd
    dsimp only
    by_cases e : i = n
    · subst e; rw [if_pos rfl, if_pos (by omega)]
    · rw [if_neg e]
      by_cases q : i < n
      · rw [if_pos q, if_pos (by omega)]
      · rw [if_neg q, if_neg (by omega)]
theorem putB_below {B0 : Nat} {w0 w : World} {b : Nat} (h : Below B0 w0 w) (hb : B0 ≤ b) (B : Nat → Nat) : ∀ n, Below B0 w0 (putB w b B n)
  | 0 => h
  | n + 1 => (putB_below h hb B n).setCell (p := ⟨b, n, none⟩) hb _
theorem bx_set12 {w : World} {b : Nat} {B0 : Nat → Nat} (h : BxAt w b 0 B0) (B : Nat → Nat) : BxAt (putB w b B 12) b 0 B := fun i hi => by
  rw [putB_at h B 12 (Nat.le_refl _) i hi]
  dsimp only
  rw [if_pos hi]
theorem mrk_get (cs : List Int) (c : Int) : (mrk cs c).getD (.int .u64 0) = .int .u64 (mkS cs c) := by
  unfold mrk
  split
  · rfl
  · rename_i q
    rw [mk_none (by simpa using q)]; rfl
theorem zeroU64 (w : World) : (zeroValue 54).run Tryd.prog w = .ok (.int .u64 0) w := by kernel_rfl
theorem MapN.mark {w : World} {b : Nat} {cs : List Int} (h : MapN w b cs.length (mrk cs)) {c : Int} (hc : -9223372036854775808 ≤ c ∧ c ≤ 9223372036854775807) :
    (Instr.lookup 91 (.map (some b)) (.int .i64 c) false).run Tryd.prog w = .ok (.int .u64 (mkS cs c)) w := by
  rw [MapN.look1 h Tryd.underlying91 (zeroU64 w) hc, mrk_get]
set_option maxRecDepth 100000 in
set_option maxHeartbeats 4000000 in
theorem boxOf_c (p : Nat) (l : List Fd) (E : List Ed) (a : Option Addr) (ca : Nat) (r : List Int) (w : World) (hP : PlR w p l E) (h12 : l.length ≤ 12) (hr : Rd w a r) (hrl : r.length = l.length)
    (hrr : ∀ j, j < r.length → -9223372036854775808 ≤ fn r j ∧ fn r j ≤ 9223372036854775807) :
    Calls Tryd.prog 27 #[.pointer (some ⟨p, 0, none⟩), .slice a r.length ca] w fun e w' => e = .returned (bxV (rbx l r)) ∧ Below w.heap.size w w' := by
  obtain ⟨n, hn⟩ : ∃ n, l.length = n := ⟨_, rfl⟩
  have HN := Lib.hid hn
  rw [hrl, hn]
  rw [hn] at h12
  obtain ⟨W1, hW1⟩ : ∃ W, (w.alloc (.cells #[.int .u64 0, .int .u64 0, .int .u64 0, .int .u64 0, .int .u64 0, .int .u64 0, .int .u64 0, .int .u64 0, .int .u64 0, .int .u64 0, .int .u64 0, .int .u64 0] 57)) = W := ⟨_, rfl⟩
  obtain ⟨W2, hW2⟩ : ∃ W, (W1.alloc (.cells #[.int .u64 0, .int .u64 0, .int .u64 0, .int .u64 0, .int .u64 0, .int .u64 0, .int .u64 0, .int .u64 0, .int .u64 0, .int .u64 0, .int .u64 0, .int .u64 0] 57)) = W := ⟨_, rfl⟩
  have HP := Lib.hid hP
  have HR := Lib.hid hr
  have HRR := Lib.hid hrr
  obtain ⟨fb, fc, f0, fl, hfl⟩ := hP.fs
  have f1 : W2.cell? ⟨p, 0, none⟩ = some (.slice (some ⟨fb, 0, none⟩) l.length fc) := by
    have b1 : Below w.heap.size w W1 := by rw [← hW1]; exact bel_one _ _
    have b2 : Below W1.heap.size W1 W2 := by rw [← hW2]; exact bel_one _ _
    exact ((b1.trans (b2.mono b1.size)).cell (p := ⟨p, 0, none⟩) hP.lt).trans f0
  have HFL := Lib.hid hfl
  rw [hn] at f1
  clear hP hr hrr hfl f0 hn
  go_enter Tryd.func27, Tryd.ntmps27
  go_wp2_with fail
  have X0 : Hid (BxAt W2 W1.heap.size 0 (fun i => if i < 0 then rbx l r i else 0)) := by unfold Hid; rw [← hW2]; exact bx_made W1 (fun _ => 0)
  have B1 : Hid (Below w.heap.size w W1) := by unfold Hid; rw [← hW1]; exact bel_one _ _
  have B2 : Hid (Below W1.heap.size W1 W2 ∧ W1.heap.size < W2.heap.size ∧ ∀ o, W2.frozen? ⟨W1.heap.size, o, none⟩ = false) := by
    unfold Hid; rw [← hW2]; exact ⟨bel_one _ _, by simp, fun o => by simp⟩
  have Z1 : Hid (BxAt W1 w.heap.size 0 (fun _ => 0) ∧ w.heap.size < W1.heap.size ∧ ∀ o, W1.frozen? ⟨w.heap.size, o, none⟩ = false) := by
    unfold Hid; rw [← hW1]; exact ⟨bx_made w (fun _ => 0), by simp, fun o => by simp⟩
  clear hW1 hW2 f1
  go_loopw [6, 7, 13] (fun _ _ iv wr => ∃ k : Nat, iv = .int .i64 k ∧ Hid (k ≤ n ∧ BxAt wr W1.heap.size 0 (fun i => if i < k then rbx l r i else 0) ∧ Below W1.heap.size W1 wr ∧ W1.heap.size < wr.heap.size ∧ ∀ o, wr.frozen? ⟨W1.heap.size, o, none⟩ = false)) (fun _ _ iv _ => n - (intOf iv).toNat)
  case atStart => exact ⟨0, rfl, Nat.zero_le _, X0.out, B2.out.1, B2.out.2.1, B2.out.2.2⟩
  case round =>
    obtain ⟨k, rfl, hS⟩ := hrel
    obtain ⟨hk, hX, hB, hlt1, hfr⟩ := hS.out
    have BW : Hid (Below w.heap.size w wr) := B1.out.trans (hB.mono B1.out.size)
    by_cases hlt : k < n
    · have hlt' : (k : Int) < (n : Int) := by omega
      have hkl : k < l.length := by rw [HN.out]; exact hlt
      have hkr : k < r.length := by rw [hrl]; exact hkl
      have hk0 : (0 : Int) ≤ (k : Int) := by omega
      have hk12 : (k : Int) < 12 := by omega
      obtain ⟨⟨c0, ⟨ga, gc, c1, _⟩, c2⟩, ⟨mm, c3, hmm, hmk⟩, h, c4', c4, hlt4, _⟩ := (HFL.out k hkl).below BW.out fl
      obtain ⟨rb, ro, hra, rlt, hrc⟩ := (HR.out.below BW.out).2 (by omega)
      subst hra
      have r0 := hrc k hkr
      have hL := MapN.mark hmk (HRR.out k hkr)
      obtain ⟨u, hu⟩ : ∃ u, fd l k = u := ⟨_, rfl⟩
      obtain ⟨x, hx⟩ : ∃ x, fn r k = x := ⟨_, rfl⟩
      rw [hu, hx] at hL
      rw [hu] at c0 c1 c2 c4
      rw [hx] at r0
      obtain ⟨y, hy⟩ : ∃ y, mkS u.cs x = y := ⟨_, rfl⟩
      rw [hy] at hL
      have HY : Hid (rbx l r k = y) := by unfold Hid rbx; rw [if_pos hkl, hu, hx]; exact hy
      obtain ⟨w3, hw3⟩ : ∃ W, wr.alloc (.cells #[.string u.nm, .slice ga u.cs.length gc, .int .i64 u.wt, .map (some mm), .slice (some ⟨h, 0, none⟩) u.cs.length c4'] 94) = W := ⟨_, rfl⟩
      have hb3 : Below wr.heap.size wr w3 := by rw [← hw3]; exact bel_one _ _
      have d1 : w3.cell? ⟨wr.heap.size, 3, none⟩ = some (.map (some mm)) := by rw [← hw3, World.cell?_alloc_new]; rfl
      have d2 : w3.cell? ⟨rb, ro + k, none⟩ = some (.int .i64 x) := (hb3.cell (p := ⟨rb, ro + k, none⟩) rlt).trans r0
      have d3 : ∃ v, w3.cell? ⟨W1.heap.size, k, none⟩ = some v := by
        have := hX k (by omega)
        rw [Nat.zero_add] at this
        exact ⟨_, (hb3.cell (p := ⟨W1.heap.size, k, none⟩) hlt1).trans this⟩
      obtain ⟨v3, d3⟩ := d3
      have d4 : w3.frozen? ⟨W1.heap.size, k, none⟩ = false := (hb3.frozen (p := ⟨W1.heap.size, k, none⟩) hlt1).trans (hfr k)
      have L3 : (Instr.lookup 91 (.map (some mm)) (.int .i64 x) false).run Tryd.prog w3.drew = .ok (.int .u64 y) w3.drew := by
        have := MapN.mark ((hmk.below hb3 hmm).below (Below.refl w3.heap.size w3).drew (Nat.lt_of_lt_of_le hmm hb3.size)) (by rw [← hx] at *; exact HRR.out k hkr) (c := x)
        rw [hu, hy] at this; exact this
      have XX := Lib.hid hX
      have BB := Lib.hid hB
      have FF := Lib.hid hfr
      have B3 := Lib.hid hb3
      clear hS hX hB hfr hb3 hmk hrc hL hu hx hy
      go_wp2_with fail
      go_region
      have NX : Hid (k + 1 ≤ n ∧ BxAt ((w3.setCell ⟨W1.heap.size, k, none⟩ (.int .u64 y)).drew) W1.heap.size 0 (fun i => if i < k + 1 then rbx l r i else 0) ∧ Below W1.heap.size W1 ((w3.setCell ⟨W1.heap.size, k, none⟩ (.int .u64 y)).drew) ∧ W1.heap.size < ((w3.setCell ⟨W1.heap.size, k, none⟩ (.int .u64 y)).drew).heap.size ∧ ∀ o, ((w3.setCell ⟨W1.heap.size, k, none⟩ (.int .u64 y)).drew).frozen? ⟨W1.heap.size, o, none⟩ = false) := by
        refine ⟨hlt, ?_, ((BB.out.trans (B3.out.mono BB.out.size)).setCell (p := ⟨W1.heap.size, k, none⟩) (Nat.le_refl _) _).drew, ?_, fun o => ?_⟩
        · have h1 := (XX.out.below B3.out hlt1).set (k := k) (by omega) y
          rw [Nat.zero_add] at h1
          intro i hi
          have h2 := h1 i hi
          show World.cell? (World.setCell _ _ _) _ = _
          rw [h2]
          unfold upd
          dsimp only
          by_cases e : i = k
          · subst e; rw [if_pos rfl, if_pos (by omega), HY.out]
          · rw [if_neg e]
            by_cases q : i < k
            · rw [if_pos q, if_pos (by omega)]
            · rw [if_neg q, if_neg (by omega)]
        · have := B3.out.size
          simp; omega
        · show (World.setCell _ _ _).frozen? _ = _
          rw [World.frozen?_setCell]
          exact (B3.out.frozen (p := ⟨W1.heap.size, o, none⟩) hlt1).trans (FF.out o)
      obtain ⟨W9, hW9⟩ : ∃ W, (w3.setCell ⟨W1.heap.size, k, none⟩ (.int .u64 y)).drew = W := ⟨_, rfl⟩
      rw [hW9] at NX ⊢
      clear c0 c1 c2 c3 c4 d1 d2 d3 d4 r0 L3 hw3 hW9 XX BB FF B3
      go_wp2
      go_roundw
      case rel => exact ⟨k + 1, by go_num, NX.out⟩
      case measure => simp [intOf]; omega
    · have hlt' : ¬ (k : Int) < (n : Int) := by omega
      have hkn : k = n := by omega
      subst hkn
      have XX : BxAt wr W1.heap.size 0 (rbx l r) := fun i hi => by
        rw [hX i hi]
        dsimp only
        by_cases q : i < k
        · rw [if_pos q]
        · rw [if_neg q]; unfold rbx; rw [if_neg (by rw [HN.out]; exact q)]
      have ZZ := (show BxAt wr w.heap.size 0 (fun _ => 0) from fun i hi => (hB.cell (p := ⟨w.heap.size, 0 + i, none⟩) Z1.out.2.1).trans (Z1.out.1 i hi))
      have ZF : ∀ o, wr.frozen? ⟨w.heap.size, o, none⟩ = false := fun o => (hB.frozen (p := ⟨w.heap.size, o, none⟩) Z1.out.2.1).trans (Z1.out.2.2 o)
      obtain ⟨B, hBr⟩ : ∃ B, rbx l r = B := ⟨_, rfl⟩
      rw [hBr] at XX
      have HBR := Lib.hid hBr
      obtain ⟨W9, hW9⟩ : ∃ W, putB wr w.heap.size B 12 = W := ⟨_, rfl⟩
      have RX : BxAt W9 w.heap.size 0 B := by rw [← hW9]; exact bx_set12 ZZ B
      have RB : Hid (Below w.heap.size w W9) := by unfold Hid; rw [← hW9]; exact putB_below BW.out (Nat.le_refl _) B 12
      have x0 := XX 0 (by decide)
      have x1 := XX 1 (by decide)
      have x2 := XX 2 (by decide)
      have x3 := XX 3 (by decide)
      have x4 := XX 4 (by decide)
      have x5 := XX 5 (by decide)
      have x6 := XX 6 (by decide)
      have x7 := XX 7 (by decide)
      have x8 := XX 8 (by decide)
      have x9 := XX 9 (by decide)
      have x10 := XX 10 (by decide)
      have x11 := XX 11 (by decide)
      simp only [Nat.zero_add] at x0 x1 x2 x3 x4 x5 x6 x7 x8 x9 x10 x11
      have z0 := ZZ 0 (by decide)
      have z1 := ZZ 1 (by decide)
      have z2 := ZZ 2 (by decide)
      have z3 := ZZ 3 (by decide)
      have z4 := ZZ 4 (by decide)
      have z5 := ZZ 5 (by decide)
      have z6 := ZZ 6 (by decide)
      have z7 := ZZ 7 (by decide)
      have z8 := ZZ 8 (by decide)
      have z9 := ZZ 9 (by decide)
      have z10 := ZZ 10 (by decide)
      have z11 := ZZ 11 (by decide)
      simp only [Nat.zero_add] at z0 z1 z2 z3 z4 z5 z6 z7 z8 z9 z10 z11
      have r0 := RX 0 (by decide)
      have r1 := RX 1 (by decide)
      have r2 := RX 2 (by decide)
      have r3 := RX 3 (by decide)
      have r4 := RX 4 (by decide)
      have r5 := RX 5 (by decide)
      have r6 := RX 6 (by decide)
      have r7 := RX 7 (by decide)
      have r8 := RX 8 (by decide)
      have r9 := RX 9 (by decide)
      have r10 := RX 10 (by decide)
      have r11 := RX 11 (by decide)
      simp only [Nat.zero_add] at r0 r1 r2 r3 r4 r5 r6 r7 r8 r9 r10 r11
      simp only [putB] at hW9
      clear hS hX hB hfr hlt XX ZZ hBr hk RX
      go_wp2_with fail
      refine bodyPost_ret (v := bxV B) (by unfold bxV; simp [results, Tryd.results27, go_sem, r0, r1, r2, r3, r4, r5, r6, r7, r8, r9, r10, r11]) rfl ?_
      exact ⟨by rw [HBR.out], RB.out⟩
end Go.Proofs.YtadfmplafehjlaaDoor
namespace Go.Proofs.YtadfmplafehjlaaDoor
open Go.RowKit Go.WideMaps Go.Maps

theorem heap3 (W : World) (o0 o1 o2 : Obj) : (((W.alloc o0).alloc o1).alloc o2).drew.heap[W.heap.size]? = some o0 ∧ (((W.alloc o0).alloc o1).alloc o2).drew.heap[W.heap.size + 1]? = some o1 ∧ (((W.alloc o0).alloc o1).alloc o2).drew.heap[W.heap.size + 1 + 1]? = some o2 := by
  have e : (((W.alloc o0).alloc o1).alloc o2).drew.heap = ((W.heap.push o0).push o1).push o2 := rfl
  rw [e]
  refine ⟨?_, ?_, ?_⟩
  · rw [Array.getElem?_push, if_neg (by simp <;> omega), Array.getElem?_push, if_neg (by simp <;> omega), Array.getElem?_push, if_pos rfl]
  · rw [Array.getElem?_push, if_neg (by simp <;> omega), Array.getElem?_push, if_pos (by simp)]
  · rw [Array.getElem?_push, if_pos (by simp)]
theorem zerosU_at {n j : Nat} (hj : j < n) : (madeCells #[Value.int .u64 0] n)[j]? = some (.int .u64 0) := by
  rw [← Array.getElem?_toList, toList_madeCells_one, List.getElem?_replicate]
  exact if_pos hj
theorem zerosU_ex (n : Nat) : ∃ Z, madeCells #[Value.int .u64 0] n = Z ∧ ∀ j, j < n → Z[j]? = some (Value.int .u64 0) := ⟨_, rfl, fun _ h => zerosU_at h⟩
theorem infoSe : (Tryd.prog.info? 54).map (fun i => (i.zero, i.size, i.bytes)) = some (some (.int .u64 0), 1, 8) := by kernel_rfl
/-- Values stored into a box, one cell after another. -/
def putL (w : World) (b : Nat) : List Value → Nat → World
  | [], _ => w
  | v :: vs, i => putL (w.setCell ⟨b, i, none⟩ v) b vs (i + 1)
theorem putL_before {b : Nat} : ∀ (vs : List Value) (i : Nat) (w : World) (j : Nat), j < i → (putL w b vs i).cell? ⟨b, j, none⟩ = w.cell? ⟨b, j, none⟩
  | [], _, _, _, _ => rfl
  | v :: vs, i, w, j, h => by
    show (putL _ b vs (i + 1)).cell? _ = _
    rw [putL_before vs (i + 1) _ j (by omega), World.cell?_setCell_other _ _ _ _ (fun q => by injection q with _ q; omega)]
theorem putL_cell {b : Nat} : ∀ (vs : List Value) (i : Nat) (w : World), (∀ j, j < vs.length → ∃ u, w.cell? ⟨b, i + j, none⟩ = some u) → ∀ j, j < vs.length → (putL w b vs i).cell? ⟨b, i + j, none⟩ = vs[j]?
  | [], _, _, _, j, h => by simp at h
  | v :: vs, i, w, hu, j, h => by
    obtain ⟨u, h0⟩ := hu 0 (by simp)
    rw [Nat.add_zero] at h0
    show (putL _ b vs (i + 1)).cell? _ = _
    cases j with
    | zero =>
      show (putL _ b vs (i + 1)).cell? ⟨b, i, none⟩ = _
      rw [putL_before vs (i + 1) _ i (by omega), World.cell?_setCell_same _ _ _ h0]; rfl
    | succ j =>
      have h1 := putL_cell vs (i + 1) (w.setCell ⟨b, i, none⟩ v) (fun q hq => by
        obtain ⟨u', h'⟩ := hu (q + 1) (by simpa using hq)
        refine ⟨u', ?_⟩
        rw [World.cell?_setCell_other _ _ _ _ (fun q => by injection q with _ q; omega), show i + 1 + q = i + (q + 1) by omega]; exact h') j (by simpa using h)
      rw [show i + (j + 1) = i + 1 + j by omega, h1]; rfl
theorem grown_set (W : World) (b o : Nat) (v : Value) : W.grownBy (W.setCell ⟨b, o, none⟩ v) (some b) :=
  ⟨rfl, rfl, rfl, by simp, fun k _ hk => Below.heap_setCell _ _ _ k (fun e => hk (by rw [e]))⟩
theorem putL_grown {b : Nat} : ∀ (vs : List Value) (i : Nat) (w : World), w.grownBy (putL w b vs i) (some b)
  | [], _, w => World.grownBy.refl _ _
  | v :: vs, i, w => (grown_set w b i v).trans (putL_grown vs (i + 1) _)
/-- A field's parts, new. -/
structure Fo (w W : World) (m h z : Nat) (v0 v1 v2 : Value) (n : Nat) : Prop where
  z0 : W.cell? ⟨z, 0, none⟩ = some v0
  z1 : W.cell? ⟨z, 1, none⟩ = some v1
  z2 : W.cell? ⟨z, 2, none⟩ = some v2
  z3 : W.cell? ⟨z, 3, none⟩ = some (.map (some m))
  z4 : W.cell? ⟨z, 4, none⟩ = some (.slice (some ⟨h, 0, none⟩) n n)
  mp : MapN W m 0 fun _ => none
  hz : ∀ k, k < n → W.cell? ⟨h, k, none⟩ = some (.int .u64 0)
  hf : ∀ k, W.frozen? ⟨h, k, none⟩ = false
  mh : m ≠ h
  zm : z ≠ m
  zh : z ≠ h
  lm : w.heap.size ≤ m
  lh : w.heap.size ≤ h
  sm : m < W.heap.size
  sh : h < W.heap.size
  bel : Below w.heap.size w W
theorem Fo.made {W2 W : World} {m h z n : Nat} {v0 v1 v2 : Value} {Z : Array Value} (hZ : ∀ j, j < n → Z[j]? = some (Value.int .u64 0))
    (hw : ∃ o0 o1 o2, W = (((W2.alloc o0).alloc o1).alloc o2).drew) (hm : W.heap[m]? = some (.map #[] 0)) (hh : W.heap[h]? = some (.cells Z 54)) (hz : W.heap[z]? = some (.cells #[v0, v1, v2, .map (some m), .slice (some ⟨h, 0, none⟩) n n] 94))
    (n1 : m ≠ h) (n2 : z ≠ m) (n3 : z ≠ h) (l1 : W2.heap.size ≤ m) (l2 : W2.heap.size ≤ h) : Fo W2 W m h z v0 v1 v2 n := by
  have bw : Below W2.heap.size W2 W := by
    obtain ⟨o0, o1, o2, rfl⟩ := hw
    exact ((((Below.refl _ _).alloc (Nat.le_refl _) _).alloc (by simp) _).alloc (by simp; omega) _).drew
  refine ⟨by simp [World.cell?, hz], by simp [World.cell?, hz], by simp [World.cell?, hz], by simp [World.cell?, hz], by simp [World.cell?, hz], ?_, fun k hk => ?_, fun k => ?_, n1, n2, n3, l1, l2, (Array.getElem?_eq_some_iff.1 hm).1, (Array.getElem?_eq_some_iff.1 hh).1, bw⟩
  · obtain ⟨D, hD, hf⟩ := MapN.made W2
    obtain ⟨es, clock, e1, e2⟩ := hD
    have e0 : (W2.alloc (.map #[] 0)).heap[W2.heap.size]? = some (.map #[] 0) := by
      show (W2.heap.push _)[_]? = _
      simp
    rw [e0] at e1
    exact ⟨D, ⟨es, clock, hm.trans e1, e2⟩, hf⟩
  · simp only [World.cell?, hh]; exact hZ k hk
  · simp [World.frozen?, hh]
/-- The marks of the first k codes. -/
def mrkK (cs : List Int) (k : Nat) (c : Int) : Option Value := if (cs.take k).contains c = true then some (.int .u64 (mkS cs c)) else none
theorem mrkK_all (cs : List Int) : mrkK cs cs.length = mrk cs := by funext c; unfold mrkK mrk inC; rw [List.take_length]
theorem mrkK_next {cs : List Int} {k : Nat} (hk : k < cs.length) (h : mkS cs (fn cs k) = 2 ^ k) (c : Int) : (if c = fn cs k then some (Value.int .u64 ((2 ^ k : Nat) : Int)) else mrkK cs k c) = mrkK cs (k + 1) c := by
  have e : fn cs k = cs[k] := by unfold fn; simp [List.getD, hk]
  have ht : cs.take (k + 1) = cs.take k ++ [cs[k]] := by rw [List.take_add_one, List.getElem?_eq_getElem hk]; rfl
  unfold mrkK
  rw [ht]
  by_cases q : c = fn cs k
  · rw [if_pos q, if_pos (by rw [List.contains_iff_mem, List.mem_append, q, e]; exact .inr (by simp)), q, h]
  · rw [if_neg q]
    have : ((cs.take k ++ [cs[k]]).contains c) = (cs.take k).contains c := by
      rw [Bool.eq_iff_iff, List.contains_iff_mem, List.contains_iff_mem, List.mem_append]
      constructor
      · rintro (x | x)
        · exact x
        · rw [← e] at x
          exact absurd (by simpa using x) q
      · exact .inl
    rw [this]
def S1e (a : Addr) (v : Value) (w : World) : Prop := w.cell? a = some v
def FoP (nm : ByteArray) (a : Option Addr) (c : Nat) (cs : List Int) (wt : Int) (w : World) (e : Ending) (w' : World) : Prop :=
  ∃ m h, e = .returned (.agg #[.string nm, .slice a cs.length c, .int .i64 wt, .map (some m), .slice (some ⟨h, 0, none⟩) cs.length cs.length]) ∧ MapN w' m cs.length (mrk cs) ∧ (∀ k, k < cs.length → w'.cell? ⟨h, k, none⟩ = some (.int .u64 0)) ∧ (∀ k, w'.frozen? ⟨h, k, none⟩ = false) ∧
    w.heap.size ≤ m ∧ w.heap.size ≤ h ∧ m < w'.heap.size ∧ h < w'.heap.size ∧ m ≠ h ∧ Below w.heap.size w w'
set_option maxRecDepth 100000 in
set_option maxHeartbeats 4000000 in
theorem fieldOf_c (nm : ByteArray) (a : Option Addr) (c : Nat) (cs : List Int) (wt : Int) (w : World) (hcs : Rd w a cs) (hn : cs.length ≤ 20) (hmk : ∀ k, k < cs.length → mkS cs (fn cs k) = 2 ^ k) (hr : ∀ k, k < cs.length → -9223372036854775808 ≤ fn cs k ∧ fn cs k ≤ 9223372036854775807) :
    Calls Tryd.prog 63 #[.agg #[.string nm, .slice a cs.length c, .int .i64 wt]] w (FoP nm a c cs wt w) := by
  have mixed : Tryd.prog.follows .mixedOrders = true := by kernel_rfl
  obtain ⟨n, hnn⟩ : ∃ n, cs.length = n := ⟨_, rfl⟩
  have HN := Lib.hid hnn
  have HCS := Lib.hid hcs
  have HMK := Lib.hid hmk
  have HR := Lib.hid hr
  have hm0 := run_make_row' (P := Tryd.prog) 92 54 (.int .u64 0) 8 Tryd.underlying92 infoSe rfl .i64 .i64 n (by omega) (by omega)
  obtain ⟨Z, hZ, hZ2⟩ := zerosU_ex n
  rw [hZ] at hm0
  have HZ := Lib.hid hZ2
  have hmm := @run_makeMap Tryd.prog
  obtain ⟨W1, hW1⟩ : ∃ W, w.alloc (.cells #[.string nm, .slice a n c, .int .i64 wt] 39) = W := ⟨_, rfl⟩
  obtain ⟨W2, hW2⟩ : ∃ W, W1.alloc (.cells #[.string ⟨#[]⟩, .slice none 0 0, .int .i64 0, .map none, .slice none 0 0] 94) = W := ⟨_, rfl⟩
  have B1 : Hid (Below w.heap.size w W1) := by unfold Hid; rw [← hW1]; exact bel_one _ _
  have B2 : Hid (Below W1.heap.size W1 W2) := by unfold Hid; rw [← hW2]; exact bel_one _ _
  have hs2 : W2.heap.size = w.heap.size + 2 := by rw [← hW2, ← hW1]; simp
  have HS2 := Lib.hid hs2
  have HLT : Hid (W1.heap.size < W2.heap.size) := by unfold Hid; rw [← hW2]; simp
  have q0 : W2.cell? ⟨w.heap.size, 0, none⟩ = some (.string nm) := (B2.out.cell (p := ⟨w.heap.size, 0, none⟩) (by rw [← hW1]; simp)).trans (by rw [← hW1, World.cell?_alloc_new]; rfl)
  have q1 : W2.cell? ⟨w.heap.size, 1, none⟩ = some (.slice a n c) := (B2.out.cell (p := ⟨w.heap.size, 1, none⟩) (by rw [← hW1]; simp)).trans (by rw [← hW1, World.cell?_alloc_new]; rfl)
  have q2 : W2.cell? ⟨w.heap.size, 2, none⟩ = some (.int .i64 wt) := (B2.out.cell (p := ⟨w.heap.size, 2, none⟩) (by rw [← hW1]; simp)).trans (by rw [← hW1, World.cell?_alloc_new]; rfl)
  have RQ : Hid (∀ V, Below W2.heap.size W2 V → V.cell? ⟨W1.heap.size, 0, none⟩ = some (.string ⟨#[]⟩) ∧ V.cell? ⟨W1.heap.size, 1, none⟩ = some (.slice none 0 0) ∧ V.cell? ⟨W1.heap.size, 2, none⟩ = some (.int .i64 0) ∧ V.cell? ⟨W1.heap.size, 3, none⟩ = some (.map none) ∧ V.cell? ⟨W1.heap.size, 4, none⟩ = some (.slice none 0 0) ∧ ∀ o, V.frozen? ⟨W1.heap.size, o, none⟩ = false) := by
    have lt : W1.heap.size < W2.heap.size := by rw [← hW2]; simp
    intro V hV
    refine ⟨(hV.cell (p := ⟨W1.heap.size, 0, none⟩) lt).trans ?_, (hV.cell (p := ⟨W1.heap.size, 1, none⟩) lt).trans ?_, (hV.cell (p := ⟨W1.heap.size, 2, none⟩) lt).trans ?_, (hV.cell (p := ⟨W1.heap.size, 3, none⟩) lt).trans ?_, (hV.cell (p := ⟨W1.heap.size, 4, none⟩) lt).trans ?_, fun o => (hV.frozen (p := ⟨W1.heap.size, o, none⟩) lt).trans ?_⟩
    all_goals (rw [← hW2]; first | (rw [World.cell?_alloc_new]; rfl) | simp)
  rw [hnn] at hn ⊢
  clear hcs hmk hr hnn hZ hZ2 hs2
  go_enter Tryd.func63, Tryd.ntmps63
  go_upto_region 1 with fail
  go_cut [3] from 6 to 12 (fun v3 wx => ∃ m h z : Nat, v3 = .pointer (some ⟨z, 0, none⟩) ∧ Hid (Fo W2 wx m h z (.string nm) (.slice a n c) (.int .i64 wt) n))
  case first =>
    have hlt2 : w.heap.size < W2.heap.size := by rw [HS2.out]; omega
    have hlt3 : w.heap.size < W2.heap.size + 1 := by omega
    have hlt4 : w.heap.size < W2.heap.size + 1 + 1 := by omega
    have d0 : W2.drew.cell? ⟨w.heap.size, 0, none⟩ = some (.string nm) := q0
    have d1 : W2.drew.cell? ⟨w.heap.size, 1, none⟩ = some (.slice a n c) := q1
    have d2 : W2.drew.cell? ⟨w.heap.size, 2, none⟩ = some (.int .i64 wt) := q2
    go_region
    all_goals go_wp2_with fail
    all_goals go_meet
    all_goals (case rel =>
      first
        | exact ⟨W2.heap.size, W2.heap.size + 1, W2.heap.size + 1 + 1, rfl, Fo.made HZ.out ⟨_, _, _, rfl⟩ (heap3 _ _ _ _).1 (heap3 _ _ _ _).2.1 (heap3 _ _ _ _).2.2 (by omega) (by omega) (by omega) (by omega) (by omega)⟩
        | exact ⟨W2.heap.size, W2.heap.size + 1 + 1, W2.heap.size + 1, rfl, Fo.made HZ.out ⟨_, _, _, rfl⟩ (heap3 _ _ _ _).1 (heap3 _ _ _ _).2.2 (heap3 _ _ _ _).2.1 (by omega) (by omega) (by omega) (by omega) (by omega)⟩
        | exact ⟨W2.heap.size + 1, W2.heap.size, W2.heap.size + 1 + 1, rfl, Fo.made HZ.out ⟨_, _, _, rfl⟩ (heap3 _ _ _ _).2.1 (heap3 _ _ _ _).1 (heap3 _ _ _ _).2.2 (by omega) (by omega) (by omega) (by omega) (by omega)⟩
        | exact ⟨W2.heap.size + 1, W2.heap.size + 1 + 1, W2.heap.size, rfl, Fo.made HZ.out ⟨_, _, _, rfl⟩ (heap3 _ _ _ _).2.1 (heap3 _ _ _ _).2.2 (heap3 _ _ _ _).1 (by omega) (by omega) (by omega) (by omega) (by omega)⟩
        | exact ⟨W2.heap.size + 1 + 1, W2.heap.size, W2.heap.size + 1, rfl, Fo.made HZ.out ⟨_, _, _, rfl⟩ (heap3 _ _ _ _).2.2 (heap3 _ _ _ _).1 (heap3 _ _ _ _).2.1 (by omega) (by omega) (by omega) (by omega) (by omega)⟩
        | exact ⟨W2.heap.size + 1 + 1, W2.heap.size + 1, W2.heap.size, rfl, Fo.made HZ.out ⟨_, _, _, rfl⟩ (heap3 _ _ _ _).2.2 (heap3 _ _ _ _).2.1 (heap3 _ _ _ _).1 (by omega) (by omega) (by omega) (by omega) (by omega)⟩)
  case' rest => skip
  obtain ⟨m, h, z, rfl, FZ⟩ := hcut
  have hk0 : Hid (MapN wc m 0 (mrkK cs 0)) := by
    unfold Hid
    have e : mrkK cs 0 = fun _ => none := by funext x; unfold mrkK; simp
    rw [e]; exact FZ.out.mp
  have HQ1 := Lib.hid q1
  clear q0 q1 q2 hW1 hW2 hm0 hmm HZ
  have q1 : wc.cell? ⟨w.heap.size, 1, none⟩ = some (.slice a n c) := (FZ.out.bel.cell (p := ⟨w.heap.size, 1, none⟩) (by show w.heap.size < _; rw [HS2.out]; omega)).trans HQ1.out
  go_wp2
  clear q1
  go_loopw [4, 5, 16] (fun _ _ iv wr => ∃ k : Nat, iv = .int .i64 k ∧ Hid (k ≤ n ∧ MapN wr m k (mrkK cs k) ∧ wc.grownBy wr (some m))) (fun _ _ iv _ => n - (intOf iv).toNat)
  case atStart => exact ⟨0, rfl, Nat.zero_le _, hk0.out, World.grownBy.refl _ _⟩
  case round =>
    obtain ⟨k, rfl, hS0⟩ := hrel
    obtain ⟨hk, hM, hG⟩ := hS0.out
    by_cases hlt : k < n
    · have hlt' : (k : Int) < (n : Int) := by omega
      have hkl : k < cs.length := by rw [HN.out]; exact hlt
      obtain ⟨cb, co, hca, clt, hcc⟩ := HCS.out.2 (by omega)
      subst hca
      have c0 := hcc k hkl
      have c1 : wr.cell? ⟨cb, co + k, none⟩ = some (.int .i64 (fn cs k)) := by
        have b0 := B1.out.trans (B2.out.mono B1.out.size)
        have b1 := b0.trans (FZ.out.bel.mono b0.size)
        have e1 := (b1.cell (p := ⟨cb, co + k, none⟩) clt).trans c0
        exact hG.cell e1 (fun e => by injection e with e; have := FZ.out.lm; have := HS2.out; have : cb = m := e; omega)
      have hrk := HR.out k hkl
      have hmk := HMK.out k hkl
      have HL := Lib.hid (mrkK_next hkl hmk)
      obtain ⟨x, hx⟩ : ∃ x, fn cs k = x := ⟨_, rfl⟩
      rw [hx] at c1 hrk
      have HX := Lib.hid hx
      have HS3 : Hid (S1e ⟨z, 3, none⟩ (.map (some m)) wr) := hG.cell FZ.out.z3 (fun e => by injection e with e; exact FZ.out.zm e)
      have C1 : Hid (∀ V, Calls Tryd.prog 70 #[.int .i64 k] V fun e w' => e = .returned (.int .u64 ((2 ^ k : Nat) : Int)) ∧ w' = V) := fun V => only_c k V (by omega)
      obtain ⟨pk, hpk⟩ : ∃ v, 2 ^ k = v := ⟨_, rfl⟩
      rw [hpk] at C1
      have HPK := Lib.hid hpk
      have hmlt := hM.lt
      have HUP : Hid (∀ V, Below wr.heap.size wr V → ∃ V', (Instr.mapUpdate 91 (.map (some m)) (.int .i64 x) (.int .u64 (pk : Nat))).run Tryd.prog V = .ok () V' ∧ MapN V' m (k + 1) (mrkK cs (k + 1)) ∧ V.grownBy V' (some m)) := fun V hV => by
        obtain ⟨V', h1, h2, h3⟩ := (hM.below hV hmlt).store Tryd.underlying91 (by unfold maxLen; omega) hrk (.int .u64 (pk : Nat))
        refine ⟨V', h1, h2.congr fun s => ?_, h3⟩
        rw [← HL.out s, HX.out, HPK.out]
      have HG := Lib.hid hG
      clear hS0 hM hG hcc c0 hmk hx hpk hkl
      go_wp2_with fail
      clear c1
      refine wp_region_noPanic ?_
      refine wp_region_held_drew (S := (S1e ⟨z, 3, none⟩ (.map (some m)))) (by kernel_rfl) (by exact HS3.out) (fun hS => ?_)
      obtain ⟨WD, hWD⟩ : ∃ W, wr.drew = W := ⟨_, rfl⟩
      have D0 : Hid (Below wr.heap.size wr WD) := by unfold Hid; rw [← hWD]; exact (Below.refl _ _).drew
      rw [hWD] at hS ⊢
      clear hWD
      refine wpAnyH_take (i := 0) (v := ?v0a0) rfl (by kernel_rfl) (by kernel_rfl) (by kernel_rfl) (fun _ _ _ h => h) (Or.inl ⟨by rfl, ?hy0a0⟩) (by assumption) ?rest0a0
      case hy0a0 =>
        intro w hSw
        dsimp only [S1e] at hSw
        go_simp
        try with_reducible rfl
      simp only [Act.put, List.getElem_toArray, List.getElem_cons_succ, List.getElem_cons_zero, List.setIfInBounds_toArray, List.set_cons_zero, List.set_cons_succ]
      refine wpAnyH_take (i := 1) (v := ?v1a1) rfl (by kernel_rfl) (by kernel_rfl) (by kernel_rfl) (fun _ _ _ h => h) (Or.inl ⟨by rfl, ?hy1a1⟩) (by assumption) ?rest1a1
      case hy1a1 =>
        intro w hSw
        dsimp only [S1e] at hSw
        go_simp
        try with_reducible rfl
      simp only [Act.put, List.getElem_toArray, List.getElem_cons_succ, List.getElem_cons_zero, List.setIfInBounds_toArray, List.set_cons_zero, List.set_cons_succ]
      refine wpAnyH_take (i := 2) (v := ?v2a2) rfl (by kernel_rfl) (by kernel_rfl) (by kernel_rfl) (fun _ _ _ h => h) (Or.inl ⟨by rfl, ?hy2a2⟩) (by assumption) ?rest2a2
      case hy2a2 =>
        intro w hSw
        dsimp only [S1e] at hSw
        go_simp
        try with_reducible rfl
      simp only [Act.put, List.getElem_toArray, List.getElem_cons_succ, List.getElem_cons_zero, List.setIfInBounds_toArray, List.set_cons_zero, List.set_cons_succ]
      refine wpAnyH_take (i := 3) (v := ?v3a3) rfl (by kernel_rfl) (by kernel_rfl) (by kernel_rfl) (fun _ _ _ h => h) (Or.inl ⟨by rfl, ?hy3a3⟩) (by assumption) ?rest3a3
      case hy3a3 =>
        intro w hSw
        dsimp only [S1e] at hSw
        go_simp
        try with_reducible rfl
      simp only [Act.put, List.getElem_toArray, List.getElem_cons_succ, List.getElem_cons_zero, List.setIfInBounds_toArray, List.set_cons_zero, List.set_cons_succ]
      refine wpAnyH_ready (rs := [4]) (by kernel_rfl) (by simp) ?_
      refine AllReadyH.cons rfl (fun K hK => ?_) AllReadyH.nil
      go_simp
      refine (C1.out WD).mono ?_
      rintro e1 w4 ⟨rfl, rfl⟩
      try go_simp
      have hT := hS
      refine hK _ _ hT (fun _ => ?_)
      clear hK K hT
      try simp only [Act.put, List.setIfInBounds_toArray, List.set_cons_zero, List.set_cons_succ]
      refine wpAnyH_ready (rs := [5]) (by kernel_rfl) (by simp) ?_
      refine AllReadyH.cons rfl (fun K hK => ?_) AllReadyH.nil
      obtain ⟨W5, hup, M5, g5⟩ := HUP.out w4 D0.out
      have hT : S1e ⟨z, 3, none⟩ (.map (some m)) W5 := (g5.cell hS (fun e => by injection e with e; exact FZ.out.zm e))
      go_simp
      refine hK _ _ hT (fun _ => ?_)
      clear hK K hT
      try simp only [Act.put, List.setIfInBounds_toArray, List.set_cons_zero, List.set_cons_succ]
      refine wpAnyH_done (by kernel_rfl) ?_ _
      refine NoPanic.normal ?_
      clear hS
      have NX : Hid (k + 1 ≤ n ∧ MapN W5 m (k + 1) (mrkK cs (k + 1)) ∧ wc.grownBy W5 (some m)) :=
        ⟨hlt, M5, HG.out.trans ((World.grownBy.but ⟨D0.out.os, D0.out.tape, D0.out.output, D0.out.size, fun i hi _ => D0.out.block i hi⟩ _).trans g5)⟩
      clear M5 g5 hup
      go_wp2
      go_roundw
      case rel => exact ⟨k + 1, by go_num, NX.out⟩
      case measure => simp [intOf]; omega
    · have hlt' : ¬ (k : Int) < (n : Int) := by omega
      have hkn : k = n := by omega
      subst hkn
      have hz : ∀ o v, wc.cell? ⟨z, o, none⟩ = some v → wr.cell? ⟨z, o, none⟩ = some v := fun o v e => hG.cell e (fun e => by injection e with e; exact FZ.out.zm e)
      have z0 := hz _ _ FZ.out.z0
      have z1 := hz _ _ FZ.out.z1
      have z2 := hz _ _ FZ.out.z2
      have z3 := hz _ _ FZ.out.z3
      have z4 := hz _ _ FZ.out.z4
      have B0 := B1.out.trans (B2.out.mono B1.out.size)
      have BW : Below W2.heap.size W2 wr := FZ.out.bel.grown hG FZ.out.bel.size (fun q e => by injection e with e; have := FZ.out.lm; omega)
      obtain ⟨t0, t1, t2, t3, t4, tf⟩ := RQ.out wr BW
      obtain ⟨W9, hW9⟩ : ∃ W, putL wr W1.heap.size [.string nm, .slice a k c, .int .i64 wt, .map (some m), .slice (some ⟨h, 0, none⟩) k k] 0 = W := ⟨_, rfl⟩
      have CC := putL_cell [.string nm, .slice a k c, .int .i64 wt, .map (some m), .slice (some ⟨h, 0, none⟩) k k] 0 wr (b := W1.heap.size) (fun j hj => by
        rw [Nat.zero_add]
        match j, hj with
        | 0, _ => exact ⟨_, t0⟩
        | 1, _ => exact ⟨_, t1⟩
        | 2, _ => exact ⟨_, t2⟩
        | 3, _ => exact ⟨_, t3⟩
        | 4, _ => exact ⟨_, t4⟩)
      have GG := putL_grown (b := W1.heap.size) [.string nm, .slice a k c, .int .i64 wt, .map (some m), .slice (some ⟨h, 0, none⟩) k k] 0 wr
      rw [hW9] at CC GG
      have r0 := CC 0 (by simp)
      have r1 := CC 1 (by simp)
      have r2 := CC 2 (by simp)
      have r3 := CC 3 (by simp)
      have r4 := CC 4 (by simp)
      simp only [Nat.zero_add, List.getElem?_cons_zero, List.getElem?_cons_succ] at r0 r1 r2 r3 r4
      have hwm : W1.heap.size ≠ m ∧ W1.heap.size ≠ h ∧ w.heap.size ≤ W1.heap.size := by
        have h1 := FZ.out.lm
        have h2 := FZ.out.lh
        have h3 := HS2.out
        have h4 := B1.out.size
        have h5 := B2.out.size
        have h6 : W1.heap.size < W2.heap.size := HLT.out
        omega
      have PP : Hid (FoP nm a c cs wt w (.returned (.agg #[.string nm, .slice a k c, .int .i64 wt, .map (some m), .slice (some ⟨h, 0, none⟩) k k])) W9) := by
        have l1 := FZ.out.lm
        have l2 := FZ.out.lh
        have s0 := B0.size
        have e1 := hG.size
        have e2 := GG.size
        have e3 := FZ.out.sm
        have e4 := FZ.out.sh
        refine ⟨m, h, by rw [HN.out], ?_, fun j hj => ?_, fun j => ?_, by omega, by omega, by omega, by omega, FZ.out.mh, ?_⟩
        · rw [← mrkK_all, HN.out]
          exact hM.kept GG (fun e => by injection e with e; omega)
        · refine GG.cell (hG.cell (FZ.out.hz j (by rw [← HN.out]; exact hj)) (fun e => by injection e with e; have := FZ.out.mh; have : h = m := e; omega)) (fun e => by injection e with e; have : h = W1.heap.size := e; omega)
        · have f1 : wr.frozen? ⟨h, j, none⟩ = false := (World.frozen?_of_block (hG.block h e4 (fun e => by injection e with e; have := FZ.out.mh; omega))).trans (FZ.out.hf j)
          exact (World.frozen?_of_block (GG.block h (by omega) (fun e => by injection e with e; omega))).trans f1
        · exact (B0.trans (BW.mono B0.size)).grown GG (Nat.le_trans B0.size BW.size) (fun q e => by injection e with e; omega)
      simp only [putL, Nat.zero_add, Nat.reduceAdd] at hW9
      clear hS0 hM hG hz CC GG B0 BW hwm hlt hk hk0 RQ
      go_wp2_with fail
      refine bodyPost_ret (v := .agg #[.string nm, .slice a k c, .int .i64 wt, .map (some m), .slice (some ⟨h, 0, none⟩) k k]) (by simp [results, Tryd.results63, go_sem, r0, r1, r2, r3, r4]) rfl ?_
      exact PP.out
end Go.Proofs.YtadfmplafehjlaaDoor
