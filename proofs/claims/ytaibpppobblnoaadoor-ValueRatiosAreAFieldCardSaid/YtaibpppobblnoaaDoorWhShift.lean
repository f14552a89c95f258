/-
  Numbers of any size: shifts.
-/
import Derived.Test.YtaibpppobblnoaaDoorWhSub
import Derived.StillTailTactics
namespace Go.Proofs.YtaibpppobblnoaaDoor
open Go.RowKit

/-- A region whose first operations only read, and whose others follow one another; the world under one name. -/
theorem wp_tail {P : Program} {id : Nat} {Q : Exit → Act → World → Prop} {a : Act} {w : World} {l : List Oper} (n : Nat) (hm : P.follows .mixedOrders = true) (hB : Region.lexTailB .any l.toArray n = true)
    (h : ∀ W, W = w.drew → wpStill P l.toArray W (fun a' => wpList P l.toArray Q (l.drop n) a' W) (l.take n) a) : (Code.region id l.toArray true).wp P Q a w :=
  wp_region_still_tail n hm hB (h _ rfl)
theorem commonLimb_c (a b : Nat) (w : World) (ha : a < 18446744073709551616) (hb : b < 18446744073709551616) (h0 : 0 < a ∨ 0 < b) :
    Calls Tryd.prog 53 #[.int .u64 a, .int .u64 b] w fun e w' => ∃ g : Nat, e = .returned (.int .u64 (g : Int)) ∧ g = Nat.gcd a b ∧ g < 18446744073709551616 ∧ ∃ q, w' = w.drewN q := by
  have HG : Hid (Nat.gcd a b < 18446744073709551616) := by
    unfold Hid
    rcases h0 with h | h
    · have := Nat.gcd_le_left b h; omega
    · have := Nat.gcd_le_right a h; omega
  clear h0
  go_enter Tryd.func53, Tryd.ntmps53
  go_wp2
  go_loopw [0, 1] (fun x y wr => ∃ p q : Nat, x = .int .u64 p ∧ y = .int .u64 q ∧ p < 18446744073709551616 ∧ q < 18446744073709551616 ∧ Hid (Nat.gcd p q = Nat.gcd a b ∧ ∃ q, wr = w.drewN q)) (fun _ y _ => (intOf y).toNat)
  case atStart => exact ⟨a, b, rfl, rfl, ha, hb, rfl, 0, rfl⟩
  case round =>
    obtain ⟨p, q, rfl, rfl, hp, hq, hR⟩ := hrel
    rcases Nat.eq_zero_or_pos q with e | e
    · subst e
      have E : Hid (p = Nat.gcd a b) := by unfold Hid; rw [← hR.out.1, Nat.gcd_zero_right]
      go_wp2
      go_ret
      exact ⟨p, rfl, E.out, hp, hR.out.2⟩
    · have hr := Nat.mod_lt p e
      have hrq : p % q < 18446744073709551616 := by omega
      have NX : Hid (Nat.gcd q (p % q) = Nat.gcd a b) := by unfold Hid; rw [← hR.out.1, Nat.gcd_comm, ← Nat.gcd_rec, Nat.gcd_comm]
      have HL : Hid (p % q < q) := hr
      have ne : ((q : Int) == 0) = false := by rw [beq_eq_false_iff_ne]; omega
      clear hr
      obtain ⟨n0, hn0⟩ := hR.out.2
      have HN := Lib.hid hn0
      clear hn0
      go_wp2_with fail
      go_quiet (fail)
      have NW : Hid (∃ q, wr.drewN nq = w.drewN q) := ⟨n0 + nq, by rw [HN.out, drewN_drewN]⟩
      go_wp2
      go_roundw
      case rel => exact ⟨q, p % q, rfl, rfl, hq, hrq, NX.out, NW.out⟩
      case measure => simp [intOf]; have := HL.out; omega
theorem shl_or {s x u : Nat} (hs : s < 64) (hu : u < 2 ^ s) : u ||| x * 2 ^ s % 18446744073709551616 = u + x * 2 ^ s % 18446744073709551616 := by
  rw [← pow_split hs, Nat.mul_mod_mul_right, Nat.mul_comm, or_add hu]
theorem shd_or {s x u : Nat} (hs : s < 64) (hu : u < 2 ^ (64 - s)) : u ||| x * 2 ^ (64 - s) % 18446744073709551616 = u + x * 2 ^ (64 - s) % 18446744073709551616 := by
  rw [shd_low hs, Nat.mul_comm, or_add hu]
def UpPost (k s : Nat) (f : Nat → Nat) (w : World) (e : Ending) (w' : World) : Prop :=
  ∃ g F, e = .returned (.slice (some ⟨g, 0, none⟩) (k + 1) (k + 1)) ∧ w.heap.size ≤ g ∧ Bf w' g (k + 1) F ∧ S F (k + 1) = S f k * 2 ^ s ∧ F k < 2 ^ s ∧ Below w.heap.size w w'
set_option maxRecDepth 100000 in
set_option maxHeartbeats 2000000 in
theorem shiftUp_c (a : Option Addr) (k c s : Nat) (f : Nat → Nat) (w : World) (h : Rl w a k f) (hs : s < 64) (hk : k < 100000) :
    Calls Tryd.prog 75 #[.slice a k c, .int .i64 s] w (UpPost k s f w) := by
  have hmk := fun w => mk_limbsI ((k : Int) + 1) (k + 1) (by omega) (by omega) w
  have hps : 0 < 2 ^ s := Nat.pow_pos (by decide)
  have HPS := Lib.hid hps
  have H := Lib.hid h
  clear h hps
  go_enter Tryd.func75, Tryd.ntmps75
  go_wp2_with fail
  have B0 := Lib.hid (Bf.made w (k + 1) 59)
  have BL : Hid (Below w.heap.size w (w.alloc (.cells (madeCells #[.int .u64 0] (k + 1)) 59))) := bel_one _ _
  generalize hW1 : w.alloc (.cells (madeCells #[.int .u64 0] (k + 1)) 59) = W1 at *
  clear hW1 hmk
  go_loopw [14] (fun i wr => ∃ (j : Nat) (F : Nat → Nat), j ≤ k ∧ i = .int .i64 j ∧ Hid (Bf wr w.heap.size (k + 1) F ∧ Below w.heap.size w wr ∧ (∀ i, j < i → F i = 0) ∧ F j < 2 ^ s ∧ S F (j + 1) = 2 ^ s * S f j)) (fun i _ => k - (intOf i).toNat)
  case atStart => exact ⟨0, fun _ => 0, Nat.zero_le _, rfl, B0.out, BL.out, fun _ _ => rfl, HPS.out, by rw [S_zero, S_one, Nat.mul_zero]⟩
  case round =>
    obtain ⟨j, F, hj, rfl, hR⟩ := hrel
    by_cases hlt : j < k
    · have hlt' : (j : Int) < (k : Int) := by omega
      obtain ⟨b, off, rfl, hbl, hc1⟩ := (H.out.below hR.out.2.1).at_ hlt
      have hx := H.out.2.1 j hlt
      have hBj := hR.out.1.2.2 j (by omega)
      have hBn := hR.out.1.2.2 (j + 1) (by omega)
      have hz := hR.out.1.2.1 j (by omega)
      have hu := hR.out.2.2.2.1
      have hf2 := hBj.2
      have hf3 := hBn.2
      obtain ⟨r, hr⟩ : ∃ r, f j * 2 ^ s % 18446744073709551616 = r := ⟨_, rfl⟩
      obtain ⟨q, hq⟩ : ∃ q, f j * 2 ^ s / 18446744073709551616 = q := ⟨_, rfl⟩
      have hrb : r < 18446744073709551616 := by rw [← hr]; exact Nat.mod_lt _ (by decide)
      have hqb : q < 2 ^ s := by rw [← hq]; exact shl_high hx
      have e1 := wrap_shl hr
      have e2 : (f j : Int) / 2 ^ (64 - s) = (q : Int) := shr_cast (by rw [← hq, shr_is hs])
      obtain ⟨z, hz2⟩ : ∃ z, F j ||| r = z := ⟨_, rfl⟩
      have hzs : z = F j + r := by rw [← hz2, ← hr]; exact shl_or hs hu
      have hzb : z < 18446744073709551616 := by rw [hzs, ← hr]; exact shl_room hs hu
      have hqb2 : q < 18446744073709551616 := by
        have : 2 ^ s ≤ 2 ^ 64 := Nat.pow_le_pow_right (by decide) (by omega)
        omega
      have e3 := or_cast hz hrb hz2
      have NX : Hid (∀ W, Below wr.heap.size wr W → Bf ((W.setCell ⟨w.heap.size, j, none⟩ (.int .u64 z)).setCell ⟨w.heap.size, j + 1, none⟩ (.int .u64 q)) w.heap.size (k + 1) (put (put F j z) (j + 1) q) ∧ Below w.heap.size w ((W.setCell ⟨w.heap.size, j, none⟩ (.int .u64 z)).setCell ⟨w.heap.size, j + 1, none⟩ (.int .u64 q)) ∧ (∀ i, j + 1 < i → put (put F j z) (j + 1) q i = 0) ∧ put (put F j z) (j + 1) q (j + 1) < 2 ^ s ∧ S (put (put F j z) (j + 1) q) (j + 1 + 1) = 2 ^ s * S f (j + 1)) := by
        intro W hW
        refine ⟨((hR.out.1.below hW).put (by omega) hzb).put (by omega) hqb2, ((hR.out.2.1.trans (hW.mono hR.out.2.1.size)).setCell (p := ⟨w.heap.size, j, none⟩) (Nat.le_refl _) _).setCell (p := ⟨w.heap.size, j + 1, none⟩) (Nat.le_refl _) _, fun i hi => ?_, by rw [put_same]; exact hqb, ?_⟩
        · rw [put_ne (by omega), put_ne (by omega)]; exact hR.out.2.2.1 i (by omega)
        · rw [S_put, S_put, S_succ f, bp_succ, hzs, ← hr, ← hq]
          have h := hR.out.2.2.2.2
          rw [S_succ] at h
          exact shl_step h
      have hc2 : wr.drew.cell? ⟨w.heap.size, j, none⟩ = some (.int .u64 (F j)) := hBj.1
      have hf2' : wr.drew.frozen? ⟨w.heap.size, j, none⟩ = false := hf2
      have hf3' : wr.drew.frozen? ⟨w.heap.size, j + 1, none⟩ = false := hf3
      have hc3 : wr.drew.cell? ⟨w.heap.size, j + 1, none⟩ = some (.int .u64 (F (j + 1))) := hBn.1
      have NXD := Lib.hid (NX.out wr.drew (Below.refl _ _).drew)
      clear hBj hBn hr hq hz2 hzs NX hf2 hf3 hu
      generalize f j = x at *
      generalize F j = u at *
      generalize F (j + 1) = u2 at *
      have hj1 : j < k + 1 := by omega
      have hj1' : (j : Int) < (k : Int) + 1 := by omega
      have hj1'' : (j : Int) < ((k + 1 : Nat) : Int) := by omega
      go_wp2_with fail
      refine wp_tail 9 (by kernel_rfl) (by kernel_rfl) ?_
      intro W hW
      rw [← hW] at hc2 hf2' hf3' hc3 NXD
      clear hW
      simp only [List.take_succ_cons, List.take_zero, List.drop_succ_cons, List.drop_zero]
      repeat still_step
      refine wpStill_nil ?_
      go_wp2
      go_roundw
      case rel => exact ⟨j + 1, _, by omega, by go_num, NXD.out⟩
      case measure => simp [intOf]; omega
    · obtain rfl : j = k := by omega
      clear hlt
      go_wp2
      go_ret
      exact ⟨w.heap.size, F, rfl, Nat.le_refl _, hR.out.1, by rw [Nat.mul_comm]; exact hR.out.2.2.2.2, hR.out.2.2.2.1, hR.out.2.1⟩
end Go.Proofs.YtaibpppobblnoaaDoor
