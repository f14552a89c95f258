/-
  Numbers of any size: shifts.
  Numbers of any size: the shift down, and the guess of a limb.
  Numbers of any size: the arithmetic of the long division's rounds.
  Numbers of any size: the long division.
-/
import Derived.Test.YtfijhkaalpinhaaGreatDoorRa04
import Derived.StillTailTactics
namespace Go.Proofs.YtfijhkaalpinhaaGreatDoor
open Go.RowKit

/-- A region whose first operations only read, and whose others follow one another; the world under one name. -/
theorem wp_tail {P : Program} {id : Nat} {Q : Exit → Act → World → Prop} {a : Act} {w : World} {l : List Oper} (n : Nat) (hm : P.follows .mixedOrders = true) (hB : Region.lexTailB .any l.toArray n = true)
    (h : ∀ W, W = w.drew → wpStill P l.toArray W (fun a' => wpList P l.toArray Q (l.drop n) a' W) (l.take n) a) : (Code.region id l.toArray true).wp P Q a w :=
  wp_region_still_tail n hm hB (h _ rfl)
theorem commonLimb_c (a b : Nat) (w : World) (ha : a < 18446744073709551616) (hb : b < 18446744073709551616) (h0 : 0 < a ∨ 0 < b) :
    Calls Tryz.prog 115 #[.int .u64 a, .int .u64 b] w fun e w' => ∃ g : Nat, e = .returned (.int .u64 (g : Int)) ∧ g = Nat.gcd a b ∧ g < 18446744073709551616 ∧ ∃ q, w' = w.drewN q := by
  have HG : Hid (Nat.gcd a b < 18446744073709551616) := by
    unfold Hid
    rcases h0 with h | h
    · have := Nat.gcd_le_left b h; omega
    · have := Nat.gcd_le_right a h; omega
  clear h0
  go_enter Tryz.func115, Tryz.ntmps115
  go_wp2
  go_loopw [0, 1] (fun x y wr => ∃ p q : Nat, x = .int .u64 p ∧ y = .int .u64 q ∧ p < 18446744073709551616 ∧ q < 18446744073709551616 ∧ Hid (Nat.gcd p q = Nat.gcd a b ∧ ∃ q, wr = w.drewN q)) (fun _ y _ => (intOf y).toNat)
  case atStart => exact ⟨a, b, rfl, rfl, ha, hb, rfl, 0, rfl⟩
  case round =>
    obtain ⟨p, q, rfl, rfl, hp, hq, hR⟩ := hrel
    rcases Nat.eq_zero_or_pos q with e | e
    · subst e
      have E : Hid (p = Nat.gcd a b) := by unfold Hid; rw [← hR.out.1, Nat.gcd_zero_right]
      go_wp2
      go_ret
      exact ⟨p, rfl, E.out, hp, hR.out.2⟩
    · have hr := Nat.mod_lt p e
      have hrq : p % q < 18446744073709551616 := by omega
      have NX : Hid (Nat.gcd q (p % q) = Nat.gcd a b) := by unfold Hid; rw [← hR.out.1, Nat.gcd_comm, ← Nat.gcd_rec, Nat.gcd_comm]
      have HL : Hid (p % q < q) := hr
      have ne : ((q : Int) == 0) = false := by rw [beq_eq_false_iff_ne]; omega
      clear hr
      obtain ⟨n0, hn0⟩ := hR.out.2
      have HN := Lib.hid hn0
      clear hn0
      go_wp2_with fail
      go_quiet (fail)
      have NW : Hid (∃ q, wr.drewN nq = w.drewN q) := ⟨n0 + nq, by rw [HN.out, drewN_drewN]⟩
      go_wp2
      go_roundw
      case rel => exact ⟨q, p % q, rfl, rfl, hq, hrq, NX.out, NW.out⟩
      case measure => simp [intOf]; have := HL.out; omega
theorem shl_or {s x u : Nat} (hs : s < 64) (hu : u < 2 ^ s) : u ||| x * 2 ^ s % 18446744073709551616 = u + x * 2 ^ s % 18446744073709551616 := by
  rw [← pow_split hs, Nat.mul_mod_mul_right, Nat.mul_comm, or_add hu]
theorem shd_or {s x u : Nat} (hs : s < 64) (hu : u < 2 ^ (64 - s)) : u ||| x * 2 ^ (64 - s) % 18446744073709551616 = u + x * 2 ^ (64 - s) % 18446744073709551616 := by
  rw [shd_low hs, Nat.mul_comm, or_add hu]
def UpPost (k s : Nat) (f : Nat → Nat) (w : World) (e : Ending) (w' : World) : Prop :=
  ∃ g F, e = .returned (.slice (some ⟨g, 0, none⟩) (k + 1) (k + 1)) ∧ w.heap.size ≤ g ∧ Bf w' g (k + 1) F ∧ S F (k + 1) = S f k * 2 ^ s ∧ F k < 2 ^ s ∧ Below w.heap.size w w'
set_option maxRecDepth 100000 in
set_option maxHeartbeats 2000000 in
theorem shiftUp_c (a : Option Addr) (k c s : Nat) (f : Nat → Nat) (w : World) (h : Rl w a k f) (hs : s < 64) (hk : k < 100000) :
    Calls Tryz.prog 152 #[.slice a k c, .int .i64 s] w (UpPost k s f w) := by
  have hmk := fun w => mk_limbsI ((k : Int) + 1) (k + 1) (by omega) (by omega) w
  have hps : 0 < 2 ^ s := Nat.pow_pos (by decide)
  have HPS := Lib.hid hps
  have H := Lib.hid h
  clear h hps
  go_enter Tryz.func152, Tryz.ntmps152
  go_wp2_with fail
  have B0 := Lib.hid (Bf.made w (k + 1) 80)
  have BL : Hid (Below w.heap.size w (w.alloc (.cells (madeCells #[.int .u64 0] (k + 1)) 80))) := bel_one _ _
  generalize hW1 : w.alloc (.cells (madeCells #[.int .u64 0] (k + 1)) 80) = W1 at *
  clear hW1 hmk
  go_loopw [14] (fun i wr => ∃ (j : Nat) (F : Nat → Nat), j ≤ k ∧ i = .int .i64 j ∧ Hid (Bf wr w.heap.size (k + 1) F ∧ Below w.heap.size w wr ∧ (∀ i, j < i → F i = 0) ∧ F j < 2 ^ s ∧ S F (j + 1) = 2 ^ s * S f j)) (fun i _ => k - (intOf i).toNat)
  case atStart => exact ⟨0, fun _ => 0, Nat.zero_le _, rfl, B0.out, BL.out, fun _ _ => rfl, HPS.out, by rw [S_zero, S_one, Nat.mul_zero]⟩
  case round =>
    obtain ⟨j, F, hj, rfl, hR⟩ := hrel
    by_cases hlt : j < k
    · have hlt' : (j : Int) < (k : Int) := by omega
      obtain ⟨b, off, rfl, hbl, hc1⟩ := (H.out.below hR.out.2.1).at_ hlt
      have hx := H.out.2.1 j hlt
      have hBj := hR.out.1.2.2 j (by omega)
      have hBn := hR.out.1.2.2 (j + 1) (by omega)
      have hz := hR.out.1.2.1 j (by omega)
      have hu := hR.out.2.2.2.1
      have hf2 := hBj.2
      have hf3 := hBn.2
      obtain ⟨r, hr⟩ : ∃ r, f j * 2 ^ s % 18446744073709551616 = r := ⟨_, rfl⟩
      obtain ⟨q, hq⟩ : ∃ q, f j * 2 ^ s / 18446744073709551616 = q := ⟨_, rfl⟩
      have hrb : r < 18446744073709551616 := by rw [← hr]; exact Nat.mod_lt _ (by decide)
      have hqb : q < 2 ^ s := by rw [← hq]; exact shl_high hx
      have e1 := wrap_shl hr
      have e2 : (f j : Int) / 2 ^ (64 - s) = (q : Int) := shr_cast (by rw [← hq, shr_is hs])
      obtain ⟨z, hz2⟩ : ∃ z, F j ||| r = z := ⟨_, rfl⟩
      have hzs : z = F j + r := by rw [← hz2, ← hr]; exact shl_or hs hu
      have hzb : z < 18446744073709551616 := by rw [hzs, ← hr]; exact shl_room hs hu
      have hqb2 : q < 18446744073709551616 := by
        have : 2 ^ s ≤ 2 ^ 64 := Nat.pow_le_pow_right (by decide) (by omega)
        omega
      have e3 := or_cast hz hrb hz2
      have NX : Hid (∀ W, Below wr.heap.size wr W → Bf ((W.setCell ⟨w.heap.size, j, none⟩ (.int .u64 z)).setCell ⟨w.heap.size, j + 1, none⟩ (.int .u64 q)) w.heap.size (k + 1) (put (put F j z) (j + 1) q) ∧ Below w.heap.size w ((W.setCell ⟨w.heap.size, j, none⟩ (.int .u64 z)).setCell ⟨w.heap.size, j + 1, none⟩ (.int .u64 q)) ∧ (∀ i, j + 1 < i → put (put F j z) (j + 1) q i = 0) ∧ put (put F j z) (j + 1) q (j + 1) < 2 ^ s ∧ S (put (put F j z) (j + 1) q) (j + 1 + 1) = 2 ^ s * S f (j + 1)) := by
        intro W hW
        refine ⟨((hR.out.1.below hW).put (by omega) hzb).put (by omega) hqb2, ((hR.out.2.1.trans (hW.mono hR.out.2.1.size)).setCell (p := ⟨w.heap.size, j, none⟩) (Nat.le_refl _) _).setCell (p := ⟨w.heap.size, j + 1, none⟩) (Nat.le_refl _) _, fun i hi => ?_, by rw [put_same]; exact hqb, ?_⟩
        · rw [put_ne (by omega), put_ne (by omega)]; exact hR.out.2.2.1 i (by omega)
        · rw [S_put, S_put, S_succ f, bp_succ, hzs, ← hr, ← hq]
          have h := hR.out.2.2.2.2
          rw [S_succ] at h
          exact shl_step h
      have hc2 : wr.drew.cell? ⟨w.heap.size, j, none⟩ = some (.int .u64 (F j)) := hBj.1
      have hf2' : wr.drew.frozen? ⟨w.heap.size, j, none⟩ = false := hf2
      have hf3' : wr.drew.frozen? ⟨w.heap.size, j + 1, none⟩ = false := hf3
      have hc3 : wr.drew.cell? ⟨w.heap.size, j + 1, none⟩ = some (.int .u64 (F (j + 1))) := hBn.1
      have NXD := Lib.hid (NX.out wr.drew (Below.refl _ _).drew)
      clear hBj hBn hr hq hz2 hzs NX hf2 hf3 hu
      generalize f j = x at *
      generalize F j = u at *
      generalize F (j + 1) = u2 at *
      have hj1 : j < k + 1 := by omega
      have hj1' : (j : Int) < (k : Int) + 1 := by omega
      have hj1'' : (j : Int) < ((k + 1 : Nat) : Int) := by omega
      go_wp2_with fail
      refine wp_tail 9 (by kernel_rfl) (by kernel_rfl) ?_
      intro W hW
      rw [← hW] at hc2 hf2' hf3' hc3 NXD
      clear hW
      simp only [List.take_succ_cons, List.take_zero, List.drop_succ_cons, List.drop_zero]
      repeat still_step
      refine wpStill_nil ?_
      go_wp2
      go_roundw
      case rel => exact ⟨j + 1, _, by omega, by go_num, NXD.out⟩
      case measure => simp [intOf]; omega
    · obtain rfl : j = k := by omega
      clear hlt
      go_wp2
      go_ret
      exact ⟨w.heap.size, F, rfl, Nat.le_refl _, hR.out.1, by rw [Nat.mul_comm]; exact hR.out.2.2.2.2, hR.out.2.2.2.1, hR.out.2.1⟩
end Go.Proofs.YtfijhkaalpinhaaGreatDoor
namespace Go.Proofs.YtfijhkaalpinhaaGreatDoor
open Go.RowKit

theorem put_comm {f : Nat → Nat} {i j x y : Nat} (h : i ≠ j) : put (put f i x) j y = put (put f j y) i x := by
  funext m
  unfold put
  by_cases h1 : m = j
  · rw [if_pos h1, if_neg (by omega), if_pos h1]
  · rw [if_neg h1, if_neg h1]
/-- How far the shift has come. -/
def DownS (s : Nat) (f F : Nat → Nat) (j : Nat) : Prop := (∀ p, j = p + 1 → F p < 2 ^ (64 - s)) ∧ 2 ^ s * S F j + (if j = 0 then 0 else f 0 % 2 ^ s) = S f j
theorem DownS.first {s : Nat} {f F : Nat → Nat} (hs : s < 64) (hx : f 0 < 18446744073709551616) : DownS s f (put F 0 (f 0 / 2 ^ s)) 1 := by
  refine ⟨fun p hp => ?_, ?_⟩
  · obtain rfl : p = 0 := by omega
    rw [put_same]; exact shd_high hs hx
  · rw [S_one, S_one, put_same, if_neg (by omega)]
    exact Nat.div_add_mod _ _
theorem DownS.next {s p : Nat} {f F : Nat → Nat} (hs : s < 64) (hx : f (p + 1) < 18446744073709551616) (h : DownS s f F (p + 1)) :
    DownS s f (put (put F (p + 1) (f (p + 1) / 2 ^ s)) p (F p + f (p + 1) % 2 ^ s * 2 ^ (64 - s))) (p + 1 + 1) := by
  refine ⟨fun q hq => ?_, ?_⟩
  · obtain rfl : q = p + 1 := by omega
    rw [put_ne (by omega), put_same]; exact shd_high hs hx
  · have h2 := h.2
    rw [if_neg (by omega)] at h2 ⊢
    rw [put_comm (by omega), S_put, S_put, S_succ f, bp_succ]
    have t := shd_step (f := f (p + 1)) (P := bp p) hs h2
    rw [S_succ F] at t
    rw [show S F p + (F p + f (p + 1) % 2 ^ s * 2 ^ (64 - s)) * bp p + f (p + 1) / 2 ^ s * (bp p * 18446744073709551616) = S F p + F p * bp p + f (p + 1) % 2 ^ s * 2 ^ (64 - s) * bp p + f (p + 1) / 2 ^ s * (bp p * 18446744073709551616) by rw [Nat.add_mul]; omega]
    exact t
set_option maxRecDepth 100000 in
set_option maxHeartbeats 2000000 in
theorem shiftDown_c (a : Option Addr) (k c s : Nat) (f : Nat → Nat) (w : World) (h : Rl w a k f) (hs : s < 64) :
    Calls Tryz.prog 154 #[.slice a k c, .int .i64 s] w (NmPost (S f k / 2 ^ s) w) := by
  have hk := h.1
  have hmk := fun w => mk_limbs k hk w
  have H := Lib.hid h
  clear h
  go_enter Tryz.func154, Tryz.ntmps154
  go_wp2_with fail
  have B0 := Lib.hid (Bf.made w k 80)
  have BL : Hid (Below w.heap.size w (w.alloc (.cells (madeCells #[.int .u64 0] k) 80))) := bel_one _ _
  generalize hW1 : w.alloc (.cells (madeCells #[.int .u64 0] k) 80) = W1 at *
  clear hW1 hmk
  go_loopw [13] (fun i wr => ∃ (j : Nat) (F : Nat → Nat), j ≤ k ∧ i = .int .i64 j ∧ Hid (Bf wr w.heap.size k F ∧ Below w.heap.size w wr ∧ DownS s f F j)) (fun i _ => k - (intOf i).toNat)
  case atStart => exact ⟨0, fun _ => 0, Nat.zero_le _, rfl, B0.out, BL.out, fun p hp => by omega, by rw [S_zero, S_zero, if_pos rfl, Nat.mul_zero]⟩
  case round =>
    obtain ⟨j, F, hj, rfl, hR⟩ := hrel
    by_cases hlt : j < k
    · have hlt' : (j : Int) < (k : Int) := by omega
      obtain ⟨b, off, rfl, hbl, hc1⟩ := (H.out.below hR.out.2.1).at_ hlt
      have hx := H.out.2.1 j hlt
      have hBj := hR.out.1.2.2 j hlt
      have hc2 := hBj.1
      have hf2 := hBj.2
      obtain ⟨q, hq⟩ : ∃ q, f j / 2 ^ s = q := ⟨_, rfl⟩
      have e2 : (f j : Int) / 2 ^ s = (q : Int) := shr_cast hq
      have hqb2 : q < 18446744073709551616 := by rw [← hq]; have := Nat.div_le_self (f j) (2 ^ s); omega
      rcases Nat.eq_zero_or_pos j with e | e
      · subst e
        have NX : Hid (Bf (wr.setCell ⟨w.heap.size, 0, none⟩ (.int .u64 q)) w.heap.size k (put F 0 q) ∧ Below w.heap.size w (wr.setCell ⟨w.heap.size, 0, none⟩ (.int .u64 q)) ∧ DownS s f (put F 0 q) 1) := by
          refine ⟨hR.out.1.put hlt hqb2, hR.out.2.1.setCell (p := ⟨w.heap.size, 0, none⟩) (Nat.le_refl _) _, ?_⟩
          rw [← hq]; exact DownS.first hs hx
        clear hBj hq
        rw [Nat.add_zero] at hc1
        generalize f 0 = x at *
        generalize F 0 = u at *
        go_wp2
        go_roundw
        case rel => exact ⟨1, _, by omega, by go_num, NX.out⟩
        case measure => simp [intOf]; omega
      · obtain ⟨p, rfl⟩ : ∃ p, j = p + 1 := ⟨j - 1, by omega⟩
        have hBp := hR.out.1.2.2 p (by omega)
        have hu := hR.out.2.2.1 p rfl
        have hub := hR.out.1.2.1 p (by omega)
        obtain ⟨r, hr⟩ : ∃ r, f (p + 1) * 2 ^ (64 - s) % 18446744073709551616 = r := ⟨_, rfl⟩
        have hrb : r < 18446744073709551616 := by rw [← hr]; exact Nat.mod_lt _ (by decide)
        have e1 := wrap_shl hr
        obtain ⟨z, hz2⟩ : ∃ z, F p ||| r = z := ⟨_, rfl⟩
        have hzs : z = F p + f (p + 1) % 2 ^ s * 2 ^ (64 - s) := by rw [← hz2, ← hr, ← shd_low hs]; exact shd_or hs hu
        have hzb : z < 18446744073709551616 := by rw [hzs]; exact shd_room hs hu
        have e3 := or_cast hub hrb hz2
        have NX : Hid (∀ W, Below (wr.setCell ⟨w.heap.size, p + 1, none⟩ (.int .u64 q)).heap.size (wr.setCell ⟨w.heap.size, p + 1, none⟩ (.int .u64 q)) W → Bf (W.setCell ⟨w.heap.size, p, none⟩ (.int .u64 z)) w.heap.size k (put (put F (p + 1) q) p z) ∧ Below w.heap.size w (W.setCell ⟨w.heap.size, p, none⟩ (.int .u64 z)) ∧ DownS s f (put (put F (p + 1) q) p z) (p + 1 + 1)) := by
          intro W hW
          have hb1 : Below w.heap.size w (wr.setCell ⟨w.heap.size, p + 1, none⟩ (.int .u64 q)) := hR.out.2.1.setCell (p := ⟨w.heap.size, p + 1, none⟩) (Nat.le_refl _) _
          refine ⟨((hR.out.1.put hlt hqb2).below hW).put (by omega) hzb, (hb1.trans (hW.mono hb1.size)).setCell (p := ⟨w.heap.size, p, none⟩) (Nat.le_refl _) _, ?_⟩
          rw [← hq, hzs]; exact DownS.next hs hx hR.out.2.2
        have hc5 : (wr.setCell ⟨w.heap.size, p + 1, none⟩ (.int .u64 q)).drew.cell? ⟨w.heap.size, p, none⟩ = some (.int .u64 (F p)) := by
          show (wr.setCell ⟨w.heap.size, p + 1, none⟩ (.int .u64 q)).cell? ⟨w.heap.size, p, none⟩ = _
          rw [World.cell?_setCell_other _ _ _ _ (by intro e; injection e with _ e2; omega)]; exact hBp.1
        have hf5 : (wr.setCell ⟨w.heap.size, p + 1, none⟩ (.int .u64 q)).drew.frozen? ⟨w.heap.size, p, none⟩ = false := by
          show (wr.setCell ⟨w.heap.size, p + 1, none⟩ (.int .u64 q)).frozen? ⟨w.heap.size, p, none⟩ = _
          rw [World.frozen?_setCell]; exact hBp.2
        have NXD := Lib.hid (NX.out (wr.setCell ⟨w.heap.size, p + 1, none⟩ (.int .u64 q)).drew (Below.refl _ _).drew)
        clear hBj hBp hq hr hz2 hzs NX hu
        generalize f (p + 1) = x at *
        generalize F p = u at *
        generalize F (p + 1) = u2 at *
        have hwp : IntKind.i64.wrap (p : Int) = p := by rw [IntKind.wrap_i64]; omega
        have hw64 : IntKind.i64.wrap (64 - (s : Int)) = 64 - (s : Int) := by rw [IntKind.wrap_i64]; omega
        have hp1 : p < k := by omega
        have hp1' : (p : Int) < (k : Int) := by omega
        have hlt2 : (p : Int) + 1 < (k : Int) := by omega
        go_wp2_with fail
        generalize hW0 : wr.setCell ⟨w.heap.size, p + 1, none⟩ (.int .u64 q) = W0 at *
        refine wp_tail 11 (by kernel_rfl) (by kernel_rfl) ?_
        intro W hW
        rw [← hW] at hc5 hf5 NXD
        clear hW hW0
        simp only [List.take_succ_cons, List.take_zero, List.drop_succ_cons, List.drop_zero]
        repeat still_step
        refine wpStill_nil ?_
        go_wp2
        go_roundw
        case rel => exact ⟨p + 1 + 1, _, by omega, by go_num, NXD.out⟩
        case measure => simp [intOf]; omega
    · obtain rfl : j = k := by omega
      clear hlt
      have E : Hid (S F j = S f j / 2 ^ s) := by
        unfold Hid
        have h := hR.out.2.2.2
        have hp : 0 < 2 ^ s := Nat.pow_pos (by decide)
        have hm : (if j = 0 then 0 else f 0 % 2 ^ s) < 2 ^ s := by
          split
          · exact hp
          · exact Nat.mod_lt _ hp
        rw [← h, Nat.mul_add_div hp, Nat.div_eq_of_lt hm, Nat.add_zero]
      have BB := Lib.hid hR.out.1
      have BL2 := Lib.hid hR.out.2.1
      clear hR
      go_wp2_with fail
      refine (trim_c (some ⟨w.heap.size, 0, none⟩) j j F wr (BB.out.rl0 (Nat.le_refl _) hk) (Nat.le_refl _) (by omega) (Pl.some_ _ _)).mono ?_
      rintro e w5 ⟨a', k', c', rfl, hN, b5⟩
      rw [E.out] at hN
      have R := Lib.hid (show NmPost (S f j / 2 ^ s) w (.returned (.slice a' k' c')) w5 from ⟨a', k', c', rfl, hN, BL2.out.trans (b5.mono BL2.out.size)⟩)
      clear hN b5
      go_wp2
      go_ret
      exact R.out
/-- A guess of a limb: not too small. -/
def GuessPost (high low top : Nat) (w : World) (e : Ending) (w' : World) : Prop :=
  ∃ q : Nat, e = .returned (.int .u64 (q : Int)) ∧ q < 18446744073709551616 ∧ ((top ≤ high ∧ q + 1 = 18446744073709551616) ∨ high * 18446744073709551616 + low < (q + 1) * top) ∧ ∃ n, w' = w.drewN n
set_option maxRecDepth 100000 in
set_option maxHeartbeats 2000000 in
theorem guessLimb_c (a b : Option Addr) (m c1 c2 : Nat) (f g : Nat → Nat) (w : World) (h1 : Rl w a (m + 1 + 1) f) (h2 : Rl w b (m + 1) g) (ht : 0 < g m) :
    Calls Tryz.prog 165 #[.slice a (m + 1 + 1) c1, .slice b (m + 1) c2] w (GuessPost (f (m + 1)) (f m) (g m) w) := by
  obtain ⟨b1, o1, rfl, hbl1, hh⟩ := h1.at_ (show m + 1 < m + 1 + 1 by omega)
  obtain ⟨b1', o1', e, _, hl⟩ := h1.at_ (show m < m + 1 + 1 by omega)
  injection e with e
  injection e with e1 e2
  subst e1 e2
  obtain ⟨b2, o2, rfl, hbl2, htc⟩ := h2.at_ (show m < m + 1 by omega)
  have hhb := h1.2.1 (m + 1) (by omega)
  have hlb := h1.2.1 m (by omega)
  have htb := h2.2.1 m (by omega)
  have hm100 : m < 100000 := by have := h1.1; omega
  have hwm : IntKind.i64.wrap (m : Int) = m := by rw [IntKind.wrap_i64]; omega
  clear h1 h2
  generalize f (m + 1) = high at *
  generalize f m = low at *
  generalize g m = top at *
  have x1 : m < m + 1 + 1 := by omega
  have x2 : m + 1 < m + 1 + 1 := by omega
  have x3 : m < m + 1 := by omega
  have y1 : (m : Int) < (m : Int) + 1 + 1 := by omega
  have y2 : (m : Int) + 1 < (m : Int) + 1 + 1 := by omega
  have y3 : (m : Int) < (m : Int) + 1 := by omega
  by_cases hge : top ≤ high
  · have hge' : (top : Int) ≤ (high : Int) := by omega
    go_enter Tryz.func165, Tryz.ntmps165
    go_wp2_with fail
    go_quiet (fail)
    go_wp2
    go_ret
    exact ⟨18446744073709551615, rfl, by decide, .inl ⟨hge, rfl⟩, _, rfl⟩
  · have hge' : ¬ (top : Int) ≤ (high : Int) := by omega
    have HD := Lib.hid (fun w => div64_c high low top w hlb (by omega) htb)
    go_enter Tryz.func165, Tryz.ntmps165
    go_wp2_with fail
    go_quiet (fail)
    go_wp2_with fail
    refine (HD.out _).mono ?_
    rintro e w2 ⟨q, r, rfl, hq, hr, n2, rfl⟩
    have R : Hid (q < 18446744073709551616 ∧ high * 18446744073709551616 + low < (q + 1) * top) := by
      have hd := Nat.lt_mul_div_succ (high * 18446744073709551616 + low) ht
      refine ⟨?_, by rw [hq, Nat.mul_comm _ top]; exact hd⟩
      rw [hq]
      refine Nat.div_lt_of_lt_mul ?_
      have : (high + 1) * 18446744073709551616 ≤ top * 18446744073709551616 := Nat.mul_le_mul_right _ (by omega)
      omega
    clear hq hr
    go_wp2
    go_ret
    exact ⟨q, rfl, R.out.1, .inr R.out.2, ⟨_, rfl⟩⟩
end Go.Proofs.YtfijhkaalpinhaaGreatDoor
namespace Go.Proofs.YtfijhkaalpinhaaGreatDoor

theorem long_zero {F : Nat → Nat} {p k K d : Nat} (hK : p + (k + 1) ≤ K) (hd : d < bp k) (h2 : S (from_ F (p + 1)) (K - (p + 1)) < d) :
    S (from_ F (p + (k + 1))) (K - (p + (k + 1))) = 0 ∧ S (from_ F (p + 1)) k < d := by
  obtain ⟨r, hr⟩ : ∃ r, K - (p + 1) = k + r := ⟨K - (p + 1) - k, by omega⟩
  rw [hr] at h2
  have h := S_high (f := from_ F (p + 1)) (n := k) (m := r) (by omega)
  rw [from_from] at h
  refine ⟨?_, by rw [← h.2]; exact h2⟩
  rw [show p + (k + 1) = p + 1 + k by omega, show K - (p + 1 + k) = r by omega]
  exact h.1
theorem long_win {F : Nat → Nat} {p k K d : Nat} (hK : p + (k + 1) ≤ K) (hd : d < bp k) (hF : F p < 18446744073709551616) (h2 : S (from_ F (p + 1)) (K - (p + 1)) < d) :
    S (from_ F p) (k + 1) < 18446744073709551616 * d := by
  rw [S_cons]
  exact win_lt hF (long_zero hK hd h2).2
theorem long_next {F F2 G : Nat → Nat} {p k K L d A q : Nat} (hK : p + (k + 1) ≤ K) (hL : p < L) (hd : d < bp k)
    (h1 : S F K + d * (bp (p + 1) * S (from_ G (p + 1)) (L - (p + 1))) = A) (h2 : S (from_ F (p + 1)) (K - (p + 1)) < d)
    (hout : ∀ j, j < p ∨ p + (k + 1) ≤ j → F2 j = F j) (hq : S (from_ F2 p) (k + 1) + q * d = S (from_ F p) (k + 1)) (hlt : S (from_ F2 p) (k + 1) < d) :
    S F2 K + d * (bp p * S (from_ (put G p q) p) (L - p)) = A ∧ S (from_ F2 p) (K - p) < d := by
  constructor
  · have hw := S_window (f := F) (g := F2) hK (fun j _ hj => hout j hj)
    rw [bp_succ] at h1
    have e1 : S (from_ (put G p q) p) (L - p) = q + 18446744073709551616 * S (from_ G (p + 1)) (L - (p + 1)) := by
      rw [show L - p = (L - (p + 1)) + 1 by omega, S_cons, put_same]
      congr 2
      exact S_congr (fun j _ => put_ne (by omega))
    rw [e1]
    exact long_step h1 hw hq
  · obtain ⟨r, hr⟩ : ∃ r, K - p = (k + 1) + r := ⟨K - p - (k + 1), by omega⟩
    have hz := (long_zero hK hd h2).1
    rw [show K - (p + (k + 1)) = r by omega] at hz
    rw [hr, S_at, from_from]
    have e : S (from_ F2 (p + (k + 1))) r = S (from_ F (p + (k + 1))) r := S_congr (fun j _ => hout _ (.inr (by omega)))
    rw [e, hz, Nat.mul_zero]
    exact hlt
theorem long_start {F : Nat → Nat} {k1 m s d L : Nat} (hF : Lb F (k1 + 1)) (hL : L + m = k1) (ht : F k1 < 2 ^ s) (hs : s < 64) (hd : 9223372036854775808 * bp m ≤ d) : S (from_ F L) (k1 + 1 - L) < d := by
  rw [show k1 + 1 - L = m + 1 by omega, S_succ]
  have e : from_ F L m = F k1 := by unfold from_; rw [hL]
  rw [e]
  have hl : S (from_ F L) m < bp m := S_lt (fun j hj => hF _ (by omega))
  have hp : 2 ^ s ≤ 2 ^ 63 := Nat.pow_le_pow_right (by decide) (by omega)
  have : (F k1 + 1) * bp m ≤ 9223372036854775808 * bp m := Nat.mul_le_mul_right _ (by omega)
  rw [Nat.add_mul, Nat.one_mul] at this
  omega
theorem long_guess {F fd : Nat → Nat} {p m q d : Nat} (hF : Lb (from_ F p) m) (hfd : S fd (m + 1) = d) (hW : S (from_ F p) (m + 1 + 1) < 18446744073709551616 * d)
    (hg : (fd m ≤ from_ F p (m + 1) ∧ q + 1 = 18446744073709551616) ∨ from_ F p (m + 1) * 18446744073709551616 + from_ F p m < (q + 1) * fd m) : S (from_ F p) (m + 1 + 1) < (q + 1) * d := by
  refine guess_ok (high := from_ F p (m + 1)) (low := from_ F p m) (rest := S (from_ F p) m) (top := fd m) (d' := S fd m) (P := bp m) ?_ (S_lt hF) ?_ hW hg
  · rw [S_succ, S_succ, bp_succ]; grind
  · rw [← hfd, S_succ]; omega
/-- The guess is lowered once. -/
theorem lower {X X' W d B q y : Nat} (h : X + (q + 1) * d = W + B) (h2 : X' + y * B = X + d) (hX : X < B) (hX' : X' < B) (hy : y ≤ 1) :
    X' + q * d = W + (1 - y) * B ∧ W < (q + 1) * d := by
  rw [Nat.add_mul, Nat.one_mul] at h ⊢
  rcases Nat.eq_zero_or_pos y with e | e
  · subst e
    simp only [Nat.zero_mul, Nat.sub_zero, Nat.one_mul] at h2 ⊢
    omega
  · obtain rfl : y = 1 := by omega
    simp only [Nat.sub_self, Nat.zero_mul, Nat.one_mul] at h2 ⊢
    omega
theorem lead_bp {m d n2 s top r : Nat} (hn : n2 = top * bp m + r) (hr : r < bp m) (h1 : 9223372036854775808 ≤ top * 2 ^ s) (h2 : top * 2 ^ s < 18446744073709551616) (hd : d = n2 * 2 ^ s) : 9223372036854775808 * bp m ≤ d ∧ d < bp (m + 1) := by
  have hp : 0 < 2 ^ s := Nat.pow_pos (by decide)
  have e : d = top * 2 ^ s * bp m + r * 2 ^ s := by rw [hd, hn]; grind
  constructor
  · have := Nat.mul_le_mul_right (bp m) h1
    omega
  · rw [bp_succ]
    have hs : s < 64 := by
      rcases Nat.lt_or_ge s 64 with l | l
      · exact l
      · have : 2 ^ 64 ≤ 2 ^ s := Nat.pow_le_pow_right (by decide) l
        rcases Nat.eq_zero_or_pos top with e | e
        · subst e; omega
        · have : 1 * 2 ^ s ≤ top * 2 ^ s := Nat.mul_le_mul_right _ e
          omega
    rw [← pow_split hs] at h2 ⊢
    have ht : top < 2 ^ (64 - s) := Nat.lt_of_mul_lt_mul_right h2
    have a : r * 2 ^ s < bp m * 2 ^ s := Nat.mul_lt_mul_of_pos_right hr hp
    have b : (top + 1) * (2 ^ s * bp m) ≤ 2 ^ (64 - s) * (2 ^ s * bp m) := Nat.mul_le_mul_right _ ht
    have c : bp m * (2 ^ (64 - s) * 2 ^ s) = 2 ^ (64 - s) * (2 ^ s * bp m) := by grind
    have c2 : (top + 1) * (2 ^ s * bp m) = top * 2 ^ s * bp m + bp m * 2 ^ s := by grind
    omega
end Go.Proofs.YtfijhkaalpinhaaGreatDoor
namespace Go.Proofs.YtfijhkaalpinhaaGreatDoor
open Go.RowKit

theorem Bf.other {W W' : World} {h K g : Nat} {f : Nat → Nat} (hb : Bf W h K f) (hg : W.grownBy W' (some g)) (hne : h ≠ g) : Bf W' h K f := by
  have e : W'.heap[h]? = W.heap[h]? := hg.block h hb.1 (by intro e; injection e with e; exact hne e)
  exact ⟨Nat.lt_of_lt_of_le hb.1 hg.size, hb.2.1, fun j hj => ⟨(World.cell?_of_block (a := ⟨h, j, none⟩) e).trans (hb.2.2 j hj).1, (World.frozen?_of_block (a := ⟨h, j, none⟩) e).trans (hb.2.2 j hj).2⟩⟩
theorem Bf.setOther {W : World} {h K g i : Nat} {f : Nat → Nat} {v : Value} (hb : Bf W h K f) (hne : h ≠ g) : Bf (W.setCell ⟨g, i, none⟩ v) h K f :=
  hb.other (grown_set (World.grownBy.refl W (some g))) hne
theorem below_grows {W W' : World} {row : Option Nat} (h : Below W.heap.size W W') : W.grownBy W' row := ⟨h.os, h.tape, h.output, h.size, fun i hi _ => h.block i hi⟩
theorem grown_new {a w : World} {row : Option Nat} {g i : Nat} {v : Value} (h : a.grownBy w row) (hg : a.heap.size ≤ g) : a.grownBy (w.setCell ⟨g, i, none⟩ v) row := by
  refine ⟨h.os, h.tape, h.output, by have := h.size; simpa using this, fun k hk hne => ?_⟩
  rw [Below.heap_setCell _ _ _ _ (fun e => by subst e; omega)]
  exact h.block k hk hne
/-- Where the long division is: the rest, the quotient so far. -/
structure Lng (w3 : World) (gr go K L d A : Nat) (p : Nat) (F G : Nat → Nat) (W : World) : Prop where
  rest : Bf W gr K F
  quo : Bf W go L G
  grw : w3.grownBy W (some gr)
  sum : S F K + d * (bp p * S (from_ G p) (L - p)) = A
  low : S (from_ F p) (K - p) < d
theorem Lng.keep {w3 : World} {gr go K L d A p : Nat} {F G : Nat → Nat} {W W' : World} (h : Lng w3 gr go K L d A p F G W) (hb : Below W.heap.size W W') : Lng w3 gr go K L d A p F G W' :=
  ⟨h.rest.below hb, h.quo.below hb, h.grw.trans (below_grows hb), h.sum, h.low⟩
theorem Wd.trans {w w' w2 : World} {g K o m : Nat} {f f' f2 : Nat → Nat} (h : Wd w g K o m f f' w') (h2 : Wd w' g K o m f' f2 w2) : Wd w g K o m f f2 w2 :=
  ⟨h2.bf, fun j hj => (h2.out j hj).trans (h.out j hj), h.grown.trans h2.grown⟩
def DivPost (n d : Nat) (w : World) (e : Ending) (w' : World) : Prop :=
  ∃ a k c b m e2, e = .returned (.tuple #[.slice a k c, .slice b m e2]) ∧ Nm w' a k c (n / d) ∧ Nm w' b m e2 (n % d) ∧ Below w.heap.size w w'
/-- What divideIn leaves: the quotient, and the rest in place. -/
def DinP (w3 : World) (gr K d A : Nat) (e : Ending) (w' : World) : Prop :=
  ∃ a k c Q F, e = .returned (.slice a k c) ∧ Nm w' a k c Q ∧ Bf w' gr K F ∧ S F K + d * Q = A ∧ S F K < d ∧ w3.grownBy w' (some gr)
set_option maxRecDepth 100000 in
set_option maxHeartbeats 8000000 in
theorem divideIn_c (gr k1 L m cr cd d A : Nat) (ad : Option Addr) (FR fd : Nat → Nat) (w3 : World) (hRD : Rl w3 ad (m + 1) fd) (hA : Apart ad (m + 1) gr) (hF : Bf w3 gr (k1 + 1) FR) (hLm : L + m = k1) (hk1 : k1 < 50000) (hcr : k1 + 1 ≤ cr) (hcr2 : cr ≤ 9223372036854775807)
    (hd : S fd (m + 1) = d) (htd : 0 < fd m) (hst : S (from_ FR L) (k1 + 1 - L) < d) (hA0 : S FR (k1 + 1) = A) :
    Calls Tryz.prog 153 #[.slice (some ⟨gr, 0, none⟩) (k1 + 1) cr, .slice ad (m + 1) cd] w3 (DinP w3 gr (k1 + 1) d A) := by
  obtain ⟨bd, od, rfl, _, _⟩ := hRD.at_ (show m < m + 1 by omega)
  have RD := Lib.hid hRD
  have TD : Hid (0 < fd m) := htd
  have SFD := Lib.hid hd
  have HAP := Lib.hid hA
  have HDB : Hid (d < bp (m + 1)) := by unfold Hid; rw [← hd]; exact S_lt hRD.2.1
  have HST := Lib.hid hst
  have HBR := Lib.hid hF
  have hL9 : L ≤ 100000 := by omega
  have hmk := fun w => mk_limbsI ((k1 : Int) + 1 - ((m : Int) + 1)) L (by omega) (by omega) w
  have hwm : IntKind.i64.wrap (m : Int) = m := by rw [IntKind.wrap_i64] <;> omega
  clear hRD hA hF hd htd hst
  go_enter Tryz.func153, Tryz.ntmps153
  go_wp2_with fail
  have B0 := Lib.hid (Bf.made w3 L 80)
  have HB4 : Hid (Below w3.heap.size w3 (w3.alloc (.cells (madeCells #[.int .u64 0] L) 80))) := bel_one _ _
  have BR4 := Lib.hid (HBR.out.below HB4.out)
  have HNE : Hid (gr ≠ w3.heap.size) := by have := HBR.out.1; unfold Hid; omega
  generalize hW4 : w3.alloc (.cells (madeCells #[.int .u64 0] L) 80) = w4 at *
  clear hW4 hmk
  obtain ⟨go, hgo⟩ : ∃ go, w3.heap.size = go := ⟨_, rfl⟩
  have HGO2 : Hid (w3.heap.size ≤ go) := by unfold Hid; omega
  have HA : Hid (Lng w3 gr go (k1 + 1) L d (S FR (k1 + 1)) L FR (fun _ => 0) w4) := by
    refine ⟨BR4.out, by rw [← hgo]; exact B0.out, below_grows HB4.out, ?_, HST.out⟩
    rw [Nat.sub_self, S_zero, Nat.mul_zero, Nat.mul_zero, Nat.add_zero]
  rw [hgo] at HNE
  rw [hgo]
  rw [hA0] at HA
  clear BR4 B0 HST HB4 HBR hgo hA0
  go_loopw [6] (fun i wr => ∃ (j : Nat) (F G : Nat → Nat), j ≤ L ∧ i = .int .i64 ((j : Int) - 1) ∧ Hid (Lng w3 gr go (k1 + 1) L d A j F G wr)) (fun i _ => (intOf i + 1).toNat)
  case atStart => exact ⟨L, FR, fun _ => 0, Nat.le_refl _, rfl, HA.out⟩
  case round =>
    clear HA
    obtain ⟨j, F, G, hj, rfl, hR⟩ := hrel
    rcases Nat.eq_zero_or_pos j with e | e
    · subst e
      have E : Hid (S F (k1 + 1) + d * S G L = A ∧ S F (k1 + 1) < d) := by
        have hs1 := hR.out.sum
        have hs2 := hR.out.low
        rw [from_zero, Nat.sub_zero, bp_zero, Nat.one_mul] at hs1
        rw [from_zero, Nat.sub_zero] at hs2
        exact ⟨hs1, hs2⟩
      have RR := Lib.hid hR.out
      clear hR
      go_wp2_with fail
      refine (trim_c (some ⟨go, 0, none⟩) L L G wr (RR.out.quo.rl0 (Nat.le_refl _) (by omega)) (Nat.le_refl _) (by omega) (Pl.some_ _ _)).mono ?_
      rintro e w5 ⟨qa, qk, qc, rfl, hQ, b5⟩
      have RR5 := RR.out.keep b5
      have R : Hid (DinP w3 gr (k1 + 1) d A (.returned (.slice qa qk qc)) w5) := ⟨_, _, _, _, F, rfl, hQ, RR5.rest, E.out.1, E.out.2, RR5.grw⟩
      clear hQ b5 RR RR5
      go_wp2
      go_ret
      exact R.out
    · obtain ⟨p, rfl⟩ : ∃ p, j = p + 1 := ⟨j - 1, by omega⟩
      have ei : ((p + 1 : Nat) : Int) - 1 = (p : Int) := by omega
      rw [ei]
      have hpL : p < L := by omega
      have hpL' : (p : Int) < (L : Int) := by omega
      have hpK : p + (m + 1 + 1) ≤ k1 + 1 := by omega
      have hpK' : (p : Int) + ((m : Int) + 1) + 1 ≤ (k1 : Int) + 1 := by omega
      have hpp : (p : Int) ≤ (p : Int) + ((m : Int) + 1) + 1 := by omega
      have el : p + (m + 1) + 1 - p = m + 1 + 1 := by omega
      have RG := Lib.hid (guessLimb_c (some ⟨gr, p, none⟩) (some ⟨bd, od, none⟩) m (cr - p) cd (from_ F p) fd wr (hR.out.rest.rl hpK (by omega)) (RD.out.grown hR.out.grw HAP.out) TD.out)
      go_wp2_with fail
      (with_reducible refine RG.out.mono ?_)
      rintro e wg ⟨q0, rfl, hq0, hgs, ng, rfl⟩
      have LW := Lib.hid (hR.out.keep (bel_drewN wr ng))
      have hFp := hR.out.rest.2.1
      have GG : Hid (S (from_ F p) (m + 1 + 1) < (q0 + 1) * d) := long_guess (fun i hi => hFp _ (by omega)) SFD.out (long_win hpK HDB.out (hFp p (by omega)) hR.out.low) hgs
      clear hgs hFp hR RG
      generalize wr.drewN ng = W1 at *
      have RS := Lib.hid (subtractTimes_g gr p (m + 1) (cr - p) (k1 + 1) cd q0 (some ⟨bd, od, none⟩) F fd W1 (RD.out.grown LW.out.grw HAP.out) HAP.out LW.out.rest (by omega) (by omega) hq0)
      go_wp2_with fail
      (with_reducible refine RS.out.mono ?_)
      rintro e wS ⟨x0, F1, hx0, rfl, hW, hs1⟩
      rw [SFD.out] at hs1
      have I0 : Hid (Wd W1 gr (k1 + 1) p (m + 1 + 1) F F1 wS ∧ S (from_ F1 p) (m + 1 + 1) + q0 * d = S (from_ F p) (m + 1 + 1) + x0 * bp (m + 1 + 1) ∧ S (from_ F p) (m + 1 + 1) < (q0 + 1) * d) := ⟨hW, hs1, GG.out⟩
      clear hW hs1 RS GG
      go_wp2_with fail
      go_loopw [8, 9] (fun vq vb wx => ∃ (q x : Nat) (F2 : Nat → Nat), vq = .int .u64 q ∧ vb = .bool (decide (x = 1)) ∧ x ≤ 1 ∧ q < 18446744073709551616 ∧ Hid (Wd W1 gr (k1 + 1) p (m + 1 + 1) F F2 wx ∧ S (from_ F2 p) (m + 1 + 1) + q * d = S (from_ F p) (m + 1 + 1) + x * bp (m + 1 + 1) ∧ S (from_ F p) (m + 1 + 1) < (q + 1) * d)) (fun vq _ _ => (intOf vq).toNat)
      case atStart => exact ⟨q0, x0, F1, rfl, rfl, hx0, hq0, I0.out⟩
      case round =>
        clear I0
        obtain ⟨q, x, F2, rfl, rfl, hx, hq, hI⟩ := hrel
        have hlb : S (from_ F2 p) (m + 1 + 1) < bp (m + 1 + 1) := S_lt (fun i hi => hI.out.1.bf.2.1 _ (by omega))
        rcases Nat.eq_zero_or_pos x with e | e
        · subst e
          have hqb := (LW.out.quo.other hI.out.1.grown (fun e => HNE.out e.symm))
          have hBj := hqb.2.2 p hpL
          have hc5 := hBj.1
          have hf5 := hBj.2
          have NX : Hid (Lng w3 gr go (k1 + 1) L d A p F2 (put G p q) (wr.setCell ⟨go, p, none⟩ (.int .u64 q))) := by
            have h1 : S (from_ F2 p) (m + 1 + 1) + q * d = S (from_ F p) (m + 1 + 1) := by
              have h := hI.out.2.1
              rw [Nat.zero_mul, Nat.add_zero (S (from_ F p) (m + 1 + 1))] at h
              exact h
            have h2 : S (from_ F p) (m + 1 + 1) < q * d + d := by
              have h := hI.out.2.2
              rw [Nat.add_mul, Nat.one_mul] at h
              exact h
            have hn := long_next hpK hpL HDB.out LW.out.sum LW.out.low hI.out.1.out h1 (by omega)
            exact ⟨hI.out.1.bf.setOther HNE.out, hqb.put hpL hq, grown_new (LW.out.grw.trans hI.out.1.grown) HGO2.out, hn.1, hn.2⟩
          clear hBj hqb hlb
          go_wp2
          go_roundw
          case rel => exact ⟨p, F2, put G p q, by omega, by go_num, NX.out⟩
          case measure => simp [intOf]
        · obtain rfl : x = 1 := by omega
          have hq0' : 0 < q := by
            rcases Nat.eq_zero_or_pos q with e | e
            · subst e
              have := hI.out.2.1
              rw [Nat.zero_mul, Nat.one_mul] at this
              omega
            · exact e
          obtain ⟨r, rfl⟩ : ∃ r, q = r + 1 := ⟨q - 1, by omega⟩
          have RA := Lib.hid (addTo_g gr p (m + 1 + 1) (m + 1) (cr - p) (k1 + 1) cd (some ⟨bd, od, none⟩) F2 fd wr (RD.out.grown (LW.out.grw.trans hI.out.1.grown) HAP.out) HAP.out hI.out.1.bf hpK (by omega) (by omega))
          have er : ((r + 1 : Nat) : Int) = (r : Int) + 1 := by omega
          have HLB := Lib.hid hlb
          clear hlb
          go_wp2_with fail
          (with_reducible refine RA.out.mono ?_)
          rintro e wA ⟨y, F3, rfl, hy, hWA, hsA⟩
          rw [SFD.out] at hsA
          have hlb3 : S (from_ F3 p) (m + 1 + 1) < bp (m + 1 + 1) := S_lt (fun i hi => hWA.bf.2.1 _ (by omega))
          have h1 := hI.out.2.1
          rw [Nat.one_mul] at h1
          have hlow := lower h1 hsA HLB.out hlb3 hy
          have NX : Hid (Wd W1 gr (k1 + 1) p (m + 1 + 1) F F3 wA ∧ S (from_ F3 p) (m + 1 + 1) + r * d = S (from_ F p) (m + 1 + 1) + (1 - y) * bp (m + 1 + 1) ∧ S (from_ F p) (m + 1 + 1) < (r + 1) * d) := ⟨hI.out.1.trans hWA, hlow.1, hlow.2⟩
          clear hWA hsA hlb3 h1 hlow hI RA HLB
          rcases Nat.eq_zero_or_pos y with ey | ey
          · subst ey
            have NX1 : Hid (Wd W1 gr (k1 + 1) p (m + 1 + 1) F F3 wA ∧ S (from_ F3 p) (m + 1 + 1) + r * d = S (from_ F p) (m + 1 + 1) + 1 * bp (m + 1 + 1) ∧ S (from_ F p) (m + 1 + 1) < (r + 1) * d) := by
              have h := NX.out
              rw [Nat.sub_zero 1] at h
              exact h
            clear NX
            go_wp2
            go_roundw
            case rel => exact ⟨r, 1, F3, by go_num, rfl, by omega, by omega, NX1.out⟩
            case measure => simp [intOf]
          · obtain rfl : y = 1 := by omega
            have NX1 : Hid (Wd W1 gr (k1 + 1) p (m + 1 + 1) F F3 wA ∧ S (from_ F3 p) (m + 1 + 1) + r * d = S (from_ F p) (m + 1 + 1) + 0 * bp (m + 1 + 1) ∧ S (from_ F p) (m + 1 + 1) < (r + 1) * d) := by
              have h := NX.out
              rw [Nat.sub_self 1] at h
              exact h
            clear NX
            go_wp2
            go_roundw
            case rel => exact ⟨r, 0, F3, by go_num, rfl, by omega, by omega, NX1.out⟩
            case measure => simp [intOf]
set_option maxRecDepth 100000 in
set_option maxHeartbeats 8000000 in
theorem divideLong_c (a1 a2 : Option Addr) (k1 m c1 c2 n1 n2 : Nat) (w : World) (h1 : Nm w a1 k1 c1 n1) (h2 : Nm w a2 (m + 1) c2 n2) (hle : m + 1 ≤ k1) (hk1 : k1 < 50000) :
    Calls Tryz.prog 137 #[.slice a1 k1 c1, .slice a2 (m + 1) c2] w (DivPost n1 n2 w) := by
  obtain ⟨f1, r1, hkc1, hcc1, t1, s1, p1⟩ := h1
  obtain ⟨f2, r2, hkc2, hcc2, t2, s2, p2⟩ := h2
  obtain ⟨b2, o2, rfl, hbl2, htop⟩ := r2.at_ (show m < m + 1 by omega)
  have htpos : 0 < f2 m := by
    rcases t2 with e | e
    · omega
    · simp at e; omega
  have htlt := r2.2.1 m (by omega)
  obtain ⟨s, hs, hl1, hl2, HZ⟩ := lead_ex (f2 m) htpos htlt
  have HLZ := Lib.hid HZ
  obtain ⟨d, hd⟩ : ∃ d, d = n2 * 2 ^ s := ⟨_, rfl⟩
  have hdb := lead_bp (m := m) (d := d) (n2 := n2) (s := s) (top := f2 m) (r := S f2 m) (by rw [← s2, S_succ]; omega) (S_lt (fun j hj => r2.2.1 j (by omega))) hl1 hl2 hd
  have HU2 := Lib.hid (fun w' (hb : Below w.heap.size w w') => shiftUp_c (some ⟨b2, o2, none⟩) (m + 1) c2 s f2 w' (r2.below hb) hs (by omega))
  have HU1 := Lib.hid (fun w' (hb : Below w.heap.size w w') => shiftUp_c a1 k1 c1 s f1 w' (r1.below hb) hs (by omega))
  have HS1 := Lib.hid s1
  have HS2 := Lib.hid s2
  have HD := Lib.hid hd
  have HDB := Lib.hid hdb
  have hm5 : m < 50000 := by omega
  have hwm : IntKind.i64.wrap (m : Int) = m := by rw [IntKind.wrap_i64]; omega
  clear HZ r1 r2 t1 t2 p1 p2 s1 s2 hd hdb hl1 hl2 htpos htlt
  generalize f2 m = top at *
  go_enter Tryz.func137, Tryz.ntmps137
  go_wp2_with (go_at_call 130; refine (HLZ.out _).mono ?_; rintro e w' ⟨rfl, rfl⟩)
  refine (HU1.out _ (Below.refl _ _)).mono ?_
  rintro e w1 ⟨gr, FR, rfl, hgr, hbr, hsr, htr, br⟩
  rw [HS1.out] at hsr
  have BD1 := Lib.hid br
  have HGR := Lib.hid hgr
  have HBR := Lib.hid hbr
  have HST : Hid (S (from_ FR (k1 - m)) (k1 + 1 - (k1 - m)) < d) := long_start hbr.2.1 (show k1 - m + m = k1 by omega) htr hs HDB.out.1
  have HSR := Lib.hid hsr
  clear hgr hbr hsr htr HU1 br
  go_wp2_with fail
  refine (HU2.out _ BD1.out).mono ?_
  rintro e w2 ⟨gd, FD, rfl, hgd, hbd, hsd, _, bd⟩
  rw [HS2.out, ← HD.out] at hsd
  have hKd := hbd.rl0 (Nat.le_refl _) (show m + 1 + 1 ≤ 100000 by omega)
  have BD := Lib.hid bd
  have SD := Lib.hid hsd
  have HKD := Lib.hid hKd
  have HGD := Lib.hid hgd
  clear hgd hbd hsd bd hKd HU2
  go_wp2_with fail
  refine (trim_c2 (some ⟨gd, 0, none⟩) (m + 1 + 1) (m + 1 + 1) FD w2 HKD.out (Nat.le_refl _) (by omega) (Pl.some_ _ _)).mono ?_
  rintro e w3 ⟨kd, rfl, hN, rfl⟩
  rw [SD.out] at hN
  obtain rfl : kd = m + 1 := by
    have u1 := hN.len HDB.out.2
    have u2 := bp_lt (Nat.lt_of_le_of_lt (show bp m ≤ d by have := HDB.out.1; have := bp_pos m; omega) hN.lt)
    omega
  obtain ⟨fd, rd, hkcd, hccd, td, sd, pd⟩ := hN
  have td' : 0 < fd m := by
    rcases td with e | e
    · omega
    · simp at e; omega
  have AP : Apart (some ⟨gd, 0, none⟩) (m + 1) gr := fun _ b off e => by
    injection e with e
    injection e with e1 _
    have h1 := HGD.out
    have h2 := HBR.out.1
    omega
  have DI := Lib.hid (divideIn_c gr k1 (k1 - m) m (k1 + 1) (m + 1 + 1) d (n1 * 2 ^ s) (some ⟨gd, 0, none⟩) FR fd w2 rd AP (HBR.out.below BD.out) (by omega) hk1 (Nat.le_refl _) (by omega) sd td' HST.out HSR.out)
  have BD2 := Lib.hid (BD1.out.trans (BD.out.mono BD1.out.size))
  clear rd hkcd hccd td sd pd td' AP SD HKD BD HST
  go_wp2_with fail
  (with_reducible refine DI.out.mono ?_)
  rintro e w5 ⟨qa, qk, qc, Q, F, rfl, hQ, hBF, hsum, hlow, hgrw⟩
  have E : Hid (Q = n1 / n2 ∧ S F (k1 + 1) / 2 ^ s = n1 % n2) := by
    rw [HD.out] at hsum hlow
    exact div_unshift hsum hlow
  have B5 : Hid (Below w.heap.size w w5) := BD2.out.grown hgrw BD2.out.size (fun q hq => by cases hq; exact HGR.out)
  rw [E.out.1] at hQ
  have HQ := Lib.hid hQ
  have HBF := Lib.hid hBF
  clear hQ hBF hsum hlow hgrw DI
  go_wp2_with fail
  refine (trim_c (some ⟨gr, 0, none⟩) (k1 + 1) (k1 + 1) F w5 (HBF.out.rl0 (Nat.le_refl _) (by omega)) (Nat.le_refl _) (by omega) (Pl.some_ _ _)).mono ?_
  rintro e w6 ⟨ta, tk, tc, rfl, hT, b6⟩
  obtain ⟨tf, tr, _, _, _, ts, _⟩ := hT
  have HQ6 := Lib.hid (HQ.out.below b6)
  have B6 := Lib.hid (B5.out.trans (b6.mono B5.out.size))
  have TR := Lib.hid (shiftDown_c ta tk tc s tf w6 tr hs)
  have TS := Lib.hid ts
  clear HQ b6 tr ts
  go_wp2_with fail
  refine TR.out.mono ?_
  rintro e w7 ⟨ra, rk, rc, rfl, hRm, b7⟩
  rw [TS.out, E.out.2] at hRm
  have R : Hid (DivPost n1 n2 w (.returned (.tuple #[.slice qa qk qc, .slice ra rk rc])) w7) :=
    ⟨_, _, _, _, _, _, rfl, HQ6.out.below b7, hRm, B6.out.trans (b7.mono B6.out.size)⟩
  clear hRm b7
  go_wp2
  go_ret2
  exact R.out
end Go.Proofs.YtfijhkaalpinhaaGreatDoor
