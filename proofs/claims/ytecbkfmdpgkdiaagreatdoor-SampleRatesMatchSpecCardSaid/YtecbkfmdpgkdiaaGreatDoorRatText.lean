/-
  The decimal text of a number of one limb.
-/
import Derived.Test.YtecbkfmdpgkdiaaGreatDoorRatFrac
import Derived.OwnWalk
import Derived.Lib.ItoaNum
import Derived.Lib.TrimByte
namespace Go.Proofs.YtecbkfmdpgkdiaaGreatDoor
open Go.RowKit

/-! ### The numeral with zeros ahead of it -/
def padL (m n : Nat) : List UInt8 := (List.range m).map fun i => UInt8.ofNat (48 + n / 10 ^ (m - 1 - i) % 10)
theorem padL_succ (m n : Nat) : padL (m + 1) n = padL m (n / 10) ++ [UInt8.ofNat (48 + n % 10)] := by
  unfold padL
  rw [List.range_succ, List.map_append]
  congr 1
  · refine List.map_congr_left fun i hi => ?_
    have hi := List.mem_range.1 hi
    have e : m + 1 - 1 - i = (m - 1 - i) + 1 := by omega
    rw [e, Nat.pow_succ, Nat.mul_comm, ← Nat.div_div_eq_div_mul]
  · simp
theorem padL_zero (m : Nat) : (padL m 0).dropWhile (· == 48) = [] := by
  induction m with
  | zero => rfl
  | succ m ih => rw [padL_succ, Nat.zero_div, List.dropWhile_append, ih]; rfl
theorem decDigits_ne (n : Nat) : Lib.decDigits n ≠ [] := by
  intro h
  have := Lib.decDigits_length n
  rw [h] at this
  have := Lib.nDigits_pos n
  simp at *
  omega
theorem digit_ne {d : Nat} (h0 : 0 < d) (h9 : d < 10) : (UInt8.ofNat (48 + d) == 48) = false := by
  match d, h0, h9 with
  | 1, _, _ => rfl
  | 2, _, _ => rfl
  | 3, _, _ => rfl
  | 4, _, _ => rfl
  | 5, _, _ => rfl
  | 6, _, _ => rfl
  | 7, _, _ => rfl
  | 8, _, _ => rfl
  | 9, _, _ => rfl
theorem trim_padL (m : Nat) : ∀ n : Nat, 0 < n → n < 10 ^ m → (padL m n).dropWhile (· == 48) = Lib.decDigits n := by
  induction m with
  | zero => intro n h0 h1; simp at h1; omega
  | succ m ih =>
    intro n h0 h1
    rw [padL_succ, List.dropWhile_append]
    by_cases h : n < 10
    · have e : n / 10 = 0 := by omega
      have e' : n % 10 = n := by omega
      rw [e, padL_zero, e', Lib.decDigits_one h]
      rw [if_pos (show ([] : List UInt8).isEmpty = true from rfl), List.dropWhile_cons_of_neg (by rw [digit_ne h0 h]; simp)]
    · rw [ih (n / 10) (by omega) (by rw [Nat.pow_succ] at h1; omega)]
      have hne := decDigits_ne (n / 10)
      rw [if_neg (by simpa [List.isEmpty_iff] using hne)]
      rw [Lib.decDigits.eq_def n, dif_neg h]

/-! ### appendChunk -/
def pw (i : Nat) : Nat := 1000000000000000000 / 10 ^ i
theorem pw_succ (i : Nat) : pw (i + 1) = pw i / 10 := by unfold pw; rw [Nat.pow_succ, Nat.div_div_eq_div_mul]
theorem pw_eq {i : Nat} (h : i ≤ 18) : pw i = 10 ^ (18 - i) := by
  unfold pw
  rw [show (1000000000000000000 : Nat) = 10 ^ (18 - i) * 10 ^ i by rw [← Nat.pow_add, show 18 - i + i = 18 by omega]]
  exact Nat.mul_div_cancel _ (Nat.pow_pos (by decide))
theorem pw_end : pw 19 = 0 := by unfold pw; exact Nat.div_eq_of_lt (by decide)
theorem pw_le (i : Nat) : pw i ≤ 1000000000000000000 := Nat.div_le_self _ _
def pads (n k : Nat) : List Value := (List.range k).map fun i => .int .u8 (48 + n / pw i % 10 : Nat)
theorem pads_succ (n k : Nat) : pads n (k + 1) = pads n k ++ [.int .u8 (48 + n / pw k % 10 : Nat)] := by unfold pads; rw [List.range_succ, List.map_append]; rfl
/-- What appendChunk has made after k digits. -/
structure Chunk (B : Nat) (w0 : World) (n k : Nat) (v : Value) (w : World) : Prop where
  row : w.ownsRow B 5 1 v k (pads n k)
  bel : Below B w0 w
  size : B ≤ w.heap.size
theorem Chunk.more {B : Nat} {w0 w w' : World} {n k : Nat} {v v' : Value} (h : Chunk B w0 n k v w) (hown : w'.ownsRow B 5 1 v' (k + 1) (pads n (k + 1))) (o : Obj) (hg : (w.alloc o).grownBy w' v.ownBlock) : Chunk B w0 n (k + 1) v' w' := by
  have hb := (h.bel.alloc h.size o).grown hg (by simp; have := h.size; omega) (fun b hb => (World.ownsRow.lt (h.row.alloc o) b hb).1)
  exact ⟨hown, hb, Nat.le_trans (Nat.le_trans h.size (by simp)) hg.size⟩
theorem infoB : (Tryz.prog.info? 5).map (fun i => (i.zero, i.size, i.bytes)) = some (some (.int .u8 0), 1, 1) := by kernel_rfl
theorem quo_p (n p : Nat) (hn : n ≤ 9223372036854775807) : IntKind.u64.wrap ((n : Int) / (p : Int)) = ((n / p : Nat) : Int) := quo_u n p hn
set_option maxHeartbeats 1000000 in
theorem appendChunk_c (v : Value) (n B : Nat) (w : World) (hn : n ≤ 9223372036854775807) (hB : B ≤ w.heap.size) (hv : w.ownsRow B 5 1 v 0 []) :
    Calls Tryz.prog 64 #[v, .int .u64 n] w fun e w' => ∃ v', e = .returned v' ∧ Chunk B w n 19 v' w' := by
  obtain ⟨i0, hi, hz0, hz1, hz2⟩ := info_parts infoB
  have HN := Lib.hid hn
  have H0 : Hid (Chunk B w n 0 v w) := ⟨hv, Below.refl _ _, hB⟩
  clear hn hB hv
  go_enter Tryz.func64, Tryz.ntmps64
  go_wp2
  go_loopw [0, 5] (fun v p wr => ∃ i : Nat, i ≤ 19 ∧ p = .int .u64 (pw i) ∧ Hid (Chunk B w n i v wr)) (fun _ p _ => (intOf p).toNat)
  case atStart => exact ⟨0, by omega, rfl, H0⟩
  case round =>
    obtain ⟨i, hi19, rfl, hC⟩ := hrel
    by_cases hlt : i < 19
    · have hp : 0 < pw i := by rw [pw_eq (by omega)]; exact Nat.pow_pos (by decide)
      have hp' : (0 : Int) < (pw i : Int) := by omega
      have hs := Lib.hid (pw_succ i)
      have hps := Lib.hid (pads_succ n i)
      have hq := quo_p n (pw i) HN.out
      have hw10 : IntKind.u64.wrap ((pw i : Int) / 10) = ((pw i / 10 : Nat) : Int) := quo_u (pw i) 10 (Nat.le_trans (pw_le i) (by decide))
      have hd : n / pw i % 10 < 10 := Nat.mod_lt _ (by decide)
      have hr : ((n / pw i : Nat) : Int) % 10 = ((n / pw i % 10 : Nat) : Int) := rem_u _ 10
      have HP2 : Hid (pw i / 10 < pw i) := Nat.div_lt_self hp (by decide)
      generalize n / pw i % 10 = d at *
      generalize n / pw i = q at *
      generalize pw i / 10 = p2 at *
      generalize pw i = p at *
      go_wp2_with (at_builtin; refine wpList_append_own _ rfl _ _ 72 rfl B 5 i0 (.int .u8 0) 1 1 Tryz.underlying72 hi hz0 hz1 hz2 rfl (by decide) _ _ _ rfl (hC.out.row.alloc _) ⟨wr.heap.size, 0, none⟩ 1 1 [.int .u8 (48 + (d : Int))] rfl rfl ?c1 ?c2 ?c3 ?c4 ?c5 ?_)
      case c1 =>
        intro j u hj
        match j, hj with
        | 0, hj => simp at hj; subst hj; simp [Addr.add]
      case c2 => intro u hu; simp at hu; subst hu; rfl
      case c3 => unfold maxLen; omega
      case c4 => omega
      case c5 => have := hC.out.size; simp; omega
      intro v' w1 hown' hgrow _
      have hC' := Lib.hid (hC.out.more (by rw [hps.out]; simpa using hown') _ hgrow)
      clear hown' hgrow hC
      go_wp2
      go_roundw
      case rel => exact ⟨i + 1, by omega, by rw [hs.out], hC'.out⟩
      case measure => simp [intOf]; have := HP2.out; omega
    · obtain rfl : i = 19 := by omega
      rw [pw_end]
      go_wp2
      go_ret
      exact ⟨_, rfl, hC.out⟩
end Go.Proofs.YtecbkfmdpgkdiaaGreatDoor
