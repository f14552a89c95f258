/-
  Decimal texts of numbers of the reference: the arithmetic.
  Rows of digits in memory: those that are read as numbers of the reference, and those that a call makes.
  Numbers of the reference: small numbers as digits.
  Numbers of the reference: needless zeros go; the order.
-/
import Derived.Test.YtchdfekajjeflaaGreatDoorM10
import Derived.Lib.Repeat
import Derived.Test.YtchdfekajjeflaaGreatDoorM02
namespace Go.Proofs.YtchdfekajjeflaaGreatDoor

def decB (n : Nat) : ByteArray := ⟨(Lib.decDigits n).toArray⟩
theorem decB_list (n : Nat) : (decB n).data.toList = Lib.decDigits n := by simp [decB]
theorem decB_size (n : Nat) : (decB n).size = (Lib.decDigits n).length := by simp [decB, ByteArray.size]
theorem dec_len : ∀ (k n : Nat), 0 < k → n < 10 ^ k → (Lib.decDigits n).length ≤ k
  | 0, _, h, _ => absurd h (by omega)
  | k + 1, n, _, h => by
    rw [Lib.decDigits.eq_def]
    split
    · simp
    · next hn =>
      have hk : 0 < k := by
        rcases Nat.eq_zero_or_pos k with e | e
        · subst e; simp at h; omega
        · exact e
      have := dec_len k (n / 10) hk (by rw [Nat.pow_succ] at h; omega)
      simp
      omega
theorem dec_pad : ∀ (k m d : Nat), 0 < m → d < 10 ^ k → Lib.decDigits (m * 10 ^ k + d) = Lib.decDigits m ++ padL k d
  | 0, m, d, _, h => by
    have : d = 0 := by simp at h; omega
    subst this
    simp [padL]
  | k + 1, m, d, hm, h => by
    have hp : 0 < 10 ^ k := Nat.pow_pos (by decide)
    have e : m * 10 ^ (k + 1) = m * 10 ^ k * 10 := by rw [Nat.pow_succ, Nat.mul_assoc]
    have hp2 : 1 ≤ m * 10 ^ k := Nat.mul_pos hm hp
    have e1 : (m * 10 ^ (k + 1) + d) / 10 = m * 10 ^ k + d / 10 := by omega
    have e2 : (m * 10 ^ (k + 1) + d) % 10 = d % 10 := by omega
    rw [Lib.decDigits.eq_def, dif_neg (by omega), e1, e2, dec_pad k m (d / 10) hm (by rw [Nat.pow_succ] at h; omega), padL_succ, List.append_assoc]
theorem pad_nul : ∀ k : Nat, padL k 0 = List.replicate k 48
  | 0 => rfl
  | k + 1 => by rw [padL_succ, Nat.zero_div, pad_nul k, List.replicate_succ']; rfl
theorem rep_zeros (c : Nat) : Lib.repeatL [48] c = List.replicate c 48 := by
  have := Lib.repeatL_replicate 48 1 c
  rw [Nat.mul_one] at this
  exact this
theorem pad_rep : ∀ (k d : Nat), 0 < k → d < 10 ^ k → Lib.repeatL [48] (k - (Lib.decDigits d).length) ++ Lib.decDigits d = padL k d
  | 0, _, h, _ => absurd h (by omega)
  | k + 1, d, _, h => by
    rw [Lib.decDigits.eq_def, padL_succ]
    split
    · next hd =>
      have e1 : d / 10 = 0 := by omega
      have e2 : d % 10 = d := by omega
      rw [e1, e2, pad_nul, rep_zeros]
      simp
    · next hd =>
      have hk : 0 < k := by
        rcases Nat.eq_zero_or_pos k with e | e
        · subst e; simp at h; omega
        · exact e
      have := pad_rep k (d / 10) hk (by rw [Nat.pow_succ] at h; omega)
      rw [List.length_append, List.length_singleton, Nat.add_sub_add_right, ← List.append_assoc, this]
theorem Tn_top {f : Nat → Nat} {k p : Nat} (h : Ld f k) (hp : p ≤ k) : Tn f k / tp p = Tn (fun j => f (p + j)) (k - p) := by
  have e := Tn_split f p (k - p)
  rw [Nat.add_sub_cancel' hp] at e
  rw [e, Nat.add_mul_div_left _ _ (tp_pos p), Nat.div_eq_of_lt (Tn_lt fun j hj => h j (by omega)), Nat.zero_add]
theorem Tn_digit {f : Nat → Nat} {k p : Nat} (h : Ld f k) (hp : p < k) : Tn f k / tp p = Tn f k / tp (p + 1) * 1000000000 + f p := by
  rw [Tn_top h (by omega), Tn_top h (show p + 1 ≤ k by omega)]
  obtain ⟨m, hm⟩ : ∃ m, k - p = m + 1 := ⟨k - p - 1, by omega⟩
  have e : k - (p + 1) = m := by omega
  rw [hm, e, Tn_front, Nat.add_zero, Nat.add_comm, Nat.mul_comm]
  have e2 : Tn (fun j => f (p + (j + 1))) m = Tn (fun j => f (p + 1 + j)) m := Tn_congr fun j _ => by rw [Nat.add_right_comm, Nat.add_assoc]
  rw [e2]
/-- The text with one digit more. -/
theorem dec_next {f : Nat → Nat} {k p : Nat} (h : Ld f k) (hp : p < k) (h0 : 0 < Tn f k / tp (p + 1)) :
    Lib.decDigits (Tn f k / tp p) = Lib.decDigits (Tn f k / tp (p + 1)) ++ Lib.repeatL [48] (9 - (Lib.decDigits (f p)).length) ++ Lib.decDigits (f p) := by
  have hd : f p < 10 ^ 9 := h p hp
  rw [Tn_digit h hp, List.append_assoc, pad_rep 9 (f p) (by decide) hd, ← dec_pad 9 _ _ h0 hd]
theorem Tn_last {f : Nat → Nat} {k : Nat} (h : Ld f k) (hk : 0 < k) : Tn f k / tp (k - 1) = f (k - 1) := by
  rw [Tn_top h (by omega), show k - (k - 1) = 1 by omega, Tn_one, Nat.add_zero]
theorem dec_short {n k : Nat} (hk : 0 < k) (h : n < tp k) : (Lib.decDigits n).length ≤ 9 * k := dec_len (9 * k) n (by omega) (by rw [← tp_ten]; exact h)
end Go.Proofs.YtchdfekajjeflaaGreatDoor
namespace Go.Proofs.YtchdfekajjeflaaGreatDoor
open Go.RowKit

theorem infoT : (Tryz.prog.info? 3).map (fun i => (i.zero, i.size, i.bytes)) = some (some (.int .i64 0), 1, 8) := by kernel_rfl
theorem info_int : ∃ i, Tryz.prog.info? 3 = some i ∧ i.zero = some (.int .i64 0) ∧ i.size = 1 ∧ i.bytes = 8 := by
  have h := infoT
  cases e : Tryz.prog.info? 3 with
  | none => rw [e] at h; cases h
  | some i => rw [e] at h; simp at h; exact ⟨i, rfl, h⟩
/-- A slice that reads as k digits. -/
def Rj (W : World) (a : Option Addr) (k : Nat) (f : Nat → Nat) : Prop :=
  k ≤ 100000 ∧ Ld f k ∧ (0 < k → ∃ b off, a = some ⟨b, off, none⟩ ∧ b < W.heap.size ∧ ∀ j, j < k → W.cell? ⟨b, off + j, none⟩ = some (.int .i64 (f j)))
theorem Rj.below {W W' : World} {a : Option Addr} {k : Nat} {f : Nat → Nat} (h : Rj W a k f) (hb : Below W.heap.size W W') : Rj W' a k f :=
  ⟨h.1, h.2.1, fun h0 => by
    obtain ⟨b, off, e, hl, hc⟩ := h.2.2 h0
    exact ⟨b, off, e, Nat.lt_of_lt_of_le hl hb.size, fun j hj => by rw [hb.cell (p := ⟨b, off + j, none⟩) hl]; exact hc j hj⟩⟩
theorem Rj.at_ {W : World} {a : Option Addr} {k : Nat} {f : Nat → Nat} (h : Rj W a k f) {j : Nat} (hj : j < k) :
    ∃ b off, a = some ⟨b, off, none⟩ ∧ b < W.heap.size ∧ W.cell? ⟨b, off + j, none⟩ = some (.int .i64 (f j)) := by
  obtain ⟨b, off, e, hl, hc⟩ := h.2.2 (by omega)
  exact ⟨b, off, e, hl, hc j hj⟩
theorem Rj.nil (W : World) (a : Option Addr) (f : Nat → Nat) : Rj W a 0 f := ⟨by omega, fun j hj => by omega, fun h => by omega⟩
theorem Rj.low {W : World} {a : Option Addr} {k m : Nat} {f : Nat → Nat} (h : Rj W a k f) (hm : m ≤ k) : Rj W a m f :=
  ⟨by have := h.1; omega, fun j hj => h.2.1 j (by omega), fun h0 => by
    obtain ⟨b, off, e, hl, hc⟩ := h.2.2 (by omega)
    exact ⟨b, off, e, hl, fun j hj => hc j (by omega)⟩⟩
/-- A slice without needless zeros that reads as a number. -/
def Nt (W : World) (a : Option Addr) (k c n : Nat) : Prop := ∃ f, Rj W a k f ∧ k ≤ c ∧ c ≤ 9223372036854775807 ∧ Tod f k ∧ Tn f k = n ∧ Pl a c
theorem Nt.below {W W' : World} {a : Option Addr} {k c n : Nat} (h : Nt W a k c n) (hb : Below W.heap.size W W') : Nt W' a k c n := by
  obtain ⟨f, h1, h2⟩ := h
  exact ⟨f, h1.below hb, h2⟩
theorem Nt.zero (W : World) (a : Option Addr) (c : Nat) (hc : c ≤ 9223372036854775807) (ha : Pl a c) : Nt W a 0 c 0 := ⟨fun _ => 0, Rj.nil _ _ _, by omega, hc, .inl rfl, rfl, ha⟩
theorem Nt.len {W : World} {a : Option Addr} {k c n K : Nat} (h : Nt W a k c n) (hn : n < tp K) : k ≤ K := by
  obtain ⟨f, _, _, _, ht, hs, _⟩ := h
  exact tod_len ht (by rw [hs]; exact hn)
theorem Nt.lt {W : World} {a : Option Addr} {k c n : Nat} (h : Nt W a k c n) : n < tp k := by
  obtain ⟨f, h1, _, _, _, hs, _⟩ := h
  rw [← hs]; exact Tn_lt h1.2.1
theorem Nt.pos {W : World} {a : Option Addr} {k c n : Nat} (h : Nt W a k c n) (hk : 0 < k) : tp (k - 1) ≤ n := by
  obtain ⟨f, _, _, _, ht, hs, _⟩ := h
  rw [← hs]; exact tod_ge ht hk
theorem Nt.nul {W : World} {a : Option Addr} {k c : Nat} (h : Nt W a k c 0) : k = 0 := by
  obtain ⟨f, _, _, _, ht, hs, _⟩ := h
  exact tod_zero ht hs
theorem Nt.one {W : World} {a : Option Addr} {k c n : Nat} (h : Nt W a k c n) (hn : 0 < n) : 0 < k := by
  rcases Nat.eq_zero_or_pos k with e | e
  · subst e
    have := h.lt
    rw [tp_zero] at this
    omega
  · exact e
/-- A result that is a number. -/
def NtPost (n : Nat) (w : World) (e : Ending) (w' : World) : Prop := ∃ a k c, e = .returned (.slice a k c) ∧ Nt w' a k c n ∧ Below w.heap.size w w'
/-- The first digits, as the values of a row. -/
def dvals (f : Nat → Nat) (j : Nat) : List Value := (List.range j).map fun i => Value.int .i64 (f i : Int)
theorem dvals_succ (f : Nat → Nat) (j : Nat) : dvals f (j + 1) = dvals f j ++ [.int .i64 (f j : Int)] := by unfold dvals; rw [List.range_succ, List.map_append]; rfl
theorem dvals_congr {f g : Nat → Nat} {j : Nat} (h : ∀ i, i < j → f i = g i) : dvals f j = dvals g j := by
  unfold dvals
  exact List.map_congr_left fun i hi => by rw [h i (List.mem_range.1 hi)]
/-- A row of digits that grows. -/
structure Dg (B : Nat) (w0 : World) (f : Nat → Nat) (j : Nat) (v : Value) (w : World) : Prop where
  row : w.ownsRow B 3 1 v j (dvals f j)
  bel : Below B w0 w
  size : B ≤ w.heap.size
theorem Dg.nil (w : World) (f : Nat → Nat) : Dg w.heap.size w f 0 (.slice none 0 0) w := ⟨World.ownsRow_nil _ _ _ _, Below.refl _ _, Nat.le_refl _⟩
theorem Dg.more {B : Nat} {w0 w w' : World} {f : Nat → Nat} {j : Nat} {v v' : Value} (h : Dg B w0 f j v w) (x : Nat) (hown : w'.ownsRow B 3 1 v' (j + 1) (dvals f j ++ [.int .i64 (x : Int)])) (o : Obj) (hg : (w.alloc o).grownBy w' v.ownBlock) : Dg B w0 (put f j x) (j + 1) v' w' := by
  have hb := (h.bel.alloc h.size o).grown hg (by simp; have := h.size; omega) (fun b hb => (World.ownsRow.lt (h.row.alloc o) b hb).1)
  refine ⟨?_, hb, Nat.le_trans (Nat.le_trans h.size (by simp)) hg.size⟩
  rw [dvals_succ, put_same, dvals_congr (g := f) (fun i hi => put_ne (by omega))]
  exact hown
theorem Dg.congr {B : Nat} {w0 w : World} {f g : Nat → Nat} {j : Nat} {v : Value} (h : Dg B w0 f j v w) (he : ∀ i, i < j → g i = f i) : Dg B w0 g j v w := ⟨by rw [dvals_congr he]; exact h.row, h.bel, h.size⟩
/-- What such a row reads as. -/
theorem Dg.reads {B : Nat} {w0 w : World} {f : Nat → Nat} {j : Nat} {v : Value} (h : Dg B w0 f j v w) (hj : j ≤ 100000) (hl : Ld f j) :
    ∃ a c, v = .slice a j c ∧ Rj w a j f ∧ j ≤ c ∧ c ≤ 9223372036854775807 ∧ Pl a c := by
  have hc := fun (g : Nat) (hg : v.ownBlock = some g) => World.ownsRow.cells h.row hg
  obtain ⟨_, ⟨e1, e2⟩ | ⟨g, cap, cur, rfl, hb, hg, hnc, hm, hs, ht⟩⟩ := h.row
  · subst e1
    obtain rfl : j = 0 := by first | exact e2 | (simp [dvals] at e2; omega)
    exact ⟨none, 0, rfl, Rj.nil _ _ _, by omega, by omega, Pl.none_⟩
  · refine ⟨some ⟨g, 0, none⟩, cap, rfl, ⟨hj, hl, fun _ => ⟨g, 0, rfl, lt_of_block hg, fun i hi => ?_⟩⟩, hnc, by unfold maxLen at hm; omega, Pl.some_ _ _⟩
    have t := hc g rfl i (.int .i64 (f i)) (by simp [dvals, hi])
    by_cases h0 : i = 0 <;> simpa [Addr.add, h0] using t
/-- The row is the call's own. -/
theorem Dg.fresh {B : Nat} {w0 w : World} {f : Nat → Nat} {j k c : Nat} {a : Option Addr} (h : Dg B w0 f j (.slice a k c) w) : ∀ b off, a = some ⟨b, off, none⟩ → B ≤ b := by
  intro b off e
  obtain ⟨_, ⟨e1, _⟩ | ⟨g, cap, cur, e1, hb, _⟩⟩ := h.row
  · injection e1 with e2
    rw [e] at e2
    cases e2
  · injection e1 with e2
    rw [e] at e2
    injection e2 with e3
    injection e3 with e4
    omega
theorem Dg.some {B : Nat} {w0 w : World} {f : Nat → Nat} {j k c : Nat} {a : Option Addr} (h : Dg B w0 f j (.slice a k c) w) (hj : 0 < j) : ∃ b off, a = some ⟨b, off, none⟩ := by
  obtain ⟨_, ⟨_, e2⟩ | ⟨g, cap, cur, e1, _⟩⟩ := h.row
  · omega
  · injection e1 with e2
    exact ⟨g, 0, e2⟩
/-- A result that is a number, in a row of the call's own that isn't nil. -/
def NtG (K n : Nat) (w : World) (e : Ending) (w' : World) : Prop := ∃ a k c, e = .returned (.slice a k c) ∧ Nt w' a k c n ∧ Below w.heap.size w w' ∧ (∀ b off, a = some ⟨b, off, none⟩ → w.heap.size ≤ b) ∧ (0 < K → ∃ b off, a = some ⟨b, off, none⟩)
theorem NtG.weak {K n : Nat} {w w' : World} {e : Ending} (h : NtG K n w e w') : NtPost n w e w' := by
  obtain ⟨a, k, c, h1, h2, h3, _⟩ := h
  exact ⟨a, k, c, h1, h2, h3⟩
/-- A result that is a number, in a row of the call's own. -/
def NtF (n : Nat) (w : World) (e : Ending) (w' : World) : Prop := ∃ a k c, e = .returned (.slice a k c) ∧ Nt w' a k c n ∧ Below w.heap.size w w' ∧ ∀ b off, a = some ⟨b, off, none⟩ → w.heap.size ≤ b
theorem NtF.weak {n : Nat} {w w' : World} {e : Ending} (h : NtF n w e w') : NtPost n w e w' := by
  obtain ⟨a, k, c, h1, h2, h3, _⟩ := h
  exact ⟨a, k, c, h1, h2, h3⟩
end Go.Proofs.YtchdfekajjeflaaGreatDoor
namespace Go.Proofs.YtchdfekajjeflaaGreatDoor
open Go.RowKit

def dig (n i : Nat) : Nat := n / tp i % 1000000000
theorem dig_sum (n : Nat) : ∀ j, Tn (dig n) j + n / tp j * tp j = n
  | 0 => by rw [Tn_zero, tp_zero]; omega
  | j + 1 => by
    have h := dig_sum n j
    have e : n / (tp j * 1000000000) = n / tp j / 1000000000 := (Nat.div_div_eq_div_mul _ _ _).symm
    have d := Nat.div_add_mod (n / tp j) 1000000000
    rw [Tn_succ, tp_succ, e]
    show Tn (dig n) j + n / tp j % 1000000000 * tp j + _ = n
    generalize n / tp j = q at *
    generalize Tn (dig n) j = s at *
    generalize q / 1000000000 = u at *
    generalize q % 1000000000 = r at *
    generalize tp j = t at *
    grind
theorem dig_lt (n : Nat) (k : Nat) : Ld (dig n) k := fun _ _ => Nat.mod_lt _ (by decide)
theorem dig_done {n j : Nat} (h : n / tp j = 0) : Tn (dig n) j = n := by
  have := dig_sum n j
  rw [h] at this
  omega
theorem dig_top {n j : Nat} (h : n / tp j = 0) (hp : 0 < j → 0 < n / tp (j - 1)) : Tod (dig n) j := by
  rcases Nat.eq_zero_or_pos j with e | e
  · exact .inl e
  · refine .inr ?_
    obtain ⟨m, rfl⟩ : ∃ m, j = m + 1 := ⟨j - 1, by omega⟩
    have p := hp e
    rw [Nat.add_sub_cancel] at p ⊢
    rw [tp_succ, ← Nat.div_div_eq_div_mul] at h
    show n / tp m % 1000000000 ≠ 0
    omega
theorem tp_three : tp 3 = 1000000000000000000000000000 := by rw [tp_succ, tp_succ, tp_one]
set_option maxRecDepth 100000 in
set_option maxHeartbeats 1000000 in
theorem nsmall_c (n : Nat) (w : World) (hn : n < 9223372036854775808) : Calls Tryz.prog 31 #[.int .i64 n] w (NtPost n w) := by
  obtain ⟨i0, hi, hz0, hz1, hz2⟩ := info_int
  have HN := Lib.hid hn
  clear hn
  go_enter Tryz.func31, Tryz.ntmps31
  go_wp2
  go_loopw [0, 3] (fun x v wr => ∃ j q : Nat, j ≤ 3 ∧ x = .int .i64 q ∧ q < 9223372036854775808 ∧ Hid (n / tp j = q ∧ (0 < j → 0 < n / tp (j - 1)) ∧ Dg w.heap.size w (dig n) j v wr)) (fun x _ _ => (intOf x).toNat)
  case atStart => exact ⟨0, n, by omega, rfl, HN.out, by rw [tp_zero, Nat.div_one], by omega, Dg.nil w _⟩
  case round =>
    obtain ⟨j, q, hj, rfl, hq9, hR⟩ := hrel
    rcases Nat.eq_zero_or_pos q with e | e
    · subst e
      obtain ⟨a, c, rfl, h1, h2, h3, h4⟩ := hR.out.2.2.reads (by omega) (dig_lt n j)
      have RR : Hid (NtPost n w (.returned (.slice a j c)) wr) := ⟨a, j, c, rfl, ⟨dig n, h1, h2, h3, dig_top hR.out.1 hR.out.2.1, dig_done hR.out.1, h4⟩, hR.out.2.2.bel⟩
      clear h1 h2 h3 h4
      go_wp2
      go_ret
      exact RR.out
    · have hj2 : j < 3 := by
        have h := hR.out.1
        have t : tp j ≤ n := by
          rcases Nat.lt_or_ge n (tp j) with l | l
          · rw [Nat.div_eq_of_lt l] at h; omega
          · exact l
        refine tp_lt ?_
        rw [tp_three]
        have := HN.out
        omega
      have hp : (0 : Int) < (q : Int) := by omega
      obtain ⟨q2, hq2⟩ : ∃ q2, q / 1000000000 = q2 := ⟨_, rfl⟩
      obtain ⟨r, hr⟩ : ∃ r, q % 1000000000 = r := ⟨_, rfl⟩
      have e1 : (q : Int).tdiv 1000000000 = (q2 : Int) := by rw [Int.tdiv_eq_ediv_of_nonneg (by omega)]; omega
      have e2 : (q : Int).tmod 1000000000 = (r : Int) := by rw [Int.tmod_eq_emod_of_nonneg (by omega)]; omega
      have hr9 : r < 1000000000 := by omega
      have hq29 : q2 < 9223372036854775808 := by omega
      have HM : Hid (q2 < q) := by unfold Hid; omega
      have hD := Lib.hid hR.out.2.2
      have HQ : Hid (n / tp (j + 1) = q2 ∧ dig n j = r ∧ 0 < n / tp j) := by
        refine ⟨by rw [tp_succ, ← Nat.div_div_eq_div_mul, hR.out.1, hq2], ?_, by rw [hR.out.1]; exact e⟩
        show n / tp j % 1000000000 = r
        rw [hR.out.1, hr]
      clear hq2 hr hR
      go_wp2_with (at_builtin; refine wpList_append_own _ rfl _ _ 48 rfl w.heap.size 3 i0 (.int .i64 0) 1 8 Tryz.underlying48 hi hz0 hz1 hz2 rfl (by decide) _ _ _ rfl (hD.out.row.alloc _) ⟨wr.heap.size, 0, none⟩ 1 1 [.int .i64 (r : Int)] rfl rfl ?c1 ?c2 ?c3 ?c4 ?c5 ?_)
      case c1 =>
        intro i u hu
        match i, hu with
        | 0, hu => simp at hu; subst hu; simp [Addr.add]
      case c2 => intro u hu; simp at hu; subst hu; rfl
      case c3 => unfold maxLen; omega
      case c4 => omega
      case c5 => have := hD.out.size; simp; omega
      intro v' w1 hown' hgrow _
      have hD' : Hid (Dg w.heap.size w (dig n) (j + 1) v' w1) := (hD.out.more r hown' _ hgrow).congr fun i hi => by
        by_cases ei : i = j
        · subst ei; rw [put_same]; exact HQ.out.2.1
        · rw [put_ne ei]
      clear hown' hgrow hD
      go_wp2
      go_roundw
      case rel => exact ⟨j + 1, q2, by omega, by go_num, hq29, HQ.out.1, by rw [Nat.add_sub_cancel]; exact fun _ => HQ.out.2.2, hD'.out⟩
      case measure => simp [intOf]; have := HM.out; omega
end Go.Proofs.YtchdfekajjeflaaGreatDoor
namespace Go.Proofs.YtchdfekajjeflaaGreatDoor
open Go.RowKit

def NtTrim (a : Option Addr) (c n : Nat) (w : World) (e : Ending) (w' : World) : Prop := ∃ m, e = .returned (.slice a m c) ∧ Nt w' a m c n ∧ w = w'
set_option maxHeartbeats 1000000 in
theorem ntrim_c (a : Option Addr) (k c : Nat) (f : Nat → Nat) (w : World) (h : Rj w a k f) (hk : k ≤ c) (hc : c ≤ 9223372036854775807) (ha : Pl a c) :
    Calls Tryz.prog 51 #[.slice a k c] w (NtTrim a c (Tn f k) w) := by
  have H := Lib.hid h
  have hk2 := h.1
  clear h
  go_enter Tryz.func51, Tryz.ntmps51
  go_wp2
  go_loop [3] (fun i => ∃ m : Nat, m ≤ k ∧ i = .int .i64 m ∧ Hid (Tn f m = Tn f k)) (fun i => (intOf i).toNat)
  case atStart => exact ⟨k, Nat.le_refl _, rfl, rfl⟩
  case round =>
    obtain ⟨m, hm, rfl, hS⟩ := hrel
    rcases Nat.eq_zero_or_pos m with e | e
    · subst e
      go_wp2
      go_ret
      exact ⟨0, rfl, by rw [← hS.out]; exact Nt.zero _ _ _ hc ha, rfl⟩
    · obtain ⟨p, rfl⟩ : ∃ p, m = p + 1 := ⟨m - 1, by omega⟩
      obtain ⟨b, off, rfl, hb, hcell⟩ := H.out.at_ (show p < k by omega)
      have e1 : ((p + 1 : Nat) : Int) - 1 = (p : Int) := by omega
      have hpk : (p : Int) < (k : Int) := by omega
      have HS := Lib.hid (Tn_succ f p)
      by_cases h0 : f p = 0
      · rw [h0] at hcell HS
        have HS2 : Hid (Tn f p = Tn f k) := by unfold Hid; rw [← hS.out, HS.out]; omega
        go_wp2
        go_round
        case rel => exact ⟨p, by omega, by go_num, HS2⟩
        case measure => simp [intOf]; try omega
      · have HT : Hid (Tod f (p + 1)) := .inr (by simpa using h0)
        have d : ((f p : Int) == 0) = false := by rw [beq_eq_false_iff_ne]; omega
        have d' : (f p == 0) = false := by rw [beq_eq_false_iff_ne]; exact h0
        generalize f p = x at *
        go_wp2
        go_ret
        exact ⟨p + 1, rfl, ⟨f, H.out.low hm, by omega, hc, HT.out, hS.out, ha⟩, rfl⟩
set_option maxRecDepth 100000 in
set_option maxHeartbeats 2000000 in
theorem norder_c (a1 a2 : Option Addr) (k1 k2 c1 c2 n1 n2 : Nat) (w : World) (h1 : Nt w a1 k1 c1 n1) (h2 : Nt w a2 k2 c2 n2) :
    Calls Tryz.prog 73 #[.slice a1 k1 c1, .slice a2 k2 c2] w fun e w' => e = .returned (.int .i64 (sgn n1 n2)) ∧ ∃ q, w' = w.drewN q := by
  obtain ⟨f, r1, _, _, t1, s1, _⟩ := h1
  obtain ⟨g, r2, _, _, t2, s2, _⟩ := h2
  have hk1 := r1.1
  have hk2 := r2.1
  by_cases hk : k1 = k2
  · subst hk
    have H1 := Lib.hid r1
    have H2 := Lib.hid r2
    have S1 := Lib.hid s1
    have S2 := Lib.hid s2
    clear r1 r2 t1 t2 s1 s2
    go_enter Tryz.func73, Tryz.ntmps73
    go_wp2
    go_loopw [5] (fun i wr => ∃ m : Nat, m ≤ k1 ∧ i = .int .i64 ((m : Int) - 1) ∧ Hid ((∀ j, m ≤ j → j < k1 → f j = g j) ∧ ∃ q, wr = w.drewN q)) (fun i _ => (intOf i + 1).toNat)
    case atStart => exact ⟨k1, Nat.le_refl _, rfl, fun j h1 h2 => by omega, 0, rfl⟩
    case round =>
      obtain ⟨m, hm, rfl, hR⟩ := hrel
      rcases Nat.eq_zero_or_pos m with e | e
      · subst e
        have E : Hid (n1 = n2) := by unfold Hid; rw [← S1.out, ← S2.out]; exact Tn_congr (fun j hj => hR.out.1 j (Nat.zero_le _) hj)
        go_wp2
        go_ret
        exact ⟨ret_int (by rw [E.out, sgn_eq]), hR.out.2⟩
      · obtain ⟨p, rfl⟩ : ∃ p, m = p + 1 := ⟨m - 1, by omega⟩
        obtain ⟨q, hq⟩ := hR.out.2
        have HB : Hid (Below w.heap.size w wr) := by unfold Hid; rw [hq]; exact bel_drewN _ _
        obtain ⟨b1, o1, rfl, _, g1⟩ := (H1.out.below HB.out).at_ (show p < k1 by omega)
        obtain ⟨b2, o2, rfl, _, g2⟩ := (H2.out.below HB.out).at_ (show p < k1 by omega)
        have hp : (p : Int) < (k1 : Int) := by omega
        have ei : ((p + 1 : Nat) : Int) - 1 = (p : Int) := by omega
        rw [ei]
        have HQ := Lib.hid hq
        clear hq
        by_cases hE : f p = g p
        · have NE : Hid (∀ j, p ≤ j → j < k1 → f j = g j) := fun j h1 h2 => by
            by_cases e : j = p
            · rw [e, hE]
            · exact hR.out.1 j (by omega) h2
          rw [← hE] at g2
          generalize f p = x at *
          go_wp2_with fail
          go_quiet (fail)
          have NX : Hid ((∀ j, p ≤ j → j < k1 → f j = g j) ∧ ∃ q, wr.drewN nq = w.drewN q) := ⟨NE.out, q + nq, by rw [HQ.out, drewN_drewN]⟩
          clear g1 g2
          go_wp2
          go_roundw
          case rel => exact ⟨p, by omega, by go_num, NX.out⟩
          case measure => simp [intOf]
        · have E : Hid (sgn n1 n2 = sgn (f p) (g p)) := by
            unfold Hid
            rw [← S1.out, ← S2.out]
            rcases Nat.lt_trichotomy (f p) (g p) with l | l | l
            · rw [sgn_lt l, sgn_lt (dcmp_lt H1.out.2.1 (by omega) l (fun j h1 h2 => hR.out.1 j (by omega) h2))]
            · exact absurd l hE
            · rw [sgn_gt l, sgn_gt (dcmp_lt H2.out.2.1 (by omega) l (fun j h1 h2 => (hR.out.1 j (by omega) h2).symm))]
          have hb : ((f p : Int) == (g p : Int)) = false := by rw [beq_eq_false_iff_ne]; omega
          have hb' : (f p == g p) = false := by rw [beq_eq_false_iff_ne]; exact hE
          generalize f p = x at *
          generalize g p = y at *
          rcases Nat.lt_or_ge x y with l | l
          · have l2 : (x : Int) < (y : Int) := by omega
            have F : Hid (sgn n1 n2 = -1) := by rw [E.out, sgn_lt l]; rfl
            clear hE l E
            go_wp2_with fail
            go_quiet (fail)
            go_wp2_with fail
            generalize hw1 : wr.drewN _ = w1
            have g1' : w1.cell? ⟨b1, o1 + p, none⟩ = some (.int .i64 x) := by rw [← hw1]; exact g1
            have g2' : w1.cell? ⟨b2, o2 + p, none⟩ = some (.int .i64 y) := by rw [← hw1]; exact g2
            have HW := Lib.hid hw1
            clear hw1 g1 g2
            go_quiet (fail)
            go_wp2
            go_ret
            exact ⟨ret_int F.out.symm, by rw [← HW.out, HQ.out]; exact ⟨_, by rw [drewN_drewN, drewN_drewN]⟩⟩
          · have l2 : ¬ (x : Int) < (y : Int) := by omega
            have F : Hid (sgn n1 n2 = 1) := by rw [E.out, sgn_gt (by omega)]; rfl
            clear hE l E
            go_wp2_with fail
            go_quiet (fail)
            go_wp2_with fail
            generalize hw1 : wr.drewN _ = w1
            have g1' : w1.cell? ⟨b1, o1 + p, none⟩ = some (.int .i64 x) := by rw [← hw1]; exact g1
            have g2' : w1.cell? ⟨b2, o2 + p, none⟩ = some (.int .i64 y) := by rw [← hw1]; exact g2
            have HW := Lib.hid hw1
            clear hw1 g1 g2
            go_quiet (fail)
            go_wp2
            go_ret
            exact ⟨ret_int F.out.symm, by rw [← HW.out, HQ.out]; exact ⟨_, by rw [drewN_drewN, drewN_drewN]⟩⟩
  · have hne : ((k1 : Int) == (k2 : Int)) = false := by rw [beq_eq_false_iff_ne]; omega
    have hne' : (k1 == k2) = false := by rw [beq_eq_false_iff_ne]; exact hk
    rcases Nat.lt_or_ge k1 k2 with l | l
    · have E : Hid (sgn n1 n2 = -1) := by unfold Hid; rw [← s1, ← s2]; exact sgn_lt (dlen_lt r1.2.1 t2 l)
      have l2 : (k1 : Int) < (k2 : Int) := by omega
      clear r1 r2 t1 t2 s1 s2 hk
      go_enter Tryz.func73, Tryz.ntmps73
      go_wp2
      go_ret
      exact ⟨ret_int E.out.symm, 0, rfl⟩
    · have E : Hid (sgn n1 n2 = 1) := by unfold Hid; rw [← s1, ← s2]; exact sgn_gt (dlen_lt r2.2.1 t1 (by omega))
      have l2 : ¬ (k1 : Int) < (k2 : Int) := by omega
      clear r1 r2 t1 t2 s1 s2 hk
      go_enter Tryz.func73, Tryz.ntmps73
      go_wp2
      go_ret
      exact ⟨ret_int E.out.symm, 0, rfl⟩
end Go.Proofs.YtchdfekajjeflaaGreatDoor
