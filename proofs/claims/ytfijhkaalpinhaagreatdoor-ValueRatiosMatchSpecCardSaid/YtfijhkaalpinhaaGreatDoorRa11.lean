/-
  Reading numbers of the reference: the arithmetic of blocks of nine digits.
  Decimal texts of numbers of the reference: the arithmetic.
  Rows of digits in memory: those that are read as numbers of the reference, and those that a call makes.
  Numbers of the reference: small numbers as digits.
-/
import Derived.Test.YtfijhkaalpinhaaGreatDoorRa01
import Derived.Test.YtfijhkaalpinhaaGreatDoorRa10
import Derived.Lib.AtoiAll
import Derived.Lib.Repeat
import Derived.Test.YtfijhkaalpinhaaGreatDoorRa02
namespace Go.Proofs.YtfijhkaalpinhaaGreatDoor

theorem val_split (l : List UInt8) (m q : Nat) (hq : q ≤ m) (hm : m ≤ l.length) : val (l.take m) = val (l.take q) * 10 ^ (m - q) + val ((l.take m).drop q) := by
  have h := List.take_append_drop q (l.take m)
  rw [List.take_take, Nat.min_eq_left hq] at h
  have e := val_append (l.take q) ((l.take m).drop q)
  rw [h] at e
  rw [e, List.length_drop, List.length_take, Nat.min_eq_left hm]
theorem digs_mem {l : List UInt8} (h : digs l = true) : ∀ c, c ∈ l → isDig c = true := List.all_eq_true.1 h
theorem digs_sub {l m : List UInt8} (h : digs l = true) (hs : ∀ c, c ∈ m → c ∈ l) : digs m = true := List.all_eq_true.2 fun c hc => digs_mem h c (hs c hc)
theorem digs_take {l : List UInt8} (h : digs l = true) (m : Nat) : digs (l.take m) = true := digs_sub h fun _ hc => List.mem_of_mem_take hc
theorem digs_drop {l : List UInt8} (h : digs l = true) (m : Nat) : digs (l.drop m) = true := digs_sub h fun _ hc => List.mem_of_mem_drop hc
theorem tp_ten (j : Nat) : tp j = 10 ^ (9 * j) := by rw [tp_pow, Nat.pow_mul]
theorem parse_digs : ∀ (l : List UInt8) (acc : Nat), digs l = true → acc * 10 ^ l.length + val l < 1844674407370955162 → Lib.parseUint10 acc l = .ok (acc * 10 ^ l.length + val l)
  | [], acc, _, _ => by simp [Lib.parseUint10, val]
  | c :: r, acc, h, hb => by
    have hx : isDig c = true ∧ digs r = true := by simpa [digs] using h
    have h1 := isDig_iff.1 hx.1
    have e : val (c :: r) = (c.toNat - 48) * 10 ^ r.length + val r := by
      have := val_append [c] r
      simpa [val] using this
    have e2 : acc * 10 ^ (c :: r).length + val (c :: r) = (acc * 10 + (c.toNat - 48)) * 10 ^ r.length + val r := by
      rw [e, List.length_cons, Nat.pow_succ, Nat.add_mul]
      have : acc * (10 ^ r.length * 10) = acc * 10 * 10 ^ r.length := by grind
      omega
    rw [e2] at hb ⊢
    have hp : 0 < 10 ^ r.length := Nat.pow_pos (by decide)
    have hle : (acc * 10 + (c.toNat - 48)) * 1 ≤ (acc * 10 + (c.toNat - 48)) * 10 ^ r.length := Nat.mul_le_mul_left _ hp
    rw [Lib.parseUint10, if_pos h1, if_neg (by omega), if_neg (by omega)]
    exact parse_digs r _ hx.2 hb
theorem atoi_digs {l : List UInt8} (h : digs l = true) (hne : l ≠ []) (hl : l.length ≤ 9) : Lib.atoiAll l = .ok (val l : Int) := by
  cases l with
  | nil => exact absurd rfl hne
  | cons c r =>
    have hx : isDig c = true ∧ digs r = true := by simpa [digs] using h
    have h1 := isDig_iff.1 hx.1
    have hv := val_lt h
    have h9 : 10 ^ (c :: r).length ≤ 10 ^ 9 := Nat.pow_le_pow_right (by decide) hl
    have hv9 : val (c :: r) < 1000000000 := Nat.lt_of_lt_of_le hv h9
    have hp : Lib.parseMag (c :: r) = .ok (val (c :: r)) := by
      unfold Lib.parseMag
      rw [if_neg (by simp)]
      have := parse_digs (c :: r) 0 h (by rw [Nat.zero_mul, Nat.zero_add]; omega)
      rw [Nat.zero_mul, Nat.zero_add] at this
      exact this
    have n43 : ¬ (c.toNat = 43 ∨ c.toNat = 45) := by omega
    have n45 : ¬ c.toNat = 45 := by omega
    unfold Lib.atoiAll
    have n4 : ¬ c.toNat = 43 := by omega
    simp only [n4, n45, or_self, if_false, not_false_eq_true, true_and, false_and]
    rw [hp]
    show (if 9223372036854775808 ≤ val (c :: r) then Lib.NumEnd.range else Lib.NumEnd.ok (val (c :: r) : Int)) = _
    rw [if_neg (by omega)]
/-- One block more. -/
theorem block_more {l : List UInt8} {m j s : Nat} (hd : digs l = true) (hm : m ≤ l.length) (hm0 : 0 < m) (h : val (l.take m) * tp j + s = val l) :
    val (l.take (m - 9)) * tp (j + 1) + (s + val ((l.take m).drop (m - 9)) * tp j) = val l ∧ val ((l.take m).drop (m - 9)) < 1000000000 := by
  have hs := val_split l m (m - 9) (by omega) hm
  have hl : ((l.take m).drop (m - 9)).length ≤ 9 := by rw [List.length_drop, List.length_take]; omega
  have hv := val_lt (digs_drop (digs_take hd m) (m - 9))
  have h9 : 10 ^ ((l.take m).drop (m - 9)).length ≤ 10 ^ 9 := Nat.pow_le_pow_right (by decide) hl
  refine ⟨?_, Nat.lt_of_lt_of_le hv h9⟩
  generalize val ((l.take m).drop (m - 9)) = x at *
  rw [tp_succ]
  rcases Nat.lt_or_ge m 9 with l9 | l9
  · have e0 : m - 9 = 0 := by omega
    have z : val (l.take (m - 9)) = 0 := by rw [e0]; rfl
    rw [z] at hs ⊢
    rw [Nat.zero_mul, Nat.zero_add] at hs ⊢
    rw [← hs, ← h]
    omega
  · have e9 : m - (m - 9) = 9 := by omega
    rw [e9] at hs
    rw [← h, hs]
    have : (10 : Nat) ^ 9 = 1000000000 := by decide
    rw [this]
    grind
end Go.Proofs.YtfijhkaalpinhaaGreatDoor
namespace Go.Proofs.YtfijhkaalpinhaaGreatDoor

def decB (n : Nat) : ByteArray := ⟨(Lib.decDigits n).toArray⟩
theorem decB_list (n : Nat) : (decB n).data.toList = Lib.decDigits n := by simp [decB]
theorem decB_size (n : Nat) : (decB n).size = (Lib.decDigits n).length := by simp [decB, ByteArray.size]
theorem dec_len : ∀ (k n : Nat), 0 < k → n < 10 ^ k → (Lib.decDigits n).length ≤ k
  | 0, _, h, _ => absurd h (by omega)
  | k + 1, n, _, h => by
    rw [Lib.decDigits.eq_def]
    split
    · simp
    · next hn =>
      have hk : 0 < k := by
        rcases Nat.eq_zero_or_pos k with e | e
        · subst e; simp at h; omega
        · exact e
      have := dec_len k (n / 10) hk (by rw [Nat.pow_succ] at h; omega)
      simp
      omega
theorem dec_pad : ∀ (k m d : Nat), 0 < m → d < 10 ^ k → Lib.decDigits (m * 10 ^ k + d) = Lib.decDigits m ++ padL k d
  | 0, m, d, _, h => by
    have : d = 0 := by simp at h; omega
    subst this
    simp [padL]
  | k + 1, m, d, hm, h => by
    have hp : 0 < 10 ^ k := Nat.pow_pos (by decide)
    have e : m * 10 ^ (k + 1) = m * 10 ^ k * 10 := by rw [Nat.pow_succ, Nat.mul_assoc]
    have hp2 : 1 ≤ m * 10 ^ k := Nat.mul_pos hm hp
    have e1 : (m * 10 ^ (k + 1) + d) / 10 = m * 10 ^ k + d / 10 := by omega
    have e2 : (m * 10 ^ (k + 1) + d) % 10 = d % 10 := by omega
    rw [Lib.decDigits.eq_def, dif_neg (by omega), e1, e2, dec_pad k m (d / 10) hm (by rw [Nat.pow_succ] at h; omega), padL_succ, List.append_assoc]
theorem pad_nul : ∀ k : Nat, padL k 0 = List.replicate k 48
  | 0 => rfl
  | k + 1 => by rw [padL_succ, Nat.zero_div, pad_nul k, List.replicate_succ']; rfl
theorem rep_zeros (c : Nat) : Lib.repeatL [48] c = List.replicate c 48 := by
  have := Lib.repeatL_replicate 48 1 c
  rw [Nat.mul_one] at this
  exact this
theorem pad_rep : ∀ (k d : Nat), 0 < k → d < 10 ^ k → Lib.repeatL [48] (k - (Lib.decDigits d).length) ++ Lib.decDigits d = padL k d
  | 0, _, h, _ => absurd h (by omega)
  | k + 1, d, _, h => by
    rw [Lib.decDigits.eq_def, padL_succ]
    split
    · next hd =>
      have e1 : d / 10 = 0 := by omega
      have e2 : d % 10 = d := by omega
      rw [e1, e2, pad_nul, rep_zeros]
      simp
    · next hd =>
      have hk : 0 < k := by
        rcases Nat.eq_zero_or_pos k with e | e
        · subst e; simp at h; omega
        · exact e
      have := pad_rep k (d / 10) hk (by rw [Nat.pow_succ] at h; omega)
      rw [List.length_append, List.length_singleton, Nat.add_sub_add_right, ← List.append_assoc, this]
theorem Tn_top {f : Nat → Nat} {k p : Nat} (h : Ld f k) (hp : p ≤ k) : Tn f k / tp p = Tn (fun j => f (p + j)) (k - p) := by
  have e := Tn_split f p (k - p)
  rw [Nat.add_sub_cancel' hp] at e
  rw [e, Nat.add_mul_div_left _ _ (tp_pos p), Nat.div_eq_of_lt (Tn_lt fun j hj => h j (by omega)), Nat.zero_add]
theorem Tn_digit {f : Nat → Nat} {k p : Nat} (h : Ld f k) (hp : p < k) : Tn f k / tp p = Tn f k / tp (p + 1) * 1000000000 + f p := by
  rw [Tn_top h (by omega), Tn_top h (show p + 1 ≤ k by omega)]
  obtain ⟨m, hm⟩ : ∃ m, k - p = m + 1 := ⟨k - p - 1, by omega⟩
  have e : k - (p + 1) = m := by omega
  rw [hm, e, Tn_front, Nat.add_zero, Nat.add_comm, Nat.mul_comm]
  have e2 : Tn (fun j => f (p + (j + 1))) m = Tn (fun j => f (p + 1 + j)) m := Tn_congr fun j _ => by rw [Nat.add_right_comm, Nat.add_assoc]
  rw [e2]
/-- The text with one digit more. -/
theorem dec_next {f : Nat → Nat} {k p : Nat} (h : Ld f k) (hp : p < k) (h0 : 0 < Tn f k / tp (p + 1)) :
    Lib.decDigits (Tn f k / tp p) = Lib.decDigits (Tn f k / tp (p + 1)) ++ Lib.repeatL [48] (9 - (Lib.decDigits (f p)).length) ++ Lib.decDigits (f p) := by
  have hd : f p < 10 ^ 9 := h p hp
  rw [Tn_digit h hp, List.append_assoc, pad_rep 9 (f p) (by decide) hd, ← dec_pad 9 _ _ h0 hd]
theorem Tn_last {f : Nat → Nat} {k : Nat} (h : Ld f k) (hk : 0 < k) : Tn f k / tp (k - 1) = f (k - 1) := by
  rw [Tn_top h (by omega), show k - (k - 1) = 1 by omega, Tn_one, Nat.add_zero]
theorem dec_short {n k : Nat} (hk : 0 < k) (h : n < tp k) : (Lib.decDigits n).length ≤ 9 * k := dec_len (9 * k) n (by omega) (by rw [← tp_ten]; exact h)
end Go.Proofs.YtfijhkaalpinhaaGreatDoor
namespace Go.Proofs.YtfijhkaalpinhaaGreatDoor
open Go.RowKit

theorem infoT : (Tryz.prog.info? 3).map (fun i => (i.zero, i.size, i.bytes)) = some (some (.int .i64 0), 1, 8) := by kernel_rfl
theorem info_int : ∃ i, Tryz.prog.info? 3 = some i ∧ i.zero = some (.int .i64 0) ∧ i.size = 1 ∧ i.bytes = 8 := by
  have h := infoT
  cases e : Tryz.prog.info? 3 with
  | none => rw [e] at h; cases h
  | some i => rw [e] at h; simp at h; exact ⟨i, rfl, h⟩
/-- A slice that reads as k digits. -/
def Rj (W : World) (a : Option Addr) (k : Nat) (f : Nat → Nat) : Prop :=
  k ≤ 100000 ∧ Ld f k ∧ (0 < k → ∃ b off, a = some ⟨b, off, none⟩ ∧ b < W.heap.size ∧ ∀ j, j < k → W.cell? ⟨b, off + j, none⟩ = some (.int .i64 (f j)))
theorem Rj.below {W W' : World} {a : Option Addr} {k : Nat} {f : Nat → Nat} (h : Rj W a k f) (hb : Below W.heap.size W W') : Rj W' a k f :=
  ⟨h.1, h.2.1, fun h0 => by
    obtain ⟨b, off, e, hl, hc⟩ := h.2.2 h0
    exact ⟨b, off, e, Nat.lt_of_lt_of_le hl hb.size, fun j hj => by rw [hb.cell (p := ⟨b, off + j, none⟩) hl]; exact hc j hj⟩⟩
theorem Rj.at_ {W : World} {a : Option Addr} {k : Nat} {f : Nat → Nat} (h : Rj W a k f) {j : Nat} (hj : j < k) :
    ∃ b off, a = some ⟨b, off, none⟩ ∧ b < W.heap.size ∧ W.cell? ⟨b, off + j, none⟩ = some (.int .i64 (f j)) := by
  obtain ⟨b, off, e, hl, hc⟩ := h.2.2 (by omega)
  exact ⟨b, off, e, hl, hc j hj⟩
theorem Rj.nil (W : World) (a : Option Addr) (f : Nat → Nat) : Rj W a 0 f := ⟨by omega, fun j hj => by omega, fun h => by omega⟩
theorem Rj.low {W : World} {a : Option Addr} {k m : Nat} {f : Nat → Nat} (h : Rj W a k f) (hm : m ≤ k) : Rj W a m f :=
  ⟨by have := h.1; omega, fun j hj => h.2.1 j (by omega), fun h0 => by
    obtain ⟨b, off, e, hl, hc⟩ := h.2.2 (by omega)
    exact ⟨b, off, e, hl, fun j hj => hc j (by omega)⟩⟩
/-- A slice without needless zeros that reads as a number. -/
def Nt (W : World) (a : Option Addr) (k c n : Nat) : Prop := ∃ f, Rj W a k f ∧ k ≤ c ∧ c ≤ 9223372036854775807 ∧ Tod f k ∧ Tn f k = n ∧ Pl a c
theorem Nt.below {W W' : World} {a : Option Addr} {k c n : Nat} (h : Nt W a k c n) (hb : Below W.heap.size W W') : Nt W' a k c n := by
  obtain ⟨f, h1, h2⟩ := h
  exact ⟨f, h1.below hb, h2⟩
theorem Nt.zero (W : World) (a : Option Addr) (c : Nat) (hc : c ≤ 9223372036854775807) (ha : Pl a c) : Nt W a 0 c 0 := ⟨fun _ => 0, Rj.nil _ _ _, by omega, hc, .inl rfl, rfl, ha⟩
theorem Nt.len {W : World} {a : Option Addr} {k c n K : Nat} (h : Nt W a k c n) (hn : n < tp K) : k ≤ K := by
  obtain ⟨f, _, _, _, ht, hs, _⟩ := h
  exact tod_len ht (by rw [hs]; exact hn)
theorem Nt.lt {W : World} {a : Option Addr} {k c n : Nat} (h : Nt W a k c n) : n < tp k := by
  obtain ⟨f, h1, _, _, _, hs, _⟩ := h
  rw [← hs]; exact Tn_lt h1.2.1
theorem Nt.pos {W : World} {a : Option Addr} {k c n : Nat} (h : Nt W a k c n) (hk : 0 < k) : tp (k - 1) ≤ n := by
  obtain ⟨f, _, _, _, ht, hs, _⟩ := h
  rw [← hs]; exact tod_ge ht hk
theorem Nt.nul {W : World} {a : Option Addr} {k c : Nat} (h : Nt W a k c 0) : k = 0 := by
  obtain ⟨f, _, _, _, ht, hs, _⟩ := h
  exact tod_zero ht hs
theorem Nt.one {W : World} {a : Option Addr} {k c n : Nat} (h : Nt W a k c n) (hn : 0 < n) : 0 < k := by
  rcases Nat.eq_zero_or_pos k with e | e
  · subst e
    have := h.lt
    rw [tp_zero] at this
    omega
  · exact e
/-- A result that is a number. -/
def NtPost (n : Nat) (w : World) (e : Ending) (w' : World) : Prop := ∃ a k c, e = .returned (.slice a k c) ∧ Nt w' a k c n ∧ Below w.heap.size w w'
/-- The first digits, as the values of a row. -/
def dvals (f : Nat → Nat) (j : Nat) : List Value := (List.range j).map fun i => Value.int .i64 (f i : Int)
theorem dvals_succ (f : Nat → Nat) (j : Nat) : dvals f (j + 1) = dvals f j ++ [.int .i64 (f j : Int)] := by unfold dvals; rw [List.range_succ, List.map_append]; rfl
theorem dvals_congr {f g : Nat → Nat} {j : Nat} (h : ∀ i, i < j → f i = g i) : dvals f j = dvals g j := by
  unfold dvals
  exact List.map_congr_left fun i hi => by rw [h i (List.mem_range.1 hi)]
/-- A row of digits that grows. -/
structure Dg (B : Nat) (w0 : World) (f : Nat → Nat) (j : Nat) (v : Value) (w : World) : Prop where
  row : w.ownsRow B 3 1 v j (dvals f j)
  bel : Below B w0 w
  size : B ≤ w.heap.size
theorem Dg.nil (w : World) (f : Nat → Nat) : Dg w.heap.size w f 0 (.slice none 0 0) w := ⟨World.ownsRow_nil _ _ _ _, Below.refl _ _, Nat.le_refl _⟩
theorem Dg.more {B : Nat} {w0 w w' : World} {f : Nat → Nat} {j : Nat} {v v' : Value} (h : Dg B w0 f j v w) (x : Nat) (hown : w'.ownsRow B 3 1 v' (j + 1) (dvals f j ++ [.int .i64 (x : Int)])) (o : Obj) (hg : (w.alloc o).grownBy w' v.ownBlock) : Dg B w0 (put f j x) (j + 1) v' w' := by
  have hb := (h.bel.alloc h.size o).grown hg (by simp; have := h.size; omega) (fun b hb => (World.ownsRow.lt (h.row.alloc o) b hb).1)
  refine ⟨?_, hb, Nat.le_trans (Nat.le_trans h.size (by simp)) hg.size⟩
  rw [dvals_succ, put_same, dvals_congr (g := f) (fun i hi => put_ne (by omega))]
  exact hown
theorem Dg.congr {B : Nat} {w0 w : World} {f g : Nat → Nat} {j : Nat} {v : Value} (h : Dg B w0 f j v w) (he : ∀ i, i < j → g i = f i) : Dg B w0 g j v w := ⟨by rw [dvals_congr he]; exact h.row, h.bel, h.size⟩
/-- What such a row reads as. -/
theorem Dg.reads {B : Nat} {w0 w : World} {f : Nat → Nat} {j : Nat} {v : Value} (h : Dg B w0 f j v w) (hj : j ≤ 100000) (hl : Ld f j) :
    ∃ a c, v = .slice a j c ∧ Rj w a j f ∧ j ≤ c ∧ c ≤ 9223372036854775807 ∧ Pl a c := by
  have hc := fun (g : Nat) (hg : v.ownBlock = some g) => World.ownsRow.cells h.row hg
  obtain ⟨_, ⟨e1, e2⟩ | ⟨g, cap, cur, rfl, hb, hg, hnc, hm, hs, ht⟩⟩ := h.row
  · subst e1
    obtain rfl : j = 0 := by first | exact e2 | (simp [dvals] at e2; omega)
    exact ⟨none, 0, rfl, Rj.nil _ _ _, by omega, by omega, Pl.none_⟩
  · refine ⟨some ⟨g, 0, none⟩, cap, rfl, ⟨hj, hl, fun _ => ⟨g, 0, rfl, lt_of_block hg, fun i hi => ?_⟩⟩, hnc, by unfold maxLen at hm; omega, Pl.some_ _ _⟩
    have t := hc g rfl i (.int .i64 (f i)) (by simp [dvals, hi])
    by_cases h0 : i = 0 <;> simpa [Addr.add, h0] using t
/-- The row is the call's own. -/
theorem Dg.fresh {B : Nat} {w0 w : World} {f : Nat → Nat} {j k c : Nat} {a : Option Addr} (h : Dg B w0 f j (.slice a k c) w) : ∀ b off, a = some ⟨b, off, none⟩ → B ≤ b := by
  intro b off e
  obtain ⟨_, ⟨e1, _⟩ | ⟨g, cap, cur, e1, hb, _⟩⟩ := h.row
  · injection e1 with e2
    rw [e] at e2
    cases e2
  · injection e1 with e2
    rw [e] at e2
    injection e2 with e3
    injection e3 with e4
    omega
theorem Dg.some {B : Nat} {w0 w : World} {f : Nat → Nat} {j k c : Nat} {a : Option Addr} (h : Dg B w0 f j (.slice a k c) w) (hj : 0 < j) : ∃ b off, a = some ⟨b, off, none⟩ := by
  obtain ⟨_, ⟨_, e2⟩ | ⟨g, cap, cur, e1, _⟩⟩ := h.row
  · omega
  · injection e1 with e2
    exact ⟨g, 0, e2⟩
/-- A result that is a number, in a row of the call's own that isn't nil. -/
def NtG (K n : Nat) (w : World) (e : Ending) (w' : World) : Prop := ∃ a k c, e = .returned (.slice a k c) ∧ Nt w' a k c n ∧ Below w.heap.size w w' ∧ (∀ b off, a = some ⟨b, off, none⟩ → w.heap.size ≤ b) ∧ (0 < K → ∃ b off, a = some ⟨b, off, none⟩)
theorem NtG.weak {K n : Nat} {w w' : World} {e : Ending} (h : NtG K n w e w') : NtPost n w e w' := by
  obtain ⟨a, k, c, h1, h2, h3, _⟩ := h
  exact ⟨a, k, c, h1, h2, h3⟩
/-- A result that is a number, in a row of the call's own. -/
def NtF (n : Nat) (w : World) (e : Ending) (w' : World) : Prop := ∃ a k c, e = .returned (.slice a k c) ∧ Nt w' a k c n ∧ Below w.heap.size w w' ∧ ∀ b off, a = some ⟨b, off, none⟩ → w.heap.size ≤ b
theorem NtF.weak {n : Nat} {w w' : World} {e : Ending} (h : NtF n w e w') : NtPost n w e w' := by
  obtain ⟨a, k, c, h1, h2, h3, _⟩ := h
  exact ⟨a, k, c, h1, h2, h3⟩
end Go.Proofs.YtfijhkaalpinhaaGreatDoor
namespace Go.Proofs.YtfijhkaalpinhaaGreatDoor
open Go.RowKit

def dig (n i : Nat) : Nat := n / tp i % 1000000000
theorem dig_sum (n : Nat) : ∀ j, Tn (dig n) j + n / tp j * tp j = n
  | 0 => by rw [Tn_zero, tp_zero]; omega
  | j + 1 => by
    have h := dig_sum n j
    have e : n / (tp j * 1000000000) = n / tp j / 1000000000 := (Nat.div_div_eq_div_mul _ _ _).symm
    have d := Nat.div_add_mod (n / tp j) 1000000000
    rw [Tn_succ, tp_succ, e]
    show Tn (dig n) j + n / tp j % 1000000000 * tp j + _ = n
    generalize n / tp j = q at *
    generalize Tn (dig n) j = s at *
    generalize q / 1000000000 = u at *
    generalize q % 1000000000 = r at *
    generalize tp j = t at *
    grind
theorem dig_lt (n : Nat) (k : Nat) : Ld (dig n) k := fun _ _ => Nat.mod_lt _ (by decide)
theorem dig_done {n j : Nat} (h : n / tp j = 0) : Tn (dig n) j = n := by
  have := dig_sum n j
  rw [h] at this
  omega
theorem dig_top {n j : Nat} (h : n / tp j = 0) (hp : 0 < j → 0 < n / tp (j - 1)) : Tod (dig n) j := by
  rcases Nat.eq_zero_or_pos j with e | e
  · exact .inl e
  · refine .inr ?_
    obtain ⟨m, rfl⟩ : ∃ m, j = m + 1 := ⟨j - 1, by omega⟩
    have p := hp e
    rw [Nat.add_sub_cancel] at p ⊢
    rw [tp_succ, ← Nat.div_div_eq_div_mul] at h
    show n / tp m % 1000000000 ≠ 0
    omega
theorem tp_three : tp 3 = 1000000000000000000000000000 := by rw [tp_succ, tp_succ, tp_one]
set_option maxRecDepth 100000 in
set_option maxHeartbeats 1000000 in
theorem nsmall_c (n : Nat) (w : World) (hn : n < 9223372036854775808) : Calls Tryz.prog 59 #[.int .i64 n] w (NtPost n w) := by
  obtain ⟨i0, hi, hz0, hz1, hz2⟩ := info_int
  have HN := Lib.hid hn
  clear hn
  go_enter Tryz.func59, Tryz.ntmps59
  go_wp2
  go_loopw [0, 3] (fun x v wr => ∃ j q : Nat, j ≤ 3 ∧ x = .int .i64 q ∧ q < 9223372036854775808 ∧ Hid (n / tp j = q ∧ (0 < j → 0 < n / tp (j - 1)) ∧ Dg w.heap.size w (dig n) j v wr)) (fun x _ _ => (intOf x).toNat)
  case atStart => exact ⟨0, n, by omega, rfl, HN.out, by rw [tp_zero, Nat.div_one], by omega, Dg.nil w _⟩
  case round =>
    obtain ⟨j, q, hj, rfl, hq9, hR⟩ := hrel
    rcases Nat.eq_zero_or_pos q with e | e
    · subst e
      obtain ⟨a, c, rfl, h1, h2, h3, h4⟩ := hR.out.2.2.reads (by omega) (dig_lt n j)
      have RR : Hid (NtPost n w (.returned (.slice a j c)) wr) := ⟨a, j, c, rfl, ⟨dig n, h1, h2, h3, dig_top hR.out.1 hR.out.2.1, dig_done hR.out.1, h4⟩, hR.out.2.2.bel⟩
      clear h1 h2 h3 h4
      go_wp2
      go_ret
      exact RR.out
    · have hj2 : j < 3 := by
        have h := hR.out.1
        have t : tp j ≤ n := by
          rcases Nat.lt_or_ge n (tp j) with l | l
          · rw [Nat.div_eq_of_lt l] at h; omega
          · exact l
        refine tp_lt ?_
        rw [tp_three]
        have := HN.out
        omega
      have hp : (0 : Int) < (q : Int) := by omega
      obtain ⟨q2, hq2⟩ : ∃ q2, q / 1000000000 = q2 := ⟨_, rfl⟩
      obtain ⟨r, hr⟩ : ∃ r, q % 1000000000 = r := ⟨_, rfl⟩
      have e1 : (q : Int).tdiv 1000000000 = (q2 : Int) := by rw [Int.tdiv_eq_ediv_of_nonneg (by omega)]; omega
      have e2 : (q : Int).tmod 1000000000 = (r : Int) := by rw [Int.tmod_eq_emod_of_nonneg (by omega)]; omega
      have hr9 : r < 1000000000 := by omega
      have hq29 : q2 < 9223372036854775808 := by omega
      have HM : Hid (q2 < q) := by unfold Hid; omega
      have hD := Lib.hid hR.out.2.2
      have HQ : Hid (n / tp (j + 1) = q2 ∧ dig n j = r ∧ 0 < n / tp j) := by
        refine ⟨by rw [tp_succ, ← Nat.div_div_eq_div_mul, hR.out.1, hq2], ?_, by rw [hR.out.1]; exact e⟩
        show n / tp j % 1000000000 = r
        rw [hR.out.1, hr]
      clear hq2 hr hR
      go_wp2_with (at_builtin; refine wpList_append_own _ rfl _ _ 50 rfl w.heap.size 3 i0 (.int .i64 0) 1 8 Tryz.underlying50 hi hz0 hz1 hz2 rfl (by decide) _ _ _ rfl (hD.out.row.alloc _) ⟨wr.heap.size, 0, none⟩ 1 1 [.int .i64 (r : Int)] rfl rfl ?c1 ?c2 ?c3 ?c4 ?c5 ?_)
      case c1 =>
        intro i u hu
        match i, hu with
        | 0, hu => simp at hu; subst hu; simp [Addr.add]
      case c2 => intro u hu; simp at hu; subst hu; rfl
      case c3 => unfold maxLen; omega
      case c4 => omega
      case c5 => have := hD.out.size; simp; omega
      intro v' w1 hown' hgrow _
      have hD' : Hid (Dg w.heap.size w (dig n) (j + 1) v' w1) := (hD.out.more r hown' _ hgrow).congr fun i hi => by
        by_cases ei : i = j
        · subst ei; rw [put_same]; exact HQ.out.2.1
        · rw [put_ne ei]
      clear hown' hgrow hD
      go_wp2
      go_roundw
      case rel => exact ⟨j + 1, q2, by omega, by go_num, hq29, HQ.out.1, by rw [Nat.add_sub_cancel]; exact fun _ => HQ.out.2.2, hD'.out⟩
      case measure => simp [intOf]; have := HM.out; omega
end Go.Proofs.YtfijhkaalpinhaaGreatDoor
