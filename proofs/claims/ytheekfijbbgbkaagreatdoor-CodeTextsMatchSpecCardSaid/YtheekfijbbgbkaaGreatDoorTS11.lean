/-
  Package code and its reference: known; Above.
  The reference of package code: meeting, Meeting.
  The reference of package code: lines, Text.
  The reference of package code: Text.
-/
import Derived.Test.YtheekfijbbgbkaaGreatDoorTS10
import Derived.Lib.AppendIntMem
import Derived.Lib.QuietBelow
import Derived.Lib.ItoaLen
import Derived.Lib.ItoaNum
import Derived.Lib.Repeat
import Derived.Lib.SmallJoins
import Derived.Deep.RegionHeld3
namespace Go.Proofs.YtheekfijbbgbkaaGreatDoor
open Go.RowKit Go.WideMaps Go.Maps

theorem fnd_S {l : List Nd} (F : Fr l) {c r : Int} (h : FndP l c r) : (r < 0 ∧ hasS l c = false) ∨ (0 ≤ r ∧ hasS l c = true) := by
  rcases h with ⟨rfl, h⟩ | ⟨j, hj, rfl, e⟩
  · refine .inl ⟨by omega, ?_⟩
    rw [Bool.eq_false_iff]
    intro q
    obtain ⟨k, rfl, j, hj, e⟩ := (hasS_iff F).1 q
    exact h j hj e
  · refine .inr ⟨by omega, (hasS_iff F).2 ?_⟩
    obtain ⟨d, hd, hh⟩ := nd_has F hj
    exact ⟨d, by rw [← e, hd], hh⟩
/-- Above's answer. -/
def AvP (l : List Nd) (a : Int) (w : World) (e : Ending) (w' : World) : Prop :=
  (withS l [a] = 0 ∧ ∃ s c, e = .returned (.tuple #[.slice s (lev l a.toNat - 1) c, .int .i64 0]) ∧ Rd w' s (abL (par l) a.toNat (lev l a.toNat - 1)) ∧ Below w.heap.size w w') ∨
  (withS l [a] ≠ 0 ∧ e = .returned (.tuple #[.slice none 0 0, .int .i64 (withS l [a])]) ∧ Below w.heap.size w w')
theorem with_one {l : List Nd} {a : Int} (h : withS l [a] = 0) : frS l = 0 ∧ ∃ k : Nat, a = k ∧ Has l k := by
  obtain ⟨h0, hh⟩ := withS_zero h
  exact ⟨h0, (hasS_iff (fr_of h0)).1 (hh 0 (by simp))⟩
end Go.Proofs.YtheekfijbbgbkaaGreatDoor
namespace Go.Proofs.YtheekfijbbgbkaaGreatDoor
open Go.RowKit Go.WideMaps Go.Maps

theorem least_of {P : Nat → Prop} : ∀ {n : Nat}, (∃ k, k < n ∧ P k) → ∃ k, k < n ∧ P k ∧ ∀ j, j < k → ¬ P j
  | 0, ⟨k, h, _⟩ => by omega
  | n + 1, ⟨k, h, hp⟩ => by
    by_cases q : ∃ k, k < n ∧ P k
    · obtain ⟨k', h1, h2, h3⟩ := least_of q
      exact ⟨k', by omega, h2, h3⟩
    · have e : k = n := by
        by_cases e : k = n
        · exact e
        · exact absurd ⟨k, by omega, hp⟩ q
      subst e
      exact ⟨k, by omega, hp, fun j hj hP => q ⟨j, hj, hP⟩⟩
theorem index_c (a : Option Addr) (c : Nat) (Y : List Int) (x : Int) (w : World) (h : Rd w a Y) (h0 : 0 < Y.length) :
    Calls Tryz.prog 62 #[.slice a Y.length c, .int .i64 x] w fun e w' => w' = w ∧ ∃ r : Int, e = .returned (.int .i64 r) ∧ ((r < 0 ∧ ∀ j, j < Y.length → fn Y j ≠ x) ∨ ∃ k, k < Y.length ∧ r = (k : Int) ∧ fn Y k = x) := by
  obtain ⟨b, off, rfl, _, hc⟩ := h.2 h0
  refine (Tryz.slices_Index_int b off Y.length c Y x w (Nat.le_refl _) h.1 hc).mono ?_
  rintro e w' ⟨rfl, rfl⟩
  refine ⟨rfl, _, rfl, ?_⟩
  by_cases q : ∃ k, k < Y.length ∧ fn Y k = x
  · obtain ⟨k, h1, h2, h3⟩ := least_of q
    exact .inr ⟨k, h1, Lib.idxOf_hit Y Y.length k x h1 (Nat.le_refl _) h2 h3, h2⟩
  · have hn : ∀ j, j < Y.length → fn Y j ≠ x := fun j hj e => q ⟨j, hj, e⟩
    exact .inl ⟨by rw [Lib.idxOf_miss Y Y.length x hn]; omega, hn⟩
/-- The path of a code with 0 behind it. -/
theorem pth_zero {p lv : Nat → Nat} {H : Nat → Prop} (T : Tree p lv H) {c : Nat} (hc : In H c) : pth p c (lv c) ++ [0] = pth p c (lv c + 1) := by
  rw [pth_succ]
  have h1 := T.lvIt (k := lv c) hc
  have h2 := (T.lv0 (T.inIt (k := lv c) hc)).1 (by omega)
  rw [h2]
  rfl
theorem meet_at {p lv : Nat → Nat} {H : Nat → Prop} (T : Tree p lv H) {a b i k : Nat} (ha : In H a) (hb : In H b) (hi : i ≤ lv a) (hk : k ≤ lv b) (e : it p k b = it p i a) (hno : ∀ j, j < i → ∀ q, q ≤ lv b → it p q b ≠ it p j a) : MeetIs p lv a b (it p i a) (i + k) := by
  have h1 := T.lvIt (k := i) ha
  have h2 := T.lvIt (k := k) hb
  rw [e] at h2
  refine ⟨⟨i, hi, rfl⟩, ⟨k, hk, e⟩, by omega, ?_⟩
  rintro x ⟨j, hj, rfl⟩ ⟨q, hq, e2⟩
  rw [T.lvIt ha]
  by_cases hji : j < i
  · exact absurd e2 (hno j hji q hq)
  · omega
def RmP (l : List Nd) (a b : Nat) (w : World) (e : Ending) (w' : World) : Prop := ∃ m d : Nat, e = .returned (.tuple #[.int .i64 (m : Nat), .int .i64 (d : Nat)]) ∧ MeetIs (par l) (lev l) a b m d ∧ Below w.heap.size w w'
theorem mtS_one {l : List Nd} (F : Fr l) {a b m d : Nat} (ha : Has l a) (hb : Has l b) (h : MeetIs (par l) (lev l) a b m d) : m = (mtS l a b).1 ∧ d = (mtS l a b).2 :=
  F.tree.meetOne (.inr ha) h (F.tree.mtF_is (.inr ha) (.inr hb) (Nat.le_refl _))
theorem CheckFrame_c (sa : Option Addr) (c : Nat) (l : List Nd) (w : World) (hl : RdN w sa l) (hf : Fits l) :
    Calls Tryz.prog 12 #[.slice sa l.length c] w (IntP (frS l) w) := by
  have HC := Lib.hid (frameOf_c sa c l w hl hf)
  clear hl hf
  obtain ⟨f, hfl⟩ : ∃ f, frS l = f := ⟨_, rfl⟩
  have HP := Lib.hid hfl
  by_cases hz : frS l = 0
  · have HZ := Lib.hid hz
    obtain rfl : f = 0 := by omega
    rw [hfl]
    clear hz hfl
    go_enter Tryz.func12, Tryz.ntmps12
    go_wp2_with fail
    (with_reducible refine HC.out.mono ?_)
    intro e W2 he
    obtain ⟨x, y, rfl, _, _, b2, _, _⟩ := frame_ok he HZ.out
    have B := Lib.hid (b2.trans ((bel_one W2 (.cells #[row x, row y] 72)).mono b2.size))
    clear b2 he
    go_wp2
    go_ret
    exact ⟨rfl, B.out⟩
  · have HZ := Lib.hid hz
    rw [hfl]
    clear hz hfl
    go_enter Tryz.func12, Tryz.ntmps12
    go_wp2_with fail
    (with_reducible refine HC.out.mono ?_)
    intro e W2 he
    obtain ⟨rfl, b2⟩ := frame_no he HZ.out
    rw [HP.out]
    have B := Lib.hid (b2.trans ((bel_one W2 (.cells #[.slice none 0 0, .slice none 0 0] 72)).mono b2.size))
    clear b2 he
    go_wp2
    go_ret
    exact ⟨rfl, B.out⟩
end Go.Proofs.YtheekfijbbgbkaaGreatDoor
namespace Go.Proofs.YtheekfijbbgbkaaGreatDoor
open Go.RowKit Go.WideMaps Go.Maps

def bs (l : List UInt8) : ByteArray := ⟨l.toArray⟩
theorem bs_size (l : List UInt8) : (bs l).size = l.length := by simp [bs, ByteArray.size]
theorem bs_app (a b : List UInt8) : bs a ++ bs b = bs (a ++ b) := by
  apply ByteArray.ext; simp [bs, ByteArray.data_append]
theorem gPow : Tryz.prog.globalNamed "internal/strconv.uint64pow10" = some 3 := by kernel_rfl
def Pow (w : World) : Prop := Lib.TabIs Tryz.prog w "internal/strconv.uint64pow10" .u64 Lib.pow10Tab
theorem Pow.below {w w' : World} (h : Pow w) (hb : Below w.heap.size w w') : Pow w' := Go.Joins.tab_stays gPow h hb (Nat.le_refl _)
/-- A text, not too long, comes back. -/
def TP (l : List UInt8) (w : World) (e : Ending) (w' : World) : Prop :=
  ∃ t : ByteArray, e = .returned (.string t) ∧ t.size ≤ 10000000 ∧ Hid (t = bs l) ∧ Hid (Below w.heap.size w w')
theorem tp_of {l : List UInt8} {w w' : World} {e : Ending} (he : e = .returned (.string (bs l))) (hl : l.length ≤ 10000000) (hb : Below w.heap.size w w') : TP l w e w' :=
  ⟨bs l, he, by rw [bs_size]; exact hl, rfl, hb⟩
theorem itoa_c (n : Int) (w : World) (hE : Pow w) (h0 : -9223372036854775808 ≤ n) (h1 : n ≤ 9223372036854775807) :
    Calls Tryz.prog 21 #[.int .i64 n] w (TP (Lib.itoa n) w) :=
  (Tryz.strconv_Itoa n h0 h1 w hE).mono fun _ _ ⟨he, k, os, hw⟩ => tp_of he (by have := Lib.itoa_length_le n h0 h1; omega) (by rw [hw]; exact Go.Lib.below_grow _ _ (Nat.le_refl _) k os)
/-- The line of a node. -/
def lnT (v : Nat) (u : Nd) : List UInt8 := Lib.repeatL [32, 32] v ++ Lib.itoa u.cd ++ [32] ++ bts u.ti ++ [10]
def tcat (f : Nat → List UInt8) : Nat → List UInt8
  | 0 => []
  | k + 1 => tcat f k ++ f k
theorem tcat_len (f : Nat → List UInt8) : ∀ k, (tcat f k).length = sm (fun j => (f j).length) k
  | 0 => rfl
  | k + 1 => by unfold tcat sm; rw [List.length_append, tcat_len f k]
theorem sm_mono {f : Nat → Nat} {k n : Nat} (h : k ≤ n) : sm f k ≤ sm f n := by
  induction n with
  | zero => rw [show k = 0 by omega]; exact Nat.le_refl _
  | succ n ih =>
    by_cases e : k = n + 1
    · rw [e]; exact Nat.le_refl _
    · have := ih (by omega); rw [sm]; omega
/-- The lines below a code, of n levels. -/
def txN (l : List Nd) : Nat → Nat → Nat → List UInt8
  | 0, _, _ => []
  | n + 1, p, v => tcat (fun j => if next l p j = true then lnT v (nd l j) ++ txN l n (nd l j).cd.toNat (v + 1) else []) l.length
/-- What node j gives to the lines below p. -/
def kid (l : List Nd) (n p v : Nat) (j : Nat) : List UInt8 := if next l p j = true then lnT v (nd l j) ++ txN l n (nd l j).cd.toNat (v + 1) else []
theorem txN_is (l : List Nd) (n p v : Nat) : txN l (n + 1) p v = tcat (kid l n p v) l.length := rfl
/-- Titles are short. -/
def Short (l : List Nd) : Prop := ∀ j, j < l.length → (nd l j).ti.size ≤ 60
theorem lnT_len {l : List Nd} (F : Fr l) (hT : Short l) {j v : Nat} (hj : j < l.length) (hv : v ≤ 8) : (lnT v (nd l j)).length ≤ 99 := by
  have h1 := F.ord.rng j hj
  have h2 := Lib.itoa_length_le (nd l j).cd (by omega) (by omega)
  have h3 := hT j hj
  unfold lnT bts
  simp only [List.length_append, Lib.repeatL_length, List.length_cons, List.length_nil]
  have h4 : (nd l j).ti.data.toList.length = (nd l j).ti.size := by rw [Array.length_toList]; rfl
  omega
theorem txN_len {l : List Nd} (F : Fr l) (hT : Short l) : ∀ n p v, v + n ≤ 9 → (txN l n p v).length ≤ 99 * dsc l p
  | 0, _, _, _ => Nat.zero_le _
  | n + 1, p, v, h => by
    rw [txN_is, tcat_len]
    refine Nat.le_trans (sm_le (g := fun j => 99 * (ind (next l p j) * (dsc l (nd l j).cd.toNat + 1))) fun j hj => ?_) ?_
    · unfold kid ind
      by_cases e : next l p j = true
      · rw [if_pos e, if_pos e, List.length_append]
        have h1 := lnT_len F hT hj (v := v) (by omega)
        have h2 := txN_len F hT n (nd l j).cd.toNat (v + 1) (by omega)
        omega
      · rw [if_neg e]; exact Nat.zero_le _
    · rw [sm_mul]
      exact Nat.mul_le_mul_left _ (kids_le F p)
theorem part_len {l : List Nd} (F : Fr l) (hT : Short l) {n p v k : Nat} (h : v + (n + 1) ≤ 9) (hk : k ≤ l.length) : (tcat (kid l n p v) k).length ≤ 59400 := by
  have h1 := txN_len F hT (n + 1) p v h
  rw [txN_is, tcat_len] at h1
  have h2 := sm_mono (f := fun j => (kid l n p v j).length) hk
  have h3 := dsc_le l p
  have h4 : l.length ≤ 600 := F.le
  rw [tcat_len]
  omega
/-- The box of the round. -/
def S9 (z : Nat) (u : Nd) (V : World) : Prop := V.cell? ⟨z, 0, none⟩ = some (.int .i64 u.cd) ∧ V.cell? ⟨z, 1, none⟩ = some (.int .i64 u.pr) ∧ V.cell? ⟨z, 2, none⟩ = some (.string u.ti)
end Go.Proofs.YtheekfijbbgbkaaGreatDoor
namespace Go.Proofs.YtheekfijbbgbkaaGreatDoor
open Go.RowKit Go.WideMaps Go.Maps

theorem short_of {l : List Nd} (h : frS l = 0) : Short l := fun j hj => by
  unfold frS at h
  by_cases h1 : l.length = 0
  · omega
  rw [if_neg h1] at h
  by_cases h2 : 600 < l.length
  · rw [if_pos h2] at h; simp at h
  rw [if_neg h2] at h
  by_cases h3 : fe (ndE l) l.length ≠ 0
  · rw [if_pos h3] at h; exact absurd h h3
  have := fe_zero (s := ndE l) (n := l.length) (by omega) j hj
  unfold ndE at this
  split at this
  · simp at this
  · split at this
    · simp at this
    · split at this
      · simp at this
      · omega
/-- Text's answer. -/
def TxtP (l : List Nd) (w : World) (e : Ending) (w' : World) : Prop :=
  (frS l = 0 ∧ e = .returned (.tuple #[.string (bs (txN l 9 0 0)), .int .i64 0]) ∧ Below w.heap.size w w') ∨
  (frS l ≠ 0 ∧ e = .returned (.tuple #[.string ⟨#[]⟩, .int .i64 (frS l)]) ∧ Below w.heap.size w w')
end Go.Proofs.YtheekfijbbgbkaaGreatDoor
