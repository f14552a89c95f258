/-
  Package code: the nodes of a frame, one behind the other as its text has them.
  Package code: codes in digits.
  Package code: strings.SplitSeq: the lines of a text come one after another.
  Package code: 'for line := range strings.SplitSeq(text, "\n")': the law of the loop.
-/
import Derived.Test.YtheekfijbbgbkaaGreatDoorTS01
import Derived.Test.YtheekfijbbgbkaaGreatDoorTS11
import Derived.Lib.AtoiTie
import Derived.Lib.ItoaLen
import Derived.RangeFuncNested
import Derived.RangeFuncBound
import Derived.RangeFuncCalls
import Derived.RangeFuncLeaves
import Derived.Shelf.Abstract
import Derived.Shelf.RegionOpen
import Derived.WalkKit
import Derived.OwnWalkIn
import Derived.TacticsInMore
import Derived.LoopNIn
import Derived.LoopIn
import Derived.Lib.Hide
import Derived.Test.YtheekfijbbgbkaaGreatDoorShelf
import Derived.RangeFuncBox
namespace Go.Proofs.YtheekfijbbgbkaaGreatDoor

def lcat {α : Type} (f : Nat → List α) : Nat → List α
  | 0 => []
  | k + 1 => lcat f k ++ f k
/-- Levels (from 0 on) and places of the nodes below p, as the text has them. -/
def pl (l : List Nd) : Nat → Nat → Nat → List (Nat × Nat)
  | 0, _, _ => []
  | n + 1, p, v => lcat (fun j => if next l p j = true then (v, j) :: pl l n (nd l j).cd.toNat (v + 1) else []) l.length
def plk (l : List Nd) (n p v : Nat) (j : Nat) : List (Nat × Nat) := if next l p j = true then (v, j) :: pl l n (nd l j).cd.toNat (v + 1) else []
theorem pl_is (l : List Nd) (n p v : Nat) : pl l (n + 1) p v = lcat (plk l n p v) l.length := rfl
def itm (l : List Nd) (x : Nat × Nat) : Nat × Nd := (x.1, nd l x.2)
def lnX (x : Nat × Nd) : List UInt8 := lnT x.1 x.2
theorem txN_pl (l : List Nd) : ∀ n p v, txN l n p v = ((pl l n p v).map (itm l)).flatMap lnX
  | 0, _, _ => rfl
  | n + 1, p, v => by
    rw [txN_is, pl_is]
    have : ∀ k, tcat (kid l n p v) k = ((lcat (plk l n p v) k).map (itm l)).flatMap lnX := fun k => by
      induction k with
      | zero => rfl
      | succ k ih =>
        show tcat (kid l n p v) k ++ kid l n p v k = ((lcat (plk l n p v) k ++ plk l n p v k).map (itm l)).flatMap lnX
        rw [List.map_append, List.flatMap_append, ih]
        congr 1
        unfold kid plk
        by_cases e : next l p k = true
        · rw [if_pos e, if_pos e, txN_pl l n]; rfl
        · rw [if_neg e, if_neg e]; rfl
    exact this _
/-- The places of the nodes are all different, and all places. -/
theorem lcat_count {α : Type} [BEq α] (f : Nat → List α) (x : α) : ∀ k, (lcat f k).count x = sm (fun j => (f j).count x) k
  | 0 => rfl
  | k + 1 => by
    show (lcat f k ++ f k).count x = sm _ k + _
    rw [List.count_append, lcat_count f x k]
theorem lcat_map {α β : Type} (f : Nat → List α) (g : α → β) : ∀ k, (lcat f k).map g = lcat (fun j => (f j).map g) k
  | 0 => rfl
  | k + 1 => by
    show (lcat f k ++ f k).map g = lcat _ k ++ _
    rw [List.map_append, lcat_map f g k]
theorem sm_congr {f g : Nat → Nat} : ∀ {k}, (∀ j, j < k → f j = g j) → sm f k = sm g k
  | 0, _ => rfl
  | k + 1, h => by unfold sm; rw [sm_congr (k := k) fun j hj => h j (by omega), h k (by omega)]
theorem sm_ge {f : Nat → Nat} {j : Nat} : ∀ {k}, j < k → f j ≤ sm f k
  | k + 1, h => by
    unfold sm
    by_cases e : j = k
    · subst e; omega
    · have := sm_ge (f := f) (j := j) (k := k) (by omega); omega
theorem next_lev {l : List Nd} (F : Fr l) {p j : Nat} (hj : j < l.length) (h : next l p j = true) : Has l (nd l j).cd.toNat ∧ lev l (nd l j).cd.toNat = lev l p + 1 ∧ par l (nd l j).cd.toNat = p := by
  obtain ⟨d, hd, hh⟩ := nd_has F hj
  have h2 := of_decide_eq_true h
  rw [hd, Int.toNat_natCast]
  have e1 : par l d = p := by
    have := pr_it F.ord F.kn hj hd
    omega
  exact ⟨hh, by rw [(F.tree.pos d hh).2.1, e1], e1⟩
theorem one_child {l : List Nd} (F : Fr l) (p x : Nat) (hx : x < l.length) : sm (fun j => ind (next l p j && wiP l (nd l j).cd x)) l.length = ind (below l p x) := by
  obtain ⟨y, hy, hyy⟩ := nd_has F hx
  have key : ∀ j, j < l.length → next l p j = true → wiP l (nd l j).cd x = true → ∃ i, i < lev l y ∧ (((it (par l) i y : Nat)) : Int) = (nd l j).cd ∧ it (par l) (i + 1) y = p ∧ lev l y = i + (lev l p + 1) := fun j hj h2 h3 => by
    have h2 := of_decide_eq_true h2
    have h3 := pth_mem.1 (of_decide_eq_true h3)
    rw [hy, Int.toNat_natCast] at h3
    obtain ⟨i, hi, ei⟩ := h3
    have e1 : par l (it (par l) i y) = p := by
      have := pr_it F.ord F.kn hj ei.symm
      omega
    have hin := F.tree.inIt (k := i) (c := y) (.inr hyy)
    have hl1 := F.tree.lvIt (k := i) (c := y) (.inr hyy)
    have hl2 := F.tree.lvP hin
    rw [e1] at hl2
    exact ⟨i, hi, ei, by rw [it_succ]; exact e1, by omega⟩
  have hle : sm (fun j => ind (next l p j && wiP l (nd l j).cd x)) l.length ≤ 1 := sm_one fun i j hi hj h2 h3 => by
    rw [Bool.and_eq_true] at h2 h3
    obtain ⟨a, _, ea, _, la⟩ := key i hi h2.1 h2.2
    obtain ⟨b, _, eb, _, lb⟩ := key j hj h3.1 h3.2
    have : a = b := by omega
    subst this
    exact F.ord.inj hi hj (ea.symm.trans eb)
  by_cases hb : below l p x = true
  · rw [show ind (below l p x) = 1 by unfold ind; rw [if_pos hb]]
    obtain ⟨i, hi, ei⟩ := of_decide_eq_true hb
    rw [hy, Int.toNat_natCast] at hi ei
    have hl1 := F.tree.lvIt (k := i) (c := y) (.inr hyy)
    have hin := F.tree.inIt (k := i) (c := y) (.inr hyy)
    have hne : it (par l) i y ≠ 0 := fun e => by
      rw [e, F.tree.zero] at hl1; omega
    rcases hin with e | ⟨j, hj, ej⟩
    · exact absurd e hne
    have hq : (next l p j && wiP l (nd l j).cd x) = true := by
      rw [Bool.and_eq_true]
      refine ⟨decide_eq_true ?_, decide_eq_true (pth_mem.2 ?_)⟩
      · have es := it_succ (p := par l) (k := i) (c := y)
        rw [ei] at es
        rw [pr_it F.ord F.kn hj ej, ← es]
      · rw [hy, Int.toNat_natCast]
        exact ⟨i, hi, ej.symm⟩
    have := sm_ge (f := fun j => ind (next l p j && wiP l (nd l j).cd x)) (j := j) hj
    have e1 : ind (next l p j && wiP l (nd l j).cd x) = 1 := by unfold ind; rw [if_pos hq]
    have h2 : ind (next l p j && wiP l (nd l j).cd x) ≤ sm (fun j => ind (next l p j && wiP l (nd l j).cd x)) l.length := this
    omega
  · rw [show ind (below l p x) = 0 by unfold ind; rw [if_neg hb]]
    refine sm_zero fun j hj => ?_
    unfold ind
    refine if_neg fun e => hb ?_
    rw [Bool.and_eq_true] at e
    obtain ⟨i, hi, _, e2, _⟩ := key j hj e.1 e.2
    refine decide_eq_true ?_
    rw [hy, Int.toNat_natCast]
    exact ⟨i, hi, e2⟩
/-- Who is within a code's own nodes is the code's node or below it. -/
theorem within_is {l : List Nd} (F : Fr l) {j x : Nat} (hj : j < l.length) (hx : x < l.length) : (if j = x then 1 else 0) + ind (below l (nd l j).cd.toNat x) = ind (wiP l (nd l j).cd x) := by
  obtain ⟨d, hd, hh⟩ := nd_has F hj
  obtain ⟨y, hy, hyy⟩ := nd_has F hx
  have hw : wiP l (nd l j).cd x = true ↔ ∃ i, i < lev l y ∧ it (par l) i y = d := by
    unfold wiP
    rw [decide_eq_true_eq, pth_mem, hy, Int.toNat_natCast, hd]
    constructor
    · rintro ⟨i, h1, h2⟩; exact ⟨i, h1, by omega⟩
    · rintro ⟨i, h1, h2⟩; exact ⟨i, h1, by omega⟩
  have hb : below l (nd l j).cd.toNat x = true ↔ ∃ i, i < lev l y ∧ it (par l) (i + 1) y = d := by
    unfold below
    rw [decide_eq_true_eq, hy, Int.toNat_natCast, hd, Int.toNat_natCast]
  by_cases e : j = x
  · subst e
    have hdy : d = y := by omega
    subst hdy
    have h1 : ind (wiP l (nd l j).cd j) = 1 := by
      unfold ind; rw [if_pos (hw.2 ⟨0, by have := (F.lev hh).2.1; omega, rfl⟩)]
    have h2 : ind (below l (nd l j).cd.toNat j) = 0 := by
      unfold ind
      refine if_neg fun h => ?_
      obtain ⟨i, hi, ei⟩ := hb.1 h
      have h1 := F.tree.lvIt (k := i + 1) (c := d) (.inr hh)
      rw [ei] at h1
      have h2 := (F.lev hh).2.1
      omega
    rw [if_pos rfl, h1, h2]
  · rw [if_neg e, Nat.zero_add]
    unfold ind
    have : below l (nd l j).cd.toNat x = true ↔ wiP l (nd l j).cd x = true := by
      rw [hw, hb]
      constructor
      · rintro ⟨i, hi, ei⟩
        have h1 := F.tree.lvIt (k := i + 1) (c := y) (.inr hyy)
        rw [ei] at h1
        have h2 := (F.lev hh).2.1
        exact ⟨i + 1, by omega, ei⟩
      · rintro ⟨i, hi, ei⟩
        cases i with
        | zero =>
          exfalso
          have : y = d := ei
          exact e (F.ord.inj hj hx (by rw [hd, hy, this]))
        | succ i => exact ⟨i, by omega, ei⟩
    by_cases h : below l (nd l j).cd.toNat x = true
    · rw [if_pos h, if_pos (this.1 h)]
    · rw [if_neg h, if_neg (fun h2 => h (this.2 h2))]
theorem pl_count {l : List Nd} (F : Fr l) : ∀ (n p v : Nat), v + n = 9 → In (Has l) p → lev l p = v → ∀ x, x < l.length → ((pl l n p v).map (·.2)).count x = ind (below l p x)
  | 0, p, v, h, hp, hlv, x, hx => by
    exfalso
    have : lev l p ≤ 8 := by
      rcases hp with rfl | hp
      · rw [F.tree.zero]; omega
      · exact (F.lev hp).2.2.1
    omega
  | n + 1, p, v, h, hp, hlv, x, hx => by
    rw [pl_is, lcat_map, lcat_count, ← one_child F p x hx]
    refine sm_congr fun j hj => ?_
    unfold plk
    by_cases e : next l p j = true
    · obtain ⟨h1, h2, h3⟩ := next_lev F hj e
      have ih := pl_count F n (nd l j).cd.toNat (v + 1) (by omega) (.inr h1) (by omega) x hx
      rw [if_pos e, e, Bool.true_and, ← within_is F hj hx, ← ih, List.map_cons, List.count_cons]
      show _ + (if (j == x) = true then 1 else 0) = _
      by_cases ej : j = x
      · rw [if_pos (by simpa using ej), if_pos ej, Nat.add_comm]
      · rw [if_neg (by simpa using ej), if_neg ej, Nat.add_comm]
    · have e2 : next l p j = false := by simpa using e
      rw [if_neg e, e2, Bool.false_and]; rfl
theorem pl_mem {l : List Nd} : ∀ (n p v : Nat) (x : Nat × Nat), x ∈ pl l n p v → x.2 < l.length
  | 0, _, _, x, h => by simp [pl] at h
  | n + 1, p, v, x, h => by
    rw [pl_is] at h
    have : ∀ k, k ≤ l.length → x ∈ lcat (plk l n p v) k → x.2 < l.length := fun k => by
      induction k with
      | zero => intro _ h; simp [lcat] at h
      | succ k ih =>
        intro hk h
        have h : x ∈ lcat (plk l n p v) k ++ plk l n p v k := h
        rcases List.mem_append.1 h with h | h
        · exact ih (by omega) h
        · unfold plk at h
          by_cases e : next l p k = true
          · rw [if_pos e, List.mem_cons] at h
            rcases h with rfl | h
            · show k < _; omega
            · exact pl_mem n _ _ x h
          · rw [if_neg e] at h; simp at h
    exact this _ (Nat.le_refl _) h
theorem below_all {l : List Nd} (F : Fr l) {x : Nat} (hx : x < l.length) : below l 0 x = true := by
  obtain ⟨y, hy, hyy⟩ := nd_has F hx
  refine decide_eq_true ?_
  rw [hy, Int.toNat_natCast]
  have h2 := (F.lev hyy).2.1
  refine ⟨lev l y - 1, by omega, ?_⟩
  have h1 := F.tree.lvIt (k := lev l y - 1 + 1) (c := y) (.inr hyy)
  exact (F.tree.lv0 (F.tree.inIt (.inr hyy))).1 (by omega)
/-- All of a frame. -/
theorem pl_perm {l : List Nd} (F : Fr l) : ((pl l 9 0 0).map (·.2)).Perm (List.range l.length) := by
  rw [List.perm_iff_count]
  intro x
  by_cases hx : x < l.length
  · rw [pl_count F 9 0 0 rfl (.inl rfl) F.tree.zero x hx]
    unfold ind
    rw [if_pos (below_all F hx)]
    have : (List.range l.length).count x = 1 := by
      have h1 := List.count_pos_iff.2 (List.mem_range.2 hx)
      have h2 := List.nodup_iff_count.1 (List.nodup_range (n := l.length)) x
      omega
    exact this.symm
  · rw [List.count_eq_zero_of_not_mem, List.count_eq_zero_of_not_mem]
    · simp; omega
    · intro h
      obtain ⟨y, hy, rfl⟩ := List.mem_map.1 h
      exact hx (pl_mem 9 0 0 y hy)
end Go.Proofs.YtheekfijbbgbkaaGreatDoor
namespace Go.Proofs.YtheekfijbbgbkaaGreatDoor

theorem decF_append : ∀ (l r : List UInt8) (a b : Nat), Lib.decFrom a l = some b → Lib.decFrom a (l ++ r) = Lib.decFrom b r
  | [], r, a, b, h => by simp only [Lib.decFrom, Option.some.injEq] at h; subst h; rfl
  | c :: l, r, a, b, h => by
    simp only [Lib.decFrom, List.cons_append] at h ⊢
    split at h
    · exact decF_append l r _ b h
    · cases h
theorem dgt_nat {d : Nat} (h : d < 10) : (UInt8.ofNat (48 + d)).toNat = 48 + d := by simp; omega
theorem dgt_of {d : Nat} (h : d < 10) : Lib.digitVal (UInt8.ofNat (48 + d)) = some d := by
  unfold Lib.digitVal
  rw [dgt_nat h, if_pos (by omega)]
  congr 1; omega
theorem decF_dec (u : Nat) : ∀ a, Lib.decFrom a (Lib.decDigits u) = some (a * 10 ^ Lib.nDigits u + u) := by
  induction u using Nat.strongRecOn with
  | _ u ih =>
    intro a
    by_cases h : u < 10
    · rw [Lib.decDigits, dif_pos h, Lib.nDigits_small h]
      simp only [Lib.decFrom, dgt_of h, Nat.pow_one]
    · rw [Lib.decDigits, dif_neg h, Lib.nDigits_big h, decF_append _ _ _ _ (ih (u / 10) (by omega) a)]
      simp only [Lib.decFrom, dgt_of (Nat.mod_lt u (by decide : 10 > 0)), Nat.pow_succ]
      congr 1
      have := Nat.div_add_mod u 10
      rw [Nat.add_mul, Nat.mul_assoc]
      omega
/-- A digit. -/
def dgB (b : UInt8) : Bool := decide (48 ≤ b.toNat ∧ b.toNat ≤ 57)
theorem dec_all (u : Nat) : (Lib.decDigits u).all dgB = true := by
  induction u using Nat.strongRecOn with
  | _ u ih =>
    by_cases h : u < 10
    · rw [Lib.decDigits, dif_pos h]
      simp only [List.all_cons, List.all_nil, Bool.and_true, dgB, dgt_nat h, decide_eq_true_eq]
      omega
    · rw [Lib.decDigits, dif_neg h, List.all_append, ih (u / 10) (by omega)]
      simp only [List.all_cons, List.all_nil, Bool.and_true, Bool.true_and, dgB, dgt_nat (Nat.mod_lt u (by decide : 10 > 0)), decide_eq_true_eq]
      omega
theorem dec_ne (u : Nat) : Lib.decDigits u ≠ [] := by
  intro e
  have := Lib.decDigits_length u
  have h := Lib.nDigits_pos u
  rw [e] at this
  simp at this
  omega
theorem dec_head (u : Nat) (h1 : 1 ≤ u) : (Lib.decDigits u).head? ≠ some 48 := by
  induction u using Nat.strongRecOn with
  | _ u ih =>
    by_cases h : u < 10
    · rw [Lib.decDigits, dif_pos h]
      intro e
      simp only [List.head?_cons, Option.some.injEq] at e
      have := dgt_nat h
      rw [e] at this
      have h48 : (48 : UInt8).toNat = 48 := rfl
      omega
    · rw [Lib.decDigits, dif_neg h]
      have := ih (u / 10) (by omega) (by omega)
      cases e : Lib.decDigits (u / 10) with
      | nil => exact absurd e (dec_ne _)
      | cons x r => rw [e] at this; simpa using this
theorem itoa_dec {n : Int} (h : 0 ≤ n) : Lib.itoa n = Lib.decDigits n.toNat := by
  unfold Lib.itoa; rw [if_neg (by omega)]
theorem atoi_dec (u : Nat) (h : Lib.nDigits u ≤ 3) : Lib.atoiAll (Lib.decDigits u) = .ok (u : Int) := by
  have hl : (Lib.decDigits u).length ≤ 18 := by rw [Lib.decDigits_length]; omega
  rw [Lib.atoiAll_short _ hl]
  have ha := dec_all u
  have hd := decF_dec u 0
  rw [Nat.zero_mul, Nat.zero_add] at hd
  cases e : Lib.decDigits u with
  | nil => exact absurd e (dec_ne u)
  | cons b r =>
    rw [e] at ha hd
    simp only [List.all_cons, Bool.and_eq_true, dgB, decide_eq_true_eq] at ha
    have n1 : (b == 45) = false := by
      rw [beq_eq_false_iff_ne]; intro e; rw [e] at ha; exact absurd ha.1.1 (by decide)
    have n2 : (b == 43) = false := by
      rw [beq_eq_false_iff_ne]; intro e; rw [e] at ha; exact absurd ha.1.1 (by decide)
    unfold Lib.atoi
    simp only [n1, n2, Bool.false_eq_true, if_false]
    unfold Lib.decNat
    simp only [List.isEmpty_cons, Bool.false_eq_true, if_false]
    rw [hd]
    rfl
theorem nDig_of {u : Nat} (h : u ≤ 999) : Lib.nDigits u ≤ 3 := by
  by_cases h1 : u < 10
  · rw [Lib.nDigits_small h1]; omega
  · rw [Lib.nDigits_big h1]
    by_cases h2 : u / 10 < 10
    · rw [Lib.nDigits_small h2]; omega
    · rw [Lib.nDigits_big h2, Lib.nDigits_small (by omega)]; omega
theorem codB_itoa {n : Int} (h1 : 1 ≤ n) (h2 : n ≤ 999) : codB (Lib.itoa n) = true ∧ codV (Lib.itoa n) = n := by
  have hu : n.toNat ≤ 999 := by omega
  have ha := atoi_dec n.toNat (nDig_of hu)
  rw [itoa_dec (by omega)]
  have e : ((n.toNat : Nat) : Int) = n := by omega
  rw [e] at ha
  refine ⟨(codB_iff _).2 ⟨n, ha, h1, ?_, ?_⟩, codV_of ha⟩
  · rw [Lib.decDigits_length]; exact nDig_of hu
  · rw [itoa_dec (by omega)]
theorem itoa_all {n : Int} (h : 0 ≤ n) : (Lib.itoa n).all dgB = true := by rw [itoa_dec h]; exact dec_all _
theorem itoa_ne {n : Int} (h : 0 ≤ n) : Lib.itoa n ≠ [] := by rw [itoa_dec h]; exact dec_ne _
end Go.Proofs.YtheekfijbbgbkaaGreatDoor
namespace Go.Proofs.YtheekfijbbgbkaaGreatDoor
open Go.RowKit Go.Shelf

attribute [local go_sem] Oper.semAt_some

/-- A text of bytes. -/
def bsT (l : List UInt8) : ByteArray := ⟨l.toArray⟩
theorem bsT_size (l : List UInt8) : (bsT l).size = l.length := by simp [bsT, ByteArray.size]
theorem bsT_list (l : List UInt8) : (bsT l).data.toList = l := by simp [bsT]
/-- The boxes of SplitSeq's function: what is left of the text, the separator, how much of it is kept. -/
def ItAt (b : Nat) (s : ByteArray) (W : World) : Prop :=
  W.cell? ⟨b, 0, none⟩ = some (.string s) ∧ W.cell? ⟨b + 1, 0, none⟩ = some (.string ⟨#[10]⟩) ∧ W.cell? ⟨b + 2, 0, none⟩ = some (.int .i64 0) ∧ W.frozen? ⟨b, 0, none⟩ = false
/-- How long the text in a box is. -/
def boxN (b : Nat) (W : World) : Nat := match W.cell? ⟨b, 0, none⟩ with | some (.string s) => s.size | _ => 0
theorem boxN_of {b : Nat} {s : ByteArray} {W : World} (h : W.cell? ⟨b, 0, none⟩ = some (.string s)) : boxN b W = s.size := by unfold boxN; rw [h]

theorem index1_c (s : ByteArray) (i : Int) (h : Lib.index s.data.toList [10] = i) (W : World) : Calls Tryz.prog 52 #[.string s, .string ⟨#[10]⟩] W fun e W' => e = .returned (.int .i64 i) ∧ W' = W := by
  have := Tryz.strings_Index_one s 10 W
  rw [← Lib.index_one, h] at this
  exact this
theorem ext_take (s : ByteArray) (i : Nat) : s.extract 0 i = bsT (s.data.toList.take i) := by
  rw [← Lib.extract_from_zero]
  exact (Lib.mk_data _).symm
theorem ext_drop (s : ByteArray) (i : Nat) : s.extract i s.size = bsT (s.data.toList.drop i) := by
  rw [← Lib.extract_to_end]
  exact (Lib.mk_data _).symm

theorem oth (W : World) (v : Value) (b j : Nat) (h : 0 < j) : (W.setCell ⟨b, 0, none⟩ v).cell? ⟨b + j, 0, none⟩ = W.cell? ⟨b + j, 0, none⟩ := by
  apply World.cell?_setCell_other
  intro e
  injection e with e
  omega
set_option maxRecDepth 100000 in
set_option maxHeartbeats 2000000 in
theorem split1_in (n l b : Nat) (hn : 1 ≤ n) (T : List UInt8) (hT : T.length ≤ 60000) (J Jx : Nat → World → Prop)
    (hJs : ∀ k W v, J k W → J k (W.setCell ⟨b, 0, none⟩ v))
    (hY : ∀ k W, k ≤ nls T → J k W → ItAt b (bsT (rst T k)) W → YieldAt Fence.wide (n - 1) Tryz.prog l #[.string (bsT (pce T k))] W fun e W' =>
      (e = .returned (.bool true) ∧ J (k + 1) W' ∧ ItAt b (bsT (rst T k)) W') ∨ (e = .returned (.bool false) ∧ Jx k W'))
    (W : World) (h0 : J 0 W) (hI : ItAt b (bsT T) W) :
    CallsIn Fence.wide n Tryz.prog 65 #[.func (.yield l) #[] #[], .pointer (some ⟨b + 1, 0, none⟩), .pointer (some ⟨b, 0, none⟩), .pointer (some ⟨b + 2, 0, none⟩)] W
      fun e W' => (∃ v, e = .returned v) ∧ (J (nls T + 1) W' ∨ ∃ k, k ≤ nls T ∧ Jx k W') := by
  refine callsIn_of_wp Tryz.func65 rfl trivial ?_ rfl
  simp only [Tryz.ntmps65, List.size_toArray, List.length_cons, List.length_nil, Nat.reduceAdd, Nat.reduceSub, Array.replicate_succ, Array.replicate_zero, List.push_toArray, List.append_toArray, List.nil_append, List.cons_append]
  have HI := Lib.hid hI
  have c1 := hI.2.1
  clear hI
  gi_wp2
  gi_loopw [7, 8] (fun _ _ wr => ∃ k : Nat, k ≤ nls T ∧ Hid (J k wr ∧ ItAt b (bsT (rst T k)) wr)) (fun _ _ wr => boxN b wr)
  case atStart => exact ⟨0, Nat.zero_le _, h0, HI.out⟩
  case round =>
    obtain ⟨k, hk, hS⟩ := hrel
    obtain ⟨hJ, b0, b1, b2, bf⟩ := hS.out
    have hsz : (bsT (rst T k)).size ≤ 60000 := by rw [bsT_size]; exact Nat.le_trans (rst_le T k) hT
    obtain ⟨fn, tmps, assign, body, hy, hR⟩ := hY k wr hk hJ ⟨b0, b1, b2, bf⟩
    have NB := Lib.hid (boxN_of b0)
    obtain ⟨s, hs⟩ : ∃ s, bsT (rst T k) = s := ⟨_, rfl⟩
    rcases ix_cases 10 (rst T k) with ⟨x1, x2, x3⟩ | ⟨i, x1, x2, x3, x4, x5⟩
    · have HX := Lib.hid (fun V => index1_c s (-1) (by rw [← hs, bsT_list]; exact x1) V)
      have hk2 : k = nls T := by
        have := mt (rst_mem T).2 x2
        omega
      have e1 : bsT (pce T k) = s := by rw [← hs]; unfold pce; rw [x3]
      rw [e1] at hy
      rw [hs] at b0 hsz NB hR
      clear hs x1 x2 x3 e1 hk HI
      subst hk2
      have R1 := Lib.hid hR
      clear hR
      gi_wp2_with (refine ⟨trivial, ?_⟩; gi_at_call 52; refine (callsIn_wide.2 (HX.out _)).mono ?_; rintro e w' ⟨rfl, rfl⟩)
      refine R1.out.mono ?_
      rintro e W3 (⟨rfl, hJ3, hk3⟩ | ⟨rfl, hJ3⟩)
      · gi_wp2
        go_end0
        exact ⟨⟨_, rfl⟩, .inl hJ3⟩
      · gi_wp2
        go_end0
        exact ⟨⟨_, rfl⟩, .inr ⟨_, Nat.le_refl _, hJ3⟩⟩
    · have HX := Lib.hid (fun V => index1_c s i (by rw [← hs, bsT_list]; exact x1) V)
      have hk2 : k + 1 ≤ nls T := (rst_mem T).1 x5
      have E1 : bsT (pce T k) = s.extract 0 i := by rw [ext_take, ← hs, bsT_list]; unfold pce; rw [x3]
      have E2 : Hid (bsT (rst T (k + 1)) = s.extract (i + 1) s.size) := by rw [ext_drop, ← hs, bsT_list, ← x4]; rfl
      have L1 : (i : Int) + 1 ≤ (s.size : Int) := by rw [← hs, bsT_size]; omega
      rw [E1] at hy
      rw [hs] at b0 hsz NB hR
      have LT : Hid ((s.extract (i + 1) s.size).size < s.size) := by
        have : i < s.size := by rw [← hs, bsT_size]; exact x2
        rw [ext_drop, bsT_size, List.length_drop]
        have := Lib.size_eq s
        unfold Hid; omega
      clear hs x1 x2 x3 x4 x5 E1 hk HI
      have R1 := Lib.hid hR
      clear hR
      have hi0 : (0 : Int) ≤ (i : Int) := by omega
      have hi1 : ¬ (i : Int) < 0 := by omega
      gi_wp2_with (refine ⟨trivial, ?_⟩; gi_at_call 52; refine (callsIn_wide.2 (HX.out _)).mono ?_; rintro e w' ⟨rfl, rfl⟩)
      refine R1.out.mono ?_
      rintro e W3 (⟨rfl, hJ3, q0, q1, q2, qf⟩ | ⟨rfl, hJ3⟩)
      · have HJ := Lib.hid hJ3
        have K0 := Lib.hid (⟨q1, q2⟩ : W3.cell? ⟨b + 1, 0, none⟩ = _ ∧ W3.cell? ⟨b + 2, 0, none⟩ = _)
        have KF : Hid (W3.frozen? ⟨b, 0, none⟩ = false) := qf
        have Q0 : Hid (∃ u, W3.cell? ⟨b, 0, none⟩ = some u) := ⟨_, q0⟩
        clear hJ3 b0 b1 b2 bf hJ hS R1 HX hy
        gi_wp2
        have c0 : (W3.setCell ⟨b, 0, none⟩ (.string (s.extract (i + 1) s.size))).cell? ⟨b, 0, none⟩ = some (.string (s.extract (i + 1) s.size)) := World.cell?_setCell_same' _ _ _ (by rw [q0]; rfl)
        go_roundw
        case rel =>
          refine ⟨k + 1, hk2, hJs _ _ _ HJ.out, ?_⟩
          rw [E2.out]
          refine ⟨c0, ?_, ?_, ?_⟩
          · exact (oth W3 _ b 1 (by omega)).trans K0.out.1
          · exact (oth W3 _ b 2 (by omega)).trans K0.out.2
          · rw [World.frozen?_setCell]; exact KF.out
        case measure => rw [boxN_of c0, NB.out]; exact LT.out
      · gi_wp2
        refine bodyPost_ret (results_none rfl _ _ _) rfl ?_
        exact ⟨⟨_, rfl⟩, .inr ⟨k, by omega, hJ3⟩⟩
end Go.Proofs.YtheekfijbbgbkaaGreatDoor
namespace Go.Proofs.YtheekfijbbgbkaaGreatDoor
open Go.RowKit Go.Shelf

attribute [local go_sem] Oper.semAt_some

theorem ItAt.own {b B : Nat} {s : ByteArray} : OwnFrom B (fun (_ : Unit) W => ItAt b s W) := fun _ _ _ _ hs hg hr =>
  have hr' := fun r e => (hr r e).2
  ⟨cell_kept hs.1 hg hr', cell_kept hs.2.1 hg hr', cell_kept hs.2.2.1 hg hr', (frozen_kept hs.1 hg hr').trans hs.2.2.2⟩
/-- How a round's body is left. -/
def spPost (B b : Nat) (T : List UInt8) (I : Nat → World → Prop) (Ix : Nat → World → Prop) (k : Nat) (W : World) : Exit → Act → World → Prop
  | .normal, _, W' => KeepsFrom B W W' ∧ I (k + 1) W' ∧ ItAt b (bsT (rst T k)) W'
  | .ret, _, W' => KeepsFrom B W W' ∧ Ix k W'
  | _, _, _ => False

theorem range_split {n : Nat} {g : Operand} {ps : Array Tmp} {assign body : Code} {Q : Exit → Act → World → Prop} {a : Act} {w : World} (b : Nat) (hps : ps.size = 1)
    (hg : a.eval g = .func (.func 65) #[] #[.pointer (some ⟨b + 1, 0, none⟩), .pointer (some ⟨b, 0, none⟩), .pointer (some ⟨b + 2, 0, none⟩)])
    (hn : 3 ≤ n) (T : List UInt8) (hT : T.length ≤ 60000) (hI0 : ItAt b (bsT T) w) (hbw : b < w.heap.size)
    (I Ix : Nat → World → Prop) (hI : OwnFrom w.heap.size I) (hIs : ∀ k W v, I k W → I k (W.setCell ⟨b, 0, none⟩ v)) (hIx : OwnFrom w.heap.size Ix) (h0 : I 0 w) (a₁ : ByteArray → Act)
    (hassign : ∀ (l : Nat) (x : ByteArray) (W : World) (K : Act → World → Prop), K (a₁ x) W →
      assign.wpIn (Fence.wide.inRound l) (n - 1 - 1) Tryz.prog (Exit.then K (fun _ _ _ => False)) { tmps := (ps.zip #[.string x]).foldl (fun t (p, v) => t.setIfInBounds p v) a.tmps, defers := [] } W)
    (hbody : ∀ (l k : Nat) (W : World), k ≤ nls T → I k W → ItAt b (bsT (rst T k)) W → body.wpIn (Fence.wide.inRound l) (n - 1 - 1) Tryz.prog (spPost w.heap.size b T I Ix k W) (a₁ (bsT (pce T k))) W)
    (hdone : ∀ (W : World), I (nls T + 1) W → W.heap[w.heap.size]? = some (.deferred (some [])) → Q .normal { a with defers := { target := .collected w.heap.size, args := #[] } :: a.defers } W)
    (hstop : ∀ (k : Nat) (W : World), k ≤ nls T → Ix k W → W.heap[w.heap.size]? = some (.deferred (some [])) → Code.ret.wpIn Fence.wide n Tryz.prog Q { a with defers := { target := .collected w.heap.size, args := #[] } :: a.defers } W) :
    (Code.rangeFunc g ps assign body).wpIn Fence.wide n Tryz.prog Q a w := by
  refine wpIn_rangeFunc fun fn hfn => ?_
  obtain ⟨rec, hrec⟩ : ∃ rec : LoopState → Option Code → Loop, rec = fun st pe => { state := st, pending := pe, fn, tmps := a.tmps, params := ps, assign, body, defers := w.heap.size } := ⟨_, rfl⟩
  obtain ⟨W1, hW1⟩ : ∃ W1, (w.alloc (.deferred (some []))).alloc (.loop (rec .ready none)) = W1 := ⟨_, rfl⟩
  have L1 : W1.heap[w.heap.size + 1]? = some (.loop (rec .ready none)) := by
    rw [← hW1]; have := World.alloc_heap_new (w.alloc (.deferred (some []))) (.loop (rec .ready none)); rwa [World.size_alloc] at this
  have D1 : W1.heap[w.heap.size]? = some (.deferred (some [])) := by
    rw [← hW1]; exact (Below.heap_alloc _ _ _ (by simp)).trans (World.alloc_heap_new w _)
  have I1 : I 0 W1 := by rw [← hW1]; exact hI.alloc _ (hI.alloc _ h0)
  have T1 : ItAt b (bsT T) W1 := by rw [← hW1]; exact (ItAt.own (B := 0)).alloc (s := ()) _ ((ItAt.own (B := 0)).alloc (s := ()) _ hI0)
  -- the record and the block for deferred calls, in a state
  let RD (st : LoopState) (pe : Option Code) (W : World) : Prop := W.heap[w.heap.size + 1]? = some (.loop (rec st pe)) ∧ W.heap[w.heap.size]? = some (.deferred (some []))
  refine ⟨w.heap.size + 1, [{ target := .collected w.heap.size, args := #[] }], W1, { target := .fn (.func 65) #[.pointer (some ⟨b + 1, 0, none⟩), .pointer (some ⟨b, 0, none⟩), .pointer (some ⟨b + 2, 0, none⟩)], args := #[.func (.yield (w.heap.size + 1)) #[] #[]] }, W1, 65,
    #[.func (.yield (w.heap.size + 1)) #[] #[]] ++ #[.pointer (some ⟨b + 1, 0, none⟩), .pointer (some ⟨b, 0, none⟩), .pointer (some ⟨b + 2, 0, none⟩)], W1, ?_, ?_, fun _ _ => trivial, ?_, fun _ => by omega, ?_⟩
  · rw [← hW1, hrec]; exact run_enterLoop_outer _ _ _ _ _
  · simp only [resolve, hg]
    simp [go_sem]
  · simp [invoke, go_sem, enters_of Tryz.func65 (by kernel_rfl) rfl]
  · refine (split1_in (n - 1) (w.heap.size + 1) b (by omega) T hT (fun k W => I k W ∧ RD .ready none W) (fun k W => Ix k W ∧ RD .done (some .ret) W) ?_ ?_ W1 ⟨I1, L1, D1⟩ T1).mono ?_
    · rintro k W v ⟨hi, hl, hd⟩
      exact ⟨hIs k W v hi, (Below.heap_setCell W _ v _ (by show w.heap.size + 1 ≠ b; omega)).trans hl, (Below.heap_setCell W _ v _ (by show w.heap.size ≠ b; omega)).trans hd⟩
    · rintro k W hk ⟨hi, hl, hd⟩ ht
      have hlt : w.heap.size + 1 < W.heap.size := (Array.getElem?_eq_some_iff.1 hl).1
      have hy := run_yield (P := Tryz.prog) (args := #[Value.string (bsT (pce T k))]) hl (by rw [hrec]; exact hps.symm)
      rw [hrec] at hy
      refine ⟨fn, _, assign, body, hy, roundIn_of_wpIn hfn (hassign _ _ W _ ⟨_, run_beginRound hl (by rw [hrec]), ?_⟩)⟩
      have hl2 : (W.putObj (w.heap.size + 1) (.loop { rec .ready none with state := .busy })).heap[w.heap.size + 1]? = some (.loop { rec .ready none with state := .busy }) := World.putObj_heap_same hlt
      have hd2 : (W.putObj (w.heap.size + 1) (.loop { rec .ready none with state := .busy })).heap[w.heap.size]? = some (.deferred (some [])) := (World.putObj_heap_other (by omega)).trans hd
      refine wpIn_mono (hbody _ k _ hk (hI.putObj _ hi (by omega) hl rfl) ((ItAt.own (B := 0)).putObj (s := ()) _ ht (Nat.zero_le _) hl rfl)) ?_
      have fin : ∀ (jump : Option Code) (W3 : World), KeepsFrom w.heap.size (W.putObj (w.heap.size + 1) (.loop { rec .ready none with state := .busy })) W3 →
          (Instr.endRound (w.heap.size + 1) jump).run Tryz.prog W3 = .ok (.bool jump.isNone) (W3.putObj (w.heap.size + 1) (.loop (rec (if jump.isNone then .ready else .done) jump))) ∧
          W3.heap[w.heap.size + 1]? = some (.loop { rec .ready none with state := .busy }) ∧ RD (if jump.isNone then .ready else .done) jump (W3.putObj (w.heap.size + 1) (.loop (rec (if jump.isNone then .ready else .done) jump))) := fun jump W3 hk3 => by
        have h3 := hk3.same _ _ (by omega) hl2 rfl
        have hr := run_endRound (P := Tryz.prog) jump h3
        refine ⟨by rw [hrec] at hr ⊢; exact hr, h3, World.putObj_heap_same (Array.getElem?_eq_some_iff.1 h3).1, (World.putObj_heap_other (by omega)).trans (hk3.same _ _ (Nat.le_refl _) hd2 rfl)⟩
      rintro e a3 W3 hp
      cases e with
      | normal =>
        obtain ⟨hk3, hi3, ht3⟩ := hp
        obtain ⟨hr, h3, hrd⟩ := fin none W3 hk3
        exact ⟨_, _, hr, .inl ⟨rfl, ⟨hI.putObj _ hi3 (by omega) h3 rfl, hrd⟩, (ItAt.own (B := 0)).putObj (s := ()) _ ht3 (Nat.zero_le _) h3 rfl⟩⟩
      | ret =>
        obtain ⟨hk3, hi3⟩ := hp
        obtain ⟨hr, h3, hrd⟩ := fin (some .ret) W3 hk3
        exact ⟨_, _, hr, .inr ⟨rfl, hIx.putObj _ hi3 (by omega) h3 rfl, hrd⟩⟩
      | exit id => exact hp.elim
      | goto t => exact hp.elim
      | panic ch => exact hp.elim
      | outgrown => exact hp.elim
    · rintro e W2 ⟨⟨v, rfl⟩, (⟨hi, hl, hd⟩ | ⟨k, hk, hi, hl, hd⟩)⟩
      · have hr := run_endLoop (P := Tryz.prog) hl (by rw [hrec]; simp)
        rw [hrec] at hr
        exact ⟨none, _, hr, hdone _ (hI.putObj _ hi (by omega) hl rfl) ((World.putObj_heap_other (by omega)).trans hd)⟩
      · have hr := run_endLoop (P := Tryz.prog) hl (by rw [hrec]; simp)
        rw [hrec] at hr
        exact ⟨some .ret, _, hr, hstop k _ hk (hIx.putObj _ hi (by omega) hl rfl) ((World.putObj_heap_other (by omega)).trans hd)⟩
end Go.Proofs.YtheekfijbbgbkaaGreatDoor
