/-
  Package code: the rows that strings.FieldsFuncSeq yields.
  Package code: a word gets another ending.
  Package code: the words that are left out, as a set.
  Package code: strings.FieldsFuncSeq: the rows of a text come one after another.
-/
import Derived.Test.YtdapmmhbnaknbaaDoorWW08
import Derived.RangeFuncNested
import Derived.RangeFuncBound
import Derived.RangeFuncCalls
import Derived.RangeFuncLeaves
import Derived.Shelf.Abstract
import Derived.Shelf.RegionOpen
import Derived.WalkKit
import Derived.OwnWalkIn
import Derived.TacticsInMore
import Derived.LoopNIn
import Derived.LoopIn
import Derived.Lib.Hide
import Derived.Test.YtdapmmhbnaknbaaDoorShelf
namespace Go.Proofs.YtdapmmhbnaknbaaDoor

/-- The bytes of a rune that is none of a row are none of a row. -/
theorem dec_bytes (s : ByteArray) (i : Nat) (h : i < s.size) (hb : 128 ≤ (s[i]'h).toNat) : ∀ j, j < (Utf8.decode s i).2 → i + j < s.size ∧ 128 ≤ (s.get! (i + j)).toNat := by
  have g0 : (s.get! i) = s[i]'h := by
    show s.data[i]! = _
    rw [getElem!_pos _ i h]; rfl
  intro j hj
  have h0 : 128 ≤ (s.get! (i + 0)).toNat := by rw [Nat.add_zero, g0]; exact hb
  unfold Utf8.decode at hj
  simp only [] at hj
  rw [if_neg (by omega)] at hj
  split at hj
  · rename_i c1
    simp only [Bool.and_eq_true, beq_iff_eq, decide_eq_true_eq] at c1
    have : j < 2 := by split at hj <;> simp at hj <;> omega
    match j, this with
    | 0, _ => exact ⟨by omega, h0⟩
    | 1, _ => exact ⟨c1.2.1, by have := c1.2.2; omega⟩
  · split at hj
    · rename_i c1
      simp only [Bool.and_eq_true, beq_iff_eq, decide_eq_true_eq] at c1
      have : j < 3 := by split at hj <;> simp at hj <;> omega
      match j, this with
      | 0, _ => exact ⟨by omega, h0⟩
      | 1, _ => exact ⟨c1.1.2.1, by have := c1.1.2.2; omega⟩
      | 2, _ => exact ⟨c1.2.1, by have := c1.2.2; omega⟩
    · split at hj
      · rename_i c1
        simp only [Bool.and_eq_true, beq_iff_eq, decide_eq_true_eq] at c1
        have : j < 4 := by split at hj <;> simp at hj <;> omega
        match j, this with
        | 0, _ => exact ⟨by omega, h0⟩
        | 1, _ => exact ⟨c1.1.1.2.1, by have := c1.1.1.2.2; omega⟩
        | 2, _ => exact ⟨c1.1.2.1, by have := c1.1.2.2; omega⟩
        | 3, _ => exact ⟨c1.2.1, by have := c1.2.2; omega⟩
      · have : j < 1 := by simpa using hj
        obtain rfl : j = 0 := by omega
        exact ⟨by omega, h0⟩
theorem get_at (s : ByteArray) (i : Nat) (h : i < s.size) : s.data.toList[i]? = some (s.get! i) := by
  rw [at_ba s i h]
  congr 1
  show _ = s.data[i]!
  rw [getElem!_pos _ i h]; rfl
/-- A rune that is none of a row is passed over. -/
theorem rows_skip (s : ByteArray) (i : Nat) (w : List UInt8) : ∀ (m : Nat), (∀ j, j < m + 1 → i + j < s.size ∧ 128 ≤ (s.get! (i + j)).toNat) → rowsF (s.data.toList.drop i) w = (if w = [] then [] else [w]) ++ rowsF (s.data.toList.drop (i + (m + 1))) []
  | 0, h => by
    obtain ⟨h1, h2⟩ := h 0 (by omega)
    rw [Nat.add_zero] at h1 h2
    have hi : i < s.data.toList.length := by rw [← Lib.size_eq]; omega
    have e := get_at s i (by omega)
    rw [List.getElem?_eq_getElem hi] at e
    rw [List.drop_eq_getElem_cons hi, Option.some.inj e]
    show (if rowB (s.get! i) = true then _ else (if w = [] then [] else [w]) ++ rowsF (s.data.toList.drop (i + 1)) []) = _
    rw [if_neg (by rw [row_hi h2]; simp)]
  | m + 1, h => by
    have h1 := rows_skip s i w 0 (fun j hj => h j (by omega))
    rw [h1]
    congr 1
    have h2 := rows_skip s (i + 1) [] m (fun j hj => by
      have := h (j + 1) (by omega)
      rw [show i + 1 + j = i + (j + 1) by omega]; exact this)
    rw [show i + (0 + 1) = i + 1 by omega, h2, if_pos rfl, List.nil_append, show i + 1 + (m + 1) = i + (m + 1 + 1) by omega]
/-- What is yielded from place i on, a row having begun at st. -/
def yl (s : ByteArray) : Nat → Nat → Option Nat → List ByteArray
  | 0, _, _ => []
  | f + 1, i, st => if i < s.size then
      (if dvB (Utf8.decode s i).1 = true then (match st with | some a => [s.extract a i] | none => []) ++ yl s f (i + (Utf8.decode s i).2) none
        else yl s f (i + (Utf8.decode s i).2) (some (st.getD i)))
    else (match st with | some a => [s.extract a s.size] | none => [])
/-- The row that has begun, in lower case. -/
def curW (T : List UInt8) (i : Nat) : Option Nat → List UInt8
  | some a => ((T.drop a).take (i - a)).map lowB
  | none => []
theorem ext_low (s : ByteArray) (a i : Nat) : (s.extract a i).data.toList.map lowB = curW s.data.toList i (some a) := by
  unfold curW
  rw [ByteArray.data_extract, Array.toList_extract, List.extract_eq_take_drop]
theorem curW_ne {T : List UInt8} {i a : Nat} (h : a < i) (hi : i ≤ T.length) : curW T i (some a) ≠ [] := by
  intro e
  have : (curW T i (some a)).length = 0 := by rw [e]; rfl
  unfold curW at this
  rw [List.length_map, List.length_take, List.length_drop] at this
  omega
theorem yl_rows (s : ByteArray) : ∀ (f i : Nat) (st : Option Nat), i ≤ s.size → s.size < i + f → (∀ a, st = some a → a < i) → (yl s f i st).map (fun b => b.data.toList.map lowB) = rowsF (s.data.toList.drop i) (curW s.data.toList i st)
  | 0, i, st, h1, h2, _ => by omega
  | f + 1, i, st, h1, h2, h3 => by
    have hsz := Lib.size_eq s
    unfold yl
    by_cases hi : i < s.size
    · rw [if_pos hi]
      have hl : i < s.data.toList.length := by rw [← hsz]; exact hi
      by_cases hd : dvB (Utf8.decode s i).1 = true
      · rw [if_pos hd, List.map_append]
        have key : rowsF (s.data.toList.drop i) (curW s.data.toList i st) = (if curW s.data.toList i st = [] then [] else [curW s.data.toList i st]) ++ rowsF (s.data.toList.drop (i + (Utf8.decode s i).2)) [] ∧ i + (Utf8.decode s i).2 ≤ s.size ∧ 1 ≤ (Utf8.decode s i).2 := by
          by_cases hb : (s[i]'hi).toNat < 128
          · rw [decode_ascii s i hi hb] at hd ⊢
            have hr : rowB (s[i]'hi) = false := by
              have := dv_row (s[i]'hi)
              rw [hd] at this
              cases e : rowB (s[i]'hi) with
              | false => rfl
              | true => rw [e] at this; cases this
            have e := at_ba s i hi
            rw [List.getElem?_eq_getElem hl] at e
            refine ⟨?_, by omega, by omega⟩
            rw [List.drop_eq_getElem_cons hl, Option.some.inj e]
            show (if rowB (s[i]'hi) = true then _ else (if curW s.data.toList i st = [] then [] else [curW s.data.toList i st]) ++ rowsF (s.data.toList.drop (i + 1)) []) = _
            rw [hr]; rfl
          · have h4 := decode_high s i hi (by omega)
            have h5 := dec_bytes s i hi (by omega)
            obtain ⟨m, hm⟩ : ∃ m, (Utf8.decode s i).2 = m + 1 := ⟨(Utf8.decode s i).2 - 1, by omega⟩
            rw [hm] at h5 ⊢
            exact ⟨rows_skip s i _ m h5, by have := (h5 m (by omega)).1; omega, by omega⟩
        have ih := yl_rows s f (i + (Utf8.decode s i).2) none key.2.1 (by have := key.2.2; omega) (fun a h => by cases h)
        rw [key.1, ih]
        congr 1
        cases st with
        | none => rfl
        | some a =>
          rw [if_neg (curW_ne (h3 a rfl) (Nat.le_of_lt hl))]
          show [(s.extract a i).data.toList.map lowB] = _
          rw [ext_low]
      · rw [if_neg hd]
        have hb : (s[i]'hi).toNat < 128 := by
          rcases Nat.lt_or_ge (s[i]'hi).toNat 128 with q | q
          · exact q
          · exact absurd (dv_hi (decode_high s i hi q).1) hd
        rw [decode_ascii s i hi hb] at hd ⊢
        have hr : rowB (s[i]'hi) = true := by
          have := dv_row (s[i]'hi)
          cases e : rowB (s[i]'hi) with
          | true => rfl
          | false => rw [e] at this; exact absurd this hd
        have e := at_ba s i hi
        rw [List.getElem?_eq_getElem hl] at e
        have e := Option.some.inj e
        have ih := yl_rows s f (i + 1) (some (st.getD i)) (by omega) (by omega) (fun a h => by
          injection h with h
          cases st with
          | none => simp at h; omega
          | some b => have := h3 b rfl; simp at h; omega)
        show (yl s f (i + 1) (some (st.getD i))).map _ = _
        rw [ih, List.drop_eq_getElem_cons hl, e]
        show _ = (if rowB (s[i]'hi) = true then rowsF (s.data.toList.drop (i + 1)) (curW s.data.toList i st ++ [lowB (s[i]'hi)]) else _)
        rw [if_pos hr]
        congr 1
        cases st with
        | none =>
          show ((s.data.toList.drop i).take (i + 1 - i)).map lowB = [] ++ _
          rw [show i + 1 - i = 1 by omega, List.drop_eq_getElem_cons hl, e]; rfl
        | some a =>
          have ha := h3 a rfl
          show ((s.data.toList.drop a).take (i + 1 - a)).map lowB = ((s.data.toList.drop a).take (i - a)).map lowB ++ _
          rw [show i + 1 - a = (i - a) + 1 by omega, List.take_add_one, List.map_append, List.getElem?_drop, show a + (i - a) = i by omega, List.getElem?_eq_getElem hl, e]; rfl
    · rw [if_neg hi]
      have e : i = s.size := by omega
      subst e
      rw [List.drop_of_length_le (by rw [← hsz]; exact Nat.le_refl _)]
      cases st with
      | none => rfl
      | some a =>
        show [(s.extract a s.size).data.toList.map lowB] = rowsF [] _
        rw [ext_low]
        show _ = if curW s.data.toList s.size (some a) = [] then [] else _
        rw [if_neg (curW_ne (h3 a rfl) (by rw [← hsz]; exact Nat.le_refl _))]
end Go.Proofs.YtdapmmhbnaknbaaDoor
namespace Go.Proofs.YtdapmmhbnaknbaaDoor
open Go.RowKit Go.WideMaps Go.Maps

/-- What stands ahead of an ending. -/
def ahd (w p : ByteArray) : ByteArray := ⟨(Lib.trimSuffix w.data.toList p.data.toList).toArray⟩
def fitsE (w p : ByteArray) : Bool := Lib.hasSuffix w.data.toList p.data.toList && decide (3 ≤ (ahd w p).size)
def stmB : List En → ByteArray → ByteArray
  | [], w => w
  | e :: l, w => if fitsE w e.fr = true then ahd w e.fr ++ e.to else stmB l w
theorem ahd_le (w p : ByteArray) : (ahd w p).size ≤ w.size := by
  have h : (Lib.trimSuffix w.data.toList p.data.toList).length ≤ w.data.toList.length := by
    unfold Lib.trimSuffix
    split
    · rw [List.length_take]; omega
    · exact Nat.le_refl _
  rw [Lib.size_eq w]
  show (Lib.trimSuffix w.data.toList p.data.toList).toArray.size ≤ _
  rw [List.size_toArray]; exact h
theorem stm_step {E : List En} {w : ByteArray} {k : Nat} (h : k < E.length) : stmB (E.drop k) w = if fitsE w (ea E k).fr = true then ahd w (ea E k).fr ++ (ea E k).to else stmB (E.drop (k + 1)) w := by
  have e : E.drop k = ea E k :: E.drop (k + 1) := by
    rw [List.drop_eq_getElem_cons h]
    congr 1
    unfold ea; rw [List.getD_eq_getElem?_getD, List.getElem?_eq_getElem h]; rfl
  rw [e]; rfl
set_option maxRecDepth 100000 in
set_option maxHeartbeats 8000000 in
theorem stem_c (m : Value) (ae : Option Addr) (ke : Nat) (E : List En) (wd : ByteArray) (w : World) (hE : RdE w ae E) (h30 : ∀ j, j < E.length → (ea E j).fr.size ≤ 30 ∧ (ea E j).to.size ≤ 30) (hs : wd.size ≤ 30) :
    Calls Tryd.prog 25 #[.agg #[m, .slice ae E.length ke], .string wd] w fun e w' => e = .returned (.string (stmB E wd)) ∧ Below w.heap.size w w' := by
  obtain ⟨W1, hW1⟩ : ∃ W1, w.alloc (.cells #[m, .slice ae E.length ke] 38) = W1 := ⟨_, rfl⟩
  obtain ⟨z, hz⟩ : ∃ z, w.heap.size = z := ⟨_, rfl⟩
  have X1 : Hid (B2x W1 z m (.slice ae E.length ke)) := by unfold Hid; rw [← hW1, ← hz]; exact B2x.made _ _ _ _
  have B1 : Hid (Below w.heap.size w W1) := by unfold Hid; rw [← hW1]; exact bel_one _ _
  have PE := Lib.hid (hE.below B1.out)
  have H30 := Lib.hid h30
  have h9 := hE.1
  have mixed : Tryd.prog.follows .mixedOrders = true := by kernel_rfl
  obtain ⟨R, hR⟩ : ∃ R, stmB E wd = R := ⟨_, rfl⟩
  have HR := Lib.hid hR
  rw [hR]
  obtain ⟨n, hn⟩ : ∃ n, E.length = n := ⟨_, rfl⟩
  have HN := Lib.hid hn
  rw [hn] at X1 hW1 h9 ⊢
  obtain ⟨x0, x1, _⟩ := X1.out
  clear hE h30 hR hn
  go_enter Tryd.func25, Tryd.ntmps25
  go_wp2_with fail
  clear x0 x1 hW1
  go_loopw [6, 7, 8, 12] (fun _ _ _ i wr => ∃ k : Nat, k ≤ n ∧ i = .int .i64 k ∧ Hid (Below W1.heap.size W1 wr ∧ stmB (E.drop k) wd = R)) (fun _ _ _ i _ => n - (intOf i).toNat)
  case atStart => exact ⟨0, Nat.zero_le _, rfl, Below.refl _ _, HR.out⟩
  case round =>
    obtain ⟨k, hk, rfl, hS⟩ := hrel
    by_cases hlt : k < n
    · obtain ⟨b', off, rfl, _, hc⟩ := (PE.out.below hS.out.1).2 (by have := HN.out; omega)
      obtain ⟨u0, u1, u2, u3⟩ := hc k (by have := HN.out; omega)
      have hlt' : (k : Int) < (n : Int) := by omega
      have hst := stm_step (E := E) (w := wd) (k := k) (by rw [HN.out]; exact hlt)
      have hz30 := H30.out k (by rw [HN.out]; exact hlt)
      obtain ⟨en, hen⟩ : ∃ e, ea E k = e := ⟨_, rfl⟩
      rw [hen] at u0 u1 u2 u3 hst hz30
      obtain ⟨W3, hW3⟩ : ∃ W3, wr.alloc (.cells #[.string en.fr, .string en.to] 50) = W3 := ⟨_, rfl⟩
      have X3 : Hid (B2x W3 wr.heap.size (.string en.fr) (.string en.to)) := by unfold Hid; rw [← hW3]; exact B2x.made _ _ _ _
      have B3 : Hid (Below wr.heap.size wr W3) := by unfold Hid; rw [← hW3]; exact bel_one _ _
      have I3 : Hid (Below W1.heap.size W1 W3) := hS.out.1.trans (B3.out.mono hS.out.1.size)
      have A1 := Lib.hid ((Tryd.strings_CutSuffix wd en.fr W3 (by omega)).mono (R' := fun e w' => e = .returned (.tuple #[.string (ahd wd en.fr), .bool (Lib.hasSuffix wd.data.toList en.fr.data.toList)]) ∧ W3 = w') fun _ _ h => ⟨h.1, h.2.symm⟩)
      have hal := ahd_le wd en.fr
      have HST := Lib.hid hst
      have hf : fitsE wd en.fr = (Lib.hasSuffix wd.data.toList en.fr.data.toList && decide (3 ≤ (ahd wd en.fr).size)) := rfl
      obtain ⟨v0, v1, _⟩ := X3.out
      obtain ⟨q, hq⟩ : ∃ q, ahd wd en.fr = q := ⟨_, rfl⟩
      have HQ := Lib.hid hq
      rw [hq] at A1 hal hf
      have hto := hz30.2
      clear hc hen u2 u3 hst hz30 hq
      cases h1 : Lib.hasSuffix wd.data.toList en.fr.data.toList with
      | true =>
        rw [h1] at A1 hf
        by_cases h2 : 3 ≤ q.size
        · have h2' : (3 : Int) ≤ (q.size : Int) := by omega
          have hcat : ¬ (9223372036854775807 : Int) < (q.size : Int) + (en.to.size : Int) := by omega
          have e : Hid (R = q ++ en.to) := by unfold Hid; rw [← hS.out.2, HST.out, if_pos (by rw [hf, decide_eq_true h2]; rfl), HQ.out]
          have BW : Hid (Below w.heap.size w W3) := B1.out.trans (I3.out.mono B1.out.size)
          clear h1 h2 hf
          go_wp2_with fail
          refine A1.out.mono ?_
          rintro e1 w4 ⟨rfl, rfl⟩
          go_wp2
          go_ret
          exact ⟨by rw [e.out]; rfl, BW.out⟩
        · have h2' : ¬ (3 : Int) ≤ (q.size : Int) := by omega
          have NX : Hid (stmB (E.drop (k + 1)) wd = R) := by unfold Hid; rw [← hS.out.2, HST.out, if_neg (by rw [hf, decide_eq_false h2]; simp)]
          clear h1 h2 hf
          go_wp2_with fail
          refine A1.out.mono ?_
          rintro e1 w4 ⟨rfl, rfl⟩
          go_wp2
          go_roundw
          case rel => exact ⟨k + 1, by omega, by go_num, I3.out, NX.out⟩
          case measure => simp [intOf]; omega
      | false =>
        rw [h1] at A1 hf
        have NX : Hid (stmB (E.drop (k + 1)) wd = R) := by unfold Hid; rw [← hS.out.2, HST.out, if_neg (by rw [hf]; simp)]
        clear h1 hf
        go_wp2_with fail
        refine A1.out.mono ?_
        rintro e1 w4 ⟨rfl, rfl⟩
        go_wp2
        go_roundw
        case rel => exact ⟨k + 1, by omega, by go_num, I3.out, NX.out⟩
        case measure => simp [intOf]; omega
    · obtain rfl : k = n := by omega
      have hlt' : ¬ (k : Int) < (k : Int) := by omega
      have e : Hid (R = wd) := by
        unfold Hid; rw [← hS.out.2, List.drop_of_length_le (by rw [HN.out]; exact Nat.le_refl _)]; rfl
      have BW : Hid (Below w.heap.size w wr) := B1.out.trans (hS.out.1.mono B1.out.size)
      clear hlt hz
      go_wp2
      go_ret
      exact ⟨by rw [e.out]; rfl, BW.out⟩
end Go.Proofs.YtdapmmhbnaknbaaDoor
namespace Go.Proofs.YtdapmmhbnaknbaaDoor
open Go.RowKit Go.WideMaps Go.Maps

def kS (l : List ByteArray) (k : Nat) (x : List UInt8) : Bool := (l.take k).any fun s => decide (s.data.toList = x)
theorem kS_next {l : List ByteArray} {k : Nat} (h : k < l.length) (x : List UInt8) : kS l (k + 1) x = (kS l k x || decide ((wa l k).data.toList = x)) := by
  unfold kS
  rw [List.take_add_one, List.getElem?_eq_getElem h, List.any_append]
  simp [wa, h]
theorem kS_all (l : List ByteArray) (x : ByteArray) : kS l l.length x.data.toList = Lib.containsS l x := by
  rw [Bool.eq_iff_iff, Lib.containsS_iff]
  unfold kS
  rw [List.take_length, List.any_eq_true]
  constructor
  · rintro ⟨s, hs, h⟩
    have h := of_decide_eq_true h
    have : s = x := by
      apply ByteArray.ext; exact Array.ext' h
    rw [← this]; exact hs
  · intro h; exact ⟨x, h, by simp⟩
def StS (w : World) (m : Nat) (l : List ByteArray) (k : Nat) : Prop := MapS w m k fun x => if kS l k x = true then some (.bool true) else none
theorem StS.store {w : World} {m k : Nat} {l : List ByteArray} (h : StS w m l k) (hk : k < l.length) (hm : k < maxLen) (hs : (wa l k).size ≤ maxLen) :
    ∃ w', (Instr.mapUpdate 36 (.map (some m)) (.string (wa l k)) (.bool true)).run Tryd.prog w = .ok () w' ∧ StS w' m l (k + 1) ∧ w.grownBy w' (some m) := by
  obtain ⟨w', h1, h2, h3⟩ := MapS.store h Tryd.underlying36 hm (wa l k) hs (.bool true)
  refine ⟨w', h1, ?_, h3⟩
  have e : (fun x => if x = (wa l k).data.toList then some (Value.bool true) else if kS l k x = true then some (.bool true) else none) = fun x => if kS l (k + 1) x = true then some (.bool true) else none := by
    funext x
    rw [kS_next hk]
    by_cases q : x = (wa l k).data.toList
    · subst q; simp
    · rw [if_neg q]
      have : decide ((wa l k).data.toList = x) = false := decide_eq_false (fun e => q e.symm)
      rw [this, Bool.or_false]
  show MapS w' m (k + 1) _
  rw [← e]; exact h2
def StP (C : Cod) (v : Value) (w : World) (e : Ending) (w' : World) : Prop :=
  ∃ m, e = .returned (.agg #[.map (some m), v]) ∧ StS w' m C.st C.st.length ∧ Below w.heap.size w w' ∧ w.heap.size ≤ m
theorem MapS.other {w w' : World} {b n : Nat} {f : List UInt8 → Option Value} (h : MapS w b n f) (e : w'.heap[b]? = w.heap[b]?) : MapS w' b n f := by
  obtain ⟨D, ⟨es, clock, h1, h2⟩, hD⟩ := h
  exact ⟨D, ⟨es, clock, e.trans h1, h2⟩, hD⟩
theorem adr_neW {g a b : Nat} (h : a ≠ b) : (⟨g, a, none⟩ : Addr) ≠ ⟨g, b, none⟩ := fun e => by injection e; exact h (by assumption)
structure StI (W w : World) (m : Nat) (l : List ByteArray) (k : Nat) : Prop where
  bel : Below W.heap.size W w
  map : StS w m l k
  lt : m < w.heap.size
set_option maxRecDepth 100000 in
set_option maxHeartbeats 4000000 in
theorem stemmerOf_c (an sa ae ar ax : Option Addr) (k0 k1 k2 k3 k4 : Nat) (C : Cod) (w : World) (hC : CoR w an sa ae ar ax C) (hl : C.st.length ≤ 60) :
    Calls Tryd.prog 10 #[.agg #[.slice an C.nd.length k0, .slice sa C.st.length k1, .slice ae C.en.length k2, .slice ar C.ru.length k3, .slice ax C.ex.length k4]] w (StP C (.slice ae C.en.length k2) w) := by
  have hmm := @run_makeMap Tryd.prog
  obtain ⟨WA, hWA⟩ : ∃ W, w.alloc (.cells #[.slice an C.nd.length k0, .slice sa C.st.length k1, .slice ae C.en.length k2, .slice ar C.ru.length k3, .slice ax C.ex.length k4] 28) = W := ⟨_, rfl⟩
  obtain ⟨W1, hW1⟩ : ∃ W, WA.alloc (.cells #[.map none, .slice none 0 0] 38) = W := ⟨_, rfl⟩
  obtain ⟨z, hz⟩ : ∃ z, w.heap.size = z := ⟨_, rfl⟩
  obtain ⟨y, hy⟩ : ∃ y, WA.heap.size = y := ⟨_, rfl⟩
  obtain ⟨m, hm⟩ : ∃ m, W1.heap.size = m := ⟨_, rfl⟩
  have XA : KB WA z (.slice an C.nd.length k0) (.slice sa C.st.length k1) (.slice ae C.en.length k2) (.slice ar C.ru.length k3) (.slice ax C.ex.length k4) := by
    rw [← hWA, ← hz]; exact KB.made _ _ _ _ _ _ _
  have BA : Below w.heap.size w WA := by rw [← hWA]; exact bel_one _ _
  have BB : Below WA.heap.size WA W1 := by rw [← hW1]; exact bel_one _ _
  have X1 := Lib.hid (XA.keep BB)
  have Y1 : Hid (B2x W1 y (.map none) (.slice none 0 0) ∧ ∀ o, W1.frozen? ⟨y, o, none⟩ = false) := by
    unfold Hid; rw [← hW1, ← hy]; exact ⟨B2x.made _ _ _ _, fun o => by simp⟩
  have B1 : Hid (Below w.heap.size w W1) := BA.trans (BB.mono BA.size)
  have LZ : Hid (z < y ∧ y < m ∧ w.heap.size ≤ y) := by
    have e1 : WA.heap.size = w.heap.size + 1 := by rw [← hWA]; simp
    have e2 : W1.heap.size = WA.heap.size + 1 := by rw [← hW1]; simp
    unfold Hid; omega
  obtain ⟨W2, hW2⟩ : ∃ W, W1.alloc (.map #[] 0) = W := ⟨_, rfl⟩
  have MLE : Hid (W1.heap.size ≤ m) := by unfold Hid; omega
  have S0 : Hid (StI W1 W2 m C.st 0) := by
    unfold Hid; rw [← hW2, ← hm]
    refine ⟨bel_one _ _, ?_, by simp⟩
    have := MapS.made W1
    unfold StS
    have e : (fun x => if kS C.st 0 x = true then some (Value.bool true) else none) = fun _ => none := by funext x; simp [kS]
    rw [e]; exact this
  have PC := Lib.hid (hC.below B1.out).st
  have h9 := hC.st.1
  clear hC XA BA BB
  obtain ⟨n, hn⟩ : ∃ n, C.st.length = n := ⟨_, rfl⟩
  have HN := Lib.hid hn
  rw [hn] at hl h9 X1 hWA ⊢
  obtain ⟨x0, x1, x2, x3, x4, _⟩ := X1.out.keep (S0.out.bel)
  clear hn
  go_enter Tryd.func10, Tryd.ntmps10
  go_wp2_with fail
  clear x0 x1 x2 x3 x4 hWA hW1 hW2 hz hy hm
  go_loopw [5, 10] (fun _ i wr => ∃ k : Nat, k ≤ n ∧ i = .int .i64 k ∧ Hid (StI W1 wr m C.st k)) (fun _ i _ => n - (intOf i).toNat)
  case atStart => exact ⟨0, Nat.zero_le _, rfl, S0.out⟩
  case round =>
    clear S0
    obtain ⟨k, hk, rfl, hS⟩ := hrel
    by_cases hlt : k < n
    · obtain ⟨b', off, rfl, hc⟩ := (PC.out.below hS.out.bel).at_ (k := k) (by rw [HN.out]; exact hlt)
      have c0 := hc k (by rw [HN.out]; exact hlt)
      have hlt' : (k : Int) < (n : Int) := by omega
      have hsz := PC.out.2.1 _ (wa_mem (l := C.st) (j := k) (by rw [HN.out]; exact hlt))
      obtain ⟨W3, hup, T3, g3⟩ := hS.out.map.store (by rw [HN.out]; exact hlt) (by unfold maxLen; omega) (by unfold maxLen; omega)
      have NX : Hid (StI W1 W3 m C.st (k + 1)) := ⟨hS.out.bel.grown g3 hS.out.bel.size (fun u e => by cases e; have := LZ.out; exact MLE.out), T3, Nat.lt_of_lt_of_le hS.out.lt g3.size⟩
      clear hc T3 g3 hsz
      go_wp2
      go_roundw
      case rel => exact ⟨k + 1, by omega, by go_num, NX.out⟩
      case measure => simp [intOf]; omega
    · obtain rfl : k = n := by omega
      have hlt' : ¬ (k : Int) < (k : Int) := by omega
      obtain ⟨x0, x1, x2, x3, x4, _⟩ := X1.out.keep hS.out.bel
      have Y2 := Y1.out.1.keep hS.out.bel
      have y0 := Y2.c0
      have y1 := Y2.c1
      have f0 : ∀ o, wr.frozen? ⟨y, o, none⟩ = false := fun o => (hS.out.bel.frozen (p := ⟨y, o, none⟩) Y1.out.1.lz).trans (Y1.out.2 o)
      have e0 := World.cell?_setCell_same wr ⟨y, 0, none⟩ (.map (some m)) y0
      have g1 : ((wr.setCell ⟨y, 0, none⟩ (.map (some m))).setCell ⟨y, 1, none⟩ (.slice ae C.en.length k2)).cell? ⟨y, 0, none⟩ = some (.map (some m)) := by
        rw [World.cell?_setCell_other _ _ _ _ (adr_neW (by decide))]; exact e0
      have g2 : ((wr.setCell ⟨y, 0, none⟩ (.map (some m))).setCell ⟨y, 1, none⟩ (.slice ae C.en.length k2)).cell? ⟨y, 1, none⟩ = some (.slice ae C.en.length k2) :=
        World.cell?_setCell_same _ _ _ (u := .slice none 0 0) (by rw [World.cell?_setCell_other _ _ _ _ (adr_neW (by decide))]; exact y1)
      have RR : Hid (StP C (.slice ae C.en.length k2) w (.returned (.agg #[.map (some m), .slice ae C.en.length k2])) ((wr.setCell ⟨y, 0, none⟩ (.map (some m))).setCell ⟨y, 1, none⟩ (.slice ae C.en.length k2))) := by
        have hy1 := LZ.out.2.2
        have hym : m ≠ y := by have := LZ.out.2.1; omega
        have bw : Below w.heap.size w wr := B1.out.trans (hS.out.bel.mono B1.out.size)
        refine ⟨m, rfl, ?_, (bw.setCell (p := ⟨y, 0, none⟩) hy1 _).setCell (p := ⟨y, 1, none⟩) hy1 _, by have := LZ.out.2.1; omega⟩
        rw [HN.out]
        exact MapS.other hS.out.map ((Below.heap_setCell _ _ _ m hym).trans (Below.heap_setCell _ _ _ m hym))
      obtain ⟨W9, hW9⟩ : ∃ W9, (wr.setCell ⟨y, 0, none⟩ (.map (some m))).setCell ⟨y, 1, none⟩ (.slice ae C.en.length k2) = W9 := ⟨_, rfl⟩
      rw [hW9] at g1 g2 RR
      clear hlt Y2 e0
      go_wp2_with fail
      refine bodyPost_ret (v := .agg #[.map (some m), .slice ae C.en.length k2]) (by simp [results, Tryd.results10, go_sem, g1, g2]) rfl ?_
      exact RR.out
end Go.Proofs.YtdapmmhbnaknbaaDoor
namespace Go.Proofs.YtdapmmhbnaknbaaDoor
open Go.RowKit Go.Shelf

attribute [local go_sem] Oper.semAt_some

theorem decode_c (s : ByteArray) (i : Nat) (h : i < s.size) (W : World) (hT : Lib.Utf8Tabs 0 1 W) :
    Calls Tryd.prog 41 #[.string (s.extract i s.size)] W fun e W' => e = .returned (.tuple #[.int .i32 (Utf8.decode s i).1, .int .i64 (Utf8.decode s i).2]) ∧ Below W.heap.size W W' := by
  have h1 := Tryd.utf8_DecodeRuneInString (s.extract i s.size) W hT
  rw [Lib.decodeGo_extract s i h] at h1
  exact h1
theorem dec_wide (s : ByteArray) (i : Nat) (hi : i < s.size) : 1 ≤ (Utf8.decode s i).2 ∧ i + (Utf8.decode s i).2 ≤ s.size := by
  by_cases hb : (s[i]'hi).toNat < 128
  · rw [decode_ascii s i hi hb]; exact ⟨Nat.le_refl _, hi⟩
  · have h4 := decode_high s i hi (by omega)
    have h5 := dec_bytes s i hi (by omega)
    refine ⟨h4.2, ?_⟩
    have := (h5 ((Utf8.decode s i).2 - 1) (by omega)).1
    omega
def flS (s : ByteArray) (i : Nat) : Option Nat → List ByteArray
  | some a => [s.extract a i]
  | none => []
theorem yl_step {s : ByteArray} {i f : Nat} {so : Option Nat} (h : i < s.size) (hf : 0 < f) : yl s f i so = if dvB (Utf8.decode s i).1 = true then flS s i so ++ yl s (f - 1) (i + (Utf8.decode s i).2) none else yl s (f - 1) (i + (Utf8.decode s i).2) (some (so.getD i)) := by
  obtain ⟨g, rfl⟩ : ∃ g, f = g + 1 := ⟨f - 1, by omega⟩
  cases so with
  | none => show (if i < s.size then _ else _) = _; rw [if_pos h]; rfl
  | some a => show (if i < s.size then _ else _) = _; rw [if_pos h]; rfl
theorem yl_end {s : ByteArray} {i f : Nat} {so : Option Nat} (h : ¬ i < s.size) (hf : 0 < f) : yl s f i so = flS s s.size so := by
  obtain ⟨g, rfl⟩ : ∃ g, f = g + 1 := ⟨f - 1, by omega⟩
  cases so with
  | none => show (if i < s.size then _ else _) = _; rw [if_neg h]; rfl
  | some a => show (if i < s.size then _ else _) = _; rw [if_neg h]; rfl
theorem drop_head {rows : List ByteArray} {k : Nat} {x : ByteArray} {t : List ByteArray} (h : rows.drop k = x :: t) : rows[k]? = some x ∧ rows.drop (k + 1) = t ∧ k < rows.length := by
  have hk : k < rows.length := by
    have := congrArg List.length h
    rw [List.length_drop] at this; simp at this; omega
  rw [List.drop_eq_getElem_cons hk] at h
  injection h with h1 h2
  exact ⟨by rw [List.getElem?_eq_getElem hk, h1], h2, hk⟩
/-- How a row's beginning lies in its slot. -/
def soV : Option Nat → Int
  | some a => a
  | none => -1
structure FfI (b : Nat) (s : ByteArray) (W : World) : Prop where
  c0 : W.cell? ⟨b, 0, none⟩ = some (.string s)
  c1 : W.cell? ⟨b + 1, 0, none⟩ = some (.func (.func 21) #[] #[])
  tab : Lib.Utf8Tabs 0 1 W
set_option maxRecDepth 100000 in
set_option maxHeartbeats 4000000 in
theorem fields1_in (n l b : Nat) (hn : 1 ≤ n) (s : ByteArray) (hs : s.size ≤ 1000) (rows : List ByteArray) (hrows : yl s (s.size + 1) 0 none = rows) (J Jx : Nat → World → Prop)
    (hJi : ∀ k W, J k W → FfI b s W) (hJb : ∀ k W W', J k W → Below W.heap.size W W' → J k W')
    (hY : ∀ k (x : ByteArray) W, rows[k]? = some x → J k W → YieldAt Fence.wide (n - 1) Tryd.prog l #[.string x] W fun e W' => (e = .returned (.bool true) ∧ J (k + 1) W') ∨ (e = .returned (.bool false) ∧ Jx k W'))
    (W : World) (h0 : J 0 W) :
    CallsIn Fence.wide n Tryd.prog 40 #[.func (.yield l) #[] #[], .pointer (some ⟨b, 0, none⟩), .pointer (some ⟨b + 1, 0, none⟩)] W
      fun e W' => (∃ v, e = .returned v) ∧ (J rows.length W' ∨ ∃ k, k < rows.length ∧ Jx k W') := by
  refine callsIn_of_wp Tryd.func40 rfl trivial ?_ rfl
  simp only [Tryd.ntmps40, List.size_toArray, List.length_cons, List.length_nil, Nat.reduceAdd, Nat.reduceSub, Array.replicate_succ, Array.replicate_zero, List.push_toArray, List.append_toArray, List.nil_append, List.cons_append]
  gi_wp2
  gi_loopw [4, 5, 6, 7] (fun st iv _ _ wr => ∃ (k i f : Nat) (so : Option Nat), st = .int .i64 (soV so) ∧ iv = .int .i64 i ∧ i ≤ s.size ∧ Hid (J k wr ∧ s.size < i + f ∧ (∀ a, so = some a → a < i) ∧ rows.drop k = yl s f i so ∧ k ≤ rows.length)) (fun _ iv _ _ _ => s.size - (intOf iv).toNat)
  case atStart => exact ⟨0, 0, s.size + 1, none, rfl, rfl, Nat.zero_le _, h0, by omega, (fun a h => by injection h), hrows.symm, Nat.zero_le _⟩
  case round =>
    obtain ⟨k, i, f, so, rfl, rfl, hi, hS⟩ := hrel
    have Q := hJi k wr hS.out.1
    have b0 := Q.c0
    have b1 := Q.c1
    by_cases hlt : i < s.size
    · have hlt' : (i : Int) < (s.size : Int) := by omega
      have hi0 : (0 : Int) ≤ (i : Int) := by omega
      have hi1 : (i : Int) ≤ (s.size : Int) := by omega
      have D := Lib.hid (decode_c s i hlt wr Q.tab)
      have hst := yl_step (s := s) (so := so) hlt (show 0 < f by have := hS.out.2.1; omega)
      have hw : 1 ≤ (Utf8.decode s i).2 ∧ i + (Utf8.decode s i).2 ≤ s.size := dec_wide s i hlt
      have hr6 : (Utf8.decode s i).1 ≤ 1114111 := Lib.rune_le s i
      obtain ⟨r, hr⟩ : ∃ r, (Utf8.decode s i).1 = r := ⟨_, rfl⟩
      obtain ⟨m, hm⟩ : ∃ m, (Utf8.decode s i).2 = m := ⟨_, rfl⟩
      rw [hr, hm] at D
      rw [hr, hm] at hst
      rw [hm] at hw
      rw [hr] at hr6
      have HST := Lib.hid hst
      clear hst hr hm
      gi_wp2_with fail
      refine ⟨trivial, ?_⟩
      refine (callsIn_wide.2 D.out).mono ?_
      rintro e w2 ⟨rfl, b2⟩
      have J2 := Lib.hid (hJb k wr w2 hS.out.1 b2)
      have Q2 := hJi k w2 J2.out
      have c0 := Q2.c0
      have c1 := Q2.c1
      have C := Lib.hid (divides_c r w2 hr6)
      clear b0 b1 b2 Q Q2
      cases hd : dvB r with
      | true =>
        rw [hd] at C HST
        have hm1 := hw.1
        have hm2 := hw.2
        have hf9 := hS.out.2.1
        have hkl := hS.out.2.2.2.2
        gi_wp2_with fail
        refine ⟨trivial, ?_⟩
        refine (callsIn_wide.2 C.out).mono ?_
        rintro e w3 ⟨rfl, b3⟩
        have J3 := Lib.hid (hJb k w2 w3 J2.out b3)
        have Q3 := hJi k w3 J3.out
        have d0 := Q3.c0
        have d1 := Q3.c1
        clear c0 c1 b3 Q3 hd
        cases so with
        | none =>
          have so1 : soV none = (-1 : Int) := rfl
          have HN : Hid (rows.drop k = yl s (f - 1) (i + m) none) := by
            have h := hS.out.2.2.2.1
            rw [HST.out, if_pos trivial] at h; exact h
          gi_wp2
          go_roundw
          case rel => exact ⟨k, i + m, f - 1, none, rfl, by go_num, hm2, J3.out, by omega, (fun a h => by injection h), HN.out, hkl⟩
          case measure => simp [intOf]; omega
        | some a =>
          have hai := hS.out.2.2.1 a rfl
          have so1 : soV (some a) = (a : Int) := rfl
          have a0 : (0 : Int) ≤ (a : Int) := by omega
          have a1 : (a : Int) ≤ (i : Int) := by omega
          have HN := Lib.hid (drop_head (rows := rows) (k := k) (x := s.extract a i) (t := yl s (f - 1) (i + m) none) (by
            have h := hS.out.2.2.2.1
            rw [HST.out, if_pos trivial] at h; exact h))
          obtain ⟨fn, tmps, assign, body, hy, hR⟩ := hY k (s.extract a i) w3 HN.out.1 J3.out
          have R1 := Lib.hid hR
          clear hR
          gi_wp2_with fail
          refine R1.out.mono ?_
          rintro e W4 (⟨rfl, hJ4⟩ | ⟨rfl, hJ4⟩)
          · have J4 := Lib.hid hJ4
            clear hJ4 d0 d1 hy
            gi_wp2
            go_roundw
            case rel => exact ⟨k + 1, i + m, f - 1, none, rfl, by go_num, hm2, J4.out, by omega, (fun a h => by injection h), HN.out.2.1, HN.out.2.2⟩
            case measure => simp [intOf]; omega
          · have J4 := Lib.hid hJ4
            clear hJ4 d0 d1 hy
            gi_wp2
            refine bodyPost_ret (results_none rfl _ _ _) rfl ?_
            exact ⟨⟨_, rfl⟩, .inr ⟨k, HN.out.2.2, J4.out⟩⟩
      | false =>
        rw [hd] at C HST
        have hm1 := hw.1
        have hm2 := hw.2
        have hf9 := hS.out.2.1
        have hkl := hS.out.2.2.2.2
        have HN : Hid (rows.drop k = yl s (f - 1) (i + m) (some (so.getD i))) := by
          have h := hS.out.2.2.2.1
          rw [HST.out, if_neg (by simp)] at h; exact h
        gi_wp2_with fail
        refine ⟨trivial, ?_⟩
        refine (callsIn_wide.2 C.out).mono ?_
        rintro e w3 ⟨rfl, b3⟩
        have J3 := Lib.hid (hJb k w2 w3 J2.out b3)
        clear c0 c1 b3 hd
        cases so with
        | none =>
          have so1 : soV none = (-1 : Int) := rfl
          gi_wp2
          go_roundw
          case rel => exact ⟨k, i + m, f - 1, some i, rfl, by go_num, hm2, J3.out, by omega, (fun a h => by injection h with h; omega), HN.out, hkl⟩
          case measure => simp [intOf]; omega
        | some a =>
          have hai := hS.out.2.2.1 a rfl
          have so1 : soV (some a) = (a : Int) := rfl
          have a0 : ¬ (a : Int) < 0 := by omega
          gi_wp2
          go_roundw
          case rel => exact ⟨k, i + m, f - 1, some a, rfl, by go_num, hm2, J3.out, by omega, (fun a' h => by injection h with h; omega), HN.out, hkl⟩
          case measure => simp [intOf]; omega
    · have hlt' : ¬ (i : Int) < (s.size : Int) := by omega
      have hend := yl_end (s := s) (so := so) hlt (show 0 < f by have := hS.out.2.1; omega)
      have hdr := hS.out.2.2.2.1
      rw [hend] at hdr
      have hkl := hS.out.2.2.2.2
      have HJ := Lib.hid hS.out.1
      cases so with
      | none =>
        have so1 : soV none = (-1 : Int) := rfl
        have hke : k = rows.length := by
          have h : rows.drop k = [] := hdr
          have := List.drop_eq_nil_iff.1 h
          omega
        subst hke
        clear hdr hend hlt
        gi_wp2
        go_end0
        exact ⟨⟨_, rfl⟩, .inl HJ.out⟩
      | some a =>
        have hai := hS.out.2.2.1 a rfl
        have so1 : soV (some a) = (a : Int) := rfl
        have a0 : (0 : Int) ≤ (a : Int) := by omega
        have a1 : (a : Int) ≤ (s.size : Int) := by omega
        have HN := Lib.hid (drop_head (rows := rows) (k := k) (x := s.extract a s.size) (t := []) hdr)
        obtain ⟨fn, tmps, assign, body, hy, hR⟩ := hY k (s.extract a s.size) wr HN.out.1 HJ.out
        have R1 := Lib.hid hR
        have hke : k + 1 = rows.length := by
          have := List.drop_eq_nil_iff.1 HN.out.2.1
          have := HN.out.2.2
          omega
        have HK := Lib.hid hke
        clear hR hdr hend hlt hke
        gi_wp2_with fail
        refine R1.out.mono ?_
        rintro e W4 (⟨rfl, hJ4⟩ | ⟨rfl, hJ4⟩)
        · have J4 := Lib.hid hJ4
          clear hJ4 hy
          gi_wp2
          go_end0
          exact ⟨⟨_, rfl⟩, .inl (HK.out ▸ J4.out)⟩
        · have J4 := Lib.hid hJ4
          clear hJ4 hy
          gi_wp2
          go_end0
          exact ⟨⟨_, rfl⟩, .inr ⟨k, HN.out.2.2, J4.out⟩⟩
end Go.Proofs.YtdapmmhbnaknbaaDoor
