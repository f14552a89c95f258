/-
  Small functions of the reference on cells, loops and places: begins, isPlace, cellAt, nest, over, operation.
-/
import Derived.Test.YtngijlmokhkdjaaDoorTyRShape
import Derived.Test.YtngijlmokhkdjaaDoorTyPlace
import Derived.Test.YtngijlmokhkdjaaDoorTyTypeOf
namespace Go.Proofs.YtngijlmokhkdjaaDoor
open Go.RowKit

set_option maxRecDepth 100000 in
theorem begins_c (w : World) (v1 v2 : Value) (l1 l2 : List ByteArray) (h1 : IsN w v1 l1) (h2 : IsN w v2 l2) :
    Calls Tryd.prog 32 #[v1, v2] w fun e w' => e = .returned (.bool (beginsS l1 l2)) ∧ Below w.heap.size w w' := by
  have hn1 := h1.len
  have hn2 := h2.len
  by_cases hle : l1.length ≤ l2.length
  · have e0 : Hid (beginsS l1 l2 = decide (l1 = l2.take l1.length)) := by
      unfold Hid beginsS
      rw [decide_eq_decide]
      constructor
      · intro h; exact h.2.symm
      · intro h; exact ⟨hle, h.symm⟩
    have n1 : (l1.length : Int) ≤ (l2.length : Int) := by omega
    rcases h2 with ⟨a2, c2, rfl, rfl⟩ | ⟨b, off, cap, rfl, hpos, hcap, hbl, hc⟩
    · have h0 : l1 = [] := by
        cases l1 with
        | nil => rfl
        | cons x r => simp at hle
      subst h0
      obtain ⟨a1, c1, rfl⟩ := h1.form
      have HQ := Lib.hid (fun W => Tryd.slices_Equal_string_empty a1 a2 c1 0 c2 W (by omega))
      have m1 : (0 : Int) ≤ (c2 : Int) := by omega
      clear h1 hle hn1 hn2
      go_enter Tryd.func32, Tryd.ntmps32
      go_wp2_with fail
      refine (HQ.out _).mono ?_
      rintro e w4 ⟨rfl, rfl⟩
      go_wp2
      go_ret
      exact ⟨by rw [e0.out]; rfl, Below.refl _ _⟩
    · have HQ := Lib.hid (equal_c w v1 l1 b off l1.length cap l2 h1 hle hn1 hbl hc)
      obtain ⟨a1, c1, rfl⟩ := h1.form
      obtain ⟨k1, k2⟩ := hcap
      have m1 : (l1.length : Int) ≤ (cap : Int) := by omega
      clear h1 hc
      go_enter Tryd.func32, Tryd.ntmps32
      go_wp2_with fail
      refine (HQ.out _ (Below.refl _ _)).mono ?_
      rintro e w4 ⟨rfl, hB⟩
      have HB := Lib.hid hB
      clear hB
      go_wp2
      go_ret
      exact ⟨by rw [e0.out]; rfl, HB.out⟩
  · have e0 : Hid (beginsS l1 l2 = false) := by unfold Hid beginsS; simp [hle]
    have n1 : ¬ ((l1.length : Int) ≤ (l2.length : Int)) := by omega
    have n2 : (l2.length : Int) < (l1.length : Int) := by omega
    obtain ⟨a1, c1, rfl⟩ := h1.form
    obtain ⟨a2, c2, rfl⟩ := h2.form
    clear h1 h2 hle
    go_enter Tryd.func32, Tryd.ntmps32
    go_wp2
    go_ret
    exact ⟨by rw [e0.out]; rfl, Below.refl _ _⟩

/-- Where a cell's name stands in a row, from an index on; -1: nowhere. -/
def placeF (nm : ByteArray) : List Cl → Nat → Int
  | [], _ => -1
  | c :: r, k => if c.nm = nm then k else placeF nm r (k + 1)
theorem placeF_drop {nm : ByteArray} {C : List Cl} {k : Nat} {c : Cl} (h : C[k]? = some c) : placeF nm (C.drop k) k = if c.nm = nm then (k : Int) else placeF nm (C.drop (k + 1)) (k + 1) := by
  obtain ⟨hk, he⟩ := List.getElem?_eq_some_iff.1 h
  rw [List.drop_eq_getElem_cons hk, he]; rfl
theorem text_ext {a b : ByteArray} (h : a.data.toList = b.data.toList) : a = b := by
  cases a; cases b; simpa using h
theorem eqB {a b : ByteArray} (h : a = b) : (a.toList == b.toList) = true := by subst h; simp
theorem neB {a b : ByteArray} (h : a ≠ b) : (a.toList == b.toList) = false := by
  rw [Lib.toList_data, Lib.toList_data, beq_eq_false_iff_ne]
  exact fun e => h (text_ext e)
set_option maxRecDepth 100000 in
theorem cellAt_c (w : World) (v : Value) (C : List Cl) (nm : ByteArray) (hC : IsC w v C) (hn : C.length ≤ 1048576) :
    Calls Tryd.prog 27 #[v, .string nm] w fun e w' => e = .returned (.int .i64 (placeF nm C 0)) ∧ Below w.heap.size w w' := by
  obtain ⟨a, q, rfl, hC⟩ := hC
  have HC := Lib.hid hC
  clear hC
  have HZ : Hid (placeF nm C 0 = placeF nm (C.drop 0) 0) := rfl
  generalize placeF nm C 0 = Z at HZ ⊢
  go_enter Tryd.func27, Tryd.ntmps27
  go_wp2_with fail
  go_loopw [5, 6, 9] (fun _ _ i wr => ∃ k : Nat, k ≤ C.length ∧ i = .int .i64 k ∧ Hid (Below w.heap.size w wr) ∧ Hid (Z = placeF nm (C.drop k) k)) (fun _ _ i _ => C.length - (intOf i).toNat)
  case atStart => exact ⟨0, Nat.zero_le _, rfl, Below.refl _ _, HZ.out⟩
  case round =>
    obtain ⟨k, hk, rfl, hB, hA⟩ := hrel
    clear HZ
    by_cases hlt : k < C.length
    · have hkk : (k : Int) < (C.length : Int) := by omega
      obtain ⟨b, off, rfl, hbl, hCs⟩ : ∃ b off, a = some ⟨b, off, none⟩ ∧ b < w.heap.size ∧ IsCs w b C off := by
        rcases HC.out with h | ⟨b, off, h1, h2, _, h3⟩
        · omega
        · exact ⟨b, off, h1, h2, h3⟩
      obtain ⟨c, hc⟩ : ∃ c, C[k]? = some c := ⟨C[k], List.getElem?_eq_getElem hlt⟩
      obtain ⟨lv, g0, g1, g2, hi⟩ := hCs.at hc
      obtain ⟨la, lc, rfl⟩ := hi.form
      have cc := fun (z : Nat) => hB.out.cell (p := ⟨b, z, none⟩) hbl
      have k0 := (cc _).trans g0
      have k1 := (cc _).trans g1
      have k2 := (cc _).trans g2
      have hE := hA.out.trans (placeF_drop hc)
      have HB1 := Lib.hid (hB.out.alloc hB.out.size (.cells #[.string c.nm, .int .i64 c.kind, .slice la c.lp.length lc] 57))
      clear g0 g1 g2 cc hCs hi hc hA
      by_cases hnm : c.nm = nm
      · have eZ : Hid (Z = k) := hE.trans (if_pos hnm)
        have t1 := eqB hnm
        clear hE hnm
        go_wp2
        go_ret
        exact ⟨ret_int eZ.out.symm, HB1.out⟩
      · have eZ : Hid (Z = placeF nm (C.drop (k + 1)) (k + 1)) := hE.trans (if_neg hnm)
        have t1 := neB hnm
        clear hE hnm
        go_wp2
        go_roundw
        case rel => exact ⟨k + 1, by omega, by go_num, HB1.out, eZ.out⟩
        case measure => simp [intOf]; omega
    · obtain rfl : k = C.length := by omega
      have eZ : Hid (Z = -1) := by unfold Hid; rw [hA.out, List.drop_length]; rfl
      clear hA
      go_wp2
      go_ret
      exact ⟨ret_int eZ.out.symm, hB.out⟩

theorem rOver_c (o k : Int) (w : World) : Calls Tryd.prog 52 #[.int .i64 o, .int .i64 k] w fun e w' => e = .returned (.tuple #[.int .i64 (overK o k).1, .bool (overK o k).2]) ∧ w' = w := by
  by_cases h1 : o = 1
  · subst h1
    go_enter Tryd.func52, Tryd.ntmps52
    go_wp2
    go_ret2
    exact ⟨rfl, rfl⟩
  by_cases h2 : o = 2
  · subst h2
    clear h1
    go_enter Tryd.func52, Tryd.ntmps52
    go_wp2
    go_ret2
    exact ⟨rfl, rfl⟩
  by_cases h3 : o = 3
  · subst h3
    clear h1 h2
    go_enter Tryd.func52, Tryd.ntmps52
    go_wp2
    go_ret2
    exact ⟨rfl, rfl⟩
  by_cases h4 : o = 4
  · subst h4
    clear h1 h2 h3
    go_enter Tryd.func52, Tryd.ntmps52
    go_wp2
    go_ret2
    exact ⟨rfl, rfl⟩
  have e : Hid (overK o k = (k, k == 2 || k == 6)) := by unfold Hid overK; rw [if_neg h1, if_neg h2, if_neg (by omega)]
  have n1 : (o == 1) = false := by simpa using h1
  have n2 : (o == 2) = false := by simpa using h2
  have n3 : (o == 3) = false := by simpa using h3
  have n4 : (o == 4) = false := by simpa using h4
  clear h1 h2 h3 h4
  by_cases h5 : k = 2
  · subst h5
    go_enter Tryd.func52, Tryd.ntmps52
    go_wp2
    go_ret2
    exact ⟨by rw [e.out]; rfl, rfl⟩
  · have n5 : (k == 2) = false := by simpa using h5
    clear h5
    go_enter Tryd.func52, Tryd.ntmps52
    go_wp2
    go_ret2
    exact ⟨by rw [e.out]; simp [n5], rfl⟩

theorem anyL_drop {P : Ne → Bool} {L : List Ne} {k : Nat} {c : Ne} (h : L[k]? = some c) : (L.drop k).any P = if P c = true then true else (L.drop (k + 1)).any P := by
  obtain ⟨hk, he⟩ := List.getElem?_eq_some_iff.1 h
  rw [List.drop_eq_getElem_cons hk, he, List.any_cons]
  cases P c <;> simp
theorem equal_q (w : World) (v : Value) (l : List ByteArray) (b off m cap : Nat) (pl : List ByteArray) (hv : IsN w v l) (hm : m ≤ pl.length) (hm2 : m ≤ 9223372036854775807) (hbl : b < w.heap.size)
    (hc : ∀ j, j < pl.length → w.cell? ⟨b, off + j, none⟩ = some (.string (pl.getD j noText))) :
    ∀ W, Below w.heap.size w W → Calls Tryd.prog 30 #[v, .slice (some ⟨b, off, none⟩) m cap] W fun e w' => e = .returned (.bool (decide (l = pl.take m))) ∧ ∃ q, w' = W.drewN q := by
  intro W hW
  rcases hv with ⟨a, c, rfl, rfl⟩ | ⟨b2, off2, cap2, rfl, h1, h2, h3, h4⟩
  · refine (Tryd.slices_Equal_string_empty a (some ⟨b, off, none⟩) c m cap W hm2).mono fun e w' ⟨he, hw⟩ => ⟨?_, 0, by rw [hw]; rfl⟩
    rw [he]
    have : (m = 0) ↔ ([] = pl.take m) := by
      constructor
      · intro h; subst h; simp
      · intro h
        have h2 := congrArg List.length h
        rw [List.length_take, List.length_nil] at h2
        omega
    simp only [decide_eq_decide.2 this]
  · refine (Tryd.slices_Equal_string b2 off2 l.length cap2 b off m cap l pl W (Nat.le_refl _) hm (by omega) hm2 (fun j hj => (hW.cell (p := ⟨b2, off2 + j, none⟩) h3).trans (h4 j hj)) (fun j hj => (hW.cell (p := ⟨b, off + j, none⟩) hbl).trans (hc j hj))).mono fun e w' ⟨he, q, hw⟩ => ⟨?_, q, hw⟩
    rw [he, List.take_length]
set_option maxRecDepth 100000 in
set_option maxHeartbeats 4000000 in
theorem rIsPlace_c (w0 w : World) (vL pv : Value) (L : List Ne) (pl : List ByteArray) (hb : Below w0.heap.size w0 w) (hL : IsM w0 vL L) (hN : IsN w pv pl) (hn : L.length ≤ 1048576) :
    Calls Tryd.prog 13 #[vL, pv] w fun e w' => e = .returned (.bool (placeS L pl)) ∧ Below w.heap.size w w' := by
  obtain ⟨a, q, rfl, hL⟩ := hL
  have HL := Lib.hid hL
  clear hL
  rcases hN with ⟨pa, pc, rfl, rfl⟩ | ⟨pb, po, cap, rfl, hpos, hmax, hpbl, hpc⟩
  · have e0 : Hid (placeS L [] = true) := by unfold Hid placeS; simp
    go_enter Tryd.func13, Tryd.ntmps13
    go_wp2
    go_ret
    exact ⟨by rw [e0.out]; rfl, Below.refl _ _⟩
  · obtain ⟨m, hm⟩ : ∃ m, pl.length = m + 1 := ⟨pl.length - 1, by omega⟩
    obtain ⟨x, hx⟩ : ∃ x, x = pl.getD m noText := ⟨_, rfl⟩
    have hne : pl ≠ [] := by intro h; rw [h] at hpos; simp at hpos
    have HZ : Hid (placeS L pl = (L.drop 0).any fun l => decide (l.nm = x ∧ l.lp = pl.take m)) := by
      unfold Hid placeS
      rw [decide_eq_false hne, Bool.false_or, hm, Nat.add_sub_cancel, ← hx]; rfl
    have cx := hpc m (by omega)
    rw [← hx] at cx
    obtain ⟨hm1, hm2⟩ := hmax
    have HEQ := Lib.hid (fun v l (hv : IsN w v l) => equal_q w v l pb po m cap pl hv (by omega) (by omega) hpbl hpc)
    rw [hm] at hm1 ⊢
    have n1 : ((m : Int) + 1) ≠ 0 := by omega
    have n2 : (m : Int) ≤ cap := by omega
    clear hx hpos hne hm hpc
    generalize placeS L pl = Z at HZ ⊢
    go_enter Tryd.func13, Tryd.ntmps13
    go_wp2_with fail
    go_loopw [7, 16] (fun _ i wr => ∃ k : Nat, k ≤ L.length ∧ i = .int .i64 k ∧ Hid (Below w.heap.size w wr) ∧ Hid (Z = (L.drop k).any fun l => decide (l.nm = x ∧ l.lp = pl.take m))) (fun _ i _ => L.length - (intOf i).toNat)
    case atStart => exact ⟨0, Nat.zero_le _, rfl, Below.refl _ _, HZ.out⟩
    case round =>
      obtain ⟨k, hk, rfl, hB, hA⟩ := hrel
      clear HZ
      by_cases hlt : k < L.length
      · have hkk : (k : Int) < (L.length : Int) := by omega
        obtain ⟨b, off, rfl, hbl, hCs⟩ : ∃ b off, a = some ⟨b, off, none⟩ ∧ b < w0.heap.size ∧ IsNs w0 b L off := by
          rcases HL.out with h | ⟨b, off, h1, h2, _, h3⟩
          · omega
          · exact ⟨b, off, h1, h2, h3⟩
        obtain ⟨c, hc⟩ : ∃ c, L[k]? = some c := ⟨L[k], List.getElem?_eq_getElem hlt⟩
        obtain ⟨lv, g0, g1, hi⟩ := hCs.at hc
        have hEQ := HEQ.out lv c.lp (hi.below hb)
        obtain ⟨la, lc, rfl⟩ := hi.form
        have hB0 := hb.trans (hB.out.mono hb.size)
        have cc := fun (z : Nat) => hB0.cell (p := ⟨b, z, none⟩) hbl
        have k0 := (cc _).trans g0
        have k1 := (cc _).trans g1
        have cx' := (hB.out.cell (p := ⟨pb, po + m, none⟩) hpbl).trans cx
        have hpb' : pb < wr.heap.size := Nat.lt_of_lt_of_le hpbl hB.out.size
        have hE := hA.out.trans (anyL_drop hc)
        have hB1 := hB.out.alloc hB.out.size (.cells #[.string c.nm, .slice la c.lp.length lc] 60)
        have hEQ1 := Lib.hid (fun W (hW : Below w.heap.size w W) => hEQ W hW)
        have HB1 := Lib.hid hB1
        clear g0 g1 cc hCs hi hc hA hEQ hB0 hB1
        by_cases hnm : c.nm = x
        · have t1 := eqB hnm
          have hnmH := Lib.hid hnm
          clear hnm
          obtain ⟨s, hs⟩ : ∃ s, s = decide (c.lp = pl.take m) := ⟨_, rfl⟩
          have eP : (decide (c.nm = x ∧ c.lp = pl.take m)) = s := by rw [hs]; simp [hnmH.out]
          rw [eP] at hE
          have hEQ2 := Lib.hid (fun W (hW : Below w.heap.size w W) => by have := hEQ1.out W hW; rw [← hs] at this; exact this)
          have hE2 := Lib.hid hE
          clear hE hs eP hEQ1
          cases s with
          | true =>
            have eZ : Hid (Z = true) := hE2.out.trans (if_pos rfl)
            clear hE2
            go_wp2_with fail
            go_quiet ((go_at_call 30; exact Calls.quiet_of (hEQ2.out _ (below_drewN HB1.out _))))
            go_wp2
            go_ret
            exact ⟨by rw [eZ.out]; rfl, below_drewN HB1.out _⟩
          | false =>
            have eZ : Hid (Z = (L.drop (k + 1)).any fun l => decide (l.nm = x ∧ l.lp = pl.take m)) := hE2.out.trans (if_neg (by decide))
            clear hE2
            go_wp2_with fail
            go_quiet ((go_at_call 30; exact Calls.quiet_of (hEQ2.out _ (below_drewN HB1.out _))))
            have HB2 : Hid (Below w.heap.size w ((wr.alloc (.cells #[.string c.nm, .slice la c.lp.length lc] 60)).drewN nq)) := below_drewN HB1.out _
            go_wp2
            go_roundw
            case rel => exact ⟨k + 1, by omega, by go_num, HB2.out, eZ.out⟩
            case measure => simp [intOf]; omega
        · have t1 := neB hnm
          have eP : (decide (c.nm = x ∧ c.lp = pl.take m)) = false := by simp [hnm]
          rw [eP] at hE
          have hE2 := Lib.hid hE
          clear hE eP hEQ1 hnm
          have eZ : Hid (Z = (L.drop (k + 1)).any fun l => decide (l.nm = x ∧ l.lp = pl.take m)) := hE2.out.trans (if_neg (by decide))
          clear hE2
          go_wp2_with fail
          go_quiet (fail)
          have HB2 : Hid (Below w.heap.size w ((wr.alloc (.cells #[.string c.nm, .slice la c.lp.length lc] 60)).drewN nq)) := below_drewN HB1.out _
          go_wp2
          go_roundw
          case rel => exact ⟨k + 1, by omega, by go_num, HB2.out, eZ.out⟩
          case measure => simp [intOf]; omega
      · obtain rfl : k = L.length := by omega
        have eZ : Hid (Z = false) := by unfold Hid; rw [hA.out, List.drop_length]; rfl
        clear hA
        go_wp2
        go_ret
        exact ⟨by rw [eZ.out]; rfl, hB.out⟩
end Go.Proofs.YtngijlmokhkdjaaDoor
