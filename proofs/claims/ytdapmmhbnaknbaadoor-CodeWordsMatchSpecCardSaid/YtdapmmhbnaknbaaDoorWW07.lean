/-
  Package code: which texts are words.
  Package code: lists of words.
  The reference of package code: above, lineage.
  The reference of package code: CheckFrame.
-/
import Derived.Test.YtdapmmhbnaknbaaDoorWW01
import Derived.Test.YtdapmmhbnaknbaaDoorWW02
import Derived.Test.YtdapmmhbnaknbaaDoorWW06
namespace Go.Proofs.YtdapmmhbnaknbaaDoor
open Go.RowKit Go.WideMaps Go.Maps

theorem wordByte_c (r : Nat) (w : World) (hr : r ≤ 1114111) : Calls Tryd.prog 22 #[.int .i32 r] w fun e w' => e = .returned (.bool (wdB r)) ∧ Below w.heap.size w w' := by
  have mixed : Tryd.prog.follows .mixedOrders = true := by kernel_rfl
  have B0 := Lib.hid (Below.refl w.heap.size w)
  have E : Hid (wdB r = ((decide (97 ≤ r) && decide (r ≤ 122)) || (decide (48 ≤ r) && decide (r ≤ 57)))) := rfl
  obtain ⟨R, hR⟩ : ∃ R, wdB r = R := ⟨_, rfl⟩
  rw [hR] at E ⊢
  clear hR
  by_cases h1 : 97 ≤ r
  · have h1' : (97 : Int) ≤ (r : Int) := by omega
    by_cases h2 : r ≤ 122
    · have h2' : (r : Int) ≤ 122 := by omega
      have e : Hid (R = true) := by unfold Hid; rw [E.out, decide_eq_true h1, decide_eq_true h2]; rfl
      clear E h1 h2
      go_enter Tryd.func22, Tryd.ntmps22
      go_wp2
      go_ret
      exact ⟨by rw [e.out]; rfl, B0.out⟩
    · have h2' : ¬ (r : Int) ≤ 122 := by omega
      have h3' : (48 : Int) ≤ (r : Int) := by omega
      have h4' : ¬ (r : Int) ≤ 57 := by omega
      have e : Hid (R = false) := by unfold Hid; rw [E.out, decide_eq_false h2, decide_eq_false (p := r ≤ 57) (by omega)]; simp
      clear E h1 h2
      go_enter Tryd.func22, Tryd.ntmps22
      go_wp2
      go_ret
      exact ⟨by rw [e.out]; rfl, B0.out⟩
  · have h1' : ¬ (97 : Int) ≤ (r : Int) := by omega
    by_cases h3 : 48 ≤ r
    · have h3' : (48 : Int) ≤ (r : Int) := by omega
      by_cases h4 : r ≤ 57
      · have h4' : (r : Int) ≤ 57 := by omega
        have e : Hid (R = true) := by unfold Hid; rw [E.out, decide_eq_true h3, decide_eq_true h4]; simp
        clear E h1 h3 h4
        go_enter Tryd.func22, Tryd.ntmps22
        go_wp2
        go_ret
        exact ⟨by rw [e.out]; rfl, B0.out⟩
      · have h4' : ¬ (r : Int) ≤ 57 := by omega
        have e : Hid (R = false) := by unfold Hid; rw [E.out, decide_eq_false h1, decide_eq_false h4]; simp
        clear E h1 h3 h4
        go_enter Tryd.func22, Tryd.ntmps22
        go_wp2
        go_ret
        exact ⟨by rw [e.out]; rfl, B0.out⟩
    · have h3' : ¬ (48 : Int) ≤ (r : Int) := by omega
      have e : Hid (R = false) := by unfold Hid; rw [E.out, decide_eq_false h1, decide_eq_false h3]; simp
      clear E h1 h3
      go_enter Tryd.func22, Tryd.ntmps22
      go_wp2
      go_ret
      exact ⟨by rw [e.out]; rfl, B0.out⟩
theorem isWord1_c (r : Nat) (w : World) (hr : r ≤ 1114111) : Calls Tryd.prog 55 #[.int .i32 r] w fun e w' => e = .returned (.bool (!wdB r)) ∧ Below w.heap.size w w' := by
  have C := Lib.hid (wordByte_c r w hr)
  obtain ⟨R, hR⟩ : ∃ R, wdB r = R := ⟨_, rfl⟩
  rw [hR] at C ⊢
  clear hR
  go_enter Tryd.func55, Tryd.ntmps55
  go_wp2_with fail
  refine C.out.mono ?_
  rintro e w1 ⟨rfl, b1⟩
  have B1 := Lib.hid b1
  clear b1
  go_wp2
  go_ret
  exact ⟨rfl, B1.out⟩
theorem isWord1_enters (args : Array Value) (w : World) : (callFunc 55 args).run Tryd.prog w = .ok (.enter 55 args) w := enters_of Tryd.func55 (by kernel_rfl) rfl args w
set_option maxHeartbeats 1000000 in
theorem isWord_c (s : ByteArray) (w : World) (hs : s.size ≤ 9223372036854775807) : Calls Tryd.prog 33 #[.string s] w fun e w' => e = .returned (.bool (isW s.data.toList)) ∧ Below w.heap.size w w' := by
  have C := Lib.hid (Tryd.strings_ContainsFunc_grows 55 #[] isWord1_enters (fun r => !wdB r) s w (fun W x hx _ => isWord1_c x W hx))
  rw [word_is] at C
  have hsz := Lib.size_eq s
  have HD := Lib.hid (Lib.toList_data s)
  have E : Hid (isW s.data.toList = (decide (s.data.toList ≠ []) && (decide (s.data.toList.length ≤ 30) && wdS s.data.toList))) := rfl
  obtain ⟨R, hR⟩ : ∃ R, isW s.data.toList = R := ⟨_, rfl⟩
  obtain ⟨Q, hQ⟩ : ∃ Q, wdS s.data.toList = Q := ⟨_, rfl⟩
  rw [hR] at E ⊢
  rw [hQ] at E C
  have HSZ := Lib.hid hsz
  have B0 := Lib.hid (Below.refl w.heap.size w)
  clear hR hQ hsz
  by_cases h1 : s.data.toList = []
  · have f1 : (s.toList == []) = true := by rw [Lib.toList_data, h1]; rfl
    have f2 : s.toList.isEmpty = true := by rw [Lib.toList_data, h1]; rfl
    have f3 : s.toList = [] := by rw [Lib.toList_data, h1]
    have e : Hid (R = false) := by unfold Hid; rw [E.out, decide_eq_false (by simp [h1])]; rfl
    clear E h1
    go_enter Tryd.func33, Tryd.ntmps33
    go_wp2
    go_ret
    exact ⟨by rw [e.out]; rfl, B0.out⟩
  · have f1 : (s.toList == []) = false := by rw [beq_eq_false_iff_ne, Lib.toList_data]; exact h1
    have f2 : s.toList.isEmpty = false := by rw [Lib.toList_data]; cases e : s.data.toList with | nil => exact absurd e h1 | cons _ _ => rfl
    by_cases h2 : s.size ≤ 30
    · have h2' : (s.size : Int) ≤ 30 := by omega
      have e : Hid (R = Q) := by unfold Hid; rw [E.out, decide_eq_true h1, decide_eq_true (by rw [← HSZ.out]; exact h2)]; rfl
      clear E h1 h2
      go_enter Tryd.func33, Tryd.ntmps33
      go_wp2_with fail
      refine C.out.mono ?_
      rintro e1 w1 ⟨rfl, b1⟩
      have B1 := Lib.hid b1
      clear b1
      go_wp2
      go_ret
      exact ⟨by rw [e.out]; simp, B1.out⟩
    · have h2' : ¬ (s.size : Int) ≤ 30 := by omega
      have e : Hid (R = false) := by unfold Hid; rw [E.out, decide_eq_false (p := s.data.toList.length ≤ 30) (by rw [← HSZ.out]; exact h2)]; simp
      clear E h1 h2
      go_enter Tryd.func33, Tryd.ntmps33
      go_wp2
      go_ret
      exact ⟨by rw [e.out]; rfl, B0.out⟩
end Go.Proofs.YtdapmmhbnaknbaaDoor
namespace Go.Proofs.YtdapmmhbnaknbaaDoor
open Go.RowKit Go.WideMaps Go.Maps

set_option maxRecDepth 100000 in
set_option maxHeartbeats 4000000 in
theorem rIsWord_c (s : ByteArray) (w : World) (hs : s.size ≤ 9223372036854775807) : Calls Tryd.prog 18 #[.string s] w fun e w' => e = .returned (.bool (isW s.data.toList)) ∧ Below w.heap.size w w' := by
  have HSZ := Lib.hid (Lib.size_eq s)
  have E : Hid (isW s.data.toList = (decide (s.data.toList ≠ []) && (decide (s.data.toList.length ≤ 30) && wdS s.data.toList))) := rfl
  have B0 := Lib.hid (Below.refl w.heap.size w)
  obtain ⟨R, hR⟩ : ∃ R, isW s.data.toList = R := ⟨_, rfl⟩
  rw [hR] at E ⊢
  clear hR
  go_enter Tryd.func18, Tryd.ntmps18
  go_wp2_with fail
  go_loop [3, 6] (fun _ i => ∃ k : Nat, k ≤ s.size ∧ i = .int .i64 k ∧ Hid (∀ j, j < k → ∃ h : j < s.size, wdB (s[j]'h).toNat = true)) (fun _ i => s.size - (intOf i).toNat)
  case atStart => exact ⟨0, Nat.zero_le _, rfl, fun j h => absurd h (Nat.not_lt_zero j)⟩
  case round =>
    obtain ⟨k, hk, rfl, hE⟩ := hrel
    by_cases hlt : k < s.size
    · have hkk : (k : Int) < (s.size : Int) := by omega
      have GOOD : Hid (wdB (s[k]'hlt).toNat = true → ∀ j, j < k + 1 → ∃ h : j < s.size, wdB (s[j]'h).toNat = true) := fun h j hj => by
        rcases Nat.lt_or_ge j k with q | q
        · exact hE.out j q
        · obtain rfl : j = k := by omega
          exact ⟨hlt, h⟩
      have BAD : Hid (wdB (s[k]'hlt).toNat = false → R = false) := fun h => by
        have : wdS s.data.toList = false := by
          unfold wdS
          rw [List.all_eq_false]
          exact ⟨s[k]'hlt, List.mem_of_getElem? (at_ba s k hlt), by rw [h]; simp⟩
        rw [E.out, this]; simp
      clear hE
      by_cases h1 : (s[k]'hlt).toNat < 97
      · have h1' : ((s[k]'hlt).toNat : Int) < 97 := by omega
        by_cases h3 : (s[k]'hlt).toNat < 48
        · have h3' : ((s[k]'hlt).toNat : Int) < 48 := by omega
          have e := Lib.hid (BAD.out (by unfold wdB; rw [decide_eq_false (p := 97 ≤ _) (by omega), decide_eq_false (p := 48 ≤ _) (by omega)]; rfl))
          clear BAD GOOD E h1
          go_wp2
          go_ret
          exact ⟨by rw [e.out]; rfl, B0.out⟩
        · have h3' : ¬ ((s[k]'hlt).toNat : Int) < 48 := by omega
          by_cases h4 : 57 < (s[k]'hlt).toNat
          · have h4' : (57 : Int) < ((s[k]'hlt).toNat : Int) := by omega
            have e := Lib.hid (BAD.out (by unfold wdB; rw [decide_eq_false (p := 97 ≤ _) (by omega), decide_eq_false (p := _ ≤ 57) (by omega)]; simp))
            clear BAD GOOD E h1
            go_wp2
            go_ret
            exact ⟨by rw [e.out]; rfl, B0.out⟩
          · have h4' : ¬ (57 : Int) < ((s[k]'hlt).toNat : Int) := by omega
            have NX := Lib.hid (GOOD.out (by unfold wdB; rw [decide_eq_true (p := 48 ≤ _) (by omega), decide_eq_true (p := _ ≤ 57) (by omega)]; simp))
            clear BAD GOOD h1
            go_wp2
            go_round
            case rel => exact ⟨k + 1, by omega, by go_num, NX.out⟩
            case measure => simp [intOf]; omega
      · have h1' : ¬ ((s[k]'hlt).toNat : Int) < 97 := by omega
        by_cases h2 : 122 < (s[k]'hlt).toNat
        · have h2' : (122 : Int) < ((s[k]'hlt).toNat : Int) := by omega
          have h3' : ¬ ((s[k]'hlt).toNat : Int) < 48 := by omega
          have h4' : (57 : Int) < ((s[k]'hlt).toNat : Int) := by omega
          have e := Lib.hid (BAD.out (by unfold wdB; rw [decide_eq_false (p := _ ≤ 122) (by omega), decide_eq_false (p := _ ≤ 57) (by omega)]; simp))
          clear BAD GOOD E h1
          go_wp2
          go_ret
          exact ⟨by rw [e.out]; rfl, B0.out⟩
        · have h2' : ¬ (122 : Int) < ((s[k]'hlt).toNat : Int) := by omega
          have NX := Lib.hid (GOOD.out (by unfold wdB; rw [decide_eq_true (p := 97 ≤ _) (by omega), decide_eq_true (p := _ ≤ 122) (by omega)]; rfl))
          clear BAD GOOD h1
          go_wp2
          go_round
          case rel => exact ⟨k + 1, by omega, by go_num, NX.out⟩
          case measure => simp [intOf]; omega
    · obtain rfl : k = s.size := by omega
      have hq : wdS s.data.toList = true := by
        unfold wdS
        rw [List.all_eq_true]
        intro b hb
        obtain ⟨j, hj, e⟩ := List.getElem_of_mem hb
        have hj2 : j < s.size := by rw [HSZ.out]; exact hj
        obtain ⟨h, hw⟩ := hE.out j hj2
        have e2 := at_ba s j hj2
        rw [List.getElem?_eq_getElem hj, e] at e2
        rw [Option.some.inj e2]; exact hw
      have hkk : ¬ (s.size : Int) < (s.size : Int) := by omega
      by_cases h1 : s.data.toList = []
      · have f1 : (s.toList == []) = true := by rw [Lib.toList_data, h1]; rfl
        have f2 : s.toList.isEmpty = true := by rw [Lib.toList_data, h1]; rfl
        have f3 : s.toList = [] := by rw [Lib.toList_data, h1]
        have e : Hid (R = false) := by unfold Hid; rw [E.out, decide_eq_false (by simp [h1])]; rfl
        clear E h1 hq hE hlt
        go_wp2
        go_ret
        exact ⟨by rw [e.out]; rfl, B0.out⟩
      · have f1 : (s.toList == []) = false := by rw [beq_eq_false_iff_ne, Lib.toList_data]; exact h1
        have f2 : s.toList.isEmpty = false := by rw [Lib.toList_data]; cases e : s.data.toList with | nil => exact absurd e h1 | cons _ _ => rfl
        by_cases h2 : s.size ≤ 30
        · have h2' : (s.size : Int) ≤ 30 := by omega
          have e : Hid (R = true) := by unfold Hid; rw [E.out, decide_eq_true h1, decide_eq_true (by rw [← HSZ.out]; exact h2), hq]; rfl
          clear E h1 hq hE hlt h2
          go_wp2
          go_ret
          exact ⟨by rw [e.out]; rfl, B0.out⟩
        · have h2' : ¬ (s.size : Int) ≤ 30 := by omega
          have e : Hid (R = false) := by unfold Hid; rw [E.out, decide_eq_false (p := s.data.toList.length ≤ 30) (by rw [← HSZ.out]; exact h2)]; simp
          clear E h1 hq hE hlt h2
          go_wp2
          go_ret
          exact ⟨by rw [e.out]; rfl, B0.out⟩
/-- A slice reads as texts. -/
def wa (l : List ByteArray) (j : Nat) : ByteArray := l.getD j ⟨#[]⟩
def RdW (w : World) (a : Option Addr) (l : List ByteArray) : Prop :=
  l.length ≤ 9223372036854775807 ∧ (∀ s, s ∈ l → s.size ≤ 9223372036854775807) ∧ (0 < l.length → ∃ b off, a = some ⟨b, off, none⟩ ∧ b < w.heap.size ∧ ∀ j, j < l.length → w.cell? ⟨b, off + j, none⟩ = some (.string (wa l j)))
theorem RdW.below {w w' : World} {a : Option Addr} {l : List ByteArray} (h : RdW w a l) (hb : Below w.heap.size w w') : RdW w' a l :=
  ⟨h.1, h.2.1, fun h0 => by
    obtain ⟨b, off, e, hl, hc⟩ := h.2.2 h0
    exact ⟨b, off, e, Nat.lt_of_lt_of_le hl hb.size, fun j hj => (hb.cell (p := ⟨b, off + j, none⟩) hl).trans (hc j hj)⟩⟩
theorem RdW.at_ {w : World} {a : Option Addr} {l : List ByteArray} (h : RdW w a l) {k : Nat} (hk : k < l.length) :
    ∃ b off, a = some ⟨b, off, none⟩ ∧ ∀ j, j < l.length → w.cell? ⟨b, off + j, none⟩ = some (.string (wa l j)) := by
  obtain ⟨b, off, e, _, hc⟩ := h.2.2 (by omega)
  exact ⟨b, off, e, hc⟩
theorem wa_mem {l : List ByteArray} {j : Nat} (h : j < l.length) : wa l j ∈ l := by
  unfold wa; rw [List.getD_eq_getElem?_getD, List.getElem?_eq_getElem h]; exact List.getElem_mem h
/-- Not behind. -/
def leS (x y : ByteArray) : Bool := Op.bytesLess x.toList y.toList || (x.toList == y.toList)
theorem le_run (x y : ByteArray) (W : World) : (binOp BinOp.leq 9 (Value.string x) (Value.string y)).run Tryd.prog W = .ok (.bool (leS x y)) W := by rfl
def wlE (l : List ByteArray) (k : Nat) : Int := if isW (wa l k).data.toList = false then 5 else if 0 < k ∧ leS (wa l k) (wa l (k - 1)) = true then 7 else 0
def wlF (l : List ByteArray) : Int := fe (wlE l) l.length
set_option maxRecDepth 100000 in
set_option maxHeartbeats 4000000 in
theorem checkWords_c (a : Option Addr) (c : Nat) (l : List ByteArray) (w : World) (hl : RdW w a l) : Calls Tryd.prog 32 #[.slice a l.length c] w fun e w' => e = .returned (.int .i64 (wlF l)) ∧ Below w.heap.size w w' := by
  have HL := Lib.hid hl
  have h9 := hl.1
  have E : Hid (wlF l = fe (wlE l) l.length) := rfl
  obtain ⟨R, hR⟩ : ∃ R, wlF l = R := ⟨_, rfl⟩
  rw [hR] at E ⊢
  clear hl hR
  go_enter Tryd.func32, Tryd.ntmps32
  go_wp2
  go_loopw [3, 4, 7] (fun _ _ i wr => ∃ k : Nat, k ≤ l.length ∧ i = .int .i64 k ∧ Hid (Below w.heap.size w wr ∧ ∀ j, j < k → wlE l j = 0)) (fun _ _ i _ => l.length - (intOf i).toNat)
  case atStart => exact ⟨0, Nat.zero_le _, rfl, Below.refl _ _, fun j h => absurd h (Nat.not_lt_zero _)⟩
  case round =>
    obtain ⟨k, hk, rfl, hS⟩ := hrel
    by_cases hlt : k < l.length
    · obtain ⟨b', off, rfl, hc⟩ := (HL.out.below hS.out.1).at_ hlt
      have hlt' : (k : Int) < (l.length : Int) := by omega
      obtain ⟨x, hx⟩ : ∃ x, wa l k = x := ⟨_, rfl⟩
      have c0 := hc k hlt
      rw [hx] at c0
      have HC := Lib.hid hc
      have HW := Lib.hid (isWord_c x wr (by rw [← hx]; exact HL.out.2.1 _ (wa_mem hlt)))
      have HX := Lib.hid hx
      clear hx hc
      cases hw : isW x.data.toList with
      | false =>
        rw [hw] at HW
        have e : Hid (R = 5) := by
          have h1 : wlE l k = 5 := by unfold wlE; rw [HX.out, if_pos hw]
          unfold Hid; rw [E.out, fe_at hlt (fe_all hS.out.2) (by rw [h1]; omega), h1]
        clear E hw
        go_wp2_with fail
        refine HW.out.mono ?_
        rintro e1 w2 ⟨rfl, b2⟩
        have B2 : Hid (Below w.heap.size w w2) := hS.out.1.trans (b2.mono hS.out.1.size)
        clear b2
        go_wp2
        go_ret
        exact ⟨by rw [e.out]; rfl, B2.out⟩
      | true =>
        rw [hw] at HW
        rcases Nat.eq_zero_or_pos k with rfl | hp
        · have NX : Hid (∀ j, j < 0 + 1 → wlE l j = 0) := fun j hj => by
            obtain rfl : j = 0 := by omega
            unfold wlE; rw [HX.out, if_neg (by rw [hw]; simp), if_neg (fun h => absurd h.1 (Nat.lt_irrefl 0))]
          rw [Nat.add_zero] at c0
          clear hw
          go_wp2_with fail
          refine HW.out.mono ?_
          rintro e1 w2 ⟨rfl, b2⟩
          have B2 : Hid (Below w.heap.size w w2) := hS.out.1.trans (b2.mono hS.out.1.size)
          clear b2
          go_wp2
          go_roundw
          case rel => exact ⟨1, by omega, by go_num, B2.out, NX.out⟩
          case measure => simp [intOf]; omega
        · obtain ⟨p, hkp⟩ : ∃ p, k = p + 1 := ⟨k - 1, by omega⟩
          obtain ⟨y, hy⟩ : ∃ y, wa l p = y := ⟨_, rfl⟩
          have HY := Lib.hid hy
          have KP := Lib.hid hkp
          have hj1 : (k : Int) - 1 = (p : Int) := by omega
          have hw1 : IntKind.i64.wrap ((k : Int) - 1) = (p : Int) := by rw [IntKind.wrap_i64]; omega
          have hj0 : (0 : Int) < (k : Int) := by omega
          have hpl : (p : Int) < (l.length : Int) := by omega
          have hpn : p < l.length := by omega
          clear hkp hy
          cases hq : leS x y with
          | true =>
            have hle : ∀ W, (binOp BinOp.leq 9 (Value.string x) (Value.string y)).run Tryd.prog W = .ok (.bool true) W := fun W => by rw [le_run, hq]
            have e : Hid (R = 7) := by
              have h1 : wlE l k = 7 := by unfold wlE; rw [HX.out, if_neg (by rw [hw]; simp), if_pos ⟨hp, by rw [show k - 1 = p by have := KP.out; omega, HY.out]; exact hq⟩]
              unfold Hid; rw [E.out, fe_at hlt (fe_all hS.out.2) (by rw [h1]; omega), h1]
            clear E hw hq
            go_wp2_with fail
            refine HW.out.mono ?_
            rintro e1 w2 ⟨rfl, b2⟩
            have B2 : Hid (Below w.heap.size w w2) := hS.out.1.trans (b2.mono hS.out.1.size)
            have c1 : w2.cell? ⟨b', off + p, none⟩ = some (.string y) := by
              obtain ⟨b3, o3, e3, h3⟩ := ((HL.out.below hS.out.1).below b2).at_ hpn
              injection e3 with e3; injection e3 with e4 e5
              subst e4; subst e5
              rw [h3 p hpn, HY.out]
            clear b2 c0
            go_wp2_with (simp only [hle])
            go_ret
            exact ⟨by rw [e.out]; rfl, B2.out⟩
          | false =>
            have hle : ∀ W, (binOp BinOp.leq 9 (Value.string x) (Value.string y)).run Tryd.prog W = .ok (.bool false) W := fun W => by rw [le_run, hq]
            have NX : Hid (∀ j, j < k + 1 → wlE l j = 0) := fun j hj => by
              rcases Nat.lt_or_ge j k with q | q
              · exact hS.out.2 j q
              · obtain rfl : j = k := by omega
                unfold wlE; rw [HX.out, if_neg (by rw [hw]; simp), if_neg (fun h => by
                  have h2 := h.2
                  rw [show j - 1 = p by have := KP.out; omega, HY.out, hq] at h2; cases h2)]
            clear hw hq
            go_wp2_with fail
            refine HW.out.mono ?_
            rintro e1 w2 ⟨rfl, b2⟩
            have B2 : Hid (Below w.heap.size w w2) := hS.out.1.trans (b2.mono hS.out.1.size)
            have c1 : w2.cell? ⟨b', off + p, none⟩ = some (.string y) := by
              obtain ⟨b3, o3, e3, h3⟩ := ((HL.out.below hS.out.1).below b2).at_ hpn
              injection e3 with e3; injection e3 with e4 e5
              subst e4; subst e5
              rw [h3 p hpn, HY.out]
            clear b2 c0
            go_wp2_with (simp only [hle])
            go_roundw
            case rel => exact ⟨k + 1, by omega, by go_num, B2.out, NX.out⟩
            case measure => simp [intOf]; omega
    · obtain rfl : k = l.length := by omega
      have e : Hid (R = 0) := by unfold Hid; rw [E.out]; exact fe_all hS.out.2
      have hlt' : ¬ (l.length : Int) < (l.length : Int) := by omega
      clear hlt
      go_wp2
      go_ret
      exact ⟨by rw [e.out]; rfl, hS.out.1⟩
set_option maxRecDepth 100000 in
set_option maxHeartbeats 4000000 in
theorem rCheckWords_c (a : Option Addr) (c : Nat) (l : List ByteArray) (w : World) (hl : RdW w a l) : Calls Tryd.prog 17 #[.slice a l.length c] w fun e w' => e = .returned (.int .i64 (wlF l)) ∧ Below w.heap.size w w' := by
  have HL := Lib.hid hl
  have h9 := hl.1
  have E : Hid (wlF l = fe (wlE l) l.length) := rfl
  obtain ⟨R, hR⟩ : ∃ R, wlF l = R := ⟨_, rfl⟩
  rw [hR] at E ⊢
  clear hl hR
  go_enter Tryd.func17, Tryd.ntmps17
  go_wp2
  go_loopw [3, 4, 7] (fun _ _ i wr => ∃ k : Nat, k ≤ l.length ∧ i = .int .i64 k ∧ Hid (Below w.heap.size w wr ∧ ∀ j, j < k → wlE l j = 0)) (fun _ _ i _ => l.length - (intOf i).toNat)
  case atStart => exact ⟨0, Nat.zero_le _, rfl, Below.refl _ _, fun j h => absurd h (Nat.not_lt_zero _)⟩
  case round =>
    obtain ⟨k, hk, rfl, hS⟩ := hrel
    by_cases hlt : k < l.length
    · obtain ⟨b', off, rfl, hc⟩ := (HL.out.below hS.out.1).at_ hlt
      have hlt' : (k : Int) < (l.length : Int) := by omega
      obtain ⟨x, hx⟩ : ∃ x, wa l k = x := ⟨_, rfl⟩
      have c0 := hc k hlt
      rw [hx] at c0
      have HC := Lib.hid hc
      have HW := Lib.hid (rIsWord_c x wr (by rw [← hx]; exact HL.out.2.1 _ (wa_mem hlt)))
      have HX := Lib.hid hx
      clear hx hc
      cases hw : isW x.data.toList with
      | false =>
        rw [hw] at HW
        have e : Hid (R = 5) := by
          have h1 : wlE l k = 5 := by unfold wlE; rw [HX.out, if_pos hw]
          unfold Hid; rw [E.out, fe_at hlt (fe_all hS.out.2) (by rw [h1]; omega), h1]
        clear E hw
        go_wp2_with fail
        refine HW.out.mono ?_
        rintro e1 w2 ⟨rfl, b2⟩
        have B2 : Hid (Below w.heap.size w w2) := hS.out.1.trans (b2.mono hS.out.1.size)
        clear b2
        go_wp2
        go_ret
        exact ⟨by rw [e.out]; rfl, B2.out⟩
      | true =>
        rw [hw] at HW
        rcases Nat.eq_zero_or_pos k with rfl | hp
        · have NX : Hid (∀ j, j < 0 + 1 → wlE l j = 0) := fun j hj => by
            obtain rfl : j = 0 := by omega
            unfold wlE; rw [HX.out, if_neg (by rw [hw]; simp), if_neg (fun h => absurd h.1 (Nat.lt_irrefl 0))]
          rw [Nat.add_zero] at c0
          clear hw
          go_wp2_with fail
          refine HW.out.mono ?_
          rintro e1 w2 ⟨rfl, b2⟩
          have B2 : Hid (Below w.heap.size w w2) := hS.out.1.trans (b2.mono hS.out.1.size)
          clear b2
          go_wp2
          go_roundw
          case rel => exact ⟨1, by omega, by go_num, B2.out, NX.out⟩
          case measure => simp [intOf]; omega
        · obtain ⟨p, hkp⟩ : ∃ p, k = p + 1 := ⟨k - 1, by omega⟩
          obtain ⟨y, hy⟩ : ∃ y, wa l p = y := ⟨_, rfl⟩
          have HY := Lib.hid hy
          have KP := Lib.hid hkp
          have hj1 : (k : Int) - 1 = (p : Int) := by omega
          have hw1 : IntKind.i64.wrap ((k : Int) - 1) = (p : Int) := by rw [IntKind.wrap_i64]; omega
          have hj0 : (0 : Int) < (k : Int) := by omega
          have hpl : (p : Int) < (l.length : Int) := by omega
          have hpn : p < l.length := by omega
          clear hkp hy
          cases hq : leS x y with
          | true =>
            have hle : ∀ W, (binOp BinOp.leq 9 (Value.string x) (Value.string y)).run Tryd.prog W = .ok (.bool true) W := fun W => by rw [le_run, hq]
            have e : Hid (R = 7) := by
              have h1 : wlE l k = 7 := by unfold wlE; rw [HX.out, if_neg (by rw [hw]; simp), if_pos ⟨hp, by rw [show k - 1 = p by have := KP.out; omega, HY.out]; exact hq⟩]
              unfold Hid; rw [E.out, fe_at hlt (fe_all hS.out.2) (by rw [h1]; omega), h1]
            clear E hw hq
            go_wp2_with fail
            refine HW.out.mono ?_
            rintro e1 w2 ⟨rfl, b2⟩
            have B2 : Hid (Below w.heap.size w w2) := hS.out.1.trans (b2.mono hS.out.1.size)
            have c1 : w2.cell? ⟨b', off + p, none⟩ = some (.string y) := by
              obtain ⟨b3, o3, e3, h3⟩ := ((HL.out.below hS.out.1).below b2).at_ hpn
              injection e3 with e3; injection e3 with e4 e5
              subst e4; subst e5
              rw [h3 p hpn, HY.out]
            clear b2 c0
            go_wp2_with (simp only [hle])
            go_ret
            exact ⟨by rw [e.out]; rfl, B2.out⟩
          | false =>
            have hle : ∀ W, (binOp BinOp.leq 9 (Value.string x) (Value.string y)).run Tryd.prog W = .ok (.bool false) W := fun W => by rw [le_run, hq]
            have NX : Hid (∀ j, j < k + 1 → wlE l j = 0) := fun j hj => by
              rcases Nat.lt_or_ge j k with q | q
              · exact hS.out.2 j q
              · obtain rfl : j = k := by omega
                unfold wlE; rw [HX.out, if_neg (by rw [hw]; simp), if_neg (fun h => by
                  have h2 := h.2
                  rw [show j - 1 = p by have := KP.out; omega, HY.out, hq] at h2; cases h2)]
            clear hw hq
            go_wp2_with fail
            refine HW.out.mono ?_
            rintro e1 w2 ⟨rfl, b2⟩
            have B2 : Hid (Below w.heap.size w w2) := hS.out.1.trans (b2.mono hS.out.1.size)
            have c1 : w2.cell? ⟨b', off + p, none⟩ = some (.string y) := by
              obtain ⟨b3, o3, e3, h3⟩ := ((HL.out.below hS.out.1).below b2).at_ hpn
              injection e3 with e3; injection e3 with e4 e5
              subst e4; subst e5
              rw [h3 p hpn, HY.out]
            clear b2 c0
            go_wp2_with (simp only [hle])
            go_roundw
            case rel => exact ⟨k + 1, by omega, by go_num, B2.out, NX.out⟩
            case measure => simp [intOf]; omega
    · obtain rfl : k = l.length := by omega
      have e : Hid (R = 0) := by unfold Hid; rw [E.out]; exact fe_all hS.out.2
      have hlt' : ¬ (l.length : Int) < (l.length : Int) := by omega
      clear hlt
      go_wp2
      go_ret
      exact ⟨by rw [e.out]; rfl, hS.out.1⟩
end Go.Proofs.YtdapmmhbnaknbaaDoor
namespace Go.Proofs.YtdapmmhbnaknbaaDoor
open Go.RowKit Go.WideMaps Go.Maps

theorem clm_is {p : Nat → Nat} (h0 : p 0 = 0) {f k c : Nat} (h1 : it p k c ≠ 0) (h2 : it p (k + 1) c = 0) (hf : k + 1 ≤ f) : clm p f c = k + 1 := by
  have a : ¬ k + 1 < clm p f c := fun h => clm_ne h h2
  by_cases b : clm p f c < f
  · have c1 := clm_it b
    by_cases e : clm p f c ≤ k
    · exact absurd (it_stays h0 c1 e) h1
    · omega
  · have := clm_le (p := p) (f := f) (c := c)
    omega
/-- The numbers above a code. -/
def abL (p : Nat → Nat) (c k : Nat) : List Int := (List.range k).map fun i => ((it p (i + 1) c : Nat) : Int)
theorem abL_len (p : Nat → Nat) (c k : Nat) : (abL p c k).length = k := by unfold abL; simp
theorem abL_succ (p : Nat → Nat) (c k : Nat) : abL p c (k + 1) = abL p c k ++ [((it p (k + 1) c : Nat) : Int)] := by unfold abL; rw [List.range_succ, List.map_append]; rfl
def stp (l : List Nd) (c : Nat) : Nat := clm (par l) (l.length + 2) c
def AbP (l : List Nd) (c : Nat) (w : World) (e : Ending) (w' : World) : Prop :=
  (l.length + 1 < stp l c ∧ e = .returned (.tuple #[.slice none 0 0, .bool false]) ∧ Below w.heap.size w w') ∨
  (stp l c ≤ l.length + 1 ∧ ∃ v, e = .returned (.tuple #[v, .bool true]) ∧ w'.ownsRow w.heap.size 3 1 v (stp l c - 1) ((abL (par l) c (stp l c - 1)).map (Value.int .i64)) ∧ Below w.heap.size w w')
theorem fnd_at {l : List Nd} {c : Nat} {r : Int} (h : FndP l (c : Int) r) (hc : Has l c) : ∃ j, j < l.length ∧ r = (j : Int) ∧ (nd l j).cd = (c : Int) := by
  rcases h with ⟨_, h⟩ | h
  · obtain ⟨k, hk, e⟩ := hc
    exact absurd e (h k hk)
  · exact h
theorem pr_it {l : List Nd} (h : Ord l) (hk : Kn l) {c j : Nat} (hj : j < l.length) (e : (nd l j).cd = (c : Int)) : (nd l j).pr = ((par l c : Nat) : Int) := by
  rw [par_at h hj e]
  rcases hk j hj with q | ⟨i, hi, q⟩
  · rw [q]; rfl
  · have := h.rng i hi
    omega
set_option maxRecDepth 100000 in
set_option maxHeartbeats 4000000 in
theorem rabove_c (a : Option Addr) (ca : Nat) (l : List Nd) (c : Nat) (w : World) (hl : RdN w a l) (hO : Ord l) (hK : Kn l) (hn : l.length ≤ 600) (hc : Has l c) :
    Calls Tryd.prog 38 #[.slice a l.length ca, .int .i64 (c : Nat)] w (AbP l c w) := by
  obtain ⟨i0, hi, hz0, hz1, hz2⟩ := info_parts infoI
  have HL := Lib.hid hl
  have HOK := Lib.hid (And.intro hO hK)
  have HF := Lib.hid (fun (d : Nat) W (hb : Below w.heap.size w W) => rfind_c a ca l (d : Int) W (hl.below hb))
  have HC := Lib.hid hc
  have HT := Lib.hid (par_top hO)
  have hp := has_pos hO hc
  clear hl hO hK hc
  go_enter Tryd.func38, Tryd.ntmps38
  go_wp2_with fail
  (with_reducible refine (HF.out c w (Below.refl _ _)).mono ?_)
  rintro e w1 ⟨⟨r, rfl, hr⟩, b1⟩
  obtain ⟨j0, hj0, rfl, ej0⟩ := fnd_at hr HC.out
  have B1 := Lib.hid b1
  have S0 : Hid (w1.ownsRow w.heap.size 3 1 (.slice none 0 0) 0 ((abL (par l) c 0).map (Value.int .i64)) ∧ Below w.heap.size w w1 ∧ (nd l j0).cd = ((it (par l) 0 c : Nat) : Int)) := ⟨World.ownsRow_nil _ _ _ _, b1, ej0⟩
  clear hr b1 ej0
  go_wp2_with fail
  go_loopw [6, 7] (fun v i wr => ∃ k j : Nat, j < l.length ∧ k ≤ l.length ∧ i = .int .i64 j ∧ Hid (wr.ownsRow w.heap.size 3 1 v k ((abL (par l) c k).map (Value.int .i64)) ∧ Below w.heap.size w wr ∧ (nd l j).cd = ((it (par l) k c : Nat) : Int))) (fun v _ _ => l.length + 1 - (match v with | .slice _ n _ => n | _ => 0))
  case atStart => exact ⟨0, j0, hj0, Nat.zero_le _, rfl, S0.out⟩
  case round =>
    clear S0 B1
    obtain ⟨k, j, hj, hk, rfl, hS⟩ := hrel
    obtain ⟨b', off, rfl, u0, u1, u2⟩ := (HL.out.below hS.out.2.1).at_ hj
    have hj' : (j : Int) < (l.length : Int) := by omega
    have epr := pr_it HOK.out.1 HOK.out.2 hj hS.out.2.2
    rw [← it_succ (p := par l)] at epr
    have hne : it (par l) k c ≠ 0 := by
      have := HOK.out.1.rng j hj
      have := hS.out.2.2
      omega
    have hmv : ∃ a n cc, u6 = .slice a n cc ∧ n = k := by
      rcases hS.out.1.2 with ⟨rfl, h⟩ | ⟨g, cap, cur, rfl, _⟩
      · exact ⟨none, 0, 0, rfl, h.symm⟩
      · exact ⟨_, _, _, rfl, rfl⟩
    by_cases hz : it (par l) (k + 1) c = 0
    · have ST : Hid (stp l c = k + 1) := clm_is HT.out hne hz (by omega)
      rw [hz] at epr
      rw [epr] at u1
      have R : Hid (AbP l c w (.returned (.tuple #[u6, .bool true])) wr) := Or.inr ⟨by rw [ST.out]; omega, u6, rfl, by rw [ST.out, Nat.add_sub_cancel]; exact hS.out.1, hS.out.2.1⟩
      clear hS epr hne hz hmv
      go_wp2
      go_ret2
      exact R.out
    · obtain ⟨d, hd⟩ : ∃ d, it (par l) (k + 1) c = d := ⟨_, rfl⟩
      rw [hd] at epr hz
      rw [epr] at u1
      have hd0 : ((d : Int) == 0) = false := by rw [beq_eq_false_iff_ne]; omega
      have hd1 : ((d : Int) != 0) = true := by rw [bne, hd0]; rfl
      have HD := Lib.hid hd
      have HZ := Lib.hid hz
      have hin : Has l d := by
        rcases par_in HOK.out.1 HOK.out.2 (c := it (par l) k c) with h | h
        · rw [← it_succ (p := par l), hd] at h; exact absurd h hz
        · rw [← it_succ (p := par l), hd] at h; exact h
      have HIN := Lib.hid hin
      clear hne hz epr hin hd
      obtain ⟨av, nv, cv, rfl, rfl⟩ := hmv
      have hown := hS.out.1
      have hbel := Lib.hid hS.out.2.1
      have u1' : wr.cell? ⟨b', off + j * 3 + 1, none⟩ = some (.int .i64 (d : Nat)) := u1
      go_wp2_with (at_builtin; refine wpList_append_own _ rfl _ _ 42 rfl w.heap.size 3 i0 (.int .i64 0) 1 8 Tryd.underlying42 hi hz0 hz1 hz2 rfl (by decide) _ _ _ rfl (hown.alloc _) ⟨wr.heap.size, 0, none⟩ 1 1 [.int .i64 (d : Nat)] rfl rfl (cell_one_new _ _ _) (ints_oneCell .i64 [((d : Nat) : Int)]) ?c3 ?c4 ?c5 ?_)
      case c3 => unfold maxLen; omega
      case c4 => omega
      case c5 => have := hbel.out.size; simp; omega
      intro v' w4 hown' hgrow _
      have OW : Hid (w4.ownsRow w.heap.size 3 1 v' (nv + 1) ((abL (par l) c (nv + 1)).map (Value.int .i64))) := by
        rw [abL_succ, List.map_append, HD.out]; exact hown'
      have B4 : Hid (Below w.heap.size w w4) := by
        have hs := hbel.out.size
        exact (hbel.out.trans ((bel_one wr _).mono hs)).grown hgrow (by simp; omega) (fun g hg => (hown.lt g hg).1)
      clear hown' hgrow hown
      obtain ⟨av', cv', rfl⟩ : ∃ a c, v' = .slice a (nv + 1) c := by
        rcases OW.out.2 with ⟨_, h⟩ | ⟨g, cap, cur, rfl, _⟩
        · omega
        · exact ⟨_, _, rfl⟩
      have hS2 := Lib.hid hS.out.2.2
      clear hS u0 u1 u2 u1'
      by_cases hfull : l.length < nv + 1
      · have hfull' : (l.length : Int) < ((nv + 1 : Nat) : Int) := by omega
        have R : Hid (AbP l c w (.returned (.tuple #[.slice none 0 0, .bool false])) w4) := by
          refine Or.inl ⟨?_, rfl, B4.out⟩
          have e : nv = l.length := by omega
          subst e
          unfold stp
          exact (clm_full HT.out (f := l.length + 1)).2 (by rw [HD.out]; exact HZ.out)
        clear hfull
        go_wp2
        go_ret2
        exact R.out
      · have hfull' : ¬ (l.length : Int) < ((nv + 1 : Nat) : Int) := by omega
        obtain ⟨b9, off9, e9, v0, v1, v2⟩ := (HL.out.below B4.out).at_ hj
        injection e9 with e9; injection e9 with e9 e10; subst e9; subst e10
        rw [show (nd l j).pr = ((d : Nat) : Int) from by rw [pr_it HOK.out.1 HOK.out.2 hj hS2.out, ← it_succ (p := par l), HD.out]] at v1
        have HG := Lib.hid (HF.out d w4 B4.out)
        clear hfull
        go_wp2_with fail
        (with_reducible refine HG.out.mono ?_)
        rintro e w5 ⟨⟨r, rfl, hr⟩, b5⟩
        obtain ⟨j', hj', rfl, ej'⟩ := fnd_at hr HIN.out
        have NX : Hid (w5.ownsRow w.heap.size 3 1 (.slice av' (nv + 1) cv') (nv + 1) ((abL (par l) c (nv + 1)).map (Value.int .i64)) ∧ Below w.heap.size w w5 ∧ (nd l j').cd = ((it (par l) (nv + 1) c : Nat) : Int)) :=
          ⟨own_keep OW.out b5, B4.out.trans (b5.mono B4.out.size), by rw [HD.out]; exact ej'⟩
        clear b5 hr ej' v0 v1 v2
        go_wp2
        go_roundw
        case rel => exact ⟨nv + 1, j', hj', by omega, rfl, NX.out⟩
        case measure => simp; omega
end Go.Proofs.YtdapmmhbnaknbaaDoor
namespace Go.Proofs.YtdapmmhbnaknbaaDoor
open Go.RowKit Go.WideMaps Go.Maps

theorem it_has {l : List Nd} (h : Ord l) (hk : Kn l) {c : Nat} (hc : Has l c) : ∀ {i : Nat}, it (par l) i c ≠ 0 → Has l (it (par l) i c)
  | 0, _ => hc
  | i + 1, hi => by
    rw [it_succ] at hi ⊢
    rcases par_in h hk (c := it (par l) i c) with q | q
    · exact absurd q hi
    · exact q
/-- A way that has not come to its end behind as many steps as there are nodes never comes to it. -/
theorem endless {l : List Nd} (h : Ord l) (hk : Kn l) {c : Nat} (hc : Has l c) (hne : it (par l) l.length c ≠ 0) (k : Nat) : it (par l) k c ≠ 0 := by
  have nz : ∀ i, i ≤ l.length → it (par l) i c ≠ 0 := fun i hi e => hne (it_stays (par_top h) e hi)
  obtain ⟨i, j, hij, hj, e⟩ := pigeon (fun i => it (par l) i c) (l.map fun u => u.cd.toNat) fun i hi => by
    rw [List.length_map] at hi
    obtain ⟨q, hq, eq⟩ := it_has h hk hc (nz i hi)
    exact List.mem_map.2 ⟨nd l q, nd_mem hq, by omega⟩
  rw [List.length_map] at hj
  exact it_round (par_top h) hij e (nz i (by omega)) k
theorem stp_far {l : List Nd} (h : Ord l) {c k : Nat} (hk2 : k < l.length) (e : (nd l k).cd = (c : Int)) (hs : l.length + 1 < stp l c) : l.length < lvl l k := by
  unfold stp at hs
  have a := (clm_full (par_top h) (f := l.length + 1)).1 hs
  unfold lvl
  rw [e, Int.toNat_natCast]
  exact (clm_full (par_top h)).2 fun q => a (it_stays (par_top h) q (by omega))
theorem stp_near {l : List Nd} (h : Ord l) (hk : Kn l) {c k : Nat} (hk2 : k < l.length) (e : (nd l k).cd = (c : Int)) (hs : stp l c ≤ l.length + 1) : stp l c ≤ l.length ∧ lvl l k = stp l c ∧ (abL (par l) c (stp l c - 1)).contains (c : Int) = false := by
  have hz : it (par l) (stp l c) c = 0 := by unfold stp at hs ⊢; exact clm_it (by omega)
  have hc : Has l c := ⟨k, hk2, e⟩
  have h1 : stp l c ≤ l.length := by
    by_cases q : stp l c ≤ l.length
    · exact q
    · exfalso
      have hq : it (par l) l.length c ≠ 0 := by unfold stp at q; exact clm_ne (f := l.length + 2) (by omega)
      exact endless h hk hc hq (stp l c) hz
  refine ⟨h1, ?_, ?_⟩
  · unfold lvl stp at *
    rw [e, Int.toNat_natCast]
    exact clm_eq (f := l.length + 2) (g := l.length + 1) (by omega) (by omega)
  · rw [Bool.eq_false_iff]
    intro q
    rw [List.contains_iff_mem] at q
    unfold abL at q
    obtain ⟨i, hi, ei⟩ := List.mem_map.1 q
    have ei : it (par l) (i + 1) c = c := by omega
    have hp := has_pos h hc
    exact it_round (par_top h) (i := 0) (j := i + 1) (by omega) (by rw [ei]; rfl) (by show c ≠ 0; omega) (stp l c) hz
theorem contains_c (a : Option Addr) (c : Nat) (D : List Int) (x : Int) (w : World) (h : Rd w a D) :
    Calls Tryd.prog 39 #[.slice a D.length c, .int .i64 x] w fun e w' => e = .returned (.bool (D.contains x)) ∧ w' = w := by
  by_cases h0 : D.length = 0
  · have e := List.eq_nil_of_length_eq_zero h0
    subst e
    refine (Tryd.slices_Contains_int_empty a c x w).mono ?_
    rintro e w' ⟨rfl, rfl⟩
    exact ⟨rfl, rfl⟩
  · obtain ⟨b, off, rfl, _, k⟩ := h.2 (by omega)
    refine (Tryd.slices_Contains_int b off D.length c D x w (Nat.le_refl _) h.1 k).mono ?_
    rintro e w' ⟨rfl, rfl⟩
    exact ⟨by rw [List.take_length], rfl⟩
theorem rd_own {W : World} {base n : Nat} {v : Value} {zs : List Int} (h : W.ownsRow base 3 1 v n (zs.map (Value.int .i64))) (hz : zs.length = n) (hn : n ≤ 9223372036854775807) : ∃ a c, v = .slice a n c ∧ Rd W a zs := by
  rcases h.2 with ⟨rfl, h0⟩ | ⟨g, cap, cur, rfl, hbase, hb, h1, h2, h3, h4⟩
  · exact ⟨none, 0, by rw [h0], by omega, fun h => by omega⟩
  · refine ⟨_, _, rfl, by omega, fun _ => ⟨g, 0, rfl, (Array.getElem?_eq_some_iff.1 hb).1, fun j hj => ?_⟩⟩
    rw [Nat.zero_add, h.cellAt j (by omega)]
    unfold fn
    simp [List.getD, List.getElem?_eq_getElem hj]
theorem knw_fnd {l : List Nd} {c : Int} {r : Int} (h : FndP l c r) (hc : c ≠ 0) : decide (r < 0) = !(knw l c l.length) := by
  rcases h with ⟨rfl, h⟩ | ⟨j, hj, rfl, e⟩
  · have : knw l c l.length = false := by
      rw [Bool.eq_false_iff]
      intro q
      rcases knw_iff.1 q with q | ⟨j, hj, e⟩
      · exact hc q
      · exact h j hj e
    rw [this]; rfl
  · have : knw l c l.length = true := knw_iff.2 (Or.inr ⟨j, hj, e⟩)
    rw [this]
    simp
theorem frS_at {l : List Nd} {k : Nat} (h1 : l.length ≠ 0) (h2 : ¬ 600 < l.length) (hk : k < l.length) (h0 : fe (ndE l) k = 0) (h : ndE l k ≠ 0) : frS l = ndE l k := by
  have e := fe_at hk h0 h
  unfold frS
  rw [if_neg h1, if_neg h2, if_pos (by rw [e]; exact h), e]
set_option maxRecDepth 100000 in
set_option maxHeartbeats 8000000 in
theorem rCheckFrame_c (a : Option Addr) (ca : Nat) (l : List Nd) (w : World) (hl : RdN w a l) (hf : Fits l) :
    Calls Tryd.prog 16 #[.slice a l.length ca] w (IntP (frS l) w) := by
  have h9 := hl.1
  by_cases h1 : l.length = 0
  · have e : Hid (frS l = 9) := by unfold Hid frS; rw [if_pos h1]
    clear hl hf
    have h1' : (l.length : Int) = 0 := by omega
    go_enter Tryd.func16, Tryd.ntmps16
    go_wp2
    go_ret
    exact ⟨by rw [e.out]; rfl, Below.refl _ _⟩
  have h1' : ((l.length : Int) == 0) = false := by rw [beq_eq_false_iff_ne]; omega
  by_cases h2 : 600 < l.length
  · have e : Hid (frS l = 2) := by unfold Hid frS; rw [if_neg h1, if_pos h2]
    have h2' : (600 : Int) < (l.length : Int) := by omega
    clear hl hf h1 h2
    go_enter Tryd.func16, Tryd.ntmps16
    go_wp2
    go_ret
    exact ⟨by rw [e.out]; rfl, Below.refl _ _⟩
  have h2' : ¬ (600 : Int) < (l.length : Int) := by omega
  have HL := Lib.hid hl
  have HF := Lib.hid hf
  have HAT : Hid (∀ k, k < l.length → fe (ndE l) k = 0 → ndE l k ≠ 0 → frS l = ndE l k) := fun k hk h0 h => frS_at h1 h2 hk h0 h
  have HEND : Hid (fe (ndE l) l.length = 0 → frS l = if fe (prE l) l.length ≠ 0 then 5 else if ∃ k, k < l.length ∧ l.length < lvl l k then 18 else if ∃ k, k < l.length ∧ 8 < lvl l k then 2 else 0) := fun h => by unfold frS; rw [if_neg h1, if_neg h2, if_neg (by rw [h]; simp)]
  have hle : Hid (l.length ≤ 600) := by unfold Hid; omega
  clear hl hf h1 h2
  go_enter Tryd.func16, Tryd.ntmps16
  go_wp2
  go_loopw [2, 3, 25] (fun fl _ i wr => ∃ k : Nat, k ≤ l.length ∧ i = .int .i64 k ∧ fl = .int .i64 0 ∧ Hid (Below w.heap.size w wr ∧ fe (ndE l) k = 0)) (fun _ _ i _ => l.length - (intOf i).toNat)
  case atStart => exact ⟨0, Nat.zero_le _, rfl, rfl, Below.refl _ _, rfl⟩
  case round =>
    obtain ⟨k, hk, rfl, rfl, hS⟩ := hrel
    by_cases hlt : k < l.length
    · obtain ⟨b', off, rfl, u0, u1, u2⟩ := (HL.out.below hS.out.1).at_ hlt
      have hlt' : (k : Int) < (l.length : Int) := by omega
      have hF : Hid (ndE l k ≠ 0 → frS l = ndE l k) := fun h => HAT.out k hlt hS.out.2 h
      have hN : Hid (fe (ndE l) (k + 1) = ndE l k) := fe_next hS.out.2
      obtain ⟨W1, hW1⟩ : ∃ W1, wr.alloc (.cells #[.int .i64 (nd l k).cd, .int .i64 (nd l k).pr, .string (nd l k).ti] 66) = W1 := ⟨_, rfl⟩
      have N1 : Hid (NodeB wr W1 (nd l k)) := by unfold Hid; rw [← hW1]; exact node_b _ _
      have S1 := Lib.hid (hS.out.1.trans (N1.out.1.mono hS.out.1.size))
      have v0 := N1.out.2.2.1
      have v2 := N1.out.2.2.2.2
      have HTI := Lib.hid ((HF.out _ (nd_mem hlt)).2.2)
      have HWI := Lib.hid (rwithin_c (nd l k).cd 1 999 W1)
      clear hS
      by_cases h1 : 1 ≤ (nd l k).cd ∧ (nd l k).cd ≤ 999
      rotate_left
      · have hE : ndE l k = 1 := ndE_1 (by omega)
        have R : Hid (frS l = 1) := by unfold Hid; rw [hF.out (by rw [hE]; decide), hE]
        rw [decide_eq_false h1] at HWI
        clear hE hF hN h1
        go_wp2_with fail
        (with_reducible refine HWI.out.mono ?_)
        rintro e w' ⟨rfl, hw⟩
        have hw := hw.symm
        subst hw
        go_wp2
        go_ret
        exact ⟨by rw [R.out]; rfl, S1.out⟩
      have hr : Hid (¬ ((nd l k).cd < 1 ∨ 999 < (nd l k).cd)) := by unfold Hid; omega
      rw [decide_eq_true h1] at HWI
      clear h1
      by_cases h3 : k ≠ 0 ∧ (nd l k).cd ≤ (nd l (k - 1)).cd
      · have hE : ndE l k = 7 := ndE_2 hr.out h3
        have R : Hid (frS l = 7) := by unfold Hid; rw [hF.out (by rw [hE]; decide), hE]
        obtain ⟨m, rfl⟩ : ∃ m, k = m + 1 := ⟨k - 1, by omega⟩
        obtain ⟨_, _, e, p0, _, _⟩ := (HL.out.below S1.out).at_ (k := m) (by omega)
        injection e with e; injection e with e1 e2; subst e1; subst e2
        have hpos : (0 : Int) < ((m + 1 : Nat) : Int) := by omega
        have hm1 : ((m + 1 : Nat) : Int) - 1 = (m : Int) := by omega
        have hm2 : (m : Int) < (l.length : Int) := by omega
        have h3' : (nd l (m + 1)).cd ≤ (nd l m).cd := h3.2
        clear hE hF hN h3
        go_wp2_with fail
        (with_reducible refine HWI.out.mono ?_)
        rintro e w' ⟨rfl, hw⟩
        have hw := hw.symm
        subst hw
        go_wp2_with fail
        go_quiet (fail)
        go_wp2
        go_ret
        exact ⟨by rw [R.out]; rfl, below_drewN S1.out _⟩
      have h3 := Lib.hid h3
      by_cases hk0 : k = 0
      · subst hk0
        simp only [Nat.zero_mul, Nat.add_zero] at u0 u1 u2
        go_wp2_with fail
        (with_reducible refine HWI.out.mono ?_)
        rintro e w' ⟨rfl, hw⟩
        have hw := hw.symm
        subst hw
        go_wp2_with fail
        go_quiet (fail)
        clear HWI
        have S2 : Hid (Below w.heap.size w (W1.drewN nq) ∧ (W1.drewN nq).cell? ⟨wr.heap.size, 2, none⟩ = some (.string (nd l 0).ti)) := ⟨below_drewN S1.out nq, N1.out.2.2.2.2⟩
        clear hW1 v0 v2 u0 u1 u2 S1 N1
        generalize W1.drewN nq = W2 at S2 ⊢
        have x2 := S2.out.2
        by_cases h4 : 60 < (nd l 0).ti.size
        · have hE : ndE l 0 = 2 := ndE_3 hr.out h3.out h4
          have R : Hid (frS l = 2) := by unfold Hid; rw [hF.out (by rw [hE]; decide), hE]
          have h4' : (60 : Int) < ((nd l 0).ti.size : Int) := by omega
          clear hE hF hN h4
          go_wp2
          go_ret
          exact ⟨by rw [R.out]; rfl, S2.out.1⟩
        · have hE := Lib.hid (ndE_4 hr.out h3.out h4)
          have h4' : ¬ (60 : Int) < ((nd l 0).ti.size : Int) := by omega
          have HC := Lib.hid (rtitled_c (nd l 0).ti W2 HTI.out)
          by_cases h5 : titS (nd l 0).ti = false
          · have e : ndE l 0 = 3 := by rw [hE.out, if_pos h5]
            have R : Hid (frS l = 3) := by unfold Hid; rw [hF.out (by rw [e]; decide), e]
            rw [h5] at HC
            clear hE hF hN h4 h5 e
            go_wp2_with fail
            (with_reducible refine HC.out.mono ?_)
            rintro e w' ⟨rfl, hw⟩
            have hw := hw.symm
            subst hw
            clear x2
            go_wp2
            go_ret
            exact ⟨by rw [R.out]; rfl, S2.out.1⟩
          · have h5' : titS (nd l 0).ti = true := by simpa using h5
            have e : ndE l 0 = 0 := by rw [hE.out, if_neg h5]
            have hz : Hid (fe (ndE l) (0 + 1) = 0) := by unfold Hid; rw [hN.out, e]
            rw [h5'] at HC
            clear hE hF hN h4 h5 h5' e
            go_wp2_with fail
            (with_reducible refine HC.out.mono ?_)
            rintro e w' ⟨rfl, hw⟩
            have hw := hw.symm
            subst hw
            have NX : Hid (Below w.heap.size w W2 ∧ fe (ndE l) (0 + 1) = 0) := ⟨S2.out.1, hz.out⟩
            clear x2
            go_wp2
            go_roundw
            case rel => exact ⟨1, by omega, by go_num, rfl, NX.out⟩
            case measure => simp [intOf]; omega
      · obtain ⟨m, rfl⟩ : ∃ m, k = m + 1 := ⟨k - 1, by omega⟩
        obtain ⟨_, _, e, p0, _, _⟩ := (HL.out.below S1.out).at_ (k := m) (by omega)
        injection e with e; injection e with e1 e2; subst e1; subst e2
        have hpos : (0 : Int) < ((m + 1 : Nat) : Int) := by omega
        have hm1 : ((m + 1 : Nat) : Int) - 1 = (m : Int) := by omega
        have hm2 : (m : Int) < (l.length : Int) := by omega
        have h3' : decide ((nd l (m + 1)).cd ≤ (nd l m).cd) = false := decide_eq_false fun h => h3.out ⟨hk0, h⟩
        clear hk0
        go_wp2_with fail
        (with_reducible refine HWI.out.mono ?_)
        rintro e w' ⟨rfl, hw⟩
        have hw := hw.symm
        subst hw
        go_wp2_with fail
        go_quiet (fail)
        clear HWI hpos hm1 hm2 p0
        have S2 : Hid (Below w.heap.size w (W1.drewN nq) ∧ (W1.drewN nq).cell? ⟨wr.heap.size, 2, none⟩ = some (.string (nd l (m + 1)).ti)) := ⟨below_drewN S1.out nq, N1.out.2.2.2.2⟩
        clear hW1 v0 v2 u0 u1 u2 S1 N1
        generalize W1.drewN nq = W2 at S2 ⊢
        have x2 := S2.out.2
        by_cases h4 : 60 < (nd l (m + 1)).ti.size
        · have hE : ndE l (m + 1) = 2 := ndE_3 hr.out h3.out h4
          have R : Hid (frS l = 2) := by unfold Hid; rw [hF.out (by rw [hE]; decide), hE]
          have h4' : (60 : Int) < ((nd l (m + 1)).ti.size : Int) := by omega
          clear hE hF hN h4
          go_wp2
          go_ret
          exact ⟨by rw [R.out]; rfl, S2.out.1⟩
        · have hE := Lib.hid (ndE_4 hr.out h3.out h4)
          have h4' : ¬ (60 : Int) < ((nd l (m + 1)).ti.size : Int) := by omega
          have HC := Lib.hid (rtitled_c (nd l (m + 1)).ti W2 HTI.out)
          by_cases h5 : titS (nd l (m + 1)).ti = false
          · have e : ndE l (m + 1) = 3 := by rw [hE.out, if_pos h5]
            have R : Hid (frS l = 3) := by unfold Hid; rw [hF.out (by rw [e]; decide), e]
            rw [h5] at HC
            clear hE hF hN h4 h5 e
            go_wp2_with fail
            (with_reducible refine HC.out.mono ?_)
            rintro e w' ⟨rfl, hw⟩
            have hw := hw.symm
            subst hw
            clear x2
            go_wp2
            go_ret
            exact ⟨by rw [R.out]; rfl, S2.out.1⟩
          · have h5' : titS (nd l (m + 1)).ti = true := by simpa using h5
            have e : ndE l (m + 1) = 0 := by rw [hE.out, if_neg h5]
            have hz : Hid (fe (ndE l) (m + 1 + 1) = 0) := by unfold Hid; rw [hN.out, e]
            rw [h5'] at HC
            clear hE hF hN h4 h5 h5' e
            go_wp2_with fail
            (with_reducible refine HC.out.mono ?_)
            rintro e w' ⟨rfl, hw⟩
            have hw := hw.symm
            subst hw
            have NX : Hid (Below w.heap.size w W2 ∧ fe (ndE l) (m + 1 + 1) = 0) := ⟨S2.out.1, hz.out⟩
            clear x2
            go_wp2
            go_roundw
            case rel => exact ⟨m + 1 + 1, by omega, by go_num, rfl, NX.out⟩
            case measure => simp [intOf]; omega
    · obtain rfl : k = l.length := by omega
      obtain ⟨wX, hwX⟩ : ∃ x : World, x = wr := ⟨wr, rfl⟩
      subst hwX
      clear hlt
      have B1 := Lib.hid hS.out.1
      have HO1 := Lib.hid (ord_of hS.out.2)
      have HA2 : Hid (fe (prE l) l.length ≠ 0 → frS l = 5) := fun h => by rw [HEND.out hS.out.2, if_pos h]
      have HA6 : Hid (fe (prE l) l.length = 0 → frS l = if ∃ k, k < l.length ∧ l.length < lvl l k then 18 else if ∃ k, k < l.length ∧ 8 < lvl l k then 2 else 0) := fun h => by rw [HEND.out hS.out.2, if_neg (by rw [h]; simp)]
      clear hS HAT HEND
      go_wp2
      go_loopw [2, 62] (fun fl  i wr => ∃ k : Nat, k ≤ l.length ∧ i = .int .i64 k ∧ fl = .int .i64 0 ∧ Hid (Below w.heap.size w wr ∧ fe (prE l) k = 0)) (fun _  i _ => l.length - (intOf i).toNat)
      case atStart => exact ⟨0, Nat.zero_le _, rfl, rfl, B1.out, rfl⟩
      case round =>
        obtain ⟨k, hk, rfl, rfl, hS⟩ := hrel
        by_cases hlt : k < l.length
        · obtain ⟨b', off, rfl, u0, u1, u2⟩ := (HL.out.below hS.out.1).at_ hlt
          have hlt' : (k : Int) < (l.length : Int) := by omega
          have hN : Hid (fe (prE l) (k + 1) = prE l k) := fe_next hS.out.2
          obtain ⟨W1, hW1⟩ : ∃ W1, wr.alloc (.cells #[.int .i64 (nd l k).cd, .int .i64 (nd l k).pr, .string (nd l k).ti] 66) = W1 := ⟨_, rfl⟩
          have N1 : Hid (NodeB wr W1 (nd l k)) := by unfold Hid; rw [← hW1]; exact node_b _ _
          have S1 := Lib.hid (hS.out.1.trans (N1.out.1.mono hS.out.1.size))
          have v1 := N1.out.2.2.2.1
          have hS2 := Lib.hid hS.out.2
          clear hS
          by_cases h0 : (nd l k).pr = 0
          · have hz : Hid (fe (prE l) (k + 1) = 0) := by
              unfold Hid; rw [hN.out]; unfold prE
              rw [if_neg]
              rw [h0, knw_iff.2 (Or.inl rfl)]; simp
            have g0 : ((nd l k).pr == 0) = true := by rw [beq_iff_eq]; exact h0
            have g1 : ((nd l k).pr != 0) = false := by rw [bne, g0]; rfl
            have NX : Hid (Below w.heap.size w W1 ∧ fe (prE l) (k + 1) = 0) := ⟨S1.out, hz.out⟩
            clear h0 hN N1
            go_wp2
            go_roundw
            case rel => exact ⟨k + 1, by omega, by go_num, rfl, NX.out⟩
            case measure => simp [intOf]; omega
          have g0 : ((nd l k).pr == 0) = false := by rw [beq_eq_false_iff_ne]; exact h0
          have g1 : ((nd l k).pr != 0) = true := by rw [bne, g0]; rfl
          have HC := Lib.hid (rfind_c _ ca l (nd l k).pr W1 (HL.out.below S1.out))
          have H0 := Lib.hid h0
          clear h0 N1
          by_cases hq : knw l (nd l k).pr l.length = true
          · have hz : Hid (fe (prE l) (k + 1) = 0) := by unfold Hid; rw [hN.out]; unfold prE; rw [if_neg (by rw [hq]; simp)]
            have HQ := Lib.hid hq
            clear hq hN
            go_wp2_with fail
            (with_reducible refine HC.out.mono ?_)
            rintro e w' ⟨⟨r, rfl, hr⟩, b2⟩
            have NX : Hid (Below w.heap.size w w' ∧ fe (prE l) (k + 1) = 0) := ⟨S1.out.trans (b2.mono S1.out.size), hz.out⟩
            have hr2 : decide (r < 0) = false := by rw [knw_fnd hr H0.out, HQ.out]; rfl
            clear b2 hr u0 u1 u2 v1 hW1
            go_wp2
            go_roundw
            case rel => exact ⟨k + 1, by omega, by go_num, rfl, NX.out⟩
            case measure => simp [intOf]; omega
          · have hq' : knw l (nd l k).pr l.length = false := by simpa using hq
            have hp : prE l k = 5 := by unfold prE; rw [if_pos hq']
            have R : Hid (frS l = 5) := HA2.out (by rw [fe_at hlt hS2.out (by rw [hp]; decide), hp]; decide)
            have HQ := Lib.hid hq'
            clear hq hq' hp hN
            go_wp2_with fail
            (with_reducible refine HC.out.mono ?_)
            rintro e w' ⟨⟨r, rfl, hr⟩, b2⟩
            have B2 : Hid (Below w.heap.size w w') := S1.out.trans (b2.mono S1.out.size)
            have hr2 : decide (r < 0) = true := by rw [knw_fnd hr H0.out, HQ.out]; rfl
            clear b2 hr u0 u1 u2 v1 hW1
            go_wp2
            go_ret
            exact ⟨by rw [R.out]; rfl, B2.out⟩
        · obtain rfl : k = l.length := by omega
          obtain ⟨wX, hwX⟩ : ∃ x : World, x = wr := ⟨wr, rfl⟩
          subst hwX
          clear hlt
          have B2 := Lib.hid hS.out.1
          have HK := kn_of hS.out.2
          have HO := Lib.hid (And.intro HO1.out HK)
          have HFS : Hid (frS l = if ∃ k, k < l.length ∧ l.length < lvl l k then 18 else if ∃ k, k < l.length ∧ 8 < lvl l k then 2 else 0) := HA6.out hS.out.2
          have HA3 : Hid ((∃ k, k < l.length ∧ l.length < lvl l k) → frS l = 18) := fun h => by rw [HFS.out, if_pos h]
          clear hS HK HA2
          go_wp2
          go_loopw [2, 9, 10, 79] (fun fl _ _ i wr => ∃ k : Nat, k ≤ l.length ∧ i = .int .i64 k ∧ fl = .int .i64 0 ∧ Hid (Below w.heap.size w wr ∧ ∀ j, j < k → lvl l j ≤ l.length)) (fun _ _ _ i _ => l.length - (intOf i).toNat)
          case atStart => exact ⟨0, Nat.zero_le _, rfl, rfl, B2.out, fun j h => absurd h (Nat.not_lt_zero _)⟩
          case round =>
            obtain ⟨k, hk, rfl, rfl, hS⟩ := hrel
            by_cases hlt : k < l.length
            · obtain ⟨b', off, rfl, u0, u1, u2⟩ := (HL.out.below hS.out.1).at_ hlt
              have hlt' : (k : Int) < (l.length : Int) := by omega
              obtain ⟨W1, hW1⟩ : ∃ W1, wr.alloc (.cells #[.int .i64 (nd l k).cd, .int .i64 (nd l k).pr, .string (nd l k).ti] 66) = W1 := ⟨_, rfl⟩
              have N1 : Hid (NodeB wr W1 (nd l k)) := by unfold Hid; rw [← hW1]; exact node_b _ _
              have S1 := Lib.hid (hS.out.1.trans (N1.out.1.mono hS.out.1.size))
              obtain ⟨cd, hcd⟩ : ∃ cd : Nat, (nd l k).cd = cd := ⟨(nd l k).cd.toNat, by have := HO.out.1.rng k hlt; omega⟩
              have v0 := N1.out.2.2.1
              rw [hcd] at v0 u0 hW1
              have HAB := Lib.hid (rabove_c _ ca l cd W1 (HL.out.below S1.out) HO.out.1 HO.out.2 hle.out ⟨k, hlt, hcd⟩)
              have HCD := Lib.hid hcd
              have hS2 := Lib.hid hS.out.2
              have NLT : Hid (wr.heap.size < W1.heap.size) := by have := N1.out.2.1; unfold Hid; omega
              clear hS hcd N1
              go_wp2_with fail
              (with_reducible refine HAB.out.mono ?_)
              rintro e W2 hab
              obtain ⟨hfar, rfl, b2⟩ | ⟨hnear, v, rfl, hown, b2⟩ := hab
              · have B2 := Lib.hid (S1.out.trans (b2.mono S1.out.size))
                have R : Hid (frS l = 18) := HA3.out ⟨k, hlt, stp_far HO.out.1 hlt HCD.out hfar⟩
                clear hfar b2 u0 u1 u2 v0 hW1 HAB
                go_wp2
                go_ret
                exact ⟨by rw [R.out]; rfl, B2.out⟩
              · have hnn := stp_near HO.out.1 HO.out.2 hlt HCD.out hnear
                obtain ⟨av, cv, rfl, hrd⟩ := rd_own hown (abL_len _ _ _) (by omega)
                have B2 := Lib.hid (S1.out.trans (b2.mono S1.out.size))
                have CC : Hid (Calls Tryd.prog 39 #[.slice av (stp l cd - 1) cv, .int .i64 (cd : Nat)] W2 fun e w' => e = .returned (.bool false) ∧ w' = W2) := by
                  have := contains_c av cv (abL (par l) cd (stp l cd - 1)) (cd : Nat) W2 hrd
                  rw [abL_len, hnn.2.2] at this
                  exact this
                have x0 : W2.cell? ⟨wr.heap.size, 0, none⟩ = some (.int .i64 (cd : Nat)) := (b2.cell (p := ⟨wr.heap.size, 0, none⟩) NLT.out).trans v0
                have NX : Hid (Below w.heap.size w W2 ∧ ∀ j, j < k + 1 → lvl l j ≤ l.length) := ⟨B2.out, fun j hj => by
                  by_cases q : j = k
                  · rw [q, hnn.2.1]; exact hnn.1
                  · exact hS2.out j (by omega)⟩
                clear b2 hown hrd hnn hnear u0 u1 u2 v0 hW1 HAB
                go_wp2_with fail
                (with_reducible refine CC.out.mono ?_)
                rintro e w' ⟨rfl, hw⟩
                have hw := hw.symm
                subst hw
                clear x0
                go_wp2
                go_roundw
                case rel => exact ⟨k + 1, by omega, by go_num, rfl, NX.out⟩
                case measure => simp [intOf]; omega
            · obtain rfl : k = l.length := by omega
              obtain ⟨wX, hwX⟩ : ∃ x : World, x = wr := ⟨wr, rfl⟩
              subst hwX
              clear hlt
              have B3 := Lib.hid hS.out.1
              have HLV := Lib.hid hS.out.2
              have HA4 : Hid ((∃ k, k < l.length ∧ 8 < lvl l k) → frS l = 2) := fun h => by rw [HFS.out, if_neg (fun q => by obtain ⟨j, hj, e⟩ := q; have := HLV.out j hj; omega), if_pos h]
              have HA5 : Hid ((∀ k, k < l.length → lvl l k ≤ 8) → frS l = 0) := fun h => by rw [HFS.out, if_neg (fun q => by obtain ⟨j, hj, e⟩ := q; have := HLV.out j hj; omega), if_neg (fun q => by obtain ⟨j, hj, e⟩ := q; have := h j hj; omega)]
              clear hS HA3
              go_wp2
              go_loopw [2, 13, 14, 101] (fun fl _ _ i wr => ∃ k : Nat, k ≤ l.length ∧ i = .int .i64 k ∧ fl = .int .i64 0 ∧ Hid (Below w.heap.size w wr ∧ ∀ j, j < k → lvl l j ≤ 8)) (fun _ _ _ i _ => l.length - (intOf i).toNat)
              case atStart => exact ⟨0, Nat.zero_le _, rfl, rfl, B3.out, fun j h => absurd h (Nat.not_lt_zero _)⟩
              case round =>
                obtain ⟨k, hk, rfl, rfl, hS⟩ := hrel
                by_cases hlt : k < l.length
                · obtain ⟨b', off, rfl, u0, u1, u2⟩ := (HL.out.below hS.out.1).at_ hlt
                  have hlt' : (k : Int) < (l.length : Int) := by omega
                  obtain ⟨W1, hW1⟩ : ∃ W1, wr.alloc (.cells #[.int .i64 (nd l k).cd, .int .i64 (nd l k).pr, .string (nd l k).ti] 66) = W1 := ⟨_, rfl⟩
                  have N1 : Hid (NodeB wr W1 (nd l k)) := by unfold Hid; rw [← hW1]; exact node_b _ _
                  have S1 := Lib.hid (hS.out.1.trans (N1.out.1.mono hS.out.1.size))
                  obtain ⟨cd, hcd⟩ : ∃ cd : Nat, (nd l k).cd = cd := ⟨(nd l k).cd.toNat, by have := HO.out.1.rng k hlt; omega⟩
                  have v0 := N1.out.2.2.1
                  rw [hcd] at v0 u0 hW1
                  have HAB := Lib.hid (rabove_c _ ca l cd W1 (HL.out.below S1.out) HO.out.1 HO.out.2 hle.out ⟨k, hlt, hcd⟩)
                  have HCD := Lib.hid hcd
                  have hS2 := Lib.hid hS.out.2
                  clear hS hcd N1
                  go_wp2_with fail
                  (with_reducible refine HAB.out.mono ?_)
                  rintro e W2 hab
                  obtain ⟨hfar, rfl, b2⟩ | ⟨hnear, v, rfl, hown, b2⟩ := hab
                  · exact absurd (stp_far HO.out.1 hlt HCD.out hfar) (by have := HLV.out k hlt; omega)
                  have hnn := stp_near HO.out.1 HO.out.2 hlt HCD.out hnear
                  obtain ⟨av, cv, rfl, hrd⟩ := rd_own hown (abL_len _ _ _) (by omega)
                  have B2 := Lib.hid (S1.out.trans (b2.mono S1.out.size))
                  have hlv := Lib.hid hnn.2.1
                  have hs9 : Hid (stp l cd ≤ 600) := by have := hle.out; unfold Hid; omega
                  clear b2 hown hrd hnn hnear u0 u1 u2 v0 hW1 HAB
                  obtain ⟨t, ht⟩ : ∃ t, stp l cd - 1 = t := ⟨_, rfl⟩
                  rw [ht]
                  by_cases h8 : 8 ≤ t
                  · have R : Hid (frS l = 2) := HA4.out ⟨k, hlt, by rw [hlv.out]; omega⟩
                    have h8' : (8 : Int) ≤ (t : Int) := by omega
                    clear h8
                    go_wp2
                    go_ret
                    exact ⟨by rw [R.out]; rfl, B2.out⟩
                  · have NX : Hid (Below w.heap.size w W2 ∧ ∀ j, j < k + 1 → lvl l j ≤ 8) := ⟨B2.out, fun j hj => by
                      by_cases q : j = k
                      · rw [q, hlv.out]; omega
                      · exact hS2.out j (by omega)⟩
                    have h8' : ¬ (8 : Int) ≤ (t : Int) := by omega
                    clear h8
                    go_wp2
                    go_roundw
                    case rel => exact ⟨k + 1, by omega, by go_num, rfl, NX.out⟩
                    case measure => simp [intOf]; omega
                · obtain rfl : k = l.length := by omega
                  obtain ⟨wX, hwX⟩ : ∃ x : World, x = wr := ⟨wr, rfl⟩
                  subst hwX
                  clear hlt
                  have R : Hid (frS l = 0) := HA5.out fun k hk => hS.out.2 k hk
                  go_wp2
                  go_ret
                  exact ⟨by rw [R.out]; rfl, hS.out.1⟩
end Go.Proofs.YtdapmmhbnaknbaaDoor
