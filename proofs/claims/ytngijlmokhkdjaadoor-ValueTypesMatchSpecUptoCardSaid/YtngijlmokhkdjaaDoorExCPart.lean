/-
  checkPart, checkParts and CheckExpr of package value.
-/
import Derived.Test.YtngijlmokhkdjaaDoorExCP
import Derived.Test.YtngijlmokhkdjaaDoorExRoom
namespace Go.Proofs.YtngijlmokhkdjaaDoor
open Go.RowKit

theorem not_false' {b : Bool} (h : ¬ b = false) : b = true := by cases b <;> simp_all
theorem checkPart_c (w0 : World) (h : Hd) (xs : Fo) (v : Value) (w : World) (hx : IsX w0 h xs v) (hb : Below w0.heap.size w0 w) (hz : h.vs.size ≤ 9223372036854775807) :
    Calls Tryd.prog 43 #[v] w fun e w' => e = .returned (.int .i64 (partS h xs)) ∧ Below w.heap.size w w' := by
  obtain ⟨sv, a, n, c, rfl, hL, rfl, hs⟩ := hx
  have hL' := hL.below hb
  obtain ⟨p, q, rfl, _⟩ := hL'.len
  by_cases hk : knownS h.k h.o = false
  · have e : partS h xs = 4 := by unfold partS; rw [if_pos hk]
    rw [e]; exact part_unknown h xs p q a c w hk
  have hk1 := not_false' hk
  have hkk : h.k = 1 ∨ h.k = 2 ∨ h.k = 3 ∨ h.k = 4 ∨ h.k = 5 := by
    have := hk1; unfold knownS at this; simp at this; omega
  by_cases hf : formS h.k h.o h.nm h.vk h.vn h.vs h.vl.length xs.len = false
  · have e : partS h xs = 3 := by unfold partS; rw [if_neg hk, if_pos hf]
    rw [e]
    obtain ⟨k, o, nm, vk, vn, vs, vl⟩ := h
    simp only at hk1 hf hkk ⊢
    rcases hkk with rfl | rfl | rfl | rfl | rfl
    · exact part_form1 ⟨1, o, nm, vk, vn, vs, vl⟩ xs p q a c w hk1 hf
    · exact part_form2 ⟨2, o, nm, vk, vn, vs, vl⟩ xs p q a c w hk1 hf
    · exact part_form3 ⟨3, o, nm, vk, vn, vs, vl⟩ xs p q a c w hk1 hf
    · exact part_form4 ⟨4, o, nm, vk, vn, vs, vl⟩ xs p q a c w hk1 hf
    · exact part_form5 ⟨5, o, nm, vk, vn, vs, vl⟩ xs p q a c w hk1 hf
  have hf1 := not_false' hf
  have e : partS h xs = if h.k = 1 then (if h.vk = 0 ∨ h.vk = 1 then 4 else cChk h.vk h.vn h.vs h.vl) else if h.k ≠ 4 then (if nameS h.nm = false then 5 else 0) else if aboutS h.o = true ∧ xs.fk ≠ 2 then 3 else 0 := by
    unfold partS; rw [if_neg hk, if_neg hf]
  rw [e]
  clear e hk hf
  obtain ⟨k, o, nm, vk, vn, vs, vl⟩ := h
  simp only at hk1 hf1 hkk hL' hz ⊢
  rcases hkk with rfl | rfl | rfl | rfl | rfl
  · rw [if_pos rfl]
    by_cases v0 : vk = 0
    · subst v0; rw [if_pos (.inl rfl)]; exact part_none0 ⟨1, o, nm, 0, vn, vs, vl⟩ xs p q a c w hk1 rfl hf1
    by_cases v1 : vk = 1
    · subst v1; rw [if_pos (.inr rfl)]; exact part_none1 ⟨1, o, nm, 1, vn, vs, vl⟩ xs p q a c w hk1 rfl hf1
    rw [if_neg (by omega)]
    exact part_const ⟨1, o, nm, vk, vn, vs, vl⟩ xs p q a c w hk1 hf1 (by rw [beq_eq_false_iff_ne]; exact v0) (by rw [beq_eq_false_iff_ne]; exact v1) hL' hz
  · rw [if_neg (by omega), if_pos (by omega)]
    by_cases hn : nameS nm = false
    · rw [if_pos hn]; exact part_name2f ⟨2, o, nm, vk, vn, vs, vl⟩ xs p q a c w hk1 hf1 hn
    · rw [if_neg hn]; exact part_name2t ⟨2, o, nm, vk, vn, vs, vl⟩ xs p q a c w hk1 hf1 (not_false' hn)
  · rw [if_neg (by omega), if_pos (by omega)]
    by_cases hn : nameS nm = false
    · rw [if_pos hn]; exact part_name3f ⟨3, o, nm, vk, vn, vs, vl⟩ xs p q a c w hk1 hf1 hn
    · rw [if_neg hn]; exact part_name3t ⟨3, o, nm, vk, vn, vs, vl⟩ xs p q a c w hk1 hf1 (not_false' hn)
  · rw [if_neg (by omega), if_neg (by omega)]
    by_cases ha : aboutS o = false
    · rw [if_neg (by rw [ha]; simp)]; exact part_op ⟨4, o, nm, vk, vn, vs, vl⟩ xs p q a c w hk1 hf1 ha
    have ha1 := not_false' ha
    have hn : 0 < xs.len := by
      have h1 := hf1
      unfold formS leastK at h1
      simp only [decide_eq_true_eq] at h1
      have ho : o = 12 ∨ o = 13 ∨ o = 14 := by have := ha1; unfold aboutS at this; simpa using this
      obtain ⟨_, _, _, h2, _⟩ := h1
      rcases ho with rfl | rfl | rfl <;> simp [leastS] at h2 <;> omega
    obtain ⟨b, off, rfl, hbl, hF⟩ : ∃ b off, a = some ⟨b, off, none⟩ ∧ b < w0.heap.size ∧ IsF w0 b xs off := by
      rcases hs with h | h
      · omega
      · exact h
    have hc : w.cell? ⟨b, off, none⟩ = some (.int .i64 xs.fk) := by rw [hb.cell (p := ⟨b, off, none⟩) hbl]; exact fk_cell hF hn
    have hbl' := Nat.lt_of_lt_of_le hbl hb.size
    by_cases h2 : xs.fk = 2
    · rw [if_neg (by simp [h2])]
      exact part_abouty ⟨4, o, nm, vk, vn, vs, vl⟩ xs p q c w hk1 hf1 ha1 hn b off hbl' hc (by rw [h2]; rfl) (by rw [h2]; rfl)
    · rw [if_pos ⟨ha1, h2⟩]
      exact part_aboutn ⟨4, o, nm, vk, vn, vs, vl⟩ xs p q c w hk1 hf1 ha1 hn b off hbl' hc (by rw [beq_eq_false_iff_ne]; exact h2) (by simp [h2])
  · rw [if_neg (by omega), if_pos (by omega)]
    by_cases hn : nameS nm = false
    · rw [if_pos hn]; exact part_name5f ⟨5, o, nm, vk, vn, vs, vl⟩ xs p q a c w hk1 hf1 hn
    · rw [if_neg hn]; exact part_name5t ⟨5, o, nm, vk, vn, vs, vl⟩ xs p q a c w hk1 hf1 (not_false' hn)

def PartsC (w0 : World) (h : Hd) (xs : Fo) : Prop :=
  ∀ (v : Value) (w : World), IsX w0 h xs v → Below w0.heap.size w0 w →
    Calls Tryd.prog 19 #[v] w fun e w' => e = .returned (.int .i64 (oneS h xs)) ∧ Below w0.heap.size w0 w'
set_option maxHeartbeats 2000000 in
theorem parts_step (w0 : World) (h : Hd) (xs : Fo) (hlen : xs.parts ≤ 1048576) (hz : h.vs.size ≤ 9223372036854775807) (ih : ∀ k h' a', xs.drop k = .cons h' a' (xs.drop (k + 1)) → PartsC w0 h' a') : PartsC w0 h xs := by
  intro v w hx hb
  have hP := Lib.hid (fun w (hb : Below w0.heap.size w0 w) => checkPart_c w0 h xs v w hx hb hz)
  obtain ⟨sv, a, n, c, rfl, hL, rfl, hs⟩ := hx
  have IH := Lib.hid ih; clear ih
  have HS := Lib.hid hs; clear hs
  obtain ⟨p, m, q, rfl⟩ := hL.form
  clear hL
  have hll := xs.len_le_parts
  have ST := Lib.hid (hb.alloc hb.size (.cells #[.int .i64 h.k, .int .i64 h.o, .string h.nm, .int .i64 h.vk, .int .i64 h.vn, .string h.vs, .slice p m q, .slice a xs.len c] 27))
  have hbs := hb.size
  clear hb
  obtain ⟨P, hPe⟩ : ∃ P, P = partS h xs := ⟨_, rfl⟩
  rw [← hPe] at hP
  have eO : Hid (oneS h xs = if P ≠ 0 then P else allS xs) := by unfold Hid oneS; rw [hPe]
  clear hPe
  by_cases hP0 : P = 0
  · subst hP0
    have eO2 : Hid (oneS h xs = allS (xs.drop 0)) := by unfold Hid; rw [eO.out]; simp [Fo.drop]
    clear eO
    go_enter Tryd.func19, Tryd.ntmps19
    go_wp2_with fail
    refine (hP.out _ ST.out).mono ?_
    rintro e w1 ⟨rfl, hB⟩
    have B1 := Lib.hid (ST.out.trans (hB.mono ST.out.size))
    obtain ⟨bc1, bf1⟩ := bcell hB
    clear hB
    go_wp2_with fail
    go_loopw [5, 6, 15] (fun _ _ i wr => ∃ k : Nat, k ≤ xs.len ∧ i = .int .i64 k ∧ Hid (Below w0.heap.size w0 wr) ∧ Hid (oneS h xs = allS (xs.drop k))) (fun _ _ i _ => xs.len - (intOf i).toNat)
    case atStart => exact ⟨0, Nat.zero_le _, rfl, B1.out, eO2.out⟩
    case round =>
      obtain ⟨k, hk, rfl, hR, hA⟩ := hrel
      clear eO2 B1 bc1 bf1 ST
      by_cases hlt' : k < xs.len
      · have hkk : (k : Int) < (xs.len : Int) := by omega
        obtain ⟨b, off, rfl, hbl, hF⟩ : ∃ b off, a = some ⟨b, off, none⟩ ∧ b < w0.heap.size ∧ IsF w0 b xs off := by
          rcases HS.out with h | h
          · omega
          · exact h
        obtain ⟨h', a', hd⟩ := Fo.drop_at k xs hlt'
        obtain ⟨sp, sm, sq, p', n', c', g0, g1, g2, g3, g4, g5, g6, g7, hX⟩ := hF.cells hd
        have cc := fun (o : Nat) => hR.out.cell (p := ⟨b, o, none⟩) hbl
        have k0 := (cc _).trans g0
        have k1 := (cc _).trans g1
        have k2 := (cc _).trans g2
        have k3 := (cc _).trans g3
        have k4 := (cc _).trans g4
        have k5 := (cc _).trans g5
        have k6 := (cc _).trans g6
        have k7 := (cc _).trans g7
        have HX := Lib.hid hX
        have HD := Lib.hid hd
        clear g0 g1 g2 g3 g4 g5 g6 g7 hX hd cc hF
        obtain ⟨Q, hQ⟩ : ∃ Q, Q = oneS h' a' := ⟨_, rfl⟩
        have eQ : Hid (oneS h xs = if Q ≠ 0 then Q else allS (xs.drop (k + 1))) := by unfold Hid; rw [hA.out, allS_drop HD.out, hQ]
        have hC := Lib.hid (fun (v : Value) (w : World) (hx : IsX w0 h' a' v) (hb : Below w0.heap.size w0 w) => by have := IH.out k h' a' HD.out v w hx hb; rw [← hQ] at this; exact this)
        clear hQ hA
        by_cases hQ0 : Q = 0
        · subst hQ0
          have eQ2 : Hid (oneS h xs = allS (xs.drop (k + 1))) := by unfold Hid; rw [eQ.out]; simp
          clear eQ
          go_wp2_with fail
          refine (hC.out _ _ HX.out (hR.out.alloc hR.out.size _)).mono ?_
          rintro e w4 ⟨rfl, hB⟩
          have HB := Lib.hid hB; clear hB
          go_wp2
          go_roundw
          case rel => exact ⟨k + 1, by omega, by go_num, HB.out, eQ2.out⟩
          case measure => simp [intOf]; omega
        · have q1 : (Q != 0) = true := by simpa using hQ0
          have eQ2 : Hid (oneS h xs = Q) := by unfold Hid; rw [eQ.out, if_pos hQ0]
          clear eQ hQ0
          go_wp2_with fail
          refine (hC.out _ _ HX.out (hR.out.alloc hR.out.size _)).mono ?_
          rintro e w4 ⟨rfl, hB⟩
          have HB := Lib.hid hB; clear hB
          go_wp2
          go_ret
          exact ⟨ret_int eQ2.out.symm, HB.out⟩
      · obtain rfl : k = xs.len := by omega
        have hz := Fo.drop_end (xs := xs) rfl
        have e1 : Hid (oneS h xs = 0) := by unfold Hid; rw [hA.out, hz]; rfl
        clear hA hz
        go_wp2
        go_ret
        exact ⟨ret_int e1.out.symm, hR.out⟩
  · have q1 : (P != 0) = true := by simpa using hP0
    have eO2 : Hid (oneS h xs = P) := by unfold Hid; rw [eO.out, if_pos hP0]
    clear eO hP0
    go_enter Tryd.func19, Tryd.ntmps19
    go_wp2_with fail
    refine (hP.out _ ST.out).mono ?_
    rintro e w1 ⟨rfl, hB⟩
    have B1 := Lib.hid (ST.out.trans (hB.mono ST.out.size))
    clear hB
    go_wp2
    go_ret
    exact ⟨ret_int eO2.out.symm, B1.out⟩
theorem parts_c (w0 : World) (h : Hd) (xs : Fo) : xs.parts ≤ 1048576 → h.vs.size ≤ 9223372036854775807 → xs.fine → PartsC w0 h xs :=
  forest_ind (fun h xs => xs.parts ≤ 1048576 → h.vs.size ≤ 9223372036854775807 → xs.fine → PartsC w0 h xs) (fun h a ih hp hz hf => parts_step w0 h a hp hz (fun k h' a' hd => ih k h' a' hd (by have := Fo.parts_sub hd; omega) (Fo.fine_at hf hd).1 (Fo.fine_at hf hd).2)) h xs

theorem room_start (W : World) : RoomSt W W.heap.size 300 (W.alloc (.cells #[.int .i64 300] 3)) :=
  ⟨by rw [World.cell?_alloc_new]; rfl, by simp, (Below.refl _ _).alloc (Nat.le_refl _) _, Nat.le_refl _, by simp⟩
set_option maxHeartbeats 1000000 in
theorem checkExpr_c (w0 : World) (h : Hd) (xs : Fo) (v : Value) (w : World) (hp : xs.parts ≤ 1048576) (hz : h.vs.size ≤ 9223372036854775807) (hf : xs.fine) (hx : IsX w0 h xs v) (hb : Below w0.heap.size w0 w) :
    Calls Tryd.prog 8 #[v] w fun e w' => e = .returned (.int .i64 (exprS h xs)) ∧ Below w0.heap.size w0 w' := by
  have HC := Lib.hid (fun w (hb : Below w0.heap.size w0 w) => parts_c w0 h xs hp hz hf v w hx hb)
  have hx0 := hx
  have hbs := hb.size
  obtain ⟨sv, a, n, c, rfl, hL, rfl, hs⟩ := hx
  clear hs hf hz
  obtain ⟨p, m, q, rfl⟩ := hL.form
  clear hL
  have hb1 := hb.alloc hbs (.cells #[.int .i64 h.k, .int .i64 h.o, .string h.nm, .int .i64 h.vk, .int .i64 h.vn, .string h.vs, .slice p m q, .slice a xs.len c] 27)
  have HB1 := Lib.hid hb1
  have hst := Lib.hid (room_start (w.alloc (.cells #[.int .i64 h.k, .int .i64 h.o, .string h.nm, .int .i64 h.vk, .int .i64 h.vn, .string h.vs, .slice p m q, .slice a xs.len c] 27)))
  have hR := room_c (w.alloc (.cells #[.int .i64 h.k, .int .i64 h.o, .string h.nm, .int .i64 h.vk, .int .i64 h.vn, .string h.vs, .slice p m q, .slice a xs.len c] 27)) h xs hp _ 1 300 _ _ (hx0.below hb1) hst.out (by omega) (by omega) (by omega) (by omega)
  rw [show (w.alloc (.cells #[.int .i64 h.k, .int .i64 h.o, .string h.nm, .int .i64 h.vk, .int .i64 h.vn, .string h.vs, .slice p m q, .slice a xs.len c] 27)).heap.size = w.heap.size + 1 by simp] at hR
  clear hb1 hx0 hb
  by_cases hr : (xs.parts : Int) + 1 ≤ 300 ∧ (1 : Int) + xs.levels ≤ 20
  · have e : Hid (exprS h xs = oneS h xs) := by unfold Hid exprS; rw [if_neg (by omega)]
    have HR2 := Lib.hid (by unfold RoomPost at hR; rw [decide_eq_true hr] at hR; exact hR)
    clear hr hR
    go_enter Tryd.func8, Tryd.ntmps8
    go_wp2_with fail
    refine HR2.out.mono ?_
    rintro e1 w1 ⟨l', rfl, _, hS⟩
    have B1 := Lib.hid (HB1.out.trans (hS.out.bel.mono HB1.out.size))
    obtain ⟨bc1, bf1⟩ := bcell hS.out.bel
    clear hS
    go_wp2_with fail
    refine (HC.out _ B1.out).mono ?_
    rintro e2 w2 ⟨rfl, hB⟩
    have HB2 := Lib.hid hB; clear hB bc1 bf1
    go_wp2
    go_ret
    exact ⟨ret_int e.out.symm, HB2.out⟩
  · have e : Hid (exprS h xs = 2) := by unfold Hid exprS; rw [if_pos (by omega)]
    have HR2 := Lib.hid (by unfold RoomPost at hR; rw [decide_eq_false hr] at hR; exact hR)
    clear hr hR
    go_enter Tryd.func8, Tryd.ntmps8
    go_wp2_with fail
    refine HR2.out.mono ?_
    rintro e1 w1 ⟨l', rfl, _, hS⟩
    have B1 := Lib.hid (HB1.out.trans (hS.out.bel.mono HB1.out.size))
    clear hS
    go_wp2
    go_ret
    exact ⟨ret_int e.out.symm, B1.out⟩
end Go.Proofs.YtngijlmokhkdjaaDoor
