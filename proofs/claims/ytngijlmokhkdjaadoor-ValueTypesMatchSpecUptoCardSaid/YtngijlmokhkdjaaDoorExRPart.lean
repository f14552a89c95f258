/-
  partForm, formed and CheckExpr of the reference.
-/
import Derived.Test.YtngijlmokhkdjaaDoorExRPa
import Derived.Test.YtngijlmokhkdjaaDoorExRPb
import Derived.Test.YtngijlmokhkdjaaDoorExCPart
import Derived.Test.YtngijlmokhkdjaaDoorExCount
namespace Go.Proofs.YtngijlmokhkdjaaDoor
open Go.RowKit

theorem formS_1 (o : Int) (nm : ByteArray) (vk vn : Int) (vs : ByteArray) (m n : Nat) : formS 1 o nm vk vn vs m n = decide (o = 0 ∧ nm.data.toList = [] ∧ n = 0) := by
  unfold formS leastK mostK; simp <;> omega
theorem formS_23 {k : Int} (hk : k = 2 ∨ k = 3) (o : Int) (nm : ByteArray) (vk vn : Int) (vs : ByteArray) (m n : Nat) : formS k o nm vk vn vs m n = decide (o = 0 ∧ zeroS vk vn vs m = true ∧ n = 0) := by
  unfold formS leastK mostK; rcases hk with rfl | rfl <;> simp <;> omega
theorem formS_5 (o : Int) (nm : ByteArray) (vk vn : Int) (vs : ByteArray) (m n : Nat) : formS 5 o nm vk vn vs m n = decide (zeroS vk vn vs m = true ∧ n = 1) := by
  unfold formS leastK mostK
  rw [decide_eq_decide]
  constructor
  · rintro ⟨_, _, h3, h4, h5⟩
    simp at h3 h4 h5
    exact ⟨h3, by omega⟩
  · rintro ⟨h1, h2⟩
    simp [h1, h2]
theorem formS_4 (o : Int) (nm : ByteArray) (vk vn : Int) (vs : ByteArray) (m n : Nat) (hn : n ≤ 1048576) : formS 4 o nm vk vn vs m n = decide (nm.data.toList = [] ∧ zeroS vk vn vs m = true ∧ arityS o n = true) := by
  have h : (leastS o ≤ (n : Int) ∧ (n : Int) ≤ mostS o) ↔ arityS o n = true := by
    unfold arityS mostS
    by_cases h : o = 2 ∨ o = 3 ∨ o = 24 ∨ o = 25
    · rw [if_pos h, if_pos h]
      have : leastS o = 2 := by unfold leastS; rw [if_neg (by omega), if_neg (by omega)]
      rw [this]; simp; omega
    · rw [if_neg h, if_neg h]; simp; omega
  unfold formS leastK mostK
  simp only [true_or, true_and, if_true, ← h]
  simp
theorem rPart_c (w0 : World) (h : Hd) (xs : Fo) (v : Value) (w : World) (hlen : xs.len ≤ 1048576) (hx : IsX w0 h xs v) (hb : Below w0.heap.size w0 w) (hE : Env w) (hz : h.vs.size ≤ 9223372036854775807) :
    Calls Tryd.prog 48 #[v] w fun e w' => e = .returned (.int .i64 (partS h xs)) ∧ Below w.heap.size w w' := by
  obtain ⟨sv, a, n, c, rfl, hL, rfl, hs⟩ := hx
  have hL' := hL.below hb
  obtain ⟨p, q, rfl, _⟩ := hL'.len
  clear hL
  obtain ⟨k, o, nm, vk, vn, vs, vl⟩ := h
  simp only at hL' hz ⊢
  by_cases hk : k < 1 ∨ 5 < k
  · have e : partS ⟨k, o, nm, vk, vn, vs, vl⟩ xs = 4 := by unfold partS; rw [if_pos]; unfold knownS; simp; omega
    rw [e]; exact rpart_unknown ⟨k, o, nm, vk, vn, vs, vl⟩ xs p q a c w hk
  have hkk : k = 1 ∨ k = 2 ∨ k = 3 ∨ k = 4 ∨ k = 5 := by omega
  clear hk
  rcases hkk with rfl | rfl | rfl | rfl | rfl
  · have e : partS ⟨1, o, nm, vk, vn, vs, vl⟩ xs = if o = 0 ∧ nm.data.toList = [] ∧ xs.len = 0 then (if vk = 0 ∨ vk = 1 then 4 else cChk vk vn vs vl) else 3 := by
      unfold partS; rw [if_neg (by unfold knownS; simp)]
      simp only [formS_1]
      by_cases hh : o = 0 ∧ nm.data.toList = [] ∧ xs.len = 0
      · rw [if_neg (by simp [hh]), if_pos hh]; simp
      · rw [if_pos (by simpa using hh), if_neg hh]
    rw [e]
    by_cases ho : o = 0
    · by_cases hn : xs.len = 0
      · by_cases hm : nm.data.toList = []
        · rw [if_pos ⟨ho, hm, hn⟩]
          by_cases v0 : vk = 0
          · subst v0; rw [if_pos (.inl rfl)]; exact rpart_v0 ⟨1, o, nm, 0, vn, vs, vl⟩ xs p q a c w ho hn hm
          by_cases v1 : vk = 1
          · subst v1; rw [if_pos (.inr rfl)]; exact rpart_v1 ⟨1, o, nm, 1, vn, vs, vl⟩ xs p q a c w ho hn hm
          rw [if_neg (by omega)]
          exact rpart_const ⟨1, o, nm, vk, vn, vs, vl⟩ xs p q a c w ho hn hm (by rw [beq_eq_false_iff_ne]; exact v0) (by rw [beq_eq_false_iff_ne]; exact v1) hL' hz
        · rw [if_neg (fun h => hm h.2.1)]; exact rpart_m1 ⟨1, o, nm, vk, vn, vs, vl⟩ xs p q a c w ho hn hm
      · rw [if_neg (fun h => hn h.2.2)]; exact rpart_n1 ⟨1, o, nm, vk, vn, vs, vl⟩ xs p q a c w ho (by omega)
    · rw [if_neg (fun h => ho h.1)]; exact rpart_o1 ⟨1, o, nm, vk, vn, vs, vl⟩ xs p q a c w ho
  · have e : partS ⟨2, o, nm, vk, vn, vs, vl⟩ xs = if o = 0 ∧ zeroS vk vn vs vl.length = true ∧ xs.len = 0 then (if nameS nm = false then 5 else 0) else 3 := by
      unfold partS; rw [if_neg (by unfold knownS; simp)]
      simp only [formS_23 (k := 2) (.inl rfl)]
      by_cases hh : o = 0 ∧ zeroS vk vn vs vl.length = true ∧ xs.len = 0
      · rw [if_neg (by simp [hh]), if_pos hh, if_neg (by omega), if_pos (by omega)]
      · rw [if_pos (by simpa using hh), if_neg hh]
    rw [e]
    by_cases ho : o = 0
    · by_cases hn : xs.len = 0
      · by_cases hzz : zeroS vk vn vs vl.length = true
        · rw [if_pos ⟨ho, hzz, hn⟩]
          by_cases hi : nameS nm = false
          · rw [if_pos hi]; exact rpart_i2f ⟨2, o, nm, vk, vn, vs, vl⟩ xs p q a c w ho hn hzz hi hE
          · rw [if_neg hi]; exact rpart_i2t ⟨2, o, nm, vk, vn, vs, vl⟩ xs p q a c w ho hn hzz (not_false' hi) hE
        · rw [if_neg (fun h => hzz h.2.1)]; exact rpart_z2 ⟨2, o, nm, vk, vn, vs, vl⟩ xs p q a c w ho hn (not_true' hzz)
      · rw [if_neg (fun h => hn h.2.2)]; exact rpart_n2 ⟨2, o, nm, vk, vn, vs, vl⟩ xs p q a c w ho (by omega)
    · rw [if_neg (fun h => ho h.1)]; exact rpart_o2 ⟨2, o, nm, vk, vn, vs, vl⟩ xs p q a c w ho
  · have e : partS ⟨3, o, nm, vk, vn, vs, vl⟩ xs = if o = 0 ∧ zeroS vk vn vs vl.length = true ∧ xs.len = 0 then (if nameS nm = false then 5 else 0) else 3 := by
      unfold partS; rw [if_neg (by unfold knownS; simp)]
      simp only [formS_23 (k := 3) (.inr rfl)]
      by_cases hh : o = 0 ∧ zeroS vk vn vs vl.length = true ∧ xs.len = 0
      · rw [if_neg (by simp [hh]), if_pos hh, if_neg (by omega), if_pos (by omega)]
      · rw [if_pos (by simpa using hh), if_neg hh]
    rw [e]
    by_cases ho : o = 0
    · by_cases hn : xs.len = 0
      · by_cases hzz : zeroS vk vn vs vl.length = true
        · rw [if_pos ⟨ho, hzz, hn⟩]
          by_cases hi : nameS nm = false
          · rw [if_pos hi]; exact rpart_i3f ⟨3, o, nm, vk, vn, vs, vl⟩ xs p q a c w ho hn hzz hi hE
          · rw [if_neg hi]; exact rpart_i3t ⟨3, o, nm, vk, vn, vs, vl⟩ xs p q a c w ho hn hzz (not_false' hi) hE
        · rw [if_neg (fun h => hzz h.2.1)]; exact rpart_z3 ⟨3, o, nm, vk, vn, vs, vl⟩ xs p q a c w ho hn (not_true' hzz)
      · rw [if_neg (fun h => hn h.2.2)]; exact rpart_n3 ⟨3, o, nm, vk, vn, vs, vl⟩ xs p q a c w ho (by omega)
    · rw [if_neg (fun h => ho h.1)]; exact rpart_o3 ⟨3, o, nm, vk, vn, vs, vl⟩ xs p q a c w ho
  · by_cases ho : o < 1 ∨ 39 < o
    · have e : partS ⟨4, o, nm, vk, vn, vs, vl⟩ xs = 4 := by unfold partS; rw [if_pos]; unfold knownS; simp; omega
      rw [e]; exact rpart_op4 ⟨4, o, nm, vk, vn, vs, vl⟩ xs p q a c w ho
    have h1 : 1 ≤ o := by omega
    have h39 : o ≤ 39 := by omega
    have e : partS ⟨4, o, nm, vk, vn, vs, vl⟩ xs = if nm.data.toList = [] ∧ zeroS vk vn vs vl.length = true ∧ arityS o xs.len = true then (if aboutS o = true ∧ xs.fk ≠ 2 then 3 else 0) else 3 := by
      unfold partS; rw [if_neg (by unfold knownS; simp; omega)]
      simp only [formS_4 _ _ _ _ _ _ _ hlen]
      by_cases hh : nm.data.toList = [] ∧ zeroS vk vn vs vl.length = true ∧ arityS o xs.len = true
      · rw [if_neg (by simp [hh]), if_pos hh, if_neg (by omega), if_neg (by omega)]
      · rw [if_pos (by simpa using hh), if_neg hh]
    rw [e]
    by_cases hm : nm.data.toList = []
    · by_cases hzz : zeroS vk vn vs vl.length = true
      · by_cases ha : arityS o xs.len = true
        · rw [if_pos ⟨hm, hzz, ha⟩]
          by_cases hab : o < 12 ∨ 14 < o
          · rw [if_neg (by unfold aboutS; simp; omega)]
            exact rpart_p4 ⟨4, o, nm, vk, vn, vs, vl⟩ xs p q a c w h1 h39 hm hzz ha hab
          have hn : 0 < xs.len := by
            have h2 := ha
            unfold arityS at h2
            rw [if_neg (by omega)] at h2
            have h3 : leastS o = 1 := by unfold leastS; rw [if_neg (by omega), if_pos (by omega)]
            rw [h3] at h2; simp at h2; omega
          obtain ⟨b, off, rfl, hbl, hF⟩ : ∃ b off, a = some ⟨b, off, none⟩ ∧ b < w0.heap.size ∧ IsF w0 b xs off := by
            rcases hs with h | h
            · omega
            · exact h
          have hc : w.cell? ⟨b, off, none⟩ = some (.int .i64 xs.fk) := by rw [hb.cell (p := ⟨b, off, none⟩) hbl]; exact fk_cell hF hn
          have hbl' := Nat.lt_of_lt_of_le hbl hb.size
          have ha1 : aboutS o = true := by unfold aboutS; simp; omega
          by_cases h2 : xs.fk = 2
          · rw [if_neg (by simp [h2])]
            exact rpart_fy ⟨4, o, nm, vk, vn, vs, vl⟩ xs p q c w h1 h39 hm hzz ha (show (12 : Int) ≤ o by omega) (show o ≤ 14 by omega) hn b off hbl' hc (by rw [h2]; rfl) (by rw [h2]; rfl)
          · rw [if_pos ⟨ha1, h2⟩]
            exact rpart_fn ⟨4, o, nm, vk, vn, vs, vl⟩ xs p q c w h1 h39 hm hzz ha (show (12 : Int) ≤ o by omega) (show o ≤ 14 by omega) hn b off hbl' hc (by rw [beq_eq_false_iff_ne]; exact h2) (by simp [h2])
        · rw [if_neg (fun h => ha h.2.2)]; exact rpart_a4 ⟨4, o, nm, vk, vn, vs, vl⟩ xs p q a c w h1 h39 hm hzz (not_true' ha)
      · rw [if_neg (fun h => hzz h.2.1)]; exact rpart_z4 ⟨4, o, nm, vk, vn, vs, vl⟩ xs p q a c w h1 h39 hm (not_true' hzz)
    · rw [if_neg (fun h => hm h.1)]; exact rpart_m4 ⟨4, o, nm, vk, vn, vs, vl⟩ xs p q a c w h1 h39 hm
  · by_cases ho : o < 1 ∨ 6 < o
    · have e : partS ⟨5, o, nm, vk, vn, vs, vl⟩ xs = 4 := by unfold partS; rw [if_pos]; unfold knownS; simp; omega
      rw [e]; exact rpart_op5 ⟨5, o, nm, vk, vn, vs, vl⟩ xs p q a c w ho
    have h1 : 1 ≤ o := by omega
    have h6 : o ≤ 6 := by omega
    have e : partS ⟨5, o, nm, vk, vn, vs, vl⟩ xs = if zeroS vk vn vs vl.length = true ∧ xs.len = 1 then (if nameS nm = false then 5 else 0) else 3 := by
      unfold partS; rw [if_neg (by unfold knownS; simp; omega)]
      simp only [formS_5]
      by_cases hh : zeroS vk vn vs vl.length = true ∧ xs.len = 1
      · rw [if_neg (by simp [hh]), if_pos hh, if_neg (by omega), if_pos (by omega)]
      · rw [if_pos (by simpa using hh), if_neg hh]
    rw [e]
    by_cases hzz : zeroS vk vn vs vl.length = true
    · by_cases hn : xs.len = 1
      · rw [if_pos ⟨hzz, hn⟩]
        by_cases hi : nameS nm = false
        · rw [if_pos hi]; exact rpart_i5f ⟨5, o, nm, vk, vn, vs, vl⟩ xs p q a c w h1 h6 hzz hn hi hE
        · rw [if_neg hi]; exact rpart_i5t ⟨5, o, nm, vk, vn, vs, vl⟩ xs p q a c w h1 h6 hzz hn (not_false' hi) hE
      · rw [if_neg (fun h => hn h.2)]; exact rpart_n5 ⟨5, o, nm, vk, vn, vs, vl⟩ xs p q a c w h1 h6 hzz hn
    · rw [if_neg (fun h => hzz h.1)]; exact rpart_z5 ⟨5, o, nm, vk, vn, vs, vl⟩ xs p q a c w h1 h6 (not_true' hzz)

def FormedC (w0 : World) (h : Hd) (xs : Fo) : Prop :=
  ∀ (v : Value) (w : World), IsX w0 h xs v → Below w0.heap.size w0 w →
    Calls Tryd.prog 25 #[v] w fun e w' => e = .returned (.int .i64 (oneS h xs)) ∧ Below w0.heap.size w0 w'
set_option maxHeartbeats 2000000 in
theorem formed_step (w0 : World) (hE : Env w0) (h : Hd) (xs : Fo) (hlen : xs.parts ≤ 1048576) (hz : h.vs.size ≤ 9223372036854775807) (ih : ∀ k h' a', xs.drop k = .cons h' a' (xs.drop (k + 1)) → FormedC w0 h' a') : FormedC w0 h xs := by
  intro v w hx hb
  have hP := Lib.hid (fun w (hb : Below w0.heap.size w0 w) => rPart_c w0 h xs v w (Nat.le_trans xs.len_le_parts hlen) hx hb (hE.below hb) hz)
  obtain ⟨sv, a, n, c, rfl, hL, rfl, hs⟩ := hx
  have IH := Lib.hid ih; clear ih
  have HS := Lib.hid hs; clear hs
  obtain ⟨p, m, q, rfl⟩ := hL.form
  clear hL
  have hll := xs.len_le_parts
  have ST := Lib.hid (hb.alloc hb.size (.cells #[.int .i64 h.k, .int .i64 h.o, .string h.nm, .int .i64 h.vk, .int .i64 h.vn, .string h.vs, .slice p m q, .slice a xs.len c] 27))
  have hbs := hb.size
  clear hb
  obtain ⟨P, hPe⟩ : ∃ P, P = partS h xs := ⟨_, rfl⟩
  rw [← hPe] at hP
  have eO : Hid (oneS h xs = if P ≠ 0 then P else allS xs) := by unfold Hid oneS; rw [hPe]
  clear hPe
  by_cases hP0 : P = 0
  · subst hP0
    have eO2 : Hid (oneS h xs = allS (xs.drop 0)) := by unfold Hid; rw [eO.out]; simp [Fo.drop]
    clear eO
    go_enter Tryd.func25, Tryd.ntmps25
    go_wp2_with fail
    refine (hP.out _ ST.out).mono ?_
    rintro e w1 ⟨rfl, hB⟩
    have B1 := Lib.hid (ST.out.trans (hB.mono ST.out.size))
    obtain ⟨bc1, bf1⟩ := bcell hB
    clear hB
    go_wp2_with fail
    go_loopw [5, 6, 15] (fun _ _ i wr => ∃ k : Nat, k ≤ xs.len ∧ i = .int .i64 k ∧ Hid (Below w0.heap.size w0 wr) ∧ Hid (oneS h xs = allS (xs.drop k))) (fun _ _ i _ => xs.len - (intOf i).toNat)
    case atStart => exact ⟨0, Nat.zero_le _, rfl, B1.out, eO2.out⟩
    case round =>
      obtain ⟨k, hk, rfl, hR, hA⟩ := hrel
      clear eO2 B1 bc1 bf1 ST
      by_cases hlt' : k < xs.len
      · have hkk : (k : Int) < (xs.len : Int) := by omega
        obtain ⟨b, off, rfl, hbl, hF⟩ : ∃ b off, a = some ⟨b, off, none⟩ ∧ b < w0.heap.size ∧ IsF w0 b xs off := by
          rcases HS.out with h | h
          · omega
          · exact h
        obtain ⟨h', a', hd⟩ := Fo.drop_at k xs hlt'
        obtain ⟨sp, sm, sq, p', n', c', g0, g1, g2, g3, g4, g5, g6, g7, hX⟩ := hF.cells hd
        have cc := fun (o : Nat) => hR.out.cell (p := ⟨b, o, none⟩) hbl
        have k0 := (cc _).trans g0
        have k1 := (cc _).trans g1
        have k2 := (cc _).trans g2
        have k3 := (cc _).trans g3
        have k4 := (cc _).trans g4
        have k5 := (cc _).trans g5
        have k6 := (cc _).trans g6
        have k7 := (cc _).trans g7
        have HX := Lib.hid hX
        have HD := Lib.hid hd
        clear g0 g1 g2 g3 g4 g5 g6 g7 hX hd cc hF
        obtain ⟨Q, hQ⟩ : ∃ Q, Q = oneS h' a' := ⟨_, rfl⟩
        have eQ : Hid (oneS h xs = if Q ≠ 0 then Q else allS (xs.drop (k + 1))) := by unfold Hid; rw [hA.out, allS_drop HD.out, hQ]
        have hC := Lib.hid (fun (v : Value) (w : World) (hx : IsX w0 h' a' v) (hb : Below w0.heap.size w0 w) => by have := IH.out k h' a' HD.out v w hx hb; rw [← hQ] at this; exact this)
        clear hQ hA
        by_cases hQ0 : Q = 0
        · subst hQ0
          have eQ2 : Hid (oneS h xs = allS (xs.drop (k + 1))) := by unfold Hid; rw [eQ.out]; simp
          clear eQ
          go_wp2_with fail
          refine (hC.out _ _ HX.out (hR.out.alloc hR.out.size _)).mono ?_
          rintro e w4 ⟨rfl, hB⟩
          have HB := Lib.hid hB; clear hB
          go_wp2
          go_roundw
          case rel => exact ⟨k + 1, by omega, by go_num, HB.out, eQ2.out⟩
          case measure => simp [intOf]; omega
        · have q1 : (Q != 0) = true := by simpa using hQ0
          have eQ2 : Hid (oneS h xs = Q) := by unfold Hid; rw [eQ.out, if_pos hQ0]
          clear eQ hQ0
          go_wp2_with fail
          refine (hC.out _ _ HX.out (hR.out.alloc hR.out.size _)).mono ?_
          rintro e w4 ⟨rfl, hB⟩
          have HB := Lib.hid hB; clear hB
          go_wp2
          go_ret
          exact ⟨ret_int eQ2.out.symm, HB.out⟩
      · obtain rfl : k = xs.len := by omega
        have hz := Fo.drop_end (xs := xs) rfl
        have e1 : Hid (oneS h xs = 0) := by unfold Hid; rw [hA.out, hz]; rfl
        clear hA hz
        go_wp2
        go_ret
        exact ⟨ret_int e1.out.symm, hR.out⟩
  · have q1 : (P != 0) = true := by simpa using hP0
    have eO2 : Hid (oneS h xs = P) := by unfold Hid; rw [eO.out, if_pos hP0]
    clear eO hP0
    go_enter Tryd.func25, Tryd.ntmps25
    go_wp2_with fail
    refine (hP.out _ ST.out).mono ?_
    rintro e w1 ⟨rfl, hB⟩
    have B1 := Lib.hid (ST.out.trans (hB.mono ST.out.size))
    clear hB
    go_wp2
    go_ret
    exact ⟨ret_int eO2.out.symm, B1.out⟩
theorem formed_c (w0 : World) (hE : Env w0) (h : Hd) (xs : Fo) : xs.parts ≤ 1048576 → h.vs.size ≤ 9223372036854775807 → xs.fine → FormedC w0 h xs :=
  forest_ind (fun h xs => xs.parts ≤ 1048576 → h.vs.size ≤ 9223372036854775807 → xs.fine → FormedC w0 h xs) (fun h a ih hp hz hf => formed_step w0 hE h a hp hz (fun k h' a' hd => ih k h' a' hd (by have := Fo.parts_sub hd; omega) (Fo.fine_at hf hd).1 (Fo.fine_at hf hd).2)) h xs

set_option maxHeartbeats 1000000 in
theorem rCheckExpr_c (w0 : World) (hE : Env w0) (h : Hd) (xs : Fo) (v : Value) (w : World) (hp : xs.parts ≤ 1048576) (hz : h.vs.size ≤ 9223372036854775807) (hf : xs.fine) (hx : IsX w0 h xs v) (hb : Below w0.heap.size w0 w) :
    Calls Tryd.prog 11 #[v] w fun e w' => e = .returned (.int .i64 (exprS h xs)) ∧ Below w0.heap.size w0 w' := by
  have HC := Lib.hid (fun w (hb : Below w0.heap.size w0 w) => formed_c w0 hE h xs hp hz hf v w hx hb)
  have hx0 := hx
  have hbs := hb.size
  have hlp := xs.levels_le_parts
  obtain ⟨sv, a, n, c, rfl, hL, rfl, hs⟩ := hx
  clear hs hf hz
  obtain ⟨p, m, q, rfl⟩ := hL.form
  clear hL
  have hb1 := hb.alloc hbs (.cells #[.int .i64 h.k, .int .i64 h.o, .string h.nm, .int .i64 h.vk, .int .i64 h.vn, .string h.vs, .slice p m q, .slice a xs.len c] 27)
  have HB1 := Lib.hid hb1
  have HN := Lib.hid (count_c _ h xs hp _ _ (hx0.below hb1) (Below.refl _ _))
  clear hb hb1 hx0
  have hS : Hid (exprS h xs = if 300 < xs.parts + 1 ∨ 20 < xs.levels + 1 then 2 else oneS h xs) := rfl
  generalize xs.parts = P at *
  generalize xs.levels = V at *
  by_cases h1 : 300 < P + 1
  · have e : Hid (exprS h xs = 2) := by unfold Hid; rw [hS.out, if_pos (.inl h1)]
    have h1' : (300 : Int) < (P : Int) + 1 := by omega
    go_enter Tryd.func11, Tryd.ntmps11
    go_wp2_with fail
    refine HN.out.mono ?_
    rintro e1 w1 ⟨rfl, hB⟩
    have HB := Lib.hid (HB1.out.trans (hB.mono HB1.out.size)); clear hB
    go_wp2
    go_ret
    exact ⟨ret_int e.out.symm, HB.out⟩
  have h1' : decide ((300 : Int) < (P : Int) + 1) = false := by simp; omega
  by_cases h2 : 20 < V + 1
  · have e : Hid (exprS h xs = 2) := by unfold Hid; rw [hS.out, if_pos (.inr h2)]
    have h2' : (20 : Int) < (V : Int) + 1 := by omega
    clear h1
    go_enter Tryd.func11, Tryd.ntmps11
    go_wp2_with fail
    refine HN.out.mono ?_
    rintro e1 w1 ⟨rfl, hB⟩
    have HB := Lib.hid (HB1.out.trans (hB.mono HB1.out.size)); clear hB
    go_wp2
    go_ret
    exact ⟨ret_int e.out.symm, HB.out⟩
  have h2' : decide ((20 : Int) < (V : Int) + 1) = false := by simp; omega
  have e : Hid (exprS h xs = oneS h xs) := by unfold Hid; rw [hS.out, if_neg (by omega)]
  clear h1 h2 hS
  go_enter Tryd.func11, Tryd.ntmps11
  go_wp2_with fail
  refine HN.out.mono ?_
  rintro e1 w1 ⟨rfl, hB⟩
  have HB := Lib.hid (HB1.out.trans (hB.mono HB1.out.size))
  obtain ⟨bc1, bf1⟩ := bcell hB
  clear hB
  go_wp2_with fail
  refine (HC.out _ HB.out).mono ?_
  rintro e2 w2 ⟨rfl, hB⟩
  have HB2 := Lib.hid hB; clear hB bc1 bf1
  go_wp2
  go_ret
  exact ⟨ret_int e.out.symm, HB2.out⟩
end Go.Proofs.YtngijlmokhkdjaaDoor
