/-
  RatioOf of package value and ratio of package sample, at numbers from 0 on: the calls.
-/
import Derived.Test.YtecbkfmdpgkdiaaGreatDoorRatRat
namespace Go.Proofs.YtecbkfmdpgkdiaaGreatDoor
open Go.RowKit

/-- The box of a ratio to be returned. -/
def Rx (w : World) (W : World) : Prop :=
  W.cell? ⟨w.heap.size, 0, none⟩ = some (.string ⟨#[]⟩) ∧ W.cell? ⟨w.heap.size, 1, none⟩ = some (.string ⟨#[]⟩) ∧ W.frozen? ⟨w.heap.size, 0, none⟩ = false ∧ W.frozen? ⟨w.heap.size, 1, none⟩ = false ∧ Hid (Below w.heap.size w W ∧ w.heap.size < W.heap.size)
theorem Rx.keep {w W W' : World} (h : Rx w W) (hb : Below W.heap.size W W') : Rx w W' := by
  obtain ⟨r0, r1, f0, f1, x⟩ := h
  obtain ⟨bl, hg⟩ := x.out
  have f := fun (o : Nat) => hb.cell (p := ⟨w.heap.size, o, none⟩) hg
  have z := fun (o : Nat) => hb.frozen (p := ⟨w.heap.size, o, none⟩) hg
  exact ⟨(f _).trans r0, (f _).trans r1, (z _).trans f0, (z _).trans f1, bl.trans (hb.mono (by omega)), Nat.lt_of_lt_of_le hg hb.size⟩
theorem Rx.make (w : World) : Rx w (w.alloc (.cells #[.string ⟨#[]⟩, .string ⟨#[]⟩] 31)) :=
  ⟨by rw [World.cell?_alloc_at _ _ _ _ rfl]; rfl, by rw [World.cell?_alloc_at _ _ _ _ rfl]; rfl, by simp, by simp, (Below.refl _ _).alloc (Nat.le_refl _) _, by simp⟩
theorem Rx.done {w W : World} (h : Rx w W) (x y : ByteArray) :
    ((W.setCell ⟨w.heap.size, 0, none⟩ (.string x)).setCell ⟨w.heap.size, 1, none⟩ (.string y)).cell? ⟨w.heap.size, 0, none⟩ = some (.string x) ∧ ((W.setCell ⟨w.heap.size, 0, none⟩ (.string x)).setCell ⟨w.heap.size, 1, none⟩ (.string y)).cell? ⟨w.heap.size, 1, none⟩ = some (.string y) ∧
    Below w.heap.size w ((W.setCell ⟨w.heap.size, 0, none⟩ (.string x)).setCell ⟨w.heap.size, 1, none⟩ (.string y)) := by
  obtain ⟨r0, r1, f0, f1, q⟩ := h
  have t := two_cells (x := .string x) (y := .string y) r0 r1
  exact ⟨t.1, t.2, (q.out.1.setCell (p := ⟨w.heap.size, 0, none⟩) (Nat.le_refl _) _).setCell (p := ⟨w.heap.size, 1, none⟩) (Nat.le_refl _) _⟩
theorem Of_c (n : Nat) (w : World) (hn : n ≤ 9223372036854775807) : Calls Tryz.prog 39 #[.int .i64 n] w (NumPost n w) := by
  rcases Nat.eq_zero_or_pos n with h | h
  · subst h; exact Of_zero w
  · exact Of_pos n w h hn
set_option maxHeartbeats 1000000 in
theorem RatioOf_c (n d : Nat) (w : World) (hn : n ≤ 9223372036854775807) (hd : d ≤ 9223372036854775807) (h0 : 0 < d) :
    Calls Tryz.prog 26 #[.int .i64 n, .int .i64 d] w (RatPost (n / Nat.gcd n d) (d / Nat.gcd n d) w) := by
  have HN := Lib.hid hn
  have HD := Lib.hid hd
  have H0 := Lib.hid h0
  have e : ((d : Int) == 0) = false := by rw [beq_eq_false_iff_ne]; omega
  have e' : (d == 0) = false := by rw [beq_eq_false_iff_ne]; omega
  clear hn hd h0
  go_enter Tryz.func26, Tryz.ntmps26
  go_wp2_with fail
  have X0 := Lib.hid (Rx.make w)
  generalize w.alloc (.cells #[.string ⟨#[]⟩, .string ⟨#[]⟩] 31) = W0 at X0 ⊢
  refine (Of_c n W0 HN.out).mono ?_
  rintro e w1 ⟨a1, k1, c1, rfl, l1, b1⟩
  have X1 := Lib.hid (X0.out.keep b1)
  have L1 := Lib.hid l1
  clear l1 b1 X0
  go_wp2_with fail
  refine (Of_c d w1 HD.out).mono ?_
  rintro e w2 ⟨a2, k2, c2, rfl, l2, b2⟩
  have X2 := Lib.hid (X1.out.keep b2)
  have L12 := Lib.hid (L1.out.below b2)
  have L2 := Lib.hid l2
  clear l2 b2 X1 L1
  go_wp2_with fail
  refine (Over_c a1 a2 c1 c2 k1 k2 n d w2 L12.out L2.out H0.out).mono ?_
  rintro e w3 ⟨a3, k3, c3, a4, k4, c4, rfl, l3, l4, b3⟩
  have X3 := Lib.hid (X2.out.keep b3)
  have L3 := Lib.hid l3
  have L4 := Lib.hid l4
  clear l3 l4 b3 X2 L12 L2
  go_wp2_with fail
  refine (ratioOf_c a3 a4 k3 c3 k4 c4 _ _ w3 L3.out L4.out (Nat.le_trans (Nat.div_le_self _ _) HN.out) (Nat.le_trans (Nat.div_le_self _ _) HD.out)).mono ?_
  rintro e w4 ⟨rfl, b4⟩
  have X4 := X3.out.keep b4
  have FIN := Lib.hid (X4.done (decB (n / Nat.gcd n d)) (decB (d / Nat.gcd n d)))
  clear b4 X3 L3 L4
  dsimp only [Rx] at X4
  go_wp2
  obtain ⟨e0, e1, hB⟩ := FIN.out
  exact bodyPost_ret (v := .tuple #[.agg #[.string (decB (n / Nat.gcd n d)), .string (decB (d / Nat.gcd n d))], .int .i64 0]) (by simp [results, Tryz.results26, go_sem, e0, e1]) rfl ⟨rfl, hB⟩
/-- What ratio gives. -/
def rtN (n d : Nat) : Nat := if d = 0 then 0 else n / Nat.gcd n d
def rtD (n d : Nat) : Nat := if d = 0 then 1 else d / Nat.gcd n d
def RtPost (n d : Nat) (w : World) (e : Ending) (w' : World) : Prop := e = .returned (.agg #[.string (decB (rtN n d)), .string (decB (rtD n d))]) ∧ Below w.heap.size w w'
theorem ratio_c (n d : Nat) (w : World) (hn : n ≤ 9223372036854775807) (hd : d ≤ 9223372036854775807) : Calls Tryz.prog 18 #[.int .i64 n, .int .i64 d] w (RtPost n d w) := by
  rcases Nat.eq_zero_or_pos d with h | h
  · subst h
    have HR := Lib.hid (fun w => RatioOf_c 0 1 w (by decide) (by decide) (by decide))
    have e1 : Hid (0 / Nat.gcd 0 1 = rtN n 0) := rfl
    have e2 : Hid (1 / Nat.gcd 0 1 = rtD n 0) := rfl
    clear hn hd
    go_enter Tryz.func18, Tryz.ntmps18
    go_wp2_with fail
    have X0 := Lib.hid (Rx.make w)
    generalize w.alloc (.cells #[.string ⟨#[]⟩, .string ⟨#[]⟩] 31) = W0 at X0 ⊢
    refine (HR.out W0).mono ?_
    rintro e w4 ⟨rfl, b4⟩
    have X4 := X0.out.keep b4
    rw [e1.out, e2.out]
    obtain ⟨W5, hW5⟩ : ∃ W5, w4.alloc (.cells #[.string (decB (rtN n 0)), .string (decB (rtD n 0))] 31) = W5 := ⟨_, rfl⟩
    have D0 : W5.cell? ⟨w4.heap.size, 0, none⟩ = some (.string (decB (rtN n 0))) := by rw [← hW5, World.cell?_alloc_at _ _ _ _ rfl]; rfl
    have D1 : W5.cell? ⟨w4.heap.size, 1, none⟩ = some (.string (decB (rtD n 0))) := by rw [← hW5, World.cell?_alloc_at _ _ _ _ rfl]; rfl
    have X5 : Rx w W5 := by rw [← hW5]; exact X4.keep ((Below.refl _ _).alloc (Nat.le_refl _) _)
    have FIN := Lib.hid (X5.done (decB (rtN n 0)) (decB (rtD n 0)))
    clear b4 X0 X4
    dsimp only [Rx] at X5
    go_wp2
    obtain ⟨e0, e1, hB⟩ := FIN.out
    exact bodyPost_ret (v := .agg #[.string (decB (rtN n 0)), .string (decB (rtD n 0))]) (by simp [results, Tryz.results18, go_sem, e0, e1]) rfl ⟨rfl, hB⟩
  · have HR := Lib.hid (fun w => RatioOf_c n d w hn hd h)
    have e1 : Hid (n / Nat.gcd n d = rtN n d) := by unfold Hid rtN; rw [if_neg (by omega)]
    have e2 : Hid (d / Nat.gcd n d = rtD n d) := by unfold Hid rtD; rw [if_neg (by omega)]
    have e : ((d : Int) == 0) = false := by rw [beq_eq_false_iff_ne]; omega
    have e' : (d == 0) = false := by rw [beq_eq_false_iff_ne]; omega
    clear hn hd h
    go_enter Tryz.func18, Tryz.ntmps18
    go_wp2_with fail
    have X0 := Lib.hid (Rx.make w)
    generalize w.alloc (.cells #[.string ⟨#[]⟩, .string ⟨#[]⟩] 31) = W0 at X0 ⊢
    refine (HR.out W0).mono ?_
    rintro e w4 ⟨rfl, b4⟩
    have X4 := X0.out.keep b4
    rw [e1.out, e2.out]
    obtain ⟨W5, hW5⟩ : ∃ W5, w4.alloc (.cells #[.string (decB (rtN n d)), .string (decB (rtD n d))] 31) = W5 := ⟨_, rfl⟩
    have D0 : W5.cell? ⟨w4.heap.size, 0, none⟩ = some (.string (decB (rtN n d))) := by rw [← hW5, World.cell?_alloc_at _ _ _ _ rfl]; rfl
    have D1 : W5.cell? ⟨w4.heap.size, 1, none⟩ = some (.string (decB (rtD n d))) := by rw [← hW5, World.cell?_alloc_at _ _ _ _ rfl]; rfl
    have X5 : Rx w W5 := by rw [← hW5]; exact X4.keep ((Below.refl _ _).alloc (Nat.le_refl _) _)
    have FIN := Lib.hid (X5.done (decB (rtN n d)) (decB (rtD n d)))
    clear b4 X0 X4
    dsimp only [Rx] at X5
    go_wp2
    obtain ⟨e0, e1, hB⟩ := FIN.out
    exact bodyPost_ret (v := .agg #[.string (decB (rtN n d)), .string (decB (rtD n d))]) (by simp [results, Tryz.results18, go_sem, e0, e1]) rfl ⟨rfl, hB⟩
end Go.Proofs.YtecbkfmdpgkdiaaGreatDoor
