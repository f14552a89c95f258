/-
  slices.Equal at two slices with the same strata.
-/
import Derived.Test.YtkppfceogknlkaaDoorFrmRStr
namespace Go.Proofs.YtkppfceogknlkaaDoor
open Go.RowKit Go.WideMaps Go.Maps

/-- A slice that reads as strata. -/
def RdT (W : World) (a : Option Addr) (n : Nat) (F : Nat → List Value) : Prop :=
  n ≤ 5000 ∧ (0 < n → ∃ g, a = some ⟨g, 0, none⟩ ∧ g < W.heap.size ∧ ∀ j, j < n → ∀ i, i < 4 → W.cell? ⟨g, j * 4 + i, none⟩ = (F j)[i]?)
theorem RdT.below {W W' : World} {a : Option Addr} {n : Nat} {F : Nat → List Value} (h : RdT W a n F) (hb : Below W.heap.size W W') : RdT W' a n F :=
  ⟨h.1, fun h0 => by
    obtain ⟨g, e, hl, hc⟩ := h.2 h0
    exact ⟨g, e, Nat.lt_of_lt_of_le hl hb.size, fun j hj i hi => by rw [hb.cell (p := ⟨g, j * 4 + i, none⟩) hl]; exact hc j hj i hi⟩⟩
theorem rcells_len {F : Nat → List Value} (h4 : ∀ j, (F j).length = 4) : ∀ n, (rcells F n).length = n * 4
  | 0 => rfl
  | n + 1 => by
    show (rcells F n ++ F n).length = _
    rw [List.length_append, rcells_len h4 n, h4 n]; omega
theorem rcells_at {F : Nat → List Value} (h4 : ∀ j, (F j).length = 4) : ∀ n j, j < n → ∀ i, i < 4 → (rcells F n)[j * 4 + i]? = (F j)[i]?
  | 0, _, h, _, _ => by omega
  | n + 1, j, h, i, hi => by
    show (rcells F n ++ F n)[j * 4 + i]? = _
    have hl := rcells_len h4 n
    by_cases e : j = n
    · subst e
      rw [List.getElem?_append_right (by omega), hl]
      rw [show j * 4 + i - j * 4 = i by omega]
    · rw [List.getElem?_append_left (by omega)]
      exact rcells_at h4 n j (by omega) i hi
theorem rdT_own {W : World} {base : Nat} {v : Value} {n : Nat} {F : Nat → List Value} (h4 : ∀ j, (F j).length = 4) (h : W.ownsRow base 30 4 v n (rcells F n)) (hn : n ≤ 5000) : ∃ a c, v = .slice a n c ∧ RdT W a n F := by
  rcases h.2 with ⟨rfl, h0⟩ | ⟨g, cap, cur, rfl, hbase, hb, h1, h2, h3, h5⟩
  · exact ⟨none, 0, by rw [h0], hn, fun h => by omega⟩
  · refine ⟨_, _, rfl, hn, fun _ => ⟨g, rfl, (Array.getElem?_eq_some_iff.1 hb).1, fun j hj i hi => ?_⟩⟩
    rw [h.cellAt _ (by omega), rcells_at h4 n j hj i hi]
theorem eqT_c (a1 a2 : Option Addr) (c1 c2 n : Nat) (S : Nat → ByteArray) (X Y Z : Nat → Int) (w : World) (h1 : RdT w a1 n (fun j => [.string (S j), .int .i64 (X j), .int .i64 (Y j), .int .i64 (Z j)])) (h2 : RdT w a2 n (fun j => [.string (S j), .int .i64 (X j), .int .i64 (Y j), .int .i64 (Z j)])) :
    Calls Tryd.prog 8 #[.slice a1 n c1, .slice a2 n c2] w fun e w' => e = .returned (.bool true) ∧ Below w.heap.size w w' := by
  have H1 := Lib.hid h1
  have H2 := Lib.hid h2
  have h9 := h1.1
  clear h1 h2
  go_enter Tryd.func8, Tryd.ntmps8
  go_wp2
  go_loopw [13] (fun i wr => ∃ k : Nat, k ≤ n ∧ i = .int .i64 k ∧ Hid (Below w.heap.size w wr)) (fun i _ => n - (intOf i).toNat)
  case atStart => exact ⟨0, Nat.zero_le _, rfl, Below.refl _ _⟩
  case round =>
    obtain ⟨k, hk, rfl, hR⟩ := hrel
    by_cases hlt : k < n
    · have hlt' : (k : Int) < (n : Int) := by omega
      obtain ⟨g1, rfl, -, d1⟩ := (H1.out.below hR.out).2 (by omega)
      obtain ⟨g2, rfl, -, d2⟩ := (H2.out.below hR.out).2 (by omega)
      have p0 := d1 k hlt 0 (by omega)
      have p1 := d1 k hlt 1 (by omega)
      have p2 := d1 k hlt 2 (by omega)
      have p3 := d1 k hlt 3 (by omega)
      have q0 := d2 k hlt 0 (by omega)
      have q1 := d2 k hlt 1 (by omega)
      have q2 := d2 k hlt 2 (by omega)
      have q3 := d2 k hlt 3 (by omega)
      simp only [List.getElem?_cons_zero, List.getElem?_cons_succ, Nat.add_zero] at p0 p1 p2 p3 q0 q1 q2 q3
      clear d1 d2
      generalize S k = s at *
      generalize X k = x at *
      generalize Y k = y at *
      generalize Z k = z at *
      go_wp2_with fail
      go_quiet (fail)
      have NX : Hid (Below w.heap.size w (wr.drewN nq)) := hR.out.trans ((bel_drewN _ _).mono hR.out.size)
      clear p0 p1 p2 p3 q0 q1 q2 q3
      go_wp2
      go_roundw
      case rel => exact ⟨k + 1, by omega, by go_num, NX.out⟩
      case measure => simp [intOf]; omega
    · obtain rfl : k = n := by omega
      go_wp2
      go_ret
      exact ⟨rfl, hR.out⟩
end Go.Proofs.YtkppfceogknlkaaDoor
