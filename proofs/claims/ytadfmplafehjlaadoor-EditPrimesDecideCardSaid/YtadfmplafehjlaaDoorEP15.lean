/-
  Package edit: isWithin, meet.
  Package edit: joined.
  Package edit: Least.
  Package edit: what widened does.
-/
import Derived.Test.YtadfmplafehjlaaDoorEP14
namespace Go.Proofs.YtadfmplafehjlaaDoor
open Go.RowKit Go.WideMaps Go.Maps Go.Shelf

attribute [local go_sem] Oper.semAt_some

/-- Whether a box is within another one. -/
def wiA (A B : Nat → Nat) : Nat → Bool := al (fun i => decide (A i &&& (18446744073709551615 - B i) = 0))
def wiB (A B : Nat → Nat) : Bool := wiA A B 12
theorem wiB_iff {A B : Nat → Nat} (hA : ∀ i, A i < 2 ^ 20) (hB : ∀ i, B i < 2 ^ 20) (h12 : ∀ i, 12 ≤ i → A i = 0) : wiB A B = true ↔ Wi A B := by
  have hz : ∀ i, (A i &&& (18446744073709551615 - B i) = 0) ↔ ∀ k, (A i).testBit k = true → (B i).testBit k = true := fun i => by
    have hb : ∀ k, (A i &&& (18446744073709551615 - B i)).testBit k = ((A i).testBit k && !(B i).testBit k) := fun k => by
      by_cases hk : k < 64
      · rcases andNot_bit (A i) (B i) k hk with q | q
        · exact q
        · have := hB i; omega
      · have : (A i).testBit k = false := Nat.testBit_lt_two_pow (Nat.lt_of_lt_of_le (hA i) (Nat.pow_le_pow_right (by omega) (by omega)))
        rw [Nat.testBit_and, this]; rfl
    constructor
    · intro e k hk
      have := hb k
      rw [e, Nat.zero_testBit, hk] at this
      cases q : (B i).testBit k with
      | true => rfl
      | false => rw [q] at this; cases this
    · intro h
      refine nat_ext fun k => ?_
      rw [hb, Nat.zero_testBit]
      cases q : (A i).testBit k with
      | false => rfl
      | true => rw [h k q]; rfl
  unfold wiB wiA
  rw [al_iff]
  constructor
  · intro h i k e
    by_cases hi : i < 12
    · exact (hz i).1 (of_decide_eq_true (h i hi)) k e
    · rw [h12 i (by omega), Nat.zero_testBit] at e; cases e
  · intro h i _
    exact decide_eq_true ((hz i).2 (h i))
theorem al_stop {p : Nat → Bool} {i n : Nat} (hi : i < n) (h : p i = false) : al p n = false := by
  cases e : al p n with
  | false => rfl
  | true => rw [al_iff.1 e i hi] at h; cases h
theorem al_step {p : Nat → Bool} {i : Nat} (h1 : al p i = true) (h : p i = true) : al p (i + 1) = true := by
  show (al p i && p i) = true
  rw [h1, h]; rfl
set_option maxRecDepth 100000 in
set_option maxHeartbeats 8000000 in
theorem isWithin_c (ab ao cb co : Nat) (A B : Nat → Nat) (w : World) (hA : BxAt w ab ao A) (hB : BxAt w cb co B) (hAb : ∀ i, A i < 2 ^ 20) (hBb : ∀ i, B i < 2 ^ 20) :
    Calls Tryd.prog 84 #[.pointer (some ⟨ab, ao, none⟩), .pointer (some ⟨cb, co, none⟩)] w fun e w' => e = .returned (.bool (wiB A B)) ∧ Below w.heap.size w w' := by
  have mixed : Tryd.prog.follows .mixedOrders = true := by kernel_rfl
  have HA := Lib.hid hA
  have HB := Lib.hid hB
  have HAB := Lib.hid hAb
  have HBB := Lib.hid hBb
  clear hA hB hAb hBb
  go_enter Tryd.func84, Tryd.ntmps84
  go_wp2_with fail
  go_loopw [5, 6, 8] (fun _ _ iv wr => ∃ j : Nat, iv = .int .i64 j ∧ Hid (j ≤ 12 ∧ wiA A B j = true ∧ Below w.heap.size w wr)) (fun _ _ iv _ => 12 - (intOf iv).toNat)
  case atStart => exact ⟨0, rfl, Nat.zero_le _, rfl, Below.refl _ _⟩
  case round =>
    obtain ⟨j, rfl, hS⟩ := hrel
    obtain ⟨hj, hall, hb⟩ := hS.out
    have BR := Lib.hid hb
    have HALL := Lib.hid hall
    by_cases hlt : j < 12
    · have hlt' : (j : Int) < 12 := by omega
      have hj0 : (0 : Int) ≤ (j : Int) := by omega
      have a0 := HA.out j hlt
      have a1 := (hb.cell (p := ⟨ab, ao + j, none⟩) (cellLt a0)).trans a0
      have b0 := HB.out j hlt
      have b1 : ∀ V, Below w.heap.size w V → V.cell? ⟨cb, co + j, none⟩ = some (.int .u64 (B j)) := fun V hV => (hV.cell (p := ⟨cb, co + j, none⟩) (cellLt b0)).trans b0
      have BB := Lib.hid b1
      have hAi := HAB.out j
      have hBi := HBB.out j
      obtain ⟨z, hz⟩ : ∃ z, A j &&& (18446744073709551615 - B j) = z := ⟨_, rfl⟩
      have HZ := Lib.hid hz
      obtain ⟨x, hx⟩ : ∃ z, A j = z := ⟨_, rfl⟩
      obtain ⟨y, hy⟩ : ∃ z, B j = z := ⟨_, rfl⟩
      rw [hx] at hAi a1 hz
      rw [hy] at hBi hz BB
      have hand : bits .andNot .u64 (x : Int) (y : Int) = (z : Int) := by rw [← hz]; exact Go.u64_andNot_nat _ _ (by omega) (by omega)
      clear hS hall hb a0 b0 b1 hx hy hz hAi hBi
      go_wp2_with fail
      go_quiet (fail)
      obtain ⟨wd, hwd⟩ : ∃ V, wr.drewN nq = V := ⟨_, rfl⟩
      have BD : Hid (Below w.heap.size w wd) := by unfold Hid; rw [← hwd]; exact BR.out.trans ((below_drewN _ _).mono BR.out.size)
      rw [hwd]
      have b2 := BB.out wd BD.out
      clear hwd a1
      by_cases h0 : z = 0
      · have g0 : ((z : Int) != 0) = false := by rw [h0]; rfl
        have NX : Hid (j + 1 ≤ 12 ∧ wiA A B (j + 1) = true ∧ Below w.heap.size w wd) := ⟨hlt, al_step HALL.out (decide_eq_true (HZ.out.trans h0)), BD.out⟩
        clear h0
        go_wp2_with fail
        go_roundw
        case rel => exact ⟨j + 1, by go_num, NX.out⟩
        case measure => simp [intOf]; omega
      · have g0 : ((z : Int) != 0) = true := by simp; omega
        have RR : Hid (wiB A B = false) := al_stop hlt (decide_eq_false (by rw [HZ.out]; exact h0))
        clear h0
        go_wp2_with fail
        go_ret
        exact ⟨by rw [RR.out]; rfl, BD.out⟩
    · have hlt' : ¬ (j : Int) < 12 := by omega
      have e : j = 12 := by omega
      have RR : Hid (wiB A B = true) := by unfold Hid wiB; rw [← e]; exact hall
      clear hS hall hb hlt e
      go_wp2_with fail
      go_ret
      exact ⟨by rw [RR.out]; rfl, BR.out⟩
set_option maxRecDepth 100000 in
set_option maxHeartbeats 8000000 in
theorem meet_c (p : Nat) (l : List Fd) (E : List Ed) (ab ao cb co : Nat) (A B : Nat → Nat) (w : World) (hP : PlR w p l E) (h12 : l.length ≤ 12) (hA : BxAt w ab ao A) (hB : BxAt w cb co B) (hAb : ∀ i, i < l.length → A i < 2 ^ 20) (hBb : ∀ i, i < l.length → B i < 2 ^ 20) :
    Calls Tryd.prog 110 #[.pointer (some ⟨p, 0, none⟩), .pointer (some ⟨ab, ao, none⟩), .pointer (some ⟨cb, co, none⟩)] w fun e w' => e = .returned (.bool (meB l A B)) ∧ Below w.heap.size w w' := by
  have mixed : Tryd.prog.follows .mixedOrders = true := by kernel_rfl
  have HA := Lib.hid hA
  have HB := Lib.hid hB
  have HAB := Lib.hid hAb
  have HBB := Lib.hid hBb
  obtain ⟨fb, fc, f0, _, _⟩ := hP.fs
  obtain ⟨n, hn⟩ : ∃ n, l.length = n := ⟨_, rfl⟩
  have HN := Lib.hid hn
  rw [hn] at f0 h12
  clear hA hB hAb hBb hP hn
  go_enter Tryd.func110, Tryd.ntmps110
  go_wp2_with fail
  clear f0
  go_loopw [7, 13] (fun _ iv wr => ∃ j : Nat, iv = .int .i64 j ∧ Hid (j ≤ n ∧ al (fun i => decide (A i &&& B i ≠ 0)) j = true ∧ Below w.heap.size w wr)) (fun _ iv _ => n - (intOf iv).toNat)
  case atStart => exact ⟨0, rfl, Nat.zero_le _, rfl, Below.refl _ _⟩
  case round =>
    obtain ⟨j, rfl, hS⟩ := hrel
    obtain ⟨hj, hall, hb⟩ := hS.out
    have BR := Lib.hid hb
    have HALL := Lib.hid hall
    by_cases hlt : j < n
    · have hlt' : (j : Int) < (n : Int) := by omega
      have hj0 : (0 : Int) ≤ (j : Int) := by omega
      have hj12 : (j : Int) < 12 := by omega
      have a0 := HA.out j (by omega)
      have a1 := (hb.cell (p := ⟨ab, ao + j, none⟩) (cellLt a0)).trans a0
      have b0 := HB.out j (by omega)
      have b1 := (hb.cell (p := ⟨cb, co + j, none⟩) (cellLt b0)).trans b0
      have hAi := HAB.out j (by rw [HN.out]; exact hlt)
      have hBi := HBB.out j (by rw [HN.out]; exact hlt)
      obtain ⟨z, hz⟩ : ∃ z, A j &&& B j = z := ⟨_, rfl⟩
      have HZ := Lib.hid hz
      obtain ⟨x, hx⟩ : ∃ z, A j = z := ⟨_, rfl⟩
      obtain ⟨y, hy⟩ : ∃ z, B j = z := ⟨_, rfl⟩
      rw [hx] at hAi a1 hz
      rw [hy] at hBi hz b1
      have hand : bits .and .u64 (x : Int) (y : Int) = (z : Int) := by rw [← hz]; exact Go.u64_and_nat _ _ (by omega) (by omega)
      clear hS hall hb a0 b0 hx hy hz hAi hBi
      by_cases h0 : z = 0
      · have g0 : ((z : Int) == 0) = true := by rw [h0]; rfl
        have RR : Hid (meB l A B = false) := al_stop (i := j) (by rw [HN.out]; exact hlt) (decide_eq_false (by rw [HZ.out, h0]; simp))
        clear h0
        go_wp2_with fail
        go_quiet (fail)
        obtain ⟨wd, hwd⟩ : ∃ V, wr.drewN nq = V := ⟨_, rfl⟩
        have BD : Hid (Below w.heap.size w wd) := by unfold Hid; rw [← hwd]; exact BR.out.trans ((below_drewN _ _).mono BR.out.size)
        rw [hwd]
        clear hwd a1 b1
        go_wp2_with fail
        go_ret
        exact ⟨by rw [RR.out]; rfl, BD.out⟩
      · have g0 : ((z : Int) == 0) = false := by simp; omega
        have NA : Hid (al (fun i => decide (A i &&& B i ≠ 0)) (j + 1) = true) := al_step HALL.out (decide_eq_true (by rw [HZ.out]; exact h0))
        clear h0
        go_wp2_with fail
        go_quiet (fail)
        obtain ⟨wd, hwd⟩ : ∃ V, wr.drewN nq = V := ⟨_, rfl⟩
        have BD : Hid (Below w.heap.size w wd) := by unfold Hid; rw [← hwd]; exact BR.out.trans ((below_drewN _ _).mono BR.out.size)
        rw [hwd]
        clear hwd a1 b1
        go_wp2_with fail
        go_roundw
        case rel => exact ⟨j + 1, by go_num, hlt, NA.out, BD.out⟩
        case measure => simp [intOf]; omega
    · have hlt' : ¬ (j : Int) < (n : Int) := by omega
      have e : j = n := by omega
      have RR : Hid (meB l A B = true) := by unfold Hid meB; rw [HN.out, ← e]; exact hall
      clear hS hall hb hlt e
      go_wp2_with fail
      go_ret
      exact ⟨by rw [RR.out]; rfl, BR.out⟩
end Go.Proofs.YtadfmplafehjlaaDoor
namespace Go.Proofs.YtadfmplafehjlaaDoor
open Go.RowKit Go.WideMaps Go.Maps Go.Shelf

attribute [local go_sem] Oper.semAt_some

set_option maxRecDepth 100000 in
set_option maxHeartbeats 8000000 in
theorem joined_c (A B : Nat → Nat) (K : Nat) (w : World) (hAb : ∀ i, A i < 2 ^ 20) (hBb : ∀ i, B i < 2 ^ 20) (hK : K < 12) :
    Calls Tryd.prog 86 #[bxV A, bxV B, .int .i64 K] w fun e w' => e = .returned (bxV (joB A B K)) ∧ Below w.heap.size w w' := by
  have mixed : Tryd.prog.follows .mixedOrders = true := by kernel_rfl
  obtain ⟨W1, hW1⟩ : ∃ V, w.alloc (.cells #[.int .u64 (A 0), .int .u64 (A 1), .int .u64 (A 2), .int .u64 (A 3), .int .u64 (A 4), .int .u64 (A 5), .int .u64 (A 6), .int .u64 (A 7), .int .u64 (A 8), .int .u64 (A 9), .int .u64 (A 10), .int .u64 (A 11)] 57) = V := ⟨_, rfl⟩
  obtain ⟨W2, hW2⟩ : ∃ V, W1.alloc (.cells #[.int .u64 (B 0), .int .u64 (B 1), .int .u64 (B 2), .int .u64 (B 3), .int .u64 (B 4), .int .u64 (B 5), .int .u64 (B 6), .int .u64 (B 7), .int .u64 (B 8), .int .u64 (B 9), .int .u64 (B 10), .int .u64 (B 11)] 57) = V := ⟨_, rfl⟩
  obtain ⟨W3, hW3⟩ : ∃ V, W2.alloc (.cells #[.int .u64 0, .int .u64 0, .int .u64 0, .int .u64 0, .int .u64 0, .int .u64 0, .int .u64 0, .int .u64 0, .int .u64 0, .int .u64 0, .int .u64 0, .int .u64 0] 57) = V := ⟨_, rfl⟩
  obtain ⟨W4, hW4⟩ : ∃ V, W3.alloc (.cells #[.int .u64 0, .int .u64 0, .int .u64 0, .int .u64 0, .int .u64 0, .int .u64 0, .int .u64 0, .int .u64 0, .int .u64 0, .int .u64 0, .int .u64 0, .int .u64 0] 57) = V := ⟨_, rfl⟩
  obtain ⟨z0, hz0⟩ : ∃ q, w.heap.size = q := ⟨_, rfl⟩
  obtain ⟨z1, hz1⟩ : ∃ q, W1.heap.size = q := ⟨_, rfl⟩
  obtain ⟨z2, hz2⟩ : ∃ q, W2.heap.size = q := ⟨_, rfl⟩
  obtain ⟨z3, hz3⟩ : ∃ q, W3.heap.size = q := ⟨_, rfl⟩
  obtain ⟨W5, hW5⟩ : ∃ V, putB W4 z3 A 12 = V := ⟨_, rfl⟩
  have b1 : Below w.heap.size w W1 := by rw [← hW1]; exact bel_one _ _
  have b2 : Below W1.heap.size W1 W2 := by rw [← hW2]; exact bel_one _ _
  have b3 : Below W2.heap.size W2 W3 := by rw [← hW3]; exact bel_one _ _
  have b4 : Below W3.heap.size W3 W4 := by rw [← hW4]; exact bel_one _ _
  have s1 : z1 = z0 + 1 := by rw [← hz1, ← hW1, ← hz0]; simp
  have s2 : z2 = z1 + 1 := by rw [← hz2, ← hW2, ← hz1]; simp
  have s3 : z3 = z2 + 1 := by rw [← hz3, ← hW3, ← hz2]; simp
  have s4 : W4.heap.size = z3 + 1 := by rw [← hW4, ← hz3]; simp
  have b5 : Below z3 W4 W5 := by rw [← hW5]; exact putB_below (Below.refl _ _) (Nat.le_refl _) A 12
  have a1 : BxAt W1 z0 0 A := by rw [← hW1, ← hz0]; exact bx_made w A
  have a2 : BxAt W2 z1 0 B := by rw [← hW2, ← hz1]; exact bx_made W1 B
  have a3 : BxAt W3 z2 0 (fun _ => 0) := by rw [← hW3, ← hz2]; exact bx_made W2 (fun _ => 0)
  have a4 : BxAt W4 z3 0 (fun _ => 0) := by rw [← hW4, ← hz3]; exact bx_made W3 (fun _ => 0)
  have f3 : ∀ o, W3.frozen? ⟨z2, o, none⟩ = false := fun o => by rw [← hW3, ← hz2]; simp
  have f4 : ∀ o, W4.frozen? ⟨z3, o, none⟩ = false := fun o => by rw [← hW4, ← hz3]; simp
  have X5 : Hid (BxAt W5 z0 0 A ∧ BxAt W5 z1 0 B ∧ BxAt W5 z2 0 (fun _ => 0) ∧ BxAt W5 z3 0 (fun i => if i < 0 then A i &&& B i else A i) ∧ (∀ o, W5.frozen? ⟨z2, o, none⟩ = false) ∧ (∀ o, W5.frozen? ⟨z3, o, none⟩ = false) ∧ Below w.heap.size w W5 ∧ W5.heap.size = z3 + 1) := by
    have c5 : ∀ (V : World) b k v, b < z3 → V.heap.size = b + 1 → Below V.heap.size V W4 → V.cell? ⟨b, k, none⟩ = some v → W5.cell? ⟨b, k, none⟩ = some v := fun V b k v h1 h2 h3 h4 =>
      (b5.cell (p := ⟨b, k, none⟩) h1).trans ((h3.cell (p := ⟨b, k, none⟩) (by rw [h2]; show b < b + 1; omega)).trans h4)
    have g4 : Below W3.heap.size W3 W4 := b4
    have g3 : Below W2.heap.size W2 W4 := b3.trans (b4.mono b3.size)
    have g2 : Below W1.heap.size W1 W4 := b2.trans (g3.mono b2.size)
    have g1 : Below w.heap.size w W4 := b1.trans (g2.mono b1.size)
    have hsz : W5.heap.size = z3 + 1 := by rw [← s4, ← hW5]; simp [putB]
    refine ⟨fun i hi => c5 W1 z0 _ _ (by omega) (by omega) g2 (a1 i hi), fun i hi => c5 W2 z1 _ _ (by omega) (by omega) g3 (a2 i hi), fun i hi => c5 W3 z2 _ _ (by omega) (by omega) g4 (a3 i hi), ?_, fun o => ?_, fun o => ?_, g1.trans (b5.mono (by omega)), hsz⟩
    · have := bx_set12 a4 A
      rw [hW5] at this
      intro i hi
      rw [this i hi]; rfl
    · have h1 := b5.frozen (p := ⟨z2, o, none⟩) (show z2 < z3 by omega)
      rw [h1]
      have h2 := g4.frozen (p := ⟨z2, o, none⟩) (show z2 < W3.heap.size by omega)
      rw [h2]; exact f3 o
    · rw [← hW5]; simp [putB, World.frozen?_setCell]; exact f4 o
  have SZ : Hid (z1 = z0 + 1 ∧ z2 = z1 + 1 ∧ z3 = z2 + 1 ∧ w.heap.size = z0) := ⟨s1, s2, s3, hz0⟩
  have x0 := a1 0 (by decide)
  have x1 := a1 1 (by decide)
  have x2 := a1 2 (by decide)
  have x3 := a1 3 (by decide)
  have x4 := a1 4 (by decide)
  have x5 := a1 5 (by decide)
  have x6 := a1 6 (by decide)
  have x7 := a1 7 (by decide)
  have x8 := a1 8 (by decide)
  have x9 := a1 9 (by decide)
  have x10 := a1 10 (by decide)
  have x11 := a1 11 (by decide)
  simp only [Nat.zero_add] at x0 x1 x2 x3 x4 x5 x6 x7 x8 x9 x10 x11
  have HAB := Lib.hid hAb
  have HBB := Lib.hid hBb
  have X1 := Lib.hid a4
  have F4 := Lib.hid f4
  have HS4 := Lib.hid s4
  have y0 : Hid (BxAt W3 z0 0 A) := by
    unfold Hid
    have g2 : Below W1.heap.size W1 W3 := b2.trans (b3.mono b2.size)
    exact a1.below g2 (by omega)
  have u0 := y0.out 0 (by decide)
  have u1 := y0.out 1 (by decide)
  have u2 := y0.out 2 (by decide)
  have u3 := y0.out 3 (by decide)
  have u4 := y0.out 4 (by decide)
  have u5 := y0.out 5 (by decide)
  have u6 := y0.out 6 (by decide)
  have u7 := y0.out 7 (by decide)
  have u8 := y0.out 8 (by decide)
  have u9 := y0.out 9 (by decide)
  have u10 := y0.out 10 (by decide)
  have u11 := y0.out 11 (by decide)
  simp only [Nat.zero_add] at u0 u1 u2 u3 u4 u5 u6 u7 u8 u9 u10 u11
  have v0 := a4 0 (by decide)
  have v1 := a4 1 (by decide)
  have v2 := a4 2 (by decide)
  have v3 := a4 3 (by decide)
  have v4 := a4 4 (by decide)
  have v5 := a4 5 (by decide)
  have v6 := a4 6 (by decide)
  have v7 := a4 7 (by decide)
  have v8 := a4 8 (by decide)
  have v9 := a4 9 (by decide)
  have v10 := a4 10 (by decide)
  have v11 := a4 11 (by decide)
  simp only [Nat.zero_add] at v0 v1 v2 v3 v4 v5 v6 v7 v8 v9 v10 v11
  simp only [putB] at hW5
  unfold bxV
  have FZ := f4
  clear b1 b2 b3 b4 b5 a1 a2 a3 a4 f3 s1 s2 s3 s4 hAb hBb f4
  go_enter Tryd.func86, Tryd.ntmps86
  go_wp2_with fail
  clear FZ hW1 hW2 hW3 hW4 hW5 X1 F4 HS4 y0
  clear x0 x1 x2 x3 x4 x5 x6 x7 x8 x9 x10 x11 u0 u1 u2 u3 u4 u5 u6 u7 u8 u9 u10 u11 v0 v1 v2 v3 v4 v5 v6 v7 v8 v9 v10 v11
  go_loopw [8, 10] (fun _ iv wr => ∃ j : Nat, iv = .int .i64 j ∧ Hid (j ≤ 12 ∧ BxAt wr z3 0 (fun i => if i < j then A i &&& B i else A i) ∧ Kx (fun b => b = z3) W5 wr ∧ ∀ o, wr.frozen? ⟨z3, o, none⟩ = false)) (fun _ iv _ => 12 - (intOf iv).toNat)
  case atStart => exact ⟨0, rfl, Nat.zero_le _, X5.out.2.2.2.1, Kx.refl _ _, X5.out.2.2.2.2.2.1⟩
  case round =>
    obtain ⟨j, rfl, hS⟩ := hrel
    obtain ⟨hj, hX, hk, hfr⟩ := hS.out
    have HX := Lib.hid hX
    have HK := Lib.hid hk
    have HF := Lib.hid hfr
    by_cases hlt : j < 12
    · have hlt' : (j : Int) < 12 := by omega
      have hj0 : (0 : Int) ≤ (j : Int) := by omega
      have o0 := hX j hlt
      dsimp only at o0
      rw [if_neg (by omega), Nat.zero_add] at o0
      have b0 := hk.cell (p := ⟨z1, 0 + j, none⟩) (X5.out.2.1 j hlt) (by have := SZ.out; show z1 ≠ z3; omega)
      rw [Nat.zero_add] at b0
      have hAi := HAB.out j
      have hBi := HBB.out j
      obtain ⟨y, hy⟩ : ∃ z, A j &&& B j = z := ⟨_, rfl⟩
      have HY := Lib.hid hy
      obtain ⟨x, hx⟩ : ∃ z, A j = z := ⟨_, rfl⟩
      obtain ⟨q, hq⟩ : ∃ z, B j = z := ⟨_, rfl⟩
      rw [hx] at hAi o0 hy
      rw [hq] at hBi b0 hy
      have hand : bits .and .u64 (x : Int) (q : Int) = (y : Int) := by rw [← hy]; exact Go.u64_and_nat _ _ (by omega) (by omega)
      have hf := hfr j
      clear hS hX hk hfr hx hq hy hAi hBi
      go_wp2_with fail
      go_region
      obtain ⟨W9, hW9⟩ : ∃ W, (wr.setCell ⟨z3, j, none⟩ (.int .u64 y)).drew = W := ⟨_, rfl⟩
      have NX : Hid (j + 1 ≤ 12 ∧ BxAt W9 z3 0 (fun i => if i < j + 1 then A i &&& B i else A i) ∧ Kx (fun b => b = z3) W5 W9 ∧ ∀ o, W9.frozen? ⟨z3, o, none⟩ = false) := by
        rw [← hW9]
        refine ⟨hlt, ?_, HK.out.trans ((kx_set (w := wr) (nb := z3) (o := j) (v := .int .u64 y)).trans (Kx.of_below (Below.refl _ _).drew)), fun o => ?_⟩
        · have h1 := HX.out.set (k := j) hlt y
          rw [Nat.zero_add] at h1
          intro i hi
          have h2 := h1 i hi
          show World.cell? (World.setCell _ _ _) _ = _
          rw [h2]
          unfold upd
          dsimp only
          by_cases e : i = j
          · subst e; rw [if_pos rfl, if_pos (by omega), HY.out]
          · rw [if_neg e]
            by_cases q : i < j
            · rw [if_pos q, if_pos (by omega)]
            · rw [if_neg q, if_neg (by omega)]
        · show (World.setCell _ _ _).frozen? _ = _
          rw [World.frozen?_setCell]; exact HF.out o
      rw [hW9]
      clear hW9 o0 b0 hf
      go_wp2_with fail
      go_roundw
      case rel => exact ⟨j + 1, by go_num, NX.out⟩
      case measure => simp [intOf]; omega
    · have hlt' : ¬ (j : Int) < 12 := by omega
      have e : j = 12 := by omega
      subst e
      have hK0 : (0 : Int) ≤ (K : Int) := by omega
      have hK12 : (K : Int) < 12 := by omega
      have hz3 : ∀ b, b < z3 → b ≠ z3 := fun b h e => by omega
      have a0 := hk.cell (p := ⟨z0, 0 + K, none⟩) (X5.out.1 K hK) (by have := SZ.out; show z0 ≠ z3; omega)
      have b0 := hk.cell (p := ⟨z1, 0 + K, none⟩) (X5.out.2.1 K hK) (by have := SZ.out; show z1 ≠ z3; omega)
      rw [Nat.zero_add] at a0 b0
      have hAi := HAB.out K
      have hBi := HBB.out K
      obtain ⟨y, hy⟩ : ∃ z, A K ||| B K = z := ⟨_, rfl⟩
      have HY := Lib.hid hy
      obtain ⟨x, hx⟩ : ∃ z, A K = z := ⟨_, rfl⟩
      obtain ⟨q, hq⟩ : ∃ z, B K = z := ⟨_, rfl⟩
      rw [hx] at hAi a0 hy
      rw [hq] at hBi b0 hy
      have hor : bits .or .u64 (x : Int) (q : Int) = (y : Int) := by rw [← hy]; exact Go.u64_or_nat _ _ (by omega) (by omega)
      have o0 := hX K hK
      rw [Nat.zero_add] at o0
      have hf := hfr K
      clear hS hX hk hfr hx hq hy hAi hBi hlt hj
      go_wp2_with fail
      go_region
      obtain ⟨W9, hW9⟩ : ∃ W, (wr.setCell ⟨z3, K, none⟩ (.int .u64 y)).drew = W := ⟨_, rfl⟩
      obtain ⟨J, hJ⟩ : ∃ J, joB A B K = J := ⟨_, rfl⟩
      have HJ := Lib.hid hJ
      have NX : Hid (BxAt W9 z3 0 J ∧ Kx (fun b => b = z3) W5 W9) := by
        rw [← hW9]
        refine ⟨?_, HK.out.trans ((kx_set (w := wr) (nb := z3) (o := K) (v := .int .u64 y)).trans (Kx.of_below (Below.refl _ _).drew))⟩
        have h1 := HX.out.set (k := K) hK y
        rw [Nat.zero_add] at h1
        intro i hi
        have h2 := h1 i hi
        show World.cell? (World.setCell _ _ _) _ = _
        rw [h2, ← hJ]
        unfold upd joB
        dsimp only
        by_cases e : i = K
        · subst e; rw [if_pos rfl, if_pos rfl, HY.out]
        · rw [if_neg e, if_neg e, if_pos hi]
      rw [hW9]
      have ZZ : BxAt W9 z2 0 (fun _ => 0) := fun i hi => NX.out.2.cell (X5.out.2.2.1 i hi) (by have := SZ.out; show z2 ≠ z3; omega)
      have ZF : ∀ o, W9.frozen? ⟨z2, o, none⟩ = false := fun o => (NX.out.2.frozen (p := ⟨z2, o, none⟩) (by have := SZ.out; have := X5.out.2.2.2.2.2.2.2; show z2 < _; omega) (by have := SZ.out; show z2 ≠ z3; omega)).trans (X5.out.2.2.2.2.1 o)
      obtain ⟨W8, hW8⟩ : ∃ W, putB W9 z2 J 12 = W := ⟨_, rfl⟩
      have RX : BxAt W8 z2 0 J := by rw [← hW8]; exact bx_set12 ZZ J
      have RB : Hid (Below w.heap.size w W8) := by
        unfold Hid; rw [← hW8]
        have := SZ.out
        exact putB_below (X5.out.2.2.2.2.2.2.1.trans (NX.out.2.below (by have := X5.out.2.2.2.2.2.2.2; omega) (fun b e => by omega))) (by omega) J 12
      have XX := NX.out.1
      have m0 := XX 0 (by decide)
      have m1 := XX 1 (by decide)
      have m2 := XX 2 (by decide)
      have m3 := XX 3 (by decide)
      have m4 := XX 4 (by decide)
      have m5 := XX 5 (by decide)
      have m6 := XX 6 (by decide)
      have m7 := XX 7 (by decide)
      have m8 := XX 8 (by decide)
      have m9 := XX 9 (by decide)
      have m10 := XX 10 (by decide)
      have m11 := XX 11 (by decide)
      simp only [Nat.zero_add] at m0 m1 m2 m3 m4 m5 m6 m7 m8 m9 m10 m11
      have t0 := ZZ 0 (by decide)
      have t1 := ZZ 1 (by decide)
      have t2 := ZZ 2 (by decide)
      have t3 := ZZ 3 (by decide)
      have t4 := ZZ 4 (by decide)
      have t5 := ZZ 5 (by decide)
      have t6 := ZZ 6 (by decide)
      have t7 := ZZ 7 (by decide)
      have t8 := ZZ 8 (by decide)
      have t9 := ZZ 9 (by decide)
      have t10 := ZZ 10 (by decide)
      have t11 := ZZ 11 (by decide)
      simp only [Nat.zero_add] at t0 t1 t2 t3 t4 t5 t6 t7 t8 t9 t10 t11
      have r0 := RX 0 (by decide)
      have r1 := RX 1 (by decide)
      have r2 := RX 2 (by decide)
      have r3 := RX 3 (by decide)
      have r4 := RX 4 (by decide)
      have r5 := RX 5 (by decide)
      have r6 := RX 6 (by decide)
      have r7 := RX 7 (by decide)
      have r8 := RX 8 (by decide)
      have r9 := RX 9 (by decide)
      have r10 := RX 10 (by decide)
      have r11 := RX 11 (by decide)
      simp only [Nat.zero_add] at r0 r1 r2 r3 r4 r5 r6 r7 r8 r9 r10 r11

      simp only [putB] at hW8
      clear hJ XX ZZ RX hW9 o0 a0 b0 hf
      go_wp2_with fail
      refine bodyPost_ret (v := bxV J) (by unfold bxV; simp [results, Tryd.results86, go_sem, r0, r1, r2, r3, r4, r5, r6, r7, r8, r9, r10, r11]) rfl ?_
      exact ⟨by rw [HJ.out]; rfl, RB.out⟩
end Go.Proofs.YtadfmplafehjlaaDoor
namespace Go.Proofs.YtadfmplafehjlaaDoor
open Go.RowKit Go.WideMaps Go.Maps Go.Shelf

theorem pss_nth {l : List Fd} {E : List Ed} {n : Nat} (h : n < (pss l E).length) : bxAt (pss l E) n ∈ pss l E := by
  unfold bxAt
  rw [List.getD_eq_getElem?_getD, List.getElem?_eq_getElem h]
  exact List.getElem_mem h
theorem nth_pss {l : List Fd} {E : List Ed} {D : Nat → Nat} (h : D ∈ pss l E) : ∃ n, n < (pss l E).length ∧ bxAt (pss l E) n = D := by
  obtain ⟨n, hn, e⟩ := List.getElem_of_mem h
  exact ⟨n, hn, by unfold bxAt; rw [List.getD_eq_getElem?_getD, List.getElem?_eq_getElem hn]; exact e⟩
/-- A box whose changes are least. -/
def LsC (l : List Fd) (E : List Ed) (r : List Int) (C : Nat → Nat) : Prop := C ∈ pss l E ∧ ∀ D, D ∈ pss l E → smS (csN l) (chB l r C) l.length ≤ smS (csN l) (chB l r D) l.length
theorem ls_box {l : List Fd} {E : List Ed} {r : List Int} {out best : Nat} (h : LsI l (rbx l r) (pss l E) (pss l E).length out best) (h0 : (pss l E).length ≠ 0) : ∃ C, LsC l E r C ∧ out = bz (chB l r C) l.length := by
  rcases h with ⟨e, _⟩ | ⟨m, h1, h2, h3, h4⟩
  · exact absurd e h0
  · refine ⟨bxAt (pss l E) m, ⟨pss_nth h1, fun D hD => ?_⟩, h2⟩
    obtain ⟨n, hn, e⟩ := nth_pss hD
    have := h4 n hn
    rw [h3] at this
    unfold coR at this
    rw [e] at this
    exact this
/-- The outcome of Least. -/
def LeaP (l : List Fd) (E : List Ed) (r : List Int) (w : World) (e : Ending) (w' : World) : Prop :=
  Below w.heap.size w w' ∧ ((frS l E r ≠ 0 ∧ e = .returned (.tuple #[.slice none 0 0, .int .i64 (frS l E r)])) ∨ (frS l E r = 0 ∧ ((pss l E = [] ∧ e = .returned (.tuple #[.slice none 0 0, .int .i64 9])) ∨
    ∃ C a c, LsC l E r C ∧ e = .returned (.tuple #[.slice a (toI (lst (chB l r C) l.length)).length c, .int .i64 0]) ∧ Rd w' a (toI (lst (chB l r C) l.length)))))
set_option maxRecDepth 100000 in
set_option maxHeartbeats 4000000 in
theorem Least_c (a : Option Addr) (c : Nat) (l : List Fd) (a2 : Option Addr) (c2 : Nat) (E : List Ed) (a3 : Option Addr) (c3 : Nat) (r : List Int) (w : World) (hl : RdF w a l) (hE : RdE w a2 E) (hr : Rd w a3 r) (hst : ∀ u, u ∈ l → u.nm.size ≤ 9223372036854775807) (hst2 : ∀ u, u ∈ E → u.nm.size ≤ 9223372036854775807)
    (hT : TabAt 0 Lib.deBruijn64tab w) (ht : 0 < w.heap.size) :
    Calls Tryd.prog 22 #[.agg #[.slice a l.length c, .slice a2 E.length c2], .slice a3 r.length c3] w (LeaP l E r w) := by
  obtain ⟨W1, hW1⟩ : ∃ W, w.alloc (.cells #[.slice a l.length c, .slice a2 E.length c2] 25) = W := ⟨_, rfl⟩
  obtain ⟨W2, hW2⟩ : ∃ W, W1.alloc (.cells #[.slice a3 r.length c3] 26) = W := ⟨_, rfl⟩
  have b1 : Below w.heap.size w W1 := by rw [← hW1]; exact bel_one _ _
  have b2 : Below W1.heap.size W1 W2 := by rw [← hW2]; exact bel_one _ _
  have B2 : Hid (Below w.heap.size w W2) := b1.trans (b2.mono b1.size)
  have l2 : W1.heap.size < W2.heap.size := by rw [← hW2]; simp
  have HZ : Hid (W1.heap.size < W2.heap.size) := l2
  have C := Lib.hid (planFor_c a c l a2 c2 E (some ⟨W1.heap.size, 0, none⟩) 1 [r] W2 (hl.below B2.out) (hE.below B2.out) (rdL_one l2 (by rw [← hW2, World.cell?_alloc_new]; rfl) (hr.below B2.out)) hst hst2 (tab_below hT ht B2.out) (Nat.lt_of_lt_of_le ht B2.out.size))
  have x0 : W1.cell? ⟨w.heap.size, 0, none⟩ = some (.slice a l.length c) := by rw [← hW1, World.cell?_alloc_new]; rfl
  have x1 : W1.cell? ⟨w.heap.size, 1, none⟩ = some (.slice a2 E.length c2) := by rw [← hW1, World.cell?_alloc_new]; rfl
  have y0 : W2.cell? ⟨w.heap.size, 0, none⟩ = some (.slice a l.length c) := by exact (b2.cell (p := ⟨w.heap.size, 0, none⟩) (cellLt x0)).trans x0
  have y1 : W2.cell? ⟨w.heap.size, 1, none⟩ = some (.slice a2 E.length c2) := by exact (b2.cell (p := ⟨w.heap.size, 1, none⟩) (cellLt x1)).trans x1
  have C2 : Hid (∀ p V, PlR V p l E → Ok l E → RecOk l r → Below w.heap.size w V → Calls Tryd.prog 27 #[.pointer (some ⟨p, 0, none⟩), .slice a3 r.length c3] V fun e w' => e = .returned (bxV (rbx l r)) ∧ Below V.heap.size V w') := fun p V h hok hb b =>
    boxOf_c p l E a3 c3 r V h hok.n12 (hr.below b) hb.1 fun j hj => by have := hb.2 j hj; omega
  have C3 : Hid (∀ p V, PlR V p l E → Ok l E → Below w.heap.size w V → Calls Tryd.prog 49 #[.pointer (some ⟨p, 0, none⟩)] V (PsgP l E V)) := fun p V h hok b =>
    passing_c p l E V h hok (tab_below hT ht b) (Nat.lt_of_lt_of_le ht b.size)
  have C5 : Hid (∀ p aa cc V, PlR V p l E → Ok l E → RdX V aa (pss l E) → Calls Tryd.prog 50 #[.pointer (some ⟨p, 0, none⟩), bxV (rbx l r), .slice aa (pss l E).length cc] V (LesP l (rbx l r) (pss l E) V)) := fun p aa cc V h hok hx =>
    least_c p l E (rbx l r) aa cc (pss l E) V h hok hx (fun i hi => Nat.lt_of_lt_of_le (rbx_lt hok r i hi) (Nat.pow_le_pow_right (by omega) (hok.c20 i hi))) (fun n hn i hi => by
      have := pss_bd (pss_nth hn) i hi
      exact Nat.lt_of_lt_of_le this.2 (Nat.pow_le_pow_right (by omega) (hok.c20 i hi)))
  have C6 : Hid (∀ C V, Ok l E → Below w.heap.size w V → Calls Tryd.prog 28 #[.int .u64 (bz (chB l r C) l.length : Nat)] V (NuP (toI (lst (chB l r C) l.length)) V)) := fun C V hok b =>
    numbers_c (chB l r C) l.length V (by have := hok.n12; omega) (tab_below hT ht b) (Nat.lt_of_lt_of_le ht b.size)
  obtain ⟨pl, hpl⟩ : ∃ x, (pss l E).length = x := ⟨_, rfl⟩
  have HPL := Lib.hid hpl
  rw [hpl] at C5
  unfold PsgP at C3
  rw [hpl] at C3
  unfold PfP at C
  rw [pf_one] at C
  obtain ⟨f, hf⟩ : ∃ f, frS l E r = f := ⟨_, rfl⟩
  rw [hf] at C
  have HF := Lib.hid hf
  obtain ⟨n, hn⟩ : ∃ n, l.length = n := ⟨_, rfl⟩
  obtain ⟨m, hm⟩ : ∃ n, E.length = n := ⟨_, rfl⟩
  obtain ⟨k, hk⟩ : ∃ n, r.length = n := ⟨_, rfl⟩
  rw [hn] at C x0 y0 hW1
  rw [hm] at C x1 y1 hW1
  rw [hk] at C2 hW2
  rw [hn, hm, hk]
  clear hl hE hr hst hst2 hT b1 b2 l2 hf hn hm hk hpl
  unfold bxV at C2 C5
  go_enter Tryd.func22, Tryd.ntmps22
  go_wp2_with fail
  refine C.out.mono ?_
  rintro e1 w2 ⟨b2, h2⟩
  have B3 : Hid (Below w.heap.size w w2) := B2.out.trans (b2.mono B2.out.size)
  clear b2 x0 x1 y0 y1 hW1 hW2
  rcases h2 with ⟨h0, rfl⟩ | ⟨h0, hok, p, rfl, hp⟩
  · have g2 : (f != 0) = true := by simpa using h0
    have PP : Hid (LeaP l E r w (.returned (.tuple #[.slice none 0 0, .int .i64 f])) w2) := by
      refine ⟨B3.out, .inl ⟨?_, ?_⟩⟩
      · rw [HF.out]; exact h0
      · rw [HF.out]
    clear C C2 C3 C5 C6 h0
    go_wp2
    go_ret2
    exact PP.out
  · have HB := Lib.hid (fr_ok (HF.out.trans h0)).2
    have HOK := Lib.hid hok
    have HP := Lib.hid hp
    have C4 := Lib.hid (C3.out p w2 hp hok B3.out)
    have H0 := Lib.hid (HF.out.trans h0)
    subst h0
    clear hp hok C C3
    go_wp2_with fail
    refine C4.out.mono ?_
    rintro e1 w4 ⟨b4, pa, pc, rfl, hx⟩
    have B4 := Lib.hid (B3.out.trans (b4.mono B3.out.size))
    have HX := Lib.hid hx
    have P4 := Lib.hid (HP.out.below b4)
    clear C4 b4 hx
    by_cases hz : pl = 0
    · have PP : Hid (LeaP l E r w (.returned (.tuple #[.slice none 0 0, .int .i64 9])) w4) := by
        refine ⟨B4.out, .inr ⟨H0.out, .inl ⟨List.eq_nil_of_length_eq_zero (HPL.out.trans hz), rfl⟩⟩⟩
      have g3 : ((pl : Int) == 0) = true := by rw [hz]; rfl
      clear hz C2 C5 C6
      go_wp2
      go_ret2
      exact PP.out
    · have g3 : ((pl : Int) == 0) = false := by rw [beq_eq_false_iff_ne]; omega
      have HZ := Lib.hid hz
      have C7 := Lib.hid (C2.out p w4 P4.out HOK.out HB.out B4.out)
      clear hz C2
      go_wp2_with fail
      refine C7.out.mono ?_
      rintro e1 w5 ⟨rfl, b5⟩
      have B5 := Lib.hid (B4.out.trans (b5.mono B4.out.size))
      have C8 := Lib.hid (C5.out p pa pc w5 (P4.out.below b5) HOK.out (HX.out.below b5))
      clear C7 b5 C5
      go_wp2_with fail
      refine C8.out.mono ?_
      rintro e1 w6 ⟨b6, out, best, rfl, hls⟩
      have B6 := Lib.hid (B5.out.trans (b6.mono B5.out.size))
      obtain ⟨C, hC, rfl⟩ := ls_box hls (by rw [HPL.out]; exact HZ.out)
      have HC := Lib.hid hC
      have C9 := Lib.hid (C6.out C w6 HOK.out B6.out)
      have HLEN := Lib.hid (lst_le (chB l r C) l.length)
      clear C8 b6 hls hC C6
      obtain ⟨x, hx⟩ : ∃ x, bz (chB l r C) l.length = x := ⟨_, rfl⟩
      rw [hx] at C9 ⊢
      clear hx
      go_wp2_with fail
      refine C9.out.mono ?_
      rintro e1 w7 ⟨v, rfl, hv, b7⟩
      obtain ⟨av, cv, hve, hrd⟩ := rdI_own hv (by rw [toI_len]; have := HLEN.out; have := HOK.out.n12; omega)
      have PP : Hid (LeaP l E r w (.returned (.tuple #[v, .int .i64 0])) w7) := by
        refine ⟨B6.out.trans (b7.mono B6.out.size), .inr ⟨H0.out, .inr ⟨C, av, cv, HC.out, ?_, hrd⟩⟩⟩
        rw [hve]
      clear hv b7 hve hrd C9
      go_wp2
      go_ret2
      exact PP.out
end Go.Proofs.YtadfmplafehjlaaDoor
namespace Go.Proofs.YtadfmplafehjlaaDoor
open Go.RowKit Go.WideMaps Go.Maps Go.Shelf

/-- The codes of field number i that are barred by the first boxes. -/
def brS (l : List Fd) (L : List (Nat → Nat)) (W : Nat → Nat) (i : Nat) : Nat → Nat
  | 0 => 0
  | m + 1 => if meB l W (bxAt L m) = true then brS l L W i m ||| bxAt L m i else brS l L W i m
/-- A box whose first fields are widened. -/
def wdS (l : List Fd) (L : List (Nat → Nat)) (B : Nat → Nat) : Nat → Nat → Nat
  | 0 => B
  | i + 1 => upd (upd (wdS l L B i) i (fuS l i)) i (fuS l i &&& (18446744073709551615 - brS l L (upd (wdS l L B i) i (fuS l i)) i L.length))
section
variable {l : List Fd} {E : List Ed}
theorem br_bit {L : List (Nat → Nat)} {W : Nat → Nat} {i k : Nat} : ∀ m, (brS l L W i m).testBit k = true ↔ ∃ q, q < m ∧ meB l W (bxAt L q) = true ∧ (bxAt L q i).testBit k = true
  | 0 => by simp [brS]
  | m + 1 => by
    unfold brS
    split
    · rename_i h
      rw [Nat.testBit_or, Bool.or_eq_true, br_bit m]
      constructor
      · rintro (⟨q, h1, h2, h3⟩ | h1)
        · exact ⟨q, by omega, h2, h3⟩
        · exact ⟨m, by omega, h, h1⟩
      · rintro ⟨q, h1, h2, h3⟩
        by_cases e : q = m
        · subst e; exact .inr h3
        · exact .inl ⟨q, by omega, h2, h3⟩
    · rename_i h
      rw [br_bit m]
      constructor
      · rintro ⟨q, h1, h2, h3⟩; exact ⟨q, by omega, h2, h3⟩
      · rintro ⟨q, h1, h2, h3⟩
        by_cases e : q = m
        · subst e; exact absurd h2 h
        · exact ⟨q, by omega, h2, h3⟩
theorem br_lt {L : List (Nat → Nat)} {W : Nat → Nat} {i : Nat} {b : Nat} (h : ∀ q, q < L.length → bxAt L q i < 2 ^ b) : ∀ m, m ≤ L.length → brS l L W i m < 2 ^ b
  | 0, _ => Nat.two_pow_pos _
  | m + 1, hm => by
    unfold brS
    split
    · exact Nat.or_lt_two_pow (br_lt h m (by omega)) (h m (by omega))
    · exact br_lt h m (by omega)
theorem p20 (hok : Ok l E) {x i : Nat} (hi : i < l.length) (h : x < 2 ^ (fd l i).cs.length) : x < 2 ^ 20 := Nat.lt_of_lt_of_le h (Nat.pow_le_pow_right (by omega) (hok.c20 i hi))
theorem fu_bit {i k : Nat} (hi : i < l.length) : (fuS l i).testBit k = decide (k < (fd l i).cs.length) := by
  unfold fuS
  rw [if_pos hi, Nat.testBit_two_pow_sub_one]
/-- One field is widened. -/
theorem wd_step (hok : Ok l E) {B : Nat → Nat} {i : Nat} (hi : i < l.length) (hV : Vb l B) (hC : Clo l E B) {W : Nat → Nat} (hW : W = upd B i (fuS l i)) {x : Nat} (hx : x = fuS l i &&& (18446744073709551615 - brS l (pss l E) W i (pss l E).length)) :
    Vb l (upd W i x) ∧ Clo l E (upd W i x) ∧ Wi B (upd W i x) := by
  have hbr : brS l (pss l E) W i (pss l E).length < 2 ^ 20 := br_lt (fun q hq => p20 hok hi (pss_bd (pss_nth hq) i hi).2) _ (Nat.le_refl _)
  have hbit : ∀ k, x.testBit k = (decide (k < (fd l i).cs.length) && !(brS l (pss l E) W i (pss l E).length).testBit k) := fun k => by
    rw [hx]
    by_cases hk : k < 64
    · rcases andNot_bit (fuS l i) (brS l (pss l E) W i (pss l E).length) k hk with q | q
      · rw [q, fu_bit hi]
      · omega
    · have := hok.c20 i hi
      rw [Nat.testBit_and, fu_bit hi, decide_eq_false (by omega), Bool.false_and, Bool.false_and]
  have hlt : x < 2 ^ (fd l i).cs.length := by
    rw [hx]
    exact Nat.lt_of_le_of_lt Nat.and_le_left (fu_lt l i hi)
  have e1 : ∀ j, j ≠ i → upd W i x j = B j := fun j hj => by rw [hW]; unfold upd; rw [if_neg hj, if_neg hj]
  have e2 : upd W i x i = x := by unfold upd; rw [if_pos rfl]
  have eW : ∀ j, j ≠ i → W j = B j := fun j hj => by rw [hW]; unfold upd; rw [if_neg hj]
  have eWi : W i = fuS l i := by rw [hW]; unfold upd; rw [if_pos rfl]
  have hwi : Wi B (upd W i x) := fun j k e => by
    by_cases hj : j = i
    · subst hj
      rw [e2, hbit, decide_eq_true (bit_lt (hV.lt j hi) e), Bool.true_and]
      cases q : (brS l (pss l E) W j (pss l E).length).testBit k with
      | false => rfl
      | true =>
        exfalso
        obtain ⟨m, hm, h1, h2⟩ := (br_bit _).1 q
        have h3 := (clo_iff hok hV.lt).1 hC _ (pss_nth hm)
        have h4 : meB l B (bxAt (pss l E) m) = true := by
          unfold meB at h1 ⊢
          rw [al_iff] at h1 ⊢
          intro a ha
          by_cases ea : a = j
          · subst ea
            exact decide_eq_true (ne_of_bit (k := k) (by rw [Nat.testBit_and, e, h2]; rfl))
          · have := h1 a ha
            rw [eW a ea] at this; exact this
        rw [h3] at h4; cases h4
    · rw [e1 j hj]; exact e
  have hvb : Vb l (upd W i x) := by
    refine ⟨fun j hj => ?_, fun j hj => ?_, fun j hj => ?_⟩
    · obtain ⟨k, hk⟩ := bit_of_ne (hV.ne j hj)
      exact ne_of_bit (hwi j k hk)
    · by_cases e : j = i
      · subst e; rw [e2]; exact hlt
      · rw [e1 j e]; exact hV.lt j hj
    · rw [e1 j (by omega)]; exact hV.out j hj
  refine ⟨hvb, ?_, hwi⟩
  rw [clo_iff hok hvb.lt]
  intro C hCm
  cases q : meB l (upd W i x) C with
  | false => rfl
  | true =>
    exfalso
    unfold meB at q
    rw [al_iff] at q
    have h1 := of_decide_eq_true (q i hi)
    rw [e2] at h1
    obtain ⟨k, hk⟩ := bit_of_ne h1
    rw [Nat.testBit_and, Bool.and_eq_true] at hk
    obtain ⟨m, hm, em⟩ := nth_pss hCm
    have h2 : (brS l (pss l E) W i (pss l E).length).testBit k = true := (br_bit _).2 ⟨m, hm, by
      rw [em]
      unfold meB
      rw [al_iff]
      intro a ha
      by_cases ea : a = i
      · subst ea
        rw [eWi]
        have hkC := bit_lt (pss_bd hCm a ha).2 hk.2
        exact decide_eq_true (ne_of_bit (k := k) (by rw [Nat.testBit_and, fu_bit ha, hk.2, decide_eq_true hkC]; rfl))
      · have := q a ha
        rw [e1 a ea] at this
        rw [eW a ea]; exact this, by rw [em]; exact hk.2⟩
    have h3 := hk.1
    rw [hbit, h2] at h3
    simp at h3
theorem wd_ok (hok : Ok l E) {B : Nat → Nat} (hV : Vb l B) (hC : Clo l E B) : ∀ i, i ≤ l.length → Vb l (wdS l (pss l E) B i) ∧ Clo l E (wdS l (pss l E) B i) ∧ Wi B (wdS l (pss l E) B i)
  | 0, _ => ⟨hV, hC, Wi.refl _⟩
  | i + 1, hi => by
    obtain ⟨h1, h2, h3⟩ := wd_ok hok hV hC i (by omega)
    obtain ⟨g1, g2, g3⟩ := wd_step hok (by omega) h1 h2 (W := upd (wdS l (pss l E) B i) i (fuS l i)) rfl rfl
    exact ⟨g1, g2, h3.trans g3⟩
end
end Go.Proofs.YtadfmplafehjlaaDoor
