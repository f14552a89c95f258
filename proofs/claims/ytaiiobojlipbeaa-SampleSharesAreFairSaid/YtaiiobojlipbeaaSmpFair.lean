/-
  SampleSharesAreFair: the law's walk.
-/
import Derived.Test.YtaiiobojlipbeaaSmpAlloc
namespace Go.Proofs.Ytaiiobojlipbeaa
open Go.RowKit

def TruePost (w : World) (e : Ending) (w' : World) : Prop := e = .returned (.bool true) ∧ Below w.heap.size w w'
set_option maxHeartbeats 1000000 in
theorem fair_no (a1 a2 a3 : Option Addr) (c1 c2 c3 n1 n2 n3 : Nat) (T f : Int) (w : World) (hf : f = 1 ∨ f = 2 ∨ f = 3 ∨ f = 15)
    (hc : Calls Try.prog 8 #[.slice a1 n1 c1, .slice a2 n2 c2, .slice a3 n3 c3, .int .i64 T] w (QuietFault f w)) :
    Calls Try.prog 4 #[.slice a1 n1 c1, .slice a2 n2 c2, .slice a3 n3 c3, .int .i64 T] w (TruePost w) := by
  rcases hf with rfl | rfl | rfl | rfl
  all_goals
    have HC := Lib.hid hc
    clear hc
    go_enter Try.func4, Try.ntmps4
    go_wp2_with fail
    refine HC.out.mono ?_
    rintro e w' ⟨rfl, m, rfl⟩
    go_wp2
    go_ret
    exact ⟨rfl, below_drew _ _⟩

/-- What the law asks of the numbers. -/
structure Fine (W L M N : Nat → Int) (n : Nat) (T : Int) : Prop where
  gd : ∀ j, j < n → good W L M j
  lo : ∀ j, j < n → L j ≤ N j
  hi : ∀ j, j < n → N j ≤ M j
  fair : ∀ i k, i < n → k < n → i ≠ k → L i < N i → N k < M k → W k * (2 * N i - 1) ≤ W i * (2 * N k + 1)
  sum : Sm.pre N n = T
set_option maxRecDepth 100000 in
set_option maxHeartbeats 4000000 in
theorem fair_yes (a1 a2 a3 : Option Addr) (c1 c2 c3 : Nat) (l1 l2 l3 l4 : List Int) (T : Int) (w : World) (h1 : Rd w a1 l1) (h2 : Rd w a2 l2) (h3 : Rd w a3 l3) (e2 : l1.length = l2.length) (e3 : l1.length = l3.length) (e4 : l1.length = l4.length) (hn : l1.length ≤ 40)
    (hF : Fine (fn l1) (fn l2) (fn l3) (fn l4) l1.length T)
    (hc : Calls Try.prog 8 #[.slice a1 l1.length c1, .slice a2 l2.length c2, .slice a3 l3.length c3, .int .i64 T] w (ListPost l4 w)) :
    Calls Try.prog 4 #[.slice a1 l1.length c1, .slice a2 l2.length c2, .slice a3 l3.length c3, .int .i64 T] w (TruePost w) := by
  have HC := Lib.hid hc
  have H1 := Lib.hid h1
  have H2 := Lib.hid h2
  have H3 := Lib.hid h3
  have F := Lib.hid hF
  have E2 := Lib.hid e2
  have E3 := Lib.hid e3
  have E4 := Lib.hid e4
  have hps : ∀ j, j ≤ l1.length → 0 ≤ Sm.pre (fn l4) j ∧ Sm.pre (fn l4) j ≤ 200000 := fun j hj => by
    have a := Sm.pre_bd (f := fn l4) (B := 5000) j fun i hi => by
      have a := hF.gd i (by omega)
      have b := hF.lo i (by omega)
      have c := hF.hi i (by omega)
      unfold good at a
      omega
    omega
  have HP := Lib.hid hps
  clear h1 h2 h3 e2 e3 e4 hF hc hps
  go_enter Try.func4, Try.ntmps4
  go_wp2_with fail
  refine HC.out.mono ?_
  rintro e w1 ⟨a4, c4, rfl, hr4, hb4⟩
  have R1 := Lib.hid (H1.out.below hb4)
  have R2 := Lib.hid (H2.out.below hb4)
  have R3 := Lib.hid (H3.out.below hb4)
  have R4 := Lib.hid hr4
  have B4 := Lib.hid hb4
  clear H1 H2 H3 HC hr4 hb4
  rw [← E2.out, ← E3.out, ← E4.out]
  go_wp2_with fail
  go_loopw [11, 12, 13, 14, 15, 31] (fun s _ _ _ _ i wr => ∃ k : Nat, k ≤ l1.length ∧ i = .int .i64 k ∧ s = .int .i64 (Sm.pre (fn l4) k) ∧ Hid (∃ m, wr = w1.drewN m)) (fun _ _ _ _ _ i _ => l1.length - (intOf i).toNat)
  case atStart => exact ⟨0, Nat.zero_le _, rfl, rfl, 0, rfl⟩
  case round =>
    obtain ⟨i, hi, rfl, rfl, hD⟩ := hrel
    by_cases hlt : i < l1.length
    · obtain ⟨b1, o1, rfl, _, q1⟩ := R1.out.2 (by omega)
      obtain ⟨b2, o2, rfl, _, q2⟩ := R2.out.2 (show 0 < l2.length by rw [← E2.out]; omega)
      obtain ⟨b3, o3, rfl, _, q3⟩ := R3.out.2 (show 0 < l3.length by rw [← E3.out]; omega)
      obtain ⟨b4, o4, rfl, _, q4⟩ := R4.out.2 (show 0 < l4.length by rw [← E4.out]; omega)
      have q1' : Hid (∀ m j, j < l1.length → (w1.drewN m).cell? ⟨b1, o1 + j, none⟩ = some (.int .i64 (fn l1 j))) := fun m j hj => q1 j hj
      have q2' : Hid (∀ m j, j < l1.length → (w1.drewN m).cell? ⟨b2, o2 + j, none⟩ = some (.int .i64 (fn l2 j))) := fun m j hj => q2 j (by rw [← E2.out]; exact hj)
      have q3' : Hid (∀ m j, j < l1.length → (w1.drewN m).cell? ⟨b3, o3 + j, none⟩ = some (.int .i64 (fn l3 j))) := fun m j hj => q3 j (by rw [← E3.out]; exact hj)
      have q4' : Hid (∀ m j, j < l1.length → (w1.drewN m).cell? ⟨b4, o4 + j, none⟩ = some (.int .i64 (fn l4 j))) := fun m j hj => q4 j (by rw [← E4.out]; exact hj)
      clear q1 q2 q3 q4 R1 R2 R3 R4
      have r2 : wr.cell? ⟨b2, o2 + i, none⟩ = some (.int .i64 (fn l2 i)) := by obtain ⟨m0, e⟩ := hD.out; rw [e]; exact q2'.out m0 i hlt
      have r3 : wr.cell? ⟨b3, o3 + i, none⟩ = some (.int .i64 (fn l3 i)) := by obtain ⟨m0, e⟩ := hD.out; rw [e]; exact q3'.out m0 i hlt
      have r4 : wr.cell? ⟨b4, o4 + i, none⟩ = some (.int .i64 (fn l4 i)) := by obtain ⟨m0, e⟩ := hD.out; rw [e]; exact q4'.out m0 i hlt
      have gi := F.out.gd i hlt
      unfold good at gi
      obtain ⟨g1, g2, g3, g4, g5⟩ := gi
      have loi := F.out.lo i hlt
      have hii := F.out.hi i hlt
      have p1 := HP.out i hi
      have p2 := HP.out (i + 1) hlt
      rw [Sm.pre_succ] at p2
      have hN := Lib.hid (Sm.pre_succ (fn l4) i)
      have hfair := Lib.hid (fun k => F.out.fair i k hlt)
      have hlt' : (i : Int) < (l1.length : Int) := by omega
      generalize Sm.pre (fn l4) i = s at p1 p2 hN
      obtain ⟨x, hx⟩ : ∃ x, x = fn l4 i := ⟨_, rfl⟩
      rw [← hx] at r4 loi hii p2 hN hfair
      have HX := Lib.hid hx
      clear hx
      have r2' : ∀ m, (w1.drewN m).cell? ⟨b2, o2 + i, none⟩ = some (.int .i64 (fn l2 i)) := fun m => q2'.out m i hlt
      generalize fn l2 i = y at r2 r2' loi hfair g3 g4
      have R2' := Lib.hid r2'
      clear r2'
      generalize fn l3 i = z at r3 hii g4 g5
      have d1 : decide (x < y) = false := by simp; omega
      have d2 : decide (z < x) = false := by simp; omega
      go_wp2_with fail
      obtain ⟨wo, hwo⟩ : ∃ wo : World, wo = wr := ⟨_, rfl⟩
      have HWO := Lib.hid hwo
      clear hwo
      go_loopw [14, 15, 55] (fun _ _ ix wk => ∃ k : Nat, k ≤ l1.length ∧ ix = .int .i64 k ∧ Hid (∃ m, wk = w1.drewN m)) (fun _ _ ix _ => l1.length - (intOf ix).toNat)
      case atStart => exact ⟨0, Nat.zero_le _, rfl, hD.out⟩
      case round =>
        obtain ⟨k, hk, rfl, hE⟩ := hrel
        have hE' : Hid (∀ j, ∃ m, wr.drewN j = w1.drewN m) := fun j => by obtain ⟨m0, e⟩ := hE.out; exact ⟨_, by rw [e, drewN_drewN]⟩
        by_cases hltk : k < l1.length
        · have s1 : wr.cell? ⟨b1, o1 + k, none⟩ = some (.int .i64 (fn l1 k)) := by obtain ⟨m0, e⟩ := hE.out; rw [e]; exact q1'.out m0 k hltk
          have s3 : wr.cell? ⟨b3, o3 + k, none⟩ = some (.int .i64 (fn l3 k)) := by obtain ⟨m0, e⟩ := hE.out; rw [e]; exact q3'.out m0 k hltk
          have s4 : wr.cell? ⟨b4, o4 + k, none⟩ = some (.int .i64 (fn l4 k)) := by obtain ⟨m0, e⟩ := hE.out; rw [e]; exact q4'.out m0 k hltk
          have t1 : wr.cell? ⟨b1, o1 + i, none⟩ = some (.int .i64 (fn l1 i)) := by obtain ⟨m0, e⟩ := hE.out; rw [e]; exact q1'.out m0 i hlt
          have t2 : wr.cell? ⟨b2, o2 + i, none⟩ = some (.int .i64 y) := by obtain ⟨m0, e⟩ := hE.out; rw [e]; exact R2'.out m0
          have gk := F.out.gd k hltk
          unfold good at gk
          obtain ⟨k1, k2, k3, k4, k5⟩ := gk
          have lok := F.out.lo k hltk
          have hik := F.out.hi k hltk
          have hltk' : (k : Int) < (l1.length : Int) := by omega
          clear r2 r3 r4
          by_cases hne : i = k
          · subst hne
            clear hfair
            generalize fn l4 i = m at s4
            generalize fn l1 i = u at s1
            go_wp2
            go_quiet (fail)
            go_wp2
            go_roundw
            case rel => exact ⟨i + 1, by omega, by go_num, hE'.out _⟩
            case measure => simp [intOf]; omega
          · have n1 : ((i : Int) == (k : Int)) = false := by simp; omega
            have n2 : ((i : Int) != (k : Int)) = true := by simp; omega
            have hf := Lib.hid (hfair.out k hltk hne)
            clear hfair hne
            generalize fn l4 k = m at *
            generalize fn l1 k = u at *
            generalize fn l3 k = q at *
            generalize fn l1 i = v at *
            by_cases c1 : y < x
            · have d3 : decide (y < x) = true := by simp; omega
              by_cases c2 : m < q
              · have d4 : decide (m < q) = true := by simp; omega
                have c3 := hf.out c1 c2
                have m1 := mul_bd k1 k2 (show (0 : Int) ≤ 2 * x - 1 by omega) (show 2 * x - 1 ≤ 10001 by omega)
                have m2 := mul_bd g1 g2 (show (0 : Int) ≤ 2 * m + 1 by omega) (show 2 * m + 1 ≤ 10001 by omega)
                have z1 := wrap_in (2 * x) (by omega) (by omega)
                have z2 := wrap_in (2 * x - 1) (by omega) (by omega)
                have z3 := wrap_in (u * (2 * x - 1)) (by omega) (by omega)
                have z4 := wrap_in (2 * m) (by omega) (by omega)
                have z5 := wrap_in (2 * m + 1) (by omega) (by omega)
                have z6 := wrap_in (v * (2 * m + 1)) (by omega) (by omega)
                have d5 : decide (v * (2 * m + 1) < u * (2 * x - 1)) = false := by simp only [decide_eq_false_iff_not]; omega
                clear c3 m1 m2 hf
                go_wp2
                go_quiet (fail)
                go_wp2
                go_roundw
                case rel => exact ⟨k + 1, by omega, by go_num, hE'.out _⟩
                case measure => simp [intOf]; omega
              · have d4 : decide (m < q) = false := by simp; omega
                clear hf
                go_wp2
                go_quiet (fail)
                go_wp2
                go_roundw
                case rel => exact ⟨k + 1, by omega, by go_num, hE'.out _⟩
                case measure => simp [intOf]; omega
            · have d3 : decide (y < x) = false := by simp; omega
              clear hf
              go_wp2
              go_quiet (fail)
              go_wp2
              go_roundw
              case rel => exact ⟨k + 1, by omega, by go_num, hE'.out _⟩
              case measure => simp [intOf]; omega
        · obtain rfl : k = l1.length := by omega
          clear r2 r3 r4
          go_wp2
          go_roundw
          case rel => exact ⟨i + 1, by omega, by go_num, by rw [hN.out], hE.out⟩
          case measure => simp [intOf]; omega
    · obtain rfl : i = l1.length := by omega
      have hsum := F.out.sum
      rw [hsum]
      clear hsum
      go_wp2
      go_ret
      exact ⟨rfl, by obtain ⟨m, e⟩ := hD.out; rw [e]; exact below_drewN B4.out _⟩
end Go.Proofs.Ytaiiobojlipbeaa
