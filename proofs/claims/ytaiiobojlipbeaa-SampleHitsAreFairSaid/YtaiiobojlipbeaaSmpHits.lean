/-
  Hits of package sample and of the reference.
-/
import Derived.Test.YtaiiobojlipbeaaSmpOpen
import Derived.Deep.RegionWith
namespace Go.Proofs.Ytaiiobojlipbeaa
open Go.RowKit

theorem mul_bd' {x y A B : Int} (h1 : 0 ≤ x) (h2 : x ≤ A) (h3 : 0 ≤ y) (h4 : y ≤ B) : 0 ≤ x * y ∧ x * y ≤ A * B :=
  ⟨Int.mul_nonneg h1 h3, Int.le_trans (Int.mul_le_mul_of_nonneg_right h2 h3) (Int.mul_le_mul_of_nonneg_left h4 (by omega))⟩
theorem wrap_in' (x : Int) (h1 : -9223372036854775808 ≤ x) (h2 : x ≤ 9223372036854775807) : IntKind.i64.wrap x = x := IntWalk.i64_in _ (by omega)
theorem tdiv_pos {a b : Int} (h : 0 ≤ a) : a.tdiv b = a / b := Int.tdiv_eq_ediv_of_nonneg h

/-- Sizes that are as they must be. -/
def szs (l : List Int) : Prop := ∀ j, j < l.length → 1 ≤ fn l j ∧ fn l j ≤ 5000000000
theorem szs_pre {l : List Int} (h : szs l) (hn : l.length ≤ 5000) (k : Nat) (hk : k ≤ l.length) : 0 ≤ Sm.pre (fn l) k ∧ Sm.pre (fn l) k ≤ Sm.pre (fn l) l.length ∧ Sm.pre (fn l) k ≤ 25000000000000 := by
  have a := Sm.pre_bd (f := fn l) (B := 5000000000) k fun j hj => by have := h j (by omega); omega
  have b := Sm.pre_mono (f := fn l) (n := l.length) (fun j hj => by have := h j hj; omega) hk (Nat.le_refl _)
  omega
theorem szs_sums {l : List Int} (h : szs l) (hn : l.length ≤ 5000) : Sums l := fun k hk => by have := szs_pre h hn k hk; omega

theorem hitsBefore_c (e s m : Int) (w : World) (h1 : 0 ≤ e) (h2 : e ≤ 200000000000000000) (h3 : 0 ≤ s) (h4 : s < m) (h5 : m ≤ 25000000000000) :
    Calls Try.prog 38 #[.int .i64 e, .int .i64 s, .int .i64 m] w fun r w' => r = .returned (.int .i64 (Sm.hb e s m)) ∧ w = w' := by
  by_cases h : e ≤ s
  · have hE : Sm.hb e s m = 0 := by unfold Sm.hb; rw [if_pos h]
    rw [hE]
    clear hE
    go_enter Try.func38, Try.ntmps38
    go_wp2
    go_ret
    exact ⟨rfl, rfl⟩
  · have hE : Sm.hb e s m = (e - s - 1) / m + 1 := by unfold Sm.hb; rw [if_neg h]
    have q0 := Int.ediv_nonneg (a := e - s - 1) (b := m) (by omega) (by omega)
    have q1 := Int.ediv_le_self (a := e - s - 1) m (by omega)
    have q2 : (e - s - 1).tdiv m = (e - s - 1) / m := tdiv_pos (by omega)
    have d : decide (e ≤ s) = false := by simp; omega
    have hm0 : (m == 0) = false := by simp; omega
    rw [hE]
    clear hE
    go_enter Try.func38, Try.ntmps38
    go_wp2
    go_ret
    exact ⟨rfl, rfl⟩

/-- What hitsOf has laid behind k elements. -/
structure InH (w : World) (f : Nat → Int) (n k : Nat) (wr : World) : Prop where
  row : RowF wr w.heap.size n (fun j => if j < k then f j else 0)
  bel : Below w.heap.size w wr
  lt : w.heap.size < wr.heap.size
theorem InH.start (w : World) (f : Nat → Int) (n : Nat) : InH w f n 0 (w.alloc (.cells (madeCells #[.int .i64 0] n) 3)) where
  row := (RowF.made w n 3).congr (fun j _ => by simp)
  bel := (Below.refl _ _).alloc (Nat.le_refl _) _
  lt := by simp
theorem InH.next {w wr : World} {f : Nat → Int} {n k : Nat} (h : InH w f n k wr) : InH w f n (k + 1) (wr.setCell ⟨w.heap.size, k, none⟩ (.int .i64 (f k))) where
  row := by
    refine (h.row.set k _).congr fun j hj => ?_
    by_cases e : j = k
    · subst e; simp
    · rw [if_neg e]
      by_cases l : j < k
      · rw [if_pos l, if_pos (by omega)]
      · rw [if_neg l, if_neg (by omega)]
  bel := h.bel.setCell (p := ⟨w.heap.size, k, none⟩) (Nat.le_refl _) _
  lt := by simpa using h.lt
theorem infoI : (Try.prog.info? 3).map (fun i => (i.zero, i.size, i.bytes)) = some (some (.int .i64 0), 1, 8) := by kernel_rfl
/-- A list that was made. -/
def MadePost (l : List Int) (w : World) (e : Ending) (w' : World) : Prop := ∃ a c, e = .returned (.slice a l.length c) ∧ Rd w' a l ∧ Below w.heap.size w w' ∧ ∀ ad, a = some ad → 0 < l.length → w.heap.size ≤ ad.block

set_option maxHeartbeats 2000000 in
theorem hitsOf_c (a : Option Addr) (c : Nat) (l : List Int) (t : Nat) (s : Int) (w : World) (h : Rd w a l) (hn : l.length ≤ 5000) (hl : szs l) (ht : t ≤ 5000) (hs : 0 ≤ s) (hsm : s < Sm.pre (fn l) l.length) :
    Calls Try.prog 24 #[.slice a l.length c, .int .i64 t, .int .i64 s] w (MadePost (tab (Sm.hit (fn l) l.length t s) l.length) w) := by
  have hmk := run_make_row' (P := Try.prog) 22 3 (.int .i64 0) 8 Try.underlying22 infoI rfl .i64 .i64 l.length (by omega) (by omega)
  have H := Lib.hid h
  have HL := Lib.hid hl
  have HS := Lib.hid (szs_sums hl hn)
  clear h hl
  go_enter Try.func24, Try.ntmps24
  go_wp2_with fail
  have hS := Lib.hid (InH.start w (Sm.hit (fn l) l.length t s) l.length)
  generalize w.alloc (.cells (madeCells #[.int .i64 0] l.length) 3) = w2 at hS
  clear hmk
  go_wp2_with fail
  refine (sumOf_c a c l _ (H.out.below hS.out.bel) HS.out).mono ?_
  rintro e w' ⟨rfl, rfl⟩
  go_wp2_with fail
  have M3 := szs_pre HL.out hn l.length (Nat.le_refl _)
  obtain ⟨m1, _, m3⟩ := M3
  obtain ⟨M, hM⟩ : ∃ M, M = Sm.pre (fn l) l.length := ⟨_, rfl⟩
  rw [← hM] at m1 m3 hsm
  rw [← hM]
  have HM := Lib.hid hM
  clear hM
  go_loopw [9, 10, 11, 12, 13, 21] (fun ah kn _ _ _ i wr => ∃ k : Nat, k ≤ l.length ∧ i = .int .i64 k ∧ ah = .int .i64 (Sm.pre (fn l) k) ∧ kn = .int .i64 (Sm.hb (t * Sm.pre (fn l) k) s M) ∧ Hid (InH w (Sm.hit (fn l) l.length t s) l.length k wr)) (fun _ _ _ _ _ i _ => l.length - (intOf i).toNat)
  case atStart => exact ⟨0, Nat.zero_le _, rfl, rfl, by simp [Sm.pre, Sm.hb_zero hs], hS.out⟩
  case round =>
    clear hS
    obtain ⟨k, hk, rfl, rfl, rfl, hI⟩ := hrel
    by_cases hlt : k < l.length
    · obtain ⟨b, off, rfl, hc⟩ := (H.out.below hI.out.bel).at_ hlt
      have p1 := szs_pre HL.out hn k hk
      have p2 := szs_pre HL.out hn (k + 1) hlt
      have fr := (hI.out.row k hlt).2
      have cr := (hI.out.row k hlt).1
      have mb := mul_bd' (show (0 : Int) ≤ (t : Int) by omega) (show (t : Int) ≤ 5000 by omega) p2.1 p2.2.2
      have ka := Sm.hb_nonneg ((t : Int) * Sm.pre (fn l) k) s M (by omega)
      have kb := Sm.hb_nonneg ((t : Int) * Sm.pre (fn l) (k + 1)) s M (by omega)
      have mm := mul_bd' (show (0 : Int) ≤ (t : Int) by omega) (show (t : Int) ≤ 5000 by omega) p1.1 p1.2.2
      have tm1 : (t : Int) * Sm.pre (fn l) k ≤ (t : Int) * M := Int.mul_le_mul_of_nonneg_left (by rw [HM.out]; exact p1.2.1) (by omega)
      have tm2 : (t : Int) * Sm.pre (fn l) (k + 1) ≤ (t : Int) * M := Int.mul_le_mul_of_nonneg_left (by rw [HM.out]; exact p2.2.1) (by omega)
      have kc := Sm.hb_le t (show 0 < M by omega) hs tm1
      have kd := Sm.hb_le t (show 0 < M by omega) hs tm2
      have hcall := Lib.hid (fun w => hitsBefore_c ((t : Int) * Sm.pre (fn l) (k + 1)) s M w mb.1 (by omega) hs (by omega) (by omega))
      have hN := Lib.hid hI.out.next
      have hE : Hid (Sm.hit (fn l) l.length t s k = Sm.hb ((t : Int) * Sm.pre (fn l) (k + 1)) s M - Sm.hb ((t : Int) * Sm.pre (fn l) k) s M) := by rw [HM.out]; rfl
      simp only [if_neg (Nat.lt_irrefl k)] at cr
      rw [hE.out] at hN
      have hP := Lib.hid (Sm.pre_succ (fn l) k)
      rw [hP.out] at mb hcall p2 hN kb kd
      clear hI hE H tm1 tm2 mm
      have hlt' : (k : Int) < (l.length : Int) := by omega
      generalize hS : Sm.pre (fn l) k = S at *
      generalize hX : fn l k = x at *
      have wm := wrap_in' ((t : Int) * (S + x)) (by omega) (by omega)
      generalize hK1 : Sm.hb ((t : Int) * (S + x)) s M = u at *
      generalize hK2 : Sm.hb ((t : Int) * S) s M = v at *
      have HH := Lib.hid hS
      have HX := Lib.hid hX
      have HK1 := Lib.hid hK1
      clear hS hX hK1 hK2 HL HS mb
      have wd := wrap_in' (u - v) (by omega) (by omega)
      go_wp2_with (go_at_call 38; refine (hcall.out _).mono ?_; rintro e w' ⟨rfl, rfl⟩)
      go_roundw
      case rel => exact ⟨k + 1, by omega, by go_num, by rw [hP.out], by rw [hP.out, HK1.out], hN.out⟩
      case measure => simp [intOf]; omega
    · obtain rfl : k = l.length := by omega
      go_wp2
      go_ret
      refine ⟨some ⟨w.heap.size, 0, none⟩, l.length, ?_, ?_, hI.out.bel, fun ad e _ => by injection e with e; subst e; exact Nat.le_refl _⟩
      · rw [tab_len]; rfl
      · exact (hI.out.row.congr fun j hj => if_pos hj).rd (by omega) hI.out.lt


def QFault (n : Int) (w : World) (e : Ending) (w' : World) : Prop := e = .returned (.tuple #[.slice none 0 0, .int .i64 n]) ∧ w = w'
def ListPost5 (l : List Int) (w : World) (e : Ending) (w' : World) : Prop := ∃ a c, e = .returned (.tuple #[.slice a l.length c, .int .i64 0]) ∧ Rd w' a l ∧ Below w.heap.size w w' ∧ ∀ ad, a = some ad → 0 < l.length → w.heap.size ≤ ad.block

set_option maxHeartbeats 1000000 in
theorem Hits_long (a : Option Addr) (c n : Nat) (t s : Int) (w : World) (hn : 5000 < n) (hm : n ≤ 9223372036854775807) :
    Calls Try.prog 11 #[.slice a n c, .int .i64 t, .int .i64 s] w (QFault 2 w) := by
  go_enter Try.func11, Try.ntmps11
  go_wp2
  go_ret2
  exact ⟨rfl, rfl⟩
set_option maxHeartbeats 1000000 in
theorem Hits_bad (a : Option Addr) (c : Nat) (l : List Int) (t s : Int) (w : World) (h : Rd w a l) (hn : l.length ≤ 5000) (hb : ¬ szs l) :
    Calls Try.prog 11 #[.slice a l.length c, .int .i64 t, .int .i64 s] w (QFault 1 w) := by
  have H := Lib.hid h
  have HB := Lib.hid hb
  clear h hb
  go_enter Try.func11, Try.ntmps11
  go_wp2
  go_loop [9, 15] (fun _ i => ∃ k : Nat, k ≤ l.length ∧ i = .int .i64 k ∧ Hid (∀ j, j < k → 1 ≤ fn l j ∧ fn l j ≤ 5000000000)) (fun _ i => l.length - (intOf i).toNat)
  case atStart => exact ⟨0, Nat.zero_le _, rfl, fun j hj => absurd hj (Nat.not_lt_zero _)⟩
  case round =>
    obtain ⟨k, hk, rfl, hG⟩ := hrel
    by_cases hlt : k < l.length
    · obtain ⟨b, off, rfl, hc⟩ := H.out.at_ hlt
      have hlt' : (k : Int) < (l.length : Int) := by omega
      have hN : Hid ((1 ≤ fn l k ∧ fn l k ≤ 5000000000) → ∀ j, j < k + 1 → 1 ≤ fn l j ∧ fn l j ≤ 5000000000) := fun g j hj => by
        by_cases e : j = k
        · subst e; exact g
        · exact hG.out j (by omega)
      clear hG
      generalize fn l k = x at hc hN
      by_cases g1 : x < 1
      · have d1 : decide (x < 1) = true := by simp; omega
        go_wp2
        go_ret2
        exact ⟨rfl, rfl⟩
      · have d1 : decide (x < 1) = false := by simp; omega
        by_cases g2 : 5000000000 < x
        · have d2 : decide (5000000000 < x) = true := by simp; omega
          go_wp2
          go_ret2
          exact ⟨rfl, rfl⟩
        · have d2 : decide (5000000000 < x) = false := by simp; omega
          have hN' := Lib.hid (hN.out (by omega))
          clear hN
          go_wp2
          go_round
          case rel => exact ⟨k + 1, by omega, by go_num, hN'.out⟩
          case measure => simp [intOf]; omega
    · obtain rfl : k = l.length := by omega
      exact absurd hG.out HB.out
set_option maxHeartbeats 1000000 in
theorem Hits_out (a : Option Addr) (c : Nat) (l : List Int) (t s : Int) (w : World) (h : Rd w a l) (hn : l.length ≤ 5000) (hl : szs l) (hb : t < 0 ∨ (0 ≤ t ∧ 5000 < t) ∨ (0 ≤ t ∧ t ≤ 5000 ∧ s < 0) ∨ (0 ≤ t ∧ t ≤ 5000 ∧ 0 ≤ s ∧ Sm.pre (fn l) l.length ≤ s)) :
    Calls Try.prog 11 #[.slice a l.length c, .int .i64 t, .int .i64 s] w (QFault 1 w) := by
  have H := Lib.hid h
  have HL := Lib.hid hl
  have HB := Lib.hid hb
  have HS := Lib.hid (szs_sums hl hn)
  clear h hb hl
  go_enter Try.func11, Try.ntmps11
  go_wp2
  go_loop [9, 15] (fun _ i => ∃ k : Nat, k ≤ l.length ∧ i = .int .i64 k) (fun _ i => l.length - (intOf i).toNat)
  case atStart => exact ⟨0, Nat.zero_le _, rfl⟩
  case round =>
    obtain ⟨k, hk, rfl⟩ := hrel
    by_cases hlt : k < l.length
    · obtain ⟨b, off, rfl, hc⟩ := H.out.at_ hlt
      have hlt' : (k : Int) < (l.length : Int) := by omega
      have g := HL.out k hlt
      generalize fn l k = x at hc g
      have d1 : decide (x < 1) = false := by simp; omega
      have d2 : decide (5000000000 < x) = false := by simp; omega
      go_wp2
      go_round
      case rel => exact ⟨k + 1, by omega, by go_num⟩
      case measure => simp [intOf]; omega
    · obtain rfl : k = l.length := by omega
      have hsum := Lib.hid (sumOf_c a c l w H.out HS.out)
      have sb := HS.out l.length (Nat.le_refl _)
      have hb := HB.out
      clear HB HL HS H
      generalize Sm.pre (fn l) l.length = M at *
      rcases hb with g1 | ⟨g1, g2⟩ | ⟨g1, g2, g3⟩ | ⟨g1, g2, g3, g4⟩
      · have d1 : decide (t < 0) = true := by simp; omega
        go_wp2
        go_ret2
        exact ⟨rfl, rfl⟩
      · have d1 : decide (t < 0) = false := by simp; omega
        have d2 : decide (5000 < t) = true := by simp; omega
        go_wp2
        go_ret2
        exact ⟨rfl, rfl⟩
      · have d1 : decide (t < 0) = false := by simp; omega
        have d2 : decide (5000 < t) = false := by simp; omega
        have d3 : decide (s < 0) = true := by simp; omega
        go_wp2
        go_ret2
        exact ⟨rfl, rfl⟩
      · have d1 : decide (t < 0) = false := by simp; omega
        have d2 : decide (5000 < t) = false := by simp; omega
        have d3 : decide (s < 0) = false := by simp; omega
        have d4 : decide (M ≤ s) = true := by simp; omega
        go_wp2_with fail
        refine hsum.out.mono ?_
        rintro e w' ⟨rfl, rfl⟩
        go_wp2
        go_ret2
        exact ⟨rfl, rfl⟩
set_option maxHeartbeats 1000000 in
theorem Hits_yes (a : Option Addr) (c : Nat) (l : List Int) (t : Nat) (s : Int) (w : World) (h : Rd w a l) (hn : l.length ≤ 5000) (hl : szs l) (ht : t ≤ 5000) (hs : 0 ≤ s) (hsm : s < Sm.pre (fn l) l.length) :
    Calls Try.prog 11 #[.slice a l.length c, .int .i64 t, .int .i64 s] w (ListPost5 (tab (Sm.hit (fn l) l.length t s) l.length) w) := by
  have hcall := Lib.hid (hitsOf_c a c l t s w h hn hl ht hs hsm)
  have H := Lib.hid h
  have HL := Lib.hid hl
  have HS := Lib.hid (szs_sums hl hn)
  clear h hl
  go_enter Try.func11, Try.ntmps11
  go_wp2
  go_loop [9, 15] (fun _ i => ∃ k : Nat, k ≤ l.length ∧ i = .int .i64 k) (fun _ i => l.length - (intOf i).toNat)
  case atStart => exact ⟨0, Nat.zero_le _, rfl⟩
  case round =>
    obtain ⟨k, hk, rfl⟩ := hrel
    by_cases hlt : k < l.length
    · obtain ⟨b, off, rfl, hc⟩ := H.out.at_ hlt
      have hlt' : (k : Int) < (l.length : Int) := by omega
      have g := HL.out k hlt
      generalize fn l k = x at hc g
      have d1 : decide (x < 1) = false := by simp; omega
      have d2 : decide (5000000000 < x) = false := by simp; omega
      clear hcall
      go_wp2
      go_round
      case rel => exact ⟨k + 1, by omega, by go_num⟩
      case measure => simp [intOf]; omega
    · obtain rfl : k = l.length := by omega
      have hsum := Lib.hid (sumOf_c a c l w H.out HS.out)
      have sb := HS.out l.length (Nat.le_refl _)
      have d1 : decide ((t : Int) < 0) = false := by simp
      have d2 : decide (5000 < (t : Int)) = false := by simp; omega
      have d3 : decide (s < 0) = false := by simp; omega
      have d4 : decide (Sm.pre (fn l) l.length ≤ s) = false := by simp; omega
      clear HL HS H
      go_wp2_with fail
      refine hsum.out.mono ?_
      rintro e w' ⟨rfl, rfl⟩
      clear hsum
      go_wp2_with fail
      refine hcall.out.mono ?_
      rintro e w1 ⟨a1, c1, rfl, h1, b1, f1⟩
      have H1 := Lib.hid h1
      have B1 := Lib.hid b1
      have F1 := Lib.hid f1
      clear h1 b1 f1 hcall
      go_wp2
      go_ret2
      exact ⟨a1, c1, rfl, H1.out, B1.out, F1.out⟩

end Go.Proofs.Ytaiiobojlipbeaa
