/-
  SampleHitsAreFair: the law's walk.
-/
import Derived.Test.YtaiiobojlipbeaaSmpHits
namespace Go.Proofs.Ytaiiobojlipbeaa
open Go.RowKit

theorem pre_ge {f : Nat → Int} (n : Nat) (h : ∀ j, j < n → 1 ≤ f j) : (n : Int) ≤ Sm.pre f n := by
  induction n with
  | zero => simp [Sm.pre]
  | succ n ih =>
    have a := ih fun j hj => h j (by omega)
    have b := h n (by omega)
    rw [Sm.pre_succ]; omega
/-- Sizes of which the law speaks. -/
def small (l : List Int) : Prop := ∀ j, j < l.length → 1 ≤ fn l j ∧ fn l j ≤ 1000
/-- What the law has counted: a row of the law's own. -/
structure InC (w : World) (g n : Nat) (f : Nat → Int) (wr : World) : Prop where
  row : RowF wr g n f
  bel : Below w.heap.size w wr
  own : w.heap.size ≤ g
  lt : g < wr.heap.size
/-- While the hits of one start are added. -/
structure InD (w w1 : World) (g n : Nat) (A h : Nat → Int) (i : Nat) (wr : World) : Prop where
  row : RowF wr g n (fun j => if j < i then A j + h j else A j)
  oth : ∀ p : Addr, p.block ≠ g → wr.cell? p = w1.cell? p
  bel : Below w.heap.size w wr
  own : w.heap.size ≤ g
  lt : g < wr.heap.size
theorem InD.next {w w1 wr : World} {g n : Nat} {A h : Nat → Int} {i : Nat} (H : InD w w1 g n A h i wr) : InD w w1 g n A h (i + 1) (wr.setCell ⟨g, i, none⟩ (.int .i64 (A i + h i))) where
  row := by
    refine (H.row.set i _).congr fun j hj => ?_
    by_cases e : j = i
    · subst e; simp
    · rw [if_neg e]
      by_cases l : j < i
      · rw [if_pos l, if_pos (by omega)]
      · rw [if_neg l, if_neg (by omega)]
  oth := fun p hp => by
    rw [World.cell?_setCell_other _ _ _ _ (by intro e; exact hp (by rw [← e]))]
    exact H.oth p hp
  bel := H.bel.setCell (p := ⟨g, i, none⟩) H.own _
  own := H.own
  lt := by simpa using H.lt

set_option maxRecDepth 100000 in
set_option maxHeartbeats 1000000 in
theorem hfair_bad (a : Option Addr) (c : Nat) (l : List Int) (t : Int) (w : World) (h : Rd w a l) (hreach : l.length * 8 ≤ 140737488351232) (hb : ¬ small l) :
    Calls Try.prog 6 #[.slice a l.length c, .int .i64 t] w fun e w' => e = .returned (.bool true) ∧ Below w.heap.size w w' := by
  have H := Lib.hid h
  have HB := Lib.hid hb
  clear h hb
  go_enter Try.func6, Try.ntmps6
  go_wp2
  go_loop [5, 7, 19] (fun s _ i => ∃ k : Nat, k ≤ l.length ∧ i = .int .i64 k ∧ Hid (∀ j, j < k → 1 ≤ fn l j ∧ fn l j ≤ 1000) ∧ ∃ z : Int, s = .int .i64 z ∧ 0 ≤ z ∧ z ≤ (k : Int) * 1000) (fun _ _ i => l.length - (intOf i).toNat)
  case atStart => exact ⟨0, Nat.zero_le _, rfl, fun j hj => absurd hj (Nat.not_lt_zero _), 0, rfl, by omega, by omega⟩
  case round =>
    obtain ⟨k, hk, rfl, hG, z, rfl, z1, z2⟩ := hrel
    by_cases hlt : k < l.length
    · obtain ⟨b, off, rfl, hc⟩ := H.out.at_ hlt
      have hlt' : (k : Int) < (l.length : Int) := by omega
      have hN : Hid ((1 ≤ fn l k ∧ fn l k ≤ 1000) → ∀ j, j < k + 1 → 1 ≤ fn l j ∧ fn l j ≤ 1000) := fun g j hj => by
        by_cases e : j = k
        · subst e; exact g
        · exact hG.out j (by omega)
      clear hG
      generalize fn l k = x at hc hN
      by_cases g1 : x < 1
      · have d1 : decide (x < 1) = true := by simp; omega
        go_wp2
        go_ret
        exact ⟨rfl, Below.refl _ _⟩
      · have d1 : decide (x < 1) = false := by simp; omega
        by_cases g2 : 1000 < x
        · have d2 : decide (1000 < x) = true := by simp; omega
          go_wp2
          go_ret
          exact ⟨rfl, Below.refl _ _⟩
        · have d2 : decide (1000 < x) = false := by simp; omega
          have hN' := Lib.hid (hN.out (by omega))
          clear hN
          go_wp2
          go_round
          case rel => exact ⟨k + 1, by omega, by go_num, hN'.out, z + x, rfl, by omega, by omega⟩
          case measure => simp [intOf]; omega
    · obtain rfl : k = l.length := by omega
      exact absurd hG.out HB.out
set_option maxRecDepth 100000 in
set_option maxHeartbeats 1000000 in
theorem hfair_out (a : Option Addr) (c : Nat) (l : List Int) (t : Int) (w : World) (h : Rd w a l) (hreach : l.length * 8 ≤ 140737488351232) (hl : small l) (ho : 2000 < Sm.pre (fn l) l.length ∨ (Sm.pre (fn l) l.length ≤ 2000 ∧ t < 0) ∨ (Sm.pre (fn l) l.length ≤ 2000 ∧ 0 ≤ t ∧ 100 < t)) :
    Calls Try.prog 6 #[.slice a l.length c, .int .i64 t] w fun e w' => e = .returned (.bool true) ∧ Below w.heap.size w w' := by
  have H := Lib.hid h
  have HL := Lib.hid hl
  have HO := Lib.hid ho
  have HP := Lib.hid (fun (k : Nat) (hk : k ≤ l.length) => Sm.pre_bd (f := fn l) (B := 1000) k fun j hj => by have := hl j (by omega); omega)
  clear h hl ho
  go_enter Try.func6, Try.ntmps6
  go_wp2
  go_loop [5, 7, 19] (fun s _ i => ∃ k : Nat, k ≤ l.length ∧ i = .int .i64 k ∧ s = .int .i64 (Sm.pre (fn l) k)) (fun _ _ i => l.length - (intOf i).toNat)
  case atStart => exact ⟨0, Nat.zero_le _, rfl, rfl⟩
  case round =>
    obtain ⟨k, hk, rfl, rfl⟩ := hrel
    by_cases hlt : k < l.length
    · obtain ⟨b, off, rfl, hc⟩ := H.out.at_ hlt
      have hlt' : (k : Int) < (l.length : Int) := by omega
      have g := HL.out k hlt
      have p := HP.out k hk
      have hN := Lib.hid (Sm.pre_succ (fn l) k)
      generalize Sm.pre (fn l) k = s at *
      generalize fn l k = x at *
      have d1 : decide (x < 1) = false := by simp; omega
      have d2 : decide (1000 < x) = false := by simp; omega
      go_wp2
      go_round
      case rel => exact ⟨k + 1, by omega, by go_num, by rw [hN.out]⟩
      case measure => simp [intOf]; omega
    · obtain rfl : k = l.length := by omega
      have ho := HO.out
      clear HO HL H HP
      generalize Sm.pre (fn l) l.length = M at *
      rcases ho with g1 | ⟨g1, g2⟩ | ⟨g1, g2, g3⟩
      · have d1 : decide (2000 < M) = true := by simp; omega
        go_wp2
        go_ret
        exact ⟨rfl, Below.refl _ _⟩
      · have d1 : decide (2000 < M) = false := by simp; omega
        have d2 : decide (t < 0) = true := by simp; omega
        go_wp2
        go_ret
        exact ⟨rfl, Below.refl _ _⟩
      · have d1 : decide (2000 < M) = false := by simp; omega
        have d2 : decide (t < 0) = false := by simp; omega
        have d3 : decide (100 < t) = true := by simp; omega
        go_wp2
        go_ret
        exact ⟨rfl, Below.refl _ _⟩
set_option maxRecDepth 100000 in
set_option maxHeartbeats 4000000 in
theorem hfair_yes (a : Option Addr) (c : Nat) (l : List Int) (t : Nat) (w : World) (h : Rd w a l) (hl : small l) (hM : Sm.pre (fn l) l.length ≤ 2000) (ht : t ≤ 100) :
    Calls Try.prog 6 #[.slice a l.length c, .int .i64 t] w fun e w' => e = .returned (.bool true) ∧ Below w.heap.size w w' := by
  have hge := pre_ge (f := fn l) l.length fun j hj => (hl j hj).1
  have hn : l.length ≤ 2000 := by omega
  have hmk := run_make_row' (P := Try.prog) 22 3 (.int .i64 0) 8 Try.underlying22 infoI rfl .i64 .i64 l.length (by omega) (by omega)
  have H := Lib.hid h
  have HL := Lib.hid hl
  have HZ : Hid (szs l) := fun j hj => by have := hl j hj; omega
  have H0 : Hid (∀ j, j < l.length → 0 ≤ fn l j) := fun j hj => by have := hl j hj; omega
  have HP := Lib.hid (fun (k : Nat) (hk : k ≤ l.length) => Sm.pre_bd (f := fn l) (B := 1000) k fun j hj => by have := hl j (by omega); omega)
  obtain ⟨M, hMM⟩ : ∃ M : Nat, Sm.pre (fn l) l.length = (M : Int) := ⟨(Sm.pre (fn l) l.length).toNat, by have := (HP.out l.length (Nat.le_refl _)).1; omega⟩
  rw [hMM] at hM hge
  have HM := Lib.hid hMM
  clear h hl hMM
  go_enter Try.func6, Try.ntmps6
  go_wp2_with fail
  have HMK := Lib.hid hmk
  clear hmk
  go_loop [5, 7, 19] (fun s _ i => ∃ k : Nat, k ≤ l.length ∧ i = .int .i64 k ∧ s = .int .i64 (Sm.pre (fn l) k)) (fun _ _ i => l.length - (intOf i).toNat)
  case atStart => exact ⟨0, Nat.zero_le _, rfl, rfl⟩
  case round =>
    obtain ⟨k, hk, rfl, rfl⟩ := hrel
    by_cases hlt : k < l.length
    · obtain ⟨b, off, rfl, hc⟩ := H.out.at_ hlt
      have hlt' : (k : Int) < (l.length : Int) := by omega
      have g := HL.out k hlt
      have p := HP.out k hk
      have hN := Lib.hid (Sm.pre_succ (fn l) k)
      clear hge
      generalize Sm.pre (fn l) k = s at *
      generalize fn l k = x at *
      have d1 : decide (x < 1) = false := by simp; omega
      have d2 : decide (1000 < x) = false := by simp; omega
      go_wp2
      go_round
      case rel => exact ⟨k + 1, by omega, by go_num, by rw [hN.out]⟩
      case measure => simp [intOf]; omega
    · obtain rfl : k = l.length := by omega
      rw [HM.out]
      have hmk := HMK.out
      have d1 : decide (2000 < (M : Int)) = false := by simp; omega
      have d2 : decide ((t : Int) < 0) = false := by simp
      have d3 : decide (100 < (t : Int)) = false := by simp; omega
      go_wp2_with fail
      have hS : Hid (InC w w.heap.size l.length (fun i => Sm.pre (fun s : Nat => Sm.hit (fn l) l.length t s i) 0) (w.alloc (.cells (madeCells #[.int .i64 0] l.length) 3))) :=
        ⟨(RowF.made w l.length 3).congr (fun j _ => rfl), (Below.refl _ _).alloc (Nat.le_refl _) _, Nat.le_refl _, by simp⟩
      generalize w.alloc (.cells (madeCells #[.int .i64 0] l.length) 3) = w2 at hS
      obtain ⟨g, hg⟩ : ∃ g, g = w.heap.size := ⟨_, rfl⟩
      have hS' : Hid (InC w g l.length (fun i => Sm.pre (fun s : Nat => Sm.hit (fn l) l.length t s i) 0) w2) := by rw [hg]; exact hS
      rw [← hg]
      have HG := Lib.hid hg
      clear hS hg hmk HMK d1 d2 d3
      go_loopw [9, 10, 11, 12, 13, 14, 47] (fun _ _ _ _ _ _ i wr => ∃ s : Nat, s ≤ M ∧ i = .int .i64 s ∧ Hid (InC w g l.length (fun i => Sm.pre (fun s : Nat => Sm.hit (fn l) l.length t s i) s) wr)) (fun _ _ _ _ _ _ i _ => M - (intOf i).toNat)
      case atStart => exact ⟨0, Nat.zero_le _, rfl, hS'.out⟩
      case round =>
        clear hS'
        obtain ⟨s, hs, rfl, hI⟩ := hrel
        by_cases hlts : s < M
        · have hcall := Lib.hid (Hits_yes a c l t (s : Int) wr (H.out.below hI.out.bel) (by omega) HZ.out (by omega) (by omega) (by rw [HM.out]; omega))
          have hlts' : (s : Int) < (M : Int) := by omega
          go_wp2_with fail
          refine hcall.out.mono ?_
          rintro e w1 ⟨a1, c1, rfl, h1, b1, f1⟩
          rw [tab_len]
          have hD : Hid (InD w w1 g l.length (fun i => Sm.pre (fun s : Nat => Sm.hit (fn l) l.length t s i) s) (Sm.hit (fn l) l.length t s) 0 w1) :=
            ⟨(hI.out.row.below b1 hI.out.lt).congr (fun j _ => by simp), fun _ _ => rfl, hI.out.bel.trans (b1.mono hI.out.bel.size), hI.out.own, Nat.lt_of_lt_of_le hI.out.lt b1.size⟩
          have hR : Hid (∀ j, j < l.length → ∃ b off, a1 = some ⟨b, off, none⟩ ∧ b ≠ g ∧ w1.cell? ⟨b, off + j, none⟩ = some (.int .i64 (Sm.hit (fn l) l.length t s j))) := fun j hj => by
            obtain ⟨b, off, e, hc⟩ := h1.at_ (k := j) (by rw [tab_len]; exact hj)
            rw [tab_at _ _ _ hj] at hc
            refine ⟨b, off, e, ?_, hc⟩
            have := f1 _ e (by rw [tab_len]; omega)
            have := hI.out.lt
            simp only at *
            omega
          clear h1 b1 f1 hcall hI
          go_wp2_with fail
          go_loopw [12, 13, 14, 68] (fun n _ _ i wk => ∃ k : Nat, k ≤ l.length ∧ i = .int .i64 k ∧ n = .int .i64 (Sm.pre (Sm.hit (fn l) l.length t s) k) ∧ Hid (InD w w1 g l.length (fun i => Sm.pre (fun s : Nat => Sm.hit (fn l) l.length t s i) s) (Sm.hit (fn l) l.length t s) k wk)) (fun _ _ _ i _ => l.length - (intOf i).toNat)
          case atStart => exact ⟨0, Nat.zero_le _, rfl, rfl, hD.out⟩
          case round =>
            clear hD
            obtain ⟨k, hk, rfl, rfl, hE⟩ := hrel
            by_cases hltk : k < l.length
            · obtain ⟨b, off, rfl, hne, hc⟩ := hR.out k hltk
              have hc' : wr.cell? ⟨b, off + k, none⟩ = some (.int .i64 (Sm.hit (fn l) l.length t s k)) := by rw [hE.out.oth _ hne]; exact hc
              have hr := hE.out.row k hltk
              simp only [if_neg (Nat.lt_irrefl k)] at hr
              obtain ⟨r1, r2⟩ := hr
              have mpos : 0 < Sm.pre (fn l) l.length := by rw [HM.out]; omega
              have hb := Sm.hit_bd (fn l) l.length t s H0.out mpos (by omega) k hltk
              have hp := Sm.pre_bd (f := Sm.hit (fn l) l.length t s) (B := (t : Int)) k fun j hj => Sm.hit_bd (fn l) l.length t s H0.out mpos (by omega) j (by omega)
              have ha := Sm.pre_bd (f := fun s : Nat => Sm.hit (fn l) l.length t s k) (B := (t : Int)) s fun j hj => Sm.hit_bd (fn l) l.length t j H0.out mpos (by omega) k hltk
              have q1 := mul_bd' (show (0 : Int) ≤ (k : Int) by omega) (show (k : Int) ≤ 2000 by omega) (show (0 : Int) ≤ (t : Int) by omega) (show (t : Int) ≤ 100 by omega)
              have q2 := mul_bd' (show (0 : Int) ≤ (s : Int) by omega) (show (s : Int) ≤ 2000 by omega) (show (0 : Int) ≤ (t : Int) by omega) (show (t : Int) ≤ 100 by omega)
              have hN := Lib.hid hE.out.next
              have hP := Lib.hid (Sm.pre_succ (Sm.hit (fn l) l.length t s) k)
              clear hc hE mpos hR
              generalize Sm.pre (Sm.hit (fn l) l.length t s) k = n at *
              generalize Sm.pre (fun s : Nat => Sm.hit (fn l) l.length t s k) s = y at *
              generalize Sm.hit (fn l) l.length t s k = x at *
              have n1 : 0 ≤ n := hp.1
              have n2 : n ≤ 1000000 := by omega
              have y1 : 0 ≤ y := ha.1
              have y2 : y ≤ 1000000 := by omega
              have x1 : 0 ≤ x := hb.1
              have x2 : x ≤ 100 := by omega
              clear hp ha hb q1 q2
              have hltk' : (k : Int) < (l.length : Int) := by omega
              go_wp2
              go_roundw
              case rel => exact ⟨k + 1, by omega, by go_num, by rw [hP.out], hN.out⟩
              case measure => simp [intOf]; omega
            · obtain rfl : k = l.length := by omega
              have hT : Sm.pre (Sm.hit (fn l) l.length t s) l.length = (t : Int) := by
                rw [Sm.hit_sum _ _ _ _ (by omega), HM.out, Sm.hb_whole _ _ _ (by omega) (by omega) (by omega) (by omega)]
              rw [hT]
              have hC : Hid (InC w g l.length (fun i => Sm.pre (fun s : Nat => Sm.hit (fn l) l.length t s i) (s + 1)) wr) :=
                ⟨hE.out.row.congr fun j hj => by rw [if_pos hj]; rfl, hE.out.bel, hE.out.own, hE.out.lt⟩
              clear hT hE hR
              go_wp2
              go_roundw
              case rel => exact ⟨s + 1, by omega, by go_num, hC.out⟩
              case measure => simp [intOf]; omega
        · obtain rfl : s = M := by omega
          have hC : Hid (∀ j, j < l.length → wr.cell? ⟨g, j, none⟩ = some (.int .i64 (t * fn l j))) := fun j hj => by
            have h := (hI.out.row j hj).1
            have mpos : 0 < Sm.pre (fn l) l.length := by rw [HM.out]; omega
            have e := Sm.hit_all (fn l) l.length t (by omega) H0.out mpos j hj
            rw [HM.out, Int.toNat_natCast] at e
            rw [e] at h
            exact h
          have hR := Lib.hid (H.out.below hI.out.bel)
          have hB := Lib.hid hI.out.bel
          clear hI
          go_wp2_with fail
          go_loop [15, 16, 90] (fun _ _ i => ∃ k : Nat, k ≤ l.length ∧ i = .int .i64 k) (fun _ _ i => l.length - (intOf i).toNat)
          case atStart => exact ⟨0, Nat.zero_le _, rfl⟩
          case round =>
            obtain ⟨k, hk, rfl⟩ := hrel
            by_cases hltk : k < l.length
            · obtain ⟨b, off, rfl, hc⟩ := hR.out.at_ hltk
              have hltk' : (k : Int) < (l.length : Int) := by omega
              have hq := hC.out k hltk
              have g1 := HL.out k hltk
              generalize fn l k = x at *
              have q1 := mul_bd' (show (0 : Int) ≤ (t : Int) by omega) (show (t : Int) ≤ 100 by omega) (show 0 ≤ x by omega) g1.2
              have wq := wrap_in' ((t : Int) * x) (by omega) (by omega)
              clear q1
              go_wp2
              go_round
              case rel => exact ⟨k + 1, by omega, by go_num⟩
              case measure => simp [intOf]; omega
            · obtain rfl : k = l.length := by omega
              go_wp2
              go_ret
              exact ⟨rfl, hB.out⟩
end Go.Proofs.Ytaiiobojlipbeaa
