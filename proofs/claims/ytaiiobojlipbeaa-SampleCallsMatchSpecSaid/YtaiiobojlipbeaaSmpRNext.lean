/-
  The next window of the reference.
-/
import Derived.Test.YtaiiobojlipbeaaSmpMin
namespace Go.Proofs.Ytaiiobojlipbeaa
open Go.RowKit

/-- Of windows the one with the fewest attempts, if fewer than so many. -/
def minL (l : List (Int × Int)) : Int → Int × Int → List (Int × Int) → Int × Int
  | _, b, [] => b
  | L, b, v :: r => if Sm.cntW v.1 v.2 l l.length < L then minL l (Sm.cntW v.1 v.2 l l.length) v r else minL l L b r
theorem minL_drop {l V : List (Int × Int)} {k : Nat} {v : Int × Int} (h : V[k]? = some v) (L : Int) (b : Int × Int) :
    minL l L b (V.drop k) = if Sm.cntW v.1 v.2 l l.length < L then minL l (Sm.cntW v.1 v.2 l l.length) v (V.drop (k + 1)) else minL l L b (V.drop (k + 1)) := by
  rw [Sm.drop_cons h]; rfl
theorem minL_min (l : List (Int × Int)) (b : Int × Int) (V : List (Int × Int)) : minL l (Sm.cntW b.1 b.2 l l.length) b V = Sm.minW l b V := by
  induction V generalizing b with
  | nil => rfl
  | cons v r ih =>
    unfold minL Sm.minW
    split
    · exact ih v
    · exact ih b
theorem minL_next (l V : List (Int × Int)) (hn : l.length ≤ 100) (b : Int × Int) (h : V ≠ []) : minL l 101 b V = Sm.nextW l V := by
  cases V with
  | nil => exact absurd rfl h
  | cons v r =>
    have := Sm.cntW_bd v.1 v.2 l l.length
    unfold minL Sm.nextW
    rw [if_pos (by omega)]
    exact minL_min l v r
/-- Windows that are as they must be. -/
def wins (V : List (Int × Int)) : Prop := ∀ (j : Nat) (f t : Int), V[j]? = some (f, t) → 0 ≤ f ∧ f < t ∧ t ≤ 1440

set_option maxHeartbeats 8000000 in
theorem next_c (most gap : Int) (aD a aV : Option Addr) (nD cD c cV : Nat) (l V : List (Int × Int)) (w : World) (h : RdP w a l) (hV : RdP w aV V) (hm : mins l) (hw : wins V) (hn : l.length ≤ 100) (h0 : 0 < V.length) (h8 : V.length ≤ 8) :
    Calls Try.prog 36 #[.agg #[.int .i64 most, .int .i64 gap, .slice aD nD cD, .slice aV V.length cV], .slice a l.length c] w (WinPost (Sm.nextW l V) w) := by
  have H := Lib.hid h
  have HV := Lib.hid hV
  have HM := Lib.hid hm
  have HW := Lib.hid hw
  have HN := Lib.hid hn
  obtain ⟨Z, hZ⟩ : ∃ Z, Z = Sm.nextW l V := ⟨_, rfl⟩
  rw [← hZ]
  have HZ : Hid (Z = minL l 101 (0, 0) (V.drop 0)) := by
    unfold Hid
    rw [hZ, List.drop_zero, minL_next l V hn _ (by intro e; subst e; simp at h0)]
  clear h hV hm hw hZ
  go_enter Try.func36, Try.ntmps36
  go_wp2_with fail
  obtain ⟨wA, hwA⟩ : ∃ wA, wA = w.alloc (.cells #[.int .i64 most, .int .i64 gap, .slice aD nD cD, .slice aV V.length cV] 33) := ⟨_, rfl⟩
  have hsz : wA.heap.size = w.heap.size + 1 := by rw [hwA]; simp
  have hbA : Hid (Below w.heap.size w wA) := by rw [hwA]; exact (Below.refl _ _).alloc (Nat.le_refl _) _
  have hcA : wA.cell? ⟨w.heap.size, 0, none⟩ = some (.int .i64 most) := by rw [hwA, World.cell?_alloc_new]; rfl
  rw [← hwA]
  rw [← hsz]
  have hI0 : Hid (Mn wA w.heap.size (.int .i64 most) (0, 0) ((wA.alloc (.cells #[.int .i64 0, .int .i64 0] 55)).alloc (.cells #[.int .i64 0, .int .i64 0] 55))) := by
    refine ⟨⟨0, 0, ?_, ?_⟩, ?_, ?_, ?_, ?_, by omega, ((Below.refl _ _).alloc (Nat.le_refl _) _).alloc (by simp) _, by simp⟩
    · simp [go_sem, World.cell?_alloc_past]
    · simp [go_sem, World.cell?_alloc_past]
    · simp [go_sem, World.cell?_alloc_past]
    · simp [go_sem, World.cell?_alloc_past]
    · intro g o hg
      rcases hg with rfl | rfl <;> simp [go_sem]
    · rw [World.cell?_alloc_lt _ _ _ (by simp; omega), World.cell?_alloc_lt _ _ _ (show w.heap.size < _ by omega)]; exact hcA
  generalize (wA.alloc (.cells #[.int .i64 0, .int .i64 0] 55)).alloc (.cells #[.int .i64 0, .int .i64 0] 55) = w1 at hI0
  have hbb : Hid (w.heap.size < wA.heap.size) := by unfold Hid; omega
  clear hwA hcA hsz
  go_loopw [6, 8, 9, 11, 15, 21] (fun L _ _ _ i _ wr => ∃ (k : Nat) (x : Int) (cur : Int × Int), k ≤ V.length ∧ i = .int .i64 k ∧ L = .int .i64 x ∧ 0 ≤ x ∧ x ≤ 101 ∧ Hid (Z = minL l x cur (V.drop k)) ∧ Hid (Mn wA w.heap.size (.int .i64 most) cur wr)) (fun _ _ _ _ i _ _ => V.length - (intOf i).toNat)
  case atStart => exact ⟨0, 101, (0, 0), Nat.zero_le _, rfl, rfl, by omega, by omega, HZ.out, hI0.out⟩
  case round =>
    clear hI0 HZ
    obtain ⟨k, x, cur, hk, rfl, rfl, x0, x1, hZ, hI⟩ := hrel
    by_cases hltk : k < V.length
    · obtain ⟨f, t, hkk⟩ := pair_at hltk
      obtain ⟨b, off, rfl, hb, p1, p2⟩ := (HV.out.below (hbA.out.trans (hI.out.bel.mono hbA.out.size))).at_ hkk
      obtain ⟨g1, g2, g3⟩ := HW.out k f t hkk
      have hZ' := Lib.hid (hZ.out.trans (minL_drop hkk x cur))
      have hk' : (k : Int) < (V.length : Int) := by omega
      have hW0 := Lib.hid (Win.start wr f t 55)
      have hRl := Lib.hid (H.out.below (hbA.out.trans (hI.out.bel.mono hbA.out.size)))
      clear hZ hkk
      go_wp2_with fail
      obtain ⟨wk, hwk⟩ : ∃ wk, wk = wr.alloc (.cells #[.int .i64 f, .int .i64 t] 55) := ⟨_, rfl⟩
      have hW1 : Hid (Win wr f t wk) := by rw [hwk]; exact hW0
      rw [← hwk]
      clear hwk hW0
      obtain ⟨wo, hwo⟩ : ∃ wo : World, wo = wr := ⟨_, rfl⟩
      rw [← hwo] at hW1 hRl hI p1 p2 hb ⊢
      clear hwo
      go_loopw [9, 11, 21] (fun n _ i wq => ∃ j : Nat, j ≤ l.length ∧ i = .int .i64 j ∧ n = .int .i64 (Sm.cntW f t l j) ∧ Hid (Win wo f t wq)) (fun _ _ i _ => l.length - (intOf i).toNat)
      case atStart => exact ⟨0, Nat.zero_le _, rfl, rfl, hW1.out⟩
      case round =>
        clear hW1
        obtain ⟨j, hj, rfl, rfl, hQ⟩ := hrel
        by_cases hltj : j < l.length
        · obtain ⟨m, o, hjj⟩ := pair_at hltj
          obtain ⟨lb, lo, rfl, hlb, q1, q2⟩ := (hRl.out.below hQ.out.bel).at_ hjj
          have hj' : (j : Int) < (l.length : Int) := by omega
          obtain ⟨e1, e2⟩ := HM.out j m o hjj
          have hS := Lib.hid (cntW_succ f t l j hjj)
          have hQ' := Lib.hid (hQ.out.alloc (.cells #[.int .i64 m, .int .i64 o] 47))
          have cb := Sm.cntW_bd f t l j
          have v0 := hQ.out.c0
          have v1 := hQ.out.c1
          have hlw := hQ.out.lt
          clear hQ hjj hI hZ' p1 p2 hRl H HM HV HW
          generalize Sm.cntW f t l j = n at *
          have z0 := Int.emod_nonneg m (show (1440 : Int) ≠ 0 by omega)
          have z1 := Int.emod_lt_of_pos m (show (0 : Int) < 1440 by omega)
          by_cases c1 : f ≤ m % 1440 ∧ m % 1440 < t
          · have hS' : Hid (Sm.cntW f t l (j + 1) = n + 1) := by unfold Hid; rw [hS.out, if_pos c1]
            have hc := Lib.hid (fun w => within_y (m % 1440) f (t - 1) w c1.1 (by omega))
            clear hS c1
            go_wp2_with (go_at_call 32; refine (hc.out _).mono ?_; rintro e w' ⟨rfl, rfl⟩)
            go_roundw
            case rel => exact ⟨j + 1, by omega, by go_num, by rw [hS'.out], hQ'.out⟩
            case measure => simp [intOf]; omega
          · have hS' : Hid (Sm.cntW f t l (j + 1) = n) := by unfold Hid; rw [hS.out, if_neg c1]; omega
            have hc := Lib.hid (fun w => within_n (m % 1440) f (t - 1) w (by omega))
            clear hS c1
            go_wp2_with (go_at_call 32; refine (hc.out _).mono ?_; rintro e w' ⟨rfl, rfl⟩)
            go_roundw
            case rel => exact ⟨j + 1, by omega, by go_num, by rw [hS'.out], hQ'.out⟩
            case measure => simp [intOf]; omega
        · obtain rfl : j = l.length := by omega
          have cb := Sm.cntW_bd f t l l.length
          have hMn := Lib.hid (hI.out.keep hQ.out.bel)
          have v0 := hQ.out.c0
          have v1 := hQ.out.c1
          have m0 := hMn.out.m0
          have m1 := hMn.out.m1
          have fr0 := hMn.out.fr (wA.heap.size + 1) 0 (.inr rfl)
          have fr1 := hMn.out.fr (wA.heap.size + 1) 1 (.inr rfl)
          obtain ⟨n, hn'⟩ : ∃ n, n = Sm.cntW f t l l.length := ⟨_, rfl⟩
          rw [← hn'] at cb ⊢
          have HNN := Lib.hid hn'
          clear hn' hQ hI p1 p2 hRl H HM HV HW
          by_cases hlt : n < x
          · have hE : Hid (Z = minL l n (f, t) (V.drop (k + 1))) := by unfold Hid; rw [hZ'.out, if_pos (show Sm.cntW f t l l.length < x by rw [← HNN.out]; exact hlt), ← HNN.out]
            have hP := Lib.hid (hMn.out.put f t)
            clear hZ' hMn
            go_wp2
            go_roundw
            case rel => exact ⟨k + 1, n, (f, t), by omega, by go_num, rfl, by omega, by omega, hE.out, hP.out⟩
            case measure => simp [intOf]; omega
          · have hE : Hid (Z = minL l x cur (V.drop (k + 1))) := by unfold Hid; rw [hZ'.out, if_neg (show ¬ Sm.cntW f t l l.length < x by rw [← HNN.out]; exact hlt)]
            have d : decide (n < x) = false := by simp; omega
            clear hZ'
            go_wp2
            go_roundw
            case rel => exact ⟨k + 1, x, cur, by omega, by go_num, rfl, x0, x1, hE.out, hMn.out⟩
            case measure => simp [intOf]; omega
    · obtain rfl : k = V.length := by omega
      have hE : Hid (Z = cur) := by unfold Hid; rw [hZ.out, List.drop_length]; rfl
      have m0 := hI.out.m0
      have m1 := hI.out.m1
      obtain ⟨y0, y1, r0, r1⟩ := hI.out.r
      have fr0 := hI.out.fr wA.heap.size 0 (.inl rfl)
      have fr1 := hI.out.fr wA.heap.size 1 (.inl rfl)
      have bel : Hid (Below w.heap.size w ((wr.setCell ⟨wA.heap.size, 0, none⟩ (.int .i64 cur.1)).setCell ⟨wA.heap.size, 1, none⟩ (.int .i64 cur.2))) :=
        hbA.out.trans (((hI.out.bel.setCell (p := ⟨wA.heap.size, 0, none⟩) (Nat.le_refl _) _).setCell (p := ⟨wA.heap.size, 1, none⟩) (Nat.le_refl _) _).mono hbA.out.size)
      have c0 : ((wr.setCell ⟨wA.heap.size, 0, none⟩ (.int .i64 cur.1)).setCell ⟨wA.heap.size, 1, none⟩ (.int .i64 cur.2)).cell? ⟨wA.heap.size, 0, none⟩ = some (.int .i64 cur.1) := by
        rw [World.cell?_setCell_other _ _ _ _ (by simp), World.cell?_setCell_same _ _ _ r0]
      have c1 : ((wr.setCell ⟨wA.heap.size, 0, none⟩ (.int .i64 cur.1)).setCell ⟨wA.heap.size, 1, none⟩ (.int .i64 cur.2)).cell? ⟨wA.heap.size, 1, none⟩ = some (.int .i64 cur.2) := by
        have e : (wr.setCell ⟨wA.heap.size, 0, none⟩ (.int .i64 cur.1)).cell? ⟨wA.heap.size, 1, none⟩ = some (.int .i64 y1) := by rw [World.cell?_setCell_other _ _ _ _ (by simp)]; exact r1
        exact World.cell?_setCell_same _ _ _ e
      have C0 := Lib.hid c0
      have C1 := Lib.hid c1
      clear c0 c1 hZ hI H HM HV HW
      go_wp2
      have c0 := C0.out
      have c1 := C1.out
      generalize (wr.setCell ⟨wA.heap.size, 0, none⟩ (.int .i64 cur.1)).setCell ⟨wA.heap.size, 1, none⟩ (.int .i64 cur.2) = W9 at *
      exact bodyPost_ret (v := .agg #[.int .i64 cur.1, .int .i64 cur.2]) (by simp [results, Try.results36, go_sem, c0, c1]) rfl ⟨by rw [hE.out], bel.out⟩
end Go.Proofs.Ytaiiobojlipbeaa
