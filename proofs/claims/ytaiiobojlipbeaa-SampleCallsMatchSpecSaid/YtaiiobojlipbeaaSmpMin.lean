/-
  The window in which the fewest attempts were made: slices.MinFunc at the comparison.
-/
import Derived.Test.YtaiiobojlipbeaaSmpWin
namespace Go.Proofs.Ytaiiobojlipbeaa
open Go.RowKit

/-- The boxes of MinFunc: the result's, and that of the least so far. -/
structure Mn (w : World) (bb : Nat) (v : Value) (cur : Int × Int) (wr : World) : Prop where
  r : ∃ x y : Int, wr.cell? ⟨w.heap.size, 0, none⟩ = some (.int .i64 x) ∧ wr.cell? ⟨w.heap.size, 1, none⟩ = some (.int .i64 y)
  m0 : wr.cell? ⟨w.heap.size + 1, 0, none⟩ = some (.int .i64 cur.1)
  m1 : wr.cell? ⟨w.heap.size + 1, 1, none⟩ = some (.int .i64 cur.2)
  fr : ∀ b o, (b = w.heap.size ∨ b = w.heap.size + 1) → wr.frozen? ⟨b, o, none⟩ = false
  bc : wr.cell? ⟨bb, 0, none⟩ = some v
  lt : bb < w.heap.size
  bel : Below w.heap.size w wr
  size : w.heap.size + 2 ≤ wr.heap.size
theorem Mn.keep {w wr w' : World} {bb : Nat} {v : Value} {cur : Int × Int} (h : Mn w bb v cur wr) (hb : Below wr.heap.size wr w') : Mn w bb v cur w' := by
  have s := h.size
  have l := h.lt
  have f := fun (g o : Nat) (hg : g < wr.heap.size) => hb.cell (p := ⟨g, o, none⟩) hg
  have f2 := fun (g o : Nat) (hg : g < wr.heap.size) => hb.frozen (p := ⟨g, o, none⟩) hg
  refine ⟨?_, ?_, ?_, ?_, ?_, l, h.bel.trans (hb.mono h.bel.size), Nat.le_trans s hb.size⟩
  · obtain ⟨x, y, h1, h2⟩ := h.r
    exact ⟨x, y, by rw [f _ _ (by omega)]; exact h1, by rw [f _ _ (by omega)]; exact h2⟩
  · rw [f _ _ (by omega)]; exact h.m0
  · rw [f _ _ (by omega)]; exact h.m1
  · intro b o hbb
    rw [f2 _ _ (by omega)]; exact h.fr b o hbb
  · rw [f _ _ (by omega)]; exact h.bc
theorem Mn.put {w wr : World} {bb : Nat} {v : Value} {cur : Int × Int} (h : Mn w bb v cur wr) (x y : Int) :
    Mn w bb v (x, y) ((wr.setCell ⟨w.heap.size + 1, 0, none⟩ (.int .i64 x)).setCell ⟨w.heap.size + 1, 1, none⟩ (.int .i64 y)) := by
  have l := h.lt
  refine ⟨?_, ?_, ?_, ?_, ?_, l, (h.bel.setCell (p := ⟨w.heap.size + 1, 0, none⟩) (Nat.le_succ _) _).setCell (p := ⟨w.heap.size + 1, 1, none⟩) (Nat.le_succ _) _, by simpa using h.size⟩
  · obtain ⟨x, y, h1, h2⟩ := h.r
    refine ⟨x, y, ?_, ?_⟩
    · rw [World.cell?_setCell_other _ _ _ _ (by simp), World.cell?_setCell_other _ _ _ _ (by simp)]; exact h1
    · rw [World.cell?_setCell_other _ _ _ _ (by simp), World.cell?_setCell_other _ _ _ _ (by simp)]; exact h2
  · rw [World.cell?_setCell_other _ _ _ _ (by simp), World.cell?_setCell_same _ _ _ h.m0]
  · have e : (wr.setCell ⟨w.heap.size + 1, 0, none⟩ (.int .i64 x)).cell? ⟨w.heap.size + 1, 1, none⟩ = some (.int .i64 cur.2) := by rw [World.cell?_setCell_other _ _ _ _ (by simp)]; exact h.m1
    exact World.cell?_setCell_same _ _ _ e
  · intro b o hb
    rw [World.frozen?_setCell, World.frozen?_setCell]; exact h.fr b o hb
  · rw [World.cell?_setCell_other _ _ _ _ (by first | (simp; done) | (simp; omega)), World.cell?_setCell_other _ _ _ _ (by first | (simp; done) | (simp; omega))]; exact h.bc
def Mx (w : World) (bb : Nat) (v : Value) (cur x : Int × Int) (eb eo : Nat) (W : World) : Prop :=
  W.cell? ⟨w.heap.size + 1, 0, none⟩ = some (.int .i64 cur.1) ∧ W.cell? ⟨w.heap.size + 1, 1, none⟩ = some (.int .i64 cur.2) ∧
  W.cell? ⟨eb, eo, none⟩ = some (.int .i64 x.1) ∧ W.cell? ⟨eb, eo + 1, none⟩ = some (.int .i64 x.2) ∧ Hid (Mn w bb v cur W ∧ eb < w.heap.size)
theorem Mx.keep {w W W' : World} {bb : Nat} {v : Value} {cur x : Int × Int} {eb eo : Nat} (h : Mx w bb v cur x eb eo W) (hb : Below W.heap.size W W') : Mx w bb v cur x eb eo W' := by
  obtain ⟨a0, a1, b0, b1, hh⟩ := h
  obtain ⟨hM, hl⟩ := hh.out
  have s := hM.size
  have f := fun (g o : Nat) (hg : g < W.heap.size) => hb.cell (p := ⟨g, o, none⟩) hg
  refine ⟨?_, ?_, ?_, ?_, hM.keep hb, hl⟩
  all_goals (rw [f _ _ (by omega)]; assumption)
theorem less_mx (x cur : Int × Int) (z : Int) (w W : World) (bb eb eo : Nat) (a : Option Addr) (c : Nat) (l : List (Int × Int)) (hz : Sm.cntW x.1 x.2 l l.length - Sm.cntW cur.1 cur.2 l l.length = z) (h : RdP w a l) (hm : mins l) (hn : l.length ≤ 100) (hS : Mx w bb (.slice a l.length c) cur x eb eo W) :
    Calls Try.prog 41 #[.agg #[.int .i64 x.1, .int .i64 x.2], .agg #[.int .i64 cur.1, .int .i64 cur.2], .pointer (some ⟨bb, 0, none⟩)] W fun e w' => e = .returned (.int .i64 z) ∧ Mx w bb (.slice a l.length c) cur x eb eo w' := by
  rw [← hz]
  have hT := hS
  obtain ⟨_, _, _, _, hh⟩ := hT
  obtain ⟨hM, _⟩ := hh.out
  exact (less_c x cur bb a c l W (h.below hM.bel) hm hn hM.bc (Nat.lt_of_lt_of_le hM.lt hM.bel.size)).mono fun e w' ⟨he, hb⟩ => ⟨he, hS.keep hb⟩

set_option maxHeartbeats 4000000 in
theorem minFunc_c (bb : Nat) (a aV : Option Addr) (c cV : Nat) (l V : List (Int × Int)) (w : World) (h : RdP w a l) (hV : RdP w aV V) (hm : mins l) (hn : l.length ≤ 100) (hbb : w.cell? ⟨bb, 0, none⟩ = some (.slice a l.length c)) (hlt : bb < w.heap.size) (h0 : 0 < V.length) (h8 : V.length ≤ 8) :
    Calls Try.prog 40 #[.slice aV V.length cV, .func (.func 41) #[] #[.pointer (some ⟨bb, 0, none⟩)]] w fun e w' => e = .returned (.agg #[.int .i64 (Sm.nextW l V).1, .int .i64 (Sm.nextW l V).2]) ∧ Below w.heap.size w w' := by
  obtain ⟨b, off, rfl, hb, hc⟩ := hV.2 h0
  obtain ⟨f0, t0, hv0⟩ := pair_at h0
  obtain ⟨q1, q2⟩ := hc 0 f0 t0 hv0
  have HC : Hid (∀ (j : Nat) (m o : Int), V[j]? = some (m, o) → w.cell? ⟨b, off + j * 2, none⟩ = some (.int .i64 m) ∧ w.cell? ⟨b, off + j * 2 + 1, none⟩ = some (.int .i64 o)) := hc
  have hZ : Hid (Sm.nextW l V = Sm.minW l (f0, t0) (V.drop 1)) := by unfold Hid Sm.nextW; simp [List.getD, hv0]
  obtain ⟨Z, hZZ⟩ : ∃ Z, Z = Sm.nextW l V := ⟨_, rfl⟩
  rw [← hZZ] at hZ ⊢
  clear hZZ hc hv0 hV
  simp only [Nat.zero_mul, Nat.add_zero] at q1 q2
  have H := Lib.hid h
  have HM := Lib.hid hm
  have HN := Lib.hid hn
  clear h hm hn
  have hl0 : (0 : Int) < (V.length : Int) := by omega
  go_enter Try.func40, Try.ntmps40
  go_wp2_with fail
  have hI0 : Hid (Mn w bb (.slice a l.length c) (f0, t0) ((w.alloc (.cells #[.int .i64 0, .int .i64 0] 55)).alloc (.cells #[.int .i64 f0, .int .i64 t0] 55))) := by
    refine ⟨⟨0, 0, ?_, ?_⟩, ?_, ?_, ?_, ?_, hlt, ((Below.refl _ _).alloc (Nat.le_refl _) _).alloc (by simp) _, by simp⟩
    · simp [go_sem, World.cell?_alloc_past]
    · simp [go_sem, World.cell?_alloc_past]
    · simp [go_sem, World.cell?_alloc_past]
    · simp [go_sem, World.cell?_alloc_past]
    · intro g o hg
      rcases hg with rfl | rfl <;> simp [go_sem]
    · rw [World.cell?_alloc_lt _ _ _ (by simp; omega), World.cell?_alloc_lt _ _ _ hlt]; exact hbb
  generalize (w.alloc (.cells #[.int .i64 0, .int .i64 0] 55)).alloc (.cells #[.int .i64 f0, .int .i64 t0] 55) = w1 at hI0
  clear hbb q1 q2
  go_loopw [6] (fun i wr => ∃ (k : Nat) (cur : Int × Int), 1 ≤ k ∧ k ≤ V.length ∧ i = .int .i64 k ∧ Hid (Z = Sm.minW l cur (V.drop k)) ∧ Hid (Mn w bb (.slice a l.length c) cur wr)) (fun i _ => V.length - (intOf i).toNat)
  case atStart => exact ⟨1, (f0, t0), Nat.le_refl _, h0, rfl, hZ.out, hI0.out⟩
  case round =>
    clear hI0 hZ
    obtain ⟨k, cur, hk1, hk, rfl, hZ, hI⟩ := hrel
    by_cases hltk : k < V.length
    · obtain ⟨xf, xt, hkk⟩ := pair_at hltk
      obtain ⟨p1, p2⟩ := HC.out k xf xt hkk
      have hZ' := Lib.hid (hZ.out.trans (Sm.minW_drop hkk cur))
      have hk' : (k : Int) < (V.length : Int) := by omega
      have hX : Mx w bb (.slice a l.length c) cur (xf, xt) b (off + k * 2) wr := by
        have f := fun (o : Nat) => hI.out.bel.cell (p := ⟨b, o, none⟩) hb
        exact ⟨hI.out.m0, hI.out.m1, by rw [f]; exact p1, by rw [f]; exact p2, hI.out, hb⟩
      obtain ⟨z, hz⟩ : ∃ z, Sm.cntW xf xt l l.length - Sm.cntW cur.1 cur.2 l l.length = z := ⟨_, rfl⟩
      have HZZ := Lib.hid hz
      clear hz hI p1 p2 hZ hkk
      by_cases hz : z < 0
      · have d : decide (z < 0) = true := by simp; omega
        have hE : Hid (Z = Sm.minW l (xf, xt) (V.drop (k + 1))) := by unfold Hid; rw [hZ'.out, if_pos (show Sm.cntW xf xt l l.length < Sm.cntW cur.1 cur.2 l l.length by have := HZZ.out; omega)]
        clear hZ' hz
        go_wp2_with fail
        go_region_held3 (fun W => W.cell? ⟨w.heap.size + 1, 0, none⟩ = some (.int .i64 cur.1) ∧ W.cell? ⟨w.heap.size + 1, 1, none⟩ = some (.int .i64 cur.2) ∧ W.cell? ⟨b, off + k * 2, none⟩ = some (.int .i64 xf) ∧ W.cell? ⟨b, off + k * 2 + 1, none⟩ = some (.int .i64 xt) ∧ Hid (Mn w bb (.slice a l.length c) cur W ∧ b < w.heap.size)) ((first | exact hX.keep (Below.refl _ _).drew | assumption))
          (first | (go_at_call 41; (with_reducible refine (less_mx (xf, xt) cur z w _ bb b (off + k * 2) a c l HZZ.out H.out HM.out HN.out ?_).mono ?_); assumption; rintro e w' ⟨rfl, hbx⟩))
        have hT := hbx
        obtain ⟨e0, e1, e2, e3, hh⟩ := hT
        have HBX := Lib.hid hbx
        clear hbx hX
        have fr0 := hh.out.1.fr (w.heap.size + 1) 0 (.inr rfl)
        have fr1 := hh.out.1.fr (w.heap.size + 1) 1 (.inr rfl)
        have hP := Lib.hid (hh.out.1.put xf xt)
        go_wp2
        go_roundw
        case rel => exact ⟨k + 1, (xf, xt), by omega, by omega, by go_num, hE.out, hP.out⟩
        case measure => simp [intOf]; omega
      · have d : decide (z < 0) = false := by simp; omega
        have hE : Hid (Z = Sm.minW l cur (V.drop (k + 1))) := by unfold Hid; rw [hZ'.out, if_neg (show ¬ Sm.cntW xf xt l l.length < Sm.cntW cur.1 cur.2 l l.length by have := HZZ.out; omega)]
        clear hZ' hz
        go_wp2_with fail
        go_region_held3 (fun W => W.cell? ⟨w.heap.size + 1, 0, none⟩ = some (.int .i64 cur.1) ∧ W.cell? ⟨w.heap.size + 1, 1, none⟩ = some (.int .i64 cur.2) ∧ W.cell? ⟨b, off + k * 2, none⟩ = some (.int .i64 xf) ∧ W.cell? ⟨b, off + k * 2 + 1, none⟩ = some (.int .i64 xt) ∧ Hid (Mn w bb (.slice a l.length c) cur W ∧ b < w.heap.size)) ((first | exact hX.keep (Below.refl _ _).drew | assumption))
          (first | (go_at_call 41; (with_reducible refine (less_mx (xf, xt) cur z w _ bb b (off + k * 2) a c l HZZ.out H.out HM.out HN.out ?_).mono ?_); assumption; rintro e w' ⟨rfl, hbx⟩))
        have hT := hbx
        obtain ⟨e0, e1, e2, e3, hh⟩ := hT
        have HBX := Lib.hid hbx
        clear hbx hX
        have fr0 := hh.out.1.fr (w.heap.size + 1) 0 (.inr rfl)
        have fr1 := hh.out.1.fr (w.heap.size + 1) 1 (.inr rfl)
        go_wp2
        go_roundw
        case rel => exact ⟨k + 1, cur, by omega, by omega, by go_num, hE.out, hh.out.1⟩
        case measure => simp [intOf]; omega
    · obtain rfl : k = V.length := by omega
      have hE : Hid (Z = cur) := by unfold Hid; rw [hZ.out, List.drop_length]; rfl
      have m0 := hI.out.m0
      have m1 := hI.out.m1
      obtain ⟨x, y, r0, r1⟩ := hI.out.r
      have fr0 := hI.out.fr w.heap.size 0 (.inl rfl)
      have fr1 := hI.out.fr w.heap.size 1 (.inl rfl)
      have bel : Hid (Below w.heap.size w ((wr.setCell ⟨w.heap.size, 0, none⟩ (.int .i64 cur.1)).setCell ⟨w.heap.size, 1, none⟩ (.int .i64 cur.2))) :=
        (hI.out.bel.setCell (p := ⟨w.heap.size, 0, none⟩) (Nat.le_refl _) _).setCell (p := ⟨w.heap.size, 1, none⟩) (Nat.le_refl _) _
      have c0 : ((wr.setCell ⟨w.heap.size, 0, none⟩ (.int .i64 cur.1)).setCell ⟨w.heap.size, 1, none⟩ (.int .i64 cur.2)).cell? ⟨w.heap.size, 0, none⟩ = some (.int .i64 cur.1) := by
        rw [World.cell?_setCell_other _ _ _ _ (by simp), World.cell?_setCell_same _ _ _ r0]
      have c1 : ((wr.setCell ⟨w.heap.size, 0, none⟩ (.int .i64 cur.1)).setCell ⟨w.heap.size, 1, none⟩ (.int .i64 cur.2)).cell? ⟨w.heap.size, 1, none⟩ = some (.int .i64 cur.2) := by
        have e : (wr.setCell ⟨w.heap.size, 0, none⟩ (.int .i64 cur.1)).cell? ⟨w.heap.size, 1, none⟩ = some (.int .i64 y) := by rw [World.cell?_setCell_other _ _ _ _ (by simp)]; exact r1
        exact World.cell?_setCell_same _ _ _ e
      have C0 := Lib.hid c0
      have C1 := Lib.hid c1
      clear c0 c1 hZ hI
      go_wp2
      have c0 := C0.out
      have c1 := C1.out
      generalize (wr.setCell ⟨w.heap.size, 0, none⟩ (.int .i64 cur.1)).setCell ⟨w.heap.size, 1, none⟩ (.int .i64 cur.2) = W9 at *
      exact bodyPost_ret (v := .agg #[.int .i64 cur.1, .int .i64 cur.2]) (by simp [results, Try.results40, go_sem, c0, c1]) rfl ⟨by rw [hE.out], bel.out⟩

/-- A window comes back. -/
def WinPost (v : Int × Int) (w : World) (e : Ending) (w' : World) : Prop := e = .returned (.agg #[.int .i64 v.1, .int .i64 v.2]) ∧ Below w.heap.size w w'
set_option maxHeartbeats 1000000 in
theorem nextWindow_c (a aV : Option Addr) (c cV : Nat) (l V : List (Int × Int)) (w : World) (h : RdP w a l) (hV : RdP w aV V) (hm : mins l) (hn : l.length ≤ 100) (h0 : 0 < V.length) (h8 : V.length ≤ 8) :
    Calls Try.prog 35 #[.slice aV V.length cV, .slice a l.length c] w (WinPost (Sm.nextW l V) w) := by
  have H := Lib.hid h
  have HV := Lib.hid hV
  have HM := Lib.hid hm
  have HN := Lib.hid hn
  have H0 := Lib.hid h0
  have H8 := Lib.hid h8
  clear h hV hm hn h0 h8
  go_enter Try.func35, Try.ntmps35
  go_wp2_with fail
  have hb : Hid (Below w.heap.size w ((w.alloc (.cells #[.slice a l.length c] 34)).alloc (.cells #[.int .i64 0, .int .i64 0] 55))) := ((Below.refl _ _).alloc (Nat.le_refl _) _).alloc (by simp) _
  have hc : Hid (((w.alloc (.cells #[.slice a l.length c] 34)).alloc (.cells #[.int .i64 0, .int .i64 0] 55)).cell? ⟨w.heap.size, 0, none⟩ = some (.slice a l.length c)) := by unfold Hid; simp [go_sem, World.cell?_alloc_past]
  have r0 : Hid (((w.alloc (.cells #[.slice a l.length c] 34)).alloc (.cells #[.int .i64 0, .int .i64 0] 55)).cell? ⟨w.heap.size + 1, 0, none⟩ = some (.int .i64 0)) := by unfold Hid; simp [go_sem, World.cell?_alloc_past]
  have r1 : Hid (((w.alloc (.cells #[.slice a l.length c] 34)).alloc (.cells #[.int .i64 0, .int .i64 0] 55)).cell? ⟨w.heap.size + 1, 1, none⟩ = some (.int .i64 0)) := by unfold Hid; simp [go_sem, World.cell?_alloc_past]
  have fr : Hid (∀ o, ((w.alloc (.cells #[.slice a l.length c] 34)).alloc (.cells #[.int .i64 0, .int .i64 0] 55)).frozen? ⟨w.heap.size + 1, o, none⟩ = false) := fun o => by simp [go_sem]
  have sz : Hid (((w.alloc (.cells #[.slice a l.length c] 34)).alloc (.cells #[.int .i64 0, .int .i64 0] 55)).heap.size = w.heap.size + 2) := by unfold Hid; simp
  generalize (w.alloc (.cells #[.slice a l.length c] 34)).alloc (.cells #[.int .i64 0, .int .i64 0] 55) = w1 at *
  refine (minFunc_c w.heap.size a aV c cV l V w1 (H.out.below hb.out) (HV.out.below hb.out) HM.out HN.out hc.out (by rw [sz.out]; omega) H0.out H8.out).mono ?_
  rintro e w2 ⟨rfl, b2⟩
  have hs := sz.out
  obtain ⟨z, hz⟩ : ∃ z, z = Sm.nextW l V := ⟨_, rfl⟩
  rw [← hz]
  have e0 : w2.cell? ⟨w.heap.size + 1, 0, none⟩ = some (.int .i64 0) := by rw [b2.cell (p := ⟨w.heap.size + 1, 0, none⟩) (show w.heap.size + 1 < _ by omega)]; exact r0.out
  have e1 : w2.cell? ⟨w.heap.size + 1, 1, none⟩ = some (.int .i64 0) := by rw [b2.cell (p := ⟨w.heap.size + 1, 1, none⟩) (show w.heap.size + 1 < _ by omega)]; exact r1.out
  have f0 : w2.frozen? ⟨w.heap.size + 1, 0, none⟩ = false := by rw [b2.frozen (p := ⟨w.heap.size + 1, 0, none⟩) (show w.heap.size + 1 < _ by omega)]; exact fr.out 0
  have f1 : w2.frozen? ⟨w.heap.size + 1, 1, none⟩ = false := by rw [b2.frozen (p := ⟨w.heap.size + 1, 1, none⟩) (show w.heap.size + 1 < _ by omega)]; exact fr.out 1
  have bel : Hid (Below w.heap.size w ((w2.setCell ⟨w.heap.size + 1, 0, none⟩ (.int .i64 z.1)).setCell ⟨w.heap.size + 1, 1, none⟩ (.int .i64 z.2))) :=
    ((hb.out.trans (b2.mono (by omega))).setCell (p := ⟨w.heap.size + 1, 0, none⟩) (Nat.le_succ _) _).setCell (p := ⟨w.heap.size + 1, 1, none⟩) (Nat.le_succ _) _
  have c0 : ((w2.setCell ⟨w.heap.size + 1, 0, none⟩ (.int .i64 z.1)).setCell ⟨w.heap.size + 1, 1, none⟩ (.int .i64 z.2)).cell? ⟨w.heap.size + 1, 0, none⟩ = some (.int .i64 z.1) := by
    rw [World.cell?_setCell_other _ _ _ _ (by simp), World.cell?_setCell_same _ _ _ e0]
  have c1 : ((w2.setCell ⟨w.heap.size + 1, 0, none⟩ (.int .i64 z.1)).setCell ⟨w.heap.size + 1, 1, none⟩ (.int .i64 z.2)).cell? ⟨w.heap.size + 1, 1, none⟩ = some (.int .i64 z.2) := by
    have e : (w2.setCell ⟨w.heap.size + 1, 0, none⟩ (.int .i64 z.1)).cell? ⟨w.heap.size + 1, 1, none⟩ = some (.int .i64 0) := by rw [World.cell?_setCell_other _ _ _ _ (by simp)]; exact e1
    exact World.cell?_setCell_same _ _ _ e
  have C0 := Lib.hid c0
  have C1 := Lib.hid c1
  have HZ := Lib.hid hz
  clear c0 c1 hz hb hc r0 r1 fr sz hs b2
  go_wp2
  have c0 := C0.out
  have c1 := C1.out
  generalize (w2.setCell ⟨w.heap.size + 1, 0, none⟩ (.int .i64 z.1)).setCell ⟨w.heap.size + 1, 1, none⟩ (.int .i64 z.2) = W9 at *
  exact bodyPost_ret (v := .agg #[.int .i64 z.1, .int .i64 z.2]) (by simp [results, Try.results35, go_sem, c0, c1]) rfl ⟨by rw [HZ.out], bel.out⟩
end Go.Proofs.Ytaiiobojlipbeaa
