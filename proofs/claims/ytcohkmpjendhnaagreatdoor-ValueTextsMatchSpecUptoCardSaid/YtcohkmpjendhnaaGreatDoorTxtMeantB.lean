/-
  What Read of package value makes of a text: days and sets.
-/
import Derived.Test.YtcohkmpjendhnaaGreatDoorTxtMeantA
attribute [local go_sem ↓] Go.wp_at_zero Go.wp_at_succ
namespace Go.Proofs.YtcohkmpjendhnaaGreatDoor
open Go.RowKit

/-- What a cell holds. -/
def held (W : World) (a : Addr) : Value := (W.cell? a).getD undef
theorem held_of {W : World} {a : Addr} (h : (W.cell? a).isSome = true) : W.cell? a = some (held W a) := by
  obtain ⟨v, hv⟩ := Option.isSome_iff_exists.1 h
  unfold held; rw [hv]; rfl
/-- The result's box lies behind what was there, which has not changed. -/
def Cell4 (w W : World) : Prop :=
  W.cell? ⟨w.heap.size, 0, none⟩ = some (held W ⟨w.heap.size, 0, none⟩) ∧ W.cell? ⟨w.heap.size, 1, none⟩ = some (held W ⟨w.heap.size, 1, none⟩) ∧ W.cell? ⟨w.heap.size, 2, none⟩ = some (held W ⟨w.heap.size, 2, none⟩) ∧ W.cell? ⟨w.heap.size, 3, none⟩ = some (held W ⟨w.heap.size, 3, none⟩) ∧
  W.frozen? ⟨w.heap.size, 0, none⟩ = false ∧ W.frozen? ⟨w.heap.size, 1, none⟩ = false ∧ W.frozen? ⟨w.heap.size, 2, none⟩ = false ∧ W.frozen? ⟨w.heap.size, 3, none⟩ = false ∧ Hid (Below w.heap.size w W ∧ w.heap.size < W.heap.size)
theorem Cell4.keep {w W W' : World} (h : Cell4 w W) (hb : Below W.heap.size W W') : Cell4 w W' := by
  obtain ⟨c0, c1, c2, c3, f0, f1, f2, f3, hh⟩ := h
  obtain ⟨hB, hs⟩ := hh.out
  have f := fun (o : Nat) => hb.cell (p := ⟨w.heap.size, o, none⟩) hs
  have g := fun (o : Nat) => hb.frozen (p := ⟨w.heap.size, o, none⟩) hs
  exact ⟨held_of (by rw [f, c0]; rfl), held_of (by rw [f, c1]; rfl), held_of (by rw [f, c2]; rfl), held_of (by rw [f, c3]; rfl), by rw [g]; exact f0, by rw [g]; exact f1, by rw [g]; exact f2, by rw [g]; exact f3, hB.trans (hb.mono hB.size), Nat.lt_of_lt_of_le hs hb.size⟩
theorem Cell4.bel {w W : World} (h : Cell4 w W) : Below w.heap.size w W := h.2.2.2.2.2.2.2.2.out.1
theorem isSome_set {W : World} {a b : Addr} {x : Value} (h : (W.cell? b).isSome = true) : ((W.setCell a x).cell? b).isSome = true := by
  by_cases e : a = b
  · subst e; rw [World.cell?_setCell_same' _ _ _ h]; rfl
  · rw [World.cell?_setCell_other _ _ _ _ e]; exact h
theorem Cell4.set {w W : World} (h : Cell4 w W) (o : Nat) (x : Value) : Cell4 w (W.setCell ⟨w.heap.size, o, none⟩ x) := by
  obtain ⟨c0, c1, c2, c3, f0, f1, f2, f3, hh⟩ := h
  obtain ⟨hB, hs⟩ := hh.out
  exact ⟨held_of (isSome_set (by rw [c0]; rfl)), held_of (isSome_set (by rw [c1]; rfl)), held_of (isSome_set (by rw [c2]; rfl)), held_of (isSome_set (by rw [c3]; rfl)), by rw [World.frozen?_setCell]; exact f0, by rw [World.frozen?_setCell]; exact f1, by rw [World.frozen?_setCell]; exact f2, by rw [World.frozen?_setCell]; exact f3, hB.setCell (p := ⟨w.heap.size, o, none⟩) (Nat.le_refl _) _, by simpa using hs⟩
theorem Cell4.set4 {w W : World} (h : Cell4 w W) (x0 x1 x2 x3 : Value) : Cell4 w ((((W.setCell ⟨w.heap.size, 0, none⟩ x0).setCell ⟨w.heap.size, 1, none⟩ x1).setCell ⟨w.heap.size, 2, none⟩ x2).setCell ⟨w.heap.size, 3, none⟩ x3) :=
  (((h.set 0 x0).set 1 x1).set 2 x2).set 3 x3
theorem Cell4.start (w : World) : Cell4 w (w.alloc (.cells #[.int .i64 0, .int .i64 0, .string ⟨#[]⟩, .slice none 0 0] 24)) :=
  ⟨held_of (by simp [go_sem]), held_of (by simp [go_sem]), held_of (by simp [go_sem]), held_of (by simp [go_sem]), by simp [go_sem], by simp [go_sem], by simp [go_sem], by simp [go_sem], box_bel _ _, by simp⟩
theorem nat_bx (t : ByteArray) (a b : Nat) (w W : World) (h : Cell4 w W) (hE : Hid (Env w)) (ht : t.size ≤ 2000000) :
    Calls Tryz.prog 40 #[.string (t.extract a b)] W fun e w' => e = .returned (.int .i64 (Txt.natF ((t.data.toList.drop a).take (b - a)))) ∧ Cell4 w w' := by
  have e : (t.extract a b).data.toList = (t.data.toList.drop a).take (b - a) := Lib.extract_data t a b
  have hs : (t.extract a b).size ≤ 2000000 := by
    rw [Lib.size_eq, e, List.length_take, List.length_drop, ← Lib.size_eq]; omega
  have := natural_c (t.extract a b) W (hE.out.below h.bel) (by omega)
  rw [e] at this
  exact this.mono fun _ _ ⟨he, hb⟩ => ⟨he, h.keep hb⟩
theorem date_bx (y m d : Int) (w W : World) (h : Cell4 w W) (hE : Hid (Env w)) :
    Calls Tryz.prog 70 #[.int .i64 y, .int .i64 m, .int .i64 d] W fun e w' => e = .returned (kn (dk y m d) (dn y m d)) ∧ Cell4 w w' :=
  (Date_any y m d W (hE.out.below h.bel).tab).mono fun _ _ ⟨he, hb⟩ => ⟨he, h.keep hb⟩

set_option maxHeartbeats 4000000 in
theorem meantDay_c (t : ByteArray) (w : World) (hE : Env w) (hs : t.size ≤ 2000000) :
    Calls Tryz.prog 42 #[.string t] w (KN (dayK t.data.toList) (dayN t.data.toList) w) := by
  by_cases h10 : t.size = 10
  · have k1 : Hid (dayK t.data.toList = dk (Txt.natF (t.data.toList.take 4)) (Txt.natF ((t.data.toList.drop 5).take 2)) (Txt.natF ((t.data.toList.drop 8).take (t.size - 8)))) := by
      unfold Hid dayK; rw [if_pos (by rw [← Lib.size_eq]; exact h10)]
      have : (t.data.toList.drop 8).take (t.size - 8) = t.data.toList.drop 8 := List.take_of_length_le (by rw [List.length_drop, ← Lib.size_eq]; exact Nat.le_refl _)
      rw [this]
    have n1 : Hid (dayN t.data.toList = dn (Txt.natF (t.data.toList.take 4)) (Txt.natF ((t.data.toList.drop 5).take 2)) (Txt.natF ((t.data.toList.drop 8).take (t.size - 8)))) := by
      unfold Hid dayN; rw [if_pos (by rw [← Lib.size_eq]; exact h10)]
      have : (t.data.toList.drop 8).take (t.size - 8) = t.data.toList.drop 8 := List.take_of_length_le (by rw [List.length_drop, ← Lib.size_eq]; exact Nat.le_refl _)
      rw [this]
    have hne : ((t.size : Int) != 10) = false := by simp; omega
    have hle : (8 : Int) ≤ t.size := by omega
    have hle2 : (7 : Int) ≤ t.size := by omega
    have hle3 : (4 : Int) ≤ t.size := by omega
    have hS := Lib.hid (Cell4.start w)
    have HE := Lib.hid hE
    have H10 := Lib.hid h10; clear h10 hE
    go_enter Tryz.func42, Tryz.ntmps42
    go_wp2
    have B0 := hS.out
    generalize w.alloc (.cells #[.int .i64 0, .int .i64 0, .string ⟨#[]⟩, .slice none 0 0] 24) = W0 at B0 hS
    clear hS
    go_region_held3 (fun W => W.cell? ⟨w.heap.size, 0, none⟩ = some (held W ⟨w.heap.size, 0, none⟩) ∧ W.cell? ⟨w.heap.size, 1, none⟩ = some (held W ⟨w.heap.size, 1, none⟩) ∧ W.cell? ⟨w.heap.size, 2, none⟩ = some (held W ⟨w.heap.size, 2, none⟩) ∧ W.cell? ⟨w.heap.size, 3, none⟩ = some (held W ⟨w.heap.size, 3, none⟩) ∧
      W.frozen? ⟨w.heap.size, 0, none⟩ = false ∧ W.frozen? ⟨w.heap.size, 1, none⟩ = false ∧ W.frozen? ⟨w.heap.size, 2, none⟩ = false ∧ W.frozen? ⟨w.heap.size, 3, none⟩ = false ∧ Hid (Below w.heap.size w W ∧ w.heap.size < W.heap.size)) ((first | exact B0.keep (Below.refl _ _).drew | assumption | (refine Cell4.set4 ?_ _ _ _ _; assumption)))
      (first | (go_at_call 40; (with_reducible refine (nat_bx t _ _ w _ ?_ HE hs).mono ?_); assumption; rintro e w' ⟨rfl, hbx⟩) | (go_at_call 70; (with_reducible refine (date_bx _ _ _ w _ ?_ HE).mono ?_); assumption; rintro e w' ⟨rfl, hbx⟩))
    obtain ⟨c0, c1, c2, c3, _, _, _, _, hh⟩ := hbx
    have HB := Lib.hid hh.out.1
    clear hh
    go_wp2
    refine bodyPost_ret (v := kn (dk (Txt.natF (t.data.toList.take 4)) (Txt.natF ((t.data.toList.drop 5).take 2)) (Txt.natF ((t.data.toList.drop 8).take (t.size - 8)))) (dn (Txt.natF (t.data.toList.take 4)) (Txt.natF ((t.data.toList.drop 5).take 2)) (Txt.natF ((t.data.toList.drop 8).take (t.size - 8))))) (by simp [results, Tryz.results42, go_sem, c0, c1, c2, c3]) rfl ⟨by rw [k1.out, n1.out], ?_⟩
    exact below4 HB.out (Nat.le_refl _) _ _ _ _
  · have k1 : Hid (dayK t.data.toList = 0) := by unfold Hid dayK; rw [if_neg (by rw [← Lib.size_eq]; exact h10)]
    have n1 : Hid (dayN t.data.toList = 0) := by unfold Hid dayN; rw [if_neg (by rw [← Lib.size_eq]; exact h10)]
    have hne : ((t.size : Int) != 10) = true := by simp; omega
    clear h10 hE
    go_enter Tryz.func42, Tryz.ntmps42
    go_wp2
    rw [k1.out, n1.out]
    refine bodyPost_ret (v := kn 0 0) (by simp [results, Tryz.results42, go_sem]) rfl ⟨rfl, ?_⟩
    exact (Below.refl _ _).alloc (Nat.le_refl _) _
end Go.Proofs.YtcohkmpjendhnaaGreatDoor
