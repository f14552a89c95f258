/-
  Numbers of any size: as many steps as the highest bits decide.
-/
import Derived.Test.YtaibpppobblnoaaDoorWhLeh
namespace Go.Proofs.YtaibpppobblnoaaDoor
open Go.RowKit

/-- A box of six cells. -/
structure SBox (W : World) (g : Nat) (x0 x1 x2 x3 x4 x5 : Value) : Prop where
  c0 : W.cell? ⟨g, 0, none⟩ = some x0
  c1 : W.cell? ⟨g, 1, none⟩ = some x1
  c2 : W.cell? ⟨g, 2, none⟩ = some x2
  c3 : W.cell? ⟨g, 3, none⟩ = some x3
  c4 : W.cell? ⟨g, 4, none⟩ = some x4
  c5 : W.cell? ⟨g, 5, none⟩ = some x5
  fr : ∀ o, W.frozen? ⟨g, o, none⟩ = false
  lt : g < W.heap.size
theorem SBox.keep {W W' : World} {g : Nat} {x0 x1 x2 x3 x4 x5 : Value} (h : SBox W g x0 x1 x2 x3 x4 x5) (hb : Below W.heap.size W W') : SBox W' g x0 x1 x2 x3 x4 x5 := by
  have c := fun (o : Nat) => hb.cell (p := ⟨g, o, none⟩) h.lt
  exact ⟨(c 0).trans h.c0, (c 1).trans h.c1, (c 2).trans h.c2, (c 3).trans h.c3, (c 4).trans h.c4, (c 5).trans h.c5, fun o => (hb.frozen (p := ⟨g, o, none⟩) h.lt).trans (h.fr o), Nat.lt_of_lt_of_le h.lt hb.size⟩
theorem SBox.made (W : World) (x0 x1 x2 x3 x4 x5 : Value) (T : TypeId) : SBox (W.alloc (.cells #[x0, x1, x2, x3, x4, x5] T)) W.heap.size x0 x1 x2 x3 x4 x5 := by
  refine ⟨?_, ?_, ?_, ?_, ?_, ?_, fun o => by simp, by simp⟩
  all_goals (rw [World.cell?_alloc_new]; rfl)
/-- All six cells are stored. -/
def six (W : World) (g : Nat) (y0 y1 y2 y3 y4 y5 : Value) : World :=
  (((((W.setCell ⟨g, 0, none⟩ y0).setCell ⟨g, 1, none⟩ y1).setCell ⟨g, 2, none⟩ y2).setCell ⟨g, 3, none⟩ y3).setCell ⟨g, 4, none⟩ y4).setCell ⟨g, 5, none⟩ y5
theorem six_size (W : World) (g : Nat) (y0 y1 y2 y3 y4 y5 : Value) : (six W g y0 y1 y2 y3 y4 y5).heap.size = W.heap.size := by unfold six; simp
theorem SBox.set {W : World} {g : Nat} {x0 x1 x2 x3 x4 x5 : Value} (h : SBox W g x0 x1 x2 x3 x4 x5) (y0 y1 y2 y3 y4 y5 : Value) : SBox (six W g y0 y1 y2 y3 y4 y5) g y0 y1 y2 y3 y4 y5 := by
  have hne : ∀ {i j : Nat}, i ≠ j → (⟨g, i, none⟩ : Addr) ≠ ⟨g, j, none⟩ := fun h e => by injection e with _ e2; exact h e2
  unfold six
  refine ⟨?_, ?_, ?_, ?_, ?_, ?_, fun o => by simp only [World.frozen?_setCell]; exact h.fr o, by simpa using h.lt⟩
  · rw [World.cell?_setCell_other _ _ _ _ (hne (by decide)), World.cell?_setCell_other _ _ _ _ (hne (by decide)), World.cell?_setCell_other _ _ _ _ (hne (by decide)), World.cell?_setCell_other _ _ _ _ (hne (by decide)), World.cell?_setCell_other _ _ _ _ (hne (by decide)), World.cell?_setCell_same _ _ _ h.c0]
  · rw [World.cell?_setCell_other _ _ _ _ (hne (by decide)), World.cell?_setCell_other _ _ _ _ (hne (by decide)), World.cell?_setCell_other _ _ _ _ (hne (by decide)), World.cell?_setCell_other _ _ _ _ (hne (by decide)), World.cell?_setCell_same _ _ _ (u := x1) (by rw [World.cell?_setCell_other _ _ _ _ (hne (by decide))]; exact h.c1)]
  · rw [World.cell?_setCell_other _ _ _ _ (hne (by decide)), World.cell?_setCell_other _ _ _ _ (hne (by decide)), World.cell?_setCell_other _ _ _ _ (hne (by decide)), World.cell?_setCell_same _ _ _ (u := x2) (by rw [World.cell?_setCell_other _ _ _ _ (hne (by decide)), World.cell?_setCell_other _ _ _ _ (hne (by decide))]; exact h.c2)]
  · rw [World.cell?_setCell_other _ _ _ _ (hne (by decide)), World.cell?_setCell_other _ _ _ _ (hne (by decide)), World.cell?_setCell_same _ _ _ (u := x3) (by rw [World.cell?_setCell_other _ _ _ _ (hne (by decide)), World.cell?_setCell_other _ _ _ _ (hne (by decide)), World.cell?_setCell_other _ _ _ _ (hne (by decide))]; exact h.c3)]
  · rw [World.cell?_setCell_other _ _ _ _ (hne (by decide)), World.cell?_setCell_same _ _ _ (u := x4) (by rw [World.cell?_setCell_other _ _ _ _ (hne (by decide)), World.cell?_setCell_other _ _ _ _ (hne (by decide)), World.cell?_setCell_other _ _ _ _ (hne (by decide)), World.cell?_setCell_other _ _ _ _ (hne (by decide))]; exact h.c4)]
  · rw [World.cell?_setCell_same _ _ _ (u := x5) (by rw [World.cell?_setCell_other _ _ _ _ (hne (by decide)), World.cell?_setCell_other _ _ _ _ (hne (by decide)), World.cell?_setCell_other _ _ _ _ (hne (by decide)), World.cell?_setCell_other _ _ _ _ (hne (by decide)), World.cell?_setCell_other _ _ _ _ (hne (by decide))]; exact h.c5)]
theorem SBox.other {W : World} {g h : Nat} {x0 x1 x2 x3 x4 x5 : Value} (hb : SBox W g x0 x1 x2 x3 x4 x5) (hne : h ≠ g) (y0 y1 y2 y3 y4 y5 : Value) : SBox (six W h y0 y1 y2 y3 y4 y5) g x0 x1 x2 x3 x4 x5 := by
  have hne' : ∀ {i j : Nat}, (⟨h, i, none⟩ : Addr) ≠ ⟨g, j, none⟩ := fun e => by injection e with e1 _; exact hne e1
  have e : ∀ o, (six W h y0 y1 y2 y3 y4 y5).cell? ⟨g, o, none⟩ = W.cell? ⟨g, o, none⟩ := fun o => by
    unfold six
    rw [World.cell?_setCell_other _ _ _ _ hne', World.cell?_setCell_other _ _ _ _ hne', World.cell?_setCell_other _ _ _ _ hne', World.cell?_setCell_other _ _ _ _ hne', World.cell?_setCell_other _ _ _ _ hne', World.cell?_setCell_other _ _ _ _ hne']
  exact ⟨(e 0).trans hb.c0, (e 1).trans hb.c1, (e 2).trans hb.c2, (e 3).trans hb.c3, (e 4).trans hb.c4, (e 5).trans hb.c5, fun o => by unfold six; simp only [World.frozen?_setCell]; exact hb.fr o, by rw [six_size]; exact hb.lt⟩
theorem below_six {W0 W : World} {g : Nat} (h : Below W0.heap.size W0 W) (hg : W0.heap.size ≤ g) (y0 y1 y2 y3 y4 y5 : Value) : Below W0.heap.size W0 (six W g y0 y1 y2 y3 y4 y5) :=
  (((((h.setCell (p := ⟨g, 0, none⟩) hg y0).setCell (p := ⟨g, 1, none⟩) hg y1).setCell (p := ⟨g, 2, none⟩) hg y2).setCell (p := ⟨g, 3, none⟩) hg y3).setCell (p := ⟨g, 4, none⟩) hg y4).setCell (p := ⟨g, 5, none⟩) hg y5
/-- What the steps do to two numbers. -/
def StepOk (n1 n2 : Nat) (odd : Bool) (a0 b0 a1 b1 : Nat) : Prop := ∃ a' b', Cmb odd a0 b0 a1 b1 n1 n2 a' b' ∧ b' < a' ∧ a' ≤ n2 ∧ Nat.gcd a' b' = Nat.gcd n1 n2
def StepPost (n1 n2 : Nat) (w : World) (e : Ending) (w' : World) : Prop :=
  ∃ a0 b0 a1 b1 odd made, e = .returned (stepV a0 b0 a1 b1 odd made) ∧ a0 < 18446744073709551616 ∧ b0 < 18446744073709551616 ∧ a1 < 18446744073709551616 ∧ b1 < 18446744073709551616 ∧ (made = true → StepOk n1 n2 odd a0 b0 a1 b1) ∧ Below w.heap.size w w'
/-- The highest bits of two numbers. -/
theorem heads {f1 f2 : Nat → Nat} {z k2 n1 n2 s : Nat} (hf1 : Lb f1 (z + 2)) (hs1 : S f1 (z + 2) = n1) (hk2 : k2 ≤ z + 2) (hf2 : Lb f2 k2) (hs2 : S f2 k2 = n2) (hle : n2 ≤ n1) (hs : s < 64) (ht : f1 (z + 1) * 2 ^ s < 18446744073709551616) :
    ∃ HA HB P la lb, HA < 18446744073709551616 ∧ HB ≤ HA ∧ la < P ∧ lb < P ∧ n1 = HA * P + la ∧ n2 = HB * P + lb ∧ ext f2 k2 (z + 1) * 2 ^ s < 18446744073709551616 ∧
      HA = (ext f1 (z + 2) (z + 1) * 2 ^ s ||| ext f1 (z + 2) z / 2 ^ (64 - s)) ∧ HB = (ext f2 k2 (z + 1) * 2 ^ s ||| ext f2 k2 z / 2 ^ (64 - s)) := by
  have hp : 0 < bp z * 2 ^ (64 - s) := Nat.mul_pos (bp_pos z) (Nat.pow_pos (by decide))
  have hl2 : Lb (ext f2 k2) (z + 2) := fun j _ => by
    by_cases e : j < k2
    · rw [ext_in e]; exact hf2 j e
    · rw [ext_out (by omega)]; decide
  have e2 : n2 = (ext f2 k2 (z + 1) * 18446744073709551616 + ext f2 k2 z) * bp z + S (ext f2 k2) z := by
    rw [← hs2, ← S_ext f2 hk2, S_succ, S_succ, bp_succ]; grind
  have e1 : n1 = (f1 (z + 1) * 18446744073709551616 + f1 z) * bp z + S f1 z := by
    rw [← hs1, S_succ, S_succ, bp_succ]; grind
  have r1 : S f1 z < bp z := S_lt (fun j hj => hf1 j (by omega))
  have r2 : S (ext f2 k2) z < bp z := S_lt (fun j hj => hl2 j (by omega))
  have hh : ext f2 k2 (z + 1) ≤ f1 (z + 1) := by
    rcases Nat.lt_or_ge (f1 (z + 1)) (ext f2 k2 (z + 1)) with l | l
    · exfalso
      have a := hf1 z (by omega)
      have b : (f1 (z + 1) + 1) * (18446744073709551616 * bp z) ≤ ext f2 k2 (z + 1) * (18446744073709551616 * bp z) := Nat.mul_le_mul_right _ l
      have c : (f1 z + 1) * bp z ≤ 18446744073709551616 * bp z := Nat.mul_le_mul_right _ a
      have d1 : n1 = f1 (z + 1) * (18446744073709551616 * bp z) + f1 z * bp z + S f1 z := by rw [e1]; grind
      have d2 : n2 = ext f2 k2 (z + 1) * (18446744073709551616 * bp z) + ext f2 k2 z * bp z + S (ext f2 k2) z := by rw [e2]; grind
      rw [Nat.add_mul, Nat.one_mul] at b c
      omega
    · exact l
  have ht2 : ext f2 k2 (z + 1) * 2 ^ s < 18446744073709551616 := Nat.lt_of_le_of_lt (Nat.mul_le_mul_right _ hh) ht
  have w1 := win_bits e1 r1 hs (hf1 z (by omega)) ht
  have w2 := win_bits e2 r2 hs (hl2 z (by omega)) ht2
  refine ⟨n1 / (bp z * 2 ^ (64 - s)), n2 / (bp z * 2 ^ (64 - s)), bp z * 2 ^ (64 - s), n1 % (bp z * 2 ^ (64 - s)), n2 % (bp z * 2 ^ (64 - s)), w1.2, Nat.div_le_div_right hle, Nat.mod_lt _ hp, Nat.mod_lt _ hp, (Nat.div_add_mod' _ _).symm, (Nat.div_add_mod' _ _).symm, ht2, ?_, w2.1.symm⟩
  rw [ext_in (by omega), ext_in (by omega)]
  exact w1.1.symm
end Go.Proofs.YtaibpppobblnoaaDoor
