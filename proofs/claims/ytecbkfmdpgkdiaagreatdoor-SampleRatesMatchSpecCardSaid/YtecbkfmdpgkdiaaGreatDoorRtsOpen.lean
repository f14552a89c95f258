/-
  An argument of the type []int, opened: the list that it reads as.
-/
import Derived.Test.YtecbkfmdpgkdiaaGreatDoorRtsRd
import Derived.ProofKit
import Derived.OpenShut
import Derived.ShutString
import Derived.ChangeOld
import Derived.Below
import Derived.Lib.SmallJoins
namespace Go.Proofs.YtecbkfmdpgkdiaaGreatDoor
open Go.ChangeShapes Go.WideShapes Go.ChangeAt Go.RowKit Go.Joins

theorem laidOut : laidOutB Tryz.prog = true := by kernel_rfl
theorem own : ownKnob Tryz.prog.godebug = none := by kernel_rfl
theorem block_lt {W : World} {b o : Nat} {v : Value} (h : W.cell? ⟨b, o, none⟩ = some v) : b < W.heap.size := by
  rcases Nat.lt_or_ge b W.heap.size with l | l
  · exact l
  · simp [World.cell?, Array.getElem?_eq_none l] at h
theorem getD_take (zs : List Int) (n j : Nat) (h : j < n) : (zs.take n).getD j 0 = zs.getD j 0 := by
  simp [h]
set_option maxRecDepth 100000 in
theorem open_L {H : Type} {enc : TypeId × Value → H} {W : World} {b0 : Nat} {v : Value} {d : DataW H} {p : List MemPlace} (hv : Value.okWide Tryz.prog W .any b0 24 v) (h : DataW.Trod enc Tryz.prog W 0 (fun _ => true) true 24 v d p) :
    ∃ a l c, v = .slice a (List.length l) c ∧ Rd W a l ∧ (List.length l = 0 ∨ ∃ e s, d = .slice e s ∧ List.length l ≤ e.length) := by
  obtain ⟨a0, len, cap, rfl⟩ := okWide_slice Tryz.underlying24 hv
  obtain ⟨m, h⟩ := h
  rcases open_ints Tryz.underlying24 Tryz.underlying3 (by kernel_rfl) h with ⟨e3, _⟩ | ⟨x, l', c', zs, e3, _, hl, hm, hz, hx, hcell, _⟩
  · simp [Value.cells] at e3
    obtain ⟨rfl, rfl, rfl⟩ := e3
    exact ⟨none, [], 0, rfl, Rd.none_ W, .inl rfl⟩
  · simp [Value.cells] at e3
    obtain ⟨rfl, rfl, rfl⟩ := e3
    simp only [if_true] at hz
    by_cases hl0 : len = 0
    · subst hl0
      exact ⟨some x, [], cap, rfl, ⟨by simp, fun h => by simp at h⟩, .inl rfl⟩
    · obtain ⟨b, off, spot⟩ := x
      have hc := hcell 0 (by omega)
      have hspot : spot = none := by simpa [Addr.add] using World.cell?_spot hc
      subst hspot
      have hlen : (zs.take len).length = len := by simp; omega
      have hc' : ∀ i, i < zs.length → W.cell? ⟨b, off + i, none⟩ = some (.int .i64 (zs.getD i 0)) := fun i hi => by
        have e := hcell i hi
        unfold Addr.add at e
        split at e
        · rename_i h0; subst h0; simpa using e
        · exact e
      simp only [Prod.mk.injEq] at hx
      refine ⟨_, zs.take len, cap, by rw [hlen], ⟨by rw [hlen]; unfold maxLen at hm; omega, fun _ => ⟨b, off, rfl, block_lt (hc' 0 (by omega)), fun j hj => ?_⟩⟩, .inr ⟨_, _, hx.1, by simp [lits]⟩⟩
      rw [hlen] at hj
      unfold fn
      rw [getD_take _ _ _ hj]
      exact hc' j (by omega)
end Go.Proofs.YtecbkfmdpgkdiaaGreatDoor
