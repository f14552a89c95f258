/-
  An argument of the type api.Value, opened: its parts, and the list that its Set reads as.
-/
import Derived.Test.YtleiapoaoiapbaaOrdLaw
import Derived.ProofKit
import Derived.OpenShut
import Derived.ShutString
import Derived.ChangeOld
import Derived.Below
import Derived.Lib.SmallJoins
namespace Go.Proofs.Ytleiapoaoiapbaa
open Go.ChangeShapes Go.WideShapes Go.ChangeAt Go.RowKit Go.Joins
open Go.ChangeMaps (open_string shut_string)

theorem laidOut : laidOutB Try.prog = true := by kernel_rfl
theorem own : ownKnob Try.prog.godebug = none := by kernel_rfl
theorem cells24 : Try.prog.cellsOf 24 = 4 := by kernel_rfl
theorem block_lt {W : World} {b o : Nat} {v : Value} (h : W.cell? ⟨b, o, none⟩ = some v) : b < W.heap.size := by
  rcases Nat.lt_or_ge b W.heap.size with l | l
  · exact l
  · simp [World.cell?, Array.getElem?_eq_none l] at h
theorem getD_take (zs : List Int) (n j : Nat) (h : j < n) : (zs.take n).getD j 0 = zs.getD j 0 := by
  simp [h]

theorem open_V {H : Type} {enc : TypeId × Value → H} {W : World} {b0 : Nat} {v : Value} {d : DataW H} {p : List MemPlace}
    (hv : Value.okWide Try.prog W .any b0 24 v) (h : DataW.Trod enc Try.prog W 0 (fun _ => true) true 24 v d p) :
    ∃ a : Vv, v = .agg #[.int .i64 a.k, .int .i64 a.n, .string a.s, a.v] ∧ IsL W a.v a.l := by
  obtain ⟨c0, c1, c2, c3, y0, y1, y2, y3, m, rfl, _, _, h0, h1, h2, h3⟩ := open_agg4 Try.underlying24 (by kernel_rfl) cells24 hv h
  obtain ⟨k, e0, _, _⟩ := DataW.trod_int Try.underlying3 h0
  obtain ⟨n, e1, _, _⟩ := DataW.trod_int Try.underlying3 h1
  obtain ⟨s, e2, _, _⟩ := DataW.trod_string Try.underlying9 h2
  simp only [List.cons.injEq, and_true] at e0 e1 e2
  subst e0 e1 e2
  rcases open_ints Try.underlying22 Try.underlying3 (by kernel_rfl) h3 with ⟨e3, _⟩ | ⟨x, l, c, zs, e3, _, hl, hm, hz, _, hcell, _⟩
  · simp only [List.cons.injEq, and_true] at e3
    subst e3
    exact ⟨⟨k, n, s, _, []⟩, rfl, .inl ⟨none, 0, rfl, rfl⟩⟩
  · simp only [List.cons.injEq, and_true] at e3
    subst e3
    simp only [if_true] at hz
    by_cases hl0 : l = 0
    · subst hl0
      exact ⟨⟨k, n, s, _, []⟩, rfl, .inl ⟨some x, c, rfl, rfl⟩⟩
    · obtain ⟨b, off, spot⟩ := x
      have hc := hcell 0 (by omega)
      have hspot : spot = none := by simpa [Addr.add] using World.cell?_spot hc
      subst hspot
      have hlen : (zs.take l).length = l := by simp; omega
      have hc' : ∀ i, i < zs.length → W.cell? ⟨b, off + i, none⟩ = some (.int .i64 (zs.getD i 0)) := fun i hi => by
        have e := hcell i hi
        unfold Addr.add at e
        split at e
        · rename_i h0; subst h0; simpa using e
        · exact e
      have hl2 : l ≤ 9223372036854775807 := by unfold maxLen at hm; omega
      refine ⟨⟨k, n, s, _, zs.take l⟩, rfl, .inr ⟨b, off, c, by simp only [hlen], by simp only [hlen]; omega, by simp only [hlen]; exact hl2, block_lt (hc' 0 (by omega)), fun j hj => ?_⟩⟩
      simp only [hlen] at hj
      show _ = some (Value.int .i64 ((zs.take l).getD j 0))
      rw [getD_take _ _ _ hj]
      exact hc' j (by omega)
end Go.Proofs.Ytleiapoaoiapbaa
