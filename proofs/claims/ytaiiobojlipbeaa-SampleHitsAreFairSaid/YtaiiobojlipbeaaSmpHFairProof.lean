/-
  SampleHitsAreFair: for every list of ints and every int the law returns true: all starts together hit each element as its size says, and each start hits as many as are taken. No condition.
-/
import Derived.Test.YtaiiobojlipbeaaSmpHFair
import Derived.SizedLaws
namespace Go.Proofs.Ytaiiobojlipbeaa.lawHFair
open Go.ChangeShapes Go.WideShapes Go.ChangeAt Go.RowKit

theorem bytesI : Try.prog.bytesOf 3 = 8 := by kernel_rfl
theorem law (a : Option Addr) (c : Nat) (l : List Int) (t : Int) (w : World) (h : Rd w a l) (hreach : l.length * 8 ≤ 140737488351232) :
    Calls Try.prog 6 #[.slice a l.length c, .int .i64 t] w fun e w' => e = .returned (.bool true) ∧ Below w.heap.size w w' := by
  by_cases hl : small l
  · by_cases ho : 2000 < Sm.pre (fn l) l.length ∨ (Sm.pre (fn l) l.length ≤ 2000 ∧ t < 0) ∨ (Sm.pre (fn l) l.length ≤ 2000 ∧ 0 ≤ t ∧ 100 < t)
    · exact hfair_out a c l t w h hreach hl ho
    · obtain ⟨T, rfl⟩ := Int.eq_ofNat_of_zero_le (show 0 ≤ t by omega)
      exact hfair_yes a c l T w h hl (by omega) (by omega)
  · exact hfair_bad a c l t w h hreach hl

set_option maxRecDepth 100000 in
theorem lifted (os : Os) (started : os.Started) (H : Type) (enc : TypeId × Value → H) :
    ReturnsInHanded {} Try.checked os 6 .any (Rows.sampleHitsAreFairSpec.pre6 enc Try.prog Try.f6 Rows.sampleHitsAreFairRow.domain false) (Rows.sampleHitsAreFairSpec.post enc Try.prog Try.f6 false true false false) := by
  refine returnsInHanded_of_change_sized (C := Try.checked) own started (by kernel_rfl) Try.func6
    (ChangeSpec.witness6 (enc := enc) (C := Try.checked) false ⟨#[], #[.slice none 0 0, .int .i64 0], []⟩ 8 (by kernel_rfl) (by kernel_rfl) (by kernel_rfl) (by kernel_rfl)) ?_
  intro W base args ds gs before hval0 hW hcnd hsz0 _
  have hval : ∀ (j : Nat) t v, Try.f6.params[j]? = some t → args[j]? = some v → Value.okWide Try.prog W .any base t v := hval0
  have hsz : (DataW.weightsEach Try.prog (Try.f6.params.toList ++ Rows.sampleHitsAreFairSpec.plain.varTypes Try.prog) (ds ++ gs)).all (· ≤ reachBytes) = true := hsz0
  have hW' := hW
  obtain ⟨p, q, hA0, hV, rfl, hfz, hnd⟩ := hW
  have hA : DataW.TrodAll enc Try.prog W 0 (fun _ => true) true Try.f6.params.toList args.toList ds p := hA0
  rw [Try.params6] at hA hval hsz
  obtain ⟨v0, vs0, d0, ds0, p0, q0, hargs, rfl, rfl, h0, r0⟩ := trodAll_cons hA
  obtain ⟨v1, vs1, d1, ds1, p1, q1, rfl, rfl, rfl, h1, r1⟩ := trodAll_cons r0
  obtain ⟨rfl, rfl, rfl⟩ := trodAll_nil r1
  obtain rfl : args = #[v0, v1] := by cases args; simp_all
  obtain ⟨rfl, rfl⟩ := trodVars_none hV
  have k0 := h0
  have lt0 : ∀ x ∈ p0, x.block < W.heap.size := by obtain ⟨m, hm⟩ := k0; exact DataW.trod_lt m _ _ _ hm
  obtain ⟨a1, l1, c1, rfl, hr1, hd1⟩ := open_L (hval 0 22 v0 rfl rfl) h0
  obtain ⟨T, rfl, rfl, rfl, wT⟩ := open_int Try.underlying3 (hval 1 3 v1 rfl rfl) h1
  have hreach : l1.length * 8 ≤ 140737488351232 := by
    rcases hd1 with hd1 | ⟨es, ss, rfl, hd1⟩
    · omega
    · have h := sized_slice hsz (j := 0) (t := 22) (e := 3) rfl rfl Try.underlying22
      rw [bytesI] at h
      simp only [reachBytes] at h
      omega
  clear hA0 hval0
  refine (law a1 c1 l1 T W hr1 hreach).mono fun e W' ⟨he, bel⟩ => ?_
  subst he
  exact ⟨_, rfl, _, _, _, [], _, [], hW', trodAll_mk1 (shut_bool Try.underlying4 _), (trodAll_cons_mk (Below.trod laidOut (by kernel_rfl) (of_decide_eq_true (by kernel_rfl)) k0 bel lt0) (trodAll_cons_mk (shut_int Try.underlying3 wT) trodAll_mk0)), rfl, bel.frame _, fun h => by cases h⟩

theorem over : Rows.sampleHitsAreFairRow.holds Try.pinned (OpenSpec.ofChange Rows.sampleHitsAreFairSpec) :=
  OpenClaim.holds_of_wide 6 Try.f6 rfl rfl rfl rfl rfl rfl rfl ⟨rfl, rfl, rfl, rfl, rfl⟩ rfl rfl rfl rfl rfl (by kernel_rfl) Try.func6 (by kernel_rfl)
    (of_decide_eq_true (by kernel_rfl)) (by unfold Func.isWrapper; first | (rw [if_pos (by decide +kernel)]; kernel_rfl) | (rw [if_neg (by decide +kernel)]; exact ⟨rfl, rfl⟩))
    (fun os started H enc _ => lifted os started H enc)

/-- For every list of ints and every int the law returns true. -/
theorem proved : Rows.SampleHitsAreFairSaid := over
#print axioms proved
end Go.Proofs.Ytaiiobojlipbeaa.lawHFair
