/-
  SampleSharesAreFair: for every three lists of ints and every int the law returns true: the parts of Allocate keep their bounds and their sum, and no part could give 1 to another one with a greater quotient. No condition.
-/
import Derived.Test.YtaiiobojlipbeaaSmpFair
import Derived.Test.YtaiiobojlipbeaaSmpOpen
namespace Go.Proofs.Ytaiiobojlipbeaa.lawFair
open Go.ChangeShapes Go.WideShapes Go.ChangeAt Go.RowKit

theorem law (a1 a2 a3 : Option Addr) (c1 c2 c3 : Nat) (l1 l2 l3 : List Int) (T : Int) (w : World) (h1 : Rd w a1 l1) (h2 : Rd w a2 l2) (h3 : Rd w a3 l3) :
    Calls Try.prog 4 #[.slice a1 l1.length c1, .slice a2 l2.length c2, .slice a3 l3.length c3, .int .i64 T] w (TruePost w) := by
  by_cases e : l1.length ≠ l2.length ∨ (l1.length = l2.length ∧ l1.length ≠ l3.length)
  · exact fair_no _ _ _ _ _ _ _ _ _ T 3 w (by omega) (Allocate_chk _ _ _ _ _ _ _ _ _ T 3 w (by omega) (checkParts_lens _ _ _ _ _ _ _ _ _ w e))
  · have e2 : l1.length = l2.length := by omega
    have e3 : l1.length = l3.length := by omega
    by_cases hn : l1.length ≤ 40
    · by_cases hg : ∀ j, j < l1.length → good (fn l1) (fn l2) (fn l3) j
      · have s2 : Sums l2 := Sums.of (B := 5000) (fun j hj => by have h := hg j (by omega); unfold good at h; omega) (by omega) (by omega)
        have s3 : Sums l3 := Sums.of (B := 5000) (fun j hj => by have h := hg j (by omega); unfold good at h; omega) (by omega) (by omega)
        by_cases hT : T < Sm.pre (fn l2) l2.length
        · exact fair_no _ _ _ _ _ _ _ _ _ T 1 w (by omega) (Allocate_few a1 a2 a3 c1 c2 c3 l1 l2 l3 T w h1 h2 h3 e2 e3 hn hg s2 hT)
        · by_cases hT2 : Sm.pre (fn l3) l3.length < T
          · exact fair_no _ _ _ _ _ _ _ _ _ T 15 w (by omega) (Allocate_many a1 a2 a3 c1 c2 c3 l1 l2 l3 T w h1 h2 h3 e2 e3 hn hg s2 s3 (by omega) hT2)
          · obtain ⟨hf, hp⟩ := Sm.alc_ok (fn l1) (fn l2) (fn l3) l1.length (fun j hj => (hg j hj).1) (fun j hj => (hg j hj).2.2.1) (fun j hj => (hg j hj).2.2.2.1) (T - Sm.pre (fn l2) l2.length).toNat (by rw [e2]; rw [show Sm.pre (fn l3) l2.length = Sm.pre (fn l3) l3.length by rw [← e3, ← e2]]; omega)
            have ta := fun j (hj : j < l1.length) => tab_at (Sm.alc (fn l1) (fn l2) (fn l3) l1.length (T - Sm.pre (fn l2) l2.length).toNat) l1.length j hj
            refine fair_yes a1 a2 a3 c1 c2 c3 l1 l2 l3 _ T w h1 h2 h3 e2 e3 (tab_len _ _).symm hn ⟨hg, fun j hj => ?_, fun j hj => ?_, fun i k hi hk hne => ?_, ?_⟩ (Allocate_yes a1 a2 a3 c1 c2 c3 l1 l2 l3 T w h1 h2 h3 e2 e3 hn hg s2 s3 (by omega) (by omega))
            · rw [ta j hj]; exact hf.lo j hj
            · rw [ta j hj]; exact hf.hi j hj
            · rw [ta i hi, ta k hk]; exact hf.fair i k hi hk hne
            · rw [Sm.pre_congr _ ta, hp]
              have : Sm.pre (fn l2) l1.length = Sm.pre (fn l2) l2.length := by rw [e2]
              omega
      · have hb : ∃ j, j < l1.length ∧ ¬ good (fn l1) (fn l2) (fn l3) j := by
          apply Classical.byContradiction
          intro h
          exact hg fun j hj => Classical.byContradiction fun hh => h ⟨j, hj, hh⟩
        have hc := checkParts_bad a1 a2 a3 c1 c2 c3 l1 l2 l3 w h1 h2 h3 e2 e3 hn hb
        exact fair_no _ _ _ _ _ _ _ _ _ T 1 w (by omega) (Allocate_chk _ _ _ _ _ _ _ _ _ T 1 w (by omega) hc)
    · have hc := checkParts_long a1 a2 a3 c1 c2 c3 l1.length w (by omega) h1.1
      rw [← e2, ← e3]
      exact fair_no _ _ _ _ _ _ _ _ _ T 2 w (by omega) (Allocate_chk _ _ _ _ _ _ _ _ _ T 2 w (by omega) hc)

set_option maxRecDepth 100000 in
theorem lifted (os : Os) (started : os.Started) (H : Type) (enc : TypeId × Value → H) :
    ReturnsInHanded {} Try.checked os 4 .any (Rows.sampleSharesAreFairSpec.pre6 enc Try.prog Try.f4 Rows.sampleSharesAreFairRow.domain false) (Rows.sampleSharesAreFairSpec.post enc Try.prog Try.f4 false true false false) := by
  refine returnsInHanded_of_change (C := Try.checked) own started (by kernel_rfl) Try.func4
    (ChangeSpec.witness6 (enc := enc) (C := Try.checked) false ⟨#[], #[.slice none 0 0, .slice none 0 0, .slice none 0 0, .int .i64 0], []⟩ 8 (by kernel_rfl) (by kernel_rfl) (by kernel_rfl) (by kernel_rfl)) ?_
  intro W base args ds gs before hval0 hW hcnd _
  have hval : ∀ (j : Nat) t v, Try.f4.params[j]? = some t → args[j]? = some v → Value.okWide Try.prog W .any base t v := hval0
  have hW' := hW
  obtain ⟨p, q, hA0, hV, rfl, hfz, hnd⟩ := hW
  have hA : DataW.TrodAll enc Try.prog W 0 (fun _ => true) true Try.f4.params.toList args.toList ds p := hA0
  rw [Try.params4] at hA hval
  obtain ⟨v0, vs0, d0, ds0, p0, q0, hargs, rfl, rfl, h0, r0⟩ := trodAll_cons hA
  obtain ⟨v1, vs1, d1, ds1, p1, q1, rfl, rfl, rfl, h1, r1⟩ := trodAll_cons r0
  obtain ⟨v2, vs2, d2, ds2, p2, q2, rfl, rfl, rfl, h2, r2⟩ := trodAll_cons r1
  obtain ⟨v3, vs3, d3, ds3, p3, q3, rfl, rfl, rfl, h3, r3⟩ := trodAll_cons r2
  obtain ⟨rfl, rfl, rfl⟩ := trodAll_nil r3
  obtain rfl : args = #[v0, v1, v2, v3] := by cases args; simp_all
  obtain ⟨rfl, rfl⟩ := trodVars_none hV
  have k0 := h0
  have k1 := h1
  have k2 := h2
  have lt0 : ∀ x ∈ p0, x.block < W.heap.size := by obtain ⟨m, hm⟩ := k0; exact DataW.trod_lt m _ _ _ hm
  have lt1 : ∀ x ∈ p1, x.block < W.heap.size := by obtain ⟨m, hm⟩ := k1; exact DataW.trod_lt m _ _ _ hm
  have lt2 : ∀ x ∈ p2, x.block < W.heap.size := by obtain ⟨m, hm⟩ := k2; exact DataW.trod_lt m _ _ _ hm
  obtain ⟨a1, l1, c1, rfl, hr1, _⟩ := open_L (hval 0 22 v0 rfl rfl) h0
  obtain ⟨a2, l2, c2, rfl, hr2, _⟩ := open_L (hval 1 22 v1 rfl rfl) h1
  obtain ⟨a3, l3, c3, rfl, hr3, _⟩ := open_L (hval 2 22 v2 rfl rfl) h2
  obtain ⟨T, rfl, rfl, rfl, wT⟩ := open_int Try.underlying3 (hval 3 3 v3 rfl rfl) h3
  clear hA0 hval0
  refine (law a1 a2 a3 c1 c2 c3 l1 l2 l3 T W hr1 hr2 hr3).mono fun e W' ⟨he, bel⟩ => ?_
  subst he
  exact ⟨_, rfl, _, _, _, [], _, [], hW', trodAll_mk1 (shut_bool Try.underlying4 _), (trodAll_cons_mk (Below.trod laidOut (by kernel_rfl) (of_decide_eq_true (by kernel_rfl)) k0 bel lt0) (trodAll_cons_mk (Below.trod laidOut (by kernel_rfl) (of_decide_eq_true (by kernel_rfl)) k1 bel lt1) (trodAll_cons_mk (Below.trod laidOut (by kernel_rfl) (of_decide_eq_true (by kernel_rfl)) k2 bel lt2) (trodAll_cons_mk (shut_int Try.underlying3 wT) trodAll_mk0)))), rfl, bel.frame _, fun h => by cases h⟩

theorem over : Rows.sampleSharesAreFairRow.holds Try.pinned (OpenSpec.ofChange Rows.sampleSharesAreFairSpec) :=
  OpenClaim.holds_of_wide 4 Try.f4 rfl rfl rfl rfl rfl rfl rfl ⟨rfl, rfl, rfl, rfl, rfl⟩ rfl rfl rfl rfl rfl (by kernel_rfl) Try.func4 (by kernel_rfl)
    (of_decide_eq_true (by kernel_rfl)) (by unfold Func.isWrapper; first | (rw [if_pos (by decide +kernel)]; kernel_rfl) | (rw [if_neg (by decide +kernel)]; exact ⟨rfl, rfl⟩))
    (fun os started H enc _ => lifted os started H enc)

/-- For every three lists of ints and every int the law returns true. -/
theorem proved : Rows.SampleSharesAreFairSaid := over
#print axioms proved
end Go.Proofs.Ytaiiobojlipbeaa.lawFair
