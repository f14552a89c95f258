/-
  SampleSharesMatchSpec: for every three lists of ints and every int the law returns true: Allocate answers as its reference, with all errors. No condition.
-/
import Derived.Test.YtaiiobojlipbeaaSmpRef
namespace Go.Proofs.Ytaiiobojlipbeaa.lawShares
open Go.ChangeShapes Go.WideShapes Go.ChangeAt Go.RowKit

def TruePost (w : World) (e : Ending) (w' : World) : Prop := e = .returned (.bool true) ∧ Below w.heap.size w w'
set_option maxHeartbeats 1000000 in
theorem law_no (a1 a2 a3 : Option Addr) (c1 c2 c3 n1 n2 n3 : Nat) (T f : Int) (w : World) (hf : f = 1 ∨ f = 2 ∨ f = 3 ∨ f = 15)
    (hc : Calls Try.prog 8 #[.slice a1 n1 c1, .slice a2 n2 c2, .slice a3 n3 c3, .int .i64 T] w (QuietFault f w))
    (hr : ∀ m, Calls Try.prog 9 #[.slice a1 n1 c1, .slice a2 n2 c2, .slice a3 n3 c3, .int .i64 T] (w.drewN m) (QuietFault f (w.drewN m))) :
    Calls Try.prog 3 #[.slice a1 n1 c1, .slice a2 n2 c2, .slice a3 n3 c3, .int .i64 T] w (TruePost w) := by
  rcases hf with rfl | rfl | rfl | rfl
  all_goals
    have HC := Lib.hid hc
    have HR := Lib.hid hr
    have HE := Lib.hid (fun w' : World => equal_c none none 0 0 [] w' (Rd.none_ w') (Rd.none_ w'))
    clear hc hr
    go_enter Try.func3, Try.ntmps3
    go_wp2_with fail
    refine HC.out.mono ?_
    rintro e w' ⟨rfl, m, rfl⟩
    go_wp2_with fail
    refine (HR.out m).mono ?_
    rintro e w' ⟨rfl, m', rfl⟩
    go_wp2_with fail
    refine (HE.out _).mono ?_
    rintro e w' ⟨rfl, m'', rfl⟩
    go_wp2
    go_ret
    exact ⟨rfl, below_drew w _⟩
set_option maxHeartbeats 1000000 in
theorem law_yes (a1 a2 a3 : Option Addr) (c1 c2 c3 n1 n2 n3 : Nat) (l : List Int) (T : Int) (w : World)
    (hc : Calls Try.prog 8 #[.slice a1 n1 c1, .slice a2 n2 c2, .slice a3 n3 c3, .int .i64 T] w (ListPost l w))
    (hr : ∀ w1, Below w.heap.size w w1 → Calls Try.prog 9 #[.slice a1 n1 c1, .slice a2 n2 c2, .slice a3 n3 c3, .int .i64 T] w1 (ListPost l w1)) :
    Calls Try.prog 3 #[.slice a1 n1 c1, .slice a2 n2 c2, .slice a3 n3 c3, .int .i64 T] w (TruePost w) := by
  have HC := Lib.hid hc
  have HR := Lib.hid hr
  clear hc hr
  go_enter Try.func3, Try.ntmps3
  go_wp2_with fail
  refine HC.out.mono ?_
  rintro e w1 ⟨a4, c4, rfl, h4, b4⟩
  have H4 := Lib.hid h4
  have B4 := Lib.hid b4
  clear h4 b4
  go_wp2_with fail
  refine (HR.out _ B4.out).mono ?_
  rintro e w2 ⟨a5, c5, rfl, h5, b5⟩
  have H5 := Lib.hid h5
  have H4' := Lib.hid (H4.out.below b5)
  have B5 := Lib.hid (B4.out.trans (b5.mono B4.out.size))
  clear h5 b5
  go_wp2_with fail
  refine (equal_c a4 a5 c4 c5 l _ H4'.out H5.out).mono ?_
  rintro e w' ⟨rfl, m, rfl⟩
  go_wp2
  go_ret
  exact ⟨rfl, below_drewN B5.out _⟩

theorem law (a1 a2 a3 : Option Addr) (c1 c2 c3 : Nat) (l1 l2 l3 : List Int) (T : Int) (w : World) (h1 : Rd w a1 l1) (h2 : Rd w a2 l2) (h3 : Rd w a3 l3) :
    Calls Try.prog 3 #[.slice a1 l1.length c1, .slice a2 l2.length c2, .slice a3 l3.length c3, .int .i64 T] w (TruePost w) := by
  by_cases e : l1.length ≠ l2.length ∨ (l1.length = l2.length ∧ l1.length ≠ l3.length)
  · exact law_no _ _ _ _ _ _ _ _ _ T 3 w (by omega) (Allocate_chk _ _ _ _ _ _ _ _ _ T 3 w (by omega) (checkParts_lens _ _ _ _ _ _ _ _ _ w e)) (fun m => RAllocate_lens _ _ _ _ _ _ _ _ _ T _ e)
  · have e2 : l1.length = l2.length := by omega
    have e3 : l1.length = l3.length := by omega
    by_cases hn : l1.length ≤ 40
    · by_cases hg : ∀ j, j < l1.length → good (fn l1) (fn l2) (fn l3) j
      · have s2 : Sums l2 := Sums.of (B := 5000) (fun j hj => by have h := hg j (by omega); unfold good at h; omega) (by omega) (by omega)
        have s3 : Sums l3 := Sums.of (B := 5000) (fun j hj => by have h := hg j (by omega); unfold good at h; omega) (by omega) (by omega)
        by_cases hT : T < Sm.pre (fn l2) l2.length
        · exact law_no _ _ _ _ _ _ _ _ _ T 1 w (by omega) (Allocate_few a1 a2 a3 c1 c2 c3 l1 l2 l3 T w h1 h2 h3 e2 e3 hn hg s2 hT)
            (fun m => RAllocate_few a1 a2 a3 c1 c2 c3 l1 l2 l3 T _ (h1.drewN m) (h2.drewN m) (h3.drewN m) e2 e3 hn hg s2 s3 hT)
        · by_cases hT2 : Sm.pre (fn l3) l3.length < T
          · exact law_no _ _ _ _ _ _ _ _ _ T 15 w (by omega) (Allocate_many a1 a2 a3 c1 c2 c3 l1 l2 l3 T w h1 h2 h3 e2 e3 hn hg s2 s3 (by omega) hT2)
              (fun m => RAllocate_many a1 a2 a3 c1 c2 c3 l1 l2 l3 T _ (h1.drewN m) (h2.drewN m) (h3.drewN m) e2 e3 hn hg s2 s3 (by omega) hT2)
          · exact law_yes _ _ _ _ _ _ _ _ _ _ T w (Allocate_yes a1 a2 a3 c1 c2 c3 l1 l2 l3 T w h1 h2 h3 e2 e3 hn hg s2 s3 (by omega) (by omega))
              (fun w1 b => RAllocate_yes a1 a2 a3 c1 c2 c3 l1 l2 l3 T _ (h1.below b) (h2.below b) (h3.below b) e2 e3 hn hg s2 s3 (by omega) (by omega))
      · have hb : ∃ j, j < l1.length ∧ ¬ good (fn l1) (fn l2) (fn l3) j := by
          apply Classical.byContradiction
          intro h
          exact hg fun j hj => Classical.byContradiction fun hh => h ⟨j, hj, hh⟩
        have hc := checkParts_bad a1 a2 a3 c1 c2 c3 l1 l2 l3 w h1 h2 h3 e2 e3 hn hb
        exact law_no _ _ _ _ _ _ _ _ _ T 1 w (by omega) (Allocate_chk _ _ _ _ _ _ _ _ _ T 1 w (by omega) hc)
          (fun m => RAllocate_bad a1 a2 a3 c1 c2 c3 l1 l2 l3 T _ (h1.drewN m) (h2.drewN m) (h3.drewN m) e2 e3 hn hb)
    · have hc := checkParts_long a1 a2 a3 c1 c2 c3 l1.length w (by omega) h1.1
      have hr := fun m => RAllocate_long a1 a2 a3 c1 c2 c3 l1.length T (w.drewN m) (by omega) h1.1
      rw [← e2, ← e3]
      exact law_no _ _ _ _ _ _ _ _ _ T 2 w (by omega) (Allocate_chk _ _ _ _ _ _ _ _ _ T 2 w (by omega) hc) hr

set_option maxRecDepth 100000 in
theorem lifted (os : Os) (started : os.Started) (H : Type) (enc : TypeId × Value → H) :
    ReturnsInHanded {} Try.checked os 3 .any (Rows.sampleSharesMatchSpecSpec.pre6 enc Try.prog Try.f3 Rows.sampleSharesMatchSpecRow.domain false) (Rows.sampleSharesMatchSpecSpec.post enc Try.prog Try.f3 false true false false) := by
  refine returnsInHanded_of_change (C := Try.checked) own started (by kernel_rfl) Try.func3
    (ChangeSpec.witness6 (enc := enc) (C := Try.checked) false ⟨#[], #[.slice none 0 0, .slice none 0 0, .slice none 0 0, .int .i64 0], []⟩ 8 (by kernel_rfl) (by kernel_rfl) (by kernel_rfl) (by kernel_rfl)) ?_
  intro W base args ds gs before hval0 hW hcnd _
  have hval : ∀ (j : Nat) t v, Try.f3.params[j]? = some t → args[j]? = some v → Value.okWide Try.prog W .any base t v := hval0
  have hW' := hW
  obtain ⟨p, q, hA0, hV, rfl, hfz, hnd⟩ := hW
  have hA : DataW.TrodAll enc Try.prog W 0 (fun _ => true) true Try.f3.params.toList args.toList ds p := hA0
  rw [Try.params3] at hA hval
  obtain ⟨v0, vs0, d0, ds0, p0, q0, hargs, rfl, rfl, h0, r0⟩ := trodAll_cons hA
  obtain ⟨v1, vs1, d1, ds1, p1, q1, rfl, rfl, rfl, h1, r1⟩ := trodAll_cons r0
  obtain ⟨v2, vs2, d2, ds2, p2, q2, rfl, rfl, rfl, h2, r2⟩ := trodAll_cons r1
  obtain ⟨v3, vs3, d3, ds3, p3, q3, rfl, rfl, rfl, h3, r3⟩ := trodAll_cons r2
  obtain ⟨rfl, rfl, rfl⟩ := trodAll_nil r3
  obtain rfl : args = #[v0, v1, v2, v3] := by cases args; simp_all
  obtain ⟨rfl, rfl⟩ := trodVars_none hV
  have k0 := h0
  have k1 := h1
  have k2 := h2
  have lt0 : ∀ x ∈ p0, x.block < W.heap.size := by obtain ⟨m, hm⟩ := k0; exact DataW.trod_lt m _ _ _ hm
  have lt1 : ∀ x ∈ p1, x.block < W.heap.size := by obtain ⟨m, hm⟩ := k1; exact DataW.trod_lt m _ _ _ hm
  have lt2 : ∀ x ∈ p2, x.block < W.heap.size := by obtain ⟨m, hm⟩ := k2; exact DataW.trod_lt m _ _ _ hm
  obtain ⟨a1, l1, c1, rfl, hr1, _⟩ := open_L (hval 0 22 v0 rfl rfl) h0
  obtain ⟨a2, l2, c2, rfl, hr2, _⟩ := open_L (hval 1 22 v1 rfl rfl) h1
  obtain ⟨a3, l3, c3, rfl, hr3, _⟩ := open_L (hval 2 22 v2 rfl rfl) h2
  obtain ⟨T, rfl, rfl, rfl, wT⟩ := open_int Try.underlying3 (hval 3 3 v3 rfl rfl) h3
  clear hA0 hval0
  refine (law a1 a2 a3 c1 c2 c3 l1 l2 l3 T W hr1 hr2 hr3).mono fun e W' ⟨he, bel⟩ => ?_
  subst he
  exact ⟨_, rfl, _, _, _, [], _, [], hW', trodAll_mk1 (shut_bool Try.underlying4 _), (trodAll_cons_mk (Below.trod laidOut (by kernel_rfl) (of_decide_eq_true (by kernel_rfl)) k0 bel lt0) (trodAll_cons_mk (Below.trod laidOut (by kernel_rfl) (of_decide_eq_true (by kernel_rfl)) k1 bel lt1) (trodAll_cons_mk (Below.trod laidOut (by kernel_rfl) (of_decide_eq_true (by kernel_rfl)) k2 bel lt2) (trodAll_cons_mk (shut_int Try.underlying3 wT) trodAll_mk0)))), rfl, bel.frame _, fun h => by cases h⟩

theorem over : Rows.sampleSharesMatchSpecRow.holds Try.pinned (OpenSpec.ofChange Rows.sampleSharesMatchSpecSpec) :=
  OpenClaim.holds_of_wide 3 Try.f3 rfl rfl rfl rfl rfl rfl rfl ⟨rfl, rfl, rfl, rfl, rfl⟩ rfl rfl rfl rfl rfl (by kernel_rfl) Try.func3 (by kernel_rfl)
    (of_decide_eq_true (by kernel_rfl)) (by unfold Func.isWrapper; first | (rw [if_pos (by decide +kernel)]; kernel_rfl) | (rw [if_neg (by decide +kernel)]; exact ⟨rfl, rfl⟩))
    (fun os started H enc _ => lifted os started H enc)

/-- For every three lists of ints and every int the law returns true. -/
theorem proved : Rows.SampleSharesMatchSpecSaid := over
#print axioms proved
end Go.Proofs.Ytaiiobojlipbeaa.lawShares
