/-
  SampleHitsMatchSpec: for every list of ints and every two ints the law returns true: Hits answers as its reference, with all errors. No condition.
-/
import Derived.Test.YtaiiobojlipbeaaSmpRHits
namespace Go.Proofs.Ytaiiobojlipbeaa.lawHits
open Go.ChangeShapes Go.WideShapes Go.ChangeAt Go.RowKit

def TruePost (w : World) (e : Ending) (w' : World) : Prop := e = .returned (.bool true) ∧ Below w.heap.size w w'
set_option maxHeartbeats 1000000 in
theorem law_no (a : Option Addr) (c n : Nat) (t s f : Int) (w : World) (hf : f = 1 ∨ f = 2)
    (hc : Calls Try.prog 11 #[.slice a n c, .int .i64 t, .int .i64 s] w (QFault f w))
    (hr : Calls Try.prog 12 #[.slice a n c, .int .i64 t, .int .i64 s] w (QFault f w)) :
    Calls Try.prog 5 #[.slice a n c, .int .i64 t, .int .i64 s] w (TruePost w) := by
  rcases hf with rfl | rfl
  all_goals
    have HC := Lib.hid hc
    have HR := Lib.hid hr
    have HE := Lib.hid (fun w' : World => equal_c none none 0 0 [] w' (Rd.none_ w') (Rd.none_ w'))
    clear hc hr
    go_enter Try.func5, Try.ntmps5
    go_wp2_with fail
    refine HC.out.mono ?_
    rintro e w' ⟨rfl, rfl⟩
    go_wp2_with fail
    refine HR.out.mono ?_
    rintro e w' ⟨rfl, rfl⟩
    go_wp2_with fail
    refine (HE.out _).mono ?_
    rintro e w' ⟨rfl, m'', rfl⟩
    go_wp2
    go_ret
    exact ⟨rfl, below_drew w _⟩
set_option maxHeartbeats 1000000 in
theorem law_yes (a : Option Addr) (c n : Nat) (l : List Int) (t s : Int) (w : World)
    (hc : Calls Try.prog 11 #[.slice a n c, .int .i64 t, .int .i64 s] w (ListPost5 l w))
    (hr : ∀ w1, Below w.heap.size w w1 → Calls Try.prog 12 #[.slice a n c, .int .i64 t, .int .i64 s] w1 (ListPost5 l w1)) :
    Calls Try.prog 5 #[.slice a n c, .int .i64 t, .int .i64 s] w (TruePost w) := by
  have HC := Lib.hid hc
  have HR := Lib.hid hr
  clear hc hr
  go_enter Try.func5, Try.ntmps5
  go_wp2_with fail
  refine HC.out.mono ?_
  rintro e w1 ⟨a4, c4, rfl, h4, b4, _⟩
  have H4 := Lib.hid h4
  have B4 := Lib.hid b4
  clear h4 b4
  go_wp2_with fail
  refine (HR.out _ B4.out).mono ?_
  rintro e w2 ⟨a5, c5, rfl, h5, b5, _⟩
  have H5 := Lib.hid h5
  have H4' := Lib.hid (H4.out.below b5)
  have B5 := Lib.hid (B4.out.trans (b5.mono B4.out.size))
  clear h5 b5
  go_wp2_with fail
  refine (equal_c a4 a5 c4 c5 l _ H4'.out H5.out).mono ?_
  rintro e w' ⟨rfl, m, rfl⟩
  go_wp2
  go_ret
  exact ⟨rfl, below_drewN B5.out _⟩

theorem law (a : Option Addr) (c : Nat) (l : List Int) (t s : Int) (w : World) (h : Rd w a l) :
    Calls Try.prog 5 #[.slice a l.length c, .int .i64 t, .int .i64 s] w (TruePost w) := by
  by_cases hn : l.length ≤ 5000
  · by_cases hl : szs l
    · by_cases hb : t < 0 ∨ (0 ≤ t ∧ 5000 < t) ∨ (0 ≤ t ∧ t ≤ 5000 ∧ s < 0) ∨ (0 ≤ t ∧ t ≤ 5000 ∧ 0 ≤ s ∧ Sm.pre (fn l) l.length ≤ s)
      · exact law_no a c l.length t s 1 w (by omega) (Hits_out a c l t s w h hn hl hb) (RHits_out a c l t s w h hn hl hb)
      · obtain ⟨T, rfl⟩ := Int.eq_ofNat_of_zero_le (show 0 ≤ t by omega)
        exact law_yes a c l.length _ T s w (Hits_yes a c l T s w h hn hl (by omega) (by omega) (by omega)) (fun w1 b => RHits_yes a c l T s w1 (h.below b) hn hl (by omega) (by omega) (by omega))
    · exact law_no a c l.length t s 1 w (by omega) (Hits_bad a c l t s w h hn hl) (RHits_bad a c l t s w h hn hl)
  · exact law_no a c l.length t s 2 w (by omega) (Hits_long a c l.length t s w (by omega) h.1) (RHits_long a c l.length t s w (by omega) h.1)

set_option maxRecDepth 100000 in
theorem lifted (os : Os) (started : os.Started) (H : Type) (enc : TypeId × Value → H) :
    ReturnsInHanded {} Try.checked os 5 .any (Rows.sampleHitsMatchSpecSpec.pre6 enc Try.prog Try.f5 Rows.sampleHitsMatchSpecRow.domain false) (Rows.sampleHitsMatchSpecSpec.post enc Try.prog Try.f5 false true false false) := by
  refine returnsInHanded_of_change (C := Try.checked) own started (by kernel_rfl) Try.func5
    (ChangeSpec.witness6 (enc := enc) (C := Try.checked) false ⟨#[], #[.slice none 0 0, .int .i64 0, .int .i64 0], []⟩ 8 (by kernel_rfl) (by kernel_rfl) (by kernel_rfl) (by kernel_rfl)) ?_
  intro W base args ds gs before hval0 hW hcnd _
  have hval : ∀ (j : Nat) t v, Try.f5.params[j]? = some t → args[j]? = some v → Value.okWide Try.prog W .any base t v := hval0
  have hW' := hW
  obtain ⟨p, q, hA0, hV, rfl, hfz, hnd⟩ := hW
  have hA : DataW.TrodAll enc Try.prog W 0 (fun _ => true) true Try.f5.params.toList args.toList ds p := hA0
  rw [Try.params5] at hA hval
  obtain ⟨v0, vs0, d0, ds0, p0, q0, hargs, rfl, rfl, h0, r0⟩ := trodAll_cons hA
  obtain ⟨v1, vs1, d1, ds1, p1, q1, rfl, rfl, rfl, h1, r1⟩ := trodAll_cons r0
  obtain ⟨v2, vs2, d2, ds2, p2, q2, rfl, rfl, rfl, h2, r2⟩ := trodAll_cons r1
  obtain ⟨rfl, rfl, rfl⟩ := trodAll_nil r2
  obtain rfl : args = #[v0, v1, v2] := by cases args; simp_all
  obtain ⟨rfl, rfl⟩ := trodVars_none hV
  have k0 := h0
  have lt0 : ∀ x ∈ p0, x.block < W.heap.size := by obtain ⟨m, hm⟩ := k0; exact DataW.trod_lt m _ _ _ hm
  obtain ⟨a1, l1, c1, rfl, hr1, _⟩ := open_L (hval 0 22 v0 rfl rfl) h0
  obtain ⟨T, rfl, rfl, rfl, wT⟩ := open_int Try.underlying3 (hval 1 3 v1 rfl rfl) h1
  obtain ⟨S, rfl, rfl, rfl, wS⟩ := open_int Try.underlying3 (hval 2 3 v2 rfl rfl) h2
  clear hA0 hval0
  refine (law a1 c1 l1 T S W hr1).mono fun e W' ⟨he, bel⟩ => ?_
  subst he
  exact ⟨_, rfl, _, _, _, [], _, [], hW', trodAll_mk1 (shut_bool Try.underlying4 _), (trodAll_cons_mk (Below.trod laidOut (by kernel_rfl) (of_decide_eq_true (by kernel_rfl)) k0 bel lt0) (trodAll_cons_mk (shut_int Try.underlying3 wT) (trodAll_cons_mk (shut_int Try.underlying3 wS) trodAll_mk0))), rfl, bel.frame _, fun h => by cases h⟩

theorem over : Rows.sampleHitsMatchSpecRow.holds Try.pinned (OpenSpec.ofChange Rows.sampleHitsMatchSpecSpec) :=
  OpenClaim.holds_of_wide 5 Try.f5 rfl rfl rfl rfl rfl rfl rfl ⟨rfl, rfl, rfl, rfl, rfl⟩ rfl rfl rfl rfl rfl (by kernel_rfl) Try.func5 (by kernel_rfl)
    (of_decide_eq_true (by kernel_rfl)) (by unfold Func.isWrapper; first | (rw [if_pos (by decide +kernel)]; kernel_rfl) | (rw [if_neg (by decide +kernel)]; exact ⟨rfl, rfl⟩))
    (fun os started H enc _ => lifted os started H enc)

/-- For every list of ints and every two ints the law returns true. -/
theorem proved : Rows.SampleHitsMatchSpecSaid := over
#print axioms proved
end Go.Proofs.Ytaiiobojlipbeaa.lawHits
