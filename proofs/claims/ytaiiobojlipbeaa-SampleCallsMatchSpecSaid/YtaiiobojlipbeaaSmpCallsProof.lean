/-
  SampleCallsMatchSpec: for every calling, every list of attempts and every int the law returns true: CheckCalling, Outcome and Due answer as their references, with all errors. No condition.
-/
import Derived.Test.YtaiiobojlipbeaaSmpCLaw
import Derived.Test.YtaiiobojlipbeaaSmpOpen
namespace Go.Proofs.Ytaiiobojlipbeaa.lawCalls
open Go.ChangeShapes Go.WideShapes Go.ChangeAt Go.RowKit Go.Joins

theorem add_none (b off i : Nat) : (Addr.mk b off none).add i = ⟨b, off + i, none⟩ := by
  unfold Addr.add
  split
  · rename_i h; subst h; simp
  · rfl
theorem cellsI : Try.prog.cellsOf 3 = 1 := by kernel_rfl
theorem cellsA : Try.prog.cellsOf 47 = 2 := by kernel_rfl
theorem cellsW : Try.prog.cellsOf 55 = 2 := by kernel_rfl
theorem cellsC : Try.prog.cellsOf 33 = 4 := by kernel_rfl
section
variable {H : Type} {enc : TypeId × Value → H} {W : World}
theorem bulk_all_cons {d : DataW H} {r : List (DataW H)} : Rows.uptoBulkAll (d :: r) = Rows.uptoBulk d + Rows.uptoBulkAll r := by simp only [Rows.uptoBulkAll]
/-- A slice, opened element by element. -/
theorem open_row {α : Type} {tS tE : TypeId} {m : Nat} (hS : Try.prog.underlying tS = some (.slice tE)) (hm : Try.prog.cellsOf tE = m) (h0 : 0 < m) (El : α → List Value → Prop) (size : α → Nat)
    (hEl : ∀ fuel cs y, DataW.trod enc Try.prog W 0 (fun _ => true) true fuel tE cs = some y → ∃ c, El c cs ∧ size c ≤ Rows.uptoBulk y.1)
    {fuel : Nat} {cs : List Value} {x : DataW H × List MemPlace} (h : DataW.trod enc Try.prog W 0 (fun _ => true) true fuel tS cs = some x) :
    ∃ (l : List α) (a : Option Addr) (cap : Nat), cs = [.slice a l.length cap] ∧ (l = [] ∨ ∃ b off, a = some ⟨b, off, none⟩ ∧ b < W.heap.size ∧ (l.length ≤ cap ∧ cap ≤ 9223372036854775807) ∧
      ∀ (j : Nat) (c : α), l[j]? = some c → ∃ cs', El c cs' ∧ ∀ i, i < m → W.cell? ⟨b, off + j * m + i, none⟩ = cs'[i]?) ∧ (l.map size).sum + 1 ≤ Rows.uptoBulk x.1 ∧ l.length + 1 ≤ Rows.uptoBulk x.1 := by
  have pos : ∀ d : DataW H, 1 ≤ Rows.uptoBulk d := fun d => by
    cases d with
    | lit v => cases v <;> simp only [Rows.uptoBulk] <;> omega
    | _ => simp only [Rows.uptoBulk]; omega
  rcases DataW.trod_slice hS h with ⟨e7, e8⟩ | ⟨a, len, cap, elems, rest, n, hn, e7, e8, _, hlc, hcm, hel, hat, _, _⟩
  · exact ⟨[], none, 0, e7, .inl rfl, by rw [e8]; simp [Rows.uptoBulk], by rw [e8]; simp [Rows.uptoBulk]⟩
  · have hel1 : Rows.uptoBulkAll (elems.map (·.1)) + 1 ≤ Rows.uptoBulk x.1 := by
      rw [e8]; simp only [Rows.uptoBulk]; omega
    unfold maxLen at hcm
    by_cases hl0 : len = 0
    · subst hl0
      exact ⟨[], some a, cap, e7, .inl rfl, by simp; omega, by simp; omega⟩
    rw [hm] at hat
    have each : ∀ i, i < len → ∃ cs' y, elems[i]? = some y ∧ W.cells? 0 (a.add (i * m)) m = some cs' ∧ DataW.trod enc Try.prog W 0 (fun _ => true) true n tE cs' = some y := by
      intro i hi
      have h5 := hat i hi
      have h6 : elems[i]? = some (elems[i]'(by omega)) := List.getElem?_eq_getElem (by omega)
      rw [h6] at h5
      obtain ⟨cs', h7, h8⟩ := Option.bind_eq_some_iff.1 h5
      exact ⟨cs', _, h6, h7, h8⟩
    obtain ⟨b, off, spot⟩ := a
    obtain ⟨hspot, hblk⟩ : spot = none ∧ b < W.heap.size := by
      obtain ⟨cs', y, _, h7, h8⟩ := each 0 (by omega)
      obtain ⟨hlen, _, hc⟩ := World.cells?_some h7
      have hc0 := hc 0 (by omega)
      have hx : ∃ v, cs'[0]? = some v := ⟨cs'[0]'(by omega), List.getElem?_eq_getElem (by omega)⟩
      obtain ⟨v, hv⟩ := hx
      rw [hv] at hc0
      have hs0 : spot = none := by
        simpa [Addr.add] using World.cell?_spot hc0
      subst hs0
      rw [add_none, add_none] at hc0
      exact ⟨rfl, block_lt hc0⟩
    subst hspot
    have row : ∀ j, j ≤ len → ∃ l : List α, l.length = j ∧ (l.map size).sum ≤ Rows.uptoBulkAll ((elems.drop (len - j)).map (·.1)) ∧ l.length ≤ Rows.uptoBulkAll ((elems.drop (len - j)).map (·.1)) ∧
        ∀ (i : Nat) (c : α), l[i]? = some c → ∃ cs', El c cs' ∧ ∀ q, q < m → W.cell? ⟨b, off + (len - j + i) * m + q, none⟩ = cs'[q]? := by
      intro j
      induction j with
      | zero => intro _; exact ⟨[], rfl, by simp, by simp, fun i c hi => by simp at hi⟩
      | succ j ihj =>
        intro hj
        obtain ⟨l, hx1, hx2, hx3, hx4⟩ := ihj (by omega)
        obtain ⟨cs', y, h6, h7, h8⟩ := each (len - (j + 1)) (by omega)
        obtain ⟨c, g1, g2⟩ := hEl _ _ _ h8
        obtain ⟨_, _, hc⟩ := World.cells?_some h7
        rw [add_none] at hc
        have cc : ∀ i, i < m → W.cell? ⟨b, off + (len - (j + 1)) * m + i, none⟩ = cs'[i]? := fun i hi => by
          rw [← add_none]; exact hc i hi
        have hdrop : elems.drop (len - (j + 1)) = y :: elems.drop (len - j) := by
          obtain ⟨hlt, he⟩ := List.getElem?_eq_some_iff.1 h6
          rw [List.drop_eq_getElem_cons hlt, he, show len - (j + 1) + 1 = len - j by omega]
        have hp := pos y.1
        refine ⟨c :: l, by simp [hx1], ?_, ?_, ?_⟩
        · rw [hdrop, List.map_cons, List.map_cons, List.sum_cons, bulk_all_cons]; omega
        · rw [hdrop, List.map_cons, List.length_cons, bulk_all_cons]; omega
        · intro i c' hi
          cases i with
          | zero =>
            simp only [List.getElem?_cons_zero, Option.some.injEq] at hi
            subst hi
            exact ⟨cs', g1, cc⟩
          | succ i =>
            obtain ⟨cs2, g3, g4⟩ := hx4 i c' (by simpa using hi)
            refine ⟨cs2, g3, fun q hq => ?_⟩
            rw [show len - (j + 1) + (i + 1) = len - j + i by omega]
            exact g4 q hq
    obtain ⟨l, hx1, hx2, hx3, hx4⟩ := row len (Nat.le_refl _)
    rw [Nat.sub_self, List.drop_zero] at hx2 hx3
    simp only [Nat.sub_self, Nat.zero_add] at hx4
    exact ⟨l, some ⟨b, off, none⟩, cap, by rw [e7, hx1], .inr ⟨b, off, rfl, hblk, ⟨by omega, by omega⟩, hx4⟩, by omega, by omega⟩

theorem open_Lc {fuel : Nat} {cs : List Value} {x : DataW H × List MemPlace} (h : DataW.trod enc Try.prog W 0 (fun _ => true) true fuel 22 cs = some x) :
    ∃ a l c, cs = [.slice a (List.length l) c] ∧ Rd W a l := by
  rcases open_ints Try.underlying22 Try.underlying3 (by kernel_rfl) h with ⟨e3, _⟩ | ⟨x, len, cap, zs, e3, _, hl, hm, hz, hx, hcell, _⟩
  · subst e3
    exact ⟨none, [], 0, rfl, Rd.none_ W⟩
  · subst e3
    simp only [if_true] at hz
    by_cases hl0 : len = 0
    · subst hl0
      exact ⟨some x, [], cap, rfl, ⟨by simp, fun h => by simp at h⟩⟩
    · obtain ⟨b, off, spot⟩ := x
      have hc := hcell 0 (by omega)
      have hspot : spot = none := by simpa [Addr.add] using World.cell?_spot hc
      subst hspot
      have hlen : (zs.take len).length = len := by simp; omega
      have hc' : ∀ i, i < zs.length → W.cell? ⟨b, off + i, none⟩ = some (.int .i64 (zs.getD i 0)) := fun i hi => by
        have e := hcell i hi
        unfold Addr.add at e
        split at e
        · rename_i h0; subst h0; simpa using e
        · exact e
      refine ⟨_, zs.take len, cap, by rw [hlen], ⟨by rw [hlen]; unfold maxLen at hm; omega, fun _ => ⟨b, off, rfl, block_lt (hc' 0 (by omega)), fun j hj => ?_⟩⟩⟩
      rw [hlen] at hj
      unfold fn
      rw [getD_take _ _ _ hj]
      exact hc' j (by omega)
theorem open_att (fuel : Nat) (cs : List Value) (y : DataW H × List MemPlace) (h : DataW.trod enc Try.prog W 0 (fun _ => true) true fuel 47 cs = some y) : ∃ c : Int × Int, cs = [.int .i64 c.1, .int .i64 c.2] ∧ 0 ≤ Rows.uptoBulk y.1 := by
  obtain ⟨ys, n, _, rfl, hl, hlen, hf⟩ := DataW.trod_struct Try.underlying47 h
  rw [cellsA] at hl
  obtain ⟨c0, c1, rfl⟩ : ∃ c0 c1, cs = [c0, c1] := by
    match cs, hl with
    | [a, b], _ => exact ⟨a, b, rfl⟩
  obtain ⟨y0, y1, rfl⟩ : ∃ y0 y1, ys = [y0, y1] := by
    match ys, hlen with
    | [a, b], _ => exact ⟨a, b, rfl⟩
  have h0 : DataW.trod enc Try.prog W 0 (fun _ => true) true n 3 (([c0, c1].drop 0).take (Try.prog.cellsOf 3)) = some y0 := hf 0 _ rfl
  have h1 : DataW.trod enc Try.prog W 0 (fun _ => true) true n 3 (([c0, c1].drop 1).take (Try.prog.cellsOf 3)) = some y1 := hf 1 _ rfl
  simp only [cellsI, List.drop_zero, List.drop_succ_cons, List.take_succ_cons, List.take_zero] at h0 h1
  obtain ⟨m, e0, _, _⟩ := DataW.trod_int Try.underlying3 h0
  obtain ⟨o, e1, _, _⟩ := DataW.trod_int Try.underlying3 h1
  simp only [List.cons.injEq, and_true] at e0 e1
  subst e0 e1
  exact ⟨(m, o), rfl, Nat.zero_le _⟩
theorem open_win (fuel : Nat) (cs : List Value) (y : DataW H × List MemPlace) (h : DataW.trod enc Try.prog W 0 (fun _ => true) true fuel 55 cs = some y) : ∃ c : Int × Int, cs = [.int .i64 c.1, .int .i64 c.2] ∧ 0 ≤ Rows.uptoBulk y.1 := by
  obtain ⟨ys, n, _, rfl, hl, hlen, hf⟩ := DataW.trod_struct Try.underlying55 h
  rw [cellsW] at hl
  obtain ⟨c0, c1, rfl⟩ : ∃ c0 c1, cs = [c0, c1] := by
    match cs, hl with
    | [a, b], _ => exact ⟨a, b, rfl⟩
  obtain ⟨y0, y1, rfl⟩ : ∃ y0 y1, ys = [y0, y1] := by
    match ys, hlen with
    | [a, b], _ => exact ⟨a, b, rfl⟩
  have h0 : DataW.trod enc Try.prog W 0 (fun _ => true) true n 3 (([c0, c1].drop 0).take (Try.prog.cellsOf 3)) = some y0 := hf 0 _ rfl
  have h1 : DataW.trod enc Try.prog W 0 (fun _ => true) true n 3 (([c0, c1].drop 1).take (Try.prog.cellsOf 3)) = some y1 := hf 1 _ rfl
  simp only [cellsI, List.drop_zero, List.drop_succ_cons, List.take_succ_cons, List.take_zero] at h0 h1
  obtain ⟨m, e0, _, _⟩ := DataW.trod_int Try.underlying3 h0
  obtain ⟨o, e1, _, _⟩ := DataW.trod_int Try.underlying3 h1
  simp only [List.cons.injEq, and_true] at e0 e1
  subst e0 e1
  exact ⟨(m, o), rfl, Nat.zero_le _⟩
theorem rdp_of {b : Nat} {l : List (Int × Int)} {a : Option Addr} {cap : Nat} (h : l = [] ∨ ∃ b off, a = some ⟨b, off, none⟩ ∧ b < W.heap.size ∧ (l.length ≤ cap ∧ cap ≤ 9223372036854775807) ∧
      ∀ (j : Nat) (c : Int × Int), l[j]? = some c → ∃ cs', cs' = [Value.int .i64 c.1, .int .i64 c.2] ∧ ∀ i, i < 2 → W.cell? ⟨b, off + j * 2 + i, none⟩ = cs'[i]?) : RdP W a l := by
  rcases h with rfl | ⟨b, off, rfl, hb, hc, hr⟩
  · exact ⟨by simp, fun h => by simp at h⟩
  · refine ⟨by omega, fun _ => ⟨b, off, rfl, hb, fun j m o hj => ?_⟩⟩
    obtain ⟨cs', rfl, hq⟩ := hr j (m, o) hj
    exact ⟨by have := hq 0 (by omega); simpa using this, by have := hq 1 (by omega); simpa using this⟩
theorem open_A {b0 : Nat} {v : Value} {d : DataW H} {p : List MemPlace} (hv : Value.okWide Try.prog W .any b0 34 v) (h : DataW.Trod enc Try.prog W 0 (fun _ => true) true 34 v d p) :
    ∃ a l c, v = .slice a (List.length l) c ∧ RdP W a l := by
  obtain ⟨a0, len, cap, rfl⟩ := okWide_slice Try.underlying34 hv
  obtain ⟨m, h⟩ := h
  obtain ⟨l, a, cap', e, hr, _, _⟩ := open_row (α := Int × Int) Try.underlying34 cellsA (by decide) (fun c cs => cs = [.int .i64 c.1, .int .i64 c.2]) (fun _ => 0) open_att h
  simp [Value.cells] at e
  obtain ⟨rfl, rfl, rfl⟩ := e
  exact ⟨_, l, _, rfl, rdp_of (b := 0) hr⟩
theorem open_C {b0 : Nat} {v : Value} {d : DataW H} {p : List MemPlace} (hv : Value.okWide Try.prog W .any b0 33 v) (h : DataW.Trod enc Try.prog W 0 (fun _ => true) true 33 v d p) :
    ∃ most gap aD D cD aV V cV, v = .agg #[.int .i64 most, .int .i64 gap, .slice aD (List.length D) cD, .slice aV (List.length V) cV] ∧ Rd W aD D ∧ RdP W aV V := by
  obtain ⟨c0, c1, c2, c3, y0, y1, y2, y3, m, rfl, _, _, h0, h1, h2, h3⟩ := open_agg4 Try.underlying33 (by kernel_rfl) cellsC hv h
  obtain ⟨k, e0, _, _⟩ := DataW.trod_int Try.underlying3 h0
  obtain ⟨n, e1, _, _⟩ := DataW.trod_int Try.underlying3 h1
  obtain ⟨l, a, cap', e3, hr, _, _⟩ := open_row (α := Int × Int) Try.underlying31 cellsW (by decide) (fun c cs => cs = [.int .i64 c.1, .int .i64 c.2]) (fun _ => 0) open_win h3
  obtain ⟨aD, D, cD, e2, hD⟩ := open_Lc h2
  simp only [List.cons.injEq, and_true] at e0 e1 e2 e3
  subst e0 e1 e2 e3
  exact ⟨k, n, aD, D, cD, a, l, cap', rfl, hD, rdp_of (b := 0) hr⟩
end

set_option maxRecDepth 100000 in
theorem lifted (os : Os) (started : os.Started) (H : Type) (enc : TypeId × Value → H) :
    ReturnsInHanded {} Try.checked os 7 .any (Rows.sampleCallsMatchSpecSpec.pre6 enc Try.prog Try.f7 Rows.sampleCallsMatchSpecRow.domain false) (Rows.sampleCallsMatchSpecSpec.post enc Try.prog Try.f7 false true false false) := by
  refine returnsInHanded_of_change (C := Try.checked) own started (by kernel_rfl) Try.func7
    (ChangeSpec.witness6 (enc := enc) (C := Try.checked) false ⟨#[], #[.agg #[.int .i64 0, .int .i64 0, .slice none 0 0, .slice none 0 0], .slice none 0 0, .int .i64 0], []⟩ 8 (by kernel_rfl) (by kernel_rfl) (by kernel_rfl) (by kernel_rfl)) ?_
  intro W base args ds gs before hval0 hW hcnd _
  have hval : ∀ (j : Nat) t v, Try.f7.params[j]? = some t → args[j]? = some v → Value.okWide Try.prog W .any base t v := hval0
  have hW' := hW
  obtain ⟨p, q, hA0, hV, rfl, hfz, hnd⟩ := hW
  have hA : DataW.TrodAll enc Try.prog W 0 (fun _ => true) true Try.f7.params.toList args.toList ds p := hA0
  rw [Try.params7] at hA hval
  obtain ⟨v0, vs0, d0, ds0, p0, q0, hargs, rfl, rfl, h0, r0⟩ := trodAll_cons hA
  obtain ⟨v1, vs1, d1, ds1, p1, q1, rfl, rfl, rfl, h1, r1⟩ := trodAll_cons r0
  obtain ⟨v2, vs2, d2, ds2, p2, q2, rfl, rfl, rfl, h2, r2⟩ := trodAll_cons r1
  obtain ⟨rfl, rfl, rfl⟩ := trodAll_nil r2
  obtain rfl : args = #[v0, v1, v2] := by cases args; simp_all
  obtain ⟨rfl, rfl⟩ := trodVars_none hV
  have k0 := h0
  have k1 := h1
  have lt0 : ∀ x ∈ p0, x.block < W.heap.size := by obtain ⟨m, hm⟩ := k0; exact DataW.trod_lt m _ _ _ hm
  have lt1 : ∀ x ∈ p1, x.block < W.heap.size := by obtain ⟨m, hm⟩ := k1; exact DataW.trod_lt m _ _ _ hm
  obtain ⟨most, gap, aD, D, cD, aV, V, cV, rfl, hD, hV⟩ := open_C (hval 0 33 v0 rfl rfl) h0
  obtain ⟨a, l, c, rfl, hl⟩ := open_A (hval 1 34 v1 rfl rfl) h1
  obtain ⟨T, rfl, rfl, rfl, wT⟩ := open_int Try.underlying3 (hval 2 3 v2 rfl rfl) h2
  clear hA0 hval0
  refine (law_calls most gap T aD aV a cD cV c D V l W hD hV hl).mono fun e W' ⟨he, bel⟩ => ?_
  subst he
  exact ⟨_, rfl, _, _, _, [], _, [], hW', trodAll_mk1 (shut_bool Try.underlying4 _), (trodAll_cons_mk (Below.trod laidOut (by kernel_rfl) (of_decide_eq_true (by kernel_rfl)) k0 bel lt0) (trodAll_cons_mk (Below.trod laidOut (by kernel_rfl) (of_decide_eq_true (by kernel_rfl)) k1 bel lt1) (trodAll_cons_mk (shut_int Try.underlying3 wT) trodAll_mk0))), rfl, bel.frame _, fun h => by cases h⟩

theorem over : Rows.sampleCallsMatchSpecRow.holds Try.pinned (OpenSpec.ofChange Rows.sampleCallsMatchSpecSpec) :=
  OpenClaim.holds_of_wide 7 Try.f7 rfl rfl rfl rfl rfl rfl rfl ⟨rfl, rfl, rfl, rfl, rfl⟩ rfl rfl rfl rfl rfl (by kernel_rfl) Try.func7 (by kernel_rfl)
    (of_decide_eq_true (by kernel_rfl)) (by unfold Func.isWrapper; first | (rw [if_pos (by decide +kernel)]; kernel_rfl) | (rw [if_neg (by decide +kernel)]; exact ⟨rfl, rfl⟩))
    (fun os started H enc _ => lifted os started H enc)

/-- For every calling, every list of attempts and every int the law returns true. -/
theorem proved : Rows.SampleCallsMatchSpecSaid := over
#print axioms proved
end Go.Proofs.Ytaiiobojlipbeaa.lawCalls
