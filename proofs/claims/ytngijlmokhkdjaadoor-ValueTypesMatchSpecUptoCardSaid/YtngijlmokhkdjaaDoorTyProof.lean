/-
  ValueTypesMatchSpec, the second form: for every expression, scene and place that are together of bulk at most 1048576 the law returns true: the kind of an expression at a place, and whether a scene is in order, are as the reference has them. It speaks of the program whose listed package-level variables read as the program's text lays them (the card ties them).
-/
import Derived.Test.YtngijlmokhkdjaaDoorCards
import Derived.Test.YtngijlmokhkdjaaDoorTie
import Derived.Test.YtngijlmokhkdjaaDoorTyLaw
import Derived.Test.YtngijlmokhkdjaaDoorTyOpenS
import Derived.Deep.DeepHandedRow
import Derived.Lib.LaidTab
import Derived.Lib.LaidU8
import Derived.LaidSub
import Derived.LaidLaws
import Derived.MakeChecks
import Derived.Deep.DeepWitnessRowRef
namespace Go.Proofs.YtngijlmokhkdjaaDoor
open Go.ChangeShapes Go.WideShapes Go.ChangeAt Go.RowKit

def theLaid : List (String × DataW Unit) := Rows.valueTypesMatchSpecRow.laid
theorem noHandle : (theLaid.all fun x => x.2.handleName?.isNone) = true := by kernel_rfl
theorem plainLaid {W : World} (h : laidMetH Tryd.prog theLaid W) : laidMet Tryd.prog theLaid W := by
  rw [Go.MakeChecks.laidMetH_plain _ _ _ noHandle] at h; exact h
/-- One entry of the list. -/
theorem entry {W : World} (h : laidMetH Tryd.prog theLaid W) (n : String) (d : DataW Unit) (e : (theLaid.filter fun x => x.1 == n) = [(n, d)]) : laidMet Tryd.prog [(n, d)] W := by
  have := (plainLaid h).filter (fun x => x.1 == n)
  rw [e] at this; exact this

theorem gSpaceType : (Tryd.prog.globals[0]?).map (·.type) = some 108 := by kernel_rfl
theorem spaceData : Rows.laid_strings_asciiSpace (H := Unit) = Lib.tabData .u8 Lib.asciiSpaceTab := by kernel_rfl
theorem space_tab {W : World} (h : laidMetH Tryd.prog theLaid W) : Lib.TabIs Tryd.prog W "strings.asciiSpace" .u8 Lib.asciiSpaceTab :=
  Lib.tabIs_of_head (rest := []) gSpace gSpaceType Tryd.underlying108 Tryd.underlying5 (by kernel_rfl) (by kernel_rfl) (by
    rw [← spaceData]; exact entry h "strings.asciiSpace" _ (by kernel_rfl))
theorem block_of {W : World} {b o : Nat} {v : Value} (h : W.cell? ⟨b, o, none⟩ = some v) : b < W.heap.size := by
  rcases Nat.lt_or_ge b W.heap.size with l | l
  · exact l
  · simp [World.cell?, Array.getElem?_eq_none l] at h

theorem gWhite : Tryd.prog.globalNamed "unicode.White_Space" = some 1 := by kernel_rfl
theorem gWhiteT : (Tryd.prog.globals[1]?).map (·.type) = some 125 := by kernel_rfl
theorem big_of {W : World} (h : laidMetH Tryd.prog theLaid W) : 2 ≤ W.heap.size := by
  obtain ⟨ps, ⟨g', t', cs, fuel, p, q, hg', ht', hvar, hd, _, _⟩, _⟩ := entry h "unicode.White_Space" Rows.laid_unicode_White_Space (by kernel_rfl)
  obtain rfl := Option.some.inj (gWhite.symm.trans hg')
  obtain rfl := Option.some.inj (gWhiteT.symm.trans ht')
  have h0 := World.var?_cell gWhite hvar 0
  cases cs with
  | mk l =>
    cases l with
    | nil =>
      cases fuel with
      | zero => simp [DataW.trod] at hd
      | succ n => simp [DataW.trod, Tryd.underlying125] at hd
    | cons v r =>
      have := block_of (v := v) (by rw [h0]; rfl)
      have h1 : 1 ≤ (1 : Nat) := by decide
      omega
set_option maxRecDepth 100000 in
/-- All that the walks need. -/
theorem env_of {W : World} (h : laidMetH Tryd.prog theLaid W) : Env W := ⟨space_tab h, big_of h⟩
end Go.Proofs.YtngijlmokhkdjaaDoor

namespace Go.Proofs.YtngijlmokhkdjaaDoor.lawTypes
open Go.ChangeShapes Go.WideShapes Go.ChangeAt Go.RowKit

/-- Trees that are together of bounded bulk are each of bounded bulk. -/
theorem few_of {H : Type} {d0 d1 d2 : DataW H} (h : Rows.uptoSmall H ([d0, d1, d2] ++ []) = true) : Rows.uptoBulk d0 ≤ 1048576 ∧ Rows.uptoBulk d1 ≤ 1048576 ∧ Rows.uptoBulk d2 ≤ 1048576 := by
  have h1 := of_decide_eq_true h
  simp only [List.append_nil, Rows.uptoBulkAll] at h1
  omega

set_option maxRecDepth 100000 in
theorem contract (H : Type) (enc : TypeId × Value → H) (W : World) (base : Nat) (args : Array Value) (ds gs : List (DataW H)) (before : List MemPlace)
    (hval : ∀ (j : Nat) t v, Tryd.f3.params[j]? = some t → args[j]? = some v → Value.okWide Tryd.prog W .any base t v)
    (hW : DataW.Whole enc Tryd.prog Tryd.f3.params.toList Rows.valueTypesMatchSpecSpec.vars false W args.toList ds gs before) (hL : laidMetH Tryd.prog theLaid W)
    (hk : Rows.uptoSmall H (ds ++ gs) = true) :
    Calls Tryd.prog 3 args W fun e W' => ∃ v, e = .returned v ∧ Rows.valueTypesMatchSpecSpec.post enc Tryd.prog Tryd.f3 false true false false W args v W' := by
  have hW' := hW
  obtain ⟨p, q, hA0, hV, rfl, hfz, hnd⟩ := hW
  have hA : DataW.TrodAll enc Tryd.prog W 0 (fun _ => true) true Tryd.f3.params.toList args.toList ds p := hA0
  rw [Tryd.params3] at hA hval
  obtain ⟨v0, vs0, d0, ds0, p0, q0, hargs, rfl, rfl, h0, r0⟩ := trodAll_cons hA
  obtain ⟨v1, vs1, d1, ds1, p1, q1, rfl, rfl, rfl, h1, r1⟩ := trodAll_cons r0
  obtain ⟨v2, vs2, d2, ds2, p2, q2, rfl, rfl, rfl, h2, r2⟩ := trodAll_cons r1
  obtain ⟨rfl, rfl, rfl⟩ := trodAll_nil r2
  obtain rfl : args = #[v0, v1, v2] := by cases args; simp_all
  obtain ⟨rfl, rfl⟩ := trodVars_none hV
  have k0 := h0
  have k1 := h1
  have k2 := h2
  have lt0 : ∀ x ∈ p0, x.block < W.heap.size := by obtain ⟨m, hm⟩ := k0; exact DataW.trod_lt m _ _ _ hm
  have lt1 : ∀ x ∈ p1, x.block < W.heap.size := by obtain ⟨m, hm⟩ := k1; exact DataW.trod_lt m _ _ _ hm
  have lt2 : ∀ x ∈ p2, x.block < W.heap.size := by obtain ⟨m, hm⟩ := k2; exact DataW.trod_lt m _ _ _ hm
  obtain ⟨z0, z1, z2⟩ := few_of hk
  obtain ⟨h, xs, hx, hp, hz, hf⟩ := open_X (hval 0 27 v0 rfl rfl) h0
  obtain ⟨vC, vL, vB, vR, C, L, B, R, rfl, hC, hL', hB, hR, fC, fL, fB, fR, nC, nL, nB, nR⟩ := open_S (hval 1 33 v1 rfl rfl) h1 z1
  obtain ⟨pl, hN, hpl, hs⟩ := open_P (hval 2 34 v2 rfl rfl) h2 z2
  clear hA0
  refine (law_types h xs v0 vC vL vB vR v2 C L B R pl W (env_of hL) hx hN hC hL' hB hR fC fL fB fR nC nL nB nR (by omega) hz hf hpl hs).mono fun e W' ⟨he, bel⟩ => ?_
  subst he
  exact ⟨_, rfl, _, _, _, [], _, [], hW', trodAll_mk1 (shut_bool Tryd.underlying4 _), (trodAll_cons_mk (Below.trod laidOut (by kernel_rfl) (of_decide_eq_true (by kernel_rfl)) k0 bel lt0) (trodAll_cons_mk (Below.trod laidOut (by kernel_rfl) (of_decide_eq_true (by kernel_rfl)) k1 bel lt1) (trodAll_cons_mk (Below.trod laidOut (by kernel_rfl) (of_decide_eq_true (by kernel_rfl)) k2 bel lt2) trodAll_mk0))), rfl, bel.frame _, fun h => by cases h⟩

/-! ### A world for the witness. -/
noncomputable def low : Nat := (World.holding Tryd.prog default ⟨#[], #[], []⟩).heap.size
def tabU8 (l : List Nat) : Array Value := (l.map fun (z : Nat) => Value.int .u8 (z : Int)).toArray
def put (h : Array Obj) (g : Nat) (cs : Array Value) : Array Obj := h.modify g fun
  | .cells _ t frozen => .cells cs t frozen
  | o => o
noncomputable def laidWorld (os : Os) : World :=
  let w0 := World.holding Tryd.prog os ⟨#[.cells ([9, 13, 1, 32, 133, 101, 160, 5760, 5600, 8192, 8202, 1, 8232, 8233, 1, 8239, 8287, 48, 12288, 12288, 1].map fun (z : Nat) => Value.int .u16 (z : Int)).toArray 133, .cells #[.slice (some ⟨low, 0, none⟩) 7 7, .slice none 0 0, .int .i64 2] 130], #[], []⟩
  let h9 := put w0.heap 0 (tabU8 [0, 0, 0, 0, 0, 0, 0, 0, 0, 1, 1, 1, 1, 1, 0, 0, 0, 0, 0, 0, 0, 0, 0, 0, 0, 0, 0, 0, 0, 0, 0, 0, 1, 0, 0, 0, 0, 0, 0, 0, 0, 0, 0, 0, 0, 0, 0, 0, 0, 0, 0, 0, 0, 0, 0, 0, 0, 0, 0, 0, 0, 0, 0, 0, 0, 0, 0, 0, 0, 0, 0, 0, 0, 0, 0, 0, 0, 0, 0, 0, 0, 0, 0, 0, 0, 0, 0, 0, 0, 0, 0, 0, 0, 0, 0, 0, 0, 0, 0, 0, 0, 0, 0, 0, 0, 0, 0, 0, 0, 0, 0, 0, 0, 0, 0, 0, 0, 0, 0, 0, 0, 0, 0, 0, 0, 0, 0, 0, 0, 0, 0, 0, 0, 0, 0, 0, 0, 0, 0, 0, 0, 0, 0, 0, 0, 0, 0, 0, 0, 0, 0, 0, 0, 0, 0, 0, 0, 0, 0, 0, 0, 0, 0, 0, 0, 0, 0, 0, 0, 0, 0, 0, 0, 0, 0, 0, 0, 0, 0, 0, 0, 0, 0, 0, 0, 0, 0, 0, 0, 0, 0, 0, 0, 0, 0, 0, 0, 0, 0, 0, 0, 0, 0, 0, 0, 0, 0, 0, 0, 0, 0, 0, 0, 0, 0, 0, 0, 0, 0, 0, 0, 0, 0, 0, 0, 0, 0, 0, 0, 0, 0, 0, 0, 0, 0, 0, 0, 0, 0, 0, 0, 0, 0, 0, 0, 0, 0, 0, 0, 0, 0, 0, 0, 0, 0, 0])
  let h10 := put h9 1 #[.pointer (some ⟨low + 1, 0, none⟩)]
  { w0 with heap := h10 }
abbrev wit : Array Value := #[.agg #[.int .i64 0, .int .i64 0, .string ⟨#[]⟩, .int .i64 0, .int .i64 0, .string ⟨#[]⟩, .slice none 0 0, .slice none 0 0], .agg #[.slice none 0 0, .slice none 0 0, .slice none 0 0, .slice none 0 0], .slice none 0 0]
/-! That many places are all different: by one number in which each has its own bit. -/
def keyOf : MemPlace → Nat
  | .cell b off => b * 1024 + off
  | .map _ => 0
def bitsB : List MemPlace → Nat → Bool
  | [], _ => true
  | k :: r, acc => !(acc.testBit (keyOf k)) && bitsB r (acc ||| 2 ^ keyOf k)
theorem bits_nodup : ∀ (l : List MemPlace) (acc : Nat), bitsB l acc = true → l.Nodup ∧ ∀ k ∈ l, acc.testBit (keyOf k) = false
  | [], _, _ => ⟨List.nodup_nil, fun _ h => by cases h⟩
  | k :: r, acc, h => by
    simp only [bitsB, Bool.and_eq_true, Bool.not_eq_true'] at h
    obtain ⟨h1, h2⟩ := bits_nodup r _ h.2
    refine ⟨List.nodup_cons.2 ⟨fun hk => ?_, h1⟩, fun x hx => ?_⟩
    · have := h2 k hk
      rw [Nat.testBit_or, Nat.testBit_two_pow_self] at this
      simp at this
    · rcases List.mem_cons.1 hx with rfl | hx
      · exact h.1
      · have := h2 x hx
        rw [Nat.testBit_or, Bool.or_eq_false_iff] at this
        exact this.1
theorem laid_met (os : Os) : laidMet Tryd.prog theLaid ((laidWorld os).forCall (fun _ _ => 0) ⟨#[], wit, []⟩).memory := by
  have h : (DataW.laidRun Tryd.prog ((laidWorld os).forCall (fun _ _ => 0) ⟨#[], wit, []⟩).memory 8 (theLaid.map (·.1))).map (·.1) = some theLaid := by kernel_rfl
  have hr : (DataW.laidRun Tryd.prog ((laidWorld os).forCall (fun _ _ => 0) ⟨#[], wit, []⟩).memory 8 (theLaid.map (·.1))).map (fun x => bitsB x.2 0 && laidRowsB Tryd.prog ((laidWorld os).forCall (fun _ _ => 0) ⟨#[], wit, []⟩).memory x.2) = some true := by kernel_rfl
  cases hx : DataW.laidRun Tryd.prog ((laidWorld os).forCall (fun _ _ => 0) ⟨#[], wit, []⟩).memory 8 (theLaid.map (·.1)) with
  | none => rw [hx] at h; cases h
  | some x =>
    obtain ⟨l', ps⟩ := x
    rw [hx] at h hr
    simp only [Option.map_some, Option.some.injEq, Bool.and_eq_true] at h hr
    subst h
    exact laidMet_of_run 8 hx (decide_eq_true (bits_nodup ps 0 hr.1).1) hr.2
theorem reads (os : Os) {H : Type} (enc : TypeId × Value → H) : ∃ places, DataW.whole enc Tryd.prog ((laidWorld os).forCall (fun _ _ => 0) ⟨#[], wit, []⟩).memory Tryd.f3.params.toList Rows.valueTypesMatchSpecSpec.vars false wit.toList 8 = some ([.agg [.lit (.int .i64 0), .lit (.int .i64 0), .lit (.string []), .agg [.lit (.int .i64 0), .lit (.int .i64 0), .lit (.string []), .nil], .nil], .agg [.nil, .nil, .nil, .nil], .nil], [], places) :=
  ⟨[], by kernel_rfl⟩

set_option maxRecDepth 100000 in
theorem lifted (os : Os) (started : os.Started) (H : Type) (enc : TypeId × Value → H) (F : Stop.Interp) :
    ReturnsInHanded {} Tryd.checked os 3 .any ((Rows.OpenSpec.upto Rows.valueTypesMatchSpecSpec).preRow enc Tryd.prog Tryd.f3 Rows.valueTypesMatchSpecUptoRow.domain false Rows.valueTypesMatchSpecUptoRow.laid) (((Rows.OpenSpec.upto Rows.valueTypesMatchSpecSpec).at F).post enc Tryd.prog Tryd.f3 false true false false) := by
  obtain ⟨places, hx⟩ := reads os enc
  refine returnsInHanded_of_row (C := Tryd.checked) (s := Rows.OpenSpec.upto Rows.valueTypesMatchSpecSpec) own started (by kernel_rfl) Tryd.func3
    (witness_row_atRef (enc := enc) (C := Tryd.checked) false (laidWorld os) wit rfl (by kernel_rfl) (by kernel_rfl) (by kernel_rfl)
      (OpenSpec.preRow_of_cond 8 hx (by kernel_rfl) (fun k hk => by cases hk; kernel_rfl) (by kernel_rfl) (laid_met os))) ?_
  intro W base args ds gs before hval hW _ hcond _ hL _ _
  exact contract H enc W base args ds gs before hval hW hL (hcond _ rfl)

theorem said : Rows.ValueTypesMatchSpecUptoSaid :=
  OpenClaim.holds_of_cond 3 Tryd.f3 rfl rfl rfl rfl rfl rfl rfl ⟨rfl, rfl, rfl, rfl, rfl⟩ rfl rfl rfl rfl rfl (by kernel_rfl) Tryd.func3 (by kernel_rfl)
    (of_decide_eq_true (by kernel_rfl)) (by unfold Func.isWrapper; first | (rw [if_pos (by decide +kernel)]; kernel_rfl) | (rw [if_neg (by decide +kernel)]; exact ⟨rfl, rfl⟩))
    (fun os started H enc _ F => by rw [OpenClaim.pre_eq_preRow]; exact lifted os started H enc F)

theorem plain (f : FuncId) (fn : Func) (hf : Tryd.pinned.checked.prog.funcNamed "canvass/canvasslaw1.ValueTypesMatchSpec" = some f) (hfn : Tryd.pinned.checked.prog.funcs[f]? = some fn) :
    false = Tryd.pinned.checked.prog.looks [] ∧ ∀ (j : Nat) t, fn.params[j]? = some t → Tryd.pinned.checked.prog.wantsStandIn t = false := by
  obtain rfl : f = 3 := Option.some.inj ((show Tryd.prog.funcNamed "canvass/canvasslaw1.ValueTypesMatchSpec" = some 3 by kernel_rfl).symm.trans hf) |>.symm
  obtain rfl : fn = Tryd.f3 := (Option.some.inj (Tryd.func3.symm.trans hfn)).symm
  refine ⟨by kernel_rfl, fun j t ht => ?_⟩
  rw [Tryd.params3] at ht
  have ht' : t = 27 ∨ t = 33 ∨ t = 34 := by simpa using Array.mem_of_getElem? ht
  rcases ht' with rfl | rfl | rfl
  · exact (show Tryd.prog.wantsStandIn 27 = false by kernel_rfl)
  · exact (show Tryd.prog.wantsStandIn 33 = false by kernel_rfl)
  · exact (show Tryd.prog.wantsStandIn 34 = false by kernel_rfl)

/-- For every expression, scene and place of bounded bulk the law of types that match the reference returns true. -/
theorem card : Rows.ValueTypesMatchSpecUptoCardSaid :=
  Claim7.holds_tied_plain_at .later [] _ _ _ _ said (fun _ h => by cases h) (by kernel_rfl) (fun _ h => by cases h) valueTypesMatchSpecUpto_row_tie rfl ⟨rfl, rfl⟩ (by kernel_rfl) rfl plain (by kernel_rfl)
#print axioms card
end Go.Proofs.YtngijlmokhkdjaaDoor.lawTypes
