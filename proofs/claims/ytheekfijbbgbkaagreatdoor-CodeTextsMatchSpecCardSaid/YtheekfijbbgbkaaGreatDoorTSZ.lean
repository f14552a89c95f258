/-
  CodeTextsMatchSpec: for every text the law returns true: Read answers as its reference, with the lines of errors. It speaks of the program whose listed package-level variables read as the program's text lays them (the card ties them). No condition.
-/
import Derived.Test.YtheekfijbbgbkaaGreatDoorTS18
import Derived.Stop.LaidErr
import Derived.Test.YtheekfijbbgbkaaGreatDoorCards
import Derived.Test.YtheekfijbbgbkaaGreatDoorTie
import Derived.ProofKit
import Derived.OpenShut
import Derived.Deep.DeepHandedRow
import Derived.Deep.DeepWitnessRowRef
import Derived.Lib.LaidTab
import Derived.Lib.LaidU8
import Derived.Lib.SmallJoins
import Derived.LaidSub
import Derived.LaidLaws
import Derived.MakeChecks
namespace Go.Proofs.YtheekfijbbgbkaaGreatDoor.lawSpec
open Go.ChangeShapes Go.WideShapes Go.ChangeAt Go.RowKit Go.Joins

def theLaid : List (String × DataW Unit) := Rows.codeTextsMatchSpecRow.laid
theorem noHandle : (theLaid.all fun x => x.2.handleName?.isNone) = true := by kernel_rfl
theorem plainLaid {W : World} (h : laidMetH Tryz.prog theLaid W) : laidMet Tryz.prog theLaid W := by
  rw [Go.MakeChecks.laidMetH_plain _ _ _ noHandle] at h; exact h
/-- One entry of the list. -/
theorem entry {W : World} (h : laidMetH Tryz.prog theLaid W) (n : String) (d : DataW Unit) (e : (theLaid.filter fun x => x.1 == n) = [(n, d)]) : laidMet Tryz.prog [(n, d)] W := by
  have := (plainLaid h).filter (fun x => x.1 == n)
  rw [e] at this; exact this
theorem gPowType : (Tryz.prog.globals[3]?).map (·.type) = some 154 := by kernel_rfl
theorem powData : Rows.laid_internal_strconv_uint64pow10 (H := Unit) = Lib.tabData .u64 Lib.pow10Tab := by kernel_rfl
theorem pow_tab {W : World} (h : laidMetH Tryz.prog theLaid W) : Pow W :=
  Lib.tabIs_of_head (rest := []) gPow gPowType Tryz.underlying154 Tryz.underlying120 (by kernel_rfl) (by kernel_rfl) (by
    rw [← powData]; exact entry h "internal/strconv.uint64pow10" _ (by kernel_rfl))
theorem cellsStr : Tryz.prog.cellsOf 9 = 1 := by kernel_rfl
theorem gES : Tryz.prog.globalNamed "strconv.ErrSyntax" = some 1 := by kernel_rfl
theorem gESType : (Tryz.prog.globals[1]?).map (·.type) = some 54 := by kernel_rfl
theorem gER : Tryz.prog.globalNamed "strconv.ErrRange" = some 2 := by kernel_rfl
theorem gERType : (Tryz.prog.globals[2]?).map (·.type) = some 54 := by kernel_rfl
theorem cellsES : Tryz.prog.cellsOf 169 = 1 := by kernel_rfl
theorem starES : "*" ++ "errors.errorString" = "*errors.errorString" := by decide
theorem rowES (u : TypeId) (h : Tryz.prog.typeName? 3 u = some "*errors.errorString") : u = 167 :=
  typeName_ptr_named (nm := "errors.errorString") (by rw [starES]; kernel_rfl) (by kernel_rfl) (by decide) u (by rw [starES]; exact h)
theorem syn_cell {W : World} (h : laidMetH Tryz.prog theLaid W) : ∃ t p, W.cell? ⟨1, 0, none⟩ = some (.iface t p) := by
  obtain ⟨a0, s0, hv0, -, -, -⟩ := laid_sentinel (entry h "strconv.ErrSyntax" Rows.laid_strconv_ErrSyntax (by kernel_rfl)) gES gESType Tryz.underlying54 rowES Tryz.underlying167 Tryz.underlying169 rfl rfl Tryz.underlying9 cellsES cellsStr
  exact ⟨_, _, by have h0 := World.var?_cell gES hv0 0; simpa using h0⟩
theorem rng_cell {W : World} (h : laidMetH Tryz.prog theLaid W) : ∃ t p, W.cell? ⟨2, 0, none⟩ = some (.iface t p) := by
  obtain ⟨a0, s0, hv0, -, -, -⟩ := laid_sentinel (entry h "strconv.ErrRange" Rows.laid_strconv_ErrRange (by kernel_rfl)) gER gERType Tryz.underlying54 rowES Tryz.underlying167 Tryz.underlying169 rfl rfl Tryz.underlying9 cellsES cellsStr
  exact ⟨_, _, by have h0 := World.var?_cell gER hv0 0; simpa using h0⟩
theorem block_of {W : World} {b o : Nat} {v : Value} (h : W.cell? ⟨b, o, none⟩ = some v) : b < W.heap.size := by
  rcases Nat.lt_or_ge b W.heap.size with l | l
  · exact l
  · simp [World.cell?, Array.getElem?_eq_none l] at h

theorem gDb : Tryz.prog.globalNamed "math/bits.deBruijn64tab" = some 7 := by kernel_rfl
theorem gDbT : (Tryz.prog.globals[7]?).map (·.type) = some 171 := by kernel_rfl
theorem ev_of {W : World} (h : laidMetH Tryz.prog theLaid W) : Ev W := by
  have hbig : 3 ≤ W.heap.size := by
    have h1 := entry h "math/bits.deBruijn64tab" Rows.laid_math_bits_deBruijn64tab (by kernel_rfl)
    have h2 := Lib.tabIs_of_head (rest := []) (k := .u8) (zs := [0, 1, 56, 2, 57, 49, 28, 3, 61, 58, 42, 50, 38, 29, 17, 4, 62, 47, 59, 36, 45, 43, 51, 22, 53, 39, 33, 30, 24, 18, 12, 5, 63, 55, 48, 27, 60, 41, 37, 16, 46, 35, 44, 21, 52, 32, 23, 11, 54, 26, 40, 15, 34, 20, 31, 10, 25, 14, 19, 9, 13, 8, 7, 6]) gDb gDbT Tryz.underlying171 Tryz.underlying5 (by kernel_rfl) (by kernel_rfl) h1
    have := block_of (h2.cell gDb 0 (by decide))
    omega
  exact ⟨pow_tab h, syn_cell h, rng_cell h, hbig⟩
theorem mx_of {W : World} (hsh : W.ShapedOpen Tryz.prog) : ∃ m, W.cell? ⟨0, 0, none⟩ = some (.int .i64 m) := Tryz.laysM146.s1_3 W hsh
set_option maxRecDepth 100000 in
theorem contract (H : Type) (enc : TypeId × Value → H) (W : World) (base : Nat) (args : Array Value) (ds gs : List (DataW H)) (before : List MemPlace)
    (hval : ∀ (j : Nat) t v, Tryz.f3.params[j]? = some t → args[j]? = some v → Value.okWide Tryz.prog W .any base t v)
    (hW : DataW.Whole enc Tryz.prog Tryz.f3.params.toList Rows.codeTextsMatchSpecSpec.vars false W args.toList ds gs before) (hL : laidMetH Tryz.prog theLaid W) (hsh : W.ShapedOpen Tryz.prog) :
    Calls Tryz.prog 3 args W fun e W' => ∃ v, e = .returned v ∧ Rows.codeTextsMatchSpecSpec.post enc Tryz.prog Tryz.f3 false true false false W args v W' := by
  have hW' := hW
  obtain ⟨p, q, hA0, hV, rfl, hfz, hnd⟩ := hW
  have hA : DataW.TrodAll enc Tryz.prog W 0 (fun _ => true) true Tryz.f3.params.toList args.toList ds p := hA0
  rw [Tryz.params3] at hA hval
  obtain ⟨v0, vs0, d0, ds0, p0, q0, hargs, rfl, rfl, h0, r0⟩ := trodAll_cons hA
  obtain ⟨rfl, rfl, rfl⟩ := trodAll_nil r0
  obtain rfl : args = #[v0] := by cases args; simp_all
  obtain ⟨rfl, rfl⟩ := trodVars_none hV
  obtain ⟨s0, rfl, rfl, rfl, z0⟩ := Go.ChangeMaps.open_string Tryz.underlying9 (hval 0 9 v0 rfl rfl) h0
  clear hA0
  have zz0 := z0
  refine (law_spec s0 W (by unfold maxLen at z0; omega) (ev_of hL) (mx_of hsh)).mono fun e W' ⟨he, bel⟩ => ?_
  subst he
  exact ⟨_, rfl, _, _, _, [], _, [], hW', trodAll_mk1 (shut_bool Tryz.underlying4 _), (trodAll_cons_mk (Go.ChangeMaps.shut_string Tryz.underlying9 zz0) trodAll_mk0), rfl, bel.frame _, fun h => by cases h⟩

/-! ### A world for the witness. -/
noncomputable def low : Nat := (World.holding Tryz.prog default ⟨#[], #[], []⟩).heap.size
def txt (l : List UInt8) : ByteArray := ⟨l.toArray⟩
def tabU8 (l : List Nat) : Array Value := (l.map fun (z : Nat) => Value.int .u8 (z : Int)).toArray
def put (h : Array Obj) (g : Nat) (cs : Array Value) : Array Obj := h.modify g fun
  | .cells _ t frozen => .cells cs t frozen
  | o => o
noncomputable def laidWorld (os : Os) : World :=
  let w0 := World.holding Tryz.prog os ⟨#[.cells #[.string (txt [118, 97, 108, 117, 101, 32, 111, 117, 116, 32, 111, 102, 32, 114, 97, 110, 103, 101])] 169, .cells #[.string (txt [105, 110, 118, 97, 108, 105, 100, 32, 115, 121, 110, 116, 97, 120])] 169], #[], []⟩
  let h2 := put w0.heap 4 (tabU8 Go.Pinned.utf8FirstZ)
  let h3 := put h2 5 (tabU8 [128, 191, 160, 191, 128, 159, 144, 191, 128, 143, 0, 0, 0, 0, 0, 0, 0, 0, 0, 0, 0, 0, 0, 0, 0, 0, 0, 0, 0, 0, 0, 0])
  let h4 := put h3 3 (Lib.pow10Tab.map fun z => Value.int .u64 z).toArray
  let h5 := put h4 1 #[.iface 167 (.pointer (some ⟨low + 1, 0, none⟩))]
  let h6 := put h5 2 #[.iface 167 (.pointer (some ⟨low, 0, none⟩))]
  let h7 := put h6 6 (tabU8 [0, 1, 28, 2, 29, 14, 24, 3, 30, 22, 20, 15, 25, 17, 4, 8, 31, 27, 13, 23, 21, 19, 16, 7, 26, 12, 18, 6, 11, 5, 10, 9])
  let h8 := put h7 7 (tabU8 [0, 1, 56, 2, 57, 49, 28, 3, 61, 58, 42, 50, 38, 29, 17, 4, 62, 47, 59, 36, 45, 43, 51, 22, 53, 39, 33, 30, 24, 18, 12, 5, 63, 55, 48, 27, 60, 41, 37, 16, 46, 35, 44, 21, 52, 32, 23, 11, 54, 26, 40, 15, 34, 20, 31, 10, 25, 14, 19, 9, 13, 8, 7, 6])
  { w0 with heap := h8 }
abbrev wit : Array Value := #[.string ⟨#[]⟩]
/-! That many places are all different: by one number in which each has its own bit. -/
def keyOf : MemPlace → Nat
  | .cell b off => b * 1024 + off
  | .map _ => 0
def bitsB : List MemPlace → Nat → Bool
  | [], _ => true
  | k :: r, acc => !(acc.testBit (keyOf k)) && bitsB r (acc ||| 2 ^ keyOf k)
theorem bits_nodup : ∀ (l : List MemPlace) (acc : Nat), bitsB l acc = true → l.Nodup ∧ ∀ k ∈ l, acc.testBit (keyOf k) = false
  | [], _, _ => ⟨List.nodup_nil, fun _ h => by cases h⟩
  | k :: r, acc, h => by
    simp only [bitsB, Bool.and_eq_true, Bool.not_eq_true'] at h
    obtain ⟨h1, h2⟩ := bits_nodup r _ h.2
    refine ⟨List.nodup_cons.2 ⟨fun hk => ?_, h1⟩, fun x hx => ?_⟩
    · have := h2 k hk
      rw [Nat.testBit_or, Nat.testBit_two_pow_self] at this
      simp at this
    · rcases List.mem_cons.1 hx with rfl | hx
      · exact h.1
      · have := h2 x hx
        rw [Nat.testBit_or, Bool.or_eq_false_iff] at this
        exact this.1
theorem laid_met (os : Os) : laidMet Tryz.prog theLaid ((laidWorld os).forCall (fun _ _ => 0) ⟨#[], wit, []⟩).memory := by
  have h : (DataW.laidRun Tryz.prog ((laidWorld os).forCall (fun _ _ => 0) ⟨#[], wit, []⟩).memory 8 (theLaid.map (·.1))).map (·.1) = some theLaid := by kernel_rfl
  have hr : (DataW.laidRun Tryz.prog ((laidWorld os).forCall (fun _ _ => 0) ⟨#[], wit, []⟩).memory 8 (theLaid.map (·.1))).map (fun x => bitsB x.2 0 && laidRowsB Tryz.prog ((laidWorld os).forCall (fun _ _ => 0) ⟨#[], wit, []⟩).memory x.2) = some true := by kernel_rfl
  cases hx : DataW.laidRun Tryz.prog ((laidWorld os).forCall (fun _ _ => 0) ⟨#[], wit, []⟩).memory 8 (theLaid.map (·.1)) with
  | none => rw [hx] at h; cases h
  | some x =>
    obtain ⟨l', ps⟩ := x
    rw [hx] at h hr
    simp only [Option.map_some, Option.some.injEq, Bool.and_eq_true] at h hr
    subst h
    exact laidMet_of_run 8 hx (decide_eq_true (bits_nodup ps 0 hr.1).1) hr.2
theorem reads (os : Os) {H : Type} (enc : TypeId × Value → H) : ∃ places, DataW.whole enc Tryz.prog ((laidWorld os).forCall (fun _ _ => 0) ⟨#[], wit, []⟩).memory Tryz.f3.params.toList Rows.codeTextsMatchSpecSpec.vars false wit.toList 8 = some ([.lit (.string [])], [], places) :=
  ⟨[], by kernel_rfl⟩

set_option maxRecDepth 100000 in
theorem lifted (os : Os) (started : os.Started) (H : Type) (enc : TypeId × Value → H) (F : Stop.Interp) :
    ReturnsInHanded {} Tryz.checked os 3 .any ((OpenSpec.ofChange Rows.codeTextsMatchSpecSpec).preRow enc Tryz.prog Tryz.f3 Rows.codeTextsMatchSpecRow.domain false Rows.codeTextsMatchSpecRow.laid) (((OpenSpec.ofChange Rows.codeTextsMatchSpecSpec).at F).post enc Tryz.prog Tryz.f3 false true false false) := by
  obtain ⟨places, hx⟩ := reads os enc
  refine returnsInHanded_of_row (C := Tryz.checked) (s := OpenSpec.ofChange Rows.codeTextsMatchSpecSpec) own started (by kernel_rfl) Tryz.func3
    (witness_row_atRef (enc := enc) (C := Tryz.checked) false (laidWorld os) wit rfl (by kernel_rfl) (by kernel_rfl) (by kernel_rfl)
      (OpenSpec.preRow_of_cond 8 hx (by kernel_rfl) (fun k hk => by cases hk) (by kernel_rfl) (laid_met os))) ?_
  intro W base args ds gs before hval hW _ _ _ hL hsh _
  exact contract H enc W base args ds gs before hval hW hL hsh

theorem said : Rows.CodeTextsMatchSpecSaid :=
  OpenClaim.holds_of_cond 3 Tryz.f3 rfl rfl rfl rfl rfl rfl rfl ⟨rfl, rfl, rfl, rfl, rfl⟩ rfl rfl rfl rfl rfl (by kernel_rfl) Tryz.func3 (by kernel_rfl)
    (of_decide_eq_true (by kernel_rfl)) (by unfold Func.isWrapper; first | (rw [if_pos (by decide +kernel)]; kernel_rfl) | (rw [if_neg (by decide +kernel)]; exact ⟨rfl, rfl⟩))
    (fun os started H enc _ F => by rw [OpenClaim.pre_eq_preRow]; exact lifted os started H enc F)

theorem plain (f : FuncId) (fn : Func) (hf : Tryz.pinned.checked.prog.funcNamed "canvass/canvasslaw8.CodeTextsMatchSpec" = some f) (hfn : Tryz.pinned.checked.prog.funcs[f]? = some fn) :
    true = Tryz.pinned.checked.prog.looks [] ∧ ∀ (j : Nat) t, fn.params[j]? = some t → Tryz.pinned.checked.prog.wantsStandIn t = false := by
  obtain rfl : f = 3 := Option.some.inj ((show Tryz.prog.funcNamed "canvass/canvasslaw8.CodeTextsMatchSpec" = some 3 by kernel_rfl).symm.trans hf) |>.symm
  obtain rfl : fn = Tryz.f3 := (Option.some.inj (Tryz.func3.symm.trans hfn)).symm
  refine ⟨by kernel_rfl, fun j t ht => ?_⟩
  rw [Tryz.params3] at ht
  have ht' : t = 9 := by simpa using Array.mem_of_getElem? ht
  subst ht'
  exact (show Tryz.prog.wantsStandIn 9 = false by kernel_rfl)

/-- For every text the law returns true: Read answers as its reference, with the lines of errors. -/
theorem card : Rows.CodeTextsMatchSpecCardSaid :=
  Claim7.holds_tied_plain_at .later [] _ _ _ _ said (fun _ h => by cases h) (by kernel_rfl) (fun _ h => by cases h) codeTextsMatchSpec_row_tie rfl ⟨rfl, rfl⟩ (by kernel_rfl) rfl plain (by kernel_rfl)
#print axioms card
end Go.Proofs.YtheekfijbbgbkaaGreatDoor.lawSpec
