/-
  From what the row's list gives to what the walks need of memory; and a world for the witness.
-/
import Derived.Test.YtcohkmpjendhnaaGreatDoorCards
import Derived.Test.YtcohkmpjendhnaaGreatDoorTie
import Derived.Test.YtcohkmpjendhnaaGreatDoorTxtLib
import Derived.Deep.DeepHandedRow
import Derived.Lib.LaidTab
import Derived.Lib.LaidU8
import Derived.LaidSub
import Derived.LaidLaws
import Derived.MakeChecks
import Derived.Stop.LaidErr
namespace Go.Proofs.YtcohkmpjendhnaaGreatDoor
open Go.ChangeShapes Go.WideShapes Go.ChangeAt Go.RowKit

def theLaid : List (String × DataW Unit) := Rows.valueTextsComeBackRow.laid
theorem noHandle : (theLaid.all fun x => x.2.handleName?.isNone) = true := by kernel_rfl
theorem plainLaid {W : World} (h : laidMetH Tryz.prog theLaid W) : laidMet Tryz.prog theLaid W := by
  rw [Go.MakeChecks.laidMetH_plain _ _ _ noHandle] at h; exact h
/-- One entry of the list. -/
theorem entry {W : World} (h : laidMetH Tryz.prog theLaid W) (n : String) (d : DataW Unit) (e : (theLaid.filter fun x => x.1 == n) = [(n, d)]) : laidMet Tryz.prog [(n, d)] W := by
  have := (plainLaid h).filter (fun x => x.1 == n)
  rw [e] at this; exact this

/-- A listed array of texts holds them. -/
theorem cells_of_strs {H : Type} {enc : TypeId × Value → H} {P : Program} {w : World} {base : Nat} {sp : Nat → Bool} {held : Bool} {fuel : Nat} {t e : TypeId} {n : Nat} {cs : List Value} {zs : List (List UInt8)} {p : List MemPlace}
    (ht : P.underlying t = some (.array n e)) (he : P.underlying e = some .string) (hce : P.cellsOf e = 1) (hct : P.cellsOf t = n)
    (h : DataW.trod enc P w base sp held fuel t cs = some (.agg (zs.map fun z => .lit (.string z)), p)) : cs = zs.map fun z => Value.string (bs z) := by
  cases fuel with
  | zero => simp [DataW.trod] at h
  | succ fuel =>
    simp only [DataW.trod, ht, hce, hct, Nat.mul_one] at h
    split at h
    · rename_i hl
      obtain ⟨xs, hm, hx⟩ := Option.map_eq_some_iff.1 h
      have hxs : xs.map (·.1) = zs.map fun z => (DataW.lit (.string z) : DataW H) := by
        have := congrArg Prod.fst hx
        simpa using this
      have hxl : xs.length = n := by simpa using Lib.mapM_length hm
      have hzl : zs.length = n := by
        have := congrArg List.length hxs
        simp at this
        omega
      apply List.ext_getElem?
      intro i
      by_cases hi : i < n
      · obtain ⟨b, hb, hf⟩ := Lib.mapM_at hm i i (by simp [hi])
        obtain ⟨s, hc, rfl, _⟩ := DataW.trod_string he hf
        have h1 : cs[i]? = some (.string s) := by
          have := congrArg (·[0]?) hc
          simpa [List.getElem?_take, List.getElem?_drop] using this
        have h2 : (xs.map (·.1))[i]? = some (DataW.lit (.string s.data.toList) : DataW H) := by simp [hb]
        rw [hxs] at h2
        simp only [List.getElem?_map, Option.map_eq_some_iff, DataW.lit.injEq, Lit.string.injEq] at h2
        obtain ⟨z', hz', rfl⟩ := h2
        simp [h1, hz', bs_of]
      · rw [List.getElem?_eq_none (by omega), List.getElem?_eq_none (by simp; omega)]
    · cases h

theorem gReasons : Tryz.prog.globalNamed "canvass/value.reasons" = some 0 := by kernel_rfl
theorem gReasonsT : (Tryz.prog.globals[0]?).map (·.type) = some 46 := by kernel_rfl
theorem cellsReasons : Tryz.prog.cellsOf 46 = 3 := by kernel_rfl
theorem cellsString : Tryz.prog.cellsOf 9 = 1 := by kernel_rfl
theorem reasons_var {W : World} (h : laidMetH Tryz.prog theLaid W) : W.var? Tryz.prog "canvass/value.reasons" = some #[.string (bs [100, 111, 110, 116, 107, 110, 111, 119]), .string (bs [114, 101, 102, 117, 115, 101, 100]), .string (bs [110, 111, 97, 110, 115, 119, 101, 114])] := by
  have h1 := entry h "canvass/value.reasons" Rows.laid_canvass_value_reasons (by kernel_rfl)
  obtain ⟨ps, ⟨g', t', cs, fuel, p, q, hg', ht', hvar, hd, _, _⟩, _⟩ := h1
  obtain rfl := Option.some.inj (gReasons.symm.trans hg')
  obtain rfl := Option.some.inj (gReasonsT.symm.trans ht')
  have e := cells_of_strs (zs := [[100, 111, 110, 116, 107, 110, 111, 119], [114, 101, 102, 117, 115, 101, 100], [110, 111, 97, 110, 115, 119, 101, 114]]) Tryz.underlying46 Tryz.underlying9 cellsString cellsReasons hd
  rw [hvar]
  cases cs with
  | mk l => simp only at e; rw [e]; rfl

theorem gTab : Tryz.prog.globalNamed "canvass/value.lengths" = some 1 := by kernel_rfl
theorem gTabType : (Tryz.prog.globals[1]?).map (·.type) = some 122 := by kernel_rfl
theorem cellsTab : Tryz.prog.cellsOf 122 = 12 := by kernel_rfl
theorem cellsInt : Tryz.prog.cellsOf 3 = 1 := by kernel_rfl
theorem table {W : World} (h : laidMetH Tryz.prog theLaid W) : Lib.TabIs Tryz.prog W "canvass/value.lengths" .i64 [31, 28, 31, 30, 31, 30, 31, 31, 30, 31, 30, 31] :=
  Lib.tabIs_of_head (rest := []) gTab gTabType Tryz.underlying122 Tryz.underlying3 cellsInt cellsTab (entry h "canvass/value.lengths" _ (by kernel_rfl))
theorem gPowType : (Tryz.prog.globals[5]?).map (·.type) = some 132 := by kernel_rfl
theorem cellsPow : Tryz.prog.cellsOf 132 = 20 := by kernel_rfl
theorem cellsU64 : Tryz.prog.cellsOf 105 = 1 := by kernel_rfl
theorem powData : Rows.laid_internal_strconv_uint64pow10 (H := Unit) = Lib.tabData .u64 Lib.pow10Tab := by kernel_rfl
theorem pow_tab {W : World} (h : laidMetH Tryz.prog theLaid W) : Lib.TabIs Tryz.prog W "internal/strconv.uint64pow10" .u64 Lib.pow10Tab :=
  Lib.tabIs_of_head (rest := []) gPow gPowType Tryz.underlying132 Tryz.underlying105 cellsU64 cellsPow (by
    rw [← powData]; exact entry h "internal/strconv.uint64pow10" _ (by kernel_rfl))

theorem gES : Tryz.prog.globalNamed "strconv.ErrSyntax" = some 6 := by kernel_rfl
theorem gESType : (Tryz.prog.globals[6]?).map (·.type) = some 61 := by kernel_rfl
theorem gER : Tryz.prog.globalNamed "strconv.ErrRange" = some 7 := by kernel_rfl
theorem gERType : (Tryz.prog.globals[7]?).map (·.type) = some 61 := by kernel_rfl
theorem cellsES : Tryz.prog.cellsOf 147 = 1 := by kernel_rfl
theorem starES : "*" ++ "errors.errorString" = "*errors.errorString" := by decide
theorem rowES (u : TypeId) (h : Tryz.prog.typeName? 3 u = some "*errors.errorString") : u = 145 :=
  typeName_ptr_named (nm := "errors.errorString") (by rw [starES]; kernel_rfl) (by kernel_rfl) (by decide) u (by rw [starES]; exact h)
theorem syn_cell {W : World} (h : laidMetH Tryz.prog theLaid W) : ∃ t p, W.cell? ⟨6, 0, none⟩ = some (.iface t p) := by
  obtain ⟨a0, s0, hv0, -, -, -⟩ := laid_sentinel (entry h "strconv.ErrSyntax" Rows.laid_strconv_ErrSyntax (by kernel_rfl)) gES gESType Tryz.underlying61 rowES Tryz.underlying145 Tryz.underlying147 rfl rfl Tryz.underlying9 cellsES cellsString
  exact ⟨_, _, by have h0 := World.var?_cell gES hv0 0; simpa using h0⟩
theorem rng_cell {W : World} (h : laidMetH Tryz.prog theLaid W) : ∃ t p, W.cell? ⟨7, 0, none⟩ = some (.iface t p) := by
  obtain ⟨a0, s0, hv0, -, -, -⟩ := laid_sentinel (entry h "strconv.ErrRange" Rows.laid_strconv_ErrRange (by kernel_rfl)) gER gERType Tryz.underlying61 rowES Tryz.underlying145 Tryz.underlying147 rfl rfl Tryz.underlying9 cellsES cellsString
  exact ⟨_, _, by have h0 := World.var?_cell gER hv0 0; simpa using h0⟩
theorem block_of {W : World} {b o : Nat} {v : Value} (h : W.cell? ⟨b, o, none⟩ = some v) : b < W.heap.size := by
  rcases Nat.lt_or_ge b W.heap.size with l | l
  · exact l
  · simp [World.cell?, Array.getElem?_eq_none l] at h

theorem gDb : Tryz.prog.globalNamed "math/bits.deBruijn64tab" = some 9 := by kernel_rfl
theorem gDbT : (Tryz.prog.globals[9]?).map (·.type) = some 149 := by kernel_rfl
/-- All that the walks need. -/
theorem env_of {W : World} (h : laidMetH Tryz.prog theLaid W) (hsh : W.ShapedOpen Tryz.prog) : Env W := by
  have t := table h
  have r := reasons_var h
  have c0 := t.cell gTab 0 (by decide)
  have k0 := World.var?_cell gReasons r 0
  have k1 := World.var?_cell gReasons r 1
  have k2 := World.var?_cell gReasons r 2
  simp only [bs] at k0 k1 k2
  have hbig : 10 ≤ W.heap.size := by
    have h1 := entry h "math/bits.deBruijn64tab" Rows.laid_math_bits_deBruijn64tab (by kernel_rfl)
    have h2 := Lib.tabIs_of_head (rest := []) (k := .u8) (zs := [0, 1, 56, 2, 57, 49, 28, 3, 61, 58, 42, 50, 38, 29, 17, 4, 62, 47, 59, 36, 45, 43, 51, 22, 53, 39, 33, 30, 24, 18, 12, 5, 63, 55, 48, 27, 60, 41, 37, 16, 46, 35, 44, 21, 52, 32, 23, 11, 54, 26, 40, 15, 34, 20, 31, 10, 25, 14, 19, 9, 13, 8, 7, 6]) gDb gDbT Tryz.underlying149 Tryz.underlying5 (by kernel_rfl) (by kernel_rfl) h1
    have := block_of (h2.cell gDb 0 (by decide))
    omega
  exact ⟨⟨c0, t.cell gTab 1 (by decide), t.cell gTab 2 (by decide), t.cell gTab 3 (by decide), t.cell gTab 4 (by decide), t.cell gTab 5 (by decide), t.cell gTab 6 (by decide), t.cell gTab 7 (by decide), t.cell gTab 8 (by decide), t.cell gTab 9 (by decide), t.cell gTab 10 (by decide), t.cell gTab 11 (by decide), block_of c0⟩,
    pow_tab h, syn_cell h, rng_cell h, Tryz.laysM147.s1_3 W hsh, by simpa using k0, by simpa using k1, by simpa using k2, hbig⟩
end Go.Proofs.YtcohkmpjendhnaaGreatDoor
