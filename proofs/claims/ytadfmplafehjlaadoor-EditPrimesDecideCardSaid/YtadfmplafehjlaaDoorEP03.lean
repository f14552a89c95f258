/-
  EditPlansMatchSpec: fields, edits and sets in memory.
  Package edit: maps from ints.
  Package edit: a plan made ready, in memory.
  Package edit: sets.
-/
import Derived.Test.YtadfmplafehjlaaDoorEP02
import Derived.Laws.BitsAllLaws
import Derived.Shelf.Spec.TrailingZeros
import Derived.OwnWalk
import Derived.Maps.AppendAt
namespace Go.Proofs.YtadfmplafehjlaaDoor
open Go.RowKit Go.WideMaps Go.Maps

def FdAt (w : World) (b o : Nat) (f : Fd) : Prop :=
  w.cell? ⟨b, o, none⟩ = some (.string f.nm) ∧ (∃ a c, w.cell? ⟨b, o + 1, none⟩ = some (.slice a f.cs.length c) ∧ Rd w a f.cs) ∧ w.cell? ⟨b, o + 2, none⟩ = some (.int .i64 f.wt)
theorem FdAt.below {w w' : World} {b o : Nat} {f : Fd} (h : FdAt w b o f) (hb : Below w.heap.size w w') (hl : b < w.heap.size) : FdAt w' b o f := by
  obtain ⟨h0, ⟨a, c, h1, h2⟩, h3⟩ := h
  exact ⟨(hb.cell (p := ⟨b, o, none⟩) hl).trans h0, ⟨a, c, (hb.cell (p := ⟨b, o + 1, none⟩) hl).trans h1, h2.below hb⟩, (hb.cell (p := ⟨b, o + 2, none⟩) hl).trans h3⟩
/-- A slice that reads as a list of fields. -/
def RdF (w : World) (a : Option Addr) (l : List Fd) : Prop :=
  l.length ≤ 9223372036854775807 ∧ (0 < l.length → ∃ b off, a = some ⟨b, off, none⟩ ∧ b < w.heap.size ∧ ∀ j, j < l.length → FdAt w b (off + j * 3) (fd l j))
theorem RdF.below {w w' : World} {a : Option Addr} {l : List Fd} (h : RdF w a l) (hb : Below w.heap.size w w') : RdF w' a l :=
  ⟨h.1, fun h0 => by
    obtain ⟨b, off, e, hl, hc⟩ := h.2 h0
    exact ⟨b, off, e, Nat.lt_of_lt_of_le hl hb.size, fun j hj => (hc j hj).below hb hl⟩⟩
theorem RdF.at_ {w : World} {a : Option Addr} {l : List Fd} (h : RdF w a l) {k : Nat} (hk : k < l.length) :
    ∃ b off, a = some ⟨b, off, none⟩ ∧ FdAt w b (off + k * 3) (fd l k) := by
  obtain ⟨b, off, e, _, hc⟩ := h.2 (by omega)
  exact ⟨b, off, e, hc k hk⟩
/-- A slice that reads as a list of rows of ints. -/
def RdL (w : World) (a : Option Addr) (l : List (List Int)) : Prop :=
  l.length ≤ 9223372036854775807 ∧ (0 < l.length → ∃ b off, a = some ⟨b, off, none⟩ ∧ b < w.heap.size ∧ ∀ j, j < l.length → ∃ a' c', w.cell? ⟨b, off + j, none⟩ = some (.slice a' (st l j).length c') ∧ Rd w a' (st l j))
theorem RdL.below {w w' : World} {a : Option Addr} {l : List (List Int)} (h : RdL w a l) (hb : Below w.heap.size w w') : RdL w' a l :=
  ⟨h.1, fun h0 => by
    obtain ⟨b, off, e, hl, hc⟩ := h.2 h0
    refine ⟨b, off, e, Nat.lt_of_lt_of_le hl hb.size, fun j hj => ?_⟩
    obtain ⟨a', c', h1, h2⟩ := hc j hj
    exact ⟨a', c', (hb.cell (p := ⟨b, off + j, none⟩) hl).trans h1, h2.below hb⟩⟩
theorem RdL.at_ {w : World} {a : Option Addr} {l : List (List Int)} (h : RdL w a l) {k : Nat} (hk : k < l.length) :
    ∃ b off a' c', a = some ⟨b, off, none⟩ ∧ w.cell? ⟨b, off + k, none⟩ = some (.slice a' (st l k).length c') ∧ Rd w a' (st l k) := by
  obtain ⟨b, off, e, _, hc⟩ := h.2 (by omega)
  obtain ⟨a', c', h1, h2⟩ := hc k hk
  exact ⟨b, off, a', c', e, h1, h2⟩
def EdAt (w : World) (b o : Nat) (f : Ed) : Prop :=
  w.cell? ⟨b, o, none⟩ = some (.string f.nm) ∧ ∃ a c, w.cell? ⟨b, o + 1, none⟩ = some (.slice a f.ss.length c) ∧ RdL w a f.ss
theorem EdAt.below {w w' : World} {b o : Nat} {f : Ed} (h : EdAt w b o f) (hb : Below w.heap.size w w') (hl : b < w.heap.size) : EdAt w' b o f := by
  obtain ⟨h0, a, c, h1, h2⟩ := h
  exact ⟨(hb.cell (p := ⟨b, o, none⟩) hl).trans h0, a, c, (hb.cell (p := ⟨b, o + 1, none⟩) hl).trans h1, h2.below hb⟩
/-- A slice that reads as a list of edits. -/
def RdE (w : World) (a : Option Addr) (l : List Ed) : Prop :=
  l.length ≤ 9223372036854775807 ∧ (0 < l.length → ∃ b off, a = some ⟨b, off, none⟩ ∧ b < w.heap.size ∧ ∀ j, j < l.length → EdAt w b (off + j * 2) (ed l j))
theorem RdE.below {w w' : World} {a : Option Addr} {l : List Ed} (h : RdE w a l) (hb : Below w.heap.size w w') : RdE w' a l :=
  ⟨h.1, fun h0 => by
    obtain ⟨b, off, e, hl, hc⟩ := h.2 h0
    exact ⟨b, off, e, Nat.lt_of_lt_of_le hl hb.size, fun j hj => (hc j hj).below hb hl⟩⟩
theorem RdE.at_ {w : World} {a : Option Addr} {l : List Ed} (h : RdE w a l) {k : Nat} (hk : k < l.length) :
    ∃ b off, a = some ⟨b, off, none⟩ ∧ EdAt w b (off + k * 2) (ed l k) := by
  obtain ⟨b, off, e, _, hc⟩ := h.2 (by omega)
  exact ⟨b, off, e, hc k hk⟩
theorem take_self {α : Type} (l : List α) : l.take l.length = l := List.take_length
theorem contains_c (a : Option Addr) (c : Nat) (D : List Int) (x : Int) (w : World) (h : Rd w a D) :
    Calls Tryd.prog 16 #[.slice a D.length c, .int .i64 x] w fun e w' => e = .returned (.bool (inC D x)) ∧ w' = w := by
  by_cases h0 : D.length = 0
  · have e := List.eq_nil_of_length_eq_zero h0
    subst e
    refine (Tryd.slices_Contains_int_empty a c x w).mono ?_
    rintro e w' ⟨rfl, rfl⟩
    exact ⟨rfl, rfl⟩
  · obtain ⟨b, off, rfl, _, k⟩ := h.2 (by omega)
    refine (Tryd.slices_Contains_int b off D.length c D x w (Nat.le_refl _) h.1 k).mono ?_
    rintro e w' ⟨rfl, rfl⟩
    exact ⟨by rw [take_self]; rfl, rfl⟩
theorem grown_refl (w : World) (r : Option Nat) : w.grownBy w r := ⟨rfl, rfl, rfl, Nat.le_refl _, fun _ _ _ => rfl⟩
def NameP (ns : Nat → ByteArray) (k b : Nat) (w : World) (e : Ending) (w' : World) : Prop :=
  e = .returned (.int .i64 (nmE ns (ns k) k)) ∧ (nmE ns (ns k) k = 0 → NmIs w' b ns (k + 1)) ∧ w.grownBy w' (some b)
theorem checkName_c (ns : Nat → ByteArray) (k b : Nat) (w : World) (hN : NmIs w b ns k) (hk : k < maxLen) (hs : (ns k).size ≤ 9223372036854775807) :
    Calls Tryd.prog 105 #[.string (ns k), .map (some b)] w (NameP ns k b w) := by
  have HN := Lib.hid (isName_c (ns k) w)
  have hrun := hN.has hs
  by_cases h1 : nameS (ns k) = false
  · have e : Hid (nmE ns (ns k) k = 5) := by unfold Hid nmE; rw [if_pos h1]
    rw [h1] at HN
    clear h1 hN hrun
    go_enter Tryd.func105, Tryd.ntmps105
    go_wp2_with fail
    refine HN.out.mono ?_
    rintro e w' ⟨rfl, rfl⟩
    go_wp2
    go_ret
    exact ⟨by rw [e.out]; rfl, by rw [e.out]; simp, grown_refl _ _⟩
  have h1' : nameS (ns k) = true := by simpa using h1
  rw [h1'] at HN
  by_cases h2 : old ns (ns k) k = true
  · have e : Hid (nmE ns (ns k) k = 6) := by unfold Hid nmE; rw [if_neg h1, if_pos h2]
    rw [h2] at hrun
    clear h1 h1' h2 hN
    go_enter Tryd.func105, Tryd.ntmps105
    go_wp2_with fail
    refine HN.out.mono ?_
    rintro e w' ⟨rfl, rfl⟩
    go_wp2
    go_ret
    exact ⟨by rw [e.out]; rfl, by rw [e.out]; simp, grown_refl _ _⟩
  · have h2' : old ns (ns k) k = false := by simpa using h2
    have e : Hid (nmE ns (ns k) k = 0) := by unfold Hid nmE; rw [if_neg h1, if_neg h2]
    obtain ⟨W2, hup, hN2, hg⟩ := hN.store hk hs
    have HP := Lib.hid (And.intro hN2 hg)
    rw [h2'] at hrun
    clear h1 h1' h2 h2' hN hN2 hg
    go_enter Tryd.func105, Tryd.ntmps105
    go_wp2_with fail
    refine HN.out.mono ?_
    rintro e w' ⟨rfl, rfl⟩
    go_wp2
    go_ret
    exact ⟨by rw [e.out]; rfl, fun _ => HP.out.1, HP.out.2⟩
theorem checkCodes_c (a : Option Addr) (c : Nat) (l : List Int) (w : World) (hl : Rd w a l) : Calls Tryd.prog 106 #[.slice a l.length c] w fun e w' => e = .returned (.int .i64 (codesS l)) ∧ w' = w := by
  have hn := hl.1
  by_cases h1 : l.length = 0
  · have e : Hid (codesS l = 9) := by unfold Hid codesS; rw [if_pos h1]
    clear hl
    have h1' : (l.length : Int) = 0 := by omega
    go_enter Tryd.func106, Tryd.ntmps106
    go_wp2
    go_ret
    exact ⟨by rw [e.out]; rfl, rfl⟩
  have h1' : ((l.length : Int) == 0) = false := by rw [beq_eq_false_iff_ne]; omega
  by_cases h2 : 20 < l.length
  · have e : Hid (codesS l = 2) := by unfold Hid codesS; rw [if_neg h1, if_pos h2]
    have h2' : (20 : Int) < (l.length : Int) := by omega
    clear hl h1 h2
    go_enter Tryd.func106, Tryd.ntmps106
    go_wp2
    go_ret
    exact ⟨by rw [e.out]; rfl, rfl⟩
  · have e : Hid (codesS l = incS okC l) := by unfold Hid codesS; rw [if_neg h1, if_neg h2]
    have h2' : ¬ (20 : Int) < (l.length : Int) := by omega
    have HI := Lib.hid (inc1_c a c l w hl okC (fun c => codes1_c c w))
    clear hl h1 h2
    go_enter Tryd.func106, Tryd.ntmps106
    go_wp2_with fail
    refine HI.out.mono ?_
    rintro e w' ⟨rfl, rfl⟩
    go_wp2
    go_ret
    exact ⟨by rw [e.out]; rfl, rfl⟩
theorem grown_cell {w w' : World} {r : Nat} {p : Addr} (h : w.grownBy w' (some r)) (hl : p.block < w.heap.size) (hne : p.block ≠ r) : w'.cell? p = w.cell? p := by
  have e := h.block p.block hl (fun e => hne (by injection e))
  unfold World.cell?
  rw [e]
end Go.Proofs.YtadfmplafehjlaaDoor
namespace Go.Proofs.YtadfmplafehjlaaDoor
open Go.RowKit Go.WideMaps Go.Maps
section
open Go.ChangeMaps Go.MapKept
theorem lawN : Keyed Tryd.prog 3 := int_keyed Tryd.underlying3
/-- How an element reads: as itself. -/
def asIsK (v : Value) : Option (DataW Value × List MemPlace) := some (.held v, [])
/-- A datum that has the value f s at the number s. -/
def MapDN (D : DataW Value) (f : Int → Option Value) : Prop :=
  Maps.IsMap D ∧ ∀ s : Int, Maps.has D (.int .i64 s) = (f s).isSome ∧ ∀ z, D.atKey (.int .i64 s) (.held z) = .held ((f s).getD z)
/-- Block b is a map of at most n entries that has the value f s at the number s. -/
def MapN (w : World) (b n : Nat) (f : Int → Option Value) : Prop := ∃ D : DataW Value, w.ownsMap Tryd.prog 3 asIsK b n D ∧ MapDN D f

theorem text_keyN {s x : Int} (h : s ≠ x) : (Lit.int .i64 s) ≠ .int .i64 x := by
  intro e
  injection e with _ e
  exact h e
theorem MapDN.none : MapDN (.map []) fun _ => none := ⟨⟨[], rfl⟩, fun _ => ⟨rfl, fun _ => rfl⟩⟩
theorem MapDN.put {D : DataW Value} {f : Int → Option Value} (h : MapDN D f) (s : Int) (v : Value) : MapDN (D.put (.int .i64 s) (.held v)) fun x => if x = s then some v else f x := by
  obtain ⟨hm, hf⟩ := h
  refine ⟨?_, fun x => ?_⟩
  · obtain ⟨es, rfl⟩ := hm
    exact ⟨_, rfl⟩
  · by_cases hx : x = s
    · subst hx
      have hk : WideAt.IsKeyLit (.int .i64 x) := trivial
      exact ⟨by rw [Maps.has_put_same hm hk]; simp, fun z => by rw [Maps.atKey_put_same hm hk]; simp⟩
    · simp only [if_neg hx]
      exact ⟨by rw [Maps.has_put_other (text_keyN hx)]; exact (hf x).1, fun z => by rw [Maps.atKey_put_other (text_keyN hx)]; exact (hf x).2 z⟩
theorem MapN.lt {w : World} {b n : Nat} {f : Int → Option Value} (h : MapN w b n f) : b < w.heap.size := by
  obtain ⟨D, h, _⟩ := h; exact h.lt
theorem MapN.below {w w' : World} {b n B : Nat} {f : Int → Option Value} (h : MapN w b n f) (hb : Below B w w') (hl : b < B) : MapN w' b n f := by
  obtain ⟨D, ⟨es, clock, h1, h2⟩, hD⟩ := h
  exact ⟨D, ⟨es, clock, (hb.block b hl).trans h1, h2⟩, hD⟩
theorem MapN.made (w : World) : MapN (w.alloc (.map #[] 0)) w.heap.size 0 fun _ => none := ⟨_, World.ownsMap_made w _ _ _, MapDN.none⟩
theorem MapN.kept {w w' : World} {b n : Nat} {f : Int → Option Value} {row : Option Nat} (h : MapN w b n f) (hg : w.grownBy w' row) (hne : some b ≠ row) : MapN w' b n f := by
  obtain ⟨D, h, hD⟩ := h; exact ⟨D, h.kept hg hne, hD⟩
theorem MapN.congr {w : World} {b n : Nat} {f g : Int → Option Value} (h : MapN w b n f) (e : ∀ s, f s = g s) : MapN w b n g := by
  have : f = g := funext e
  rw [← this]; exact h
/-- 'v, ok := m[s]'. -/
theorem MapN.look {w : World} {b n : Nat} {f : Int → Option Value} (h : MapN w b n f) {t e : TypeId} (ht : Tryd.prog.underlying t = some (.map 3 e)) {z : Value} (hz : (zeroValue e).run Tryd.prog w = .ok z w) {s : Int} (hs : -9223372036854775808 ≤ s ∧ s ≤ 9223372036854775807) :
    (Instr.lookup t (.map (some b)) (.int .i64 s) true).run Tryd.prog w = .ok (.tuple #[(f s).getD z, .bool (f s).isSome]) w := by
  obtain ⟨D, h, hm, hf⟩ := h
  obtain ⟨v, ps, hrun, hv⟩ := h.look_ok lawN ht hz (zd := .held z) (zp := []) rfl (keyOf_int_mk Tryd.underlying3 (WalkArith.wf_i64 hs))
  rw [hrun, (hf s).1]
  rw [(hf s).2 z] at hv
  simp only [asIsK, Option.some.injEq, Prod.mk.injEq, DataW.held.injEq] at hv
  rw [hv.1]
/-- 'm[s] = v'. -/
theorem MapN.store {w : World} {b n : Nat} {f : Int → Option Value} (h : MapN w b n f) {t e : TypeId} (ht : Tryd.prog.underlying t = some (.map 3 e)) (hn : n < maxLen) {s : Int} (hs : -9223372036854775808 ≤ s ∧ s ≤ 9223372036854775807) (v : Value) :
    ∃ w', (Instr.mapUpdate t (.map (some b)) (.int .i64 s) v).run Tryd.prog w = .ok () w' ∧ MapN w' b (n + 1) (fun x => if x = s then some v else f x) ∧ w.grownBy w' (some b) := by
  obtain ⟨D, h, hD⟩ := h
  obtain ⟨w', h1, h2, h3⟩ := h.update lawN ht hn (keyOf_int_mk Tryd.underlying3 (WalkArith.wf_i64 hs)) (d := .held v) (ps := []) rfl
  exact ⟨w', h1, ⟨_, h2, hD.put s v⟩, h3⟩
/-- 'm[s]'. -/
theorem MapN.look1 {w : World} {b n : Nat} {f : Int → Option Value} (h : MapN w b n f) {t e : TypeId} (ht : Tryd.prog.underlying t = some (.map 3 e)) {z : Value} (hz : (zeroValue e).run Tryd.prog w = .ok z w) {s : Int} (hs : -9223372036854775808 ≤ s ∧ s ≤ 9223372036854775807) :
    (Instr.lookup t (.map (some b)) (.int .i64 s) false).run Tryd.prog w = .ok ((f s).getD z) w := by
  obtain ⟨D, h, hm, hf⟩ := h
  obtain ⟨v, ps, hrun, hv⟩ := h.lookup lawN ht hz (zd := .held z) (zp := []) rfl (keyOf_int_mk Tryd.underlying3 (WalkArith.wf_i64 hs))
  rw [hrun]
  rw [(hf s).2 z] at hv
  simp only [asIsK, Option.some.injEq, Prod.mk.injEq, DataW.held.injEq] at hv
  rw [hv.1]
end
end Go.Proofs.YtadfmplafehjlaaDoor
namespace Go.Proofs.YtadfmplafehjlaaDoor
open Go.RowKit Go.WideMaps Go.Maps

/-- A box as a value, and in memory. -/
def bxV (B : Nat → Nat) : Value := .agg #[.int .u64 (B 0), .int .u64 (B 1), .int .u64 (B 2), .int .u64 (B 3), .int .u64 (B 4), .int .u64 (B 5), .int .u64 (B 6), .int .u64 (B 7), .int .u64 (B 8), .int .u64 (B 9), .int .u64 (B 10), .int .u64 (B 11)]
def BxAt (w : World) (b o : Nat) (B : Nat → Nat) : Prop := ∀ i, i < 12 → w.cell? ⟨b, o + i, none⟩ = some (.int .u64 (B i))
theorem BxAt.below {w w' : World} {b o : Nat} {B : Nat → Nat} (h : BxAt w b o B) (hb : Below w.heap.size w w') (hl : b < w.heap.size) : BxAt w' b o B :=
  fun i hi => (hb.cell (p := ⟨b, o + i, none⟩) hl).trans (h i hi)
/-- What the marks of a field give. -/
def mrk (cs : List Int) (c : Int) : Option Value := if inC cs c = true then some (.int .u64 (mkS cs c)) else none
/-- A field made ready. -/
def FlAt (w : World) (b o : Nat) (l : List Fd) (E : List Ed) (i : Nat) : Prop :=
  FdAt w b o (fd l i) ∧ (∃ m, w.cell? ⟨b, o + 3, none⟩ = some (.map (some m)) ∧ m < w.heap.size ∧ MapN w m (fd l i).cs.length (mrk (fd l i).cs)) ∧
  ∃ h c, w.cell? ⟨b, o + 4, none⟩ = some (.slice (some ⟨h, 0, none⟩) (fd l i).cs.length c) ∧ h < w.heap.size ∧ ∀ k, k < (fd l i).cs.length → w.cell? ⟨h, k, none⟩ = some (.int .u64 (hdS l E i k))
theorem FlAt.below {w w' : World} {b o : Nat} {l : List Fd} {E : List Ed} {i : Nat} (h : FlAt w b o l E i) (hb : Below w.heap.size w w') (hl : b < w.heap.size) : FlAt w' b o l E i := by
  obtain ⟨h0, ⟨m, h1, h2, h3⟩, g, c, h4, h5, h6⟩ := h
  exact ⟨h0.below hb hl, ⟨m, (hb.cell (p := ⟨b, o + 3, none⟩) hl).trans h1, Nat.lt_of_lt_of_le h2 hb.size, h3.below hb h2⟩, g, c, (hb.cell (p := ⟨b, o + 4, none⟩) hl).trans h4, Nat.lt_of_lt_of_le h5 hb.size,
    fun k hk => (hb.cell (p := ⟨g, k, none⟩) h5).trans (h6 k hk)⟩
/-- The set of an edit for a field, as places. -/
def ebS (l : List Fd) (E : List Ed) (n i : Nat) : Nat := if i < l.length then bz (fun k => inC (st (ed E n).ss i) (fn (fd l i).cs k)) (fd l i).cs.length else 0
structure PlR (w : World) (p : Nat) (l : List Fd) (E : List Ed) : Prop where
  lt : p < w.heap.size
  fs : ∃ b c, w.cell? ⟨p, 0, none⟩ = some (.slice (some ⟨b, 0, none⟩) l.length c) ∧ b < w.heap.size ∧ ∀ i, i < l.length → FlAt w b (i * 5) l E i
  fu : ∀ i, i < 12 → w.cell? ⟨p, 1 + i, none⟩ = some (.int .u64 (fuS l i))
  es : ∃ a c, w.cell? ⟨p, 13, none⟩ = some (.slice a E.length c) ∧ (0 < E.length → ∃ b, a = some ⟨b, 0, none⟩ ∧ b < w.heap.size ∧ ∀ n, n < E.length → BxAt w b (n * 12) (ebS l E n))
  ev : w.cell? ⟨p, 14, none⟩ = some (.int .u64 (evS E))
theorem PlR.below {w w' : World} {p : Nat} {l : List Fd} {E : List Ed} (h : PlR w p l E) (hb : Below w.heap.size w w') : PlR w' p l E := by
  have c := fun (o : Nat) => hb.cell (p := ⟨p, o, none⟩) h.lt
  refine ⟨Nat.lt_of_lt_of_le h.lt hb.size, ?_, fun i hi => (c _).trans (h.fu i hi), ?_, (c _).trans h.ev⟩
  · obtain ⟨b, k, h1, h2, h3⟩ := h.fs
    exact ⟨b, k, (c _).trans h1, Nat.lt_of_lt_of_le h2 hb.size, fun i hi => (h3 i hi).below hb h2⟩
  · obtain ⟨a, k, h1, h2⟩ := h.es
    refine ⟨a, k, (c _).trans h1, fun h0 => ?_⟩
    obtain ⟨b, e, h3, h4⟩ := h2 h0
    exact ⟨b, e, Nat.lt_of_lt_of_le h3 hb.size, fun n hn => (h4 n hn).below hb h3⟩
end Go.Proofs.YtadfmplafehjlaaDoor
namespace Go.Proofs.YtadfmplafehjlaaDoor
open Go.RowKit Go.WideMaps Go.Maps

theorem pow_u64 {n : Nat} (hn : n < 64) : IntKind.u64.wrap ((2 : Int) ^ n) = ((2 ^ n : Nat) : Int) := by
  have h2 : 2 ^ n < 2 ^ 64 := Nat.pow_lt_pow_right (by omega) hn
  have e : ((2 : Int) ^ n) = ((2 ^ n : Nat) : Int) := by simp
  rw [e, IntKind.wrap_u64]
  generalize 2 ^ n = v at h2
  omega
theorem keep_own {W W' : World} {base : Nat} {e : TypeId} {size : Nat} {v : Value} {n : Nat} {xs : List Value} (h : W.ownsRow base e size v n xs) (hb : Below W.heap.size W W') : W'.ownsRow base e size v n xs :=
  World.ownsRow.kept (row := none) h ⟨hb.os, hb.tape, hb.output, hb.size, fun i hi _ => hb.block i hi⟩ (by cases hv : v.ownBlock <;> simp)
theorem own_slE {w : World} {B : Nat} {e : TypeId} {size : Nat} {v : Value} {n : Nat} {xs : List Value} (h : w.ownsRow B e size v n xs) : ∃ a c, v = .slice a n c := by
  rcases h.2 with ⟨rfl, h0⟩ | ⟨g, cap, cur, rfl, _⟩
  · exact ⟨none, 0, by rw [h0]⟩
  · exact ⟨_, _, rfl⟩
theorem rdI_own {w : World} {B : Nat} {v : Value} {l : List Int} (h : w.ownsRow B 3 1 v l.length (l.map (Value.int .i64))) (hn : l.length ≤ 9223372036854775807) : ∃ a c, v = .slice a l.length c ∧ Rd w a l := by
  obtain ⟨a, c, rfl⟩ := own_slE h
  refine ⟨a, c, rfl, hn, fun h0 => ?_⟩
  rcases h.2 with ⟨_, e2⟩ | ⟨g, cap, cur, e1, _⟩
  · omega
  · injection e1 with e1
    subst e1
    refine ⟨g, 0, rfl, (h.lt g rfl).2, fun j hj => ?_⟩
    have := h.cells (g := g) rfl j (.int .i64 (fn l j)) (by
      rw [List.getElem?_map, List.getElem?_eq_getElem hj]
      unfold fn; rw [List.getD_eq_getElem?_getD, List.getElem?_eq_getElem hj]; rfl)
    unfold Addr.add at this
    split at this <;> simp_all
theorem infoIn : (Tryd.prog.info? 3).map (fun i => (i.zero, i.size, i.bytes)) = some (some (.int .i64 0), 1, 8) := by kernel_rfl
theorem only_c (n : Nat) (w : World) (hn : n < 64) : Calls Tryd.prog 70 #[.int .i64 n] w fun e w' => e = .returned (.int .u64 ((2 ^ n : Nat) : Int)) ∧ w' = w := by
  have h0 : ¬ (n : Int) < 0 := by omega
  have hw := pow_u64 hn
  obtain ⟨v, hv⟩ : ∃ v, 2 ^ n = v := ⟨_, rfl⟩
  rw [hv] at hw ⊢
  clear hv
  go_enter Tryd.func70, Tryd.ntmps70
  go_wp2_with fail
  go_ret
  exact ⟨rfl, rfl⟩
theorem upTo_c (n : Nat) (w : World) (hn : n < 64) : Calls Tryd.prog 62 #[.int .i64 n] w fun e w' => e = .returned (.int .u64 ((2 ^ n - 1 : Nat) : Int)) ∧ w' = w := by
  have C := Lib.hid (only_c n w hn)
  have h1 := Nat.two_pow_pos n
  have h2 : 2 ^ n < 2 ^ 64 := Nat.pow_lt_pow_right (by omega) hn
  obtain ⟨v, hv⟩ : ∃ v, 2 ^ n = v := ⟨_, rfl⟩
  rw [hv] at C h1 h2 ⊢
  have e : IntKind.u64.wrap ((v : Int) - 1) = ((v - 1 : Nat) : Int) := by rw [IntKind.wrap_u64]; omega
  clear hv h2
  go_enter Tryd.func62, Tryd.ntmps62
  go_wp2_with fail
  refine C.out.mono ?_
  rintro e w' ⟨rfl, rfl⟩
  go_wp2
  go_ret
  exact ⟨rfl, rfl⟩
theorem tab_below {g : Nat} {t : List Nat} {w w' : World} {B : Nat} (h : TabAt g t w) (hg : g < B) (hb : Below B w w') : TabAt g t w' :=
  fun j hj => (hb.cell (p := ⟨g, j, none⟩) hg).trans (h j hj)
theorem tz64_c (x : Nat) (w : World) (hx : x < 18446744073709551616) (h0 : x ≠ 0) (hT : TabAt 0 Lib.deBruijn64tab w) :
    Calls Tryd.prog 76 #[.int .u64 x] w fun e w' => e = .returned (.int .i64 (Lib.ctz 64 x)) ∧ w' = w := by
  obtain ⟨hlow, hk⟩ := Lib.lowest_bit 64 x h0 hx
  obtain ⟨hi, htab⟩ := Lib.deBruijn64_at _ hk
  have hcell := hT _ hi
  rw [htab] at hcell
  have key := tz64_key x _ hx h0 hlow
  have hx0 : ((x : Int) == 0) = false := by rw [beq_eq_false_iff_ne]; omega
  obtain ⟨k, hk'⟩ : ∃ k, Lib.ctz 64 x = k := ⟨_, rfl⟩
  obtain ⟨idx, hidx⟩ : ∃ i, 2 ^ k * 285870213051353865 % 18446744073709551616 / 288230376151711744 = i := ⟨_, rfl⟩
  rw [hk'] at hcell key hk hi ⊢
  rw [hidx] at hcell key hi
  clear hT hlow htab hk' hidx h0
  go_enter Tryd.func76, Tryd.ntmps76
  go_wp2_with (simp only [key])
  go_ret
  exact ⟨rfl, rfl⟩
theorem first_c (x : Nat) (w : World) (hx : x < 18446744073709551616) (h0 : x ≠ 0) (hT : TabAt 0 Lib.deBruijn64tab w) :
    Calls Tryd.prog 54 #[.int .u64 x] w fun e w' => e = .returned (.int .i64 (Lib.ctz 64 x)) ∧ w' = w := by
  have C := Lib.hid (tz64_c x w hx h0 hT)
  obtain ⟨k, hk'⟩ : ∃ k, Lib.ctz 64 x = k := ⟨_, rfl⟩
  rw [hk'] at C ⊢
  clear hT hk'
  go_enter Tryd.func54, Tryd.ntmps54
  go_wp2_with fail
  refine C.out.mono ?_
  rintro e w' ⟨rfl, rfl⟩
  go_wp2
  go_ret
  exact ⟨rfl, rfl⟩
def toI (l : List Nat) : List Int := l.map fun (n : Nat) => (n : Int)
theorem toI_len (l : List Nat) : (toI l).length = l.length := by simp [toI]
/-- The numbers of a set, in a slice of the call's own. -/
def NuP (l : List Int) (w : World) (e : Ending) (w' : World) : Prop := ∃ v, e = .returned v ∧ w'.ownsRow w.heap.size 3 1 v l.length (l.map (Value.int .i64)) ∧ Below w.heap.size w w'
theorem lst_len (p : Nat → Bool) (n : Nat) : (lst p n).length ≤ n := by
  unfold lst
  have := List.length_filter_le (fun j => p j) (List.range n)
  simpa using this
set_option maxRecDepth 100000 in
set_option maxHeartbeats 4000000 in
theorem numbers_c (p : Nat → Bool) (n : Nat) (w : World) (hn : n ≤ 64) (hT : TabAt 0 Lib.deBruijn64tab w) (ht : 0 < w.heap.size) :
    Calls Tryd.prog 28 #[.int .u64 (bz p n : Nat)] w (NuP (toI (lst p n)) w) := by
  obtain ⟨i0, hi, hz0, hz1, hz2⟩ := info_parts infoIn
  have HT := Lib.hid hT
  obtain ⟨x, hx⟩ : ∃ x, bz p n = x := ⟨_, rfl⟩
  rw [hx]
  have HX : Hid (bz (fun j => p j && decide (0 ≤ j)) n = x) := by unfold Hid; rw [← hx]; exact bz_ext fun j _ => by simp
  clear hT hx
  go_enter Tryd.func28, Tryd.ntmps28
  go_wp2_with fail
  go_loopw [0, 3] (fun sv ov wr => ∃ (k x : Nat), sv = .int .u64 x ∧ Hid (k ≤ n ∧ bz (fun j => p j && decide (k ≤ j)) n = x ∧ wr.ownsRow w.heap.size 3 1 ov (toI (lst p k)).length ((toI (lst p k)).map (Value.int .i64)) ∧ Below w.heap.size w wr)) (fun sv _ _ => (intOf sv).toNat)
  case atStart => exact ⟨0, x, rfl, Nat.zero_le _, HX.out, World.ownsRow_nil _ _ _ _, Below.refl _ _⟩
  case round =>
    obtain ⟨k, x, rfl, hS⟩ := hrel
    obtain ⟨hk, hxe, hown, hbel⟩ := hS.out
    have hx64 : x < 18446744073709551616 := by
      rw [← hxe]; exact Nat.lt_of_lt_of_le (bz_lt _ n) (Nat.pow_le_pow_right (by omega) hn)
    by_cases h0 : x = 0
    · have h0' : (x : Int) = 0 := by omega
      have HE : Hid (lst p n = lst p k) := by
        rw [h0] at hxe
        exact lst_none (fun j hj hkj => by have := bz_zero.1 hxe j hj; simpa [hkj] using this) hk
      have HO := Lib.hid hown
      have HB := Lib.hid hbel
      subst h0
      have hxx : ((0 : Int) != 0) = false := rfl
      obtain ⟨oa, oc, hv⟩ := own_slE hown
      subst hv
      have PP : Hid (NuP (toI (lst p n)) w (.returned (.slice oa (toI (lst p k)).length oc)) wr) := by
        refine ⟨_, rfl, ?_, HB.out⟩
        rw [HE.out]; exact HO.out
      clear hown hbel hxe hS h0' hx64
      go_wp2
      go_ret
      exact PP.out
    · have hne : ((x : Int) == 0) = false := by rw [beq_eq_false_iff_ne]; omega
      have hne' : ((x : Int) != 0) = true := by rw [bne, hne]; rfl
      obtain ⟨t, ht1, ht2, ht3⟩ := bz_first (p := fun j => p j && decide (k ≤ j)) (n := n) (by rw [hxe]; exact h0)
      have htk : k ≤ t ∧ p t = true := by simp at ht2; exact ⟨ht2.2, ht2.1⟩
      have C := Lib.hid (first_c x wr hx64 h0 (tab_below HT.out ht hbel))
      have hc : Lib.ctz 64 x = t := by rw [← hxe]; exact ctz_bz hn ht1 ht2 ht3
      rw [hc] at C
      have hand : bits .and .u64 (x : Int) ((x - 1 : Nat) : Int) = ((x &&& (x - 1) : Nat) : Int) := Go.u64_and_nat _ _ hx64 (by omega)
      have hsub : IntKind.u64.wrap ((x : Int) - 1) = ((x - 1 : Nat) : Int) := by rw [IntKind.wrap_u64]; omega
      obtain ⟨y, hy⟩ : ∃ y, x &&& (x - 1) = y := ⟨_, rfl⟩
      have hylt : y < x := by rw [← hy]; have := Nat.and_le_right (n := x) (m := x - 1); omega
      obtain ⟨z, hz⟩ : ∃ z, x - 1 = z := ⟨_, rfl⟩
      have HY : Hid (bz (fun j => p j && decide (t + 1 ≤ j)) n = y) := by
        unfold Hid
        rw [← hy, ← hxe, bz_pred ht1 ht2 ht3]
        refine bz_ext fun j _ => ?_
        have := htk.1
        rw [Bool.eq_iff_iff]; simp
        exact ⟨fun a => ⟨⟨a.1, by omega⟩, by omega⟩, fun a => ⟨a.1.1, by omega⟩⟩
      have HL : Hid (toI (lst p (t + 1)) = toI (lst p k) ++ [(t : Int)]) := by
        unfold Hid
        rw [lst_next htk.1 htk.2 fun j h1 h2 => by have := ht3 j h2; simpa [h1] using this]
        simp [toI]
      rw [hy, hz] at hand
      rw [hz] at hsub
      have HO := Lib.hid hown
      have HB := Lib.hid hbel
      have hlen : (toI (lst p k)).length ≤ 64 := by rw [toI_len]; have := lst_len p k; omega
      have hd1 : (toI (lst p k)).length + 1 ≤ maxLen := by unfold maxLen; omega
      have hd2 : ((toI (lst p k)).length + 1) * 8 ≤ 140737488355328 := by omega
      have hd3 : w.heap.size ≤ (wr.alloc (.cells #[.int .i64 t] 3)).heap.size := by have := hbel.size; simp; omega
      clear hS hxe h0 hne hx64 hc ht2 ht3 htk hown hbel hy hz
      go_wp2_with fail
      refine C.out.mono ?_
      rintro e w' ⟨rfl, rfl⟩
      go_wp2_with (at_builtin; refine wpList_append_own _ rfl _ _ 26 rfl w.heap.size 3 i0 (.int .i64 0) 1 8 Tryd.underlying26 hi hz0 hz1 hz2 rfl (by decide) _ _ _ rfl (HO.out.alloc _) ⟨w'.heap.size, 0, none⟩ 1 1 [.int .i64 t] rfl rfl (cell_one_new _ _ _) (by simp [Value.oneCell']) hd1 hd2 hd3 ?_)
      intro v7 w8 hown7 hgrow7 _
      have NX : Hid (t + 1 ≤ n ∧ bz (fun j => p j && decide (t + 1 ≤ j)) n = y ∧ w8.ownsRow w.heap.size 3 1 v7 (toI (lst p (t + 1))).length ((toI (lst p (t + 1))).map (Value.int .i64)) ∧ Below w.heap.size w w8) := by
        refine ⟨ht1, HY.out, ?_, (HB.out.alloc HB.out.size _).grown hgrow7 hd3 (fun u e => (HO.out.lt u e).1)⟩
        rw [HL.out, List.length_append, List.map_append]; exact hown7
      clear hown7 hgrow7 hd1 hd2 hd3
      go_wp2
      go_roundw
      case rel => exact ⟨t + 1, y, rfl, NX.out⟩
      case measure => simp [intOf]; omega
end Go.Proofs.YtadfmplafehjlaaDoor
