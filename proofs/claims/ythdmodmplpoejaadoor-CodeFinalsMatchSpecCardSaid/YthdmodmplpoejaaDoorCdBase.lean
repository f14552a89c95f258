/-
  Package code: slices of ints and of nodes that read as lists; maps from ints; the walk's common words.
-/
import Derived.Test.YthdmodmplpoejaaDoorCdMath
import Derived.Test.YthdmodmplpoejaaDoorShelf
import Derived.WalkKit
import Derived.WalkSpells
import Derived.Deep.QuietTactic
import Derived.BigQuiet
import Derived.OneCell
import Derived.Lib.Hide
import Derived.IntWalk
import Derived.Below
import Derived.WalkSmall
import Derived.Maps.OwnSet
import Derived.Maps.Views
namespace Go.Proofs.YthdmodmplpoejaaDoor
open Go.RowKit Go.WideMaps Go.Maps

/-- The places of a list. -/
def fn (l : List Int) : Nat → Int := fun j => l.getD j 0
/-- A slice that reads as a list of ints. -/
def Rd (w : World) (a : Option Addr) (l : List Int) : Prop :=
  l.length ≤ 9223372036854775807 ∧ (0 < l.length → ∃ b off, a = some ⟨b, off, none⟩ ∧ b < w.heap.size ∧ ∀ j, j < l.length → w.cell? ⟨b, off + j, none⟩ = some (.int .i64 (fn l j)))
theorem Rd.below {w w' : World} {a : Option Addr} {l : List Int} (h : Rd w a l) (hb : Below w.heap.size w w') : Rd w' a l :=
  ⟨h.1, fun h0 => by
    obtain ⟨b, off, e, hl, hc⟩ := h.2 h0
    exact ⟨b, off, e, Nat.lt_of_lt_of_le hl hb.size, fun j hj => by rw [hb.cell (p := ⟨b, off + j, none⟩) hl]; exact hc j hj⟩⟩
theorem Rd.at_ {w : World} {a : Option Addr} {l : List Int} (h : Rd w a l) {k : Nat} (hk : k < l.length) :
    ∃ b off, a = some ⟨b, off, none⟩ ∧ w.cell? ⟨b, off + k, none⟩ = some (.int .i64 (fn l k)) := by
  obtain ⟨b, off, e, _, hc⟩ := h.2 (by omega)
  exact ⟨b, off, e, hc k hk⟩
theorem Rd.none_ (w : World) : Rd w none [] := ⟨by simp, fun h => by simp at h⟩

theorem lawI : Keyed Tryd.prog 3 := int_keyed Tryd.underlying3
theorem below_grow {W W' : World} (h : Below W.heap.size W W') : W.grownBy W' none := ⟨h.os, h.tape, h.output, h.size, fun i hi _ => h.block i hi⟩
theorem bel_one (w : World) (o : Obj) : Below w.heap.size w (w.alloc o) := (Below.refl _ _).alloc (Nat.le_refl _) _
def IntP (n : Int) (w : World) (e : Ending) (w' : World) : Prop := e = .returned (.int .i64 n) ∧ Below w.heap.size w w'

/-- A node in memory. -/
def NdAt (w : World) (b o : Nat) (f : Nd) : Prop :=
  w.cell? ⟨b, o, none⟩ = some (.int .i64 f.cd) ∧ w.cell? ⟨b, o + 1, none⟩ = some (.int .i64 f.pr) ∧ w.cell? ⟨b, o + 2, none⟩ = some (.string f.ti)
theorem NdAt.below {w w' : World} {b o : Nat} {f : Nd} (h : NdAt w b o f) (hb : Below w.heap.size w w') (hl : b < w.heap.size) : NdAt w' b o f := by
  obtain ⟨h0, h1, h3⟩ := h
  exact ⟨(hb.cell (p := ⟨b, o, none⟩) hl).trans h0, (hb.cell (p := ⟨b, o + 1, none⟩) hl).trans h1, (hb.cell (p := ⟨b, o + 2, none⟩) hl).trans h3⟩
/-- A slice that reads as a list of nodes. -/
def RdN (w : World) (a : Option Addr) (l : List Nd) : Prop :=
  l.length ≤ 9223372036854775807 ∧ (0 < l.length → ∃ b off, a = some ⟨b, off, none⟩ ∧ b < w.heap.size ∧ ∀ j, j < l.length → NdAt w b (off + j * 3) (nd l j))
theorem RdN.below {w w' : World} {a : Option Addr} {l : List Nd} (h : RdN w a l) (hb : Below w.heap.size w w') : RdN w' a l :=
  ⟨h.1, fun h0 => by
    obtain ⟨b, off, e, hl, hc⟩ := h.2 h0
    exact ⟨b, off, e, Nat.lt_of_lt_of_le hl hb.size, fun j hj => (hc j hj).below hb hl⟩⟩
theorem RdN.at_ {w : World} {a : Option Addr} {l : List Nd} (h : RdN w a l) {k : Nat} (hk : k < l.length) :
    ∃ b off, a = some ⟨b, off, none⟩ ∧ NdAt w b (off + k * 3) (nd l k) := by
  obtain ⟨b, off, e, _, hc⟩ := h.2 (by omega)
  exact ⟨b, off, e, hc k hk⟩
/-- The numbers of nodes are no longer than an int, titles no longer than a text can be. -/
def Fits (l : List Nd) : Prop := ∀ u, u ∈ l → (-9223372036854775808 ≤ u.cd ∧ u.cd ≤ 9223372036854775807) ∧ (-9223372036854775808 ≤ u.pr ∧ u.pr ≤ 9223372036854775807) ∧ u.ti.size ≤ 9223372036854775807
theorem zeroBool (w : World) : (zeroValue 4).run Tryd.prog w = .ok (.bool false) w := by kernel_rfl
section
open Go.ChangeMaps Go.MapKept
/-- How an element reads: as itself. -/
def asIs (v : Value) : Option (DataW Value × List MemPlace) := some (.held v, [])
/-- A datum that has the value f s at the number s. -/
def MapD (D : DataW Value) (f : Int → Option Value) : Prop :=
  Maps.IsMap D ∧ ∀ s : Int, Maps.has D (.int .i64 s) = (f s).isSome ∧ ∀ z, D.atKey (.int .i64 s) (.held z) = .held ((f s).getD z)
/-- Block b is a map of at most n entries that has the value f s at the number s. -/
def MapIs (w : World) (b n : Nat) (f : Int → Option Value) : Prop := ∃ D : DataW Value, w.ownsMap Tryd.prog 3 asIs b n D ∧ MapD D f

theorem text_key {s x : Int} (h : s ≠ x) : (Lit.int .i64 s) ≠ .int .i64 x := by
  intro e
  injection e with _ e
  exact h e
theorem MapD.none : MapD (.map []) fun _ => none := ⟨⟨[], rfl⟩, fun _ => ⟨rfl, fun _ => rfl⟩⟩
theorem MapD.put {D : DataW Value} {f : Int → Option Value} (h : MapD D f) (s : Int) (v : Value) : MapD (D.put (.int .i64 s) (.held v)) fun x => if x = s then some v else f x := by
  obtain ⟨hm, hf⟩ := h
  refine ⟨?_, fun x => ?_⟩
  · obtain ⟨es, rfl⟩ := hm
    exact ⟨_, rfl⟩
  · by_cases hx : x = s
    · subst hx
      have hk : WideAt.IsKeyLit (.int .i64 x) := trivial
      exact ⟨by rw [Maps.has_put_same hm hk]; simp, fun z => by rw [Maps.atKey_put_same hm hk]; simp⟩
    · simp only [if_neg hx]
      exact ⟨by rw [Maps.has_put_other (text_key hx)]; exact (hf x).1, fun z => by rw [Maps.atKey_put_other (text_key hx)]; exact (hf x).2 z⟩
theorem MapIs.lt {w : World} {b n : Nat} {f : Int → Option Value} (h : MapIs w b n f) : b < w.heap.size := by
  obtain ⟨D, h, _⟩ := h; exact h.lt
theorem MapIs.below {w w' : World} {b n B : Nat} {f : Int → Option Value} (h : MapIs w b n f) (hb : Below B w w') (hl : b < B) : MapIs w' b n f := by
  obtain ⟨D, ⟨es, clock, h1, h2⟩, hD⟩ := h
  exact ⟨D, ⟨es, clock, (hb.block b hl).trans h1, h2⟩, hD⟩
theorem MapIs.made (w : World) : MapIs (w.alloc (.map #[] 0)) w.heap.size 0 fun _ => none := ⟨_, World.ownsMap_made w _ _ _, MapD.none⟩
theorem MapIs.kept {w w' : World} {b n : Nat} {f : Int → Option Value} {row : Option Nat} (h : MapIs w b n f) (hg : w.grownBy w' row) (hne : some b ≠ row) : MapIs w' b n f := by
  obtain ⟨D, h, hD⟩ := h; exact ⟨D, h.kept hg hne, hD⟩
theorem MapIs.congr {w : World} {b n : Nat} {f g : Int → Option Value} (h : MapIs w b n f) (e : ∀ s, f s = g s) : MapIs w b n g := by
  have : f = g := funext e
  rw [← this]; exact h
/-- 'v, ok := m[s]'. -/
theorem MapIs.look {w : World} {b n : Nat} {f : Int → Option Value} (h : MapIs w b n f) {t e : TypeId} (ht : Tryd.prog.underlying t = some (.map 3 e)) {z : Value} (hz : (zeroValue e).run Tryd.prog w = .ok z w) {s : Int} (hs : -9223372036854775808 ≤ s ∧ s ≤ 9223372036854775807) :
    (Instr.lookup t (.map (some b)) (.int .i64 s) true).run Tryd.prog w = .ok (.tuple #[(f s).getD z, .bool (f s).isSome]) w := by
  obtain ⟨D, h, hm, hf⟩ := h
  obtain ⟨v, ps, hrun, hv⟩ := h.look_ok lawI ht hz (zd := .held z) (zp := []) rfl (keyOf_int_mk Tryd.underlying3 (WalkArith.wf_i64 hs))
  rw [hrun, (hf s).1]
  rw [(hf s).2 z] at hv
  simp only [asIs, Option.some.injEq, Prod.mk.injEq, DataW.held.injEq] at hv
  rw [hv.1]
/-- 'm[s] = v'. -/
theorem MapIs.store {w : World} {b n : Nat} {f : Int → Option Value} (h : MapIs w b n f) {t e : TypeId} (ht : Tryd.prog.underlying t = some (.map 3 e)) (hn : n < maxLen) {s : Int} (hs : -9223372036854775808 ≤ s ∧ s ≤ 9223372036854775807) (v : Value) :
    ∃ w', (Instr.mapUpdate t (.map (some b)) (.int .i64 s) v).run Tryd.prog w = .ok () w' ∧ MapIs w' b (n + 1) (fun x => if x = s then some v else f x) ∧ w.grownBy w' (some b) := by
  obtain ⟨D, h, hD⟩ := h
  obtain ⟨w', h1, h2, h3⟩ := h.update lawI ht hn (keyOf_int_mk Tryd.underlying3 (WalkArith.wf_i64 hs)) (d := .held v) (ps := []) rfl
  exact ⟨w', h1, ⟨_, h2, hD.put s v⟩, h3⟩
/-- 'm[s]'. -/
theorem MapIs.look1 {w : World} {b n : Nat} {f : Int → Option Value} (h : MapIs w b n f) {t e : TypeId} (ht : Tryd.prog.underlying t = some (.map 3 e)) {z : Value} (hz : (zeroValue e).run Tryd.prog w = .ok z w) {s : Int} (hs : -9223372036854775808 ≤ s ∧ s ≤ 9223372036854775807) :
    (Instr.lookup t (.map (some b)) (.int .i64 s) false).run Tryd.prog w = .ok ((f s).getD z) w := by
  obtain ⟨D, h, hm, hf⟩ := h
  obtain ⟨v, ps, hrun, hv⟩ := h.lookup lawI ht hz (zd := .held z) (zp := []) rfl (keyOf_int_mk Tryd.underlying3 (WalkArith.wf_i64 hs))
  rw [hrun]
  rw [(hf s).2 z] at hv
  simp only [asIs, Option.some.injEq, Prod.mk.injEq, DataW.held.injEq] at hv
  rw [hv.1]

/-- Block b is the set of 0 and the codes of the first k nodes. -/
def KnIs (w : World) (b : Nat) (l : List Nd) (k : Nat) : Prop := MapIs w b (k + 1) fun s => if knw l s k then some (.bool true) else none
theorem KnIs.below {w w' : World} {b B k : Nat} {l : List Nd} (h : KnIs w b l k) (hb : Below B w w') (hl : b < B) : KnIs w' b l k := MapIs.below h hb hl
theorem KnIs.kept {w w' : World} {b k : Nat} {l : List Nd} {row : Option Nat} (h : KnIs w b l k) (hg : w.grownBy w' row) (hne : some b ≠ row) : KnIs w' b l k := MapIs.kept h hg hne
theorem KnIs.has {w : World} {b k : Nat} {l : List Nd} (h : KnIs w b l k) {s : Int} (hs : -9223372036854775808 ≤ s ∧ s ≤ 9223372036854775807) :
    (Instr.lookup 117 (.map (some b)) (.int .i64 s) false).run Tryd.prog w = .ok (.bool (knw l s k)) w := by
  rw [MapIs.look1 h Tryd.underlying117 (zeroBool w) hs]
  cases knw l s k <;> rfl
theorem KnIs.store {w : World} {b k : Nat} {l : List Nd} (h : KnIs w b l k) (hk : k + 1 < maxLen) (hs : -9223372036854775808 ≤ (nd l k).cd ∧ (nd l k).cd ≤ 9223372036854775807) :
    ∃ w', (Instr.mapUpdate 117 (.map (some b)) (.int .i64 (nd l k).cd) (.bool true)).run Tryd.prog w = .ok () w' ∧ KnIs w' b l (k + 1) ∧ w.grownBy w' (some b) := by
  obtain ⟨w', h1, h2, h3⟩ := MapIs.store h Tryd.underlying117 hk hs (.bool true)
  refine ⟨w', h1, h2.congr fun s => ?_, h3⟩
  show _ = if (knw l s k || decide ((nd l k).cd = s)) = true then _ else _
  by_cases e : s = (nd l k).cd
  · subst e; simp
  · rw [if_neg e]
    have : decide ((nd l k).cd = s) = false := by simpa using fun h => e h.symm
    rw [this, Bool.or_false]
end
end Go.Proofs.YthdmodmplpoejaaDoor
