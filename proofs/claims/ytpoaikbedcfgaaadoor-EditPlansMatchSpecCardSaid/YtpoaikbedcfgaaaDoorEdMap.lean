/-
  Maps from texts to values of any form that a call makes: what is found in them, what a store makes of them, and that they stay.
-/
import Derived.Test.YtpoaikbedcfgaaaDoorEdMath


namespace Go.Proofs.YtpoaikbedcfgaaaDoor
open Go.RowKit
open Go.ChangeMaps Go.MapKept

/-- How an element reads: as itself. -/
def asIs (v : Value) : Option (DataW Value × List MemPlace) := some (.held v, [])
/-- A datum that has the value f s at the text s. -/
def MapD (D : DataW Value) (f : ByteArray → Option Value) : Prop :=
  Maps.IsMap D ∧ ∀ s : ByteArray, Maps.has D (.string s.data.toList) = (f s).isSome ∧ ∀ z, D.atKey (.string s.data.toList) (.held z) = .held ((f s).getD z)
/-- Block b is a map of at most n entries that has the value f s at the text s. -/
def MapIs (w : World) (b n : Nat) (f : ByteArray → Option Value) : Prop := ∃ D : DataW Value, w.ownsMap Tryd.prog 9 asIs b n D ∧ MapD D f

theorem text_key {s x : ByteArray} (h : s ≠ x) : (Lit.string s.data.toList) ≠ .string x.data.toList := by
  intro e
  simp only [Lit.string.injEq] at e
  apply h
  cases s; cases x
  simpa using e
theorem MapD.none : MapD (.map []) fun _ => none := ⟨⟨[], rfl⟩, fun _ => ⟨rfl, fun _ => rfl⟩⟩
theorem MapD.put {D : DataW Value} {f : ByteArray → Option Value} (h : MapD D f) (s : ByteArray) (v : Value) : MapD (D.put (.string s.data.toList) (.held v)) fun x => if x = s then some v else f x := by
  obtain ⟨hm, hf⟩ := h
  refine ⟨?_, fun x => ?_⟩
  · obtain ⟨es, rfl⟩ := hm
    exact ⟨_, rfl⟩
  · by_cases hx : x = s
    · subst hx
      have hk : WideAt.IsKeyLit (.string x.data.toList) := trivial
      exact ⟨by rw [Maps.has_put_same hm hk]; simp, fun z => by rw [Maps.atKey_put_same hm hk]; simp⟩
    · simp only [if_neg hx]
      exact ⟨by rw [Maps.has_put_other (text_key hx)]; exact (hf x).1, fun z => by rw [Maps.atKey_put_other (text_key hx)]; exact (hf x).2 z⟩
theorem MapIs.lt {w : World} {b n : Nat} {f : ByteArray → Option Value} (h : MapIs w b n f) : b < w.heap.size := by
  obtain ⟨D, h, _⟩ := h; exact h.lt
theorem MapIs.below {w w' : World} {b n B : Nat} {f : ByteArray → Option Value} (h : MapIs w b n f) (hb : Below B w w') (hl : b < B) : MapIs w' b n f := by
  obtain ⟨D, ⟨es, clock, h1, h2⟩, hD⟩ := h
  exact ⟨D, ⟨es, clock, (hb.block b hl).trans h1, h2⟩, hD⟩
theorem MapIs.made (w : World) : MapIs (w.alloc (.map #[] 0)) w.heap.size 0 fun _ => none := ⟨_, World.ownsMap_made w _ _ _, MapD.none⟩
theorem MapIs.kept {w w' : World} {b n : Nat} {f : ByteArray → Option Value} {row : Option Nat} (h : MapIs w b n f) (hg : w.grownBy w' row) (hne : some b ≠ row) : MapIs w' b n f := by
  obtain ⟨D, h, hD⟩ := h; exact ⟨D, h.kept hg hne, hD⟩
theorem MapIs.congr {w : World} {b n : Nat} {f g : ByteArray → Option Value} (h : MapIs w b n f) (e : ∀ s, f s = g s) : MapIs w b n g := by
  have : f = g := funext e
  rw [← this]; exact h
/-- 'v, ok := m[s]'. -/
theorem MapIs.look {w : World} {b n : Nat} {f : ByteArray → Option Value} (h : MapIs w b n f) {t e : TypeId} (ht : Tryd.prog.underlying t = some (.map 9 e)) {z : Value} (hz : (zeroValue e).run Tryd.prog w = .ok z w) {s : ByteArray} (hs : s.size ≤ 9223372036854775807) :
    (Instr.lookup t (.map (some b)) (.string s) true).run Tryd.prog w = .ok (.tuple #[(f s).getD z, .bool (f s).isSome]) w := by
  obtain ⟨D, h, hm, hf⟩ := h
  obtain ⟨v, ps, hrun, hv⟩ := h.look_ok (Maps.string_keyed Tryd.underlying9) ht hz (zd := .held z) (zp := []) rfl (Go.WideMaps.keyOf_string_mk Tryd.underlying9 (by unfold maxLen; exact hs))
  rw [hrun, (hf s).1]
  rw [(hf s).2 z] at hv
  simp only [asIs, Option.some.injEq, Prod.mk.injEq, DataW.held.injEq] at hv
  rw [hv.1]
/-- 'm[s] = v'. -/
theorem MapIs.store {w : World} {b n : Nat} {f : ByteArray → Option Value} (h : MapIs w b n f) {t e : TypeId} (ht : Tryd.prog.underlying t = some (.map 9 e)) (hn : n < maxLen) {s : ByteArray} (hs : s.size ≤ 9223372036854775807) (v : Value) :
    ∃ w', (Instr.mapUpdate t (.map (some b)) (.string s) v).run Tryd.prog w = .ok () w' ∧ MapIs w' b (n + 1) (fun x => if x = s then some v else f x) ∧ w.grownBy w' (some b) := by
  obtain ⟨D, h, hD⟩ := h
  obtain ⟨w', h1, h2, h3⟩ := h.update (Maps.string_keyed Tryd.underlying9) ht hn (Go.WideMaps.keyOf_string_mk Tryd.underlying9 (by unfold maxLen; exact hs)) (d := .held v) (ps := []) rfl
  exact ⟨w', h1, ⟨_, h2, hD.put s v⟩, h3⟩
/-- 'm[s]'. -/
theorem MapIs.look1 {w : World} {b n : Nat} {f : ByteArray → Option Value} (h : MapIs w b n f) {t e : TypeId} (ht : Tryd.prog.underlying t = some (.map 9 e)) {z : Value} (hz : (zeroValue e).run Tryd.prog w = .ok z w) {s : ByteArray} (hs : s.size ≤ 9223372036854775807) :
    (Instr.lookup t (.map (some b)) (.string s) false).run Tryd.prog w = .ok ((f s).getD z) w := by
  obtain ⟨D, h, hm, hf⟩ := h
  obtain ⟨v, ps, hrun, hv⟩ := h.lookup (Maps.string_keyed Tryd.underlying9) ht hz (zd := .held z) (zp := []) rfl (Go.WideMaps.keyOf_string_mk Tryd.underlying9 (by unfold maxLen; exact hs))
  rw [hrun]
  rw [(hf s).2 z] at hv
  simp only [asIs, Option.some.injEq, Prod.mk.injEq, DataW.held.injEq] at hv
  rw [hv.1]
theorem zeroBool (w : World) : (zeroValue 4).run Tryd.prog w = .ok (.bool false) w := by kernel_rfl
/-- Block b is the set of the first k names. -/
def NmIs (w : World) (b : Nat) (ns : Nat → ByteArray) (k : Nat) : Prop := MapIs w b k fun s => if old ns s k then some (.bool true) else none
theorem NmIs.made (w : World) (ns : Nat → ByteArray) : NmIs (w.alloc (.map #[] 0)) w.heap.size ns 0 := (MapIs.made w).congr fun s => by unfold old; simp
theorem NmIs.below {w w' : World} {b B k : Nat} {ns : Nat → ByteArray} (h : NmIs w b ns k) (hb : Below B w w') (hl : b < B) : NmIs w' b ns k := MapIs.below h hb hl
theorem NmIs.kept {w w' : World} {b k : Nat} {ns : Nat → ByteArray} {row : Option Nat} (h : NmIs w b ns k) (hg : w.grownBy w' row) (hne : some b ≠ row) : NmIs w' b ns k := MapIs.kept h hg hne
theorem NmIs.has {w : World} {b k : Nat} {ns : Nat → ByteArray} (h : NmIs w b ns k) {s : ByteArray} (hs : s.size ≤ 9223372036854775807) :
    (Instr.lookup 53 (.map (some b)) (.string s) false).run Tryd.prog w = .ok (.bool (old ns s k)) w := by
  rw [MapIs.look1 h Tryd.underlying53 (zeroBool w) hs]
  cases old ns s k <;> rfl
theorem NmIs.store {w : World} {b k : Nat} {ns : Nat → ByteArray} (h : NmIs w b ns k) (hk : k < maxLen) (hs : (ns k).size ≤ 9223372036854775807) :
    ∃ w', (Instr.mapUpdate 53 (.map (some b)) (.string (ns k)) (.bool true)).run Tryd.prog w = .ok () w' ∧ NmIs w' b ns (k + 1) ∧ w.grownBy w' (some b) := by
  obtain ⟨w', h1, h2, h3⟩ := MapIs.store h Tryd.underlying53 hk hs (.bool true)
  refine ⟨w', h1, h2.congr fun s => ?_, h3⟩
  show _ = if (decide (ns k = s) || old ns s k) = true then _ else _
  by_cases e : s = ns k
  · subst e; simp
  · rw [if_neg e]
    have : decide (ns k = s) = false := by simpa using fun h => e h.symm
    rw [this, Bool.false_or]
end Go.Proofs.YtpoaikbedcfgaaaDoor
