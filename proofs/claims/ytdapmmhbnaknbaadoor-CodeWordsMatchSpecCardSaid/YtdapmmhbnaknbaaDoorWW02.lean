/-
  Package code: slices of ints and of nodes that read as lists; maps from ints; the walk's common words.
  Package code: the methods of a frame.
  Package code: titles.
  Package code: codings and moves in memory.
-/
import Derived.Test.YtdapmmhbnaknbaaDoorWW01
import Derived.Test.YtdapmmhbnaknbaaDoorShelf
import Derived.WalkKit
import Derived.WalkSpells
import Derived.Deep.QuietTactic
import Derived.BigQuiet
import Derived.OneCell
import Derived.Lib.Hide
import Derived.IntWalk
import Derived.Below
import Derived.WalkSmall
import Derived.Maps.OwnSet
import Derived.Maps.Views
import Derived.Lib.TrimByte
namespace Go.Proofs.YtdapmmhbnaknbaaDoor
open Go.RowKit Go.WideMaps Go.Maps

/-- The places of a list. -/
def fn (l : List Int) : Nat → Int := fun j => l.getD j 0
/-- A slice that reads as a list of ints. -/
def Rd (w : World) (a : Option Addr) (l : List Int) : Prop :=
  l.length ≤ 9223372036854775807 ∧ (0 < l.length → ∃ b off, a = some ⟨b, off, none⟩ ∧ b < w.heap.size ∧ ∀ j, j < l.length → w.cell? ⟨b, off + j, none⟩ = some (.int .i64 (fn l j)))
theorem Rd.below {w w' : World} {a : Option Addr} {l : List Int} (h : Rd w a l) (hb : Below w.heap.size w w') : Rd w' a l :=
  ⟨h.1, fun h0 => by
    obtain ⟨b, off, e, hl, hc⟩ := h.2 h0
    exact ⟨b, off, e, Nat.lt_of_lt_of_le hl hb.size, fun j hj => by rw [hb.cell (p := ⟨b, off + j, none⟩) hl]; exact hc j hj⟩⟩
theorem Rd.at_ {w : World} {a : Option Addr} {l : List Int} (h : Rd w a l) {k : Nat} (hk : k < l.length) :
    ∃ b off, a = some ⟨b, off, none⟩ ∧ w.cell? ⟨b, off + k, none⟩ = some (.int .i64 (fn l k)) := by
  obtain ⟨b, off, e, _, hc⟩ := h.2 (by omega)
  exact ⟨b, off, e, hc k hk⟩
theorem Rd.none_ (w : World) : Rd w none [] := ⟨by simp, fun h => by simp at h⟩

theorem lawI : Keyed Tryd.prog 3 := int_keyed Tryd.underlying3
theorem below_drewN {B : Nat} {a w : World} (h : Below B a w) (n : Nat) : Below B a (w.drewN n) := ⟨h.os, h.tape, h.output, h.size, h.block⟩
theorem below_grow {W W' : World} (h : Below W.heap.size W W') : W.grownBy W' none := ⟨h.os, h.tape, h.output, h.size, fun i hi _ => h.block i hi⟩
theorem bel_one (w : World) (o : Obj) : Below w.heap.size w (w.alloc o) := (Below.refl _ _).alloc (Nat.le_refl _) _
def IntP (n : Int) (w : World) (e : Ending) (w' : World) : Prop := e = .returned (.int .i64 n) ∧ Below w.heap.size w w'

/-- A node in memory. -/
def NdAt (w : World) (b o : Nat) (f : Nd) : Prop :=
  w.cell? ⟨b, o, none⟩ = some (.int .i64 f.cd) ∧ w.cell? ⟨b, o + 1, none⟩ = some (.int .i64 f.pr) ∧ w.cell? ⟨b, o + 2, none⟩ = some (.string f.ti)
theorem NdAt.below {w w' : World} {b o : Nat} {f : Nd} (h : NdAt w b o f) (hb : Below w.heap.size w w') (hl : b < w.heap.size) : NdAt w' b o f := by
  obtain ⟨h0, h1, h3⟩ := h
  exact ⟨(hb.cell (p := ⟨b, o, none⟩) hl).trans h0, (hb.cell (p := ⟨b, o + 1, none⟩) hl).trans h1, (hb.cell (p := ⟨b, o + 2, none⟩) hl).trans h3⟩
/-- A slice that reads as a list of nodes. -/
def RdN (w : World) (a : Option Addr) (l : List Nd) : Prop :=
  l.length ≤ 9223372036854775807 ∧ (0 < l.length → ∃ b off, a = some ⟨b, off, none⟩ ∧ b < w.heap.size ∧ ∀ j, j < l.length → NdAt w b (off + j * 3) (nd l j))
theorem RdN.below {w w' : World} {a : Option Addr} {l : List Nd} (h : RdN w a l) (hb : Below w.heap.size w w') : RdN w' a l :=
  ⟨h.1, fun h0 => by
    obtain ⟨b, off, e, hl, hc⟩ := h.2 h0
    exact ⟨b, off, e, Nat.lt_of_lt_of_le hl hb.size, fun j hj => (hc j hj).below hb hl⟩⟩
theorem RdN.at_ {w : World} {a : Option Addr} {l : List Nd} (h : RdN w a l) {k : Nat} (hk : k < l.length) :
    ∃ b off, a = some ⟨b, off, none⟩ ∧ NdAt w b (off + k * 3) (nd l k) := by
  obtain ⟨b, off, e, _, hc⟩ := h.2 (by omega)
  exact ⟨b, off, e, hc k hk⟩
/-- The numbers of nodes are no longer than an int, titles no longer than a text can be. -/
def Fits (l : List Nd) : Prop := ∀ u, u ∈ l → (-9223372036854775808 ≤ u.cd ∧ u.cd ≤ 9223372036854775807) ∧ (-9223372036854775808 ≤ u.pr ∧ u.pr ≤ 9223372036854775807) ∧ u.ti.size ≤ 9223372036854775807
theorem zeroBool (w : World) : (zeroValue 4).run Tryd.prog w = .ok (.bool false) w := by kernel_rfl
section
open Go.ChangeMaps Go.MapKept
/-- How an element reads: as itself. -/
def asIs (v : Value) : Option (DataW Value × List MemPlace) := some (.held v, [])
/-- A datum that has the value f s at the number s. -/
def MapD (D : DataW Value) (f : Int → Option Value) : Prop :=
  Maps.IsMap D ∧ ∀ s : Int, Maps.has D (.int .i64 s) = (f s).isSome ∧ ∀ z, D.atKey (.int .i64 s) (.held z) = .held ((f s).getD z)
/-- Block b is a map of at most n entries that has the value f s at the number s. -/
def MapIs (w : World) (b n : Nat) (f : Int → Option Value) : Prop := ∃ D : DataW Value, w.ownsMap Tryd.prog 3 asIs b n D ∧ MapD D f

theorem text_key {s x : Int} (h : s ≠ x) : (Lit.int .i64 s) ≠ .int .i64 x := by
  intro e
  injection e with _ e
  exact h e
theorem MapD.none : MapD (.map []) fun _ => none := ⟨⟨[], rfl⟩, fun _ => ⟨rfl, fun _ => rfl⟩⟩
theorem MapD.put {D : DataW Value} {f : Int → Option Value} (h : MapD D f) (s : Int) (v : Value) : MapD (D.put (.int .i64 s) (.held v)) fun x => if x = s then some v else f x := by
  obtain ⟨hm, hf⟩ := h
  refine ⟨?_, fun x => ?_⟩
  · obtain ⟨es, rfl⟩ := hm
    exact ⟨_, rfl⟩
  · by_cases hx : x = s
    · subst hx
      have hk : WideAt.IsKeyLit (.int .i64 x) := trivial
      exact ⟨by rw [Maps.has_put_same hm hk]; simp, fun z => by rw [Maps.atKey_put_same hm hk]; simp⟩
    · simp only [if_neg hx]
      exact ⟨by rw [Maps.has_put_other (text_key hx)]; exact (hf x).1, fun z => by rw [Maps.atKey_put_other (text_key hx)]; exact (hf x).2 z⟩
theorem MapIs.lt {w : World} {b n : Nat} {f : Int → Option Value} (h : MapIs w b n f) : b < w.heap.size := by
  obtain ⟨D, h, _⟩ := h; exact h.lt
theorem MapIs.below {w w' : World} {b n B : Nat} {f : Int → Option Value} (h : MapIs w b n f) (hb : Below B w w') (hl : b < B) : MapIs w' b n f := by
  obtain ⟨D, ⟨es, clock, h1, h2⟩, hD⟩ := h
  exact ⟨D, ⟨es, clock, (hb.block b hl).trans h1, h2⟩, hD⟩
theorem MapIs.made (w : World) : MapIs (w.alloc (.map #[] 0)) w.heap.size 0 fun _ => none := ⟨_, World.ownsMap_made w _ _ _, MapD.none⟩
theorem MapIs.kept {w w' : World} {b n : Nat} {f : Int → Option Value} {row : Option Nat} (h : MapIs w b n f) (hg : w.grownBy w' row) (hne : some b ≠ row) : MapIs w' b n f := by
  obtain ⟨D, h, hD⟩ := h; exact ⟨D, h.kept hg hne, hD⟩
theorem MapIs.congr {w : World} {b n : Nat} {f g : Int → Option Value} (h : MapIs w b n f) (e : ∀ s, f s = g s) : MapIs w b n g := by
  have : f = g := funext e
  rw [← this]; exact h
/-- 'v, ok := m[s]'. -/
theorem MapIs.look {w : World} {b n : Nat} {f : Int → Option Value} (h : MapIs w b n f) {t e : TypeId} (ht : Tryd.prog.underlying t = some (.map 3 e)) {z : Value} (hz : (zeroValue e).run Tryd.prog w = .ok z w) {s : Int} (hs : -9223372036854775808 ≤ s ∧ s ≤ 9223372036854775807) :
    (Instr.lookup t (.map (some b)) (.int .i64 s) true).run Tryd.prog w = .ok (.tuple #[(f s).getD z, .bool (f s).isSome]) w := by
  obtain ⟨D, h, hm, hf⟩ := h
  obtain ⟨v, ps, hrun, hv⟩ := h.look_ok lawI ht hz (zd := .held z) (zp := []) rfl (keyOf_int_mk Tryd.underlying3 (WalkArith.wf_i64 hs))
  rw [hrun, (hf s).1]
  rw [(hf s).2 z] at hv
  simp only [asIs, Option.some.injEq, Prod.mk.injEq, DataW.held.injEq] at hv
  rw [hv.1]
/-- 'm[s] = v'. -/
theorem MapIs.store {w : World} {b n : Nat} {f : Int → Option Value} (h : MapIs w b n f) {t e : TypeId} (ht : Tryd.prog.underlying t = some (.map 3 e)) (hn : n < maxLen) {s : Int} (hs : -9223372036854775808 ≤ s ∧ s ≤ 9223372036854775807) (v : Value) :
    ∃ w', (Instr.mapUpdate t (.map (some b)) (.int .i64 s) v).run Tryd.prog w = .ok () w' ∧ MapIs w' b (n + 1) (fun x => if x = s then some v else f x) ∧ w.grownBy w' (some b) := by
  obtain ⟨D, h, hD⟩ := h
  obtain ⟨w', h1, h2, h3⟩ := h.update lawI ht hn (keyOf_int_mk Tryd.underlying3 (WalkArith.wf_i64 hs)) (d := .held v) (ps := []) rfl
  exact ⟨w', h1, ⟨_, h2, hD.put s v⟩, h3⟩
/-- 'm[s]'. -/
theorem MapIs.look1 {w : World} {b n : Nat} {f : Int → Option Value} (h : MapIs w b n f) {t e : TypeId} (ht : Tryd.prog.underlying t = some (.map 3 e)) {z : Value} (hz : (zeroValue e).run Tryd.prog w = .ok z w) {s : Int} (hs : -9223372036854775808 ≤ s ∧ s ≤ 9223372036854775807) :
    (Instr.lookup t (.map (some b)) (.int .i64 s) false).run Tryd.prog w = .ok ((f s).getD z) w := by
  obtain ⟨D, h, hm, hf⟩ := h
  obtain ⟨v, ps, hrun, hv⟩ := h.lookup lawI ht hz (zd := .held z) (zp := []) rfl (keyOf_int_mk Tryd.underlying3 (WalkArith.wf_i64 hs))
  rw [hrun]
  rw [(hf s).2 z] at hv
  simp only [asIs, Option.some.injEq, Prod.mk.injEq, DataW.held.injEq] at hv
  rw [hv.1]

/-- Block b is the set of 0 and the codes of the first k nodes. -/
def KnIs (w : World) (b : Nat) (l : List Nd) (k : Nat) : Prop := MapIs w b (k + 1) fun s => if knw l s k then some (.bool true) else none
theorem KnIs.below {w w' : World} {b B k : Nat} {l : List Nd} (h : KnIs w b l k) (hb : Below B w w') (hl : b < B) : KnIs w' b l k := MapIs.below h hb hl
theorem KnIs.kept {w w' : World} {b k : Nat} {l : List Nd} {row : Option Nat} (h : KnIs w b l k) (hg : w.grownBy w' row) (hne : some b ≠ row) : KnIs w' b l k := MapIs.kept h hg hne
theorem KnIs.has {w : World} {b k : Nat} {l : List Nd} (h : KnIs w b l k) {s : Int} (hs : -9223372036854775808 ≤ s ∧ s ≤ 9223372036854775807) :
    (Instr.lookup 94 (.map (some b)) (.int .i64 s) false).run Tryd.prog w = .ok (.bool (knw l s k)) w := by
  rw [MapIs.look1 h Tryd.underlying94 (zeroBool w) hs]
  cases knw l s k <;> rfl
theorem KnIs.store {w : World} {b k : Nat} {l : List Nd} (h : KnIs w b l k) (hk : k + 1 < maxLen) (hs : -9223372036854775808 ≤ (nd l k).cd ∧ (nd l k).cd ≤ 9223372036854775807) :
    ∃ w', (Instr.mapUpdate 94 (.map (some b)) (.int .i64 (nd l k).cd) (.bool true)).run Tryd.prog w = .ok () w' ∧ KnIs w' b l (k + 1) ∧ w.grownBy w' (some b) := by
  obtain ⟨w', h1, h2, h3⟩ := MapIs.store h Tryd.underlying94 hk hs (.bool true)
  refine ⟨w', h1, h2.congr fun s => ?_, h3⟩
  show _ = if (knw l s k || decide ((nd l k).cd = s)) = true then _ else _
  by_cases e : s = (nd l k).cd
  · subst e; simp
  · rw [if_neg e]
    have : decide ((nd l k).cd = s) = false := by simpa using fun h => e h.symm
    rw [this, Bool.or_false]
end
end Go.Proofs.YtdapmmhbnaknbaaDoor
namespace Go.Proofs.YtdapmmhbnaknbaaDoor
open Go.RowKit Go.WideMaps Go.Maps

/-- A row of 1000 numbers. -/
def Arr (w : World) (b : Nat) (g : Nat → Nat) : Prop := b < w.heap.size ∧ ∀ j, j < 1000 → w.cell? ⟨b, j, none⟩ = some (.int .i64 (g j : Nat))
theorem Arr.below {w w' : World} {b : Nat} {g : Nat → Nat} (h : Arr w b g) (hb : Below w.heap.size w w') : Arr w' b g :=
  ⟨Nat.lt_of_lt_of_le h.1 hb.size, fun j hj => (hb.cell (p := ⟨b, j, none⟩) h.1).trans (h.2 j hj)⟩
abbrev row (b : Nat) : Value := .slice (some ⟨b, 0, none⟩) 1000 1000
abbrev fv (bp bl : Nat) : Value := .agg #[row bp, row bl]
def BoxF (w W1 : World) (bp bl : Nat) : Prop := Below w.heap.size w W1 ∧ W1.heap.size = w.heap.size + 1 ∧ W1.cell? ⟨w.heap.size, 0, none⟩ = some (row bp) ∧ W1.cell? ⟨w.heap.size, 1, none⟩ = some (row bl)
theorem box_f (w : World) (bp bl : Nat) : BoxF w (w.alloc (.cells #[row bp, row bl] 44)) bp bl :=
  ⟨bel_one _ _, by simp, by rw [World.cell?_alloc_at _ _ _ _ rfl]; rfl, by rw [World.cell?_alloc_at _ _ _ _ rfl]; rfl⟩
theorem climb_c (bp bl : Nat) (p : Nat → Nat) (c most : Nat) (w : World) (hp : Arr w bp p) (hc : c < 1000) (hin : ∀ j, j < 1000 → p j < 1000) (hm : most ≤ 1000) :
    Calls Tryd.prog 30 #[fv bp bl, .int .i64 c, .int .i64 most] w (IntP (clm p most c) w) := by
  obtain ⟨W1, hW1⟩ : ∃ W1, w.alloc (.cells #[row bp, row bl] 44) = W1 := ⟨_, rfl⟩
  have B1 : Hid (BoxF w W1 bp bl) := by unfold Hid; rw [← hW1]; exact box_f w bp bl
  have HP := Lib.hid (hp.below B1.out.1)
  have HI := Lib.hid hin
  have v0 := B1.out.2.2.1
  clear hp hin
  go_enter Tryd.func30, Tryd.ntmps30
  go_wp2
  go_loop [1, 7] (fun cv kv => ∃ c' k : Nat, c' < 1000 ∧ k ≤ most ∧ cv = .int .i64 c' ∧ kv = .int .i64 k ∧ Hid (k + clm p (most - k) c' = clm p most c)) (fun _ kv => most - (intOf kv).toNat)
  case atStart => exact ⟨c, 0, hc, Nat.zero_le _, rfl, rfl, by unfold Hid; simp⟩
  case round =>
    obtain ⟨c', k, hc', hk, rfl, rfl, hS⟩ := hrel
    by_cases h0 : c' = 0
    · have R : Hid (clm p most c = k) := by
        have := hS.out
        unfold Hid
        rw [← this, h0]
        match most - k with
        | 0 => rfl
        | n + 1 => rw [clm, if_pos rfl, Nat.add_zero]
      have h0' : (c' : Int) = 0 := by omega
      clear h0 hS
      go_wp2
      go_ret
      exact ⟨by rw [R.out]; rfl, B1.out.1⟩
    · have h0' : ((c' : Int) == 0) = false := by rw [beq_eq_false_iff_ne]; omega
      have h0'' : ((c' : Int) != 0) = true := by rw [bne, h0']; rfl
      by_cases hlt : k < most
      · have hlt' : (k : Int) < (most : Int) := by omega
        have u0 := HP.out.2 c' hc'
        have NX : Hid ((k + 1) + clm p (most - (k + 1)) (p c') = clm p most c) := by
          have := hS.out
          unfold Hid
          rw [← this, show most - k = (most - (k + 1)) + 1 by omega, clm, if_neg h0]; omega
        have hpc := HI.out c' hc'
        have hcb : (c' : Int) < 1000 := by omega
        have hk9 : (k : Int) ≤ 1000 := by omega
        clear h0 hS
        go_wp2
        go_round
        case rel => exact ⟨p c', k + 1, hpc, by omega, rfl, by go_num, NX.out⟩
        case measure => simp [intOf]; omega
      · have R : Hid (clm p most c = k) := by
          have := hS.out
          unfold Hid
          rw [← this, show most - k = 0 by omega]; rfl
        have hlt' : ¬ (k : Int) < (most : Int) := by omega
        clear h0 hS hlt
        go_wp2
        go_ret
        exact ⟨by rw [R.out]; rfl, B1.out.1⟩
/-- The code is one of the frame. -/
def hasB (lv : Nat → Nat) (c : Int) : Bool := decide (1 ≤ c) && (decide (c ≤ 999) && decide (0 < lv c.toNat))
set_option maxHeartbeats 1000000 in
theorem has_c (bp bl : Nat) (lv : Nat → Nat) (c : Int) (w : World) (hl : Arr w bl lv) :
    Calls Tryd.prog 35 #[fv bp bl, .int .i64 c] w (fun e w' => e = .returned (.bool (hasB lv c)) ∧ Below w.heap.size w w') := by
  obtain ⟨W1, hW1⟩ : ∃ W1, w.alloc (.cells #[row bp, row bl] 44) = W1 := ⟨_, rfl⟩
  have B1 : Hid (BoxF w W1 bp bl) := by unfold Hid; rw [← hW1]; exact box_f w bp bl
  have HL := Lib.hid (hl.below B1.out.1)
  have v1 := B1.out.2.2.2
  clear hl
  by_cases h1 : 1 ≤ c
  · by_cases h2 : c ≤ 999
    · obtain ⟨k, rfl⟩ : ∃ k : Nat, c = k := ⟨c.toNat, by omega⟩
      have u1 := HL.out.2 k (by omega)
      have hk : (k : Int) < 1000 := by omega
      have e : Hid (hasB lv k = decide (0 < lv k)) := by unfold Hid hasB; simp [h1, h2]
      go_enter Tryd.func35, Tryd.ntmps35
      go_wp2
      go_ret
      exact ⟨by rw [e.out]; rfl, B1.out.1⟩
    · have e : Hid (hasB lv c = false) := by unfold Hid hasB; simp [h2]
      have h2' : decide (c ≤ 999) = false := by rw [decide_eq_false_iff_not]; exact h2
      clear h2
      go_enter Tryd.func35, Tryd.ntmps35
      go_wp2
      go_ret
      exact ⟨by rw [e.out]; rfl, B1.out.1⟩
  · have e : Hid (hasB lv c = false) := by unfold Hid hasB; simp [h1]
    have h1' : decide (1 ≤ c) = false := by rw [decide_eq_false_iff_not]; exact h1
    clear h1
    go_enter Tryd.func35, Tryd.ntmps35
    go_wp2
    go_ret
    exact ⟨by rw [e.out]; rfl, B1.out.1⟩
def MtP (m d : Nat) (w : World) (e : Ending) (w' : World) : Prop := e = .returned (.tuple #[.int .i64 m, .int .i64 d]) ∧ Below w.heap.size w w'
end Go.Proofs.YtdapmmhbnaknbaaDoor
namespace Go.Proofs.YtdapmmhbnaknbaaDoor
open Go.RowKit Go.WideMaps Go.Maps

theorem trimR_id {l : List UInt8} {c : UInt8} (h : l.getLast? ≠ some c) : Lib.trimRightB l c = l := by
  unfold Lib.trimRightB
  rw [← List.head?_reverse] at h
  cases e : l.reverse with
  | nil => have : l = [] := by simpa using e
           subst this; rfl
  | cons x r =>
    rw [e] at h
    have hx : (x == c) = false := by
      rw [beq_eq_false_iff_ne]
      intro hc
      exact h (by rw [hc]; rfl)
    rw [List.dropWhile_cons, hx]
    simp only [Bool.false_eq_true, if_false]
    rw [← e, List.reverse_reverse]
theorem trimL_id {l : List UInt8} {c : UInt8} (h : l.head? ≠ some c) : Lib.trimLeftB l c = l := by
  unfold Lib.trimLeftB
  cases l with
  | nil => rfl
  | cons x r =>
    have hx : (x == c) = false := by
      rw [beq_eq_false_iff_ne]
      intro hc
      exact h (by rw [hc]; rfl)
    rw [List.dropWhile_cons, hx]
    simp
theorem trimL_le (l : List UInt8) (c : UInt8) : (Lib.trimLeftB l c).length ≤ l.length := (List.dropWhile_suffix _).length_le
theorem trimL_lt {l : List UInt8} {c : UInt8} (h : l.head? = some c) : (Lib.trimLeftB l c).length < l.length := by
  cases l with
  | nil => simp at h
  | cons x r =>
    simp only [List.head?_cons, Option.some.injEq] at h
    subst h
    unfold Lib.trimLeftB
    rw [List.dropWhile_cons]
    simp only [beq_self_eq_true, if_true]
    have := (List.dropWhile_suffix (l := r) (fun a => a == x)).length_le
    simp only [List.length_cons]; omega
theorem trimR_lt {l : List UInt8} {c : UInt8} (h : l.getLast? = some c) : (Lib.trimRightB l c).length < l.length := by
  rw [← List.head?_reverse] at h
  have := trimL_lt h
  unfold Lib.trimRightB
  unfold Lib.trimLeftB at this
  simpa using this
theorem trim_is (l : List UInt8) (c : UInt8) : decide (Lib.trimB l c = l) = (decide (l.head? ≠ some c) && decide (l.getLast? ≠ some c)) := by
  by_cases h1 : l.getLast? = some c
  · have : Lib.trimB l c ≠ l := fun e => by
      have a := trimR_lt h1
      have b := trimL_le (Lib.trimRightB l c) c
      have : (Lib.trimB l c).length = l.length := by rw [e]
      unfold Lib.trimB at this
      omega
    simp [this, h1]
  · have e1 := trimR_id h1
    by_cases h2 : l.head? = some c
    · have : Lib.trimB l c ≠ l := fun e => by
        have a := trimL_lt h2
        have : (Lib.trimB l c).length = l.length := by rw [e]
        unfold Lib.trimB at this
        rw [e1] at this
        omega
      simp [this, h2]
    · have : Lib.trimB l c = l := by unfold Lib.trimB; rw [e1]; exact trimL_id h2
      simp [this, h1, h2]
def okB (c : UInt8) : Bool := decide (32 ≤ c.toNat ∧ c.toNat ≤ 126)
theorem titS_bad {s : ByteArray} {k : Nat} (hk : k < s.size) (h : okB s[k] = false) : titS s = false := by
  unfold titS
  rw [Bool.and_eq_false_iff]
  left
  rw [List.all_eq_false]
  exact ⟨s[k], Array.mem_toList_iff.2 (Array.getElem_mem (xs := s.data) hk), by unfold okB at h; simpa using h⟩
theorem titS_good {s : ByteArray} (h : ∀ k, (hk : k < s.size) → okB s[k] = true) : titS s = (decide (bts s ≠ []) && (decide ((bts s).head? ≠ some 32) && decide ((bts s).getLast? ≠ some 32))) := by
  unfold titS
  have : (bts s).all (fun c => decide (32 ≤ c.toNat ∧ c.toNat ≤ 126)) = true := by
    rw [List.all_eq_true]
    intro c hc
    obtain ⟨k, hk, rfl⟩ := List.getElem_of_mem hc
    exact h k (by simpa [bts] using hk)
  rw [this, Bool.true_and]
theorem bts_list (s : ByteArray) : s.toList = bts s := Lib.toList_data s
set_option maxHeartbeats 1000000 in
theorem isTitle_c (s : ByteArray) (w : World) (hs : s.size ≤ 9223372036854775807) :
    Calls Tryd.prog 51 #[.string s] w fun e w' => e = .returned (.bool (titS s)) ∧ Below w.heap.size w w' := by
  have HT := Lib.hid (Tryd.strings_Trim_one s 32 (by decide) w hs)
  go_enter Tryd.func51, Tryd.ntmps51
  go_wp2
  go_loop [3, 6] (fun _ i => ∃ k : Nat, k ≤ s.size ∧ i = .int .i64 k ∧ Hid (∀ j, (hj : j < s.size) → j < k → okB s[j] = true)) (fun _ i => s.size - (intOf i).toNat)
  case atStart => exact ⟨0, Nat.zero_le _, rfl, fun j _ h => absurd h (Nat.not_lt_zero _)⟩
  case round =>
    obtain ⟨k, hk, rfl, hR⟩ := hrel
    by_cases hlt : k < s.size
    · have hlt' : (k : Int) < (s.size : Int) := by omega
      have hb := titS_bad hlt
      have NX : Hid (okB s[k] = true → ∀ j, (hj : j < s.size) → j < k + 1 → okB s[j] = true) := fun h j hj hk => by
        by_cases e : j = k
        · subst e; exact h
        · exact hR.out j hj (by omega)
      clear hR HT
      have hB := Lib.hid hb
      clear hb
      by_cases h1 : s[k].toNat < 32
      · have R : Hid (titS s = false) := hB.out (by unfold okB; simp; omega)
        have h1' : (s[k].toNat : Int) < 32 := by omega
        clear h1 hB NX
        go_wp2
        go_ret
        exact ⟨by rw [R.out]; rfl, Below.refl _ _⟩
      by_cases h2 : 126 < s[k].toNat
      · have R : Hid (titS s = false) := hB.out (by unfold okB; simp; omega)
        have h1' : decide ((s[k].toNat : Int) < 32) = false := by rw [decide_eq_false_iff_not]; omega
        have h2' : (126 : Int) < (s[k].toNat : Int) := by omega
        clear h1 h2 hB NX
        go_wp2
        go_ret
        exact ⟨by rw [R.out]; rfl, Below.refl _ _⟩
      · have N2 := Lib.hid (NX.out (by unfold okB; simp; omega))
        have h1' : ¬ (s[k].toNat : Int) < 32 := by omega
        have h2' : ¬ (126 : Int) < (s[k].toNat : Int) := by omega
        clear h1 h2 hB NX
        go_wp2
        go_round
        case rel => exact ⟨k + 1, by omega, by go_num, N2.out⟩
        case measure => simp [intOf]; omega
    · obtain rfl : k = s.size := by omega
      have e := titS_good fun j hj => hR.out j hj hj
      have e2 := trim_is (bts s) 32
      rw [← e2] at e
      obtain ⟨T, hT⟩ : ∃ T : ByteArray, (⟨(Lib.trimB s.data.toList 32).toArray⟩ : ByteArray) = T := ⟨_, rfl⟩
      rw [hT] at HT
      have hTl : bts T = Lib.trimB (bts s) 32 := by rw [← hT]; simp [bts]
      rw [← hTl, ← bts_list, ← bts_list] at e
      clear hT hTl e2 hlt
      by_cases h0 : s.toList = []
      · have R : Hid (titS s = false) := by unfold Hid; rw [e]; simp [h0]
        have f1 : (s.toList == []) = true := by rw [h0]; rfl
        have f2 : (s.toList != []) = false := by rw [h0]; rfl
        clear e h0 hR HT
        go_wp2
        go_ret
        exact ⟨by rw [R.out]; rfl, Below.refl _ _⟩
      · have f1 : (s.toList == []) = false := by rw [beq_eq_false_iff_ne]; exact h0
        have f2 : (s.toList != []) = true := by rw [bne, f1]; rfl
        have R : Hid (titS s = decide (T.toList = s.toList)) := by unfold Hid; rw [e]; simp [h0]
        have f3 : (T.toList == s.toList) = decide (T.toList = s.toList) := by rw [Bool.eq_iff_iff]; simp
        clear e h0 hR
        generalize decide (T.toList = s.toList) = B at *
        go_wp2_with fail
        refine HT.out.mono ?_
        rintro e w' ⟨rfl, hw⟩
        have BW : Hid (Below w.heap.size w w') := by
          rcases hw with rfl | rfl
          · exact Below.refl _ _
          · exact (Below.refl _ _).drew
        clear hw
        go_wp2
        go_ret
        exact ⟨by rw [R.out]; rfl, BW.out⟩
end Go.Proofs.YtdapmmhbnaknbaaDoor
namespace Go.Proofs.YtdapmmhbnaknbaaDoor
open Go.RowKit Go.WideMaps Go.Maps

/-- A coding; a move. -/
structure Cg where
  ca : Int
  co : Int
  cd : Int
structure Mv where
  fr : Int
  tg : Int
def cg0 : Cg := ⟨0, 0, 0⟩
def cg (l : List Cg) (j : Nat) : Cg := l.getD j cg0
theorem cg_is {l : List Cg} {j : Nat} (h : j < l.length) : cg l j = l[j] := by unfold cg; rw [List.getD, List.getElem?_eq_getElem h]; rfl
theorem cg_mem {l : List Cg} {j : Nat} (h : j < l.length) : cg l j ∈ l := by rw [cg_is h]; exact List.getElem_mem h
def CgAt (w : World) (b o : Nat) (u : Cg) : Prop := w.cell? ⟨b, o, none⟩ = some (.int .i64 u.ca) ∧ w.cell? ⟨b, o + 1, none⟩ = some (.int .i64 u.co) ∧ w.cell? ⟨b, o + 2, none⟩ = some (.int .i64 u.cd)
theorem CgAt.below {w w' : World} {b o : Nat} {u : Cg} (h : CgAt w b o u) (hb : Below w.heap.size w w') (hl : b < w.heap.size) : CgAt w' b o u := by
  obtain ⟨h0, h1, h2⟩ := h
  exact ⟨(hb.cell (p := ⟨b, o, none⟩) hl).trans h0, (hb.cell (p := ⟨b, o + 1, none⟩) hl).trans h1, (hb.cell (p := ⟨b, o + 2, none⟩) hl).trans h2⟩
/-- A slice that reads as a list of codings. -/
def RdC (w : World) (a : Option Addr) (l : List Cg) : Prop :=
  l.length ≤ 9223372036854775807 ∧ (0 < l.length → ∃ b off, a = some ⟨b, off, none⟩ ∧ b < w.heap.size ∧ ∀ j, j < l.length → CgAt w b (off + j * 3) (cg l j))
theorem RdC.below {w w' : World} {a : Option Addr} {l : List Cg} (h : RdC w a l) (hb : Below w.heap.size w w') : RdC w' a l :=
  ⟨h.1, fun h0 => by
    obtain ⟨b, off, e, hl, hc⟩ := h.2 h0
    exact ⟨b, off, e, Nat.lt_of_lt_of_le hl hb.size, fun j hj => (hc j hj).below hb hl⟩⟩
theorem RdC.at_ {w : World} {a : Option Addr} {l : List Cg} (h : RdC w a l) {k : Nat} (hk : k < l.length) :
    ∃ b off, a = some ⟨b, off, none⟩ ∧ CgAt w b (off + k * 3) (cg l k) := by
  obtain ⟨b, off, e, _, hc⟩ := h.2 (by omega)
  exact ⟨b, off, e, hc k hk⟩
theorem RdC.nil_ (w : World) (a : Option Addr) : RdC w a [] := ⟨by simp, fun h => by simp at h⟩
def mv0 : Mv := ⟨0, 0⟩
def mv (l : List Mv) (j : Nat) : Mv := l.getD j mv0
theorem mv_is {l : List Mv} {j : Nat} (h : j < l.length) : mv l j = l[j] := by unfold mv; rw [List.getD, List.getElem?_eq_getElem h]; rfl
theorem mv_mem {l : List Mv} {j : Nat} (h : j < l.length) : mv l j ∈ l := by rw [mv_is h]; exact List.getElem_mem h
def MvAt (w : World) (b o : Nat) (u : Mv) : Prop := w.cell? ⟨b, o, none⟩ = some (.int .i64 u.fr) ∧ w.cell? ⟨b, o + 1, none⟩ = some (.int .i64 u.tg)
theorem MvAt.below {w w' : World} {b o : Nat} {u : Mv} (h : MvAt w b o u) (hb : Below w.heap.size w w') (hl : b < w.heap.size) : MvAt w' b o u := by
  obtain ⟨h0, h1⟩ := h
  exact ⟨(hb.cell (p := ⟨b, o, none⟩) hl).trans h0, (hb.cell (p := ⟨b, o + 1, none⟩) hl).trans h1⟩
/-- A slice that reads as a list of moves. -/
def RdM (w : World) (a : Option Addr) (l : List Mv) : Prop :=
  l.length ≤ 9223372036854775807 ∧ (0 < l.length → ∃ b off, a = some ⟨b, off, none⟩ ∧ b < w.heap.size ∧ ∀ j, j < l.length → MvAt w b (off + j * 2) (mv l j))
theorem RdM.below {w w' : World} {a : Option Addr} {l : List Mv} (h : RdM w a l) (hb : Below w.heap.size w w') : RdM w' a l :=
  ⟨h.1, fun h0 => by
    obtain ⟨b, off, e, hl, hc⟩ := h.2 h0
    exact ⟨b, off, e, Nat.lt_of_lt_of_le hl hb.size, fun j hj => (hc j hj).below hb hl⟩⟩
theorem RdM.at_ {w : World} {a : Option Addr} {l : List Mv} (h : RdM w a l) {k : Nat} (hk : k < l.length) :
    ∃ b off, a = some ⟨b, off, none⟩ ∧ MvAt w b (off + k * 2) (mv l k) := by
  obtain ⟨b, off, e, _, hc⟩ := h.2 (by omega)
  exact ⟨b, off, e, hc k hk⟩
theorem RdM.nil_ (w : World) (a : Option Addr) : RdM w a [] := ⟨by simp, fun h => by simp at h⟩
/-- The numbers are no longer than an int. -/
def in64 (x : Int) : Prop := -9223372036854775808 ≤ x ∧ x ≤ 9223372036854775807
def FitsC (l : List Cg) : Prop := ∀ u, u ∈ l → in64 u.ca ∧ in64 u.co ∧ in64 u.cd
def FitsM (l : List Mv) : Prop := ∀ u, u ∈ l → in64 u.fr ∧ in64 u.tg
end Go.Proofs.YtdapmmhbnaknbaaDoor
