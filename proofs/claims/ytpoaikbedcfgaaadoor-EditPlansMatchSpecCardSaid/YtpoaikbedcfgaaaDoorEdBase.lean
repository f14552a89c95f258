/-
  EditPlansMatchSpec: fields, edits and sets in memory.
-/
import Derived.Test.YtpoaikbedcfgaaaDoorEdInc
namespace Go.Proofs.YtpoaikbedcfgaaaDoor
open Go.RowKit Go.WideMaps Go.Maps

def FdAt (w : World) (b o : Nat) (f : Fd) : Prop :=
  w.cell? ⟨b, o, none⟩ = some (.string f.nm) ∧ (∃ a c, w.cell? ⟨b, o + 1, none⟩ = some (.slice a f.cs.length c) ∧ Rd w a f.cs) ∧ w.cell? ⟨b, o + 2, none⟩ = some (.int .i64 f.wt)
theorem FdAt.below {w w' : World} {b o : Nat} {f : Fd} (h : FdAt w b o f) (hb : Below w.heap.size w w') (hl : b < w.heap.size) : FdAt w' b o f := by
  obtain ⟨h0, ⟨a, c, h1, h2⟩, h3⟩ := h
  exact ⟨(hb.cell (p := ⟨b, o, none⟩) hl).trans h0, ⟨a, c, (hb.cell (p := ⟨b, o + 1, none⟩) hl).trans h1, h2.below hb⟩, (hb.cell (p := ⟨b, o + 2, none⟩) hl).trans h3⟩
/-- A slice that reads as a list of fields. -/
def RdF (w : World) (a : Option Addr) (l : List Fd) : Prop :=
  l.length ≤ 9223372036854775807 ∧ (0 < l.length → ∃ b off, a = some ⟨b, off, none⟩ ∧ b < w.heap.size ∧ ∀ j, j < l.length → FdAt w b (off + j * 3) (fd l j))
theorem RdF.below {w w' : World} {a : Option Addr} {l : List Fd} (h : RdF w a l) (hb : Below w.heap.size w w') : RdF w' a l :=
  ⟨h.1, fun h0 => by
    obtain ⟨b, off, e, hl, hc⟩ := h.2 h0
    exact ⟨b, off, e, Nat.lt_of_lt_of_le hl hb.size, fun j hj => (hc j hj).below hb hl⟩⟩
theorem RdF.at_ {w : World} {a : Option Addr} {l : List Fd} (h : RdF w a l) {k : Nat} (hk : k < l.length) :
    ∃ b off, a = some ⟨b, off, none⟩ ∧ FdAt w b (off + k * 3) (fd l k) := by
  obtain ⟨b, off, e, _, hc⟩ := h.2 (by omega)
  exact ⟨b, off, e, hc k hk⟩
/-- A slice that reads as a list of rows of ints. -/
def RdL (w : World) (a : Option Addr) (l : List (List Int)) : Prop :=
  l.length ≤ 9223372036854775807 ∧ (0 < l.length → ∃ b off, a = some ⟨b, off, none⟩ ∧ b < w.heap.size ∧ ∀ j, j < l.length → ∃ a' c', w.cell? ⟨b, off + j, none⟩ = some (.slice a' (st l j).length c') ∧ Rd w a' (st l j))
theorem RdL.below {w w' : World} {a : Option Addr} {l : List (List Int)} (h : RdL w a l) (hb : Below w.heap.size w w') : RdL w' a l :=
  ⟨h.1, fun h0 => by
    obtain ⟨b, off, e, hl, hc⟩ := h.2 h0
    refine ⟨b, off, e, Nat.lt_of_lt_of_le hl hb.size, fun j hj => ?_⟩
    obtain ⟨a', c', h1, h2⟩ := hc j hj
    exact ⟨a', c', (hb.cell (p := ⟨b, off + j, none⟩) hl).trans h1, h2.below hb⟩⟩
theorem RdL.at_ {w : World} {a : Option Addr} {l : List (List Int)} (h : RdL w a l) {k : Nat} (hk : k < l.length) :
    ∃ b off a' c', a = some ⟨b, off, none⟩ ∧ w.cell? ⟨b, off + k, none⟩ = some (.slice a' (st l k).length c') ∧ Rd w a' (st l k) := by
  obtain ⟨b, off, e, _, hc⟩ := h.2 (by omega)
  obtain ⟨a', c', h1, h2⟩ := hc k hk
  exact ⟨b, off, a', c', e, h1, h2⟩
def EdAt (w : World) (b o : Nat) (f : Ed) : Prop :=
  w.cell? ⟨b, o, none⟩ = some (.string f.nm) ∧ ∃ a c, w.cell? ⟨b, o + 1, none⟩ = some (.slice a f.ss.length c) ∧ RdL w a f.ss
theorem EdAt.below {w w' : World} {b o : Nat} {f : Ed} (h : EdAt w b o f) (hb : Below w.heap.size w w') (hl : b < w.heap.size) : EdAt w' b o f := by
  obtain ⟨h0, a, c, h1, h2⟩ := h
  exact ⟨(hb.cell (p := ⟨b, o, none⟩) hl).trans h0, a, c, (hb.cell (p := ⟨b, o + 1, none⟩) hl).trans h1, h2.below hb⟩
/-- A slice that reads as a list of edits. -/
def RdE (w : World) (a : Option Addr) (l : List Ed) : Prop :=
  l.length ≤ 9223372036854775807 ∧ (0 < l.length → ∃ b off, a = some ⟨b, off, none⟩ ∧ b < w.heap.size ∧ ∀ j, j < l.length → EdAt w b (off + j * 2) (ed l j))
theorem RdE.below {w w' : World} {a : Option Addr} {l : List Ed} (h : RdE w a l) (hb : Below w.heap.size w w') : RdE w' a l :=
  ⟨h.1, fun h0 => by
    obtain ⟨b, off, e, hl, hc⟩ := h.2 h0
    exact ⟨b, off, e, Nat.lt_of_lt_of_le hl hb.size, fun j hj => (hc j hj).below hb hl⟩⟩
theorem RdE.at_ {w : World} {a : Option Addr} {l : List Ed} (h : RdE w a l) {k : Nat} (hk : k < l.length) :
    ∃ b off, a = some ⟨b, off, none⟩ ∧ EdAt w b (off + k * 2) (ed l k) := by
  obtain ⟨b, off, e, _, hc⟩ := h.2 (by omega)
  exact ⟨b, off, e, hc k hk⟩
theorem take_self {α : Type} (l : List α) : l.take l.length = l := List.take_length
theorem contains_c (a : Option Addr) (c : Nat) (D : List Int) (x : Int) (w : World) (h : Rd w a D) :
    Calls Tryd.prog 27 #[.slice a D.length c, .int .i64 x] w fun e w' => e = .returned (.bool (inC D x)) ∧ w' = w := by
  by_cases h0 : D.length = 0
  · have e := List.eq_nil_of_length_eq_zero h0
    subst e
    refine (Tryd.slices_Contains_int_empty a c x w).mono ?_
    rintro e w' ⟨rfl, rfl⟩
    exact ⟨rfl, rfl⟩
  · obtain ⟨b, off, rfl, _, k⟩ := h.2 (by omega)
    refine (Tryd.slices_Contains_int b off D.length c D x w (Nat.le_refl _) h.1 k).mono ?_
    rintro e w' ⟨rfl, rfl⟩
    exact ⟨by rw [take_self]; rfl, rfl⟩
theorem grown_refl (w : World) (r : Option Nat) : w.grownBy w r := ⟨rfl, rfl, rfl, Nat.le_refl _, fun _ _ _ => rfl⟩
def NameP (ns : Nat → ByteArray) (k b : Nat) (w : World) (e : Ending) (w' : World) : Prop :=
  e = .returned (.int .i64 (nmE ns (ns k) k)) ∧ (nmE ns (ns k) k = 0 → NmIs w' b ns (k + 1)) ∧ w.grownBy w' (some b)
theorem checkName_c (ns : Nat → ByteArray) (k b : Nat) (w : World) (hN : NmIs w b ns k) (hk : k < maxLen) (hs : (ns k).size ≤ 9223372036854775807) :
    Calls Tryd.prog 23 #[.string (ns k), .map (some b)] w (NameP ns k b w) := by
  have HN := Lib.hid (isName_c (ns k) w)
  have hrun := hN.has hs
  by_cases h1 : nameS (ns k) = false
  · have e : Hid (nmE ns (ns k) k = 5) := by unfold Hid nmE; rw [if_pos h1]
    rw [h1] at HN
    clear h1 hN hrun
    go_enter Tryd.func23, Tryd.ntmps23
    go_wp2_with fail
    refine HN.out.mono ?_
    rintro e w' ⟨rfl, rfl⟩
    go_wp2
    go_ret
    exact ⟨by rw [e.out]; rfl, by rw [e.out]; simp, grown_refl _ _⟩
  have h1' : nameS (ns k) = true := by simpa using h1
  rw [h1'] at HN
  by_cases h2 : old ns (ns k) k = true
  · have e : Hid (nmE ns (ns k) k = 6) := by unfold Hid nmE; rw [if_neg h1, if_pos h2]
    rw [h2] at hrun
    clear h1 h1' h2 hN
    go_enter Tryd.func23, Tryd.ntmps23
    go_wp2_with fail
    refine HN.out.mono ?_
    rintro e w' ⟨rfl, rfl⟩
    go_wp2
    go_ret
    exact ⟨by rw [e.out]; rfl, by rw [e.out]; simp, grown_refl _ _⟩
  · have h2' : old ns (ns k) k = false := by simpa using h2
    have e : Hid (nmE ns (ns k) k = 0) := by unfold Hid nmE; rw [if_neg h1, if_neg h2]
    obtain ⟨W2, hup, hN2, hg⟩ := hN.store hk hs
    have HP := Lib.hid (And.intro hN2 hg)
    rw [h2'] at hrun
    clear h1 h1' h2 h2' hN hN2 hg
    go_enter Tryd.func23, Tryd.ntmps23
    go_wp2_with fail
    refine HN.out.mono ?_
    rintro e w' ⟨rfl, rfl⟩
    go_wp2
    go_ret
    exact ⟨by rw [e.out]; rfl, fun _ => HP.out.1, HP.out.2⟩
theorem checkCodes_c (a : Option Addr) (c : Nat) (l : List Int) (w : World) (hl : Rd w a l) : Calls Tryd.prog 24 #[.slice a l.length c] w fun e w' => e = .returned (.int .i64 (codesS l)) ∧ w' = w := by
  have hn := hl.1
  by_cases h1 : l.length = 0
  · have e : Hid (codesS l = 9) := by unfold Hid codesS; rw [if_pos h1]
    clear hl
    have h1' : (l.length : Int) = 0 := by omega
    go_enter Tryd.func24, Tryd.ntmps24
    go_wp2
    go_ret
    exact ⟨by rw [e.out]; rfl, rfl⟩
  have h1' : ((l.length : Int) == 0) = false := by rw [beq_eq_false_iff_ne]; omega
  by_cases h2 : 20 < l.length
  · have e : Hid (codesS l = 2) := by unfold Hid codesS; rw [if_neg h1, if_pos h2]
    have h2' : (20 : Int) < (l.length : Int) := by omega
    clear hl h1 h2
    go_enter Tryd.func24, Tryd.ntmps24
    go_wp2
    go_ret
    exact ⟨by rw [e.out]; rfl, rfl⟩
  · have e : Hid (codesS l = incS okC l) := by unfold Hid codesS; rw [if_neg h1, if_neg h2]
    have h2' : ¬ (20 : Int) < (l.length : Int) := by omega
    have HI := Lib.hid (inc1_c a c l w hl okC (fun c => codes1_c c w))
    clear hl h1 h2
    go_enter Tryd.func24, Tryd.ntmps24
    go_wp2_with fail
    refine HI.out.mono ?_
    rintro e w' ⟨rfl, rfl⟩
    go_wp2
    go_ret
    exact ⟨by rw [e.out]; rfl, rfl⟩
theorem grown_cell {w w' : World} {r : Nat} {p : Addr} (h : w.grownBy w' (some r)) (hl : p.block < w.heap.size) (hne : p.block ≠ r) : w'.cell? p = w.cell? p := by
  have e := h.block p.block hl (fun e => hne (by injection e))
  unfold World.cell?
  rw [e]
end Go.Proofs.YtpoaikbedcfgaaaDoor
