/-
  Package code: boxes of three and of four cells, and a store of all of them.
  Package code: a line of a text: its level, its code, its title.
  Package code: the lines of a text are read.
  Package code: a line whose code stands before.
-/
import Derived.Test.YtheekfijbbgbkaaGreatDoorTS02
import Derived.Test.YtheekfijbbgbkaaGreatDoorTS12
import Derived.Test.YtheekfijbbgbkaaGreatDoorTS11
import Derived.Maps.OwnIn
import Derived.Maps.AppendAt
import Derived.Test.YtheekfijbbgbkaaGreatDoorTS03
namespace Go.Proofs.YtheekfijbbgbkaaGreatDoor
open Go.RowKit

structure Bx4 (W : World) (g : Nat) (x0 x1 x2 x3 : Value) : Prop where
  c0 : W.cell? ⟨g, 0, none⟩ = some x0
  c1 : W.cell? ⟨g, 1, none⟩ = some x1
  c2 : W.cell? ⟨g, 2, none⟩ = some x2
  c3 : W.cell? ⟨g, 3, none⟩ = some x3
  fr : ∀ o, W.frozen? ⟨g, o, none⟩ = false
  lt : g < W.heap.size
theorem Bx4.keep {W W' : World} {g : Nat} {x0 x1 x2 x3 : Value} (h : Bx4 W g x0 x1 x2 x3) (hb : Below W.heap.size W W') : Bx4 W' g x0 x1 x2 x3 := by
  have c := fun (o : Nat) => hb.cell (p := ⟨g, o, none⟩) h.lt
  exact ⟨(c 0).trans h.c0, (c 1).trans h.c1, (c 2).trans h.c2, (c 3).trans h.c3, fun o => (hb.frozen (p := ⟨g, o, none⟩) h.lt).trans (h.fr o), Nat.lt_of_lt_of_le h.lt hb.size⟩
theorem Bx4.made (W : World) (x0 x1 x2 x3 : Value) (T : TypeId) : Bx4 (W.alloc (.cells #[x0, x1, x2, x3] T)) W.heap.size x0 x1 x2 x3 := by
  refine ⟨?_, ?_, ?_, ?_, fun o => by simp, by simp⟩
  all_goals (rw [World.cell?_alloc_new]; rfl)
/-- All four cells are stored. -/
def fou4 (W : World) (g : Nat) (y0 y1 y2 y3 : Value) : World := (((W.setCell ⟨g, 0, none⟩ y0).setCell ⟨g, 1, none⟩ y1).setCell ⟨g, 2, none⟩ y2).setCell ⟨g, 3, none⟩ y3
theorem fou4_size (W : World) (g : Nat) (y0 y1 y2 y3 : Value) : (fou4 W g y0 y1 y2 y3).heap.size = W.heap.size := by unfold fou4; simp
theorem adr_ne {g : Nat} {i j : Nat} (h : i ≠ j) : (⟨g, i, none⟩ : Addr) ≠ ⟨g, j, none⟩ := fun e => by injection e with _ e2; exact h e2
theorem adr_ne' {g h : Nat} {i j : Nat} (hn : h ≠ g) : (⟨h, i, none⟩ : Addr) ≠ ⟨g, j, none⟩ := fun e => by injection e with e1 _; exact hn e1
theorem Bx4.set {W : World} {g : Nat} {x0 x1 x2 x3 : Value} (h : Bx4 W g x0 x1 x2 x3) (y0 y1 y2 y3 : Value) : Bx4 (fou4 W g y0 y1 y2 y3) g y0 y1 y2 y3 := by
  unfold fou4
  refine ⟨?_, ?_, ?_, ?_, fun o => by simp only [World.frozen?_setCell]; exact h.fr o, by simpa using h.lt⟩
  · rw [World.cell?_setCell_other _ _ _ _ (adr_ne (by decide)), World.cell?_setCell_other _ _ _ _ (adr_ne (by decide)), World.cell?_setCell_other _ _ _ _ (adr_ne (by decide)), World.cell?_setCell_same _ _ _ h.c0]
  · rw [World.cell?_setCell_other _ _ _ _ (adr_ne (by decide)), World.cell?_setCell_other _ _ _ _ (adr_ne (by decide)), World.cell?_setCell_same _ _ _ (u := x1) (by rw [World.cell?_setCell_other _ _ _ _ (adr_ne (by decide))]; exact h.c1)]
  · rw [World.cell?_setCell_other _ _ _ _ (adr_ne (by decide)), World.cell?_setCell_same _ _ _ (u := x2) (by rw [World.cell?_setCell_other _ _ _ _ (adr_ne (by decide)), World.cell?_setCell_other _ _ _ _ (adr_ne (by decide))]; exact h.c2)]
  · rw [World.cell?_setCell_same _ _ _ (u := x3) (by rw [World.cell?_setCell_other _ _ _ _ (adr_ne (by decide)), World.cell?_setCell_other _ _ _ _ (adr_ne (by decide)), World.cell?_setCell_other _ _ _ _ (adr_ne (by decide))]; exact h.c3)]
theorem fou4_cell {W : World} {g h : Nat} (hne : h ≠ g) (y0 y1 y2 y3 : Value) (o : Nat) : (fou4 W h y0 y1 y2 y3).cell? ⟨g, o, none⟩ = W.cell? ⟨g, o, none⟩ := by
  unfold fou4
  rw [World.cell?_setCell_other _ _ _ _ (adr_ne' hne), World.cell?_setCell_other _ _ _ _ (adr_ne' hne), World.cell?_setCell_other _ _ _ _ (adr_ne' hne), World.cell?_setCell_other _ _ _ _ (adr_ne' hne)]
theorem Bx4.other {W : World} {g h : Nat} {x0 x1 x2 x3 : Value} (hb : Bx4 W g x0 x1 x2 x3) (hne : h ≠ g) (y0 y1 y2 y3 : Value) : Bx4 (fou4 W h y0 y1 y2 y3) g x0 x1 x2 x3 :=
  ⟨(fou4_cell hne _ _ _ _ 0).trans hb.c0, (fou4_cell hne _ _ _ _ 1).trans hb.c1, (fou4_cell hne _ _ _ _ 2).trans hb.c2, (fou4_cell hne _ _ _ _ 3).trans hb.c3, fun o => by unfold fou4; simp only [World.frozen?_setCell]; exact hb.fr o, by rw [fou4_size]; exact hb.lt⟩
theorem below_fou4 {W0 W : World} {g : Nat} (h : Below W0.heap.size W0 W) (hg : W0.heap.size ≤ g) (y0 y1 y2 y3 : Value) : Below W0.heap.size W0 (fou4 W g y0 y1 y2 y3) :=
  (((h.setCell (p := ⟨g, 0, none⟩) hg y0).setCell (p := ⟨g, 1, none⟩) hg y1).setCell (p := ⟨g, 2, none⟩) hg y2).setCell (p := ⟨g, 3, none⟩) hg y3
structure Bx3 (W : World) (g : Nat) (x0 x1 x2 : Value) : Prop where
  c0 : W.cell? ⟨g, 0, none⟩ = some x0
  c1 : W.cell? ⟨g, 1, none⟩ = some x1
  c2 : W.cell? ⟨g, 2, none⟩ = some x2
  fr : ∀ o, W.frozen? ⟨g, o, none⟩ = false
  lt : g < W.heap.size
theorem Bx3.keep {W W' : World} {g : Nat} {x0 x1 x2 : Value} (h : Bx3 W g x0 x1 x2) (hb : Below W.heap.size W W') : Bx3 W' g x0 x1 x2 := by
  have c := fun (o : Nat) => hb.cell (p := ⟨g, o, none⟩) h.lt
  exact ⟨(c 0).trans h.c0, (c 1).trans h.c1, (c 2).trans h.c2, fun o => (hb.frozen (p := ⟨g, o, none⟩) h.lt).trans (h.fr o), Nat.lt_of_lt_of_le h.lt hb.size⟩
theorem Bx3.made (W : World) (x0 x1 x2 : Value) (T : TypeId) : Bx3 (W.alloc (.cells #[x0, x1, x2] T)) W.heap.size x0 x1 x2 := by
  refine ⟨?_, ?_, ?_, fun o => by simp, by simp⟩
  all_goals (rw [World.cell?_alloc_new]; rfl)
/-- All three cells are stored. -/
def thr3 (W : World) (g : Nat) (y0 y1 y2 : Value) : World := ((W.setCell ⟨g, 0, none⟩ y0).setCell ⟨g, 1, none⟩ y1).setCell ⟨g, 2, none⟩ y2
theorem thr3_size (W : World) (g : Nat) (y0 y1 y2 : Value) : (thr3 W g y0 y1 y2).heap.size = W.heap.size := by unfold thr3; simp
theorem Bx3.set {W : World} {g : Nat} {x0 x1 x2 : Value} (h : Bx3 W g x0 x1 x2) (y0 y1 y2 : Value) : Bx3 (thr3 W g y0 y1 y2) g y0 y1 y2 := by
  unfold thr3
  refine ⟨?_, ?_, ?_, fun o => by simp only [World.frozen?_setCell]; exact h.fr o, by simpa using h.lt⟩
  · rw [World.cell?_setCell_other _ _ _ _ (adr_ne (by decide)), World.cell?_setCell_other _ _ _ _ (adr_ne (by decide)), World.cell?_setCell_same _ _ _ h.c0]
  · rw [World.cell?_setCell_other _ _ _ _ (adr_ne (by decide)), World.cell?_setCell_same _ _ _ (u := x1) (by rw [World.cell?_setCell_other _ _ _ _ (adr_ne (by decide))]; exact h.c1)]
  · rw [World.cell?_setCell_same _ _ _ (u := x2) (by rw [World.cell?_setCell_other _ _ _ _ (adr_ne (by decide)), World.cell?_setCell_other _ _ _ _ (adr_ne (by decide))]; exact h.c2)]
theorem thr3_cell {W : World} {g h : Nat} (hne : h ≠ g) (y0 y1 y2 : Value) (o : Nat) : (thr3 W h y0 y1 y2).cell? ⟨g, o, none⟩ = W.cell? ⟨g, o, none⟩ := by
  unfold thr3
  rw [World.cell?_setCell_other _ _ _ _ (adr_ne' hne), World.cell?_setCell_other _ _ _ _ (adr_ne' hne), World.cell?_setCell_other _ _ _ _ (adr_ne' hne)]
theorem Bx3.other {W : World} {g h : Nat} {x0 x1 x2 : Value} (hb : Bx3 W g x0 x1 x2) (hne : h ≠ g) (y0 y1 y2 : Value) : Bx3 (thr3 W h y0 y1 y2) g x0 x1 x2 :=
  ⟨(thr3_cell hne _ _ _ 0).trans hb.c0, (thr3_cell hne _ _ _ 1).trans hb.c1, (thr3_cell hne _ _ _ 2).trans hb.c2, fun o => by unfold thr3; simp only [World.frozen?_setCell]; exact hb.fr o, by rw [thr3_size]; exact hb.lt⟩
theorem below_thr3 {W0 W : World} {g : Nat} (h : Below W0.heap.size W0 W) (hg : W0.heap.size ≤ g) (y0 y1 y2 : Value) : Below W0.heap.size W0 (thr3 W g y0 y1 y2) :=
  ((h.setCell (p := ⟨g, 0, none⟩) hg y0).setCell (p := ⟨g, 1, none⟩) hg y1).setCell (p := ⟨g, 2, none⟩) hg y2

end Go.Proofs.YtheekfijbbgbkaaGreatDoor
namespace Go.Proofs.YtheekfijbbgbkaaGreatDoor
open Go.RowKit Go.WideMaps Go.Maps

/-- What the package-level variables hold. -/
structure Ev (w : World) : Prop where
  pow : Pow w
  syn : ∃ t p, w.cell? ⟨1, 0, none⟩ = some (.iface t p)
  rng : ∃ t p, w.cell? ⟨2, 0, none⟩ = some (.iface t p)
  big : 3 ≤ w.heap.size
theorem Ev.below {w w' : World} (h : Ev w) (hb : Below w.heap.size w w') : Ev w' := by
  have hs := hb.size
  have hg := h.big
  have c := fun (b o : Nat) (hl : b < 3) => hb.cell (p := ⟨b, o, none⟩) (by show b < _; omega)
  obtain ⟨t1, p1, e1⟩ := h.syn
  obtain ⟨t2, p2, e2⟩ := h.rng
  exact ⟨h.pow.below hb, ⟨t1, p1, by rw [c _ _ (by omega)]; exact e1⟩, ⟨t2, p2, by rw [c _ _ (by omega)]; exact e2⟩, by omega⟩

theorem atoi_ok (s : ByteArray) (v : Int) (w : World) (hs : s.size ≤ 60000) (h : Lib.atoiAll s.data.toList = .ok v) :
    Calls Tryz.prog 34 #[.string s] w fun e w' => e = .returned (.tuple #[.int .i64 v, .nilIface]) ∧ Below w.heap.size w w' :=
  (Tryz.strconv_Atoi_ok s (by omega) v h w).mono fun _ _ ⟨he, hw⟩ => ⟨he, by
    rcases hw with hw | ⟨t, hw⟩ <;> rw [hw]
    · exact Below.refl _ _
    · exact Go.Joins.below_bytesWorld _ _ _ _ (Nat.le_refl _)⟩
/-- Atoi: a number, or an error. -/
def AtoiPost (w : World) (e : Ending) (w' : World) : Prop :=
  ∃ (v : Int) (t : TypeId) (p : Value), e = .returned (.tuple #[.int .i64 v, .iface t p]) ∧ Below w.heap.size w w'
theorem atoi_err (s : ByteArray) (w : World) (hE : Ev w) (hs : s.size ≤ 60000) (h : ∀ v, Lib.atoiAll s.data.toList ≠ .ok v) :
    Calls Tryz.prog 34 #[.string s] w (AtoiPost w) := by
  obtain ⟨t1, p1, e1⟩ := hE.syn
  obtain ⟨t2, p2, e2⟩ := hE.rng
  rcases e : Lib.atoiAll s.data.toList with v | _ | _
  · exact absurd e (h v)
  · exact (Any.strconv_Atoi_syntax Tryz.laysC172 s (by omega) e _ w e1 (.inr ⟨_, _, rfl⟩)).mono fun _ _ ⟨N, he, _, _, hb⟩ => ⟨_, _, _, he, hb⟩
  · exact (Any.strconv_Atoi_range Tryz.laysC172 s (by omega) e _ w e2 (.inr ⟨_, _, rfl⟩)).mono fun _ _ ⟨N, he, _, _, hb⟩ => ⟨_, _, _, he, hb⟩

def CodP (d : ByteArray) (w : World) (e : Ending) (w' : World) : Prop :=
  ∃ n : Int, e = .returned (.tuple #[.int .i64 n, .bool (codB d.data.toList)]) ∧ (codB d.data.toList = true → n = codV d.data.toList) ∧ Below w.heap.size w w'
set_option maxRecDepth 100000 in
set_option maxHeartbeats 1000000 in
theorem codeOf_c (d : ByteArray) (w : World) (hE : Ev w) (hs : d.size ≤ 60000) : Calls Tryz.prog 42 #[.string d] w (CodP d w) := by
  by_cases h : ∃ v, Lib.atoiAll d.data.toList = .ok v
  · obtain ⟨v, hv⟩ := h
    have hA := Lib.hid (atoi_ok d v w hs hv)
    have e : Hid (codB d.data.toList = (decide (1 ≤ v) && (decide (d.size ≤ 3) && decide (Lib.itoa v = d.data.toList)))) := by unfold Hid codB; rw [hv, Lib.size_eq]
    have ev := Lib.hid (codV_of hv)
    have hb := Lib.atoiAll_bounds hv
    have HE := Lib.hid hE
    clear hv hE
    by_cases h1 : 1 ≤ v
    · by_cases h2 : d.size ≤ 3
      · have h2' : ¬ (3 : Int) < (d.size : Int) := by omega
        have h2'' : (d.size : Int) ≤ 3 := by omega
        have e2 : Hid (codB d.data.toList = decide (Lib.itoa v = d.data.toList)) := by unfold Hid; rw [e.out, decide_eq_true h1, decide_eq_true h2]; rfl
        clear e
        go_enter Tryz.func42, Tryz.ntmps42
        go_wp2_with fail
        refine hA.out.mono ?_
        rintro e w1 ⟨rfl, hb1⟩
        have HB1 := Lib.hid hb1
        have HI := Lib.hid (itoa_c v w1 (HE.out.pow.below hb1) (by omega) (by omega))
        clear hb1
        go_wp2_with fail
        refine HI.out.mono ?_
        rintro e w2 ⟨t, rfl, ht, hte, hb2⟩
        have TE : Hid ((t.toList == d.toList) = codB d.data.toList) := by
          unfold Hid
          rw [e2.out, hte.out, Lib.toList_data, Lib.toList_data, show (bs _).data.toList = _ from bsT_list _]
          rw [Bool.eq_iff_iff]; simp
        obtain ⟨B, hB⟩ : ∃ B, (t.toList == d.toList) = B := ⟨_, rfl⟩
        have TE2 : Hid (codB d.data.toList = B) := by unfold Hid; rw [← hB]; exact TE.out.symm
        clear TE e2 hte
        go_wp2
        go_ret2
        refine ⟨v, ?_, fun _ => ev.out.symm, hb2.out |> fun b2 => HB1.out.trans (b2.mono HB1.out.size)⟩
        rw [TE2.out]; rfl
      · have h2' : (3 : Int) < (d.size : Int) := by omega
        have h2'' : decide ((d.size : Int) ≤ 3) = false := by rw [decide_eq_false_iff_not]; omega
        have e2 : Hid (codB d.data.toList = false) := by unfold Hid; rw [e.out, decide_eq_true h1, decide_eq_false h2]; rfl
        clear e h2
        go_enter Tryz.func42, Tryz.ntmps42
        go_wp2_with fail
        refine hA.out.mono ?_
        rintro e w1 ⟨rfl, hb1⟩
        have HB1 := Lib.hid hb1
        clear hb1
        go_wp2
        go_ret2
        exact ⟨v, by rw [e2.out]; rfl, fun h => absurd h (by rw [e2.out]; decide), HB1.out⟩
    · have h1' : decide (1 ≤ v) = false := decide_eq_false h1
      have e2 : Hid (codB d.data.toList = false) := by unfold Hid; rw [e.out, decide_eq_false h1]; rfl
      clear e h1
      go_enter Tryz.func42, Tryz.ntmps42
      go_wp2_with fail
      refine hA.out.mono ?_
      rintro e w1 ⟨rfl, hb1⟩
      have HB1 := Lib.hid hb1
      clear hb1
      go_wp2
      go_ret2
      exact ⟨v, by rw [e2.out]; rfl, fun h => absurd h (by rw [e2.out]; decide), HB1.out⟩
  · have hA := Lib.hid (atoi_err d w hE hs fun v hv => h ⟨v, hv⟩)
    have e2 : Hid (codB d.data.toList = false) := by
      unfold Hid codB
      rcases e : Lib.atoiAll d.data.toList with v | _ | _
      · exact absurd ⟨v, e⟩ h
      · rfl
      · rfl
    clear h hE
    go_enter Tryz.func42, Tryz.ntmps42
    go_wp2_with fail
    refine hA.out.mono ?_
    rintro e w1 ⟨v, t, p, rfl, hb1⟩
    have HB1 := Lib.hid hb1
    clear hb1
    go_wp2
    go_ret2
    exact ⟨v, by rw [e2.out]; rfl, fun h => absurd h (by rw [e2.out]; decide), HB1.out⟩

theorem indexL_c (s : ByteArray) (i : Int) (h : Lib.index s.data.toList [32] = i) (W : World) : Calls Tryz.prog 82 #[.string s, .string ⟨#[32]⟩] W fun e W' => e = .returned (.int .i64 i) ∧ W' = W := by
  have := Tryz.stringslite_Index_one s 32 W
  rw [← Lib.index_one, h] at this
  exact this
def STr (_ : World) : Prop := True
def spB (l : List UInt8) : Bool := decide ((32 : UInt8) ∈ l)
def CutP (l : List UInt8) (w : World) (e : Ending) (w' : World) : Prop :=
  e = .returned (.tuple #[.string (bsT (tkw 32 l)), .string (bsT (drw 32 l)), .bool (spB l)]) ∧ Below w.heap.size w w'
set_option maxRecDepth 100000 in
set_option maxHeartbeats 1000000 in
theorem cutL_c (s : ByteArray) (w : World) (hs : s.size ≤ 60000) : Calls Tryz.prog 57 #[.string s, .string ⟨#[32]⟩] w (CutP s.data.toList w) := by
  have hsz := Lib.size_eq s
  rcases ix_cases 32 s.data.toList with ⟨x1, x2, x3⟩ | ⟨i, x1, x2, x3, x4, x5⟩
  · have HX := Lib.hid (fun V => indexL_c s (-1) x1 V)
    have R : Hid (∀ W', Below w.heap.size w W' → CutP s.data.toList w (.returned (.tuple #[.string s, .string ⟨#[]⟩, .bool false])) W') := fun W' h => by
      refine ⟨?_, h⟩
      rw [x3, drw_none x2, show spB s.data.toList = false from decide_eq_false x2, show bsT s.data.toList = s from Lib.mk_data s]; rfl
    clear x1 x2 x3 hsz
    go_enter Tryz.func57, Tryz.ntmps57
    go_wp2_with fail
    refine (HX.out _).mono ?_
    rintro e w' ⟨rfl, rfl⟩
    go_wp2
    (try simp only [Exit.inBlock, Exit.then]); refine bodyPost_ret (v := .tuple #[.string s, .string ⟨#[]⟩, .bool false]) (by simp [results, Tryz.results57, go_sem]) rfl ?_
    exact R.out _ (Below.refl _ _)
  · have HX := Lib.hid (fun V => indexL_c s i x1 V)
    have hi : i + 1 ≤ s.size := by omega
    have hi0 : (i : Int) + 1 ≤ (s.size : Int) := by omega
    have hwr : IntKind.i64.wrap ((i : Int) + 1) = (i : Int) + 1 := IntWalk.i64_in _ (by omega)
    have hi2 : (i : Int) ≤ (s.size : Int) := by omega
    have hi4 : (0 : Int) ≤ (i : Int) + 1 := by omega
    have hi3 : ((i : Int) + 1).toNat = i + 1 := by omega
    have hi1 : ¬ (i : Int) < 0 := by omega
    have R : Hid (∀ W', Below w.heap.size w W' → CutP s.data.toList w (.returned (.tuple #[.string (s.extract 0 i), .string (s.extract (i + 1) s.size), .bool true])) W') := fun W' h => by
      refine ⟨?_, h⟩
      rw [x3, x4, show spB s.data.toList = true from decide_eq_true x5, ext_take, ext_drop]
    clear x1 x2 x3 x4 x5 hsz
    go_enter Tryz.func57, Tryz.ntmps57
    go_wp2_with fail
    refine (HX.out _).mono ?_
    rintro e w' ⟨rfl, rfl⟩
    go_wp2
    refine wp_region_noPanic ?_
    refine wp_region_held_drew (S := STr) (by kernel_rfl) trivial (fun hS => ?_)
    have D8 : Hid (Below w'.heap.size w' w'.drew) := (Below.refl _ _).drew
    generalize w'.drew = W7 at *
    refine wpAnyH_take (i := 0) (v := ?v0z1) rfl (by kernel_rfl) (by kernel_rfl) (by kernel_rfl) (fun _ _ _ h => h) (Or.inl ⟨by rfl, ?hy0z1⟩) (by assumption) ?rest0z1
    case hy0z1 =>
      intro w hSw
      dsimp only [STr] at hSw
      go_simp
      try with_reducible rfl
    simp only [Act.put, List.getElem_toArray, List.getElem_cons_succ, List.getElem_cons_zero, List.setIfInBounds_toArray, List.set_cons_zero, List.set_cons_succ]
    refine wpAnyH_take (i := 1) (v := ?v1z2) rfl (by kernel_rfl) (by kernel_rfl) (by kernel_rfl) (fun _ _ _ h => h) (Or.inl ⟨by rfl, ?hy1z2⟩) (by assumption) ?rest1z2
    case hy1z2 =>
      intro w hSw
      dsimp only [STr] at hSw
      go_simp
      try with_reducible rfl
    simp only [Act.put, List.getElem_toArray, List.getElem_cons_succ, List.getElem_cons_zero, List.setIfInBounds_toArray, List.set_cons_zero, List.set_cons_succ]
    refine wpAnyH_take (i := 2) (v := ?v2z3) rfl (by kernel_rfl) (by kernel_rfl) (by kernel_rfl) (fun _ _ _ h => h) (Or.inl ⟨by rfl, ?hy2z3⟩) (by assumption) ?rest2z3
    case hy2z3 =>
      intro w hSw
      dsimp only [STr] at hSw
      go_simp
      try with_reducible rfl
    simp only [Act.put, List.getElem_toArray, List.getElem_cons_succ, List.getElem_cons_zero, List.setIfInBounds_toArray, List.set_cons_zero, List.set_cons_succ]
    refine wpAnyH_take (i := 3) (v := ?v3z4) rfl (by kernel_rfl) (by kernel_rfl) (by kernel_rfl) (fun _ _ _ h => h) (Or.inl ⟨by rfl, ?hy3z4⟩) (by assumption) ?rest3z4
    case hy3z4 =>
      intro w hSw
      dsimp only [STr] at hSw
      go_simp
      try with_reducible rfl
    simp only [Act.put, List.getElem_toArray, List.getElem_cons_succ, List.getElem_cons_zero, List.setIfInBounds_toArray, List.set_cons_zero, List.set_cons_succ]
    refine wpAnyH_take (i := 4) (v := ?v4z5) rfl (by kernel_rfl) (by kernel_rfl) (by kernel_rfl) (fun _ _ _ h => h) (Or.inl ⟨by rfl, ?hy4z5⟩) (by assumption) ?rest4z5
    case hy4z5 =>
      intro w hSw
      dsimp only [STr] at hSw
      go_simp
      try with_reducible rfl
    simp only [Act.put, List.getElem_toArray, List.getElem_cons_succ, List.getElem_cons_zero, List.setIfInBounds_toArray, List.set_cons_zero, List.set_cons_succ]
    refine wpAnyH_take (i := 5) (v := ?v5z6) rfl (by kernel_rfl) (by kernel_rfl) (by kernel_rfl) (fun _ _ _ h => h) (Or.inl ⟨by rfl, ?hy5z6⟩) (by assumption) ?rest5z6
    case hy5z6 =>
      intro w hSw
      dsimp only [STr] at hSw
      go_simp
      try with_reducible rfl
    simp only [Act.put, List.getElem_toArray, List.getElem_cons_succ, List.getElem_cons_zero, List.setIfInBounds_toArray, List.set_cons_zero, List.set_cons_succ]
    refine wpAnyH_take (i := 6) (v := ?v6z7) rfl (by kernel_rfl) (by kernel_rfl) (by kernel_rfl) (fun _ _ _ h => h) (Or.inl ⟨by rfl, ?hy6z7⟩) (by assumption) ?rest6z7
    case hy6z7 =>
      intro w hSw
      dsimp only [STr] at hSw
      go_simp
      try with_reducible rfl
    simp only [Act.put, List.getElem_toArray, List.getElem_cons_succ, List.getElem_cons_zero, List.setIfInBounds_toArray, List.set_cons_zero, List.set_cons_succ]
    refine wpAnyH_take (i := 7) (v := ?v7z8) rfl (by kernel_rfl) (by kernel_rfl) (by kernel_rfl) (fun _ _ _ h => h) (Or.inl ⟨by rfl, ?hy7z8⟩) (by assumption) ?rest7z8
    case hy7z8 =>
      intro w hSw
      dsimp only [STr] at hSw
      go_simp
      try with_reducible rfl
    simp only [Act.put, List.getElem_toArray, List.getElem_cons_succ, List.getElem_cons_zero, List.setIfInBounds_toArray, List.set_cons_zero, List.set_cons_succ]
    refine wpAnyH_take (i := 8) (v := ?v8z9) rfl (by kernel_rfl) (by kernel_rfl) (by kernel_rfl) (fun _ _ _ h => h) (Or.inl ⟨by rfl, ?hy8z9⟩) (by assumption) ?rest8z9
    case hy8z9 =>
      intro w hSw
      dsimp only [STr] at hSw
      go_simp
      try with_reducible rfl
    simp only [Act.put, List.getElem_toArray, List.getElem_cons_succ, List.getElem_cons_zero, List.setIfInBounds_toArray, List.set_cons_zero, List.set_cons_succ]
    refine wpAnyH_take (i := 9) (v := ?v9z10) rfl (by kernel_rfl) (by kernel_rfl) (by kernel_rfl) (fun _ _ _ h => h) (Or.inl ⟨by rfl, ?hy9z10⟩) (by assumption) ?rest9z10
    case hy9z10 =>
      intro w hSw
      dsimp only [STr] at hSw
      go_simp
      try with_reducible rfl
    simp only [Act.put, List.getElem_toArray, List.getElem_cons_succ, List.getElem_cons_zero, List.setIfInBounds_toArray, List.set_cons_zero, List.set_cons_succ]
    refine wpAnyH_take (i := 10) (v := ?v10z11) rfl (by kernel_rfl) (by kernel_rfl) (by kernel_rfl) (fun _ _ _ h => h) (Or.inl ⟨by rfl, ?hy10z11⟩) (by assumption) ?rest10z11
    case hy10z11 =>
      intro w hSw
      dsimp only [STr] at hSw
      go_simp
      try with_reducible rfl
    simp only [Act.put, List.getElem_toArray, List.getElem_cons_succ, List.getElem_cons_zero, List.setIfInBounds_toArray, List.set_cons_zero, List.set_cons_succ]
    refine wpAnyH_take (i := 11) (v := ?v11z12) rfl (by kernel_rfl) (by kernel_rfl) (by kernel_rfl) (fun _ _ _ h => h) (Or.inl ⟨by rfl, ?hy11z12⟩) (by assumption) ?rest11z12
    case hy11z12 =>
      intro w hSw
      dsimp only [STr] at hSw
      go_simp
      try with_reducible rfl
    simp only [Act.put, List.getElem_toArray, List.getElem_cons_succ, List.getElem_cons_zero, List.setIfInBounds_toArray, List.set_cons_zero, List.set_cons_succ]
    refine wpAnyH_done (by kernel_rfl) ?_ _
    refine NoPanic.normal ?_
    clear hS
    go_wp2
    go_ret3
    exact R.out _ D8.out
set_option maxRecDepth 100000 in
theorem cut_c (s : ByteArray) (w : World) (hs : s.size ≤ 60000) : Calls Tryz.prog 32 #[.string s, .string ⟨#[32]⟩] w (CutP s.data.toList w) := by
  have HC := Lib.hid (cutL_c s w hs)
  go_enter Tryz.func32, Tryz.ntmps32
  go_wp2_with fail
  refine HC.out.mono ?_
  rintro e w' ⟨rfl, hb⟩
  have HB := Lib.hid hb
  clear hb
  go_wp2
  refine bodyPost_ret (v := .tuple #[.string (bsT (tkw 32 s.data.toList)), .string (bsT (drw 32 s.data.toList)), .bool (spB s.data.toList)]) (by simp [results, Tryz.results32, go_sem]) rfl ?_
  exact ⟨rfl, HB.out⟩
def LineP (l : List UInt8) (w : World) (e : Ending) (w' : World) : Prop :=
  ∃ n : Int, e = .returned (.tuple #[.agg #[.int .i64 0, .int .i64 (lvN l : Nat), .int .i64 n, .string (tiN l)], .bool (lnB l)]) ∧ (lnB l = true → n = codV (dgs l)) ∧ Below w.heap.size w w'
theorem trim_c (s : ByteArray) (w : World) : Calls Tryz.prog 31 #[.string s, .string ⟨#[32]⟩] w fun e w' => e = .returned (.string (bsT (wds s.data.toList))) ∧ w = w' := (Tryz.strings_TrimLeft_one s 32 (by decide) w).mono fun _ _ h => ⟨h.1, h.2.symm⟩
set_option maxRecDepth 100000 in
set_option maxHeartbeats 2000000 in
theorem lineOf_c (s : ByteArray) (w : World) (hE : Ev w) (hs : s.size ≤ 60000) : Calls Tryz.prog 25 #[.string s] w (LineP s.data.toList w) := by
  obtain ⟨l, hl⟩ : ∃ l, s.data.toList = l := ⟨_, rfl⟩
  have hsl : s.size = l.length := by rw [← hl]; exact Lib.size_eq s
  have HT := Lib.hid (fun V => trim_c s V)
  rw [hl] at HT
  have hwl := wds_le l
  obtain ⟨u, hu⟩ : ∃ u, bsT (wds l) = u := ⟨_, rfl⟩
  have hul : u.data.toList = wds l := by rw [← hu]; exact bsT_list _
  have hus : u.size = (wds l).length := by rw [← hu]; exact bsT_size _
  have HC := Lib.hid (fun V => cut_c u V (by omega))
  rw [hul] at HC
  obtain ⟨d, hd⟩ : ∃ d, bsT (tkw 32 (wds l)) = d := ⟨_, rfl⟩
  have hdl : d.data.toList = dgs l := by rw [← hd]; exact bsT_list _
  have hds : d.size ≤ 60000 := by rw [← hd, bsT_size]; have := tkw_le 32 (wds l); omega
  have HD := Lib.hid (fun V hV => codeOf_c d V hV hds)
  obtain ⟨t, ht⟩ : ∃ t, bsT (drw 32 (wds l)) = t := ⟨_, rfl⟩
  have htl : tiN l = t := ht
  have hts : t.size ≤ 60000 := by rw [← ht, bsT_size]; have := drw_le 32 (wds l); omega
  have HI := Lib.hid (fun V => isTitle_c t V (by omega))
  obtain ⟨b, hb⟩ : ∃ b, blk l = b := ⟨_, rfl⟩
  have hbs : (s.size : Int) - (u.size : Int) = (b : Int) := by rw [← hb]; unfold blk; omega
  have hb6 : b ≤ 60000 := by rw [← hb]; unfold blk; omega
  obtain ⟨q, hq⟩ : ∃ q : Nat, b / 2 = q := ⟨_, rfl⟩
  have hqi : (b : Int) / 2 = (q : Int) := by omega
  have hq3 : q ≤ 30000 := by omega
  have hlv : Hid (((lvN l : Nat) : Int) = (q : Int) + 1) := by unfold Hid lvN; rw [hb, hq]; rfl
  have hB : Hid (lnB l = (decide (b % 2 = 0) && (spB (wds l) && (codB (dgs l) && titS t)))) := by unfold Hid lnB spB; rw [hb, htl]
  have HE := Lib.hid hE
  rw [hl]
  unfold CodP at HD
  rw [hdl] at HD
  unfold CutP at HC
  rw [hu] at HT
  rw [hd, ht] at HC
  have HTL := Lib.hid htl
  clear hE hl hsl hwl hu hul hus hd hdl hds ht htl hts hb hq
  obtain ⟨W1, hW1⟩ : ∃ W1, w.alloc (.cells #[.int .i64 0, .int .i64 0, .int .i64 0, .string ⟨#[]⟩] 64) = W1 := ⟨_, rfl⟩
  have B1 : Hid (Below w.heap.size w W1 ∧ Bx4 W1 w.heap.size (.int .i64 0) (.int .i64 0) (.int .i64 0) (.string ⟨#[]⟩)) := by unfold Hid; rw [← hW1]; exact ⟨bel_one _ _, Bx4.made _ _ _ _ _ _⟩
  by_cases h1 : b % 2 = 0
  · have h1' : (b : Int) % 2 = 0 := by omega
    cases h2 : spB (wds l) with
    | true =>
      rw [h2] at HC hB
      clear h2
      cases h3 : codB (dgs l) with
      | true =>
        rw [h3] at hB HD
        obtain ⟨T, hT⟩ : ∃ T, titS t = T := ⟨_, rfl⟩
        have HBZ : Hid (lnB l = T) := by unfold Hid; rw [hB.out, decide_eq_true h1, hT]; rfl
        rw [hT] at HI
        clear hB h1 hT h3
        go_enter Tryz.func25, Tryz.ntmps25
        go_wp2_with fail
        refine (HT.out _).mono ?_
        rintro e w2 ⟨rfl, rfl⟩
        go_wp2_with fail
        refine (HC.out _).mono ?_
        rintro e w2 ⟨rfl, b2⟩
        have B2 := Lib.hid b2
        clear b2
        go_wp2_with fail
        refine (HD.out w2 (HE.out.below (B1.out.1.trans (B2.out.mono B1.out.1.size)))).mono ?_
        rintro e w3 ⟨n, rfl, hn, b3⟩
        have B3 := Lib.hid b3
        have HN := Lib.hid hn
        clear b3 hn
        have BZ : Hid (Below W1.heap.size W1 w3) := B2.out.trans (B3.out.mono B2.out.size)
        go_wp2_with fail
        refine (HI.out _).mono ?_
        rintro e w4 ⟨rfl, b4⟩
        have BY : Hid (Below W1.heap.size W1 w4) := BZ.out.trans (b4.mono BZ.out.size)
        clear b4
        have Z := B1.out.2.keep BY.out
        obtain ⟨z0, z1, z2, z3, zf, _⟩ := Z
        obtain ⟨W9, hW9⟩ : ∃ W9, fou4 w4 w.heap.size (.int .i64 0) (.int .i64 ((q : Int) + 1)) (.int .i64 n) (.string t) = W9 := ⟨_, rfl⟩
        have R9 : Bx4 W9 w.heap.size (.int .i64 0) (.int .i64 ((q : Int) + 1)) (.int .i64 n) (.string t) := by rw [← hW9]; exact (B1.out.2.keep BY.out).set _ _ _ _
        have D9 : Hid (Below w.heap.size w W9) := by unfold Hid; rw [← hW9]; exact below_fou4 (B1.out.1.trans (BY.out.mono B1.out.1.size)) (Nat.le_refl _) _ _ _ _
        obtain ⟨y0, y1, y2, y3, yf, _⟩ := R9
        unfold fou4 at hW9
        clear hW1
        go_wp2
        have RR : Hid (LineP l w (.returned (.tuple #[.agg #[.int .i64 0, .int .i64 ((q : Int) + 1), .int .i64 n, .string t], .bool T])) W9) := ⟨n, by rw [hlv.out, HTL.out, HBZ.out], fun h => HN.out (by rw [HBZ.out] at h; first | rfl | trivial), D9.out⟩
        refine bodyPost_ret (v := .tuple #[.agg #[.int .i64 0, .int .i64 ((q : Int) + 1), .int .i64 n, .string t], .bool T]) (by simp [results, Tryz.results25, go_sem, y0, y1, y2, y3]) rfl ?_
        exact RR.out
      | false =>
        rw [h3] at hB HD
        have HBZ : Hid (lnB l = false) := by unfold Hid; rw [hB.out, decide_eq_true h1]; rfl
        clear hB h1 h3
        go_enter Tryz.func25, Tryz.ntmps25
        go_wp2_with fail
        refine (HT.out _).mono ?_
        rintro e w2 ⟨rfl, rfl⟩
        go_wp2_with fail
        refine (HC.out _).mono ?_
        rintro e w2 ⟨rfl, b2⟩
        have B2 := Lib.hid b2
        clear b2
        go_wp2_with fail
        refine (HD.out w2 (HE.out.below (B1.out.1.trans (B2.out.mono B1.out.1.size)))).mono ?_
        rintro e w3 ⟨n, rfl, hn, b3⟩
        have B3 := Lib.hid b3
        have HN := Lib.hid hn
        clear b3 hn
        have BZ : Hid (Below W1.heap.size W1 w3) := B2.out.trans (B3.out.mono B2.out.size)
        have Z := B1.out.2.keep BZ.out
        obtain ⟨z0, z1, z2, z3, zf, _⟩ := Z
        obtain ⟨W9, hW9⟩ : ∃ W9, fou4 w3 w.heap.size (.int .i64 0) (.int .i64 ((q : Int) + 1)) (.int .i64 n) (.string t) = W9 := ⟨_, rfl⟩
        have R9 : Bx4 W9 w.heap.size (.int .i64 0) (.int .i64 ((q : Int) + 1)) (.int .i64 n) (.string t) := by rw [← hW9]; exact (B1.out.2.keep BZ.out).set _ _ _ _
        have D9 : Hid (Below w.heap.size w W9) := by unfold Hid; rw [← hW9]; exact below_fou4 (B1.out.1.trans (BZ.out.mono B1.out.1.size)) (Nat.le_refl _) _ _ _ _
        obtain ⟨y0, y1, y2, y3, yf, _⟩ := R9
        unfold fou4 at hW9
        clear hW1
        go_wp2
        have RR : Hid (LineP l w (.returned (.tuple #[.agg #[.int .i64 0, .int .i64 ((q : Int) + 1), .int .i64 n, .string t], .bool false])) W9) := ⟨n, by rw [hlv.out, HTL.out, HBZ.out], fun h => HN.out (by rw [HBZ.out] at h; cases h), D9.out⟩
        refine bodyPost_ret (v := .tuple #[.agg #[.int .i64 0, .int .i64 ((q : Int) + 1), .int .i64 n, .string t], .bool false]) (by simp [results, Tryz.results25, go_sem, y0, y1, y2, y3]) rfl ?_
        exact RR.out
    | false =>
      rw [h2] at HC hB
      have HBZ : Hid (lnB l = false) := by unfold Hid; rw [hB.out, decide_eq_true h1]; rfl
      clear hB h1 h2
      go_enter Tryz.func25, Tryz.ntmps25
      go_wp2_with fail
      refine (HT.out _).mono ?_
      rintro e w2 ⟨rfl, rfl⟩
      go_wp2_with fail
      refine (HC.out _).mono ?_
      rintro e w2 ⟨rfl, b2⟩
      have B2 := Lib.hid b2
      clear b2
      go_wp2_with fail
      refine (HD.out w2 (HE.out.below (B1.out.1.trans (B2.out.mono B1.out.1.size)))).mono ?_
      rintro e w3 ⟨n, rfl, hn, b3⟩
      have B3 := Lib.hid b3
      have HN := Lib.hid hn
      clear b3 hn
      have BZ : Hid (Below W1.heap.size W1 w3) := B2.out.trans (B3.out.mono B2.out.size)
      have Z := B1.out.2.keep BZ.out
      obtain ⟨z0, z1, z2, z3, zf, _⟩ := Z
      obtain ⟨W9, hW9⟩ : ∃ W9, fou4 w3 w.heap.size (.int .i64 0) (.int .i64 ((q : Int) + 1)) (.int .i64 n) (.string t) = W9 := ⟨_, rfl⟩
      have R9 : Bx4 W9 w.heap.size (.int .i64 0) (.int .i64 ((q : Int) + 1)) (.int .i64 n) (.string t) := by rw [← hW9]; exact (B1.out.2.keep BZ.out).set _ _ _ _
      have D9 : Hid (Below w.heap.size w W9) := by unfold Hid; rw [← hW9]; exact below_fou4 (B1.out.1.trans (BZ.out.mono B1.out.1.size)) (Nat.le_refl _) _ _ _ _
      obtain ⟨y0, y1, y2, y3, yf, _⟩ := R9
      unfold fou4 at hW9
      clear hW1
      go_wp2
      have RR : Hid (LineP l w (.returned (.tuple #[.agg #[.int .i64 0, .int .i64 ((q : Int) + 1), .int .i64 n, .string t], .bool false])) W9) := ⟨n, by rw [hlv.out, HTL.out, HBZ.out], fun h => HN.out (by rw [HBZ.out] at h; cases h), D9.out⟩
      refine bodyPost_ret (v := .tuple #[.agg #[.int .i64 0, .int .i64 ((q : Int) + 1), .int .i64 n, .string t], .bool false]) (by simp [results, Tryz.results25, go_sem, y0, y1, y2, y3]) rfl ?_
      exact RR.out
  · have h1' : (b : Int) % 2 = 1 := by omega
    have HBZ : Hid (lnB l = false) := by unfold Hid; rw [hB.out, decide_eq_false h1]; rfl
    clear hB h1
    go_enter Tryz.func25, Tryz.ntmps25
    go_wp2_with fail
    refine (HT.out _).mono ?_
    rintro e w2 ⟨rfl, rfl⟩
    go_wp2_with fail
    refine (HC.out _).mono ?_
    rintro e w2 ⟨rfl, b2⟩
    have B2 := Lib.hid b2
    clear b2
    go_wp2_with fail
    refine (HD.out w2 (HE.out.below (B1.out.1.trans (B2.out.mono B1.out.1.size)))).mono ?_
    rintro e w3 ⟨n, rfl, hn, b3⟩
    have B3 := Lib.hid b3
    have HN := Lib.hid hn
    clear b3 hn
    have BZ : Hid (Below W1.heap.size W1 w3) := B2.out.trans (B3.out.mono B2.out.size)
    have Z := B1.out.2.keep BZ.out
    obtain ⟨z0, z1, z2, z3, zf, _⟩ := Z
    obtain ⟨W9, hW9⟩ : ∃ W9, fou4 w3 w.heap.size (.int .i64 0) (.int .i64 ((q : Int) + 1)) (.int .i64 n) (.string t) = W9 := ⟨_, rfl⟩
    have R9 : Bx4 W9 w.heap.size (.int .i64 0) (.int .i64 ((q : Int) + 1)) (.int .i64 n) (.string t) := by rw [← hW9]; exact (B1.out.2.keep BZ.out).set _ _ _ _
    have D9 : Hid (Below w.heap.size w W9) := by unfold Hid; rw [← hW9]; exact below_fou4 (B1.out.1.trans (BZ.out.mono B1.out.1.size)) (Nat.le_refl _) _ _ _ _
    obtain ⟨y0, y1, y2, y3, yf, _⟩ := R9
    unfold fou4 at hW9
    clear hW1
    go_wp2
    have RR : Hid (LineP l w (.returned (.tuple #[.agg #[.int .i64 0, .int .i64 ((q : Int) + 1), .int .i64 n, .string t], .bool false])) W9) := ⟨n, by rw [hlv.out, HTL.out, HBZ.out], fun h => HN.out (by rw [HBZ.out] at h; cases h), D9.out⟩
    refine bodyPost_ret (v := .tuple #[.agg #[.int .i64 0, .int .i64 ((q : Int) + 1), .int .i64 n, .string t], .bool false]) (by simp [results, Tryz.results25, go_sem, y0, y1, y2, y3]) rfl ?_
    exact RR.out
end Go.Proofs.YtheekfijbbgbkaaGreatDoor
namespace Go.Proofs.YtheekfijbbgbkaaGreatDoor
open Go.RowKit Go.Shelf

attribute [local go_sem] Oper.semAt_some

def SeqP (s : ByteArray) (w : World) (e : Ending) (w' : World) : Prop :=
  e = .returned (.func (.func 65) #[] #[.pointer (some ⟨w.heap.size + 1, 0, none⟩), .pointer (some ⟨w.heap.size, 0, none⟩), .pointer (some ⟨w.heap.size + 2, 0, none⟩)]) ∧
  w' = ((w.alloc (.cells #[.string s] 9)).alloc (.cells #[.string ⟨#[10]⟩] 9)).alloc (.cells #[.int .i64 0] 3)
set_option maxRecDepth 100000 in
theorem splitSeq0_c (s : ByteArray) (w : World) : Calls Tryz.prog 41 #[.string s, .string ⟨#[10]⟩, .int .i64 0] w (SeqP s w) := by
  go_enter Tryz.func41, Tryz.ntmps41
  go_wp2
  go_ret
  exact ⟨by simp, rfl⟩
set_option maxRecDepth 100000 in
theorem splitSeq_c (s : ByteArray) (w : World) : Calls Tryz.prog 24 #[.string s, .string ⟨#[10]⟩] w (SeqP s w) := by
  have HC := Lib.hid (splitSeq0_c s w)
  go_enter Tryz.func24, Tryz.ntmps24
  go_wp2_with fail
  refine HC.out.mono ?_
  rintro e w' ⟨rfl, hw⟩
  have HW := Lib.hid hw
  clear hw
  go_wp2
  go_ret
  exact ⟨rfl, HW.out⟩

/-- The cells of lines. -/
def lcells (u : Ln) : List Value := [.int .i64 (u.nu : Nat), .int .i64 (u.lv : Nat), .int .i64 u.cd, .string u.ti]
def lrow (L : List Ln) : List Value := L.flatMap lcells
theorem lrow_snoc (L : List Ln) (u : Ln) : lrow (L ++ [u]) = lrow L ++ lcells u := by unfold lrow; simp
def ScP (T : List UInt8) (w : World) (e : Ending) (w' : World) : Prop :=
  Below w.heap.size w w' ∧ ((fe (scE T) (nls T + 1) ≠ 0 ∧ e = .returned (.tuple #[.slice none 0 0, .int .i64 (fe (scE T) (nls T + 1))])) ∨
    (fe (scE T) (nls T + 1) = 0 ∧ ∃ v, e = .returned (.tuple #[v, .int .i64 0]) ∧ w'.ownsRow w.heap.size 64 4 v (outS T (nls T + 1)).length (lrow (outS T (nls T + 1)))))

/-- The boxes of scan: the results, the lines, the number, the level; those of SplitSeq's function. -/
structure ScB (g0 g1 g2 g3 g4 b : Nat) (W : World) (v : Value) (n1 n3 n4 : Int) (u : Value) : Prop where
  b0 : Boxed W g0 33 (.slice none 0 0)
  b1 : Boxed W g1 3 (.int .i64 n1)
  b2 : Boxed W g2 33 v
  b3 : Boxed W g3 3 (.int .i64 n3)
  b4 : Boxed W g4 3 (.int .i64 n4)
  b5 : Boxed W b 9 u
  b6 : Boxed W (b + 1) 9 (.string ⟨#[10]⟩)
  b7 : Boxed W (b + 2) 3 (.int .i64 0)
theorem ScB.it {g0 g1 g2 g3 g4 b : Nat} {W : World} {v : Value} {n1 n3 n4 : Int} {s : ByteArray} (h : ScB g0 g1 g2 g3 g4 b W v n1 n3 n4 (.string s)) : ItAt b s W := ⟨h.b5.cell, h.b6.cell, h.b7.cell, h.b5.frozen⟩
theorem ScB.grown {g0 g1 g2 g3 g4 b : Nat} {W W' : World} {v : Value} {n1 n3 n4 : Int} {u : Value} {row : Option Nat} (h : ScB g0 g1 g2 g3 g4 b W v n1 n3 n4 u) (hg : W.grownBy W' row)
    (hr : ∀ B t x, Boxed W B t x → t ≠ 64 → some B ≠ row) : ScB g0 g1 g2 g3 g4 b W' v n1 n3 n4 u :=
  ⟨h.b0.kept hg (hr _ _ _ h.b0 (by decide)), h.b1.kept hg (hr _ _ _ h.b1 (by decide)), h.b2.kept hg (hr _ _ _ h.b2 (by decide)), h.b3.kept hg (hr _ _ _ h.b3 (by decide)),
   h.b4.kept hg (hr _ _ _ h.b4 (by decide)), h.b5.kept hg (hr _ _ _ h.b5 (by decide)), h.b6.kept hg (hr _ _ _ h.b6 (by decide)), h.b7.kept hg (hr _ _ _ h.b7 (by decide))⟩
theorem ScB.below {g0 g1 g2 g3 g4 b : Nat} {W W' : World} {v : Value} {n1 n3 n4 : Int} {u : Value} (h : ScB g0 g1 g2 g3 g4 b W v n1 n3 n4 u) (hb : Below W.heap.size W W') : ScB g0 g1 g2 g3 g4 b W' v n1 n3 n4 u :=
  h.grown (row := none) ⟨hb.os, hb.tape, hb.output, hb.size, fun i hi _ => hb.block i hi⟩ (fun _ _ _ _ _ e => by cases e)
theorem ScB.alloc {g0 g1 g2 g3 g4 b : Nat} {W : World} {v : Value} {n1 n3 n4 : Int} {u : Value} (h : ScB g0 g1 g2 g3 g4 b W v n1 n3 n4 u) (o : Obj) : ScB g0 g1 g2 g3 g4 b (W.alloc o) v n1 n3 n4 u :=
  h.below ((Below.refl _ W).alloc (Nat.le_refl _) o)
theorem boxOth {W : World} {B B' : Nat} {t : TypeId} {v : Value} (h : Boxed W B t v) (hne : B ≠ B') (x : Value) : Boxed (W.setCell ⟨B', 0, none⟩ x) B t v := h.other hne x
theorem boxOth4 {W : World} {B B' : Nat} {t : TypeId} {v : Value} (h : Boxed W B t v) (hne : B ≠ B') (o : Nat) (x : Value) : Boxed (W.setCell ⟨B', o, none⟩ x) B t v :=
  (Below.heap_setCell _ _ _ B (fun e => hne e)).trans h
section
variable {g0 g1 g2 g3 g4 b : Nat} {W : World} {v : Value} {n1 n3 n4 : Int} {u : Value}
theorem ScB.set3 (h : ScB g0 g1 g2 g3 g4 b W v n1 n3 n4 u) (h0 : g0 < g1 ∧ g1 < g2 ∧ g2 < g3 ∧ g3 < g4 ∧ g4 < b) (x : Int) : ScB g0 g1 g2 g3 g4 b (W.setCell ⟨g3, 0, none⟩ (.int .i64 x)) v n1 x n4 u :=
  ⟨boxOth h.b0 (by omega) _, boxOth h.b1 (by omega) _, boxOth h.b2 (by omega) _, h.b3.set _, boxOth h.b4 (by omega) _, boxOth h.b5 (by omega) _, boxOth h.b6 (by omega) _, boxOth h.b7 (by omega) _⟩
theorem ScB.set4 (h : ScB g0 g1 g2 g3 g4 b W v n1 n3 n4 u) (h0 : g0 < g1 ∧ g1 < g2 ∧ g2 < g3 ∧ g3 < g4 ∧ g4 < b) (x : Int) : ScB g0 g1 g2 g3 g4 b (W.setCell ⟨g4, 0, none⟩ (.int .i64 x)) v n1 n3 x u :=
  ⟨boxOth h.b0 (by omega) _, boxOth h.b1 (by omega) _, boxOth h.b2 (by omega) _, boxOth h.b3 (by omega) _, h.b4.set _, boxOth h.b5 (by omega) _, boxOth h.b6 (by omega) _, boxOth h.b7 (by omega) _⟩
theorem ScB.set2 (h : ScB g0 g1 g2 g3 g4 b W v n1 n3 n4 u) (h0 : g0 < g1 ∧ g1 < g2 ∧ g2 < g3 ∧ g3 < g4 ∧ g4 < b) (x : Value) : ScB g0 g1 g2 g3 g4 b (W.setCell ⟨g2, 0, none⟩ x) x n1 n3 n4 u :=
  ⟨boxOth h.b0 (by omega) _, boxOth h.b1 (by omega) _, h.b2.set _, boxOth h.b3 (by omega) _, boxOth h.b4 (by omega) _, boxOth h.b5 (by omega) _, boxOth h.b6 (by omega) _, boxOth h.b7 (by omega) _⟩
theorem ScB.set1 (h : ScB g0 g1 g2 g3 g4 b W v n1 n3 n4 u) (h0 : g0 < g1 ∧ g1 < g2 ∧ g2 < g3 ∧ g3 < g4 ∧ g4 < b) (x : Int) : ScB g0 g1 g2 g3 g4 b (W.setCell ⟨g1, 0, none⟩ (.int .i64 x)) v x n3 n4 u :=
  ⟨boxOth h.b0 (by omega) _, h.b1.set _, boxOth h.b2 (by omega) _, boxOth h.b3 (by omega) _, boxOth h.b4 (by omega) _, boxOth h.b5 (by omega) _, boxOth h.b6 (by omega) _, boxOth h.b7 (by omega) _⟩
theorem ScB.set0 (h : ScB g0 g1 g2 g3 g4 b W v n1 n3 n4 u) (h0 : g0 < g1 ∧ g1 < g2 ∧ g2 < g3 ∧ g3 < g4 ∧ g4 < b) : ScB g0 g1 g2 g3 g4 b (W.setCell ⟨g0, 0, none⟩ (.slice none 0 0)) v n1 n3 n4 u :=
  ⟨h.b0.set _, boxOth h.b1 (by omega) _, boxOth h.b2 (by omega) _, boxOth h.b3 (by omega) _, boxOth h.b4 (by omega) _, boxOth h.b5 (by omega) _, boxOth h.b6 (by omega) _, boxOth h.b7 (by omega) _⟩
theorem ScB.set5 (h : ScB g0 g1 g2 g3 g4 b W v n1 n3 n4 u) (h0 : g0 < g1 ∧ g1 < g2 ∧ g2 < g3 ∧ g3 < g4 ∧ g4 < b) (x : Value) : ScB g0 g1 g2 g3 g4 b (W.setCell ⟨b, 0, none⟩ x) v n1 n3 n4 x :=
  ⟨boxOth h.b0 (by omega) _, boxOth h.b1 (by omega) _, boxOth h.b2 (by omega) _, boxOth h.b3 (by omega) _, boxOth h.b4 (by omega) _, h.b5.set _, boxOth h.b6 (by omega) _, boxOth h.b7 (by omega) _⟩
/-- A store into another block. -/
theorem ScB.set_ (h : ScB g0 g1 g2 g3 g4 b W v n1 n3 n4 u) (h0 : g0 < g1 ∧ g1 < g2 ∧ g2 < g3 ∧ g3 < g4 ∧ g4 < b) {q : Nat} (hq : b + 2 < q) (o : Nat) (x : Value) : ScB g0 g1 g2 g3 g4 b (W.setCell ⟨q, o, none⟩ x) v n1 n3 n4 u :=
  ⟨boxOth4 h.b0 (by omega) _ _, boxOth4 h.b1 (by omega) _ _, boxOth4 h.b2 (by omega) _ _, boxOth4 h.b3 (by omega) _ _, boxOth4 h.b4 (by omega) _ _, boxOth4 h.b5 (by omega) _ _, boxOth4 h.b6 (by omega) _ _, boxOth4 h.b7 (by omega) _ _⟩
end
theorem ScB.made (w : World) (s : Value) : ScB w.heap.size (w.heap.size + 1) (w.heap.size + 1 + 1) (w.heap.size + 1 + 1 + 1) (w.heap.size + 1 + 1 + 1 + 1) (w.heap.size + 1 + 1 + 1 + 1 + 1)
    ((((((((w.alloc (.cells #[.slice none 0 0] 33)).alloc (.cells #[.int .i64 0] 3)).alloc (.cells #[.slice none 0 0] 33)).alloc (.cells #[.int .i64 0] 3)).alloc (.cells #[.int .i64 0] 3)).alloc (.cells #[s] 9)).alloc (.cells #[.string ⟨#[10]⟩] 9)).alloc (.cells #[.int .i64 0] 3))
    (.slice none 0 0) 0 0 0 s :=
  ⟨by simpa using (((((((Boxed.new w _ _).alloc _).alloc _).alloc _).alloc _).alloc _).alloc _).alloc _,
   by simpa using ((((((Boxed.new (w.alloc _) _ _).alloc _).alloc _).alloc _).alloc _).alloc _).alloc _,
   by simpa using (((((Boxed.new ((w.alloc _).alloc _) _ _).alloc _).alloc _).alloc _).alloc _).alloc _,
   by simpa using ((((Boxed.new (((w.alloc _).alloc _).alloc _) _ _).alloc _).alloc _).alloc _).alloc _,
   by simpa using (((Boxed.new ((((w.alloc _).alloc _).alloc _).alloc _) _ _).alloc _).alloc _).alloc _,
   by simpa using ((Boxed.new (((((w.alloc _).alloc _).alloc _).alloc _).alloc _) _ _).alloc _).alloc _,
   by simpa using (Boxed.new ((((((w.alloc _).alloc _).alloc _).alloc _).alloc _).alloc _) _ _).alloc _,
   by simpa using Boxed.new (((((((w.alloc _).alloc _).alloc _).alloc _).alloc _).alloc _).alloc _) _ _⟩
def g0_lt (g0 g1 g2 g3 g4 b : Nat) : Prop := g0 < g1 ∧ g1 < g2 ∧ g2 < g3 ∧ g3 < g4 ∧ g4 < b
theorem infoLn : (Tryz.prog.info? 64).map (fun i => (i.zero, i.size, i.bytes)) = some (some (.agg #[.int .i64 0, .int .i64 0, .int .i64 0, .string ByteArray.empty]), 4, 40) := by kernel_rfl
theorem box_ne {X : World} {B : Nat} {t : TypeId} {x : Value} {row : Option Nat} (h : Boxed X B t x) (hrow : ∀ r, row = some r → ∃ o : Obj, X.heap[r]? = some o ∧ o.isCells = false) : some B ≠ row := fun e' => by
  obtain ⟨o, ho, hc⟩ := hrow B e'.symm
  rw [show X.heap[B]? = _ from h] at ho; cases ho; cases hc
theorem row_ne {X : World} {base size k : Nat} {e : TypeId} {v : Value} {xs : List Value} {row : Option Nat} (hr : X.ownsRow base e size v k xs) (hrow : ∀ r, row = some r → ∃ o : Obj, X.heap[r]? = some o ∧ o.isCells = false) : v.ownBlock = none ∨ v.ownBlock ≠ row := by
  rcases hr.2 with ⟨rfl, _⟩ | ⟨g, cap, cur, rfl, _, hgb, _⟩
  · exact .inl rfl
  · refine .inr fun e' => ?_
    obtain ⟨o, ho, hc⟩ := hrow g (by simpa [Value.ownBlock] using e'.symm)
    rw [hgb] at ho; cases ho; cases hc
section
variable (h g0 g1 g2 g3 g4 b : Nat) (T : List UInt8) (w : World)
/-- Between two lines. -/
def ScI (k : Nat) (W : World) : Prop :=
  ∃ v u, ScB g0 g1 g2 g3 g4 b W v 0 k (lvS T k : Nat) u ∧ W.ownsRow h 64 4 v (outS T k).length (lrow (outS T k)) ∧ (∀ j, j < k → scE T j = 0) ∧ Below h w W
/-- Behind a line that has not the form of one. -/
def ScX (k : Nat) (W : World) : Prop :=
  Boxed W g0 33 (.slice none 0 0) ∧ Boxed W g1 3 (.int .i64 ((k + 1 : Nat) : Int)) ∧ (∀ j, j < k → scE T j = 0) ∧ scE T k = ((k + 1 : Nat) : Int) ∧ Below h w W
end
section
variable {h g0 g1 g2 g3 g4 b : Nat} {T : List UInt8} {w : World}
theorem ScI.own (B : Nat) (hw : h ≤ w.heap.size) (hB : h ≤ B) : OwnFrom B (ScI h g0 g1 g2 g3 g4 b T w) := by
  rintro k X Y row ⟨v, u, hb, hr, he, hbl⟩ hg hrow
  have hrow' := fun r e => (hrow r e).2
  exact ⟨v, u, hb.grown hg (fun B t x hx _ => box_ne hx hrow'), hr.kept hg (row_ne hr hrow'), he, hbl.grown hg (Nat.le_trans hw hbl.size) (fun r e => Nat.le_trans hB (hrow r e).1)⟩
theorem ScX.own (B : Nat) (hw : h ≤ w.heap.size) (hB : h ≤ B) : OwnFrom B (ScX h g0 g1 T w) := by
  rintro k X Y row ⟨h0, h1, he, hx, hbl⟩ hg hrow
  have hrow' := fun r e => (hrow r e).2
  exact ⟨h0.kept hg (box_ne h0 hrow'), h1.kept hg (box_ne h1 hrow'), he, hx, hbl.grown hg (Nat.le_trans hw hbl.size) (fun r e => Nat.le_trans hB (hrow r e).1)⟩
theorem ScI.set5 (h0 : g0 < g1 ∧ g1 < g2 ∧ g2 < g3 ∧ g3 < g4 ∧ g4 < b) (hh : h ≤ b) {k : Nat} {W : World} (x : Value) (hI : ScI h g0 g1 g2 g3 g4 b T w k W) : ScI h g0 g1 g2 g3 g4 b T w k (W.setCell ⟨b, 0, none⟩ x) := by
  obtain ⟨v, u, hb, hr, he, hbl⟩ := hI
  refine ⟨v, x, hb.set5 h0 x, hr.kept (grownBy_setCell' W b x) (.inr (hb.b5.not_row (by decide) hr).symm), he, hbl.setCell (p := ⟨b, 0, none⟩) hh x⟩
end
theorem keepsB {B : Nat} {W W' : World} (h : Below W.heap.size W W') : KeepsFrom B W W' := ⟨h.size, fun k o _ hk _ => (h.block k (Array.getElem?_eq_some_iff.1 hk).1).trans hk⟩
theorem cell_four_new (w : World) (a b c d : Value) (T : TypeId) : ∀ (j : Nat) (u : Value), [a, b, c, d][j]? = some u → (w.alloc (.cells #[a, b, c, d] T)).cell? ((⟨w.heap.size, 0, none⟩ : Addr).add j) = some u := by
  intro j u h
  have hj : j < 4 := (List.getElem?_eq_some_iff.1 h).1
  rw [add_at, Nat.zero_add]
  rcases j with _ | _ | _ | _ | j
  · rw [World.cell?_alloc_new]; simpa using h
  · rw [World.cell?_alloc_new]; simpa using h
  · rw [World.cell?_alloc_new]; simpa using h
  · rw [World.cell?_alloc_new]; simpa using h
  · omega
theorem lvS_le (T : List UInt8) : ∀ k, lvS T k ≤ T.length + 1
  | 0 => Nat.zero_le _
  | k + 1 => by
    show (if _ then lvS T k else _) ≤ _
    split
    · exact lvS_le T k
    · exact Nat.succ_le_succ (Nat.le_trans (Nat.div_le_self _ _) (Nat.le_trans (Nat.sub_le _ _) (pce_le T k)))
section
variable {h g0 g1 g2 g3 g4 b : Nat} {T : List UInt8} {w W W7 : World}
theorem bad_end (HO : g0_lt h g1 g2 g3 g4 b) {B k : Nat} {v u : Value} {n3 n4 : Int} {I : Nat → World → Prop} (a : Act) (hB : ScB h g1 g2 g3 g4 b W7 v 0 n3 n4 u) (hK : KeepsFrom B W W7) (hbl : Below h w W7) (hj : ∀ j, j < k → scE T j = 0) (hx : scE T k = ((k + 1 : Nat) : Int)) :
    spPost B b T I (ScX h h g1 T w) k W .ret a ((W7.setCell ⟨h, 0, none⟩ (.slice none 0 0)).setCell ⟨g1, 0, none⟩ (.int .i64 ((k : Int) + 1))).drew := by
  have hO := HO
  unfold g0_lt at hO
  have h1 := (hB.set0 HO).set1 HO ((k : Int) + 1)
  have h2 := h1.below (Below.refl _ _).drew
  refine ⟨((hK.trans ((KeepsOthers.setCell _ _ _).from _)).trans ((KeepsOthers.setCell _ _ _).from _)).trans ((KeepsOthers.drew _).from _), h2.b0, h2.b1, hj, hx, ?_⟩
  exact ((hbl.setCell (p := ⟨h, 0, none⟩) (Nat.le_refl _) _).setCell (p := ⟨g1, 0, none⟩) (by show h ≤ g1; omega) _).drew
end
set_option maxRecDepth 100000 in
set_option maxHeartbeats 4000000 in
theorem scan_c (s : ByteArray) (w : World) (hE : Ev w) (hs : s.size ≤ 60000) : Calls Tryz.prog 9 #[.string s] w (ScP s.data.toList w) := by
  refine (callsIn_wide (n := 8)).1 ?_
  refine callsIn_of_wp_marks Tryz.func9 rfl trivial ?_ rfl
  simp only [Tryz.ntmps9, List.size_toArray, List.length_cons, List.length_nil, Nat.reduceAdd, Nat.reduceSub, Array.replicate_succ, Array.replicate_zero, List.push_toArray, List.append_toArray, List.nil_append, List.cons_append]
  have HC := Lib.hid (fun V => splitSeq_c s V)
  have h8 : 1 ≤ 8 := by decide
  gi_wp2_with (refine ⟨trivial, ?_⟩; gi_at_call 24; refine (callsIn_wide.2 (HC.out _)).mono ?_; rintro e w' ⟨rfl, rfl⟩)
  have hM := ScB.made w (.string s)
  have hBW : Below w.heap.size w ((((((((w.alloc (.cells #[.slice none 0 0] 33)).alloc (.cells #[.int .i64 0] 3)).alloc (.cells #[.slice none 0 0] 33)).alloc (.cells #[.int .i64 0] 3)).alloc (.cells #[.int .i64 0] 3)).alloc (.cells #[.string s] 9)).alloc (.cells #[.string ⟨#[10]⟩] 9)).alloc (.cells #[.int .i64 0] 3)) :=
    (((((((((Below.refl _ w).alloc (Nat.le_refl _) _).alloc (by simp) _).alloc (by simp; omega) _).alloc (by simp; omega) _).alloc (by simp; omega) _).alloc (by simp; omega) _).alloc (by simp; omega) _).alloc (by simp; omega) _)
  generalize ((((((((w.alloc (.cells #[.slice none 0 0] 33)).alloc (.cells #[.int .i64 0] 3)).alloc (.cells #[.slice none 0 0] 33)).alloc (.cells #[.int .i64 0] 3)).alloc (.cells #[.int .i64 0] 3)).alloc (.cells #[.string s] 9)).alloc (.cells #[.string ⟨#[10]⟩] 9)).alloc (.cells #[.int .i64 0] 3)) = W0 at hM hBW ⊢
  obtain ⟨h, hh⟩ : ∃ h, w.heap.size = h := ⟨_, rfl⟩
  obtain ⟨b, hb⟩ : ∃ b, w.heap.size + 1 + 1 + 1 + 1 + 1 = b := ⟨_, rfl⟩
  obtain ⟨g4, hg4⟩ : ∃ b, w.heap.size + 1 + 1 + 1 + 1 = b := ⟨_, rfl⟩
  obtain ⟨g3, hg3⟩ : ∃ b, w.heap.size + 1 + 1 + 1 = b := ⟨_, rfl⟩
  obtain ⟨g2, hg2⟩ : ∃ b, w.heap.size + 1 + 1 = b := ⟨_, rfl⟩
  obtain ⟨g1, hg1⟩ : ∃ b, w.heap.size + 1 = b := ⟨_, rfl⟩
  have HO : g0_lt h g1 g2 g3 g4 b := by unfold g0_lt; omega
  rw [hb, hg4, hg3, hg2, hg1, hh] at hM ⊢
  rw [hh] at hBW
  have HE := Lib.hid hE
  have HH := Lib.hid hh
  clear hh hb hg4 hg3 hg2 hg1 hE
  obtain ⟨T, hT⟩ : ∃ T, s.data.toList = T := ⟨_, rfl⟩
  rw [hT]
  have hTl : T.length ≤ 60000 := by rw [← hT, ← Lib.size_eq]; exact hs
  have HS0 : Hid (s = bsT T) := by unfold Hid; rw [← hT]; exact (Lib.mk_data s).symm
  have HTT := Lib.hid hT
  clear hT
  have hbw : b + 2 < W0.heap.size := hM.b7.lt
  have hhw : h ≤ w.heap.size := Nat.le_of_eq HH.out.symm
  have hh8 : h ≤ b ∧ h ≤ W0.heap.size := by have := HO; unfold g0_lt at this; omega
  refine range_split (n := 8) b rfl rfl (by decide) T hTl (HS0.out ▸ hM.it) (by omega) (ScI h h g1 g2 g3 g4 b T w) (ScX h h g1 T w) (ScI.own _ hhw hh8.2) (fun k W x hk => ScI.set5 HO hh8.1 x hk) (ScX.own _ hhw hh8.2)
    ⟨_, _, hM, World.ownsRow_nil _ _ _ _, fun j hj => absurd hj (Nat.not_lt_zero _), hBW⟩
    (fun x => { tmps := #[.string s, undef, .pointer (some ⟨h, 0, none⟩), .pointer (some ⟨g1, 0, none⟩), .pointer (some ⟨g2, 0, none⟩), .pointer (some ⟨g3, 0, none⟩), .pointer (some ⟨g4, 0, none⟩), .string x, undef, undef, .string s, .func (.func 65) #[] #[.pointer (some ⟨b + 1, 0, none⟩), .pointer (some ⟨b, 0, none⟩), .pointer (some ⟨b + 2, 0, none⟩)], .string x, undef, undef, undef, undef, undef, undef, undef, undef, undef, undef, undef, undef, undef, undef, undef, undef, undef, undef, undef, undef, undef, undef, undef, undef, undef, undef, undef, undef], defers := [] }) ?assign ?body ?done ?stop
  case assign =>
    intro l x W K hK
    gi_wp2
    exact hK
  case body =>
    rintro l k W hk hI hT0
    obtain ⟨i0, hi, hz0, hz1, hz2⟩ := info_parts infoLn
    obtain ⟨v, u, hB, hr, he, hbl⟩ := hI
    have HU : Hid (u = .string (bsT (rst T k))) := by have e := hB.b5.cell; rw [hT0.1] at e; exact (Option.some.inj e).symm
    obtain ⟨x, hx⟩ : ∃ x, bsT (pce T k) = x := ⟨_, rfl⟩
    have hxs : x.size ≤ 60000 := by rw [← hx, bsT_size]; exact Nat.le_trans (pce_le T k) hTl
    have hxl : x.data.toList = pce T k := by rw [← hx]; exact bsT_list _
    have hk6 : k ≤ 60000 := Nat.le_trans hk (Nat.le_trans (nls_le T) hTl)
    rw [hx]
    obtain ⟨W5, hW5⟩ : ∃ W5, W.setCell ⟨g3, 0, none⟩ (.int .i64 ((k : Int) + 1)) = W5 := ⟨_, rfl⟩
    have c3 := hB.b3.cell
    have f3 := hB.b3.frozen
    have KF5 : KeepsFrom W0.heap.size W W5 := by rw [← hW5]; exact (KeepsOthers.setCell _ _ _).from _
    have hBk : ScB h g1 g2 g3 g4 b W5 v 0 ((k : Int) + 1) (lvS T k : Nat) u := by rw [← hW5]; exact hB.set3 HO _
    have hr5 : W5.ownsRow h 64 4 v (outS T k).length (lrow (outS T k)) := by rw [← hW5]; exact hr.kept (grownBy_setCell' W g3 _) (.inr (hB.b3.not_row (by decide) hr).symm)
    have hbl5 : Below h w W5 := by rw [← hW5]; exact hbl.setCell (p := ⟨g3, 0, none⟩) (by have := HO; unfold g0_lt at this; show h ≤ g3; omega) _
    have it5 : ItAt b (bsT (rst T k)) W5 := by
      rw [← hW5]
      have h3 : ∀ j, g3 ≠ b + j := fun j => by have := HO; unfold g0_lt at this; omega
      have o := fun j y => World.cell?_setCell_other W (⟨g3, 0, none⟩ : Addr) ⟨b + j, 0, none⟩ y (fun e => by injection e with e; exact h3 j e)
      exact ⟨(o 0 _).trans hT0.1, (o 1 _).trans hT0.2.1, (o 2 _).trans hT0.2.2.1, by rw [World.frozen?_setCell]; exact hT0.2.2.2⟩
    by_cases hp : pce T k = []
    · have e1 : x.toList = [] := by rw [Lib.toList_data, hxl]; exact hp
      have e2 : scE T k = 0 := by unfold scE; rw [if_pos hp]
      have PP : Hid (spPost W0.heap.size b T (ScI h h g1 g2 g3 g4 b T w) (ScX h h g1 T w) k W .normal { tmps := #[], defers := [] } W5) := by
        refine ⟨KF5, ⟨v, u, ?_, ?_, ?_, hbl5⟩, it5⟩
        · show ScB _ _ _ _ _ _ W5 v 0 ((k + 1 : Nat) : Int) ((if pce T k = [] then lvS T k else _ : Nat) : Int) u
          rw [if_pos hp]; exact hBk
        · show W5.ownsRow _ _ _ _ (if pce T k = [] then outS T k else _).length (lrow (if pce T k = [] then outS T k else _))
          rw [if_pos hp]; exact hr5
        · intro j hj
          by_cases e : j = k
          · subst e; exact e2
          · exact he j (by omega)
      clear hB hr he hbl hT0 hx hxl hBk hr5 hbl5 it5 KF5 hp
      gi_wp2
      exact PP.out
    · have e1 : (x.toList == []) = false := by rw [beq_eq_false_iff_ne, Lib.toList_data, hxl]; exact hp
      have e1' : (x.toList).isEmpty = false := by rw [Lib.toList_data, hxl]; cases e : pce T k with | nil => exact absurd e hp | cons _ _ => rfl
      have HL := Lib.hid (lineOf_c x W5 (HE.out.below (by rw [HH.out]; exact hbl5)) hxs)
      obtain ⟨m, hm⟩ : ∃ m, lvN (pce T k) = m := ⟨_, rfl⟩
      obtain ⟨t, ht⟩ : ∃ t, tiN (pce T k) = t := ⟨_, rfl⟩
      have hm6 : m ≤ 60000 := by rw [← hm]; unfold lvN blk; have := pce_le T k; omega
      unfold LineP at HL
      rw [hxl, hm, ht] at HL
      have HB5 := Lib.hid hBk
      have HR5 := Lib.hid hr5
      have HBL5 := Lib.hid hbl5
      have HI5 := Lib.hid it5
      have HK5 := Lib.hid KF5
      have HP := Lib.hid hp
      have HJ := Lib.hid he
      have HM := Lib.hid hm
      have HTI := Lib.hid ht
      have LV : Hid (lvS T k ≤ 60001) := Nat.le_trans (lvS_le T k) (by omega)
      clear hB hr he hbl hT0 hx hxl hBk hr5 hbl5 it5 KF5 hp hm ht
      cases hb : lnB (pce T k) with
      | false =>
        rw [hb] at HL
        have e2 : Hid (scE T k = ((k + 1 : Nat) : Int)) := by unfold Hid scE; rw [if_neg HP.out, if_pos (.inl hb)]; rfl
        clear hb
        gi_wp2
        refine ⟨trivial, ?_⟩
        refine (CallsIn.inRound l (callsIn_wide.2 HL.out)).mono ?_
        rintro e W6 ⟨n, rfl, hn, hb6⟩
        have HB6 := Lib.hid hb6
        obtain ⟨W7, hW7⟩ : ∃ W7, W6.alloc (.cells #[.int .i64 0, .int .i64 m, .int .i64 n, .string t] 64) = W7 := ⟨_, rfl⟩
        have BL7 : Below W5.heap.size W5 W7 := by rw [← hW7]; exact hb6.trans ((bel_one _ _).mono hb6.size)
        have LX : Hid (W7 = W6.alloc (.cells #[.int .i64 0, .int .i64 m, .int .i64 n, .string t] 64)) := hW7.symm
        have HN := Lib.hid hn
        have HB7 := Lib.hid (HB5.out.below BL7)
        have HK7 : Hid (KeepsFrom W0.heap.size W W7) := HK5.out.trans (keepsB BL7)
        have HBL7 : Hid (Below h w W7) := HBL5.out.trans (BL7.mono (Nat.le_trans hhw HBL5.out.size))
        have HR7 : Hid (W7.ownsRow h 64 4 v (outS T k).length (lrow (outS T k))) := own_keep HR5.out BL7
        have c7 := HB7.out.b3.cell
        have d7 := HB7.out.b0.cell
        have d7' := HB7.out.b0.frozen
        have e7 := HB7.out.b1.cell
        have e7' := HB7.out.b1.frozen
        have l7 := HB7.out.b4.cell
        have hO := HO
        unfold g0_lt at hO
        have n1 : ¬ h = g3 := by omega
        have n2 : ¬ h = g1 := by omega
        have n3 : ¬ g1 = g3 := by omega
        have n4 : ¬ g3 = h := by omega
        have hmx : Tryz.prog.follows .mixedOrders = true := by kernel_rfl
        clear hO hn hb6 BL7
        have PX := Lib.hid (fun a => bad_end (B := W0.heap.size) (b := b) (W := W) (I := ScI h h g1 g2 g3 g4 b T w) HO a HB7.out HK7.out HBL7.out HJ.out e2.out)
        obtain ⟨W9, hW9⟩ : ∃ W9, ((W7.setCell ⟨h, 0, none⟩ (.slice none 0 0)).setCell ⟨g1, 0, none⟩ (.int .i64 ((k : Int) + 1))).drew = W9 := ⟨_, rfl⟩
        rw [hW9] at PX
        gi_wp2
        gi_region_with_o (fail)
        all_goals clear hW9 c7 d7 d7' e7 e7' l7 hW7
        all_goals gi_wp2
        all_goals exact PX.out _
      | true =>
        rw [hb] at HL
        by_cases hlv : lvS T k + 1 < m
        · have e2 : Hid (scE T k = ((k + 1 : Nat) : Int)) := by unfold Hid scE; rw [if_neg HP.out, if_pos (.inr (by rw [HM.out]; exact hlv))]; rfl
          have hlv' : (lvS T k : Int) + 1 < (m : Int) := by omega
          have LVO := LV.out
          clear hb hlv
          gi_wp2
          refine ⟨trivial, ?_⟩
          refine (CallsIn.inRound l (callsIn_wide.2 HL.out)).mono ?_
          rintro e W6 ⟨n, rfl, hn, hb6⟩
          have HB6 := Lib.hid hb6
          obtain ⟨W7, hW7⟩ : ∃ W7, W6.alloc (.cells #[.int .i64 0, .int .i64 m, .int .i64 n, .string t] 64) = W7 := ⟨_, rfl⟩
          have BL7 : Below W5.heap.size W5 W7 := by rw [← hW7]; exact hb6.trans ((bel_one _ _).mono hb6.size)
          have LX : Hid (W7 = W6.alloc (.cells #[.int .i64 0, .int .i64 m, .int .i64 n, .string t] 64)) := hW7.symm
          have HN := Lib.hid hn
          have HB7 := Lib.hid (HB5.out.below BL7)
          have HK7 : Hid (KeepsFrom W0.heap.size W W7) := HK5.out.trans (keepsB BL7)
          have HBL7 : Hid (Below h w W7) := HBL5.out.trans (BL7.mono (Nat.le_trans hhw HBL5.out.size))
          have HR7 : Hid (W7.ownsRow h 64 4 v (outS T k).length (lrow (outS T k))) := own_keep HR5.out BL7
          have c7 := HB7.out.b3.cell
          have d7 := HB7.out.b0.cell
          have d7' := HB7.out.b0.frozen
          have e7 := HB7.out.b1.cell
          have e7' := HB7.out.b1.frozen
          have l7 := HB7.out.b4.cell
          have hO := HO
          unfold g0_lt at hO
          have n1 : ¬ h = g3 := by omega
          have n2 : ¬ h = g1 := by omega
          have n3 : ¬ g1 = g3 := by omega
          have n4 : ¬ g3 = h := by omega
          have hmx : Tryz.prog.follows .mixedOrders = true := by kernel_rfl
          clear hO hn hb6 BL7
          have q7 : W7.cell? ⟨W6.heap.size, 1, none⟩ = some (.int .i64 m) := by rw [← hW7, World.cell?_alloc_new]; rfl
          have PX := Lib.hid (fun a => bad_end (B := W0.heap.size) (b := b) (W := W) (I := ScI h h g1 g2 g3 g4 b T w) HO a HB7.out HK7.out HBL7.out HJ.out e2.out)
          obtain ⟨W9, hW9⟩ : ∃ W9, ((W7.setCell ⟨h, 0, none⟩ (.slice none 0 0)).setCell ⟨g1, 0, none⟩ (.int .i64 ((k : Int) + 1))).drew = W9 := ⟨_, rfl⟩
          rw [hW9] at PX
          gi_wp2
          gi_region_with_o (fail)
          all_goals clear hW9 c7 d7 d7' e7 e7' l7 hW7 q7
          all_goals gi_wp2
          all_goals exact PX.out _
        · have e2 : Hid (scE T k = 0) := by unfold Hid scE; rw [if_neg HP.out, if_neg (by rw [hb, HM.out]; simpa using Nat.le_of_not_lt hlv)]
          have hlv' : ¬ (lvS T k : Int) + 1 < (m : Int) := by omega
          have LVO := LV.out
          clear hb hlv
          gi_wp2
          refine ⟨trivial, ?_⟩
          refine (CallsIn.inRound l (callsIn_wide.2 HL.out)).mono ?_
          rintro e W6 ⟨n, rfl, hn, hb6⟩
          have HB6 := Lib.hid hb6
          obtain ⟨W7, hW7⟩ : ∃ W7, W6.alloc (.cells #[.int .i64 0, .int .i64 m, .int .i64 n, .string t] 64) = W7 := ⟨_, rfl⟩
          have BL7 : Below W5.heap.size W5 W7 := by rw [← hW7]; exact hb6.trans ((bel_one _ _).mono hb6.size)
          have LX : Hid (W7 = W6.alloc (.cells #[.int .i64 0, .int .i64 m, .int .i64 n, .string t] 64)) := hW7.symm
          have HN := Lib.hid hn
          have HB7 := Lib.hid (HB5.out.below BL7)
          have HK7 : Hid (KeepsFrom W0.heap.size W W7) := HK5.out.trans (keepsB BL7)
          have HBL7 : Hid (Below h w W7) := HBL5.out.trans (BL7.mono (Nat.le_trans hhw HBL5.out.size))
          have HR7 : Hid (W7.ownsRow h 64 4 v (outS T k).length (lrow (outS T k))) := own_keep HR5.out BL7
          have c7 := HB7.out.b3.cell
          have d7 := HB7.out.b0.cell
          have d7' := HB7.out.b0.frozen
          have e7 := HB7.out.b1.cell
          have e7' := HB7.out.b1.frozen
          have l7 := HB7.out.b4.cell
          have hO := HO
          unfold g0_lt at hO
          have n1 : ¬ h = g3 := by omega
          have n2 : ¬ h = g1 := by omega
          have n3 : ¬ g1 = g3 := by omega
          have n4 : ¬ g3 = h := by omega
          have hmx : Tryz.prog.follows .mixedOrders = true := by kernel_rfl
          clear hO hn hb6 BL7
          have hq : b + 2 < W6.heap.size := Nat.lt_of_lt_of_le HB5.out.b7.lt HB6.out.size
          have hqh : h ≤ W6.heap.size := by have := HO; unfold g0_lt at this; omega
          obtain ⟨q, hqe⟩ : ∃ q, W6.heap.size = q := ⟨_, rfl⟩
          have QB : Bx4 W7 q (.int .i64 0) (.int .i64 m) (.int .i64 n) (.string t) := by rw [← hW7, ← hqe]; exact Bx4.made _ _ _ _ _ _
          rw [hqe] at hq hqh
          obtain ⟨V1, hV1⟩ : ∃ V, W7.setCell ⟨q, 0, none⟩ (.int .i64 ((k : Int) + 1)) = V := ⟨_, rfl⟩
          have S1 : ScB h g1 g2 g3 g4 b V1 v 0 ((k : Int) + 1) (lvS T k : Nat) u := by rw [← hV1]; exact HB7.out.set_ HO hq 0 _
          have Q1 : Bx4 V1 q (.int .i64 ((k : Int) + 1)) (.int .i64 m) (.int .i64 n) (.string t) := by
            rw [← hV1]
            refine ⟨World.cell?_setCell_same _ _ _ QB.c0, ?_, ?_, ?_, fun o => by rw [World.frozen?_setCell]; exact QB.fr o, by simpa using QB.lt⟩
            · rw [World.cell?_setCell_other _ _ _ _ (adr_ne (by decide))]; exact QB.c1
            · rw [World.cell?_setCell_other _ _ _ _ (adr_ne (by decide))]; exact QB.c2
            · rw [World.cell?_setCell_other _ _ _ _ (adr_ne (by decide))]; exact QB.c3
          obtain ⟨V2, hV2⟩ : ∃ V, V1.setCell ⟨g4, 0, none⟩ (.int .i64 m) = V := ⟨_, rfl⟩
          have S2 : ScB h g1 g2 g3 g4 b V2 v 0 ((k : Int) + 1) (m : Nat) u := by rw [← hV2]; exact S1.set4 HO _
          have hgq : g4 ≠ q := by have := HO; unfold g0_lt at this; omega
          have Q2 : Bx4 V2 q (.int .i64 ((k : Int) + 1)) (.int .i64 m) (.int .i64 n) (.string t) := by
            rw [← hV2]
            have o := fun j => World.cell?_setCell_other V1 (⟨g4, 0, none⟩ : Addr) ⟨q, j, none⟩ (.int .i64 m) (adr_ne' hgq)
            exact ⟨(o 0).trans Q1.c0, (o 1).trans Q1.c1, (o 2).trans Q1.c2, (o 3).trans Q1.c3, fun o => by rw [World.frozen?_setCell]; exact Q1.fr o, by simpa using Q1.lt⟩
          have BL2 : Hid (Below h w V2) := by
            unfold Hid
            rw [← hV2, ← hV1]
            exact (HBL7.out.setCell (p := ⟨q, 0, none⟩) hqh _).setCell (p := ⟨g4, 0, none⟩) (by have := HO; unfold g0_lt at this; show h ≤ g4; omega) _
          have K2 : Hid (KeepsFrom W0.heap.size W V2) := by
            unfold Hid
            rw [← hV2, ← hV1]
            exact (HK7.out.trans ((KeepsOthers.setCell _ _ _).from _)).trans ((KeepsOthers.setCell _ _ _).from _)
          have R2 : Hid (V2.ownsRow h 64 4 v (outS T k).length (lrow (outS T k))) := by
            have nr : some q ≠ v.ownBlock := fun e => by
              have := HR5.out.lt q e.symm
              have := HB6.out.size
              omega
            unfold Hid
            rw [← hV2, ← hV1]
            refine World.ownsRow.kept (World.ownsRow.kept HR7.out (grownBy_setCell' W7 q _) (.inr nr.symm)) (grownBy_setCell' _ g4 _) (.inr ?_)
            have : Boxed (W7.setCell ⟨q, 0, none⟩ (.int .i64 ((k : Int) + 1))) g4 3 (.int .i64 (lvS T k : Nat)) := by rw [hV1]; exact S1.b4
            exact (this.not_row (by decide) (World.ownsRow.kept HR7.out (grownBy_setCell' W7 q _) (.inr nr.symm))).symm
          have q7 := QB.c1
          have q8 := QB.c0
          have q9 := QB.fr
          have l8 := HB7.out.b4.frozen
          have l9 := S1.b4.cell
          have l9' := S1.b4.frozen
          have v2 := S2.b2.cell
          have v2' := S2.b2.frozen
          have x0 := Q2.c0
          have x1 := Q2.c1
          have x2 := Q2.c2
          have x3 := Q2.c3
          have S2H := Lib.hid S2
          clear S1 Q1 QB S2 Q2
          have hlen : (outS T k).length ≤ k := outS_len T k
          have hhV : h ≤ V2.heap.size := Nat.le_trans hhw BL2.out.size
          gi_wp2_with (gi_at_builtin; refine wpListIn_append_own _ rfl _ _ 33 rfl h 64 i0 (.agg #[.int .i64 0, .int .i64 0, .int .i64 0, .string ByteArray.empty]) 4 40 Tryz.underlying33 hi hz0 hz1 hz2 rfl (by decide) v (outS T k).length _ rfl (R2.out.alloc _) ⟨V2.heap.size, 0, none⟩ 1 1 [.int .i64 ((k : Int) + 1), .int .i64 m, .int .i64 n, .string t] rfl rfl (cell_four_new _ _ _ _ _ _) (by simp [Value.oneCell']) ?c3 ?c4 ?c5 ?_)
          case c3 => unfold maxLen; omega
          case c4 => omega
          case c5 => simp; omega
          intro v' w4 hown' hgrow _
          obtain ⟨g', cap', rfl⟩ := ownsRow_succ hown'
          have S4 := (S2H.out.alloc (.cells #[.int .i64 ((k : Int) + 1), .int .i64 m, .int .i64 n, .string t] 64)).grown hgrow (fun B t x hx hne => hx.not_row hne (R2.out.alloc _))
          have y2 := S4.b2.cell
          have y2' := S4.b2.frozen
          obtain ⟨V3, hV3⟩ : ∃ V, w4.setCell ⟨g2, 0, none⟩ (.slice (some ⟨g', 0, none⟩) ((outS T k).length + 1) cap') = V := ⟨_, rfl⟩
          have PP : Hid (∀ a, spPost W0.heap.size b T (ScI h h g1 g2 g3 g4 b T w) (ScX h h g1 T w) k W .normal a V3) := by
            have S5 : ScB h g1 g2 g3 g4 b V3 (.slice (some ⟨g', 0, none⟩) ((outS T k).length + 1) cap') 0 ((k : Int) + 1) (m : Nat) u := by rw [← hV3]; exact S4.set2 HO _
            have R5 : V3.ownsRow h 64 4 (.slice (some ⟨g', 0, none⟩) ((outS T k).length + 1) cap') ((outS T k).length + 1) (lrow (outS T k) ++ [.int .i64 ((k : Int) + 1), .int .i64 m, .int .i64 n, .string t]) := by
              rw [← hV3]; exact World.ownsRow.kept hown' (grownBy_setCell' w4 g2 _) (.inr (S4.b2.not_row (by decide) hown').symm)
            have K5 : KeepsFrom W0.heap.size W V3 := by
              rw [← hV3]
              refine ((K2.out.trans ((KeepsOthers.alloc _ _).from _)).trans ((KeepsOthers.of_grownBy hgrow fun j o ej hj => ?_).from _)).trans ((KeepsOthers.setCell _ _ _).from _)
              rcases (R2.out.alloc (.cells #[.int .i64 ((k : Int) + 1), .int .i64 m, .int .i64 n, .string t] 64)).2 with ⟨e, _⟩ | ⟨g, cap, cur, e, _, hgb, _⟩
              · rw [e] at ej; simp [Value.ownBlock] at ej
              · rw [e] at ej
                obtain rfl : g = j := by simpa [Value.ownBlock] using ej
                rw [hgb] at hj; cases hj; rfl
            have BL5 : Below h w V3 := by
              rw [← hV3]
              exact (((BL2.out.alloc hhV _).grown hgrow (by simp; omega) (fun g hg => (R2.out.lt g hg).1)).setCell (p := ⟨g2, 0, none⟩) (by have := HO; unfold g0_lt at this; show h ≤ g2; omega) _)
            have eL : lnOf T k = ⟨k + 1, m, n, t⟩ := by unfold lnOf; rw [HM.out, HTI.out, HN.out trivial]
            have eO : outS T (k + 1) = outS T k ++ [⟨k + 1, m, n, t⟩] := by show (if _ then _ else _) = _; rw [if_neg HP.out, eL]
            have eV : lvS T (k + 1) = m := by show (if _ then _ else _) = _; rw [if_neg HP.out, HM.out]
            intro a
            refine ⟨K5, ⟨.slice (some ⟨g', 0, none⟩) ((outS T k).length + 1) cap', u, ?_, ?_, ?_, BL5⟩, ?_⟩
            · rw [eV]; exact S5
            · rw [eO, List.length_append, lrow_snoc]; exact R5
            · intro j hj
              by_cases e : j = k
              · subst e; exact e2.out
              · exact HJ.out j (by omega)
            · rw [HU.out] at S5; exact S5.it
          clear hown' hgrow S4 v2 v2' x0 x1 x2 x3 q7 q8 q9 l8 l9 l9' l7 hW7 hV1 hV2 c7 d7 d7' e7 e7'
          gi_wp2
          exact PP.out _
  case done =>
    intro W hI hK
    obtain ⟨v, u, hB, hr, he, hbl⟩ := hI
    obtain ⟨a, c, rfl⟩ := own_slice hr
    have HZ : Hid (fe (scE T) (nls T + 1) = 0) := fe_all he
    obtain ⟨V1, hV1⟩ : ∃ V, W.setCell ⟨h, 0, none⟩ (.slice a (outS T (nls T + 1)).length c) = V := ⟨_, rfl⟩
    obtain ⟨V2, hV2⟩ : ∃ V, V1.setCell ⟨g1, 0, none⟩ (.int .i64 0) = V := ⟨_, rfl⟩
    have S0 : Boxed V1 h 33 (.slice a (outS T (nls T + 1)).length c) := by rw [← hV1]; exact hB.b0.set _
    have hO := HO
    unfold g0_lt at hO
    have S1 : Boxed V1 g1 3 (.int .i64 0) := by rw [← hV1]; exact boxOth hB.b1 (by omega) _
    have S2 : Boxed V2 g1 3 (.int .i64 0) := by rw [← hV2]; exact S1.set _
    have S3 : Boxed V2 h 33 (.slice a (outS T (nls T + 1)).length c) := by rw [← hV2]; exact boxOth S0 (by omega) _
    have R1 : V2.ownsRow h 64 4 (.slice a (outS T (nls T + 1)).length c) (outS T (nls T + 1)).length (lrow (outS T (nls T + 1))) := by
      rw [← hV2, ← hV1]
      have r1 := World.ownsRow.kept hr (grownBy_setCell' W h (.slice a (outS T (nls T + 1)).length c)) (.inr (hB.b0.not_row (by decide) hr).symm)
      exact World.ownsRow.kept r1 (grownBy_setCell' _ g1 _) (.inr ((boxOth hB.b1 (by omega) _).not_row (by decide) r1).symm)
    have K2 : V2.heap[W0.heap.size]? = some (.deferred (some [])) := by
      rw [← hV2, ← hV1]
      exact (Below.heap_setCell _ _ _ _ (by show W0.heap.size ≠ g1; omega)).trans ((Below.heap_setCell _ _ _ _ (by show W0.heap.size ≠ h; omega)).trans hK)
    have BL : Below h w V2 := by
      rw [← hV2, ← hV1]
      exact (hbl.setCell (p := ⟨h, 0, none⟩) (Nat.le_refl _) _).setCell (p := ⟨g1, 0, none⟩) (by show h ≤ g1; omega) _
    have r0 := cell_kept S3.cell (grownBy_putObj' V2 W0.heap.size (.deferred none)) (fun r e => by cases e; exact ⟨_, K2, rfl⟩)
    have r1 := cell_kept S2.cell (grownBy_putObj' V2 W0.heap.size (.deferred none)) (fun r e => by cases e; exact ⟨_, K2, rfl⟩)
    have RR : Hid (ScP T w (.returned (.tuple #[.slice a (outS T (nls T + 1)).length c, .int .i64 0])) (V2.putObj W0.heap.size (.deferred none))) := by
      refine ⟨?_, .inr ⟨HZ.out, _, rfl, ?_⟩⟩
      · rw [HH.out]; exact BL.grown (grownBy_putObj' _ _ _) (Nat.le_trans hhw BL.size) (fun k e => by cases e; exact hh8.2)
      · rw [HH.out]; exact ownsRow_putObj R1 _ K2 rfl
    have c2 := hB.b2.cell
    have d0 := hB.b0.cell
    have d0' := hB.b0.frozen
    have d1 := S1.cell
    have d1' := S1.frozen
    have HK2 := Lib.hid K2
    clear hB hr he hbl S0 S1 S2 S3 R1 BL hK hO K2
    gi_wp2
    refine ⟨by simp, .inl ⟨_, _, rfl, run_takeDeferred HK2.out, ?_⟩⟩
    exact ⟨.tuple #[.slice a (outS T (nls T + 1)).length c, .int .i64 0], by simp [results, Tryz.results9, go_sem, r0, r1], by rw [HTT.out]; exact RR.out⟩
  case stop =>
    intro k W hk hX hK
    obtain ⟨h0, h1, he, hx, hbl⟩ := hX
    have EF : Hid (fe (scE T) (nls T + 1) = ((k + 1 : Nat) : Int)) := by
      unfold Hid
      rw [fe_at (k := k) (by omega) (fe_all he) (by rw [hx]; omega), hx]
    have r0 := cell_kept h0.cell (grownBy_putObj' W W0.heap.size (.deferred none)) (fun r e => by cases e; exact ⟨_, hK, rfl⟩)
    have r1 := cell_kept h1.cell (grownBy_putObj' W W0.heap.size (.deferred none)) (fun r e => by cases e; exact ⟨_, hK, rfl⟩)
    obtain ⟨z, hz⟩ : ∃ z : Int, ((k + 1 : Nat) : Int) = z := ⟨_, rfl⟩
    have HZ : Hid (z ≠ 0) := by unfold Hid; omega
    rw [hz] at r1 EF
    have RR : Hid (ScP T w (.returned (.tuple #[.slice none 0 0, .int .i64 z])) (W.putObj W0.heap.size (.deferred none))) := by
      refine ⟨?_, .inl ⟨by rw [EF.out]; exact HZ.out, by rw [EF.out]⟩⟩
      rw [HH.out]; exact hbl.grown (grownBy_putObj' _ _ _) (Nat.le_trans hhw hbl.size) (fun k e => by cases e; exact hh8.2)
    have HK2 := Lib.hid hK
    clear h0 h1 he hx hbl hK hz
    gi_wp2
    refine ⟨by simp, .inl ⟨_, _, rfl, run_takeDeferred HK2.out, ?_⟩⟩
    exact ⟨_, by simp [results, Tryz.results9, go_sem, r0, r1], RR.out⟩
end Go.Proofs.YtheekfijbbgbkaaGreatDoor
namespace Go.Proofs.YtheekfijbbgbkaaGreatDoor
open Go.RowKit Go.WideMaps Go.Maps

/-- A slice that reads as a list of lines. -/
def LnAt (w : World) (b o : Nat) (u : Ln) : Prop :=
  w.cell? ⟨b, o, none⟩ = some (.int .i64 (u.nu : Nat)) ∧ w.cell? ⟨b, o + 1, none⟩ = some (.int .i64 (u.lv : Nat)) ∧ w.cell? ⟨b, o + 2, none⟩ = some (.int .i64 u.cd) ∧ w.cell? ⟨b, o + 3, none⟩ = some (.string u.ti)
def RdL (w : World) (a : Option Addr) (L : List Ln) : Prop :=
  L.length ≤ 60001 ∧ (0 < L.length → ∃ b, a = some ⟨b, 0, none⟩ ∧ b < w.heap.size ∧ ∀ j, j < L.length → LnAt w b (j * 4) (lne L j))
theorem RdL.below {w w' : World} {a : Option Addr} {L : List Ln} (h : RdL w a L) (hb : Below w.heap.size w w') : RdL w' a L :=
  ⟨h.1, fun h0 => by
    obtain ⟨b, e, hl, hc⟩ := h.2 h0
    refine ⟨b, e, Nat.lt_of_lt_of_le hl hb.size, fun j hj => ?_⟩
    obtain ⟨h0, h1, h2, h3⟩ := hc j hj
    have c := fun o => hb.cell (p := ⟨b, o, none⟩) hl
    exact ⟨(c _).trans h0, (c _).trans h1, (c _).trans h2, (c _).trans h3⟩⟩
theorem RdL.at_ {w : World} {a : Option Addr} {L : List Ln} (h : RdL w a L) {k : Nat} (hk : k < L.length) : ∃ b, a = some ⟨b, 0, none⟩ ∧ LnAt w b (k * 4) (lne L k) := by
  obtain ⟨b, e, _, hc⟩ := h.2 (by omega)
  exact ⟨b, e, hc k hk⟩
theorem lrow_at : ∀ (L : List Ln) (j : Nat), j < L.length → ∀ i, i < 4 → (lrow L)[j * 4 + i]? = (lcells (lne L j))[i]?
  | u :: L, 0, _, i, hi => by
    show ((lcells u ++ lrow L))[0 * 4 + i]? = _
    rw [Nat.zero_mul, Nat.zero_add, List.getElem?_append_left (by show i < 4; exact hi)]; rfl
  | u :: L, j + 1, hj, i, hi => by
    show ((lcells u ++ lrow L))[(j + 1) * 4 + i]? = _
    have := lrow_at L j (by simpa using hj) i hi
    rw [List.getElem?_append_right (by show 4 ≤ _; omega), show (j + 1) * 4 + i - (lcells u).length = j * 4 + i by show _ - 4 = _; omega, this]
    unfold lne; simp
theorem rdL_own {w : World} {B : Nat} {v : Value} {L : List Ln} (h : w.ownsRow B 64 4 v L.length (lrow L)) (hn : L.length ≤ 60001) : ∃ a c, v = .slice a L.length c ∧ RdL w a L := by
  obtain ⟨a, c, rfl⟩ := own_slice h
  refine ⟨a, c, rfl, hn, fun h0 => ?_⟩
  rcases h.2 with ⟨_, e2⟩ | ⟨g, cap, cur, e1, _⟩
  · omega
  · injection e1 with e1
    subst e1
    refine ⟨g, rfl, (h.lt g rfl).2, fun j hj => ?_⟩
    have hc := h.cells (g := g) rfl
    have at4 : ∀ i, i < 4 → w.cell? ⟨g, j * 4 + i, none⟩ = (lcells (lne L j))[i]? := fun i hi => by
      have e := lrow_at L j hj i hi
      have hlt : i < (lcells (lne L j)).length := hi
      rw [List.getElem?_eq_getElem hlt] at e
      have := hc _ _ e
      rw [add_at, Nat.zero_add] at this
      rw [this, List.getElem?_eq_getElem hlt]
    exact ⟨at4 0 (by omega), at4 1 (by omega), at4 2 (by omega), at4 3 (by omega)⟩
/-- A line in a box of its own. -/
def LineB (wr W1 : World) (u : Ln) : Prop := Below wr.heap.size wr W1 ∧ Bx4 W1 wr.heap.size (.int .i64 (u.nu : Nat)) (.int .i64 (u.lv : Nat)) (.int .i64 u.cd) (.string u.ti)
theorem line_b (wr : World) (u : Ln) : LineB wr (wr.alloc (.cells #[.int .i64 (u.nu : Nat), .int .i64 (u.lv : Nat), .int .i64 u.cd, .string u.ti] 64)) u := ⟨bel_one _ _, Bx4.made _ _ _ _ _ _⟩

/-- Block b is a map that knows the codes of the first k lines. -/
def LhIs (w : World) (b : Nat) (L : List Ln) (k : Nat) : Prop := MapIs w b k fun s => if has L s k then some (.bool true) else none
theorem LhIs.has {w : World} {b k : Nat} {L : List Ln} (h : LhIs w b L k) {s : Int} (hs : -9223372036854775808 ≤ s ∧ s ≤ 9223372036854775807) :
    (Instr.lookup 67 (.map (some b)) (.int .i64 s) false).run Tryz.prog w = .ok (.bool (Go.Proofs.YtheekfijbbgbkaaGreatDoor.has L s k)) w := by
  rw [MapIs.look1 h Tryz.underlying67 (zeroBool w) hs]
  cases Go.Proofs.YtheekfijbbgbkaaGreatDoor.has L s k <;> rfl
theorem LhIs.store {w : World} {b k : Nat} {L : List Ln} (h : LhIs w b L k) (hk : k < maxLen) (hs : -9223372036854775808 ≤ (lne L k).cd ∧ (lne L k).cd ≤ 9223372036854775807) :
    ∃ w', (Instr.mapUpdate 67 (.map (some b)) (.int .i64 (lne L k).cd) (.bool true)).run Tryz.prog w = .ok () w' ∧ LhIs w' b L (k + 1) ∧ w.grownBy w' (some b) := by
  obtain ⟨w', h1, h2, h3⟩ := MapIs.store h Tryz.underlying67 hk hs (.bool true)
  refine ⟨w', h1, h2.congr fun s => ?_, h3⟩
  show _ = if (Go.Proofs.YtheekfijbbgbkaaGreatDoor.has L s k || decide ((lne L k).cd = s)) = true then _ else _
  by_cases e : s = (lne L k).cd
  · subst e; simp
  · rw [if_neg e]
    have : decide ((lne L k).cd = s) = false := by simpa using fun h => e h.symm
    rw [this, Bool.or_false]
set_option maxRecDepth 100000 in
set_option maxHeartbeats 2000000 in
theorem repeated_c (a : Option Addr) (c : Nat) (L : List Ln) (lv : Nat) (w : World) (hL : RdL w a L) (hG : Gd L lv) :
    Calls Tryz.prog 10 #[.slice a L.length c] w (IntP (fe (rpE L) L.length) w) := by
  have h9 := hL.1
  have hmm := @run_makeMap Tryz.prog
  obtain ⟨W0, hW0⟩ : ∃ W, w.alloc (.map #[] 0) = W := ⟨_, rfl⟩
  have S0 : Hid (LhIs W0 w.heap.size L 0 ∧ Below w.heap.size w W0 ∧ w.heap.size < W0.heap.size ∧ fe (rpE L) 0 = 0) := by
    unfold Hid
    rw [← hW0]
    exact ⟨(MapIs.made w).congr fun s => rfl, bel_one _ _, by simp, rfl⟩
  have HL := Lib.hid hL
  have HG := Lib.hid hG
  clear hL hG
  go_enter Tryz.func10, Tryz.ntmps10
  go_wp2
  obtain ⟨m, hm⟩ : ∃ m, w.heap.size = m := ⟨_, rfl⟩
  rw [hm] at S0 ⊢
  have HM := Lib.hid hm
  clear hm hW0
  go_loopw [9] (fun i wr => ∃ k : Nat, k ≤ L.length ∧ i = .int .i64 k ∧ Hid (LhIs wr m L k ∧ Below m w wr ∧ m < wr.heap.size ∧ fe (rpE L) k = 0)) (fun i _ => L.length - (intOf i).toNat)
  case atStart => exact ⟨0, Nat.zero_le _, rfl, S0.out⟩
  case round =>
    clear S0
    obtain ⟨k, hk, rfl, hS⟩ := hrel
    have BW : Hid (Below w.heap.size w wr) := by unfold Hid; rw [HM.out]; exact hS.out.2.1
    by_cases hlt : k < L.length
    · obtain ⟨b', rfl, u0, u1, u2, u3⟩ := (HL.out.below BW.out).at_ hlt
      have hlt' : (k : Int) < (L.length : Int) := by omega
      obtain ⟨u, hu⟩ : ∃ u, lne L k = u := ⟨_, rfl⟩
      have HC := Lib.hid (HG.out.cd k hlt)
      have HN := Lib.hid (HG.out.nu k hlt)
      rw [hu] at u0 u1 u2 u3 HC HN
      obtain ⟨W1, hW1⟩ : ∃ W, wr.alloc (.cells #[.int .i64 (u.nu : Nat), .int .i64 (u.lv : Nat), .int .i64 u.cd, .string u.ti] 64) = W := ⟨_, rfl⟩
      have B1 : Hid (LineB wr W1 u) := by unfold Hid; rw [← hW1]; exact line_b _ _
      have M1 : Hid (LhIs W1 m L k) := MapIs.below hS.out.1 B1.out.1 hS.out.2.2.1
      have v0 := B1.out.2.c0
      have v2 := B1.out.2.c2
      have hrun := M1.out.has (s := u.cd) (by have := HC.out; omega)
      cases hb : has L u.cd k with
      | true =>
        rw [hb] at hrun
        have R : Hid (fe (rpE L) L.length = (u.nu : Nat)) := by
          have e : rpE L k = (u.nu : Nat) := by unfold rpE; rw [hu, hb]; rfl
          unfold Hid
          rw [fe_at hlt hS.out.2.2.2 (by rw [e]; have := HN.out; omega), e]
        have BB : Hid (Below w.heap.size w W1) := BW.out.trans (B1.out.1.mono BW.out.size)
        clear hb hu
        go_wp2
        go_ret
        exact ⟨by rw [R.out]; rfl, BB.out⟩
      | false =>
        rw [hb] at hrun
        have E : Hid (fe (rpE L) (k + 1) = 0) := by
          unfold Hid
          rw [fe_next hS.out.2.2.2]; unfold rpE; rw [hu, hb]; rfl
        obtain ⟨W2, hup, hm2, hg2⟩ := M1.out.store (by unfold maxLen; omega) (by rw [hu]; have := HC.out; omega)
        rw [hu] at hup
        have NX : Hid (LhIs W2 m L (k + 1) ∧ Below m w W2 ∧ m < W2.heap.size ∧ fe (rpE L) (k + 1) = 0) := by
          have bl : Below m w W1 := by rw [← HM.out]; exact BW.out.trans (B1.out.1.mono BW.out.size)
          refine ⟨hm2, bl.grown hg2 ?_ (fun j hj => by cases hj; exact Nat.le_refl _), ?_, E.out⟩
          · rw [← HM.out]; exact (BW.out.trans (B1.out.1.mono BW.out.size)).size
          · exact Nat.lt_of_lt_of_le (Nat.lt_of_lt_of_le hS.out.2.2.1 B1.out.1.size) hg2.size
        clear hb hu hm2 hg2
        go_wp2
        go_roundw
        case rel => exact ⟨k + 1, by omega, by go_num, NX.out⟩
        case measure => simp [intOf]; omega
    · obtain rfl : k = L.length := by omega
      have R : Hid (fe (rpE L) L.length = 0) := hS.out.2.2.2
      go_wp2
      go_ret
      exact ⟨by rw [R.out]; rfl, BW.out⟩
end Go.Proofs.YtheekfijbbgbkaaGreatDoor
