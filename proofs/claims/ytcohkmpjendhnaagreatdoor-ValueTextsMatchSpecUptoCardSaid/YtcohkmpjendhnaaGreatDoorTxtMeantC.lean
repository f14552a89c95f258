/-
  What Read of package value makes of a text: sets.
-/
import Derived.Test.YtcohkmpjendhnaaGreatDoorTxtMeantA
namespace Go.Proofs.YtcohkmpjendhnaaGreatDoor
open Go.RowKit

theorem infoI : (Tryz.prog.info? 3).map (fun i => (i.zero, i.size, i.bytes)) = some (some (.int .i64 0), 1, 8) := by kernel_rfl
theorem trimPrefix_c (t : ByteArray) (w : World) :
    Calls Tryz.prog 48 #[.string t, .string ⟨#[35]⟩] w fun e w' => e = .returned (.string (bs (Lib.trimPrefix t.data.toList [35]))) ∧ w' = w :=
  Tryz.strings_TrimPrefix t ⟨#[35]⟩ w
/-- The pieces of a text. -/
def pieces (t : ByteArray) : List ByteArray := Lib.splitB ⟨#[44]⟩ 0 (min 41 (t.size + 1) - 1) t
theorem pieces_len (t : ByteArray) : (pieces t).length ≤ 41 := by
  have := Lib.splitB_length_le ⟨#[44]⟩ 0 (min 41 (t.size + 1) - 1) t
  unfold pieces; omega
theorem pieces_pos (t : ByteArray) : 1 ≤ (pieces t).length := by
  unfold pieces
  cases min 41 (t.size + 1) - 1 with
  | zero => simp [Lib.splitB_zero]
  | succ k => unfold Lib.splitB; split <;> simp
theorem splitB_small (sep : ByteArray) (save : Nat) : ∀ (k : Nat) (s : ByteArray) (n : Nat), save ≤ sep.size → s.size ≤ n → ∀ p ∈ Lib.splitB sep save k s, p.size ≤ n
  | 0, s, n, _, h, p, hp => by
    simp only [Lib.splitB_zero, List.mem_singleton] at hp; subst hp; exact h
  | k + 1, s, n, hs, h, p, hp => by
    unfold Lib.splitB at hp
    split at hp
    · simp only [List.mem_singleton] at hp; subst hp; exact h
    · rcases List.mem_cons.1 hp with e | e
      · subst e; rw [ByteArray.size_extract]; omega
      · refine splitB_small sep save k _ n hs ?_ p e
        rw [ByteArray.size_extract]; omega
theorem pieces_small (t : ByteArray) (n : Nat) (h : t.size ≤ n) : ∀ p ∈ pieces t, p.size ≤ n := splitB_small _ _ _ _ n (by simp [ByteArray.size]) h
/-- What a piece means. -/
def pieceN (p : ByteArray) : Int := Txt.natF (Lib.trimPrefix p.data.toList [35])
theorem setM_pieces (t : ByteArray) (h : t.size ≠ 0) : setM t.data.toList = (pieces t).map pieceN := by
  unfold setM
  rw [if_neg (by intro e; apply h; rw [Lib.size_eq, e]; rfl)]
  have e := Lib.splitB_data ⟨#[44]⟩ 0 (min 41 (t.size + 1) - 1) t
  rw [← Lib.size_eq]
  show List.map _ (Lib.splitK [44] 0 _ _) = _
  have e' : Lib.splitK [44] 0 (min 41 (t.size + 1) - 1) t.data.toList = (pieces t).map (·.data.toList) := e.symm
  rw [e', List.map_map]
  rfl

/-- The first k numbers of a new row are laid. -/
structure LaidN (w : World) (ps : List ByteArray) (k : Nat) (wr : World) : Prop where
  row : RowV wr (w.heap.size + 1) ps.length (fun j => if j < k then .int .i64 (pieceN (ps.getD j ⟨#[]⟩)) else .int .i64 0)
  src : ∀ j, j < ps.length → wr.cell? ⟨w.heap.size, j, none⟩ = some (.string (ps.getD j ⟨#[]⟩))
  bel : Below w.heap.size w wr
  own : w.heap.size + 1 < wr.heap.size
theorem cellsOf_at (ps : List ByteArray) (N j : Nat) (h : j < ps.length) : (Lib.cellsOf ps N)[j]? = some (.string (ps.getD j ⟨#[]⟩)) := by
  unfold Lib.cellsOf
  rw [List.getElem?_toArray, List.getElem?_append_left (by simpa using h)]
  simp [h]
theorem LaidN.start (w : World) (ps : List ByteArray) (N : Nat) : LaidN w ps 0 ((w.alloc (.cells (Lib.cellsOf ps N) 9)).alloc (.cells (madeCells #[.int .i64 0] ps.length) 3)) where
  row := by
    have := RowV.made (w.alloc (.cells (Lib.cellsOf ps N) 9)) ps.length (.int .i64 0) 3
    rw [show (w.alloc (.cells (Lib.cellsOf ps N) 9)).heap.size = w.heap.size + 1 by simp] at this
    exact this.congr fun j _ => by simp
  src := fun j hj => by
    have hb : Below (w.heap.size + 1) (w.alloc (.cells (Lib.cellsOf ps N) 9)) ((w.alloc (.cells (Lib.cellsOf ps N) 9)).alloc (.cells (madeCells #[.int .i64 0] ps.length) 3)) := (Below.refl _ _).alloc (by simp) _
    rw [hb.cell (p := ⟨w.heap.size, j, none⟩) (Nat.lt_succ_self _), World.cell?_alloc_new]
    exact cellsOf_at ps N j hj
  bel := ((Below.refl _ _).alloc (Nat.le_refl _) _).alloc (by simp) _
  own := by simp
theorem LaidN.keep {w wr w1 : World} {ps : List ByteArray} {k : Nat} (h : LaidN w ps k wr) (hb : Below wr.heap.size wr w1) : LaidN w ps k w1 where
  row := h.row.below hb h.own
  src := fun j hj => by rw [hb.cell (p := ⟨w.heap.size, j, none⟩) (by have := h.own; show w.heap.size < _; omega)]; exact h.src j hj
  bel := h.bel.trans (hb.mono h.bel.size)
  own := Nat.lt_of_lt_of_le h.own hb.size
theorem LaidN.next {w wr : World} {ps : List ByteArray} {k : Nat} (h : LaidN w ps k wr) (x : Int) (hx : x = pieceN (ps.getD k ⟨#[]⟩)) : LaidN w ps (k + 1) (wr.setCell ⟨w.heap.size + 1, k, none⟩ (.int .i64 x)) where
  row := (h.row.set k _).congr fun j _ => by
    by_cases e : j = k
    · subst e; simp [hx]
    · rw [if_neg e]
      by_cases l : j < k
      · rw [if_pos l, if_pos (by omega)]
      · rw [if_neg l, if_neg (by omega)]
  src := fun j hj => by rw [World.cell?_setCell_other _ _ _ _ (by intro e; injection e with e1; omega)]; exact h.src j hj
  bel := h.bel.setCell (p := ⟨w.heap.size + 1, k, none⟩) (Nat.le_succ _) _
  own := by simpa using h.own

theorem IsL.other {w : World} {l : List Int} {a : Option Addr} {n c B o : Nat} (x : Value) (h : IsL w (.slice a n c) l) (hf : n = 0 ∨ ∃ b, a = some ⟨b, 0, none⟩ ∧ B ≠ b) : IsL (w.setCell ⟨B, o, none⟩ x) (.slice a n c) l := by
  rcases h with h | ⟨b, off, cap, h1, h2, h3, h4, h5⟩
  · exact .inl h
  · have e : B ≠ b := by
      injection h1 with e1 e2 e3
      rcases hf with hf | ⟨b', e', hb'⟩
      · omega
      · rw [e'] at e1
        injection e1 with e1
        injection e1 with e1
        subst e1; exact hb'
    exact .inr ⟨b, off, cap, h1, h2, h3, by simpa using h4, fun j hj => by rw [World.cell?_setCell_other _ _ _ _ (by intro q; injection q with q1; exact e q1)]; exact h5 j hj⟩

def SetPost (l : List Int) (w : World) (e : Ending) (w' : World) : Prop := ∃ v, e = .returned v ∧ Hid (IsL w' v l) ∧ Hid (Below w.heap.size w w') ∧ ∃ a n c, v = .slice a n c ∧ (n = 0 ∨ ∃ b, a = some ⟨b, 0, none⟩ ∧ w.heap.size ≤ b)
set_option maxHeartbeats 2000000 in
theorem meantSet_c (t : ByteArray) (w : World) (hE : Env w) (hs : t.size ≤ 2000000) :
    Calls Tryz.prog 41 #[.string t] w (SetPost (setM t.data.toList) w) := by
  by_cases h0 : t.size = 0
  · obtain rfl := empty_of h0
    clear h0 hE
    go_enter Tryz.func41, Tryz.ntmps41
    go_wp2
    go_ret
    exact ⟨_, rfl, .inl ⟨none, 0, rfl, rfl⟩, Below.refl _ _, _, _, _, rfl, .inl rfl⟩
  · have eS := Lib.hid (setM_pieces t h0)
    have eb : (t.toList == []) = false := by
      have := (text_some h0).1
      cases e : t.toList with
      | nil => exact absurd e this
      | cons a b => rfl
    have et := (text_some h0).2
    obtain ⟨m, hm⟩ := hE.mx
    have hP := Lib.hid (Tryz.strings_SplitN t ⟨#[44]⟩ 41 m w (by omega) hm (by simp [ByteArray.size]) (by omega) (by omega))
    clear hm
    have hsm := Lib.hid (pieces_small t 2000000 hs)
    have hl := pieces_len t
    have hp := pieces_pos t
    have hP' : Hid (Calls Tryz.prog 69 #[.string t, .string ⟨#[44]⟩, .int .i64 41] w fun e w' => e = .returned (.slice (some ⟨w.heap.size, 0, none⟩) (pieces t).length (min 41 (t.size + 1))) ∧ w' = w.alloc (.cells (Lib.cellsOf (pieces t) (min 41 (t.size + 1))) 9)) := hP.out
    clear hP
    generalize pieces t = ps at eS hsm hl hp hP'
    generalize min 41 (t.size + 1) = N at hP'
    have HE := Lib.hid hE; clear hE h0
    have hmk := run_make_row' (P := Tryz.prog) 22 3 (.int .i64 0) 8 Tryz.underlying22 infoI rfl .i64 .i64 ps.length (by omega) (by omega)
    go_enter Tryz.func41, Tryz.ntmps41
    go_wp2_with fail
    refine hP'.out.mono ?_
    rintro e w1 ⟨rfl, rfl⟩
    go_wp2_with fail
    have hS0 := Lib.hid (LaidN.start w ps N)
    generalize (w.alloc (.cells (Lib.cellsOf ps N) 9)).alloc (.cells (madeCells #[.int .i64 0] ps.length) 3) = w2 at hS0
    clear hmk hP'
    go_loopw [5, 6, 16] (fun _ _ i wr => ∃ k : Nat, k ≤ ps.length ∧ i = .int .i64 k ∧ Hid (LaidN w ps k wr)) (fun _ _ i _ => ps.length - (intOf i).toNat)
    case atStart => exact ⟨0, Nat.zero_le _, rfl, hS0.out⟩
    case round =>
      obtain ⟨k, hk, rfl, hR⟩ := hrel
      by_cases hlt : k < ps.length
      · have c1 := hR.out.src k hlt
        have hlt' : (k : Int) < (ps.length : Int) := by omega
        obtain ⟨x, hx⟩ : ∃ x, x = ps.getD k ⟨#[]⟩ := ⟨_, rfl⟩
        have xs : x.size ≤ 2000000 := hsm.out x (by rw [hx]; simp [List.getD_eq_getElem?_getD, hlt])
        rw [← hx] at c1
        have HX := Lib.hid hx; clear hx hS0
        go_wp2_with fail
        refine (trimPrefix_c x _).mono ?_
        rintro e w3 ⟨rfl, rfl⟩
        obtain ⟨y, hy⟩ : ∃ y, y = bs (Lib.trimPrefix x.data.toList [35]) := ⟨_, rfl⟩
        have yl : y.data.toList = Lib.trimPrefix x.data.toList [35] := by rw [hy, bs_list]
        have ys : y.size ≤ 2000000 := by
          rw [Lib.size_eq, yl]; have := Lib.trimPrefix_le x.data.toList [35]; rw [← Lib.size_eq] at this; omega
        have hY : Hid (Txt.natF y.data.toList = pieceN (ps.getD k ⟨#[]⟩)) := by unfold Hid pieceN; rw [← HX.out, yl]
        rw [← hy]
        clear hy yl
        go_wp2_with fail
        refine (natural_c y _ (HE.out.below hR.out.bel) (by omega)).mono ?_
        rintro e w3 ⟨rfl, hb⟩
        have hR2 := Lib.hid (hR.out.keep hb)
        clear hb hR c1
        have cc := (hR2.out.row k hlt).1
        have ff := (hR2.out.row k hlt).2
        simp only [if_neg (Nat.lt_irrefl k)] at cc
        have hN := Lib.hid (hR2.out.next _ hY.out)
        generalize Txt.natF y.data.toList = z at hN
        clear hR2 hY
        go_wp2
        go_roundw
        case rel => exact ⟨k + 1, by omega, by go_num, hN.out⟩
        case measure => simp [intOf]; omega
      · obtain rfl : k = ps.length := by omega
        have hI : Hid (IsL wr (.slice (some ⟨w.heap.size + 1, 0, none⟩) ps.length ps.length) (ps.map pieceN)) := by
          refine .inr ⟨w.heap.size + 1, 0, ps.length, by simp, by simp; omega, by simp; omega, hR.out.own, fun j hj => ?_⟩
          have hj' : j < ps.length := by simpa using hj
          have := (hR.out.row j hj').1
          simp only [if_pos hj'] at this
          rw [Nat.zero_add, this]
          simp [List.getD_eq_getElem?_getD, hj']
        have hB := Lib.hid hR.out.bel; clear hR hS0
        go_wp2
        go_ret
        rw [eS.out]
        exact ⟨_, rfl, hI, hB, _, _, _, rfl, .inr ⟨_, rfl, Nat.le_succ _⟩⟩
end Go.Proofs.YtcohkmpjendhnaaGreatDoor
