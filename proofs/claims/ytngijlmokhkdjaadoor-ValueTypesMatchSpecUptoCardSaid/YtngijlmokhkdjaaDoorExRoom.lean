/-
  hasRoom of package value: whether an expression has no more parts than are left, and none too deep.
-/
import Derived.Test.YtngijlmokhkdjaaDoorExMath
namespace Go.Proofs.YtngijlmokhkdjaaDoor
open Go.RowKit

/-- The cell of what is left; and all ahead of the first world as it was. -/
structure RoomSt (w0 : World) (lb : Nat) (left : Int) (w : World) : Prop where
  cell : w.cell? ⟨lb, 0, none⟩ = some (.int .i64 left)
  fz : w.frozen? ⟨lb, 0, none⟩ = false
  bel : Below w0.heap.size w0 w
  lo : w0.heap.size ≤ lb
  hi : lb < w.heap.size
theorem RoomSt.set {w0 w : World} {lb : Nat} {left : Int} (h : RoomSt w0 lb left w) (y : Int) : RoomSt w0 lb y (w.setCell ⟨lb, 0, none⟩ (.int .i64 y)) :=
  ⟨World.cell?_setCell_same' _ _ _ (by rw [h.cell]; rfl), by rw [World.frozen?_setCell]; exact h.fz, h.bel.setCell (p := ⟨lb, 0, none⟩) h.lo _, h.lo, by simpa using h.hi⟩
theorem RoomSt.alloc {w0 w : World} {lb : Nat} {left : Int} (h : RoomSt w0 lb left w) (o : Obj) : RoomSt w0 lb left (w.alloc o) := by
  have hb : Below w.heap.size w (w.alloc o) := (Below.refl _ _).alloc (Nat.le_refl _) o
  exact ⟨by rw [hb.cell (p := ⟨lb, 0, none⟩) h.hi]; exact h.cell, by rw [hb.frozen (p := ⟨lb, 0, none⟩) h.hi]; exact h.fz, h.bel.trans (hb.mono h.bel.size), h.lo, Nat.lt_of_lt_of_le h.hi hb.size⟩

/-- What hasRoom leaves. -/
def RoomPost (w0 : World) (lb : Nat) (left level : Int) (xs : Fo) (e : Ending) (w' : World) : Prop :=
  ∃ left' : Int, e = .returned (.bool (decide ((xs.parts : Int) + 1 ≤ left ∧ level + xs.levels ≤ 20))) ∧ Hid (((xs.parts : Int) + 1 ≤ left ∧ level + xs.levels ≤ 20) → left' = left - (xs.parts + 1)) ∧ Hid (RoomSt w0 lb left' w')
def RoomC (w0 : World) (h : Hd) (xs : Fo) : Prop :=
  ∀ (v : Value) (level left : Int) (w : World) (lb : Nat), IsX w0 h xs v → RoomSt w0 lb left w → 0 ≤ left → left ≤ 1000 → 1 ≤ level → level ≤ 21 →
    Calls Tryd.prog 18 #[v, .int .i64 level, .pointer (some ⟨lb, 0, none⟩)] w (RoomPost w0 lb left level xs)

set_option maxHeartbeats 2000000 in
theorem room_step (w0 : World) (h : Hd) (xs : Fo) (hlen : xs.len ≤ 1048576) (ih : ∀ k h' a', xs.drop k = .cons h' a' (xs.drop (k + 1)) → RoomC w0 h' a') : RoomC w0 h xs := by
  intro v level left w lb hx hst h0 h1 h2 h3
  obtain ⟨sv, a, n, c, rfl, hL, rfl, hs⟩ := hx
  have IH := Lib.hid ih; clear ih
  have HS := Lib.hid hs; clear hs
  have hc := hst.cell
  have hf := hst.fz
  obtain ⟨p, m, q, rfl⟩ := hL.form
  clear hL
  have ST := Lib.hid ((hst.set (left - 1)).alloc (.cells #[.int .i64 h.k, .int .i64 h.o, .string h.nm, .int .i64 h.vk, .int .i64 h.vn, .string h.vs, .slice p m q, .slice a xs.len c] 27))
  have hlt := hst.hi
  clear hst
  by_cases h4 : left < 1
  · obtain rfl : left = 0 := by omega
    clear h4
    go_enter Tryd.func18, Tryd.ntmps18
    go_wp2
    go_ret
    exact ⟨_, ret_bool (by simp; omega), fun hh => by omega, ST.out⟩
  · have e4 : decide (left - 1 < 0) = false := by simp; omega
    by_cases h5 : 20 < level
    · have e5 : decide (20 < level) = true := by simp; omega
      go_enter Tryd.func18, Tryd.ntmps18
      go_wp2
      go_ret
      exact ⟨_, ret_bool (by simp; omega), fun hh => by omega, ST.out⟩
    · have e5 : decide (20 < level) = false := by simp; omega
      have hi0 : 0 ≤ left - 1 ∧ left - 1 ≤ 1000 ∧ level ≤ 20 := by omega
      obtain ⟨i1, i2, i3⟩ := hi0
      clear h4 h5 h0 h1 h3
      have hT : Hid (((xs.parts : Int) + 1 ≤ left ∧ level + xs.levels ≤ 20) ↔ (((xs.drop 0).parts : Int) ≤ left - 1 ∧ level + (xs.drop 0).levels ≤ 20)) := by
        unfold Hid; simp only [Fo.drop]; omega
      have hV : Hid (left - 1 = left - 1 - ((xs.parts : Int) - (xs.drop 0).parts)) := by unfold Hid; simp only [Fo.drop]; omega
      go_enter Tryd.func18, Tryd.ntmps18
      go_wp2_with fail
      generalize (w.setCell ⟨lb, 0, none⟩ (.int .i64 (left - 1))).alloc (.cells #[.int .i64 h.k, .int .i64 h.o, .string h.nm, .int .i64 h.vk, .int .i64 h.vn, .string h.vs, .slice p m q, .slice a xs.len c] 27) = wS at ST
      go_loopw [8, 25] (fun _ i wr => ∃ (k : Nat) (lk : Int), k ≤ xs.len ∧ i = .int .i64 k ∧ 0 ≤ lk ∧ lk ≤ 1000 ∧ Hid (RoomSt w0 lb lk wr) ∧ Hid (lk = left - 1 - ((xs.parts : Int) - (xs.drop k).parts)) ∧ Hid (((xs.parts : Int) + 1 ≤ left ∧ level + xs.levels ≤ 20) ↔ (((xs.drop k).parts : Int) ≤ lk ∧ level + (xs.drop k).levels ≤ 20))) (fun _ i _ => xs.len - (intOf i).toNat)
      case atStart => exact ⟨0, left - 1, Nat.zero_le _, rfl, i1, i2, ST.out, hV, hT⟩
      case round =>
        obtain ⟨k, lk, hk, rfl, j1, j2, hR, hlk, hTk⟩ := hrel
        clear hT hV ST hc hf
        by_cases hlt' : k < xs.len
        · have hkk : (k : Int) < (xs.len : Int) := by omega
          obtain ⟨b, off, rfl, hbl, hF⟩ : ∃ b off, a = some ⟨b, off, none⟩ ∧ b < w0.heap.size ∧ IsF w0 b xs off := by
            rcases HS.out with h | h
            · omega
            · exact h
          obtain ⟨h', a', hd⟩ := Fo.drop_at k xs hlt'
          obtain ⟨sp, sm, sq, p', n', c', g0, g1, g2, g3, g4, g5, g6, g7, hX⟩ := hF.cells hd
          have cc := fun (o : Nat) => hR.out.bel.cell (p := ⟨b, o, none⟩) hbl
          have k0 := (cc _).trans g0
          have k1 := (cc _).trans g1
          have k2 := (cc _).trans g2
          have k3 := (cc _).trans g3
          have k4 := (cc _).trans g4
          have k5 := (cc _).trans g5
          have k6 := (cc _).trans g6
          have k7 := (cc _).trans g7
          have HX := Lib.hid hX
          have HD := Lib.hid hd
          clear g0 g1 g2 g3 g4 g5 g6 g7 hX hd cc hF
          go_wp2_with fail
          refine (IH.out k h' a' HD.out _ (level + 1) lk _ lb HX.out (hR.out.alloc _) j1 j2 (by omega) (by omega)).mono ?_
          rintro e w4 ⟨l', rfl, hl', hR'⟩
          have hp := Fo.parts_drop HD.out
          have hv := Fo.levels_drop HD.out
          have hlk' := hlk.out
          have hTk' := hTk.out
          by_cases hok : (a'.parts : Int) + 1 ≤ lk ∧ level + 1 + a'.levels ≤ 20
          · have hl2 := hl'.out hok
            have w1 : 0 ≤ l' ∧ l' ≤ 1000 := by omega
            obtain ⟨w2, w3⟩ := w1
            have f1 : Hid (l' = left - 1 - ((xs.parts : Int) - (xs.drop (k + 1)).parts)) := by unfold Hid; omega
            have f2 : Hid (((xs.parts : Int) + 1 ≤ left ∧ level + xs.levels ≤ 20) ↔ (((xs.drop (k + 1)).parts : Int) ≤ l' ∧ level + (xs.drop (k + 1)).levels ≤ 20)) := by unfold Hid; omega
            rw [decide_eq_true hok]
            clear hok hl2 hp hv hlk' hTk' hl' hlk hTk
            go_wp2
            go_roundw
            case rel => exact ⟨k + 1, l', by omega, by go_num, w2, w3, hR'.out, f1.out, f2.out⟩
            case measure => simp [intOf]; omega
          · have f1 : Hid (¬ ((xs.parts : Int) + 1 ≤ left ∧ level + xs.levels ≤ 20)) := by unfold Hid; omega
            rw [decide_eq_false hok]
            clear hok hp hv hlk' hTk' hl' hlk hTk
            go_wp2
            go_ret
            exact ⟨l', ret_bool (by simpa using f1.out), fun hh => absurd hh f1.out, hR'.out⟩
        · obtain rfl : k = xs.len := by omega
          have hz := Fo.drop_end (xs := xs) rfl
          have e1 : Hid (((xs.parts : Int) + 1 ≤ left ∧ level + xs.levels ≤ 20)) := by
            refine hTk.out.2 ?_
            rw [hz]; simp only [Fo.parts, Fo.levels]; omega
          have e2 : Hid (lk = left - (xs.parts + 1)) := by
            have := hlk.out; rw [hz] at this; simp only [Fo.parts] at this
            unfold Hid; omega
          go_wp2
          go_ret
          exact ⟨lk, ret_bool (by simpa using e1.out), fun _ => e2.out, hR.out⟩
theorem room_c (w0 : World) (h : Hd) (xs : Fo) : xs.parts ≤ 1048576 → RoomC w0 h xs :=
  forest_ind (fun h xs => xs.parts ≤ 1048576 → RoomC w0 h xs) (fun h a ih hp => room_step w0 h a (Nat.le_trans a.len_le_parts hp) (fun k h' a' hd => ih k h' a' hd (by have := Fo.parts_sub hd; omega))) h xs
end Go.Proofs.YtngijlmokhkdjaaDoor
