/-
  Names of package value: the names gathered by a function that calls itself, put in order, each once.
-/
import Derived.Test.YtcdifmnakppfkaaGreatDoorExRJoin
import Derived.Test.YtcdifmnakppfkaaGreatDoorExCanon
import Derived.Lib.OwnBridge
import Derived.Laws.AppendOwnNone
import Derived.Laws.EntriesVeiled
namespace Go.Proofs.YtcdifmnakppfkaaGreatDoor
open Go.RowKit

/-- The names in a row of expressions, as they come. -/
def nmsF : Fo → List (List UInt8)
  | .nil => []
  | .cons h a r => ((if h.k = 2 then [h.nm.data.toList] else []) ++ nmsF a) ++ nmsF r
def nms1 (h : Hd) (a : Fo) : List (List UInt8) := (if h.k = 2 then [h.nm.data.toList] else []) ++ nmsF a
theorem nmsF_len : ∀ xs : Fo, (nmsF xs).length ≤ xs.parts
  | .nil => by simp [nmsF]
  | .cons h a r => by
    have h1 := nmsF_len a
    have h2 := nmsF_len r
    simp only [nmsF, Fo.parts, List.length_append]
    split <;> simp <;> omega
theorem nms1_len (h : Hd) (a : Fo) : (nms1 h a).length ≤ a.parts + 1 := by
  have h1 := nmsF_len a
  unfold nms1
  split <;> simp <;> omega
theorem nmsF_drop {k : Nat} {xs : Fo} {h : Hd} {a : Fo} (hk : xs.drop k = .cons h a (xs.drop (k + 1))) : nmsF (xs.drop k) = nms1 h a ++ nmsF (xs.drop (k + 1)) := by
  rw [hk]; rfl

/-- A slice of texts in a row of the call's own. -/
def RowN (w : World) (base : Nat) (v : Value) (L : List (List UInt8)) : Prop := w.ownsRow base 9 1 v L.length (L.map encStr)
theorem RowN.bel {w w' : World} {base : Nat} {v : Value} {L : List (List UInt8)} (h : RowN w base v L) (hb : Below w.heap.size w w') : RowN w' base v L := ownsRow_bel h hb
theorem RowN.form {w : World} {base : Nat} {v : Value} {L : List (List UInt8)} (h : RowN w base v L) : ∃ a n c, v = .slice a n c := by
  obtain ⟨_, ⟨rfl, _⟩ | ⟨g, cap, cur, rfl, _⟩⟩ := h
  · exact ⟨_, _, _, rfl⟩
  · exact ⟨_, _, _, rfl⟩
/-- A slice that reads as a list of texts. -/
def IsS (w : World) (v : Value) (L : List (List UInt8)) : Prop :=
  (∃ a c, v = .slice a 0 c ∧ L = []) ∨ ∃ b cap, v = .slice (some ⟨b, 0, none⟩) L.length cap ∧ 0 < L.length ∧ b < w.heap.size ∧ ∀ j, j < L.length → w.cell? ⟨b, j, none⟩ = some (.string (bs (L.getD j [])))
theorem RowN.isS {w : World} {base : Nat} {v : Value} {L : List (List UInt8)} (h : RowN w base v L) : IsS w v L := by
  by_cases h0 : L.length = 0
  · obtain rfl := List.eq_nil_of_length_eq_zero h0
    obtain ⟨_, ⟨rfl, _⟩ | ⟨g, cap, cur, rfl, _⟩⟩ := h
    · exact .inl ⟨_, _, rfl, rfl⟩
    · exact .inl ⟨_, _, rfl, rfl⟩
  · obtain ⟨g, cap, rfl, hg⟩ : ∃ g cap, v = .slice (some ⟨g, 0, none⟩) L.length cap ∧ g < w.heap.size := by
      obtain ⟨_, ⟨_, hh⟩ | ⟨g, cap, cur, rfl, _, hg, _⟩⟩ := id h
      · omega
      · exact ⟨g, cap, rfl, lt_of_block hg⟩
    refine .inr ⟨g, cap, rfl, by omega, hg, fun j hj => ?_⟩
    have := World.ownsRow.cellAt h j (by omega)
    rw [this]; simp [hj, bs]
theorem IsS.below {w w' : World} {v : Value} {L : List (List UInt8)} (h : IsS w v L) (hb : Below w.heap.size w w') : IsS w' v L := by
  rcases h with h | ⟨b, cap, h1, h2, h3, h4⟩
  · exact .inl h
  · exact .inr ⟨b, cap, h1, h2, Nat.lt_of_lt_of_le h3 hb.size, fun j hj => by rw [hb.cell (p := ⟨b, j, none⟩) h3]; exact h4 j hj⟩

theorem bel_grow (w : World) (os : Array Obj) : Below w.heap.size w (Sort.grow w os) := by
  have := Go.Lib.below_grow w.heap.size w (Nat.le_refl _) 0 os
  simpa [World.drewN] using this
theorem sort_c (w : World) (base : Nat) (v : Value) (L : List (List UInt8)) (hL : L.length ≤ 3000000) (h : RowN w base v L) :
    Calls Tryz.prog 18 #[v] w fun e w' => e = .returned (.tuple #[]) ∧ RowN w' base v (L.mergeSort fun x y => decide (x ≤ y)) ∧ Below base w w' := by
  by_cases hv : v = .slice none 0 0
  · subst hv
    have h0 : L = [] := by
      obtain ⟨_, ⟨_, h0⟩ | ⟨g, cap, cur, e, _⟩⟩ := id h
      · exact List.eq_nil_of_length_eq_zero h0
      · cases e
    subst h0
    refine (Tryz.slices_Sort_string_none none 0 w).mono fun e w' ⟨he, hw⟩ => ⟨he, ?_, ?_⟩
    · rw [hw]; simpa using h
    · rw [hw]; exact Below.refl _ _
  · obtain ⟨g, cap, rfl, hbg, hlt, hn, hm, _, hH⟩ := Go.Lib.holds_of_ownsRow (zs := L) h hv
    refine (Tryz.slices_Sort_string g 0 cap L w hH hlt (by omega)).mono fun e w' ⟨he, n, os, hw⟩ => ⟨he, ?_, ?_⟩
    · have h1 := Go.Lib.ownsRow_putRow (q := n) (k := L.length) (ys := L.mergeSort fun x y => decide (x ≤ y)) h (by simp) (Nat.le_refl _)
      rw [List.take_of_length_le (by simp)] at h1
      rw [hw]
      unfold RowN
      rw [List.length_mergeSort]
      exact ownsRow_bel h1 (bel_grow _ os)
    · rw [hw]
      have h2 := Go.Lib.below_putRow (enc := encStr) (q := n) (d := (L.mergeSort fun x y => decide (x ≤ y)).toArray) (Below.refl base w) hbg
      have h3 := h2.size
      exact h2.trans ((bel_grow _ os).mono (by omega))
theorem compact_c (w : World) (base : Nat) (v : Value) (L : List (List UInt8)) (hL : L.length ≤ 3000000) (h : RowN w base v L) :
    Calls Tryz.prog 19 #[v] w fun e w' => ∃ v', e = .returned v' ∧ RowN w' base v' (Lib.compact L) ∧ Below base w w' := by
  by_cases hv : v = .slice none 0 0
  · subst hv
    have h0 : L = [] := by
      obtain ⟨_, ⟨_, h0⟩ | ⟨g, cap, cur, e, _⟩⟩ := id h
      · exact List.eq_nil_of_length_eq_zero h0
      · cases e
    subst h0
    refine (Tryz.slices_Compact_string_empty none 0 w).mono fun e w' ⟨he, hw⟩ => ⟨_, he, ?_, ?_⟩
    · rw [hw]; simpa [Lib.compact, Lib.compactUpTo] using h
    · rw [hw]; exact Below.refl _ _
  · obtain ⟨g, cap, rfl, hbg, hlt, hn, hm, _, hH⟩ := Go.Lib.holds_of_ownsRow (zs := L) h hv
    have hc := Go.Lib.compact_length_le L
    refine (Tryz.slices_Compact_string g 0 cap L w hH (by omega) hn).mono fun e w' ⟨he, q, hw⟩ => ⟨_, he, ?_, ?_⟩
    · have h1 := Go.Lib.ownsRow_putRow (q := q) (k := (Lib.compact L).length) (ys := Lib.compact L ++ List.replicate (L.length - (Lib.compact L).length) []) h (by simp; omega) hc
      rw [List.take_left' rfl] at h1
      rw [hw]
      exact h1
    · rw [hw]
      exact Go.Lib.below_putRow (enc := encStr) (Below.refl base w) hbg

theorem infoN : (Tryz.prog.info? 9).map (fun i => (i.zero, i.size, i.bytes)) = some (some (.string ByteArray.empty), 1, 16) := by kernel_rfl
/-- While names are gathered: the cell of the names, and the cell of the function itself. -/
structure GSt (w0 : World) (nb : Nat) (L : List (List UInt8)) (v : Value) (w : World) : Prop where
  cell : w.cell? ⟨nb, 0, none⟩ = some v
  row : RowN w (nb + 2) v L
  fz : w.frozen? ⟨nb, 0, none⟩ = false
  gc : w.cell? ⟨nb + 1, 0, none⟩ = some (.func (.func 17) #[] #[.pointer (some ⟨nb, 0, none⟩), .pointer (some ⟨nb + 1, 0, none⟩)])
  bel : Below w0.heap.size w0 w
  lo : w0.heap.size ≤ nb
  hi : nb + 2 ≤ w.heap.size
theorem GSt.keep {w0 w w' : World} {nb : Nat} {L : List (List UInt8)} {v : Value} (h : GSt w0 nb L v w) (hb : Below w.heap.size w w') : GSt w0 nb L v w' := by
  have hi := h.hi
  exact ⟨by rw [hb.cell (p := ⟨nb, 0, none⟩) (by show nb < _; omega)]; exact h.cell, h.row.bel hb, by rw [hb.frozen (p := ⟨nb, 0, none⟩) (by show nb < _; omega)]; exact h.fz,
    by rw [hb.cell (p := ⟨nb + 1, 0, none⟩) (by show nb + 1 < _; omega)]; exact h.gc, h.bel.trans (hb.mono h.bel.size), h.lo, Nat.le_trans hi hb.size⟩
theorem GSt.alloc {w0 w : World} {nb : Nat} {L : List (List UInt8)} {v : Value} (h : GSt w0 nb L v w) (o : Obj) : GSt w0 nb L v (w.alloc o) := h.keep ((Below.refl _ _).alloc (Nat.le_refl _) o)
theorem GSt.next {w0 w w2 : World} {nb : Nat} {L : List (List UInt8)} {v v' : Value} {o : Obj} (h : GSt w0 nb L v w) (x : List UInt8) (hown : w2.ownsRow (nb + 2) 9 1 v' (L.length + 1) (L.map encStr ++ [.string (bs x)])) (hg : (w.alloc o).grownBy w2 v.ownBlock) :
    w2.cell? ⟨nb, 0, none⟩ = some v ∧ w2.frozen? ⟨nb, 0, none⟩ = false ∧ GSt w0 nb (L ++ [x]) v' (w2.setCell ⟨nb, 0, none⟩ v') := by
  have hi := h.hi
  have hb : Below (nb + 2) w w2 := ((Below.refl _ _).alloc hi o).grown hg (Nat.le_trans hi (by simp)) (fun j hj => (World.ownsRow.lt h.row j hj).1)
  have lo := h.lo
  have c0 : w2.cell? ⟨nb, 0, none⟩ = some v := by rw [hb.cell (p := ⟨nb, 0, none⟩) (by show nb < _; omega)]; exact h.cell
  have f0 : w2.frozen? ⟨nb, 0, none⟩ = false := by rw [hb.frozen (p := ⟨nb, 0, none⟩) (by show nb < _; omega)]; exact h.fz
  have hs := hb.size
  refine ⟨c0, f0, ?_, ?_, ?_, ?_, ?_, h.lo, ?_⟩
  · exact World.cell?_setCell_same' _ _ _ (by rw [c0]; rfl)
  · unfold RowN
    rw [List.length_append, List.map_append]
    exact ownsRow_setCell_below (a := ⟨nb, 0, none⟩) hown (by show nb < nb + 2; omega) _
  · rw [World.frozen?_setCell]; exact f0
  · rw [World.cell?_setCell_other _ _ _ _ (by intro q; injection q with q1; omega), hb.cell (p := ⟨nb + 1, 0, none⟩) (by show nb + 1 < _; omega)]; exact h.gc
  · exact (h.bel.trans (hb.mono (by omega))).setCell (p := ⟨nb, 0, none⟩) lo _
  · simp; omega
def GatherC (w0 : World) (h : Hd) (a : Fo) : Prop :=
  ∀ (v u : Value) (w : World) (nb : Nat) (L : List (List UInt8)), IsX w0 h a v → GSt w0 nb L u w → L.length + (a.parts + 1) ≤ 2100000 →
    Calls Tryz.prog 17 #[v, .pointer (some ⟨nb, 0, none⟩), .pointer (some ⟨nb + 1, 0, none⟩)] w fun e w' => e = .returned (.tuple #[]) ∧ ∃ u', GSt w0 nb (L ++ nms1 h a) u' w'
/-- The loop over the arguments, whatever was gathered ahead of it. -/
def GLoop (w0 : World) (nb : Nat) (L : List (List UInt8)) (c : Nat) (xs : Fo) (k : Nat) (w : World) : Prop := ∃ M u, GSt w0 nb M u w ∧ M ++ nmsF (xs.drop k) = L ∧ M.length + (xs.drop k).parts ≤ c

set_option maxRecDepth 100000 in
set_option maxHeartbeats 4000000 in
theorem gather_step (w0 : World) (h : Hd) (xs : Fo) (ih : ∀ k h' a', xs.drop k = .cons h' a' (xs.drop (k + 1)) → GatherC w0 h' a') : GatherC w0 h xs := by
  intro v u w nb L hx hst hsz
  obtain ⟨sv, a, n, c, rfl, hL, rfl, hs⟩ := hx
  have IH := Lib.hid ih; clear ih
  have HS := Lib.hid hs; clear hs
  obtain ⟨p, m, q, rfl⟩ := hL.form
  clear hL
  have hll := xs.len_le_parts
  have hpl := nmsF_len xs
  have ST := Lib.hid (hst.alloc (.cells #[.int .i64 h.k, .int .i64 h.o, .string h.nm, .int .i64 h.vk, .int .i64 h.vn, .string h.vs, .slice p m q, .slice a xs.len c] 27))
  have hwn := hst.hi
  obtain ⟨ua, un, uc, rfl⟩ := hst.row.form
  have hown0 : Hid (some w.heap.size ≠ (Value.slice ua un uc).ownBlock) := by
    intro e
    have := (World.ownsRow.lt hst.row _ e.symm).2
    omega
  clear hst
  obtain ⟨i0, hi, hz0, hz1, hz2⟩ := info_parts infoN
  by_cases hk : h.k = 2
  · have k1 : (h.k == 2) = true := by simpa using hk
    have eN : Hid (nms1 h xs = [h.nm.data.toList] ++ nmsF xs) := by unfold Hid nms1; rw [if_pos hk]
    have cN := ST.out.cell
    have fN := ST.out.fz
    have hO := Lib.hid ST.out.row
    clear hk
    go_enter Tryz.func17, Tryz.ntmps17
    have hnx := Lib.hid (fun (v' : Value) (w2 : World) hown hg => ST.out.next (v' := v') (w2 := w2) (o := .cells #[.string h.nm] 9) h.nm.data.toList hown hg)
    have hsz2 := Lib.hid ST.out.hi
    go_wp2_with (at_builtin; refine wpList_append_own _ rfl _ _ 33 rfl (nb + 2) 9 i0 (.string ByteArray.empty) 1 16 Tryz.underlying33 hi hz0 hz1 hz2 rfl (by decide) _ _ _ rfl (World.ownsRow.alloc hO.out _) ⟨w.heap.size + 1, 0, none⟩ 1 1 [.string h.nm] rfl rfl ?c1 ?c2 ?c3 ?c4 ?c5 ?_)
    case c1 =>
      intro j u hj
      match j, hj with
      | 0, hj =>
        simp at hj; subst hj
        simp [Addr.add]
    case c2 => intro u hu; simp at hu; subst hu; rfl
    case c3 => unfold maxLen; omega
    case c4 => omega
    case c5 => have := hsz2.out; simp at this ⊢; omega
    intro v' w2 hown' hgrow _
    obtain ⟨g', cap', rfl⟩ : ∃ g cap, v' = .slice (some ⟨g, 0, none⟩) (L.length + 1) cap := by
      obtain ⟨_, h | ⟨g, cap, cur, e, _⟩⟩ := hown'
      · exact absurd h.2 (Nat.succ_ne_zero _)
      · exact ⟨g, cap, e⟩
    obtain ⟨c2, f2, hN⟩ := hnx.out _ w2 (by rw [bs_of]; exact hown') hgrow
    have hbx : (w2.setCell ⟨nb, 0, none⟩ (.slice (some ⟨g', 0, none⟩) (L.length + 1) cap')).cell? ⟨w.heap.size, 7, none⟩ = some (.slice a xs.len c) := by
      rw [World.cell?_setCell_other _ _ _ _ (by intro q; injection q with q1; omega)]
      have h1 := hgrow.block w.heap.size (by simp; omega) (hown0.out)
      have h2 : ((w.alloc (.cells #[.int .i64 h.k, .int .i64 h.o, .string h.nm, .int .i64 h.vk, .int .i64 h.vn, .string h.vs, .slice p m q, .slice a xs.len c] 27)).alloc (.cells #[.string h.nm] 9)).cell? ⟨w.heap.size, 7, none⟩ = some (.slice a xs.len c) := by
        rw [World.cell?_alloc_past _ _ _ (by simp), World.cell?_alloc_new]; rfl
      rw [← h2]
      simp only [World.cell?, h1]
    have H0 : Hid (GLoop w0 nb (L ++ nms1 h xs) (L.length + 1 + xs.parts) xs 0 (w2.setCell ⟨nb, 0, none⟩ (.slice (some ⟨g', 0, none⟩) (L.length + 1) cap'))) :=
      ⟨_, _, hN, by rw [eN.out, List.append_assoc]; simp [Fo.drop], by simp [Fo.drop]⟩
    clear hown' hgrow hN hnx
    go_wp2_with fail
    clear hbx c2 f2 cN fN hO ST hsz2
    go_loopw [5, 17] (fun _ i wr => ∃ k : Nat, k ≤ xs.len ∧ i = .int .i64 k ∧ Hid (GLoop w0 nb (L ++ nms1 h xs) (L.length + 1 + xs.parts) xs k wr)) (fun _ i _ => xs.len - (intOf i).toNat)
    case atStart => exact ⟨0, Nat.zero_le _, rfl, H0.out⟩
    case round =>
      obtain ⟨k, hk, rfl, hR⟩ := hrel
      clear H0
      obtain ⟨M, u, hG, hM, hP⟩ := hR.out
      have HM := Lib.hid hM; clear hM
      have HP := Lib.hid hP; clear hP
      have HG := Lib.hid hG; clear hG hR
      by_cases hlt' : k < xs.len
      · have hkk : (k : Int) < (xs.len : Int) := by omega
        obtain ⟨b, off, rfl, hbl, hF⟩ : ∃ b off, a = some ⟨b, off, none⟩ ∧ b < w0.heap.size ∧ IsF w0 b xs off := by
          rcases HS.out with h | h
          · omega
          · exact h
        obtain ⟨h', a', hd⟩ := Fo.drop_at k xs hlt'
        obtain ⟨sp, sm, sq, p', n', c', g0, g1, g2, g3, g4, g5, g6, g7, hX⟩ := hF.cells hd
        have cc := fun (o : Nat) => HG.out.bel.cell (p := ⟨b, o, none⟩) hbl
        have k0 := (cc _).trans g0
        have k1 := (cc _).trans g1
        have k2 := (cc _).trans g2
        have k3 := (cc _).trans g3
        have k4 := (cc _).trans g4
        have k5 := (cc _).trans g5
        have k6 := (cc _).trans g6
        have k7 := (cc _).trans g7
        have HX := Lib.hid hX
        have HD := Lib.hid hd
        have hdp := Fo.parts_drop hd
        have hbd : Hid (M.length + (a'.parts + 1) ≤ 2100000) := by have := HP.out; unfold Hid; omega
        have HDP := Lib.hid hdp
        clear g0 g1 g2 g3 g4 g5 g6 g7 hX hd cc hF hdp
        have gA := (HG.out.alloc (.cells #[.int .i64 h'.k, .int .i64 h'.o, .string h'.nm, .int .i64 h'.vk, .int .i64 h'.vn, .string h'.vs, .slice sp sm sq, .slice p' n' c'] 27)).gc
        have HGA := Lib.hid (HG.out.alloc (.cells #[.int .i64 h'.k, .int .i64 h'.o, .string h'.nm, .int .i64 h'.vk, .int .i64 h'.vn, .string h'.vs, .slice sp sm sq, .slice p' n' c'] 27))
        go_wp2_with fail
        refine (IH.out k h' a' HD.out _ _ _ nb M HX.out HGA.out hbd.out).mono ?_
        rintro e w4 ⟨rfl, u', hG'⟩
        have f1 : Hid (GLoop w0 nb (L ++ nms1 h xs) (L.length + 1 + xs.parts) xs (k + 1) w4) := by
          refine ⟨M ++ nms1 h' a', u', hG', ?_, ?_⟩
          · rw [List.append_assoc, ← nmsF_drop HD.out]; exact HM.out
          · have h1 := nms1_len h' a'
            have h2 := HP.out
            have h3 := HDP.out
            rw [List.length_append]; omega
        clear hG' gA k0 k1 k2 k3 k4 k5 k6 k7
        go_wp2
        go_roundw
        case rel => exact ⟨k + 1, by omega, by go_num, f1.out⟩
        case measure => simp [intOf]; omega
      · obtain rfl : k = xs.len := by omega
        have hz := Fo.drop_end (xs := xs) rfl
        have e1 : Hid (M = L ++ nms1 h xs) := by unfold Hid; have := HM.out; rw [hz] at this; simpa [nmsF] using this
        clear hz
        go_wp2
        go_end0
        exact ⟨rfl, u, by rw [← e1.out]; exact HG.out⟩
  · have k1 : (h.k == 2) = false := by rw [beq_eq_false_iff_ne]; exact hk
    have eN : Hid (nms1 h xs = nmsF xs) := by unfold Hid nms1; rw [if_neg hk]; rfl
    have H0 : Hid (GLoop w0 nb (L ++ nms1 h xs) (L.length + 1 + xs.parts) xs 0 (w.alloc (.cells #[.int .i64 h.k, .int .i64 h.o, .string h.nm, .int .i64 h.vk, .int .i64 h.vn, .string h.vs, .slice p m q, .slice a xs.len c] 27))) :=
      ⟨_, _, ST.out, by rw [eN.out]; simp [Fo.drop], by simp only [Fo.drop]; omega⟩
    clear hk ST
    go_enter Tryz.func17, Tryz.ntmps17
    go_wp2_with fail
    go_loopw [5, 17] (fun _ i wr => ∃ k : Nat, k ≤ xs.len ∧ i = .int .i64 k ∧ Hid (GLoop w0 nb (L ++ nms1 h xs) (L.length + 1 + xs.parts) xs k wr)) (fun _ i _ => xs.len - (intOf i).toNat)
    case atStart => exact ⟨0, Nat.zero_le _, rfl, H0.out⟩
    case round =>
      obtain ⟨k, hk, rfl, hR⟩ := hrel
      clear H0
      obtain ⟨M, u, hG, hM, hP⟩ := hR.out
      have HM := Lib.hid hM; clear hM
      have HP := Lib.hid hP; clear hP
      have HG := Lib.hid hG; clear hG hR
      by_cases hlt' : k < xs.len
      · have hkk : (k : Int) < (xs.len : Int) := by omega
        obtain ⟨b, off, rfl, hbl, hF⟩ : ∃ b off, a = some ⟨b, off, none⟩ ∧ b < w0.heap.size ∧ IsF w0 b xs off := by
          rcases HS.out with h | h
          · omega
          · exact h
        obtain ⟨h', a', hd⟩ := Fo.drop_at k xs hlt'
        obtain ⟨sp, sm, sq, p', n', c', g0, g1, g2, g3, g4, g5, g6, g7, hX⟩ := hF.cells hd
        have cc := fun (o : Nat) => HG.out.bel.cell (p := ⟨b, o, none⟩) hbl
        have k0 := (cc _).trans g0
        have k1 := (cc _).trans g1
        have k2 := (cc _).trans g2
        have k3 := (cc _).trans g3
        have k4 := (cc _).trans g4
        have k5 := (cc _).trans g5
        have k6 := (cc _).trans g6
        have k7 := (cc _).trans g7
        have HX := Lib.hid hX
        have HD := Lib.hid hd
        have hdp := Fo.parts_drop hd
        have hbd : Hid (M.length + (a'.parts + 1) ≤ 2100000) := by have := HP.out; unfold Hid; omega
        have HDP := Lib.hid hdp
        clear g0 g1 g2 g3 g4 g5 g6 g7 hX hd cc hF hdp
        have gA := (HG.out.alloc (.cells #[.int .i64 h'.k, .int .i64 h'.o, .string h'.nm, .int .i64 h'.vk, .int .i64 h'.vn, .string h'.vs, .slice sp sm sq, .slice p' n' c'] 27)).gc
        have HGA := Lib.hid (HG.out.alloc (.cells #[.int .i64 h'.k, .int .i64 h'.o, .string h'.nm, .int .i64 h'.vk, .int .i64 h'.vn, .string h'.vs, .slice sp sm sq, .slice p' n' c'] 27))
        go_wp2_with fail
        refine (IH.out k h' a' HD.out _ _ _ nb M HX.out HGA.out hbd.out).mono ?_
        rintro e w4 ⟨rfl, u', hG'⟩
        have f1 : Hid (GLoop w0 nb (L ++ nms1 h xs) (L.length + 1 + xs.parts) xs (k + 1) w4) := by
          refine ⟨M ++ nms1 h' a', u', hG', ?_, ?_⟩
          · rw [List.append_assoc, ← nmsF_drop HD.out]; exact HM.out
          · have h1 := nms1_len h' a'
            have h2 := HP.out
            have h3 := HDP.out
            rw [List.length_append]; omega
        clear hG' gA k0 k1 k2 k3 k4 k5 k6 k7
        go_wp2
        go_roundw
        case rel => exact ⟨k + 1, by omega, by go_num, f1.out⟩
        case measure => simp [intOf]; omega
      · obtain rfl : k = xs.len := by omega
        have hz := Fo.drop_end (xs := xs) rfl
        have e1 : Hid (M = L ++ nms1 h xs) := by unfold Hid; have := HM.out; rw [hz] at this; simpa [nmsF] using this
        clear hz
        go_wp2
        go_end0
        exact ⟨rfl, u, by rw [← e1.out]; exact HG.out⟩
theorem gather_c (w0 : World) (h : Hd) (a : Fo) : GatherC w0 h a := forest_ind (fun h a => GatherC w0 h a) (fun h a ih => gather_step w0 h a ih) h a

set_option maxRecDepth 100000 in
set_option maxHeartbeats 2000000 in
theorem names_c (w0 : World) (h : Hd) (xs : Fo) (v : Value) (w : World) (hp : xs.parts ≤ 1048576) (hx : IsX w0 h xs v) (hb : Below w0.heap.size w0 w) :
    Calls Tryz.prog 9 #[v] w fun e w' => ∃ v', e = .returned v' ∧ Hid (IsS w' v' (canon (nms1 h xs))) ∧ Hid (Below w0.heap.size w0 w') := by
  have hx0 := hx
  have hbs := hb.size
  obtain ⟨sv, a, n, c, rfl, hL, rfl, hs⟩ := hx
  obtain ⟨p, m, q, rfl⟩ := hL.form
  clear hL hs
  have hmf : ∀ (fn : Fn) (first cap : Array Value) (w : World), (Instr.makeFunc fn first cap).run Tryz.prog w = .ok (.func fn first cap) w := fun _ _ _ _ => rfl
  have hG0 : Hid (GSt w0 (w.heap.size + 1) [] (.slice none 0 0) (((w.alloc (.cells #[.int .i64 h.k, .int .i64 h.o, .string h.nm, .int .i64 h.vk, .int .i64 h.vn, .string h.vs, .slice p m q, .slice a xs.len c] 27)).alloc (.cells #[.slice none 0 0] 33)).alloc (.cells #[.func (.func 17) #[] #[.pointer (some ⟨w.heap.size + 1, 0, none⟩), .pointer (some ⟨w.heap.size + 1 + 1, 0, none⟩)]] 42))) := by
    refine ⟨?_, World.ownsRow_nil _ _ _ _, ?_, ?_, ?_, ?_, ?_⟩
    · rw [World.cell?_alloc_past _ _ _ (by simp)]
      simp
    · rw [World.frozen?_alloc_past _ _ _ (by simp)]
      simp
    · have := World.cell?_alloc_new (w := (w.alloc (.cells #[.int .i64 h.k, .int .i64 h.o, .string h.nm, .int .i64 h.vk, .int .i64 h.vn, .string h.vs, .slice p m q, .slice a xs.len c] 27)).alloc (.cells #[.slice none 0 0] 33)) #[.func (.func 17) #[] #[.pointer (some ⟨w.heap.size + 1, 0, none⟩), .pointer (some ⟨w.heap.size + 1 + 1, 0, none⟩)]] 42 0
      simpa using this
    · exact ((hb.alloc hbs _).alloc (by simp; omega) _).alloc (by simp; omega) _
    · omega
    · simp
  have hln := nms1_len h xs
  have hC := Lib.hid (gather_c w0 h xs _ _ _ (w.heap.size + 1) [] hx0 hG0.out (by simp; omega))
  clear hx0 hb
  go_enter Tryz.func9, Tryz.ntmps9
  go_wp2_with fail
  refine hC.out.mono ?_
  rintro e w4 ⟨rfl, u, hG⟩
  rw [List.nil_append] at hG
  obtain ⟨ua, un, uc, rfl⟩ := hG.row.form
  have c4 := hG.cell
  have HG := Lib.hid hG
  have hhi := hG.hi
  have hlo := hG.lo
  have hbl := hG.bel.size
  clear hG hG0 hC
  go_wp2_with fail
  refine (sort_c w4 (w.heap.size + 1 + 2) _ (nms1 h xs) (by omega) HG.out.row).mono ?_
  rintro e w5 ⟨rfl, hR5, hB5⟩
  have c5 : w5.cell? ⟨w.heap.size + 1, 0, none⟩ = some (.slice ua un uc) := by rw [hB5.cell (p := ⟨w.heap.size + 1, 0, none⟩) (by show w.heap.size + 1 < _; omega)]; exact c4
  have HR5 := Lib.hid hR5
  have HB5 := Lib.hid (HG.out.bel.trans (hB5.mono (by omega)))
  have hs5 := hB5.size
  clear hR5 hB5 HG
  go_wp2_with fail
  refine (compact_c w5 (w.heap.size + 1 + 2) _ _ (by rw [List.length_mergeSort]; omega) HR5.out).mono ?_
  rintro e w6 ⟨v', rfl, hR6, hB6⟩
  have H6 : Hid (IsS w6 v' (canon (nms1 h xs))) := RowN.isS hR6
  have HB6 := Lib.hid (HB5.out.trans (hB6.mono (by omega)))
  clear hR6 hB6
  go_wp2
  go_ret
  exact ⟨v', rfl, H6, HB6⟩
end Go.Proofs.YtcdifmnakppfkaaGreatDoor
