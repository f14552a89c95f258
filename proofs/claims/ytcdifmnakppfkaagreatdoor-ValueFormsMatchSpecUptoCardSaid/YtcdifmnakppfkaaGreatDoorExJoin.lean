/-
  printed, printedOpposite and joined of package value, over contracts of plain.
-/
import Derived.Test.YtcdifmnakppfkaaGreatDoorExBox
import Derived.Test.YtcdifmnakppfkaaGreatDoorTxtRow
namespace Go.Proofs.YtcdifmnakppfkaaGreatDoor
open Go.RowKit

/-- A text comes back: this one. -/
def TE (t : ByteArray) (w : World) (e : Ending) (w' : World) : Prop := e = .returned (.string t) ∧ Below w.heap.size w w'
theorem te_of {l : List UInt8} {w w' : World} {e : Ending} (h : TP l w e w') : TE (bs l) w e w' := by
  obtain ⟨t, he, _, ht, hB⟩ := h
  exact ⟨by rw [he, ht.out], hB.out⟩
def PlainC (w0 : World) (h : Hd) (a : Fo) : Prop := ∀ (v : Value) (w : World), IsX w0 h a v → Below w0.heap.size w0 w → Calls Tryz.prog 20 #[v] w (TE (bs (plainS h (txs a))) w)
def PrintedC (w0 : World) (h : Hd) (a : Fo) : Prop := ∀ (v : Value) (r : Int) (w : World), IsX w0 h a v → Below w0.heap.size w0 w → Calls Tryz.prog 11 #[v, .int .i64 r] w (TE (bs ((txOf h a).put r)) w)
theorem op_known {h : Hd} {a : Fo} (e : partS h a = 0) : h.k ≠ 4 ∨ (1 ≤ h.o ∧ h.o ≤ 39) := by
  rcases part_ok e with ⟨h1, _⟩ | ⟨h1, _⟩ | ⟨h1, _⟩ | ⟨_, h2, h3, _⟩ | ⟨h1, _⟩
  all_goals first | (left; omega) | (right; exact ⟨h2, h3⟩)
set_option maxHeartbeats 1000000 in
theorem printed_of (w0 : World) (h : Hd) (a : Fo) (hP : PlainC w0 h a) (hk : h.k ≠ 4 ∨ (1 ≤ h.o ∧ h.o ≤ 39)) (hl : (plainS h (txs a)).length ≤ 4000000) : PrintedC w0 h a := by
  intro v r w hx hb
  have hx0 := hx
  obtain ⟨sv, av, n, c, rfl, hL, rfl, hs⟩ := hx
  obtain ⟨p, m, q, rfl⟩ := hL.form
  clear hL hs
  have hb1 := hb.alloc hb.size (.cells #[.int .i64 h.k, .int .i64 h.o, .string h.nm, .int .i64 h.vk, .int .i64 h.vn, .string h.vs, .slice p m q, .slice av a.len c] 27)
  have HP := Lib.hid (hP _ _ hx0 hb1)
  have HB1 := Lib.hid ((Below.refl w.heap.size w).alloc (Nat.le_refl _) (.cells #[.int .i64 h.k, .int .i64 h.o, .string h.nm, .int .i64 h.vk, .int .i64 h.vn, .string h.vs, .slice p m q, .slice av a.len c] 27))
  have HR := Lib.hid (fun w => rowOf_c h.k h.o h.nm h.vk h.vn h.vs p m q av a.len c w hk)
  have eT : Hid ((txOf h a).put r = if rowS h.k h.o < r then paren (plainS h (txs a)) else plainS h (txs a)) := rfl
  clear hx0 hb hb1 hP hk
  generalize rowS h.k h.o = x at HR eT
  obtain ⟨t, ht⟩ : ∃ t, t = bs (plainS h (txs a)) := ⟨_, rfl⟩
  have hts : t.size ≤ 4000000 := by rw [ht, bs_size]; exact hl
  rw [← ht] at HP
  have HT := Lib.hid ht; clear ht hl
  by_cases hr : x < r
  · have e : Hid (bs ((txOf h a).put r) = bs [40] ++ t ++ bs [41]) := by
      unfold Hid; rw [eT.out, if_pos hr, HT.out, bs_app, bs_app]; simp [paren]
    clear eT
    go_enter Tryz.func11, Tryz.ntmps11
    go_wp2_with fail
    refine HP.out.mono ?_
    rintro e1 w1 ⟨rfl, hB⟩
    have HB2 := Lib.hid (HB1.out.trans (hB.mono HB1.out.size))
    obtain ⟨bc, bf⟩ := bcell hB
    clear hB
    go_wp2_with fail
    refine (HR.out _).mono ?_
    rintro e2 w2 ⟨rfl, hB⟩
    have HB3 := Lib.hid (HB2.out.trans (hB.mono HB2.out.size)); clear hB bc bf
    go_wp2
    go_ret
    exact ⟨by rw [e.out]; rfl, HB3.out⟩
  · have hr' : decide (x < r) = false := by simpa using hr
    have e : Hid (bs ((txOf h a).put r) = t) := by unfold Hid; rw [eT.out, if_neg hr, HT.out]
    clear eT hr
    go_enter Tryz.func11, Tryz.ntmps11
    go_wp2_with fail
    refine HP.out.mono ?_
    rintro e1 w1 ⟨rfl, hB⟩
    have HB2 := Lib.hid (HB1.out.trans (hB.mono HB1.out.size))
    obtain ⟨bc, bf⟩ := bcell hB
    clear hB
    go_wp2_with fail
    refine (HR.out _).mono ?_
    rintro e2 w2 ⟨rfl, hB⟩
    have HB3 := Lib.hid (HB2.out.trans (hB.mono HB2.out.size)); clear hB bc bf
    go_wp2
    go_ret
    exact ⟨by rw [e.out]; rfl, HB3.out⟩
set_option maxHeartbeats 1000000 in
theorem opposite_of (w0 : World) (h : Hd) (a : Fo) (hP : PlainC w0 h a) (hQ : PrintedC w0 h a) (hl : (plainS h (txs a)).length ≤ 4000000) (v : Value) (w : World) (hx : IsX w0 h a v) (hb : Below w0.heap.size w0 w) :
    Calls Tryz.prog 34 #[v] w (TE (bs (txOf h a).opp) w) := by
  have hx0 := hx
  obtain ⟨sv, av, n, c, rfl, hL, rfl, hs⟩ := hx
  obtain ⟨p, m, q, rfl⟩ := hL.form
  clear hL hs
  have hb1 := hb.alloc hb.size (.cells #[.int .i64 h.k, .int .i64 h.o, .string h.nm, .int .i64 h.vk, .int .i64 h.vn, .string h.vs, .slice p m q, .slice av a.len c] 27)
  have HP := Lib.hid (hP _ _ hx0 hb1)
  have HQ := Lib.hid (hQ _ 7 _ hx0 hb1)
  have HB1 := Lib.hid ((Below.refl w.heap.size w).alloc (Nat.le_refl _) (.cells #[.int .i64 h.k, .int .i64 h.o, .string h.nm, .int .i64 h.vk, .int .i64 h.vn, .string h.vs, .slice p m q, .slice av a.len c] 27))
  clear hx0 hb hb1 hP hQ
  have eT : Hid ((txOf h a).opp = if posS h = true then paren (plainS h (txs a)) else (txOf h a).put 7) := rfl
  have eP : Hid (posS h = decide (h.k = 1 ∧ h.vk = 2 ∧ 0 ≤ h.vn)) := rfl
  obtain ⟨t, ht⟩ : ∃ t, t = bs (plainS h (txs a)) := ⟨_, rfl⟩
  have hts : t.size ≤ 4000000 := by rw [ht, bs_size]; exact hl
  rw [← ht] at HP
  have HT := Lib.hid ht; clear ht hl
  obtain ⟨k, o, nm, vk, vn, vs, vl⟩ := h
  simp only at *
  by_cases h1 : k = 1
  · have k1 : (k == 1) = true := by simpa using h1
    by_cases h2 : vk = 2
    · have k2 : (vk == 2) = true := by simpa using h2
      by_cases h3 : 0 ≤ vn
      · have e : Hid (bs (txOf ⟨k, o, nm, vk, vn, vs, vl⟩ a).opp = bs [40] ++ t ++ bs [41]) := by
          unfold Hid; rw [eT.out, if_pos (by rw [eP.out]; simp [h1, h2, h3]), HT.out, bs_app, bs_app]; simp [paren]
        clear eT eP h1 h2 HQ
        go_enter Tryz.func34, Tryz.ntmps34
        go_wp2_with fail
        refine HP.out.mono ?_
        rintro e1 w1 ⟨rfl, hB⟩
        have HB2 := Lib.hid (HB1.out.trans (hB.mono HB1.out.size)); clear hB
        go_wp2
        go_ret
        exact ⟨by rw [e.out]; rfl, HB2.out⟩
      · have k3 : decide (0 ≤ vn) = false := by simpa using h3
        have e : Hid ((txOf ⟨k, o, nm, vk, vn, vs, vl⟩ a).opp = (txOf ⟨k, o, nm, vk, vn, vs, vl⟩ a).put 7) := by unfold Hid; rw [eT.out, if_neg (by rw [eP.out]; simp [h3])]
        clear eT eP h1 h2 h3 HP
        go_enter Tryz.func34, Tryz.ntmps34
        go_wp2_with fail
        refine HQ.out.mono ?_
        rintro e1 w1 ⟨rfl, hB⟩
        have HB2 := Lib.hid (HB1.out.trans (hB.mono HB1.out.size)); clear hB
        go_wp2
        go_ret
        exact ⟨by rw [e.out]; rfl, HB2.out⟩
    · have k2 : (vk == 2) = false := by rw [beq_eq_false_iff_ne]; exact h2
      have e : Hid ((txOf ⟨k, o, nm, vk, vn, vs, vl⟩ a).opp = (txOf ⟨k, o, nm, vk, vn, vs, vl⟩ a).put 7) := by unfold Hid; rw [eT.out, if_neg (by rw [eP.out]; simp [h2])]
      clear eT eP h1 h2 HP
      go_enter Tryz.func34, Tryz.ntmps34
      go_wp2_with fail
      refine HQ.out.mono ?_
      rintro e1 w1 ⟨rfl, hB⟩
      have HB2 := Lib.hid (HB1.out.trans (hB.mono HB1.out.size)); clear hB
      go_wp2
      go_ret
      exact ⟨by rw [e.out]; rfl, HB2.out⟩
  · have k1 : (k == 1) = false := by rw [beq_eq_false_iff_ne]; exact h1
    have e : Hid ((txOf ⟨k, o, nm, vk, vn, vs, vl⟩ a).opp = (txOf ⟨k, o, nm, vk, vn, vs, vl⟩ a).put 7) := by unfold Hid; rw [eT.out, if_neg (by rw [eP.out]; simp [h1])]
    clear eT eP h1 HP
    go_enter Tryz.func34, Tryz.ntmps34
    go_wp2_with fail
    refine HQ.out.mono ?_
    rintro e1 w1 ⟨rfl, hB⟩
    have HB2 := Lib.hid (HB1.out.trans (hB.mono HB1.out.size)); clear hB
    go_wp2
    go_ret
    exact ⟨by rw [e.out]; rfl, HB2.out⟩

/-- strings.Join of texts of any length, at any separator. -/
theorem joinG_c (b n c : Nat) (xs : List (List UInt8)) (sep : List UInt8) (w : World) (hn : xs.length = n) (h0 : 0 < n) (hl : (Lib.join xs sep).length ≤ 9000000) (h40 : n ≤ 1000) (hc : n ≤ c)
    (hrow : ∀ j, j < n → w.cell? ⟨b, j, none⟩ = some (.string (bs (xs.getD j [])))) :
    Calls Tryz.prog 46 #[.slice (some ⟨b, 0, none⟩) n c, .string (bs sep)] w (TE (bs (Lib.join xs sep)) w) := by
  have hb : b < w.heap.size := by
    have h1 := (hrow 0 (by omega))
    rcases Nat.lt_or_ge b w.heap.size with l | l
    · exact l
    · simp [World.cell?, Array.getElem?_eq_none l] at h1
  have hm : (xs.map bs).map (·.data.toList) = xs := by
    rw [List.map_map]
    conv => rhs; rw [← List.map_id xs]
    exact List.map_congr_left fun x _ => bs_list x
  have J := Tryz.strings_Join b 0 c (xs.map bs) (bs sep) w (fun j x hj => by
    rw [List.getElem?_map] at hj
    obtain ⟨y, hy, rfl⟩ := Option.map_eq_some_iff.1 hj
    have hj' : j < n := by
      have := List.getElem?_eq_some_iff.1 hy
      rw [← hn]; exact this.1
    rw [Nat.zero_add, hrow j hj', List.getD_eq_getElem?_getD, hy]; rfl) hb (by rw [List.length_map]; omega) (by rw [List.length_map]; omega) (by
      rw [hm, bs_list]; omega)
  rw [hm, List.length_map, hn, bs_list] at J
  exact J.mono fun _ _ ⟨he, hb⟩ => ⟨he, hb⟩

set_option maxHeartbeats 2000000 in
theorem joined_c (w0 : World) (xs : Fo) (a : Option Addr) (c : Nat) (r : Int) (sep : List UInt8) (h0 : 0 < xs.len) (hlen : xs.len ≤ 1000) (hsep : sep.length ≤ 10) (htot : total (txs xs) ≤ 4000000)
    (hs : xs.len = 0 ∨ ∃ b off, a = some ⟨b, off, none⟩ ∧ b < w0.heap.size ∧ IsF w0 b xs off) (ih : ∀ k h' a', xs.drop k = .cons h' a' (xs.drop (k + 1)) → PrintedC w0 h' a')
    (w : World) (hb : Below w0.heap.size w0 w) :
    Calls Tryz.prog 33 #[.slice a xs.len c, .int .i64 r, .string (bs sep)] w (TE (bs (joinX (txs xs) r sep)) w) := by
  have hjl := joinX_len (txs xs) r sep hsep
  have hJ := Lib.hid (fun (w1 : World) (c : Nat) (hc : xs.len ≤ c) hrow => joinG_c w.heap.size xs.len c ((txs xs).map (·.put r)) sep w1 (by rw [List.length_map, txs_len]) h0 (by unfold joinX at hjl; omega) hlen hc hrow)
  have IH := Lib.hid ih; clear ih hjl htot
  obtain ⟨b, off, rfl, hbl, hF⟩ : ∃ b off, a = some ⟨b, off, none⟩ ∧ b < w0.heap.size ∧ IsF w0 b xs off := by
    rcases hs with h | h
    · omega
    · exact h
  have HF := Lib.hid hF; clear hF
  have HB0 := Lib.hid hb; have hbs := hb.size; clear hb
  generalize hsp : bs sep = spt at *
  clear hsp
  have hmk := run_make_row' (P := Tryz.prog) 33 9 (.string ByteArray.empty) 16 Tryz.underlying33 infoS rfl .i64 .i64 xs.len (by omega) (by omega)
  go_enter Tryz.func33, Tryz.ntmps33
  go_wp2_with fail
  have hS0 := Lib.hid (Laid.start w xs.len (fun j => ((txs xs).getD j default).put r))
  generalize w.alloc (.cells (madeCells #[.string ByteArray.empty] xs.len) 9) = w2 at hS0
  clear hmk
  go_loopw [8, 9, 15] (fun _ _ i wr => ∃ k : Nat, k ≤ xs.len ∧ i = .int .i64 k ∧ Hid (Laid w xs.len (fun j => ((txs xs).getD j default).put r) k wr)) (fun _ _ i _ => xs.len - (intOf i).toNat)
  case atStart => exact ⟨0, Nat.zero_le _, rfl, hS0.out⟩
  case round =>
    obtain ⟨k, hk, rfl, hR⟩ := hrel
    clear hS0
    by_cases hlt : k < xs.len
    · have hkk : (k : Int) < (xs.len : Int) := by omega
      obtain ⟨h', a', hd⟩ := Fo.drop_at k xs hlt
      obtain ⟨sp, sm, sq, p', n', c', g0, g1, g2, g3, g4, g5, g6, g7, hX⟩ := HF.out.cells hd
      have hBB := HB0.out.trans (hR.out.bel.mono hbs)
      have cc := fun (o : Nat) => hBB.cell (p := ⟨b, o, none⟩) hbl
      have k0 := (cc _).trans g0
      have k1 := (cc _).trans g1
      have k2 := (cc _).trans g2
      have k3 := (cc _).trans g3
      have k4 := (cc _).trans g4
      have k5 := (cc _).trans g5
      have k6 := (cc _).trans g6
      have k7 := (cc _).trans g7
      have HX := Lib.hid hX
      have HD := Lib.hid hd
      have HBB := Lib.hid hBB
      have eT := Lib.hid (txs_at hd)
      clear g0 g1 g2 g3 g4 g5 g6 g7 hX hd cc hBB
      go_wp2_with fail
      refine (IH.out k h' a' HD.out _ r _ HX.out (HBB.out.alloc HBB.out.size _)).mono ?_
      rintro e w3 ⟨rfl, hB⟩
      have hB2 := (Below.refl wr.heap.size wr).alloc (Nat.le_refl _) (.cells #[.int .i64 h'.k, .int .i64 h'.o, .string h'.nm, .int .i64 h'.vk, .int .i64 h'.vn, .string h'.vs, .slice sp sm sq, .slice p' n' c'] 27)
      have hR2 := Lib.hid (hR.out.keep (hB2.trans (hB.mono hB2.size)))
      have cc := (hR2.out.row k hlt).1
      have ff := (hR2.out.row k hlt).2
      simp only [if_neg (Nat.lt_irrefl k)] at cc
      have hN := Lib.hid (hR2.out.next (bs ((txOf h' a').put r)) (by rw [eT.out]))
      clear hR hR2 hB hB2 k0 k1 k2 k3 k4 k5 k6 k7
      go_wp2
      go_roundw
      case rel => exact ⟨k + 1, by omega, by go_num, hN.out⟩
      case measure => simp [intOf]; omega
    · obtain rfl : k = xs.len := by omega
      go_wp2_with fail
      refine (hJ.out _ xs.len (Nat.le_refl _) (fun j hj => by
        have := (hR.out.row j hj).1
        simp only [if_pos hj] at this
        rw [this]
        have hjl : j < (txs xs).length := by rw [txs_len]; exact hj
        simp [hjl])).mono ?_
      rintro e w3 ⟨rfl, hB2⟩
      have hB := Lib.hid (hR.out.bel.trans (hB2.mono hR.out.bel.size)); clear hR hB2
      go_wp2
      go_ret
      exact ⟨rfl, hB.out⟩
end Go.Proofs.YtcdifmnakppfkaaGreatDoor
