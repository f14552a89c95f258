/-
  The reference of package code: lineage.
-/
import Derived.Test.YthdmodmplpoejaaDoorCdRchkC
import Derived.Laws.AppendOwnNone
namespace Go.Proofs.YthdmodmplpoejaaDoor
open Go.RowKit Go.WideMaps Go.Maps

theorem stp_lev {l : List Nd} (F : Fr l) {c : Nat} (hc : Has l c) : stp l c = lev l c := by
  have h := F.lev hc
  unfold stp
  rw [h.1]
  refine clm_eq (f := l.length + 1) (g := l.length + 2) ?_ ?_
  · have := h.2.2.2; rw [h.1] at this; omega
  · have := h.2.2.2; rw [h.1] at this; omega
/-- A code and those above it. -/
def pth (p : Nat → Nat) (c n : Nat) : List Int := (List.range n).map fun i => ((it p i c : Nat) : Int)
theorem pth_len (p : Nat → Nat) (c n : Nat) : (pth p c n).length = n := by unfold pth; simp
theorem pth_at {p : Nat → Nat} {c n i : Nat} (hi : i < n) : fn (pth p c n) i = ((it p i c : Nat) : Int) := by
  unfold fn pth
  rw [List.getD, List.getElem?_map, List.getElem?_range hi]
  rfl
theorem pth_cons (p : Nat → Nat) (c n : Nat) : pth p c (n + 1) = (c : Int) :: abL p c n := by
  unfold pth abL
  rw [List.range_succ_eq_map, List.map_cons, List.map_map]
  rfl
def LnP (l : List Nd) (c : Nat) (w : World) (e : Ending) (w' : World) : Prop := ∃ a cap, e = .returned (.slice a (lev l c) cap) ∧ Rd w' a (pth (par l) c (lev l c)) ∧ Below w.heap.size w w' ∧ w'.ownsRow w.heap.size 3 1 (.slice a (lev l c) cap) (lev l c) ((pth (par l) c (lev l c)).map (Value.int .i64))
set_option maxRecDepth 100000 in
set_option maxHeartbeats 2000000 in
theorem rlineage_c (a : Option Addr) (ca : Nat) (l : List Nd) (c : Nat) (w : World) (hl : RdN w a l) (F : Fr l) (hc : Has l c) :
    Calls Tryd.prog 44 #[.slice a l.length ca, .int .i64 (c : Nat)] w (LnP l c w) := by
  obtain ⟨i0, hi, hz0, hz1, hz2⟩ := info_parts infoI
  have HA := Lib.hid (rabove_c a ca l c w hl F.ord F.kn F.le hc)
  have hs := stp_lev F hc
  have hv := F.lev hc
  obtain ⟨t, ht⟩ : ∃ t, lev l c = t + 1 := ⟨lev l c - 1, by omega⟩
  have HS : Hid (stp l c = t + 1 ∧ lev l c = t + 1 ∧ t ≤ 600 ∧ stp l c ≤ l.length + 1) := ⟨by omega, ht, by have := F.le; omega, by omega⟩
  have hp := has_pos F.ord hc
  clear hl F hc hs hv ht
  go_enter Tryd.func44, Tryd.ntmps44
  go_wp2_with fail
  (with_reducible refine HA.out.mono ?_)
  rintro e w1 hab
  obtain ⟨hfar, _⟩ | ⟨_, v, rfl, hown, b1⟩ := hab
  · exact absurd HS.out.2.2.2 (by omega)
  rw [HS.out.1, Nat.add_sub_cancel] at hown
  have OW := Lib.hid hown
  have B1 := Lib.hid b1
  have OL : Hid ((w1.alloc (.cells #[.int .i64 (c : Nat)] 3)).ownsRow w.heap.size 3 1 (.slice (some ⟨w1.heap.size, 0, none⟩) 1 1) 1 [.int .i64 (c : Nat)]) := World.ownsRow_lit w1 #[.int .i64 (c : Nat)] 1 b1.size (by unfold maxLen; omega) rfl
  have FIN : Hid (∀ v' w4, w4.ownsRow w.heap.size 3 1 v' (1 + t) ([.int .i64 (c : Nat)] ++ (abL (par l) c t).map (Value.int .i64)) → Below w.heap.size w w4 → LnP l c w (.returned v') w4) := by
    intro v' w4 h b4
    have e : [Value.int .i64 (c : Nat)] ++ (abL (par l) c t).map (Value.int .i64) = (pth (par l) c (t + 1)).map (Value.int .i64) := by rw [pth_cons]; rfl
    rw [e, Nat.add_comm] at h
    obtain ⟨a', c', rfl, hr⟩ := rd_own h (pth_len _ _ _) (by have := HS.out.2.2.1; omega)
    exact ⟨a', c', by rw [HS.out.2.1], by rw [HS.out.2.1]; exact hr, b4, by rw [HS.out.2.1]; exact h⟩
  have t6 := HS.out.2.2.1
  have G4 : Hid (∀ w4, (w1.alloc (.cells #[.int .i64 (c : Nat)] 3)).grownBy w4 (some w1.heap.size) → Below w.heap.size w w4) := fun w4 hg =>
    (B1.out.alloc B1.out.size _).grown hg (by have := B1.out.size; simp; omega) (fun g hg => by cases hg; exact B1.out.size)
  clear b1
  rcases hown.2 with ⟨rfl, h0⟩ | ⟨g, cap, cur, rfl, hbase, hb, h1, h2, h3, h4⟩
  · subst h0
    clear hown
    go_wp2_with (at_builtin; refine wpList_append_own_none _ rfl _ _ 27 rfl w.heap.size 3 i0 1 Tryd.underlying27 hi _ _ _ rfl OL.out _ rfl ?_)
    go_wp2
    go_ret
    exact FIN.out _ _ (by simpa [abL] using OL.out) (B1.out.alloc B1.out.size _)
  · have SRC : Hid (∀ j u, ((abL (par l) c t).map (Value.int .i64))[j]? = some u → (w1.alloc (.cells #[.int .i64 (c : Nat)] 3)).cell? ((⟨g, 0, none⟩ : Addr).add j) = some u) := by
      intro j u hu
      have hj : j < t := by
        have := (List.getElem?_eq_some_iff.1 hu).1
        rw [List.length_map, abL_len] at this; exact this
      have hlt := lt_of_block hb
      rw [add_at, Nat.zero_add, (bel_one w1 _).cell (p := ⟨g, j, none⟩) hlt, hown.cellAt j (by omega)]
      exact hu
    clear hown hb h1 h2 h3 h4 hbase
    go_wp2_with (at_builtin; refine wpList_append_own _ rfl _ _ 27 rfl w.heap.size 3 i0 (.int .i64 0) 1 8 Tryd.underlying27 hi hz0 hz1 hz2 rfl (by decide) _ _ _ rfl OL.out ⟨g, 0, none⟩ t cap ((abL (par l) c t).map (Value.int .i64)) rfl (by rw [List.length_map, abL_len]; omega) SRC.out (ints_oneCell .i64 _) ?c3 ?c4 ?c5 ?_)
    case c3 => unfold maxLen; omega
    case c4 => omega
    case c5 => have := B1.out.size; simp; omega
    intro v' w4 hown' hgrow _
    have R := Lib.hid (FIN.out v' w4 hown' (G4.out w4 hgrow))
    clear hown' hgrow
    go_wp2
    go_ret
    exact R.out
end Go.Proofs.YthdmodmplpoejaaDoor
