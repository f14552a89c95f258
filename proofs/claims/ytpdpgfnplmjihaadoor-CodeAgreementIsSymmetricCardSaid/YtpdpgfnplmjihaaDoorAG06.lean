/-
  The reference of package code: above, lineage.
  The reference of package code: CheckFrame.
  The reference of package code: CheckCodings.
  The reference of package code: lineage.
-/
import Derived.Test.YtpdpgfnplmjihaaDoorAG05
import Derived.Laws.AppendOwnNone
namespace Go.Proofs.YtpdpgfnplmjihaaDoor
open Go.RowKit Go.WideMaps Go.Maps

theorem clm_is {p : Nat → Nat} (h0 : p 0 = 0) {f k c : Nat} (h1 : it p k c ≠ 0) (h2 : it p (k + 1) c = 0) (hf : k + 1 ≤ f) : clm p f c = k + 1 := by
  have a : ¬ k + 1 < clm p f c := fun h => clm_ne h h2
  by_cases b : clm p f c < f
  · have c1 := clm_it b
    by_cases e : clm p f c ≤ k
    · exact absurd (it_stays h0 c1 e) h1
    · omega
  · have := clm_le (p := p) (f := f) (c := c)
    omega
/-- The numbers above a code. -/
def abL (p : Nat → Nat) (c k : Nat) : List Int := (List.range k).map fun i => ((it p (i + 1) c : Nat) : Int)
theorem abL_len (p : Nat → Nat) (c k : Nat) : (abL p c k).length = k := by unfold abL; simp
theorem abL_succ (p : Nat → Nat) (c k : Nat) : abL p c (k + 1) = abL p c k ++ [((it p (k + 1) c : Nat) : Int)] := by unfold abL; rw [List.range_succ, List.map_append]; rfl
def stp (l : List Nd) (c : Nat) : Nat := clm (par l) (l.length + 2) c
def AbP (l : List Nd) (c : Nat) (w : World) (e : Ending) (w' : World) : Prop :=
  (l.length + 1 < stp l c ∧ e = .returned (.tuple #[.slice none 0 0, .bool false]) ∧ Below w.heap.size w w') ∨
  (stp l c ≤ l.length + 1 ∧ ∃ v, e = .returned (.tuple #[v, .bool true]) ∧ w'.ownsRow w.heap.size 3 1 v (stp l c - 1) ((abL (par l) c (stp l c - 1)).map (Value.int .i64)) ∧ Below w.heap.size w w')
theorem fnd_at {l : List Nd} {c : Nat} {r : Int} (h : FndP l (c : Int) r) (hc : Has l c) : ∃ j, j < l.length ∧ r = (j : Int) ∧ (nd l j).cd = (c : Int) := by
  rcases h with ⟨_, h⟩ | h
  · obtain ⟨k, hk, e⟩ := hc
    exact absurd e (h k hk)
  · exact h
theorem pr_it {l : List Nd} (h : Ord l) (hk : Kn l) {c j : Nat} (hj : j < l.length) (e : (nd l j).cd = (c : Int)) : (nd l j).pr = ((par l c : Nat) : Int) := by
  rw [par_at h hj e]
  rcases hk j hj with q | ⟨i, hi, q⟩
  · rw [q]; rfl
  · have := h.rng i hi
    omega
end Go.Proofs.YtpdpgfnplmjihaaDoor
namespace Go.Proofs.YtpdpgfnplmjihaaDoor
open Go.RowKit Go.WideMaps Go.Maps

theorem it_has {l : List Nd} (h : Ord l) (hk : Kn l) {c : Nat} (hc : Has l c) : ∀ {i : Nat}, it (par l) i c ≠ 0 → Has l (it (par l) i c)
  | 0, _ => hc
  | i + 1, hi => by
    rw [it_succ] at hi ⊢
    rcases par_in h hk (c := it (par l) i c) with q | q
    · exact absurd q hi
    · exact q
/-- A way that has not come to its end behind as many steps as there are nodes never comes to it. -/
theorem endless {l : List Nd} (h : Ord l) (hk : Kn l) {c : Nat} (hc : Has l c) (hne : it (par l) l.length c ≠ 0) (k : Nat) : it (par l) k c ≠ 0 := by
  have nz : ∀ i, i ≤ l.length → it (par l) i c ≠ 0 := fun i hi e => hne (it_stays (par_top h) e hi)
  obtain ⟨i, j, hij, hj, e⟩ := pigeon (fun i => it (par l) i c) (l.map fun u => u.cd.toNat) fun i hi => by
    rw [List.length_map] at hi
    obtain ⟨q, hq, eq⟩ := it_has h hk hc (nz i hi)
    exact List.mem_map.2 ⟨nd l q, nd_mem hq, by omega⟩
  rw [List.length_map] at hj
  exact it_round (par_top h) hij e (nz i (by omega)) k
theorem stp_far {l : List Nd} (h : Ord l) {c k : Nat} (hk2 : k < l.length) (e : (nd l k).cd = (c : Int)) (hs : l.length + 1 < stp l c) : l.length < lvl l k := by
  unfold stp at hs
  have a := (clm_full (par_top h) (f := l.length + 1)).1 hs
  unfold lvl
  rw [e, Int.toNat_natCast]
  exact (clm_full (par_top h)).2 fun q => a (it_stays (par_top h) q (by omega))
theorem stp_near {l : List Nd} (h : Ord l) (hk : Kn l) {c k : Nat} (hk2 : k < l.length) (e : (nd l k).cd = (c : Int)) (hs : stp l c ≤ l.length + 1) : stp l c ≤ l.length ∧ lvl l k = stp l c ∧ (abL (par l) c (stp l c - 1)).contains (c : Int) = false := by
  have hz : it (par l) (stp l c) c = 0 := by unfold stp at hs ⊢; exact clm_it (by omega)
  have hc : Has l c := ⟨k, hk2, e⟩
  have h1 : stp l c ≤ l.length := by
    by_cases q : stp l c ≤ l.length
    · exact q
    · exfalso
      have hq : it (par l) l.length c ≠ 0 := by unfold stp at q; exact clm_ne (f := l.length + 2) (by omega)
      exact endless h hk hc hq (stp l c) hz
  refine ⟨h1, ?_, ?_⟩
  · unfold lvl stp at *
    rw [e, Int.toNat_natCast]
    exact clm_eq (f := l.length + 2) (g := l.length + 1) (by omega) (by omega)
  · rw [Bool.eq_false_iff]
    intro q
    rw [List.contains_iff_mem] at q
    unfold abL at q
    obtain ⟨i, hi, ei⟩ := List.mem_map.1 q
    have ei : it (par l) (i + 1) c = c := by omega
    have hp := has_pos h hc
    exact it_round (par_top h) (i := 0) (j := i + 1) (by omega) (by rw [ei]; rfl) (by show c ≠ 0; omega) (stp l c) hz
theorem rd_own {W : World} {base n : Nat} {v : Value} {zs : List Int} (h : W.ownsRow base 3 1 v n (zs.map (Value.int .i64))) (hz : zs.length = n) (hn : n ≤ 9223372036854775807) : ∃ a c, v = .slice a n c ∧ Rd W a zs := by
  rcases h.2 with ⟨rfl, h0⟩ | ⟨g, cap, cur, rfl, hbase, hb, h1, h2, h3, h4⟩
  · exact ⟨none, 0, by rw [h0], by omega, fun h => by omega⟩
  · refine ⟨_, _, rfl, by omega, fun _ => ⟨g, 0, rfl, (Array.getElem?_eq_some_iff.1 hb).1, fun j hj => ?_⟩⟩
    rw [Nat.zero_add, h.cellAt j (by omega)]
    unfold fn
    simp [List.getD, List.getElem?_eq_getElem hj]
theorem knw_fnd {l : List Nd} {c : Int} {r : Int} (h : FndP l c r) (hc : c ≠ 0) : decide (r < 0) = !(knw l c l.length) := by
  rcases h with ⟨rfl, h⟩ | ⟨j, hj, rfl, e⟩
  · have : knw l c l.length = false := by
      rw [Bool.eq_false_iff]
      intro q
      rcases knw_iff.1 q with q | ⟨j, hj, e⟩
      · exact hc q
      · exact h j hj e
    rw [this]; rfl
  · have : knw l c l.length = true := knw_iff.2 (Or.inr ⟨j, hj, e⟩)
    rw [this]
    simp
theorem frS_at {l : List Nd} {k : Nat} (h1 : l.length ≠ 0) (h2 : ¬ 600 < l.length) (hk : k < l.length) (h0 : fe (ndE l) k = 0) (h : ndE l k ≠ 0) : frS l = ndE l k := by
  have e := fe_at hk h0 h
  unfold frS
  rw [if_neg h1, if_neg h2, if_pos (by rw [e]; exact h), e]
end Go.Proofs.YtpdpgfnplmjihaaDoor
namespace Go.Proofs.YtpdpgfnplmjihaaDoor
open Go.RowKit Go.WideMaps Go.Maps

theorem fnd_has {l : List Nd} (Fl : Fr l) {c : Int} {r : Int} (h : FndP l c r) : decide (r < 0) = !(hasS l c) := by
  rcases h with ⟨rfl, h⟩ | ⟨j, hj, rfl, e⟩
  · have : hasS l c = false := by
      rw [Bool.eq_false_iff]
      intro q
      obtain ⟨k, rfl, j, hj, e⟩ := (hasS_iff Fl).1 q
      exact h j hj e
    rw [this]; rfl
  · have : hasS l c = true := (hasS_iff Fl).2 ⟨c.toNat, by have := Fl.ord.rng j hj; omega, j, hj, by have := Fl.ord.rng j hj; omega⟩
    rw [this]
    simp
theorem lst_z (C : List Cg) : lst C 0 = cg0 := rfl
theorem lst_s (C : List Cg) (m : Nat) : lst C (m + 1) = cg C m := by unfold lst; rw [if_neg (by omega)]; rfl
end Go.Proofs.YtpdpgfnplmjihaaDoor
namespace Go.Proofs.YtpdpgfnplmjihaaDoor
open Go.RowKit Go.WideMaps Go.Maps

theorem stp_lev {l : List Nd} (F : Fr l) {c : Nat} (hc : Has l c) : stp l c = lev l c := by
  have h := F.lev hc
  unfold stp
  rw [h.1]
  refine clm_eq (f := l.length + 1) (g := l.length + 2) ?_ ?_
  · have := h.2.2.2; rw [h.1] at this; omega
  · have := h.2.2.2; rw [h.1] at this; omega
/-- A code and those above it. -/
def pth (p : Nat → Nat) (c n : Nat) : List Int := (List.range n).map fun i => ((it p i c : Nat) : Int)
theorem pth_len (p : Nat → Nat) (c n : Nat) : (pth p c n).length = n := by unfold pth; simp
theorem pth_at {p : Nat → Nat} {c n i : Nat} (hi : i < n) : fn (pth p c n) i = ((it p i c : Nat) : Int) := by
  unfold fn pth
  rw [List.getD, List.getElem?_map, List.getElem?_range hi]
  rfl
theorem pth_cons (p : Nat → Nat) (c n : Nat) : pth p c (n + 1) = (c : Int) :: abL p c n := by
  unfold pth abL
  rw [List.range_succ_eq_map, List.map_cons, List.map_map]
  rfl
def LnP (l : List Nd) (c : Nat) (w : World) (e : Ending) (w' : World) : Prop := ∃ a cap, e = .returned (.slice a (lev l c) cap) ∧ Rd w' a (pth (par l) c (lev l c)) ∧ Below w.heap.size w w' ∧ w'.ownsRow w.heap.size 3 1 (.slice a (lev l c) cap) (lev l c) ((pth (par l) c (lev l c)).map (Value.int .i64))
end Go.Proofs.YtpdpgfnplmjihaaDoor
