/-
  The reference of package code: above, lineage.
-/
import Derived.Test.YthdmodmplpoejaaDoorCdRf
namespace Go.Proofs.YthdmodmplpoejaaDoor
open Go.RowKit Go.WideMaps Go.Maps

theorem clm_is {p : Nat → Nat} (h0 : p 0 = 0) {f k c : Nat} (h1 : it p k c ≠ 0) (h2 : it p (k + 1) c = 0) (hf : k + 1 ≤ f) : clm p f c = k + 1 := by
  have a : ¬ k + 1 < clm p f c := fun h => clm_ne h h2
  by_cases b : clm p f c < f
  · have c1 := clm_it b
    by_cases e : clm p f c ≤ k
    · exact absurd (it_stays h0 c1 e) h1
    · omega
  · have := clm_le (p := p) (f := f) (c := c)
    omega
/-- The numbers above a code. -/
def abL (p : Nat → Nat) (c k : Nat) : List Int := (List.range k).map fun i => ((it p (i + 1) c : Nat) : Int)
theorem abL_len (p : Nat → Nat) (c k : Nat) : (abL p c k).length = k := by unfold abL; simp
theorem abL_succ (p : Nat → Nat) (c k : Nat) : abL p c (k + 1) = abL p c k ++ [((it p (k + 1) c : Nat) : Int)] := by unfold abL; rw [List.range_succ, List.map_append]; rfl
def stp (l : List Nd) (c : Nat) : Nat := clm (par l) (l.length + 2) c
def AbP (l : List Nd) (c : Nat) (w : World) (e : Ending) (w' : World) : Prop :=
  (l.length + 1 < stp l c ∧ e = .returned (.tuple #[.slice none 0 0, .bool false]) ∧ Below w.heap.size w w') ∨
  (stp l c ≤ l.length + 1 ∧ ∃ v, e = .returned (.tuple #[v, .bool true]) ∧ w'.ownsRow w.heap.size 3 1 v (stp l c - 1) ((abL (par l) c (stp l c - 1)).map (Value.int .i64)) ∧ Below w.heap.size w w')
theorem fnd_at {l : List Nd} {c : Nat} {r : Int} (h : FndP l (c : Int) r) (hc : Has l c) : ∃ j, j < l.length ∧ r = (j : Int) ∧ (nd l j).cd = (c : Int) := by
  rcases h with ⟨_, h⟩ | h
  · obtain ⟨k, hk, e⟩ := hc
    exact absurd e (h k hk)
  · exact h
theorem pr_it {l : List Nd} (h : Ord l) (hk : Kn l) {c j : Nat} (hj : j < l.length) (e : (nd l j).cd = (c : Int)) : (nd l j).pr = ((par l c : Nat) : Int) := by
  rw [par_at h hj e]
  rcases hk j hj with q | ⟨i, hi, q⟩
  · rw [q]; rfl
  · have := h.rng i hi
    omega
set_option maxRecDepth 100000 in
set_option maxHeartbeats 4000000 in
theorem rabove_c (a : Option Addr) (ca : Nat) (l : List Nd) (c : Nat) (w : World) (hl : RdN w a l) (hO : Ord l) (hK : Kn l) (hn : l.length ≤ 600) (hc : Has l c) :
    Calls Tryd.prog 39 #[.slice a l.length ca, .int .i64 (c : Nat)] w (AbP l c w) := by
  obtain ⟨i0, hi, hz0, hz1, hz2⟩ := info_parts infoI
  have HL := Lib.hid hl
  have HOK := Lib.hid (And.intro hO hK)
  have HF := Lib.hid (fun (d : Nat) W (hb : Below w.heap.size w W) => rfind_c a ca l (d : Int) W (hl.below hb))
  have HC := Lib.hid hc
  have HT := Lib.hid (par_top hO)
  have hp := has_pos hO hc
  clear hl hO hK hc
  go_enter Tryd.func39, Tryd.ntmps39
  go_wp2_with fail
  (with_reducible refine (HF.out c w (Below.refl _ _)).mono ?_)
  rintro e w1 ⟨⟨r, rfl, hr⟩, b1⟩
  obtain ⟨j0, hj0, rfl, ej0⟩ := fnd_at hr HC.out
  have B1 := Lib.hid b1
  have S0 : Hid (w1.ownsRow w.heap.size 3 1 (.slice none 0 0) 0 ((abL (par l) c 0).map (Value.int .i64)) ∧ Below w.heap.size w w1 ∧ (nd l j0).cd = ((it (par l) 0 c : Nat) : Int)) := ⟨World.ownsRow_nil _ _ _ _, b1, ej0⟩
  clear hr b1 ej0
  go_wp2_with fail
  go_loopw [6, 7] (fun v i wr => ∃ k j : Nat, j < l.length ∧ k ≤ l.length ∧ i = .int .i64 j ∧ Hid (wr.ownsRow w.heap.size 3 1 v k ((abL (par l) c k).map (Value.int .i64)) ∧ Below w.heap.size w wr ∧ (nd l j).cd = ((it (par l) k c : Nat) : Int))) (fun v _ _ => l.length + 1 - (match v with | .slice _ n _ => n | _ => 0))
  case atStart => exact ⟨0, j0, hj0, Nat.zero_le _, rfl, S0.out⟩
  case round =>
    clear S0 B1
    obtain ⟨k, j, hj, hk, rfl, hS⟩ := hrel
    obtain ⟨b', off, rfl, u0, u1, u2⟩ := (HL.out.below hS.out.2.1).at_ hj
    have hj' : (j : Int) < (l.length : Int) := by omega
    have epr := pr_it HOK.out.1 HOK.out.2 hj hS.out.2.2
    rw [← it_succ (p := par l)] at epr
    have hne : it (par l) k c ≠ 0 := by
      have := HOK.out.1.rng j hj
      have := hS.out.2.2
      omega
    have hmv : ∃ a n cc, u6 = .slice a n cc ∧ n = k := by
      rcases hS.out.1.2 with ⟨rfl, h⟩ | ⟨g, cap, cur, rfl, _⟩
      · exact ⟨none, 0, 0, rfl, h.symm⟩
      · exact ⟨_, _, _, rfl, rfl⟩
    by_cases hz : it (par l) (k + 1) c = 0
    · have ST : Hid (stp l c = k + 1) := clm_is HT.out hne hz (by omega)
      rw [hz] at epr
      rw [epr] at u1
      have R : Hid (AbP l c w (.returned (.tuple #[u6, .bool true])) wr) := Or.inr ⟨by rw [ST.out]; omega, u6, rfl, by rw [ST.out, Nat.add_sub_cancel]; exact hS.out.1, hS.out.2.1⟩
      clear hS epr hne hz hmv
      go_wp2
      go_ret2
      exact R.out
    · obtain ⟨d, hd⟩ : ∃ d, it (par l) (k + 1) c = d := ⟨_, rfl⟩
      rw [hd] at epr hz
      rw [epr] at u1
      have hd0 : ((d : Int) == 0) = false := by rw [beq_eq_false_iff_ne]; omega
      have hd1 : ((d : Int) != 0) = true := by rw [bne, hd0]; rfl
      have HD := Lib.hid hd
      have HZ := Lib.hid hz
      have hin : Has l d := by
        rcases par_in HOK.out.1 HOK.out.2 (c := it (par l) k c) with h | h
        · rw [← it_succ (p := par l), hd] at h; exact absurd h hz
        · rw [← it_succ (p := par l), hd] at h; exact h
      have HIN := Lib.hid hin
      clear hne hz epr hin hd
      obtain ⟨av, nv, cv, rfl, rfl⟩ := hmv
      have hown := hS.out.1
      have hbel := Lib.hid hS.out.2.1
      have u1' : wr.cell? ⟨b', off + j * 3 + 1, none⟩ = some (.int .i64 (d : Nat)) := u1
      go_wp2_with (at_builtin; refine wpList_append_own _ rfl _ _ 27 rfl w.heap.size 3 i0 (.int .i64 0) 1 8 Tryd.underlying27 hi hz0 hz1 hz2 rfl (by decide) _ _ _ rfl (hown.alloc _) ⟨wr.heap.size, 0, none⟩ 1 1 [.int .i64 (d : Nat)] rfl rfl (cell_one_new _ _ _) (ints_oneCell .i64 [((d : Nat) : Int)]) ?c3 ?c4 ?c5 ?_)
      case c3 => unfold maxLen; omega
      case c4 => omega
      case c5 => have := hbel.out.size; simp; omega
      intro v' w4 hown' hgrow _
      have OW : Hid (w4.ownsRow w.heap.size 3 1 v' (nv + 1) ((abL (par l) c (nv + 1)).map (Value.int .i64))) := by
        rw [abL_succ, List.map_append, HD.out]; exact hown'
      have B4 : Hid (Below w.heap.size w w4) := by
        have hs := hbel.out.size
        exact (hbel.out.trans ((bel_one wr _).mono hs)).grown hgrow (by simp; omega) (fun g hg => (hown.lt g hg).1)
      clear hown' hgrow hown
      obtain ⟨av', cv', rfl⟩ : ∃ a c, v' = .slice a (nv + 1) c := by
        rcases OW.out.2 with ⟨_, h⟩ | ⟨g, cap, cur, rfl, _⟩
        · omega
        · exact ⟨_, _, rfl⟩
      have hS2 := Lib.hid hS.out.2.2
      clear hS u0 u1 u2 u1'
      by_cases hfull : l.length < nv + 1
      · have hfull' : (l.length : Int) < ((nv + 1 : Nat) : Int) := by omega
        have R : Hid (AbP l c w (.returned (.tuple #[.slice none 0 0, .bool false])) w4) := by
          refine Or.inl ⟨?_, rfl, B4.out⟩
          have e : nv = l.length := by omega
          subst e
          unfold stp
          exact (clm_full HT.out (f := l.length + 1)).2 (by rw [HD.out]; exact HZ.out)
        clear hfull
        go_wp2
        go_ret2
        exact R.out
      · have hfull' : ¬ (l.length : Int) < ((nv + 1 : Nat) : Int) := by omega
        obtain ⟨b9, off9, e9, v0, v1, v2⟩ := (HL.out.below B4.out).at_ hj
        injection e9 with e9; injection e9 with e9 e10; subst e9; subst e10
        rw [show (nd l j).pr = ((d : Nat) : Int) from by rw [pr_it HOK.out.1 HOK.out.2 hj hS2.out, ← it_succ (p := par l), HD.out]] at v1
        have HG := Lib.hid (HF.out d w4 B4.out)
        clear hfull
        go_wp2_with fail
        (with_reducible refine HG.out.mono ?_)
        rintro e w5 ⟨⟨r, rfl, hr⟩, b5⟩
        obtain ⟨j', hj', rfl, ej'⟩ := fnd_at hr HIN.out
        have NX : Hid (w5.ownsRow w.heap.size 3 1 (.slice av' (nv + 1) cv') (nv + 1) ((abL (par l) c (nv + 1)).map (Value.int .i64)) ∧ Below w.heap.size w w5 ∧ (nd l j').cd = ((it (par l) (nv + 1) c : Nat) : Int)) :=
          ⟨own_keep OW.out b5, B4.out.trans (b5.mono B4.out.size), by rw [HD.out]; exact ej'⟩
        clear b5 hr ej' v0 v1 v2
        go_wp2
        go_roundw
        case rel => exact ⟨nv + 1, j', hj', by omega, rfl, NX.out⟩
        case measure => simp; omega
end Go.Proofs.YthdmodmplpoejaaDoor
