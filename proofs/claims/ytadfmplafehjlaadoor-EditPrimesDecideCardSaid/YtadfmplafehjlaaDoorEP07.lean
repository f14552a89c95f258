/-
  Package edit: planOf.
  Package edit: checkRecord, checkRecords and planFor.
-/
import Derived.Test.YtadfmplafehjlaaDoorEP05
import Derived.Test.YtadfmplafehjlaaDoorEP06
namespace Go.Proofs.YtadfmplafehjlaaDoor
open Go.RowKit Go.WideMaps Go.Maps

def S2e (a1 a2 : Addr) (v1 v2 : Value) (w : World) : Prop := w.cell? a1 = some v1 ∧ w.cell? a2 = some v2
def PoP (l : List Fd) (E : List Ed) (w : World) (e : Ending) (w' : World) : Prop :=
  Below w.heap.size w w' ∧ ((planS l E ≠ 0 ∧ e = .returned (.tuple #[.pointer none, .int .i64 (planS l E)])) ∨ (planS l E = 0 ∧ ∃ p, e = .returned (.tuple #[.pointer (some ⟨p, 0, none⟩), .int .i64 0]) ∧ PlR w' p l E))
theorem PeI.toR {w0 W : World} {p fb fc : Nat} {v : Value} {l : List Fd} {E : List Ed} {X : Nat → Fr} (h : PeI w0 W p fb fc v l E E.length X) (h1 : 0 < l.length) : PlR W p l E := by
  have lf : ∀ i, i < l.length → fb < W.heap.size := fun i hi => cellLt (h.pl.fl i hi).c0
  obtain ⟨va, vc, hv⟩ := own_slE h.own
  refine ⟨h.pc.lt, ⟨fb, fc, h.pc.c0, ?_, fun i hi => ?_⟩, h.pc.cf, ⟨va, vc, by rw [h.pc.ce, hv], fun h0 => ?_⟩, h.pc.cv⟩
  · exact lf 0 h1
  · have f := h.pl.fl i hi
    exact ⟨⟨f.c0, ⟨(X i).a, (X i).c, f.c1, f.rd.below h.bel⟩, f.c2⟩, ⟨(X i).m, f.c3, f.mp.lt, f.mp⟩, (X i).h, _, f.c4, f.sh, fun k hk => f.ho k hk⟩
  · obtain ⟨g, cap, hg, _, gl⟩ := h.own.form h0
    rw [hv] at hg
    injection hg with hg
    refine ⟨g, hg, gl, fun n hn i hi => ?_⟩
    have hb : v.ownBlock = some g := by rw [hv, hg]; rfl
    have := h.own.cells hb (n * 12 + i) _ (flE_at l E hi hn)
    unfold Addr.add at this
    split at this <;> simp_all
def fuK (l : List Fd) (k i : Nat) : Nat := if i < k then fuS l i else 0
theorem fuK_next (l : List Fd) (k : Nat) : upd (fuK l k) k (fuS l k) = fuK l (k + 1) := by
  funext i
  unfold upd fuK
  by_cases e : i = k
  · subst e; rw [if_pos rfl, if_pos (by omega)]
  · rw [if_neg e]
    by_cases h : i < k
    · rw [if_pos h, if_pos (by omega)]
    · rw [if_neg h, if_neg (by omega)]
theorem infoFl : ∃ z, (Tryd.prog.info? 94).map (fun i => (i.zero, i.size, i.bytes)) = some (some z, 5, 80) ∧ z.cells.size = 5 := ⟨.agg #[.string ⟨#[]⟩, .slice none 0 0, .int .i64 0, .map none, .slice none 0 0], by kernel_rfl, rfl⟩
theorem infoBx : ∃ z, (Tryd.prog.info? 57).map (fun i => (i.zero, i.size, i.bytes)) = some (some z, 12, 96) ∧ z.cells.size = 12 := ⟨bxV (fun _ => 0), by kernel_rfl, rfl⟩
theorem newBlock (w : World) (o : Obj) : (w.alloc o).heap[w.heap.size]? = some o := by
  show (w.heap.push _)[_]? = _
  simp
set_option maxRecDepth 100000 in
set_option maxHeartbeats 8000000 in
theorem planOf_c (a : Option Addr) (c : Nat) (l : List Fd) (a2 : Option Addr) (c2 : Nat) (E : List Ed) (w : World) (hl : RdF w a l) (hE : RdE w a2 E) (hst : ∀ u, u ∈ l → u.nm.size ≤ 9223372036854775807) (hst2 : ∀ u, u ∈ E → u.nm.size ≤ 9223372036854775807)
    (hT : TabAt 0 Lib.deBruijn64tab w) (ht : 0 < w.heap.size) :
    Calls Tryd.prog 37 #[.agg #[.slice a l.length c, .slice a2 E.length c2]] w (PoP l E w) := by
  have mixed : Tryd.prog.follows .mixedOrders = true := by kernel_rfl
  obtain ⟨W1, hW1⟩ : ∃ W, w.alloc (.cells #[.slice a l.length c, .slice a2 E.length c2] 25) = W := ⟨_, rfl⟩
  have B1 : Hid (Below w.heap.size w W1) := by unfold Hid; rw [← hW1]; exact bel_one _ _
  have C := Lib.hid (CheckPlan_c a c l a2 c2 E W1 (hl.below B1.out) (hE.below B1.out) hst hst2)
  have x0 : W1.cell? ⟨w.heap.size, 0, none⟩ = some (.slice a l.length c) := by rw [← hW1, World.cell?_alloc_new]; rfl
  have x1 : W1.cell? ⟨w.heap.size, 1, none⟩ = some (.slice a2 E.length c2) := by rw [← hW1, World.cell?_alloc_new]; rfl
  have l1 : w.heap.size < W1.heap.size := by rw [← hW1]; simp
  by_cases hz : planS l E = 0
  · have hok := plan_ok hz
    have HOK := Lib.hid hok
    have HZ := Lib.hid hz
    have HL := Lib.hid hl
    have HE := Lib.hid hE
    have HT := Lib.hid hT
    rw [hz] at C
    obtain ⟨n, hn⟩ : ∃ n, l.length = n := ⟨_, rfl⟩
    have HN := Lib.hid hn
    obtain ⟨m0, hm0⟩ : ∃ n, E.length = n := ⟨_, rfl⟩
    have HM0 := Lib.hid hm0
    have CU : Hid (∀ V, Calls Tryd.prog 62 #[.int .i64 m0] V fun e w' => e = .returned (.int .u64 (evS E)) ∧ w' = V) := fun V => by
      rw [← hm0]; exact upTo_c E.length V (by have := hok.m60; omega)
    obtain ⟨ev, hev⟩ : ∃ v, evS E = v := ⟨_, rfl⟩
    have HEV := Lib.hid hev
    have hn12 : n ≤ 12 := by rw [← hn]; exact hok.n12
    have hm60 : m0 ≤ 60 := by rw [← hm0]; exact hok.m60
    rw [hev] at CU
    rw [hn] at x0 hW1 C
    rw [hm0] at x1 hW1 C
    have X0 := Lib.hid x0
    have X1 := Lib.hid x1
    rw [hn, hm0]
    clear hl hE hst hst2 hT hok hz hn hm0 hev
    go_enter Tryd.func37, Tryd.ntmps37
    go_wp2_with fail
    refine C.out.mono ?_
    rintro e1 w2 ⟨rfl, b2⟩
    have y0 := (b2.cell (p := ⟨w.heap.size, 0, none⟩) l1).trans X0.out
    have y1 := (b2.cell (p := ⟨w.heap.size, 1, none⟩) l1).trans X1.out
    have B2 : Hid (Below w.heap.size w w2 ∧ Below W1.heap.size W1 w2) := ⟨B1.out.trans (b2.mono B1.out.size), b2⟩
    clear b2 x0 x1 hW1
    go_wp2_with fail
    refine (CU.out w2).mono ?_
    rintro e1 w3 ⟨rfl, rfl⟩
    obtain ⟨p, hp⟩ : ∃ p, w3.heap.size = p := ⟨_, rfl⟩
    obtain ⟨W3, hW3⟩ : ∃ W, w3.alloc (.cells #[.slice none 0 0, .int .u64 0, .int .u64 0, .int .u64 0, .int .u64 0, .int .u64 0, .int .u64 0, .int .u64 0, .int .u64 0, .int .u64 0, .int .u64 0, .int .u64 0, .int .u64 0, .slice none 0 0, .int .u64 (ev : Nat)] 67) = W := ⟨_, rfl⟩
    have b3 : Below w3.heap.size w3 W3 := by rw [← hW3]; exact bel_one _ _
    have I3 : Hid (PfI w3 W3 p (.slice none 0 0) l (fuK l 0) ev 0 (fun _ => ⟨none, 0, 0, 0⟩)) := by
      unfold Hid
      rw [← hp]
      refine ⟨World.ownsRow_nil _ _ _ _, ⟨?_, fun i hi => ?_, ?_, ?_, fun o => by rw [← hW3]; simp⟩, fun i hi => absurd hi (Nat.not_lt_zero _), fun i j hi => absurd hi (Nat.not_lt_zero _), fun i j hi => absurd hi (Nat.not_lt_zero _), fun i hi => absurd hi (Nat.not_lt_zero _), by simp [Value.ownBlock], Nat.le_refl _, b3⟩
      · rw [← hW3, World.cell?_alloc_new]; rfl
      · rw [← hW3, World.cell?_alloc_new]
        unfold fuK
        rw [if_neg (Nat.not_lt_zero i)]
        match i, hi with
        | 0, _ => rfl
        | 1, _ => rfl
        | 2, _ => rfl
        | 3, _ => rfl
        | 4, _ => rfl
        | 5, _ => rfl
        | 6, _ => rfl
        | 7, _ => rfl
        | 8, _ => rfl
        | 9, _ => rfl
        | 10, _ => rfl
        | 11, _ => rfl
      · rw [← hW3, World.cell?_alloc_new]; rfl
      · rw [← hW3, World.cell?_alloc_new]; rfl
    have Y : Hid (∀ V, Below w3.heap.size w3 V → V.cell? ⟨w.heap.size, 0, none⟩ = some (.slice a n c) ∧ V.cell? ⟨w.heap.size, 1, none⟩ = some (.slice a2 m0 c2)) := by
      have lw : w.heap.size < w3.heap.size := cellLt y0
      exact fun V hV => ⟨(hV.cell (p := ⟨w.heap.size, 0, none⟩) lw).trans y0, (hV.cell (p := ⟨w.heap.size, 1, none⟩) lw).trans y1⟩
    have B3 := Lib.hid b3
    have z0 := (Y.out W3 b3).1
    have SP : Hid (p = w3.heap.size) := hp.symm
    clear y0 y1 b3
    go_wp2_with fail
    clear hW3 z0 hp
    go_loopw [6, 7, 24] (fun _ _ iv wr => ∃ (k : Nat) (v : Value) (X : Nat → Fr), iv = .int .i64 k ∧ Hid (k ≤ n ∧ PfI w3 wr p v l (fuK l k) ev k X)) (fun _ _ iv _ => n - (intOf iv).toNat)
    case atStart => exact ⟨0, _, _, rfl, Nat.zero_le _, I3.out⟩
    case round =>
      clear I3
      obtain ⟨k, v, X, rfl, hS0⟩ := hrel
      by_cases hlt : k < n
      · have hlt' : (k : Int) < (n : Int) := by omega
        have hkl : k < l.length := by rw [HN.out]; exact hlt
        have hk0 : (0 : Int) ≤ (k : Int) := by omega
        have hk12 : (k : Int) < 12 := by omega
        have I0 := Lib.hid hS0.out.2
        obtain ⟨fb, fo, hfa, u0, ⟨ca, cc, u1, hrd⟩, u2⟩ := (HL.out.below B2.out.1).at_ hkl
        have hfl : fb < w3.heap.size := cellLt u0
        subst hfa
        have c0 := (I0.out.bel.cell (p := ⟨fb, fo + k * 3, none⟩) hfl).trans u0
        have c1 := (I0.out.bel.cell (p := ⟨fb, fo + k * 3 + 1, none⟩) hfl).trans u1
        have c2 := (I0.out.bel.cell (p := ⟨fb, fo + k * 3 + 2, none⟩) hfl).trans u2
        have HRD := Lib.hid hrd
        have HC20 := HOK.out.c20 k hkl
        have HMK : Hid (∀ j, j < (fd l k).cs.length → mkS (fd l k).cs (fn (fd l k).cs j) = 2 ^ j) := fun j hj => HOK.out.mk_at hkl hj
        have HCD : Hid (∀ j, j < (fd l k).cs.length → -9223372036854775808 ≤ fn (fd l k).cs j ∧ fn (fd l k).cs j ≤ 9223372036854775807) := fun j hj => by have := HOK.out.cd k hkl j hj; omega
        have hfu : fuS l k = 2 ^ (fd l k).cs.length - 1 := by unfold fuS; rw [if_pos hkl]
        obtain ⟨m, hm⟩ : ∃ m, (fd l k).cs.length = m := ⟨_, rfl⟩
        obtain ⟨nm, hnm⟩ : ∃ m, (fd l k).nm = m := ⟨_, rfl⟩
        obtain ⟨wt, hwt⟩ : ∃ m, (fd l k).wt = m := ⟨_, rfl⟩
        have HFR : Hid (∀ m4 h4, frC (fd l k) ⟨ca, cc, m4, h4⟩ = [.string nm, .slice ca m cc, .int .i64 wt, .map (some m4), .slice (some ⟨h4, 0, none⟩) m m]) := fun m4 h4 => by unfold frC; rw [hm, hnm, hwt]
        rw [hm] at c1 hfu HC20
        rw [hnm] at c0
        rw [hwt] at c2
        have C1 : Hid (∀ V, Calls Tryd.prog 62 #[.int .i64 m] V fun e w' => e = .returned (.int .u64 (fuS l k)) ∧ w' = V) := fun V => by rw [hfu]; exact upTo_c m V (by omega)
        obtain ⟨fv, hfv⟩ : ∃ x, fuS l k = x := ⟨_, rfl⟩
        rw [hfv] at C1
        have HFV := Lib.hid hfv
        obtain ⟨w3', hw3⟩ : ∃ W, wr.alloc (.cells #[.string nm, .slice ca m cc, .int .i64 wt] 39) = W := ⟨_, rfl⟩
        obtain ⟨z, hzz⟩ : ∃ z, wr.heap.size = z := ⟨_, rfl⟩
        have b3 : Below wr.heap.size wr w3' := by rw [← hw3]; exact bel_one _ _
        have Z3 : Hid (S3c ⟨z, 0, none⟩ ⟨z, 1, none⟩ ⟨z, 2, none⟩ (.string nm) (.slice ca m cc) (.int .i64 wt) w3' ∧ z < w3'.heap.size) := by
          unfold Hid
          rw [← hw3, ← hzz]
          exact ⟨⟨by rw [World.cell?_alloc_new]; rfl, by rw [World.cell?_alloc_new]; rfl, by rw [World.cell?_alloc_new]; rfl⟩, by simp⟩
        have J3 := Lib.hid (I0.out.below b3)
        have NPZ : Hid (p ≠ z) := by have := I0.out.pc.lt; unfold Hid; omega
        have NVZ : Hid (v.ownBlock ≠ some z) := fun e => by have := (I0.out.own.lt z e).2; omega
        have HS1 : Hid (S1e ⟨z, 1, none⟩ (.slice ca m cc) w3') := Z3.out.1.2.1
        have SA : Hid (∀ V, Below w3'.heap.size w3' V → S3c ⟨z, 0, none⟩ ⟨z, 1, none⟩ ⟨z, 2, none⟩ (.string nm) (.slice ca m cc) (.int .i64 wt) V) := fun V hV =>
          ⟨(hV.cell (p := ⟨z, 0, none⟩) Z3.out.2).trans Z3.out.1.1, (hV.cell (p := ⟨z, 1, none⟩) Z3.out.2).trans Z3.out.1.2.1, (hV.cell (p := ⟨z, 2, none⟩) Z3.out.2).trans Z3.out.1.2.2⟩
        have SB : Hid (∀ V, S3c ⟨z, 0, none⟩ ⟨z, 1, none⟩ ⟨z, 2, none⟩ (.string nm) (.slice ca m cc) (.int .i64 wt) V → S3c ⟨z, 0, none⟩ ⟨z, 1, none⟩ ⟨z, 2, none⟩ (.string nm) (.slice ca m cc) (.int .i64 wt) (V.setCell ⟨p, 1 + k, none⟩ (.int .u64 (fv : Nat)))) := fun V hV => by
          have nq : ∀ o u, V.cell? ⟨z, o, none⟩ = some u → (V.setCell ⟨p, 1 + k, none⟩ (.int .u64 (fv : Nat))).cell? ⟨z, o, none⟩ = some u := fun o u e => by
            rw [World.cell?_setCell_other _ _ _ _ (fun q => by injection q with q; exact NPZ.out q)]; exact e
          exact ⟨nq _ _ hV.1, nq _ _ hV.2.1, nq _ _ hV.2.2⟩
        have HQ : Hid (∀ V, Below w3'.heap.size w3' V → V.cell? ⟨p, 1 + k, none⟩ = some (.int .u64 (fuK l k k)) ∧ V.frozen? ⟨p, 1 + k, none⟩ = false ∧ S1e ⟨z, 1, none⟩ (.slice ca m cc) (V.setCell ⟨p, 1 + k, none⟩ (.int .u64 (fv : Nat)))) := fun V hV => by
          have h := (J3.out.below hV).pc
          exact ⟨h.cf k (by omega), h.fr _, (SB.out V (SA.out V hV)).2.1⟩
        have C2 : Hid (∀ V, Below w3.heap.size w3 V → Calls Tryd.prog 63 #[.agg #[.string nm, .slice ca m cc, .int .i64 wt]] V fun e w' => ∃ m4 h4, e = .returned (.agg #[.string nm, .slice ca m cc, .int .i64 wt, .map (some m4), .slice (some ⟨h4, 0, none⟩) m m]) ∧ MapN w' m4 (fd l k).cs.length (mrk (fd l k).cs) ∧ (∀ j, j < (fd l k).cs.length → w'.cell? ⟨h4, j, none⟩ = some (.int .u64 0)) ∧ (∀ j, w'.frozen? ⟨h4, j, none⟩ = false) ∧ V.heap.size ≤ m4 ∧ V.heap.size ≤ h4 ∧ m4 < w'.heap.size ∧ h4 < w'.heap.size ∧ m4 ≠ h4 ∧ Below V.heap.size V w') := fun V hV => by
          have h := fieldOf_c nm ca cc (fd l k).cs wt V (HRD.out.below hV) (by rw [hm]; exact HC20) HMK.out HCD.out
          unfold FoP at h
          rw [hm] at h ⊢
          exact h
        clear hrd hS0 hkl hfu hm hnm hwt hfv b3 u0 u1 u2 hfl HMK HCD
        go_wp2_with fail
        clear c0 c1 c2 hw3
        refine wp_region_noPanic ?_
        refine wp_region_held_drew (S := (S1e ⟨z, 1, none⟩ (.slice ca m cc))) (by kernel_rfl) (by exact HS1.out) (fun hS => ?_)
        obtain ⟨WD, hWD⟩ : ∃ W, w3'.drew = W := ⟨_, rfl⟩
        have D0 : Hid (Below w3'.heap.size w3' WD) := by unfold Hid; rw [← hWD]; exact (Below.refl _ _).drew
        rw [hWD] at hS ⊢
        clear hWD
        refine wpAnyH_take (i := 0) (v := ?v0a0) rfl (by kernel_rfl) (by kernel_rfl) (by kernel_rfl) (fun _ _ _ h => h) (Or.inl ⟨by rfl, ?hy0a0⟩) (by assumption) ?rest0a0
        case hy0a0 =>
          intro w hSw
          dsimp only [S1e] at hSw
          go_simp
          try with_reducible rfl
        simp only [Act.put, List.getElem_toArray, List.getElem_cons_succ, List.getElem_cons_zero, List.setIfInBounds_toArray, List.set_cons_zero, List.set_cons_succ]
        refine wpAnyH_take (i := 1) (v := ?v1a1) rfl (by kernel_rfl) (by kernel_rfl) (by kernel_rfl) (fun _ _ _ h => h) (Or.inl ⟨by rfl, ?hy1a1⟩) (by assumption) ?rest1a1
        case hy1a1 =>
          intro w hSw
          dsimp only [S1e] at hSw
          go_simp
          try with_reducible rfl
        simp only [Act.put, List.getElem_toArray, List.getElem_cons_succ, List.getElem_cons_zero, List.setIfInBounds_toArray, List.set_cons_zero, List.set_cons_succ]
        refine wpAnyH_take (i := 2) (v := ?v2a2) rfl (by kernel_rfl) (by kernel_rfl) (by kernel_rfl) (fun _ _ _ h => h) (Or.inl ⟨by rfl, ?hy2a2⟩) (by assumption) ?rest2a2
        case hy2a2 =>
          intro w hSw
          dsimp only [S1e] at hSw
          go_simp
          try with_reducible rfl
        simp only [Act.put, List.getElem_toArray, List.getElem_cons_succ, List.getElem_cons_zero, List.setIfInBounds_toArray, List.set_cons_zero, List.set_cons_succ]
        refine wpAnyH_take (i := 3) (v := ?v3a3) rfl (by kernel_rfl) (by kernel_rfl) (by kernel_rfl) (fun _ _ _ h => h) (Or.inl ⟨by rfl, ?hy3a3⟩) (by assumption) ?rest3a3
        case hy3a3 =>
          intro w hSw
          dsimp only [S1e] at hSw
          go_simp
          try with_reducible rfl
        simp only [Act.put, List.getElem_toArray, List.getElem_cons_succ, List.getElem_cons_zero, List.setIfInBounds_toArray, List.set_cons_zero, List.set_cons_succ]
        refine wpAnyH_take (i := 4) (v := ?v4a4) rfl (by kernel_rfl) (by kernel_rfl) (by kernel_rfl) (fun _ _ _ h => h) (Or.inl ⟨by rfl, ?hy4a4⟩) (by assumption) ?rest4a4
        case hy4a4 =>
          intro w hSw
          dsimp only [S1e] at hSw
          go_simp
          try with_reducible rfl
        simp only [Act.put, List.getElem_toArray, List.getElem_cons_succ, List.getElem_cons_zero, List.setIfInBounds_toArray, List.set_cons_zero, List.set_cons_succ]
        refine wpAnyH_take (i := 6) (v := ?v6a6) rfl (by kernel_rfl) (by kernel_rfl) (by kernel_rfl) (fun _ _ _ h => h) (Or.inl ⟨by rfl, ?hy6a6⟩) (by assumption) ?rest6a6
        case hy6a6 =>
          intro w hSw
          dsimp only [S1e] at hSw
          go_simp
          try with_reducible rfl
        simp only [Act.put, List.getElem_toArray, List.getElem_cons_succ, List.getElem_cons_zero, List.setIfInBounds_toArray, List.set_cons_zero, List.set_cons_succ]
        refine wpAnyH_take (i := 7) (v := ?v7a7) rfl (by kernel_rfl) (by kernel_rfl) (by kernel_rfl) (fun _ _ _ h => h) (Or.inl ⟨by rfl, ?hy7a7⟩) (by assumption) ?rest7a7
        case hy7a7 =>
          intro w hSw
          dsimp only [S1e] at hSw
          go_simp
          try with_reducible rfl
        simp only [Act.put, List.getElem_toArray, List.getElem_cons_succ, List.getElem_cons_zero, List.setIfInBounds_toArray, List.set_cons_zero, List.set_cons_succ]
        refine wpAnyH_ready (rs := [5]) (by kernel_rfl) (by simp) ?_
        refine AllReadyH.cons rfl (fun K hK => ?_) AllReadyH.nil
        go_simp
        refine (C1.out WD).mono ?_
        rintro e1 w4 ⟨rfl, rfl⟩
        try go_simp
        have hT := hS
        refine hK _ _ hT (fun _ => ?_)
        clear hK K hT
        try simp only [Act.put, List.setIfInBounds_toArray, List.set_cons_zero, List.set_cons_succ]
        refine wpAnyH_take (i := 8) (v := ?v8a8) rfl (by kernel_rfl) (by kernel_rfl) (by kernel_rfl) (fun _ _ _ h => h) (Or.inl ⟨by rfl, ?hy8a8⟩) (by assumption) ?rest8a8
        case hy8a8 =>
          intro w hSw
          dsimp only [S1e] at hSw
          go_simp
          try with_reducible rfl
        simp only [Act.put, List.getElem_toArray, List.getElem_cons_succ, List.getElem_cons_zero, List.setIfInBounds_toArray, List.set_cons_zero, List.set_cons_succ]
        refine wpAnyH_ready (rs := [9]) (by kernel_rfl) (by simp) ?_
        refine AllReadyH.cons rfl (fun K hK => ?_) AllReadyH.nil
        obtain ⟨q0, q1, q2⟩ := HQ.out w4 D0.out
        go_simp
        refine hK _ _ q2 (fun _ => ?_)
        clear hK K
        try simp only [Act.put, List.setIfInBounds_toArray, List.set_cons_zero, List.set_cons_succ]
        refine wpAnyH_done (by kernel_rfl) ?_ _
        refine NoPanic.normal ?_
        obtain ⟨WZ, hWZ⟩ : ∃ W, w4.setCell ⟨p, 1 + k, none⟩ (.int .u64 (fv : Nat)) = W := ⟨_, rfl⟩
        have I3 : Hid (PfI w3 WZ p v l (fuK l (k + 1)) ev k X) := by
          unfold Hid
          rw [← hWZ, ← fuK_next, HFV.out]
          exact (J3.out.below D0.out).full (by omega) fv
        have HS9 : Hid (∀ V, Below WZ.heap.size WZ V → S3c ⟨z, 0, none⟩ ⟨z, 1, none⟩ ⟨z, 2, none⟩ (.string nm) (.slice ca m cc) (.int .i64 wt) V) := fun V hV => by
          have h := SB.out w4 (SA.out w4 D0.out)
          rw [hWZ] at h
          have lz : z < WZ.heap.size := cellLt h.1
          exact ⟨(hV.cell (p := ⟨z, 0, none⟩) lz).trans h.1, (hV.cell (p := ⟨z, 1, none⟩) lz).trans h.2.1, (hV.cell (p := ⟨z, 2, none⟩) lz).trans h.2.2⟩
        have HLD : Hid (∀ V, Below WZ.heap.size WZ V → V.cell? ⟨p, 0, none⟩ = some v) := fun V hV => (I3.out.below hV).pc.c0
        have C2 : Hid (∀ V, Below WZ.heap.size WZ V → _) := fun V hV => C2.out V (I3.out.bel.trans (hV.mono I3.out.bel.size))
        rw [hWZ]
        clear hS q0 q1 q2 hWZ
        go_wp2_with fail
        obtain ⟨zf, hzi, hzf⟩ := infoFl
        obtain ⟨i0, hi, hz0, hz1, hz2⟩ := info_parts hzi
        refine wp_region_noPanic ?_
        refine wp_region_held_drew (S := (S3c ⟨z, 0, none⟩ ⟨z, 1, none⟩ ⟨z, 2, none⟩ (.string nm) (.slice ca m cc) (.int .i64 wt))) (by kernel_rfl) (by exact HS9.out _ (Below.refl WZ.heap.size WZ).drew) (fun hSz => ?_)
        obtain ⟨WD, hWD⟩ : ∃ W, WZ.drew = W := ⟨_, rfl⟩
        have D0z : Hid (Below WZ.heap.size WZ WD) := by unfold Hid; rw [← hWD]; exact (Below.refl _ _).drew
        rw [hWD] at hSz ⊢
        clear hWD
        refine wpAnyH_take (i := 0) (v := ?v0z0) rfl (by kernel_rfl) (by kernel_rfl) (by kernel_rfl) (fun _ _ _ h => h) (Or.inl ⟨by rfl, ?hy0z0⟩) (by assumption) ?rest0z0
        case hy0z0 =>
          intro w hSw
          dsimp only [S3c] at hSw
          go_simp
          try with_reducible rfl
        simp only [Act.put, List.getElem_toArray, List.getElem_cons_succ, List.getElem_cons_zero, List.setIfInBounds_toArray, List.set_cons_zero, List.set_cons_succ]
        refine wpAnyH_take (i := 1) (v := ?v1z1) rfl (by kernel_rfl) (by kernel_rfl) (by kernel_rfl) (fun _ _ _ h => h) (Or.inl ⟨by rfl, ?hy1z1⟩) (by assumption) ?rest1z1
        case hy1z1 =>
          intro w hSw
          dsimp only [S3c] at hSw
          go_simp
          try with_reducible rfl
        simp only [Act.put, List.getElem_toArray, List.getElem_cons_succ, List.getElem_cons_zero, List.setIfInBounds_toArray, List.set_cons_zero, List.set_cons_succ]
        refine wpAnyH_take (i := 2) (v := ?v2z2) rfl (by kernel_rfl) (by kernel_rfl) (by kernel_rfl) (fun _ _ _ h => h) (Or.inl ⟨by rfl, ?hy2z2⟩) (by assumption) ?rest2z2
        case hy2z2 =>
          intro w hSw
          dsimp only [S3c] at hSw
          go_simp
          try with_reducible rfl
        simp only [Act.put, List.getElem_toArray, List.getElem_cons_succ, List.getElem_cons_zero, List.setIfInBounds_toArray, List.set_cons_zero, List.set_cons_succ]
        refine wpAnyH_take (i := 3) (v := ?v3z3) rfl (by kernel_rfl) (by kernel_rfl) (by kernel_rfl) (fun _ _ _ h => h) (Or.inl ⟨by rfl, ?hy3z3⟩) (by assumption) ?rest3z3
        case hy3z3 =>
          intro w hSw
          dsimp only [S3c] at hSw
          go_simp
          try with_reducible rfl
        simp only [Act.put, List.getElem_toArray, List.getElem_cons_succ, List.getElem_cons_zero, List.setIfInBounds_toArray, List.set_cons_zero, List.set_cons_succ]
        refine wpAnyH_take (i := 5) (v := ?v5z5) rfl (by kernel_rfl) (by kernel_rfl) (by kernel_rfl) (fun _ _ _ h => h) (Or.inl ⟨by rfl, ?hy5z5⟩) (by assumption) ?rest5z5
        case hy5z5 =>
          intro w hSw
          dsimp only [S3c] at hSw
          go_simp
          try with_reducible rfl
        simp only [Act.put, List.getElem_toArray, List.getElem_cons_succ, List.getElem_cons_zero, List.setIfInBounds_toArray, List.set_cons_zero, List.set_cons_succ]
        refine wpAnyH_ready (rs := [4, 6]) (by kernel_rfl) (by simp) ?_
        refine AllReadyH.cons rfl (fun K hK => ?_) (AllReadyH.cons rfl (fun K hK => ?_) AllReadyH.nil)
        · have ld0 := HLD.out WD D0z.out
          go_simp
          refine hK _ _ hSz (fun _ => ?_)
          clear hK K ld0
          try simp only [Act.put, List.setIfInBounds_toArray, List.set_cons_zero, List.set_cons_succ]
          refine wpAnyH_ready (rs := [6]) (by kernel_rfl) (by simp) ?_
          refine AllReadyH.cons rfl (fun K hK => ?_) AllReadyH.nil
          go_simp
          refine (C2.out WD D0z.out).mono ?_
          rintro e1 w4 ⟨m4, h4, rfl, q4⟩
          obtain ⟨mp4, ho4, fr4, lm4, lh4, sm4, sh4, mh4, b4⟩ := q4
          have BZ4 : Hid (Below WZ.heap.size WZ w4) := D0z.out.trans (b4.mono D0z.out.size)
          have I4 := Lib.hid (I3.out.below BZ4.out)
          have HL4 : Hid (w4.cell? ⟨p, 0, none⟩ = some v) := I4.out.pc.c0
          have hS4 := HS9.out w4 BZ4.out
          have X4 : Hid (FxR w3 w4 (fd l k) ⟨ca, cc, m4, h4⟩ (fun _ => 0) ∧ WZ.heap.size ≤ m4 ∧ WZ.heap.size ≤ h4 ∧ m4 ≠ h4) := by
            have s0 := I3.out.bel.size
            have s1 := D0z.out.size
            exact ⟨⟨HRD.out, mp4, ho4, fr4, by show w3.heap.size ≤ m4; omega, by show w3.heap.size ≤ h4; omega, sh4⟩, by omega, by omega, mh4⟩
          clear mp4 ho4 fr4 lm4 lh4 sm4 sh4 mh4 b4
          try go_simp
          refine hK _ _ hS4 (fun _ => ?_)
          clear hK K
          try simp only [Act.put, List.setIfInBounds_toArray, List.set_cons_zero, List.set_cons_succ]
          refine wpAnyH_ready (rs := [7]) (by kernel_rfl) (by simp) ?_
          refine AllReadyH.cons rfl (fun K hK => ?_) AllReadyH.nil
          obtain ⟨W5, hW5⟩ : ∃ W, w4.alloc (.cells #[.string nm, .slice ca m cc, .int .i64 wt, .map (some m4), .slice (some ⟨h4, 0, none⟩) m m] 94) = W := ⟨_, rfl⟩
          have b5 : Below w4.heap.size w4 W5 := by rw [← hW5]; exact bel_one _ _
          have hS5 := HS9.out W5 (BZ4.out.trans (b5.mono BZ4.out.size))
          go_simp
          try rw [hW5]
          refine hK _ _ hS5 (fun _ => ?_)
          clear hK K
          try simp only [Act.put, List.setIfInBounds_toArray, List.set_cons_zero, List.set_cons_succ]
          refine wpAnyH_ready (rs := [8]) (by kernel_rfl) (by simp) ?_
          refine AllReadyH.cons rfl (fun K hK => ?_) AllReadyH.nil
          rw [if_pos (by rfl)]
          refine wp_append_lies _ _ _ 64 rfl w3.heap.size 94 i0 zf 5 80 Tryd.underlying64 hi hz0 hz1 hz2 hzf (by decide) v k (flF l X k) rfl (keep_own I4.out.own b5) ⟨w4.heap.size, 0, none⟩ 1 1 [.string nm, .slice ca m cc, .int .i64 wt, .map (some m4), .slice (some ⟨h4, 0, none⟩) m m] rfl rfl (World.news_of_block (t := 94) (fr := (0, 0)) (by rw [← hW5]; exact newBlock _ _)) ?c1A (by decide) ?c2A ?c3A ?c4A _ rfl ?_
          case c1A => intro u hu; simp at hu; rcases hu with rfl | rfl | rfl | rfl | rfl <;> rfl
          case c2A => unfold maxLen; omega
          case c3A => omega
          case c4A => exact Nat.le_trans I4.out.bel.size b5.size
          intro g6 cap6 w6 hown6 hgrow6 hat6 hlt6
          have P5 := Lib.hid (I4.out.below b5).pc
          have I7 : Hid (PfI w3 (w6.setCell ⟨p, 0, none⟩ (.slice (some ⟨g6, 0, none⟩) (k + 1) cap6)) p (.slice (some ⟨g6, 0, none⟩) (k + 1) cap6) l (fuK l (k + 1)) ev (k + 1) (setX X k ⟨ca, cc, m4, h4⟩)) :=
            I3.out.add BZ4.out X4.out.1 X4.out.2.1 X4.out.2.2.1 X4.out.2.2.2 hW5.symm (by rw [HFR.out m4 h4]; exact hown6) hgrow6 hat6
          have P6 : Hid (w6.cell? ⟨p, 0, none⟩ = some v ∧ w6.frozen? ⟨p, 0, none⟩ = false) :=
            ⟨(World.cell?_of_block (hgrow6.block p P5.out.lt (fun q => I4.out.vp q.symm))).trans P5.out.c0, (World.frozen?_of_block (hgrow6.block p P5.out.lt (fun q => I4.out.vp q.symm))).trans (P5.out.fr 0)⟩
          have Z6 : Hid (S3c ⟨z, 0, none⟩ ⟨z, 1, none⟩ ⟨z, 2, none⟩ (.string nm) (.slice ca m cc) (.int .i64 wt) w6 ∧ S3c ⟨z, 0, none⟩ ⟨z, 1, none⟩ ⟨z, 2, none⟩ (.string nm) (.slice ca m cc) (.int .i64 wt) (w6.setCell ⟨p, 0, none⟩ (.slice (some ⟨g6, 0, none⟩) (k + 1) cap6))) := by
            have nz : ∀ o u, W5.cell? ⟨z, o, none⟩ = some u → w6.cell? ⟨z, o, none⟩ = some u := fun o u e => hgrow6.cell e (fun q => NVZ.out q.symm)
            have s6 : S3c ⟨z, 0, none⟩ ⟨z, 1, none⟩ ⟨z, 2, none⟩ (.string nm) (.slice ca m cc) (.int .i64 wt) w6 := ⟨nz _ _ hS5.1, nz _ _ hS5.2.1, nz _ _ hS5.2.2⟩
            have nq : ∀ o u, w6.cell? ⟨z, o, none⟩ = some u → (w6.setCell ⟨p, 0, none⟩ (.slice (some ⟨g6, 0, none⟩) (k + 1) cap6)).cell? ⟨z, o, none⟩ = some u := fun o u e => by
              rw [World.cell?_setCell_other _ _ _ _ (fun q => by injection q with q; exact NPZ.out q)]; exact e
            exact ⟨s6, nq _ _ s6.1, nq _ _ s6.2.1, nq _ _ s6.2.2⟩
          clear hown6 hgrow6 hat6 hlt6 hW5 b5 P5
          have hS6 := Z6.out.1
          refine hK _ _ hS6 (fun _ => ?_)
          clear hK K
          try simp only [Act.put, List.setIfInBounds_toArray, List.set_cons_zero, List.set_cons_succ]
          refine wpAnyH_take (i := 9) (v := ?v9yA) rfl (by kernel_rfl) (by kernel_rfl) (by kernel_rfl) (fun _ _ _ h => h) (Or.inl ⟨by rfl, ?hy9yA⟩) (by assumption) ?rest9yA
          case hy9yA =>
            intro w hSw
            dsimp only [S3c] at hSw
            go_simp
            try with_reducible rfl
          simp only [Act.put, List.getElem_toArray, List.getElem_cons_succ, List.getElem_cons_zero, List.setIfInBounds_toArray, List.set_cons_zero, List.set_cons_succ]
          refine wpAnyH_take (i := 10) (v := ?v10yA) rfl (by kernel_rfl) (by kernel_rfl) (by kernel_rfl) (fun _ _ _ h => h) (Or.inl ⟨by rfl, ?hy10yA⟩) (by assumption) ?rest10yA
          case hy10yA =>
            intro w hSw
            dsimp only [S3c] at hSw
            go_simp
            try with_reducible rfl
          simp only [Act.put, List.getElem_toArray, List.getElem_cons_succ, List.getElem_cons_zero, List.setIfInBounds_toArray, List.set_cons_zero, List.set_cons_succ]
          refine wpAnyH_ready (rs := [11]) (by kernel_rfl) (by simp) ?_
          refine AllReadyH.cons rfl (fun K hK => ?_) AllReadyH.nil
          obtain ⟨p6, p7⟩ := P6.out
          have hS7 := Z6.out.2
          obtain ⟨W8, hW8⟩ : ∃ W, w6.setCell ⟨p, 0, none⟩ (.slice (some ⟨g6, 0, none⟩) (k + 1) cap6) = W := ⟨_, rfl⟩
          rw [hW8] at I7 hS7
          go_simp
          try rw [hW8]
          refine hK _ _ hS7 (fun _ => ?_)
          clear hK K hS6 hS7 hW8 p6 p7 Z6 P6 hS5 hS4 hSz
          try simp only [Act.put, List.setIfInBounds_toArray, List.set_cons_zero, List.set_cons_succ]
          refine wpAnyH_done (by kernel_rfl) ?_ _
          refine NoPanic.normal ?_
          go_wp2
          go_roundw
          case rel => exact ⟨k + 1, _, setX X k ⟨ca, cc, m4, h4⟩, by go_num, hlt, I7.out⟩
          case measure => simp [intOf]; omega
        · go_simp
          refine (C2.out WD D0z.out).mono ?_
          rintro e1 w4 ⟨m4, h4, rfl, q4⟩
          obtain ⟨mp4, ho4, fr4, lm4, lh4, sm4, sh4, mh4, b4⟩ := q4
          have BZ4 : Hid (Below WZ.heap.size WZ w4) := D0z.out.trans (b4.mono D0z.out.size)
          have I4 := Lib.hid (I3.out.below BZ4.out)
          have HL4 : Hid (w4.cell? ⟨p, 0, none⟩ = some v) := I4.out.pc.c0
          have hS4 := HS9.out w4 BZ4.out
          have X4 : Hid (FxR w3 w4 (fd l k) ⟨ca, cc, m4, h4⟩ (fun _ => 0) ∧ WZ.heap.size ≤ m4 ∧ WZ.heap.size ≤ h4 ∧ m4 ≠ h4) := by
            have s0 := I3.out.bel.size
            have s1 := D0z.out.size
            exact ⟨⟨HRD.out, mp4, ho4, fr4, by show w3.heap.size ≤ m4; omega, by show w3.heap.size ≤ h4; omega, sh4⟩, by omega, by omega, mh4⟩
          clear mp4 ho4 fr4 lm4 lh4 sm4 sh4 mh4 b4
          try go_simp
          refine hK _ _ hS4 (fun _ => ?_)
          clear hK K
          try simp only [Act.put, List.setIfInBounds_toArray, List.set_cons_zero, List.set_cons_succ]
          refine wpAnyH_ready (rs := [4, 7]) (by kernel_rfl) (by simp) ?_
          refine AllReadyH.cons rfl (fun K hK => ?_) (AllReadyH.cons rfl (fun K hK => ?_) AllReadyH.nil)
          · have ld0 := HL4.out
            go_simp
            refine hK _ _ hS4 (fun _ => ?_)
            clear hK K ld0
            try simp only [Act.put, List.setIfInBounds_toArray, List.set_cons_zero, List.set_cons_succ]
            refine wpAnyH_ready (rs := [7]) (by kernel_rfl) (by simp) ?_
            refine AllReadyH.cons rfl (fun K hK => ?_) AllReadyH.nil
            obtain ⟨W5, hW5⟩ : ∃ W, w4.alloc (.cells #[.string nm, .slice ca m cc, .int .i64 wt, .map (some m4), .slice (some ⟨h4, 0, none⟩) m m] 94) = W := ⟨_, rfl⟩
            have b5 : Below w4.heap.size w4 W5 := by rw [← hW5]; exact bel_one _ _
            have hS5 := HS9.out W5 (BZ4.out.trans (b5.mono BZ4.out.size))
            go_simp
            try rw [hW5]
            refine hK _ _ hS5 (fun _ => ?_)
            clear hK K
            try simp only [Act.put, List.setIfInBounds_toArray, List.set_cons_zero, List.set_cons_succ]
            refine wpAnyH_ready (rs := [8]) (by kernel_rfl) (by simp) ?_
            refine AllReadyH.cons rfl (fun K hK => ?_) AllReadyH.nil
            rw [if_pos (by rfl)]
            refine wp_append_lies _ _ _ 64 rfl w3.heap.size 94 i0 zf 5 80 Tryd.underlying64 hi hz0 hz1 hz2 hzf (by decide) v k (flF l X k) rfl (keep_own I4.out.own b5) ⟨w4.heap.size, 0, none⟩ 1 1 [.string nm, .slice ca m cc, .int .i64 wt, .map (some m4), .slice (some ⟨h4, 0, none⟩) m m] rfl rfl (World.news_of_block (t := 94) (fr := (0, 0)) (by rw [← hW5]; exact newBlock _ _)) ?c1B (by decide) ?c2B ?c3B ?c4B _ rfl ?_
            case c1B => intro u hu; simp at hu; rcases hu with rfl | rfl | rfl | rfl | rfl <;> rfl
            case c2B => unfold maxLen; omega
            case c3B => omega
            case c4B => exact Nat.le_trans I4.out.bel.size b5.size
            intro g6 cap6 w6 hown6 hgrow6 hat6 hlt6
            have P5 := Lib.hid (I4.out.below b5).pc
            have I7 : Hid (PfI w3 (w6.setCell ⟨p, 0, none⟩ (.slice (some ⟨g6, 0, none⟩) (k + 1) cap6)) p (.slice (some ⟨g6, 0, none⟩) (k + 1) cap6) l (fuK l (k + 1)) ev (k + 1) (setX X k ⟨ca, cc, m4, h4⟩)) :=
              I3.out.add BZ4.out X4.out.1 X4.out.2.1 X4.out.2.2.1 X4.out.2.2.2 hW5.symm (by rw [HFR.out m4 h4]; exact hown6) hgrow6 hat6
            have P6 : Hid (w6.cell? ⟨p, 0, none⟩ = some v ∧ w6.frozen? ⟨p, 0, none⟩ = false) :=
              ⟨(World.cell?_of_block (hgrow6.block p P5.out.lt (fun q => I4.out.vp q.symm))).trans P5.out.c0, (World.frozen?_of_block (hgrow6.block p P5.out.lt (fun q => I4.out.vp q.symm))).trans (P5.out.fr 0)⟩
            have Z6 : Hid (S3c ⟨z, 0, none⟩ ⟨z, 1, none⟩ ⟨z, 2, none⟩ (.string nm) (.slice ca m cc) (.int .i64 wt) w6 ∧ S3c ⟨z, 0, none⟩ ⟨z, 1, none⟩ ⟨z, 2, none⟩ (.string nm) (.slice ca m cc) (.int .i64 wt) (w6.setCell ⟨p, 0, none⟩ (.slice (some ⟨g6, 0, none⟩) (k + 1) cap6))) := by
              have nz : ∀ o u, W5.cell? ⟨z, o, none⟩ = some u → w6.cell? ⟨z, o, none⟩ = some u := fun o u e => hgrow6.cell e (fun q => NVZ.out q.symm)
              have s6 : S3c ⟨z, 0, none⟩ ⟨z, 1, none⟩ ⟨z, 2, none⟩ (.string nm) (.slice ca m cc) (.int .i64 wt) w6 := ⟨nz _ _ hS5.1, nz _ _ hS5.2.1, nz _ _ hS5.2.2⟩
              have nq : ∀ o u, w6.cell? ⟨z, o, none⟩ = some u → (w6.setCell ⟨p, 0, none⟩ (.slice (some ⟨g6, 0, none⟩) (k + 1) cap6)).cell? ⟨z, o, none⟩ = some u := fun o u e => by
                rw [World.cell?_setCell_other _ _ _ _ (fun q => by injection q with q; exact NPZ.out q)]; exact e
              exact ⟨s6, nq _ _ s6.1, nq _ _ s6.2.1, nq _ _ s6.2.2⟩
            clear hown6 hgrow6 hat6 hlt6 hW5 b5 P5
            have hS6 := Z6.out.1
            refine hK _ _ hS6 (fun _ => ?_)
            clear hK K
            try simp only [Act.put, List.setIfInBounds_toArray, List.set_cons_zero, List.set_cons_succ]
            refine wpAnyH_take (i := 9) (v := ?v9yB) rfl (by kernel_rfl) (by kernel_rfl) (by kernel_rfl) (fun _ _ _ h => h) (Or.inl ⟨by rfl, ?hy9yB⟩) (by assumption) ?rest9yB
            case hy9yB =>
              intro w hSw
              dsimp only [S3c] at hSw
              go_simp
              try with_reducible rfl
            simp only [Act.put, List.getElem_toArray, List.getElem_cons_succ, List.getElem_cons_zero, List.setIfInBounds_toArray, List.set_cons_zero, List.set_cons_succ]
            refine wpAnyH_take (i := 10) (v := ?v10yB) rfl (by kernel_rfl) (by kernel_rfl) (by kernel_rfl) (fun _ _ _ h => h) (Or.inl ⟨by rfl, ?hy10yB⟩) (by assumption) ?rest10yB
            case hy10yB =>
              intro w hSw
              dsimp only [S3c] at hSw
              go_simp
              try with_reducible rfl
            simp only [Act.put, List.getElem_toArray, List.getElem_cons_succ, List.getElem_cons_zero, List.setIfInBounds_toArray, List.set_cons_zero, List.set_cons_succ]
            refine wpAnyH_ready (rs := [11]) (by kernel_rfl) (by simp) ?_
            refine AllReadyH.cons rfl (fun K hK => ?_) AllReadyH.nil
            obtain ⟨p6, p7⟩ := P6.out
            have hS7 := Z6.out.2
            obtain ⟨W8, hW8⟩ : ∃ W, w6.setCell ⟨p, 0, none⟩ (.slice (some ⟨g6, 0, none⟩) (k + 1) cap6) = W := ⟨_, rfl⟩
            rw [hW8] at I7 hS7
            go_simp
            try rw [hW8]
            refine hK _ _ hS7 (fun _ => ?_)
            clear hK K hS6 hS7 hW8 p6 p7 Z6 P6 hS5 hS4 hSz
            try simp only [Act.put, List.setIfInBounds_toArray, List.set_cons_zero, List.set_cons_succ]
            refine wpAnyH_done (by kernel_rfl) ?_ _
            refine NoPanic.normal ?_
            go_wp2
            go_roundw
            case rel => exact ⟨k + 1, _, setX X k ⟨ca, cc, m4, h4⟩, by go_num, hlt, I7.out⟩
            case measure => simp [intOf]; omega
          · obtain ⟨W5, hW5⟩ : ∃ W, w4.alloc (.cells #[.string nm, .slice ca m cc, .int .i64 wt, .map (some m4), .slice (some ⟨h4, 0, none⟩) m m] 94) = W := ⟨_, rfl⟩
            have b5 : Below w4.heap.size w4 W5 := by rw [← hW5]; exact bel_one _ _
            have hS5 := HS9.out W5 (BZ4.out.trans (b5.mono BZ4.out.size))
            go_simp
            try rw [hW5]
            refine hK _ _ hS5 (fun _ => ?_)
            clear hK K
            try simp only [Act.put, List.setIfInBounds_toArray, List.set_cons_zero, List.set_cons_succ]
            refine wpAnyH_ready (rs := [4]) (by kernel_rfl) (by simp) ?_
            refine AllReadyH.cons rfl (fun K hK => ?_) AllReadyH.nil
            have ld0 : W5.cell? ⟨p, 0, none⟩ = some v := (I4.out.below b5).pc.c0
            go_simp
            refine hK _ _ hS5 (fun _ => ?_)
            clear hK K ld0
            try simp only [Act.put, List.setIfInBounds_toArray, List.set_cons_zero, List.set_cons_succ]
            refine wpAnyH_ready (rs := [8]) (by kernel_rfl) (by simp) ?_
            refine AllReadyH.cons rfl (fun K hK => ?_) AllReadyH.nil
            rw [if_pos (by rfl)]
            refine wp_append_lies _ _ _ 64 rfl w3.heap.size 94 i0 zf 5 80 Tryd.underlying64 hi hz0 hz1 hz2 hzf (by decide) v k (flF l X k) rfl (keep_own I4.out.own b5) ⟨w4.heap.size, 0, none⟩ 1 1 [.string nm, .slice ca m cc, .int .i64 wt, .map (some m4), .slice (some ⟨h4, 0, none⟩) m m] rfl rfl (World.news_of_block (t := 94) (fr := (0, 0)) (by rw [← hW5]; exact newBlock _ _)) ?c1C (by decide) ?c2C ?c3C ?c4C _ rfl ?_
            case c1C => intro u hu; simp at hu; rcases hu with rfl | rfl | rfl | rfl | rfl <;> rfl
            case c2C => unfold maxLen; omega
            case c3C => omega
            case c4C => exact Nat.le_trans I4.out.bel.size b5.size
            intro g6 cap6 w6 hown6 hgrow6 hat6 hlt6
            have P5 := Lib.hid (I4.out.below b5).pc
            have I7 : Hid (PfI w3 (w6.setCell ⟨p, 0, none⟩ (.slice (some ⟨g6, 0, none⟩) (k + 1) cap6)) p (.slice (some ⟨g6, 0, none⟩) (k + 1) cap6) l (fuK l (k + 1)) ev (k + 1) (setX X k ⟨ca, cc, m4, h4⟩)) :=
              I3.out.add BZ4.out X4.out.1 X4.out.2.1 X4.out.2.2.1 X4.out.2.2.2 hW5.symm (by rw [HFR.out m4 h4]; exact hown6) hgrow6 hat6
            have P6 : Hid (w6.cell? ⟨p, 0, none⟩ = some v ∧ w6.frozen? ⟨p, 0, none⟩ = false) :=
              ⟨(World.cell?_of_block (hgrow6.block p P5.out.lt (fun q => I4.out.vp q.symm))).trans P5.out.c0, (World.frozen?_of_block (hgrow6.block p P5.out.lt (fun q => I4.out.vp q.symm))).trans (P5.out.fr 0)⟩
            have Z6 : Hid (S3c ⟨z, 0, none⟩ ⟨z, 1, none⟩ ⟨z, 2, none⟩ (.string nm) (.slice ca m cc) (.int .i64 wt) w6 ∧ S3c ⟨z, 0, none⟩ ⟨z, 1, none⟩ ⟨z, 2, none⟩ (.string nm) (.slice ca m cc) (.int .i64 wt) (w6.setCell ⟨p, 0, none⟩ (.slice (some ⟨g6, 0, none⟩) (k + 1) cap6))) := by
              have nz : ∀ o u, W5.cell? ⟨z, o, none⟩ = some u → w6.cell? ⟨z, o, none⟩ = some u := fun o u e => hgrow6.cell e (fun q => NVZ.out q.symm)
              have s6 : S3c ⟨z, 0, none⟩ ⟨z, 1, none⟩ ⟨z, 2, none⟩ (.string nm) (.slice ca m cc) (.int .i64 wt) w6 := ⟨nz _ _ hS5.1, nz _ _ hS5.2.1, nz _ _ hS5.2.2⟩
              have nq : ∀ o u, w6.cell? ⟨z, o, none⟩ = some u → (w6.setCell ⟨p, 0, none⟩ (.slice (some ⟨g6, 0, none⟩) (k + 1) cap6)).cell? ⟨z, o, none⟩ = some u := fun o u e => by
                rw [World.cell?_setCell_other _ _ _ _ (fun q => by injection q with q; exact NPZ.out q)]; exact e
              exact ⟨s6, nq _ _ s6.1, nq _ _ s6.2.1, nq _ _ s6.2.2⟩
            clear hown6 hgrow6 hat6 hlt6 hW5 b5 P5
            have hS6 := Z6.out.1
            refine hK _ _ hS6 (fun _ => ?_)
            clear hK K
            try simp only [Act.put, List.setIfInBounds_toArray, List.set_cons_zero, List.set_cons_succ]
            refine wpAnyH_take (i := 9) (v := ?v9yC) rfl (by kernel_rfl) (by kernel_rfl) (by kernel_rfl) (fun _ _ _ h => h) (Or.inl ⟨by rfl, ?hy9yC⟩) (by assumption) ?rest9yC
            case hy9yC =>
              intro w hSw
              dsimp only [S3c] at hSw
              go_simp
              try with_reducible rfl
            simp only [Act.put, List.getElem_toArray, List.getElem_cons_succ, List.getElem_cons_zero, List.setIfInBounds_toArray, List.set_cons_zero, List.set_cons_succ]
            refine wpAnyH_take (i := 10) (v := ?v10yC) rfl (by kernel_rfl) (by kernel_rfl) (by kernel_rfl) (fun _ _ _ h => h) (Or.inl ⟨by rfl, ?hy10yC⟩) (by assumption) ?rest10yC
            case hy10yC =>
              intro w hSw
              dsimp only [S3c] at hSw
              go_simp
              try with_reducible rfl
            simp only [Act.put, List.getElem_toArray, List.getElem_cons_succ, List.getElem_cons_zero, List.setIfInBounds_toArray, List.set_cons_zero, List.set_cons_succ]
            refine wpAnyH_ready (rs := [11]) (by kernel_rfl) (by simp) ?_
            refine AllReadyH.cons rfl (fun K hK => ?_) AllReadyH.nil
            obtain ⟨p6, p7⟩ := P6.out
            have hS7 := Z6.out.2
            obtain ⟨W8, hW8⟩ : ∃ W, w6.setCell ⟨p, 0, none⟩ (.slice (some ⟨g6, 0, none⟩) (k + 1) cap6) = W := ⟨_, rfl⟩
            rw [hW8] at I7 hS7
            go_simp
            try rw [hW8]
            refine hK _ _ hS7 (fun _ => ?_)
            clear hK K hS6 hS7 hW8 p6 p7 Z6 P6 hS5 hS4 hSz
            try simp only [Act.put, List.setIfInBounds_toArray, List.set_cons_zero, List.set_cons_succ]
            refine wpAnyH_done (by kernel_rfl) ?_ _
            refine NoPanic.normal ?_
            go_wp2
            go_roundw
            case rel => exact ⟨k + 1, _, setX X k ⟨ca, cc, m4, h4⟩, by go_num, hlt, I7.out⟩
            case measure => simp [intOf]; omega
      · have hlt' : ¬ (k : Int) < (n : Int) := by omega
        have hkn : k = n := by have := hS0.out.1; omega
        have IP := hS0.out.2
        rw [hkn, ← HN.out] at IP
        obtain ⟨g, cap, hvg, _, _⟩ := IP.own.form HOK.out.n1
        subst hvg
        have PE : Hid (PeI w3 wr p g cap (.slice none 0 0) l E 0 X) := by
          have IP2 := IP
          rw [← HEV.out] at IP2
          refine IP2.done fun i hi => ?_
          unfold fuK
          split
          · rfl
          · unfold fuS; rw [if_neg (by omega)]
        have z1 : wr.cell? ⟨w.heap.size, 1, none⟩ = some (.slice a2 m0 c2) := (Y.out wr IP.bel).2
        clear hS0 IP hlt
        go_wp2_with fail
        clear z1
        go_loopw [8, 9, 53] (fun _ _ iv wr => ∃ (k : Nat) (v : Value), iv = .int .i64 k ∧ Hid (k ≤ m0 ∧ PeI w3 wr p g cap v l E k X)) (fun _ _ iv _ => m0 - (intOf iv).toNat)
        case atStart => exact ⟨0, _, rfl, Nat.zero_le _, PE.out⟩
        case round =>
          clear PE
          obtain ⟨k, v, rfl, hS0⟩ := hrel
          by_cases hlt : k < m0
          · have hlt' : (k : Int) < (m0 : Int) := by omega
            have hkl : k < E.length := by rw [HM0.out]; exact hlt
            have hk0 : (0 : Int) ≤ (k : Int) := by omega
            have I0 := Lib.hid hS0.out.2
            obtain ⟨eb, eo, hea, u0, sa, sc, u1, hrd⟩ := (HE.out.below B2.out.1).at_ hkl
            have hel : eb < w3.heap.size := cellLt u0
            subst hea
            have c0 := (I0.out.bel.cell (p := ⟨eb, eo + k * 2, none⟩) hel).trans u0
            have c1 := (I0.out.bel.cell (p := ⟨eb, eo + k * 2 + 1, none⟩) hel).trans u1
            have HRD := Lib.hid hrd
            have HKL := Lib.hid hkl
            obtain ⟨nm, hnm⟩ : ∃ m, (ed E k).nm = m := ⟨_, rfl⟩
            obtain ⟨L, hL⟩ : ∃ m, (ed E k).ss.length = m := ⟨_, rfl⟩
            have HL9 := Lib.hid hL
            rw [hnm] at c0
            rw [hL] at c1
            obtain ⟨WZ, hw3⟩ : ∃ W, wr.alloc (.cells #[.string nm, .slice sa L sc] 43) = W := ⟨_, rfl⟩
            obtain ⟨z, hzz⟩ : ∃ z, wr.heap.size = z := ⟨_, rfl⟩
            have b3 : Below wr.heap.size wr WZ := by rw [← hw3]; exact bel_one _ _
            have Z3 : Hid (S2e ⟨z, 0, none⟩ ⟨z, 1, none⟩ (.string nm) (.slice sa L sc) WZ ∧ z < WZ.heap.size) := by
              unfold Hid
              rw [← hw3, ← hzz]
              exact ⟨⟨by rw [World.cell?_alloc_new]; rfl, by rw [World.cell?_alloc_new]; rfl⟩, by simp⟩
            have J3 := Lib.hid (I0.out.below b3)
            have NPZ : Hid (p ≠ z) := by have := I0.out.pc.lt; unfold Hid; omega
            have NVZ : Hid (v.ownBlock ≠ some z) := fun e => by have := (I0.out.own.lt z e).2; omega
            have NHZ : Hid (¬ Nh l X z) := by
              rintro ⟨i, hi, e⟩
              have := (I0.out.pl.fl i hi).sh; omega
            have NHP : Hid (¬ Nh l X p) := fun ⟨i, hi, e⟩ => (I0.out.np i hi).1 e.symm
            have NHV : Hid (∀ g, v.ownBlock = some g → ¬ Nh l X g) := fun g e ⟨i, hi, e2⟩ => (I0.out.np i hi).2.2.1 (by rw [e, e2])
            have HS9 : Hid (∀ V, Kx (Nh l X) WZ V → S2e ⟨z, 0, none⟩ ⟨z, 1, none⟩ (.string nm) (.slice sa L sc) V) := fun V hV =>
              ⟨hV.cell Z3.out.1.1 NHZ.out, hV.cell Z3.out.1.2 NHZ.out⟩
            have HLD : Hid (∀ V, Below WZ.heap.size WZ V → V.cell? ⟨p, 13, none⟩ = some v) := fun V hV => (J3.out.below hV).pc.ce
            obtain ⟨Bq, hBq⟩ : ∃ B, ebS l E k = B := ⟨_, rfl⟩
            have HBQ := Lib.hid hBq
            have C2 : Hid (∀ V, Below WZ.heap.size WZ V → Calls Tryd.prog 64 #[.pointer (some ⟨p, 0, none⟩), .int .i64 k, .agg #[.string nm, .slice sa L sc]] V fun e w' => e = .returned (.agg #[.int .u64 (Bq 0), .int .u64 (Bq 1), .int .u64 (Bq 2), .int .u64 (Bq 3), .int .u64 (Bq 4), .int .u64 (Bq 5), .int .u64 (Bq 6), .int .u64 (Bq 7), .int .u64 (Bq 8), .int .u64 (Bq 9), .int .u64 (Bq 10), .int .u64 (Bq 11)]) ∧ PlH w3 w' g l X (fun i k' => bz (hdB l E i k') k ||| (if hdB l E i k' k = true then 2 ^ k else 0)) ∧ Kx (Nh l X) V w') := fun V hV => by
              have h := J3.out.below hV
              have hbz : ∀ i k', bz (hdB l E i k') k < 2 ^ 60 := fun i k' => Nat.lt_of_lt_of_le (bz_lt _ _) (Nat.pow_le_pow_right (by omega) (by omega))
              have ht3 : 0 < w3.heap.size := Nat.lt_of_lt_of_le ht B2.out.1.size
              have := editOf_c p g cap l E k X (fun i k' => bz (hdB l E i k') k) sa sc nm w3 V HOK.out HKL.out h.pl h.pc.c0 (fun i hi => (h.np i hi).1) hbz h.bel HRD.out (tab_below HT.out ht B2.out.1) ht3
              unfold EoP bxV at this
              rw [HL9.out, HBQ.out] at this
              exact this
            clear hrd hS0 hkl hnm hL b3 u0 u1 hel hBq
            go_wp2_with fail
            clear c0 c1 hw3
            obtain ⟨zf, hzi, hzf⟩ := infoBx
            obtain ⟨i0, hi, hz0, hz1, hz2⟩ := info_parts hzi
            refine wp_region_noPanic ?_
            refine wp_region_held_drew (S := (S2e ⟨z, 0, none⟩ ⟨z, 1, none⟩ (.string nm) (.slice sa L sc))) (by kernel_rfl) (by exact HS9.out _ (Kx.of_below (Below.refl WZ.heap.size WZ).drew)) (fun hSz => ?_)
            obtain ⟨WD, hWD⟩ : ∃ W, WZ.drew = W := ⟨_, rfl⟩
            have D0z : Hid (Below WZ.heap.size WZ WD) := by unfold Hid; rw [← hWD]; exact (Below.refl _ _).drew
            rw [hWD] at hSz ⊢
            clear hWD
            refine wpAnyH_take (i := 0) (v := ?v0q0) rfl (by kernel_rfl) (by kernel_rfl) (by kernel_rfl) (fun _ _ _ h => h) (Or.inl ⟨by rfl, ?hy0q0⟩) (by assumption) ?rest0q0
            case hy0q0 =>
              intro w hSw
              dsimp only [S2e] at hSw
              go_simp
              try with_reducible rfl
            simp only [Act.put, List.getElem_toArray, List.getElem_cons_succ, List.getElem_cons_zero, List.setIfInBounds_toArray, List.set_cons_zero, List.set_cons_succ]
            refine wpAnyH_take (i := 1) (v := ?v1q1) rfl (by kernel_rfl) (by kernel_rfl) (by kernel_rfl) (fun _ _ _ h => h) (Or.inl ⟨by rfl, ?hy1q1⟩) (by assumption) ?rest1q1
            case hy1q1 =>
              intro w hSw
              dsimp only [S2e] at hSw
              go_simp
              try with_reducible rfl
            simp only [Act.put, List.getElem_toArray, List.getElem_cons_succ, List.getElem_cons_zero, List.setIfInBounds_toArray, List.set_cons_zero, List.set_cons_succ]
            refine wpAnyH_take (i := 2) (v := ?v2q2) rfl (by kernel_rfl) (by kernel_rfl) (by kernel_rfl) (fun _ _ _ h => h) (Or.inl ⟨by rfl, ?hy2q2⟩) (by assumption) ?rest2q2
            case hy2q2 =>
              intro w hSw
              dsimp only [S2e] at hSw
              go_simp
              try with_reducible rfl
            simp only [Act.put, List.getElem_toArray, List.getElem_cons_succ, List.getElem_cons_zero, List.setIfInBounds_toArray, List.set_cons_zero, List.set_cons_succ]
            refine wpAnyH_take (i := 3) (v := ?v3q3) rfl (by kernel_rfl) (by kernel_rfl) (by kernel_rfl) (fun _ _ _ h => h) (Or.inl ⟨by rfl, ?hy3q3⟩) (by assumption) ?rest3q3
            case hy3q3 =>
              intro w hSw
              dsimp only [S2e] at hSw
              go_simp
              try with_reducible rfl
            simp only [Act.put, List.getElem_toArray, List.getElem_cons_succ, List.getElem_cons_zero, List.setIfInBounds_toArray, List.set_cons_zero, List.set_cons_succ]
            refine wpAnyH_take (i := 5) (v := ?v5q5) rfl (by kernel_rfl) (by kernel_rfl) (by kernel_rfl) (fun _ _ _ h => h) (Or.inl ⟨by rfl, ?hy5q5⟩) (by assumption) ?rest5q5
            case hy5q5 =>
              intro w hSw
              dsimp only [S2e] at hSw
              go_simp
              try with_reducible rfl
            simp only [Act.put, List.getElem_toArray, List.getElem_cons_succ, List.getElem_cons_zero, List.setIfInBounds_toArray, List.set_cons_zero, List.set_cons_succ]
            refine wpAnyH_take (i := 6) (v := ?v6q6) rfl (by kernel_rfl) (by kernel_rfl) (by kernel_rfl) (fun _ _ _ h => h) (Or.inl ⟨by rfl, ?hy6q6⟩) (by assumption) ?rest6q6
            case hy6q6 =>
              intro w hSw
              dsimp only [S2e] at hSw
              go_simp
              try with_reducible rfl
            simp only [Act.put, List.getElem_toArray, List.getElem_cons_succ, List.getElem_cons_zero, List.setIfInBounds_toArray, List.set_cons_zero, List.set_cons_succ]
            refine wpAnyH_take (i := 7) (v := ?v7q7) rfl (by kernel_rfl) (by kernel_rfl) (by kernel_rfl) (fun _ _ _ h => h) (Or.inl ⟨by rfl, ?hy7q7⟩) (by assumption) ?rest7q7
            case hy7q7 =>
              intro w hSw
              dsimp only [S2e] at hSw
              go_simp
              try with_reducible rfl
            simp only [Act.put, List.getElem_toArray, List.getElem_cons_succ, List.getElem_cons_zero, List.setIfInBounds_toArray, List.set_cons_zero, List.set_cons_succ]
            refine wpAnyH_ready (rs := [4, 8]) (by kernel_rfl) (by simp) ?_
            refine AllReadyH.cons rfl (fun K hK => ?_) (AllReadyH.cons rfl (fun K hK => ?_) AllReadyH.nil)
            · have ld0 := HLD.out WD D0z.out
              go_simp
              refine hK _ _ hSz (fun _ => ?_)
              clear hK K ld0
              try simp only [Act.put, List.setIfInBounds_toArray, List.set_cons_zero, List.set_cons_succ]
              refine wpAnyH_ready (rs := [8]) (by kernel_rfl) (by simp) ?_
              refine AllReadyH.cons rfl (fun K hK => ?_) AllReadyH.nil
              go_simp
              refine (C2.out WD D0z.out).mono ?_
              rintro e1 w4 ⟨rfl, hp4, hk4⟩
              have KX4 : Hid (Kx (Nh l X) WZ w4) := (Kx.of_below D0z.out).trans hk4
              have PL4 := Lib.hid hp4
              have HL4 : Hid (w4.cell? ⟨p, 13, none⟩ = some v) := (J3.out.pc.keep KX4.out NHP.out).ce
              have hS4 := HS9.out w4 KX4.out
              have OW4 := Lib.hid (ownKx J3.out.own KX4.out NHV.out)
              have PC4 := Lib.hid (J3.out.pc.keep KX4.out NHP.out)
              clear hp4 hk4
              try go_simp
              refine hK _ _ hS4 (fun _ => ?_)
              clear hK K
              try simp only [Act.put, List.setIfInBounds_toArray, List.set_cons_zero, List.set_cons_succ]
              refine wpAnyH_ready (rs := [9]) (by kernel_rfl) (by simp) ?_
              refine AllReadyH.cons rfl (fun K hK => ?_) AllReadyH.nil
              obtain ⟨W5, hW5⟩ : ∃ W, w4.alloc (.cells #[.int .u64 (Bq 0), .int .u64 (Bq 1), .int .u64 (Bq 2), .int .u64 (Bq 3), .int .u64 (Bq 4), .int .u64 (Bq 5), .int .u64 (Bq 6), .int .u64 (Bq 7), .int .u64 (Bq 8), .int .u64 (Bq 9), .int .u64 (Bq 10), .int .u64 (Bq 11)] 57) = W := ⟨_, rfl⟩
              have b5 : Below w4.heap.size w4 W5 := by rw [← hW5]; exact bel_one _ _
              have hS5 : S2e ⟨z, 0, none⟩ ⟨z, 1, none⟩ (.string nm) (.slice sa L sc) W5 := ⟨(b5.cell (p := ⟨z, 0, none⟩) (cellLt hS4.1)).trans hS4.1, (b5.cell (p := ⟨z, 1, none⟩) (cellLt hS4.2)).trans hS4.2⟩
              go_simp
              try rw [hW5]
              refine hK _ _ hS5 (fun _ => ?_)
              clear hK K
              try simp only [Act.put, List.setIfInBounds_toArray, List.set_cons_zero, List.set_cons_succ]
              refine wpAnyH_ready (rs := [10]) (by kernel_rfl) (by simp) ?_
              refine AllReadyH.cons rfl (fun K hK => ?_) AllReadyH.nil
              rw [if_pos (by rfl)]
              refine wp_append_lies _ _ _ 65 rfl w3.heap.size 57 i0 zf 12 96 Tryd.underlying65 hi hz0 hz1 hz2 hzf (by decide) v k (flE l E k) rfl (keep_own OW4.out b5) ⟨w4.heap.size, 0, none⟩ 1 1 (bxL Bq) rfl rfl (World.news_of_block (t := 57) (fr := (0, 0)) (by rw [← hW5]; exact newBlock _ _)) ?d1A (by decide) ?d2A ?d3A ?d4A _ rfl ?_
              case d1A => intro u hu; simp [bxL] at hu; rcases hu with rfl | rfl | rfl | rfl | rfl | rfl | rfl | rfl | rfl | rfl | rfl | rfl <;> rfl
              case d2A => unfold maxLen; omega
              case d3A => omega
              case d4A => exact Nat.le_trans J3.out.bel.size (Nat.le_trans KX4.out.size b5.size)
              intro g6 cap6 w6 hown6 hgrow6 hat6 hlt6
              have P5 := Lib.hid (PC4.out.keep (N := fun _ => False) (Kx.of_below b5) (fun q => q))
              have I7 : Hid (PeI w3 (w6.setCell ⟨p, 13, none⟩ (.slice (some ⟨g6, 0, none⟩) (k + 1) cap6)) p g cap (.slice (some ⟨g6, 0, none⟩) (k + 1) cap6) l E (k + 1) X) :=
                J3.out.add HOK.out.n1 KX4.out PL4.out hW5.symm (by rw [HBQ.out]; exact hown6) hgrow6 hat6
              have P6 : Hid (w6.cell? ⟨p, 13, none⟩ = some v ∧ w6.frozen? ⟨p, 13, none⟩ = false) :=
                ⟨(World.cell?_of_block (hgrow6.block p P5.out.lt (fun q => J3.out.vp q.symm))).trans P5.out.ce, (World.frozen?_of_block (hgrow6.block p P5.out.lt (fun q => J3.out.vp q.symm))).trans (P5.out.fr 13)⟩
              have Z6 : Hid (S2e ⟨z, 0, none⟩ ⟨z, 1, none⟩ (.string nm) (.slice sa L sc) w6 ∧ S2e ⟨z, 0, none⟩ ⟨z, 1, none⟩ (.string nm) (.slice sa L sc) (w6.setCell ⟨p, 13, none⟩ (.slice (some ⟨g6, 0, none⟩) (k + 1) cap6))) := by
                have nz : ∀ o u, W5.cell? ⟨z, o, none⟩ = some u → w6.cell? ⟨z, o, none⟩ = some u := fun o u e => hgrow6.cell e (fun q => NVZ.out q.symm)
                have s6 : S2e ⟨z, 0, none⟩ ⟨z, 1, none⟩ (.string nm) (.slice sa L sc) w6 := ⟨nz _ _ hS5.1, nz _ _ hS5.2⟩
                have nq : ∀ o u, w6.cell? ⟨z, o, none⟩ = some u → (w6.setCell ⟨p, 13, none⟩ (.slice (some ⟨g6, 0, none⟩) (k + 1) cap6)).cell? ⟨z, o, none⟩ = some u := fun o u e => by
                  rw [World.cell?_setCell_other _ _ _ _ (fun q => by injection q with q; exact NPZ.out q)]; exact e
                exact ⟨s6, nq _ _ s6.1, nq _ _ s6.2⟩
              clear hown6 hgrow6 hat6 hlt6 hW5 b5 P5
              have hS6 := Z6.out.1
              refine hK _ _ hS6 (fun _ => ?_)
              clear hK K
              try simp only [Act.put, List.setIfInBounds_toArray, List.set_cons_zero, List.set_cons_succ]
              refine wpAnyH_take (i := 11) (v := ?v11xA) rfl (by kernel_rfl) (by kernel_rfl) (by kernel_rfl) (fun _ _ _ h => h) (Or.inl ⟨by rfl, ?hy11xA⟩) (by assumption) ?rest11xA
              case hy11xA =>
                intro w hSw
                dsimp only [S2e] at hSw
                go_simp
                try with_reducible rfl
              simp only [Act.put, List.getElem_toArray, List.getElem_cons_succ, List.getElem_cons_zero, List.setIfInBounds_toArray, List.set_cons_zero, List.set_cons_succ]
              refine wpAnyH_take (i := 12) (v := ?v12xA) rfl (by kernel_rfl) (by kernel_rfl) (by kernel_rfl) (fun _ _ _ h => h) (Or.inl ⟨by rfl, ?hy12xA⟩) (by assumption) ?rest12xA
              case hy12xA =>
                intro w hSw
                dsimp only [S2e] at hSw
                go_simp
                try with_reducible rfl
              simp only [Act.put, List.getElem_toArray, List.getElem_cons_succ, List.getElem_cons_zero, List.setIfInBounds_toArray, List.set_cons_zero, List.set_cons_succ]
              refine wpAnyH_ready (rs := [13]) (by kernel_rfl) (by simp) ?_
              refine AllReadyH.cons rfl (fun K hK => ?_) AllReadyH.nil
              obtain ⟨p6, p7⟩ := P6.out
              have hS7 := Z6.out.2
              obtain ⟨W8, hW8⟩ : ∃ W, w6.setCell ⟨p, 13, none⟩ (.slice (some ⟨g6, 0, none⟩) (k + 1) cap6) = W := ⟨_, rfl⟩
              rw [hW8] at I7 hS7
              go_simp
              try rw [hW8]
              refine hK _ _ hS7 (fun _ => ?_)
              clear hK K hS6 hS7 hW8 p6 p7 Z6 P6 hS5 hS4 hSz
              try simp only [Act.put, List.setIfInBounds_toArray, List.set_cons_zero, List.set_cons_succ]
              refine wpAnyH_done (by kernel_rfl) ?_ _
              refine NoPanic.normal ?_
              go_wp2
              go_roundw
              case rel => exact ⟨k + 1, _, by go_num, hlt, I7.out⟩
              case measure => simp [intOf]; omega
            · go_simp
              refine (C2.out WD D0z.out).mono ?_
              rintro e1 w4 ⟨rfl, hp4, hk4⟩
              have KX4 : Hid (Kx (Nh l X) WZ w4) := (Kx.of_below D0z.out).trans hk4
              have PL4 := Lib.hid hp4
              have HL4 : Hid (w4.cell? ⟨p, 13, none⟩ = some v) := (J3.out.pc.keep KX4.out NHP.out).ce
              have hS4 := HS9.out w4 KX4.out
              have OW4 := Lib.hid (ownKx J3.out.own KX4.out NHV.out)
              have PC4 := Lib.hid (J3.out.pc.keep KX4.out NHP.out)
              clear hp4 hk4
              try go_simp
              refine hK _ _ hS4 (fun _ => ?_)
              clear hK K
              try simp only [Act.put, List.setIfInBounds_toArray, List.set_cons_zero, List.set_cons_succ]
              refine wpAnyH_ready (rs := [4, 9]) (by kernel_rfl) (by simp) ?_
              refine AllReadyH.cons rfl (fun K hK => ?_) (AllReadyH.cons rfl (fun K hK => ?_) AllReadyH.nil)
              · have ld0 := HL4.out
                go_simp
                refine hK _ _ hS4 (fun _ => ?_)
                clear hK K ld0
                try simp only [Act.put, List.setIfInBounds_toArray, List.set_cons_zero, List.set_cons_succ]
                refine wpAnyH_ready (rs := [9]) (by kernel_rfl) (by simp) ?_
                refine AllReadyH.cons rfl (fun K hK => ?_) AllReadyH.nil
                obtain ⟨W5, hW5⟩ : ∃ W, w4.alloc (.cells #[.int .u64 (Bq 0), .int .u64 (Bq 1), .int .u64 (Bq 2), .int .u64 (Bq 3), .int .u64 (Bq 4), .int .u64 (Bq 5), .int .u64 (Bq 6), .int .u64 (Bq 7), .int .u64 (Bq 8), .int .u64 (Bq 9), .int .u64 (Bq 10), .int .u64 (Bq 11)] 57) = W := ⟨_, rfl⟩
                have b5 : Below w4.heap.size w4 W5 := by rw [← hW5]; exact bel_one _ _
                have hS5 : S2e ⟨z, 0, none⟩ ⟨z, 1, none⟩ (.string nm) (.slice sa L sc) W5 := ⟨(b5.cell (p := ⟨z, 0, none⟩) (cellLt hS4.1)).trans hS4.1, (b5.cell (p := ⟨z, 1, none⟩) (cellLt hS4.2)).trans hS4.2⟩
                go_simp
                try rw [hW5]
                refine hK _ _ hS5 (fun _ => ?_)
                clear hK K
                try simp only [Act.put, List.setIfInBounds_toArray, List.set_cons_zero, List.set_cons_succ]
                refine wpAnyH_ready (rs := [10]) (by kernel_rfl) (by simp) ?_
                refine AllReadyH.cons rfl (fun K hK => ?_) AllReadyH.nil
                rw [if_pos (by rfl)]
                refine wp_append_lies _ _ _ 65 rfl w3.heap.size 57 i0 zf 12 96 Tryd.underlying65 hi hz0 hz1 hz2 hzf (by decide) v k (flE l E k) rfl (keep_own OW4.out b5) ⟨w4.heap.size, 0, none⟩ 1 1 (bxL Bq) rfl rfl (World.news_of_block (t := 57) (fr := (0, 0)) (by rw [← hW5]; exact newBlock _ _)) ?d1B (by decide) ?d2B ?d3B ?d4B _ rfl ?_
                case d1B => intro u hu; simp [bxL] at hu; rcases hu with rfl | rfl | rfl | rfl | rfl | rfl | rfl | rfl | rfl | rfl | rfl | rfl <;> rfl
                case d2B => unfold maxLen; omega
                case d3B => omega
                case d4B => exact Nat.le_trans J3.out.bel.size (Nat.le_trans KX4.out.size b5.size)
                intro g6 cap6 w6 hown6 hgrow6 hat6 hlt6
                have P5 := Lib.hid (PC4.out.keep (N := fun _ => False) (Kx.of_below b5) (fun q => q))
                have I7 : Hid (PeI w3 (w6.setCell ⟨p, 13, none⟩ (.slice (some ⟨g6, 0, none⟩) (k + 1) cap6)) p g cap (.slice (some ⟨g6, 0, none⟩) (k + 1) cap6) l E (k + 1) X) :=
                  J3.out.add HOK.out.n1 KX4.out PL4.out hW5.symm (by rw [HBQ.out]; exact hown6) hgrow6 hat6
                have P6 : Hid (w6.cell? ⟨p, 13, none⟩ = some v ∧ w6.frozen? ⟨p, 13, none⟩ = false) :=
                  ⟨(World.cell?_of_block (hgrow6.block p P5.out.lt (fun q => J3.out.vp q.symm))).trans P5.out.ce, (World.frozen?_of_block (hgrow6.block p P5.out.lt (fun q => J3.out.vp q.symm))).trans (P5.out.fr 13)⟩
                have Z6 : Hid (S2e ⟨z, 0, none⟩ ⟨z, 1, none⟩ (.string nm) (.slice sa L sc) w6 ∧ S2e ⟨z, 0, none⟩ ⟨z, 1, none⟩ (.string nm) (.slice sa L sc) (w6.setCell ⟨p, 13, none⟩ (.slice (some ⟨g6, 0, none⟩) (k + 1) cap6))) := by
                  have nz : ∀ o u, W5.cell? ⟨z, o, none⟩ = some u → w6.cell? ⟨z, o, none⟩ = some u := fun o u e => hgrow6.cell e (fun q => NVZ.out q.symm)
                  have s6 : S2e ⟨z, 0, none⟩ ⟨z, 1, none⟩ (.string nm) (.slice sa L sc) w6 := ⟨nz _ _ hS5.1, nz _ _ hS5.2⟩
                  have nq : ∀ o u, w6.cell? ⟨z, o, none⟩ = some u → (w6.setCell ⟨p, 13, none⟩ (.slice (some ⟨g6, 0, none⟩) (k + 1) cap6)).cell? ⟨z, o, none⟩ = some u := fun o u e => by
                    rw [World.cell?_setCell_other _ _ _ _ (fun q => by injection q with q; exact NPZ.out q)]; exact e
                  exact ⟨s6, nq _ _ s6.1, nq _ _ s6.2⟩
                clear hown6 hgrow6 hat6 hlt6 hW5 b5 P5
                have hS6 := Z6.out.1
                refine hK _ _ hS6 (fun _ => ?_)
                clear hK K
                try simp only [Act.put, List.setIfInBounds_toArray, List.set_cons_zero, List.set_cons_succ]
                refine wpAnyH_take (i := 11) (v := ?v11xB) rfl (by kernel_rfl) (by kernel_rfl) (by kernel_rfl) (fun _ _ _ h => h) (Or.inl ⟨by rfl, ?hy11xB⟩) (by assumption) ?rest11xB
                case hy11xB =>
                  intro w hSw
                  dsimp only [S2e] at hSw
                  go_simp
                  try with_reducible rfl
                simp only [Act.put, List.getElem_toArray, List.getElem_cons_succ, List.getElem_cons_zero, List.setIfInBounds_toArray, List.set_cons_zero, List.set_cons_succ]
                refine wpAnyH_take (i := 12) (v := ?v12xB) rfl (by kernel_rfl) (by kernel_rfl) (by kernel_rfl) (fun _ _ _ h => h) (Or.inl ⟨by rfl, ?hy12xB⟩) (by assumption) ?rest12xB
                case hy12xB =>
                  intro w hSw
                  dsimp only [S2e] at hSw
                  go_simp
                  try with_reducible rfl
                simp only [Act.put, List.getElem_toArray, List.getElem_cons_succ, List.getElem_cons_zero, List.setIfInBounds_toArray, List.set_cons_zero, List.set_cons_succ]
                refine wpAnyH_ready (rs := [13]) (by kernel_rfl) (by simp) ?_
                refine AllReadyH.cons rfl (fun K hK => ?_) AllReadyH.nil
                obtain ⟨p6, p7⟩ := P6.out
                have hS7 := Z6.out.2
                obtain ⟨W8, hW8⟩ : ∃ W, w6.setCell ⟨p, 13, none⟩ (.slice (some ⟨g6, 0, none⟩) (k + 1) cap6) = W := ⟨_, rfl⟩
                rw [hW8] at I7 hS7
                go_simp
                try rw [hW8]
                refine hK _ _ hS7 (fun _ => ?_)
                clear hK K hS6 hS7 hW8 p6 p7 Z6 P6 hS5 hS4 hSz
                try simp only [Act.put, List.setIfInBounds_toArray, List.set_cons_zero, List.set_cons_succ]
                refine wpAnyH_done (by kernel_rfl) ?_ _
                refine NoPanic.normal ?_
                go_wp2
                go_roundw
                case rel => exact ⟨k + 1, _, by go_num, hlt, I7.out⟩
                case measure => simp [intOf]; omega
              · obtain ⟨W5, hW5⟩ : ∃ W, w4.alloc (.cells #[.int .u64 (Bq 0), .int .u64 (Bq 1), .int .u64 (Bq 2), .int .u64 (Bq 3), .int .u64 (Bq 4), .int .u64 (Bq 5), .int .u64 (Bq 6), .int .u64 (Bq 7), .int .u64 (Bq 8), .int .u64 (Bq 9), .int .u64 (Bq 10), .int .u64 (Bq 11)] 57) = W := ⟨_, rfl⟩
                have b5 : Below w4.heap.size w4 W5 := by rw [← hW5]; exact bel_one _ _
                have hS5 : S2e ⟨z, 0, none⟩ ⟨z, 1, none⟩ (.string nm) (.slice sa L sc) W5 := ⟨(b5.cell (p := ⟨z, 0, none⟩) (cellLt hS4.1)).trans hS4.1, (b5.cell (p := ⟨z, 1, none⟩) (cellLt hS4.2)).trans hS4.2⟩
                go_simp
                try rw [hW5]
                refine hK _ _ hS5 (fun _ => ?_)
                clear hK K
                try simp only [Act.put, List.setIfInBounds_toArray, List.set_cons_zero, List.set_cons_succ]
                refine wpAnyH_ready (rs := [4]) (by kernel_rfl) (by simp) ?_
                refine AllReadyH.cons rfl (fun K hK => ?_) AllReadyH.nil
                have ld0 : W5.cell? ⟨p, 13, none⟩ = some v := (b5.cell (p := ⟨p, 13, none⟩) (cellLt HL4.out)).trans HL4.out
                go_simp
                refine hK _ _ hS5 (fun _ => ?_)
                clear hK K ld0
                try simp only [Act.put, List.setIfInBounds_toArray, List.set_cons_zero, List.set_cons_succ]
                refine wpAnyH_ready (rs := [10]) (by kernel_rfl) (by simp) ?_
                refine AllReadyH.cons rfl (fun K hK => ?_) AllReadyH.nil
                rw [if_pos (by rfl)]
                refine wp_append_lies _ _ _ 65 rfl w3.heap.size 57 i0 zf 12 96 Tryd.underlying65 hi hz0 hz1 hz2 hzf (by decide) v k (flE l E k) rfl (keep_own OW4.out b5) ⟨w4.heap.size, 0, none⟩ 1 1 (bxL Bq) rfl rfl (World.news_of_block (t := 57) (fr := (0, 0)) (by rw [← hW5]; exact newBlock _ _)) ?d1C (by decide) ?d2C ?d3C ?d4C _ rfl ?_
                case d1C => intro u hu; simp [bxL] at hu; rcases hu with rfl | rfl | rfl | rfl | rfl | rfl | rfl | rfl | rfl | rfl | rfl | rfl <;> rfl
                case d2C => unfold maxLen; omega
                case d3C => omega
                case d4C => exact Nat.le_trans J3.out.bel.size (Nat.le_trans KX4.out.size b5.size)
                intro g6 cap6 w6 hown6 hgrow6 hat6 hlt6
                have P5 := Lib.hid (PC4.out.keep (N := fun _ => False) (Kx.of_below b5) (fun q => q))
                have I7 : Hid (PeI w3 (w6.setCell ⟨p, 13, none⟩ (.slice (some ⟨g6, 0, none⟩) (k + 1) cap6)) p g cap (.slice (some ⟨g6, 0, none⟩) (k + 1) cap6) l E (k + 1) X) :=
                  J3.out.add HOK.out.n1 KX4.out PL4.out hW5.symm (by rw [HBQ.out]; exact hown6) hgrow6 hat6
                have P6 : Hid (w6.cell? ⟨p, 13, none⟩ = some v ∧ w6.frozen? ⟨p, 13, none⟩ = false) :=
                  ⟨(World.cell?_of_block (hgrow6.block p P5.out.lt (fun q => J3.out.vp q.symm))).trans P5.out.ce, (World.frozen?_of_block (hgrow6.block p P5.out.lt (fun q => J3.out.vp q.symm))).trans (P5.out.fr 13)⟩
                have Z6 : Hid (S2e ⟨z, 0, none⟩ ⟨z, 1, none⟩ (.string nm) (.slice sa L sc) w6 ∧ S2e ⟨z, 0, none⟩ ⟨z, 1, none⟩ (.string nm) (.slice sa L sc) (w6.setCell ⟨p, 13, none⟩ (.slice (some ⟨g6, 0, none⟩) (k + 1) cap6))) := by
                  have nz : ∀ o u, W5.cell? ⟨z, o, none⟩ = some u → w6.cell? ⟨z, o, none⟩ = some u := fun o u e => hgrow6.cell e (fun q => NVZ.out q.symm)
                  have s6 : S2e ⟨z, 0, none⟩ ⟨z, 1, none⟩ (.string nm) (.slice sa L sc) w6 := ⟨nz _ _ hS5.1, nz _ _ hS5.2⟩
                  have nq : ∀ o u, w6.cell? ⟨z, o, none⟩ = some u → (w6.setCell ⟨p, 13, none⟩ (.slice (some ⟨g6, 0, none⟩) (k + 1) cap6)).cell? ⟨z, o, none⟩ = some u := fun o u e => by
                    rw [World.cell?_setCell_other _ _ _ _ (fun q => by injection q with q; exact NPZ.out q)]; exact e
                  exact ⟨s6, nq _ _ s6.1, nq _ _ s6.2⟩
                clear hown6 hgrow6 hat6 hlt6 hW5 b5 P5
                have hS6 := Z6.out.1
                refine hK _ _ hS6 (fun _ => ?_)
                clear hK K
                try simp only [Act.put, List.setIfInBounds_toArray, List.set_cons_zero, List.set_cons_succ]
                refine wpAnyH_take (i := 11) (v := ?v11xC) rfl (by kernel_rfl) (by kernel_rfl) (by kernel_rfl) (fun _ _ _ h => h) (Or.inl ⟨by rfl, ?hy11xC⟩) (by assumption) ?rest11xC
                case hy11xC =>
                  intro w hSw
                  dsimp only [S2e] at hSw
                  go_simp
                  try with_reducible rfl
                simp only [Act.put, List.getElem_toArray, List.getElem_cons_succ, List.getElem_cons_zero, List.setIfInBounds_toArray, List.set_cons_zero, List.set_cons_succ]
                refine wpAnyH_take (i := 12) (v := ?v12xC) rfl (by kernel_rfl) (by kernel_rfl) (by kernel_rfl) (fun _ _ _ h => h) (Or.inl ⟨by rfl, ?hy12xC⟩) (by assumption) ?rest12xC
                case hy12xC =>
                  intro w hSw
                  dsimp only [S2e] at hSw
                  go_simp
                  try with_reducible rfl
                simp only [Act.put, List.getElem_toArray, List.getElem_cons_succ, List.getElem_cons_zero, List.setIfInBounds_toArray, List.set_cons_zero, List.set_cons_succ]
                refine wpAnyH_ready (rs := [13]) (by kernel_rfl) (by simp) ?_
                refine AllReadyH.cons rfl (fun K hK => ?_) AllReadyH.nil
                obtain ⟨p6, p7⟩ := P6.out
                have hS7 := Z6.out.2
                obtain ⟨W8, hW8⟩ : ∃ W, w6.setCell ⟨p, 13, none⟩ (.slice (some ⟨g6, 0, none⟩) (k + 1) cap6) = W := ⟨_, rfl⟩
                rw [hW8] at I7 hS7
                go_simp
                try rw [hW8]
                refine hK _ _ hS7 (fun _ => ?_)
                clear hK K hS6 hS7 hW8 p6 p7 Z6 P6 hS5 hS4 hSz
                try simp only [Act.put, List.setIfInBounds_toArray, List.set_cons_zero, List.set_cons_succ]
                refine wpAnyH_done (by kernel_rfl) ?_ _
                refine NoPanic.normal ?_
                go_wp2
                go_roundw
                case rel => exact ⟨k + 1, _, by go_num, hlt, I7.out⟩
                case measure => simp [intOf]; omega
          · have hlt' : ¬ (k : Int) < (m0 : Int) := by omega
            have hkn : k = E.length := by have := hS0.out.1; rw [HM0.out]; omega
            have IP := hS0.out.2
            rw [hkn] at IP
            have PP : Hid (PoP l E w (.returned (.tuple #[.pointer (some ⟨p, 0, none⟩), .int .i64 0])) wr) :=
              ⟨B2.out.1.trans (IP.bel.mono B2.out.1.size), .inr ⟨HZ.out, p, rfl, IP.toR HOK.out.n1⟩⟩
            clear hS0 IP hlt
            go_wp2
            go_ret2
            exact PP.out
  · obtain ⟨f, hf⟩ : ∃ f, planS l E = f := ⟨_, rfl⟩
    have HF : Hid (planS l E = f ∧ planS l E ≠ 0) := ⟨hf, hz⟩
    rw [hf] at C hz
    have g1 : (f == 0) = false := by rw [beq_eq_false_iff_ne]; exact hz
    have g2 : (f != 0) = true := by rw [bne, g1]; rfl
    clear hl hE hst hst2 hT hz hf
    go_enter Tryd.func37, Tryd.ntmps37
    go_wp2_with fail
    refine C.out.mono ?_
    rintro e1 w2 ⟨rfl, b2⟩
    have PP : Hid (PoP l E w (.returned (.tuple #[.pointer none, .int .i64 f])) w2) := ⟨B1.out.trans (b2.mono B1.out.size), .inl ⟨HF.out.2, by rw [HF.out.1]⟩⟩
    clear b2 x0 x1 hW1
    go_wp2
    go_ret2
    exact PP.out
end Go.Proofs.YtadfmplafehjlaaDoor
namespace Go.Proofs.YtadfmplafehjlaaDoor
open Go.RowKit Go.WideMaps Go.Maps

def okN (r : List Int) (j : Nat) : Bool := decide (0 ≤ fn r j) && decide (fn r j ≤ 999)
def recE (n : Nat) (r : List Int) : Int := if r.length ≠ n then 3 else if al (okN r) r.length = true then 0 else 1
def recsE (n : Nat) (R : List (List Int)) : Int := if 3000 < R.length then 2 else fe (fun k => recE n (st R k)) R.length
theorem rec_bounds {n : Nat} {r : List Int} (h : recE n r = 0) : r.length = n ∧ ∀ j, j < r.length → 0 ≤ fn r j ∧ fn r j ≤ 999 := by
  unfold recE at h
  split at h
  · cases h
  · split at h
    · rename_i h1 h2
      refine ⟨by simpa using h1, fun j hj => ?_⟩
      have := al_iff.1 h2 j hj
      unfold okN at this
      simpa using this
    · cases h
theorem bad_c (x : Int) (w : World) : Calls Tryd.prog 100 #[.int .i64 x] w fun e w' => e = .returned (.bool (!(decide (0 ≤ x) && decide (x ≤ 999)))) ∧ w = w' := by
  obtain ⟨q, hq⟩ : ∃ q, (!(decide (0 ≤ x) && decide (x ≤ 999))) = q := ⟨_, rfl⟩
  rw [hq]
  have HQ := Lib.hid hq
  clear hq
  by_cases h0 : x < 0
  · have e : Hid (q = true) := by unfold Hid; rw [← HQ.out, decide_eq_false (by omega)]; rfl
    go_enter Tryd.func100, Tryd.ntmps100
    go_wp2
    go_ret
    exact ⟨by rw [e.out]; rfl, rfl⟩
  · by_cases h1 : 999 < x
    · have e : Hid (q = true) := by unfold Hid; rw [← HQ.out, decide_eq_true (by omega), decide_eq_false (by omega)]; rfl
      go_enter Tryd.func100, Tryd.ntmps100
      go_wp2
      go_ret
      exact ⟨by rw [e.out]; rfl, rfl⟩
    · have e : Hid (q = false) := by unfold Hid; rw [← HQ.out, decide_eq_true (by omega), decide_eq_true (by omega)]; rfl
      go_enter Tryd.func100, Tryd.ntmps100
      go_wp2
      go_ret
      exact ⟨by rw [e.out]; rfl, rfl⟩
def IdP (r : List Int) (w : World) (e : Ending) (w' : World) : Prop := ∃ i : Int, e = .returned (.int .i64 i) ∧ decide (0 ≤ i) = !(al (okN r) r.length) ∧ w = w'
set_option maxRecDepth 100000 in
set_option maxHeartbeats 2000000 in
theorem indexBad_c (a : Option Addr) (c : Nat) (r : List Int) (w : World) (hr : Rd w a r) :
    Calls Tryd.prog 117 #[.slice a r.length c, .func (.func 100) #[] #[]] w (IdP r w) := by
  obtain ⟨n, hn⟩ : ∃ n, r.length = n := ⟨_, rfl⟩
  have HN := Lib.hid hn
  have HR := Lib.hid hr
  rw [hn]
  have n64 : n ≤ 9223372036854775807 := by rw [← hn]; exact hr.1
  clear hr hn
  go_enter Tryd.func117, Tryd.ntmps117
  go_wp2_with fail
  go_loopw [5, 8] (fun _ iv wr => ∃ k : Nat, iv = .int .i64 k ∧ Hid (k ≤ n ∧ al (okN r) k = true ∧ w = wr)) (fun _ iv _ => n - (intOf iv).toNat)
  case atStart => exact ⟨0, rfl, Nat.zero_le _, rfl, rfl⟩
  case round =>
    obtain ⟨k, rfl, hS⟩ := hrel
    by_cases hlt : k < n
    · have hlt' : (k : Int) < (n : Int) := by omega
      have hkl : k < r.length := by rw [HN.out]; exact hlt
      obtain ⟨b, off, rfl, _, hc⟩ := HR.out.2 (by omega)
      have c0 := hc k hkl
      rw [hS.out.2.2] at c0
      obtain ⟨x, hx⟩ : ∃ x, fn r k = x := ⟨_, rfl⟩
      rw [hx] at c0
      have HX : Hid (okN r k = (decide (0 ≤ x) && decide (x ≤ 999))) := by unfold Hid okN; rw [hx]
      clear hx hc
      obtain ⟨q, hq⟩ : ∃ q, (decide (0 ≤ x) && decide (x ≤ 999)) = q := ⟨_, rfl⟩
      have C := bad_c x wr
      rw [hq] at C HX
      have C := Lib.hid C
      clear hq
      cases q with
      | true =>
        have NX : Hid (k + 1 ≤ n ∧ al (okN r) (k + 1) = true ∧ w = wr) := by
          refine ⟨hlt, ?_, hS.out.2.2⟩
          show (al _ k && _) = true
          rw [hS.out.2.1, Bool.true_and, HX.out]
        go_wp2_with fail
        refine C.out.mono ?_
        rintro e w4 ⟨rfl, rfl⟩
        go_wp2
        go_roundw
        case rel => exact ⟨k + 1, by go_num, NX.out⟩
        case measure => simp [intOf]; omega
      | false =>
        have PP : Hid (IdP r w (.returned (.int .i64 k)) wr) := by
          refine ⟨k, rfl, ?_, hS.out.2.2⟩
          have : al (okN r) r.length = false := by
            cases q : al (okN r) r.length with
            | false => rfl
            | true => have := al_iff.1 q k hkl; rw [HX.out] at this; cases this
          rw [this]; simp
        go_wp2_with fail
        refine C.out.mono ?_
        rintro e w4 ⟨rfl, rfl⟩
        go_wp2
        go_ret
        exact PP.out
    · have hlt' : ¬ (k : Int) < (n : Int) := by omega
      have PP : Hid (IdP r w (.returned (.int .i64 (-1))) wr) := by
        refine ⟨-1, rfl, ?_, hS.out.2.2⟩
        have e : k = r.length := by have := hS.out.1; rw [HN.out]; omega
        rw [← e, hS.out.2.1]; rfl
      clear hlt
      go_wp2
      go_ret
      exact PP.out
theorem containsBad_c (a : Option Addr) (c : Nat) (r : List Int) (w : World) (hr : Rd w a r) :
    Calls Tryd.prog 99 #[.slice a r.length c, .func (.func 100) #[] #[]] w fun e w' => e = .returned (.bool (!(al (okN r) r.length))) ∧ w = w' := by
  have C := Lib.hid (indexBad_c a c r w hr)
  obtain ⟨n, hn⟩ : ∃ n, r.length = n := ⟨_, rfl⟩
  unfold IdP at C
  rw [hn] at C ⊢
  clear hr hn
  go_enter Tryd.func99, Tryd.ntmps99
  go_wp2_with fail
  refine C.out.mono ?_
  rintro e w1 ⟨z, rfl, hz, hw⟩
  have HZ := Lib.hid hz
  have HW := Lib.hid hw
  clear hz hw
  go_wp2
  go_ret
  exact ⟨by rw [← HZ.out]; rfl, HW.out⟩
theorem checkRecord_c (n : Nat) (a : Option Addr) (c : Nat) (r : List Int) (w : World) (hr : Rd w a r) :
    Calls Tryd.prog 74 #[.int .i64 n, .slice a r.length c] w fun e w' => e = .returned (.int .i64 (recE n r)) ∧ w = w' := by
  have C := Lib.hid (containsBad_c a c r w hr)
  obtain ⟨q, hq⟩ : ∃ q, al (okN r) r.length = q := ⟨_, rfl⟩
  obtain ⟨f, hf⟩ : ∃ f, recE n r = f := ⟨_, rfl⟩
  have HF := hf
  unfold recE at HF
  obtain ⟨m, hm⟩ : ∃ m, r.length = m := ⟨_, rfl⟩
  rw [hq] at C HF
  rw [hm] at C HF
  rw [hf, hm]
  clear hr hq hf hm
  by_cases h1 : m = n
  · subst h1
    rw [if_neg (by simp)] at HF
    have e1 : ((m : Int) != (m : Int)) = false := by simp
    cases q with
    | true =>
      rw [if_pos rfl] at HF
      subst HF
      go_enter Tryd.func74, Tryd.ntmps74
      go_wp2_with fail
      refine C.out.mono ?_
      rintro e w1 ⟨rfl, rfl⟩
      go_wp2
      go_ret
      exact ⟨rfl, rfl⟩
    | false =>
      rw [if_neg (by simp)] at HF
      subst HF
      go_enter Tryd.func74, Tryd.ntmps74
      go_wp2_with fail
      refine C.out.mono ?_
      rintro e w1 ⟨rfl, rfl⟩
      go_wp2
      go_ret
      exact ⟨rfl, rfl⟩
  · rw [if_pos h1] at HF
    subst HF
    have e1 : ((m : Int) != (n : Int)) = true := by simp; omega
    go_enter Tryd.func74, Tryd.ntmps74
    go_wp2_with fail
    go_ret
    exact ⟨rfl, rfl⟩
set_option maxRecDepth 100000 in
set_option maxHeartbeats 2000000 in
theorem checkRecords_c (p : Nat) (l : List Fd) (E : List Ed) (a : Option Addr) (c : Nat) (R : List (List Int)) (w : World) (hP : PlR w p l E) (hR : RdL w a R) :
    Calls Tryd.prog 52 #[.pointer (some ⟨p, 0, none⟩), .slice a R.length c] w fun e w' => e = .returned (.int .i64 (recsE l.length R)) ∧ w = w' := by
  obtain ⟨fb, fc, f0, _, _⟩ := hP.fs
  obtain ⟨n, hn⟩ : ∃ n, l.length = n := ⟨_, rfl⟩
  obtain ⟨m, hm⟩ : ∃ n, R.length = n := ⟨_, rfl⟩
  have HM := Lib.hid hm
  have HR := Lib.hid hR
  have m64 : m ≤ 9223372036854775807 := by rw [← hm]; exact hR.1
  obtain ⟨f, hf⟩ : ∃ f, recsE n R = f := ⟨_, rfl⟩
  have HF := Lib.hid hf
  rw [hn] at f0 ⊢
  rw [hf, hm]
  clear hP hn hm hR hf
  by_cases h3 : 3000 < m
  · have e : f = 2 := by rw [← HF.out]; unfold recsE; rw [if_pos (by rw [HM.out]; exact h3)]
    subst e
    have h3' : (3000 : Int) < (m : Int) := by omega
    go_enter Tryd.func52, Tryd.ntmps52
    go_wp2_with fail
    go_ret
    exact ⟨rfl, rfl⟩
  · have h3' : ¬ (3000 : Int) < (m : Int) := by omega
    have HF2 : Hid (fe (fun k => recE n (st R k)) m = f) := by
      have := HF.out
      unfold recsE at this
      rw [if_neg (by rw [HM.out]; exact h3), HM.out] at this
      exact this
    clear HF
    go_enter Tryd.func52, Tryd.ntmps52
    go_wp2_with fail
    go_loopw [6, 7, 13] (fun _ _ iv wr => ∃ k : Nat, iv = .int .i64 k ∧ Hid (k ≤ m ∧ fe (fun k => recE n (st R k)) k = 0 ∧ w = wr)) (fun _ _ iv _ => m - (intOf iv).toNat)
    case atStart => exact ⟨0, rfl, Nat.zero_le _, rfl, rfl⟩
    case round =>
      obtain ⟨k, rfl, hS⟩ := hrel
      by_cases hlt : k < m
      · have hlt' : (k : Int) < (m : Int) := by omega
        have hkl : k < R.length := by rw [HM.out]; exact hlt
        obtain ⟨b, off, a', c', rfl, c0, hr⟩ := HR.out.at_ hkl
        rw [hS.out.2.2] at c0 f0 hr
        have C := Lib.hid (checkRecord_c n a' c' (st R k) wr hr)
        obtain ⟨x, hx⟩ : ∃ x, recE n (st R k) = x := ⟨_, rfl⟩
        obtain ⟨y, hy⟩ : ∃ x, (st R k).length = x := ⟨_, rfl⟩
        rw [hy] at c0
        rw [hx, hy] at C
        have HX := Lib.hid hx
        clear hx hr hy
        by_cases hx0 : x = 0
        · have e1 : (x != 0) = false := by rw [hx0]; rfl
          have NX : Hid (k + 1 ≤ m ∧ fe (fun k => recE n (st R k)) (k + 1) = 0 ∧ w = wr) := by
            refine ⟨hlt, ?_, hS.out.2.2⟩
            rw [fe_next hS.out.2.1]
            exact HX.out.trans hx0
          clear hx0
          go_wp2_with fail
          refine C.out.mono ?_
          rintro e w4 ⟨rfl, rfl⟩
          go_wp2
          go_roundw
          case rel => exact ⟨k + 1, by go_num, NX.out⟩
          case measure => simp [intOf]; omega
        · have e1 : (x != 0) = true := by simpa using hx0
          have PP : Hid (x = f ∧ w = wr) := by
            refine ⟨?_, hS.out.2.2⟩
            rw [← HF2.out, fe_at hlt hS.out.2.1 (by show recE n (st R k) ≠ 0; rw [HX.out]; exact hx0)]
            exact HX.out.symm
          clear hx0
          go_wp2_with fail
          refine C.out.mono ?_
          rintro e w4 ⟨rfl, rfl⟩
          go_wp2
          go_ret
          exact ⟨by rw [← PP.out.1]; rfl, PP.out.2⟩
      · have hlt' : ¬ (k : Int) < (m : Int) := by omega
        have PP : Hid (f = 0 ∧ w = wr) := by
          have e : k = m := by have := hS.out.1; omega
          exact ⟨by rw [← HF2.out, ← e]; exact hS.out.2.1, hS.out.2.2⟩
        clear hlt
        go_wp2
        go_ret
        exact ⟨by rw [← PP.out.1]; rfl, PP.out.2⟩
def pfS (l : List Fd) (E : List Ed) (R : List (List Int)) : Int := if planS l E ≠ 0 then planS l E else recsE l.length R
def PfP (l : List Fd) (E : List Ed) (R : List (List Int)) (w : World) (e : Ending) (w' : World) : Prop :=
  Below w.heap.size w w' ∧ ((pfS l E R ≠ 0 ∧ e = .returned (.tuple #[.pointer none, .int .i64 (pfS l E R)])) ∨ (pfS l E R = 0 ∧ Ok l E ∧ ∃ p, e = .returned (.tuple #[.pointer (some ⟨p, 0, none⟩), .int .i64 0]) ∧ PlR w' p l E))
set_option maxRecDepth 100000 in
set_option maxHeartbeats 4000000 in
theorem planFor_c (a : Option Addr) (c : Nat) (l : List Fd) (a2 : Option Addr) (c2 : Nat) (E : List Ed) (a3 : Option Addr) (c3 : Nat) (R : List (List Int)) (w : World) (hl : RdF w a l) (hE : RdE w a2 E) (hR : RdL w a3 R) (hst : ∀ u, u ∈ l → u.nm.size ≤ 9223372036854775807) (hst2 : ∀ u, u ∈ E → u.nm.size ≤ 9223372036854775807)
    (hT : TabAt 0 Lib.deBruijn64tab w) (ht : 0 < w.heap.size) :
    Calls Tryd.prog 25 #[.agg #[.slice a l.length c, .slice a2 E.length c2], .slice a3 R.length c3] w (PfP l E R w) := by
  obtain ⟨W1, hW1⟩ : ∃ W, w.alloc (.cells #[.slice a l.length c, .slice a2 E.length c2] 25) = W := ⟨_, rfl⟩
  have b1 : Below w.heap.size w W1 := by rw [← hW1]; exact bel_one _ _
  have B1 := Lib.hid b1
  have C := Lib.hid (planOf_c a c l a2 c2 E W1 (hl.below b1) (hE.below b1) hst hst2 (tab_below hT ht b1) (Nat.lt_of_lt_of_le ht b1.size))
  have x0 : W1.cell? ⟨w.heap.size, 0, none⟩ = some (.slice a l.length c) := by rw [← hW1, World.cell?_alloc_new]; rfl
  have x1 : W1.cell? ⟨w.heap.size, 1, none⟩ = some (.slice a2 E.length c2) := by rw [← hW1, World.cell?_alloc_new]; rfl
  have HR := Lib.hid hR
  have CR : Hid (∀ p V, PlR V p l E → Below w.heap.size w V → Calls Tryd.prog 52 #[.pointer (some ⟨p, 0, none⟩), .slice a3 R.length c3] V fun e w' => e = .returned (.int .i64 (recsE l.length R)) ∧ V = w') := fun p V h b =>
    checkRecords_c p l E a3 c3 R V h (HR.out.below b)
  obtain ⟨f, hf⟩ : ∃ f, recsE l.length R = f := ⟨_, rfl⟩
  obtain ⟨g, hg⟩ : ∃ f, planS l E = f := ⟨_, rfl⟩
  unfold PoP at C
  rw [hf] at CR
  rw [hg] at C
  have HF : Hid (pfS l E R = if g ≠ 0 then g else f) := by unfold Hid pfS; rw [hg, hf]
  have HG := Lib.hid hg
  obtain ⟨n, hn⟩ : ∃ n, l.length = n := ⟨_, rfl⟩
  obtain ⟨m, hm⟩ : ∃ n, E.length = n := ⟨_, rfl⟩
  obtain ⟨k, hk⟩ : ∃ n, R.length = n := ⟨_, rfl⟩
  rw [hn] at C x0 hW1
  rw [hm] at C x1 hW1
  rw [hk] at CR
  rw [hn, hm, hk]
  clear hl hE hR hst hst2 hT b1 hf hg hn hm hk
  go_enter Tryd.func25, Tryd.ntmps25
  go_wp2_with fail
  refine C.out.mono ?_
  rintro e1 w2 ⟨b2, h2⟩
  have B2 : Hid (Below w.heap.size w w2) := B1.out.trans (b2.mono B1.out.size)
  clear b2 x0 x1 hW1
  rcases h2 with ⟨h0, rfl⟩ | ⟨h0, p, rfl, hp⟩
  · have g2 : (g != 0) = true := by simpa using h0
    have PP : Hid (PfP l E R w (.returned (.tuple #[.pointer none, .int .i64 g])) w2) := by
      unfold Hid PfP
      rw [HF.out, if_pos h0]
      exact ⟨B2.out, .inl ⟨h0, rfl⟩⟩
    clear C CR HF HG h0
    go_wp2
    go_ret2
    exact PP.out
  · subst h0
    have C2 := Lib.hid (CR.out p w2 hp B2.out)
    have HP := Lib.hid hp
    have HK : Hid (Ok l E) := plan_ok HG.out
    have QP : Hid (f = 0 → PfP l E R w (.returned (.tuple #[.pointer (some ⟨p, 0, none⟩), .int .i64 0])) w2) := fun h => by
      unfold PfP
      rw [HF.out, if_neg (by simp)]
      exact ⟨B2.out, .inr ⟨h, HK.out, p, rfl, hp⟩⟩
    have RP : Hid (f ≠ 0 → PfP l E R w (.returned (.tuple #[.pointer none, .int .i64 f])) w2) := fun h => by
      unfold PfP
      rw [HF.out, if_neg (by simp)]
      exact ⟨B2.out, .inl ⟨h, rfl⟩⟩
    clear C CR HF HG hp
    by_cases h0 : f = 0
    · subst h0
      go_wp2_with fail
      refine C2.out.mono ?_
      rintro e w4 ⟨rfl, rfl⟩
      go_wp2
      go_ret2
      exact QP.out (by trivial)
    · have g2 : (f != 0) = true := by simpa using h0
      have h0 := Lib.hid h0
      go_wp2_with fail
      refine C2.out.mono ?_
      rintro e w4 ⟨rfl, rfl⟩
      go_wp2
      go_ret2
      exact RP.out h0.out
end Go.Proofs.YtadfmplafehjlaaDoor
