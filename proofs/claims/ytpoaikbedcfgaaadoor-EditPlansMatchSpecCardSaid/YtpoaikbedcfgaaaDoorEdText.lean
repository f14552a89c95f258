/-
  EditPlansMatchSpec: Text of package edit.
-/
import Derived.Test.YtpoaikbedcfgaaaDoorEdTn
import Derived.Deep.RegionHeld3
namespace Go.Proofs.YtpoaikbedcfgaaaDoor
open Go.RowKit Go.WideMaps Go.Maps

/-- The cells of a field's box. -/
def SF (g : Nat) (nm : ByteArray) (a : Option Addr) (n c : Nat) (wt : Int) (W : World) : Prop :=
  W.cell? ⟨g, 0, none⟩ = some (.string nm) ∧ W.cell? ⟨g, 1, none⟩ = some (.slice a n c) ∧ W.cell? ⟨g, 2, none⟩ = some (.int .i64 wt)
def SE (g p : Nat) (nm : ByteArray) (a2 : Option Addr) (n2 c2 : Nat) (a : Option Addr) (n c : Nat) (W : World) : Prop :=
  W.cell? ⟨g, 0, none⟩ = some (.string nm) ∧ W.cell? ⟨g, 1, none⟩ = some (.slice a2 n2 c2) ∧ W.cell? ⟨p, 0, none⟩ = some (.slice a n c)
def TxP (l : List Fd) (E : List Ed) (w : World) (e : Ending) (w' : World) : Prop := ∃ t, e = .returned (.tuple #[.string t, .int .i64 (textS l E).2]) ∧ t = bs (textS l E).1 ∧ Below w.heap.size w w'
set_option maxRecDepth 100000 in
set_option maxHeartbeats 4000000 in
theorem Text_c (a : Option Addr) (c : Nat) (l : List Fd) (a2 : Option Addr) (c2 : Nat) (E : List Ed) (w : World) (hl : RdF w a l) (hE : RdE w a2 E) (hst : ∀ u, u ∈ l → u.nm.size ≤ 9223372036854775807) (hst2 : ∀ u, u ∈ E → u.nm.size ≤ 9223372036854775807) (hPow : Pow w) :
    Calls Tryd.prog 4 #[.agg #[.slice a l.length c, .slice a2 E.length c2]] w (TxP l E w) := by
  have h9 := hl.1
  have h9' := hE.1
  obtain ⟨W1, hW1⟩ : ∃ W1, w.alloc (.cells #[.slice a l.length c, .slice a2 E.length c2] 25) = W1 := ⟨_, rfl⟩
  have B1 : Hid (Below w.heap.size w W1 ∧ W1.heap.size = w.heap.size + 1 ∧ W1.cell? ⟨w.heap.size, 0, none⟩ = some (.slice a l.length c) ∧ W1.cell? ⟨w.heap.size, 1, none⟩ = some (.slice a2 E.length c2)) := by
    unfold Hid
    rw [← hW1]
    exact ⟨bel_one _ _, by simp, by rw [World.cell?_alloc_at _ _ _ _ rfl]; rfl, by rw [World.cell?_alloc_at _ _ _ _ rfl]; rfl⟩
  have HC := Lib.hid (CheckPlan_c a c l a2 c2 E W1 (hl.below B1.out.1) (hE.below B1.out.1) hst hst2)
  have HL := Lib.hid hl
  have HE := Lib.hid hE
  have HW := Lib.hid hPow
  have v0 := B1.out.2.2.1
  have v1 := B1.out.2.2.2
  clear hl hE hst hst2 hPow
  by_cases h1 : planS l E = 0
  · rw [h1] at HC
    have HG := Lib.hid (plan_good h1)
    have HEG := Lib.hid h1
    clear h1
    go_enter Tryd.func4, Tryd.ntmps4
    go_wp2_with fail
    clear v0 v1
    refine HC.out.mono ?_
    rintro e W2 ⟨rfl, b2⟩
    have BW2 : Hid (Below w.heap.size w W2) := B1.out.1.trans (b2.mono B1.out.1.size)
    have X2 : Hid (W2.cell? ⟨w.heap.size, 0, none⟩ = some (.slice a l.length c) ∧ W2.cell? ⟨w.heap.size, 1, none⟩ = some (.slice a2 E.length c2) ∧ w.heap.size < W2.heap.size) := ⟨(b2.cell (p := ⟨w.heap.size, 0, none⟩) (by have := B1.out.2.1; show w.heap.size < _; omega)).trans B1.out.2.2.1, (b2.cell (p := ⟨w.heap.size, 1, none⟩) (by have := B1.out.2.1; show w.heap.size < _; omega)).trans B1.out.2.2.2, by have := B1.out.2.1; have := b2.size; omega⟩
    obtain ⟨W3, hW3⟩ : ∃ W3, W2.alloc (.cells #[.pointer none, .slice none 0 0] 34) = W3 := ⟨_, rfl⟩
    have hB3 : Hid (Below W2.heap.size W2 W3 ∧ W3.heap.size = W2.heap.size + 1 ∧ IsB W2.heap.size [] W3) := by
      unfold Hid
      rw [← hW3]
      exact ⟨bel_one _ _, by simp, Lib.fresh_isBuilder _ _ W2⟩
    have x0 : W3.cell? ⟨w.heap.size, 0, none⟩ = some (.slice a l.length c) := (hB3.out.1.cell (p := ⟨w.heap.size, 0, none⟩) X2.out.2.2).trans X2.out.1
    clear b2 hW1
    go_wp2
    clear x0 hW3
    go_loopw [18] (fun i wr => ∃ k : Nat, k ≤ l.length ∧ i = .int .i64 k ∧ Hid (IsB W2.heap.size (fTs l k) wr ∧ Below W2.heap.size W2 wr)) (fun i _ => l.length - (intOf i).toNat)
    case atStart => exact ⟨0, Nat.zero_le _, rfl, hB3.out.2.2, hB3.out.1⟩
    case round =>
      obtain ⟨k, hk, rfl, hS⟩ := hrel
      have BWr : Hid (Below w.heap.size w wr) := BW2.out.trans (hS.out.2.mono BW2.out.size)
      by_cases hlt : k < l.length
      · obtain ⟨b, off, rfl, u0, ⟨a', c', u1, hcs⟩, u2⟩ := (HL.out.below BWr.out).at_ hlt
        have hlt' : (k : Int) < (l.length : Int) := by omega
        have GF := Lib.hid (HG.out.1.2 k hlt)
        have HCS := Lib.hid hcs
        have h8 := hcs.1
        clear hcs
        obtain ⟨W4, hW4⟩ : ∃ W4, wr.alloc (.cells #[.string (fd l k).nm, .slice a' (fd l k).cs.length c', .int .i64 (fd l k).wt] 37) = W4 := ⟨_, rfl⟩
        have B4 : Hid (Below wr.heap.size wr W4 ∧ W4.heap.size = wr.heap.size + 1 ∧ W4.cell? ⟨wr.heap.size, 0, none⟩ = some (.string (fd l k).nm) ∧ W4.cell? ⟨wr.heap.size, 1, none⟩ = some (.slice a' (fd l k).cs.length c') ∧ W4.cell? ⟨wr.heap.size, 2, none⟩ = some (.int .i64 (fd l k).wt)) := by
          unfold Hid
          rw [← hW4]
          exact ⟨bel_one _ _, by simp, by rw [World.cell?_alloc_at _ _ _ _ rfl]; rfl, by rw [World.cell?_alloc_at _ _ _ _ rfl]; rfl, by rw [World.cell?_alloc_at _ _ _ _ rfl]; rfl⟩
        go_wp2_with fail
        clear hW4 u0 u1 u2
        have HS0 := Lib.hid hS.out
        have IB : Hid (IsB W2.heap.size (fTs l k) W4) := isB_keep hS.out.1 B4.out.1
        have S0 : SF wr.heap.size (fd l k).nm a' (fd l k).cs.length c' (fd l k).wt W4.drew := by
          have hb := (Below.refl W4.heap.size W4).drew
          have hl : wr.heap.size < W4.heap.size := by have := B4.out.2.1; omega
          exact ⟨(hb.cell (p := ⟨wr.heap.size, 0, none⟩) hl).trans B4.out.2.2.1, (hb.cell (p := ⟨wr.heap.size, 1, none⟩) hl).trans B4.out.2.2.2.1, (hb.cell (p := ⟨wr.heap.size, 2, none⟩) hl).trans B4.out.2.2.2.2⟩
        have HSF : Hid (∀ V, Below W4.heap.size W4 V → SF wr.heap.size (fd l k).nm a' (fd l k).cs.length c' (fd l k).wt V) := fun V hb => by
          have hl : wr.heap.size < W4.heap.size := by have := B4.out.2.1; omega
          exact ⟨(hb.cell (p := ⟨wr.heap.size, 0, none⟩) hl).trans B4.out.2.2.1, (hb.cell (p := ⟨wr.heap.size, 1, none⟩) hl).trans B4.out.2.2.2.1, (hb.cell (p := ⟨wr.heap.size, 2, none⟩) hl).trans B4.out.2.2.2.2⟩
        clear hS
        have hnm := GF.out.nm
        have NM := Lib.hid hnm
        obtain ⟨z1, hz1⟩ : ∃ z : ByteArray, (⟨#[102, 105, 101, 108, 100, 32]⟩ : ByteArray) ++ (fd l k).nm = z := ⟨_, rfl⟩
        have s1 : z1.size = 6 + (fd l k).nm.size := by rw [← hz1, ByteArray.size_append]; rfl
        obtain ⟨z2, hz2⟩ : ∃ z : ByteArray, z1 ++ (⟨#[32]⟩ : ByteArray) = z := ⟨_, rfl⟩
        have s2 : z2.size = z1.size + 1 := by rw [← hz2, ByteArray.size_append]; rfl
        have HZ := Lib.hid (And.intro hz1 hz2)
        have HS2 : Hid (z2.size ≤ 23) := by unfold Hid; omega
        have q1 : ¬ 9223372036854775807 < 6 + (fd l k).nm.size := by omega
        have q2 : ¬ 9223372036854775807 < z1.size + 1 := by omega
        clear s1 s2 hnm
        refine wp_region_noPanic ?_
        refine wp_region_held_drew (S := SF wr.heap.size (fd l k).nm a' (fd l k).cs.length c' (fd l k).wt) (by kernel_rfl) S0 (fun hS => ?_)
        obtain ⟨WD, hWD⟩ : ∃ W, W4.drew = W := ⟨_, rfl⟩
        have D0 : Hid (Below W4.heap.size W4 WD) := by unfold Hid; rw [← hWD]; exact (Below.refl _ _).drew
        rw [hWD] at hS ⊢
        clear hWD S0
        refine wpAnyH_take (i := 0) (v := ?v0z1) rfl (by kernel_rfl) (by kernel_rfl) (by kernel_rfl) (fun _ _ _ h => h) (Or.inl ⟨by rfl, ?hy0z1⟩) (by assumption) ?rest0z1
        case hy0z1 =>
          intro w hSw
          dsimp only [SF] at hSw
          go_simp
          try with_reducible rfl
        simp only [Act.put, List.getElem_toArray, List.getElem_cons_succ, List.getElem_cons_zero, List.setIfInBounds_toArray, List.set_cons_zero, List.set_cons_succ]
        refine wpAnyH_take (i := 1) (v := ?v1z2) rfl (by kernel_rfl) (by kernel_rfl) (by kernel_rfl) (fun _ _ _ h => h) (Or.inl ⟨by rfl, ?hy1z2⟩) (by assumption) ?rest1z2
        case hy1z2 =>
          intro w hSw
          dsimp only [SF] at hSw
          go_simp
          try with_reducible rfl
        simp only [Act.put, List.getElem_toArray, List.getElem_cons_succ, List.getElem_cons_zero, List.setIfInBounds_toArray, List.set_cons_zero, List.set_cons_succ]
        refine wpAnyH_take (i := 2) (v := ?v2z3) rfl (by kernel_rfl) (by kernel_rfl) (by kernel_rfl) (fun _ _ _ h => h) (Or.inl ⟨by rfl, ?hy2z3⟩) (by assumption) ?rest2z3
        case hy2z3 =>
          intro w hSw
          dsimp only [SF] at hSw
          go_simp
          try with_reducible rfl
        simp only [Act.put, List.getElem_toArray, List.getElem_cons_succ, List.getElem_cons_zero, List.setIfInBounds_toArray, List.set_cons_zero, List.set_cons_succ]
        refine wpAnyH_take (i := 3) (v := ?v3z4) rfl (by kernel_rfl) (by kernel_rfl) (by kernel_rfl) (fun _ _ _ h => h) (Or.inl ⟨by rfl, ?hy3z4⟩) (by assumption) ?rest3z4
        case hy3z4 =>
          intro w hSw
          dsimp only [SF] at hSw
          go_simp
          try with_reducible rfl
        simp only [Act.put, List.getElem_toArray, List.getElem_cons_succ, List.getElem_cons_zero, List.setIfInBounds_toArray, List.set_cons_zero, List.set_cons_succ]
        refine wpAnyH_take (i := 4) (v := ?v4z5) rfl (by kernel_rfl) (by kernel_rfl) (by kernel_rfl) (fun _ _ _ h => h) (Or.inl ⟨by rfl, ?hy4z5⟩) (by assumption) ?rest4z5
        case hy4z5 =>
          intro w hSw
          dsimp only [SF] at hSw
          go_simp
          try with_reducible rfl
        simp only [Act.put, List.getElem_toArray, List.getElem_cons_succ, List.getElem_cons_zero, List.setIfInBounds_toArray, List.set_cons_zero, List.set_cons_succ]
        refine wpAnyH_take (i := 5) (v := ?v5z6) rfl (by kernel_rfl) (by kernel_rfl) (by kernel_rfl) (fun _ _ _ h => h) (Or.inl ⟨by rfl, ?hy5z6⟩) (by assumption) ?rest5z6
        case hy5z6 =>
          intro w hSw
          dsimp only [SF] at hSw
          go_simp
          try with_reducible rfl
        simp only [Act.put, List.getElem_toArray, List.getElem_cons_succ, List.getElem_cons_zero, List.setIfInBounds_toArray, List.set_cons_zero, List.set_cons_succ]
        refine wpAnyH_take (i := 9) (v := ?v9z7) rfl (by kernel_rfl) (by kernel_rfl) (by kernel_rfl) (fun _ _ _ h => h) (Or.inl ⟨by rfl, ?hy9z7⟩) (by assumption) ?rest9z7
        case hy9z7 =>
          intro w hSw
          dsimp only [SF] at hSw
          go_simp
          try with_reducible rfl
        simp only [Act.put, List.getElem_toArray, List.getElem_cons_succ, List.getElem_cons_zero, List.setIfInBounds_toArray, List.set_cons_zero, List.set_cons_succ]
        refine wpAnyH_take (i := 10) (v := ?v10z8) rfl (by kernel_rfl) (by kernel_rfl) (by kernel_rfl) (fun _ _ _ h => h) (Or.inl ⟨by rfl, ?hy10z8⟩) (by assumption) ?rest10z8
        case hy10z8 =>
          intro w hSw
          dsimp only [SF] at hSw
          go_simp
          try with_reducible rfl
        simp only [Act.put, List.getElem_toArray, List.getElem_cons_succ, List.getElem_cons_zero, List.setIfInBounds_toArray, List.set_cons_zero, List.set_cons_succ]
        refine wpAnyH_ready (rs := [6]) (by kernel_rfl) (by simp) ?_
        refine AllReadyH.cons rfl (fun K hK => ?_) AllReadyH.nil
        go_simp
        (refine (codesText_c a' c' (fd l k).cs WD (HCS.out.below (B4.out.1.trans (D0.out.mono B4.out.1.size))) GF.out.cs (HW.out.below (BWr.out.trans ((B4.out.1.trans (D0.out.mono B4.out.1.size)).mono BWr.out.size)))).mono ?_)
        rintro e V1 ⟨t1, rfl, _, ht1, bc⟩
        try go_simp
        have D1 : Hid (Below W4.heap.size W4 V1) := D0.out.trans (bc.out.mono D0.out.size)
        have TS1 : Hid (t1.size ≤ 500) := by have := GF.out.cs.size; unfold Hid; rw [ht1.out, bs_size]; exact this
        have hT := HSF.out V1 D1.out
        refine hK.out _ _ hT (fun _ => ?_)
        clear hK K hS bc
        have hS := hT
        clear hT
        try simp only [Act.put, List.setIfInBounds_toArray, List.set_cons_zero, List.set_cons_succ]
        have w1 := TS1.out
        have w2 := HS2.out
        obtain ⟨z3, hz3⟩ : ∃ z : ByteArray, z2 ++ t1 = z := ⟨_, rfl⟩
        have s3 : z3.size = z2.size + t1.size := by rw [← hz3, ByteArray.size_append]
        obtain ⟨z4, hz4⟩ : ∃ z : ByteArray, z3 ++ (⟨#[32, 119, 101, 105, 103, 104, 116, 32]⟩ : ByteArray) = z := ⟨_, rfl⟩
        have s4 : z4.size = z3.size + 8 := by rw [← hz4, ByteArray.size_append]; rfl
        have HZ2 := Lib.hid (And.intro hz3 hz4)
        have HS4 : Hid (z4.size ≤ 540) := by unfold Hid; omega
        have q3 : ¬ 9223372036854775807 < z2.size + t1.size := by omega
        have q4 : ¬ 9223372036854775807 < z3.size + 8 := by omega
        clear s3 s4 w1 w2
        refine wpAnyH_take (i := 7) (v := ?v7z9) rfl (by kernel_rfl) (by kernel_rfl) (by kernel_rfl) (fun _ _ _ h => h) (Or.inl ⟨by rfl, ?hy7z9⟩) (by assumption) ?rest7z9
        case hy7z9 =>
          intro w hSw
          dsimp only [SF] at hSw
          go_simp
          try with_reducible rfl
        simp only [Act.put, List.getElem_toArray, List.getElem_cons_succ, List.getElem_cons_zero, List.setIfInBounds_toArray, List.set_cons_zero, List.set_cons_succ]
        refine wpAnyH_take (i := 8) (v := ?v8z10) rfl (by kernel_rfl) (by kernel_rfl) (by kernel_rfl) (fun _ _ _ h => h) (Or.inl ⟨by rfl, ?hy8z10⟩) (by assumption) ?rest8z10
        case hy8z10 =>
          intro w hSw
          dsimp only [SF] at hSw
          go_simp
          try with_reducible rfl
        simp only [Act.put, List.getElem_toArray, List.getElem_cons_succ, List.getElem_cons_zero, List.setIfInBounds_toArray, List.set_cons_zero, List.set_cons_succ]
        refine wpAnyH_ready (rs := [11]) (by kernel_rfl) (by simp) ?_
        refine AllReadyH.cons rfl (fun K hK => ?_) AllReadyH.nil
        go_simp
        (refine (itoa_c (fd l k).wt V1 (HW.out.below (BWr.out.trans ((B4.out.1.trans (D1.out.mono B4.out.1.size)).mono BWr.out.size))) (by have := GF.out.wt; omega) (by have := GF.out.wt; omega)).mono ?_)
        rintro e V2 ⟨t2, rfl, _, ht2, bc⟩
        try go_simp
        have D2 : Hid (Below W4.heap.size W4 V2) := D1.out.trans (bc.out.mono D1.out.size)
        have TS2 : Hid (t2.size ≤ 24) := by
          have := Lib.itoa_length_le (fd l k).wt (by have := GF.out.wt; omega) (by have := GF.out.wt; omega)
          unfold Hid; rw [ht2.out, bs_size]; omega
        have hT := HSF.out V2 D2.out
        refine hK.out _ _ hT (fun _ => ?_)
        clear hK K hS bc
        have hS := hT
        clear hT
        try simp only [Act.put, List.setIfInBounds_toArray, List.set_cons_zero, List.set_cons_succ]
        have w1 := TS2.out
        have w2 := HS4.out
        obtain ⟨z5, hz5⟩ : ∃ z : ByteArray, z4 ++ t2 = z := ⟨_, rfl⟩
        have s5 : z5.size = z4.size + t2.size := by rw [← hz5, ByteArray.size_append]
        obtain ⟨z6, hz6⟩ : ∃ z : ByteArray, z5 ++ (⟨#[10]⟩ : ByteArray) = z := ⟨_, rfl⟩
        have s6 : z6.size = z5.size + 1 := by rw [← hz6, ByteArray.size_append]; rfl
        have HZ3 := Lib.hid (And.intro hz5 hz6)
        have HS6 : Hid (z6.size ≤ 1000) := by unfold Hid; omega
        have q5 : ¬ 9223372036854775807 < z4.size + t2.size := by omega
        have q6 : ¬ 9223372036854775807 < z5.size + 1 := by omega
        clear s5 s6 w1 w2
        refine wpAnyH_take (i := 12) (v := ?v12z11) rfl (by kernel_rfl) (by kernel_rfl) (by kernel_rfl) (fun _ _ _ h => h) (Or.inl ⟨by rfl, ?hy12z11⟩) (by assumption) ?rest12z11
        case hy12z11 =>
          intro w hSw
          dsimp only [SF] at hSw
          go_simp
          try with_reducible rfl
        simp only [Act.put, List.getElem_toArray, List.getElem_cons_succ, List.getElem_cons_zero, List.setIfInBounds_toArray, List.set_cons_zero, List.set_cons_succ]
        refine wpAnyH_take (i := 13) (v := ?v13z12) rfl (by kernel_rfl) (by kernel_rfl) (by kernel_rfl) (fun _ _ _ h => h) (Or.inl ⟨by rfl, ?hy13z12⟩) (by assumption) ?rest13z12
        case hy13z12 =>
          intro w hSw
          dsimp only [SF] at hSw
          go_simp
          try with_reducible rfl
        simp only [Act.put, List.getElem_toArray, List.getElem_cons_succ, List.getElem_cons_zero, List.setIfInBounds_toArray, List.set_cons_zero, List.set_cons_succ]
        refine wpAnyH_ready (rs := [14]) (by kernel_rfl) (by simp) ?_
        refine AllReadyH.cons rfl (fun K hK => ?_) AllReadyH.nil
        go_simp
        have D3 : Hid (Below wr.heap.size wr V2) := B4.out.1.trans (D2.out.mono B4.out.1.size)
        (refine (put3_c W2.heap.size (fTs l k) z6 wr V2 HS0.out.1 D3.out (by have := fTs_le (l := l) (k := k) (fun i hi => HG.out.1.2 i (by omega)); have := HS6.out; have := HG.out.1.1; omega)).mono ?_)
        rintro e V3 ⟨rfl, hib, bc, hcells⟩
        try go_simp
        have hT : SF wr.heap.size (fd l k).nm a' (fd l k).cs.length c' (fd l k).wt V3 := by
          have hl : wr.heap.size < V2.heap.size := by have := D2.out.size; have := B4.out.2.1; omega
          exact ⟨(hcells ⟨wr.heap.size, 0, none⟩ (Nat.le_refl _) hl).trans hS.1, (hcells ⟨wr.heap.size, 1, none⟩ (Nat.le_refl _) hl).trans hS.2.1, (hcells ⟨wr.heap.size, 2, none⟩ (Nat.le_refl _) hl).trans hS.2.2⟩
        refine hK.out _ _ hT (fun _ => ?_)
        have NX : Hid (IsB W2.heap.size (fTs l (k + 1)) V3 ∧ Below W2.heap.size W2 V3) := by
          refine ⟨?_, HS0.out.2.trans ((D3.out.mono HS0.out.2.size).trans bc)⟩
          have e : z6.data.toList = fT (fd l k) := by
            rw [← HZ3.out.2, ← HZ3.out.1, ← HZ2.out.2, ← HZ2.out.1, ← HZ.out.2, ← HZ.out.1, ht1.out, ht2.out]
            unfold fT
            simp [ByteArray.data_append, bs_list]
          show IsB W2.heap.size (fTs l k ++ fT (fd l k)) V3
          rw [← e]; exact hib
        clear hK K hS bc hib hcells hT
        try simp only [Act.put, List.setIfInBounds_toArray, List.set_cons_zero, List.set_cons_succ]
        refine wpAnyH_done (by kernel_rfl) ?_ _
        refine NoPanic.normal ?_
        clear q1 q2 q3 q4 q5 q6 hz1 hz2 hz3 hz4 hz5 hz6
        go_wp2
        go_roundw
        case rel => exact ⟨k + 1, by omega, by go_num, NX.out⟩
        case measure => simp [intOf]; omega
      · obtain rfl : k = l.length := by omega
        clear hlt
        obtain ⟨wA, hwA⟩ : ∃ x : World, x = wr := ⟨wr, rfl⟩
        subst hwA
        have y1 : wA.cell? ⟨w.heap.size, 1, none⟩ = some (.slice a2 E.length c2) := (hS.out.2.cell (p := ⟨w.heap.size, 1, none⟩) X2.out.2.2).trans X2.out.2.1
        go_wp2
        clear y1
        go_loopw [41] (fun i wr => ∃ m : Nat, m ≤ E.length ∧ i = .int .i64 m ∧ Hid (IsB W2.heap.size (fTs l l.length ++ eTs l E m) wr ∧ Below W2.heap.size W2 wr)) (fun i _ => E.length - (intOf i).toNat)
        case atStart => exact ⟨0, Nat.zero_le _, rfl, by rw [show eTs l E 0 = [] from rfl, List.append_nil]; exact hS.out.1, hS.out.2⟩
        case round =>
          obtain ⟨m, hm, rfl, hQ⟩ := hrel
          have BWr : Hid (Below w.heap.size w wr) := BW2.out.trans (hQ.out.2.mono BW2.out.size)
          by_cases hlt : m < E.length
          · obtain ⟨b, off, rfl, hAt⟩ := HE.out.at_ hlt
            have hbl : Hid (b < w.heap.size) := by
              obtain ⟨b', off', e, hb, _⟩ := HE.out.2 (by omega)
              injection e with e; injection e with e1 e2; subst e1; exact hb
            obtain ⟨u0, a', c', u1, hLL⟩ := hAt.below BWr.out hbl.out
            have HLL := Lib.hid (RdL.anew hAt BWr.out hbl.out u1)
            clear hLL hAt
            have hlt' : (m : Int) < (E.length : Int) := by omega
            obtain ⟨W4, hW4⟩ : ∃ W4, wr.alloc (.cells #[.string (ed E m).nm, .slice a' (ed E m).ss.length c'] 46) = W4 := ⟨_, rfl⟩
            have B4 : Hid (Below wr.heap.size wr W4 ∧ W4.heap.size = wr.heap.size + 1 ∧ W4.cell? ⟨wr.heap.size, 0, none⟩ = some (.string (ed E m).nm) ∧ W4.cell? ⟨wr.heap.size, 1, none⟩ = some (.slice a' (ed E m).ss.length c')) := by
              unfold Hid
              rw [← hW4]
              exact ⟨bel_one _ _, by simp, by rw [World.cell?_alloc_at _ _ _ _ rfl]; rfl, by rw [World.cell?_alloc_at _ _ _ _ rfl]; rfl⟩
            have P4 : Hid (W4.cell? ⟨w.heap.size, 0, none⟩ = some (.slice a l.length c)) := (B4.out.1.cell (p := ⟨w.heap.size, 0, none⟩) (by have := X2.out.2.2; have := hQ.out.2.size; show w.heap.size < _; omega)).trans ((hQ.out.2.cell (p := ⟨w.heap.size, 0, none⟩) X2.out.2.2).trans X2.out.1)
            go_wp2_with fail
            clear hW4 u0 u1
            have HS0 := Lib.hid hQ.out
            have EG := Lib.hid (ed_good (HG.out.2.2 m hlt))
            have SG : Hid (∀ i, i < l.length → (fd l i).nm.size ≤ 16 ∧ Cod (st (ed E m).ss i)) := fun i hi => by
              have h1 := HG.out.1.2 i hi
              exact ⟨h1.nm, set_cod HEG.out hlt hi⟩
            have HSE : Hid (∀ V, Below W4.heap.size W4 V → SE wr.heap.size w.heap.size (ed E m).nm a' (ed E m).ss.length c' a l.length c V) := fun V hb => by
              have hl : wr.heap.size < W4.heap.size := by have := B4.out.2.1; omega
              have hl2 : w.heap.size < W4.heap.size := by have := X2.out.2.2; have := hQ.out.2.size; omega
              exact ⟨(hb.cell (p := ⟨wr.heap.size, 0, none⟩) hl).trans B4.out.2.2.1, (hb.cell (p := ⟨wr.heap.size, 1, none⟩) hl).trans B4.out.2.2.2, (hb.cell (p := ⟨w.heap.size, 0, none⟩) hl2).trans P4.out⟩
            clear hQ
            have hnm := EG.out.1
            obtain ⟨z1, hz1⟩ : ∃ z : ByteArray, (⟨#[101, 100, 105, 116, 32]⟩ : ByteArray) ++ (ed E m).nm = z := ⟨_, rfl⟩
            have s1 : z1.size = 5 + (ed E m).nm.size := by rw [← hz1, ByteArray.size_append]; rfl
            obtain ⟨z2, hz2⟩ : ∃ z : ByteArray, z1 ++ (⟨#[58]⟩ : ByteArray) = z := ⟨_, rfl⟩
            have s2 : z2.size = z1.size + 1 := by rw [← hz2, ByteArray.size_append]; rfl
            have HZ := Lib.hid (And.intro hz1 hz2)
            have HS2 : Hid (z2.size ≤ 22) := by unfold Hid; omega
            have q1 : ¬ 9223372036854775807 < 5 + (ed E m).nm.size := by omega
            have q2 : ¬ 9223372036854775807 < z1.size + 1 := by omega
            clear s1 s2 hnm
            refine wp_region_noPanic ?_
            refine wp_region_held_drew (S := SE wr.heap.size w.heap.size (ed E m).nm a' (ed E m).ss.length c' a l.length c) (by kernel_rfl) (HSE.out _ (Below.refl _ _).drew) (fun hS => ?_)
            obtain ⟨WD, hWD⟩ : ∃ W, W4.drew = W := ⟨_, rfl⟩
            have D0 : Hid (Below W4.heap.size W4 WD) := by unfold Hid; rw [← hWD]; exact (Below.refl _ _).drew
            rw [hWD] at hS ⊢
            clear hWD
            have BWD : Hid (Below w.heap.size w WD) := BWr.out.trans ((B4.out.1.trans (D0.out.mono B4.out.1.size)).mono BWr.out.size)
            refine wpAnyH_take (i := 0) (v := ?v0z13) rfl (by kernel_rfl) (by kernel_rfl) (by kernel_rfl) (fun _ _ _ h => h) (Or.inl ⟨by rfl, ?hy0z13⟩) (by assumption) ?rest0z13
            case hy0z13 =>
              intro w hSw
              dsimp only [SE] at hSw
              go_simp
              try with_reducible rfl
            simp only [Act.put, List.getElem_toArray, List.getElem_cons_succ, List.getElem_cons_zero, List.setIfInBounds_toArray, List.set_cons_zero, List.set_cons_succ]
            refine wpAnyH_take (i := 1) (v := ?v1z14) rfl (by kernel_rfl) (by kernel_rfl) (by kernel_rfl) (fun _ _ _ h => h) (Or.inl ⟨by rfl, ?hy1z14⟩) (by assumption) ?rest1z14
            case hy1z14 =>
              intro w hSw
              dsimp only [SE] at hSw
              go_simp
              try with_reducible rfl
            simp only [Act.put, List.getElem_toArray, List.getElem_cons_succ, List.getElem_cons_zero, List.setIfInBounds_toArray, List.set_cons_zero, List.set_cons_succ]
            refine wpAnyH_take (i := 2) (v := ?v2z15) rfl (by kernel_rfl) (by kernel_rfl) (by kernel_rfl) (fun _ _ _ h => h) (Or.inl ⟨by rfl, ?hy2z15⟩) (by assumption) ?rest2z15
            case hy2z15 =>
              intro w hSw
              dsimp only [SE] at hSw
              go_simp
              try with_reducible rfl
            simp only [Act.put, List.getElem_toArray, List.getElem_cons_succ, List.getElem_cons_zero, List.setIfInBounds_toArray, List.set_cons_zero, List.set_cons_succ]
            refine wpAnyH_take (i := 3) (v := ?v3z16) rfl (by kernel_rfl) (by kernel_rfl) (by kernel_rfl) (fun _ _ _ h => h) (Or.inl ⟨by rfl, ?hy3z16⟩) (by assumption) ?rest3z16
            case hy3z16 =>
              intro w hSw
              dsimp only [SE] at hSw
              go_simp
              try with_reducible rfl
            simp only [Act.put, List.getElem_toArray, List.getElem_cons_succ, List.getElem_cons_zero, List.setIfInBounds_toArray, List.set_cons_zero, List.set_cons_succ]
            refine wpAnyH_take (i := 4) (v := ?v4z17) rfl (by kernel_rfl) (by kernel_rfl) (by kernel_rfl) (fun _ _ _ h => h) (Or.inl ⟨by rfl, ?hy4z17⟩) (by assumption) ?rest4z17
            case hy4z17 =>
              intro w hSw
              dsimp only [SE] at hSw
              go_simp
              try with_reducible rfl
            simp only [Act.put, List.getElem_toArray, List.getElem_cons_succ, List.getElem_cons_zero, List.setIfInBounds_toArray, List.set_cons_zero, List.set_cons_succ]
            refine wpAnyH_take (i := 5) (v := ?v5z18) rfl (by kernel_rfl) (by kernel_rfl) (by kernel_rfl) (fun _ _ _ h => h) (Or.inl ⟨by rfl, ?hy5z18⟩) (by assumption) ?rest5z18
            case hy5z18 =>
              intro w hSw
              dsimp only [SE] at hSw
              go_simp
              try with_reducible rfl
            simp only [Act.put, List.getElem_toArray, List.getElem_cons_succ, List.getElem_cons_zero, List.setIfInBounds_toArray, List.set_cons_zero, List.set_cons_succ]
            refine wpAnyH_take (i := 6) (v := ?v6z19) rfl (by kernel_rfl) (by kernel_rfl) (by kernel_rfl) (fun _ _ _ h => h) (Or.inl ⟨by rfl, ?hy6z19⟩) (by assumption) ?rest6z19
            case hy6z19 =>
              intro w hSw
              dsimp only [SE] at hSw
              go_simp
              try with_reducible rfl
            simp only [Act.put, List.getElem_toArray, List.getElem_cons_succ, List.getElem_cons_zero, List.setIfInBounds_toArray, List.set_cons_zero, List.set_cons_succ]
            refine wpAnyH_take (i := 7) (v := ?v7z20) rfl (by kernel_rfl) (by kernel_rfl) (by kernel_rfl) (fun _ _ _ h => h) (Or.inl ⟨by rfl, ?hy7z20⟩) (by assumption) ?rest7z20
            case hy7z20 =>
              intro w hSw
              dsimp only [SE] at hSw
              go_simp
              try with_reducible rfl
            simp only [Act.put, List.getElem_toArray, List.getElem_cons_succ, List.getElem_cons_zero, List.setIfInBounds_toArray, List.set_cons_zero, List.set_cons_succ]
            refine wpAnyH_ready (rs := [8]) (by kernel_rfl) (by simp) ?_
            refine AllReadyH.cons rfl (fun K hK => ?_) AllReadyH.nil
            go_simp
            (refine (setsText_c a c l a' c' (ed E m).ss WD (HL.out.below BWD.out) (HLL.out.below BWD.out) EG.out.2.1 HG.out.1.1 SG.out (HW.out.below BWD.out)).mono ?_)
            rintro e V1 ⟨t1, rfl, _, ht1, bc⟩
            try go_simp
            have D1 : Hid (Below W4.heap.size W4 V1) := D0.out.trans (bc.out.mono D0.out.size)
            have TS1 : Hid (t1.size ≤ 7212) := by have := sT_le SG.out HG.out.1.1; unfold Hid; rw [ht1.out, bs_size]; exact this
            have hT := HSE.out V1 D1.out
            refine hK.out _ _ hT (fun _ => ?_)
            clear hK K hS bc
            have hS := hT
            clear hT
            try simp only [Act.put, List.setIfInBounds_toArray, List.set_cons_zero, List.set_cons_succ]
            have w1 := TS1.out
            have w2 := HS2.out
            obtain ⟨z3, hz3⟩ : ∃ z : ByteArray, z2 ++ t1 = z := ⟨_, rfl⟩
            have s3 : z3.size = z2.size + t1.size := by rw [← hz3, ByteArray.size_append]
            obtain ⟨z4, hz4⟩ : ∃ z : ByteArray, z3 ++ (⟨#[10]⟩ : ByteArray) = z := ⟨_, rfl⟩
            have s4 : z4.size = z3.size + 1 := by rw [← hz4, ByteArray.size_append]; rfl
            have HZ2 := Lib.hid (And.intro hz3 hz4)
            have HS4 : Hid (z4.size ≤ 7300) := by unfold Hid; omega
            have q3 : ¬ 9223372036854775807 < z2.size + t1.size := by omega
            have q4 : ¬ 9223372036854775807 < z3.size + 1 := by omega
            clear s3 s4 w1 w2
            refine wpAnyH_take (i := 9) (v := ?v9z21) rfl (by kernel_rfl) (by kernel_rfl) (by kernel_rfl) (fun _ _ _ h => h) (Or.inl ⟨by rfl, ?hy9z21⟩) (by assumption) ?rest9z21
            case hy9z21 =>
              intro w hSw
              dsimp only [SE] at hSw
              go_simp
              try with_reducible rfl
            simp only [Act.put, List.getElem_toArray, List.getElem_cons_succ, List.getElem_cons_zero, List.setIfInBounds_toArray, List.set_cons_zero, List.set_cons_succ]
            refine wpAnyH_take (i := 10) (v := ?v10z22) rfl (by kernel_rfl) (by kernel_rfl) (by kernel_rfl) (fun _ _ _ h => h) (Or.inl ⟨by rfl, ?hy10z22⟩) (by assumption) ?rest10z22
            case hy10z22 =>
              intro w hSw
              dsimp only [SE] at hSw
              go_simp
              try with_reducible rfl
            simp only [Act.put, List.getElem_toArray, List.getElem_cons_succ, List.getElem_cons_zero, List.setIfInBounds_toArray, List.set_cons_zero, List.set_cons_succ]
            refine wpAnyH_ready (rs := [11]) (by kernel_rfl) (by simp) ?_
            refine AllReadyH.cons rfl (fun K hK => ?_) AllReadyH.nil
            go_simp
            have D3 : Hid (Below wr.heap.size wr V1) := B4.out.1.trans (D1.out.mono B4.out.1.size)
            (refine (put3_c W2.heap.size (fTs l l.length ++ eTs l E m) z4 wr V1 HS0.out.1 D3.out (by have := fTs_le (l := l) (k := l.length) (fun i hi => HG.out.1.2 i hi); have := eTs_le HEG.out m (Nat.le_of_lt hlt); have := HS4.out; have := HG.out.1.1; have := HG.out.2.1; rw [List.length_append]; omega)).mono ?_)
            rintro e V3 ⟨rfl, hib, bc, hcells⟩
            try go_simp
            have hT : SE wr.heap.size w.heap.size (ed E m).nm a' (ed E m).ss.length c' a l.length c V3 := by
              have hl : wr.heap.size < V1.heap.size := by have := D1.out.size; have := B4.out.2.1; omega
              exact ⟨(hcells ⟨wr.heap.size, 0, none⟩ (Nat.le_refl _) hl).trans hS.1, (hcells ⟨wr.heap.size, 1, none⟩ (Nat.le_refl _) hl).trans hS.2.1, (bc.cell (p := ⟨w.heap.size, 0, none⟩) X2.out.2.2).trans hS.2.2⟩
            refine hK.out _ _ hT (fun _ => ?_)
            have NX : Hid (IsB W2.heap.size (fTs l l.length ++ eTs l E (m + 1)) V3 ∧ Below W2.heap.size W2 V3) := by
              refine ⟨?_, HS0.out.2.trans ((D3.out.mono HS0.out.2.size).trans bc)⟩
              have e : z4.data.toList = eT l (ed E m) := by
                rw [← HZ2.out.2, ← HZ2.out.1, ← HZ.out.2, ← HZ.out.1, ht1.out]
                unfold eT
                simp [ByteArray.data_append, bs_list]
              show IsB W2.heap.size (fTs l l.length ++ (eTs l E m ++ eT l (ed E m))) V3
              rw [← e, ← List.append_assoc]; exact hib
            clear hK K hS bc hib hcells hT
            try simp only [Act.put, List.setIfInBounds_toArray, List.set_cons_zero, List.set_cons_succ]
            refine wpAnyH_done (by kernel_rfl) ?_ _
            refine NoPanic.normal ?_
            clear q1 q2 q3 q4 hz1 hz2 hz3 hz4
            go_wp2
            go_roundw
            case rel => exact ⟨m + 1, by omega, by go_num, NX.out⟩
            case measure => simp [intOf]; omega
          · obtain rfl : m = E.length := by omega
            clear hlt
            have HIB := Lib.hid hQ.out.1
            have HPT : Hid (fTs l l.length ++ eTs l E E.length = planT l E) := rfl
            rw [HPT.out] at HIB
            have HLN : Hid (Calls Tryd.prog 12 #[.pointer (some ⟨W2.heap.size, 0, none⟩)] wr fun e w' => e = .returned (.int .i64 (planT l E).length) ∧ w' = wr) := by
              have h := Tryd.Builder_Len W2.heap.size W2.heap.size (Lib.byteCells (planT l E)) wr HIB.out
              rw [byteCells_length] at h
              exact h
            have hle : (planT l E).length ≤ 1000000 := by
              have h1 := fTs_le (l := l) (k := l.length) (fun i hi => HG.out.1.2 i hi)
              have h2 := eTs_le HEG.out E.length (Nat.le_refl _)
              have h3 := HG.out.1.1
              have h4 := HG.out.2.1
              unfold planT
              rw [List.length_append]; omega
            have BQ := Lib.hid BWr.out
            have HST2 : Hid (Calls Tryd.prog 13 #[.pointer (some ⟨W2.heap.size, 0, none⟩)] wr fun e w' => e = .returned (.string (bs (planT l E))) ∧ Below W2.heap.size wr w') := Tryd.Builder_String_any W2.heap.size W2.heap.size (planT l E) wr HIB.out hQ.out.2.size
            have HTX : Hid (textS l E = if 60000 < (planT l E).length then ([], 2) else (planT l E, 0)) := by unfold Hid textS; rw [if_neg (by simpa using HEG.out)]
            clear hQ
            by_cases hbig : 60000 < (planT l E).length
            · have RS : Hid (textS l E = ([], 2)) := by unfold Hid; rw [HTX.out, if_pos hbig]
              have hbig' : (60000 : Int) < ((planT l E).length : Int) := by omega
              clear hbig
              go_wp2_with fail
              refine HLN.out.mono ?_
              rintro e w9 ⟨rfl, rfl⟩
              go_wp2
              go_ret2
              exact ⟨bs [], by rw [RS.out]; rfl, by rw [RS.out], BQ.out⟩
            · have RS : Hid (textS l E = (planT l E, 0)) := by unfold Hid; rw [HTX.out, if_neg hbig]
              have hbig' : ¬ (60000 : Int) < ((planT l E).length : Int) := by omega
              clear hbig
              go_wp2_with fail
              refine HLN.out.mono ?_
              rintro e w9 ⟨rfl, rfl⟩
              go_wp2_with fail
              refine HST2.out.mono ?_
              rintro e w10 ⟨rfl, b10⟩
              have BZ := Lib.hid (BQ.out.trans (b10.mono BW2.out.size))
              clear b10
              go_wp2
              go_ret2
              exact ⟨bs (planT l E), by rw [RS.out]; rfl, by rw [RS.out], BZ.out⟩
  · have RS : Hid (textS l E = ([], planS l E)) := by unfold Hid textS; rw [if_pos h1]
    have hc' : (planS l E == 0) = false := by rw [beq_eq_false_iff_ne]; exact h1
    clear h1
    go_enter Tryd.func4, Tryd.ntmps4
    go_wp2_with fail
    refine HC.out.mono ?_
    rintro e W2 ⟨rfl, b2⟩
    have BZ := Lib.hid (B1.out.1.trans (b2.mono B1.out.1.size))
    clear b2
    go_wp2
    go_ret2
    exact ⟨bs [], by rw [RS.out]; rfl, by rw [RS.out], BZ.out⟩
end Go.Proofs.YtpoaikbedcfgaaaDoor
