/-
  EditPlansMatchSpec: Text of the reference.
-/
import Derived.Test.YtpoaikbedcfgaaaDoorEdText
namespace Go.Proofs.YtpoaikbedcfgaaaDoor
open Go.RowKit Go.WideMaps Go.Maps

/-- The cells that a part of the reference's text is made of. -/
def SR (p : Nat) (av : Option Addr) (n c b o : Nat) (nm : ByteArray) (W : World) : Prop :=
  W.cell? ⟨p, 0, none⟩ = some (.slice av n c) ∧ W.cell? ⟨b, o, none⟩ = some (.string nm)
def SQ (g : Nat) (nm : ByteArray) (W : World) : Prop := W.cell? ⟨g, 0, none⟩ = some (.string nm)
set_option maxRecDepth 100000 in
set_option maxHeartbeats 8000000 in
theorem rText_c (a : Option Addr) (c : Nat) (l : List Fd) (a2 : Option Addr) (c2 : Nat) (E : List Ed) (w : World) (hl : RdF w a l) (hE : RdE w a2 E) (hEnv : Env w) (hc1 : l.length ≤ c) (hc2 : E.length ≤ c2) (hPow : Pow w) :
    Calls Tryd.prog 5 #[.agg #[.slice a l.length c, .slice a2 E.length c2]] w (TxP l E w) := by
  have h9 := hl.1
  have h9' := hE.1
  obtain ⟨W1, hW1⟩ : ∃ W1, w.alloc (.cells #[.slice a l.length c, .slice a2 E.length c2] 25) = W1 := ⟨_, rfl⟩
  have B1 : Hid (Below w.heap.size w W1 ∧ W1.heap.size = w.heap.size + 1 ∧ W1.cell? ⟨w.heap.size, 0, none⟩ = some (.slice a l.length c) ∧ W1.cell? ⟨w.heap.size, 1, none⟩ = some (.slice a2 E.length c2)) := by
    unfold Hid
    rw [← hW1]
    exact ⟨bel_one _ _, by simp, by rw [World.cell?_alloc_at _ _ _ _ rfl]; rfl, by rw [World.cell?_alloc_at _ _ _ _ rfl]; rfl⟩
  have HC := Lib.hid (rCheckPlan_c a c l a2 c2 E W1 (hl.below B1.out.1) (hE.below B1.out.1) (hEnv.below B1.out.1) hc1 hc2)
  have HL := Lib.hid hl
  have HE := Lib.hid hE
  have HW := Lib.hid hPow
  have v0 := B1.out.2.2.1
  have v1 := B1.out.2.2.2
  clear hl hE hPow hEnv hc1 hc2
  by_cases h1 : planS l E = 0
  · rw [h1] at HC
    have HG := Lib.hid (plan_good h1)
    have HEG := Lib.hid h1
    clear h1
    go_enter Tryd.func5, Tryd.ntmps5
    go_wp2_with fail
    clear v0 v1
    refine HC.out.mono ?_
    rintro e W2 ⟨rfl, b2⟩
    have BW2 : Hid (Below w.heap.size w W2) := B1.out.1.trans (b2.mono B1.out.1.size)
    have X2 : Hid (W2.cell? ⟨w.heap.size, 0, none⟩ = some (.slice a l.length c) ∧ W2.cell? ⟨w.heap.size, 1, none⟩ = some (.slice a2 E.length c2) ∧ w.heap.size < W2.heap.size) := ⟨(b2.cell (p := ⟨w.heap.size, 0, none⟩) (by have := B1.out.2.1; show w.heap.size < _; omega)).trans B1.out.2.2.1, (b2.cell (p := ⟨w.heap.size, 1, none⟩) (by have := B1.out.2.1; show w.heap.size < _; omega)).trans B1.out.2.2.2, by have := B1.out.2.1; have := b2.size; omega⟩
    have x0 := X2.out.1
    clear b2 hW1
    go_wp2
    clear x0
    go_loopw [5, 21] (fun s i wr => ∃ (k : Nat) (sv : ByteArray), k ≤ l.length ∧ i = .int .i64 k ∧ s = .string sv ∧ Hid (sv = bs (fTs l k) ∧ Below W2.heap.size W2 wr)) (fun _ i _ => l.length - (intOf i).toNat)
    case atStart => exact ⟨0, _, Nat.zero_le _, rfl, rfl, rfl, Below.refl _ _⟩
    case round =>
      obtain ⟨k, sv, hk, rfl, rfl, hS⟩ := hrel
      have BWr : Hid (Below w.heap.size w wr) := BW2.out.trans (hS.out.2.mono BW2.out.size)
      by_cases hlt : k < l.length
      · obtain ⟨b, off, rfl, u0, ⟨a', c', u1, hcs⟩, u2⟩ := (HL.out.below BWr.out).at_ hlt
        have hlt' : (k : Int) < (l.length : Int) := by omega
        have GF := Lib.hid (HG.out.1.2 k hlt)
        have HCS := Lib.hid hcs
        have h8 := hcs.1
        clear hcs
        have SVS : Hid (sv.size ≤ 7000) := by
          have := fTs_le (l := l) (k := k) (fun i hi => HG.out.1.2 i (by omega)); have := HG.out.1.1
          unfold Hid; rw [hS.out.1, bs_size]; omega
        obtain ⟨W4, hW4⟩ : ∃ W4, wr.alloc (.cells #[.string (fd l k).nm, .slice a' (fd l k).cs.length c', .int .i64 (fd l k).wt] 37) = W4 := ⟨_, rfl⟩
        have B4 : Hid (Below wr.heap.size wr W4 ∧ W4.heap.size = wr.heap.size + 1 ∧ W4.cell? ⟨wr.heap.size, 0, none⟩ = some (.string (fd l k).nm) ∧ W4.cell? ⟨wr.heap.size, 1, none⟩ = some (.slice a' (fd l k).cs.length c') ∧ W4.cell? ⟨wr.heap.size, 2, none⟩ = some (.int .i64 (fd l k).wt)) := by
          unfold Hid
          rw [← hW4]
          exact ⟨bel_one _ _, by simp, by rw [World.cell?_alloc_at _ _ _ _ rfl]; rfl, by rw [World.cell?_alloc_at _ _ _ _ rfl]; rfl, by rw [World.cell?_alloc_at _ _ _ _ rfl]; rfl⟩
        go_wp2_with fail
        clear hW4 u0 u1 u2
        have HS0 := Lib.hid hS.out
        have S0 : SF wr.heap.size (fd l k).nm a' (fd l k).cs.length c' (fd l k).wt W4.drew := by
          have hb := (Below.refl W4.heap.size W4).drew
          have hl : wr.heap.size < W4.heap.size := by have := B4.out.2.1; omega
          exact ⟨(hb.cell (p := ⟨wr.heap.size, 0, none⟩) hl).trans B4.out.2.2.1, (hb.cell (p := ⟨wr.heap.size, 1, none⟩) hl).trans B4.out.2.2.2.1, (hb.cell (p := ⟨wr.heap.size, 2, none⟩) hl).trans B4.out.2.2.2.2⟩
        have HSF : Hid (∀ V, Below W4.heap.size W4 V → SF wr.heap.size (fd l k).nm a' (fd l k).cs.length c' (fd l k).wt V) := fun V hb => by
          have hl : wr.heap.size < W4.heap.size := by have := B4.out.2.1; omega
          exact ⟨(hb.cell (p := ⟨wr.heap.size, 0, none⟩) hl).trans B4.out.2.2.1, (hb.cell (p := ⟨wr.heap.size, 1, none⟩) hl).trans B4.out.2.2.2.1, (hb.cell (p := ⟨wr.heap.size, 2, none⟩) hl).trans B4.out.2.2.2.2⟩
        clear hS
        have hnm := GF.out.nm
        have NM := Lib.hid hnm
        obtain ⟨z1, hz1⟩ : ∃ z : ByteArray, (⟨#[102, 105, 101, 108, 100, 32]⟩ : ByteArray) ++ (fd l k).nm = z := ⟨_, rfl⟩
        have s1 : z1.size = 6 + (fd l k).nm.size := by rw [← hz1, ByteArray.size_append]; rfl
        obtain ⟨z2, hz2⟩ : ∃ z : ByteArray, z1 ++ (⟨#[32]⟩ : ByteArray) = z := ⟨_, rfl⟩
        have s2 : z2.size = z1.size + 1 := by rw [← hz2, ByteArray.size_append]; rfl
        have HZ := Lib.hid (And.intro hz1 hz2)
        have HS2 : Hid (z2.size ≤ 23) := by unfold Hid; omega
        have q1 : ¬ 9223372036854775807 < 6 + (fd l k).nm.size := by omega
        have q2 : ¬ 9223372036854775807 < z1.size + 1 := by omega
        clear s1 s2 hnm
        refine wp_region_noPanic ?_
        refine wp_region_held_drew (S := SF wr.heap.size (fd l k).nm a' (fd l k).cs.length c' (fd l k).wt) (by kernel_rfl) S0 (fun hS => ?_)
        obtain ⟨WD, hWD⟩ : ∃ W, W4.drew = W := ⟨_, rfl⟩
        have D0 : Hid (Below W4.heap.size W4 WD) := by unfold Hid; rw [← hWD]; exact (Below.refl _ _).drew
        rw [hWD] at hS ⊢
        clear hWD S0
        refine wpAnyH_take (i := 0) (v := ?v0z23) rfl (by kernel_rfl) (by kernel_rfl) (by kernel_rfl) (fun _ _ _ h => h) (Or.inl ⟨by rfl, ?hy0z23⟩) (by assumption) ?rest0z23
        case hy0z23 =>
          intro w hSw
          dsimp only [SF] at hSw
          go_simp
          try with_reducible rfl
        simp only [Act.put, List.getElem_toArray, List.getElem_cons_succ, List.getElem_cons_zero, List.setIfInBounds_toArray, List.set_cons_zero, List.set_cons_succ]
        refine wpAnyH_take (i := 1) (v := ?v1z24) rfl (by kernel_rfl) (by kernel_rfl) (by kernel_rfl) (fun _ _ _ h => h) (Or.inl ⟨by rfl, ?hy1z24⟩) (by assumption) ?rest1z24
        case hy1z24 =>
          intro w hSw
          dsimp only [SF] at hSw
          go_simp
          try with_reducible rfl
        simp only [Act.put, List.getElem_toArray, List.getElem_cons_succ, List.getElem_cons_zero, List.setIfInBounds_toArray, List.set_cons_zero, List.set_cons_succ]
        refine wpAnyH_take (i := 2) (v := ?v2z25) rfl (by kernel_rfl) (by kernel_rfl) (by kernel_rfl) (fun _ _ _ h => h) (Or.inl ⟨by rfl, ?hy2z25⟩) (by assumption) ?rest2z25
        case hy2z25 =>
          intro w hSw
          dsimp only [SF] at hSw
          go_simp
          try with_reducible rfl
        simp only [Act.put, List.getElem_toArray, List.getElem_cons_succ, List.getElem_cons_zero, List.setIfInBounds_toArray, List.set_cons_zero, List.set_cons_succ]
        refine wpAnyH_take (i := 3) (v := ?v3z26) rfl (by kernel_rfl) (by kernel_rfl) (by kernel_rfl) (fun _ _ _ h => h) (Or.inl ⟨by rfl, ?hy3z26⟩) (by assumption) ?rest3z26
        case hy3z26 =>
          intro w hSw
          dsimp only [SF] at hSw
          go_simp
          try with_reducible rfl
        simp only [Act.put, List.getElem_toArray, List.getElem_cons_succ, List.getElem_cons_zero, List.setIfInBounds_toArray, List.set_cons_zero, List.set_cons_succ]
        refine wpAnyH_take (i := 4) (v := ?v4z27) rfl (by kernel_rfl) (by kernel_rfl) (by kernel_rfl) (fun _ _ _ h => h) (Or.inl ⟨by rfl, ?hy4z27⟩) (by assumption) ?rest4z27
        case hy4z27 =>
          intro w hSw
          dsimp only [SF] at hSw
          go_simp
          try with_reducible rfl
        simp only [Act.put, List.getElem_toArray, List.getElem_cons_succ, List.getElem_cons_zero, List.setIfInBounds_toArray, List.set_cons_zero, List.set_cons_succ]
        refine wpAnyH_take (i := 5) (v := ?v5z28) rfl (by kernel_rfl) (by kernel_rfl) (by kernel_rfl) (fun _ _ _ h => h) (Or.inl ⟨by rfl, ?hy5z28⟩) (by assumption) ?rest5z28
        case hy5z28 =>
          intro w hSw
          dsimp only [SF] at hSw
          go_simp
          try with_reducible rfl
        simp only [Act.put, List.getElem_toArray, List.getElem_cons_succ, List.getElem_cons_zero, List.setIfInBounds_toArray, List.set_cons_zero, List.set_cons_succ]
        refine wpAnyH_take (i := 6) (v := ?v6z29) rfl (by kernel_rfl) (by kernel_rfl) (by kernel_rfl) (fun _ _ _ h => h) (Or.inl ⟨by rfl, ?hy6z29⟩) (by assumption) ?rest6z29
        case hy6z29 =>
          intro w hSw
          dsimp only [SF] at hSw
          go_simp
          try with_reducible rfl
        simp only [Act.put, List.getElem_toArray, List.getElem_cons_succ, List.getElem_cons_zero, List.setIfInBounds_toArray, List.set_cons_zero, List.set_cons_succ]
        refine wpAnyH_take (i := 10) (v := ?v10z30) rfl (by kernel_rfl) (by kernel_rfl) (by kernel_rfl) (fun _ _ _ h => h) (Or.inl ⟨by rfl, ?hy10z30⟩) (by assumption) ?rest10z30
        case hy10z30 =>
          intro w hSw
          dsimp only [SF] at hSw
          go_simp
          try with_reducible rfl
        simp only [Act.put, List.getElem_toArray, List.getElem_cons_succ, List.getElem_cons_zero, List.setIfInBounds_toArray, List.set_cons_zero, List.set_cons_succ]
        refine wpAnyH_take (i := 11) (v := ?v11z31) rfl (by kernel_rfl) (by kernel_rfl) (by kernel_rfl) (fun _ _ _ h => h) (Or.inl ⟨by rfl, ?hy11z31⟩) (by assumption) ?rest11z31
        case hy11z31 =>
          intro w hSw
          dsimp only [SF] at hSw
          go_simp
          try with_reducible rfl
        simp only [Act.put, List.getElem_toArray, List.getElem_cons_succ, List.getElem_cons_zero, List.setIfInBounds_toArray, List.set_cons_zero, List.set_cons_succ]
        refine wpAnyH_ready (rs := [7]) (by kernel_rfl) (by simp) ?_
        refine AllReadyH.cons rfl (fun K hK => ?_) AllReadyH.nil
        go_simp
        (refine (list_c a' c' (fd l k).cs WD (HCS.out.below (B4.out.1.trans (D0.out.mono B4.out.1.size))) GF.out.cs (HW.out.below (BWr.out.trans ((B4.out.1.trans (D0.out.mono B4.out.1.size)).mono BWr.out.size)))).mono ?_)
        rintro e V1 ⟨t1, rfl, _, ht1, bc⟩
        try go_simp
        have D1 : Hid (Below W4.heap.size W4 V1) := D0.out.trans (bc.out.mono D0.out.size)
        have TS1 : Hid (t1.size ≤ 500) := by have := GF.out.cs.size; unfold Hid; rw [ht1.out, bs_size]; exact this
        have hT := HSF.out V1 D1.out
        refine hK.out _ _ hT (fun _ => ?_)
        clear hK K hS bc
        have hS := hT
        clear hT
        try simp only [Act.put, List.setIfInBounds_toArray, List.set_cons_zero, List.set_cons_succ]
        have w1 := TS1.out
        have w2 := HS2.out
        obtain ⟨z3, hz3⟩ : ∃ z : ByteArray, z2 ++ t1 = z := ⟨_, rfl⟩
        have s3 : z3.size = z2.size + t1.size := by rw [← hz3, ByteArray.size_append]
        obtain ⟨z4, hz4⟩ : ∃ z : ByteArray, z3 ++ (⟨#[32, 119, 101, 105, 103, 104, 116, 32]⟩ : ByteArray) = z := ⟨_, rfl⟩
        have s4 : z4.size = z3.size + 8 := by rw [← hz4, ByteArray.size_append]; rfl
        have HZ2 := Lib.hid (And.intro hz3 hz4)
        have HS4 : Hid (z4.size ≤ 540) := by unfold Hid; omega
        have q3 : ¬ 9223372036854775807 < z2.size + t1.size := by omega
        have q4 : ¬ 9223372036854775807 < z3.size + 8 := by omega
        clear s3 s4 w1 w2
        refine wpAnyH_take (i := 8) (v := ?v8z32) rfl (by kernel_rfl) (by kernel_rfl) (by kernel_rfl) (fun _ _ _ h => h) (Or.inl ⟨by rfl, ?hy8z32⟩) (by assumption) ?rest8z32
        case hy8z32 =>
          intro w hSw
          dsimp only [SF] at hSw
          go_simp
          try with_reducible rfl
        simp only [Act.put, List.getElem_toArray, List.getElem_cons_succ, List.getElem_cons_zero, List.setIfInBounds_toArray, List.set_cons_zero, List.set_cons_succ]
        refine wpAnyH_take (i := 9) (v := ?v9z33) rfl (by kernel_rfl) (by kernel_rfl) (by kernel_rfl) (fun _ _ _ h => h) (Or.inl ⟨by rfl, ?hy9z33⟩) (by assumption) ?rest9z33
        case hy9z33 =>
          intro w hSw
          dsimp only [SF] at hSw
          go_simp
          try with_reducible rfl
        simp only [Act.put, List.getElem_toArray, List.getElem_cons_succ, List.getElem_cons_zero, List.setIfInBounds_toArray, List.set_cons_zero, List.set_cons_succ]
        refine wpAnyH_ready (rs := [12]) (by kernel_rfl) (by simp) ?_
        refine AllReadyH.cons rfl (fun K hK => ?_) AllReadyH.nil
        go_simp
        (refine (itoa_c (fd l k).wt V1 (HW.out.below (BWr.out.trans ((B4.out.1.trans (D1.out.mono B4.out.1.size)).mono BWr.out.size))) (by have := GF.out.wt; omega) (by have := GF.out.wt; omega)).mono ?_)
        rintro e V2 ⟨t2, rfl, _, ht2, bc⟩
        try go_simp
        have D2 : Hid (Below W4.heap.size W4 V2) := D1.out.trans (bc.out.mono D1.out.size)
        have TS2 : Hid (t2.size ≤ 24) := by
          have := Lib.itoa_length_le (fd l k).wt (by have := GF.out.wt; omega) (by have := GF.out.wt; omega)
          unfold Hid; rw [ht2.out, bs_size]; omega
        have hT := HSF.out V2 D2.out
        refine hK.out _ _ hT (fun _ => ?_)
        clear hK K hS bc
        have hS := hT
        clear hT
        try simp only [Act.put, List.setIfInBounds_toArray, List.set_cons_zero, List.set_cons_succ]
        have w1 := TS2.out
        have w2 := HS4.out
        obtain ⟨z5, hz5⟩ : ∃ z : ByteArray, z4 ++ t2 = z := ⟨_, rfl⟩
        have s5 : z5.size = z4.size + t2.size := by rw [← hz5, ByteArray.size_append]
        obtain ⟨z6, hz6⟩ : ∃ z : ByteArray, z5 ++ (⟨#[10]⟩ : ByteArray) = z := ⟨_, rfl⟩
        have s6 : z6.size = z5.size + 1 := by rw [← hz6, ByteArray.size_append]; rfl
        have HZ3 := Lib.hid (And.intro hz5 hz6)
        have HS6 : Hid (z6.size ≤ 1000) := by unfold Hid; omega
        have q5 : ¬ 9223372036854775807 < z4.size + t2.size := by omega
        have q6 : ¬ 9223372036854775807 < z5.size + 1 := by omega
        have w3 := SVS.out
        obtain ⟨z7, hz7⟩ : ∃ z : ByteArray, sv ++ z6 = z := ⟨_, rfl⟩
        have HZ4 := Lib.hid hz7
        have q7 : ¬ 9223372036854775807 < sv.size + z6.size := by omega
        clear s5 s6 w1 w2 w3
        refine wpAnyH_take (i := 13) (v := ?v13z34) rfl (by kernel_rfl) (by kernel_rfl) (by kernel_rfl) (fun _ _ _ h => h) (Or.inl ⟨by rfl, ?hy13z34⟩) (by assumption) ?rest13z34
        case hy13z34 =>
          intro w hSw
          dsimp only [SF] at hSw
          go_simp
          try with_reducible rfl
        simp only [Act.put, List.getElem_toArray, List.getElem_cons_succ, List.getElem_cons_zero, List.setIfInBounds_toArray, List.set_cons_zero, List.set_cons_succ]
        refine wpAnyH_take (i := 14) (v := ?v14z35) rfl (by kernel_rfl) (by kernel_rfl) (by kernel_rfl) (fun _ _ _ h => h) (Or.inl ⟨by rfl, ?hy14z35⟩) (by assumption) ?rest14z35
        case hy14z35 =>
          intro w hSw
          dsimp only [SF] at hSw
          go_simp
          try with_reducible rfl
        simp only [Act.put, List.getElem_toArray, List.getElem_cons_succ, List.getElem_cons_zero, List.setIfInBounds_toArray, List.set_cons_zero, List.set_cons_succ]
        refine wpAnyH_take (i := 15) (v := ?v15z36) rfl (by kernel_rfl) (by kernel_rfl) (by kernel_rfl) (fun _ _ _ h => h) (Or.inl ⟨by rfl, ?hy15z36⟩) (by assumption) ?rest15z36
        case hy15z36 =>
          intro w hSw
          dsimp only [SF] at hSw
          go_simp
          try with_reducible rfl
        simp only [Act.put, List.getElem_toArray, List.getElem_cons_succ, List.getElem_cons_zero, List.setIfInBounds_toArray, List.set_cons_zero, List.set_cons_succ]
        refine wpAnyH_take (i := 16) (v := ?v16z37) rfl (by kernel_rfl) (by kernel_rfl) (by kernel_rfl) (fun _ _ _ h => h) (Or.inl ⟨by rfl, ?hy16z37⟩) (by assumption) ?rest16z37
        case hy16z37 =>
          intro w hSw
          dsimp only [SF] at hSw
          go_simp
          try with_reducible rfl
        simp only [Act.put, List.getElem_toArray, List.getElem_cons_succ, List.getElem_cons_zero, List.setIfInBounds_toArray, List.set_cons_zero, List.set_cons_succ]
        have D3 : Hid (Below wr.heap.size wr V2) := B4.out.1.trans (D2.out.mono B4.out.1.size)
        have NX : Hid (z7 = bs (fTs l (k + 1)) ∧ Below W2.heap.size W2 V2) := by
          refine ⟨?_, HS0.out.2.trans (D3.out.mono HS0.out.2.size)⟩
          rw [← HZ4.out, ← HZ3.out.2, ← HZ3.out.1, ← HZ2.out.2, ← HZ2.out.1, ← HZ.out.2, ← HZ.out.1, ht1.out, ht2.out, HS0.out.1]
          show _ = bs (fTs l k ++ fT (fd l k))
          unfold fT
          apply ByteArray.ext
          simp [ByteArray.data_append, bs]
        refine wpAnyH_done (by kernel_rfl) ?_ _
        refine NoPanic.normal ?_
        clear q1 q2 q3 q4 q5 q6 q7 hz1 hz2 hz3 hz4 hz5 hz6 hz7
        go_wp2
        go_roundw
        case rel => exact ⟨k + 1, z7, by omega, by go_num, rfl, NX.out⟩
        case measure => simp [intOf]; omega
      · obtain rfl : k = l.length := by omega
        clear hlt
        obtain ⟨wA, hwA⟩ : ∃ x : World, x = wr := ⟨wr, rfl⟩
        subst hwA
        have y1 : wA.cell? ⟨w.heap.size, 1, none⟩ = some (.slice a2 E.length c2) := (hS.out.2.cell (p := ⟨w.heap.size, 1, none⟩) X2.out.2.2).trans X2.out.2.1
        go_wp2
        clear y1
        go_loopw [5, 45] (fun s i wr => ∃ (m : Nat) (sv : ByteArray), m ≤ E.length ∧ i = .int .i64 m ∧ s = .string sv ∧ Hid (sv = bs (fTs l l.length ++ eTs l E m) ∧ Below W2.heap.size W2 wr)) (fun _ i _ => E.length - (intOf i).toNat)
        case atStart => exact ⟨0, _, Nat.zero_le _, rfl, rfl, by rw [show eTs l E 0 = [] from rfl, List.append_nil]; exact hS.out.1, hS.out.2⟩
        case round =>
          obtain ⟨m, sw, hm, rfl, rfl, hQ⟩ := hrel
          have BWr : Hid (Below w.heap.size w wr) := BW2.out.trans (hQ.out.2.mono BW2.out.size)
          have SVS : Hid (sw = bs (fTs l l.length ++ eTs l E m) ∧ sw.size ≤ 1000000) := by
            have h1 := fTs_le (l := l) (k := l.length) (fun i hi => HG.out.1.2 i hi)
            have h2 := eTs_le HEG.out m hm
            have h3 := HG.out.1.1
            have h4 := HG.out.2.1
            refine ⟨hQ.out.1, ?_⟩
            rw [hQ.out.1, bs_size, List.length_append]; omega
          by_cases hlt : m < E.length
          · obtain ⟨b, off, rfl, hAt⟩ := HE.out.at_ hlt
            have hbl : Hid (b < w.heap.size) := by
              obtain ⟨b', off', e, hb, _⟩ := HE.out.2 (by omega)
              injection e with e; injection e with e1 e2; subst e1; exact hb
            obtain ⟨u0, a', c', u1, hLL⟩ := hAt.below BWr.out hbl.out
            have HLL := Lib.hid (RdL.anew hAt BWr.out hbl.out u1)
            have h7 := hLL.1
            clear hLL hAt
            have hlt' : (m : Int) < (E.length : Int) := by omega
            have EG := Lib.hid (ed_good (HG.out.2.2 m hlt))
            have SG : Hid (∀ i, i < l.length → (fd l i).nm.size ≤ 16 ∧ Cod (st (ed E m).ss i)) := fun i hi => ⟨(HG.out.1.2 i hi).nm, set_cod HEG.out hlt hi⟩
            obtain ⟨W4, hW4⟩ : ∃ W4, wr.alloc (.cells #[.string (ed E m).nm, .slice a' (ed E m).ss.length c'] 46) = W4 := ⟨_, rfl⟩
            have B4 : Hid (Below wr.heap.size wr W4 ∧ W4.heap.size = wr.heap.size + 1 ∧ W4.cell? ⟨wr.heap.size, 0, none⟩ = some (.string (ed E m).nm) ∧ W4.cell? ⟨wr.heap.size, 1, none⟩ = some (.slice a' (ed E m).ss.length c')) := by
              unfold Hid
              rw [← hW4]
              exact ⟨bel_one _ _, by simp, by rw [World.cell?_alloc_at _ _ _ _ rfl]; rfl, by rw [World.cell?_alloc_at _ _ _ _ rfl]; rfl⟩
            have P4 : Hid (W4.cell? ⟨w.heap.size, 0, none⟩ = some (.slice a l.length c) ∧ w.heap.size < W4.heap.size) := ⟨(B4.out.1.cell (p := ⟨w.heap.size, 0, none⟩) (by have := X2.out.2.2; have := hQ.out.2.size; show w.heap.size < _; omega)).trans ((hQ.out.2.cell (p := ⟨w.heap.size, 0, none⟩) X2.out.2.2).trans X2.out.1), by have := X2.out.2.2; have := hQ.out.2.size; have := B4.out.2.1; omega⟩
            have BW4 : Hid (Below w.heap.size w W4) := BWr.out.trans (B4.out.1.mono BWr.out.size)
            have S4 : Hid (Below W2.heap.size W2 W4) := hQ.out.2.trans (B4.out.1.mono hQ.out.2.size)
            obtain ⟨g4, hg4⟩ : ∃ g, wr.heap.size = g := ⟨_, rfl⟩
            have G4 : Hid (g4 < W4.heap.size ∧ W4.cell? ⟨g4, 0, none⟩ = some (.string (ed E m).nm)) := by
              refine ⟨by have := B4.out.2.1; omega, by rw [← hg4]; exact B4.out.2.2.1⟩
            have v1 := B4.out.2.2.2
            rw [hg4] at v1
            obtain ⟨i0, hi, hz0, hz1x, hz2x⟩ := info_parts infoS
            go_wp2
            clear hW4 v1 u0 u1 hQ
            go_loopw [10, 52] (fun o i wr => ∃ q : Nat, q ≤ (ed E m).ss.length ∧ i = .int .i64 q ∧ Hid (wr.ownsRow W4.heap.size 9 1 o (pTs l (ed E m).ss q).length ((pTs l (ed E m).ss q).map ceT) ∧ Below W4.heap.size W4 wr)) (fun _ i _ => (ed E m).ss.length - (intOf i).toNat)
            case atStart => exact ⟨0, Nat.zero_le _, rfl, World.ownsRow_nil _ _ _ _, Below.refl _ _⟩
            case round =>
              obtain ⟨q, hq, rfl, hR⟩ := hrel
              have RW : Hid (Below w.heap.size w wr) := BW4.out.trans (hR.out.2.mono BW4.out.size)
              have x0 := (hR.out.2.cell (p := ⟨w.heap.size, 0, none⟩) P4.out.2).trans P4.out.1
              by_cases hqt : q < (ed E m).ss.length
              · have hql : q < l.length := by have := EG.out.2.1; omega
                have X0 := Lib.hid x0
                obtain ⟨b2, off2, a4, c4, rfl, u4, hst⟩ := (HLL.out.below RW.out).at_ hqt
                obtain ⟨b3, off3, rfl, f0, ⟨a5, c5, f1, hc5⟩, f2⟩ := (HL.out.below RW.out).at_ hql
                have HST := Lib.hid hst
                have h8 := hst.1
                have h5 := hc5.1
                clear hst hc5
                have F0 := Lib.hid f0
                have hb3 : Hid (b3 < wr.heap.size) := by
                  obtain ⟨b', off', e, hb, _⟩ := (HL.out.below RW.out).2 (by omega)
                  injection e with e; injection e with e1 e2; subst e1; exact hb
                have hb3w : Hid (b3 < w.heap.size) := by
                  obtain ⟨b', off', e, hb, _⟩ := HL.out.2 (by omega)
                  injection e with e; injection e with e1 e2; subst e1; exact hb
                have hqt' : (q : Int) < ((ed E m).ss.length : Int) := by omega
                have hql' : (q : Int) < (l.length : Int) := by omega
                have GD := Lib.hid (SG.out q hql)
                by_cases hcd : (st (ed E m).ss q).length < (fd l q).cs.length
                · have hI : ((st (ed E m).ss q).length : Int) < ((fd l q).cs.length : Int) := by omega
                  have hps : Hid (pTs l (ed E m).ss (q + 1) = pTs l (ed E m).ss q ++ [pT l (ed E m).ss q]) := by unfold Hid; show (if _ then _ else _) = _; rw [if_pos hcd]
                  have HSS : Hid (∀ V, Below wr.heap.size wr V → SR w.heap.size (some ⟨b3, off3, none⟩) l.length c b3 (off3 + q * 3) (fd l q).nm V) := fun V hb =>
                    ⟨(hb.cell (p := ⟨w.heap.size, 0, none⟩) (by have := P4.out.2; have := hR.out.2.size; show w.heap.size < _; omega)).trans X0.out, (hb.cell (p := ⟨b3, off3 + q * 3, none⟩) hb3.out).trans F0.out⟩
                  go_wp2_with fail
                  clear hcd hI u4 f0 f1 f2 x0
                  have hnm := GD.out.1
                  obtain ⟨z1, hz1⟩ : ∃ z : ByteArray, (⟨#[32]⟩ : ByteArray) ++ (fd l q).nm = z := ⟨_, rfl⟩
                  have s1 : z1.size = 1 + (fd l q).nm.size := by rw [← hz1, ByteArray.size_append]; rfl
                  obtain ⟨z2, hz2⟩ : ∃ z : ByteArray, z1 ++ (⟨#[32]⟩ : ByteArray) = z := ⟨_, rfl⟩
                  have s2 : z2.size = z1.size + 1 := by rw [← hz2, ByteArray.size_append]; rfl
                  have HZ := Lib.hid (And.intro hz1 hz2)
                  have HS2 : Hid (z2.size ≤ 18) := by unfold Hid; omega
                  have q1 : ¬ 9223372036854775807 < 1 + (fd l q).nm.size := by omega
                  have q2 : ¬ 9223372036854775807 < z1.size + 1 := by omega
                  clear s1 s2 hnm
                  refine wp_region_noPanic ?_
                  refine wp_region_held_drew (S := SR w.heap.size (some ⟨b3, off3, none⟩) l.length c b3 (off3 + q * 3) (fd l q).nm) (by kernel_rfl) (HSS.out _ (Below.refl _ _).drew) (fun hS => ?_)
                  obtain ⟨WD, hWD⟩ : ∃ W, wr.drew = W := ⟨_, rfl⟩
                  have D0 : Hid (Below wr.heap.size wr WD) := by unfold Hid; rw [← hWD]; exact (Below.refl _ _).drew
                  rw [hWD] at hS ⊢
                  clear hWD
                  have BWD : Hid (Below w.heap.size w WD) := RW.out.trans (D0.out.mono RW.out.size)
                  refine wpAnyH_take (i := 0) (v := ?v0z38) rfl (by kernel_rfl) (by kernel_rfl) (by kernel_rfl) (fun _ _ _ h => h) (Or.inl ⟨by rfl, ?hy0z38⟩) (by assumption) ?rest0z38
                  case hy0z38 =>
                    intro w hSw
                    dsimp only [SR] at hSw
                    go_simp
                    try with_reducible rfl
                  simp only [Act.put, List.getElem_toArray, List.getElem_cons_succ, List.getElem_cons_zero, List.setIfInBounds_toArray, List.set_cons_zero, List.set_cons_succ]
                  refine wpAnyH_take (i := 1) (v := ?v1z39) rfl (by kernel_rfl) (by kernel_rfl) (by kernel_rfl) (fun _ _ _ h => h) (Or.inl ⟨by rfl, ?hy1z39⟩) (by assumption) ?rest1z39
                  case hy1z39 =>
                    intro w hSw
                    dsimp only [SR] at hSw
                    go_simp
                    try with_reducible rfl
                  simp only [Act.put, List.getElem_toArray, List.getElem_cons_succ, List.getElem_cons_zero, List.setIfInBounds_toArray, List.set_cons_zero, List.set_cons_succ]
                  refine wpAnyH_take (i := 2) (v := ?v2z40) rfl (by kernel_rfl) (by kernel_rfl) (by kernel_rfl) (fun _ _ _ h => h) (Or.inl ⟨by rfl, ?hy2z40⟩) (by assumption) ?rest2z40
                  case hy2z40 =>
                    intro w hSw
                    dsimp only [SR] at hSw
                    go_simp
                    try with_reducible rfl
                  simp only [Act.put, List.getElem_toArray, List.getElem_cons_succ, List.getElem_cons_zero, List.setIfInBounds_toArray, List.set_cons_zero, List.set_cons_succ]
                  refine wpAnyH_take (i := 3) (v := ?v3z41) rfl (by kernel_rfl) (by kernel_rfl) (by kernel_rfl) (fun _ _ _ h => h) (Or.inl ⟨by rfl, ?hy3z41⟩) (by assumption) ?rest3z41
                  case hy3z41 =>
                    intro w hSw
                    dsimp only [SR] at hSw
                    go_simp
                    try with_reducible rfl
                  simp only [Act.put, List.getElem_toArray, List.getElem_cons_succ, List.getElem_cons_zero, List.setIfInBounds_toArray, List.set_cons_zero, List.set_cons_succ]
                  refine wpAnyH_take (i := 4) (v := ?v4z42) rfl (by kernel_rfl) (by kernel_rfl) (by kernel_rfl) (fun _ _ _ h => h) (Or.inl ⟨by rfl, ?hy4z42⟩) (by assumption) ?rest4z42
                  case hy4z42 =>
                    intro w hSw
                    dsimp only [SR] at hSw
                    go_simp
                    try with_reducible rfl
                  simp only [Act.put, List.getElem_toArray, List.getElem_cons_succ, List.getElem_cons_zero, List.setIfInBounds_toArray, List.set_cons_zero, List.set_cons_succ]
                  refine wpAnyH_take (i := 5) (v := ?v5z43) rfl (by kernel_rfl) (by kernel_rfl) (by kernel_rfl) (fun _ _ _ h => h) (Or.inl ⟨by rfl, ?hy5z43⟩) (by assumption) ?rest5z43
                  case hy5z43 =>
                    intro w hSw
                    dsimp only [SR] at hSw
                    go_simp
                    try with_reducible rfl
                  simp only [Act.put, List.getElem_toArray, List.getElem_cons_succ, List.getElem_cons_zero, List.setIfInBounds_toArray, List.set_cons_zero, List.set_cons_succ]
                  refine wpAnyH_take (i := 6) (v := ?v6z44) rfl (by kernel_rfl) (by kernel_rfl) (by kernel_rfl) (fun _ _ _ h => h) (Or.inl ⟨by rfl, ?hy6z44⟩) (by assumption) ?rest6z44
                  case hy6z44 =>
                    intro w hSw
                    dsimp only [SR] at hSw
                    go_simp
                    try with_reducible rfl
                  simp only [Act.put, List.getElem_toArray, List.getElem_cons_succ, List.getElem_cons_zero, List.setIfInBounds_toArray, List.set_cons_zero, List.set_cons_succ]
                  refine wpAnyH_take (i := 7) (v := ?v7z45) rfl (by kernel_rfl) (by kernel_rfl) (by kernel_rfl) (fun _ _ _ h => h) (Or.inl ⟨by rfl, ?hy7z45⟩) (by assumption) ?rest7z45
                  case hy7z45 =>
                    intro w hSw
                    dsimp only [SR] at hSw
                    go_simp
                    try with_reducible rfl
                  simp only [Act.put, List.getElem_toArray, List.getElem_cons_succ, List.getElem_cons_zero, List.setIfInBounds_toArray, List.set_cons_zero, List.set_cons_succ]
                  refine wpAnyH_take (i := 8) (v := ?v8z46) rfl (by kernel_rfl) (by kernel_rfl) (by kernel_rfl) (fun _ _ _ h => h) (Or.inl ⟨by rfl, ?hy8z46⟩) (by assumption) ?rest8z46
                  case hy8z46 =>
                    intro w hSw
                    dsimp only [SR] at hSw
                    go_simp
                    try with_reducible rfl
                  simp only [Act.put, List.getElem_toArray, List.getElem_cons_succ, List.getElem_cons_zero, List.setIfInBounds_toArray, List.set_cons_zero, List.set_cons_succ]
                  refine wpAnyH_take (i := 9) (v := ?v9z47) rfl (by kernel_rfl) (by kernel_rfl) (by kernel_rfl) (fun _ _ _ h => h) (Or.inl ⟨by rfl, ?hy9z47⟩) (by assumption) ?rest9z47
                  case hy9z47 =>
                    intro w hSw
                    dsimp only [SR] at hSw
                    go_simp
                    try with_reducible rfl
                  simp only [Act.put, List.getElem_toArray, List.getElem_cons_succ, List.getElem_cons_zero, List.setIfInBounds_toArray, List.set_cons_zero, List.set_cons_succ]
                  refine wpAnyH_ready (rs := [10]) (by kernel_rfl) (by simp) ?_
                  refine AllReadyH.cons rfl (fun K hK => ?_) AllReadyH.nil
                  go_simp
                  (refine (list_c a4 c4 (st (ed E m).ss q) WD (HST.out.below D0.out) GD.out.2 (HW.out.below BWD.out)).mono ?_)
                  rintro e V1 ⟨t1, rfl, _, ht1, bc⟩
                  try go_simp
                  have D1 : Hid (Below wr.heap.size wr V1) := D0.out.trans (bc.out.mono D0.out.size)
                  have TS1 : Hid (t1.size ≤ 500) := by have := GD.out.2.size; unfold Hid; rw [ht1.out, bs_size]; exact this
                  have hT := HSS.out V1 D1.out
                  refine hK.out _ _ hT (fun _ => ?_)
                  clear hK K hS bc
                  have hS := hT
                  clear hT
                  try simp only [Act.put, List.setIfInBounds_toArray, List.set_cons_zero, List.set_cons_succ]
                  have w1 := TS1.out
                  have w2 := HS2.out
                  obtain ⟨z3, hz3⟩ : ∃ z : ByteArray, z2 ++ t1 = z := ⟨_, rfl⟩
                  have HZ3 := Lib.hid hz3
                  have q3 : ¬ 9223372036854775807 < z2.size + t1.size := by omega
                  clear w1 w2
                  refine wpAnyH_take (i := 11) (v := ?v11z48) rfl (by kernel_rfl) (by kernel_rfl) (by kernel_rfl) (fun _ _ _ h => h) (Or.inl ⟨by rfl, ?hy11z48⟩) (by assumption) ?rest11z48
                  case hy11z48 =>
                    intro w hSw
                    dsimp only [SR] at hSw
                    go_simp
                    try with_reducible rfl
                  simp only [Act.put, List.getElem_toArray, List.getElem_cons_succ, List.getElem_cons_zero, List.setIfInBounds_toArray, List.set_cons_zero, List.set_cons_succ]
                  refine wpAnyH_ready (rs := [12]) (by kernel_rfl) (by simp) ?_
                  refine AllReadyH.cons rfl (fun K hK => ?_) AllReadyH.nil
                  go_simp
                  have hT := HSS.out _ (D1.out.trans ((bel_one V1 (.cells #[.string z3] 9)).mono D1.out.size))
                  refine hK.out _ _ hT (fun _ => ?_)
                  clear hK K hS
                  have hS := hT
                  clear hT
                  try simp only [Act.put, List.setIfInBounds_toArray, List.set_cons_zero, List.set_cons_succ]
                  have R1 := own_keep hR.out.1 D1.out
                  have BV1 : Hid (Below W4.heap.size W4 V1) := hR.out.2.trans (D1.out.mono hR.out.2.size)
                  have hpl : (pTs l (ed E m).ss q).length ≤ 12 := Nat.le_trans (pTs_len l (ed E m).ss q) (Nat.le_trans (Nat.le_of_lt hql) HG.out.1.1)
                  refine wpAnyH_ready (rs := [13]) (by kernel_rfl) (by simp) ?_
                  refine AllReadyH.cons rfl (fun K hK => ?_) AllReadyH.nil
                  have hx1 : ∀ u ∈ [Value.string z3], u.oneCell' = true := by intro u hu; simp at hu; subst hu; rfl
                  have hx2 : (pTs l (ed E m).ss q).length + 1 ≤ maxLen := by unfold maxLen; omega
                  have hx3 : ((pTs l (ed E m).ss q).length + 1) * 16 ≤ 140737488355328 := by omega
                  have hx4 : W4.heap.size ≤ (V1.alloc (.cells #[.string z3] 9)).heap.size := by have := BV1.out.size; simp; omega
                  first
                    | refine wp_append_lies _ _ _ 50 (by rfl) W4.heap.size 9 i0 (.string ByteArray.empty) 1 16 Tryd.underlying50 hi hz0 hz1x hz2x rfl (by decide) _ _ _ (by rfl) (R1.alloc _) ⟨V1.heap.size, 0, none⟩ 1 1 [.string z3] (by rfl) rfl (cell_one_new _ _ _) hx1 (by decide) hx2 hx3 hx4 _ rfl ?_
                    | refine step_append_lies _ rfl _ _ 50 (by rfl) W4.heap.size 9 i0 (.string ByteArray.empty) 1 16 Tryd.underlying50 hi hz0 hz1x hz2x rfl (by decide) _ _ _ (by rfl) (R1.alloc _) ⟨V1.heap.size, 0, none⟩ 1 1 [.string z3] (by rfl) rfl (cell_one_new _ _ _) hx1 (by decide) hx2 hx3 hx4 _ rfl ?_
                  intro g' cap' w4 hown' hgrow _ _
                  have G5 : Hid (Below W4.heap.size W4 w4) := (BV1.out.trans ((bel_one V1 _).mono BV1.out.size)).grown hgrow (by have := BV1.out.size; simp; omega) (fun g hg => (hR.out.1.lt g hg).1)
                  have hT : SR w.heap.size (some ⟨b3, off3, none⟩) l.length c b3 (off3 + q * 3) (fd l q).nm w4 :=
                    ⟨(G5.out.cell (p := ⟨w.heap.size, 0, none⟩) P4.out.2).trans P4.out.1, (World.cell?_of_block (hgrow.block b3 (by have := hb3.out; have := D1.out.size; simp; omega) (fun e => by have := (hR.out.1.lt _ e.symm).1; have := hb3w.out; have := P4.out.2; omega))).trans hS.2⟩
                  refine hK.out _ _ hT (fun _ => ?_)
                  have NX : Hid (w4.ownsRow W4.heap.size 9 1 (.slice (some ⟨g', 0, none⟩) ((pTs l (ed E m).ss q).length + 1) cap') (pTs l (ed E m).ss (q + 1)).length ((pTs l (ed E m).ss (q + 1)).map ceT) ∧ Below W4.heap.size W4 w4) := by
                    refine ⟨?_, G5.out⟩
                    have e : z3 = bs (pT l (ed E m).ss q) := by
                      rw [← HZ3.out, ← HZ.out.2, ← HZ.out.1, ht1.out]
                      unfold pT
                      apply ByteArray.ext
                      simp [ByteArray.data_append, bs]
                    rw [hps.out, List.length_append, List.map_append]
                    rw [e] at hown'
                    exact hown'
                  clear hK K hS hT hown' hgrow hx1 hx2 hx3 hx4
                  try simp only [Act.put, List.setIfInBounds_toArray, List.set_cons_zero, List.set_cons_succ]
                  refine wpAnyH_take (i := 14) (v := ?v14z49) rfl (by kernel_rfl) (by kernel_rfl) (by kernel_rfl) (fun _ _ _ h => h) (Or.inl ⟨by rfl, ?hy14z49⟩) (by assumption) ?rest14z49
                  case hy14z49 =>
                    intro w hSw
                    dsimp only [SR] at hSw
                    go_simp
                    try with_reducible rfl
                  simp only [Act.put, List.getElem_toArray, List.getElem_cons_succ, List.getElem_cons_zero, List.setIfInBounds_toArray, List.set_cons_zero, List.set_cons_succ]
                  refine wpAnyH_done (by kernel_rfl) ?_ _
                  refine NoPanic.normal ?_
                  clear q1 q2 q3 hz1 hz2 hz3
                  go_wp2
                  go_roundw
                  case rel => exact ⟨q + 1, by omega, by go_num, NX.out⟩
                  case measure => simp [intOf]; omega
                · have hI : ¬ ((st (ed E m).ss q).length : Int) < ((fd l q).cs.length : Int) := by omega
                  have hps : Hid (pTs l (ed E m).ss (q + 1) = pTs l (ed E m).ss q) := by unfold Hid; show (if _ then _ else _) = _; rw [if_neg hcd]
                  have NX : Hid (wr.ownsRow W4.heap.size 9 1 u10 (pTs l (ed E m).ss (q + 1)).length ((pTs l (ed E m).ss (q + 1)).map ceT) ∧ Below W4.heap.size W4 wr) :=
                    ⟨by rw [hps.out]; exact hR.out.1, hR.out.2⟩
                  clear hcd
                  go_wp2
                  go_roundw
                  case rel => exact ⟨q + 1, by omega, by go_num, NX.out⟩
                  case measure => simp [intOf]; omega
              · have hqe : q = (ed E m).ss.length := by omega
                subst hqe
                clear hqt x0
                have hlq : (ed E m).ss.length = l.length := EG.out.2.1
                have HR1 : Hid (wr.ownsRow W4.heap.size 9 1 u10 (pTs l (ed E m).ss l.length).length ((pTs l (ed E m).ss l.length).map ceT)) := by
                  have := hR.out.1
                  rw [hlq] at this; exact this
                have HQS : Hid (∀ V, Below wr.heap.size wr V → SQ g4 (ed E m).nm V) := fun V hb => (hb.cell (p := ⟨g4, 0, none⟩) (by have := G4.out.1; have := hR.out.2.size; show g4 < _; omega)).trans ((hR.out.2.cell (p := ⟨g4, 0, none⟩) G4.out.1).trans G4.out.2)
                have HB4 := Lib.hid hR.out.2
                clear hR hlq
                go_wp2_with fail
                have hnm := EG.out.1
                obtain ⟨z1, hz1⟩ : ∃ z : ByteArray, (⟨#[101, 100, 105, 116, 32]⟩ : ByteArray) ++ (ed E m).nm = z := ⟨_, rfl⟩
                have s1 : z1.size = 5 + (ed E m).nm.size := by rw [← hz1, ByteArray.size_append]; rfl
                obtain ⟨z2, hz2⟩ : ∃ z : ByteArray, z1 ++ (⟨#[58]⟩ : ByteArray) = z := ⟨_, rfl⟩
                have s2 : z2.size = z1.size + 1 := by rw [← hz2, ByteArray.size_append]; rfl
                have HZ := Lib.hid (And.intro hz1 hz2)
                have HS2 : Hid (z2.size ≤ 22) := by unfold Hid; omega
                have q1 : ¬ 9223372036854775807 < 5 + (ed E m).nm.size := by omega
                have q2 : ¬ 9223372036854775807 < z1.size + 1 := by omega
                clear s1 s2 hnm
                refine wp_region_noPanic ?_
                refine wp_region_held_drew (S := SQ g4 (ed E m).nm) (by kernel_rfl) (HQS.out _ (Below.refl _ _).drew) (fun hS => ?_)
                obtain ⟨WD, hWD⟩ : ∃ W, wr.drew = W := ⟨_, rfl⟩
                have D0 : Hid (Below wr.heap.size wr WD) := by unfold Hid; rw [← hWD]; exact (Below.refl _ _).drew
                rw [hWD] at hS ⊢
                clear hWD
                refine wpAnyH_take (i := 0) (v := ?v0z50) rfl (by kernel_rfl) (by kernel_rfl) (by kernel_rfl) (fun _ _ _ h => h) (Or.inl ⟨by rfl, ?hy0z50⟩) (by assumption) ?rest0z50
                case hy0z50 =>
                  intro w hSw
                  dsimp only [SQ] at hSw
                  go_simp
                  try with_reducible rfl
                simp only [Act.put, List.getElem_toArray, List.getElem_cons_succ, List.getElem_cons_zero, List.setIfInBounds_toArray, List.set_cons_zero, List.set_cons_succ]
                refine wpAnyH_take (i := 1) (v := ?v1z51) rfl (by kernel_rfl) (by kernel_rfl) (by kernel_rfl) (fun _ _ _ h => h) (Or.inl ⟨by rfl, ?hy1z51⟩) (by assumption) ?rest1z51
                case hy1z51 =>
                  intro w hSw
                  dsimp only [SQ] at hSw
                  go_simp
                  try with_reducible rfl
                simp only [Act.put, List.getElem_toArray, List.getElem_cons_succ, List.getElem_cons_zero, List.setIfInBounds_toArray, List.set_cons_zero, List.set_cons_succ]
                refine wpAnyH_take (i := 2) (v := ?v2z52) rfl (by kernel_rfl) (by kernel_rfl) (by kernel_rfl) (fun _ _ _ h => h) (Or.inl ⟨by rfl, ?hy2z52⟩) (by assumption) ?rest2z52
                case hy2z52 =>
                  intro w hSw
                  dsimp only [SQ] at hSw
                  go_simp
                  try with_reducible rfl
                simp only [Act.put, List.getElem_toArray, List.getElem_cons_succ, List.getElem_cons_zero, List.setIfInBounds_toArray, List.set_cons_zero, List.set_cons_succ]
                refine wpAnyH_take (i := 3) (v := ?v3z53) rfl (by kernel_rfl) (by kernel_rfl) (by kernel_rfl) (fun _ _ _ h => h) (Or.inl ⟨by rfl, ?hy3z53⟩) (by assumption) ?rest3z53
                case hy3z53 =>
                  intro w hSw
                  dsimp only [SQ] at hSw
                  go_simp
                  try with_reducible rfl
                simp only [Act.put, List.getElem_toArray, List.getElem_cons_succ, List.getElem_cons_zero, List.setIfInBounds_toArray, List.set_cons_zero, List.set_cons_succ]
                refine wpAnyH_take (i := 4) (v := ?v4z54) rfl (by kernel_rfl) (by kernel_rfl) (by kernel_rfl) (fun _ _ _ h => h) (Or.inl ⟨by rfl, ?hy4z54⟩) (by assumption) ?rest4z54
                case hy4z54 =>
                  intro w hSw
                  dsimp only [SQ] at hSw
                  go_simp
                  try with_reducible rfl
                simp only [Act.put, List.getElem_toArray, List.getElem_cons_succ, List.getElem_cons_zero, List.setIfInBounds_toArray, List.set_cons_zero, List.set_cons_succ]
                refine wpAnyH_take (i := 5) (v := ?v5z55) rfl (by kernel_rfl) (by kernel_rfl) (by kernel_rfl) (fun _ _ _ h => h) (Or.inl ⟨by rfl, ?hy5z55⟩) (by assumption) ?rest5z55
                case hy5z55 =>
                  intro w hSw
                  dsimp only [SQ] at hSw
                  go_simp
                  try with_reducible rfl
                simp only [Act.put, List.getElem_toArray, List.getElem_cons_succ, List.getElem_cons_zero, List.setIfInBounds_toArray, List.set_cons_zero, List.set_cons_succ]
                refine wpAnyH_ready (rs := [6]) (by kernel_rfl) (by simp) ?_
                refine AllReadyH.cons rfl (fun K hK => ?_) AllReadyH.nil
                go_simp
                (refine (join2_c u10 W4.heap.size (pTs l (ed E m).ss l.length) WD (pTs_each SG.out) (Nat.le_trans (pTs_len _ _ _) HG.out.1.1) (own_keep HR1.out D0.out)).mono ?_)
                rintro e V1 ⟨t1, rfl, _, ht1, bc⟩
                try go_simp
                have D1 : Hid (Below wr.heap.size wr V1) := D0.out.trans (bc.out.mono D0.out.size)
                have TS1 : Hid (t1.size ≤ 7212) := by have := sT_le SG.out HG.out.1.1; unfold Hid; rw [ht1.out, bs_size]; exact this
                have hT := HQS.out V1 D1.out
                refine hK.out _ _ hT (fun _ => ?_)
                clear hK K hS bc
                have hS := hT
                clear hT
                try simp only [Act.put, List.setIfInBounds_toArray, List.set_cons_zero, List.set_cons_succ]
                have w1 := TS1.out
                have w2 := HS2.out
                have w3 := SVS.out.2
                obtain ⟨z3, hz3⟩ : ∃ z : ByteArray, z2 ++ t1 = z := ⟨_, rfl⟩
                have s3 : z3.size = z2.size + t1.size := by rw [← hz3, ByteArray.size_append]
                obtain ⟨z4, hz4⟩ : ∃ z : ByteArray, z3 ++ (⟨#[10]⟩ : ByteArray) = z := ⟨_, rfl⟩
                have s4 : z4.size = z3.size + 1 := by rw [← hz4, ByteArray.size_append]; rfl
                obtain ⟨z5, hz5⟩ : ∃ z : ByteArray, sw ++ z4 = z := ⟨_, rfl⟩
                have HZ2 := Lib.hid (And.intro hz3 (And.intro hz4 hz5))
                have q3 : ¬ 9223372036854775807 < z2.size + t1.size := by omega
                have q4 : ¬ 9223372036854775807 < z3.size + 1 := by omega
                have q5 : ¬ 9223372036854775807 < sw.size + z4.size := by omega
                clear s3 s4 w1 w2 w3
                refine wpAnyH_take (i := 7) (v := ?v7z56) rfl (by kernel_rfl) (by kernel_rfl) (by kernel_rfl) (fun _ _ _ h => h) (Or.inl ⟨by rfl, ?hy7z56⟩) (by assumption) ?rest7z56
                case hy7z56 =>
                  intro w hSw
                  dsimp only [SQ] at hSw
                  go_simp
                  try with_reducible rfl
                simp only [Act.put, List.getElem_toArray, List.getElem_cons_succ, List.getElem_cons_zero, List.setIfInBounds_toArray, List.set_cons_zero, List.set_cons_succ]
                refine wpAnyH_take (i := 8) (v := ?v8z57) rfl (by kernel_rfl) (by kernel_rfl) (by kernel_rfl) (fun _ _ _ h => h) (Or.inl ⟨by rfl, ?hy8z57⟩) (by assumption) ?rest8z57
                case hy8z57 =>
                  intro w hSw
                  dsimp only [SQ] at hSw
                  go_simp
                  try with_reducible rfl
                simp only [Act.put, List.getElem_toArray, List.getElem_cons_succ, List.getElem_cons_zero, List.setIfInBounds_toArray, List.set_cons_zero, List.set_cons_succ]
                refine wpAnyH_take (i := 9) (v := ?v9z58) rfl (by kernel_rfl) (by kernel_rfl) (by kernel_rfl) (fun _ _ _ h => h) (Or.inl ⟨by rfl, ?hy9z58⟩) (by assumption) ?rest9z58
                case hy9z58 =>
                  intro w hSw
                  dsimp only [SQ] at hSw
                  go_simp
                  try with_reducible rfl
                simp only [Act.put, List.getElem_toArray, List.getElem_cons_succ, List.getElem_cons_zero, List.setIfInBounds_toArray, List.set_cons_zero, List.set_cons_succ]
                refine wpAnyH_take (i := 10) (v := ?v10z59) rfl (by kernel_rfl) (by kernel_rfl) (by kernel_rfl) (fun _ _ _ h => h) (Or.inl ⟨by rfl, ?hy10z59⟩) (by assumption) ?rest10z59
                case hy10z59 =>
                  intro w hSw
                  dsimp only [SQ] at hSw
                  go_simp
                  try with_reducible rfl
                simp only [Act.put, List.getElem_toArray, List.getElem_cons_succ, List.getElem_cons_zero, List.setIfInBounds_toArray, List.set_cons_zero, List.set_cons_succ]
                have NX : Hid (z5 = bs (fTs l l.length ++ eTs l E (m + 1)) ∧ Below W2.heap.size W2 V1) := by
                  refine ⟨?_, S4.out.trans ((HB4.out.trans (D1.out.mono HB4.out.size)).mono S4.out.size)⟩
                  rw [← HZ2.out.2.2, ← HZ2.out.2.1, ← HZ2.out.1, ← HZ.out.2, ← HZ.out.1, ht1.out, SVS.out.1]
                  show _ = bs (fTs l l.length ++ (eTs l E m ++ eT l (ed E m)))
                  unfold eT sT
                  apply ByteArray.ext
                  simp [ByteArray.data_append, bs]
                refine wpAnyH_done (by kernel_rfl) ?_ _
                refine NoPanic.normal ?_
                clear q1 q2 q3 q4 q5 hz1 hz2 hz3 hz4 hz5
                go_wp2
                go_roundw
                case rel => exact ⟨m + 1, z5, by omega, by go_num, rfl, NX.out⟩
                case measure => simp [intOf]; omega
          · obtain rfl : m = E.length := by omega
            clear hlt
            have HPT : Hid (sw = bs (planT l E)) := SVS.out.1
            have HTX : Hid (textS l E = if 60000 < (planT l E).length then ([], 2) else (planT l E, 0)) := by unfold Hid textS; rw [if_neg (by simpa using HEG.out)]
            have HSZ : sw.size = (planT l E).length := by rw [HPT.out, bs_size]
            have h6 := SVS.out.2
            clear hQ
            by_cases hbig : 60000 < sw.size
            · have RS : Hid (textS l E = ([], 2)) := by unfold Hid; rw [HTX.out, if_pos (by omega)]
              have hbig' : (60000 : Int) < (sw.size : Int) := by omega
              clear hbig HSZ
              go_wp2
              go_ret2
              exact ⟨bs [], by rw [RS.out]; rfl, by rw [RS.out], BWr.out⟩
            · have RS : Hid (textS l E = (planT l E, 0)) := by unfold Hid; rw [HTX.out, if_neg (by omega)]
              have hbig' : ¬ (60000 : Int) < (sw.size : Int) := by omega
              clear hbig HSZ
              go_wp2
              go_ret2
              exact ⟨sw, by rw [RS.out]; rfl, by rw [RS.out]; exact HPT.out, BWr.out⟩
  · have RS : Hid (textS l E = ([], planS l E)) := by unfold Hid textS; rw [if_pos h1]
    have hc' : (planS l E == 0) = false := by rw [beq_eq_false_iff_ne]; exact h1
    clear h1
    go_enter Tryd.func5, Tryd.ntmps5
    go_wp2_with fail
    refine HC.out.mono ?_
    rintro e W2 ⟨rfl, b2⟩
    have BZ := Lib.hid (B1.out.1.trans (b2.mono B1.out.1.size))
    clear b2
    go_wp2
    go_ret2
    exact ⟨bs [], by rw [RS.out]; rfl, by rw [RS.out], BZ.out⟩
end Go.Proofs.YtpoaikbedcfgaaaDoor
