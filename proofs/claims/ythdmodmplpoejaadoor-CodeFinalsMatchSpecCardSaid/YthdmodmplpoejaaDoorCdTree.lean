/-
  Package code: the methods of a frame.
-/
import Derived.Test.YthdmodmplpoejaaDoorCdBase
namespace Go.Proofs.YthdmodmplpoejaaDoor
open Go.RowKit Go.WideMaps Go.Maps

/-- A row of 1000 numbers. -/
def Arr (w : World) (b : Nat) (g : Nat → Nat) : Prop := b < w.heap.size ∧ ∀ j, j < 1000 → w.cell? ⟨b, j, none⟩ = some (.int .i64 (g j : Nat))
theorem Arr.below {w w' : World} {b : Nat} {g : Nat → Nat} (h : Arr w b g) (hb : Below w.heap.size w w') : Arr w' b g :=
  ⟨Nat.lt_of_lt_of_le h.1 hb.size, fun j hj => (hb.cell (p := ⟨b, j, none⟩) h.1).trans (h.2 j hj)⟩
abbrev row (b : Nat) : Value := .slice (some ⟨b, 0, none⟩) 1000 1000
abbrev fv (bp bl : Nat) : Value := .agg #[row bp, row bl]
def BoxF (w W1 : World) (bp bl : Nat) : Prop := Below w.heap.size w W1 ∧ W1.heap.size = w.heap.size + 1 ∧ W1.cell? ⟨w.heap.size, 0, none⟩ = some (row bp) ∧ W1.cell? ⟨w.heap.size, 1, none⟩ = some (row bl)
theorem box_f (w : World) (bp bl : Nat) : BoxF w (w.alloc (.cells #[row bp, row bl] 71)) bp bl :=
  ⟨bel_one _ _, by simp, by rw [World.cell?_alloc_at _ _ _ _ rfl]; rfl, by rw [World.cell?_alloc_at _ _ _ _ rfl]; rfl⟩
theorem climb_c (bp bl : Nat) (p : Nat → Nat) (c most : Nat) (w : World) (hp : Arr w bp p) (hc : c < 1000) (hin : ∀ j, j < 1000 → p j < 1000) (hm : most ≤ 1000) :
    Calls Tryd.prog 62 #[fv bp bl, .int .i64 c, .int .i64 most] w (IntP (clm p most c) w) := by
  obtain ⟨W1, hW1⟩ : ∃ W1, w.alloc (.cells #[row bp, row bl] 71) = W1 := ⟨_, rfl⟩
  have B1 : Hid (BoxF w W1 bp bl) := by unfold Hid; rw [← hW1]; exact box_f w bp bl
  have HP := Lib.hid (hp.below B1.out.1)
  have HI := Lib.hid hin
  have v0 := B1.out.2.2.1
  clear hp hin
  go_enter Tryd.func62, Tryd.ntmps62
  go_wp2
  go_loop [1, 7] (fun cv kv => ∃ c' k : Nat, c' < 1000 ∧ k ≤ most ∧ cv = .int .i64 c' ∧ kv = .int .i64 k ∧ Hid (k + clm p (most - k) c' = clm p most c)) (fun _ kv => most - (intOf kv).toNat)
  case atStart => exact ⟨c, 0, hc, Nat.zero_le _, rfl, rfl, by unfold Hid; simp⟩
  case round =>
    obtain ⟨c', k, hc', hk, rfl, rfl, hS⟩ := hrel
    by_cases h0 : c' = 0
    · have R : Hid (clm p most c = k) := by
        have := hS.out
        unfold Hid
        rw [← this, h0]
        match most - k with
        | 0 => rfl
        | n + 1 => rw [clm, if_pos rfl, Nat.add_zero]
      have h0' : (c' : Int) = 0 := by omega
      clear h0 hS
      go_wp2
      go_ret
      exact ⟨by rw [R.out]; rfl, B1.out.1⟩
    · have h0' : ((c' : Int) == 0) = false := by rw [beq_eq_false_iff_ne]; omega
      have h0'' : ((c' : Int) != 0) = true := by rw [bne, h0']; rfl
      by_cases hlt : k < most
      · have hlt' : (k : Int) < (most : Int) := by omega
        have u0 := HP.out.2 c' hc'
        have NX : Hid ((k + 1) + clm p (most - (k + 1)) (p c') = clm p most c) := by
          have := hS.out
          unfold Hid
          rw [← this, show most - k = (most - (k + 1)) + 1 by omega, clm, if_neg h0]; omega
        have hpc := HI.out c' hc'
        have hcb : (c' : Int) < 1000 := by omega
        have hk9 : (k : Int) ≤ 1000 := by omega
        clear h0 hS
        go_wp2
        go_round
        case rel => exact ⟨p c', k + 1, hpc, by omega, rfl, by go_num, NX.out⟩
        case measure => simp [intOf]; omega
      · have R : Hid (clm p most c = k) := by
          have := hS.out
          unfold Hid
          rw [← this, show most - k = 0 by omega]; rfl
        have hlt' : ¬ (k : Int) < (most : Int) := by omega
        clear h0 hS hlt
        go_wp2
        go_ret
        exact ⟨by rw [R.out]; rfl, B1.out.1⟩
theorem lifted_c (bp bl : Nat) (p lv : Nat → Nat) (H : Nat → Prop) (T : Tree p lv H) (c n : Nat) (w : World) (hp : Arr w bp p) (hl : Arr w bl lv) (hc : In H c) (h9 : ∀ c, H c → c ≤ 999) :
    Calls Tryd.prog 53 #[fv bp bl, .int .i64 c, .int .i64 n] w (IntP (it p (lv c - n) c) w) := by
  obtain ⟨W1, hW1⟩ : ∃ W1, w.alloc (.cells #[row bp, row bl] 71) = W1 := ⟨_, rfl⟩
  have B1 : Hid (BoxF w W1 bp bl) := by unfold Hid; rw [← hW1]; exact box_f w bp bl
  have HP := Lib.hid (hp.below B1.out.1)
  have HL := Lib.hid (hl.below B1.out.1)
  have HT : Hid (Tree p lv H ∧ ∀ c, In H c → c < 1000) := ⟨T, fun c h => by rcases h with rfl | h; omega; have := h9 c h; omega⟩
  have v0 := B1.out.2.2.1
  have v1 := B1.out.2.2.2
  clear hp hl T
  go_enter Tryd.func53, Tryd.ntmps53
  go_wp2
  go_loop [1] (fun cv => ∃ c' : Nat, cv = .int .i64 c' ∧ Hid (In H c' ∧ it p (lv c' - n) c' = it p (lv c - n) c)) (fun cv => lv (intOf cv).toNat)
  case atStart => exact ⟨c, rfl, hc, rfl⟩
  case round =>
    obtain ⟨c', rfl, hS⟩ := hrel
    have hc' := HT.out.2 c' hS.out.1
    have u0 := HP.out.2 c' hc'
    have u1 := HL.out.2 c' hc'
    have hcb : (c' : Int) < 1000 := by omega
    by_cases hlt : n < lv c'
    · have hlt' : (n : Int) < (lv c' : Int) := by omega
      have hv := HT.out.1.lvP hS.out.1
      have NX : Hid (In H (p c') ∧ it p (lv (p c') - n) (p c') = it p (lv c - n) c) := by
        refine ⟨HT.out.1.inP hS.out.1, ?_⟩
        rw [← hS.out.2, hv, show lv c' - n = (lv c' - 1 - n) + 1 by omega]; rfl
      have hm : Hid (lv (p c') < lv c') := by unfold Hid; omega
      clear hlt hv
      go_wp2
      go_round
      case rel => exact ⟨p c', rfl, NX.out⟩
      case measure => simp [intOf]; exact hm.out
    · have hlt' : ¬ (n : Int) < (lv c' : Int) := by omega
      have R : Hid (it p (lv c - n) c = c') := by
        unfold Hid; rw [← hS.out.2, show lv c' - n = 0 by omega]; rfl
      clear hlt
      go_wp2
      go_ret
      exact ⟨by rw [R.out]; rfl, B1.out.1⟩

/-- The code is one of the frame. -/
def hasB (lv : Nat → Nat) (c : Int) : Bool := decide (1 ≤ c) && (decide (c ≤ 999) && decide (0 < lv c.toNat))
set_option maxHeartbeats 1000000 in
theorem has_c (bp bl : Nat) (lv : Nat → Nat) (c : Int) (w : World) (hl : Arr w bl lv) :
    Calls Tryd.prog 65 #[fv bp bl, .int .i64 c] w (fun e w' => e = .returned (.bool (hasB lv c)) ∧ Below w.heap.size w w') := by
  obtain ⟨W1, hW1⟩ : ∃ W1, w.alloc (.cells #[row bp, row bl] 71) = W1 := ⟨_, rfl⟩
  have B1 : Hid (BoxF w W1 bp bl) := by unfold Hid; rw [← hW1]; exact box_f w bp bl
  have HL := Lib.hid (hl.below B1.out.1)
  have v1 := B1.out.2.2.2
  clear hl
  by_cases h1 : 1 ≤ c
  · by_cases h2 : c ≤ 999
    · obtain ⟨k, rfl⟩ : ∃ k : Nat, c = k := ⟨c.toNat, by omega⟩
      have u1 := HL.out.2 k (by omega)
      have hk : (k : Int) < 1000 := by omega
      have e : Hid (hasB lv k = decide (0 < lv k)) := by unfold Hid hasB; simp [h1, h2]
      go_enter Tryd.func65, Tryd.ntmps65
      go_wp2
      go_ret
      exact ⟨by rw [e.out]; rfl, B1.out.1⟩
    · have e : Hid (hasB lv c = false) := by unfold Hid hasB; simp [h2]
      have h2' : decide (c ≤ 999) = false := by rw [decide_eq_false_iff_not]; exact h2
      clear h2
      go_enter Tryd.func65, Tryd.ntmps65
      go_wp2
      go_ret
      exact ⟨by rw [e.out]; rfl, B1.out.1⟩
  · have e : Hid (hasB lv c = false) := by unfold Hid hasB; simp [h1]
    have h1' : decide (1 ≤ c) = false := by rw [decide_eq_false_iff_not]; exact h1
    clear h1
    go_enter Tryd.func65, Tryd.ntmps65
    go_wp2
    go_ret
    exact ⟨by rw [e.out]; rfl, B1.out.1⟩
def MtP (m d : Nat) (w : World) (e : Ending) (w' : World) : Prop := e = .returned (.tuple #[.int .i64 m, .int .i64 d]) ∧ Below w.heap.size w w'
set_option maxHeartbeats 2000000 in
set_option maxRecDepth 100000 in
theorem meeting_c (bp bl : Nat) (p lv : Nat → Nat) (H : Nat → Prop) (T : Tree p lv H) (a b : Nat) (w : World) (hp : Arr w bp p) (hl : Arr w bl lv) (ha : In H a) (hb : In H b) (h9 : ∀ c, H c → c ≤ 999 ∧ lv c ≤ 8) :
    Calls Tryd.prog 45 #[fv bp bl, .int .i64 a, .int .i64 b] w (MtP (mtF p lv (lv a + lv b) a b).1 (mtF p lv (lv a + lv b) a b).2 w) := by
  obtain ⟨W1, hW1⟩ : ∃ W1, w.alloc (.cells #[row bp, row bl] 71) = W1 := ⟨_, rfl⟩
  have B1 : Hid (BoxF w W1 bp bl) := by unfold Hid; rw [← hW1]; exact box_f w bp bl
  have HP := Lib.hid (hp.below B1.out.1)
  have HL := Lib.hid (hl.below B1.out.1)
  have HT : Hid (Tree p lv H ∧ ∀ c, In H c → c < 1000 ∧ lv c ≤ 8) := ⟨T, fun c h => by
    rcases h with rfl | h
    · exact ⟨by omega, by rw [T.zero]; omega⟩
    · have := h9 c h; omega⟩
  obtain ⟨M, hM⟩ : ∃ M, mtF p lv (lv a + lv b) a b = M := ⟨_, rfl⟩
  have HM := Lib.hid hM
  rw [hM]
  have hab : Hid (lv a + lv b ≤ 16) := by have := HT.out.2 a ha; have := HT.out.2 b hb; unfold Hid; omega
  have v0 := B1.out.2.2.1
  have v1 := B1.out.2.2.2
  clear hp hl T hM
  go_enter Tryd.func45, Tryd.ntmps45
  go_wp2
  go_loopw [1, 2, 8] (fun av bv kv wr => ∃ a' b' k : Nat, av = .int .i64 a' ∧ bv = .int .i64 b' ∧ kv = .int .i64 k ∧ Hid (∃ f, In H a' ∧ In H b' ∧ lv a' + lv b' ≤ f ∧ k + f ≤ 16 ∧ (mtF p lv f a' b').1 = M.1 ∧ k + (mtF p lv f a' b').2 = M.2) ∧ Hid (Below W1.heap.size W1 wr)) (fun av bv _ _ => lv (intOf av).toNat + lv (intOf bv).toNat)
  case atStart => exact ⟨a, b, 0, rfl, rfl, rfl, ⟨lv a + lv b, ha, hb, Nat.le_refl _, by have := hab.out; omega, by rw [HM.out], by rw [HM.out]; omega⟩, Below.refl _ _⟩
  case round =>
    obtain ⟨a', b', k, rfl, rfl, rfl, hS, hD⟩ := hrel
    have BD : Hid (Below w.heap.size w wr) := B1.out.1.trans (hD.out.mono B1.out.1.size)
    have v0 := (hD.out.cell (p := ⟨w.heap.size, 0, none⟩) (by have := B1.out.2.1; show w.heap.size < _; omega)).trans B1.out.2.2.1
    have v1 := (hD.out.cell (p := ⟨w.heap.size, 1, none⟩) (by have := B1.out.2.1; show w.heap.size < _; omega)).trans B1.out.2.2.2
    obtain ⟨f, i1, i2, hf, hk, m1, m2⟩ := hS.out
    have c1 := HT.out.2 a' i1
    have c2 := HT.out.2 b' i2
    have x1 : (a' : Int) < 1000 := by omega
    have x2 : (b' : Int) < 1000 := by omega
    have pa := (HP.out.below hD.out).2 a' c1.1
    have pb := (HP.out.below hD.out).2 b' c2.1
    have la := (HL.out.below hD.out).2 a' c1.1
    have lb := (HL.out.below hD.out).2 b' c2.1
    have qa := HT.out.1.lvP i1
    have qb := HT.out.1.lvP i2
    have za := HT.out.1.lv0 i1
    have zb := HT.out.1.lv0 i2
    by_cases he : a' = b'
    · subst he
      have R : Hid (M.1 = a' ∧ M.2 = k) := by
        match f with
        | 0 => exact ⟨m1.symm, by rw [← m2]; rfl⟩
        | f + 1 =>
          rw [mtF, if_pos rfl] at m1 m2
          exact ⟨m1.symm, by rw [← m2]; rfl⟩
      clear hS m1 m2 hf hk qa qb za zb c1 c2 i1 i2
      go_wp2
      go_ret2
      exact ⟨by rw [R.out.1, R.out.2]; rfl, BD.out⟩
    · have he' : ((a' : Int) == (b' : Int)) = false := by rw [beq_eq_false_iff_ne]; omega
      have he2 : ((a' : Int) != (b' : Int)) = true := by rw [bne, he']; rfl
      obtain ⟨f, rfl⟩ : ∃ g, f = g + 1 := ⟨f - 1, by
        by_cases h0 : lv a' = 0
        · by_cases h1 : lv b' = 0
          · exact absurd ((za.1 h0).trans (zb.1 h1).symm) he
          · omega
        · omega⟩
      rw [mtF, if_neg he] at m1 m2
      by_cases hlt : lv a' < lv b'
      · rw [if_pos hlt] at m1 m2
        have hlt' : (lv a' : Int) < (lv b' : Int) := by omega
        have NX : Hid (∃ f, In H (p b') ∧ In H a' ∧ lv (p b') + lv a' ≤ f ∧ (k + 1) + f ≤ 16 ∧ (mtF p lv f (p b') a').1 = M.1 ∧ (k + 1) + (mtF p lv f (p b') a').2 = M.2) :=
          ⟨f, HT.out.1.inP i2, i1, by omega, by omega, m1, by rw [← m2]; omega⟩
        have hm : Hid (lv (p b') + lv a' < lv a' + lv b') := by unfold Hid; omega
        have hk16 : (k : Int) ≤ 16 := by omega
        clear hS m1 m2 hf hk qa qb za zb c1 c2 i1 i2 hlt he
        go_wp2_with fail
        go_quiet (fail)
        have BN : Hid (Below W1.heap.size W1 (wr.drewN nq)) := below_drewN hD.out nq
        go_wp2
        go_roundw
        case rel => exact ⟨p b', a', k + 1, rfl, rfl, by go_num, NX.out, BN.out⟩
        case measure => simp [intOf]; have := hm.out; omega
      · rw [if_neg hlt] at m1 m2
        have hlt' : ¬ (lv a' : Int) < (lv b' : Int) := by omega
        have h0 : lv a' ≠ 0 := fun h0 => he ((za.1 h0).trans (zb.1 (by omega)).symm)
        have NX : Hid (∃ f, In H (p a') ∧ In H b' ∧ lv (p a') + lv b' ≤ f ∧ (k + 1) + f ≤ 16 ∧ (mtF p lv f (p a') b').1 = M.1 ∧ (k + 1) + (mtF p lv f (p a') b').2 = M.2) :=
          ⟨f, HT.out.1.inP i1, i2, by omega, by omega, m1, by rw [← m2]; omega⟩
        have hm : Hid (lv (p a') + lv b' < lv a' + lv b') := by unfold Hid; omega
        have hk16 : (k : Int) ≤ 16 := by omega
        clear hS m1 m2 hf hk qa qb za zb c1 c2 i1 i2 hlt he
        go_wp2_with fail
        go_quiet (fail)
        have BN : Hid (Below W1.heap.size W1 (wr.drewN nq)) := below_drewN hD.out nq
        go_wp2
        go_roundw
        case rel => exact ⟨p a', b', k + 1, rfl, rfl, by go_num, NX.out, BN.out⟩
        case measure => simp [intOf]; have := hm.out; omega
end Go.Proofs.YthdmodmplpoejaaDoor
