/-
  Package code: Meeting; CodeDistancesAreDistances, the law.
-/
import Derived.Test.YthdmodmplpoejaaDoorCdWith
namespace Go.Proofs.YthdmodmplpoejaaDoor
open Go.RowKit Go.WideMaps Go.Maps

theorem rd_two (w : World) (a b : Int) (T : TypeId) : Rd (w.alloc (.cells #[.int .i64 a, .int .i64 b] T)) (some ⟨w.heap.size, 0, none⟩) [a, b] := by
  refine ⟨by simp, fun _ => ⟨_, _, rfl, by simp, fun j hj => ?_⟩⟩
  rw [Nat.zero_add, World.cell?_alloc_new]
  match j, hj with
  | 0, _ => rfl
  | 1, _ => rfl
theorem rd_one (w : World) (a : Int) (T : TypeId) : Rd (w.alloc (.cells #[.int .i64 a] T)) (some ⟨w.heap.size, 0, none⟩) [a] := by
  refine ⟨by simp, fun _ => ⟨_, _, rfl, by simp, fun j hj => ?_⟩⟩
  rw [Nat.zero_add, World.cell?_alloc_new]
  match j, hj with
  | 0, _ => rfl
theorem withS_zero {l : List Nd} {cs : List Int} (h : withS l cs = 0) : frS l = 0 ∧ ∀ k, k < cs.length → hasS l (fn cs k) = true := by
  unfold withS at h
  by_cases h1 : frS l ≠ 0
  · rw [if_pos h1] at h; exact absurd h h1
  rw [if_neg h1] at h
  refine ⟨by omega, fun k hk => ?_⟩
  have := fe_zero h k hk
  unfold codeE at this
  by_cases e : hasS l (fn cs k) = false
  · rw [if_pos e] at this; simp at this
  · simpa using e
/-- Meeting's answer at sound arguments. -/
def mtS (l : List Nd) (a b : Nat) : Nat × Nat := mtF (par l) (lev l) (lev l a + lev l b) a b
/-- Meeting's answer. -/
def meS (l : List Nd) (a b : Int) : Int × Int × Int := if withS l [a, b] ≠ 0 then (0, 0, withS l [a, b]) else ((((mtS l a.toNat b.toNat).1 : Nat) : Int), (((mtS l a.toNat b.toNat).2 : Nat) : Int), 0)
def T3P (r : Int × Int × Int) (w : World) (e : Ending) (w' : World) : Prop := e = .returned (.tuple #[.int .i64 r.1, .int .i64 r.2.1, .int .i64 r.2.2]) ∧ Below w.heap.size w w'
set_option maxRecDepth 100000 in
set_option maxHeartbeats 4000000 in
theorem Meeting_c (sa : Option Addr) (c : Nat) (l : List Nd) (a b : Int) (w : World) (hl : RdN w sa l) (hf : Fits l) :
    Calls Tryd.prog 17 #[.slice sa l.length c, .int .i64 a, .int .i64 b] w (T3P (meS l a b) w) := by
  obtain ⟨W1, hW1⟩ : ∃ W1, w.alloc (.cells #[.int .i64 a, .int .i64 b] 3) = W1 := ⟨_, rfl⟩
  have B1 : Hid (Below w.heap.size w W1) := by rw [← hW1]; exact bel_one _ _
  have R1 : Rd W1 (some ⟨w.heap.size, 0, none⟩) [a, b] := by rw [← hW1]; exact rd_two w a b _
  have HC : Hid (Calls Tryd.prog 41 #[.slice sa l.length c, .slice (some ⟨w.heap.size, 0, none⟩) 2 2] W1 (FwP l (withS l [a, b]) W1)) := Lib.hid (frameWith_c sa c l (some ⟨w.heap.size, 0, none⟩) 2 [a, b] W1 (hl.below B1.out) hf R1)
  clear hl hf R1
  by_cases hz : withS l [a, b] ≠ 0
  · have HP : Hid (meS l a b = (0, 0, withS l [a, b])) := by unfold Hid meS; rw [if_pos hz]
    obtain ⟨f, hfl⟩ : ∃ f, withS l [a, b] = f := ⟨_, rfl⟩
    rw [hfl] at hz HC HP
    have HZ := Lib.hid hz
    have f1 : (f == 0) = false := by rw [beq_eq_false_iff_ne]; exact hz
    have f2 : (f != 0) = true := by rw [bne, f1]; rfl
    clear hfl hz
    go_enter Tryd.func17, Tryd.ntmps17
    go_wp2_with fail
    (with_reducible refine HC.out.mono ?_)
    intro e W2 he
    obtain ⟨h, _⟩ | ⟨_, rfl, b2⟩ := he
    · exact absurd h HZ.out
    have B2 := Lib.hid (B1.out.trans (b2.mono B1.out.size))
    clear b2 hW1
    go_wp2_with fail
    refine bodyPost_ret (v := .tuple #[.int .i64 0, .int .i64 0, .int .i64 f]) (by simp [results, Tryd.results17, go_sem]) rfl ⟨by rw [HP.out], ?_⟩
    exact B2.out.trans ((bel_one _ _).mono B2.out.size)
  · have hz : withS l [a, b] = 0 := by omega
    obtain ⟨h0, hh⟩ := withS_zero hz
    have F := fr_of h0
    have ha := (hasS_iff F).1 (hh 0 (by simp))
    have hb := (hasS_iff F).1 (hh 1 (by simp))
    obtain ⟨i, ei, hi⟩ := ha
    obtain ⟨k, ek, hk⟩ := hb
    have ei : a = (i : Int) := ei
    have ek : b = (k : Int) := ek
    subst ei; subst ek
    have HP : Hid (meS l i k = ((((mtS l i k).1 : Nat) : Int), (((mtS l i k).2 : Nat) : Int), 0)) := by unfold Hid meS; rw [if_neg (by simpa using hz)]; rfl
    rw [hz] at HC
    have HF : Hid (Fr l) := F
    have HI : Hid (Has l i ∧ Has l k) := ⟨hi, hk⟩
    clear hz h0 hh F hi hk
    go_enter Tryd.func17, Tryd.ntmps17
    go_wp2_with fail
    (with_reducible refine HC.out.mono ?_)
    intro e W2 he
    obtain ⟨_, x, y, rfl, hx, hy, b2, _, _⟩ | ⟨h, _⟩ := he
    rotate_left
    · exact absurd rfl h
    have BW2 := Lib.hid (B1.out.trans (b2.mono B1.out.size))
    obtain ⟨W3, hW3⟩ : ∃ W3, W2.alloc (.cells #[row x, row y] 71) = W3 := ⟨_, rfl⟩
    have b3 : Below W2.heap.size W2 W3 := by rw [← hW3]; exact bel_one _ _
    have D3 : Hid (B2 W3 W2.heap.size (row x) (row y)) := by rw [← hW3]; exact B2.made _ _ _ _
    have d0 := D3.out.c0
    have d1 := D3.out.c1
    have BW3 := Lib.hid (BW2.out.trans (b3.mono BW2.out.size))
    have HM := Lib.hid (meeting_c x y (par l) (lev l) (Has l) HF.out.tree i k W3 (hx.below b3) (hy.below b3) (Or.inr HI.out.1) (Or.inr HI.out.2) (fun c h => ⟨(has_pos HF.out.ord h).2, (HF.out.lev h).2.2.1⟩))
    obtain ⟨M, hM⟩ : ∃ M, mtF (par l) (lev l) (lev l i + lev l k) i k = M := ⟨_, rfl⟩
    rw [hM] at HM
    have HP2 : Hid (meS l i k = (((M.1 : Nat) : Int), ((M.2 : Nat) : Int), 0)) := by unfold Hid; rw [HP.out, ← hM]; rfl
    clear hM HP b2 b3 hx hy hW1 HC
    go_wp2_with fail
    (with_reducible refine HM.out.mono ?_)
    rintro e W4 ⟨rfl, b4⟩
    have BW4 := Lib.hid (BW3.out.trans (b4.mono BW3.out.size))
    clear b4 hW3 d0 d1
    go_wp2_with fail
    exact bodyPost_ret (v := .tuple #[.int .i64 (M.1 : Nat), .int .i64 (M.2 : Nat), .int .i64 0]) (by simp [results, Tryd.results17, go_sem]) rfl ⟨by rw [HP2.out], BW4.out⟩

/-! ### The law -/
theorem withS_two {l : List Nd} (a b : Int) : withS l [a, b] = if frS l ≠ 0 then frS l else if hasS l a = true ∧ hasS l b = true then 0 else 5 := by
  unfold withS
  by_cases h : frS l ≠ 0
  · rw [if_pos h, if_pos h]
  rw [if_neg h, if_neg h]
  show fe (codeE l [a, b]) 2 = _
  have e0 : codeE l [a, b] 0 = if hasS l a = false then 5 else 0 := rfl
  have e1 : codeE l [a, b] 1 = if hasS l b = false then 5 else 0 := rfl
  show (if (if (0 : Int) = 0 then codeE l [a, b] 0 else 0) = 0 then codeE l [a, b] 1 else (if (0 : Int) = 0 then codeE l [a, b] 0 else 0)) = _
  rw [e0, e1]
  cases hasS l a <;> cases hasS l b <;> simp
theorem mtS_is {l : List Nd} (F : Fr l) {i k : Nat} (hi : Has l i) (hk : Has l k) : MeetIs (par l) (lev l) i k (mtS l i k).1 (mtS l i k).2 :=
  F.tree.mtF_is (Or.inr hi) (Or.inr hk) (Nat.le_refl _)
set_option maxRecDepth 100000 in
set_option maxHeartbeats 4000000 in
theorem law_distances (sa : Option Addr) (c : Nat) (l : List Nd) (a b d : Int) (w : World) (hl : RdN w sa l) (hf : Fits l) :
    Calls Tryd.prog 4 #[.slice sa l.length c, .int .i64 a, .int .i64 b, .int .i64 d] w fun e w' => e = .returned (.bool true) ∧ Below w.heap.size w w' := by
  have H1 := Lib.hid (Meeting_c sa c l a b w hl hf)
  have H2 := Lib.hid (fun W (hb : Below w.heap.size w W) => Meeting_c sa c l b a W (hl.below hb) hf)
  have H3 := Lib.hid (fun W (hb : Below w.heap.size w W) => Meeting_c sa c l b d W (hl.below hb) hf)
  have H4 := Lib.hid (fun W (hb : Below w.heap.size w W) => Meeting_c sa c l a d W (hl.below hb) hf)
  have S12 : withS l [b, a] = withS l [a, b] := by
    rw [withS_two, withS_two]
    by_cases h : frS l ≠ 0
    · rw [if_pos h, if_pos h]
    · rw [if_neg h, if_neg h]; cases hasS l a <;> cases hasS l b <;> rfl
  clear hl hf
  by_cases hz : withS l [a, b] ≠ 0
  · have e1 : meS l a b = (0, 0, withS l [a, b]) := by unfold meS; rw [if_pos hz]
    have e2 : meS l b a = (0, 0, withS l [a, b]) := by unfold meS; rw [S12, if_pos hz]
    rw [e1] at H1
    rw [e2] at H2
    obtain ⟨f, hfl⟩ : ∃ f, withS l [a, b] = f := ⟨_, rfl⟩
    rw [hfl] at hz H1 H2
    have f1 : (f == 0) = false := by rw [beq_eq_false_iff_ne]; exact hz
    have f2 : (f != 0) = true := by rw [bne, f1]; rfl
    clear e1 e2 S12 hfl hz H3 H4
    go_enter Tryd.func4, Tryd.ntmps4
    go_wp2_with fail
    (with_reducible refine H1.out.mono ?_)
    rintro e W1 ⟨rfl, b1⟩
    have B1 := Lib.hid b1
    clear b1
    go_wp2_with fail
    (with_reducible refine (H2.out W1 B1.out).mono ?_)
    rintro e W2 ⟨rfl, b2⟩
    have B2 := Lib.hid (B1.out.trans (b2.mono B1.out.size))
    clear b2
    go_wp2
    go_ret
    exact ⟨rfl, B2.out⟩
  have hz : withS l [a, b] = 0 := by omega
  obtain ⟨h0, hh⟩ := withS_zero hz
  have F := fr_of h0
  have ha1 : hasS l a = true := hh 0 (by simp)
  have hb1 : hasS l b = true := hh 1 (by simp)
  obtain ⟨i, rfl, hi⟩ := (hasS_iff F).1 ha1
  obtain ⟨k, rfl, hk⟩ := (hasS_iff F).1 hb1
  have e1 : meS l i k = ((((mtS l i k).1 : Nat) : Int), (((mtS l i k).2 : Nat) : Int), 0) := by unfold meS; rw [if_neg (by simpa using hz)]; rfl
  have e2 : meS l k i = ((((mtS l i k).1 : Nat) : Int), (((mtS l i k).2 : Nat) : Int), 0) := by
    have one := F.tree.meetOne (Or.inr hi) (mtS_is F hi hk) (mtS_is F hk hi).symm
    unfold meS; rw [S12, if_neg (by simpa using hz)]
    show ((((mtS l k i).1 : Nat) : Int), (((mtS l k i).2 : Nat) : Int), (0 : Int)) = _
    rw [one.1, one.2]
  have M12 := mtS_is F hi hk
  have Z12 := F.tree.meetZero (Or.inr hi) (Or.inr hk) M12
  rw [e1] at H1
  rw [e2] at H2
  by_cases hd : hasS l d = true
  · obtain ⟨j, rfl, hj⟩ := (hasS_iff F).1 hd
    have z3 : withS l [(k : Int), (j : Int)] = 0 := by rw [withS_two, if_neg (by simpa using h0), if_pos ⟨hb1, hd⟩]
    have z4 : withS l [(i : Int), (j : Int)] = 0 := by rw [withS_two, if_neg (by simpa using h0), if_pos ⟨ha1, hd⟩]
    have e3 : meS l k j = ((((mtS l k j).1 : Nat) : Int), (((mtS l k j).2 : Nat) : Int), 0) := by unfold meS; rw [if_neg (by simpa using z3)]; rfl
    have e4 : meS l i j = ((((mtS l i j).1 : Nat) : Int), (((mtS l i j).2 : Nat) : Int), 0) := by unfold meS; rw [if_neg (by simpa using z4)]; rfl
    have TRI := F.tree.meetTri (Or.inr hi) (Or.inr hk) (Or.inr hj) M12 (mtS_is F hk hj) (mtS_is F hi hj)
    have sm : ∀ {u v : Nat}, Has l u → Has l v → (mtS l u v).2 ≤ 16 := fun {u v} hu hv => by
      have := (mtS_is F hu hv).2.2.1
      have := (F.lev hu).2.2.1
      have := (F.lev hv).2.2.1
      omega
    have q1 := sm hi hk
    have q2 := sm hk hj
    rw [e3] at H3
    rw [e4] at H4
    clear e1 e2 e3 e4 z3 z4 hd ha1 hb1 hh h0 hz S12 M12 sm
    generalize (mtS l i k).1 = m1 at *
    generalize (mtS l i k).2 = d1 at *
    generalize (mtS l k j).1 = m2 at *
    generalize (mtS l k j).2 = d2 at *
    generalize (mtS l i j).1 = m3 at *
    generalize (mtS l i j).2 = d3 at *
    have t1 : (d3 : Int) ≤ (d1 : Int) + (d2 : Int) := by omega
    have t2 : (((d1 : Int) == 0) == ((i : Int) == (k : Int))) = true := by
      rw [beq_iff_eq, Bool.eq_iff_iff, beq_iff_eq, beq_iff_eq]
      omega
    have w1 : IntKind.i64.wrap ((d1 : Int) + (d2 : Int)) = (d1 : Int) + (d2 : Int) := by rw [IntKind.wrap_i64] <;> omega
    clear Z12 TRI q1 q2 hi hk hj F
    go_enter Tryd.func4, Tryd.ntmps4
    go_wp2_with fail
    (with_reducible refine H1.out.mono ?_)
    rintro e W1 ⟨rfl, b1⟩
    have B1 := Lib.hid b1
    clear b1
    go_wp2_with fail
    (with_reducible refine (H2.out W1 B1.out).mono ?_)
    rintro e W2 ⟨rfl, b2⟩
    have B2 := Lib.hid (B1.out.trans (b2.mono B1.out.size))
    clear b2
    go_wp2_with fail
    (with_reducible refine (H3.out W2 B2.out).mono ?_)
    rintro e W3 ⟨rfl, b3⟩
    have B3 := Lib.hid (B2.out.trans (b3.mono B2.out.size))
    clear b3
    go_wp2_with fail
    (with_reducible refine (H4.out W3 B3.out).mono ?_)
    rintro e W4 ⟨rfl, b4⟩
    have B4 := Lib.hid (B3.out.trans (b4.mono B3.out.size))
    clear b4
    go_wp2
    go_ret
    exact ⟨rfl, B4.out⟩
  · have z3 : withS l [(k : Int), d] = 5 := by rw [withS_two, if_neg (by simpa using h0), if_neg (fun h => hd h.2)]
    have z4 : withS l [(i : Int), d] = 5 := by rw [withS_two, if_neg (by simpa using h0), if_neg (fun h => hd h.2)]
    have e3 : meS l k d = (0, 0, 5) := by unfold meS; rw [if_pos (by rw [z3]; decide), z3]
    have e4 : meS l i d = (0, 0, 5) := by unfold meS; rw [if_pos (by rw [z4]; decide), z4]
    rw [e3] at H3
    rw [e4] at H4
    clear e1 e2 e3 e4 z3 z4 hd ha1 hb1 hh h0 hz S12 M12 Z12 hi hk F
    generalize (mtS l i k).1 = m1 at *
    generalize (mtS l i k).2 = d1 at *
    go_enter Tryd.func4, Tryd.ntmps4
    go_wp2_with fail
    (with_reducible refine H1.out.mono ?_)
    rintro e W1 ⟨rfl, b1⟩
    have B1 := Lib.hid b1
    clear b1
    go_wp2_with fail
    (with_reducible refine (H2.out W1 B1.out).mono ?_)
    rintro e W2 ⟨rfl, b2⟩
    have B2 := Lib.hid (B1.out.trans (b2.mono B1.out.size))
    clear b2
    go_wp2_with fail
    (with_reducible refine (H3.out W2 B2.out).mono ?_)
    rintro e W3 ⟨rfl, b3⟩
    have B3 := Lib.hid (B2.out.trans (b3.mono B2.out.size))
    clear b3
    go_wp2_with fail
    (with_reducible refine (H4.out W3 B3.out).mono ?_)
    rintro e W4 ⟨rfl, b4⟩
    have B4 := Lib.hid (B3.out.trans (b4.mono B3.out.size))
    clear b4
    go_wp2
    go_ret
    exact ⟨rfl, B4.out⟩
end Go.Proofs.YthdmodmplpoejaaDoor
