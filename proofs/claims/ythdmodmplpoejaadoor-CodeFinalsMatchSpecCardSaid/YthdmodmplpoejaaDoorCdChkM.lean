/-
  Package code: checkMoves.
-/
import Derived.Test.YthdmodmplpoejaaDoorCdLift
namespace Go.Proofs.YthdmodmplpoejaaDoor
open Go.RowKit Go.WideMaps Go.Maps

/-- The error of move k; h and h' say which codes there are. -/
def mvE (h h' : Int → Bool) (M : List Mv) (k : Nat) : Int :=
  if h (mv M k).fr = false ∨ ((mv M k).tg ≠ 0 ∧ h' (mv M k).tg = false) then 5 else if k ≠ 0 ∧ (mv M k).fr ≤ (mv M (k - 1)).fr then 7 else 0
def mvS (h h' : Int → Bool) (M : List Mv) : Int := fe (mvE h h' M) M.length
section
variable {h h' : Int → Bool} {M : List Mv} {k : Nat}
theorem mvE_5 (a : h (mv M k).fr = false ∨ ((mv M k).tg ≠ 0 ∧ h' (mv M k).tg = false)) : mvE h h' M k = 5 := by unfold mvE; rw [if_pos a]
theorem mvE_r (a : ¬ (h (mv M k).fr = false ∨ ((mv M k).tg ≠ 0 ∧ h' (mv M k).tg = false))) : mvE h h' M k = if k ≠ 0 ∧ (mv M k).fr ≤ (mv M (k - 1)).fr then 7 else 0 := by unfold mvE; rw [if_neg a]
end
/-- Sound moves go up; so there are at most 999. -/
theorem mv_len {h h' : Int → Bool} {M : List Mv} (e : mvS h h' M = 0) (hh : ∀ c, h c = true → 1 ≤ c ∧ c ≤ 999) : M.length ≤ 999 ∧ ∀ k, k < M.length → h (mv M k).fr = true ∧ ((mv M k).tg = 0 ∨ h' (mv M k).tg = true) := by
  have z := fe_zero e
  have key : ∀ k, k < M.length → (h (mv M k).fr = true ∧ ((mv M k).tg = 0 ∨ h' (mv M k).tg = true)) ∧ (k ≠ 0 → (mv M (k - 1)).fr < (mv M k).fr) := fun k hk => by
    have := z k hk
    by_cases a : h (mv M k).fr = false ∨ ((mv M k).tg ≠ 0 ∧ h' (mv M k).tg = false)
    · rw [mvE_5 a] at this; simp at this
    rw [mvE_r a] at this
    by_cases b : k ≠ 0 ∧ (mv M k).fr ≤ (mv M (k - 1)).fr
    · rw [if_pos b] at this; simp at this
    refine ⟨⟨?_, ?_⟩, fun hk0 => ?_⟩
    · by_cases q : h (mv M k).fr = true
      · exact q
      · exact absurd (Or.inl (by simpa using q)) a
    · by_cases q : (mv M k).tg = 0
      · exact Or.inl q
      · right
        by_cases r : h' (mv M k).tg = true
        · exact r
        · exact absurd (Or.inr ⟨q, by simpa using r⟩) a
    · by_cases q : (mv M k).fr ≤ (mv M (k - 1)).fr
      · exact absurd ⟨hk0, q⟩ b
      · omega
  refine ⟨?_, fun k hk => (key k hk).1⟩
  have up : ∀ k, k < M.length → (k : Int) + 1 ≤ (mv M k).fr := fun k => by
    induction k with
    | zero => intro hk; have := (hh _ (key 0 hk).1.1).1; omega
    | succ k ih => intro hk; have a := ih (by omega); have b := (key (k + 1) hk).2 (by omega); simp only [Nat.add_sub_cancel] at b; omega
  by_cases e : M.length ≤ 999
  · exact e
  · have a := up 999 (by omega)
    have b := (hh _ (key 999 (by omega)).1.1).2
    omega
theorem hasB_rng {lv : Nat → Nat} {c : Int} (h : hasB lv c = true) : 1 ≤ c ∧ c ≤ 999 := by
  unfold hasB at h
  rw [Bool.and_eq_true, Bool.and_eq_true, decide_eq_true_iff, decide_eq_true_iff] at h
  exact ⟨h.1, h.2.1⟩
/-- What lies there in the loop of checkMoves. -/
structure InM (w wr : World) (x y x2 y2 : Nat) : Prop where
  box : B2 wr w.heap.size (row x) (row y)
  box2 : B2 wr (w.heap.size + 1) (row x2) (row y2)
  bel : Below w.heap.size w wr
theorem InM.keep {w wr W : World} {x y x2 y2 : Nat} (h : InM w wr x y x2 y2) (hb : Below wr.heap.size wr W) : InM w W x y x2 y2 :=
  ⟨h.box.keep hb, h.box2.keep hb, h.bel.trans (hb.mono h.bel.size)⟩
def MovB (wr W1 : World) (u : Mv) : Prop := Below wr.heap.size wr W1 ∧ B2 W1 wr.heap.size (.int .i64 u.fr) (.int .i64 u.tg)
theorem mov_b (wr : World) (u : Mv) : MovB wr (wr.alloc (.cells #[.int .i64 u.fr, .int .i64 u.tg] 101)) u := ⟨bel_one _ _, B2.made _ _ _ _⟩
set_option maxRecDepth 100000 in
set_option maxHeartbeats 4000000 in
theorem checkMoves_c (x y x2 y2 : Nat) (lv lv2 : Nat → Nat) (a : Option Addr) (c : Nat) (M : List Mv) (w : World) (hl : Arr w y lv) (hl2 : Arr w y2 lv2) (hM : RdM w a M) :
    Calls Tryd.prog 54 #[fv x y, fv x2 y2, .slice a M.length c] w (IntP (mvS (hasB lv) (hasB lv2) M) w) := by
  have h9 := hM.1
  have HL := Lib.hid hl
  have HL2 := Lib.hid hl2
  have HM := Lib.hid hM
  have S0 : Hid (InM w ((w.alloc (.cells #[row x, row y] 71)).alloc (.cells #[row x2, row y2] 71)) x y x2 y2) := by
    have e := B2.made (w.alloc (.cells #[row x, row y] 71)) (row x2) (row y2) 71
    have hs : (w.alloc (.cells #[row x, row y] 71)).heap.size = w.heap.size + 1 := by simp
    rw [hs] at e
    exact ⟨(B2.made _ _ _ _).keep (bel_one _ _), e, (bel_one _ _).trans ((bel_one _ _).mono (by simp))⟩
  clear hl hl2 hM
  go_enter Tryd.func54, Tryd.ntmps54
  go_wp2
  go_loopw [6, 7, 11] (fun fl _ i wr => ∃ k : Nat, k ≤ M.length ∧ i = .int .i64 k ∧ fl = .int .i64 0 ∧ Hid (InM w wr x y x2 y2 ∧ fe (mvE (hasB lv) (hasB lv2) M) k = 0)) (fun _ _ i _ => M.length - (intOf i).toNat)
  case atStart => exact ⟨0, Nat.zero_le _, rfl, rfl, S0.out, rfl⟩
  case round =>
    clear S0
    obtain ⟨k, hk, rfl, rfl, hS⟩ := hrel
    by_cases hlt : k < M.length
    · obtain ⟨b', off, rfl, u0, u1⟩ := (HM.out.below hS.out.1.bel).at_ hlt
      have hlt' : (k : Int) < (M.length : Int) := by omega
      have hF : Hid (mvE (hasB lv) (hasB lv2) M k ≠ 0 → mvS (hasB lv) (hasB lv2) M = mvE (hasB lv) (hasB lv2) M k) := fun h => fe_at hlt hS.out.2 h
      have hN : Hid (fe (mvE (hasB lv) (hasB lv2) M) (k + 1) = mvE (hasB lv) (hasB lv2) M k) := fe_next hS.out.2
      obtain ⟨W1, hW1⟩ : ∃ W1, wr.alloc (.cells #[.int .i64 (mv M k).fr, .int .i64 (mv M k).tg] 101) = W1 := ⟨_, rfl⟩
      have N0 : Hid (MovB wr W1 (mv M k)) := by unfold Hid; rw [← hW1]; exact mov_b _ _
      have S1 := Lib.hid (hS.out.1.keep N0.out.1)
      have N1 := Lib.hid N0.out.2
      have v0 := N1.out.c0
      have v1 := N1.out.c1
      have b0 := S1.out.box.c0
      have b1 := S1.out.box.c1
      have d0 := S1.out.box2.c0
      have d1 := S1.out.box2.c1
      have HH1 := Lib.hid (fun W (hb : InM w W x y x2 y2) => has_c x y lv (mv M k).fr W (HL.out.below hb.bel))
      have HH2 := Lib.hid (fun W (hb : InM w W x y x2 y2) => has_c x2 y2 lv2 (mv M k).tg W (HL2.out.below hb.bel))
      clear hS N0
      by_cases g1 : hasB lv (mv M k).fr = false
      · have hE : mvE (hasB lv) (hasB lv2) M k = 5 := mvE_5 (Or.inl g1)
        have R : Hid (mvS (hasB lv) (hasB lv2) M = 5) := by unfold Hid; rw [hF.out (by rw [hE]; decide), hE]
        rw [g1] at HH1
        clear hE hF hN HH2 g1
        go_wp2_with fail
        (with_reducible refine (HH1.out W1 S1.out).mono ?_)
        rintro e W2 ⟨rfl, bq⟩
        have S2 := Lib.hid (S1.out.keep bq)
        have N2 := Lib.hid (N1.out.keep bq)
        have v0 := N2.out.c0
        have v1 := N2.out.c1
        have b0 := S2.out.box.c0
        have b1 := S2.out.box.c1
        have d0 := S2.out.box2.c0
        have d1 := S2.out.box2.c1
        clear bq
        go_wp2
        go_ret
        exact ⟨by rw [R.out]; rfl, S2.out.bel⟩
      have g1' : hasB lv (mv M k).fr = true := by simpa using g1
      rw [g1'] at HH1
      by_cases g2 : (mv M k).tg = 0
      · have gr : Hid (¬ (hasB lv (mv M k).fr = false ∨ ((mv M k).tg ≠ 0 ∧ hasB lv2 (mv M k).tg = false))) := fun h => h.elim g1 fun h => h.1 g2
        have g2' : ((mv M k).tg == 0) = true := by rw [beq_iff_eq]; exact g2
        have g2n : ((mv M k).tg != 0) = false := by rw [bne, g2']; rfl
        clear g1 g1' g2
        go_wp2_with fail
        (with_reducible refine (HH1.out W1 S1.out).mono ?_)
        rintro e W2 ⟨rfl, bq⟩
        have S2 := Lib.hid (S1.out.keep bq)
        have N2 := Lib.hid (N1.out.keep bq)
        have v0 := N2.out.c0
        have v1 := N2.out.c1
        have b0 := S2.out.box.c0
        have b1 := S2.out.box.c1
        have d0 := S2.out.box2.c0
        have d1 := S2.out.box2.c1
        clear bq
        clear u0 u1 hW1
        have hR := Lib.hid (mvE_r (h := hasB lv) (h' := hasB lv2) gr.out)
        clear gr HH1 HH2
        clear b0 b1 d0 d1
        by_cases hk0 : k = 0
        · have hz : Hid (fe (mvE (hasB lv) (hasB lv2) M) (k + 1) = 0) := by unfold Hid; rw [hN.out, hR.out, if_neg (fun h => h.1 hk0)]
          subst hk0
          clear hF hN hR
          go_wp2_with fail
          go_quiet (fail)
          have NX : Hid (InM w (W2.drewN nq) x y x2 y2 ∧ fe (mvE (hasB lv) (hasB lv2) M) (0 + 1) = 0) := ⟨S2.out.keep (below_drewN (Below.refl _ _) nq), hz.out⟩
          clear v0 v1
          go_wp2
          go_roundw
          case rel => exact ⟨1, by omega, by go_num, rfl, NX.out⟩
          case measure => simp [intOf]; omega
        · obtain ⟨m, rfl⟩ : ∃ m, k = m + 1 := ⟨k - 1, by omega⟩
          obtain ⟨_, _, e, p0, _⟩ := (HM.out.below S2.out.bel).at_ (k := m) (by omega)
          injection e with e; injection e with e1 e2; subst e1; subst e2
          have hpos : (0 : Int) < ((m + 1 : Nat) : Int) := by omega
          have hm1 : ((m + 1 : Nat) : Int) - 1 = (m : Int) := by omega
          have hm2 : (m : Int) < (M.length : Int) := by omega
          by_cases q : (mv M (m + 1)).fr ≤ (mv M m).fr
          · have hE : mvE (hasB lv) (hasB lv2) M (m + 1) = 7 := by rw [hR.out, if_pos ⟨hk0, q⟩]
            have R : Hid (mvS (hasB lv) (hasB lv2) M = 7) := by unfold Hid; rw [hF.out (by rw [hE]; decide), hE]
            clear hE hF hN hR hk0
            go_wp2_with fail
            go_quiet (fail)
            go_wp2
            go_ret
            exact ⟨by rw [R.out]; rfl, below_drewN S2.out.bel _⟩
          · have hz : Hid (fe (mvE (hasB lv) (hasB lv2) M) (m + 1 + 1) = 0) := by unfold Hid; rw [hN.out, hR.out, if_neg (fun h => q h.2)]
            have q' : decide ((mv M (m + 1)).fr ≤ (mv M m).fr) = false := decide_eq_false q
            clear hF hN hR hk0 q
            go_wp2_with fail
            go_quiet (fail)
            have NX : Hid (InM w (W2.drewN nq) x y x2 y2 ∧ fe (mvE (hasB lv) (hasB lv2) M) (m + 1 + 1) = 0) := ⟨S2.out.keep (below_drewN (Below.refl _ _) nq), hz.out⟩
            clear v0 v1 p0 hpos hm1 hm2
            go_wp2
            go_roundw
            case rel => exact ⟨m + 1 + 1, by omega, by go_num, rfl, NX.out⟩
            case measure => simp [intOf]; omega
      have g2' : ((mv M k).tg == 0) = false := by rw [beq_eq_false_iff_ne]; exact g2
      have g2n : ((mv M k).tg != 0) = true := by rw [bne, g2']; rfl
      by_cases g3 : hasB lv2 (mv M k).tg = false
      · have hE : mvE (hasB lv) (hasB lv2) M k = 5 := mvE_5 (Or.inr ⟨g2, g3⟩)
        have R : Hid (mvS (hasB lv) (hasB lv2) M = 5) := by unfold Hid; rw [hF.out (by rw [hE]; decide), hE]
        rw [g3] at HH2
        clear hE hF hN g1 g1' g2 g3
        go_wp2_with fail
        (with_reducible refine (HH1.out W1 S1.out).mono ?_)
        rintro e W2 ⟨rfl, bq⟩
        have S2 := Lib.hid (S1.out.keep bq)
        have N2 := Lib.hid (N1.out.keep bq)
        have v0 := N2.out.c0
        have v1 := N2.out.c1
        have b0 := S2.out.box.c0
        have b1 := S2.out.box.c1
        have d0 := S2.out.box2.c0
        have d1 := S2.out.box2.c1
        clear bq
        clear u0 u1 hW1
        go_wp2_with fail
        (with_reducible refine (HH2.out W2 S2.out).mono ?_)
        rintro e W3 ⟨rfl, bq⟩
        have S3 := Lib.hid (S2.out.keep bq)
        have N3 := Lib.hid (N2.out.keep bq)
        have v0 := N3.out.c0
        have v1 := N3.out.c1
        have b0 := S3.out.box.c0
        have b1 := S3.out.box.c1
        have d0 := S3.out.box2.c0
        have d1 := S3.out.box2.c1
        clear bq
        go_wp2
        go_ret
        exact ⟨by rw [R.out]; rfl, S3.out.bel⟩
      have gr : Hid (¬ (hasB lv (mv M k).fr = false ∨ ((mv M k).tg ≠ 0 ∧ hasB lv2 (mv M k).tg = false))) := fun h => h.elim g1 fun h => g3 h.2
      have g3' : hasB lv2 (mv M k).tg = true := by simpa using g3
      rw [g3'] at HH2
      clear g1 g1' g2 g3 g3'
      go_wp2_with fail
      (with_reducible refine (HH1.out W1 S1.out).mono ?_)
      rintro e W2 ⟨rfl, bq⟩
      have S2 := Lib.hid (S1.out.keep bq)
      have N2 := Lib.hid (N1.out.keep bq)
      have v0 := N2.out.c0
      have v1 := N2.out.c1
      have b0 := S2.out.box.c0
      have b1 := S2.out.box.c1
      have d0 := S2.out.box2.c0
      have d1 := S2.out.box2.c1
      clear bq
      clear u0 u1 hW1
      go_wp2_with fail
      (with_reducible refine (HH2.out W2 S2.out).mono ?_)
      rintro e W3 ⟨rfl, bq⟩
      have S3 := Lib.hid (S2.out.keep bq)
      have N3 := Lib.hid (N2.out.keep bq)
      have v0 := N3.out.c0
      have v1 := N3.out.c1
      have b0 := S3.out.box.c0
      have b1 := S3.out.box.c1
      have d0 := S3.out.box2.c0
      have d1 := S3.out.box2.c1
      clear bq
      have hR := Lib.hid (mvE_r (h := hasB lv) (h' := hasB lv2) gr.out)
      clear gr HH1 HH2
      clear b0 b1 d0 d1
      by_cases hk0 : k = 0
      · have hz : Hid (fe (mvE (hasB lv) (hasB lv2) M) (k + 1) = 0) := by unfold Hid; rw [hN.out, hR.out, if_neg (fun h => h.1 hk0)]
        subst hk0
        clear hF hN hR
        go_wp2_with fail
        go_quiet (fail)
        have NX : Hid (InM w (W3.drewN nq) x y x2 y2 ∧ fe (mvE (hasB lv) (hasB lv2) M) (0 + 1) = 0) := ⟨S3.out.keep (below_drewN (Below.refl _ _) nq), hz.out⟩
        clear v0 v1
        go_wp2
        go_roundw
        case rel => exact ⟨1, by omega, by go_num, rfl, NX.out⟩
        case measure => simp [intOf]; omega
      · obtain ⟨m, rfl⟩ : ∃ m, k = m + 1 := ⟨k - 1, by omega⟩
        obtain ⟨_, _, e, p0, _⟩ := (HM.out.below S3.out.bel).at_ (k := m) (by omega)
        injection e with e; injection e with e1 e2; subst e1; subst e2
        have hpos : (0 : Int) < ((m + 1 : Nat) : Int) := by omega
        have hm1 : ((m + 1 : Nat) : Int) - 1 = (m : Int) := by omega
        have hm2 : (m : Int) < (M.length : Int) := by omega
        by_cases q : (mv M (m + 1)).fr ≤ (mv M m).fr
        · have hE : mvE (hasB lv) (hasB lv2) M (m + 1) = 7 := by rw [hR.out, if_pos ⟨hk0, q⟩]
          have R : Hid (mvS (hasB lv) (hasB lv2) M = 7) := by unfold Hid; rw [hF.out (by rw [hE]; decide), hE]
          clear hE hF hN hR hk0
          go_wp2_with fail
          go_quiet (fail)
          go_wp2
          go_ret
          exact ⟨by rw [R.out]; rfl, below_drewN S3.out.bel _⟩
        · have hz : Hid (fe (mvE (hasB lv) (hasB lv2) M) (m + 1 + 1) = 0) := by unfold Hid; rw [hN.out, hR.out, if_neg (fun h => q h.2)]
          have q' : decide ((mv M (m + 1)).fr ≤ (mv M m).fr) = false := decide_eq_false q
          clear hF hN hR hk0 q
          go_wp2_with fail
          go_quiet (fail)
          have NX : Hid (InM w (W3.drewN nq) x y x2 y2 ∧ fe (mvE (hasB lv) (hasB lv2) M) (m + 1 + 1) = 0) := ⟨S3.out.keep (below_drewN (Below.refl _ _) nq), hz.out⟩
          clear v0 v1 p0 hpos hm1 hm2
          go_wp2
          go_roundw
          case rel => exact ⟨m + 1 + 1, by omega, by go_num, rfl, NX.out⟩
          case measure => simp [intOf]; omega
    · obtain rfl : k = M.length := by omega
      have R : Hid (mvS (hasB lv) (hasB lv2) M = 0) := hS.out.2
      clear hlt
      go_wp2
      go_ret
      exact ⟨by rw [R.out]; rfl, hS.out.1.bel⟩
end Go.Proofs.YthdmodmplpoejaaDoor
