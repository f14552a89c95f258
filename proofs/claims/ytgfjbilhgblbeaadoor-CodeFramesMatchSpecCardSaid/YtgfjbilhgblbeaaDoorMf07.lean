/-
  CodeLiftsAgree: the law.
  The reference of package code: small functions of frames.
  The reference of package code: above, lineage.
-/
import Derived.Test.YtgfjbilhgblbeaaDoorMf06
namespace Go.Proofs.YtgfjbilhgblbeaaDoor
open Go.RowKit Go.WideMaps Go.Maps

theorem bel_drewN (w : World) (n : Nat) : Below w.heap.size w (w.drewN n) := below_drewN (Below.refl _ _) n
set_option maxHeartbeats 1000000 in
theorem eqC_c (a1 a2 : Option Addr) (c1 c2 : Nat) (C : List Cg) (w : World) (h1 : RdC w a1 C) (h2 : RdC w a2 C) :
    Calls Tryd.prog 26 #[.slice a1 C.length c1, .slice a2 C.length c2] w fun e w' => e = .returned (.bool true) ∧ Below w.heap.size w w' := by
  have H1 := Lib.hid h1
  have H2 := Lib.hid h2
  have h9 := h1.1
  clear h1 h2
  go_enter Tryd.func26, Tryd.ntmps26
  go_wp2
  go_loopw [5, 13] (fun _ i wr => ∃ k : Nat, k ≤ C.length ∧ i = .int .i64 k ∧ Hid (Below w.heap.size w wr)) (fun _ i _ => C.length - (intOf i).toNat)
  case atStart => exact ⟨0, Nat.zero_le _, rfl, Below.refl _ _⟩
  case round =>
    obtain ⟨k, hk, rfl, hR⟩ := hrel
    by_cases hlt : k < C.length
    · have hlt' : (k : Int) < (C.length : Int) := by omega
      obtain ⟨b1, o1, rfl, p0, p1, p2⟩ := (H1.out.below hR.out).at_ hlt
      obtain ⟨b2, o2, rfl, q0, q1, q2⟩ := (H2.out.below hR.out).at_ hlt
      generalize (cg C k).ca = x0 at *
      generalize (cg C k).co = x1 at *
      generalize (cg C k).cd = x2 at *
      go_wp2_with fail
      go_quiet (fail)
      have NX : Hid (Below w.heap.size w (wr.drewN nq)) := hR.out.trans ((bel_drewN _ _).mono hR.out.size)
      clear p0 p1 p2 q0 q1 q2
      go_wp2
      go_roundw
      case rel => exact ⟨k + 1, by omega, by go_num, NX.out⟩
      case measure => simp [intOf]; omega
    · obtain rfl : k = C.length := by omega
      go_wp2
      go_ret
      exact ⟨rfl, hR.out⟩

/-! ### What was lifted -/
theorem lif_cd {l : List Nd} (F : Fr l) {c n : Nat} (hc : Has l c) (hn : 1 ≤ n) : Has l (it (par l) (lev l c - n) c) ∧ lev l (it (par l) (lev l c - n) c) = lev l c - (lev l c - n) := by
  have T := F.tree
  have h1 := T.lvIt (k := lev l c - n) (Or.inr hc)
  have h2 := F.lev hc
  refine ⟨?_, h1⟩
  rcases T.inIt (k := lev l c - n) (Or.inr hc) with h | h
  · rw [h] at h1
    rw [T.zero] at h1
    omega
  · exact h
theorem lif_lif {l : List Nd} (F : Fr l) {c n m : Nat} (hc : Has l c) (hm : m ≤ n) (hm1 : 1 ≤ m) :
    it (par l) (lev l (it (par l) (lev l c - n) c) - m) (it (par l) (lev l c - n) c) = it (par l) (lev l c - m) c := by
  rw [(lif_cd F hc (by omega)).2, ← it_add]
  congr 1
  omega
theorem cgsS_same {h : Int → Bool} {C D : List Cg} (hl : D.length = C.length) (e : ∀ k, k < C.length → (cg D k).ca = (cg C k).ca ∧ (cg D k).co = (cg C k).co ∧ h (cg D k).cd = true) (h0 : cgsS h C = 0) : cgsS h D = 0 := by
  have hz := fe_zero (s := cgE h C) (n := C.length) (by
    unfold cgsS at h0
    by_cases q : 20000 < C.length
    · rw [if_pos q] at h0; simp at h0
    · rw [if_neg q] at h0; exact h0)
  have hn := (cgs_ok h0).1
  unfold cgsS
  rw [hl, if_neg (by omega)]
  refine fe_all fun k hk => ?_
  have z := hz k hk
  obtain ⟨e1, e2, e3⟩ := e k hk
  have el : (lst D k).ca = (lst C k).ca ∧ (lst D k).co = (lst C k).co := by
    unfold lst
    by_cases q : k = 0
    · rw [if_pos q, if_pos q]; exact ⟨rfl, rfl⟩
    · rw [if_neg q, if_neg q]; exact ⟨(e (k - 1) (by omega)).1, (e (k - 1) (by omega)).2.1⟩
  unfold cgE at z ⊢
  rw [e1, e2, e3, el.1, el.2]
  by_cases g : (cg C k).ca < 1 ∨ (cg C k).co < 1 ∨ 50 < (cg C k).co
  · rw [if_pos g] at z; simp at z
  rw [if_neg g] at z ⊢
  rw [if_neg (by simp)]
  by_cases g2 : h (cg C k).cd = false
  · rw [if_pos g2] at z; simp at z
  rw [if_neg g2] at z
  exact z
theorem lif_ok {l : List Nd} {C : List Cg} {n : Nat} (h0 : forS l C = 0) (hn : 1 ≤ n) : forS l (lifC l n C) = 0 := by
  obtain ⟨F, hc, _, hcs⟩ := for_ok h0
  unfold forS at h0 ⊢
  by_cases q : frS l ≠ 0
  · rw [if_pos q] at h0; exact absurd h0 q
  rw [if_neg q] at h0 ⊢
  refine cgsS_same (lifC_len l n C) (fun k hk => ?_) h0
  obtain ⟨c, ec, hc⟩ := hcs k hk
  rw [lifC_at hk]
  refine ⟨rfl, rfl, ?_⟩
  show hasS l _ = true
  rw [hasS_iff F]
  refine ⟨_, rfl, ?_⟩
  rw [ec, Int.toNat_natCast]
  exact (lif_cd F hc hn).1
theorem lif_twice {l : List Nd} {C : List Cg} {n m : Nat} (h0 : forS l C = 0) (hm : m ≤ n) (hm1 : 1 ≤ m) : lifC l m (lifC l n C) = lifC l m C := by
  obtain ⟨F, _, _, hcs⟩ := for_ok h0
  unfold lifC
  rw [List.map_map]
  refine List.map_congr_left fun u hu => ?_
  obtain ⟨k, hk, rfl⟩ := List.getElem_of_mem hu
  obtain ⟨c, ec, hc⟩ := hcs k hk
  rw [cg_is hk] at ec
  show lif l m (lif l n C[k]) = lif l m C[k]
  unfold lif
  dsimp only
  rw [ec, Int.toNat_natCast, Int.toNat_natCast, lif_lif F hc hm hm1]
/-! ### A frame that is recoded to itself -/
theorem tK_at {l : List Nd} (h : Ord l) {j : Nat} : ∀ {n : Nat}, n ≤ l.length → j < n → tK l (nd l j).cd n = some (nd l j).ti
  | n + 1, hn, hj => by
    unfold tK
    by_cases e : (nd l j).cd = (nd l n).cd
    · rw [if_pos e, h.inj (by omega) (by omega) e]
    · rw [if_neg e]
      have : j ≠ n := fun q => e (by rw [q])
      exact tK_at h (by omega) (by omega)
theorem oK_at {l : List Nd} (h : Ord l) {f : Int → Option ByteArray} (hf : ∀ j, j < l.length → same f l j = true) {j : Nat} : ∀ {n : Nat}, n ≤ l.length → j < n → oK f l (nd l j).cd n = some (nd l j).cd
  | n + 1, hn, hj => by
    unfold oK
    by_cases e : (nd l j).cd = (nd l n).cd
    · rw [if_pos ⟨hf n (by omega), e⟩, e]
    · rw [if_neg (fun q => e q.2)]
      have : j ≠ n := fun q => e (by rw [q])
      exact oK_at h hf (by omega) (by omega)
theorem su_self {l : List Nd} (F : Fr l) {c : Nat} (hc : Has l c) : suS l l [] (c : Int) = c := by
  obtain ⟨j, hj, e⟩ := hc
  unfold suS suO
  show (oK (fun s => tK l s l.length) l (c : Int) l.length).getD 0 = _
  rw [← e, oK_at F.ord (fun k hk => by unfold same; dsimp only; rw [tK_at F.ord (Nat.le_refl _) hk]; simp) (Nat.le_refl _) hj]
  rfl
theorem car_self {f : Int → Int} : ∀ {C : List Cg}, (∀ u, u ∈ C → f u.cd = u.cd ∧ u.cd ≠ 0) → carL f C = C ∧ lefL f C = []
  | [], _ => ⟨rfl, rfl⟩
  | u :: C, h => by
    have hu := h u (by simp)
    obtain ⟨i1, i2⟩ := car_self (C := C) fun x hx => h x (by simp [hx])
    unfold carL at i1
    unfold lefL at i2
    unfold carL lefL
    have h1 : decide (f u.cd ≠ 0) = true := decide_eq_true (by rw [hu.1]; exact hu.2)
    have h2 : decide (f u.cd = 0) = false := decide_eq_false (by rw [hu.1]; exact hu.2)
    rw [List.filter_cons, List.filter_cons, if_pos h1, if_neg (by rw [h2]; simp), i2, List.map_cons, i1, hu.1]
    exact ⟨rfl, rfl⟩
theorem re_self {l : List Nd} {C : List Cg} (h0 : forS l C = 0) : reE l l [] C = 0 ∧ carL (suS l l []) C = C ∧ lefL (suS l l []) C = [] := by
  obtain ⟨F, hc, _, hcs⟩ := for_ok h0
  unfold forS at h0
  by_cases q : frS l ≠ 0
  · rw [if_pos q] at h0; exact absurd h0 q
  refine ⟨?_, car_self fun u hu => ?_⟩
  · unfold reE
    rw [if_neg q, if_neg q]
    have : mvS (hasB (lev l)) (hasB (lev l)) [] = 0 := rfl
    rw [this, if_neg (by simp)]
    exact hc
  · obtain ⟨k, hk, rfl⟩ := List.getElem_of_mem hu
    obtain ⟨c, ec, hcc⟩ := hcs k hk
    rw [cg_is hk] at ec
    rw [ec]
    have := has_pos F.ord hcc
    exact ⟨su_self F hcc, by omega⟩
theorem lifE_r {l : List Nd} {C : List Cg} {m : Int} (h : liE l C m = 0) : forS l C = 0 ∧ 1 ≤ m ∧ m ≤ 8 := by
  unfold liE at h
  by_cases q : forS l C ≠ 0
  · rw [if_pos q] at h; exact absurd h q
  rw [if_neg q] at h
  by_cases r : m < 1 ∨ 8 < m
  · rw [if_pos r] at h; simp at h
  · exact ⟨by omega, by omega, by omega⟩
theorem lift_ok {l : List Nd} {C : List Cg} {n : Int} {w w' : World} {e : Ending} (h : LiP l C n w e w') (hz : liE l C n = 0) : ∃ a c, e = .returned (.tuple #[.slice a C.length c, .int .i64 0]) ∧ RdC w' a (lifC l n.toNat C) ∧ Below w.heap.size w w' := by
  rcases h with ⟨_, h⟩ | ⟨h, _⟩
  · exact h
  · exact absurd hz h
theorem lift_no {l : List Nd} {C : List Cg} {n : Int} {w w' : World} {e : Ending} (h : LiP l C n w e w') (hz : liE l C n ≠ 0) : e = .returned (.tuple #[.slice none 0 0, .int .i64 (liE l C n)]) ∧ Below w.heap.size w w' := by
  rcases h with ⟨h, _⟩ | ⟨_, h⟩
  · exact absurd h hz
  · exact h
theorem fit_lif {l : List Nd} {C : List Cg} {n : Nat} (h : FitsC C) (F : Fr l) (hcs : ∀ k, k < C.length → ∃ c : Nat, (cg C k).cd = c ∧ Has l c) (hn : 1 ≤ n) : FitsC (lifC l n C) := by
  intro u hu
  unfold lifC at hu
  obtain ⟨x, hx, rfl⟩ := List.mem_map.1 hu
  obtain ⟨k, hk, rfl⟩ := List.getElem_of_mem hx
  obtain ⟨c, ec, hc⟩ := hcs k hk
  rw [cg_is hk] at ec
  have := h _ hx
  refine ⟨this.1, this.2.1, ?_⟩
  show in64 ((it (par l) (lev l C[k].cd.toNat - n) C[k].cd.toNat : Nat) : Int)
  rw [ec, Int.toNat_natCast]
  have := has_pos F.ord (lif_cd F hc hn).1
  unfold in64; omega

set_option maxRecDepth 100000 in
set_option maxHeartbeats 4000000 in
theorem law_lifts (sa : Option Addr) (c : Nat) (l : List Nd) (a2 : Option Addr) (c2 : Nat) (C : List Cg) (n m : Int) (w : World) (hl : RdN w sa l) (hf : Fits l) (hC : RdC w a2 C) (fC : FitsC C) :
    Calls Tryd.prog 7 #[.slice sa l.length c, .slice a2 C.length c2, .int .i64 n, .int .i64 m] w fun e w' => e = .returned (.bool true) ∧ Below w.heap.size w w' := by
  have K1 := Lib.hid (Lift_c sa c l a2 c2 C n w hl hf hC)
  have K2 := Lib.hid (fun W (hb : Below w.heap.size w W) => Lift_c sa c l a2 c2 C m W (hl.below hb) hf (hC.below hb))
  have K3 := Lib.hid (fun W (hb : Below w.heap.size w W) (a : Option Addr) (cc : Nat) (D : List Cg) (hD : RdC W a D) => Lift_c sa c l a cc D m W (hl.below hb) hf hD)
  have K4 := Lib.hid (fun W (hb : Below w.heap.size w W) => Recode_c sa c l sa c l none 0 [] a2 c2 C W (hl.below hb) hf (hl.below hb) hf ⟨by simp, fun h => by simp at h⟩ (fun u hu => by cases hu) (hC.below hb) fC)
  have HC := Lib.hid hC
  have h9 := hC.1
  clear hl hf hC fC
  by_cases z1 : liE l C n ≠ 0
  · obtain ⟨f, hfl⟩ : ∃ f, liE l C n = f := ⟨_, rfl⟩
    have HZ := Lib.hid z1
    have f1 : (f == 0) = false := by rw [beq_eq_false_iff_ne, ← hfl]; exact z1
    have f2 : (f != 0) = true := by rw [bne, f1]; rfl
    have HFL := Lib.hid hfl
    clear z1 hfl K2 K3 K4
    go_enter Tryd.func7, Tryd.ntmps7
    go_wp2_with fail
    (with_reducible refine K1.out.mono ?_)
    intro e W1 he
    obtain ⟨rfl, b1⟩ := lift_no he HZ.out
    rw [HFL.out]
    have B1 := Lib.hid b1
    clear b1 he
    go_wp2
    go_ret
    exact ⟨rfl, B1.out⟩
  have z1 : liE l C n = 0 := by omega
  obtain ⟨h0, hn1, hn8⟩ := lifE_r z1
  obtain ⟨F, _, _, hcs⟩ := for_ok h0
  obtain ⟨N, rfl⟩ : ∃ N : Nat, n = N := ⟨n.toNat, by omega⟩
  obtain ⟨r0, r1, r2⟩ := re_self h0
  have RS := Lib.hid (And.intro r0 (And.intro r1 r2))
  have Z1 := Lib.hid z1
  have H0 := Lib.hid h0
  clear z1 r0 r1 r2
  go_enter Tryd.func7, Tryd.ntmps7
  go_wp2_with fail
  (with_reducible refine K1.out.mono ?_)
  intro e W1 he
  obtain ⟨a, ca, rfl, hA, b1⟩ := lift_ok he Z1.out
  rw [Int.toNat_natCast] at hA
  have B1 := Lib.hid b1
  have HA := Lib.hid hA
  clear b1 hA he
  have END : Hid (∀ (W : World) (Q : Ending → World → Prop), Below w.heap.size w W → (∀ (a : Option Addr) (ca : Nat) (a' : Option Addr) (ca' : Nat) (W' : World), RdC W' a C → Below w.heap.size w W' → Q (.returned (.tuple #[.slice a C.length ca, .slice a' 0 ca', .int .i64 0])) W') →
      Calls Tryd.prog 27 #[.slice sa l.length c, .slice sa l.length c, .slice none 0 0, .slice a2 C.length c2] W Q) := by
    intro W Q hb hQ
    refine (K4.out W hb).mono fun e W' he => ?_
    obtain ⟨_, v4, v5, rfl, ⟨a4, c4, rfl, h4⟩, ⟨a5, c5, rfl, h5⟩, b5⟩ | ⟨h, _⟩ := he
    · rw [RS.out.2.1] at h4 ⊢
      rw [RS.out.2.2] at h5 ⊢
      exact hQ a4 c4 a5 c5 W' h4 (hb.trans (b5.mono hb.size))
    · exact absurd RS.out.1 h
  by_cases z2 : liE l C m ≠ 0
  · obtain ⟨f, hfl⟩ : ∃ f, liE l C m = f := ⟨_, rfl⟩
    have HZ := Lib.hid z2
    have f1 : (f == 0) = false := by rw [beq_eq_false_iff_ne, ← hfl]; exact z2
    have f2 : (f != 0) = true := by rw [bne, f1]; rfl
    have HFL := Lib.hid hfl
    clear z2 hfl K3 K4 K1
    go_wp2_with fail
    (with_reducible refine (K2.out W1 B1.out).mono ?_)
    intro e W2 he
    obtain ⟨rfl, b2⟩ := lift_no he HZ.out
    rw [HFL.out]
    have B2 := Lib.hid (B1.out.trans (b2.mono B1.out.size))
    clear b2 he K2
    go_wp2_with fail
    refine END.out W2 _ B2.out fun a' ca' a5 ca5 W3 hD b3 => ?_
    have B3 := Lib.hid b3
    have E3 := Lib.hid (eqC_c a' a2 ca' c2 C W3 hD (HC.out.below b3))
    clear hD b3
    go_wp2_with fail
    (with_reducible refine E3.out.mono ?_)
    rintro e W4 ⟨rfl, b4⟩
    have B4 := Lib.hid (B3.out.trans (b4.mono B3.out.size))
    clear b4
    go_wp2
    go_ret
    exact ⟨rfl, B4.out⟩
  have z2 : liE l C m = 0 := by omega
  obtain ⟨_, hm1, hm8⟩ := lifE_r z2
  obtain ⟨M, rfl⟩ : ∃ M : Nat, m = M := ⟨m.toNat, by omega⟩
  have Z2 := Lib.hid z2
  clear z2
  go_wp2_with fail
  (with_reducible refine (K2.out W1 B1.out).mono ?_)
  intro e W2 he
  obtain ⟨b, cb, rfl, hB, b2⟩ := lift_ok he Z2.out
  rw [Int.toNat_natCast] at hB
  have B2 := Lib.hid (B1.out.trans (b2.mono B1.out.size))
  have HB := Lib.hid hB
  have HA2 := Lib.hid (HA.out.below b2)
  clear b2 hB he K2 K1 HA
  by_cases hle : (M : Int) ≤ (N : Int)
  · have Z3 : Hid (liE l (lifC l N C) M = 0) := by
      unfold Hid liE
      rw [lif_ok H0.out (by omega), if_neg (by simp), if_neg (by omega)]
    have TW := Lib.hid (lif_twice H0.out (show M ≤ N by omega) (by omega))
    have K5 : Hid (Calls Tryd.prog 24 #[.slice sa l.length c, .slice a C.length ca, .int .i64 (M : Int)] W2 (LiP l (lifC l N C) (M : Int) W2)) := by
      have := K3.out W2 B2.out a ca (lifC l N C) HA2.out
      rw [lifC_len] at this
      exact this
    clear K3 K4
    go_wp2_with fail
    (with_reducible refine K5.out.mono ?_)
    intro e W3 he
    obtain ⟨d, cd, rfl, hD, b3⟩ := lift_ok he Z3.out
    rw [Int.toNat_natCast, TW.out] at hD
    rw [lifC_len]
    have B3 := Lib.hid (B2.out.trans (b3.mono B2.out.size))
    have E3 : Hid (Calls Tryd.prog 26 #[.slice b C.length cb, .slice d C.length cd] W3 fun e w' => e = .returned (.bool true) ∧ Below W3.heap.size W3 w') := by
      have := eqC_c b d cb cd (lifC l M C) W3 (HB.out.below b3) hD
      rw [lifC_len] at this
      exact this
    clear b3 hD he K5
    go_wp2_with fail
    (with_reducible refine E3.out.mono ?_)
    rintro e W4 ⟨rfl, b4⟩
    have B4 := Lib.hid (B3.out.trans (b4.mono B3.out.size))
    clear b4
    go_wp2_with fail
    refine END.out W4 _ B4.out fun a' ca' a5 ca5 W5 hD b5 => ?_
    have B5 := Lib.hid b5
    have E5 := Lib.hid (eqC_c a' a2 ca' c2 C W5 hD (HC.out.below b5))
    clear hD b5
    go_wp2_with fail
    (with_reducible refine E5.out.mono ?_)
    rintro e W6 ⟨rfl, b6⟩
    have B6 := Lib.hid (B5.out.trans (b6.mono B5.out.size))
    clear b6
    go_wp2
    go_ret
    exact ⟨rfl, B6.out⟩
  · have hle' : decide (M ≤ N) = false := decide_eq_false (by omega)
    clear hle K3 K4
    go_wp2_with fail
    refine END.out W2 _ B2.out fun a' ca' a5 ca5 W5 hD b5 => ?_
    have B5 := Lib.hid b5
    have E5 := Lib.hid (eqC_c a' a2 ca' c2 C W5 hD (HC.out.below b5))
    clear hD b5
    go_wp2_with fail
    (with_reducible refine E5.out.mono ?_)
    rintro e W6 ⟨rfl, b6⟩
    have B6 := Lib.hid (B5.out.trans (b6.mono B5.out.size))
    clear b6
    go_wp2
    go_ret
    exact ⟨rfl, B6.out⟩
end Go.Proofs.YtgfjbilhgblbeaaDoor
namespace Go.Proofs.YtgfjbilhgblbeaaDoor
open Go.RowKit Go.WideMaps Go.Maps

theorem rwithin_c (n lo hi : Int) (w : World) : Calls Tryd.prog 36 #[.int .i64 n, .int .i64 lo, .int .i64 hi] w fun e w' => e = .returned (.bool (decide (lo ≤ n ∧ n ≤ hi))) ∧ w' = w := by
  by_cases h1 : lo ≤ n
  · by_cases h2 : n ≤ hi
    · have e : Hid (decide (lo ≤ n ∧ n ≤ hi) = true) := decide_eq_true ⟨h1, h2⟩
      go_enter Tryd.func36, Tryd.ntmps36
      go_wp2
      go_ret
      exact ⟨by rw [e.out]; rfl, rfl⟩
    · have e : Hid (decide (lo ≤ n ∧ n ≤ hi) = false) := decide_eq_false fun h => h2 h.2
      have h2' : decide (n ≤ hi) = false := decide_eq_false h2
      clear h2
      go_enter Tryd.func36, Tryd.ntmps36
      go_wp2
      go_ret
      exact ⟨by rw [e.out]; rfl, rfl⟩
  · have e : Hid (decide (lo ≤ n ∧ n ≤ hi) = false) := decide_eq_false fun h => h1 h.1
    have h1' : decide (lo ≤ n) = false := decide_eq_false h1
    clear h1
    go_enter Tryd.func36, Tryd.ntmps36
    go_wp2
    go_ret
    exact ⟨by rw [e.out]; rfl, rfl⟩
theorem titS_head {s : ByteArray} (h : 0 < s.size) (e : s[0].toNat = 32) : titS s = false := by
  unfold titS
  have : (bts s).head? = some 32 := by
    have hl : 0 < (bts s).length := by simpa [bts] using h
    rw [List.head?_eq_getElem?, List.getElem?_eq_getElem hl]
    congr 1
    have : s[0] = 32 := by
      apply UInt8.toNat.inj
      exact e
    rw [← this]; rfl
  rw [this]; simp
theorem titS_last {s : ByteArray} {k : Nat} (h : s.size = k + 1) (e : s[k].toNat = 32) : titS s = false := by
  unfold titS
  have : (bts s).getLast? = some 32 := by
    have hl : (bts s).length = k + 1 := by simpa [bts] using h
    rw [List.getLast?_eq_getElem?, hl, Nat.add_sub_cancel, List.getElem?_eq_getElem (by omega)]
    congr 1
    have : s[k] = 32 := by
      apply UInt8.toNat.inj
      exact e
    rw [← this]; rfl
  rw [this]; simp
theorem titS_ok {s : ByteArray} {k : Nat} (h : s.size = k + 1) (e0 : s[0].toNat ≠ 32) (e1 : s[k].toNat ≠ 32) (hb : ∀ j, (hj : j < s.size) → okB s[j] = true) : titS s = true := by
  rw [titS_good hb]
  have hl : (bts s).length = k + 1 := by simpa [bts] using h
  have h0 : bts s ≠ [] := by intro q; rw [q] at hl; simp at hl
  have h1 : (bts s).head? ≠ some 32 := by
    rw [List.head?_eq_getElem?, List.getElem?_eq_getElem (by omega)]
    intro q
    injection q with q
    apply e0
    have : s[0] = 32 := q
    rw [this]; rfl
  have h2 : (bts s).getLast? ≠ some 32 := by
    rw [List.getLast?_eq_getElem?, hl, Nat.add_sub_cancel, List.getElem?_eq_getElem (by omega)]
    intro q
    injection q with q
    apply e1
    have : s[k] = 32 := q
    rw [this]; rfl
  simp [h0, h1, h2]
set_option maxHeartbeats 1000000 in
theorem rtitled_c (s : ByteArray) (w : World) (hs : s.size ≤ 9223372036854775807) :
    Calls Tryd.prog 37 #[.string s] w fun e w' => e = .returned (.bool (titS s)) ∧ w' = w := by
  by_cases h0 : s.size = 0
  · have hl : bts s = [] := by
      have : (bts s).length = 0 := by simpa [bts] using h0
      exact List.eq_nil_of_length_eq_zero this
    have R : Hid (titS s = false) := by unfold Hid titS; rw [hl]; simp
    have f1 : (s.toList == []) = true := by rw [bts_list, hl]; rfl
    clear hl h0
    go_enter Tryd.func37, Tryd.ntmps37
    go_wp2
    go_ret
    exact ⟨by rw [R.out]; rfl, rfl⟩
  obtain ⟨m, hm⟩ : ∃ m, s.size = m + 1 := ⟨s.size - 1, by omega⟩
  have f1 : (s.toList == []) = false := by
    rw [beq_eq_false_iff_ne, bts_list]
    intro q
    have : (bts s).length = s.size := by simp [bts]
    rw [q] at this; simp at this; omega
  have hp : 0 < s.size := by omega
  have hp' : (0 : Int) < (s.size : Int) := by omega
  by_cases h1 : s[0].toNat = 32
  · have R := Lib.hid (titS_head hp h1)
    have g1 : ((s[0].toNat : Int) == 32) = true := by rw [beq_iff_eq]; omega
    clear h1
    go_enter Tryd.func37, Tryd.ntmps37
    go_wp2
    go_ret
    exact ⟨by rw [R.out]; rfl, rfl⟩
  have g1 : ((s[0].toNat : Int) == 32) = false := by rw [beq_eq_false_iff_ne]; omega
  have hm1 : (s.size : Int) - 1 = (m : Int) := by omega
  have hmlt : m < s.size := by omega
  have hm2 : (m : Int) < (s.size : Int) := by omega
  by_cases h2 : s[m].toNat = 32
  · have R := Lib.hid (titS_last hm h2)
    have g2 : ((s[m].toNat : Int) == 32) = true := by rw [beq_iff_eq]; omega
    clear h1 h2
    go_enter Tryd.func37, Tryd.ntmps37
    go_wp2
    go_ret
    exact ⟨by rw [R.out]; rfl, rfl⟩
  have g2 : ((s[m].toNat : Int) == 32) = false := by rw [beq_eq_false_iff_ne]; omega
  have HOK := Lib.hid (titS_ok hm h1 h2)
  clear h1 h2 h0
  go_enter Tryd.func37, Tryd.ntmps37
  go_wp2
  clear g1 g2 f1 hm1
  go_loop [3, 21] (fun _ i => ∃ k : Nat, k ≤ s.size ∧ i = .int .i64 k ∧ Hid (∀ j, (hj : j < s.size) → j < k → okB s[j] = true)) (fun _ i => s.size - (intOf i).toNat)
  case atStart => exact ⟨0, Nat.zero_le _, rfl, fun j _ h => absurd h (Nat.not_lt_zero _)⟩
  case round =>
    obtain ⟨k, hk, rfl, hR⟩ := hrel
    by_cases hlt : k < s.size
    · have hlt' : (k : Int) < (s.size : Int) := by omega
      have hB := Lib.hid (titS_bad hlt)
      have NX : Hid (okB s[k] = true → ∀ j, (hj : j < s.size) → j < k + 1 → okB s[j] = true) := fun h j hj hk => by
        by_cases e : j = k
        · subst e; exact h
        · exact hR.out j hj (by omega)
      have HW : Hid (Calls Tryd.prog 36 #[.int .i64 (s[k].toNat : Nat), .int .i64 32, .int .i64 126] w fun e w' => e = .returned (.bool (okB s[k])) ∧ w' = w) := by
        have := rwithin_c (s[k].toNat : Nat) 32 126 w
        have e : decide ((32 : Int) ≤ (s[k].toNat : Int) ∧ (s[k].toNat : Int) ≤ 126) = okB s[k] := by
          unfold okB
          rw [Bool.eq_iff_iff, decide_eq_true_iff, decide_eq_true_iff]
          omega
        rw [e] at this
        exact this
      have hw64 : wrap64 ((s[k].toNat : Nat) : Int) = ((s[k].toNat : Nat) : Int) := by
        have := UInt8.toNat_lt s[k]
        unfold wrap64
        omega
      clear hR HOK
      by_cases h1 : okB s[k] = true
      · have N2 := Lib.hid (NX.out h1)
        rw [h1] at HW
        clear h1 hB NX
        go_wp2_with fail
        (with_reducible refine HW.out.mono ?_)
        rintro e w' ⟨rfl, hw⟩
        have hw := hw.symm
        subst hw
        go_wp2
        go_round
        case rel => exact ⟨k + 1, by omega, by go_num, N2.out⟩
        case measure => simp [intOf]; omega
      · have h1' : okB s[k] = false := by simpa using h1
        have R := Lib.hid (hB.out h1')
        rw [h1'] at HW
        clear h1 h1' hB NX
        go_wp2_with fail
        (with_reducible refine HW.out.mono ?_)
        rintro e w' ⟨rfl, hw⟩
        have hw := hw.symm
        subst hw
        go_wp2
        go_ret
        exact ⟨by rw [R.out]; rfl, rfl⟩
    · obtain rfl : k = s.size := by omega
      have R := Lib.hid (HOK.out fun j hj => hR.out j hj hj)
      clear hlt
      go_wp2
      go_ret
      exact ⟨by rw [R.out]; rfl, rfl⟩
/-- The place of a code. -/
def FndP (l : List Nd) (c : Int) (r : Int) : Prop := (r = -1 ∧ ∀ j, j < l.length → (nd l j).cd ≠ c) ∨ ∃ j, j < l.length ∧ r = (j : Int) ∧ (nd l j).cd = c
set_option maxHeartbeats 1000000 in
theorem rfind_c (a : Option Addr) (ca : Nat) (l : List Nd) (c : Int) (w : World) (hl : RdN w a l) :
    Calls Tryd.prog 38 #[.slice a l.length ca, .int .i64 c] w fun e w' => (∃ r : Int, e = .returned (.int .i64 r) ∧ FndP l c r) ∧ Below w.heap.size w w' := by
  have HL := Lib.hid hl
  have h9 := hl.1
  clear hl
  go_enter Tryd.func38, Tryd.ntmps38
  go_wp2
  go_loopw [5, 9] (fun _ i wr => ∃ k : Nat, k ≤ l.length ∧ i = .int .i64 k ∧ Hid (Below w.heap.size w wr ∧ ∀ j, j < k → (nd l j).cd ≠ c)) (fun _ i _ => l.length - (intOf i).toNat)
  case atStart => exact ⟨0, Nat.zero_le _, rfl, Below.refl _ _, fun j h => absurd h (Nat.not_lt_zero _)⟩
  case round =>
    obtain ⟨k, hk, rfl, hS⟩ := hrel
    by_cases hlt : k < l.length
    · obtain ⟨b', off, rfl, u0, u1, u2⟩ := (HL.out.below hS.out.1).at_ hlt
      have hlt' : (k : Int) < (l.length : Int) := by omega
      obtain ⟨W1, hW1⟩ : ∃ W1, wr.alloc (.cells #[.int .i64 (nd l k).cd, .int .i64 (nd l k).pr, .string (nd l k).ti] 56) = W1 := ⟨_, rfl⟩
      have N1 : Hid (NodeB wr W1 (nd l k)) := by unfold Hid; rw [← hW1]; exact node_b _ _
      have v0 := N1.out.2.2.1
      have B1 := Lib.hid (hS.out.1.trans (N1.out.1.mono hS.out.1.size))
      by_cases e : (nd l k).cd = c
      · have R : Hid (FndP l c (k : Int)) := Or.inr ⟨k, hlt, rfl, e⟩
        have e' : ((nd l k).cd == c) = true := by rw [beq_iff_eq]; exact e
        clear hS N1 e
        go_wp2
        go_ret
        exact ⟨⟨_, rfl, R.out⟩, B1.out⟩
      · have NX : Hid (Below w.heap.size w W1 ∧ ∀ j, j < k + 1 → (nd l j).cd ≠ c) := ⟨B1.out, fun j hj => by
          by_cases q : j = k
          · rw [q]; exact e
          · exact hS.out.2 j (by omega)⟩
        have e' : ((nd l k).cd == c) = false := by rw [beq_eq_false_iff_ne]; exact e
        clear hS N1 e
        go_wp2
        go_roundw
        case rel => exact ⟨k + 1, by omega, by go_num, NX.out⟩
        case measure => simp [intOf]; omega
    · obtain rfl : k = l.length := by omega
      have R : Hid (FndP l c (-1)) := Or.inl ⟨rfl, hS.out.2⟩
      clear hlt
      go_wp2
      go_ret
      exact ⟨⟨_, rfl, R.out⟩, hS.out.1⟩
end Go.Proofs.YtgfjbilhgblbeaaDoor
namespace Go.Proofs.YtgfjbilhgblbeaaDoor
open Go.RowKit Go.WideMaps Go.Maps

theorem clm_is {p : Nat → Nat} (h0 : p 0 = 0) {f k c : Nat} (h1 : it p k c ≠ 0) (h2 : it p (k + 1) c = 0) (hf : k + 1 ≤ f) : clm p f c = k + 1 := by
  have a : ¬ k + 1 < clm p f c := fun h => clm_ne h h2
  by_cases b : clm p f c < f
  · have c1 := clm_it b
    by_cases e : clm p f c ≤ k
    · exact absurd (it_stays h0 c1 e) h1
    · omega
  · have := clm_le (p := p) (f := f) (c := c)
    omega
/-- The numbers above a code. -/
def abL (p : Nat → Nat) (c k : Nat) : List Int := (List.range k).map fun i => ((it p (i + 1) c : Nat) : Int)
theorem abL_len (p : Nat → Nat) (c k : Nat) : (abL p c k).length = k := by unfold abL; simp
theorem abL_succ (p : Nat → Nat) (c k : Nat) : abL p c (k + 1) = abL p c k ++ [((it p (k + 1) c : Nat) : Int)] := by unfold abL; rw [List.range_succ, List.map_append]; rfl
def stp (l : List Nd) (c : Nat) : Nat := clm (par l) (l.length + 2) c
def AbP (l : List Nd) (c : Nat) (w : World) (e : Ending) (w' : World) : Prop :=
  (l.length + 1 < stp l c ∧ e = .returned (.tuple #[.slice none 0 0, .bool false]) ∧ Below w.heap.size w w') ∨
  (stp l c ≤ l.length + 1 ∧ ∃ v, e = .returned (.tuple #[v, .bool true]) ∧ w'.ownsRow w.heap.size 3 1 v (stp l c - 1) ((abL (par l) c (stp l c - 1)).map (Value.int .i64)) ∧ Below w.heap.size w w')
theorem fnd_at {l : List Nd} {c : Nat} {r : Int} (h : FndP l (c : Int) r) (hc : Has l c) : ∃ j, j < l.length ∧ r = (j : Int) ∧ (nd l j).cd = (c : Int) := by
  rcases h with ⟨_, h⟩ | h
  · obtain ⟨k, hk, e⟩ := hc
    exact absurd e (h k hk)
  · exact h
theorem pr_it {l : List Nd} (h : Ord l) (hk : Kn l) {c j : Nat} (hj : j < l.length) (e : (nd l j).cd = (c : Int)) : (nd l j).pr = ((par l c : Nat) : Int) := by
  rw [par_at h hj e]
  rcases hk j hj with q | ⟨i, hi, q⟩
  · rw [q]; rfl
  · have := h.rng i hi
    omega
set_option maxRecDepth 100000 in
set_option maxHeartbeats 4000000 in
theorem rabove_c (a : Option Addr) (ca : Nat) (l : List Nd) (c : Nat) (w : World) (hl : RdN w a l) (hO : Ord l) (hK : Kn l) (hn : l.length ≤ 600) (hc : Has l c) :
    Calls Tryd.prog 39 #[.slice a l.length ca, .int .i64 (c : Nat)] w (AbP l c w) := by
  obtain ⟨i0, hi, hz0, hz1, hz2⟩ := info_parts infoI
  have HL := Lib.hid hl
  have HOK := Lib.hid (And.intro hO hK)
  have HF := Lib.hid (fun (d : Nat) W (hb : Below w.heap.size w W) => rfind_c a ca l (d : Int) W (hl.below hb))
  have HC := Lib.hid hc
  have HT := Lib.hid (par_top hO)
  have hp := has_pos hO hc
  clear hl hO hK hc
  go_enter Tryd.func39, Tryd.ntmps39
  go_wp2_with fail
  (with_reducible refine (HF.out c w (Below.refl _ _)).mono ?_)
  rintro e w1 ⟨⟨r, rfl, hr⟩, b1⟩
  obtain ⟨j0, hj0, rfl, ej0⟩ := fnd_at hr HC.out
  have B1 := Lib.hid b1
  have S0 : Hid (w1.ownsRow w.heap.size 3 1 (.slice none 0 0) 0 ((abL (par l) c 0).map (Value.int .i64)) ∧ Below w.heap.size w w1 ∧ (nd l j0).cd = ((it (par l) 0 c : Nat) : Int)) := ⟨World.ownsRow_nil _ _ _ _, b1, ej0⟩
  clear hr b1 ej0
  go_wp2_with fail
  go_loopw [6, 7] (fun v i wr => ∃ k j : Nat, j < l.length ∧ k ≤ l.length ∧ i = .int .i64 j ∧ Hid (wr.ownsRow w.heap.size 3 1 v k ((abL (par l) c k).map (Value.int .i64)) ∧ Below w.heap.size w wr ∧ (nd l j).cd = ((it (par l) k c : Nat) : Int))) (fun v _ _ => l.length + 1 - (match v with | .slice _ n _ => n | _ => 0))
  case atStart => exact ⟨0, j0, hj0, Nat.zero_le _, rfl, S0.out⟩
  case round =>
    clear S0 B1
    obtain ⟨k, j, hj, hk, rfl, hS⟩ := hrel
    obtain ⟨b', off, rfl, u0, u1, u2⟩ := (HL.out.below hS.out.2.1).at_ hj
    have hj' : (j : Int) < (l.length : Int) := by omega
    have epr := pr_it HOK.out.1 HOK.out.2 hj hS.out.2.2
    rw [← it_succ (p := par l)] at epr
    have hne : it (par l) k c ≠ 0 := by
      have := HOK.out.1.rng j hj
      have := hS.out.2.2
      omega
    have hmv : ∃ a n cc, u6 = .slice a n cc ∧ n = k := by
      rcases hS.out.1.2 with ⟨rfl, h⟩ | ⟨g, cap, cur, rfl, _⟩
      · exact ⟨none, 0, 0, rfl, h.symm⟩
      · exact ⟨_, _, _, rfl, rfl⟩
    by_cases hz : it (par l) (k + 1) c = 0
    · have ST : Hid (stp l c = k + 1) := clm_is HT.out hne hz (by omega)
      rw [hz] at epr
      rw [epr] at u1
      have R : Hid (AbP l c w (.returned (.tuple #[u6, .bool true])) wr) := Or.inr ⟨by rw [ST.out]; omega, u6, rfl, by rw [ST.out, Nat.add_sub_cancel]; exact hS.out.1, hS.out.2.1⟩
      clear hS epr hne hz hmv
      go_wp2
      go_ret2
      exact R.out
    · obtain ⟨d, hd⟩ : ∃ d, it (par l) (k + 1) c = d := ⟨_, rfl⟩
      rw [hd] at epr hz
      rw [epr] at u1
      have hd0 : ((d : Int) == 0) = false := by rw [beq_eq_false_iff_ne]; omega
      have hd1 : ((d : Int) != 0) = true := by rw [bne, hd0]; rfl
      have HD := Lib.hid hd
      have HZ := Lib.hid hz
      have hin : Has l d := by
        rcases par_in HOK.out.1 HOK.out.2 (c := it (par l) k c) with h | h
        · rw [← it_succ (p := par l), hd] at h; exact absurd h hz
        · rw [← it_succ (p := par l), hd] at h; exact h
      have HIN := Lib.hid hin
      clear hne hz epr hin hd
      obtain ⟨av, nv, cv, rfl, rfl⟩ := hmv
      have hown := hS.out.1
      have hbel := Lib.hid hS.out.2.1
      have u1' : wr.cell? ⟨b', off + j * 3 + 1, none⟩ = some (.int .i64 (d : Nat)) := u1
      go_wp2_with (at_builtin; refine wpList_append_own _ rfl _ _ 27 rfl w.heap.size 3 i0 (.int .i64 0) 1 8 Tryd.underlying27 hi hz0 hz1 hz2 rfl (by decide) _ _ _ rfl (hown.alloc _) ⟨wr.heap.size, 0, none⟩ 1 1 [.int .i64 (d : Nat)] rfl rfl (cell_one_new _ _ _) (ints_oneCell .i64 [((d : Nat) : Int)]) ?c3 ?c4 ?c5 ?_)
      case c3 => unfold maxLen; omega
      case c4 => omega
      case c5 => have := hbel.out.size; simp; omega
      intro v' w4 hown' hgrow _
      have OW : Hid (w4.ownsRow w.heap.size 3 1 v' (nv + 1) ((abL (par l) c (nv + 1)).map (Value.int .i64))) := by
        rw [abL_succ, List.map_append, HD.out]; exact hown'
      have B4 : Hid (Below w.heap.size w w4) := by
        have hs := hbel.out.size
        exact (hbel.out.trans ((bel_one wr _).mono hs)).grown hgrow (by simp; omega) (fun g hg => (hown.lt g hg).1)
      clear hown' hgrow hown
      obtain ⟨av', cv', rfl⟩ : ∃ a c, v' = .slice a (nv + 1) c := by
        rcases OW.out.2 with ⟨_, h⟩ | ⟨g, cap, cur, rfl, _⟩
        · omega
        · exact ⟨_, _, rfl⟩
      have hS2 := Lib.hid hS.out.2.2
      clear hS u0 u1 u2 u1'
      by_cases hfull : l.length < nv + 1
      · have hfull' : (l.length : Int) < ((nv + 1 : Nat) : Int) := by omega
        have R : Hid (AbP l c w (.returned (.tuple #[.slice none 0 0, .bool false])) w4) := by
          refine Or.inl ⟨?_, rfl, B4.out⟩
          have e : nv = l.length := by omega
          subst e
          unfold stp
          exact (clm_full HT.out (f := l.length + 1)).2 (by rw [HD.out]; exact HZ.out)
        clear hfull
        go_wp2
        go_ret2
        exact R.out
      · have hfull' : ¬ (l.length : Int) < ((nv + 1 : Nat) : Int) := by omega
        obtain ⟨b9, off9, e9, v0, v1, v2⟩ := (HL.out.below B4.out).at_ hj
        injection e9 with e9; injection e9 with e9 e10; subst e9; subst e10
        rw [show (nd l j).pr = ((d : Nat) : Int) from by rw [pr_it HOK.out.1 HOK.out.2 hj hS2.out, ← it_succ (p := par l), HD.out]] at v1
        have HG := Lib.hid (HF.out d w4 B4.out)
        clear hfull
        go_wp2_with fail
        (with_reducible refine HG.out.mono ?_)
        rintro e w5 ⟨⟨r, rfl, hr⟩, b5⟩
        obtain ⟨j', hj', rfl, ej'⟩ := fnd_at hr HIN.out
        have NX : Hid (w5.ownsRow w.heap.size 3 1 (.slice av' (nv + 1) cv') (nv + 1) ((abL (par l) c (nv + 1)).map (Value.int .i64)) ∧ Below w.heap.size w w5 ∧ (nd l j').cd = ((it (par l) (nv + 1) c : Nat) : Int)) :=
          ⟨own_keep OW.out b5, B4.out.trans (b5.mono B4.out.size), by rw [HD.out]; exact ej'⟩
        clear b5 hr ej' v0 v1 v2
        go_wp2
        go_roundw
        case rel => exact ⟨nv + 1, j', hj', by omega, rfl, NX.out⟩
        case measure => simp; omega
end Go.Proofs.YtgfjbilhgblbeaaDoor
