/-
  CodeLiftsAgree: the law.
-/
import Derived.Test.YthdmodmplpoejaaDoorCdRecode
namespace Go.Proofs.YthdmodmplpoejaaDoor
open Go.RowKit Go.WideMaps Go.Maps

theorem bel_drewN (w : World) (n : Nat) : Below w.heap.size w (w.drewN n) := below_drewN (Below.refl _ _) n
set_option maxHeartbeats 1000000 in
theorem eqC_c (a1 a2 : Option Addr) (c1 c2 : Nat) (C : List Cg) (w : World) (h1 : RdC w a1 C) (h2 : RdC w a2 C) :
    Calls Tryd.prog 26 #[.slice a1 C.length c1, .slice a2 C.length c2] w fun e w' => e = .returned (.bool true) ∧ Below w.heap.size w w' := by
  have H1 := Lib.hid h1
  have H2 := Lib.hid h2
  have h9 := h1.1
  clear h1 h2
  go_enter Tryd.func26, Tryd.ntmps26
  go_wp2
  go_loopw [5, 13] (fun _ i wr => ∃ k : Nat, k ≤ C.length ∧ i = .int .i64 k ∧ Hid (Below w.heap.size w wr)) (fun _ i _ => C.length - (intOf i).toNat)
  case atStart => exact ⟨0, Nat.zero_le _, rfl, Below.refl _ _⟩
  case round =>
    obtain ⟨k, hk, rfl, hR⟩ := hrel
    by_cases hlt : k < C.length
    · have hlt' : (k : Int) < (C.length : Int) := by omega
      obtain ⟨b1, o1, rfl, p0, p1, p2⟩ := (H1.out.below hR.out).at_ hlt
      obtain ⟨b2, o2, rfl, q0, q1, q2⟩ := (H2.out.below hR.out).at_ hlt
      generalize (cg C k).ca = x0 at *
      generalize (cg C k).co = x1 at *
      generalize (cg C k).cd = x2 at *
      go_wp2_with fail
      go_quiet (fail)
      have NX : Hid (Below w.heap.size w (wr.drewN nq)) := hR.out.trans ((bel_drewN _ _).mono hR.out.size)
      clear p0 p1 p2 q0 q1 q2
      go_wp2
      go_roundw
      case rel => exact ⟨k + 1, by omega, by go_num, NX.out⟩
      case measure => simp [intOf]; omega
    · obtain rfl : k = C.length := by omega
      go_wp2
      go_ret
      exact ⟨rfl, hR.out⟩

/-! ### What was lifted -/
theorem lif_cd {l : List Nd} (F : Fr l) {c n : Nat} (hc : Has l c) (hn : 1 ≤ n) : Has l (it (par l) (lev l c - n) c) ∧ lev l (it (par l) (lev l c - n) c) = lev l c - (lev l c - n) := by
  have T := F.tree
  have h1 := T.lvIt (k := lev l c - n) (Or.inr hc)
  have h2 := F.lev hc
  refine ⟨?_, h1⟩
  rcases T.inIt (k := lev l c - n) (Or.inr hc) with h | h
  · rw [h] at h1
    rw [T.zero] at h1
    omega
  · exact h
theorem lif_lif {l : List Nd} (F : Fr l) {c n m : Nat} (hc : Has l c) (hm : m ≤ n) (hm1 : 1 ≤ m) :
    it (par l) (lev l (it (par l) (lev l c - n) c) - m) (it (par l) (lev l c - n) c) = it (par l) (lev l c - m) c := by
  rw [(lif_cd F hc (by omega)).2, ← it_add]
  congr 1
  omega
theorem cgsS_same {h : Int → Bool} {C D : List Cg} (hl : D.length = C.length) (e : ∀ k, k < C.length → (cg D k).ca = (cg C k).ca ∧ (cg D k).co = (cg C k).co ∧ h (cg D k).cd = true) (h0 : cgsS h C = 0) : cgsS h D = 0 := by
  have hz := fe_zero (s := cgE h C) (n := C.length) (by
    unfold cgsS at h0
    by_cases q : 20000 < C.length
    · rw [if_pos q] at h0; simp at h0
    · rw [if_neg q] at h0; exact h0)
  have hn := (cgs_ok h0).1
  unfold cgsS
  rw [hl, if_neg (by omega)]
  refine fe_all fun k hk => ?_
  have z := hz k hk
  obtain ⟨e1, e2, e3⟩ := e k hk
  have el : (lst D k).ca = (lst C k).ca ∧ (lst D k).co = (lst C k).co := by
    unfold lst
    by_cases q : k = 0
    · rw [if_pos q, if_pos q]; exact ⟨rfl, rfl⟩
    · rw [if_neg q, if_neg q]; exact ⟨(e (k - 1) (by omega)).1, (e (k - 1) (by omega)).2.1⟩
  unfold cgE at z ⊢
  rw [e1, e2, e3, el.1, el.2]
  by_cases g : (cg C k).ca < 1 ∨ (cg C k).co < 1 ∨ 50 < (cg C k).co
  · rw [if_pos g] at z; simp at z
  rw [if_neg g] at z ⊢
  rw [if_neg (by simp)]
  by_cases g2 : h (cg C k).cd = false
  · rw [if_pos g2] at z; simp at z
  rw [if_neg g2] at z
  exact z
theorem lif_ok {l : List Nd} {C : List Cg} {n : Nat} (h0 : forS l C = 0) (hn : 1 ≤ n) : forS l (lifC l n C) = 0 := by
  obtain ⟨F, hc, _, hcs⟩ := for_ok h0
  unfold forS at h0 ⊢
  by_cases q : frS l ≠ 0
  · rw [if_pos q] at h0; exact absurd h0 q
  rw [if_neg q] at h0 ⊢
  refine cgsS_same (lifC_len l n C) (fun k hk => ?_) h0
  obtain ⟨c, ec, hc⟩ := hcs k hk
  rw [lifC_at hk]
  refine ⟨rfl, rfl, ?_⟩
  show hasS l _ = true
  rw [hasS_iff F]
  refine ⟨_, rfl, ?_⟩
  rw [ec, Int.toNat_natCast]
  exact (lif_cd F hc hn).1
theorem lif_twice {l : List Nd} {C : List Cg} {n m : Nat} (h0 : forS l C = 0) (hm : m ≤ n) (hm1 : 1 ≤ m) : lifC l m (lifC l n C) = lifC l m C := by
  obtain ⟨F, _, _, hcs⟩ := for_ok h0
  unfold lifC
  rw [List.map_map]
  refine List.map_congr_left fun u hu => ?_
  obtain ⟨k, hk, rfl⟩ := List.getElem_of_mem hu
  obtain ⟨c, ec, hc⟩ := hcs k hk
  rw [cg_is hk] at ec
  show lif l m (lif l n C[k]) = lif l m C[k]
  unfold lif
  dsimp only
  rw [ec, Int.toNat_natCast, Int.toNat_natCast, lif_lif F hc hm hm1]
/-! ### A frame that is recoded to itself -/
theorem tK_at {l : List Nd} (h : Ord l) {j : Nat} : ∀ {n : Nat}, n ≤ l.length → j < n → tK l (nd l j).cd n = some (nd l j).ti
  | n + 1, hn, hj => by
    unfold tK
    by_cases e : (nd l j).cd = (nd l n).cd
    · rw [if_pos e, h.inj (by omega) (by omega) e]
    · rw [if_neg e]
      have : j ≠ n := fun q => e (by rw [q])
      exact tK_at h (by omega) (by omega)
theorem oK_at {l : List Nd} (h : Ord l) {f : Int → Option ByteArray} (hf : ∀ j, j < l.length → same f l j = true) {j : Nat} : ∀ {n : Nat}, n ≤ l.length → j < n → oK f l (nd l j).cd n = some (nd l j).cd
  | n + 1, hn, hj => by
    unfold oK
    by_cases e : (nd l j).cd = (nd l n).cd
    · rw [if_pos ⟨hf n (by omega), e⟩, e]
    · rw [if_neg (fun q => e q.2)]
      have : j ≠ n := fun q => e (by rw [q])
      exact oK_at h hf (by omega) (by omega)
theorem su_self {l : List Nd} (F : Fr l) {c : Nat} (hc : Has l c) : suS l l [] (c : Int) = c := by
  obtain ⟨j, hj, e⟩ := hc
  unfold suS suO
  show (oK (fun s => tK l s l.length) l (c : Int) l.length).getD 0 = _
  rw [← e, oK_at F.ord (fun k hk => by unfold same; dsimp only; rw [tK_at F.ord (Nat.le_refl _) hk]; simp) (Nat.le_refl _) hj]
  rfl
theorem car_self {f : Int → Int} : ∀ {C : List Cg}, (∀ u, u ∈ C → f u.cd = u.cd ∧ u.cd ≠ 0) → carL f C = C ∧ lefL f C = []
  | [], _ => ⟨rfl, rfl⟩
  | u :: C, h => by
    have hu := h u (by simp)
    obtain ⟨i1, i2⟩ := car_self (C := C) fun x hx => h x (by simp [hx])
    unfold carL at i1
    unfold lefL at i2
    unfold carL lefL
    have h1 : decide (f u.cd ≠ 0) = true := decide_eq_true (by rw [hu.1]; exact hu.2)
    have h2 : decide (f u.cd = 0) = false := decide_eq_false (by rw [hu.1]; exact hu.2)
    rw [List.filter_cons, List.filter_cons, if_pos h1, if_neg (by rw [h2]; simp), i2, List.map_cons, i1, hu.1]
    exact ⟨rfl, rfl⟩
theorem re_self {l : List Nd} {C : List Cg} (h0 : forS l C = 0) : reE l l [] C = 0 ∧ carL (suS l l []) C = C ∧ lefL (suS l l []) C = [] := by
  obtain ⟨F, hc, _, hcs⟩ := for_ok h0
  unfold forS at h0
  by_cases q : frS l ≠ 0
  · rw [if_pos q] at h0; exact absurd h0 q
  refine ⟨?_, car_self fun u hu => ?_⟩
  · unfold reE
    rw [if_neg q, if_neg q]
    have : mvS (hasB (lev l)) (hasB (lev l)) [] = 0 := rfl
    rw [this, if_neg (by simp)]
    exact hc
  · obtain ⟨k, hk, rfl⟩ := List.getElem_of_mem hu
    obtain ⟨c, ec, hcc⟩ := hcs k hk
    rw [cg_is hk] at ec
    rw [ec]
    have := has_pos F.ord hcc
    exact ⟨su_self F hcc, by omega⟩
theorem lifE_r {l : List Nd} {C : List Cg} {m : Int} (h : liE l C m = 0) : forS l C = 0 ∧ 1 ≤ m ∧ m ≤ 8 := by
  unfold liE at h
  by_cases q : forS l C ≠ 0
  · rw [if_pos q] at h; exact absurd h q
  rw [if_neg q] at h
  by_cases r : m < 1 ∨ 8 < m
  · rw [if_pos r] at h; simp at h
  · exact ⟨by omega, by omega, by omega⟩
theorem lift_ok {l : List Nd} {C : List Cg} {n : Int} {w w' : World} {e : Ending} (h : LiP l C n w e w') (hz : liE l C n = 0) : ∃ a c, e = .returned (.tuple #[.slice a C.length c, .int .i64 0]) ∧ RdC w' a (lifC l n.toNat C) ∧ Below w.heap.size w w' := by
  rcases h with ⟨_, h⟩ | ⟨h, _⟩
  · exact h
  · exact absurd hz h
theorem lift_no {l : List Nd} {C : List Cg} {n : Int} {w w' : World} {e : Ending} (h : LiP l C n w e w') (hz : liE l C n ≠ 0) : e = .returned (.tuple #[.slice none 0 0, .int .i64 (liE l C n)]) ∧ Below w.heap.size w w' := by
  rcases h with ⟨h, _⟩ | ⟨_, h⟩
  · exact absurd h hz
  · exact h
theorem fit_lif {l : List Nd} {C : List Cg} {n : Nat} (h : FitsC C) (F : Fr l) (hcs : ∀ k, k < C.length → ∃ c : Nat, (cg C k).cd = c ∧ Has l c) (hn : 1 ≤ n) : FitsC (lifC l n C) := by
  intro u hu
  unfold lifC at hu
  obtain ⟨x, hx, rfl⟩ := List.mem_map.1 hu
  obtain ⟨k, hk, rfl⟩ := List.getElem_of_mem hx
  obtain ⟨c, ec, hc⟩ := hcs k hk
  rw [cg_is hk] at ec
  have := h _ hx
  refine ⟨this.1, this.2.1, ?_⟩
  show in64 ((it (par l) (lev l C[k].cd.toNat - n) C[k].cd.toNat : Nat) : Int)
  rw [ec, Int.toNat_natCast]
  have := has_pos F.ord (lif_cd F hc hn).1
  unfold in64; omega

set_option maxRecDepth 100000 in
set_option maxHeartbeats 4000000 in
theorem law_lifts (sa : Option Addr) (c : Nat) (l : List Nd) (a2 : Option Addr) (c2 : Nat) (C : List Cg) (n m : Int) (w : World) (hl : RdN w sa l) (hf : Fits l) (hC : RdC w a2 C) (fC : FitsC C) :
    Calls Tryd.prog 7 #[.slice sa l.length c, .slice a2 C.length c2, .int .i64 n, .int .i64 m] w fun e w' => e = .returned (.bool true) ∧ Below w.heap.size w w' := by
  have K1 := Lib.hid (Lift_c sa c l a2 c2 C n w hl hf hC)
  have K2 := Lib.hid (fun W (hb : Below w.heap.size w W) => Lift_c sa c l a2 c2 C m W (hl.below hb) hf (hC.below hb))
  have K3 := Lib.hid (fun W (hb : Below w.heap.size w W) (a : Option Addr) (cc : Nat) (D : List Cg) (hD : RdC W a D) => Lift_c sa c l a cc D m W (hl.below hb) hf hD)
  have K4 := Lib.hid (fun W (hb : Below w.heap.size w W) => Recode_c sa c l sa c l none 0 [] a2 c2 C W (hl.below hb) hf (hl.below hb) hf ⟨by simp, fun h => by simp at h⟩ (fun u hu => by cases hu) (hC.below hb) fC)
  have HC := Lib.hid hC
  have h9 := hC.1
  clear hl hf hC fC
  by_cases z1 : liE l C n ≠ 0
  · obtain ⟨f, hfl⟩ : ∃ f, liE l C n = f := ⟨_, rfl⟩
    have HZ := Lib.hid z1
    have f1 : (f == 0) = false := by rw [beq_eq_false_iff_ne, ← hfl]; exact z1
    have f2 : (f != 0) = true := by rw [bne, f1]; rfl
    have HFL := Lib.hid hfl
    clear z1 hfl K2 K3 K4
    go_enter Tryd.func7, Tryd.ntmps7
    go_wp2_with fail
    (with_reducible refine K1.out.mono ?_)
    intro e W1 he
    obtain ⟨rfl, b1⟩ := lift_no he HZ.out
    rw [HFL.out]
    have B1 := Lib.hid b1
    clear b1 he
    go_wp2
    go_ret
    exact ⟨rfl, B1.out⟩
  have z1 : liE l C n = 0 := by omega
  obtain ⟨h0, hn1, hn8⟩ := lifE_r z1
  obtain ⟨F, _, _, hcs⟩ := for_ok h0
  obtain ⟨N, rfl⟩ : ∃ N : Nat, n = N := ⟨n.toNat, by omega⟩
  obtain ⟨r0, r1, r2⟩ := re_self h0
  have RS := Lib.hid (And.intro r0 (And.intro r1 r2))
  have Z1 := Lib.hid z1
  have H0 := Lib.hid h0
  clear z1 r0 r1 r2
  go_enter Tryd.func7, Tryd.ntmps7
  go_wp2_with fail
  (with_reducible refine K1.out.mono ?_)
  intro e W1 he
  obtain ⟨a, ca, rfl, hA, b1⟩ := lift_ok he Z1.out
  rw [Int.toNat_natCast] at hA
  have B1 := Lib.hid b1
  have HA := Lib.hid hA
  clear b1 hA he
  have END : Hid (∀ (W : World) (Q : Ending → World → Prop), Below w.heap.size w W → (∀ (a : Option Addr) (ca : Nat) (a' : Option Addr) (ca' : Nat) (W' : World), RdC W' a C → Below w.heap.size w W' → Q (.returned (.tuple #[.slice a C.length ca, .slice a' 0 ca', .int .i64 0])) W') →
      Calls Tryd.prog 27 #[.slice sa l.length c, .slice sa l.length c, .slice none 0 0, .slice a2 C.length c2] W Q) := by
    intro W Q hb hQ
    refine (K4.out W hb).mono fun e W' he => ?_
    obtain ⟨_, v4, v5, rfl, ⟨a4, c4, rfl, h4⟩, ⟨a5, c5, rfl, h5⟩, b5⟩ | ⟨h, _⟩ := he
    · rw [RS.out.2.1] at h4 ⊢
      rw [RS.out.2.2] at h5 ⊢
      exact hQ a4 c4 a5 c5 W' h4 (hb.trans (b5.mono hb.size))
    · exact absurd RS.out.1 h
  by_cases z2 : liE l C m ≠ 0
  · obtain ⟨f, hfl⟩ : ∃ f, liE l C m = f := ⟨_, rfl⟩
    have HZ := Lib.hid z2
    have f1 : (f == 0) = false := by rw [beq_eq_false_iff_ne, ← hfl]; exact z2
    have f2 : (f != 0) = true := by rw [bne, f1]; rfl
    have HFL := Lib.hid hfl
    clear z2 hfl K3 K4 K1
    go_wp2_with fail
    (with_reducible refine (K2.out W1 B1.out).mono ?_)
    intro e W2 he
    obtain ⟨rfl, b2⟩ := lift_no he HZ.out
    rw [HFL.out]
    have B2 := Lib.hid (B1.out.trans (b2.mono B1.out.size))
    clear b2 he K2
    go_wp2_with fail
    refine END.out W2 _ B2.out fun a' ca' a5 ca5 W3 hD b3 => ?_
    have B3 := Lib.hid b3
    have E3 := Lib.hid (eqC_c a' a2 ca' c2 C W3 hD (HC.out.below b3))
    clear hD b3
    go_wp2_with fail
    (with_reducible refine E3.out.mono ?_)
    rintro e W4 ⟨rfl, b4⟩
    have B4 := Lib.hid (B3.out.trans (b4.mono B3.out.size))
    clear b4
    go_wp2
    go_ret
    exact ⟨rfl, B4.out⟩
  have z2 : liE l C m = 0 := by omega
  obtain ⟨_, hm1, hm8⟩ := lifE_r z2
  obtain ⟨M, rfl⟩ : ∃ M : Nat, m = M := ⟨m.toNat, by omega⟩
  have Z2 := Lib.hid z2
  clear z2
  go_wp2_with fail
  (with_reducible refine (K2.out W1 B1.out).mono ?_)
  intro e W2 he
  obtain ⟨b, cb, rfl, hB, b2⟩ := lift_ok he Z2.out
  rw [Int.toNat_natCast] at hB
  have B2 := Lib.hid (B1.out.trans (b2.mono B1.out.size))
  have HB := Lib.hid hB
  have HA2 := Lib.hid (HA.out.below b2)
  clear b2 hB he K2 K1 HA
  by_cases hle : (M : Int) ≤ (N : Int)
  · have Z3 : Hid (liE l (lifC l N C) M = 0) := by
      unfold Hid liE
      rw [lif_ok H0.out (by omega), if_neg (by simp), if_neg (by omega)]
    have TW := Lib.hid (lif_twice H0.out (show M ≤ N by omega) (by omega))
    have K5 : Hid (Calls Tryd.prog 24 #[.slice sa l.length c, .slice a C.length ca, .int .i64 (M : Int)] W2 (LiP l (lifC l N C) (M : Int) W2)) := by
      have := K3.out W2 B2.out a ca (lifC l N C) HA2.out
      rw [lifC_len] at this
      exact this
    clear K3 K4
    go_wp2_with fail
    (with_reducible refine K5.out.mono ?_)
    intro e W3 he
    obtain ⟨d, cd, rfl, hD, b3⟩ := lift_ok he Z3.out
    rw [Int.toNat_natCast, TW.out] at hD
    rw [lifC_len]
    have B3 := Lib.hid (B2.out.trans (b3.mono B2.out.size))
    have E3 : Hid (Calls Tryd.prog 26 #[.slice b C.length cb, .slice d C.length cd] W3 fun e w' => e = .returned (.bool true) ∧ Below W3.heap.size W3 w') := by
      have := eqC_c b d cb cd (lifC l M C) W3 (HB.out.below b3) hD
      rw [lifC_len] at this
      exact this
    clear b3 hD he K5
    go_wp2_with fail
    (with_reducible refine E3.out.mono ?_)
    rintro e W4 ⟨rfl, b4⟩
    have B4 := Lib.hid (B3.out.trans (b4.mono B3.out.size))
    clear b4
    go_wp2_with fail
    refine END.out W4 _ B4.out fun a' ca' a5 ca5 W5 hD b5 => ?_
    have B5 := Lib.hid b5
    have E5 := Lib.hid (eqC_c a' a2 ca' c2 C W5 hD (HC.out.below b5))
    clear hD b5
    go_wp2_with fail
    (with_reducible refine E5.out.mono ?_)
    rintro e W6 ⟨rfl, b6⟩
    have B6 := Lib.hid (B5.out.trans (b6.mono B5.out.size))
    clear b6
    go_wp2
    go_ret
    exact ⟨rfl, B6.out⟩
  · have hle' : decide (M ≤ N) = false := decide_eq_false (by omega)
    clear hle K3 K4
    go_wp2_with fail
    refine END.out W2 _ B2.out fun a' ca' a5 ca5 W5 hD b5 => ?_
    have B5 := Lib.hid b5
    have E5 := Lib.hid (eqC_c a' a2 ca' c2 C W5 hD (HC.out.below b5))
    clear hD b5
    go_wp2_with fail
    (with_reducible refine E5.out.mono ?_)
    rintro e W6 ⟨rfl, b6⟩
    have B6 := Lib.hid (B5.out.trans (b6.mono B5.out.size))
    clear b6
    go_wp2
    go_ret
    exact ⟨rfl, B6.out⟩
end Go.Proofs.YthdmodmplpoejaaDoor
