/-
  The reference of package code: Recode.
-/
import Derived.Test.YthdmodmplpoejaaDoorCdRlift
namespace Go.Proofs.YthdmodmplpoejaaDoor
open Go.RowKit Go.WideMaps Go.Maps

theorem mK_or (o : Int → Option Int) (M : List Mv) (s : Int) : ∀ n, mK o M s n = (mK (fun _ => none) M s n).or (o s)
  | 0 => rfl
  | n + 1 => by
    unfold mK
    by_cases e : s = (mv M n).fr
    · rw [if_pos e, if_pos e]; rfl
    · rw [if_neg e, if_neg e]; exact mK_or o M s n
theorem oK_is {l : List Nd} (h : Ord l) {f : Int → Option ByteArray} {j : Nat} : ∀ {n : Nat}, n ≤ l.length → j < l.length → oK f l (nd l j).cd n = if j < n ∧ same f l j = true then some (nd l j).cd else none
  | 0, _, _ => by rw [if_neg (by omega)]; rfl
  | n + 1, hn, hj => by
    unfold oK
    by_cases e : j = n
    · subst e
      by_cases q : same f l j = true
      · rw [if_pos ⟨q, rfl⟩, if_pos ⟨by omega, q⟩]
      · rw [if_neg (fun h => q h.1), if_neg (fun h => q h.2), oK_is h (by omega) hj, if_neg (fun h => q h.2)]
    · rw [if_neg (fun q => e (h.inj hj (by omega) q.2)), oK_is h (by omega) hj]
      by_cases q : j < n ∧ same f l j = true
      · rw [if_pos q, if_pos ⟨by omega, q.2⟩]
      · rw [if_neg q, if_neg (fun r => q ⟨by omega, r.2⟩)]
theorem tK_no {l : List Nd} {s : Int} : ∀ {n : Nat}, (∀ j, j < n → (nd l j).cd ≠ s) → tK l s n = none
  | 0, _ => rfl
  | n + 1, h => by
    unfold tK
    rw [if_neg (fun e => h n (by omega) e.symm)]
    exact tK_no fun j hj => h j (by omega)
/-- What the moves alone say. -/
abbrev mN (M : List Mv) (s : Int) (n : Nat) : Option Int := mK (fun _ => none) M s n
theorem su_moved {l1 l2 : List Nd} {M : List Mv} {s t : Int} (h : mN M s M.length = some t) : suS l1 l2 M s = t := by
  unfold mN at h
  unfold suS suO
  rw [mK_or, h]; rfl
theorem su_none {l1 l2 : List Nd} {M : List Mv} {j : Nat} (F1 : Fr l1) (hj : j < l1.length) (h : mN M (nd l1 j).cd M.length = none) (h2 : ∀ k, k < l2.length → (nd l2 k).cd ≠ (nd l1 j).cd) : suS l1 l2 M (nd l1 j).cd = 0 := by
  unfold mN at h
  unfold suS suO
  rw [mK_or, h, oK_is F1.ord (Nat.le_refl _) hj, if_neg]
  · rfl
  · intro q
    have q := q.2
    unfold same at q
    dsimp only at q
    rw [tK_no h2] at q
    have ht := (F1.tit j hj).2
    unfold titS at ht
    rw [Bool.and_eq_true, Bool.and_eq_true, decide_eq_true_iff] at ht
    rw [beq_iff_eq, bts_list, bts_list] at q
    exact ht.2.1 q.symm
theorem su_some {l1 l2 : List Nd} {M : List Mv} {j k : Nat} (F1 : Fr l1) (F2 : Fr l2) (hj : j < l1.length) (hk : k < l2.length) (h : mN M (nd l1 j).cd M.length = none) (e : (nd l2 k).cd = (nd l1 j).cd) :
    suS l1 l2 M (nd l1 j).cd = if ((nd l2 k).ti.toList == (nd l1 j).ti.toList) = true then (nd l1 j).cd else 0 := by
  unfold mN at h
  unfold suS suO
  rw [mK_or, h, oK_is F1.ord (Nat.le_refl _) hj]
  have hs : same (fun s => tK l2 s l2.length) l1 j = ((nd l2 k).ti.toList == (nd l1 j).ti.toList) := by
    unfold same
    dsimp only
    rw [← e, tK_at F2.ord (Nat.le_refl _) hk]
    rfl
  rw [hs]
  by_cases q : ((nd l2 k).ti.toList == (nd l1 j).ti.toList) = true
  · rw [if_pos ⟨hj, q⟩, if_pos q]; rfl
  · rw [if_neg (fun r => q r.2), if_neg q]; rfl
theorem cfg_frS {l : List Nd} {C : List Cg} (h : frS l = 0) : forS l C = cgsS (hasB (lev l)) C := by unfold forS; rw [if_neg (by simpa using h)]
/-- What region 31 reads. -/
def SR (b1 o1 b2 o2 nb : Nat) (t1 t2 : ByteArray) (cd : Int) (W : World) : Prop :=
  W.cell? ⟨b1, o1, none⟩ = some (.string t1) ∧ W.cell? ⟨b2, o2, none⟩ = some (.string t2) ∧ W.cell? ⟨nb, 2, none⟩ = some (.int .i64 cd)
set_option maxRecDepth 100000 in
set_option maxHeartbeats 16000000 in
theorem rRecode_c (a1 : Option Addr) (c1 : Nat) (l1 : List Nd) (a2 : Option Addr) (c2 : Nat) (l2 : List Nd) (a3 : Option Addr) (c3 : Nat) (M : List Mv) (a4 : Option Addr) (c4 : Nat) (C : List Cg) (w : World)
    (h1 : RdN w a1 l1) (f1 : Fits l1) (h2 : RdN w a2 l2) (f2 : Fits l2) (h3 : RdM w a3 M) (f3 : FitsM M) (h4 : RdC w a4 C) (f4 : FitsC C) :
    Calls Tryd.prog 28 #[.slice a1 l1.length c1, .slice a2 l2.length c2, .slice a3 M.length c3, .slice a4 C.length c4] w (RcP l1 l2 M C w) := by
  obtain ⟨i0, hi, hz0, hz1, hz2⟩ := info_parts infoC
  have m3 := h3.1
  have m4 := h4.1
  have H1 := Lib.hid h1
  have H2 := Lib.hid h2
  have H3 := Lib.hid h3
  have H4 := Lib.hid h4
  have F1 := Lib.hid f1
  have K1 := Lib.hid (rCheckFrame_c a1 c1 l1 w h1 f1)
  have K2 := Lib.hid (fun W (hb : Below w.heap.size w W) => rCheckFrame_c a2 c2 l2 W (h2.below hb) f2)
  clear h1 h2 h3 h4 f1 f2 f3 f4
  by_cases z1 : frS l1 ≠ 0
  · have HP : reE l1 l2 M C = frS l1 := by unfold reE; rw [if_pos z1]
    obtain ⟨f, hfl⟩ : ∃ f, frS l1 = f := ⟨_, rfl⟩
    have f1 : (f == 0) = false := by rw [beq_eq_false_iff_ne, ← hfl]; exact z1
    have f2 : (f != 0) = true := by rw [bne, f1]; rfl
    have HP : Hid (reE l1 l2 M C = f ∧ reE l1 l2 M C ≠ 0) := ⟨HP.trans hfl, by rw [HP]; exact z1⟩
    rw [hfl] at K1
    clear hfl z1
    go_enter Tryd.func28, Tryd.ntmps28
    go_wp2_with fail
    (with_reducible refine K1.out.mono ?_)
    rintro e W2 ⟨rfl, b2⟩
    have BB := Lib.hid b2
    clear b2
    go_wp2_with fail
    exact bodyPost_ret (v := .tuple #[.slice none 0 0, .slice none 0 0, .int .i64 f]) (by simp [results, Tryd.results28, go_sem]) rfl (Or.inr ⟨HP.out.2, by rw [HP.out.1], BB.out⟩)
  have z1 : frS l1 = 0 := by omega
  have HP1 : Hid (reE l1 l2 M C = if frS l2 ≠ 0 then frS l2 else if mvS (hasB (lev l1)) (hasB (lev l2)) M ≠ 0 then mvS (hasB (lev l1)) (hasB (lev l2)) M else cgsS (hasB (lev l1)) C) := by unfold Hid reE; rw [if_neg (by simpa using z1)]
  have Z1 := Lib.hid z1
  rw [z1] at K1
  clear z1
  go_enter Tryd.func28, Tryd.ntmps28
  go_wp2_with fail
  (with_reducible refine K1.out.mono ?_)
  rintro e W2 ⟨rfl, b2⟩
  have B2 := Lib.hid b2
  clear b2
  by_cases z2 : frS l2 ≠ 0
  · have HP : reE l1 l2 M C = frS l2 := by rw [HP1.out, if_pos z2]
    obtain ⟨f, hfl⟩ : ∃ f, frS l2 = f := ⟨_, rfl⟩
    have f1 : (f == 0) = false := by rw [beq_eq_false_iff_ne, ← hfl]; exact z2
    have f2 : (f != 0) = true := by rw [bne, f1]; rfl
    have HP : Hid (reE l1 l2 M C = f ∧ reE l1 l2 M C ≠ 0) := ⟨HP.trans hfl, by rw [HP]; exact z2⟩
    rw [hfl] at K2
    clear hfl z2
    go_wp2_with fail
    (with_reducible refine (K2.out W2 B2.out).mono ?_)
    rintro e W4 ⟨rfl, b4⟩
    have BB := Lib.hid (B2.out.trans (b4.mono B2.out.size))
    clear b4
    go_wp2_with fail
    exact bodyPost_ret (v := .tuple #[.slice none 0 0, .slice none 0 0, .int .i64 f]) (by simp [results, Tryd.results28, go_sem]) rfl (Or.inr ⟨HP.out.2, by rw [HP.out.1], BB.out⟩)
  have z2 : frS l2 = 0 := by omega
  have HP2 : Hid (reE l1 l2 M C = if mvS (hasB (lev l1)) (hasB (lev l2)) M ≠ 0 then mvS (hasB (lev l1)) (hasB (lev l2)) M else cgsS (hasB (lev l1)) C) := by unfold Hid; rw [HP1.out, if_neg (by simpa using z2)]
  have Z2 := Lib.hid z2
  have HFr1 := Lib.hid (fr_of Z1.out)
  have HFr2 := Lib.hid (fr_of z2)
  rw [z2] at K2
  clear z2 HP1
  go_wp2_with fail
  (with_reducible refine (K2.out W2 B2.out).mono ?_)
  rintro e W4 ⟨rfl, b4⟩
  have B4 := Lib.hid (B2.out.trans (b4.mono B2.out.size))
  clear b4
  go_wp2_with fail
  go_loopw [8, 9, 10, 13, 37] (fun v8 v9 v10 _ i wr => ∃ k : Nat, k ≤ M.length ∧ i = .int .i64 k ∧ v8 = .slice none 0 0 ∧ v9 = .slice none 0 0 ∧ v10 = .int .i64 0 ∧ Hid (Below w.heap.size w wr ∧ fe (mvE (hasB (lev l1)) (hasB (lev l2)) M) k = 0)) (fun _ _ _ _ i _ => M.length - (intOf i).toNat)
  case atStart => exact ⟨0, Nat.zero_le _, rfl, rfl, rfl, rfl, B4.out, rfl⟩
  case round =>
    obtain ⟨k, hk, rfl, rfl, rfl, rfl, hS⟩ := hrel
    by_cases hlt : k < M.length
    · obtain ⟨b', off, rfl, u0, u1⟩ := (H3.out.below hS.out.1).at_ hlt
      have hlt' : (k : Int) < (M.length : Int) := by omega
      have hF : Hid (mvE (hasB (lev l1)) (hasB (lev l2)) M k ≠ 0 → mvS (hasB (lev l1)) (hasB (lev l2)) M = mvE (hasB (lev l1)) (hasB (lev l2)) M k) := fun h => fe_at hlt hS.out.2 h
      have hN : Hid (fe (mvE (hasB (lev l1)) (hasB (lev l2)) M) (k + 1) = mvE (hasB (lev l1)) (hasB (lev l2)) M k) := fe_next hS.out.2
      obtain ⟨W1, hW1⟩ : ∃ W1, wr.alloc (.cells #[.int .i64 (mv M k).fr, .int .i64 (mv M k).tg] 101) = W1 := ⟨_, rfl⟩
      have N0 : Hid (MovB wr W1 (mv M k)) := by unfold Hid; rw [← hW1]; exact mov_b _ _
      have S1 := Lib.hid (hS.out.1.trans (N0.out.1.mono hS.out.1.size))
      have N1 := Lib.hid N0.out.2
      have v0 := N1.out.c0
      have v1 := N1.out.c1
      have HH1 := Lib.hid (fun W (hb : Below w.heap.size w W) => rfind_c a1 c1 l1 (mv M k).fr W (H1.out.below hb))
      have HH2 := Lib.hid (fun W (hb : Below w.heap.size w W) => rfind_c a2 c2 l2 (mv M k).tg W (H2.out.below hb))
      clear hS N0
      by_cases g1 : hasB (lev l1) (mv M k).fr = false
      · have hE : mvE (hasB (lev l1)) (hasB (lev l2)) M k = 5 := mvE_5 (Or.inl g1)
        have R : Hid (reE l1 l2 M C = 5) := by unfold Hid; rw [HP2.out, if_pos (by rw [hF.out (by rw [hE]; decide), hE]; decide), hF.out (by rw [hE]; decide), hE]
        have G1 : Hid (hasS l1 (mv M k).fr = false) := g1
        clear hE hF hN HH2 g1
        go_wp2_with fail
        (with_reducible refine (HH1.out W1 S1.out).mono ?_)
        rintro e W2 ⟨⟨r1, rfl, hq⟩, bq⟩
        have r1d : decide (r1 < 0) = true := by rw [fnd_has HFr1.out hq, G1.out]; rfl
        have S2 := Lib.hid (S1.out.trans (bq.mono S1.out.size))
        have N2 := Lib.hid (N1.out.keep bq)
        have v0 := N2.out.c0
        have v1 := N2.out.c1
        clear bq hq
        clear u0 u1 hW1
        go_wp2_with fail
        exact bodyPost_ret (v := .tuple #[.slice none 0 0, .slice none 0 0, .int .i64 5]) (by simp [results, Tryd.results28, go_sem]) rfl (Or.inr ⟨by rw [R.out]; decide, by rw [R.out], S2.out⟩)
      have g1' : hasB (lev l1) (mv M k).fr = true := by simpa using g1
      have G1 : Hid (hasS l1 (mv M k).fr = true) := g1'
      by_cases g2 : (mv M k).tg = 0
      · have gr : Hid (¬ (hasB (lev l1) (mv M k).fr = false ∨ ((mv M k).tg ≠ 0 ∧ hasB (lev l2) (mv M k).tg = false))) := fun h => h.elim g1 fun h => h.1 g2
        have g2' : ((mv M k).tg == 0) = true := by rw [beq_iff_eq]; exact g2
        have g2n : ((mv M k).tg != 0) = false := by rw [bne, g2']; rfl
        clear g1 g1' g2
        go_wp2_with fail
        (with_reducible refine (HH1.out W1 S1.out).mono ?_)
        rintro e W2 ⟨⟨r1, rfl, hq⟩, bq⟩
        have r1d : decide (r1 < 0) = false := by rw [fnd_has HFr1.out hq, G1.out]; rfl
        have S2 := Lib.hid (S1.out.trans (bq.mono S1.out.size))
        have N2 := Lib.hid (N1.out.keep bq)
        have v0 := N2.out.c0
        have v1 := N2.out.c1
        clear bq hq
        clear u0 u1 hW1
        have hR := Lib.hid (mvE_r (h := hasB (lev l1)) (h' := hasB (lev l2)) gr.out)
        clear gr HH1 HH2
        by_cases hk0 : k = 0
        · have hz : Hid (fe (mvE (hasB (lev l1)) (hasB (lev l2)) M) (k + 1) = 0) := by unfold Hid; rw [hN.out, hR.out, if_neg (fun h => h.1 hk0)]
          subst hk0
          clear hF hN hR
          go_wp2_with fail
          go_quiet (fail)
          have NX : Hid (Below w.heap.size w (W2.drewN nq) ∧ fe (mvE (hasB (lev l1)) (hasB (lev l2)) M) (0 + 1) = 0) := ⟨below_drewN S2.out nq, hz.out⟩
          clear v0 v1
          go_wp2
          go_roundw
          case rel => exact ⟨1, by omega, by go_num, rfl, rfl, rfl, NX.out⟩
          case measure => simp [intOf]; omega
        · obtain ⟨m, rfl⟩ : ∃ m, k = m + 1 := ⟨k - 1, by omega⟩
          obtain ⟨_, _, e, p0, _⟩ := (H3.out.below S2.out).at_ (k := m) (by omega)
          injection e with e; injection e with e1 e2; subst e1; subst e2
          have hpos : (0 : Int) < ((m + 1 : Nat) : Int) := by omega
          have hm1 : ((m + 1 : Nat) : Int) - 1 = (m : Int) := by omega
          have hm2 : (m : Int) < (M.length : Int) := by omega
          by_cases q : (mv M (m + 1)).fr ≤ (mv M m).fr
          · have hE : mvE (hasB (lev l1)) (hasB (lev l2)) M (m + 1) = 7 := by rw [hR.out, if_pos ⟨hk0, q⟩]
            have R : Hid (reE l1 l2 M C = 7) := by unfold Hid; rw [HP2.out, if_pos (by rw [hF.out (by rw [hE]; decide), hE]; decide), hF.out (by rw [hE]; decide), hE]
            clear hE hF hN hR hk0
            go_wp2_with fail
            go_quiet (fail)
            go_wp2_with fail
            exact bodyPost_ret (v := .tuple #[.slice none 0 0, .slice none 0 0, .int .i64 7]) (by simp [results, Tryd.results28, go_sem]) rfl (Or.inr ⟨by rw [R.out]; decide, by rw [R.out], below_drewN S2.out _⟩)
          · have hz : Hid (fe (mvE (hasB (lev l1)) (hasB (lev l2)) M) (m + 1 + 1) = 0) := by unfold Hid; rw [hN.out, hR.out, if_neg (fun h => q h.2)]
            have q' : decide ((mv M (m + 1)).fr ≤ (mv M m).fr) = false := decide_eq_false q
            clear hF hN hR hk0 q
            go_wp2_with fail
            go_quiet (fail)
            have NX : Hid (Below w.heap.size w (W2.drewN nq) ∧ fe (mvE (hasB (lev l1)) (hasB (lev l2)) M) (m + 1 + 1) = 0) := ⟨below_drewN S2.out nq, hz.out⟩
            clear v0 v1 p0 hpos hm1 hm2
            go_wp2
            go_roundw
            case rel => exact ⟨m + 1 + 1, by omega, by go_num, rfl, rfl, rfl, NX.out⟩
            case measure => simp [intOf]; omega
      have g2' : ((mv M k).tg == 0) = false := by rw [beq_eq_false_iff_ne]; exact g2
      have g2n : ((mv M k).tg != 0) = true := by rw [bne, g2']; rfl
      by_cases g3 : hasB (lev l2) (mv M k).tg = false
      · have hE : mvE (hasB (lev l1)) (hasB (lev l2)) M k = 5 := mvE_5 (Or.inr ⟨g2, g3⟩)
        have R : Hid (reE l1 l2 M C = 5) := by unfold Hid; rw [HP2.out, if_pos (by rw [hF.out (by rw [hE]; decide), hE]; decide), hF.out (by rw [hE]; decide), hE]
        have G3 : Hid (hasS l2 (mv M k).tg = false) := g3
        clear hE hF hN g1 g1' g2 g3
        go_wp2_with fail
        (with_reducible refine (HH1.out W1 S1.out).mono ?_)
        rintro e W2 ⟨⟨r1, rfl, hq⟩, bq⟩
        have r1d : decide (r1 < 0) = false := by rw [fnd_has HFr1.out hq, G1.out]; rfl
        have S2 := Lib.hid (S1.out.trans (bq.mono S1.out.size))
        have N2 := Lib.hid (N1.out.keep bq)
        have v0 := N2.out.c0
        have v1 := N2.out.c1
        clear bq hq
        clear u0 u1 hW1
        go_wp2_with fail
        (with_reducible refine (HH2.out W2 S2.out).mono ?_)
        rintro e W3 ⟨⟨r2, rfl, hq⟩, bq⟩
        have r2d : decide (r2 < 0) = true := by rw [fnd_has HFr2.out hq, G3.out]; rfl
        have S3 := Lib.hid (S2.out.trans (bq.mono S2.out.size))
        have N3 := Lib.hid (N2.out.keep bq)
        have v0 := N3.out.c0
        have v1 := N3.out.c1
        clear bq hq
        go_wp2_with fail
        exact bodyPost_ret (v := .tuple #[.slice none 0 0, .slice none 0 0, .int .i64 5]) (by simp [results, Tryd.results28, go_sem]) rfl (Or.inr ⟨by rw [R.out]; decide, by rw [R.out], S3.out⟩)
      have gr : Hid (¬ (hasB (lev l1) (mv M k).fr = false ∨ ((mv M k).tg ≠ 0 ∧ hasB (lev l2) (mv M k).tg = false))) := fun h => h.elim g1 fun h => g3 h.2
      have g3' : hasB (lev l2) (mv M k).tg = true := by simpa using g3
      have G3 : Hid (hasS l2 (mv M k).tg = true) := g3'
      clear g1 g1' g2 g3 g3'
      go_wp2_with fail
      (with_reducible refine (HH1.out W1 S1.out).mono ?_)
      rintro e W2 ⟨⟨r1, rfl, hq⟩, bq⟩
      have r1d : decide (r1 < 0) = false := by rw [fnd_has HFr1.out hq, G1.out]; rfl
      have S2 := Lib.hid (S1.out.trans (bq.mono S1.out.size))
      have N2 := Lib.hid (N1.out.keep bq)
      have v0 := N2.out.c0
      have v1 := N2.out.c1
      clear bq hq
      clear u0 u1 hW1
      go_wp2_with fail
      (with_reducible refine (HH2.out W2 S2.out).mono ?_)
      rintro e W3 ⟨⟨r2, rfl, hq⟩, bq⟩
      have r2d : decide (r2 < 0) = false := by rw [fnd_has HFr2.out hq, G3.out]; rfl
      have S3 := Lib.hid (S2.out.trans (bq.mono S2.out.size))
      have N3 := Lib.hid (N2.out.keep bq)
      have v0 := N3.out.c0
      have v1 := N3.out.c1
      clear bq hq
      have hR := Lib.hid (mvE_r (h := hasB (lev l1)) (h' := hasB (lev l2)) gr.out)
      clear gr HH1 HH2
      by_cases hk0 : k = 0
      · have hz : Hid (fe (mvE (hasB (lev l1)) (hasB (lev l2)) M) (k + 1) = 0) := by unfold Hid; rw [hN.out, hR.out, if_neg (fun h => h.1 hk0)]
        subst hk0
        clear hF hN hR
        go_wp2_with fail
        go_quiet (fail)
        have NX : Hid (Below w.heap.size w (W3.drewN nq) ∧ fe (mvE (hasB (lev l1)) (hasB (lev l2)) M) (0 + 1) = 0) := ⟨below_drewN S3.out nq, hz.out⟩
        clear v0 v1
        go_wp2
        go_roundw
        case rel => exact ⟨1, by omega, by go_num, rfl, rfl, rfl, NX.out⟩
        case measure => simp [intOf]; omega
      · obtain ⟨m, rfl⟩ : ∃ m, k = m + 1 := ⟨k - 1, by omega⟩
        obtain ⟨_, _, e, p0, _⟩ := (H3.out.below S3.out).at_ (k := m) (by omega)
        injection e with e; injection e with e1 e2; subst e1; subst e2
        have hpos : (0 : Int) < ((m + 1 : Nat) : Int) := by omega
        have hm1 : ((m + 1 : Nat) : Int) - 1 = (m : Int) := by omega
        have hm2 : (m : Int) < (M.length : Int) := by omega
        by_cases q : (mv M (m + 1)).fr ≤ (mv M m).fr
        · have hE : mvE (hasB (lev l1)) (hasB (lev l2)) M (m + 1) = 7 := by rw [hR.out, if_pos ⟨hk0, q⟩]
          have R : Hid (reE l1 l2 M C = 7) := by unfold Hid; rw [HP2.out, if_pos (by rw [hF.out (by rw [hE]; decide), hE]; decide), hF.out (by rw [hE]; decide), hE]
          clear hE hF hN hR hk0
          go_wp2_with fail
          go_quiet (fail)
          go_wp2_with fail
          exact bodyPost_ret (v := .tuple #[.slice none 0 0, .slice none 0 0, .int .i64 7]) (by simp [results, Tryd.results28, go_sem]) rfl (Or.inr ⟨by rw [R.out]; decide, by rw [R.out], below_drewN S3.out _⟩)
        · have hz : Hid (fe (mvE (hasB (lev l1)) (hasB (lev l2)) M) (m + 1 + 1) = 0) := by unfold Hid; rw [hN.out, hR.out, if_neg (fun h => q h.2)]
          have q' : decide ((mv M (m + 1)).fr ≤ (mv M m).fr) = false := decide_eq_false q
          clear hF hN hR hk0 q
          go_wp2_with fail
          go_quiet (fail)
          have NX : Hid (Below w.heap.size w (W3.drewN nq) ∧ fe (mvE (hasB (lev l1)) (hasB (lev l2)) M) (m + 1 + 1) = 0) := ⟨below_drewN S3.out nq, hz.out⟩
          clear v0 v1 p0 hpos hm1 hm2
          go_wp2
          go_roundw
          case rel => exact ⟨m + 1 + 1, by omega, by go_num, rfl, rfl, rfl, NX.out⟩
          case measure => simp [intOf]; omega
    · obtain rfl : k = M.length := by omega
      obtain ⟨wX, hwX⟩ : ∃ x : World, x = wr := ⟨wr, rfl⟩
      subst hwX
      have B5 := Lib.hid hS.out.1
      have ZM : Hid (mvS (hasB (lev l1)) (hasB (lev l2)) M = 0) := hS.out.2
      have HP3' : Hid (reE l1 l2 M C = cgsS (hasB (lev l1)) C) := by unfold Hid; rw [HP2.out, if_neg (by rw [ZM.out]; simp)]
      have KC := Lib.hid (rCheckCodings_c a1 c1 l1 a4 c4 C wX (H1.out.below B5.out) F1.out (H4.out.below B5.out))
      rw [cfg_frS Z1.out] at KC
      obtain ⟨f, hfl⟩ : ∃ f, cgsS (hasB (lev l1)) C = f := ⟨_, rfl⟩
      have HGL := Lib.hid hfl
      rw [hfl] at KC HP3'
      clear hfl hS hlt HP2
      go_wp2_with fail
      (with_reducible refine KC.out.mono ?_)
      rintro e W7 ⟨rfl, b7⟩
      have B7 := Lib.hid (B5.out.trans (b7.mono B5.out.size))
      clear b7 KC
      by_cases z4 : f ≠ 0
      · have HP : Hid (reE l1 l2 M C = f ∧ reE l1 l2 M C ≠ 0) := ⟨HP3'.out, by rw [HP3'.out]; exact z4⟩
        have f1 : (f == 0) = false := by rw [beq_eq_false_iff_ne]; exact z4
        have f2 : (f != 0) = true := by rw [bne, f1]; rfl
        clear z4
        go_wp2_with fail
        exact bodyPost_ret (v := .tuple #[.slice none 0 0, .slice none 0 0, .int .i64 f]) (by simp [results, Tryd.results28, go_sem]) rfl (Or.inr ⟨HP.out.2, by rw [HP.out.1], B7.out⟩)
      have z4 : f = 0 := by omega
      subst z4
      have HP3 := Lib.hid HP3'.out
      have hcn := (cgs_ok HGL.out).1
      have HCS := Lib.hid (for_ok (l := l1) (C := C) (by rw [cfg_frS Z1.out]; exact HGL.out)).2.2.2
      clear HP3'
      go_wp2_with fail
      go_loopw [16, 17, 20, 21, 24, 83] (fun v16 v17 _ _ _ i wr => ∃ k : Nat, k ≤ C.length ∧ i = .int .i64 k ∧ Hid (InR w wr v16 v17 (carL (suS l1 l2 M) (C.take k)) (lefL (suS l1 l2 M) (C.take k)))) (fun _ _ _ _ _ i _ => C.length - (intOf i).toNat)
      case atStart => exact ⟨0, Nat.zero_le _, rfl, World.ownsRow_nil _ _ _ _, World.ownsRow_nil _ _ _ _, fun g e => by simp [Value.ownBlock] at e, B7.out⟩
      case round =>
        obtain ⟨k, hk, rfl, hS⟩ := hrel
        by_cases hlt : k < C.length
        · obtain ⟨b', off, rfl, u0, u1, u2⟩ := (H4.out.below hS.out.bel).at_ hlt
          have hlt' : (k : Int) < (C.length : Int) := by omega
          have lens := carL_len (suS l1 l2 M) (C.take k)
          have hln : (C.take k).length ≤ 20000 := by rw [List.length_take]; omega
          obtain ⟨W1, hW1⟩ : ∃ W1, wr.alloc (.cells #[.int .i64 (cg C k).ca, .int .i64 (cg C k).co, .int .i64 (cg C k).cd] 49) = W1 := ⟨_, rfl⟩
          have N1 : Hid (CodB wr W1 (cg C k)) := by unfold Hid; rw [← hW1]; exact cod_b _ _
          have S1 := Lib.hid (hS.out.keep N1.out.1)
          have J1 := Lib.hid N1.out.2
          obtain ⟨cdn, hcd, hcc⟩ := HCS.out k hlt
          have HCD := Lib.hid hcd
          clear hcd
          go_wp2_with fail
          clear hW1 u0 u1 u2
          obtain ⟨wO, hwO⟩ : ∃ x : World, x = wr := ⟨wr, rfl⟩
          subst hwO
          go_loopw [20, 21, 89] (fun tv mvd i wr => ∃ q : Nat, q ≤ M.length ∧ i = .int .i64 q ∧ tv = .int .i64 ((mN M (cg C k).cd q).getD 0) ∧ mvd = .bool (mN M (cg C k).cd q).isSome ∧ Hid (Below W1.heap.size W1 wr)) (fun _ _ i _ => M.length - (intOf i).toNat)
          case atStart => exact ⟨0, Nat.zero_le _, rfl, rfl, rfl, Below.refl _ _⟩
          case round =>
            obtain ⟨q, hq, rfl, rfl, rfl, hQ⟩ := hrel
            have JQ := Lib.hid (J1.out.keep hQ.out)
            have BQ := Lib.hid (S1.out.bel.trans (hQ.out.mono S1.out.bel.size))
            by_cases hqt : q < M.length
            · obtain ⟨b', off, rfl, u0, u1⟩ := (H3.out.below BQ.out).at_ hqt
              have hqt' : (q : Int) < (M.length : Int) := by omega
              obtain ⟨W2, hW2⟩ : ∃ W2, wr.alloc (.cells #[.int .i64 (mv M q).fr, .int .i64 (mv M q).tg] 101) = W2 := ⟨_, rfl⟩
              have N2 : Hid (MovB wr W2 (mv M q)) := by unfold Hid; rw [← hW2]; exact mov_b _ _
              have v0 := N2.out.2.c0
              have v1 := N2.out.2.c1
              have y2 := (JQ.out.keep N2.out.1).c2
              have NX : Hid (Below W1.heap.size W1 W2) := hQ.out.trans (N2.out.1.mono hQ.out.size)
              have hst : Hid (mN M (cg C k).cd (q + 1) = if (cg C k).cd = (mv M q).fr then some (mv M q).tg else mN M (cg C k).cd q) := rfl
              clear N2 hQ
              by_cases e : (mv M q).fr = (cg C k).cd
              · have e' : ((mv M q).fr == (cg C k).cd) = true := by rw [beq_iff_eq]; exact e
                have hs2 : Hid (mN M (cg C k).cd (q + 1) = some (mv M q).tg) := by unfold Hid; rw [hst.out, if_pos e.symm]
                clear e hst
                go_wp2
                go_roundw
                case rel => exact ⟨q + 1, by omega, by go_num, by rw [hs2.out]; rfl, by rw [hs2.out]; rfl, NX.out⟩
                case measure => simp [intOf]; omega
              · have e' : ((mv M q).fr == (cg C k).cd) = false := by rw [beq_eq_false_iff_ne]; exact e
                have hs2 : Hid (mN M (cg C k).cd (q + 1) = mN M (cg C k).cd q) := by unfold Hid; rw [hst.out, if_neg (fun r => e r.symm)]
                clear e hst
                go_wp2
                go_roundw
                case rel => exact ⟨q + 1, by omega, by go_num, by rw [hs2.out], by rw [hs2.out], NX.out⟩
                case measure => simp [intOf]; omega
            · obtain rfl : q = M.length := by omega
              obtain ⟨wX, hwX⟩ : ∃ x : World, x = wr := ⟨wr, rfl⟩
              subst hwX
              have SX := Lib.hid (S1.out.keep hQ.out)
              have HFD2 := Lib.hid (rfind_c a2 c2 l2 (cg C k).cd wX (H2.out.below BQ.out))
              have BX : Hid (Below wO.heap.size wO wX) := N1.out.1.trans (hQ.out.mono N1.out.1.size)
              have y2 := JQ.out.c2
              clear hqt hQ
              obtain ⟨om, hom⟩ : ∃ om, mN M (cg C k).cd M.length = om := ⟨_, rfl⟩
              rw [hom]
              have HOM := Lib.hid hom
              clear hom
              go_wp2_with fail
              clear y2
              (with_reducible refine HFD2.out.mono ?_)
              rintro e W6 ⟨⟨r2, rfl, hr2⟩, b6⟩
              have J6 := Lib.hid (JQ.out.keep b6)
              have S6 := Lib.hid (SX.out.keep b6)
              have B6 : Hid (Below wO.heap.size wO W6) := BX.out.trans (b6.mono BX.out.size)
              have hSr := Lib.hid hS.out
              clear b6 HFD2
              cases om with
              | some t =>
                have ht : Hid (suS l1 l2 M (cg C k).cd = t) := su_moved HOM.out
                have hBr := Lib.hid B6.out
                simp only [Option.getD_some, Option.isSome_some] at *
                go_wp2_with fail
                go_quiet (fail)
                have S7 := Lib.hid (S6.out.keep (bel_drewN W6 nq))
                have J7 := Lib.hid (J6.out.keep (bel_drewN W6 nq))
                have hBr := Lib.hid (below_drewN hBr.out nq)
                generalize W6.drewN nq = W7 at S7 J7 hBr ⊢
                have HT0 : Hid (suS l1 l2 M (cg C k).cd = t) := ht.out
                by_cases he : t = 0
                · have HM2 := Lib.hid (carL_miss (f := suS l1 l2 M) hlt (by rw [HT0.out]; exact he))
                  have he' : (t == 0) = true := by rw [beq_iff_eq]; exact he
                  have SW := Lib.hid S7.out.swap
                  have y0 := J7.out.c0
                  have y1 := J7.out.c1
                  have y2 := J7.out.c2
                  clear he
                  go_wp2_with (at_builtin; refine wpList_append_own_at _ rfl _ _ 35 rfl w.heap.size 49 i0 (.agg #[.int .i64 0, .int .i64 0, .int .i64 0]) 3 24 Tryd.underlying35 hi hz0 hz1 hz2 rfl (by decide) _ _ _ rfl (SW.out.o4.alloc _) ⟨W7.heap.size, 0, none⟩ 1 1 [.int .i64 (cg C k).ca, .int .i64 (cg C k).co, .int .i64 (cg C k).cd] rfl rfl (cell_three_new _ _ _ _ _) (by simp [Value.oneCell']) ?c3 ?c4 ?c5 ?_)
                  case c3 => unfold maxLen; omega
                  case c4 => omega
                  case c5 => have := SW.out.bel.size; simp; omega
                  intro v' w4 hown hgrow _ hloc
                  have NX : Hid (InR w w4 u16 v' (carL (suS l1 l2 M) (C.take (k + 1))) (lefL (suS l1 l2 M) (C.take (k + 1)))) := by
                    rw [HM2.out.1, HM2.out.2]
                    exact (SW.out.more (u := cg C k) hown hgrow hloc).swap
                  clear hown hgrow hloc SW y0 y1 y2
                  go_wp2
                  go_roundw
                  case rel => exact ⟨k + 1, by omega, by go_num, NX.out⟩
                  case measure => simp [intOf]; omega
                · have HM2 := Lib.hid (carL_hit (f := suS l1 l2 M) hlt (by rw [HT0.out]; exact he))
                  have he' : (t == 0) = false := by rw [beq_eq_false_iff_ne]; exact he
                  obtain ⟨WA, hWA⟩ : ∃ WA, W7.setCell ⟨wO.heap.size, 2, none⟩ (.int .i64 t) = WA := ⟨_, rfl⟩
                  have SA : Hid (InR w WA u16 u17 (carL (suS l1 l2 M) (C.take k)) (lefL (suS l1 l2 M) (C.take k))) := by
                    rw [← hWA]
                    exact hSr.out.keep (hBr.out.setCell (p := ⟨wO.heap.size, 2, none⟩) (Nat.le_refl _) _)
                  have ne : ∀ {i j : Nat}, i ≠ j → (⟨wO.heap.size, i, none⟩ : Addr) ≠ ⟨wO.heap.size, j, none⟩ := fun h e => by injection e with _ e2; exact h e2
                  have y0 := J7.out.c0
                  have y1 := J7.out.c1
                  have y2 := J7.out.c2
                  have y3 := J7.out.fr 2
                  have x0 : WA.cell? ⟨wO.heap.size, 0, none⟩ = some (.int .i64 (cg C k).ca) := by rw [← hWA, World.cell?_setCell_other _ _ _ _ (ne (by decide))]; exact y0
                  have x1 : WA.cell? ⟨wO.heap.size, 1, none⟩ = some (.int .i64 (cg C k).co) := by rw [← hWA, World.cell?_setCell_other _ _ _ _ (ne (by decide))]; exact y1
                  have x2 : WA.cell? ⟨wO.heap.size, 2, none⟩ = some (.int .i64 t) := by rw [← hWA, World.cell?_setCell_same _ _ _ y2]
                  clear he ne
                  go_wp2_with (at_builtin; refine wpList_append_own_at _ rfl _ _ 35 rfl w.heap.size 49 i0 (.agg #[.int .i64 0, .int .i64 0, .int .i64 0]) 3 24 Tryd.underlying35 hi hz0 hz1 hz2 rfl (by decide) _ _ _ rfl (SA.out.o4.alloc _) ⟨WA.heap.size, 0, none⟩ 1 1 [.int .i64 (cg C k).ca, .int .i64 (cg C k).co, .int .i64 t] rfl rfl (cell_three_new _ _ _ _ _) (by simp [Value.oneCell']) ?c3 ?c4 ?c5 ?_)
                  case c3 => unfold maxLen; omega
                  case c4 => omega
                  case c5 => have := SA.out.bel.size; simp; omega
                  intro v' w4 hown hgrow _ hloc
                  have NX : Hid (InR w w4 v' u17 (carL (suS l1 l2 M) (C.take (k + 1))) (lefL (suS l1 l2 M) (C.take (k + 1)))) := by
                    rw [HM2.out.1, HM2.out.2, HT0.out]
                    exact SA.out.more (u := ⟨(cg C k).ca, (cg C k).co, t⟩) hown hgrow hloc
                  clear hown hgrow hloc SA y0 y1 y2 y3 x0 x1 x2 hWA
                  go_wp2
                  go_roundw
                  case rel => exact ⟨k + 1, by omega, by go_num, NX.out⟩
                  case measure => simp [intOf]; omega
              | none =>
                simp only [Option.getD_none, Option.isSome_none] at *
                obtain ⟨j1, hj1', e1⟩ := hcc
                have hj1 := Lib.hid hj1'
                have hcd1 : Hid ((nd l1 j1).cd = (cg C k).cd) := by unfold Hid; rw [e1]; exact HCD.out.symm
                rcases hr2 with ⟨rfl, hno⟩ | ⟨j2, hj2, rfl, e2⟩
                · have ht : Hid (suS l1 l2 M (cg C k).cd = 0) := by
                    unfold Hid
                    rw [← hcd1.out]
                    exact su_none HFr1.out hj1.out (by rw [hcd1.out]; exact HOM.out) (fun q hq => by rw [hcd1.out]; exact hno q hq)
                  have hneg : decide ((0 : Int) ≤ (-1 : Int)) = false := by decide
                  clear hno
                  go_wp2_with fail
                  go_quiet (fail)
                  have S7 := Lib.hid (S6.out.keep (bel_drewN W6 nq))
                  have J7 := Lib.hid (J6.out.keep (bel_drewN W6 nq))
                  have hBr := Lib.hid (below_drewN B6.out nq)
                  generalize W6.drewN nq = W7 at S7 J7 hBr ⊢
                  have HM2 := Lib.hid (carL_miss (f := suS l1 l2 M) hlt ht.out)
                  have SW := Lib.hid S7.out.swap
                  have y0 := J7.out.c0
                  have y1 := J7.out.c1
                  have y2 := J7.out.c2
                  go_wp2_with (at_builtin; refine wpList_append_own_at _ rfl _ _ 35 rfl w.heap.size 49 i0 (.agg #[.int .i64 0, .int .i64 0, .int .i64 0]) 3 24 Tryd.underlying35 hi hz0 hz1 hz2 rfl (by decide) _ _ _ rfl (SW.out.o4.alloc _) ⟨W7.heap.size, 0, none⟩ 1 1 [.int .i64 (cg C k).ca, .int .i64 (cg C k).co, .int .i64 (cg C k).cd] rfl rfl (cell_three_new _ _ _ _ _) (by simp [Value.oneCell']) ?c3 ?c4 ?c5 ?_)
                  case c3 => unfold maxLen; omega
                  case c4 => omega
                  case c5 => have := SW.out.bel.size; simp; omega
                  intro v' w4 hown hgrow _ hloc
                  have NX : Hid (InR w w4 u16 v' (carL (suS l1 l2 M) (C.take (k + 1))) (lefL (suS l1 l2 M) (C.take (k + 1)))) := by
                    rw [HM2.out.1, HM2.out.2]
                    exact (SW.out.more (u := cg C k) hown hgrow hloc).swap
                  clear hown hgrow hloc SW y0 y1 y2
                  go_wp2
                  go_roundw
                  case rel => exact ⟨k + 1, by omega, by go_num, NX.out⟩
                  case measure => simp [intOf]; omega
                · obtain ⟨b2, o2, rfl, _, _, x2⟩ := (H2.out.below S6.out.bel).at_ hj2
                  obtain ⟨b1, o1, rfl, _, _, x1⟩ := (H1.out.below S6.out.bel).at_ hj1.out
                  have HX1 := Lib.hid x1
                  have HX2 := Lib.hid x2
                  have hb1 : Hid (b1 < W6.heap.size) := by
                    obtain ⟨b, off, e, hb, _⟩ := (H1.out.below S6.out.bel).2 (by have := hj1.out; omega)
                    injection e with e; injection e with e e'; subst e; exact hb
                  have hb2 : Hid (b2 < W6.heap.size) := by
                    obtain ⟨b, off, e, hb, _⟩ := (H2.out.below S6.out.bel).2 (by omega)
                    injection e with e; injection e with e e'; subst e; exact hb
                  have HFD1 := Lib.hid (fun W (hb : Below w.heap.size w W) => rfind_c (some ⟨b1, o1, none⟩) c1 l1 (cg C k).cd W (H1.out.below hb))
                  have hfind1 : Hid (∀ r, FndP l1 (cg C k).cd r → ∃ j, j < l1.length ∧ r = (j : Int) ∧ (nd l1 j).cd = (cg C k).cd) := fun r h => by
                    rcases h with ⟨_, h⟩ | h
                    · exact absurd hcd1.out (h j1 hj1.out)
                    · exact h
                  have hsu := su_some (M := M) HFr1.out HFr2.out hj1.out hj2 (by rw [hcd1.out]; exact HOM.out) (e2.trans hcd1.out.symm)
                  rw [hcd1.out] at hsu
                  have HSU := Lib.hid hsu
                  have hp2 : (0 : Int) ≤ (j2 : Int) := by omega
                  have hl2' : (j2 : Int) < (l2.length : Int) := by omega
                  have hl1' : (j1 : Int) < (l1.length : Int) := by have := hj1.out; omega
                  obtain ⟨nb, hnb⟩ : ∃ nb, wO.heap.size = nb := ⟨_, rfl⟩
                  have J6' := J6.out
                  rw [hnb] at J6' B6
                  have J6 := Lib.hid J6'
                  rw [hnb]
                  clear hsu e2 x1 x2 J6'
                  go_wp2_with fail
                  have JS : SR b1 (o1 + j1 * 3 + 2) b2 (o2 + j2 * 3 + 2) nb (nd l1 j1).ti (nd l2 j2).ti (cg C k).cd W6.drew := ⟨HX1.out, HX2.out, J6.out.c2⟩
                  refine wp_region_noPanic ?_
                  refine wp_region_held_drew (S := SR b1 (o1 + j1 * 3 + 2) b2 (o2 + j2 * 3 + 2) nb (nd l1 j1).ti (nd l2 j2).ti (cg C k).cd) (by kernel_rfl) JS (fun hS => ?_)
                  have BD : Hid (Below W6.heap.size W6 W6.drew) := (Below.refl _ _).drew
                  obtain ⟨V0, hV0⟩ : ∃ W, W6.drew = W := ⟨_, rfl⟩
                  rw [hV0] at hS BD ⊢
                  clear hV0 JS
                  refine wpAnyH_take (i := 0) (v := ?v0z1) rfl (by kernel_rfl) (by kernel_rfl) (by kernel_rfl) (fun _ _ _ h => h) (Or.inl ⟨by rfl, ?hy0z1⟩) (by assumption) ?rest0z1
                  case hy0z1 =>
                    intro w hSw
                    dsimp only [SR] at hSw
                    go_simp
                    try with_reducible rfl
                  simp only [Act.put, List.getElem_toArray, List.getElem_cons_succ, List.getElem_cons_zero, List.setIfInBounds_toArray, List.set_cons_zero, List.set_cons_succ]
                  refine wpAnyH_take (i := 1) (v := ?v1z2) rfl (by kernel_rfl) (by kernel_rfl) (by kernel_rfl) (fun _ _ _ h => h) (Or.inl ⟨by rfl, ?hy1z2⟩) (by assumption) ?rest1z2
                  case hy1z2 =>
                    intro w hSw
                    dsimp only [SR] at hSw
                    go_simp
                    try with_reducible rfl
                  simp only [Act.put, List.getElem_toArray, List.getElem_cons_succ, List.getElem_cons_zero, List.setIfInBounds_toArray, List.set_cons_zero, List.set_cons_succ]
                  refine wpAnyH_take (i := 2) (v := ?v2z3) rfl (by kernel_rfl) (by kernel_rfl) (by kernel_rfl) (fun _ _ _ h => h) (Or.inl ⟨by rfl, ?hy2z3⟩) (by assumption) ?rest2z3
                  case hy2z3 =>
                    intro w hSw
                    dsimp only [SR] at hSw
                    go_simp
                    try with_reducible rfl
                  simp only [Act.put, List.getElem_toArray, List.getElem_cons_succ, List.getElem_cons_zero, List.setIfInBounds_toArray, List.set_cons_zero, List.set_cons_succ]
                  refine wpAnyH_take (i := 3) (v := ?v3z4) rfl (by kernel_rfl) (by kernel_rfl) (by kernel_rfl) (fun _ _ _ h => h) (Or.inl ⟨by rfl, ?hy3z4⟩) (by assumption) ?rest3z4
                  case hy3z4 =>
                    intro w hSw
                    dsimp only [SR] at hSw
                    go_simp
                    try with_reducible rfl
                  simp only [Act.put, List.getElem_toArray, List.getElem_cons_succ, List.getElem_cons_zero, List.setIfInBounds_toArray, List.set_cons_zero, List.set_cons_succ]
                  refine wpAnyH_take (i := 4) (v := ?v4z5) rfl (by kernel_rfl) (by kernel_rfl) (by kernel_rfl) (fun _ _ _ h => h) (Or.inl ⟨by rfl, ?hy4z5⟩) (by assumption) ?rest4z5
                  case hy4z5 =>
                    intro w hSw
                    dsimp only [SR] at hSw
                    go_simp
                    try with_reducible rfl
                  simp only [Act.put, List.getElem_toArray, List.getElem_cons_succ, List.getElem_cons_zero, List.setIfInBounds_toArray, List.set_cons_zero, List.set_cons_succ]
                  refine wpAnyH_take (i := 5) (v := ?v5z6) rfl (by kernel_rfl) (by kernel_rfl) (by kernel_rfl) (fun _ _ _ h => h) (Or.inl ⟨by rfl, ?hy5z6⟩) (by assumption) ?rest5z6
                  case hy5z6 =>
                    intro w hSw
                    dsimp only [SR] at hSw
                    go_simp
                    try with_reducible rfl
                  simp only [Act.put, List.getElem_toArray, List.getElem_cons_succ, List.getElem_cons_zero, List.setIfInBounds_toArray, List.set_cons_zero, List.set_cons_succ]
                  refine wpAnyH_take (i := 6) (v := ?v6z7) rfl (by kernel_rfl) (by kernel_rfl) (by kernel_rfl) (fun _ _ _ h => h) (Or.inl ⟨by rfl, ?hy6z7⟩) (by assumption) ?rest6z7
                  case hy6z7 =>
                    intro w hSw
                    dsimp only [SR] at hSw
                    go_simp
                    try with_reducible rfl
                  simp only [Act.put, List.getElem_toArray, List.getElem_cons_succ, List.getElem_cons_zero, List.setIfInBounds_toArray, List.set_cons_zero, List.set_cons_succ]
                  refine wpAnyH_take (i := 7) (v := ?v7z8) rfl (by kernel_rfl) (by kernel_rfl) (by kernel_rfl) (fun _ _ _ h => h) (Or.inl ⟨by rfl, ?hy7z8⟩) (by assumption) ?rest7z8
                  case hy7z8 =>
                    intro w hSw
                    dsimp only [SR] at hSw
                    go_simp
                    try with_reducible rfl
                  simp only [Act.put, List.getElem_toArray, List.getElem_cons_succ, List.getElem_cons_zero, List.setIfInBounds_toArray, List.set_cons_zero, List.set_cons_succ]
                  refine wpAnyH_take (i := 8) (v := ?v8z9) rfl (by kernel_rfl) (by kernel_rfl) (by kernel_rfl) (fun _ _ _ h => h) (Or.inl ⟨by rfl, ?hy8z9⟩) (by assumption) ?rest8z9
                  case hy8z9 =>
                    intro w hSw
                    dsimp only [SR] at hSw
                    go_simp
                    try with_reducible rfl
                  simp only [Act.put, List.getElem_toArray, List.getElem_cons_succ, List.getElem_cons_zero, List.setIfInBounds_toArray, List.set_cons_zero, List.set_cons_succ]
                  refine wpAnyH_take (i := 9) (v := ?v9z10) rfl (by kernel_rfl) (by kernel_rfl) (by kernel_rfl) (fun _ _ _ h => h) (Or.inl ⟨by rfl, ?hy9z10⟩) (by assumption) ?rest9z10
                  case hy9z10 =>
                    intro w hSw
                    dsimp only [SR] at hSw
                    go_simp
                    try with_reducible rfl
                  simp only [Act.put, List.getElem_toArray, List.getElem_cons_succ, List.getElem_cons_zero, List.setIfInBounds_toArray, List.set_cons_zero, List.set_cons_succ]
                  refine wpAnyH_take (i := 10) (v := ?v10z11) rfl (by kernel_rfl) (by kernel_rfl) (by kernel_rfl) (fun _ _ _ h => h) (Or.inl ⟨by rfl, ?hy10z11⟩) (by assumption) ?rest10z11
                  case hy10z11 =>
                    intro w hSw
                    dsimp only [SR] at hSw
                    go_simp
                    try with_reducible rfl
                  simp only [Act.put, List.getElem_toArray, List.getElem_cons_succ, List.getElem_cons_zero, List.setIfInBounds_toArray, List.set_cons_zero, List.set_cons_succ]
                  refine wpAnyH_take (i := 11) (v := ?v11z12) rfl (by kernel_rfl) (by kernel_rfl) (by kernel_rfl) (fun _ _ _ h => h) (Or.inl ⟨by rfl, ?hy11z12⟩) (by assumption) ?rest11z12
                  case hy11z12 =>
                    intro w hSw
                    dsimp only [SR] at hSw
                    go_simp
                    try with_reducible rfl
                  simp only [Act.put, List.getElem_toArray, List.getElem_cons_succ, List.getElem_cons_zero, List.setIfInBounds_toArray, List.set_cons_zero, List.set_cons_succ]
                  refine wpAnyH_take (i := 12) (v := ?v12z13) rfl (by kernel_rfl) (by kernel_rfl) (by kernel_rfl) (fun _ _ _ h => h) (Or.inl ⟨by rfl, ?hy12z13⟩) (by assumption) ?rest12z13
                  case hy12z13 =>
                    intro w hSw
                    dsimp only [SR] at hSw
                    go_simp
                    try with_reducible rfl
                  simp only [Act.put, List.getElem_toArray, List.getElem_cons_succ, List.getElem_cons_zero, List.setIfInBounds_toArray, List.set_cons_zero, List.set_cons_succ]
                  refine wpAnyH_take (i := 13) (v := ?v13z14) rfl (by kernel_rfl) (by kernel_rfl) (by kernel_rfl) (fun _ _ _ h => h) (Or.inl ⟨by rfl, ?hy13z14⟩) (by assumption) ?rest13z14
                  case hy13z14 =>
                    intro w hSw
                    dsimp only [SR] at hSw
                    go_simp
                    try with_reducible rfl
                  simp only [Act.put, List.getElem_toArray, List.getElem_cons_succ, List.getElem_cons_zero, List.setIfInBounds_toArray, List.set_cons_zero, List.set_cons_succ]
                  refine wpAnyH_take (i := 14) (v := ?v14z15) rfl (by kernel_rfl) (by kernel_rfl) (by kernel_rfl) (fun _ _ _ h => h) (Or.inl ⟨by rfl, ?hy14z15⟩) (by assumption) ?rest14z15
                  case hy14z15 =>
                    intro w hSw
                    dsimp only [SR] at hSw
                    go_simp
                    try with_reducible rfl
                  simp only [Act.put, List.getElem_toArray, List.getElem_cons_succ, List.getElem_cons_zero, List.setIfInBounds_toArray, List.set_cons_zero, List.set_cons_succ]
                  refine wpAnyH_take (i := 15) (v := ?v15z16) rfl (by kernel_rfl) (by kernel_rfl) (by kernel_rfl) (fun _ _ _ h => h) (Or.inl ⟨by rfl, ?hy15z16⟩) (by assumption) ?rest15z16
                  case hy15z16 =>
                    intro w hSw
                    dsimp only [SR] at hSw
                    go_simp
                    try with_reducible rfl
                  simp only [Act.put, List.getElem_toArray, List.getElem_cons_succ, List.getElem_cons_zero, List.setIfInBounds_toArray, List.set_cons_zero, List.set_cons_succ]
                  refine wpAnyH_ready (rs := [16]) (by kernel_rfl) (by simp) ?_
                  refine AllReadyH.cons rfl (fun K hK => ?_) AllReadyH.nil
                  go_simp
                  (refine (HFD1.out V0 (S6.out.bel.trans (BD.out.mono S6.out.bel.size))).mono ?_)
                  rintro e V1 ⟨⟨r3, rfl, hr3⟩, bc⟩
                  obtain ⟨j9, hj9, rfl, e9⟩ := hfind1.out _ hr3
                  obtain rfl : j9 = j1 := HFr1.out.ord.inj hj9 hj1.out (e9.trans hcd1.out.symm)
                  try go_simp
                  have hT : SR b1 (o1 + j9 * 3 + 2) b2 (o2 + j2 * 3 + 2) nb (nd l1 j9).ti (nd l2 j2).ti (cg C k).cd V1 :=
                    ⟨(bc.cell (p := ⟨b1, o1 + j9 * 3 + 2, none⟩) (by have := hb1.out; have := BD.out.size; show b1 < _; omega)).trans hS.1, (bc.cell (p := ⟨b2, o2 + j2 * 3 + 2, none⟩) (by have := hb2.out; have := BD.out.size; show b2 < _; omega)).trans hS.2.1, (bc.cell (p := ⟨nb, 2, none⟩) (by have := J6.out.lt; have := BD.out.size; show nb < _; omega)).trans hS.2.2⟩
                  have BV1 : Hid (Below W6.heap.size W6 V1) := BD.out.trans (bc.mono BD.out.size)
                  refine hK.out _ _ hT (fun _ => ?_)
                  clear hK K hS bc hr3 e9
                  have hS := hT
                  clear hT
                  try simp only [Act.put, List.setIfInBounds_toArray, List.set_cons_zero, List.set_cons_succ]
                  refine wpAnyH_take (i := 17) (v := ?v17z17) rfl (by kernel_rfl) (by kernel_rfl) (by kernel_rfl) (fun _ _ _ h => h) (Or.inl ⟨by rfl, ?hy17z17⟩) (by assumption) ?rest17z17
                  case hy17z17 =>
                    intro w hSw
                    dsimp only [SR] at hSw
                    go_simp
                    try with_reducible rfl
                  simp only [Act.put, List.getElem_toArray, List.getElem_cons_succ, List.getElem_cons_zero, List.setIfInBounds_toArray, List.set_cons_zero, List.set_cons_succ]
                  refine wpAnyH_take (i := 18) (v := ?v18z18) rfl (by kernel_rfl) (by kernel_rfl) (by kernel_rfl) (fun _ _ _ h => h) (Or.inl ⟨by rfl, ?hy18z18⟩) (by assumption) ?rest18z18
                  case hy18z18 =>
                    intro w hSw
                    dsimp only [SR] at hSw
                    go_simp
                    try with_reducible rfl
                  simp only [Act.put, List.getElem_toArray, List.getElem_cons_succ, List.getElem_cons_zero, List.setIfInBounds_toArray, List.set_cons_zero, List.set_cons_succ]
                  refine wpAnyH_take (i := 19) (v := ?v19z19) rfl (by kernel_rfl) (by kernel_rfl) (by kernel_rfl) (fun _ _ _ h => h) (Or.inl ⟨by rfl, ?hy19z19⟩) (by assumption) ?rest19z19
                  case hy19z19 =>
                    intro w hSw
                    dsimp only [SR] at hSw
                    go_simp
                    try with_reducible rfl
                  simp only [Act.put, List.getElem_toArray, List.getElem_cons_succ, List.getElem_cons_zero, List.setIfInBounds_toArray, List.set_cons_zero, List.set_cons_succ]
                  refine wpAnyH_take (i := 20) (v := ?v20z20) rfl (by kernel_rfl) (by kernel_rfl) (by kernel_rfl) (fun _ _ _ h => h) (Or.inl ⟨by rfl, ?hy20z20⟩) (by assumption) ?rest20z20
                  case hy20z20 =>
                    intro w hSw
                    dsimp only [SR] at hSw
                    go_simp
                    try with_reducible rfl
                  simp only [Act.put, List.getElem_toArray, List.getElem_cons_succ, List.getElem_cons_zero, List.setIfInBounds_toArray, List.set_cons_zero, List.set_cons_succ]
                  refine wpAnyH_take (i := 21) (v := ?v21z21) rfl (by kernel_rfl) (by kernel_rfl) (by kernel_rfl) (fun _ _ _ h => h) (Or.inl ⟨by rfl, ?hy21z21⟩) (by assumption) ?rest21z21
                  case hy21z21 =>
                    intro w hSw
                    dsimp only [SR] at hSw
                    go_simp
                    try with_reducible rfl
                  simp only [Act.put, List.getElem_toArray, List.getElem_cons_succ, List.getElem_cons_zero, List.setIfInBounds_toArray, List.set_cons_zero, List.set_cons_succ]
                  refine wpAnyH_done (by kernel_rfl) ?_ _
                  refine NoPanic.normal ?_
                  clear hS
                  have hBr := Lib.hid (B6.out.trans (BV1.out.mono (by have := B6.out.size; omega)))
                  have S7 := Lib.hid (S6.out.keep BV1.out)
                  have J7 := Lib.hid (J6.out.keep BV1.out)
                  obtain ⟨bb, hbb⟩ : ∃ bb, ((nd l2 j2).ti.toList == (nd l1 j9).ti.toList) = bb := ⟨_, rfl⟩
                  rw [hbb] at HSU ⊢
                  clear hbb
                  cases bb with
                  | true =>
                    have ht : Hid (suS l1 l2 M (cg C k).cd = (cg C k).cd) := by unfold Hid; rw [HSU.out, if_pos rfl]
                    have y2 := J7.out.c2
                    have hne0 : (cg C k).cd ≠ 0 := by
                      have := has_pos HFr1.out.ord ⟨j9, hj9, e1⟩
                      have := HCD.out
                      omega
                    have HM2 := Lib.hid (carL_hit (f := suS l1 l2 M) hlt (by rw [ht.out]; exact hne0))
                    have he' : ((cg C k).cd == 0) = false := by rw [beq_eq_false_iff_ne]; exact hne0
                    obtain ⟨WA, hWA⟩ : ∃ WA, V1.setCell ⟨nb, 2, none⟩ (.int .i64 (cg C k).cd) = WA := ⟨_, rfl⟩
                    have SA : Hid (InR w WA u16 u17 (carL (suS l1 l2 M) (C.take k)) (lefL (suS l1 l2 M) (C.take k))) := by
                      rw [← hWA]
                      exact hSr.out.keep (by rw [hnb]; exact hBr.out.setCell (p := ⟨nb, 2, none⟩) (Nat.le_refl _) _)
                    have ne : ∀ {i j : Nat}, i ≠ j → (⟨nb, i, none⟩ : Addr) ≠ ⟨nb, j, none⟩ := fun h e => by injection e with _ e2; exact h e2
                    have y0 := J7.out.c0
                    have y1 := J7.out.c1
                    have y3 := J7.out.fr 2
                    have x0 : WA.cell? ⟨nb, 0, none⟩ = some (.int .i64 (cg C k).ca) := by rw [← hWA, World.cell?_setCell_other _ _ _ _ (ne (by decide))]; exact y0
                    have x1 : WA.cell? ⟨nb, 1, none⟩ = some (.int .i64 (cg C k).co) := by rw [← hWA, World.cell?_setCell_other _ _ _ _ (ne (by decide))]; exact y1
                    have x2 : WA.cell? ⟨nb, 2, none⟩ = some (.int .i64 (cg C k).cd) := by rw [← hWA, World.cell?_setCell_same _ _ _ y2]
                    clear hne0 ne
                    go_wp2_with (at_builtin; refine wpList_append_own_at _ rfl _ _ 35 rfl w.heap.size 49 i0 (.agg #[.int .i64 0, .int .i64 0, .int .i64 0]) 3 24 Tryd.underlying35 hi hz0 hz1 hz2 rfl (by decide) _ _ _ rfl (SA.out.o4.alloc _) ⟨WA.heap.size, 0, none⟩ 1 1 [.int .i64 (cg C k).ca, .int .i64 (cg C k).co, .int .i64 (cg C k).cd] rfl rfl (cell_three_new _ _ _ _ _) (by simp [Value.oneCell']) ?c3 ?c4 ?c5 ?_)
                    case c3 => unfold maxLen; omega
                    case c4 => omega
                    case c5 => have := SA.out.bel.size; simp; omega
                    intro v' w4 hown hgrow _ hloc
                    have NX : Hid (InR w w4 v' u17 (carL (suS l1 l2 M) (C.take (k + 1))) (lefL (suS l1 l2 M) (C.take (k + 1)))) := by
                      rw [HM2.out.1, HM2.out.2, ht.out]
                      exact SA.out.more (u := ⟨(cg C k).ca, (cg C k).co, (cg C k).cd⟩) hown hgrow hloc
                    clear hown hgrow hloc SA y0 y1 y2 y3 x0 x1 x2 hWA
                    go_wp2
                    go_roundw
                    case rel => exact ⟨k + 1, by omega, by go_num, NX.out⟩
                    case measure => simp [intOf]; omega
                  | false =>
                    have ht : Hid (suS l1 l2 M (cg C k).cd = 0) := by unfold Hid; rw [HSU.out, if_neg (by simp)]
                    have HM2 := Lib.hid (carL_miss (f := suS l1 l2 M) hlt ht.out)
                    have SW := Lib.hid S7.out.swap
                    have y0 := J7.out.c0
                    have y1 := J7.out.c1
                    have y2 := J7.out.c2
                    go_wp2_with (at_builtin; refine wpList_append_own_at _ rfl _ _ 35 rfl w.heap.size 49 i0 (.agg #[.int .i64 0, .int .i64 0, .int .i64 0]) 3 24 Tryd.underlying35 hi hz0 hz1 hz2 rfl (by decide) _ _ _ rfl (SW.out.o4.alloc _) ⟨V1.heap.size, 0, none⟩ 1 1 [.int .i64 (cg C k).ca, .int .i64 (cg C k).co, .int .i64 (cg C k).cd] rfl rfl (cell_three_new _ _ _ _ _) (by simp [Value.oneCell']) ?c3 ?c4 ?c5 ?_)
                    case c3 => unfold maxLen; omega
                    case c4 => omega
                    case c5 => have := SW.out.bel.size; simp; omega
                    intro v' w4 hown hgrow _ hloc
                    have NX : Hid (InR w w4 u16 v' (carL (suS l1 l2 M) (C.take (k + 1))) (lefL (suS l1 l2 M) (C.take (k + 1)))) := by
                      rw [HM2.out.1, HM2.out.2]
                      exact (SW.out.more (u := cg C k) hown hgrow hloc).swap
                    clear hown hgrow hloc SW y0 y1 y2
                    go_wp2
                    go_roundw
                    case rel => exact ⟨k + 1, by omega, by go_num, NX.out⟩
                    case measure => simp [intOf]; omega
        · obtain rfl : k = C.length := by omega
          have hR := hS.out
          rw [List.take_length] at hR
          have L9 := carL_len (suS l1 l2 M) C
          have R4 : Hid (∃ a c, u16 = .slice a (carL (suS l1 l2 M) C).length c ∧ RdC wr a (carL (suS l1 l2 M) C)) := rdC_own hR.o4 (by omega)
          have R5 : Hid (∃ a c, u17 = .slice a (lefL (suS l1 l2 M) C).length c ∧ RdC wr a (lefL (suS l1 l2 M) C)) := rdC_own hR.o5 (by omega)
          have B9 := Lib.hid hR.bel
          clear hR L9 hS hlt
          go_wp2_with fail
          exact bodyPost_ret (v := .tuple #[u16, u17, .int .i64 0]) (by simp [results, Tryd.results28, go_sem]) rfl (Or.inl ⟨HP3.out, u16, u17, rfl, R4.out, R5.out, B9.out⟩)
end Go.Proofs.YthdmodmplpoejaaDoor
