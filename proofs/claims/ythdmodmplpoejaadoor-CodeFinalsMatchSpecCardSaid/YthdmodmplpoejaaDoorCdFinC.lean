/-
  Package code: final, the walk.
-/
import Derived.Test.YthdmodmplpoejaaDoorCdFinal
namespace Go.Proofs.YthdmodmplpoejaaDoor
open Go.RowKit Go.WideMaps Go.Maps

set_option maxRecDepth 100000 in
set_option maxHeartbeats 4000000 in
theorem final_c (bp bl : Nat) (p lv : Nat → Nat) (H : Nat → Prop) (T : Tree p lv H) (a : Option Addr) (ca : Nat) (D : List Cg) (w : World) (hp : Arr w bp p) (hl : Arr w bl lv) (h9 : ∀ c, H c → c ≤ 999) (h8 : ∀ c, H c → lv c ≤ 8)
    (hC : RdC w a D) (hD : HasD H D) (h0 : 0 < D.length) (hn : D.length ≤ 20000) :
    Calls Tryd.prog 49 #[fv bp bl, .slice a D.length ca] w (FiP p lv D w) := by
  have hmm := @run_makeMap Tryd.prog
  obtain ⟨W1, hW1⟩ : ∃ W1, w.alloc (.cells #[row bp, row bl] 71) = W1 := ⟨_, rfl⟩
  have B1 : Hid (BoxF w W1 bp bl) := by unfold Hid; rw [← hW1]; exact box_f w bp bl
  have HP := Lib.hid (hp.below B1.out.1)
  have HL := Lib.hid (hl.below B1.out.1)
  have HC := Lib.hid (hC.below B1.out.1)
  have HT : Hid (Tree p lv H ∧ (∀ c, H c → c ≤ 999) ∧ ∀ c, H c → lv c ≤ 8) := ⟨T, h9, h8⟩
  have HD := Lib.hid hD
  have hwb : Hid (w.heap.size < W1.heap.size) := by have := B1.out.2.1; unfold Hid; omega
  have S0 : Hid (InF W1 ((W1.alloc (.map #[] 0)).alloc (.map #[] 0)) W1.heap.size (W1.heap.size + 1) (9 * 0) (gV D 0) (gU p lv D 0)) := InF.made W1
  have h9n := hC.1
  clear hp hl hC T hD h9 h8
  go_enter Tryd.func49, Tryd.ntmps49
  go_wp2_with fail
  go_loopw [19] (fun i wr => ∃ k : Nat, k ≤ D.length ∧ i = .int .i64 k ∧ Hid (InF W1 wr W1.heap.size (W1.heap.size + 1) (9 * k) (gV D k) (gU p lv D k))) (fun i _ => D.length - (intOf i).toNat)
  case atStart => exact ⟨0, Nat.zero_le _, rfl, S0.out⟩
  case round =>
    clear S0
    obtain ⟨k, hk, rfl, hS⟩ := hrel
    have x0 : wr.cell? ⟨w.heap.size, 0, none⟩ = some (row bp) := (hS.out.bel.cell (p := ⟨w.heap.size, 0, none⟩) hwb.out).trans B1.out.2.2.1
    have x1 : wr.cell? ⟨w.heap.size, 1, none⟩ = some (row bl) := (hS.out.bel.cell (p := ⟨w.heap.size, 1, none⟩) hwb.out).trans B1.out.2.2.2
    by_cases hlt : k < D.length
    · obtain ⟨wo, hwo⟩ : ∃ x : World, x = wr := ⟨wr, rfl⟩
      subst hwo
      obtain ⟨b', off, rfl, u0, u1, u2⟩ := (HC.out.below hS.out.bel).at_ hlt
      have hlt' : (k : Int) < (D.length : Int) := by omega
      obtain ⟨c, ec, hc⟩ := HD.out k hlt
      have c9 := HT.out.2.1 c hc
      have l8 := HT.out.2.2 c hc
      obtain ⟨WA, hWA⟩ : ∃ W, wo.alloc (.cells #[.int .i64 (cg D k).ca, .int .i64 (cg D k).co, .int .i64 (cg D k).cd] 49) = W := ⟨_, rfl⟩
      have N1 : Hid (CodB wo WA (cg D k)) := by unfold Hid; rw [← hWA]; exact cod_b _ _
      have SA := hS.out.keep N1.out.1
      have in1 : in64 (cg D k).cd := by rw [ec]; unfold in64; omega
      have hlook := SA.c1.look in1
      have hle : gV D k (cg D k).cd ≤ 20000 := by have := cn_le (vP D (cg D k).cd) k; unfold gV; omega
      obtain ⟨WB, hup, SB, gB⟩ := SA.store1 (by unfold maxLen; omega) in1
      have SB' := Lib.hid ((SB.more (m := 9 * k + 1) (Nat.le_refl _)).congr (fun s => gV_next s) (fun s => rfl))
      have hws : w.heap.size < wo.heap.size := Nat.lt_of_lt_of_le hwb.out hS.out.bel.size
      have v2 := N1.out.2.c2
      have v2b := gB.cell v2 (by have := SA.lo; have := hS.out.le; simp; omega)
      have y0 := gB.cell ((N1.out.1.cell (p := ⟨w.heap.size, 0, none⟩) hws).trans x0) (by have := hwb.out; simp; omega)
      have y1 := gB.cell ((N1.out.1.cell (p := ⟨w.heap.size, 1, none⟩) hws).trans x1) (by have := hwb.out; simp; omega)
      rw [ec] at u2 hWA hlook hup v2 v2b hle
      obtain ⟨m, hm⟩ : ∃ m, gV D k (c : Int) = m := ⟨_, rfl⟩
      rw [hm] at hlook hup hle
      have hm9 : (m : Int) ≤ 20000 := by omega
      have EC := Lib.hid (And.intro ec hc)
      have KP := Lib.hid (path_c bp bl p lv H HT.out.1 c WB (HP.out.below SB'.out.bel) (.inr hc) HT.out.2.1 l8)
      have bl2 := Lib.hid SB'.out.le
      clear SA SB gB hS N1 in1 x0 x1 hm ec hc
      go_wp2_with fail
      (with_reducible refine KP.out.mono ?_)
      rintro e WP ⟨v, rfl, hown, bP⟩
      obtain ⟨av, cv, rfl, _⟩ := rd_own hown (pth_len _ _ _) (by omega)
      have SJ : Hid (InF W1 WP W1.heap.size (W1.heap.size + 1) (9 * k + 1 + 0) (gV D (k + 1)) (gJ p lv D k c 0) ∧ WP.ownsRow WB.heap.size 3 1 (.slice av (lv c) cv) (lv c) ((pth p c (lv c)).map (Value.int .i64))) :=
        ⟨(SB'.out.keep bP).congr (fun s => rfl) (fun s => by unfold gJ pth; simp), hown⟩
      clear bP hown KP hlook hup v2 v2b y0 y1 u0 u1 u2 hWA SB'
      go_wp2_with fail
      go_loopw [33] (fun i wr => ∃ j : Nat, j ≤ lv c ∧ i = .int .i64 j ∧ Hid (InF W1 wr W1.heap.size (W1.heap.size + 1) (9 * k + 1 + j) (gV D (k + 1)) (gJ p lv D k c j) ∧ wr.ownsRow WB.heap.size 3 1 (.slice av (lv c) cv) (lv c) ((pth p c (lv c)).map (Value.int .i64)))) (fun i _ => lv c - (intOf i).toNat)
      case atStart => exact ⟨0, Nat.zero_le _, rfl, SJ.out⟩
      case round =>
        clear SJ
        obtain ⟨j, hj, rfl, hJ⟩ := hrel
        by_cases hjl : j < lv c
        · have hjl' : (j : Int) < (lv c : Int) := by omega
          obtain ⟨a', c', e, hr⟩ := rd_own hJ.out.2 (pth_len _ _ _) (by omega)
          injection e with e _ _
          subst e
          obtain ⟨b9, off9, rfl, q0⟩ := hr.at_ (k := j) (by rw [pth_len]; exact hjl)
          rw [pth_at hjl] at q0
          have hin := HT.out.1.inIt (k := j) (c := c) (.inr EC.out.2)
          have hx9 : it p j c ≤ 999 := by
            rcases hin with h | h
            · omega
            · exact HT.out.2.1 _ h
          obtain ⟨x, hx⟩ : ∃ x, it p j c = x := ⟨_, rfl⟩
          rw [hx] at q0 hx9
          have HX := Lib.hid hx
          have inx : in64 (x : Int) := by unfold in64; omega
          have hlook := hJ.out.1.c2.look inx
          obtain ⟨WN, hup, SN, gN⟩ := hJ.out.1.store2 (by unfold maxLen; omega) inx
          have hle : gJ p lv D k c j (x : Int) ≤ 20010 := by
            have h1 := cn_le (uP p lv D (x : Int)) k
            have h2 := List.count_le_length (a := (x : Int)) (l := pth p c j)
            rw [pth_len] at h2
            unfold gJ gU; omega
          have NX : Hid (InF W1 WN W1.heap.size (W1.heap.size + 1) (9 * k + 1 + (j + 1)) (gV D (k + 1)) (gJ p lv D k c (j + 1)) ∧ WN.ownsRow WB.heap.size 3 1 (.slice (some ⟨b9, off9, none⟩) (lv c) cv) (lv c) ((pth p c (lv c)).map (Value.int .i64))) := by
            refine ⟨SN.congr (fun s => rfl) (fun s => gJ_next (by rw [HX.out]) s), hJ.out.2.kept gN ?_⟩
            refine .inr fun e => ?_
            have := (hJ.out.2.lt _ e).1
            have := bl2.out
            omega
          obtain ⟨m2, hm2⟩ : ∃ m, gJ p lv D k c j (x : Int) = m := ⟨_, rfl⟩
          rw [hm2] at hlook hup hle
          have hm9' : (m2 : Int) ≤ 20010 := by omega
          clear SN gN hJ hr hin hx hm2 inx
          go_wp2
          go_roundw
          case rel => exact ⟨j + 1, by omega, by go_num, NX.out⟩
          case measure => simp [intOf]; omega
        · obtain rfl : j = lv c := by omega
          have NX : Hid (InF W1 wr W1.heap.size (W1.heap.size + 1) (9 * (k + 1)) (gV D (k + 1)) (gU p lv D (k + 1))) :=
            (hJ.out.1.more (m := 9 * (k + 1)) (by omega)).congr (fun s => rfl) (fun s => gJ_end HT.out.1 (.inr EC.out.2) EC.out.1 s)
          clear hJ hjl
          go_wp2
          go_roundw
          case rel => exact ⟨k + 1, by omega, by go_num, NX.out⟩
          case measure => simp [intOf]; omega
    · obtain rfl : k = D.length := by omega
      obtain ⟨b', off, rfl, u0, u1, u2⟩ := (HC.out.below hS.out.bel).at_ h0
      simp only [Nat.zero_mul, Nat.add_zero] at u0 u1 u2
      obtain ⟨c, ec, hc⟩ := HD.out 0 h0
      have c9 := HT.out.2.1 c hc
      have in1 : in64 (cg D 0).cd := by rw [ec]; unfold in64; omega
      have hlook := hS.out.c1.look in1
      have BW : Hid (Below w.heap.size w wr) := B1.out.1.trans (hS.out.bel.mono B1.out.1.size)
      have h0' : (0 : Int) < (D.length : Int) := by omega
      by_cases hall : vN D (cg D 0).cd = D.length
      · have R : Hid (FiP p lv D w (.returned (.tuple #[.int .i64 (cg D 0).cd, .int .i64 1])) wr) := ⟨_, _, rfl, .inl ⟨rfl, hall⟩, in1, BW.out⟩
        rw [show gV D D.length (cg D 0).cd = D.length from hall] at hlook
        clear hS hall hlt ec hc in1 x0 x1
        go_wp2
        go_ret2
        exact R.out
      · have NA := Lib.hid hall
        obtain ⟨m, hm⟩ : ∃ m, gV D D.length (cg D 0).cd = m := ⟨_, rfl⟩
        have hm1 : ¬ (m : Int) = (D.length : Int) := fun e => NA.out (by show gV D D.length (cg D 0).cd = _; omega)
        have hm2 : ((m : Int) == (D.length : Int)) = false := by rw [beq_eq_false_iff_ne]; exact hm1
        rw [hm] at hlook
        have K1 := Lib.hid (majority_c bp bl lv W1.heap.size (9 * D.length) (ctF (gV D D.length)) D.length wr (HL.out.below hS.out.bel) hS.out.c1 (small_V HD.out HT.out.2.1 hn) hn HT.out.1.zero)
        have K2 := Lib.hid (fun W (hb : Below wr.heap.size wr W) => majority_c bp bl lv (W1.heap.size + 1) (9 * D.length) (ctF (gU p lv D D.length)) D.length W (HL.out.below (hS.out.bel.trans (hb.mono hS.out.bel.size))) (hS.out.keep hb).c2 (small_U HT.out.1 HD.out HT.out.2.1 hn) hn HT.out.1.zero)
        have hws : Hid (w.heap.size < wr.heap.size) := Nat.lt_of_lt_of_le hwb.out hS.out.bel.size
        clear hS hall hlt ec hc in1 hm
        go_wp2_with fail
        (with_reducible refine K1.out.mono ?_)
        rintro e W2 ⟨d, d9, rfl, hmj, b2⟩
        have FM := Lib.hid (fin_maj HT.out.1 HD.out h0 NA.out hmj)
        have z0 := (b2.cell (p := ⟨w.heap.size, 0, none⟩) hws.out).trans x0
        have z1 := (b2.cell (p := ⟨w.heap.size, 1, none⟩) hws.out).trans x1
        have B2 := Lib.hid b2
        clear hmj b2 hlook x0 x1 u0 u1 u2
        by_cases hd : d = 0
        · subst hd
          have NM := Lib.hid (FM.out.2 rfl)
          have K3 := Lib.hid (K2.out W2 B2.out)
          go_wp2_with fail
          (with_reducible refine K3.out.mono ?_)
          rintro e W3 ⟨d, d9, rfl, hmj, b3⟩
          have FA := Lib.hid (fin_abv HT.out.1 HD.out NM.out hmj)
          have B3 : Hid (Below w.heap.size w W3) := BW.out.trans ((B2.out.trans (b3.mono B2.out.size)).mono BW.out.size)
          clear hmj b3 z0 z1
          by_cases hd : d = 0
          · subst hd
            have R : Hid (FiP p lv D w (.returned (.tuple #[.int .i64 0, .int .i64 4])) W3) := ⟨_, _, rfl, FA.out.2 rfl, by unfold in64; omega, B3.out⟩
            go_wp2
            go_ret2
            exact R.out
          · have R : Hid (FiP p lv D w (.returned (.tuple #[.int .i64 (d : Nat), .int .i64 3])) W3) := ⟨_, _, rfl, FA.out.1 hd, by unfold in64; omega, B3.out⟩
            have hd' : (0 : Int) < (d : Int) := by omega
            clear hd
            go_wp2
            go_ret2
            exact R.out
        · have R : Hid (FiP p lv D w (.returned (.tuple #[.int .i64 (d : Nat), .int .i64 2])) W2) := ⟨_, _, rfl, FM.out.1 hd, by unfold in64; omega, BW.out.trans (B2.out.mono BW.out.size)⟩
          have hd' : (0 : Int) < (d : Int) := by omega
          clear hd
          go_wp2
          go_ret2
          exact R.out
end Go.Proofs.YthdmodmplpoejaaDoor
