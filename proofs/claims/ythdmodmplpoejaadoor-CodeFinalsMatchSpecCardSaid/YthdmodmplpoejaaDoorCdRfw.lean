/-
  The reference of package code: final: the walk.
-/
import Derived.Test.YthdmodmplpoejaaDoorCdRfn
namespace Go.Proofs.YthdmodmplpoejaaDoor
open Go.RowKit Go.WideMaps Go.Maps

set_option maxRecDepth 100000 in
set_option maxHeartbeats 4000000 in
theorem rfinal_c (a : Option Addr) (ca : Nat) (l : List Nd) (a2 : Option Addr) (c2 : Nat) (D : List Cg) (w : World) (hl : RdN w a l) (hf : Fits l) (hz : frS l = 0) (hC : RdC w a2 D) (hD : HasD (Has l) D) (h0 : 0 < D.length) (hn : D.length ≤ 20000) :
    Calls Tryd.prog 51 #[.slice a l.length ca, .slice a2 D.length c2] w (RfP l D w) := by
  have F := fr_of hz
  have HF := Lib.hid F
  have h6 : l.length ≤ 600 := F.le
  have h9 := hC.1
  have HL := Lib.hid hl
  have HC := Lib.hid hC
  have HD := Lib.hid hD
  have HLN : Hid (∀ W (d : Nat), Below w.heap.size w W → Has l d → Calls Tryd.prog 44 #[.slice a l.length ca, .int .i64 (d : Nat)] W (LnP l d W)) := fun W d hb hd => rlineage_c a ca l d W (hl.below hb) F hd
  have HWI : Hid (∀ W (d : Nat), Below w.heap.size w W → Has l d → Calls Tryd.prog 16 #[.slice a l.length ca, .int .i64 (d : Nat)] W (WiP (cvd l (d : Nat)) W)) := fun W d hb hd => rWithin_c a ca l d W (hl.below hb) hf hz hd
  obtain ⟨b', off, rfl, u0, u1, u2⟩ := hC.at_ h0
  simp only [Nat.zero_mul, Nat.add_zero] at u0 u1 u2
  have h0' : (0 : Int) < (D.length : Int) := by omega
  have hbl : b' < w.heap.size := by
    obtain ⟨b9, o9, e, h, _⟩ := hC.2 h0
    injection e with e; injection e with e1 e2; subst e1; exact h
  obtain ⟨W1, hW1⟩ : ∃ W1, w.alloc (.cells #[.int .i64 0, .int .i64 0, .int .i64 0] 42) = W1 := ⟨_, rfl⟩
  have b1 : Below w.heap.size w W1 := by rw [← hW1]; exact bel_one _ _
  have z1 : Hid (W1.heap.size = w.heap.size + 1) := by unfold Hid; rw [← hW1]; simp
  have r1 : B3 W1 w.heap.size (.int .i64 0) (.int .i64 0) (.int .i64 0) := by rw [← hW1]; exact B3.made _ _ _ _ _
  have v0 : W1.cell? ⟨b', off, none⟩ = some (.int .i64 (cg D 0).ca) := (b1.cell (p := ⟨b', off, none⟩) hbl).trans u0
  have S0 : Hid (InRf w (W1.alloc (.cells #[.int .i64 (cg D 0).ca, .int .i64 0, .int .i64 4] 42)) w.heap.size W1.heap.size (cg D 0).ca 0 4) :=
    ⟨r1.keep (bel_one _ _), B3.made _ _ _ _ _, b1.trans ((bel_one _ _).mono b1.size), Nat.le_refl _, by have := z1.out; omega⟩
  clear hl hf hz hC hD F r1 b1 u0 u1 u2 hbl
  go_enter Tryd.func51, Tryd.ntmps51
  go_wp2_with fail
  obtain ⟨r, hr⟩ : ∃ r, w.heap.size = r := ⟨_, rfl⟩
  obtain ⟨o, ho⟩ : ∃ o, W1.heap.size = o := ⟨_, rfl⟩
  obtain ⟨a0, ha0⟩ : ∃ a0, (cg D 0).ca = a0 := ⟨_, rfl⟩
  obtain ⟨W3, hW3⟩ : ∃ W3, W1.alloc (.cells #[.int .i64 (cg D 0).ca, .int .i64 0, .int .i64 4] 42) = W3 := ⟨_, rfl⟩
  rw [hW3] at S0 ⊢
  rw [hr, ho, ha0] at S0
  rw [hr, ho, ha0]
  have HA := Lib.hid ha0
  clear hW3 hW1 v0 z1 ho ha0
  go_loopw [6, 26] (fun lv i wr => ∃ k least : Nat, ∃ c y : Int, k ≤ l.length ∧ least ≤ 601 ∧ i = .int .i64 k ∧ lv = .int .i64 least ∧ Hid (InRf w wr r o a0 c y ∧ RfK l D k c y least)) (fun _ i _ => l.length - (intOf i).toNat)
  case atStart => exact ⟨0, l.length + 1, 0, 4, Nat.zero_le _, by omega, rfl, by go_num, S0.out, rf_start l D⟩
  case round =>
    clear S0
    obtain ⟨k, least, c, y, hk, hl9, rfl, rfl, hS⟩ := hrel
    by_cases hlt : k < l.length
    · obtain ⟨wo, hwo⟩ : ∃ x : World, x = wr := ⟨wr, rfl⟩
      subst hwo
      obtain ⟨bn, on, rfl, u0, u1, u2⟩ := (HL.out.below hS.out.1.bel).at_ hlt
      have hlt' : (k : Int) < (l.length : Int) := by omega
      obtain ⟨d, hd, hh⟩ := nd_has HF.out hlt
      obtain ⟨WN, hWN⟩ : ∃ W, wo.alloc (.cells #[.int .i64 (nd l k).cd, .int .i64 (nd l k).pr, .string (nd l k).ti] 56) = W := ⟨_, rfl⟩
      have N1 : Hid (NodeB wo WN (nd l k)) := by unfold Hid; rw [← hWN]; exact node_b _ _
      have SN := Lib.hid (hS.out.1.keep N1.out.1)
      have RK := Lib.hid hS.out.2
      have NB : Hid (WN.cell? ⟨wo.heap.size, 0, none⟩ = some (.int .i64 (d : Nat)) ∧ wo.heap.size < WN.heap.size) := ⟨by rw [← hd]; exact N1.out.2.2.1, by have := N1.out.2.1; omega⟩
      have HH := Lib.hid (And.intro hd hh)
      rw [hd] at u0 hWN
      obtain ⟨z, hz⟩ : ∃ z, wo.heap.size = z := ⟨_, rfl⟩
      rw [hz] at NB
      clear N1 hS hd hh
      go_wp2_with fail
      clear u0 u1 u2 hWN
      try rw [hz]
      clear hz
      go_loopw [9, 10, 32] (fun ov bv iv wr => ∃ i : Nat, i ≤ D.length ∧ ov = .int .i64 (cn (vP D (d : Int)) i : Nat) ∧ bv = .int .i64 (cn (uP (par l) (lev l) D (d : Int)) i : Nat) ∧ iv = .int .i64 i ∧ Hid (Below WN.heap.size WN wr)) (fun _ _ iv _ => D.length - (intOf iv).toNat)
      case atStart => exact ⟨0, Nat.zero_le _, rfl, rfl, rfl, Below.refl _ _⟩
      case round =>
        obtain ⟨i, hi, rfl, rfl, rfl, hB⟩ := hrel
        have BW := Lib.hid (SN.out.bel.trans (hB.out.mono SN.out.bel.size))
        by_cases hil : i < D.length
        · obtain ⟨b9, o9, e9, u0, u1, u2⟩ := (HC.out.below BW.out).at_ hil
          injection e9 with e9; injection e9 with e91 e92; subst e91; subst e92
          have hil' : (i : Int) < (D.length : Int) := by omega
          obtain ⟨e, he, hhe⟩ := HD.out i hil
          have hev := HF.out.lev hhe
          obtain ⟨WC, hWC⟩ : ∃ W, wr.alloc (.cells #[.int .i64 (cg D i).ca, .int .i64 (cg D i).co, .int .i64 (cg D i).cd] 49) = W := ⟨_, rfl⟩
          have N1 : Hid (CodB wr WC (cg D i)) := by unfold Hid; rw [← hWC]; exact cod_b _ _
          have v2 := N1.out.2.c2
          have q2 : WC.cell? ⟨z, 0, none⟩ = some (.int .i64 (d : Nat)) := (N1.out.1.cell (p := ⟨z, 0, none⟩) (Nat.lt_of_lt_of_le NB.out.2 hB.out.size)).trans ((hB.out.cell (p := ⟨z, 0, none⟩) NB.out.2).trans NB.out.1)
          have BC := Lib.hid (hB.out.trans (N1.out.1.mono hB.out.size))
          have KL := Lib.hid (HLN.out WC e (BW.out.trans (N1.out.1.mono BW.out.size)) hhe)
          have UP : Hid (uP (par l) (lev l) D (d : Int) i = (pth (par l) e (lev l e)).contains (d : Int)) := by unfold Hid uP; rw [he, Int.toNat_natCast, pth_has]
          have VP : Hid (vP D (d : Int) i = decide ((e : Int) = (d : Int))) := by unfold Hid vP; rw [he]
          have zc : Hid (wr.heap.size < WC.heap.size ∧ z < WC.heap.size) := ⟨N1.out.2.lt, Nat.lt_of_lt_of_le NB.out.2 BC.out.size⟩
          have CL1 := cn_le (vP D (d : Int)) i
          have CL2 := cn_le (uP (par l) (lev l) D (d : Int)) i
          rw [he] at u2 hWC v2
          clear N1 hB BW hev hhe he
          go_wp2_with fail
          (with_reducible refine KL.out.mono ?_)
          rintro e5 W4 ⟨av, cv, rfl, hrd, b4, _⟩
          have KC := Lib.hid (contains_c av cv (pth (par l) e (lev l e)) (d : Int) W4 hrd)
          rw [pth_len] at KC
          have S4 := Lib.hid (BC.out.trans (b4.mono BC.out.size))
          have v8 := (b4.cell (p := ⟨wr.heap.size, 2, none⟩) zc.out.1).trans v2
          have q8 := (b4.cell (p := ⟨z, 0, none⟩) zc.out.2).trans q2
          clear KL hrd b4 u0 u1 u2 hWC v2 q2 BC
          by_cases hv : (e : Int) = (d : Int)
          · have CV : Hid (cn (vP D (d : Int)) (i + 1) = cn (vP D (d : Int)) i + 1) := by unfold Hid; rw [cn, if_pos (by rw [VP.out]; exact decide_eq_true hv)]
            have hv0 : ((e : Int) == (d : Int)) = true := by rw [beq_iff_eq]; exact hv
            clear VP
            go_wp2_with fail
            (with_reducible refine KC.out.mono ?_)
            rintro e W6 ⟨rfl, rfl⟩
            rw [← UP.out]
            by_cases hu : uP (par l) (lev l) D (d : Int) i = true
            · rw [hu]
              have CU : Hid (cn (uP (par l) (lev l) D (d : Int)) (i + 1) = cn (uP (par l) (lev l) D (d : Int)) i + 1) := by unfold Hid; rw [cn, if_pos hu]
              have NX := Lib.hid S4.out
              clear hu KC S4 UP v8 q8
              go_wp2
              go_roundw
              case rel => exact ⟨i + 1, by omega, by rw [CV.out]; try go_num, by rw [CU.out]; try go_num, by go_num, NX.out⟩
              case measure => simp [intOf]; omega
            · have hu' : uP (par l) (lev l) D (d : Int) i = false := by simpa using hu
              have CU : Hid (cn (uP (par l) (lev l) D (d : Int)) (i + 1) = cn (uP (par l) (lev l) D (d : Int)) i) := by unfold Hid; rw [cn, if_neg hu]; rfl
              rw [hu']
              have NX := Lib.hid S4.out
              clear hu hu' KC S4 UP v8 q8
              go_wp2
              go_roundw
              case rel => exact ⟨i + 1, by omega, by rw [CV.out]; try go_num, by rw [CU.out], by go_num, NX.out⟩
              case measure => simp [intOf]; omega
          · have CV : Hid (cn (vP D (d : Int)) (i + 1) = cn (vP D (d : Int)) i) := by unfold Hid; rw [cn, if_neg (by rw [VP.out]; simpa using hv)]; rfl
            have hv0 : ((e : Int) == (d : Int)) = false := by rw [beq_eq_false_iff_ne]; exact hv
            clear VP
            go_wp2_with fail
            (with_reducible refine KC.out.mono ?_)
            rintro e W6 ⟨rfl, rfl⟩
            rw [← UP.out]
            by_cases hu : uP (par l) (lev l) D (d : Int) i = true
            · rw [hu]
              have CU : Hid (cn (uP (par l) (lev l) D (d : Int)) (i + 1) = cn (uP (par l) (lev l) D (d : Int)) i + 1) := by unfold Hid; rw [cn, if_pos hu]
              have NX := Lib.hid S4.out
              clear hu KC S4 UP v8 q8
              go_wp2
              go_roundw
              case rel => exact ⟨i + 1, by omega, by rw [CV.out]; try go_num, by rw [CU.out]; try go_num, by go_num, NX.out⟩
              case measure => simp [intOf]; omega
            · have hu' : uP (par l) (lev l) D (d : Int) i = false := by simpa using hu
              have CU : Hid (cn (uP (par l) (lev l) D (d : Int)) (i + 1) = cn (uP (par l) (lev l) D (d : Int)) i) := by unfold Hid; rw [cn, if_neg hu]; rfl
              rw [hu']
              have NX := Lib.hid S4.out
              clear hu hu' KC S4 UP v8 q8
              go_wp2
              go_roundw
              case rel => exact ⟨i + 1, by omega, by rw [CV.out]; try go_num, by rw [CU.out], by go_num, NX.out⟩
              case measure => simp [intOf]; omega
        · obtain rfl : i = D.length := by omega
          have SB := Lib.hid (SN.out.keep hB.out)
          have q2 : wr.cell? ⟨z, 0, none⟩ = some (.int .i64 (d : Nat)) := (hB.out.cell (p := ⟨z, 0, none⟩) NB.out.2).trans NB.out.1
          have KW := Lib.hid (HWI.out wr d SB.out.bel HH.out.2)
          have zc : Hid (z < wr.heap.size) := Nat.lt_of_lt_of_le NB.out.2 hB.out.size
          have ev : Hid (cn (vP D (d : Int)) D.length = vN D (nd l k).cd) := by unfold Hid; rw [HH.out.1]; rfl
          have eu : Hid (cn (uP (par l) (lev l) D (d : Int)) D.length = uN (par l) (lev l) D (nd l k).cd) := by unfold Hid; rw [HH.out.1]; rfl
          have ec : Hid (cvd l (d : Int) = cvd l (nd l k).cd) := by unfold Hid; rw [HH.out.1]
          have CL1 := cn_le (vP D (d : Int)) D.length
          have CL2 := cn_le (uP (par l) (lev l) D (d : Int)) D.length
          obtain ⟨nv, hnv⟩ : ∃ n, cn (vP D (d : Int)) D.length = n := ⟨_, rfl⟩
          obtain ⟨nu, hnu⟩ : ∃ n, cn (uP (par l) (lev l) D (d : Int)) D.length = n := ⟨_, rfl⟩
          obtain ⟨nc, hnc⟩ : ∃ n, cvd l (d : Int) = n := ⟨_, rfl⟩
          have CL3 : nc ≤ l.length := by rw [← hnc]; exact cn_le _ _
          rw [hnv] at ev CL1 ⊢
          rw [hnu] at eu CL2 ⊢
          rw [hnc] at ec KW
          clear hB hil hnv hnu hnc
          go_wp2_with fail
          (with_reducible refine KW.out.mono ?_)
          rintro e5 W5 ⟨av, cv, rfl, b5⟩
          have S5 := Lib.hid (SB.out.keep b5)
          have q5 := (b5.cell (p := ⟨z, 0, none⟩) zc.out).trans q2
          have t0 := S5.out.bo.c0
          have t1 := S5.out.bo.c1
          have t2 := S5.out.bo.c2
          have tf0 := S5.out.bo.fr 0
          have tf1 := S5.out.bo.fr 1
          have tf2 := S5.out.bo.fr 2
          have s0 := S5.out.br.c0
          have s1 := S5.out.br.c1
          have s2 := S5.out.br.c2
          have sf0 := S5.out.br.fr 0
          have sf1 := S5.out.br.fr 1
          have sf2 := S5.out.br.fr 2
          have hnv9 : (nv : Int) ≤ 20000 := by omega
          have hnu9 : (nu : Int) ≤ 20000 := by omega
          have hnc9 : (nc : Int) ≤ 600 := by omega
          have hle9 : (least : Int) ≤ 601 := by omega
          clear b5 KW SB q2
          by_cases hall : nv = D.length
          · have hall' : (nv : Int) = (D.length : Int) := by omega
            have RR : Hid (RfP l D w (.returned (.agg #[.int .i64 a0, .int .i64 (d : Nat), .int .i64 1])) (three W5 r (.int .i64 a0) (.int .i64 (d : Nat)) (.int .i64 1)) ∧ B3 (three W5 r (.int .i64 a0) (.int .i64 (d : Nat)) (.int .i64 1)) r (.int .i64 a0) (.int .i64 (d : Nat)) (.int .i64 1)) := by
              have hres := S5.out.res (.int .i64 a0) (.int .i64 (d : Nat)) (.int .i64 1)
              exact ⟨⟨_, _, by rw [HA.out], .inl ⟨rfl, by rw [← HH.out.1, ← ev.out]; exact hall⟩, hres.2⟩, hres.1⟩
            have y0 := RR.out.2.c0
            have y1 := RR.out.2.c1
            have y2 := RR.out.2.c2
            unfold three at y0 y1 y2
            clear hall
            go_wp2
            (try simp only [Exit.inBlock, Exit.then])
            refine bodyPost_ret (v := .agg #[.int .i64 a0, .int .i64 (d : Nat), .int .i64 1]) ?_ rfl RR.out.1
            have hres : Tryd.f51.results = #[.cell 4 42] := by kernel_rfl
            simp only [results, hres]
            go_simp
          · have hall' : ¬ (nv : Int) = (D.length : Int) := by omega
            have hall0 : ((nv : Int) == (D.length : Int)) = false := by rw [beq_eq_false_iff_ne]; exact hall'
            by_cases hmost : D.length < 2 * nv
            · have hmost' : (D.length : Int) < 2 * (nv : Int) := by omega
              have RR : Hid (RfP l D w (.returned (.agg #[.int .i64 a0, .int .i64 (d : Nat), .int .i64 2])) (three W5 r (.int .i64 a0) (.int .i64 (d : Nat)) (.int .i64 2)) ∧ B3 (three W5 r (.int .i64 a0) (.int .i64 (d : Nat)) (.int .i64 2)) r (.int .i64 a0) (.int .i64 (d : Nat)) (.int .i64 2)) := by
                have hres := S5.out.res (.int .i64 a0) (.int .i64 (d : Nat)) (.int .i64 2)
                exact ⟨⟨_, _, by rw [HA.out], .inr (.inl ⟨rfl, by rw [← HH.out.1, ← ev.out]; exact hall, by rw [← HH.out.1, ← ev.out]; exact hmost⟩), hres.2⟩, hres.1⟩
              have y0 := RR.out.2.c0
              have y1 := RR.out.2.c1
              have y2 := RR.out.2.c2
              unfold three at y0 y1 y2
              clear hall hmost
              go_wp2
              (try simp only [Exit.inBlock, Exit.then])
              refine bodyPost_ret (v := .agg #[.int .i64 a0, .int .i64 (d : Nat), .int .i64 2]) ?_ rfl RR.out.1
              have hres : Tryd.f51.results = #[.cell 4 42] := by kernel_rfl
              simp only [results, hres]
              go_simp
            · have hmost' : ¬ (D.length : Int) < 2 * (nv : Int) := by omega
              have hv9 : Hid (¬ D.length < 2 * vN D (nd l k).cd) := by rw [← ev.out]; exact hmost
              by_cases hup : D.length < 2 * nu
              · have hup' : (D.length : Int) < 2 * (nu : Int) := by omega
                by_cases hcv : nc < least
                · have hcv' : (nc : Int) < (least : Int) := by omega
                  have NX : Hid (InRf w ((W5.setCell ⟨o, 1, none⟩ (.int .i64 (d : Nat))).setCell ⟨o, 2, none⟩ (.int .i64 3)) r o a0 (d : Nat) 3 ∧ RfK l D (k + 1) (d : Nat) 3 nc) := by
                    refine ⟨S5.out.set _ _, ?_⟩
                    have := rf_hit RK.out hlt hv9.out (by rw [← eu.out]; exact hup) (by rw [← ec.out]; exact hcv)
                    rw [← ec.out, HH.out.1] at this
                    exact this
                  clear hall hmost hup hcv S5
                  go_wp2
                  go_roundw
                  case rel => exact ⟨k + 1, nc, d, 3, by omega, by omega, by go_num, rfl, NX.out⟩
                  case measure => simp [intOf]; omega
                · have hcv' : ¬ (nc : Int) < (least : Int) := by omega
                  have NX : Hid (InRf w W5 r o a0 c y ∧ RfK l D (k + 1) c y least) := ⟨S5.out, rf_miss RK.out hv9.out (by rw [← ec.out]; exact fun h => hcv h.2)⟩
                  clear hall hmost hup hcv S5
                  go_wp2
                  go_roundw
                  case rel => exact ⟨k + 1, least, c, y, by omega, by omega, by go_num, rfl, NX.out⟩
                  case measure => simp [intOf]; omega
              · have hup' : ¬ (D.length : Int) < 2 * (nu : Int) := by omega
                have NX : Hid (InRf w W5 r o a0 c y ∧ RfK l D (k + 1) c y least) := ⟨S5.out, rf_miss RK.out hv9.out (by rw [← eu.out]; exact fun h => hup h.1)⟩
                clear hall hmost hup S5
                go_wp2
                go_roundw
                case rel => exact ⟨k + 1, least, c, y, by omega, by omega, by go_num, rfl, NX.out⟩
                case measure => simp [intOf]; omega
    · obtain rfl : k = l.length := by omega
      have t0 := hS.out.1.bo.c0
      have t1 := hS.out.1.bo.c1
      have t2 := hS.out.1.bo.c2
      have s0 := hS.out.1.br.c0
      have s1 := hS.out.1.br.c1
      have s2 := hS.out.1.br.c2
      have sf0 := hS.out.1.br.fr 0
      have sf1 := hS.out.1.br.fr 1
      have sf2 := hS.out.1.br.fr 2
      have RR : Hid (RfP l D w (.returned (.agg #[.int .i64 a0, .int .i64 c, .int .i64 y])) (three wr r (.int .i64 a0) (.int .i64 c) (.int .i64 y)) ∧ B3 (three wr r (.int .i64 a0) (.int .i64 c) (.int .i64 y)) r (.int .i64 a0) (.int .i64 c) (.int .i64 y)) := by
        have hres := hS.out.1.res (.int .i64 a0) (.int .i64 c) (.int .i64 y)
        exact ⟨⟨_, _, by rw [HA.out], rf_end HF.out HD.out hS.out.2, hres.2⟩, hres.1⟩
      have y0 := RR.out.2.c0
      have y1 := RR.out.2.c1
      have y2 := RR.out.2.c2
      unfold three at y0 y1 y2
      clear hS hlt
      go_wp2
      (try simp only [Exit.inBlock, Exit.then])
      refine bodyPost_ret (v := .agg #[.int .i64 a0, .int .i64 c, .int .i64 y]) ?_ rfl RR.out.1
      have hres : Tryd.f51.results = #[.cell 4 42] := by kernel_rfl
      simp only [results, hres]
      go_simp
end Go.Proofs.YthdmodmplpoejaaDoor
