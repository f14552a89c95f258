/-
  CheckFrame of the reference.
-/
import Derived.Test.YtkppfceogknlkaaDoorFrmRefB
import Derived.Lib.SmallJoins
namespace Go.Proofs.YtkppfceogknlkaaDoor
open Go.RowKit Go.WideMaps Go.Maps

theorem Env.below {w w' : World} (h : Env w) (hb : Below w.heap.size w w') : Env w' := ⟨Go.Joins.tab_stays gSpace h.asp hb (Nat.le_refl _)⟩
theorem bel_drewN (w : World) (n : Nat) : Below w.heap.size w (w.drewN n) := ⟨rfl, rfl, rfl, Nat.le_refl _, fun _ _ => rfl⟩
/-- The box of a unit. -/
def Bu (x : Nat) (id : Int) (st : ByteArray) (cl sz : Int) (W : World) : Prop := x < W.heap.size ∧ W.cell? ⟨x, 0, none⟩ = some (.int .i64 id) ∧ W.cell? ⟨x, 1, none⟩ = some (.string st) ∧ W.cell? ⟨x, 2, none⟩ = some (.int .i64 cl) ∧ W.cell? ⟨x, 3, none⟩ = some (.int .i64 sz)
theorem Bu.below {x : Nat} {id : Int} {st : ByteArray} {cl sz : Int} {W W' : World} (h : Bu x id st cl sz W) (hb : Below W.heap.size W W') : Bu x id st cl sz W' :=
  ⟨Nat.lt_of_lt_of_le h.1 hb.size, (hb.cell (p := ⟨x, 0, none⟩) h.1).trans h.2.1, (hb.cell (p := ⟨x, 1, none⟩) h.1).trans h.2.2.1, (hb.cell (p := ⟨x, 2, none⟩) h.1).trans h.2.2.2.1, (hb.cell (p := ⟨x, 3, none⟩) h.1).trans h.2.2.2.2⟩
theorem chk_tail {id : Int} {st : ByteArray} {cl sz p : Int} (h1 : ¬ id < 1) (h2 : ¬ id ≤ p) : chkU ⟨id, st, cl, sz⟩ p = if nameS st = false then 5 else if cl < 0 then 1 else if 5000 < cl then 1 else if sz < 1 then 1 else if 1000000 < sz then 1 else 0 := by unfold chkU; rw [if_neg h1, if_neg h2]
set_option maxRecDepth 100000 in
set_option maxHeartbeats 4000000 in
theorem RFrame_c (a : Option Addr) (c : Nat) (l : List Un) (w : World) (hl : RdU w a l) (hE : Env w) :
    Calls Tryd.prog 7 #[.slice a l.length c] w (IntP (chkF l) w) := by
  have h9 := hl.1
  by_cases hn : l.length ≤ 5000
  · have HL := Lib.hid hl
    have HE := Lib.hid hE
    clear hl hE
    go_enter Tryd.func7, Tryd.ntmps7
    go_wp2
    go_loopw [10] (fun i wr => ∃ k : Nat, k ≤ l.length ∧ i = .int .i64 k ∧ Hid (Below w.heap.size w wr ∧ firstE l k = 0)) (fun i _ => l.length - (intOf i).toNat)
    case atStart => exact ⟨0, Nat.zero_le _, rfl, Below.refl _ _, rfl⟩
    case round =>
      obtain ⟨k, hk, rfl, hS⟩ := hrel
      by_cases hlt : k < l.length
      · have hlt' : (k : Int) < (l.length : Int) := by omega
        have hF : Hid (chkU (un l k) (prev l k) ≠ 0 → chkF l = chkU (un l k) (prev l k)) := fun h => chkF_at hn hlt hS.out.2 h
        have hE1 : Hid (firstE l (k + 1) = chkU (un l k) (prev l k)) := by
          show (if firstE l k = 0 then _ else _) = _
          rw [if_pos hS.out.2]
        have BB0 := Lib.hid hS.out.1
        obtain ⟨b, off, hab, hblt, hcells⟩ := (HL.out.below hS.out.1).2 (by omega)
        subst hab
        obtain ⟨u0, u1, u2, u3⟩ := hcells k hlt
        have hpv : Hid (∀ m, k = m + 1 → wr.cell? ⟨b, off + m * 4, none⟩ = some (.int .i64 (prev l k))) := fun m hm => by
          subst hm
          have := (hcells m (by omega)).1
          rw [this]
          unfold prev
          rw [if_neg (by omega)]
          rfl
        have hp0 : Hid (k = 0 → prev l k = 0) := fun h => by unfold prev; rw [if_pos h]
        clear hcells hS
        generalize prev l k = p at *
        generalize un l k = uu at *
        obtain ⟨id, st, cl, sz⟩ := uu
        dsimp only at *
        obtain ⟨W1, hW1⟩ : ∃ W1, wr.alloc (.cells #[.int .i64 id, .string st, .int .i64 cl, .int .i64 sz] 47) = W1 := ⟨_, rfl⟩
        obtain ⟨q0, q1, v0, v1, v2, v3⟩ := ub_at wr ⟨id, st, cl, sz⟩ W1 hW1
        dsimp only at v0 v1 v2 v3
        have B1 := Lib.hid q0
        have HU : Hid (Bu wr.heap.size id st cl sz W1) := ⟨by omega, v0, v1, v2, v3⟩
        have BB := Lib.hid (BB0.out.trans (B1.out.mono BB0.out.size))
        have hbl := Lib.hid hblt
        clear q0 q1 hblt
        by_cases h1 : id < 1
        · have e : Hid (chkF l = 1) := by
            have q : chkU ⟨id, st, cl, sz⟩ p = 1 := by unfold chkU; rw [if_pos h1]
            unfold Hid
            rw [hF.out (by rw [q]; decide), q]
          go_wp2
          go_ret
          exact ⟨by rw [e.out]; rfl, BB.out⟩
        by_cases hk0 : k = 0
        · have hp := hp0.out hk0
          have h2 : ¬ id ≤ p := by omega
          have hT := Lib.hid (chk_tail (st := st) (cl := cl) (sz := sz) h1 h2)
          clear hpv hp0
          subst hk0
          simp only [Nat.zero_mul, Nat.add_zero] at u0 u1 u2 u3
          go_wp2_with fail
          go_quiet (fail)
          have HU2 : Hid (Bu wr.heap.size id st cl sz (W1.drewN nq)) := HU.out.below (bel_drewN _ _)
          have BB2 : Hid (Below w.heap.size w (W1.drewN nq)) := BB.out.trans ((bel_drewN _ _).mono BB.out.size)
          clear v0 v1 v2 v3 u0 u1 u2 u3 hW1 HU BB
          generalize W1.drewN nq = W2 at HU2 BB2 ⊢
          have HN := Lib.hid (rIsName_c st W2 (HE.out.below BB2.out))
          by_cases h3 : nameS st = false
          · have e : Hid (chkF l = 5) := by
              have q : chkU ⟨id, st, cl, sz⟩ p = 5 := by rw [hT.out, if_pos h3]
              unfold Hid
              rw [hF.out (by rw [q]; decide), q]
            rw [h3] at HN
            obtain ⟨-, x0, x1, x2, x3⟩ := HU2.out
            clear h3
            go_wp2_with fail
            refine HN.out.mono ?_
            rintro e w' ⟨rfl, b3⟩
            have B3 := Lib.hid (BB2.out.trans (b3.mono BB2.out.size))
            clear b3 x0 x1 x2 x3
            go_wp2
            go_ret
            exact ⟨by rw [e.out]; rfl, B3.out⟩
          have hT2 : Hid (chkU ⟨id, st, cl, sz⟩ p = if cl < 0 then 1 else if 5000 < cl then 1 else if sz < 1 then 1 else if 1000000 < sz then 1 else 0) := by unfold Hid; rw [hT.out, if_neg h3]
          have h3' : nameS st = true := by simpa using h3
          rw [h3'] at HN
          clear h3 h3' hT
          obtain ⟨-, x0, x1, x2, x3⟩ := HU2.out
          go_wp2_with fail
          refine HN.out.mono ?_
          rintro e W3 ⟨rfl, b3⟩
          have HU3 := Lib.hid (HU2.out.below b3)
          have B3 := Lib.hid (BB2.out.trans (b3.mono BB2.out.size))
          clear b3 x0 x1 x2 x3 HU2 BB2 HN
          obtain ⟨-, x0, x1, x2, x3⟩ := HU3.out
          by_cases h4 : cl < 0
          · have e : Hid (chkF l = 1) := by
              have q : chkU ⟨id, st, cl, sz⟩ p = 1 := by rw [hT2.out, if_pos h4]
              unfold Hid
              rw [hF.out (by rw [q]; decide), q]
            go_wp2
            go_ret
            exact ⟨by rw [e.out]; rfl, B3.out⟩
          by_cases h5 : 5000 < cl
          · have e : Hid (chkF l = 1) := by
              have q : chkU ⟨id, st, cl, sz⟩ p = 1 := by rw [hT2.out, if_neg h4, if_pos h5]
              unfold Hid
              rw [hF.out (by rw [q]; decide), q]
            go_wp2
            go_ret
            exact ⟨by rw [e.out]; rfl, B3.out⟩
          by_cases h6 : sz < 1
          · have e : Hid (chkF l = 1) := by
              have q : chkU ⟨id, st, cl, sz⟩ p = 1 := by rw [hT2.out, if_neg h4, if_neg h5, if_pos h6]
              unfold Hid
              rw [hF.out (by rw [q]; decide), q]
            go_wp2
            go_ret
            exact ⟨by rw [e.out]; rfl, B3.out⟩
          by_cases h7 : 1000000 < sz
          · have e : Hid (chkF l = 1) := by
              have q : chkU ⟨id, st, cl, sz⟩ p = 1 := by rw [hT2.out, if_neg h4, if_neg h5, if_neg h6, if_pos h7]
              unfold Hid
              rw [hF.out (by rw [q]; decide), q]
            go_wp2
            go_ret
            exact ⟨by rw [e.out]; rfl, B3.out⟩
          have NX : Hid (Below w.heap.size w W3 ∧ firstE l (0 + 1) = 0) := ⟨B3.out, by rw [hE1.out, hT2.out, if_neg h4, if_neg h5, if_neg h6, if_neg h7]⟩
          go_wp2
          go_roundw
          case rel => exact ⟨1, by omega, by go_num, NX.out⟩
          case measure => simp [intOf]; omega
        obtain ⟨m, rfl⟩ : ∃ m, k = m + 1 := ⟨k - 1, by omega⟩
        have hpc := (B1.out.cell (p := ⟨b, off + m * 4, none⟩) hbl.out).trans (hpv.out m rfl)
        have kp : (0 : Int) < (m : Int) + 1 := by omega
        have km : (m : Int) < (l.length : Int) := by omega
        have kw : IntKind.i64.wrap ((m : Int) + 1 - 1) = (m : Int) := by rw [show (m : Int) + 1 - 1 = m by omega]; exact IntWalk.i64_in _ (by omega)
        clear hpv hp0 hk0
        by_cases h2 : id ≤ p
        · have e : Hid (chkF l = 7) := by
            have q : chkU ⟨id, st, cl, sz⟩ p = 7 := by unfold chkU; rw [if_neg h1, if_pos h2]
            unfold Hid
            rw [hF.out (by rw [q]; decide), q]
          go_wp2_with fail
          go_quiet (fail)
          have BB2 : Hid (Below w.heap.size w (W1.drewN nq)) := BB.out.trans ((bel_drewN _ _).mono BB.out.size)
          go_wp2
          go_ret
          exact ⟨by rw [e.out]; rfl, BB2.out⟩
        have hT := Lib.hid (chk_tail (st := st) (cl := cl) (sz := sz) h1 h2)
        go_wp2_with fail
        go_quiet (fail)
        have HU2 : Hid (Bu wr.heap.size id st cl sz (W1.drewN nq)) := HU.out.below (bel_drewN _ _)
        have BB2 : Hid (Below w.heap.size w (W1.drewN nq)) := BB.out.trans ((bel_drewN _ _).mono BB.out.size)
        clear v0 v1 v2 v3 u0 u1 u2 u3 hW1 HU BB hpc
        generalize W1.drewN nq = W2 at HU2 BB2 ⊢
        have HN := Lib.hid (rIsName_c st W2 (HE.out.below BB2.out))
        by_cases h3 : nameS st = false
        · have e : Hid (chkF l = 5) := by
            have q : chkU ⟨id, st, cl, sz⟩ p = 5 := by rw [hT.out, if_pos h3]
            unfold Hid
            rw [hF.out (by rw [q]; decide), q]
          rw [h3] at HN
          obtain ⟨-, x0, x1, x2, x3⟩ := HU2.out
          clear h3
          go_wp2_with fail
          refine HN.out.mono ?_
          rintro e w' ⟨rfl, b3⟩
          have B3 := Lib.hid (BB2.out.trans (b3.mono BB2.out.size))
          clear b3 x0 x1 x2 x3
          go_wp2
          go_ret
          exact ⟨by rw [e.out]; rfl, B3.out⟩
        have hT2 : Hid (chkU ⟨id, st, cl, sz⟩ p = if cl < 0 then 1 else if 5000 < cl then 1 else if sz < 1 then 1 else if 1000000 < sz then 1 else 0) := by unfold Hid; rw [hT.out, if_neg h3]
        have h3' : nameS st = true := by simpa using h3
        rw [h3'] at HN
        clear h3 h3' hT
        obtain ⟨-, x0, x1, x2, x3⟩ := HU2.out
        go_wp2_with fail
        refine HN.out.mono ?_
        rintro e W3 ⟨rfl, b3⟩
        have HU3 := Lib.hid (HU2.out.below b3)
        have B3 := Lib.hid (BB2.out.trans (b3.mono BB2.out.size))
        clear b3 x0 x1 x2 x3 HU2 BB2 HN
        obtain ⟨-, x0, x1, x2, x3⟩ := HU3.out
        by_cases h4 : cl < 0
        · have e : Hid (chkF l = 1) := by
            have q : chkU ⟨id, st, cl, sz⟩ p = 1 := by rw [hT2.out, if_pos h4]
            unfold Hid
            rw [hF.out (by rw [q]; decide), q]
          go_wp2
          go_ret
          exact ⟨by rw [e.out]; rfl, B3.out⟩
        by_cases h5 : 5000 < cl
        · have e : Hid (chkF l = 1) := by
            have q : chkU ⟨id, st, cl, sz⟩ p = 1 := by rw [hT2.out, if_neg h4, if_pos h5]
            unfold Hid
            rw [hF.out (by rw [q]; decide), q]
          go_wp2
          go_ret
          exact ⟨by rw [e.out]; rfl, B3.out⟩
        by_cases h6 : sz < 1
        · have e : Hid (chkF l = 1) := by
            have q : chkU ⟨id, st, cl, sz⟩ p = 1 := by rw [hT2.out, if_neg h4, if_neg h5, if_pos h6]
            unfold Hid
            rw [hF.out (by rw [q]; decide), q]
          go_wp2
          go_ret
          exact ⟨by rw [e.out]; rfl, B3.out⟩
        by_cases h7 : 1000000 < sz
        · have e : Hid (chkF l = 1) := by
            have q : chkU ⟨id, st, cl, sz⟩ p = 1 := by rw [hT2.out, if_neg h4, if_neg h5, if_neg h6, if_pos h7]
            unfold Hid
            rw [hF.out (by rw [q]; decide), q]
          go_wp2
          go_ret
          exact ⟨by rw [e.out]; rfl, B3.out⟩
        have NX : Hid (Below w.heap.size w W3 ∧ firstE l (m + 1 + 1) = 0) := ⟨B3.out, by rw [hE1.out, hT2.out, if_neg h4, if_neg h5, if_neg h6, if_neg h7]⟩
        go_wp2
        go_roundw
        case rel => exact ⟨m + 1 + 1, by omega, by go_num, NX.out⟩
        case measure => simp [intOf]; omega
      · obtain rfl : k = l.length := by omega
        clear hlt
        have H0 := Lib.hid hS.out.2
        have BB := Lib.hid hS.out.1
        clear hS
        go_wp2_with fail
        refine (names_c a c l wr (HL.out.below BB.out) hn).mono ?_
        rintro e w2 ⟨a', c', rfl, -, b2⟩
        have B2 := Lib.hid (BB.out.trans (b2.mono BB.out.size))
        clear b2
        by_cases hm : 40 < (strN l).length
        · have hF := Lib.hid (chkF_many hn H0.out hm)
          generalize (strN l).length = m at hm ⊢
          have hm' : (40 : Int) < (m : Int) := by omega
          go_wp2
          go_ret
          exact ⟨by rw [hF.out]; rfl, B2.out⟩
        · have hF := Lib.hid (chkF_ok hn H0.out hm)
          generalize (strN l).length = m at hm ⊢
          have hm' : ¬ (40 : Int) < (m : Int) := by omega
          go_wp2
          go_ret
          exact ⟨by rw [hF.out]; rfl, B2.out⟩
  · have e : Hid (chkF l = 2) := chkF_large hn
    clear hl hE
    go_enter Tryd.func7, Tryd.ntmps7
    go_wp2
    go_ret
    exact ⟨by rw [e.out]; rfl, Below.refl _ _⟩
end Go.Proofs.YtkppfceogknlkaaDoor
