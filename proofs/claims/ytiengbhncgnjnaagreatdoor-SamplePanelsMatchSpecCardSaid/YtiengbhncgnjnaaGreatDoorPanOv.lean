/-
  Overlap, on both sides.
-/
import Derived.Test.YtiengbhncgnjnaaGreatDoorPanGs
namespace Go.Proofs.YtiengbhncgnjnaaGreatDoor
open Go.RowKit

def ovBad (wave later : Int) : Prop := wave < 1 ∨ later < wave ∨ 1000 < later
instance (wave later : Int) : Decidable (ovBad wave later) := by unfold ovBad; infer_instance
def cntL (i o g later : Int) (L : List Int) : Nat := (L.filter fun x => inB i o g x later).length
def ovF (i o g wave later : Int) : Int := if chkRot i o g ≠ 0 then chkRot i o g else if ovBad wave later then 1 else 0
def ovL (i o g wave : Int) : List Int := grpL i o g wave wave.toNat
def ovN (i o g wave later : Int) : ByteArray := if chkRot i o g ≠ 0 then ⟨#[]⟩ else if ovBad wave later then ⟨#[]⟩ else decB (rtN (cntL i o g later (ovL i o g wave)) (ovL i o g wave).length)
def ovD (i o g wave later : Int) : ByteArray := if chkRot i o g ≠ 0 then ⟨#[]⟩ else if ovBad wave later then ⟨#[]⟩ else decB (rtD (cntL i o g later (ovL i o g wave)) (ovL i o g wave).length)
def OvP (x y : ByteArray) (f : Int) (w : World) (e : Ending) (w' : World) : Prop := e = .returned (.tuple #[.agg #[.string x, .string y], .int .i64 f]) ∧ Below w.heap.size w w'
theorem grpL_mem {i o g wave : Int} {k : Nat} {x : Int} (h : x ∈ grpL i o g wave k) : 1 ≤ x ∧ x ≤ (k : Int) := by
  unfold grpL at h
  have h := (List.mem_filter.1 h).1
  obtain ⟨j, hj, rfl⟩ := List.mem_map.1 h
  have := List.mem_range.1 hj
  omega
theorem grpL_pos {i o g : Int} {m : Nat} (hm : 1 ≤ m) (hi : 1 ≤ i) : 0 < (grpL i o g m m).length := by
  apply List.length_pos_of_mem (a := (m : Int))
  unfold grpL
  refine List.mem_filter.2 ⟨List.mem_map.2 ⟨m - 1, List.mem_range.2 (by omega), by omega⟩, ?_⟩
  unfold inB
  simp
  omega
theorem cntL_le (i o g later : Int) (L : List Int) : cntL i o g later L ≤ L.length := List.length_filter_le _ _
theorem cntL_next {i o g later : Int} {L : List Int} {k : Nat} (hk : k < L.length) : cntL i o g later (L.take (k + 1)) = cntL i o g later (L.take k) + (if inB i o g L[k] later then 1 else 0) := by
  unfold cntL
  rw [← List.take_append_getElem hk, List.filter_append, List.length_append]
  congr 1
  simp only [List.filter_cons, List.filter_nil]
  split <;> simp
/-- The boxes of Overlap. -/
def OX (w : World) (i o g : Int) (W : World) : Prop :=
  W.cell? ⟨w.heap.size, 0, none⟩ = some (.int .i64 i) ∧ W.cell? ⟨w.heap.size, 1, none⟩ = some (.int .i64 o) ∧ W.cell? ⟨w.heap.size, 2, none⟩ = some (.int .i64 g) ∧
  W.cell? ⟨w.heap.size + 1, 0, none⟩ = some (.string ⟨#[]⟩) ∧ W.cell? ⟨w.heap.size + 1, 1, none⟩ = some (.string ⟨#[]⟩) ∧ W.frozen? ⟨w.heap.size + 1, 0, none⟩ = false ∧ W.frozen? ⟨w.heap.size + 1, 1, none⟩ = false ∧
  Hid (Below w.heap.size w W ∧ w.heap.size + 1 < W.heap.size)
theorem OX.keep {w W W' : World} {i o g : Int} (h : OX w i o g W) (hb : Below W.heap.size W W') : OX w i o g W' := by
  obtain ⟨a0, a1, a2, r0, r1, f0, f1, s⟩ := h
  obtain ⟨bl, hx⟩ := s.out
  have f := fun (b o : Nat) (h2 : b < W.heap.size) => hb.cell (p := ⟨b, o, none⟩) h2
  have z := fun (b o : Nat) (h2 : b < W.heap.size) => hb.frozen (p := ⟨b, o, none⟩) h2
  have h0 : w.heap.size < W.heap.size := by omega
  exact ⟨(f _ _ h0).trans a0, (f _ _ h0).trans a1, (f _ _ h0).trans a2, (f _ _ hx).trans r0, (f _ _ hx).trans r1, (z _ _ hx).trans f0, (z _ _ hx).trans f1, bl.trans (hb.mono (by omega)), Nat.lt_of_lt_of_le hx hb.size⟩
theorem OX.make (w : World) (i o g : Int) : OX w i o g ((w.alloc (.cells #[.int .i64 i, .int .i64 o, .int .i64 g] 23)).alloc (.cells #[.string ⟨#[]⟩, .string ⟨#[]⟩] 31)) := by
  refine ⟨?_, ?_, ?_, ?_, ?_, ?_, ?_, ((Below.refl _ _).alloc (Nat.le_refl _) _).alloc (by simp) _, by simp⟩
  all_goals simp [go_sem, World.cell?_alloc_past]
theorem OX.done {w W : World} {i o g : Int} (h : OX w i o g W) (x y : ByteArray) :
    ((W.setCell ⟨w.heap.size + 1, 0, none⟩ (.string x)).setCell ⟨w.heap.size + 1, 1, none⟩ (.string y)).cell? ⟨w.heap.size + 1, 0, none⟩ = some (.string x) ∧ ((W.setCell ⟨w.heap.size + 1, 0, none⟩ (.string x)).setCell ⟨w.heap.size + 1, 1, none⟩ (.string y)).cell? ⟨w.heap.size + 1, 1, none⟩ = some (.string y) ∧
    Below w.heap.size w ((W.setCell ⟨w.heap.size + 1, 0, none⟩ (.string x)).setCell ⟨w.heap.size + 1, 1, none⟩ (.string y)) := by
  obtain ⟨a0, a1, a2, r0, r1, f0, f1, q⟩ := h
  have t := two_cells (x := .string x) (y := .string y) r0 r1
  exact ⟨t.1, t.2, (q.out.1.setCell (p := ⟨w.heap.size + 1, 0, none⟩) (Nat.le_succ _) _).setCell (p := ⟨w.heap.size + 1, 1, none⟩) (Nat.le_succ _) _⟩
set_option maxHeartbeats 4000000 in
theorem Overlap_c (i o g wave later : Int) (w : World)  : Calls Tryz.prog 10 #[rotV i o g, .int .i64 wave, .int .i64 later] w (OvP (ovN i o g wave later) (ovD i o g wave later) (ovF i o g wave later) w) := by
  have HC := Lib.hid (fun W => chk_c i o g W)
  by_cases h0 : chkRot i o g = 0
  · obtain ⟨hi, ho, hg⟩ := chk_zero h0
    have n0 : ¬ chkRot i o g ≠ 0 := fun h => h h0
    by_cases hw : ovBad wave later
    · have e1 : ovN i o g wave later = ⟨#[]⟩ := by unfold ovN; rw [if_neg n0, if_pos hw]
      have e2 : ovD i o g wave later = ⟨#[]⟩ := by unfold ovD; rw [if_neg n0, if_pos hw]
      have e3 : ovF i o g wave later = 1 := by unfold ovF; rw [if_neg n0, if_pos hw]
      rw [h0] at HC
      rw [e1, e2, e3]
      have hww : (decide (wave < 1) || decide (later < wave) || decide (1000 < later)) = true := by unfold ovBad at hw; simp; omega
      have hz : 1 ≤ wave → ¬ (later < wave) → 1000 < later := by unfold ovBad at hw; omega
      clear hi ho hg h0 n0 e1 e2 e3 hw
      obtain ⟨W1, hW1⟩ : ∃ W1, (w.alloc (.cells #[.int .i64 i, .int .i64 o, .int .i64 g] 23)).alloc (.cells #[.string ⟨#[]⟩, .string ⟨#[]⟩] 31) = W1 := ⟨_, rfl⟩
      have R0 := OX.make w i o g
      rw [hW1] at R0
      have HR := Lib.hid R0
      dsimp only [OX] at R0
      go_enter Tryz.func10, Tryz.ntmps10
      go_wp2_with fail
      clear R0 hW1
      refine (HC.out W1).mono ?_
      rintro e w2 ⟨rfl, b2⟩
      have R2 := HR.out.keep b2
      have H2 := Lib.hid R2
      clear b2 HR
      dsimp only [OX] at R2
      have hzz := Lib.hid hz
      clear hz
      have FIN := Lib.hid (H2.out.done ⟨#[]⟩ ⟨#[]⟩)
      go_wp2
      all_goals first
        | (exfalso; have := hzz.out; omega)
        | (obtain ⟨q0, q1, hB⟩ := FIN.out
           exact bodyPost_ret (v := .tuple #[.agg #[.string ⟨#[]⟩, .string ⟨#[]⟩], .int .i64 1]) (by simp [results, Tryz.results10, go_sem, q0, q1]) rfl ⟨rfl, hB⟩)
    · obtain ⟨m, rfl⟩ : ∃ m : Nat, wave = (m : Int) := ⟨wave.toNat, by unfold ovBad at hw; omega⟩
      have hm : 1 ≤ m ∧ m ≤ 1000 := by unfold ovBad at hw; omega
      have hl : (m : Int) ≤ later ∧ later ≤ 1000 := by unfold ovBad at hw; omega
      have eL : ovL i o g m = grpL i o g m m := by unfold ovL; rw [Int.toNat_natCast]
      have e1 : ovN i o g m later = decB (rtN (cntL i o g later (grpL i o g m m)) (grpL i o g m m).length) := by unfold ovN; rw [if_neg n0, if_neg hw, eL]
      have e2 : ovD i o g m later = decB (rtD (cntL i o g later (grpL i o g m m)) (grpL i o g m m).length) := by unfold ovD; rw [if_neg n0, if_neg hw, eL]
      have e3 : ovF i o g m later = 0 := by unfold ovF; rw [if_neg n0, if_neg hw]
      rw [h0] at HC
      rw [e1, e2, e3]
      have HG := Lib.hid (fun W => groupsIn_c i o g m W hi ho hg hm.2)
      have HI := Lib.hid (fun (x : Int) W (h1 : 1 ≤ x ∧ x ≤ (m : Int)) => isIn_c i o g x later W hi ho hg ⟨h1.1, by omega⟩ ⟨by omega, hl.2⟩)
      have hM := fun x (hx : x ∈ grpL i o g m m) => grpL_mem hx
      have HPOS := Lib.hid (grpL_pos (o := o) (g := g) hm.1 hi.1)
      have HLE : Hid ((grpL i o g m m).length ≤ 1000) := Nat.le_trans (grpL_len _ _ _ _ _) hm.2
      have hw1 : (1 : Int) ≤ (m : Int) := by omega
      have hw2 : (m : Int) ≤ later := hl.1
      have hw3 : later ≤ 1000 := hl.2
      have HM := Lib.hid hM
      clear hi ho hg h0 n0 hw hm hl e1 e2 e3 eL hM
      generalize hL : grpL i o g m m = L at *
      clear hL
      obtain ⟨W1, hW1⟩ : ∃ W1, (w.alloc (.cells #[.int .i64 i, .int .i64 o, .int .i64 g] 23)).alloc (.cells #[.string ⟨#[]⟩, .string ⟨#[]⟩] 31) = W1 := ⟨_, rfl⟩
      have R0 := OX.make w i o g
      rw [hW1] at R0
      have HR := Lib.hid R0
      dsimp only [OX] at R0
      go_enter Tryz.func10, Tryz.ntmps10
      go_wp2_with fail
      clear R0 hW1
      refine (HC.out W1).mono ?_
      rintro e w2 ⟨rfl, b2⟩
      have R2 := HR.out.keep b2
      have H2 := Lib.hid R2
      clear b2 HR
      dsimp only [OX] at R2
      go_wp2_with fail
      refine (HG.out w2).mono ?_
      rintro e w3 ⟨v, rfl, hv⟩
      have R3 := H2.out.keep (Below.mono hv.bel (Nat.le_refl _))
      have H3 := Lib.hid R3
      obtain ⟨gb, cap, rfl, _, hgs, hcell⟩ := own_open hv.row HPOS.out
      have HCL : Hid (∀ j (hj : j < L.length), w3.cell? ⟨gb, j, none⟩ = some (.int .i64 L[j])) := fun j hj => hcell j _ (by simp [hj])
      have HGS := Lib.hid hgs
      clear hv hcell R2 H2 hgs hw1 hw2
      dsimp only [OX] at R3
      have hlen : L.length ≤ 1000 := HLE.out
      go_wp2_with fail
      clear R3
      go_loopw [10, 36] (fun c x wr => ∃ k : Nat, k ≤ L.length ∧ x = .int .i64 k ∧ c = .int .i64 (cntL i o g later (L.take k) : Nat) ∧ Hid (Below w3.heap.size w3 wr)) (fun _ x _ => (L.length - intOf x).toNat)
      case atStart => exact ⟨0, Nat.zero_le _, rfl, rfl, Below.refl _ _⟩
      case round =>
        obtain ⟨k, hk, rfl, rfl, hB⟩ := hrel
        have X := H3.out.keep hB.out
        have HX := Lib.hid X
        by_cases hlt : k < L.length
        · have hlt' : (k : Int) < (L.length : Int) := by omega
          have hc : wr.cell? ⟨gb, k, none⟩ = some (.int .i64 L[k]) := by rw [hB.out.cell (p := ⟨gb, k, none⟩) HGS.out]; exact HCL.out k hlt
          have hc2 : wr.cell? ⟨gb, 0 + k, none⟩ = some (.int .i64 L[k]) := by rw [Nat.zero_add]; exact hc
          have hx := HM.out L[k] (List.getElem_mem hlt)
          have HN := Lib.hid (cntL_next (i := i) (o := o) (g := g) (later := later) hlt)
          have hcl : cntL i o g later (L.take k) ≤ 1000 := Nat.le_trans (cntL_le _ _ _ _ _) (by rw [List.length_take]; omega)
          have HH := Lib.hid (HI.out L[k] wr hx)
          generalize cntL i o g later (L.take k) = c at *
          generalize L[k] = y at *
          clear hx
          dsimp only [OX] at X
          go_wp2_with fail
          clear hc hc2 X
          refine HH.out.mono ?_
          rintro e w5 ⟨rfl, b5⟩
          have B5 := Lib.hid (hB.out.trans (b5.mono hB.out.size))
          clear b5
          cases hbb : inB i o g y later with
          | true =>
            rw [hbb, if_pos rfl] at HN
            go_wp2
            go_roundw
            case rel => exact ⟨k + 1, by omega, by go_num, by rw [HN.out]; go_num, B5.out⟩
            case measure => simp [intOf]; omega
          | false =>
            rw [hbb, if_neg (by simp)] at HN
            go_wp2
            go_roundw
            case rel => exact ⟨k + 1, by omega, by go_num, by rw [HN.out]; rfl, B5.out⟩
            case measure => simp [intOf]; omega
        · have hkL : k = L.length := by omega
          subst hkL
          have hf : ¬ ((L.length : Int) < (L.length : Int)) := by omega
          rw [List.take_length]
          have hc1 : cntL i o g later L ≤ 1000 := Nat.le_trans (cntL_le _ _ _ _ _) hlen
          have HCN := Lib.hid hc1
          generalize cntL i o g later L = c at *
          dsimp only [OX] at X
          clear hlt hk hc1
          go_wp2_with fail
          clear X
          refine (ratio_c c L.length wr (Nat.le_trans HCN.out (by decide)) (Nat.le_trans HLE.out (by decide))).mono ?_
          rintro e w6 ⟨rfl, b6⟩
          have X6 := HX.out.keep b6
          have FIN := Lib.hid (X6.done (decB (rtN c L.length)) (decB (rtD c L.length)))
          dsimp only [OX] at X6
          clear b6
          go_wp2
          obtain ⟨q0, q1, hBB⟩ := FIN.out
          exact bodyPost_ret (v := .tuple #[.agg #[.string (decB (rtN c L.length)), .string (decB (rtD c L.length))], .int .i64 0]) (by simp [results, Tryz.results10, go_sem, q0, q1]) rfl ⟨rfl, hBB⟩
  · have e1 : ovN i o g wave later = ⟨#[]⟩ := by unfold ovN; rw [if_pos h0]
    have e2 : ovD i o g wave later = ⟨#[]⟩ := by unfold ovD; rw [if_pos h0]
    have e3 : ovF i o g wave later = chkRot i o g := by unfold ovF; rw [if_pos h0]
    rw [e1, e2, e3]
    clear e1 e2 e3
    generalize chkRot i o g = x at *
    have hx : (x == 0) = false := by simpa using h0
    have dummy : True := trivial
    · clear dummy
      obtain ⟨W1, hW1⟩ : ∃ W1, (w.alloc (.cells #[.int .i64 i, .int .i64 o, .int .i64 g] 23)).alloc (.cells #[.string ⟨#[]⟩, .string ⟨#[]⟩] 31) = W1 := ⟨_, rfl⟩
      have R0 := OX.make w i o g
      rw [hW1] at R0
      have HR := Lib.hid R0
      dsimp only [OX] at R0
      go_enter Tryz.func10, Tryz.ntmps10
      go_wp2_with fail
      clear R0 hW1
      refine (HC.out W1).mono ?_
      rintro e w2 ⟨rfl, b2⟩
      have R2 := HR.out.keep b2
      have H2 := Lib.hid R2
      clear b2 HR
      dsimp only [OX] at R2
      have FIN := Lib.hid (H2.out.done ⟨#[]⟩ ⟨#[]⟩)
      go_wp2
      obtain ⟨q0, q1, hB⟩ := FIN.out
      exact bodyPost_ret (v := .tuple #[.agg #[.string ⟨#[]⟩, .string ⟨#[]⟩], .int .i64 x]) (by simp [results, Tryz.results10, go_sem, q0, q1]) rfl ⟨rfl, hB⟩
set_option maxHeartbeats 4000000 in
theorem ROverlap_c (i o g wave later : Int) (w : World) (hE : Pow w) : Calls Tryz.prog 11 #[rotV i o g, .int .i64 wave, .int .i64 later] w (OvP (ovN i o g wave later) (ovD i o g wave later) (ovF i o g wave later) w) := by
  have HE := Lib.hid hE
  clear hE
  have HC := Lib.hid (fun W => rchk_c i o g W)
  by_cases h0 : chkRot i o g = 0
  · obtain ⟨hi, ho, hg⟩ := chk_zero h0
    have n0 : ¬ chkRot i o g ≠ 0 := fun h => h h0
    by_cases hw : ovBad wave later
    · have e1 : ovN i o g wave later = ⟨#[]⟩ := by unfold ovN; rw [if_neg n0, if_pos hw]
      have e2 : ovD i o g wave later = ⟨#[]⟩ := by unfold ovD; rw [if_neg n0, if_pos hw]
      have e3 : ovF i o g wave later = 1 := by unfold ovF; rw [if_neg n0, if_pos hw]
      rw [h0] at HC
      rw [e1, e2, e3]
      have hww : (decide (wave < 1) || decide (later < wave) || decide (1000 < later)) = true := by unfold ovBad at hw; simp; omega
      have hz : 1 ≤ wave → ¬ (later < wave) → 1000 < later := by unfold ovBad at hw; omega
      clear hi ho hg h0 n0 e1 e2 e3 hw
      obtain ⟨W1, hW1⟩ : ∃ W1, (w.alloc (.cells #[.int .i64 i, .int .i64 o, .int .i64 g] 23)).alloc (.cells #[.string ⟨#[]⟩, .string ⟨#[]⟩] 31) = W1 := ⟨_, rfl⟩
      have R0 := OX.make w i o g
      rw [hW1] at R0
      have HR := Lib.hid R0
      dsimp only [OX] at R0
      go_enter Tryz.func11, Tryz.ntmps11
      go_wp2_with fail
      clear R0 hW1
      refine (HC.out W1).mono ?_
      rintro e w2 ⟨rfl, b2⟩
      have R2 := HR.out.keep b2
      have H2 := Lib.hid R2
      clear b2 HR
      dsimp only [OX] at R2
      have hzz := Lib.hid hz
      clear hz
      have FIN := Lib.hid (H2.out.done ⟨#[]⟩ ⟨#[]⟩)
      go_wp2
      all_goals first
        | (exfalso; have := hzz.out; omega)
        | (obtain ⟨q0, q1, hB⟩ := FIN.out
           exact bodyPost_ret (v := .tuple #[.agg #[.string ⟨#[]⟩, .string ⟨#[]⟩], .int .i64 1]) (by simp [results, Tryz.results11, go_sem, q0, q1]) rfl ⟨rfl, hB⟩)
    · obtain ⟨m, rfl⟩ : ∃ m : Nat, wave = (m : Int) := ⟨wave.toNat, by unfold ovBad at hw; omega⟩
      have hm : 1 ≤ m ∧ m ≤ 1000 := by unfold ovBad at hw; omega
      have hl : (m : Int) ≤ later ∧ later ≤ 1000 := by unfold ovBad at hw; omega
      have eL : ovL i o g m = grpL i o g m m := by unfold ovL; rw [Int.toNat_natCast]
      have e1 : ovN i o g m later = decB (rtN (cntL i o g later (grpL i o g m m)) (grpL i o g m m).length) := by unfold ovN; rw [if_neg n0, if_neg hw, eL]
      have e2 : ovD i o g m later = decB (rtD (cntL i o g later (grpL i o g m m)) (grpL i o g m m).length) := by unfold ovD; rw [if_neg n0, if_neg hw, eL]
      have e3 : ovF i o g m later = 0 := by unfold ovF; rw [if_neg n0, if_neg hw]
      rw [h0] at HC
      rw [e1, e2, e3]
      have HG := Lib.hid (fun W => groups_c i o g m W hi ho hg hm.2)
      have HI := Lib.hid (fun (x : Int) W (h1 : 1 ≤ x ∧ x ≤ (m : Int)) => rIsIn_c i o g x later W hi ho hg ⟨h1.1, by omega⟩ hl.2)
      have hM := fun x (hx : x ∈ grpL i o g m m) => grpL_mem hx
      have HPOS := Lib.hid (grpL_pos (o := o) (g := g) hm.1 hi.1)
      have HLE : Hid ((grpL i o g m m).length ≤ 1000) := Nat.le_trans (grpL_len _ _ _ _ _) hm.2
      have hw1 : (1 : Int) ≤ (m : Int) := by omega
      have hw2 : (m : Int) ≤ later := hl.1
      have hw3 : later ≤ 1000 := hl.2
      have HM := Lib.hid hM
      clear hi ho hg h0 n0 hw hm hl e1 e2 e3 eL hM
      generalize hL : grpL i o g m m = L at *
      clear hL
      obtain ⟨W1, hW1⟩ : ∃ W1, (w.alloc (.cells #[.int .i64 i, .int .i64 o, .int .i64 g] 23)).alloc (.cells #[.string ⟨#[]⟩, .string ⟨#[]⟩] 31) = W1 := ⟨_, rfl⟩
      have R0 := OX.make w i o g
      rw [hW1] at R0
      have HR := Lib.hid R0
      dsimp only [OX] at R0
      go_enter Tryz.func11, Tryz.ntmps11
      go_wp2_with fail
      clear R0 hW1
      refine (HC.out W1).mono ?_
      rintro e w2 ⟨rfl, b2⟩
      have R2 := HR.out.keep b2
      have H2 := Lib.hid R2
      clear b2 HR
      dsimp only [OX] at R2
      go_wp2_with fail
      refine (HG.out w2).mono ?_
      rintro e w3 ⟨v, rfl, hv⟩
      have R3 := H2.out.keep (Below.mono hv.bel (Nat.le_refl _))
      have H3 := Lib.hid R3
      obtain ⟨gb, cap, rfl, _, hgs, hcell⟩ := own_open hv.row HPOS.out
      have HCL : Hid (∀ j (hj : j < L.length), w3.cell? ⟨gb, j, none⟩ = some (.int .i64 L[j])) := fun j hj => hcell j _ (by simp [hj])
      have HGS := Lib.hid hgs
      clear hv hcell R2 H2 hgs hw1 hw2
      dsimp only [OX] at R3
      have hlen : L.length ≤ 1000 := HLE.out
      go_wp2_with fail
      clear R3
      go_loopw [9, 36] (fun c x wr => ∃ k : Nat, k ≤ L.length ∧ x = .int .i64 k ∧ c = .int .i64 (cntL i o g later (L.take k) : Nat) ∧ Hid (Below w3.heap.size w3 wr)) (fun _ x _ => (L.length - intOf x).toNat)
      case atStart => exact ⟨0, Nat.zero_le _, rfl, rfl, Below.refl _ _⟩
      case round =>
        obtain ⟨k, hk, rfl, rfl, hB⟩ := hrel
        have X := H3.out.keep hB.out
        have HX := Lib.hid X
        by_cases hlt : k < L.length
        · have hlt' : (k : Int) < (L.length : Int) := by omega
          have hc : wr.cell? ⟨gb, k, none⟩ = some (.int .i64 L[k]) := by rw [hB.out.cell (p := ⟨gb, k, none⟩) HGS.out]; exact HCL.out k hlt
          have hc2 : wr.cell? ⟨gb, 0 + k, none⟩ = some (.int .i64 L[k]) := by rw [Nat.zero_add]; exact hc
          have hx := HM.out L[k] (List.getElem_mem hlt)
          have HN := Lib.hid (cntL_next (i := i) (o := o) (g := g) (later := later) hlt)
          have hcl : cntL i o g later (L.take k) ≤ 1000 := Nat.le_trans (cntL_le _ _ _ _ _) (by rw [List.length_take]; omega)
          have HH := Lib.hid (HI.out L[k] wr hx)
          generalize cntL i o g later (L.take k) = c at *
          generalize L[k] = y at *
          clear hx
          dsimp only [OX] at X
          go_wp2_with fail
          clear hc hc2 X
          refine HH.out.mono ?_
          rintro e w5 ⟨rfl, b5⟩
          have B5 := Lib.hid (hB.out.trans (b5.mono hB.out.size))
          clear b5
          cases hbb : inB i o g y later with
          | true =>
            rw [hbb, if_pos rfl] at HN
            go_wp2
            go_roundw
            case rel => exact ⟨k + 1, by omega, by go_num, by rw [HN.out]; go_num, B5.out⟩
            case measure => simp [intOf]; omega
          | false =>
            rw [hbb, if_neg (by simp)] at HN
            go_wp2
            go_roundw
            case rel => exact ⟨k + 1, by omega, by go_num, by rw [HN.out]; rfl, B5.out⟩
            case measure => simp [intOf]; omega
        · have hkL : k = L.length := by omega
          subst hkL
          have hf : ¬ ((L.length : Int) < (L.length : Int)) := by omega
          rw [List.take_length]
          have hc1 : cntL i o g later L ≤ 1000 := Nat.le_trans (cntL_le _ _ _ _ _) hlen
          have HCN := Lib.hid hc1
          generalize cntL i o g later L = c at *
          dsimp only [OX] at X
          clear hlt hk hc1
          go_wp2_with fail
          clear X
          refine (Part_c c L.length wr (Nat.lt_of_le_of_lt HCN.out (by decide)) (Nat.lt_of_le_of_lt HLE.out (by decide))).mono ?_
          rintro e w5 ⟨a, ka, ca, b, kb, cb, rfl, la, lb, b5⟩
          have X5 := Lib.hid (HX.out.keep b5)
          have LA := Lib.hid la
          have LB := Lib.hid lb
          clear la lb b5
          go_wp2_with fail
          refine (RRatio_c a b ca cb ka kb c L.length w5 LA.out LB.out HPOS.out (Go.Joins.tab_stays gPow HE.out X5.out.2.2.2.2.2.2.2.out.1 (Nat.le_refl _))).mono ?_
          rintro e w6 ⟨rfl, b6⟩
          have X6 := X5.out.keep b6
          have en : c / Nat.gcd c L.length = rtN c L.length := by unfold rtN; rw [if_neg (by have := HPOS.out; omega)]
          have ed : L.length / Nat.gcd c L.length = rtD c L.length := by unfold rtD; rw [if_neg (by have := HPOS.out; omega)]
          rw [en, ed]
          clear en ed
          have FIN := Lib.hid (X6.done (decB (rtN c L.length)) (decB (rtD c L.length)))
          dsimp only [OX] at X6
          clear b6
          go_wp2
          obtain ⟨q0, q1, hBB⟩ := FIN.out
          exact bodyPost_ret (v := .tuple #[.agg #[.string (decB (rtN c L.length)), .string (decB (rtD c L.length))], .int .i64 0]) (by simp [results, Tryz.results11, go_sem, q0, q1]) rfl ⟨rfl, hBB⟩
  · have e1 : ovN i o g wave later = ⟨#[]⟩ := by unfold ovN; rw [if_pos h0]
    have e2 : ovD i o g wave later = ⟨#[]⟩ := by unfold ovD; rw [if_pos h0]
    have e3 : ovF i o g wave later = chkRot i o g := by unfold ovF; rw [if_pos h0]
    rw [e1, e2, e3]
    clear e1 e2 e3
    generalize chkRot i o g = x at *
    have hx : (x == 0) = false := by simpa using h0
    have dummy : True := trivial
    · clear dummy
      obtain ⟨W1, hW1⟩ : ∃ W1, (w.alloc (.cells #[.int .i64 i, .int .i64 o, .int .i64 g] 23)).alloc (.cells #[.string ⟨#[]⟩, .string ⟨#[]⟩] 31) = W1 := ⟨_, rfl⟩
      have R0 := OX.make w i o g
      rw [hW1] at R0
      have HR := Lib.hid R0
      dsimp only [OX] at R0
      go_enter Tryz.func11, Tryz.ntmps11
      go_wp2_with fail
      clear R0 hW1
      refine (HC.out W1).mono ?_
      rintro e w2 ⟨rfl, b2⟩
      have R2 := HR.out.keep b2
      have H2 := Lib.hid R2
      clear b2 HR
      dsimp only [OX] at R2
      have FIN := Lib.hid (H2.out.done ⟨#[]⟩ ⟨#[]⟩)
      go_wp2
      obtain ⟨q0, q1, hB⟩ := FIN.out
      exact bodyPost_ret (v := .tuple #[.agg #[.string ⟨#[]⟩, .string ⟨#[]⟩], .int .i64 x]) (by simp [results, Tryz.results11, go_sem, q0, q1]) rfl ⟨rfl, hB⟩
end Go.Proofs.YtiengbhncgnjnaaGreatDoor
