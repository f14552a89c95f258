/-
  Package code: frameOf.
-/
import Derived.Test.YthdmodmplpoejaaDoorCdFrB
import Derived.Deep.CutBlock
import Derived.Deep.CutRange
import Derived.RegionTactic
import Derived.ChangeAlike
import Derived.Deep.RegionHeld3
namespace Go.Proofs.YthdmodmplpoejaaDoor
open Go.RowKit Go.WideMaps Go.Maps

def FrP (l : List Nd) (w : World) (e : Ending) (w' : World) : Prop :=
  (frS l = 0 ∧ ∃ x y, e = .returned (.tuple #[fv x y, .int .i64 0]) ∧ Arr w' x (par l) ∧ Arr w' y (lev l) ∧ Below w.heap.size w w' ∧ w.heap.size < x ∧ w.heap.size < y) ∨
  (frS l ≠ 0 ∧ e = .returned (.tuple #[.agg #[.slice none 0 0, .slice none 0 0], .int .i64 (frS l)]) ∧ Below w.heap.size w w')
theorem frS_chk {l : List Nd} (h : chkS l ≠ 0) : frS l = chkS l := by
  unfold chkS at h ⊢
  unfold frS
  by_cases h1 : l.length = 0
  · rw [if_pos h1, if_pos h1]
  rw [if_neg h1] at h ⊢
  rw [if_neg h1]
  by_cases h2 : 600 < l.length
  · rw [if_pos h2, if_pos h2]
  rw [if_neg h2] at h ⊢
  rw [if_neg h2]
  by_cases h3 : fe (ndE l) l.length ≠ 0
  · rw [if_pos h3, if_pos h3]
  rw [if_neg h3] at h ⊢
  rw [if_neg h3]
  by_cases h4 : fe (prE l) l.length ≠ 0
  · rw [if_pos h4, if_pos h4]
  · rw [if_neg h4] at h; exact absurd rfl h
theorem chk_frS {l : List Nd} (h : chkS l = 0) : (l.length ≤ 600 ∧ 0 < l.length ∧ Ord l ∧ Kn l) ∧ frS l = if ∃ k, k < l.length ∧ l.length < lvl l k then 18 else if ∃ k, k < l.length ∧ 8 < lvl l k then 2 else 0 := by
  unfold chkS at h
  unfold frS
  by_cases h1 : l.length = 0
  · rw [if_pos h1] at h; simp at h
  rw [if_neg h1] at h ⊢
  by_cases h2 : 600 < l.length
  · rw [if_pos h2] at h; simp at h
  rw [if_neg h2] at h ⊢
  by_cases h3 : fe (ndE l) l.length ≠ 0
  · rw [if_pos h3] at h; exact absurd h h3
  rw [if_neg h3] at h ⊢
  by_cases h4 : fe (prE l) l.length ≠ 0
  · rw [if_pos h4] at h; simp at h
  rw [if_neg h4]
  exact ⟨⟨by omega, by omega, ord_of (by omega), kn_of (by omega)⟩, rfl⟩
theorem par_lt {l : List Nd} (h : Ord l) (hk : Kn l) (j : Nat) : par l j < 1000 := by
  rcases par_in h hk (c := j) with e | e
  · rw [e]; omega
  · have := has_pos h e; omega
def SN (z x y nb : Nat) (cd : Int) (W : World) : Prop :=
  W.cell? ⟨z, 0, none⟩ = some (row x) ∧ W.cell? ⟨z, 1, none⟩ = some (row y) ∧ W.cell? ⟨nb, 0, none⟩ = some (.int .i64 cd)
set_option maxRecDepth 100000 in
set_option maxHeartbeats 4000000 in
theorem frameOf_c (a : Option Addr) (c : Nat) (l : List Nd) (w : World) (hl : RdN w a l) (hf : Fits l) :
    Calls Tryd.prog 35 #[.slice a l.length c] w (FrP l w) := by
  have h9 := hl.1
  obtain ⟨W1, hW1⟩ : ∃ W1, w.alloc (.cells #[.slice none 0 0, .slice none 0 0] 71) = W1 := ⟨_, rfl⟩
  have B1 : Hid (Below w.heap.size w W1) := by rw [← hW1]; exact bel_one _ _
  have R1 : Hid (B2 W1 w.heap.size (.slice none 0 0) (.slice none 0 0)) := by rw [← hW1]; exact B2.made _ _ _ _
  have HC := Lib.hid (checkNodes_c a c l W1 (hl.below B1.out) hf)
  by_cases hz : chkS l ≠ 0
  · clear hl hf
    obtain ⟨f, hfl⟩ : ∃ f, chkS l = f := ⟨_, rfl⟩
    have HFL : Hid (frS l = f ∧ frS l ≠ 0) := by have e := frS_chk hz; exact ⟨e.trans hfl, by rw [e]; exact hz⟩
    rw [hfl] at HC hz
    have f1 : (f == 0) = false := by rw [beq_eq_false_iff_ne]; exact hz
    have f2 : (f != 0) = true := by rw [bne, f1]; rfl
    clear hfl hz
    go_enter Tryd.func35, Tryd.ntmps35
    go_wp2_with fail
    refine HC.out.mono ?_
    rintro e W2 ⟨rfl, b2⟩
    obtain ⟨W9, hW9⟩ : ∃ W9, two W2 w.heap.size (.slice none 0 0) (.slice none 0 0) = W9 := ⟨_, rfl⟩
    have R2 := R1.out.keep b2
    have R9 : B2 W9 w.heap.size (.slice none 0 0) (.slice none 0 0) := by rw [← hW9]; exact R2.set _ _
    have PP : Hid (FrP l w (.returned (.tuple #[.agg #[.slice none 0 0, .slice none 0 0], .int .i64 f])) W9) := by
      rw [← hW9]
      exact Or.inr ⟨HFL.out.2, by rw [HFL.out.1], below_two (B1.out.trans (b2.mono B1.out.size)) (Nat.le_refl _) _ _⟩
    have q0 := R2.c0
    have q1 := R2.c1
    have g0 := R2.fr 0
    have g1 := R2.fr 1
    obtain ⟨r0, r1, _, _⟩ := id R9
    unfold two at hW9
    clear R9 R2 b2 hW1 R1
    go_wp2_with fail
    exact bodyPost_ret (v := .tuple #[.agg #[.slice none 0 0, .slice none 0 0], .int .i64 f]) (by simp [results, Tryd.results35, go_sem, r0, r1]) rfl PP.out
  have hz : chkS l = 0 := by omega
  obtain ⟨⟨hle, hpos, hO, hK⟩, hFS⟩ := chk_frS hz
  have HO := Lib.hid (And.intro hO hK)
  have HPL := Lib.hid (par_lt hO hK)
  have hle := Lib.hid hle
  have HFS := Lib.hid hFS
  have HL := Lib.hid hl
  rw [hz] at HC
  have hmk := run_make_row' (P := Tryd.prog) 27 3 (.int .i64 0) 8 Tryd.underlying27 infoI rfl .i64 .i64 1000 (by omega) (by omega)
  obtain ⟨Z, hZ, hZ2⟩ := zeros_ex 1000
  rw [show ((1000 : Nat) : Int) = 1000 from rfl, hZ] at hmk
  have HZ := Lib.hid hZ2
  clear hZ hZ2 hl hf hz hO hK hFS hpos
  go_enter Tryd.func35, Tryd.ntmps35
  go_wp2_with fail
  refine HC.out.mono ?_
  rintro e W2 ⟨rfl, b2⟩
  have R2 := Lib.hid (R1.out.keep b2)
  have BW2 := Lib.hid (B1.out.trans (b2.mono B1.out.size))
  clear b2 hW1 R1 HC
  go_wp2_with fail
  go_upto_region 4 with fail
  go_cut [5] from 17 to 22 (fun v5 wx => ∃ x y z : Nat, v5 = .pointer (some ⟨z, 0, none⟩) ∧ Hid (Fz w wx w.heap.size x y z (fun _ => 0) (fun _ => 0)))
  case first =>
    go_region
    · go_wp2_with fail
      go_meet
      case rel => exact ⟨W2.heap.size, W2.heap.size + 1, W2.heap.size + 1 + 1, rfl, Fz.made HZ.out R2.out BW2.out (Nat.le_refl _) ⟨_, _, _, rfl⟩ (heap3 _ _ _ _).1 (heap3 _ _ _ _).2.1 (heap3 _ _ _ _).2.2 (by omega) (by omega) (by omega) (by omega) (by omega) (by omega)⟩
    · go_wp2_with fail
      go_meet
      case rel => exact ⟨W2.heap.size, W2.heap.size + 1 + 1, W2.heap.size + 1, rfl, Fz.made HZ.out R2.out BW2.out (Nat.le_refl _) ⟨_, _, _, rfl⟩ (heap3 _ _ _ _).1 (heap3 _ _ _ _).2.2 (heap3 _ _ _ _).2.1 (by omega) (by omega) (by omega) (by omega) (by omega) (by omega)⟩
    · go_wp2_with fail
      go_meet
      case rel => exact ⟨W2.heap.size + 1, W2.heap.size, W2.heap.size + 1 + 1, rfl, Fz.made HZ.out R2.out BW2.out (Nat.le_refl _) ⟨_, _, _, rfl⟩ (heap3 _ _ _ _).2.1 (heap3 _ _ _ _).1 (heap3 _ _ _ _).2.2 (by omega) (by omega) (by omega) (by omega) (by omega) (by omega)⟩
    · go_wp2_with fail
      go_meet
      case rel => exact ⟨W2.heap.size + 1 + 1, W2.heap.size, W2.heap.size + 1, rfl, Fz.made HZ.out R2.out BW2.out (Nat.le_refl _) ⟨_, _, _, rfl⟩ (heap3 _ _ _ _).2.2 (heap3 _ _ _ _).1 (heap3 _ _ _ _).2.1 (by omega) (by omega) (by omega) (by omega) (by omega) (by omega)⟩
    · go_wp2_with fail
      go_meet
      case rel => exact ⟨W2.heap.size + 1, W2.heap.size + 1 + 1, W2.heap.size, rfl, Fz.made HZ.out R2.out BW2.out (Nat.le_refl _) ⟨_, _, _, rfl⟩ (heap3 _ _ _ _).2.1 (heap3 _ _ _ _).2.2 (heap3 _ _ _ _).1 (by omega) (by omega) (by omega) (by omega) (by omega) (by omega)⟩
    · go_wp2_with fail
      go_meet
      case rel => exact ⟨W2.heap.size + 1 + 1, W2.heap.size + 1, W2.heap.size, rfl, Fz.made HZ.out R2.out BW2.out (Nat.le_refl _) ⟨_, _, _, rfl⟩ (heap3 _ _ _ _).2.2 (heap3 _ _ _ _).2.1 (heap3 _ _ _ _).1 (by omega) (by omega) (by omega) (by omega) (by omega) (by omega)⟩
  case' rest => skip
  obtain ⟨x, y, z, rfl, FZ⟩ := hcut
  clear R2 BW2 hmk HZ
  obtain ⟨r, hr⟩ : ∃ r, w.heap.size = r := ⟨_, rfl⟩
  rw [hr] at FZ
  go_wp2
  go_loopw [22] (fun i wr => ∃ k : Nat, k ≤ l.length ∧ i = .int .i64 k ∧ Hid (Fz w wr r x y z (fun c => parK l c k) (fun _ => 0))) (fun i _ => l.length - (intOf i).toNat)
  case atStart => exact ⟨0, Nat.zero_le _, rfl, FZ.out⟩
  case round =>
    clear FZ
    obtain ⟨k, hk, rfl, hS⟩ := hrel
    by_cases hlt : k < l.length
    · obtain ⟨b', off, rfl, u0, u1, u2⟩ := (HL.out.below hS.out.bel).at_ hlt
      have hlt' : (k : Int) < (l.length : Int) := by omega
      obtain ⟨W3, hW3⟩ : ∃ W3, wr.alloc (.cells #[.int .i64 (nd l k).cd, .int .i64 (nd l k).pr, .string (nd l k).ti] 56) = W3 := ⟨_, rfl⟩
      have N3 : Hid (NodeB wr W3 (nd l k)) := by unfold Hid; rw [← hW3]; exact node_b _ _
      have F3 := Lib.hid (hS.out.keep N3.out.1)
      obtain ⟨cd, hcd⟩ : ∃ cd : Nat, (nd l k).cd = cd := ⟨(nd l k).cd.toNat, by have := HO.out.1.rng k hlt; omega⟩
      have hcd9 : (cd : Int) < 1000 := by have := HO.out.1.rng k hlt; omega
      obtain ⟨pr, hpr⟩ : ∃ pr : Nat, (nd l k).pr = pr := ⟨(nd l k).pr.toNat, by
        rcases HO.out.2 k hlt with e | ⟨j, hj, e⟩
        · rw [e]; rfl
        · have := HO.out.1.rng j hj; omega⟩
      have F4 := Lib.hid (F3.out.setP cd pr)
      have NX : Hid (Fz w (W3.setCell ⟨x, cd, none⟩ (.int .i64 (pr : Nat))) r x y z (fun c => parK l c (k + 1)) (fun _ => 0)) := by
        have e : (fun j : Nat => if (cd : Int) = (j : Int) then pr else parK l j k) = fun c => parK l c (k + 1) := by
          funext j
          show _ = if (nd l k).cd = (j : Int) then (nd l k).pr.toNat else parK l j k
          rw [hcd, hpr, Int.toNat_natCast]
        rw [← e]; exact F4.out
      have v0 := N3.out.2.2.1
      have v1 := N3.out.2.2.2.1
      rw [hcd] at v0 u0 hW3
      rw [hpr] at v1 u1 hW3
      have z0 := F3.out.c0
      have s0 := F3.out.par.arr.2 cd (by omega)
      have s1 := F3.out.par.fr cd (by omega)
      clear hS F3 F4 N3
      go_wp2
      go_roundw
      case rel => exact ⟨k + 1, by omega, by go_num, NX.out⟩
      case measure => simp [intOf]; omega
    · obtain rfl : k = l.length := by omega
      clear hlt
      have FZ1 : Hid (Fz w wr r x y z (par l) (fun _ => 0)) := hS.out
      clear hS
      obtain ⟨wA, hwA⟩ : ∃ x : World, x = wr := ⟨wr, rfl⟩
      subst hwA
      go_wp2
      go_loopw [36] (fun i wr => ∃ k : Nat, k ≤ l.length ∧ i = .int .i64 k ∧ Hid (Fz w wr r x y z (par l) (fun c => lvK l c k))) (fun i _ => l.length - (intOf i).toNat)
      case atStart => exact ⟨0, Nat.zero_le _, rfl, FZ1.out⟩
      case round =>
        clear FZ1
        obtain ⟨k, hk, rfl, hS⟩ := hrel
        by_cases hlt : k < l.length
        · obtain ⟨b', off, rfl, u0, u1, u2⟩ := (HL.out.below hS.out.bel).at_ hlt
          have hlt' : (k : Int) < (l.length : Int) := by omega
          obtain ⟨W3, hW3⟩ : ∃ W3, wr.alloc (.cells #[.int .i64 (nd l k).cd, .int .i64 (nd l k).pr, .string (nd l k).ti] 56) = W3 := ⟨_, rfl⟩
          have N3 : Hid (NodeB wr W3 (nd l k)) := by unfold Hid; rw [← hW3]; exact node_b _ _
          have F3 := Lib.hid (hS.out.keep N3.out.1)
          have hny : Hid (y ≠ wr.heap.size) := by have := hS.out.lev.arr.1; unfold Hid; omega
          have nlt : Hid (wr.heap.size < W3.heap.size) := by have := N3.out.2.1; unfold Hid; omega
          obtain ⟨cd, hcd⟩ : ∃ cd : Nat, (nd l k).cd = cd := ⟨(nd l k).cd.toNat, by have := HO.out.1.rng k hlt; omega⟩
          have hcd9 : (cd : Int) < 1000 := by have := HO.out.1.rng k hlt; omega
          have v0 := N3.out.2.2.1
          rw [hcd] at v0 u0 hW3
          have hcd := Lib.hid hcd
          have hl6 : (l.length : Int) ≤ 600 := by have := hle.out; omega
          have hl7 : (((l.length + 1 : Nat)) : Int) = (l.length : Int) + 1 := by omega
          have hl8 : IntKind.i64.wrap ((l.length : Int) + 1) = ((l.length + 1 : Nat) : Int) := by rw [IntKind.wrap_i64] <;> omega
          clear hS N3 hl7
          go_wp2_with fail
          clear hW3 u0 u1 u2
          have JF := F3.out.keep (Below.refl _ _).drew
          have J1 : Hid (Fz w W3.drew r x y z (par l) (fun c => lvK l c k) ∧ W3.drew.cell? ⟨wr.heap.size, 0, none⟩ = some (.int .i64 (cd : Nat)) ∧ wr.heap.size < W3.drew.heap.size) := ⟨JF, v0, nlt.out⟩
          refine wp_region_noPanic ?_
          refine wp_region_held_drew (S := SN z x y wr.heap.size cd) (by kernel_rfl) ⟨J1.out.1.c0, J1.out.1.c1, J1.out.2.1⟩ (fun hS => ?_)
          obtain ⟨V0, hV0⟩ : ∃ W, W3.drew = W := ⟨_, rfl⟩
          rw [hV0] at hS J1 ⊢
          clear hV0 JF
          refine wpAnyH_take (i := 0) (v := ?v0z1) rfl (by kernel_rfl) (by kernel_rfl) (by kernel_rfl) (fun _ _ _ h => h) (Or.inl ⟨by rfl, ?hy0z1⟩) (by assumption) ?rest0z1
          case hy0z1 =>
            intro w hSw
            dsimp only [SN] at hSw
            go_simp
            try with_reducible rfl
          simp only [Act.put, List.getElem_toArray, List.getElem_cons_succ, List.getElem_cons_zero, List.setIfInBounds_toArray, List.set_cons_zero, List.set_cons_succ]
          refine wpAnyH_take (i := 1) (v := ?v1z2) rfl (by kernel_rfl) (by kernel_rfl) (by kernel_rfl) (fun _ _ _ h => h) (Or.inl ⟨by rfl, ?hy1z2⟩) (by assumption) ?rest1z2
          case hy1z2 =>
            intro w hSw
            dsimp only [SN] at hSw
            go_simp
            try with_reducible rfl
          simp only [Act.put, List.getElem_toArray, List.getElem_cons_succ, List.getElem_cons_zero, List.setIfInBounds_toArray, List.set_cons_zero, List.set_cons_succ]
          refine wpAnyH_take (i := 2) (v := ?v2z3) rfl (by kernel_rfl) (by kernel_rfl) (by kernel_rfl) (fun _ _ _ h => h) (Or.inl ⟨by rfl, ?hy2z3⟩) (by assumption) ?rest2z3
          case hy2z3 =>
            intro w hSw
            dsimp only [SN] at hSw
            go_simp
            try with_reducible rfl
          simp only [Act.put, List.getElem_toArray, List.getElem_cons_succ, List.getElem_cons_zero, List.setIfInBounds_toArray, List.set_cons_zero, List.set_cons_succ]
          refine wpAnyH_take (i := 3) (v := ?v3z4) rfl (by kernel_rfl) (by kernel_rfl) (by kernel_rfl) (fun _ _ _ h => h) (Or.inl ⟨by rfl, ?hy3z4⟩) (by assumption) ?rest3z4
          case hy3z4 =>
            intro w hSw
            dsimp only [SN] at hSw
            go_simp
            try with_reducible rfl
          simp only [Act.put, List.getElem_toArray, List.getElem_cons_succ, List.getElem_cons_zero, List.setIfInBounds_toArray, List.set_cons_zero, List.set_cons_succ]
          refine wpAnyH_take (i := 4) (v := ?v4z5) rfl (by kernel_rfl) (by kernel_rfl) (by kernel_rfl) (fun _ _ _ h => h) (Or.inl ⟨by rfl, ?hy4z5⟩) (by assumption) ?rest4z5
          case hy4z5 =>
            intro w hSw
            dsimp only [SN] at hSw
            go_simp
            try with_reducible rfl
          simp only [Act.put, List.getElem_toArray, List.getElem_cons_succ, List.getElem_cons_zero, List.setIfInBounds_toArray, List.set_cons_zero, List.set_cons_succ]
          refine wpAnyH_take (i := 5) (v := ?v5z6) rfl (by kernel_rfl) (by kernel_rfl) (by kernel_rfl) (fun _ _ _ h => h) (Or.inl ⟨by rfl, ?hy5z6⟩) (by assumption) ?rest5z6
          case hy5z6 =>
            intro w hSw
            dsimp only [SN] at hSw
            go_simp
            try with_reducible rfl
          simp only [Act.put, List.getElem_toArray, List.getElem_cons_succ, List.getElem_cons_zero, List.setIfInBounds_toArray, List.set_cons_zero, List.set_cons_succ]
          refine wpAnyH_take (i := 6) (v := ?v6z7) rfl (by kernel_rfl) (by kernel_rfl) (by kernel_rfl) (fun _ _ _ h => h) (Or.inl ⟨by rfl, ?hy6z7⟩) (by assumption) ?rest6z7
          case hy6z7 =>
            intro w hSw
            dsimp only [SN] at hSw
            go_simp
            try with_reducible rfl
          simp only [Act.put, List.getElem_toArray, List.getElem_cons_succ, List.getElem_cons_zero, List.setIfInBounds_toArray, List.set_cons_zero, List.set_cons_succ]
          refine wpAnyH_take (i := 7) (v := ?v7z8) rfl (by kernel_rfl) (by kernel_rfl) (by kernel_rfl) (fun _ _ _ h => h) (Or.inl ⟨by rfl, ?hy7z8⟩) (by assumption) ?rest7z8
          case hy7z8 =>
            intro w hSw
            dsimp only [SN] at hSw
            go_simp
            try with_reducible rfl
          simp only [Act.put, List.getElem_toArray, List.getElem_cons_succ, List.getElem_cons_zero, List.setIfInBounds_toArray, List.set_cons_zero, List.set_cons_succ]
          refine wpAnyH_take (i := 8) (v := ?v8z9) rfl (by kernel_rfl) (by kernel_rfl) (by kernel_rfl) (fun _ _ _ h => h) (Or.inl ⟨by rfl, ?hy8z9⟩) (by assumption) ?rest8z9
          case hy8z9 =>
            intro w hSw
            dsimp only [SN] at hSw
            go_simp
            try with_reducible rfl
          simp only [Act.put, List.getElem_toArray, List.getElem_cons_succ, List.getElem_cons_zero, List.setIfInBounds_toArray, List.set_cons_zero, List.set_cons_succ]
          refine wpAnyH_take (i := 9) (v := ?v9z10) rfl (by kernel_rfl) (by kernel_rfl) (by kernel_rfl) (fun _ _ _ h => h) (Or.inl ⟨by rfl, ?hy9z10⟩) (by assumption) ?rest9z10
          case hy9z10 =>
            intro w hSw
            dsimp only [SN] at hSw
            go_simp
            try with_reducible rfl
          simp only [Act.put, List.getElem_toArray, List.getElem_cons_succ, List.getElem_cons_zero, List.setIfInBounds_toArray, List.set_cons_zero, List.set_cons_succ]
          refine wpAnyH_ready (rs := [10]) (by kernel_rfl) (by simp) ?_
          refine AllReadyH.cons rfl (fun K hK => ?_) AllReadyH.nil
          go_simp
          (refine (climb_c x y (par l) cd (l.length + 1) V0 J1.out.1.par.arr (by omega) (fun j _ => HPL.out j) (by have := hle.out; omega)).mono ?_)
          rintro e V1 ⟨rfl, bc⟩
          try go_simp
          have J2 : Hid (Fz w V1 r x y z (par l) (fun c => lvK l c k)) := J1.out.1.keep bc
          have hT : SN z x y wr.heap.size cd V1 := ⟨J2.out.c0, J2.out.c1, (bc.cell (p := ⟨wr.heap.size, 0, none⟩) J1.out.2.2).trans J1.out.2.1⟩
          refine hK.out _ _ hT (fun _ => ?_)
          clear hK K hS bc
          have hS := hT
          clear hT
          try simp only [Act.put, List.setIfInBounds_toArray, List.set_cons_zero, List.set_cons_succ]
          refine wpAnyH_take (i := 11) (v := ?v11z11) rfl (by kernel_rfl) (by kernel_rfl) (by kernel_rfl) (fun _ _ _ h => h) (Or.inl ⟨by rfl, ?hy11z11⟩) (by assumption) ?rest11z11
          case hy11z11 =>
            intro w hSw
            dsimp only [SN] at hSw
            go_simp
            try with_reducible rfl
          simp only [Act.put, List.getElem_toArray, List.getElem_cons_succ, List.getElem_cons_zero, List.setIfInBounds_toArray, List.set_cons_zero, List.set_cons_succ]
          refine wpAnyH_ready (rs := [12]) (by kernel_rfl) (by simp) ?_
          refine AllReadyH.cons rfl (fun K hK => ?_) AllReadyH.nil
          have s0 := J2.out.lev.arr.2 cd (by omega)
          have s1 := J2.out.lev.fr cd (by omega)
          go_simp
          have F4 := Lib.hid (J2.out.setL cd (clm (par l) (l.length + 1) cd))
          have NX : Hid (Fz w (V1.setCell ⟨y, cd, none⟩ (.int .i64 (clm (par l) (l.length + 1) cd : Nat))) r x y z (par l) (fun c => lvK l c (k + 1))) := by
            have e : (fun j : Nat => if (cd : Int) = (j : Int) then clm (par l) (l.length + 1) cd else lvK l j k) = fun c => lvK l c (k + 1) := by
              funext j
              show _ = if (nd l k).cd = (j : Int) then lvl l k else lvK l j k
              unfold lvl
              rw [hcd.out, Int.toNat_natCast]
            rw [← e]; exact F4.out
          have hT : SN z x y wr.heap.size cd (V1.setCell ⟨y, cd, none⟩ (.int .i64 (clm (par l) (l.length + 1) cd : Nat))) :=
            ⟨NX.out.c0, NX.out.c1, by rw [set_cell (hny.out)]; exact hS.2.2⟩
          refine hK.out _ _ hT (fun _ => ?_)
          clear hK K hS
          try simp only [Act.put, List.setIfInBounds_toArray, List.set_cons_zero, List.set_cons_succ]
          refine wpAnyH_done (by kernel_rfl) ?_ _
          refine NoPanic.normal ?_
          clear hT s0 s1 F4 J2
          go_wp2
          go_roundw
          case rel => exact ⟨k + 1, by omega, by go_num, NX.out⟩
          case measure => simp [intOf]; omega
        · obtain rfl : k = l.length := by omega
          clear hlt
          have FZ2 : Hid (Fz w wr r x y z (par l) (lev l)) := hS.out
          clear hS
          obtain ⟨wB, hwB⟩ : ∃ x : World, x = wr := ⟨wr, rfl⟩
          subst hwB
          have HM := Lib.hid (Tryd.slices_Max_int y 0 1000 1000 (lvs (lev l)) wB (by omega) (by rw [lvs_len]; omega) (by omega) (fun j hj => by
            rw [lvs_len] at hj
            rw [lvs_at _ hj, Nat.zero_add]
            exact FZ2.out.lev.arr.2 j hj))
          obtain ⟨M, hM⟩ : ∃ M, Lib.maxOf (lvs (lev l)) = M := ⟨_, rfl⟩
          have hM1 : ∀ n : Nat, ((n : Int) < M ↔ ∃ k, k < l.length ∧ n < lvl l k) := fun n => by rw [← hM, lvs_gt, lev_ex HO.out.1]
          have e9 : (lvs (lev l)).take 1000 = lvs (lev l) := List.take_of_length_le (by rw [lvs_len]; omega)
          rw [e9, hM] at HM
          have q1 := FZ2.out.c1
          have HFR := Lib.hid HFS.out
          clear hM e9
          by_cases m1 : (l.length : Int) < M
          · have RR : Hid (frS l = 18) := by unfold Hid; rw [HFR.out, if_pos ((hM1 _).1 m1)]
            clear hM1
            go_wp2_with fail
            (with_reducible refine HM.out.mono ?_)
            rintro e w' ⟨rfl, hw⟩
            have hw := hw.symm
            subst hw
            clear q1
            obtain ⟨W9, hW9⟩ : ∃ W9, two wB r (.slice none 0 0) (.slice none 0 0) = W9 := ⟨_, rfl⟩
            have R9 : B2 W9 r (.slice none 0 0) (.slice none 0 0) := by rw [← hW9]; exact FZ2.out.res.set _ _
            have PP : Hid (FrP l w (.returned (.tuple #[.agg #[.slice none 0 0, .slice none 0 0], .int .i64 18])) W9) := by
              rw [← hW9]
              exact Or.inr ⟨by rw [RR.out]; decide, by rw [RR.out], below_two FZ2.out.bel FZ2.out.wr _ _⟩
            have q0 := FZ2.out.res.c0
            have q1 := FZ2.out.res.c1
            have g0 := FZ2.out.res.fr 0
            have g1 := FZ2.out.res.fr 1
            obtain ⟨r0, r1, _, _⟩ := id R9
            unfold two at hW9
            clear R9
            go_wp2_with fail
            exact bodyPost_ret (v := .tuple #[.agg #[.slice none 0 0, .slice none 0 0], .int .i64 18]) (by simp [results, Tryd.results35, go_sem, r0, r1]) rfl PP.out
          by_cases m2 : 8 < M
          · have RR : Hid (frS l = 2) := by unfold Hid; rw [HFR.out, if_neg (fun h => m1 ((hM1 _).2 h)), if_pos ((hM1 8).1 m2)]
            clear hM1
            go_wp2_with fail
            (with_reducible refine HM.out.mono ?_)
            rintro e w' ⟨rfl, hw⟩
            have hw := hw.symm
            subst hw
            clear q1
            obtain ⟨W9, hW9⟩ : ∃ W9, two wB r (.slice none 0 0) (.slice none 0 0) = W9 := ⟨_, rfl⟩
            have R9 : B2 W9 r (.slice none 0 0) (.slice none 0 0) := by rw [← hW9]; exact FZ2.out.res.set _ _
            have PP : Hid (FrP l w (.returned (.tuple #[.agg #[.slice none 0 0, .slice none 0 0], .int .i64 2])) W9) := by
              rw [← hW9]
              exact Or.inr ⟨by rw [RR.out]; decide, by rw [RR.out], below_two FZ2.out.bel FZ2.out.wr _ _⟩
            have q0 := FZ2.out.res.c0
            have q1 := FZ2.out.res.c1
            have g0 := FZ2.out.res.fr 0
            have g1 := FZ2.out.res.fr 1
            obtain ⟨r0, r1, _, _⟩ := id R9
            unfold two at hW9
            clear R9
            go_wp2_with fail
            exact bodyPost_ret (v := .tuple #[.agg #[.slice none 0 0, .slice none 0 0], .int .i64 2]) (by simp [results, Tryd.results35, go_sem, r0, r1]) rfl PP.out
          · have RR : Hid (frS l = 0) := by unfold Hid; rw [HFR.out, if_neg (fun h => m1 ((hM1 _).2 h)), if_neg (fun h => m2 ((hM1 8).2 h))]
            clear hM1
            go_wp2_with fail
            (with_reducible refine HM.out.mono ?_)
            rintro e w' ⟨rfl, hw⟩
            have hw := hw.symm
            subst hw
            clear q1
            have z0 := FZ2.out.c0
            have z1 := FZ2.out.c1
            obtain ⟨W9, hW9⟩ : ∃ W9, two wB r (row x) (row y) = W9 := ⟨_, rfl⟩
            have R9 : B2 W9 r (row x) (row y) := by rw [← hW9]; exact FZ2.out.res.set _ _
            have PP : Hid (FrP l w (.returned (.tuple #[.agg #[row x, row y], .int .i64 0])) W9) := by
              rw [← hW9]
              exact Or.inl ⟨RR.out, x, y, rfl, (FZ2.out.par.two (by have := FZ2.out.rx; omega) _ _).arr, (FZ2.out.lev.two (by have := FZ2.out.ry; omega) _ _).arr, below_two FZ2.out.bel FZ2.out.wr _ _, by have := FZ2.out.rx; have := FZ2.out.wr; omega, by have := FZ2.out.ry; have := FZ2.out.wr; omega⟩
            have q0 := FZ2.out.res.c0
            have q1 := FZ2.out.res.c1
            have g0 := FZ2.out.res.fr 0
            have g1 := FZ2.out.res.fr 1
            obtain ⟨r0, r1, _, _⟩ := id R9
            unfold two at hW9
            clear R9
            go_wp2_with fail
            exact bodyPost_ret (v := .tuple #[.agg #[row x, row y], .int .i64 0]) (by simp [results, Tryd.results35, go_sem, r0, r1]) rfl PP.out
end Go.Proofs.YthdmodmplpoejaaDoor
