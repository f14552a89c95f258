/-
  Package weight's reference: Bases.
  Package weight: short ratios are never too long to write.
  WeightBasesMatchSpec: the law.
  Package weight: arguments opened: the lists of picks that they read as.
-/
import Derived.Test.YtchdfekajjeflaaGreatDoorM20
import Derived.ProofKit
import Derived.OpenShut
import Derived.ShutString
import Derived.ChangeOld
import Derived.Deep.DeepHandedRow
import Derived.Lib.SmallJoins
namespace Go.Proofs.YtchdfekajjeflaaGreatDoor
open Go.RowKit

/-- Where the loop is. -/
structure IR (w : World) (l : List Pk) (j : Nat) (v : Value) (W : World) : Prop where
  own : W.ownsRow w.heap.size 29 2 v j (rrow (bsL l j))
  bel : Below w.heap.size w W
  ok : ∀ i, i < j → bsE (pk l i) = 0
theorem IR.keep {w : World} {l : List Pk} {j : Nat} {v : Value} {W W' : World} (h : IR w l j v W) (hb : Below W.heap.size W W') : IR w l j v W' :=
  ⟨own_keepR h.own hb, h.bel.trans (hb.mono h.bel.size), h.ok⟩
theorem IR.snoc {w : World} {l : List Pk} {j : Nat} {v : Value} {W : World} (h : IR w l j v W) (x : Rr) (hx : bsT (pk l j) = x) (h0 : bsE (pk l j) = 0) {v' : Value} {W' : World} (o : Obj)
    (hown : W'.ownsRow w.heap.size 29 2 v' (j + 1) (rrow (bsL l j) ++ [.string x.1, .string x.2])) (hg : (W.alloc o).grownBy W' v.ownBlock) : IR w l (j + 1) v' W' := by
  have hb := (h.bel.alloc h.bel.size o).grown hg (by simp; have := h.bel.size; omega) (fun b hb => (World.ownsRow.lt (h.own.alloc o) b hb).1)
  refine ⟨?_, hb, fun i hi => ?_⟩
  · rw [bsL_succ, rrow_snoc, hx]
    exact hown
  · by_cases e : i = j
    · rw [e]; exact h0
    · exact h.ok i (by omega)
/-- A chance in its box, within the loop. -/
structure Ry (w : World) (l : List Pk) (j : Nat) (v : Value) (h : Nat) (f : Fa) (n d : Nat) (W : World) : Prop where
  i : IR w l j v W
  b : Q3 W h (.bool f.b) (.slice f.a f.k f.c) (.slice f.a' f.k' f.c')
  f : Fn W f n d
theorem Ry.keep {w : World} {l : List Pk} {j : Nat} {v : Value} {h : Nat} {f : Fa} {n d : Nat} {W W' : World} (z : Ry w l j v h f n d W) (hb : Below W.heap.size W W') : Ry w l j v h f n d W' :=
  ⟨z.i.keep hb, z.b.keep hb, z.f.below hb⟩
def S3f (h : Nat) (f : Fa) (W : World) : Prop :=
  W.cell? ⟨h, 0, none⟩ = some (.bool f.b) ∧ W.cell? ⟨h, 1, none⟩ = some (.slice f.a f.k f.c) ∧ W.cell? ⟨h, 2, none⟩ = some (.slice f.a' f.k' f.c')
theorem Ry.s3 {w : World} {l : List Pk} {j : Nat} {v : Value} {h : Nat} {f : Fa} {n d : Nat} {W : World} (z : Ry w l j v h f n d W) : S3f h f W := ⟨z.b.c0, z.b.c1, z.b.c2⟩
/-- What Bases answers. -/
def RbP (l : List Pk) (w : World) (e : Ending) (w' : World) : Prop :=
  Below w.heap.size w w' ∧ (
    (3000 < l.length ∧ e = .returned (.tuple #[.slice none 0 0, .int .i64 2])) ∨
    (l.length ≤ 3000 ∧ ∃ j, j < l.length ∧ (∀ i, i < j → bsE (pk l i) = 0) ∧ bsE (pk l j) ≠ 0 ∧ e = .returned (.tuple #[.slice none 0 0, .int .i64 (bsE (pk l j))])) ∨
    (l.length ≤ 3000 ∧ (∀ i, i < l.length → bsE (pk l i) = 0) ∧ ∃ a c, e = .returned (.tuple #[.slice a l.length c, .int .i64 0]) ∧ RdR w' a (bsL l l.length)))
theorem x_sg {x : Int} {b : Bool} (hb : b = decide (x < 0)) : sg b x.natAbs = x := by
  rw [hb]
  by_cases h : x < 0
  · rw [decide_eq_true h]; simp only [sg, if_true]; omega
  · rw [decide_eq_false h]; simp only [sg]; simp; omega
theorem tp_low {n : Nat} (h : n < tp 223) : n < tp 40000 := Nat.lt_of_lt_of_le h (tp_mono (by decide))
theorem one_tp : 1 < tp 40000 := Nat.lt_of_lt_of_le (show 1 < tp 1 by rw [tp_one]; decide) (tp_mono (by decide))
theorem Nt_one {W : World} {f : Fa} {x : Nat} (h1 : Nt W f.a f.k f.c x) (h2 : Nt W f.a' f.k' f.c' 1) (hx : x ≤ 1) : Fn W f x 1 :=
  ⟨h1, h2, by decide, Nat.lt_of_le_of_lt hx one_tp, one_tp⟩
theorem xcmp_le {x : Int} : xcmp x ≤ 0 ↔ x ≤ 0 := by unfold xcmp; split <;> (try split) <;> omega
theorem xcmp_gt {x : Int} : 0 < xcmp x ↔ 0 < x := by unfold xcmp; split <;> (try split) <;> omega
theorem sg_abs (b : Bool) (n : Nat) : (sg b n).natAbs = n := by cases b <;> simp [sg]
/-- One through a chance comes back. -/
def OvP (x y : Int) (w : World) (e : Ending) (w' : World) : Prop :=
  ∃ sb n d, FqP sb n d w e w' ∧ 0 < d ∧ raR (zv sb n) d = ra y x ∧ n < tp 90000 ∧ d < tp 90000
theorem ovP_of {x y : Int} {w w' : World} {e : Ending} (hx : 0 < x) (hy : 0 < y) (hg : Int.gcd x y = 1) (lx : x.natAbs < tp 223) (ly : y.natAbs < tp 223)
    (h : FvP (sg (false != false) (1 * y.natAbs)) (1 * x.natAbs) w e w') : OvP x y w e w' := by
  obtain ⟨sb, n, d, h1, hd, hv, hs⟩ := h
  have e1 : ((1 * x.natAbs : Nat) : Int) = x := by rw [Nat.one_mul]; omega
  have e2 : sg (false != false) (1 * y.natAbs) = y := by rw [Nat.one_mul]; show (y.natAbs : Int) = y; omega
  rw [e1, e2] at hv
  have ee : raR (zv sb n) d = raR y x := raR_eq (by omega) (by omega) hv
  refine ⟨sb, n, d, h1, hd, by rw [ee, raR_low hx (by rw [Int.gcd_comm]; exact hg)], ?_⟩
  have l1 : tp 12 ≤ tp 90000 := tp_mono (by decide)
  have l2 : tp 223 ≤ tp 90000 := tp_mono (by decide)
  rcases hs with ⟨s1, s2⟩ | s
  · exact ⟨Nat.lt_of_lt_of_le s1 l1, Nat.lt_of_lt_of_le s2 l1⟩
  · have l := low_eq (p := sg sb n) (q := (d : Int)) (p' := y) (q' := x) (by omega) hx (by show Nat.gcd (sg sb n).natAbs (d : Int).natAbs = 1; rw [sg_abs]; exact s) (by rw [Int.gcd_comm]; exact hg) hv
    have n1 : n = y.natAbs := by rw [← l.1, sg_abs]
    have n2 : d = x.natAbs := by rw [← l.2]; rfl
    rw [n1, n2]
    exact ⟨Nat.lt_of_lt_of_le ly l2, Nat.lt_of_lt_of_le lx l2⟩
theorem own_ne {W : World} {base : Nat} {e : TypeId} {size : Nat} {v : Value} {n : Nat} {xs : List Value} (h : W.ownsRow base e size v n xs) : v.ownBlock ≠ some W.heap.size := by
  rcases h.2 with ⟨rfl, _⟩ | ⟨g, cap, cur, rfl, hbase, hb, _⟩
  · simp [Value.ownBlock]
  · have := (Array.getElem?_eq_some_iff.1 hb).1
    simp [Value.ownBlock]
    omega
theorem sh_some {n d : List UInt8} (h : shS n d = 0) : ∃ x y, rread n d = some (x, y) := by
  have h2 : ck n d = 0 := by
    unfold shS at h
    by_cases h3 : ck n d ≠ 0
    · rw [if_pos h3] at h; exact h
    · simpa using h3
  unfold ck at h2
  by_cases hs : (rread n d).isSome = true
  · obtain ⟨q, hq⟩ := Option.isSome_iff_exists.1 hs
    exact ⟨q.1, q.2, hq⟩
  · rw [if_neg hs] at h2; exact absurd h2 (rflt_ne _ _)
theorem rread_low {n d : List UInt8} {x y : Int} (h : rread n d = some (x, y)) : 0 < y ∧ Int.gcd x y = 1 := by
  unfold rread at h
  by_cases hl : large n d = true
  · rw [if_pos hl] at h; cases h
  · rw [if_neg hl] at h
    cases h1 : zread n with
    | none => rw [h1] at h; cases h
    | some a =>
      cases h2 : zread d with
      | none => rw [h1, h2] at h; cases h
      | some b =>
        rw [h1, h2] at h
        by_cases h3 : 0 < b ∧ Int.gcd a b = 1
        · simp only [if_pos h3] at h
          injection h with e
          injection e with e1 e2
          subst e1; subst e2
          exact h3
        · simp only [if_neg h3] at h
          cases h
set_option maxRecDepth 100000 in
set_option maxHeartbeats 4000000 in
theorem rBases_c (a : Option Addr) (c : Nat) (l : List Pk) (w : World) (h : RdP w a l) (hE : Pow w) :
    Calls Tryz.prog 5 #[.slice a l.length c] w (RbP l w) := by
  have HR := Lib.hid (fun W (hb : Below w.heap.size w W) => h.below hb)
  have HE := Lib.hid (fun W (hb : Below w.heap.size w W) => hE.below hb)
  have HL := Lib.hid h.1
  obtain ⟨i0, hi0, hz0, hz1, hz2⟩ := info_ratio
  clear h hE
  by_cases hl : 3000 < l.length
  · have hi : (3000 : Int) < (l.length : Int) := by omega
    have PP : Hid (RbP l w (.returned (.tuple #[.slice none 0 0, .int .i64 2])) w) := ⟨Below.refl _ _, .inl ⟨hl, rfl⟩⟩
    clear hl
    go_enter Tryz.func5, Tryz.ntmps5
    go_wp2_with fail
    exact bodyPost_ret (v := .tuple #[.slice none 0 0, .int .i64 2]) (by simp [results, Tryz.results5, go_sem]) rfl PP.out
  · have hi : ¬ (3000 : Int) < (l.length : Int) := by omega
    have LL : Hid (l.length ≤ 3000) := by unfold Hid; omega
    clear hl
    go_enter Tryz.func5, Tryz.ntmps5
    go_wp2_with fail
    go_loopw [4, 16] (fun v i wr => ∃ j v', j ≤ l.length ∧ v' = v ∧ i = .int .i64 (j : Nat) ∧ Hid (IR w l j v' wr)) (fun _ i _ => l.length - (intOf i).toNat)
    case atStart => exact ⟨0, _, Nat.zero_le _, rfl, rfl, World.ownsRow_nil _ _ _ _, Below.refl _ _, fun i hi => by omega⟩
    case round =>
      obtain ⟨j, v, hj, hv, rfl, hI⟩ := hrel
      subst hv
      by_cases hlt : j < l.length
      · have hlt' : (j : Int) < (l.length : Int) := by omega
        have LT := Lib.hid hlt
        have hw1 : IntKind.i64.wrap ((j : Int) + 1) = ((j + 1 : Nat) : Int) := by rw [IntKind.wrap_i64] <;> omega
        obtain ⟨b, off, rfl, f0, f1, f2⟩ := (HR.out wr hI.out.bel).at_ hlt
        obtain ⟨p, hp⟩ : ∃ p, pk l j = p := ⟨_, rfl⟩
        have HP := Lib.hid hp
        rw [hp] at f0 f1 f2
        clear hp
        obtain ⟨WA, hWA⟩ : ∃ W, wr.alloc (.cells #[.int .i64 0, .string ⟨#[]⟩, .string ⟨#[]⟩] 33) = W := ⟨_, rfl⟩
        have JA : Q3 WA wr.heap.size (.int .i64 0) (.string ⟨#[]⟩) (.string ⟨#[]⟩) := by rw [← hWA]; exact Q3.made _ _ _ _ _
        obtain ⟨WX, hWX⟩ : ∃ W, trio WA wr.heap.size (.int .i64 p.id) (.string p.s) (.string p.t) = W := ⟨_, rfl⟩
        have JX : Hid (Q3 WX wr.heap.size (.int .i64 p.id) (.string p.s) (.string p.t)) := by rw [← hWX]; exact JA.set _ _ _
        have bx : Below wr.heap.size wr WX := by rw [← hWX]; exact below_trio (by rw [← hWA]; exact bel_one _ _) (Nat.le_refl _) _ _ _
        have I2 := Lib.hid (hI.out.keep bx)
        have HC := Lib.hid (shortRatio_c p.s p.t WX (HE.out _ I2.out.bel))
        have a0 := JA.c0
        have a1 := JA.c1
        have a2 := JA.c2
        have af0 := JA.fr 0
        have af1 := JA.fr 1
        have af2 := JA.fr 2
        have x0 := JX.out.c0
        have x1 := JX.out.c1
        have x2 := JX.out.c2
        unfold trio at hWX
        clear hI bx JA
        go_wp2_with fail
        clear hWX hWA a0 a1 a2 af0 af1 af2 x0 x1 x2 f0 f1 f2
        refine HC.out.mono ?_
        rintro e w3 ⟨rfl, b3⟩
        have I3 := Lib.hid (I2.out.keep b3)
        have X3 := JX.out.keep b3
        have x0 := X3.c0
        have x1 := X3.c1
        have x2 := X3.c2
        obtain ⟨flt, hflt⟩ : ∃ flt, shS p.s.data.toList p.t.data.toList = flt := ⟨_, rfl⟩
        rw [hflt]
        have HFL : Hid (shS (pk l j).s.data.toList (pk l j).t.data.toList = flt) := by unfold Hid; rw [HP.out]; exact hflt
        clear I2 JX X3 b3 HC hflt
        by_cases hz : flt = 0
        · subst hz
          obtain ⟨X, Y, hr⟩ : ∃ X Y, rread p.s.data.toList p.t.data.toList = some (X, Y) := by
            have h := HFL.out
            rw [HP.out] at h
            exact sh_some h
          have hg := rread_low hr
          have RR : Hid (rread (pk l j).s.data.toList (pk l j).t.data.toList = some (X, Y)) := by unfold Hid; rw [HP.out]; exact hr
          have HF := Lib.hid (fracOf_c p.s p.t X Y w3 hr)
          have VP := Lib.hid (val_pos_den hr)
          have YG := Lib.hid hg
          clear hr hg
          go_wp2_with fail
          clear x0 x1 x2
          refine HF.out.mono ?_
          rintro e w5 ⟨fa, fk, fc, fa', fk', fc', rfl, l1, l2, b5⟩
          obtain ⟨fb, hfb⟩ : ∃ fb, decide (X < 0) = fb := ⟨_, rfl⟩
          rw [hfb]
          have FB : Hid (fb = decide (X < 0)) := hfb.symm
          have I5 := I3.out.keep b5
          obtain ⟨WB, hWB⟩ : ∃ W, w5.alloc (.cells #[.bool false, .slice none 0 0, .slice none 0 0] 50) = W := ⟨_, rfl⟩
          have JB : Q3 WB w5.heap.size (.bool false) (.slice none 0 0) (.slice none 0 0) := by rw [← hWB]; exact Q3.made _ _ _ _ _
          obtain ⟨WY, hWY⟩ : ∃ W, trio WB w5.heap.size (.bool fb) (.slice fa fk fc) (.slice fa' fk' fc') = W := ⟨_, rfl⟩
          have bY : Below w5.heap.size w5 WY := by rw [← hWY]; exact below_trio (by rw [← hWB]; exact bel_one _ _) (Nat.le_refl _) _ _ _
          have J1 : Hid (Ry w l j v w5.heap.size ⟨fb, fa, fk, fc, fa', fk', fc'⟩ X.natAbs Y.natAbs WY) :=
            ⟨I5.keep bY, by rw [← hWY]; exact JB.set _ _ _, ⟨l1.below bY, l2.below bY, VP.out.1, tp_low VP.out.2.2, tp_low VP.out.2.1⟩⟩
          have a0 := JB.c0
          have a1 := JB.c1
          have a2 := JB.c2
          have af0 := JB.fr 0
          have af1 := JB.fr 1
          have af2 := JB.fr 2
          have y0 := J1.out.b.c0
          have y1 := J1.out.b.c1
          have y2 := J1.out.b.c2
          unfold trio at hWY
          clear JB bY I5 I3 HF l1 l2 b5 hfb
          go_wp2_with fail
          clear hWY hWB a0 a1 a2 af0 af1 af2 y0 y1 y2
          have HO0 : Hid (∀ W (q : Fa), q.b = false → Fn W q 0 1 → Fn W ⟨fb, fa, fk, fc, fa', fk', fc'⟩ X.natAbs Y.natAbs → Calls Tryz.prog 15 #[.agg #[.bool fb, .slice fa fk fc, .slice fa' fk' fc'], .agg #[.bool q.b, .slice q.a q.k q.c, .slice q.a' q.k' q.c']] W (fun e w' => e = .returned (.int .i64 (xcmp (X))) ∧ Below W.heap.size W w')) := fun W q hq u1 u2 => by
            have h := order_c ⟨fb, fa, fk, fc, fa', fk', fc'⟩ q X.natAbs Y.natAbs 0 1 W u2 u1
            have e : sg fb (X.natAbs * 1) - sg q.b (0 * Y.natAbs) = X := by
              rw [Nat.mul_one, x_sg FB.out, hq]
              rw [Nat.zero_mul]; show X - 0 = X; omega
            dsimp only at h
            rw [e] at h
            exact h
          have HO1 : Hid (∀ W (q : Fa), q.b = false → Fn W q 1 1 → Fn W ⟨fb, fa, fk, fc, fa', fk', fc'⟩ X.natAbs Y.natAbs → Calls Tryz.prog 15 #[.agg #[.bool fb, .slice fa fk fc, .slice fa' fk' fc'], .agg #[.bool q.b, .slice q.a q.k q.c, .slice q.a' q.k' q.c']] W (fun e w' => e = .returned (.int .i64 (xcmp (X - Y))) ∧ Below W.heap.size W w')) := fun W q hq u1 u2 => by
            have h := order_c ⟨fb, fa, fk, fc, fa', fk', fc'⟩ q X.natAbs Y.natAbs 1 1 W u2 u1
            have e : sg fb (X.natAbs * 1) - sg q.b (1 * Y.natAbs) = X - Y := by
              rw [Nat.mul_one, x_sg FB.out, hq]
              rw [Nat.one_mul]; show X - (Y.natAbs : Int) = X - Y; have := YG.out.1; omega
            dsimp only at h
            rw [e] at h
            exact h
          generalize w5.heap.size = h at *
          refine wp_region_noPanic ?_
          refine wp_region_held_drew (S := S3f h ⟨fb, fa, fk, fc, fa', fk', fc'⟩) (by kernel_rfl) (J1.out.keep (Below.refl _ _).drew).s3 (fun hS => ?_)
          have J2 := Lib.hid (J1.out.keep (Below.refl _ _).drew)
          clear J1
          generalize WY.drew = WD at *
          refine wpAnyH_take (i := 0) (v := ?v0z13) rfl (by kernel_rfl) (by kernel_rfl) (by kernel_rfl) (fun _ _ _ h => h) (Or.inl ⟨by rfl, ?hy0z13⟩) (by assumption) ?rest0z13
          case hy0z13 =>
            intro w hSw
            dsimp only [S3f] at hSw
            go_simp
            try with_reducible rfl
          simp only [Act.put, List.getElem_toArray, List.getElem_cons_succ, List.getElem_cons_zero, List.setIfInBounds_toArray, List.set_cons_zero, List.set_cons_succ]
          refine wpAnyH_ready (rs := [1]) (by kernel_rfl) (by simp) ?_
          refine AllReadyH.cons rfl (fun K hK => ?_) AllReadyH.nil
          go_simp
          (refine (whole_pos 0 _ (by decide)).mono ?_)
          rintro e VJ3 ⟨qa, qk, qc, pa, pk_, pc, rfl, zq1, zq2, bc⟩
          try go_simp
          have J3 := Lib.hid (J2.out.keep bc)
          have QN : Hid (Fn VJ3 ⟨false, qa, qk, qc, pa, pk_, pc⟩ 0 1) := Nt_one zq1 zq2 (by decide)
          clear zq1 zq2
          have hT := J3.out.s3
          refine hK.out _ _ hT (fun _ => ?_)
          clear hK K hS bc J2
          have hS := hT
          clear hT
          try simp only [Act.put, List.setIfInBounds_toArray, List.set_cons_zero, List.set_cons_succ]
          refine wpAnyH_ready (rs := [2]) (by kernel_rfl) (by simp) ?_
          refine AllReadyH.cons rfl (fun K hK => ?_) AllReadyH.nil
          go_simp
          (refine (HO0.out _ ⟨false, qa, qk, qc, pa, pk_, pc⟩ rfl QN.out J3.out.f).mono ?_)
          rintro e VJ4 ⟨rfl, bc⟩
          try go_simp
          have J4 := Lib.hid (J3.out.keep bc)
          clear QN HO0
          have hT := J4.out.s3
          refine hK.out _ _ hT (fun _ => ?_)
          clear hK K hS bc J3
          have hS := hT
          clear hT
          try simp only [Act.put, List.setIfInBounds_toArray, List.set_cons_zero, List.set_cons_succ]
          by_cases hx : X ≤ 0
          · have hsx : xcmp X ≤ 0 := xcmp_le.2 hx
            have EV : Hid (bsE (pk l j) = 1) := bsE_one HFL.out RR.out (.inl hx)
            generalize xcmp X = sx at *
            clear hx
            refine wpAnyH_take (i := 3) (v := ?v3z14) rfl (by kernel_rfl) (by kernel_rfl) (by kernel_rfl) (fun _ _ _ h => h) (Or.inl ⟨by rfl, ?hy3z14⟩) (by assumption) ?rest3z14
            case hy3z14 =>
              intro w hSw
              dsimp only [S3f] at hSw
              go_simp
              try with_reducible rfl
            simp only [Act.put, List.getElem_toArray, List.getElem_cons_succ, List.getElem_cons_zero, List.setIfInBounds_toArray, List.set_cons_zero, List.set_cons_succ]
            refine wpAnyH_take (i := 4) (v := ?v4z15) rfl (by kernel_rfl) (by kernel_rfl) (by kernel_rfl) (fun _ _ _ h => h) (Or.inl ⟨by rfl, ?hy4z15⟩) (by assumption) ?rest4z15
            case hy4z15 =>
              intro w hSw
              dsimp only [S3f] at hSw
              go_simp
              try with_reducible rfl
            simp only [Act.put, List.getElem_toArray, List.getElem_cons_succ, List.getElem_cons_zero, List.setIfInBounds_toArray, List.set_cons_zero, List.set_cons_succ]
            refine wpAnyH_take (i := 5) (v := undef) rfl (by kernel_rfl) (by kernel_rfl) (by kernel_rfl) (fun _ _ _ h => h) (Or.inr ⟨by rfl, rfl⟩) (by assumption) ?rest5u3
            simp only [Act.put, List.getElem_toArray, List.getElem_cons_succ, List.getElem_cons_zero, List.setIfInBounds_toArray, List.set_cons_zero, List.set_cons_succ]
            refine wpAnyH_ready (rs := [6]) (by kernel_rfl) (by simp) ?_
            refine AllReadyH.cons rfl (fun K hK => ?_) AllReadyH.nil
            go_simp
            have hT := J4.out.s3
            refine hK.out _ _ hT (fun _ => ?_)
            clear hK K hS
            have hS := hT
            clear hT
            try simp only [Act.put, List.setIfInBounds_toArray, List.set_cons_zero, List.set_cons_succ]
            refine wpAnyH_ready (rs := [7]) (by kernel_rfl) (by simp) ?_
            refine AllReadyH.cons rfl (fun K hK => ?_) AllReadyH.nil
            go_simp
            have hT := J4.out.s3
            refine hK.out _ _ hT (fun _ => ?_)
            clear hK K hS
            have hS := hT
            clear hT
            try simp only [Act.put, List.setIfInBounds_toArray, List.set_cons_zero, List.set_cons_succ]
            refine wpAnyH_take (i := 8) (v := undef) rfl (by kernel_rfl) (by kernel_rfl) (by kernel_rfl) (fun _ _ _ h => h) (Or.inr ⟨by rfl, rfl⟩) (by assumption) ?rest8u4
            simp only [Act.put, List.getElem_toArray, List.getElem_cons_succ, List.getElem_cons_zero, List.setIfInBounds_toArray, List.set_cons_zero, List.set_cons_succ]
            refine wpAnyH_take (i := 9) (v := ?v9z16) rfl (by kernel_rfl) (by kernel_rfl) (by kernel_rfl) (fun _ _ _ h => h) (Or.inl ⟨by rfl, ?hy9z16⟩) (by assumption) ?rest9z16
            case hy9z16 =>
              intro w hSw
              dsimp only [S3f] at hSw
              go_simp
              try with_reducible rfl
            simp only [Act.put, List.getElem_toArray, List.getElem_cons_succ, List.getElem_cons_zero, List.setIfInBounds_toArray, List.set_cons_zero, List.set_cons_succ]
            refine wpAnyH_done (by kernel_rfl) ?_ _
            refine NoPanic.normal ?_
            have PP : Hid (RbP l w (.returned (.tuple #[.slice none 0 0, .int .i64 1])) _) := ⟨J4.out.i.bel, .inr (.inl ⟨LL.out, j, LT.out, J4.out.i.ok, by rw [EV.out]; decide, by rw [EV.out]⟩)⟩
            clear J4 hS
            go_wp2_with fail
            exact bodyPost_ret (v := .tuple #[.slice none 0 0, .int .i64 1]) (by simp [results, Tryz.results5, go_sem]) rfl PP.out
          · have hsx : ¬ xcmp X ≤ 0 := fun h => hx (xcmp_le.1 h)
            generalize xcmp X = sx at *
            refine wpAnyH_take (i := 3) (v := ?v3z17) rfl (by kernel_rfl) (by kernel_rfl) (by kernel_rfl) (fun _ _ _ h => h) (Or.inl ⟨by rfl, ?hy3z17⟩) (by assumption) ?rest3z17
            case hy3z17 =>
              intro w hSw
              dsimp only [S3f] at hSw
              go_simp
              try with_reducible rfl
            simp only [Act.put, List.getElem_toArray, List.getElem_cons_succ, List.getElem_cons_zero, List.setIfInBounds_toArray, List.set_cons_zero, List.set_cons_succ]
            refine wpAnyH_take (i := 4) (v := ?v4z18) rfl (by kernel_rfl) (by kernel_rfl) (by kernel_rfl) (fun _ _ _ h => h) (Or.inl ⟨by rfl, ?hy4z18⟩) (by assumption) ?rest4z18
            case hy4z18 =>
              intro w hSw
              dsimp only [S3f] at hSw
              go_simp
              try with_reducible rfl
            simp only [Act.put, List.getElem_toArray, List.getElem_cons_succ, List.getElem_cons_zero, List.setIfInBounds_toArray, List.set_cons_zero, List.set_cons_succ]
            refine wpAnyH_take (i := 5) (v := ?v5z19) rfl (by kernel_rfl) (by kernel_rfl) (by kernel_rfl) (fun _ _ _ h => h) (Or.inl ⟨by rfl, ?hy5z19⟩) (by assumption) ?rest5z19
            case hy5z19 =>
              intro w hSw
              dsimp only [S3f] at hSw
              go_simp
              try with_reducible rfl
            simp only [Act.put, List.getElem_toArray, List.getElem_cons_succ, List.getElem_cons_zero, List.setIfInBounds_toArray, List.set_cons_zero, List.set_cons_succ]
            refine wpAnyH_ready (rs := [6]) (by kernel_rfl) (by simp) ?_
            refine AllReadyH.cons rfl (fun K hK => ?_) AllReadyH.nil
            go_simp
            (refine (whole_pos 1 _ (by decide)).mono ?_)
            rintro e VJ5 ⟨qa, qk, qc, pa, pk_, pc, rfl, zq1, zq2, bc⟩
            try go_simp
            have J5 := Lib.hid (J4.out.keep bc)
            have QN : Hid (Fn VJ5 ⟨false, qa, qk, qc, pa, pk_, pc⟩ 1 1) := Nt_one zq1 zq2 (by decide)
            clear zq1 zq2
            have hT := J5.out.s3
            refine hK.out _ _ hT (fun _ => ?_)
            clear hK K hS bc J4
            have hS := hT
            clear hT
            try simp only [Act.put, List.setIfInBounds_toArray, List.set_cons_zero, List.set_cons_succ]
            refine wpAnyH_ready (rs := [7]) (by kernel_rfl) (by simp) ?_
            refine AllReadyH.cons rfl (fun K hK => ?_) AllReadyH.nil
            go_simp
            (refine (HO1.out _ ⟨false, qa, qk, qc, pa, pk_, pc⟩ rfl QN.out J5.out.f).mono ?_)
            rintro e VJ6 ⟨rfl, bc⟩
            try go_simp
            have J6 := Lib.hid (J5.out.keep bc)
            clear QN HO1
            have hT := J6.out.s3
            refine hK.out _ _ hT (fun _ => ?_)
            clear hK K hS bc J5
            have hS := hT
            clear hT
            try simp only [Act.put, List.setIfInBounds_toArray, List.set_cons_zero, List.set_cons_succ]
            by_cases hgt : Y < X
            · have hc : 0 < xcmp (X - Y) := xcmp_gt.2 (by omega)
              have EV : Hid (bsE (pk l j) = 1) := bsE_one HFL.out RR.out (.inr hgt)
              generalize xcmp (X - Y) = sy at *
              refine wpAnyH_take (i := 8) (v := ?v8z20) rfl (by kernel_rfl) (by kernel_rfl) (by kernel_rfl) (fun _ _ _ h => h) (Or.inl ⟨by rfl, ?hy8z20⟩) (by assumption) ?rest8z20
              case hy8z20 =>
                intro w hSw
                dsimp only [S3f] at hSw
                go_simp
                try with_reducible rfl
              simp only [Act.put, List.getElem_toArray, List.getElem_cons_succ, List.getElem_cons_zero, List.setIfInBounds_toArray, List.set_cons_zero, List.set_cons_succ]
              refine wpAnyH_take (i := 9) (v := ?v9z21) rfl (by kernel_rfl) (by kernel_rfl) (by kernel_rfl) (fun _ _ _ h => h) (Or.inl ⟨by rfl, ?hy9z21⟩) (by assumption) ?rest9z21
              case hy9z21 =>
                intro w hSw
                dsimp only [S3f] at hSw
                go_simp
                try with_reducible rfl
              simp only [Act.put, List.getElem_toArray, List.getElem_cons_succ, List.getElem_cons_zero, List.setIfInBounds_toArray, List.set_cons_zero, List.set_cons_succ]
              refine wpAnyH_done (by kernel_rfl) ?_ _
              refine NoPanic.normal ?_
              have PP : Hid (RbP l w (.returned (.tuple #[.slice none 0 0, .int .i64 1])) _) := ⟨J6.out.i.bel, .inr (.inl ⟨LL.out, j, LT.out, J6.out.i.ok, by rw [EV.out]; decide, by rw [EV.out]⟩)⟩
              clear J6 hS
              go_wp2_with fail
              exact bodyPost_ret (v := .tuple #[.slice none 0 0, .int .i64 1]) (by simp [results, Tryz.results5, go_sem]) rfl PP.out
            · have hc : ¬ 0 < xcmp (X - Y) := fun h => hgt (by have := xcmp_gt.1 h; omega)
              have hcd : decide (0 < xcmp (X - Y)) = false := decide_eq_false hc
              have EV : Hid (bsE (pk l j) = 0) := bsE_ok HFL.out RR.out (by omega)
              generalize xcmp (X - Y) = sy at *
              refine wpAnyH_take (i := 8) (v := ?v8z22) rfl (by kernel_rfl) (by kernel_rfl) (by kernel_rfl) (fun _ _ _ h => h) (Or.inl ⟨by rfl, ?hy8z22⟩) (by assumption) ?rest8z22
              case hy8z22 =>
                intro w hSw
                dsimp only [S3f] at hSw
                go_simp
                try with_reducible rfl
              simp only [Act.put, List.getElem_toArray, List.getElem_cons_succ, List.getElem_cons_zero, List.setIfInBounds_toArray, List.set_cons_zero, List.set_cons_succ]
              refine wpAnyH_take (i := 9) (v := ?v9z23) rfl (by kernel_rfl) (by kernel_rfl) (by kernel_rfl) (fun _ _ _ h => h) (Or.inl ⟨by rfl, ?hy9z23⟩) (by assumption) ?rest9z23
              case hy9z23 =>
                intro w hSw
                dsimp only [S3f] at hSw
                go_simp
                try with_reducible rfl
              simp only [Act.put, List.getElem_toArray, List.getElem_cons_succ, List.getElem_cons_zero, List.setIfInBounds_toArray, List.set_cons_zero, List.set_cons_succ]
              refine wpAnyH_done (by kernel_rfl) ?_ _
              refine NoPanic.normal ?_
              clear hS
              generalize VJ6 = W7 at *
              have hfb : fb = false := by rw [FB.out]; exact decide_eq_false (by omega)
              subst hfb
              go_wp2_with fail
              obtain ⟨s, t, flt, hra⟩ : ∃ s t flt, ra Y X = (s, t, flt) := ⟨_, _, _, rfl⟩
              have HRA := Lib.hid hra
              have XP : Hid (0 < X.natAbs) := by unfold Hid; omega
              have XP2 : Hid (0 < X ∧ 0 < X) := ⟨by omega, by omega⟩
              clear hra hc hcd hgt hsx hx
              refine wp_region_noPanic ?_
              refine wp_region_held_drew (S := S3f h ⟨false, fa, fk, fc, fa', fk', fc'⟩) (by kernel_rfl) (J6.out.keep (Below.refl _ _).drew).s3 (fun hS => ?_)
              have R_0 := Lib.hid (J6.out.keep (Below.refl _ _).drew)
              clear J6
              generalize W7.drew = WE at *
              refine wpAnyH_take (i := 1) (v := ?v1z24) rfl (by kernel_rfl) (by kernel_rfl) (by kernel_rfl) (fun _ _ _ h => h) (Or.inl ⟨by rfl, ?hy1z24⟩) (by assumption) ?rest1z24
              case hy1z24 =>
                intro w hSw
                dsimp only [S3f] at hSw
                go_simp
                try with_reducible rfl
              simp only [Act.put, List.getElem_toArray, List.getElem_cons_succ, List.getElem_cons_zero, List.setIfInBounds_toArray, List.set_cons_zero, List.set_cons_succ]
              refine wpAnyH_ready (rs := [0, 7]) (by kernel_rfl) (by simp) ?_
              refine AllReadyH.cons rfl (fun K hK => ?_) (AllReadyH.cons rfl (fun K hK => ?_) AllReadyH.nil)
              · go_simp
                (refine (whole_pos 1 _ (by decide)).mono ?_)
                rintro e Y1z ⟨qa, qk, qc, pa, pk_, pc, rfl, zq1, zq2, bc⟩
                try go_simp
                have R_1 := Lib.hid (R_0.out.keep bc)
                have Q_1 : Hid (Fn Y1z ⟨false, qa, qk, qc, pa, pk_, pc⟩ 1 1) := Nt_one zq1 zq2 (by decide)
                clear zq1 zq2
                have hT := R_1.out.s3
                refine hK.out _ _ hT (fun _ => ?_)
                clear hK K hS bc R_0
                have hS := hT
                clear hT
                try simp only [Act.put, List.setIfInBounds_toArray, List.set_cons_zero, List.set_cons_succ]
                refine wpAnyH_ready (rs := [2, 7]) (by kernel_rfl) (by simp) ?_
                refine AllReadyH.cons rfl (fun K hK => ?_) (AllReadyH.cons rfl (fun K hK => ?_) AllReadyH.nil)
                · go_simp
                  (refine (over_c ⟨false, qa, qk, qc, pa, pk_, pc⟩ ⟨false, fa, fk, fc, fa', fk', fc'⟩ 1 1 X.natAbs Y.natAbs _ Q_1.out R_1.out.f XP.out).mono ?_)
                  rintro e Y2z hfv
                  obtain ⟨sb, n, d, ⟨oa, ok, oc, ob_, ok_, oc_, rfl, on1, on2, bc⟩, od, orr, ob1, ob2⟩ := ovP_of XP2.out.1 YG.out.1 YG.out.2 VP.out.2.2 VP.out.2.1 hfv
                  clear hfv
                  try go_simp
                  have R_2 := Lib.hid (R_1.out.keep bc)
                  have N_2 := Lib.hid on1
                  have M_2 := Lib.hid on2
                  have OX := Lib.hid (And.intro od (And.intro orr (And.intro ob1 ob2)))
                  clear on1 on2 od orr ob1 ob2
                  have hT := R_2.out.s3
                  refine hK.out _ _ hT (fun _ => ?_)
                  clear hK K hS bc R_1 Q_1
                  have hS := hT
                  clear hT
                  try simp only [Act.put, List.setIfInBounds_toArray, List.set_cons_zero, List.set_cons_succ]
                  refine wpAnyH_ready (rs := [3, 7]) (by kernel_rfl) (by simp) ?_
                  refine AllReadyH.cons rfl (fun K hK => ?_) (AllReadyH.cons rfl (fun K hK => ?_) AllReadyH.nil)
                  · go_simp
                    (refine (ratio_c sb oa ob_ oc oc_ ok ok_ n d _ N_2.out M_2.out OX.out.1 OX.out.2.2.1 OX.out.2.2.2 (HE.out _ R_2.out.i.bel)).mono ?_)
                    rintro e Y3z ⟨rfl, bc⟩
                    try go_simp
                    have R_3 := Lib.hid (R_2.out.keep bc)
                    have hT := R_3.out.s3
                    refine hK.out _ _ hT (fun _ => ?_)
                    clear hK K hS bc R_2 N_2 M_2
                    have hS := hT
                    clear hT
                    try simp only [Act.put, List.setIfInBounds_toArray, List.set_cons_zero, List.set_cons_succ]
                    rw [OX.out.2.1, HRA.out]
                    dsimp only
                    clear OX
                    refine wpAnyH_take (i := 4) (v := ?v4z25) rfl (by kernel_rfl) (by kernel_rfl) (by kernel_rfl) (fun _ _ _ h => h) (Or.inl ⟨by rfl, ?hy4z25⟩) (by assumption) ?rest4z25
                    case hy4z25 =>
                      intro w hSw
                      dsimp only [S3f] at hSw
                      go_simp
                      try with_reducible rfl
                    simp only [Act.put, List.getElem_toArray, List.getElem_cons_succ, List.getElem_cons_zero, List.setIfInBounds_toArray, List.set_cons_zero, List.set_cons_succ]
                    refine wpAnyH_take (i := 5) (v := ?v5z26) rfl (by kernel_rfl) (by kernel_rfl) (by kernel_rfl) (fun _ _ _ h => h) (Or.inl ⟨by rfl, ?hy5z26⟩) (by assumption) ?rest5z26
                    case hy5z26 =>
                      intro w hSw
                      dsimp only [S3f] at hSw
                      go_simp
                      try with_reducible rfl
                    simp only [Act.put, List.getElem_toArray, List.getElem_cons_succ, List.getElem_cons_zero, List.setIfInBounds_toArray, List.set_cons_zero, List.set_cons_succ]
                    refine wpAnyH_take (i := 6) (v := ?v6z27) rfl (by kernel_rfl) (by kernel_rfl) (by kernel_rfl) (fun _ _ _ h => h) (Or.inl ⟨by rfl, ?hy6z27⟩) (by assumption) ?rest6z27
                    case hy6z27 =>
                      intro w hSw
                      dsimp only [S3f] at hSw
                      go_simp
                      try with_reducible rfl
                    simp only [Act.put, List.getElem_toArray, List.getElem_cons_succ, List.getElem_cons_zero, List.setIfInBounds_toArray, List.set_cons_zero, List.set_cons_succ]
                    refine wpAnyH_ready (rs := [7]) (by kernel_rfl) (by simp) ?_
                    refine AllReadyH.cons rfl (fun K hK => ?_) AllReadyH.nil
                    go_simp
                    have bc := bel_one Y3z (.cells #[.string ⟨#[]⟩, .string ⟨#[]⟩] 29)
                    have NB : Hid (v.ownBlock ≠ some Y3z.heap.size ∧ Y3z.heap.size ≠ h ∧ w.heap.size ≤ Y3z.heap.size) := ⟨own_ne R_3.out.i.own, by have := R_3.out.b.lt; omega, R_3.out.i.bel.size⟩
                    have D_4 : Hid (B2 (Y3z.alloc (.cells #[.string ⟨#[]⟩, .string ⟨#[]⟩] 29)) Y3z.heap.size (.string ⟨#[]⟩) (.string ⟨#[]⟩)) := B2.made _ _ _ _
                    have R_4 := Lib.hid (R_3.out.keep bc)
                    have hT := R_4.out.s3
                    refine hK.out _ _ hT (fun _ => ?_)
                    clear hK K hS bc R_3
                    try simp only [Act.put, List.setIfInBounds_toArray, List.set_cons_zero, List.set_cons_succ]
                    generalize Y3z.alloc (.cells #[.string ⟨#[]⟩, .string ⟨#[]⟩] 29) = Y4z at *
                    generalize Y3z.heap.size = h2 at *
                    have hS := hT
                    clear hT
                    refine wpAnyH_ready (rs := [8]) (by kernel_rfl) (by simp) ?_
                    refine AllReadyH.cons rfl (fun K hK => ?_) AllReadyH.nil
                    have q0 := D_4.out.c0
                    have q1 := D_4.out.c1
                    have g0 := D_4.out.fr 0
                    have g1 := D_4.out.fr 1
                    go_simp
                    clear q0 q1 g0 g1
                    have hT : S3f h ⟨false, fa, fk, fc, fa', fk', fc'⟩ (two Y4z h2 (.string s) (.string t)) := ⟨(two_cell NB.out.2.1 _ _ 0).trans R_4.out.b.c0, (two_cell NB.out.2.1 _ _ 1).trans R_4.out.b.c1, (two_cell NB.out.2.1 _ _ 2).trans R_4.out.b.c2⟩
                    have I7 : Hid (IR w l j v (two Y4z h2 (.string s) (.string t))) := ⟨R_4.out.i.own.kept (grown_set (grown_set (World.grownBy.refl Y4z (some h2)))) (.inr NB.out.1), below_two R_4.out.i.bel NB.out.2.2 _ _, R_4.out.i.ok⟩
                    have D7 : Hid (B2 (two Y4z h2 (.string s) (.string t)) h2 (.string s) (.string t)) := D_4.out.set _ _
                    clear R_4 D_4 NB
                    unfold two at hT I7 D7
                    refine hK.out _ _ hT (fun _ => ?_)
                    clear hK K hS
                    have hS := hT
                    clear hT
                    try simp only [Act.put, List.setIfInBounds_toArray, List.set_cons_zero, List.set_cons_succ]
                    refine wpAnyH_take (i := 9) (v := ?v9z28) rfl (by kernel_rfl) (by kernel_rfl) (by kernel_rfl) (fun _ _ _ h => h) (Or.inl ⟨by rfl, ?hy9z28⟩) (by assumption) ?rest9z28
                    case hy9z28 =>
                      intro w hSw
                      dsimp only [S3f] at hSw
                      go_simp
                      try with_reducible rfl
                    simp only [Act.put, List.getElem_toArray, List.getElem_cons_succ, List.getElem_cons_zero, List.setIfInBounds_toArray, List.set_cons_zero, List.set_cons_succ]
                    refine wpAnyH_done (by kernel_rfl) ?_ _
                    refine NoPanic.normal ?_
                    clear hS
                    generalize (Y4z.setCell ⟨h2, 0, none⟩ (.string s)).setCell ⟨h2, 1, none⟩ (.string t) = WB at *
                    have p0 := D7.out.c0
                    have p1 := D7.out.c1
                    have h3000 := LL.out
                    go_wp2_with (at_builtin; refine wpList_append_own_at _ rfl _ _ 23 rfl w.heap.size 29 i0 (.agg #[.string ⟨#[]⟩, .string ⟨#[]⟩]) 2 32 Tryz.underlying23 hi0 hz0 hz1 hz2 rfl (by decide) _ _ _ rfl (I7.out.own.alloc _) ⟨WB.heap.size, 0, none⟩ 1 1 [.string s, .string t] rfl rfl (cell_two_new _ _ _ _) (by simp [Value.oneCell']) ?c3 ?c4 ?c5 ?_)
                    case c3 => unfold maxLen; omega
                    case c4 => omega
                    case c5 => have := I7.out.bel.size; simp; omega
                    intro v2 w9 hown hgrow _ _
                    have NX : Hid (IR w l (j + 1) v2 w9) := by
                      have e : bsT (pk l j) = (s, t) := by unfold bsT; rw [RR.out]; show ((ra Y X).1, (ra Y X).2.1) = (s, t); rw [HRA.out]
                      exact I7.out.snoc (s, t) e EV.out _ hown hgrow
                    clear hown hgrow I7 D7 p0 p1
                    go_wp2_with fail
                    exact ⟨⟨j + 1, v2, by omega, rfl, rfl, NX.out⟩, by simp only [go_sem, intOf]; omega⟩
                  · go_simp
                    have bc := bel_one Y2z (.cells #[.string ⟨#[]⟩, .string ⟨#[]⟩] 29)
                    have NB : Hid (v.ownBlock ≠ some Y2z.heap.size ∧ Y2z.heap.size ≠ h ∧ w.heap.size ≤ Y2z.heap.size) := ⟨own_ne R_2.out.i.own, by have := R_2.out.b.lt; omega, R_2.out.i.bel.size⟩
                    have D_3 : Hid (B2 (Y2z.alloc (.cells #[.string ⟨#[]⟩, .string ⟨#[]⟩] 29)) Y2z.heap.size (.string ⟨#[]⟩) (.string ⟨#[]⟩)) := B2.made _ _ _ _
                    have R_3 := Lib.hid (R_2.out.keep bc)
                    have N_3 := Lib.hid (N_2.out.below bc)
                    have M_3 := Lib.hid (M_2.out.below bc)
                    have hT := R_3.out.s3
                    refine hK.out _ _ hT (fun _ => ?_)
                    clear hK K hS bc R_2 N_2 M_2
                    try simp only [Act.put, List.setIfInBounds_toArray, List.set_cons_zero, List.set_cons_succ]
                    generalize Y2z.alloc (.cells #[.string ⟨#[]⟩, .string ⟨#[]⟩] 29) = Y5z at *
                    generalize Y2z.heap.size = h2 at *
                    have hS := hT
                    clear hT
                    refine wpAnyH_ready (rs := [3]) (by kernel_rfl) (by simp) ?_
                    refine AllReadyH.cons rfl (fun K hK => ?_) AllReadyH.nil
                    go_simp
                    (refine (ratio_c sb oa ob_ oc oc_ ok ok_ n d _ N_3.out M_3.out OX.out.1 OX.out.2.2.1 OX.out.2.2.2 (HE.out _ R_3.out.i.bel)).mono ?_)
                    rintro e Y6z ⟨rfl, bc⟩
                    try go_simp
                    have R_4 := Lib.hid (R_3.out.keep bc)
                    have D_4 := Lib.hid (D_3.out.keep bc)
                    have hT := R_4.out.s3
                    refine hK.out _ _ hT (fun _ => ?_)
                    clear hK K hS bc R_3 N_3 M_3 D_3
                    have hS := hT
                    clear hT
                    try simp only [Act.put, List.setIfInBounds_toArray, List.set_cons_zero, List.set_cons_succ]
                    rw [OX.out.2.1, HRA.out]
                    dsimp only
                    clear OX
                    refine wpAnyH_take (i := 4) (v := ?v4z29) rfl (by kernel_rfl) (by kernel_rfl) (by kernel_rfl) (fun _ _ _ h => h) (Or.inl ⟨by rfl, ?hy4z29⟩) (by assumption) ?rest4z29
                    case hy4z29 =>
                      intro w hSw
                      dsimp only [S3f] at hSw
                      go_simp
                      try with_reducible rfl
                    simp only [Act.put, List.getElem_toArray, List.getElem_cons_succ, List.getElem_cons_zero, List.setIfInBounds_toArray, List.set_cons_zero, List.set_cons_succ]
                    refine wpAnyH_take (i := 5) (v := ?v5z30) rfl (by kernel_rfl) (by kernel_rfl) (by kernel_rfl) (fun _ _ _ h => h) (Or.inl ⟨by rfl, ?hy5z30⟩) (by assumption) ?rest5z30
                    case hy5z30 =>
                      intro w hSw
                      dsimp only [S3f] at hSw
                      go_simp
                      try with_reducible rfl
                    simp only [Act.put, List.getElem_toArray, List.getElem_cons_succ, List.getElem_cons_zero, List.setIfInBounds_toArray, List.set_cons_zero, List.set_cons_succ]
                    refine wpAnyH_take (i := 6) (v := ?v6z31) rfl (by kernel_rfl) (by kernel_rfl) (by kernel_rfl) (fun _ _ _ h => h) (Or.inl ⟨by rfl, ?hy6z31⟩) (by assumption) ?rest6z31
                    case hy6z31 =>
                      intro w hSw
                      dsimp only [S3f] at hSw
                      go_simp
                      try with_reducible rfl
                    simp only [Act.put, List.getElem_toArray, List.getElem_cons_succ, List.getElem_cons_zero, List.setIfInBounds_toArray, List.set_cons_zero, List.set_cons_succ]
                    refine wpAnyH_ready (rs := [8]) (by kernel_rfl) (by simp) ?_
                    refine AllReadyH.cons rfl (fun K hK => ?_) AllReadyH.nil
                    have q0 := D_4.out.c0
                    have q1 := D_4.out.c1
                    have g0 := D_4.out.fr 0
                    have g1 := D_4.out.fr 1
                    go_simp
                    clear q0 q1 g0 g1
                    have hT : S3f h ⟨false, fa, fk, fc, fa', fk', fc'⟩ (two Y6z h2 (.string s) (.string t)) := ⟨(two_cell NB.out.2.1 _ _ 0).trans R_4.out.b.c0, (two_cell NB.out.2.1 _ _ 1).trans R_4.out.b.c1, (two_cell NB.out.2.1 _ _ 2).trans R_4.out.b.c2⟩
                    have I7 : Hid (IR w l j v (two Y6z h2 (.string s) (.string t))) := ⟨R_4.out.i.own.kept (grown_set (grown_set (World.grownBy.refl Y6z (some h2)))) (.inr NB.out.1), below_two R_4.out.i.bel NB.out.2.2 _ _, R_4.out.i.ok⟩
                    have D7 : Hid (B2 (two Y6z h2 (.string s) (.string t)) h2 (.string s) (.string t)) := D_4.out.set _ _
                    clear R_4 D_4 NB
                    unfold two at hT I7 D7
                    refine hK.out _ _ hT (fun _ => ?_)
                    clear hK K hS
                    have hS := hT
                    clear hT
                    try simp only [Act.put, List.setIfInBounds_toArray, List.set_cons_zero, List.set_cons_succ]
                    refine wpAnyH_take (i := 9) (v := ?v9z32) rfl (by kernel_rfl) (by kernel_rfl) (by kernel_rfl) (fun _ _ _ h => h) (Or.inl ⟨by rfl, ?hy9z32⟩) (by assumption) ?rest9z32
                    case hy9z32 =>
                      intro w hSw
                      dsimp only [S3f] at hSw
                      go_simp
                      try with_reducible rfl
                    simp only [Act.put, List.getElem_toArray, List.getElem_cons_succ, List.getElem_cons_zero, List.setIfInBounds_toArray, List.set_cons_zero, List.set_cons_succ]
                    refine wpAnyH_done (by kernel_rfl) ?_ _
                    refine NoPanic.normal ?_
                    clear hS
                    generalize (Y6z.setCell ⟨h2, 0, none⟩ (.string s)).setCell ⟨h2, 1, none⟩ (.string t) = WB at *
                    have p0 := D7.out.c0
                    have p1 := D7.out.c1
                    have h3000 := LL.out
                    go_wp2_with (at_builtin; refine wpList_append_own_at _ rfl _ _ 23 rfl w.heap.size 29 i0 (.agg #[.string ⟨#[]⟩, .string ⟨#[]⟩]) 2 32 Tryz.underlying23 hi0 hz0 hz1 hz2 rfl (by decide) _ _ _ rfl (I7.out.own.alloc _) ⟨WB.heap.size, 0, none⟩ 1 1 [.string s, .string t] rfl rfl (cell_two_new _ _ _ _) (by simp [Value.oneCell']) ?c3 ?c4 ?c5 ?_)
                    case c3 => unfold maxLen; omega
                    case c4 => omega
                    case c5 => have := I7.out.bel.size; simp; omega
                    intro v2 w9 hown hgrow _ _
                    have NX : Hid (IR w l (j + 1) v2 w9) := by
                      have e : bsT (pk l j) = (s, t) := by unfold bsT; rw [RR.out]; show ((ra Y X).1, (ra Y X).2.1) = (s, t); rw [HRA.out]
                      exact I7.out.snoc (s, t) e EV.out _ hown hgrow
                    clear hown hgrow I7 D7 p0 p1
                    go_wp2_with fail
                    exact ⟨⟨j + 1, v2, by omega, rfl, rfl, NX.out⟩, by simp only [go_sem, intOf]; omega⟩
                · go_simp
                  have bc := bel_one Y1z (.cells #[.string ⟨#[]⟩, .string ⟨#[]⟩] 29)
                  have NB : Hid (v.ownBlock ≠ some Y1z.heap.size ∧ Y1z.heap.size ≠ h ∧ w.heap.size ≤ Y1z.heap.size) := ⟨own_ne R_1.out.i.own, by have := R_1.out.b.lt; omega, R_1.out.i.bel.size⟩
                  have D_2 : Hid (B2 (Y1z.alloc (.cells #[.string ⟨#[]⟩, .string ⟨#[]⟩] 29)) Y1z.heap.size (.string ⟨#[]⟩) (.string ⟨#[]⟩)) := B2.made _ _ _ _
                  have R_2 := Lib.hid (R_1.out.keep bc)
                  have Q_2 := Lib.hid (Q_1.out.below bc)
                  have hT := R_2.out.s3
                  refine hK.out _ _ hT (fun _ => ?_)
                  clear hK K hS bc R_1 Q_1
                  try simp only [Act.put, List.setIfInBounds_toArray, List.set_cons_zero, List.set_cons_succ]
                  generalize Y1z.alloc (.cells #[.string ⟨#[]⟩, .string ⟨#[]⟩] 29) = Y7z at *
                  generalize Y1z.heap.size = h2 at *
                  have hS := hT
                  clear hT
                  refine wpAnyH_ready (rs := [2]) (by kernel_rfl) (by simp) ?_
                  refine AllReadyH.cons rfl (fun K hK => ?_) AllReadyH.nil
                  go_simp
                  (refine (over_c ⟨false, qa, qk, qc, pa, pk_, pc⟩ ⟨false, fa, fk, fc, fa', fk', fc'⟩ 1 1 X.natAbs Y.natAbs _ Q_2.out R_2.out.f XP.out).mono ?_)
                  rintro e Y8z hfv
                  obtain ⟨sb, n, d, ⟨oa, ok, oc, ob_, ok_, oc_, rfl, on1, on2, bc⟩, od, orr, ob1, ob2⟩ := ovP_of XP2.out.1 YG.out.1 YG.out.2 VP.out.2.2 VP.out.2.1 hfv
                  clear hfv
                  try go_simp
                  have R_3 := Lib.hid (R_2.out.keep bc)
                  have D_3 := Lib.hid (D_2.out.keep bc)
                  have N_3 := Lib.hid on1
                  have M_3 := Lib.hid on2
                  have OX := Lib.hid (And.intro od (And.intro orr (And.intro ob1 ob2)))
                  clear on1 on2 od orr ob1 ob2
                  have hT := R_3.out.s3
                  refine hK.out _ _ hT (fun _ => ?_)
                  clear hK K hS bc R_2 Q_2 D_2
                  have hS := hT
                  clear hT
                  try simp only [Act.put, List.setIfInBounds_toArray, List.set_cons_zero, List.set_cons_succ]
                  refine wpAnyH_ready (rs := [3]) (by kernel_rfl) (by simp) ?_
                  refine AllReadyH.cons rfl (fun K hK => ?_) AllReadyH.nil
                  go_simp
                  (refine (ratio_c sb oa ob_ oc oc_ ok ok_ n d _ N_3.out M_3.out OX.out.1 OX.out.2.2.1 OX.out.2.2.2 (HE.out _ R_3.out.i.bel)).mono ?_)
                  rintro e Y9z ⟨rfl, bc⟩
                  try go_simp
                  have R_4 := Lib.hid (R_3.out.keep bc)
                  have D_4 := Lib.hid (D_3.out.keep bc)
                  have hT := R_4.out.s3
                  refine hK.out _ _ hT (fun _ => ?_)
                  clear hK K hS bc R_3 D_3 N_3 M_3
                  have hS := hT
                  clear hT
                  try simp only [Act.put, List.setIfInBounds_toArray, List.set_cons_zero, List.set_cons_succ]
                  rw [OX.out.2.1, HRA.out]
                  dsimp only
                  clear OX
                  refine wpAnyH_take (i := 4) (v := ?v4z33) rfl (by kernel_rfl) (by kernel_rfl) (by kernel_rfl) (fun _ _ _ h => h) (Or.inl ⟨by rfl, ?hy4z33⟩) (by assumption) ?rest4z33
                  case hy4z33 =>
                    intro w hSw
                    dsimp only [S3f] at hSw
                    go_simp
                    try with_reducible rfl
                  simp only [Act.put, List.getElem_toArray, List.getElem_cons_succ, List.getElem_cons_zero, List.setIfInBounds_toArray, List.set_cons_zero, List.set_cons_succ]
                  refine wpAnyH_take (i := 5) (v := ?v5z34) rfl (by kernel_rfl) (by kernel_rfl) (by kernel_rfl) (fun _ _ _ h => h) (Or.inl ⟨by rfl, ?hy5z34⟩) (by assumption) ?rest5z34
                  case hy5z34 =>
                    intro w hSw
                    dsimp only [S3f] at hSw
                    go_simp
                    try with_reducible rfl
                  simp only [Act.put, List.getElem_toArray, List.getElem_cons_succ, List.getElem_cons_zero, List.setIfInBounds_toArray, List.set_cons_zero, List.set_cons_succ]
                  refine wpAnyH_take (i := 6) (v := ?v6z35) rfl (by kernel_rfl) (by kernel_rfl) (by kernel_rfl) (fun _ _ _ h => h) (Or.inl ⟨by rfl, ?hy6z35⟩) (by assumption) ?rest6z35
                  case hy6z35 =>
                    intro w hSw
                    dsimp only [S3f] at hSw
                    go_simp
                    try with_reducible rfl
                  simp only [Act.put, List.getElem_toArray, List.getElem_cons_succ, List.getElem_cons_zero, List.setIfInBounds_toArray, List.set_cons_zero, List.set_cons_succ]
                  refine wpAnyH_ready (rs := [8]) (by kernel_rfl) (by simp) ?_
                  refine AllReadyH.cons rfl (fun K hK => ?_) AllReadyH.nil
                  have q0 := D_4.out.c0
                  have q1 := D_4.out.c1
                  have g0 := D_4.out.fr 0
                  have g1 := D_4.out.fr 1
                  go_simp
                  clear q0 q1 g0 g1
                  have hT : S3f h ⟨false, fa, fk, fc, fa', fk', fc'⟩ (two Y9z h2 (.string s) (.string t)) := ⟨(two_cell NB.out.2.1 _ _ 0).trans R_4.out.b.c0, (two_cell NB.out.2.1 _ _ 1).trans R_4.out.b.c1, (two_cell NB.out.2.1 _ _ 2).trans R_4.out.b.c2⟩
                  have I7 : Hid (IR w l j v (two Y9z h2 (.string s) (.string t))) := ⟨R_4.out.i.own.kept (grown_set (grown_set (World.grownBy.refl Y9z (some h2)))) (.inr NB.out.1), below_two R_4.out.i.bel NB.out.2.2 _ _, R_4.out.i.ok⟩
                  have D7 : Hid (B2 (two Y9z h2 (.string s) (.string t)) h2 (.string s) (.string t)) := D_4.out.set _ _
                  clear R_4 D_4 NB
                  unfold two at hT I7 D7
                  refine hK.out _ _ hT (fun _ => ?_)
                  clear hK K hS
                  have hS := hT
                  clear hT
                  try simp only [Act.put, List.setIfInBounds_toArray, List.set_cons_zero, List.set_cons_succ]
                  refine wpAnyH_take (i := 9) (v := ?v9z36) rfl (by kernel_rfl) (by kernel_rfl) (by kernel_rfl) (fun _ _ _ h => h) (Or.inl ⟨by rfl, ?hy9z36⟩) (by assumption) ?rest9z36
                  case hy9z36 =>
                    intro w hSw
                    dsimp only [S3f] at hSw
                    go_simp
                    try with_reducible rfl
                  simp only [Act.put, List.getElem_toArray, List.getElem_cons_succ, List.getElem_cons_zero, List.setIfInBounds_toArray, List.set_cons_zero, List.set_cons_succ]
                  refine wpAnyH_done (by kernel_rfl) ?_ _
                  refine NoPanic.normal ?_
                  clear hS
                  generalize (Y9z.setCell ⟨h2, 0, none⟩ (.string s)).setCell ⟨h2, 1, none⟩ (.string t) = WB at *
                  have p0 := D7.out.c0
                  have p1 := D7.out.c1
                  have h3000 := LL.out
                  go_wp2_with (at_builtin; refine wpList_append_own_at _ rfl _ _ 23 rfl w.heap.size 29 i0 (.agg #[.string ⟨#[]⟩, .string ⟨#[]⟩]) 2 32 Tryz.underlying23 hi0 hz0 hz1 hz2 rfl (by decide) _ _ _ rfl (I7.out.own.alloc _) ⟨WB.heap.size, 0, none⟩ 1 1 [.string s, .string t] rfl rfl (cell_two_new _ _ _ _) (by simp [Value.oneCell']) ?c3 ?c4 ?c5 ?_)
                  case c3 => unfold maxLen; omega
                  case c4 => omega
                  case c5 => have := I7.out.bel.size; simp; omega
                  intro v2 w9 hown hgrow _ _
                  have NX : Hid (IR w l (j + 1) v2 w9) := by
                    have e : bsT (pk l j) = (s, t) := by unfold bsT; rw [RR.out]; show ((ra Y X).1, (ra Y X).2.1) = (s, t); rw [HRA.out]
                    exact I7.out.snoc (s, t) e EV.out _ hown hgrow
                  clear hown hgrow I7 D7 p0 p1
                  go_wp2_with fail
                  exact ⟨⟨j + 1, v2, by omega, rfl, rfl, NX.out⟩, by simp only [go_sem, intOf]; omega⟩
              · go_simp
                have bc := bel_one WE (.cells #[.string ⟨#[]⟩, .string ⟨#[]⟩] 29)
                have NB : Hid (v.ownBlock ≠ some WE.heap.size ∧ WE.heap.size ≠ h ∧ w.heap.size ≤ WE.heap.size) := ⟨own_ne R_0.out.i.own, by have := R_0.out.b.lt; omega, R_0.out.i.bel.size⟩
                have D_1 : Hid (B2 (WE.alloc (.cells #[.string ⟨#[]⟩, .string ⟨#[]⟩] 29)) WE.heap.size (.string ⟨#[]⟩) (.string ⟨#[]⟩)) := B2.made _ _ _ _
                have R_1 := Lib.hid (R_0.out.keep bc)
                have hT := R_1.out.s3
                refine hK.out _ _ hT (fun _ => ?_)
                clear hK K hS bc R_0
                try simp only [Act.put, List.setIfInBounds_toArray, List.set_cons_zero, List.set_cons_succ]
                generalize WE.alloc (.cells #[.string ⟨#[]⟩, .string ⟨#[]⟩] 29) = Y10z at *
                generalize WE.heap.size = h2 at *
                have hS := hT
                clear hT
                refine wpAnyH_ready (rs := [0]) (by kernel_rfl) (by simp) ?_
                refine AllReadyH.cons rfl (fun K hK => ?_) AllReadyH.nil
                go_simp
                (refine (whole_pos 1 _ (by decide)).mono ?_)
                rintro e Y11z ⟨qa, qk, qc, pa, pk_, pc, rfl, zq1, zq2, bc⟩
                try go_simp
                have R_2 := Lib.hid (R_1.out.keep bc)
                have D_2 := Lib.hid (D_1.out.keep bc)
                have Q_2 : Hid (Fn Y11z ⟨false, qa, qk, qc, pa, pk_, pc⟩ 1 1) := Nt_one zq1 zq2 (by decide)
                clear zq1 zq2
                have hT := R_2.out.s3
                refine hK.out _ _ hT (fun _ => ?_)
                clear hK K hS bc R_1 D_1
                have hS := hT
                clear hT
                try simp only [Act.put, List.setIfInBounds_toArray, List.set_cons_zero, List.set_cons_succ]
                refine wpAnyH_ready (rs := [2]) (by kernel_rfl) (by simp) ?_
                refine AllReadyH.cons rfl (fun K hK => ?_) AllReadyH.nil
                go_simp
                (refine (over_c ⟨false, qa, qk, qc, pa, pk_, pc⟩ ⟨false, fa, fk, fc, fa', fk', fc'⟩ 1 1 X.natAbs Y.natAbs _ Q_2.out R_2.out.f XP.out).mono ?_)
                rintro e Y12z hfv
                obtain ⟨sb, n, d, ⟨oa, ok, oc, ob_, ok_, oc_, rfl, on1, on2, bc⟩, od, orr, ob1, ob2⟩ := ovP_of XP2.out.1 YG.out.1 YG.out.2 VP.out.2.2 VP.out.2.1 hfv
                clear hfv
                try go_simp
                have R_3 := Lib.hid (R_2.out.keep bc)
                have D_3 := Lib.hid (D_2.out.keep bc)
                have N_3 := Lib.hid on1
                have M_3 := Lib.hid on2
                have OX := Lib.hid (And.intro od (And.intro orr (And.intro ob1 ob2)))
                clear on1 on2 od orr ob1 ob2
                have hT := R_3.out.s3
                refine hK.out _ _ hT (fun _ => ?_)
                clear hK K hS bc R_2 D_2 Q_2
                have hS := hT
                clear hT
                try simp only [Act.put, List.setIfInBounds_toArray, List.set_cons_zero, List.set_cons_succ]
                refine wpAnyH_ready (rs := [3]) (by kernel_rfl) (by simp) ?_
                refine AllReadyH.cons rfl (fun K hK => ?_) AllReadyH.nil
                go_simp
                (refine (ratio_c sb oa ob_ oc oc_ ok ok_ n d _ N_3.out M_3.out OX.out.1 OX.out.2.2.1 OX.out.2.2.2 (HE.out _ R_3.out.i.bel)).mono ?_)
                rintro e Y13z ⟨rfl, bc⟩
                try go_simp
                have R_4 := Lib.hid (R_3.out.keep bc)
                have D_4 := Lib.hid (D_3.out.keep bc)
                have hT := R_4.out.s3
                refine hK.out _ _ hT (fun _ => ?_)
                clear hK K hS bc R_3 D_3 N_3 M_3
                have hS := hT
                clear hT
                try simp only [Act.put, List.setIfInBounds_toArray, List.set_cons_zero, List.set_cons_succ]
                rw [OX.out.2.1, HRA.out]
                dsimp only
                clear OX
                refine wpAnyH_take (i := 4) (v := ?v4z37) rfl (by kernel_rfl) (by kernel_rfl) (by kernel_rfl) (fun _ _ _ h => h) (Or.inl ⟨by rfl, ?hy4z37⟩) (by assumption) ?rest4z37
                case hy4z37 =>
                  intro w hSw
                  dsimp only [S3f] at hSw
                  go_simp
                  try with_reducible rfl
                simp only [Act.put, List.getElem_toArray, List.getElem_cons_succ, List.getElem_cons_zero, List.setIfInBounds_toArray, List.set_cons_zero, List.set_cons_succ]
                refine wpAnyH_take (i := 5) (v := ?v5z38) rfl (by kernel_rfl) (by kernel_rfl) (by kernel_rfl) (fun _ _ _ h => h) (Or.inl ⟨by rfl, ?hy5z38⟩) (by assumption) ?rest5z38
                case hy5z38 =>
                  intro w hSw
                  dsimp only [S3f] at hSw
                  go_simp
                  try with_reducible rfl
                simp only [Act.put, List.getElem_toArray, List.getElem_cons_succ, List.getElem_cons_zero, List.setIfInBounds_toArray, List.set_cons_zero, List.set_cons_succ]
                refine wpAnyH_take (i := 6) (v := ?v6z39) rfl (by kernel_rfl) (by kernel_rfl) (by kernel_rfl) (fun _ _ _ h => h) (Or.inl ⟨by rfl, ?hy6z39⟩) (by assumption) ?rest6z39
                case hy6z39 =>
                  intro w hSw
                  dsimp only [S3f] at hSw
                  go_simp
                  try with_reducible rfl
                simp only [Act.put, List.getElem_toArray, List.getElem_cons_succ, List.getElem_cons_zero, List.setIfInBounds_toArray, List.set_cons_zero, List.set_cons_succ]
                refine wpAnyH_ready (rs := [8]) (by kernel_rfl) (by simp) ?_
                refine AllReadyH.cons rfl (fun K hK => ?_) AllReadyH.nil
                have q0 := D_4.out.c0
                have q1 := D_4.out.c1
                have g0 := D_4.out.fr 0
                have g1 := D_4.out.fr 1
                go_simp
                clear q0 q1 g0 g1
                have hT : S3f h ⟨false, fa, fk, fc, fa', fk', fc'⟩ (two Y13z h2 (.string s) (.string t)) := ⟨(two_cell NB.out.2.1 _ _ 0).trans R_4.out.b.c0, (two_cell NB.out.2.1 _ _ 1).trans R_4.out.b.c1, (two_cell NB.out.2.1 _ _ 2).trans R_4.out.b.c2⟩
                have I7 : Hid (IR w l j v (two Y13z h2 (.string s) (.string t))) := ⟨R_4.out.i.own.kept (grown_set (grown_set (World.grownBy.refl Y13z (some h2)))) (.inr NB.out.1), below_two R_4.out.i.bel NB.out.2.2 _ _, R_4.out.i.ok⟩
                have D7 : Hid (B2 (two Y13z h2 (.string s) (.string t)) h2 (.string s) (.string t)) := D_4.out.set _ _
                clear R_4 D_4 NB
                unfold two at hT I7 D7
                refine hK.out _ _ hT (fun _ => ?_)
                clear hK K hS
                have hS := hT
                clear hT
                try simp only [Act.put, List.setIfInBounds_toArray, List.set_cons_zero, List.set_cons_succ]
                refine wpAnyH_take (i := 9) (v := ?v9z40) rfl (by kernel_rfl) (by kernel_rfl) (by kernel_rfl) (fun _ _ _ h => h) (Or.inl ⟨by rfl, ?hy9z40⟩) (by assumption) ?rest9z40
                case hy9z40 =>
                  intro w hSw
                  dsimp only [S3f] at hSw
                  go_simp
                  try with_reducible rfl
                simp only [Act.put, List.getElem_toArray, List.getElem_cons_succ, List.getElem_cons_zero, List.setIfInBounds_toArray, List.set_cons_zero, List.set_cons_succ]
                refine wpAnyH_done (by kernel_rfl) ?_ _
                refine NoPanic.normal ?_
                clear hS
                generalize (Y13z.setCell ⟨h2, 0, none⟩ (.string s)).setCell ⟨h2, 1, none⟩ (.string t) = WB at *
                have p0 := D7.out.c0
                have p1 := D7.out.c1
                have h3000 := LL.out
                go_wp2_with (at_builtin; refine wpList_append_own_at _ rfl _ _ 23 rfl w.heap.size 29 i0 (.agg #[.string ⟨#[]⟩, .string ⟨#[]⟩]) 2 32 Tryz.underlying23 hi0 hz0 hz1 hz2 rfl (by decide) _ _ _ rfl (I7.out.own.alloc _) ⟨WB.heap.size, 0, none⟩ 1 1 [.string s, .string t] rfl rfl (cell_two_new _ _ _ _) (by simp [Value.oneCell']) ?c3 ?c4 ?c5 ?_)
                case c3 => unfold maxLen; omega
                case c4 => omega
                case c5 => have := I7.out.bel.size; simp; omega
                intro v2 w9 hown hgrow _ _
                have NX : Hid (IR w l (j + 1) v2 w9) := by
                  have e : bsT (pk l j) = (s, t) := by unfold bsT; rw [RR.out]; show ((ra Y X).1, (ra Y X).2.1) = (s, t); rw [HRA.out]
                  exact I7.out.snoc (s, t) e EV.out _ hown hgrow
                clear hown hgrow I7 D7 p0 p1
                go_wp2_with fail
                exact ⟨⟨j + 1, v2, by omega, rfl, rfl, NX.out⟩, by simp only [go_sem, intOf]; omega⟩
        · have hne : (flt == 0) = false := by rw [beq_eq_false_iff_ne]; exact hz
          have hne2 : (flt != 0) = true := by simp [hz]
          have EV : Hid (bsE (pk l j) = flt) := by unfold Hid; rw [bsE_sh (by rw [HFL.out]; exact hz), HFL.out]
          have PP : Hid (RbP l w (.returned (.tuple #[.slice none 0 0, .int .i64 flt])) w3) := ⟨I3.out.bel, .inr (.inl ⟨LL.out, j, LT.out, I3.out.ok, by rw [EV.out]; exact hz, by rw [EV.out]⟩)⟩
          clear hz HFL I3 x0 x1 x2
          go_wp2_with fail
          exact bodyPost_ret (v := .tuple #[.slice none 0 0, .int .i64 flt]) (by simp [results, Tryz.results5, go_sem]) rfl PP.out
      · have hlt' : ¬ (j : Int) < (l.length : Int) := by omega
        have ej : j = l.length := by omega
        subst ej
        have own := hI.out.own
        have hcl : (bsL l l.length).length = l.length := bsL_len l _
        have own2 : wr.ownsRow w.heap.size 29 2 v (bsL l l.length).length (rrow (bsL l l.length)) := by rw [hcl]; exact own
        obtain ⟨a', c', hv, hrd⟩ := rd_R own2 (by rw [hcl]; have := LL.out; omega)
        rw [hcl] at hv
        subst hv
        have PP : Hid (RbP l w (.returned (.tuple #[.slice a' l.length c', .int .i64 0])) wr) := ⟨hI.out.bel, .inr (.inr ⟨LL.out, hI.out.ok, a', c', rfl, hrd⟩)⟩
        clear own own2 hrd hI
        go_wp2_with fail
        exact bodyPost_ret (v := .tuple #[.slice a' l.length c', .int .i64 0]) (by simp [results, Tryz.results5, go_sem]) rfl PP.out
end Go.Proofs.YtchdfekajjeflaaGreatDoor
namespace Go.Proofs.YtchdfekajjeflaaGreatDoor

theorem zread_short {l : List UInt8} {z : Int} (h : zread l = some z) (hl : (Lib.trimPrefix l [45]).length ≤ 12) : (Lib.decDigits z.natAbs).length ≤ 12 := by
  unfold zread at h
  generalize Lib.trimPrefix l [45] = ds at *
  dsimp only at h
  by_cases hc : ds = [] ∨ (ds.head? = some 48 ∧ (decide (ds.length < l.length) = true ∨ 1 < ds.length)) ∨ digs ds = false
  · rw [if_pos hc] at h; cases h
  · rw [if_neg hc] at h
    have hd : digs ds = true := by
      cases hx : digs ds with
      | true => rfl
      | false => exact absurd (.inr (.inr hx)) hc
    have hv : z.natAbs = val ds := by
      injection h with h
      rw [← h]
      split
      · rw [Int.natAbs_neg, Int.natAbs_natCast]
      · rw [Int.natAbs_natCast]
    rw [hv]
    exact dec_len 12 _ (by decide) (Nat.lt_of_lt_of_le (val_lt hd) (Nat.pow_le_pow_right (by decide) hl))
theorem short_fits {p : Pk} (h : bsE p = 0) : (ra (yv p) (xv p)).2.2 = 0 := by
  obtain ⟨⟨x, y⟩, hq⟩ := bsE_some h
  have hx : xv p = x := by unfold xv; rw [hq]; rfl
  have hy : yv p = y := by unfold yv; rw [hq]; rfl
  have hs : shS p.s.data.toList p.t.data.toList = 0 := by
    unfold bsE at h
    by_cases h1 : shS p.s.data.toList p.t.data.toList ≠ 0
    · rw [if_pos h1] at h; exact h
    · simpa using h1
  have hlen : (Lib.trimPrefix p.s.data.toList [45]).length ≤ 12 ∧ p.t.data.toList.length ≤ 12 := by
    unfold shS at hs
    by_cases h3 : ck p.s.data.toList p.t.data.toList ≠ 0
    · rw [if_pos h3] at hs; exact absurd hs h3
    · rw [if_neg h3] at hs
      by_cases h4 : 12 < (Lib.trimPrefix p.s.data.toList [45]).length ∨ 12 < p.t.data.toList.length
      · rw [if_pos h4] at hs; cases hs
      · omega
  have hz : zread p.s.data.toList = some x ∧ zread p.t.data.toList = some y := by
    unfold rread at hq
    by_cases hl : large p.s.data.toList p.t.data.toList = true
    · rw [if_pos hl] at hq; cases hq
    · rw [if_neg hl] at hq
      cases h1 : zread p.s.data.toList with
      | none => rw [h1] at hq; cases hq
      | some a =>
        cases h2 : zread p.t.data.toList with
        | none => rw [h1, h2] at hq; cases hq
        | some b =>
          rw [h1, h2] at hq
          by_cases h3 : 0 < b ∧ Int.gcd a b = 1
          · simp only [if_pos h3] at hq
            injection hq with e
            injection e with e1 e2
            subst e1; subst e2
            exact ⟨rfl, rfl⟩
          · simp only [if_neg h3] at hq
            cases hq
  have lx := zread_short hz.1 hlen.1
  have ly := zread_short hz.2 (Nat.le_trans (trim_len _ _) hlen.2)
  rw [hx, hy]
  unfold ra fits
  rw [if_pos (by simp only [Bool.and_eq_true, decide_eq_true_eq]; omega)]
end Go.Proofs.YtchdfekajjeflaaGreatDoor
namespace Go.Proofs.YtchdfekajjeflaaGreatDoor
open Go.RowKit

set_option maxHeartbeats 1000000 in
theorem eqR_c (a1 a2 : Option Addr) (c1 c2 : Nat) (C : List Rr) (w : World) (h1 : RdR w a1 C) (h2 : RdR w a2 C) :
    Calls Tryz.prog 6 #[.slice a1 C.length c1, .slice a2 C.length c2] w fun e w' => e = .returned (.bool true) ∧ Below w.heap.size w w' := by
  have H1 := Lib.hid h1
  have H2 := Lib.hid h2
  have h9 := h1.1
  clear h1 h2
  go_enter Tryz.func6, Tryz.ntmps6
  go_wp2
  go_loopw [5, 13] (fun _ i wr => ∃ k : Nat, k ≤ C.length ∧ i = .int .i64 k ∧ Hid (Below w.heap.size w wr)) (fun _ i _ => C.length - (intOf i).toNat)
  case atStart => exact ⟨0, Nat.zero_le _, rfl, Below.refl _ _⟩
  case round =>
    obtain ⟨k, hk, rfl, hR⟩ := hrel
    by_cases hlt : k < C.length
    · have hlt' : (k : Int) < (C.length : Int) := by omega
      obtain ⟨b1, o1, rfl, _, p⟩ := (H1.out.below hR.out).2 (by omega)
      obtain ⟨b2, o2, rfl, _, q⟩ := (H2.out.below hR.out).2 (by omega)
      obtain ⟨p0, p1⟩ := p k hlt
      obtain ⟨q0, q1⟩ := q k hlt
      generalize (rr C k).1 = x0 at *
      generalize (rr C k).2 = x1 at *
      clear p q
      go_wp2_with fail
      go_quiet (fail)
      have NX : Hid (Below w.heap.size w (wr.drewN nq)) := hR.out.trans ((bel_drewN _ _).mono hR.out.size)
      clear p0 p1 q0 q1
      go_wp2
      go_roundw
      case rel => exact ⟨k + 1, by omega, by go_num, NX.out⟩
      case measure => simp [intOf]; omega
    · obtain rfl : k = C.length := by omega
      go_wp2
      go_ret
      exact ⟨rfl, hR.out⟩
theorem Br.rd {W : World} {g : Nat} {l : List Pk} (h : Br W g l.length (fun i => bsT (pk l i))) (hn : l.length ≤ 3000) : RdR W (some ⟨g, 0, none⟩) (bsL l l.length) := by
  refine ⟨by rw [bsL_len]; omega, fun _ => ⟨g, 0, rfl, h.1, fun j hj => ?_⟩⟩
  rw [bsL_len] at hj
  have e : rr (bsL l l.length) j = bsT (pk l j) := by unfold rr bsL; simp [List.getD, hj]
  rw [e, Nat.zero_add]
  exact h.2.2 j hj
/-- Both answers. -/
theorem both_bases {l : List Pk} {w w1 w2 w3 : World} {e1 e2 : Ending} (h1 : BsP l w e1 w1) (h2 : RbP l w2 e2 w3) :
    (∃ flt, flt ≠ 0 ∧ e1 = .returned (.tuple #[.slice none 0 0, .int .i64 flt]) ∧ e2 = .returned (.tuple #[.slice none 0 0, .int .i64 flt])) ∨
    (∃ g a c, e1 = .returned (.tuple #[.slice (some ⟨g, 0, none⟩) l.length l.length, .int .i64 0]) ∧ e2 = .returned (.tuple #[.slice a l.length c, .int .i64 0]) ∧
      RdR w1 (some ⟨g, 0, none⟩) (bsL l l.length) ∧ RdR w3 a (bsL l l.length)) := by
  obtain ⟨_, h1⟩ := h1
  obtain ⟨_, h2⟩ := h2
  rcases h1 with ⟨u, rfl⟩ | ⟨u, j, hj, hb, hn, rfl⟩ | ⟨u, ha, hr⟩
  · rcases h2 with ⟨_, rfl⟩ | ⟨u2, _⟩ | ⟨u2, _⟩
    · exact .inl ⟨2, by decide, rfl, rfl⟩
    · omega
    · omega
  · rcases h2 with ⟨u2, _⟩ | ⟨_, j2, hj2, hb2, hn2, rfl⟩ | ⟨_, ha2, _⟩
    · omega
    · have e : j = j2 := by
        rcases Nat.lt_trichotomy j j2 with h | h | h
        · exact absurd (hb2 j h) hn
        · exact h
        · exact absurd (hb j2 h) hn2
      subst e
      exact .inl ⟨_, hn, rfl, rfl⟩
    · exact absurd (ha2 j hj) hn
  · rcases hr with ⟨g, rfl, hbr⟩ | ⟨rfl, j, hj, hx⟩
    · rcases h2 with ⟨u2, _⟩ | ⟨_, j2, hj2, hb2, hn2, _⟩ | ⟨_, _, a, c, rfl, hrd⟩
      · omega
      · exact absurd (ha j2 hj2) hn2
      · exact .inr ⟨g, a, c, rfl, rfl, hbr.rd u, hrd⟩
    · have := short_fits (ha j hj)
      rw [this] at hx
      cases hx
set_option maxRecDepth 100000 in
set_option maxHeartbeats 4000000 in
theorem law_bases (a : Option Addr) (c : Nat) (l : List Pk) (w : World) (h : RdP w a l) (hE : Pow w) :
    Calls Tryz.prog 3 #[.slice a l.length c] w fun e w' => e = .returned (.bool true) ∧ Below w.heap.size w w' := by
  have H1 := Lib.hid (Bases_c a c l w h)
  have H2 := Lib.hid (fun W (hb : Below w.heap.size w W) => rBases_c a c l W (h.below hb) (hE.below hb))
  clear h hE
  go_enter Tryz.func3, Tryz.ntmps3
  go_wp2_with fail
  refine H1.out.mono ?_
  rintro e1 w1 hp1
  have B1 := Lib.hid hp1.1
  have P1 := Lib.hid hp1
  have T1 : ∃ v1 f1, e1 = .returned (.tuple #[v1, .int .i64 f1]) := by
    rcases hp1.2 with ⟨_, rfl⟩ | ⟨_, _, _, _, _, rfl⟩ | ⟨_, _, ⟨_, rfl, _⟩ | ⟨rfl, _⟩⟩ <;> exact ⟨_, _, rfl⟩
  obtain ⟨v1, f1, rfl⟩ := T1
  clear hp1 H1
  go_wp2_with fail
  refine (H2.out _ B1.out).mono ?_
  rintro e2 w2 hp2
  have B2 := Lib.hid (B1.out.trans (hp2.1.mono B1.out.size))
  have b2 := hp2.1
  rcases both_bases P1.out hp2 with ⟨flt, hf, q1, rfl⟩ | ⟨g, a', c', q1, rfl, r1, r2⟩
  · injection q1 with q1
    injection q1 with q1
    injection q1 with q1
    injection q1 with qa qb
    injection qb with qb _
    injection qb with _ qb
    subst qa
    subst qb
    have hne : (f1 == f1) = true := by simp
    have E := Lib.hid (eqR_c none none 0 0 [] w2 ⟨by simp, fun h => by simp at h⟩ ⟨by simp, fun h => by simp at h⟩)
    clear P1 H2 hp2 b2
    go_wp2_with fail
    refine E.out.mono ?_
    rintro e w4 ⟨rfl, b4⟩
    have B4 := Lib.hid (B2.out.trans (b4.mono B2.out.size))
    clear b4 E
    go_wp2_with fail
    go_ret
    exact ⟨rfl, B4.out⟩
  · injection q1 with q1
    injection q1 with q1
    injection q1 with q1
    injection q1 with qa qb
    injection qb with qb _
    injection qb with _ qb
    subst qa
    subst qb
    have hlen := bsL_len l l.length
    have E := eqR_c (some ⟨g, 0, none⟩) a' l.length c' (bsL l l.length) w2 (r1.below b2) r2
    rw [hlen] at E
    have E := Lib.hid E
    clear P1 H2 hp2 b2 r1 r2 hlen
    go_wp2_with fail
    refine E.out.mono ?_
    rintro e w4 ⟨rfl, b4⟩
    have B4 := Lib.hid (B2.out.trans (b4.mono B2.out.size))
    clear b4 E
    go_wp2_with fail
    go_ret
    exact ⟨rfl, B4.out⟩
end Go.Proofs.YtchdfekajjeflaaGreatDoor
namespace Go.Proofs.YtchdfekajjeflaaGreatDoor
open Go.ChangeShapes Go.WideShapes Go.ChangeAt Go.RowKit Go.Joins

theorem laidOut : laidOutB Tryz.prog = true := by kernel_rfl
theorem own : ownKnob Tryz.prog.godebug = none := by kernel_rfl
theorem block_lt {W : World} {b o : Nat} {v : Value} (h : W.cell? ⟨b, o, none⟩ = some v) : b < W.heap.size := by
  rcases Nat.lt_or_ge b W.heap.size with l | l
  · exact l
  · simp [World.cell?, Array.getElem?_eq_none l] at h
theorem add_none (b off i : Nat) : (Addr.mk b off none).add i = ⟨b, off + i, none⟩ := by
  unfold Addr.add
  split
  · rename_i h; subst h; simp
  · rfl
theorem cellsI : Tryz.prog.cellsOf 3 = 1 := by kernel_rfl
theorem cellsTx : Tryz.prog.cellsOf 9 = 1 := by kernel_rfl
theorem cellsPk : Tryz.prog.cellsOf 33 = 3 := by kernel_rfl
theorem cellsRa : Tryz.prog.cellsOf 29 = 2 := by kernel_rfl
section
variable {H : Type} {enc : TypeId × Value → H} {W : World}
theorem bulk_all_cons {d : DataW H} {r : List (DataW H)} : Rows.uptoBulkAll (d :: r) = Rows.uptoBulk d + Rows.uptoBulkAll r := by simp only [Rows.uptoBulkAll]
/-- A slice, opened element by element. -/
theorem open_row {α : Type} {tS tE : TypeId} {m : Nat} (hS : Tryz.prog.underlying tS = some (.slice tE)) (hm : Tryz.prog.cellsOf tE = m) (h0 : 0 < m) (El : α → List Value → Prop) (size : α → Nat)
    (hEl : ∀ fuel cs y, DataW.trod enc Tryz.prog W 0 (fun _ => true) true fuel tE cs = some y → ∃ c, El c cs ∧ size c ≤ Rows.uptoBulk y.1)
    {fuel : Nat} {cs : List Value} {x : DataW H × List MemPlace} (h : DataW.trod enc Tryz.prog W 0 (fun _ => true) true fuel tS cs = some x) :
    ∃ (l : List α) (a : Option Addr) (cap : Nat), cs = [.slice a l.length cap] ∧ (l = [] ∨ ∃ b off, a = some ⟨b, off, none⟩ ∧ b < W.heap.size ∧ (l.length ≤ cap ∧ cap ≤ 9223372036854775807) ∧
      ∀ (j : Nat) (c : α), l[j]? = some c → ∃ cs', El c cs' ∧ ∀ i, i < m → W.cell? ⟨b, off + j * m + i, none⟩ = cs'[i]?) ∧ (l.map size).sum + 1 ≤ Rows.uptoBulk x.1 ∧ l.length + 1 ≤ Rows.uptoBulk x.1 := by
  have pos : ∀ d : DataW H, 1 ≤ Rows.uptoBulk d := fun d => by
    cases d with
    | lit v => cases v <;> simp only [Rows.uptoBulk] <;> omega
    | _ => simp only [Rows.uptoBulk]; omega
  rcases DataW.trod_slice hS h with ⟨e7, e8⟩ | ⟨a, len, cap, elems, rest, n, hn, e7, e8, _, hlc, hcm, hel, hat, _, _⟩
  · exact ⟨[], none, 0, e7, .inl rfl, by rw [e8]; simp [Rows.uptoBulk], by rw [e8]; simp [Rows.uptoBulk]⟩
  · have hel1 : Rows.uptoBulkAll (elems.map (·.1)) + 1 ≤ Rows.uptoBulk x.1 := by
      rw [e8]; simp only [Rows.uptoBulk]; omega
    unfold maxLen at hcm
    by_cases hl0 : len = 0
    · subst hl0
      exact ⟨[], some a, cap, e7, .inl rfl, by simp; omega, by simp; omega⟩
    rw [hm] at hat
    have each : ∀ i, i < len → ∃ cs' y, elems[i]? = some y ∧ W.cells? 0 (a.add (i * m)) m = some cs' ∧ DataW.trod enc Tryz.prog W 0 (fun _ => true) true n tE cs' = some y := by
      intro i hi
      have h5 := hat i hi
      have h6 : elems[i]? = some (elems[i]'(by omega)) := List.getElem?_eq_getElem (by omega)
      rw [h6] at h5
      obtain ⟨cs', h7, h8⟩ := Option.bind_eq_some_iff.1 h5
      exact ⟨cs', _, h6, h7, h8⟩
    obtain ⟨b, off, spot⟩ := a
    obtain ⟨hspot, hblk⟩ : spot = none ∧ b < W.heap.size := by
      obtain ⟨cs', y, _, h7, h8⟩ := each 0 (by omega)
      obtain ⟨hlen, _, hc⟩ := World.cells?_some h7
      have hc0 := hc 0 (by omega)
      have hx : ∃ v, cs'[0]? = some v := ⟨cs'[0]'(by omega), List.getElem?_eq_getElem (by omega)⟩
      obtain ⟨v, hv⟩ := hx
      rw [hv] at hc0
      have hs0 : spot = none := by
        simpa [Addr.add] using World.cell?_spot hc0
      subst hs0
      rw [add_none, add_none] at hc0
      exact ⟨rfl, block_lt hc0⟩
    subst hspot
    have row : ∀ j, j ≤ len → ∃ l : List α, l.length = j ∧ (l.map size).sum ≤ Rows.uptoBulkAll ((elems.drop (len - j)).map (·.1)) ∧ l.length ≤ Rows.uptoBulkAll ((elems.drop (len - j)).map (·.1)) ∧
        ∀ (i : Nat) (c : α), l[i]? = some c → ∃ cs', El c cs' ∧ ∀ q, q < m → W.cell? ⟨b, off + (len - j + i) * m + q, none⟩ = cs'[q]? := by
      intro j
      induction j with
      | zero => intro _; exact ⟨[], rfl, by simp, by simp, fun i c hi => by simp at hi⟩
      | succ j ihj =>
        intro hj
        obtain ⟨l, hx1, hx2, hx3, hx4⟩ := ihj (by omega)
        obtain ⟨cs', y, h6, h7, h8⟩ := each (len - (j + 1)) (by omega)
        obtain ⟨c, g1, g2⟩ := hEl _ _ _ h8
        obtain ⟨_, _, hc⟩ := World.cells?_some h7
        rw [add_none] at hc
        have cc : ∀ i, i < m → W.cell? ⟨b, off + (len - (j + 1)) * m + i, none⟩ = cs'[i]? := fun i hi => by
          rw [← add_none]; exact hc i hi
        have hdrop : elems.drop (len - (j + 1)) = y :: elems.drop (len - j) := by
          obtain ⟨hlt, he⟩ := List.getElem?_eq_some_iff.1 h6
          rw [List.drop_eq_getElem_cons hlt, he, show len - (j + 1) + 1 = len - j by omega]
        have hp := pos y.1
        refine ⟨c :: l, by simp [hx1], ?_, ?_, ?_⟩
        · rw [hdrop, List.map_cons, List.map_cons, List.sum_cons, bulk_all_cons]; omega
        · rw [hdrop, List.map_cons, List.length_cons, bulk_all_cons]; omega
        · intro i c' hi
          cases i with
          | zero =>
            simp only [List.getElem?_cons_zero, Option.some.injEq] at hi
            subst hi
            exact ⟨cs', g1, cc⟩
          | succ i =>
            obtain ⟨cs2, g3, g4⟩ := hx4 i c' (by simpa using hi)
            refine ⟨cs2, g3, fun q hq => ?_⟩
            rw [show len - (j + 1) + (i + 1) = len - j + i by omega]
            exact g4 q hq
    obtain ⟨l, hx1, hx2, hx3, hx4⟩ := row len (Nat.le_refl _)
    rw [Nat.sub_self, List.drop_zero] at hx2 hx3
    simp only [Nat.sub_self, Nat.zero_add] at hx4
    exact ⟨l, some ⟨b, off, none⟩, cap, by rw [e7, hx1], .inr ⟨b, off, rfl, hblk, ⟨by omega, by omega⟩, hx4⟩, by omega, by omega⟩


set_option maxRecDepth 100000 in
theorem open_rt (fuel : Nat) (cs : List Value) (y : DataW H × List MemPlace) (h : DataW.trod enc Tryz.prog W 0 (fun _ => true) true fuel 29 cs = some y) :
    ∃ s t, cs = [.string s, .string t] := by
  obtain ⟨ys, n, _, rfl, hl, hlen, hf⟩ := DataW.trod_struct Tryz.underlying29 h
  rw [cellsRa] at hl
  obtain ⟨c0, c1, rfl⟩ : ∃ c0 c1, cs = [c0, c1] := by
    match cs, hl with
    | [a0, a1], _ => exact ⟨a0, a1, rfl⟩
  obtain ⟨y0, y1, rfl⟩ : ∃ y0 y1, ys = [y0, y1] := by
    match ys, hlen with
    | [a0, a1], _ => exact ⟨a0, a1, rfl⟩
  have h0 : DataW.trod enc Tryz.prog W 0 (fun _ => true) true n 9 (([c0, c1].drop 0).take (Tryz.prog.cellsOf 9)) = some y0 := hf 0 _ rfl
  have h1 : DataW.trod enc Tryz.prog W 0 (fun _ => true) true n 9 (([c0, c1].drop 1).take (Tryz.prog.cellsOf 9)) = some y1 := hf 1 _ rfl
  simp only [cellsTx, List.drop_zero, List.drop_succ_cons, List.take_succ_cons, List.take_zero] at h0 h1
  obtain ⟨v0, e0, _, w0⟩ := DataW.trod_string Tryz.underlying9 h0
  obtain ⟨v1, e1, _, w1⟩ := DataW.trod_string Tryz.underlying9 h1
  simp only [List.cons.injEq, and_true] at e0 e1
  subst e0 e1
  exact ⟨v0, v1, rfl⟩
set_option maxRecDepth 100000 in
theorem open_pk (fuel : Nat) (cs : List Value) (y : DataW H × List MemPlace) (h : DataW.trod enc Tryz.prog W 0 (fun _ => true) true fuel 33 cs = some y) :
    ∃ u : Pk, (cs = [.int .i64 u.id, .string u.s, .string u.t]) ∧ 0 ≤ Rows.uptoBulk y.1 := by
  obtain ⟨ys, n, _, rfl, hl, hlen, hf⟩ := DataW.trod_struct Tryz.underlying33 h
  rw [cellsPk] at hl
  obtain ⟨c0, c1, c2, rfl⟩ : ∃ c0 c1 c2, cs = [c0, c1, c2] := by
    match cs, hl with
    | [a0, a1, a2], _ => exact ⟨a0, a1, a2, rfl⟩
  obtain ⟨y0, y1, rfl⟩ : ∃ y0 y1, ys = [y0, y1] := by
    match ys, hlen with
    | [a0, a1], _ => exact ⟨a0, a1, rfl⟩
  have h0 : DataW.trod enc Tryz.prog W 0 (fun _ => true) true n 3 (([c0, c1, c2].drop 0).take (Tryz.prog.cellsOf 3)) = some y0 := hf 0 _ rfl
  have h1 : DataW.trod enc Tryz.prog W 0 (fun _ => true) true n 29 (([c0, c1, c2].drop 1).take (Tryz.prog.cellsOf 29)) = some y1 := hf 1 _ rfl
  simp only [cellsI, cellsRa, List.drop_zero, List.drop_succ_cons, List.take_succ_cons, List.take_zero] at h0 h1
  obtain ⟨v0, e0, _, w0⟩ := DataW.trod_int Tryz.underlying3 h0
  obtain ⟨s, t, e1⟩ := open_rt _ _ _ h1
  simp only [List.cons.injEq, and_true] at e0 e1
  obtain ⟨rfl, rfl⟩ := e1
  subst e0
  exact ⟨⟨v0, s, t⟩, rfl, Nat.zero_le _⟩
set_option maxRecDepth 100000 in
theorem open_P {b0 : Nat} {v : Value} {d : DataW H} {p : List MemPlace} (hv : Value.okWide Tryz.prog W .any b0 22 v) (h : DataW.Trod enc Tryz.prog W 0 (fun _ => true) true 22 v d p) :
    ∃ a l c, v = .slice a (List.length l) c ∧ RdP W a l ∧ List.length l ≤ c := by
  obtain ⟨a0, len, cap, rfl⟩ := okWide_slice Tryz.underlying22 hv
  obtain ⟨m, h⟩ := h
  obtain ⟨l, a, cap', e, hr, _, _⟩ := open_row (α := Pk) Tryz.underlying22 cellsPk (by decide) (fun u cs => cs = [.int .i64 u.id, .string u.s, .string u.t]) (fun _ => 0) open_pk h
  simp [Value.cells] at e
  obtain ⟨rfl, rfl, rfl⟩ := e
  refine ⟨_, l, _, rfl, ?_⟩
  rcases hr with rfl | ⟨b, off, rfl, hb, hc, hr⟩
  · exact ⟨⟨by simp, fun h => by simp at h⟩, by simp⟩
  · refine ⟨⟨by omega, fun _ => ⟨b, off, rfl, hb, fun j hj => ?_⟩⟩, hc.1⟩
    obtain ⟨cs', hcs, hq⟩ := hr j (pk l j) (by unfold pk; rw [List.getD, List.getElem?_eq_getElem hj]; simp)
    subst hcs
    exact ⟨hq 0 (by omega), hq 1 (by omega), hq 2 (by omega)⟩
end
end Go.Proofs.YtchdfekajjeflaaGreatDoor
