/-
  Numbers of the reference: their decimal texts.
  Numbers of the reference: plus.
  Numbers of the reference: minus.
-/
import Derived.Test.YtdkphfafcmogmaaGreatDoorMo14
import Derived.Lib.AppendIntMem
import Derived.Lib.QuietBelow
import Derived.Lib.SmallJoins
import Derived.Test.YtdkphfafcmogmaaGreatDoorMo04
namespace Go.Proofs.YtdkphfafcmogmaaGreatDoor
open Go.RowKit

theorem gPow : Tryz.prog.globalNamed "internal/strconv.uint64pow10" = some 5 := by kernel_rfl
def Pow (w : World) : Prop := Lib.TabIs Tryz.prog w "internal/strconv.uint64pow10" .u64 Lib.pow10Tab
theorem Pow.below {w w' : World} (h : Pow w) (hb : Below w.heap.size w w') : Pow w' := Go.Joins.tab_stays gPow h hb (Nat.le_refl _)
theorem itoa_c (n : Nat) (w : World) (hE : Pow w) (hn : n ≤ 9223372036854775807) :
    Calls Tryz.prog 66 #[.int .i64 n] w fun e w' => e = .returned (.string (decB n)) ∧ Below w.heap.size w w' :=
  (Tryz.strconv_Itoa n (by omega) (by omega) w hE).mono fun _ _ ⟨he, k, os, hw⟩ => ⟨by rw [he, Lib.itoa_nonneg]; rfl, by rw [hw]; exact Go.Lib.below_grow _ _ (Nat.le_refl _) k os⟩
theorem repeat_c (c : Nat) (w : World) (hc : c ≤ 9) :
    Calls Tryz.prog 52 #[.string ⟨#[48]⟩, .int .i64 c] w fun e w' => e = .returned (.string ⟨(Lib.repeatL [48] c).toArray⟩) ∧ Below w.heap.size w w' :=
  Tryz.strings_Repeat ⟨#[48]⟩ c w (by omega) (by rw [show (⟨#[48]⟩ : ByteArray).size = 1 from rfl]; omega)
theorem rtext_zero (a : Option Addr) (c : Nat) (w : World) : Calls Tryz.prog 33 #[.slice a 0 c] w fun e w' => e = .returned (.string (decB 0)) ∧ Below w.heap.size w w' := by
  go_enter Tryz.func33, Tryz.ntmps33
  go_wp2
  go_ret
  exact ⟨by unfold decB; rw [Lib.decDigits_one (by decide)]; rfl, Below.refl _ _⟩
theorem isB_keep {g : Nat} {l : List UInt8} {w w' : World} (h : IsB g l w) (hb : Below w.heap.size w w') : IsB g l w' := by
  rcases h with ⟨h1, v, h2, h3, h4⟩ | ⟨h1, v, h2, h3, h4⟩
  · exact .inl ⟨h1, v, (hb.block g (lt_of_block h2)).trans h2, own_keep h3 hb, h4⟩
  · exact .inr ⟨h1, v, (hb.block g (lt_of_block h2)).trans h2, own_keep h3 hb, h4⟩
/-- The digits from p on are written. -/
structure Txd (w : World) (n p : Nat) (W : World) : Prop where
  bld : IsB w.heap.size (Lib.decDigits (n / tp p)) W
  bel : Below w.heap.size w W
  pos : 0 < n / tp p
set_option maxRecDepth 100000 in
set_option maxHeartbeats 2000000 in
theorem rtext_c (a : Option Addr) (k c n : Nat) (w : World) (h : Nt w a k c n) (hE : Pow w) : Calls Tryz.prog 33 #[.slice a k c] w fun e w' => e = .returned (.string (decB n)) ∧ Below w.heap.size w w' := by
  rcases Nat.eq_zero_or_pos k with e | e
  · subst e
    have hn : n = 0 := by have := h.lt; rw [tp_zero] at this; omega
    subst hn
    exact rtext_zero a c w
  · obtain ⟨f, r1, _, _, t1, s1, _⟩ := h
    obtain ⟨q, rfl⟩ : ∃ q, k = q + 1 := ⟨k - 1, by omega⟩
    have hk5 := r1.1
    have htop : 0 < f q := by
      rcases t1 with t | t
      · omega
      · rw [Nat.add_sub_cancel] at t; omega
    have hlast : n / tp q = f q := by rw [← s1]; exact Tn_last r1.2.1 e
    have HDB : Hid (∀ p, (Lib.decDigits (n / tp p)).length ≤ 900000) := fun p => by
      have h1 : n / tp p < tp (q + 1) := Nat.lt_of_le_of_lt (Nat.div_le_self _ _) (by rw [← s1]; exact Tn_lt r1.2.1)
      have := dec_short e h1
      omega
    have HNX : Hid (∀ p, p < q + 1 → 0 < n / tp (p + 1) → Lib.decDigits (n / tp p) = Lib.decDigits (n / tp (p + 1)) ++ Lib.repeatL [48] (9 - (Lib.decDigits (f p)).length) ++ Lib.decDigits (f p)) := fun p hp h0 => by
      rw [← s1] at h0 ⊢
      exact dec_next r1.2.1 hp h0
    have HPS : Hid (∀ p, 0 < n / tp (p + 1) → 0 < n / tp p) := fun p h0 => by
      rw [tp_succ, ← Nat.div_div_eq_div_mul] at h0
      omega
    have HF : Hid (∀ p, p < q + 1 → f p < 1000000000) := r1.2.1
    obtain ⟨bk, off, rfl, hb, hcell⟩ := r1.2.2 e
    have HCL := Lib.hid hcell
    have HBK := Lib.hid hb
    obtain ⟨W1, hW1⟩ : ∃ W1, w.alloc (.cells #[.pointer none, .slice none 0 0] 95) = W1 := ⟨_, rfl⟩
    have hIB : Hid (IsB w.heap.size [] W1) := by rw [← hW1]; exact Lib.fresh_isBuilder _ _ w
    have hB : Hid (Below w.heap.size w W1) := by rw [← hW1]; exact bel_one _ _
    have HE := Lib.hid hE
    have d1 := hcell q (Nat.lt_succ_self q)
    have g2 : W1.cell? ⟨bk, off + q, none⟩ = some (.int .i64 (f q)) := by rw [hB.out.cell (p := ⟨bk, off + q, none⟩) hb]; exact d1
    have e1 : ((q + 1 : Nat) : Int) - 1 = (q : Int) := by omega
    have e2 : ((q + 1 : Nat) : Int) - 2 = (q : Int) - 1 := by omega
    have hqk : (q : Int) < ((q + 1 : Nat) : Int) := by omega
    have hne : (((q + 1 : Nat) : Int) == 0) = false := by rw [beq_eq_false_iff_ne]; omega
    have hfq := r1.2.1 q (Nat.lt_succ_self q)
    have I0 : Hid (∀ W, IsB w.heap.size (Lib.decDigits (f q)) W → Below w.heap.size w W → Txd w n q W) := fun W h1 h2 => ⟨by rw [hlast]; exact h1, h2, by rw [hlast]; exact htop⟩
    have HIT := Lib.hid (fun W h => itoa_c (f q) W h (by omega))
    have hsz : Hid ((decB (f q)).size ≤ 9) := by unfold Hid; rw [decB_size]; exact dec_len 9 _ (by decide) hfq
    clear hb hcell d1 r1 t1 s1 htop hlast hE hfq
    generalize f q = x at *
    go_enter Tryz.func33, Tryz.ntmps33
    go_wp2_with fail
    clear hW1 g2 hne
    (with_reducible refine (HIT.out _ (HE.out.below hB.out)).mono ?_)
    rintro e w2 ⟨rfl, b2⟩
    have HI2 : Hid (IsB w.heap.size [] w2) := isB_keep hIB.out b2
    have B2 := Lib.hid (hB.out.trans (b2.mono hB.out.size))
    have HP := Lib.hid (put_c w.heap.size [] (decB x) w2 HI2.out (by have := hsz.out; simp; omega))
    clear b2 hIB hB
    go_wp2_with fail
    (with_reducible refine HP.out.mono ?_)
    rintro e w3 ⟨rfl, h3, b3⟩
    have J0 : Hid (Txd w n q w3) := I0.out _ (by rw [← decB_list]; exact h3) (B2.out.trans b3)
    clear h3 b3 HP HI2 B2
    go_wp2_with fail
    go_loopw [4] (fun i wr => ∃ p : Nat, p ≤ q ∧ i = .int .i64 ((p : Int) - 1) ∧ Hid (Txd w n p wr)) (fun i _ => (intOf i + 1).toNat)
    case atStart => exact ⟨q, Nat.le_refl _, by go_num, J0.out⟩
    case round =>
      clear J0 HIT I0 hsz
      obtain ⟨p, hpq, rfl, hT⟩ := hrel
      rcases Nat.eq_zero_or_pos p with e | e
      · subst e
        have hz0 : n / tp 0 = n := by rw [tp_zero, Nat.div_one]
        have HS := Lib.hid (Tryz.Builder_String w.heap.size w.heap.size (Lib.decDigits (n / tp 0)) wr hT.out.bld (decDigits_ne _))
        have HB := Lib.hid hT.out.bel
        rw [hz0] at HS
        clear hT hz0
        go_wp2_with fail
        refine HS.out.mono ?_
        rintro e w4 ⟨rfl, b4⟩
        have B4 := Lib.hid (HB.out.trans b4)
        clear b4 HS HB
        go_wp2
        go_ret
        exact ⟨rfl, B4.out⟩
      · obtain ⟨r, rfl⟩ : ∃ r, p = r + 1 := ⟨p - 1, by omega⟩
        have ei : ((r + 1 : Nat) : Int) - 1 = (r : Int) := by omega
        rw [ei]
        have hrk : (r : Int) < ((q + 1 : Nat) : Int) := by omega
        have hrk' : (r : Int) ≤ (q : Int) := by omega
        have g1 : wr.cell? ⟨bk, off + r, none⟩ = some (.int .i64 (f r)) := by rw [hT.out.bel.cell (p := ⟨bk, off + r, none⟩) HBK.out]; exact HCL.out r (by omega)
        have HNX' := Lib.hid (HNX.out r (by omega) hT.out.pos)
        have HPS' := Lib.hid (HPS.out r hT.out.pos)
        have HL1 := Lib.hid (HDB.out (r + 1))
        have hfr := HF.out r (by omega)
        have HE' := Lib.hid (fun W (h : Below w.heap.size w W) => HE.out.below h)
        generalize f r = d at *
        have hdl := dec_len 9 d (by decide) hfr
        have hds := decB_size d
        obtain ⟨z, hz⟩ : ∃ z, 9 - (Lib.decDigits d).length = z := ⟨_, rfl⟩
        have hz9 : z ≤ 9 := by omega
        have ez : (9 : Int) - ((decB d).size : Int) = (z : Int) := by omega
        rw [hz] at HNX'
        have HDS : Hid ((decB d).size ≤ 9) := by unfold Hid; omega
        obtain ⟨zs, hzs⟩ : ∃ zs : ByteArray, zs = ⟨(Lib.repeatL [48] z).toArray⟩ := ⟨_, rfl⟩
        have hzl : Hid (zs.data.toList = Lib.repeatL [48] z ∧ zs.size ≤ 9) := ⟨by rw [hzs], by rw [hzs, rep_zeros]; simp [ByteArray.size]; omega⟩
        have HT := Lib.hid hT.out.bld
        have HB := Lib.hid hT.out.bel
        have HIT := Lib.hid (fun W h => itoa_c d W h (by omega))
        have HZ9 := Lib.hid hz9
        have HRP : Hid (∀ W, Calls Tryz.prog 52 #[.string ⟨#[48]⟩, .int .i64 z] W fun e w' => e = .returned (.string zs) ∧ Below W.heap.size W w') := fun W => by rw [hzs]; exact repeat_c z W hz9
        clear hT hdl hz hfr hds hz9 hzs
        go_wp2_with fail
        (with_reducible refine (HIT.out _ (HE'.out _ HB.out)).mono ?_)
        rintro e w2 ⟨rfl, b2⟩
        have HT2 := Lib.hid (isB_keep HT.out b2)
        have HB2 := Lib.hid (HB.out.trans (b2.mono HB.out.size))
        clear b2 g1 HT HIT
        go_wp2_with fail
        (with_reducible refine (HRP.out _).mono ?_)
        rintro e w3 ⟨rfl, b3⟩
        have HT3 := Lib.hid (isB_keep HT2.out b3)
        have HB3 := Lib.hid (HB2.out.trans (b3.mono HB2.out.size))
        have HP := Lib.hid (put_c w.heap.size _ zs w3 HT3.out (by have := HL1.out; have := hzl.out.2; omega))
        clear b3 HT2 HB2 HRP
        go_wp2_with fail
        (with_reducible refine HP.out.mono ?_)
        rintro e w4 ⟨rfl, h4, b4⟩
        rw [hzl.out.1] at h4
        have HB4 := Lib.hid (HB3.out.trans b4)
        have HP2 := Lib.hid (put_c w.heap.size _ (decB d) w4 h4 (by have := HL1.out; have := hzl.out.2; have := HDS.out; have := congrArg List.length hzl.out.1; simp at *; omega))
        clear b4 h4 HT3 HB3 HP
        go_wp2_with fail
        (with_reducible refine HP2.out.mono ?_)
        rintro e w5 ⟨rfl, h5, b5⟩
        have NX : Hid (Txd w n r w5) := ⟨by rw [HNX'.out, ← decB_list d]; exact h5, HB4.out.trans b5, HPS'.out⟩
        clear h5 b5 HP2 HB4
        go_wp2_with fail
        go_roundw
        case rel => exact ⟨r, by omega, rfl, NX.out⟩
        case measure => simp [intOf]
end Go.Proofs.YtdkphfafcmogmaaGreatDoor
namespace Go.Proofs.YtdkphfafcmogmaaGreatDoor
open Go.RowKit

/-- The digits of a row, and zeros behind them. -/
def xt (f : Nat → Nat) (k i : Nat) : Nat := if i < k then f i else 0
theorem ext_lt {f : Nat → Nat} {k i : Nat} (h : i < k) : xt f k i = f i := by unfold xt; rw [if_pos h]
theorem ext_ge {f : Nat → Nat} {k i : Nat} (h : k ≤ i) : xt f k i = 0 := by unfold xt; rw [if_neg (by omega)]
theorem ext_sum {f : Nat → Nat} {k : Nat} : ∀ {j}, k ≤ j → Tn (xt f k) j = Tn f k
  | 0, h => by
    obtain rfl : k = 0 := by omega
    rfl
  | j + 1, h => by
    rcases Nat.lt_or_ge j k with l | l
    · obtain rfl : k = j + 1 := by omega
      exact Tn_congr fun i hi => ext_lt hi
    · rw [Tn_succ, ext_ge l, ext_sum l]; omega
theorem ext_dig {f : Nat → Nat} {k i : Nat} (h : Ld f k) : xt f k i < 1000000000 := by
  unfold xt; split
  · exact h i (by assumption)
  · decide
theorem ld_more {g : Nat → Nat} {j s : Nat} (h : Ld g j) (hs : s < 1000000000) : Ld (put g j s) (j + 1) := fun i hi => by
  by_cases e : i = j
  · rw [e, put_same]; exact hs
  · rw [put_ne e]; exact h i (by omega)
/-- What the sum's loop keeps. -/
def Pq (w : World) (f1 : Nat → Nat) (k1 : Nat) (f2 : Nat → Nat) (k2 : Nat) (j y : Nat) (g : Nat → Nat) (v : Value) (wr : World) : Prop :=
  Dg w.heap.size w g j v wr ∧ Ld g j ∧ Tn g j + y * tp j = Tn (xt f1 k1) j + Tn (xt f2 k2) j
theorem Pq.step {w : World} {f1 : Nat → Nat} {k1 : Nat} {f2 : Nat → Nat} {k2 : Nat} {j y : Nat} {g : Nat → Nat} {v v' : Value} {wr wr' : World} {s y' : Nat} (h : Pq w f1 k1 f2 k2 j y g v wr)
    (hs : xt f1 k1 j + xt f2 k2 j + y = s + y' * 1000000000) (hs9 : s < 1000000000) (o : Obj)
    (hown : wr'.ownsRow w.heap.size 3 1 v' (j + 1) (dvals g j ++ [.int .i64 (s : Int)])) (hg : (wr.alloc o).grownBy wr' v.ownBlock) :
    Pq w f1 k1 f2 k2 (j + 1) y' (put g j s) v' wr' := by
  refine ⟨h.1.more s hown o hg, ld_more h.2.1 hs9, ?_⟩
  rw [Tn_put, tp_succ, Tn_succ, Tn_succ]
  exact dstep_add h.2.2 hs
set_option maxRecDepth 100000 in
set_option maxHeartbeats 4000000 in
theorem nplus_f (a1 a2 : Option Addr) (k1 k2 c1 c2 n1 n2 : Nat) (w : World) (h1 : Nt w a1 k1 c1 n1) (h2 : Nt w a2 k2 c2 n2) (hk1 : k1 ≤ 99990) (hk2 : k2 ≤ 99990) :
    Calls Tryz.prog 39 #[.slice a1 k1 c1, .slice a2 k2 c2] w (NtF (n1 + n2) w) := by
  obtain ⟨i0, hi, hz0, hz1, hz2⟩ := info_int
  obtain ⟨f1, r1, _, _, _, s1, _⟩ := h1
  obtain ⟨f2, r2, _, _, _, s2, _⟩ := h2
  obtain ⟨K, hx, hK1, hK2, hK⟩ : ∃ K : Nat, max (k1 : Int) (k2 : Int) = (K : Int) ∧ k1 ≤ K ∧ k2 ≤ K ∧ K ≤ 99990 := by
    rcases Nat.le_total k1 k2 with l | l
    · exact ⟨k2, by rw [Int.max_eq_right (by omega)], l, Nat.le_refl _, hk2⟩
    · exact ⟨k1, by rw [Int.max_eq_left (by omega)], Nat.le_refl _, l, hk1⟩
  have R1 := Lib.hid r1
  have R2 := Lib.hid r2
  have S1 := Lib.hid s1
  have S2 := Lib.hid s2
  clear r1 r2 s1 s2
  go_enter Tryz.func39, Tryz.ntmps39
  go_wp2_with fail
  go_loopw [5, 6, 7] (fun v c i wr => ∃ (j y : Nat) (g : Nat → Nat), j ≤ K + 1 ∧ y ≤ 1 ∧ (K < j → y = 0) ∧ c = .int .i64 y ∧ i = .int .i64 j ∧ Hid (Pq w f1 k1 f2 k2 j y g v wr)) (fun _ _ i _ => K + 1 - (intOf i).toNat)
  case atStart => exact ⟨0, 0, fun _ => 0, by omega, by omega, by omega, rfl, rfl, Dg.nil w _, fun j hj => by omega, by simp [Tn_zero]⟩
  case round =>
    obtain ⟨j, y, g, hj, hy, hyK, rfl, rfl, hR⟩ := hrel
    by_cases hgo : j < K ∨ 0 < y
    · by_cases l1 : j < k1
      · by_cases l2 : j < k2
        · obtain ⟨b1, o1, rfl, _, g1⟩ := (R1.out.below hR.out.1.bel).at_ l1
          obtain ⟨b2, o2, rfl, _, g2⟩ := (R2.out.below hR.out.1.bel).at_ l2
          have t1 : (j : Int) < (k1 : Int) := by omega
          have t2 : (j : Int) < (k2 : Int) := by omega
          have tK : (j : Int) < (K : Int) := by omega
          have d1 := R1.out.2.1 j l1
          have d2 := R2.out.2.1 j l2
          have EX : Hid (xt f1 k1 j + xt f2 k2 j = f1 j + f2 j) := by unfold Hid; rw [ext_lt l1, ext_lt l2]
          generalize f1 j = x1 at g1 d1 EX
          generalize f2 j = x2 at g2 d2 EX
          obtain ⟨p, hp⟩ : ∃ p, y + x1 + x2 = p := ⟨_, rfl⟩
          have e0 : (y : Int) + (x1 : Int) + (x2 : Int) = (p : Int) := by omega
          obtain ⟨q, hq⟩ : ∃ q, p / 1000000000 = q := ⟨_, rfl⟩
          obtain ⟨r, hr⟩ : ∃ r, p % 1000000000 = r := ⟨_, rfl⟩
          have e1 : (p : Int).tdiv 1000000000 = (q : Int) := by rw [Int.tdiv_eq_ediv_of_nonneg (by omega)]; omega
          have e2 : (p : Int).tmod 1000000000 = (r : Int) := by rw [Int.tmod_eq_emod_of_nonneg (by omega)]; omega
          have hq1 : q ≤ 1 := by omega
          have hr9 : r < 1000000000 := by omega
          have HS : Hid (xt f1 k1 j + xt f2 k2 j + y = r + q * 1000000000) := by unfold Hid; rw [EX.out]; omega
          have hp9 : p < 3000000000 := by omega
          clear hp hq hr EX
          go_wp2_with (at_builtin; refine wpList_append_own _ rfl _ _ 50 rfl w.heap.size 3 i0 (.int .i64 0) 1 8 Tryz.underlying50 hi hz0 hz1 hz2 rfl (by decide) _ _ _ rfl (hR.out.1.row.alloc _) ⟨wr.heap.size, 0, none⟩ 1 1 [.int .i64 (r : Int)] rfl rfl ?c1A ?c2A ?c3A ?c4A ?c5A ?_)
          try
            case c1A =>
              intro i u hu
              match i, hu with
              | 0, hu => simp at hu; subst hu; simp [Addr.add]
          try (case c2A => first | (intro u hu; simp at hu; subst hu; rfl) | rfl)
          try (case c3A => unfold maxLen; omega)
          try (case c4A => omega)
          try (case c5A => have := hR.out.1.size; simp; omega)
          intro v' w1 hown' hgrow _
          have NX : Hid (Pq w f1 k1 f2 k2 (j + 1) q (put g j r) v' w1) := Pq.step hR.out HS.out hr9 _ hown' hgrow
          clear hown' hgrow hR
          go_wp2
          go_roundw
          case rel => exact ⟨j + 1, q, put g j r, by omega, hq1, by omega, by go_num, by go_num, NX.out⟩
          case measure => simp [intOf]; omega
        · obtain ⟨b1, o1, rfl, _, g1⟩ := (R1.out.below hR.out.1.bel).at_ l1
          have t1 : (j : Int) < (k1 : Int) := by omega
          have t2 : ¬ (j : Int) < (k2 : Int) := by omega
          have tK : (j : Int) < (K : Int) := by omega
          have d1 := R1.out.2.1 j l1
          have EX : Hid (xt f1 k1 j + xt f2 k2 j = f1 j + 0) := by unfold Hid; rw [ext_lt l1, ext_ge (by omega)]
          generalize f1 j = x1 at g1 d1 EX
          obtain ⟨p, hp⟩ : ∃ p, y + x1 = p := ⟨_, rfl⟩
          have e0 : (y : Int) + (x1 : Int) = (p : Int) := by omega
          obtain ⟨q, hq⟩ : ∃ q, p / 1000000000 = q := ⟨_, rfl⟩
          obtain ⟨r, hr⟩ : ∃ r, p % 1000000000 = r := ⟨_, rfl⟩
          have e1 : (p : Int).tdiv 1000000000 = (q : Int) := by rw [Int.tdiv_eq_ediv_of_nonneg (by omega)]; omega
          have e2 : (p : Int).tmod 1000000000 = (r : Int) := by rw [Int.tmod_eq_emod_of_nonneg (by omega)]; omega
          have hq1 : q ≤ 1 := by omega
          have hr9 : r < 1000000000 := by omega
          have HS : Hid (xt f1 k1 j + xt f2 k2 j + y = r + q * 1000000000) := by unfold Hid; rw [EX.out]; omega
          have hp9 : p < 3000000000 := by omega
          clear hp hq hr EX
          go_wp2_with (at_builtin; refine wpList_append_own _ rfl _ _ 50 rfl w.heap.size 3 i0 (.int .i64 0) 1 8 Tryz.underlying50 hi hz0 hz1 hz2 rfl (by decide) _ _ _ rfl (hR.out.1.row.alloc _) ⟨wr.heap.size, 0, none⟩ 1 1 [.int .i64 (r : Int)] rfl rfl ?c1B ?c2B ?c3B ?c4B ?c5B ?_)
          try
            case c1B =>
              intro i u hu
              match i, hu with
              | 0, hu => simp at hu; subst hu; simp [Addr.add]
          try (case c2B => first | (intro u hu; simp at hu; subst hu; rfl) | rfl)
          try (case c3B => unfold maxLen; omega)
          try (case c4B => omega)
          try (case c5B => have := hR.out.1.size; simp; omega)
          intro v' w1 hown' hgrow _
          have NX : Hid (Pq w f1 k1 f2 k2 (j + 1) q (put g j r) v' w1) := Pq.step hR.out HS.out hr9 _ hown' hgrow
          clear hown' hgrow hR
          go_wp2
          go_roundw
          case rel => exact ⟨j + 1, q, put g j r, by omega, hq1, by omega, by go_num, by go_num, NX.out⟩
          case measure => simp [intOf]; omega
      · by_cases l2 : j < k2
        · obtain ⟨b2, o2, rfl, _, g2⟩ := (R2.out.below hR.out.1.bel).at_ l2
          have t1 : ¬ (j : Int) < (k1 : Int) := by omega
          have t2 : (j : Int) < (k2 : Int) := by omega
          have tK : (j : Int) < (K : Int) := by omega
          have d2 := R2.out.2.1 j l2
          have EX : Hid (xt f1 k1 j + xt f2 k2 j = 0 + f2 j) := by unfold Hid; rw [ext_ge (by omega), ext_lt l2]
          generalize f2 j = x2 at g2 d2 EX
          obtain ⟨p, hp⟩ : ∃ p, y + x2 = p := ⟨_, rfl⟩
          have e0 : (y : Int) + (x2 : Int) = (p : Int) := by omega
          obtain ⟨q, hq⟩ : ∃ q, p / 1000000000 = q := ⟨_, rfl⟩
          obtain ⟨r, hr⟩ : ∃ r, p % 1000000000 = r := ⟨_, rfl⟩
          have e1 : (p : Int).tdiv 1000000000 = (q : Int) := by rw [Int.tdiv_eq_ediv_of_nonneg (by omega)]; omega
          have e2 : (p : Int).tmod 1000000000 = (r : Int) := by rw [Int.tmod_eq_emod_of_nonneg (by omega)]; omega
          have hq1 : q ≤ 1 := by omega
          have hr9 : r < 1000000000 := by omega
          have HS : Hid (xt f1 k1 j + xt f2 k2 j + y = r + q * 1000000000) := by unfold Hid; rw [EX.out]; omega
          have hp9 : p < 3000000000 := by omega
          clear hp hq hr EX
          go_wp2_with (at_builtin; refine wpList_append_own _ rfl _ _ 50 rfl w.heap.size 3 i0 (.int .i64 0) 1 8 Tryz.underlying50 hi hz0 hz1 hz2 rfl (by decide) _ _ _ rfl (hR.out.1.row.alloc _) ⟨wr.heap.size, 0, none⟩ 1 1 [.int .i64 (r : Int)] rfl rfl ?c1C ?c2C ?c3C ?c4C ?c5C ?_)
          try
            case c1C =>
              intro i u hu
              match i, hu with
              | 0, hu => simp at hu; subst hu; simp [Addr.add]
          try (case c2C => first | (intro u hu; simp at hu; subst hu; rfl) | rfl)
          try (case c3C => unfold maxLen; omega)
          try (case c4C => omega)
          try (case c5C => have := hR.out.1.size; simp; omega)
          intro v' w1 hown' hgrow _
          have NX : Hid (Pq w f1 k1 f2 k2 (j + 1) q (put g j r) v' w1) := Pq.step hR.out HS.out hr9 _ hown' hgrow
          clear hown' hgrow hR
          go_wp2
          go_roundw
          case rel => exact ⟨j + 1, q, put g j r, by omega, hq1, by omega, by go_num, by go_num, NX.out⟩
          case measure => simp [intOf]; omega
        · have t1 : ¬ (j : Int) < (k1 : Int) := by omega
          have t2 : ¬ (j : Int) < (k2 : Int) := by omega
          obtain rfl : y = 1 := by omega
          have tK : ¬ (j : Int) < (K : Int) := by omega
          have HS : Hid (xt f1 k1 j + xt f2 k2 j + 1 = 1 + 0 * 1000000000) := by unfold Hid; rw [ext_ge (by omega), ext_ge (by omega)]
          go_wp2_with (at_builtin; refine wpList_append_own _ rfl _ _ 50 rfl w.heap.size 3 i0 (.int .i64 0) 1 8 Tryz.underlying50 hi hz0 hz1 hz2 rfl (by decide) _ _ _ rfl (hR.out.1.row.alloc _) ⟨wr.heap.size, 0, none⟩ 1 1 [.int .i64 1] rfl rfl ?c1D ?c2D ?c3D ?c4D ?c5D ?_)
          try
            case c1D =>
              intro i u hu
              match i, hu with
              | 0, hu => simp at hu; subst hu; simp [Addr.add]
          try (case c2D => first | (intro u hu; simp at hu; subst hu; rfl) | rfl)
          try (case c3D => unfold maxLen; omega)
          try (case c4D => omega)
          try (case c5D => have := hR.out.1.size; simp; omega)
          intro v' w1 hown' hgrow _
          have NX : Hid (Pq w f1 k1 f2 k2 (j + 1) 0 (put g j 1) v' w1) := Pq.step (s := 1) hR.out HS.out (by decide) _ hown' hgrow
          clear hown' hgrow hR
          go_wp2
          go_roundw
          case rel => exact ⟨j + 1, 0, put g j 1, by omega, by omega, by omega, by go_num, by go_num, NX.out⟩
          case measure => simp [intOf]; omega
    · obtain rfl : y = 0 := by omega
      have tK : ¬ (j : Int) < (K : Int) := by omega
      have E : Hid (Tn g j = n1 + n2) := by
        have h := hR.out.2.2
        rw [ext_sum (by omega), ext_sum (by omega), S1.out, S2.out] at h
        unfold Hid
        omega
      obtain ⟨a, c, rfl, h1, h2, h3, h4⟩ := hR.out.1.reads (by omega) hR.out.2.1
      have BE := Lib.hid hR.out.1.bel
      have FE := Lib.hid hR.out.1.fresh
      have HT := Lib.hid (ntrim_c a j c g wr h1 h2 h3 h4)
      clear h1 h4 hR
      go_wp2_with fail
      refine HT.out.mono ?_
      rintro e w4 ⟨m, rfl, hN, rfl⟩
      rw [E.out] at hN
      have RR : Hid (NtF (n1 + n2) w (.returned (.slice a m c)) wr) := ⟨a, m, c, rfl, hN, BE.out, FE.out⟩
      clear hN HT
      go_wp2
      go_ret
      exact RR.out
theorem nplus_c (a1 a2 : Option Addr) (k1 k2 c1 c2 n1 n2 : Nat) (w : World) (h1 : Nt w a1 k1 c1 n1) (h2 : Nt w a2 k2 c2 n2) (hk1 : k1 ≤ 99990) (hk2 : k2 ≤ 99990) :
    Calls Tryz.prog 39 #[.slice a1 k1 c1, .slice a2 k2 c2] w (NtPost (n1 + n2) w) := (nplus_f a1 a2 k1 k2 c1 c2 n1 n2 w h1 h2 hk1 hk2).mono fun _ _ h => h.weak
end Go.Proofs.YtdkphfafcmogmaaGreatDoor
namespace Go.Proofs.YtdkphfafcmogmaaGreatDoor
open Go.RowKit

def Mq (w : World) (f1 : Nat → Nat) (f2 : Nat → Nat) (k2 : Nat) (j y : Nat) (g : Nat → Nat) (v : Value) (wr : World) : Prop :=
  Dg w.heap.size w g j v wr ∧ Ld g j ∧ Tn g j + Tn (xt f2 k2) j = Tn f1 j + y * tp j
theorem Mq.step {w : World} {f1 : Nat → Nat} {f2 : Nat → Nat} {k2 : Nat} {j y : Nat} {g : Nat → Nat} {v v' : Value} {wr wr' : World} {s y' : Nat} (h : Mq w f1 f2 k2 j y g v wr)
    (hs : s + (xt f2 k2 j + y) = f1 j + y' * 1000000000) (hs9 : s < 1000000000) (o : Obj)
    (hown : wr'.ownsRow w.heap.size 3 1 v' (j + 1) (dvals g j ++ [.int .i64 (s : Int)])) (hg : (wr.alloc o).grownBy wr' v.ownBlock) :
    Mq w f1 f2 k2 (j + 1) y' (put g j s) v' wr' := by
  refine ⟨h.1.more s hown o hg, ld_more h.2.1 hs9, ?_⟩
  rw [Tn_put, tp_succ, Tn_succ, Tn_succ]
  exact dstep_sub h.2.2 hs
set_option maxRecDepth 100000 in
set_option maxHeartbeats 4000000 in
theorem nminus_f (a1 a2 : Option Addr) (k1 k2 c1 c2 n1 n2 : Nat) (w : World) (h1 : Nt w a1 k1 c1 n1) (h2 : Nt w a2 k2 c2 n2) (hle : n2 ≤ n1) (hk1 : k1 ≤ 99990) :
    Calls Tryz.prog 41 #[.slice a1 k1 c1, .slice a2 k2 c2] w (NtG k1 (n1 - n2) w) := by
  obtain ⟨i0, hi, hz0, hz1, hz2⟩ := info_int
  have hk21 : k2 ≤ k1 := h2.len (Nat.lt_of_le_of_lt hle h1.lt)
  obtain ⟨f1, r1, _, _, _, s1, _⟩ := h1
  obtain ⟨f2, r2, _, _, _, s2, _⟩ := h2
  have R1 := Lib.hid r1
  have R2 := Lib.hid r2
  have S1 := Lib.hid s1
  have S2 := Lib.hid s2
  have HLE := Lib.hid hle
  clear r1 r2 s1 s2 hle
  go_enter Tryz.func41, Tryz.ntmps41
  go_wp2_with fail
  go_loopw [5, 6, 11] (fun v c i wr => ∃ (j y : Nat) (g : Nat → Nat), j ≤ k1 ∧ y ≤ 1 ∧ c = .int .i64 y ∧ i = .int .i64 j ∧ Hid (Mq w f1 f2 k2 j y g v wr)) (fun _ _ i _ => k1 - (intOf i).toNat)
  case atStart => exact ⟨0, 0, fun _ => 0, by omega, by omega, rfl, rfl, Dg.nil w _, fun j hj => by omega, by simp [Tn_zero]⟩
  case round =>
    obtain ⟨j, y, g, hj, hy, rfl, rfl, hR⟩ := hrel
    by_cases l1 : j < k1
    · by_cases l2 : j < k2
      · obtain ⟨b1, o1, rfl, _, g1⟩ := (R1.out.below hR.out.1.bel).at_ l1
        obtain ⟨b2, o2, rfl, _, g2⟩ := (R2.out.below hR.out.1.bel).at_ l2
        have t1 : (j : Int) < (k1 : Int) := by omega
        have t2 : (j : Int) < (k2 : Int) := by omega
        have d1 := R1.out.2.1 j l1
        have d2 := R2.out.2.1 j l2
        have EX : Hid (xt f2 k2 j = f2 j) := ext_lt l2
        obtain ⟨x1, hx1⟩ : ∃ x, f1 j = x := ⟨_, rfl⟩
        rw [hx1] at g1 d1
        have HX := Lib.hid hx1
        clear hx1
        generalize f2 j = x2 at g2 d2 EX
        by_cases hb : x2 + y ≤ x1
        · obtain ⟨s, hs⟩ : ∃ s, x1 - (x2 + y) = s := ⟨_, rfl⟩
          have e0 : (x1 : Int) - (y : Int) - (x2 : Int) = (s : Int) := by omega
          have hs9 : s < 1000000000 := by omega
          have HS : Hid (s + (xt f2 k2 j + y) = f1 j + 0 * 1000000000) := by unfold Hid; rw [EX.out, HX.out]; omega
          clear hs EX hb
          go_wp2_with (at_builtin; refine wpList_append_own _ rfl _ _ 50 rfl w.heap.size 3 i0 (.int .i64 0) 1 8 Tryz.underlying50 hi hz0 hz1 hz2 rfl (by decide) _ _ _ rfl (hR.out.1.row.alloc _) ⟨wr.heap.size, 0, none⟩ 1 1 [.int .i64 (s : Int)] rfl rfl ?c1Ap ?c2Ap ?c3Ap ?c4Ap ?c5Ap ?_)
          try
            case c1Ap =>
              intro i u hu
              match i, hu with
              | 0, hu => simp at hu; subst hu; simp [Addr.add]
          try (case c2Ap => first | (intro u hu; simp at hu; subst hu; rfl) | rfl)
          try (case c3Ap => unfold maxLen; omega)
          try (case c4Ap => omega)
          try (case c5Ap => have := hR.out.1.size; simp; omega)
          intro v' w1 hown' hgrow _
          have NX : Hid (Mq w f1 f2 k2 (j + 1) 0 (put g j s) v' w1) := Mq.step hR.out HS.out hs9 _ hown' hgrow
          clear hown' hgrow hR
          go_wp2
          go_roundw
          case rel => exact ⟨j + 1, 0, put g j s, by omega, by omega, by go_num, by go_num, NX.out⟩
          case measure => simp [intOf]; omega
        · obtain ⟨s, hs⟩ : ∃ s, x1 + 1000000000 - (x2 + y) = s := ⟨_, rfl⟩
          obtain ⟨z, e0⟩ : ∃ z : Int, (x1 : Int) - (y : Int) - (x2 : Int) = z := ⟨_, rfl⟩
          have hzn : z < 0 := by omega
          have hzb : -3000000000 < z := by omega
          have e1 : z + 1000000000 = (s : Int) := by omega
          have hs9 : s < 1000000000 := by omega
          have HS : Hid (s + (xt f2 k2 j + y) = f1 j + 1 * 1000000000) := by unfold Hid; rw [EX.out, HX.out]; omega
          clear hs EX hb
          go_wp2_with (at_builtin; refine wpList_append_own _ rfl _ _ 50 rfl w.heap.size 3 i0 (.int .i64 0) 1 8 Tryz.underlying50 hi hz0 hz1 hz2 rfl (by decide) _ _ _ rfl (hR.out.1.row.alloc _) ⟨wr.heap.size, 0, none⟩ 1 1 [.int .i64 (s : Int)] rfl rfl ?c1Am ?c2Am ?c3Am ?c4Am ?c5Am ?_)
          try
            case c1Am =>
              intro i u hu
              match i, hu with
              | 0, hu => simp at hu; subst hu; simp [Addr.add]
          try (case c2Am => first | (intro u hu; simp at hu; subst hu; rfl) | rfl)
          try (case c3Am => unfold maxLen; omega)
          try (case c4Am => omega)
          try (case c5Am => have := hR.out.1.size; simp; omega)
          intro v' w1 hown' hgrow _
          have NX : Hid (Mq w f1 f2 k2 (j + 1) 1 (put g j s) v' w1) := Mq.step hR.out HS.out hs9 _ hown' hgrow
          clear hown' hgrow hR
          go_wp2
          go_roundw
          case rel => exact ⟨j + 1, 1, put g j s, by omega, by omega, by go_num, by go_num, NX.out⟩
          case measure => simp [intOf]; omega
      · obtain ⟨b1, o1, rfl, _, g1⟩ := (R1.out.below hR.out.1.bel).at_ l1
        have t1 : (j : Int) < (k1 : Int) := by omega
        have t2 : ¬ (j : Int) < (k2 : Int) := by omega
        have d1 := R1.out.2.1 j l1
        have EX : Hid (xt f2 k2 j = 0) := ext_ge (by omega)
        obtain ⟨x1, hx1⟩ : ∃ x, f1 j = x := ⟨_, rfl⟩
        rw [hx1] at g1 d1
        have HX := Lib.hid hx1
        clear hx1
        by_cases hb : y ≤ x1
        · obtain ⟨s, hs⟩ : ∃ s, x1 - (y) = s := ⟨_, rfl⟩
          have e0 : (x1 : Int) - (y : Int) = (s : Int) := by omega
          have hs9 : s < 1000000000 := by omega
          have HS : Hid (s + (xt f2 k2 j + y) = f1 j + 0 * 1000000000) := by unfold Hid; rw [EX.out, HX.out]; omega
          clear hs EX hb
          go_wp2_with (at_builtin; refine wpList_append_own _ rfl _ _ 50 rfl w.heap.size 3 i0 (.int .i64 0) 1 8 Tryz.underlying50 hi hz0 hz1 hz2 rfl (by decide) _ _ _ rfl (hR.out.1.row.alloc _) ⟨wr.heap.size, 0, none⟩ 1 1 [.int .i64 (s : Int)] rfl rfl ?c1Bp ?c2Bp ?c3Bp ?c4Bp ?c5Bp ?_)
          try
            case c1Bp =>
              intro i u hu
              match i, hu with
              | 0, hu => simp at hu; subst hu; simp [Addr.add]
          try (case c2Bp => first | (intro u hu; simp at hu; subst hu; rfl) | rfl)
          try (case c3Bp => unfold maxLen; omega)
          try (case c4Bp => omega)
          try (case c5Bp => have := hR.out.1.size; simp; omega)
          intro v' w1 hown' hgrow _
          have NX : Hid (Mq w f1 f2 k2 (j + 1) 0 (put g j s) v' w1) := Mq.step hR.out HS.out hs9 _ hown' hgrow
          clear hown' hgrow hR
          go_wp2
          go_roundw
          case rel => exact ⟨j + 1, 0, put g j s, by omega, by omega, by go_num, by go_num, NX.out⟩
          case measure => simp [intOf]; omega
        · obtain ⟨s, hs⟩ : ∃ s, x1 + 1000000000 - (y) = s := ⟨_, rfl⟩
          obtain ⟨z, e0⟩ : ∃ z : Int, (x1 : Int) - (y : Int) = z := ⟨_, rfl⟩
          have hzn : z < 0 := by omega
          have hzb : -3000000000 < z := by omega
          have e1 : z + 1000000000 = (s : Int) := by omega
          have hs9 : s < 1000000000 := by omega
          have HS : Hid (s + (xt f2 k2 j + y) = f1 j + 1 * 1000000000) := by unfold Hid; rw [EX.out, HX.out]; omega
          clear hs EX hb
          go_wp2_with (at_builtin; refine wpList_append_own _ rfl _ _ 50 rfl w.heap.size 3 i0 (.int .i64 0) 1 8 Tryz.underlying50 hi hz0 hz1 hz2 rfl (by decide) _ _ _ rfl (hR.out.1.row.alloc _) ⟨wr.heap.size, 0, none⟩ 1 1 [.int .i64 (s : Int)] rfl rfl ?c1Bm ?c2Bm ?c3Bm ?c4Bm ?c5Bm ?_)
          try
            case c1Bm =>
              intro i u hu
              match i, hu with
              | 0, hu => simp at hu; subst hu; simp [Addr.add]
          try (case c2Bm => first | (intro u hu; simp at hu; subst hu; rfl) | rfl)
          try (case c3Bm => unfold maxLen; omega)
          try (case c4Bm => omega)
          try (case c5Bm => have := hR.out.1.size; simp; omega)
          intro v' w1 hown' hgrow _
          have NX : Hid (Mq w f1 f2 k2 (j + 1) 1 (put g j s) v' w1) := Mq.step hR.out HS.out hs9 _ hown' hgrow
          clear hown' hgrow hR
          go_wp2
          go_roundw
          case rel => exact ⟨j + 1, 1, put g j s, by omega, by omega, by go_num, by go_num, NX.out⟩
          case measure => simp [intOf]; omega
    · obtain rfl : j = k1 := by omega
      have E : Hid (Tn g j = n1 - n2) := by
        have h := hR.out.2.2
        rw [ext_sum hk21, S1.out, S2.out] at h
        have t := Tn_lt hR.out.2.1
        have q := HLE.out
        unfold Hid
        obtain rfl | rfl : y = 0 ∨ y = 1 := by omega
        · omega
        · omega
      obtain ⟨a, c, rfl, h1, h2, h3, h4⟩ := hR.out.1.reads (by omega) hR.out.2.1
      have BE := Lib.hid hR.out.1.bel
      have FE := Lib.hid hR.out.1.fresh
      have FS := Lib.hid hR.out.1.some
      have HT := Lib.hid (ntrim_c a j c g wr h1 h2 h3 h4)
      clear h1 h4 hR
      go_wp2_with fail
      refine HT.out.mono ?_
      rintro e w4 ⟨m, rfl, hN, rfl⟩
      rw [E.out] at hN
      have RR : Hid (NtG j (n1 - n2) w (.returned (.slice a m c)) wr) := ⟨a, m, c, rfl, hN, BE.out, FE.out, FS.out⟩
      clear hN HT
      go_wp2
      go_ret
      exact RR.out
theorem nminus_c (a1 a2 : Option Addr) (k1 k2 c1 c2 n1 n2 : Nat) (w : World) (h1 : Nt w a1 k1 c1 n1) (h2 : Nt w a2 k2 c2 n2) (hle : n2 ≤ n1) (hk1 : k1 ≤ 99990) :
    Calls Tryz.prog 41 #[.slice a1 k1 c1, .slice a2 k2 c2] w (NtPost (n1 - n2) w) := (nminus_f a1 a2 k1 k2 c1 c2 n1 n2 w h1 h2 hle hk1).mono fun _ _ h => h.weak
end Go.Proofs.YtdkphfafcmogmaaGreatDoor
