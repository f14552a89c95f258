/-
  Package edit: a box is divided, all of it, for rounds that change blocks of their own.
  Package edit: the iterator over the parts of a box, for rounds that change blocks of their own.
  Package edit: 'for part, fails := range p.parts(box)': the law of the loop, for rounds that change blocks of their own.
  Package edit: the parts of the full box that pass cover the records that pass; what a change costs.
-/
import Derived.Test.YtadfmplafehjlaaDoorEP12
namespace Go.Proofs.YtadfmplafehjlaaDoor
open Go.RowKit Go.WideMaps Go.Maps Go.Shelf

attribute [local go_sem] Oper.semAt_some

theorem set_block (w : World) (b o : Nat) (v : Value) {c : Nat} (h : c ≠ b) : (w.setCell ⟨b, o, none⟩ v).heap[c]? = w.heap[c]? := Below.heap_setCell _ _ _ _ h
/-- Between two parts. -/
structure DwI (N : Nat → Prop) (Ow : World → Nat → Prop) (l : List Fd) (E : List Ed) (rows rest : Prts) (J : Nat → World → Prop) (W : World) (d i : Nat) (B : Nat → Nat) (F pb t x k : Nat) (B' : Nat → Nat) (wr : World) : Prop where
  k20 : t ≤ 20
  x : bz (fun k => (B i).testBit k && decide (t ≤ k)) 20 = x
  bx : BxAt wr pb 0 B'
  bo : ∀ j, j ≠ i → B' j = B j
  fr : ∀ o, wr.frozen? ⟨pb, o, none⟩ = false
  lt : pb < wr.heap.size
  j : J k wr
  bel : Kg N Ow W wr
  no : ¬ Ow wr pb
  dr : rows.drop k = ((lst (fun k => (B i).testBit k && decide (t ≤ k)) 20).flatMap fun k => prt l E d (i + 1) (upd B i (2 ^ k)) (F &&& hdS l E i k)) ++ rest
set_option maxRecDepth 100000 in
set_option maxHeartbeats 16000000 in
theorem divideG_c (w0 : World) (N : Nat → Prop) (Ow : World → Nat → Prop) (p base : Nat) (l : List Fd) (E : List Ed) (l0 : Nat) (rows : Prts) (J Jx : Nat → World → Prop) (hv : Dw w0 N Ow p base l E l0 rows J Jx) (hok : Ok l E) :
    ∀ (d i : Nat) (B : Nat → Nat) (F k : Nat) (rest : Prts) (W : World), i + d = l.length → (∀ j, j < l.length → B j < 2 ^ (fd l j).cs.length) → F < 2 ^ 60 → J k W → rows.drop k = prt l E d i B F ++ rest →
    Calls Tryd.prog 79 #[.pointer (some ⟨p, 0, none⟩), bxV B, .int .i64 i, .int .u64 F, .func (.yield l0) #[] #[]] W (DvQ N Ow rows rest J Jx W) := by
  have mixed : Tryd.prog.follows .mixedOrders = true := by kernel_rfl
  intro d
  induction d with
  | zero =>
    intro i B F k rest W hid hB hF hJ hd
    exact divideG_leaf w0 N Ow p base l E l0 rows rest J Jx hv i B F k W hok.n12 (.inr (by omega)) hJ hd
  | succ d ih =>
    intro i B F k rest W hid hB hF hJ hd
    by_cases h0 : F = 0
    · refine divideG_leaf w0 N Ow p base l E l0 rows rest J Jx hv i B F k W hok.n12 (.inl h0) hJ ?_
      rw [hd]; unfold prt; rw [if_pos h0]; rfl
    have hil : i < l.length := by omega
    have hpr : prt l E (d + 1) i B F = (lst (fun k => (B i).testBit k) 20).flatMap fun k => prt l E d (i + 1) (upd B i (2 ^ k)) (F &&& hdS l E i k) := by
      show (if F = 0 then _ else _) = _
      rw [if_neg h0]
    rw [hpr] at hd
    have h20 := hok.c20 i hil
    have hBi := hB i hil
    have hB20 : B i < 2 ^ 20 := Nat.lt_of_lt_of_le hBi (Nat.pow_le_pow_right (by omega) h20)
    obtain ⟨W1, hW1⟩ : ∃ V, W.alloc (.cells #[.int .u64 (B 0), .int .u64 (B 1), .int .u64 (B 2), .int .u64 (B 3), .int .u64 (B 4), .int .u64 (B 5), .int .u64 (B 6), .int .u64 (B 7), .int .u64 (B 8), .int .u64 (B 9), .int .u64 (B 10), .int .u64 (B 11)] 57) = V := ⟨_, rfl⟩
    obtain ⟨W2, hW2⟩ : ∃ V, W1.alloc (.cells #[.int .u64 (B 0), .int .u64 (B 1), .int .u64 (B 2), .int .u64 (B 3), .int .u64 (B 4), .int .u64 (B 5), .int .u64 (B 6), .int .u64 (B 7), .int .u64 (B 8), .int .u64 (B 9), .int .u64 (B 10), .int .u64 (B 11)] 57) = V := ⟨_, rfl⟩
    obtain ⟨q, hq⟩ : ∃ q, W.heap.size = q := ⟨_, rfl⟩
    obtain ⟨pb, hpb⟩ : ∃ q, W1.heap.size = q := ⟨_, rfl⟩
    have b1 : Below W.heap.size W W1 := by rw [← hW1]; exact bel_one _ _
    have b2 : Below W1.heap.size W1 W2 := by rw [← hW2]; exact bel_one _ _
    have B2 : Hid (Below W.heap.size W W2) := b1.trans (b2.mono b1.size)
    have X1 : BxAt W1 q 0 B ∧ q < W1.heap.size := by rw [← hW1, ← hq]; exact ⟨bx_made W B, by simp⟩
    have X2 : Hid (BxAt W2 pb 0 B ∧ pb < W2.heap.size ∧ ∀ o, W2.frozen? ⟨pb, o, none⟩ = false) := by unfold Hid; rw [← hW2, ← hpb]; exact ⟨bx_made W1 B, by simp, fun o => by simp⟩
    have HBS := Lib.hid (hv.i k W hJ).2
    have HPB : Hid (base ≤ pb ∧ W.heap.size ≤ pb) := by
      have h1 := HBS.out
      have h2 := b1.size
      unfold Hid
      omega
    have J2 := (hv.bel hJ B2.out).1
    have K2 : Hid (Kg N Ow W W2) := (hv.bel hJ B2.out).2
    have HO : Hid (¬ Ow W2 pb) := fun e => by
      have h1 := hv.w k W W2 hJ (B2.out.mono HBS.out) pb e
      have h2 := (hv.o k W hJ pb h1).2
      have h3 := HPB.out.2
      omega
    have P1 := hv.pl.below (hv.i k W1 ((hv.bel hJ b1).1)).1
    obtain ⟨fb, fc, f0, _, hfa⟩ := hv.pl.fs
    have HFA := Lib.hid hfa
    have HF0 := Lib.hid f0
    have HV := Lib.hid hv
    have fW : ∀ V, Below w0.heap.size w0 V → V.cell? ⟨p, 0, none⟩ = some (.slice (some ⟨fb, 0, none⟩) l.length fc) := fun V hV => (hV.cell (p := ⟨p, 0, none⟩) (cellLt f0)).trans f0
    have f1 := fW W1 (hv.i k W1 ((hv.bel hJ b1).1)).1
    have g0 : ((F : Int) == 0) = false := by rw [beq_eq_false_iff_ne]; omega
    obtain ⟨n, hn⟩ : ∃ n, l.length = n := ⟨_, rfl⟩
    have HN := Lib.hid hn
    have g1 : ((i : Int) == (n : Int)) = false := by rw [beq_eq_false_iff_ne]; omega
    have hi0 : (0 : Int) ≤ (i : Int) := by omega
    have hin : (i : Int) < (n : Int) := by omega
    have hi12 : (i : Int) < 12 := by have := hok.n12; omega
    have hi12' : i < 12 := by omega
    rw [hn] at f1
    have HOK := Lib.hid hok
    have HIH := Lib.hid ih
    have HB := Lib.hid hB
    have HF := Lib.hid hF
    have HIL := Lib.hid hil
    have HID : Hid (i + 1 + d = l.length) := by unfold Hid; omega
    have hxi : W2.cell? ⟨q, i, none⟩ = some (.int .u64 (B i)) := by
      have := (b2.cell (p := ⟨q, 0 + i, none⟩) X1.2).trans (X1.1 i hi12')
      rwa [Nat.zero_add] at this
    obtain ⟨x0v, hx0⟩ : ∃ v, B i = v := ⟨_, rfl⟩
    rw [hx0] at hxi
    have I0 : Hid (DwI N Ow l E rows rest J W d i B F pb 0 x0v k B W2) := by
      refine ⟨by omega, ?_, X2.out.1, fun _ _ => rfl, X2.out.2.2, X2.out.2.1, J2, K2.out, HO.out, ?_⟩
      · rw [← hx0]
        refine Eq.trans (bz_ext fun j _ => by simp) (bz_self hB20)
      · rw [hd]
        congr 2
        congr 1
        funext j; simp
    have HX1 := Lib.hid X1
    have x0 := X1.1 0 (by decide)
    have x1 := X1.1 1 (by decide)
    have x2 := X1.1 2 (by decide)
    have x3 := X1.1 3 (by decide)
    have x4 := X1.1 4 (by decide)
    have x5 := X1.1 5 (by decide)
    have x6 := X1.1 6 (by decide)
    have x7 := X1.1 7 (by decide)
    have x8 := X1.1 8 (by decide)
    have x9 := X1.1 9 (by decide)
    have x10 := X1.1 10 (by decide)
    have x11 := X1.1 11 (by decide)
    simp only [Nat.zero_add] at x0 x1 x2 x3 x4 x5 x6 x7 x8 x9 x10 x11
    clear hfa hv hok ih hid hB hF hJ hd hpr h20 hBi hB20 b1 b2 J2 P1 f0 fW hn hil hx0 X1 h0
    unfold bxV
    go_enter Tryd.func79, Tryd.ntmps79
    go_wp2_with fail
    clear x0 x1 x2 x3 x4 x5 x6 x7 x8 x9 x10 x11 hxi f1 hW1 hW2
    go_loopw [12] (fun rv wr => ∃ (t x kk : Nat) (B' : Nat → Nat), rv = .int .u64 x ∧ Hid (DwI N Ow l E rows rest J W d i B F pb t x kk B' wr)) (fun rv _ => (intOf rv).toNat)
    case atStart => exact ⟨0, x0v, k, B, rfl, I0.out⟩
    case round =>
      clear I0
      obtain ⟨t0, x, kk, B', rfl, hS⟩ := hrel
      have I := hS.out
      by_cases h0 : x = 0
      · have hx0 : ((0 : Int) != 0) = false := rfl
        have PP : Hid (DvQ N Ow rows rest J Jx W (.returned (.bool true)) wr) := by
          refine .inl ⟨rfl, kk, I.j, I.bel, ?_⟩
          rw [I.dr]
          have : lst (fun k => (B i).testBit k && decide (t0 ≤ k)) 20 = [] := by
            have h := I.x
            rw [h0] at h
            rw [lst_none (k := 0) (fun j hj _ => bz_zero.1 h j hj) (Nat.zero_le _)]; rfl
          rw [this]; rfl
        subst h0
        clear I hS
        go_wp2
        go_ret
        exact PP.out
      · have hxx := I.x
        have hx64 : x < 18446744073709551616 := by rw [← hxx]; exact Nat.lt_of_lt_of_le (bz_lt _ 20) (Nat.pow_le_pow_right (by omega) (show 20 ≤ 64 by omega))
        have hne : ((x : Int) == 0) = false := by rw [beq_eq_false_iff_ne]; omega
        have hne' : ((x : Int) != 0) = true := by rw [bne, hne]; rfl
        obtain ⟨t, ht1, ht2, ht3⟩ := bz_first (p := fun j => (B i).testBit j && decide (t0 ≤ j)) (n := 20) (by rw [hxx]; exact h0)
        have htk : t0 ≤ t ∧ (B i).testBit t = true := by simp at ht2; exact ⟨ht2.2, ht2.1⟩
        have htc : t < (fd l i).cs.length := bits_lt (HB.out i HIL.out) htk.2
        have hJi := HV.out.i kk wr I.j
        have C := Lib.hid (first_c x wr hx64 h0 (tab_below HV.out.tab HV.out.tl hJi.1))
        have hc : Lib.ctz 64 x = t := by rw [← hxx]; exact ctz_bz (by omega) ht1 ht2 ht3
        rw [hc] at C
        have C8 : Hid (∀ V, Calls Tryd.prog 70 #[.int .i64 t] V fun e w' => e = .returned (.int .u64 ((2 ^ t : Nat) : Int)) ∧ w' = V) := fun V => only_c t V (by omega)
        have hand : bits .and .u64 (x : Int) ((x - 1 : Nat) : Int) = ((x &&& (x - 1) : Nat) : Int) := Go.u64_and_nat _ _ hx64 (by omega)
        have hsub : IntKind.u64.wrap ((x : Int) - 1) = ((x - 1 : Nat) : Int) := by rw [IntKind.wrap_u64]; omega
        obtain ⟨z, hz⟩ : ∃ y, x &&& (x - 1) = y := ⟨_, rfl⟩
        have hzlt : z < x := by rw [← hz]; have := Nat.and_le_right (n := x) (m := x - 1); omega
        have HZ : Hid (bz (fun j => (B i).testBit j && decide (t + 1 ≤ j)) 20 = z) := by
          unfold Hid
          rw [← hz, ← hxx, bz_pred ht1 ht2 ht3]
          refine bz_ext fun j _ => ?_
          have := htk.1
          rw [Bool.eq_iff_iff]; simp
          exact ⟨fun a => ⟨⟨a.1, by omega⟩, by omega⟩, fun a => ⟨a.1.1, by omega⟩⟩
        have HL : Hid (lst (fun k => (B i).testBit k && decide (t0 ≤ k)) 20 = t :: lst (fun k => (B i).testBit k && decide (t + 1 ≤ k)) 20) := by
          unfold Hid
          have h := lst_head (q := fun k => (B i).testBit k && decide (t0 ≤ k)) ht2 ht3 (20 - (t + 1))
          rw [show t + 1 + (20 - (t + 1)) = 20 by omega] at h
          rw [h]
          congr 2
          funext j
          have := htk.1
          rw [Bool.eq_iff_iff]; simp
          exact ⟨fun a => ⟨a.1.1, by omega⟩, fun a => ⟨⟨a.1, by omega⟩, by omega⟩⟩
        obtain ⟨z1, hz1⟩ : ∃ z, x - 1 = z := ⟨_, rfl⟩
        rw [hz, hz1] at hand
        rw [hz1] at hsub
        obtain ⟨_, _, h, c4', c4, hlt4, hh⟩ := HFA.out i HIL.out
        have c5 := hh t htc
        obtain ⟨hk, hhk⟩ : ∃ v, hdS l E i t = v := ⟨_, rfl⟩
        have hklt : hk < 18446744073709551616 := by rw [← hhk]; exact hd_lt _ _ _ _ HOK.out.m60
        obtain ⟨m, hm⟩ : ∃ m, (fd l i).cs.length = m := ⟨_, rfl⟩
        rw [hhk] at c5
        rw [hm] at c4 htc
        have ht0 : (0 : Int) ≤ (t : Int) := by omega
        have htm : (t : Int) < (m : Int) := by omega
        have hF64 : F < 18446744073709551616 := Nat.lt_of_lt_of_le HF.out (by decide)
        have handF : bits .and .u64 (F : Int) (hk : Int) = ((F &&& hk : Nat) : Int) := Go.u64_and_nat _ _ hF64 hklt
        obtain ⟨y, hy⟩ : ∃ y, F &&& hk = y := ⟨_, rfl⟩
        have hy60 : y < 2 ^ 60 := by rw [← hy]; exact Nat.lt_of_le_of_lt Nat.and_le_left HF.out
        rw [hy] at handF
        obtain ⟨p2, hp2⟩ : ∃ v, 2 ^ t = v := ⟨_, rfl⟩
        rw [hp2] at C8
        obtain ⟨C', hC'⟩ : ∃ D, upd B i p2 = D := ⟨_, rfl⟩
        have hI := HV.out
        obtain ⟨W5, hW5⟩ : ∃ V, wr.setCell ⟨pb, i, none⟩ (.int .u64 p2) = V := ⟨_, rfl⟩
        have BX5 : BxAt W5 pb 0 C' := by
          have h1 := I.bx.set (k := i) hi12' p2
          rw [Nat.zero_add, hW5] at h1
          have e : upd B' i p2 = C' := by
            rw [← hC']
            funext j
            unfold upd
            by_cases e : j = i
            · rw [if_pos e, if_pos e]
            · rw [if_neg e, if_neg e]; exact I.bo j e
          rw [e] at h1; exact h1
        have B5 : Below base wr W5 := by rw [← hW5]; exact (Below.refl base wr).setCell (p := ⟨pb, i, none⟩) HPB.out.1 _
        have E5 : ∀ b, b ≠ pb → W5.heap[b]? = wr.heap[b]? := fun b hb => by rw [← hW5]; exact set_block wr pb i _ hb
        have BW5 : Hid (Kg N Ow W W5) := by
          refine ⟨B5.os.trans I.bel.os, B5.tape.trans I.bel.tape, B5.output.trans I.bel.output, Nat.le_trans I.bel.size B5.size, fun b hb hn ho => ?_, fun b hb => I.bel.ow b (hI.w kk wr W5 I.j B5 b hb)⟩
          have h1 := HPB.out.2
          exact (E5 b (by omega)).trans (I.bel.block b hb hn ho)
        have NO5 : Hid (¬ Ow W5 pb) := fun e => I.no (hI.w kk wr W5 I.j B5 pb e)
        have J5 : Hid (J kk W5) := hI.b kk wr _ I.j B5 fun b hb => E5 b (fun e => I.no (e ▸ hb))
        have S5 : Hid (base ≤ W5.heap.size) := (hI.i kk W5 J5.out).2
        have l5 : pb < W5.heap.size := cellLt (BX5 0 (by omega))
        have HS5 : Hid (S15 pb C' ⟨p, 0, none⟩ ⟨fb, i * 5 + 4, none⟩ ⟨h, t, none⟩ (.slice (some ⟨fb, 0, none⟩) n fc) (.slice (some ⟨h, 0, none⟩) m c4') (.int .u64 (hk : Nat)) W5) := by
          have b0 := (hI.i kk W5 J5.out).1
          have e0 := (b0.cell (p := ⟨p, 0, none⟩) (cellLt HF0.out)).trans HF0.out
          rw [HN.out] at e0
          have e1 := (b0.cell (p := ⟨fb, i * 5 + 4, none⟩) (cellLt c4)).trans c4
          have e2 := (b0.cell (p := ⟨h, t, none⟩) hlt4).trans c5
          have X := fun j (hj : j < 12) => (by have := BX5 j hj; rwa [Nat.zero_add] at this : W5.cell? ⟨pb, j, none⟩ = some (.int .u64 (C' j)))
          exact ⟨X 0 (by omega), X 1 (by omega), X 2 (by omega), X 3 (by omega), X 4 (by omega), X 5 (by omega), X 6 (by omega), X 7 (by omega), X 8 (by omega), X 9 (by omega), X 10 (by omega), X 11 (by omega), e0, e1, e2⟩
        have HSK : Hid (∀ V, Kg N Ow W5 V → S15 pb C' ⟨p, 0, none⟩ ⟨fb, i * 5 + 4, none⟩ ⟨h, t, none⟩ (.slice (some ⟨fb, 0, none⟩) n fc) (.slice (some ⟨h, 0, none⟩) m c4') (.int .u64 (hk : Nat)) V) := fun V hV => by
          have n1 : ¬ N pb := fun e => by have := (hI.n pb e).2; have := HPB.out.1; omega
          have n2 : ∀ b, b < w0.heap.size → ¬ N b := fun b hb e => by have := (hI.n b e).1; omega
          have o1 := NO5.out
          have o2 : ∀ b, b < w0.heap.size → ¬ Ow W5 b := fun b hb e => by have := (hI.o kk W5 J5.out b e).1; have := hI.wb; omega
          obtain ⟨s0, s1, s2, s3, s4, s5, s6, s7, s8, s9, s10, s11, s12, s13, s14⟩ := HS5.out
          exact ⟨hV.cell s0 n1 o1, hV.cell s1 n1 o1, hV.cell s2 n1 o1, hV.cell s3 n1 o1, hV.cell s4 n1 o1, hV.cell s5 n1 o1, hV.cell s6 n1 o1, hV.cell s7 n1 o1, hV.cell s8 n1 o1, hV.cell s9 n1 o1, hV.cell s10 n1 o1, hV.cell s11 n1 o1,
            hV.cell s12 (n2 _ (cellLt HF0.out)) (o2 _ (cellLt HF0.out)), hV.cell s13 (n2 _ (cellLt c4)) (o2 _ (cellLt c4)), hV.cell s14 (n2 _ hlt4) (o2 _ hlt4)⟩
        obtain ⟨rest1, hrest⟩ : ∃ r, ((lst (fun k => (B i).testBit k && decide (t + 1 ≤ k)) 20).flatMap fun k => prt l E d (i + 1) (upd B i (2 ^ k)) (F &&& hdS l E i k)) ++ rest = r := ⟨_, rfl⟩
        have hdr : rows.drop kk = prt l E d (i + 1) C' y ++ rest1 := by
          rw [I.dr, HL.out, List.flatMap_cons, List.append_assoc, hrest, hhk, hy, hp2, hC']
        have C9 : ∀ V, Below W5.heap.size W5 V → Calls Tryd.prog 79 #[.pointer (some ⟨p, 0, none⟩), bxV C', .int .i64 ((i + 1 : Nat) : Int), .int .u64 y, .func (.yield l0) #[] #[]] V (DvQ N Ow rows rest1 J Jx V) := fun V hV =>
          HIH.out (i + 1) C' y kk rest1 V HID.out (fun j hj => by
            rw [← hC', ← hp2]
            unfold upd
            by_cases e : j = i
            · rw [if_pos e, e]; exact Nat.pow_lt_pow_right (by omega) (by omega)
            · rw [if_neg e]; exact HB.out j hj) hy60 ((hI.bel J5.out hV).1) hdr
        have ek1 : ((i + 1 : Nat) : Int) = (i : Int) + 1 := by omega
        have hw1 : IntKind.i64.wrap ((i : Int) + 1) = (i : Int) + 1 := by rw [IntKind.wrap_i64]; omega
        rw [ek1] at C9
        unfold bxV DvQ at C9
        have C9 := Lib.hid C9
        have NPB : Hid (¬ N pb) := fun e => by have := (hI.n pb e).2; have := HPB.out.1; omega
        have KD : Hid (∀ V, Below W5.heap.size W5 V → Kg N Ow W5 V) := fun V hV => (hI.bel J5.out hV).2
        have NXT : Hid (∀ V, Kg N Ow W5 V → ∀ k', J k' V → rows.drop k' = rest1 → DwI N Ow l E rows rest J W d i B F pb (t + 1) z k' C' V) := fun V hV k' hJ' hd' => by
          have hblk := hV.block pb l5 NPB.out NO5.out
          refine ⟨by omega, HZ.out, fun j hj => (show V.cell? ⟨pb, 0 + j, none⟩ = W5.cell? ⟨pb, 0 + j, none⟩ from World.cell?_of_block hblk).trans (BX5 j hj), fun j hj => by rw [← hC']; unfold upd; rw [if_neg hj], fun o => ?_, Nat.lt_of_lt_of_le l5 hV.size, hJ', BW5.out.trans hV, fun e => ?_, by rw [hd', hrest]⟩
          · refine (show V.frozen? ⟨pb, o, none⟩ = W5.frozen? ⟨pb, o, none⟩ from World.frozen?_of_block hblk).trans ?_
            rw [← hW5, World.frozen?_setCell]; exact I.fr o
          · rcases hV.ow pb e with q | q
            · exact NO5.out q
            · omega
        have d0 := I.bx i hi12'
        rw [Nat.zero_add] at d0
        obtain ⟨dv, hdv⟩ : ∃ v, B' i = v := ⟨_, rfl⟩
        rw [hdv] at d0
        have d1 := I.fr i
        clear I hS B5 E5 hxx ht2 ht3 htk hJi hc hz h0 hne hh c5 c4 hhk hklt hm hF64 hy hy60 hp2 hC' hI BX5 l5 hrest hdr hdv htc hx64
        go_wp2_with fail
        refine C.out.mono ?_
        rintro e1 w3 ⟨rfl, rfl⟩
        go_wp2_with fail
        refine (C8.out _).mono ?_
        rintro e1 w4 ⟨rfl, rfl⟩
        go_wp2_with fail
        try rw [hW5]
        clear d0 d1 hW5
        refine wp_region_noPanic ?_
        refine wp_region_held_drew (S := (S15 pb C' ⟨p, 0, none⟩ ⟨fb, i * 5 + 4, none⟩ ⟨h, t, none⟩ (.slice (some ⟨fb, 0, none⟩) n fc) (.slice (some ⟨h, 0, none⟩) m c4') (.int .u64 (hk : Nat)))) (by kernel_rfl) (by exact HS5.out) (fun hS => ?_)
        obtain ⟨WD, hWD⟩ : ∃ W, W5.drew = W := ⟨_, rfl⟩
        have D0 : Hid (Below W5.heap.size W5 WD) := by unfold Hid; rw [← hWD]; exact (Below.refl _ _).drew
        rw [hWD] at hS ⊢
        clear hWD
        refine wpAnyH_take (i := 0) (v := ?v0a0) rfl (by kernel_rfl) (by kernel_rfl) (by kernel_rfl) (fun _ _ _ h => h) (Or.inl ⟨by rfl, ?hy0a0⟩) (by assumption) ?rest0a0
        case hy0a0 =>
          intro w hSw
          dsimp only [S15] at hSw
          go_simp
          try with_reducible rfl
        simp only [Act.put, List.getElem_toArray, List.getElem_cons_succ, List.getElem_cons_zero, List.setIfInBounds_toArray, List.set_cons_zero, List.set_cons_succ]
        refine wpAnyH_take (i := 1) (v := ?v1a1) rfl (by kernel_rfl) (by kernel_rfl) (by kernel_rfl) (fun _ _ _ h => h) (Or.inl ⟨by rfl, ?hy1a1⟩) (by assumption) ?rest1a1
        case hy1a1 =>
          intro w hSw
          dsimp only [S15] at hSw
          go_simp
          try with_reducible rfl
        simp only [Act.put, List.getElem_toArray, List.getElem_cons_succ, List.getElem_cons_zero, List.setIfInBounds_toArray, List.set_cons_zero, List.set_cons_succ]
        refine wpAnyH_take (i := 2) (v := ?v2a2) rfl (by kernel_rfl) (by kernel_rfl) (by kernel_rfl) (fun _ _ _ h => h) (Or.inl ⟨by rfl, ?hy2a2⟩) (by assumption) ?rest2a2
        case hy2a2 =>
          intro w hSw
          dsimp only [S15] at hSw
          go_simp
          try with_reducible rfl
        simp only [Act.put, List.getElem_toArray, List.getElem_cons_succ, List.getElem_cons_zero, List.setIfInBounds_toArray, List.set_cons_zero, List.set_cons_succ]
        refine wpAnyH_take (i := 3) (v := ?v3a3) rfl (by kernel_rfl) (by kernel_rfl) (by kernel_rfl) (fun _ _ _ h => h) (Or.inl ⟨by rfl, ?hy3a3⟩) (by assumption) ?rest3a3
        case hy3a3 =>
          intro w hSw
          dsimp only [S15] at hSw
          go_simp
          try with_reducible rfl
        simp only [Act.put, List.getElem_toArray, List.getElem_cons_succ, List.getElem_cons_zero, List.setIfInBounds_toArray, List.set_cons_zero, List.set_cons_succ]
        refine wpAnyH_take (i := 4) (v := ?v4a4) rfl (by kernel_rfl) (by kernel_rfl) (by kernel_rfl) (fun _ _ _ h => h) (Or.inl ⟨by rfl, ?hy4a4⟩) (by assumption) ?rest4a4
        case hy4a4 =>
          intro w hSw
          dsimp only [S15] at hSw
          go_simp
          try with_reducible rfl
        simp only [Act.put, List.getElem_toArray, List.getElem_cons_succ, List.getElem_cons_zero, List.setIfInBounds_toArray, List.set_cons_zero, List.set_cons_succ]
        refine wpAnyH_take (i := 5) (v := ?v5a5) rfl (by kernel_rfl) (by kernel_rfl) (by kernel_rfl) (fun _ _ _ h => h) (Or.inl ⟨by rfl, ?hy5a5⟩) (by assumption) ?rest5a5
        case hy5a5 =>
          intro w hSw
          dsimp only [S15] at hSw
          go_simp
          try with_reducible rfl
        simp only [Act.put, List.getElem_toArray, List.getElem_cons_succ, List.getElem_cons_zero, List.setIfInBounds_toArray, List.set_cons_zero, List.set_cons_succ]
        refine wpAnyH_take (i := 6) (v := ?v6a6) rfl (by kernel_rfl) (by kernel_rfl) (by kernel_rfl) (fun _ _ _ h => h) (Or.inl ⟨by rfl, ?hy6a6⟩) (by assumption) ?rest6a6
        case hy6a6 =>
          intro w hSw
          dsimp only [S15] at hSw
          go_simp
          try with_reducible rfl
        simp only [Act.put, List.getElem_toArray, List.getElem_cons_succ, List.getElem_cons_zero, List.setIfInBounds_toArray, List.set_cons_zero, List.set_cons_succ]
        refine wpAnyH_take (i := 7) (v := ?v7a7) rfl (by kernel_rfl) (by kernel_rfl) (by kernel_rfl) (fun _ _ _ h => h) (Or.inl ⟨by rfl, ?hy7a7⟩) (by assumption) ?rest7a7
        case hy7a7 =>
          intro w hSw
          dsimp only [S15] at hSw
          go_simp
          try with_reducible rfl
        simp only [Act.put, List.getElem_toArray, List.getElem_cons_succ, List.getElem_cons_zero, List.setIfInBounds_toArray, List.set_cons_zero, List.set_cons_succ]
        refine wpAnyH_take (i := 8) (v := ?v8a8) rfl (by kernel_rfl) (by kernel_rfl) (by kernel_rfl) (fun _ _ _ h => h) (Or.inl ⟨by rfl, ?hy8a8⟩) (by assumption) ?rest8a8
        case hy8a8 =>
          intro w hSw
          dsimp only [S15] at hSw
          go_simp
          try with_reducible rfl
        simp only [Act.put, List.getElem_toArray, List.getElem_cons_succ, List.getElem_cons_zero, List.setIfInBounds_toArray, List.set_cons_zero, List.set_cons_succ]
        refine wpAnyH_take (i := 9) (v := ?v9a9) rfl (by kernel_rfl) (by kernel_rfl) (by kernel_rfl) (fun _ _ _ h => h) (Or.inl ⟨by rfl, ?hy9a9⟩) (by assumption) ?rest9a9
        case hy9a9 =>
          intro w hSw
          dsimp only [S15] at hSw
          go_simp
          try with_reducible rfl
        simp only [Act.put, List.getElem_toArray, List.getElem_cons_succ, List.getElem_cons_zero, List.setIfInBounds_toArray, List.set_cons_zero, List.set_cons_succ]
        refine wpAnyH_take (i := 10) (v := ?v10a10) rfl (by kernel_rfl) (by kernel_rfl) (by kernel_rfl) (fun _ _ _ h => h) (Or.inl ⟨by rfl, ?hy10a10⟩) (by assumption) ?rest10a10
        case hy10a10 =>
          intro w hSw
          dsimp only [S15] at hSw
          go_simp
          try with_reducible rfl
        simp only [Act.put, List.getElem_toArray, List.getElem_cons_succ, List.getElem_cons_zero, List.setIfInBounds_toArray, List.set_cons_zero, List.set_cons_succ]
        refine wpAnyH_take (i := 11) (v := ?v11a11) rfl (by kernel_rfl) (by kernel_rfl) (by kernel_rfl) (fun _ _ _ h => h) (Or.inl ⟨by rfl, ?hy11a11⟩) (by assumption) ?rest11a11
        case hy11a11 =>
          intro w hSw
          dsimp only [S15] at hSw
          go_simp
          try with_reducible rfl
        simp only [Act.put, List.getElem_toArray, List.getElem_cons_succ, List.getElem_cons_zero, List.setIfInBounds_toArray, List.set_cons_zero, List.set_cons_succ]
        refine wpAnyH_take (i := 12) (v := ?v12a12) rfl (by kernel_rfl) (by kernel_rfl) (by kernel_rfl) (fun _ _ _ h => h) (Or.inl ⟨by rfl, ?hy12a12⟩) (by assumption) ?rest12a12
        case hy12a12 =>
          intro w hSw
          dsimp only [S15] at hSw
          go_simp
          try with_reducible rfl
        simp only [Act.put, List.getElem_toArray, List.getElem_cons_succ, List.getElem_cons_zero, List.setIfInBounds_toArray, List.set_cons_zero, List.set_cons_succ]
        refine wpAnyH_take (i := 13) (v := ?v13a13) rfl (by kernel_rfl) (by kernel_rfl) (by kernel_rfl) (fun _ _ _ h => h) (Or.inl ⟨by rfl, ?hy13a13⟩) (by assumption) ?rest13a13
        case hy13a13 =>
          intro w hSw
          dsimp only [S15] at hSw
          go_simp
          try with_reducible rfl
        simp only [Act.put, List.getElem_toArray, List.getElem_cons_succ, List.getElem_cons_zero, List.setIfInBounds_toArray, List.set_cons_zero, List.set_cons_succ]
        refine wpAnyH_take (i := 14) (v := ?v14a14) rfl (by kernel_rfl) (by kernel_rfl) (by kernel_rfl) (fun _ _ _ h => h) (Or.inl ⟨by rfl, ?hy14a14⟩) (by assumption) ?rest14a14
        case hy14a14 =>
          intro w hSw
          dsimp only [S15] at hSw
          go_simp
          try with_reducible rfl
        simp only [Act.put, List.getElem_toArray, List.getElem_cons_succ, List.getElem_cons_zero, List.setIfInBounds_toArray, List.set_cons_zero, List.set_cons_succ]
        refine wpAnyH_take (i := 15) (v := ?v15a15) rfl (by kernel_rfl) (by kernel_rfl) (by kernel_rfl) (fun _ _ _ h => h) (Or.inl ⟨by rfl, ?hy15a15⟩) (by assumption) ?rest15a15
        case hy15a15 =>
          intro w hSw
          dsimp only [S15] at hSw
          go_simp
          try with_reducible rfl
        simp only [Act.put, List.getElem_toArray, List.getElem_cons_succ, List.getElem_cons_zero, List.setIfInBounds_toArray, List.set_cons_zero, List.set_cons_succ]
        refine wpAnyH_take (i := 16) (v := ?v16a16) rfl (by kernel_rfl) (by kernel_rfl) (by kernel_rfl) (fun _ _ _ h => h) (Or.inl ⟨by rfl, ?hy16a16⟩) (by assumption) ?rest16a16
        case hy16a16 =>
          intro w hSw
          dsimp only [S15] at hSw
          go_simp
          try with_reducible rfl
        simp only [Act.put, List.getElem_toArray, List.getElem_cons_succ, List.getElem_cons_zero, List.setIfInBounds_toArray, List.set_cons_zero, List.set_cons_succ]
        refine wpAnyH_take (i := 17) (v := ?v17a17) rfl (by kernel_rfl) (by kernel_rfl) (by kernel_rfl) (fun _ _ _ h => h) (Or.inl ⟨by rfl, ?hy17a17⟩) (by assumption) ?rest17a17
        case hy17a17 =>
          intro w hSw
          dsimp only [S15] at hSw
          go_simp
          try with_reducible rfl
        simp only [Act.put, List.getElem_toArray, List.getElem_cons_succ, List.getElem_cons_zero, List.setIfInBounds_toArray, List.set_cons_zero, List.set_cons_succ]
        refine wpAnyH_ready (rs := [18]) (by kernel_rfl) (by simp) ?_
        refine AllReadyH.cons rfl (fun K hK => ?_) AllReadyH.nil
        go_simp
        refine (C9.out WD D0.out).mono ?_
        rintro e1 w6 (⟨rfl, k', hJ6, b6, hd6⟩ | ⟨rfl, k', hk6, hJ6, kx6⟩)
        · have hT := HSK.out w6 ((KD.out WD D0.out).trans b6)
          have NX := Lib.hid (NXT.out w6 ((KD.out WD D0.out).trans b6) k' hJ6 hd6)
          clear hJ6 hd6 b6
          try go_simp
          refine hK _ _ hT (fun _ => ?_)
          clear hK K hT
          try simp only [Act.put, List.setIfInBounds_toArray, List.set_cons_zero, List.set_cons_succ]
          refine wpAnyH_take (i := 19) (v := ?v19b19) rfl (by kernel_rfl) (by kernel_rfl) (by kernel_rfl) (fun _ _ _ h => h) (Or.inl ⟨by rfl, ?hy19b19⟩) (by assumption) ?rest19b19
          case hy19b19 =>
            intro w hSw
            dsimp only [S15] at hSw
            go_simp
            try with_reducible rfl
          simp only [Act.put, List.getElem_toArray, List.getElem_cons_succ, List.getElem_cons_zero, List.setIfInBounds_toArray, List.set_cons_zero, List.set_cons_succ]
          refine wpAnyH_done (by kernel_rfl) ?_ _
          refine NoPanic.normal ?_
          clear hS
          go_wp2
          go_roundw
          case rel => exact ⟨t + 1, z, k', C', by go_num, NX.out⟩
          case measure => simp [intOf]; omega
        · have hT := HSK.out w6 ((KD.out WD D0.out).trans kx6)
          have PP : Hid (DvQ N Ow rows rest J Jx W (.returned (.bool false)) w6) := .inr ⟨rfl, k', hk6, hJ6, BW5.out.trans ((KD.out WD D0.out).trans kx6)⟩
          clear hJ6 hk6 kx6
          try go_simp
          refine hK _ _ hT (fun _ => ?_)
          clear hK K hT
          try simp only [Act.put, List.setIfInBounds_toArray, List.set_cons_zero, List.set_cons_succ]
          refine wpAnyH_take (i := 19) (v := ?v19c19) rfl (by kernel_rfl) (by kernel_rfl) (by kernel_rfl) (fun _ _ _ h => h) (Or.inl ⟨by rfl, ?hy19c19⟩) (by assumption) ?rest19c19
          case hy19c19 =>
            intro w hSw
            dsimp only [S15] at hSw
            go_simp
            try with_reducible rfl
          simp only [Act.put, List.getElem_toArray, List.getElem_cons_succ, List.getElem_cons_zero, List.setIfInBounds_toArray, List.set_cons_zero, List.set_cons_succ]
          refine wpAnyH_done (by kernel_rfl) ?_ _
          refine NoPanic.normal ?_
          clear hS
          go_wp2
          go_ret
          exact PP.out
end Go.Proofs.YtadfmplafehjlaaDoor
namespace Go.Proofs.YtadfmplafehjlaaDoor
open Go.RowKit Go.WideMaps Go.Maps Go.Shelf

attribute [local go_sem] Oper.semAt_some

set_option maxRecDepth 100000 in
set_option maxHeartbeats 4000000 in
theorem parts1G_c (w0 : World) (N : Nat → Prop) (Ow : World → Nat → Prop) (p base : Nat) (l : List Fd) (E : List Ed) (l0 : Nat) (B : Nat → Nat) (J Jx : Nat → World → Prop) (hv : Dw w0 N Ow p base l E l0 (prs l E B) J Jx) (hok : Ok l E) (hB : ∀ j, j < l.length → B j < 2 ^ (fd l j).cs.length)
    (hkl : ∀ k W, J k W → k ≤ (prs l E B).length) (b1 b2 : Nat) (n1 : ¬ N b1 ∧ b1 < base) (n2 : ¬ N b2 ∧ b2 < base) (W : World) (h0 : J 0 W) (hc1 : W.cell? ⟨b1, 0, none⟩ = some (.pointer (some ⟨p, 0, none⟩))) (hc2 : BxAt W b2 0 B) :
    Calls Tryd.prog 78 #[.func (.yield l0) #[] #[], .pointer (some ⟨b1, 0, none⟩), .pointer (some ⟨b2, 0, none⟩)] W fun e W' => (∃ v, e = .returned v) ∧ (J (prs l E B).length W' ∨ ∃ k, k < (prs l E B).length ∧ Jx k W') := by
  have mixed : Tryd.prog.follows .mixedOrders = true := by kernel_rfl
  obtain ⟨rows, hrows⟩ : ∃ r, prs l E B = r := ⟨_, rfl⟩
  rw [hrows] at hv hkl ⊢
  have HKL := Lib.hid hkl
  have hWW := hv.i 0 W h0
  have P0 := hv.pl.below hWW.1
  have C := Lib.hid (isEmpty_c p l E B W P0 hok.n12)
  have HV := Lib.hid hv
  have HJ0 := Lib.hid h0
  have HBS := Lib.hid hWW.2
  have HC1 := Lib.hid hc1
  have HC2 := Lib.hid hc2
  obtain ⟨ev, hev⟩ : ∃ v, evS E = v := ⟨_, rfl⟩
  have hev60 : ev < 2 ^ 60 := by
    rw [← hev]; unfold evS
    have : 2 ^ E.length ≤ 2 ^ 60 := Nat.pow_le_pow_right (by omega) hok.m60
    have := Nat.two_pow_pos E.length
    omega
  have x0 := hc2 0 (by decide)
  have x1 := hc2 1 (by decide)
  have x2 := hc2 2 (by decide)
  have x3 := hc2 3 (by decide)
  have x4 := hc2 4 (by decide)
  have x5 := hc2 5 (by decide)
  have x6 := hc2 6 (by decide)
  have x7 := hc2 7 (by decide)
  have x8 := hc2 8 (by decide)
  have x9 := hc2 9 (by decide)
  have x10 := hc2 10 (by decide)
  have x11 := hc2 11 (by decide)
  simp only [Nat.zero_add] at x0 x1 x2 x3 x4 x5 x6 x7 x8 x9 x10 x11
  have HN : Hid ((¬ N b1 ∧ ¬ Ow W b1) ∧ ¬ N b2 ∧ ¬ Ow W b2) := ⟨⟨n1.1, fun e => by have := (hv.o 0 W h0 b1 e).1; have := n1.2; omega⟩, n2.1, fun e => by have := (hv.o 0 W h0 b2 e).1; have := n2.2; omega⟩
  have KD : Hid (∀ V, Below W.heap.size W V → J 0 V ∧ Kg N Ow W V) := fun V hV => hv.bel h0 hV
  have HOP : Hid (¬ Ow W p) := fun e => by have := (hv.o 0 W h0 p e).1; have := hv.wb; have := hv.pl.lt; omega
  unfold prs at hrows
  cases hem : emB l B with
  | true =>
    rw [hem] at C hrows
    rw [if_pos rfl] at hrows
    have HR := Lib.hid hrows
    unfold bxV at C
    clear hv hkl hWW P0 h0 hc2 hok hB hem hrows n1 n2 hev hev60
    go_enter Tryd.func78, Tryd.ntmps78
    go_wp2_with fail
    refine C.out.mono ?_
    rintro e1 w2 ⟨rfl, bb2⟩
    have PP : Hid (J rows.length w2) := by
      unfold Hid
      rw [← HR.out]
      exact (KD.out w2 bb2).1
    clear bb2 hc1 x0 x1 x2 x3 x4 x5 x6 x7 x8 x9 x10 x11 C
    go_wp2
    go_end0
    exact ⟨⟨_, rfl⟩, .inl PP.out⟩
  | false =>
    rw [hem] at C hrows
    rw [if_neg (by simp), hev] at hrows
    have D := divideG_c w0 N Ow p base l E l0 rows J Jx hv hok l.length 0 B ev 0 []
    have C9' : ∀ V, Below W.heap.size W V → Calls Tryd.prog 79 #[.pointer (some ⟨p, 0, none⟩), bxV B, .int .i64 0, .int .u64 ev, .func (.yield l0) #[] #[]] V (DvQ N Ow rows [] J Jx V) := fun V hV =>
      D V (by omega) hB hev60 ((hv.bel h0 hV).1) (by rw [List.drop_zero, List.append_nil]; exact hrows.symm)
    have HS : Hid (∀ V, Kg N Ow W V → S15 b2 B ⟨b1, 0, none⟩ ⟨p, 14, none⟩ ⟨p, 14, none⟩ (.pointer (some ⟨p, 0, none⟩)) (.int .u64 ev) (.int .u64 ev) V) := fun V hV => by
      have q2 := HN.out.2.1
      have o2 := HN.out.2.2
      have q3 : ¬ N p := fun e => by have := (HV.out.n p e).1; have := HV.out.pl.lt; omega
      have c := hV.cell (p := ⟨p, 14, none⟩) P0.ev q3 HOP.out
      rw [hev] at c
      exact ⟨hV.cell x0 q2 o2, hV.cell x1 q2 o2, hV.cell x2 q2 o2, hV.cell x3 q2 o2, hV.cell x4 q2 o2, hV.cell x5 q2 o2, hV.cell x6 q2 o2, hV.cell x7 q2 o2, hV.cell x8 q2 o2, hV.cell x9 q2 o2, hV.cell x10 q2 o2, hV.cell x11 q2 o2, hV.cell HC1.out HN.out.1.1 HN.out.1.2, c, c⟩
    have C9 : Hid (∀ V, Below W.heap.size W V → _) := C9'
    unfold bxV DvQ at C9
    unfold bxV at C
    clear hv hkl hWW P0 h0 hc2 hok hB hem hrows n1 n2 hev hev60 D C9'
    go_enter Tryd.func78, Tryd.ntmps78
    go_wp2_with fail
    refine C.out.mono ?_
    rintro e1 w2 ⟨rfl, bb2⟩
    have BB := Lib.hid bb2
    have HS2 : Hid (S15 b2 B ⟨b1, 0, none⟩ ⟨p, 14, none⟩ ⟨p, 14, none⟩ (.pointer (some ⟨p, 0, none⟩)) (.int .u64 ev) (.int .u64 ev) w2) := HS.out w2 (KD.out w2 bb2).2
    have HSK : Hid (∀ V, Kg N Ow w2 V → S15 b2 B ⟨b1, 0, none⟩ ⟨p, 14, none⟩ ⟨p, 14, none⟩ (.pointer (some ⟨p, 0, none⟩)) (.int .u64 ev) (.int .u64 ev) V) := fun V hV => HS.out V ((KD.out w2 BB.out).2.trans hV)
    have KD2 : Hid (∀ V, Below w2.heap.size w2 V → Kg N Ow w2 V) := fun V hV => (HV.out.bel (KD.out w2 BB.out).1 hV).2
    have C9 : Hid (∀ V, Below w2.heap.size w2 V → _) := fun V hV => C9.out V (BB.out.trans (hV.mono BB.out.size))
    clear bb2 hc1 x0 x1 x2 x3 x4 x5 x6 x7 x8 x9 x10 x11 C HS
    go_wp2_with fail
    refine wp_region_noPanic ?_
    refine wp_region_held_drew (S := (S15 b2 B ⟨b1, 0, none⟩ ⟨p, 14, none⟩ ⟨p, 14, none⟩ (.pointer (some ⟨p, 0, none⟩)) (.int .u64 ev) (.int .u64 ev))) (by kernel_rfl) (by exact HS2.out) (fun hS => ?_)
    obtain ⟨WD, hWD⟩ : ∃ W, w2.drew = W := ⟨_, rfl⟩
    have D0 : Hid (Below w2.heap.size w2 WD) := by unfold Hid; rw [← hWD]; exact (Below.refl _ _).drew
    rw [hWD] at hS ⊢
    clear hWD
    refine wpAnyH_take (i := 0) (v := ?v0a0) rfl (by kernel_rfl) (by kernel_rfl) (by kernel_rfl) (fun _ _ _ h => h) (Or.inl ⟨by rfl, ?hy0a0⟩) (by assumption) ?rest0a0
    case hy0a0 =>
      intro w hSw
      dsimp only [S15] at hSw
      go_simp
      try with_reducible rfl
    simp only [Act.put, List.getElem_toArray, List.getElem_cons_succ, List.getElem_cons_zero, List.setIfInBounds_toArray, List.set_cons_zero, List.set_cons_succ]
    refine wpAnyH_take (i := 1) (v := ?v1a1) rfl (by kernel_rfl) (by kernel_rfl) (by kernel_rfl) (fun _ _ _ h => h) (Or.inl ⟨by rfl, ?hy1a1⟩) (by assumption) ?rest1a1
    case hy1a1 =>
      intro w hSw
      dsimp only [S15] at hSw
      go_simp
      try with_reducible rfl
    simp only [Act.put, List.getElem_toArray, List.getElem_cons_succ, List.getElem_cons_zero, List.setIfInBounds_toArray, List.set_cons_zero, List.set_cons_succ]
    refine wpAnyH_take (i := 2) (v := ?v2a2) rfl (by kernel_rfl) (by kernel_rfl) (by kernel_rfl) (fun _ _ _ h => h) (Or.inl ⟨by rfl, ?hy2a2⟩) (by assumption) ?rest2a2
    case hy2a2 =>
      intro w hSw
      dsimp only [S15] at hSw
      go_simp
      try with_reducible rfl
    simp only [Act.put, List.getElem_toArray, List.getElem_cons_succ, List.getElem_cons_zero, List.setIfInBounds_toArray, List.set_cons_zero, List.set_cons_succ]
    refine wpAnyH_take (i := 3) (v := ?v3a3) rfl (by kernel_rfl) (by kernel_rfl) (by kernel_rfl) (fun _ _ _ h => h) (Or.inl ⟨by rfl, ?hy3a3⟩) (by assumption) ?rest3a3
    case hy3a3 =>
      intro w hSw
      dsimp only [S15] at hSw
      go_simp
      try with_reducible rfl
    simp only [Act.put, List.getElem_toArray, List.getElem_cons_succ, List.getElem_cons_zero, List.setIfInBounds_toArray, List.set_cons_zero, List.set_cons_succ]
    refine wpAnyH_take (i := 4) (v := ?v4a4) rfl (by kernel_rfl) (by kernel_rfl) (by kernel_rfl) (fun _ _ _ h => h) (Or.inl ⟨by rfl, ?hy4a4⟩) (by assumption) ?rest4a4
    case hy4a4 =>
      intro w hSw
      dsimp only [S15] at hSw
      go_simp
      try with_reducible rfl
    simp only [Act.put, List.getElem_toArray, List.getElem_cons_succ, List.getElem_cons_zero, List.setIfInBounds_toArray, List.set_cons_zero, List.set_cons_succ]
    refine wpAnyH_take (i := 5) (v := ?v5a5) rfl (by kernel_rfl) (by kernel_rfl) (by kernel_rfl) (fun _ _ _ h => h) (Or.inl ⟨by rfl, ?hy5a5⟩) (by assumption) ?rest5a5
    case hy5a5 =>
      intro w hSw
      dsimp only [S15] at hSw
      go_simp
      try with_reducible rfl
    simp only [Act.put, List.getElem_toArray, List.getElem_cons_succ, List.getElem_cons_zero, List.setIfInBounds_toArray, List.set_cons_zero, List.set_cons_succ]
    refine wpAnyH_take (i := 6) (v := ?v6a6) rfl (by kernel_rfl) (by kernel_rfl) (by kernel_rfl) (fun _ _ _ h => h) (Or.inl ⟨by rfl, ?hy6a6⟩) (by assumption) ?rest6a6
    case hy6a6 =>
      intro w hSw
      dsimp only [S15] at hSw
      go_simp
      try with_reducible rfl
    simp only [Act.put, List.getElem_toArray, List.getElem_cons_succ, List.getElem_cons_zero, List.setIfInBounds_toArray, List.set_cons_zero, List.set_cons_succ]
    refine wpAnyH_ready (rs := [7]) (by kernel_rfl) (by simp) ?_
    refine AllReadyH.cons rfl (fun K hK => ?_) AllReadyH.nil
    go_simp
    refine (C9.out WD D0.out).mono ?_
    rintro e1 w6 (⟨rfl, k', hJ6, b6, hd6⟩ | ⟨rfl, k', hk6, hJ6, kx6⟩)
    · have hT := HSK.out w6 ((KD2.out WD D0.out).trans b6)
      have PP : Hid (J rows.length w6) := by
        have h1 := List.drop_eq_nil_iff.1 hd6
        have h2 := HKL.out k' w6 hJ6
        have e : k' = rows.length := by omega
        rw [← e]; exact hJ6
      clear hJ6 hd6 b6
      try go_simp
      refine hK _ _ hT (fun _ => ?_)
      clear hK K hT
      try simp only [Act.put, List.setIfInBounds_toArray, List.set_cons_zero, List.set_cons_succ]
      refine wpAnyH_done (by kernel_rfl) ?_ _
      refine NoPanic.normal ?_
      clear hS
      go_wp2
      go_end0
      exact ⟨⟨_, rfl⟩, .inl PP.out⟩
    · have hT := HSK.out w6 ((KD2.out WD D0.out).trans kx6)
      have PP : Hid (k' < rows.length ∧ Jx k' w6) := ⟨hk6, hJ6⟩
      clear hJ6 hk6 kx6
      try go_simp
      refine hK _ _ hT (fun _ => ?_)
      clear hK K hT
      try simp only [Act.put, List.setIfInBounds_toArray, List.set_cons_zero, List.set_cons_succ]
      refine wpAnyH_done (by kernel_rfl) ?_ _
      refine NoPanic.normal ?_
      clear hS
      go_wp2
      go_end0
      exact ⟨⟨_, rfl⟩, .inr ⟨k', PP.out.1, PP.out.2⟩⟩
end Go.Proofs.YtadfmplafehjlaaDoor
namespace Go.Proofs.YtadfmplafehjlaaDoor
open Go.RowKit Go.WideMaps Go.Maps Go.Shelf

attribute [local go_sem] Oper.semAt_some

/-- How a round's body is left. -/
def rgPost (I : Nat → World → Prop) (Ix : Nat → World → Prop) (N : Nat → Prop) (Ow : World → Nat → Prop) (B k : Nat) (W : World) : Exit → Act → World → Prop
  | .normal, _, W' => Kg N Ow W W' ∧ I (k + 1) W'
  | .ret, _, W' => Kg N Ow W W' ∧ Ix k W' ∧ ∀ V : World, W'.heap.size ≤ V.heap.size → (∀ i, i < B → V.heap[i]? = W'.heap[i]?) → ∀ b, Ow V b → Ow W' b
  | _, _, _ => False
theorem range_partsG {n : Nat} {g : Operand} {ps : Array Tmp} {assign body : Code} {Q : Exit → Act → World → Prop} {a : Act} {w : World} (w0 : World) (N : Nat → Prop) (Ow : World → Nat → Prop) (p : Nat) (l0 : List Fd) (E : List Ed) (B : Nat → Nat) (b1 b2 : Nat) (hps : ps.size = 2)
    (hg : a.eval g = .func (.func 78) #[] #[.pointer (some ⟨b1, 0, none⟩), .pointer (some ⟨b2, 0, none⟩)])
    (hn : 3 ≤ n) (hpl : PlR w0 p l0 E) (hok : Ok l0 E) (hB : ∀ j, j < l0.length → B j < 2 ^ (fd l0 j).cs.length) (hT : TabAt 0 Lib.deBruijn64tab w0) (ht : 0 < w0.heap.size)
    (hN : ∀ b, N b → w0.heap.size ≤ b ∧ b < w.heap.size) (n1 : ¬ N b1 ∧ b1 < w.heap.size) (n2 : ¬ N b2 ∧ b2 < w.heap.size) (hw0 : w0.heap.size ≤ w.heap.size)
    (I Ix : Nat → World → Prop) (hIb : ∀ k W W', I k W → Below w.heap.size W W' → (∀ b, Ow W b → W'.heap[b]? = W.heap[b]?) → I k W') (hIo : ∀ k W, I k W → ∀ b, Ow W b → w.heap.size + 2 ≤ b ∧ b < W.heap.size) (hIv : ∀ k W W', I k W → Below w.heap.size W W' → ∀ b, Ow W' b → Ow W b) (hIw : ∀ k W, I k W → Below w0.heap.size w0 W ∧ W.cell? ⟨b1, 0, none⟩ = some (.pointer (some ⟨p, 0, none⟩)) ∧ BxAt W b2 0 B) (hIx : OwnFrom w.heap.size Ix) (h0 : I 0 w) (a₁ : (Nat → Nat) × Nat → Nat → Act)
    (hassign : ∀ (l m : Nat) (x : (Nat → Nat) × Nat) (W : World) (K : Act → World → Prop), K (a₁ x W.heap.size) (W.alloc (.cells #[.int .u64 (x.1 0), .int .u64 (x.1 1), .int .u64 (x.1 2), .int .u64 (x.1 3), .int .u64 (x.1 4), .int .u64 (x.1 5), .int .u64 (x.1 6), .int .u64 (x.1 7), .int .u64 (x.1 8), .int .u64 (x.1 9), .int .u64 (x.1 10), .int .u64 (x.1 11)] 57)) →
      assign.wpIn (Fence.wide.inRound l) m Tryd.prog (Exit.then K (fun _ _ _ => False)) { tmps := (ps.zip #[bxV x.1, .int .u64 x.2]).foldl (fun t (p, v) => t.setIfInBounds p v) a.tmps, defers := [] } W)
    (hbody : ∀ (l m k : Nat) (x : (Nat → Nat) × Nat) (pb : Nat) (V : World), (prs l0 E B)[k]? = some x → I k V → BxAt V pb 0 x.1 → pb < V.heap.size → w.heap.size + 2 ≤ pb → body.wpIn (Fence.wide.inRound l) m Tryd.prog (rgPost I Ix N Ow w.heap.size k V) (a₁ x pb) V)
    (hdone : ∀ (W : World), I (prs l0 E B).length W → W.heap[w.heap.size]? = some (.deferred (some [])) → Q .normal { a with defers := { target := .collected w.heap.size, args := #[] } :: a.defers } W)
    (hstop : ∀ (k : Nat) (W : World), k < (prs l0 E B).length → Ix k W → W.heap[w.heap.size]? = some (.deferred (some [])) → Code.ret.wpIn Fence.wide n Tryd.prog Q { a with defers := { target := .collected w.heap.size, args := #[] } :: a.defers } W) :
    (Code.rangeFunc g ps assign body).wpIn Fence.wide n Tryd.prog Q a w := by
  refine wpIn_rangeFunc fun fn hfn => ?_
  obtain ⟨rows, hrows⟩ : ∃ r, prs l0 E B = r := ⟨_, rfl⟩
  rw [hrows] at hbody hdone hstop
  obtain ⟨rec, hrec⟩ : ∃ rec : LoopState → Option Code → Loop, rec = fun st pe => { state := st, pending := pe, fn, tmps := a.tmps, params := ps, assign, body, defers := w.heap.size } := ⟨_, rfl⟩
  obtain ⟨W1, hW1⟩ : ∃ W1, (w.alloc (.deferred (some []))).alloc (.loop (rec .ready none)) = W1 := ⟨_, rfl⟩
  have L1 : W1.heap[w.heap.size + 1]? = some (.loop (rec .ready none)) := by
    rw [← hW1]; have := World.alloc_heap_new (w.alloc (.deferred (some []))) (.loop (rec .ready none)); rwa [World.size_alloc] at this
  have D1 : W1.heap[w.heap.size]? = some (.deferred (some [])) := by
    rw [← hW1]; exact (Below.heap_alloc _ _ _ (by simp)).trans (World.alloc_heap_new w _)
  have S1 : w.heap.size + 2 ≤ W1.heap.size := by rw [← hW1]; simp
  have bW : Below w.heap.size w W1 := by rw [← hW1]; exact ((Below.refl _ w).alloc (Nat.le_refl _) _).alloc (by simp) _
  have I1 : I 0 W1 := hIb 0 w W1 h0 bW fun b hb => bW.block b (hIo 0 w h0 b hb).2
  let RD (st : LoopState) (pe : Option Code) (W : World) : Prop := W.heap[w.heap.size + 1]? = some (.loop (rec st pe)) ∧ W.heap[w.heap.size]? = some (.deferred (some []))
  refine ⟨w.heap.size + 1, [{ target := .collected w.heap.size, args := #[] }], W1, { target := .fn (.func 78) #[.pointer (some ⟨b1, 0, none⟩), .pointer (some ⟨b2, 0, none⟩)], args := #[.func (.yield (w.heap.size + 1)) #[] #[]] }, W1, 78,
    #[.func (.yield (w.heap.size + 1)) #[] #[]] ++ #[.pointer (some ⟨b1, 0, none⟩), .pointer (some ⟨b2, 0, none⟩)], W1, ?_, ?_, fun _ _ => trivial, ?_, fun _ => by omega, ?_⟩
  · rw [← hW1, hrec]; exact run_enterLoop_outer _ _ _ _ _
  · simp only [resolve, hg]
    simp [go_sem]
  · simp [invoke, go_sem, enters_of Tryd.func78 (by kernel_rfl) rfl]
  · have hv : Dw w0 (fun b => N b ∨ b = w.heap.size + 1) Ow p (w.heap.size + 2) l0 E (w.heap.size + 1) rows (fun k W => I k W ∧ RD .ready none W ∧ k ≤ rows.length ∧ w.heap.size + 2 ≤ W.heap.size) (fun k W => Ix k W ∧ RD .done (some .ret) W) := by
      refine ⟨hpl, hT, ht, by omega, fun b hb => ?_, fun k W h => ⟨(hIw k W h.1).1, h.2.2.2⟩, fun k W h b hb => hIo k W h.1 b hb, fun k W W' h hb b => hIv k W W' h.1 (hb.mono (by omega)) b, fun k W W' h hb ho => ?_, fun m k x W hk h => ?_⟩
      · rcases hb with e | e
        · have := hN b e; omega
        · omega
      · exact ⟨hIb k W W' h.1 (hb.mono (by omega)) ho, ⟨(hb.block _ (by omega)).trans h.2.1.1, (hb.block _ (by omega)).trans h.2.1.2⟩, h.2.2.1, Nat.le_trans h.2.2.2 hb.size⟩
      · obtain ⟨hi, ⟨hl, hd⟩, hkl, hsz⟩ := h
        have hy := run_yield (P := Tryd.prog) (args := #[bxV x.1, Value.int .u64 x.2]) hl (by rw [hrec]; exact hps.symm)
        rw [hrec] at hy
        obtain ⟨WA, hWA⟩ : ∃ V, W.alloc (.cells #[.int .u64 (x.1 0), .int .u64 (x.1 1), .int .u64 (x.1 2), .int .u64 (x.1 3), .int .u64 (x.1 4), .int .u64 (x.1 5), .int .u64 (x.1 6), .int .u64 (x.1 7), .int .u64 (x.1 8), .int .u64 (x.1 9), .int .u64 (x.1 10), .int .u64 (x.1 11)] 57) = V := ⟨_, rfl⟩
        have bA : Below W.heap.size W WA := by rw [← hWA]; exact bel_one _ _
        have xA : BxAt WA W.heap.size 0 x.1 ∧ W.heap.size < WA.heap.size := by rw [← hWA]; exact ⟨bx_made W x.1, by simp⟩
        have hlt0 : w.heap.size + 1 < W.heap.size := by omega
        have hlA : WA.heap[w.heap.size + 1]? = some (.loop (rec .ready none)) := (bA.block _ hlt0).trans hl
        have hdA : WA.heap[w.heap.size]? = some (.deferred (some [])) := (bA.block _ (by omega)).trans hd
        have hltA : w.heap.size + 1 < WA.heap.size := by omega
        refine ⟨fn, _, assign, body, hy, roundIn_of_wpIn hfn (hassign _ _ x W _ ?_)⟩
        rw [hWA]
        refine ⟨_, run_beginRound hlA (by rw [hrec]), ?_⟩
        obtain ⟨V, hV⟩ : ∃ V, WA.putObj (w.heap.size + 1) (.loop { rec .ready none with state := .busy }) = V := ⟨_, rfl⟩
        have hVs : V.heap.size = WA.heap.size := by rw [← hV]; simp [World.putObj]
        have hl2 : V.heap[w.heap.size + 1]? = some (.loop { rec .ready none with state := .busy }) := by rw [← hV]; exact World.putObj_heap_same hltA
        have hd2 : V.heap[w.heap.size]? = some (.deferred (some [])) := by rw [← hV]; exact (World.putObj_heap_other (by omega)).trans hdA
        have bV : Below w.heap.size WA V := by
          rw [← hV]
          exact ⟨rfl, rfl, rfl, by simp [World.putObj], fun i hi => World.putObj_heap_other (by omega)⟩
        have xV : BxAt V W.heap.size 0 x.1 := fun i hi => by
          rw [← xA.1 i hi]
          refine World.cell?_of_block ?_
          rw [← hV]; exact World.putObj_heap_other (by show W.heap.size ≠ _; omega)
        rw [hV]
        have iA : I k WA := hIb k W WA hi (bA.mono (by omega)) fun b hb => bA.block b (hIo k W hi b hb).2
        have iV : I k V := hIb k WA V iA bV fun b hb => by
          have := (hIo k WA iA b hb).1
          rw [← hV]; exact World.putObj_heap_other (by omega)
        have nrO : ∀ b, b < w.heap.size + 2 → ¬ Ow V b := fun b hb e => by have := (hIo k V iV b e).1; omega
        have kV : Kg (fun b => N b ∨ b = w.heap.size + 1) Ow W V := by
          refine ⟨by rw [← hV, ← hWA]; rfl, by rw [← hV, ← hWA]; rfl, by rw [← hV, ← hWA]; rfl, by omega, fun b hb hn ho => ?_, fun b hb => .inl (hIv k W WA hi (bA.mono (by omega)) b (hIv k WA V iA bV b hb))⟩
          rw [← hV, World.putObj_heap_other (fun e => hn (.inr e)), bA.block b hb]
        have kP : ∀ (W3 : World) (o : Obj), Kg N Ow V W3 → (∀ b, Ow (W3.putObj (w.heap.size + 1) o) b → Ow W3 b) → Kg (fun b => N b ∨ b = w.heap.size + 1) Ow W (W3.putObj (w.heap.size + 1) o) := fun W3 o h1 h2 => by
          refine kV.trans ⟨h1.os, h1.tape, h1.output, ?_, fun b hb hn ho => ?_, fun b hb => h1.ow b (h2 b hb)⟩
          · have := h1.size; simpa [World.putObj] using this
          · rw [World.putObj_heap_other (fun e => hn (.inr e)), h1.block b hb (fun e => hn (.inl e)) ho]
        refine wpIn_mono (hbody _ _ k x W.heap.size V hk iV xV (by omega) hsz) ?_
        have fin : ∀ (jump : Option Code) (W3 : World), W3.heap[w.heap.size + 1]? = V.heap[w.heap.size + 1]? →
            (Instr.endRound (w.heap.size + 1) jump).run Tryd.prog W3 = .ok (.bool jump.isNone) (W3.putObj (w.heap.size + 1) (.loop (rec (if jump.isNone then .ready else .done) jump))) := fun jump W3 hk3 => by
          have hr := run_endRound (P := Tryd.prog) jump (hk3.trans hl2)
          rw [hrec] at hr ⊢; exact hr
        rintro e a3 W3 hp
        cases e with
        | normal =>
          obtain ⟨hb3, hi3⟩ := hp
          have nr : ¬ N (w.heap.size + 1) := fun e => by have := (hN _ e).2; omega
          have nd : ¬ N w.heap.size := fun e => by have := (hN _ e).2; omega
          have hr := fin none W3 (hb3.block _ (by omega) nr (nrO _ (by omega)))
          have hs3 := hb3.size
          have bP : Below w.heap.size W3 (W3.putObj (w.heap.size + 1) (.loop (rec .ready none))) := ⟨rfl, rfl, rfl, by simp [World.putObj], fun i hi => World.putObj_heap_other (by omega)⟩
          refine ⟨_, _, hr, .inl ⟨rfl, ⟨hIb _ W3 _ hi3 bP fun b hb => World.putObj_heap_other (by have := (hIo _ W3 hi3 b hb).1; omega), ⟨?_, ?_⟩, ?_, ?_⟩, kP W3 _ hb3 (hIv _ W3 _ hi3 bP)⟩⟩
          · exact World.putObj_heap_same (by omega)
          · exact (World.putObj_heap_other (by omega)).trans ((hb3.block _ (by omega) nd (nrO _ (by omega))).trans hd2)
          · exact (List.getElem?_eq_some_iff.1 hk).1
          · show _ ≤ (World.putObj _ _ _).heap.size
            simp [World.putObj]; omega
        | ret =>
          obtain ⟨hb3, hi3, ho3⟩ := hp
          have nr : ¬ N (w.heap.size + 1) := fun e => by have := (hN _ e).2; omega
          have nd : ¬ N w.heap.size := fun e => by have := (hN _ e).2; omega
          have hs3 := hb3.size
          have h3 : W3.heap[w.heap.size + 1]? = V.heap[w.heap.size + 1]? := hb3.block _ (by omega) nr (nrO _ (by omega))
          have hr := fin (some .ret) W3 h3
          refine ⟨_, _, hr, .inr ⟨rfl, ⟨hIx.putObj _ hi3 (by omega) (h3.trans hl2) rfl, ?_, ?_⟩, kP W3 _ hb3 (ho3 _ (by simp [World.putObj]) fun i hi => World.putObj_heap_other (by omega))⟩⟩
          · exact World.putObj_heap_same (by omega)
          · exact (World.putObj_heap_other (by omega)).trans ((hb3.block _ (by omega) nd (nrO _ (by omega))).trans hd2)
        | exit id => exact hp.elim
        | goto t => exact hp.elim
        | panic ch => exact hp.elim
        | outgrown => exact hp.elim
    have hw1 := hIw 0 W1 I1
    subst hrows
    have q1 : ¬ (N b1 ∨ b1 = w.heap.size + 1) ∧ b1 < w.heap.size + 2 := ⟨fun e => e.elim n1.1 (fun e => by have := n1.2; omega), by have := n1.2; omega⟩
    have q2 : ¬ (N b2 ∨ b2 = w.heap.size + 1) ∧ b2 < w.heap.size + 2 := ⟨fun e => e.elim n2.1 (fun e => by have := n2.2; omega), by have := n2.2; omega⟩
    have HP := parts1G_c w0 _ Ow p (w.heap.size + 2) l0 E (w.heap.size + 1) B _ _ hv hok hB (fun k W h => h.2.2.1) b1 b2 q1 q2 W1 ⟨I1, ⟨L1, D1⟩, Nat.zero_le _, S1⟩ hw1.2.1 hw1.2.2
    refine ((callsIn_wide (n := n - 1)).2 HP).mono ?_
    rintro e W2 ⟨⟨v, rfl⟩, (⟨hi, ⟨hl, hd⟩, _, hs⟩ | ⟨k, hk, hi, hl, hd⟩)⟩
    · have hr := run_endLoop (P := Tryd.prog) hl (by rw [hrec]; simp)
      rw [hrec] at hr
      refine ⟨none, _, hr, hdone _ (hIb _ W2 _ hi ⟨rfl, rfl, rfl, by simp [World.putObj], fun i hi => World.putObj_heap_other (by omega)⟩ fun b hb => World.putObj_heap_other (by have := (hIo _ W2 hi b hb).1; omega)) ((World.putObj_heap_other (by omega)).trans hd)⟩
    · have hr := run_endLoop (P := Tryd.prog) hl (by rw [hrec]; simp)
      rw [hrec] at hr
      exact ⟨some .ret, _, hr, hstop k _ hk (hIx.putObj _ hi (by omega) hl rfl) ((World.putObj_heap_other (by omega)).trans hd)⟩
end Go.Proofs.YtadfmplafehjlaaDoor
namespace Go.Proofs.YtadfmplafehjlaaDoor

section
variable {l : List Fd} {E : List Ed}
/-- A record is in a box. -/
def inBx (l : List Fd) (x : List Int) (B : Nat → Nat) : Prop := x.length = l.length ∧ ∀ j, j < l.length → ∃ k, k < (fd l j).cs.length ∧ fn x j = fn (fd l j).cs k ∧ (B j).testBit k = true
/-- A box that has one code for each field ahead of number i, with the edits that have them. -/
structure Prg (l : List Fd) (E : List Ed) (i : Nat) (B : Nat → Nat) (F : Nat) : Prop where
  one : ∀ j, j < i → ∃ k, k < (fd l j).cs.length ∧ B j = 2 ^ k
  lt : ∀ j, j < l.length → B j < 2 ^ (fd l j).cs.length
  fs : F = bz (fun n => al (fun j => hdB l E j (ch B j) n) i) E.length
theorem Prg.step (hok : Ok l E) {i : Nat} {B : Nat → Nat} {F : Nat} (h : Prg l E i B F) (hi : i < l.length) {k : Nat} (hk : k < (fd l i).cs.length) : Prg l E (i + 1) (upd B i (2 ^ k)) (F &&& hdS l E i k) := by
  have hk64 : k < 64 := by have := hok.c20 i hi; omega
  refine ⟨fun j hj => ?_, fun j hj => ?_, ?_⟩
  · by_cases e : j = i
    · subst e
      exact ⟨k, hk, by simp [upd]⟩
    · obtain ⟨k', h1, h2⟩ := h.one j (by omega)
      exact ⟨k', h1, by unfold upd; rw [if_neg e]; exact h2⟩
  · unfold upd
    by_cases e : j = i
    · rw [if_pos e, e]; exact Nat.pow_lt_pow_right (by omega) hk
    · rw [if_neg e]; exact h.lt j hj
  · rw [h.fs, hd_and]
    refine bz_ext fun n hn => ?_
    show (al _ i && _) = (al _ i && _)
    dsimp only
    rw [ch_upd_same B i k hk64]
    congr 1
    exact al_ext fun j hj => by rw [ch_upd_other B (by omega)]
theorem Prg.code (hok : Ok l E) {i : Nat} {B : Nat → Nat} {F : Nat} (h : Prg l E i B F) {x : List Int} (hx : inBx l x B) {j : Nat} (hj : j < i) (hjl : j < l.length) : fn x j = fn (fd l j).cs (ch B j) := by
  obtain ⟨k, hk, hb⟩ := h.one j hj
  obtain ⟨k', hk', h1, h2⟩ := hx.2 j hjl
  rw [hb, Nat.testBit_two_pow] at h2
  have e : k = k' := by simpa using h2
  have := hok.c20 j hjl
  rw [h1, ch_pow B j k (by omega) hb, e]
theorem Prg.hd (hok : Ok l E) {i : Nat} {B : Nat → Nat} {F : Nat} (h : Prg l E i B F) {x : List Int} (hx : inBx l x B) {j n : Nat} (hj : j < i) (hjl : j < l.length) : hdB l E j (ch B j) n = inC (st (ed E n).ss j) (fn x j) := by
  unfold hdB
  rw [h.code hok hx hj hjl]
theorem Prg.zero (hok : Ok l E) {i : Nat} {B : Nat → Nat} {F : Nat} (h : Prg l E i B F) (hi : i ≤ l.length) {x : List Int} (hx : inBx l x B) (h0 : F = 0) : al (fun n => !flB E x n) E.length = true := by
  rw [h.fs, bz_zero] at h0
  refine al_iff.2 fun n hn => ?_
  have := h0 n hn
  cases e : flB E x n with
  | false => rfl
  | true =>
    have h1 := al_iff.1 e
    rw [hok.sl n hn] at h1
    have : al (fun j => hdB l E j (ch B j) n) i = true := al_iff.2 fun j hj => by
      show hdB l E j (ch B j) n = true
      rw [h.hd hok hx hj (by omega)]; exact h1 j (by omega)
    rw [h0 n hn] at this; cases this
/-- All records of a part without edits pass. -/
theorem prt_sound (hok : Ok l E) : ∀ (d i : Nat) (B : Nat → Nat) (F : Nat), i + d = l.length → Prg l E i B F → ∀ C, (C, 0) ∈ prt l E d i B F → ∀ x, inBx l x C → al (fun n => !flB E x n) E.length = true
  | 0, i, B, F, hd, hp, C, hC, x, hx => by
    have e : C = B ∧ F = 0 := by
      have : (C, 0) = (B, F) := by simpa [prt] using hC
      injection this with h1 h2
      exact ⟨h1, h2.symm⟩
    exact hp.zero hok (by omega) (e.1 ▸ hx) e.2
  | d + 1, i, B, F, hd, hp, C, hC, x, hx => by
    unfold prt at hC
    split at hC
    · rename_i h0
      have e : (C, 0) = (B, F) := by simpa using hC
      injection e with h1 h2
      exact hp.zero hok (by omega) (h1 ▸ hx) h0
    · obtain ⟨k, hk, hC⟩ := List.mem_flatMap.1 hC
      have hkb : (B i).testBit k = true := by unfold lst at hk; exact (List.mem_filter.1 hk).2
      exact prt_sound hok d (i + 1) _ _ (by omega) (hp.step hok (by omega) (bits_lt (hp.lt i (by omega)) hkb)) C hC x hx
/-- Each record of a box is in one of its parts; where it passes, the part has no edits. -/
theorem prt_cover (hok : Ok l E) {x : List Int} : ∀ (d i : Nat) (B : Nat → Nat) (F : Nat), i + d = l.length → Prg l E i B F → inBx l x B → ∃ C G, (C, G) ∈ prt l E d i B F ∧ inBx l x C ∧ (al (fun n => !flB E x n) E.length = true → G = 0)
  | 0, i, B, F, hd, hp, hx => by
    refine ⟨B, F, by simp [prt], hx, fun ha => ?_⟩
    rw [hp.fs, bz_zero]
    intro n hn
    have h1 := al_iff.1 ha n hn
    cases e : al (fun j => hdB l E j (ch B j) n) i with
    | false => rfl
    | true =>
      have h2 := al_iff.1 e
      have : flB E x n = true := al_iff.2 fun j hj => by
        rw [hok.sl n hn] at hj
        have := h2 j (by omega)
        rw [hp.hd hok hx (by omega) hj] at this
        exact this
      rw [this] at h1; cases h1
  | d + 1, i, B, F, hd, hp, hx => by
    unfold prt
    split
    · rename_i h0
      exact ⟨B, F, by simp, hx, fun _ => h0⟩
    · obtain ⟨k, hk, h1, h2⟩ := hx.2 i (by omega)
      have hx' : inBx l x (upd B i (2 ^ k)) := ⟨hx.1, fun j hj => by
        by_cases e : j = i
        · subst e
          exact ⟨k, hk, h1, by simp [upd, Nat.testBit_two_pow]⟩
        · obtain ⟨k', q1, q2, q3⟩ := hx.2 j hj
          exact ⟨k', q1, q2, by unfold upd; rw [if_neg e]; exact q3⟩⟩
      obtain ⟨C, G, q1, q2, q3⟩ := prt_cover hok d (i + 1) _ _ (by omega) (hp.step hok (by omega) hk) hx'
      have h20 := hok.c20 i (by omega)
      exact ⟨C, G, List.mem_flatMap.2 ⟨k, by unfold lst; exact List.mem_filter.2 ⟨List.mem_range.2 (by omega), h2⟩, q1⟩, q2, q3⟩
theorem fu_lt (l : List Fd) : ∀ j, j < l.length → fuS l j < 2 ^ (fd l j).cs.length := fun j hj => by
  unfold fuS
  rw [if_pos hj]
  have := Nat.two_pow_pos (fd l j).cs.length
  omega
theorem prs_full (hok : Ok l E) : prs l E (fuS l) = prt l E l.length 0 (fuS l) (evS E) := by
  unfold prs
  rw [if_neg]
  rw [em_iff.2 fun i hi => fu_ne hok hi]; simp
theorem prg_full (l : List Fd) (E : List Ed) : Prg l E 0 (fuS l) (evS E) := by
  refine ⟨fun j hj => by omega, fu_lt l, ?_⟩
  unfold evS
  rw [← bz_all]
  exact bz_ext fun n _ => rfl
/-- The parts that pass. -/
def pss (l : List Fd) (E : List Ed) : List (Nat → Nat) := ((prs l E (fuS l)).filter fun x => decide (x.2 = 0)).map (·.1)
theorem pss_mem {C : Nat → Nat} : C ∈ pss l E ↔ (C, 0) ∈ prs l E (fuS l) := by
  unfold pss
  rw [List.mem_map]
  constructor
  · rintro ⟨⟨C', G⟩, h, rfl⟩
    have h := List.mem_filter.1 h
    have e : G = 0 := by simpa using h.2
    rw [← e]; exact h.1
  · exact fun h => ⟨(C, 0), List.mem_filter.2 ⟨h, by simp⟩, rfl⟩
theorem pss_bd {C : Nat → Nat} (h : C ∈ pss l E) : ∀ j, j < l.length → C j ≠ 0 ∧ C j < 2 ^ (fd l j).cs.length := prs_ok (fu_lt l) _ (pss_mem.1 h)
theorem pss_sound (hok : Ok l E) {C : Nat → Nat} (h : C ∈ pss l E) {x : List Int} (hx : inBx l x C) : paB l E x = true := by
  have h := pss_mem.1 h
  rw [prs_full hok] at h
  have h1 := prt_sound hok l.length 0 _ _ (by omega) (prg_full l E) C h x hx
  unfold paB
  rw [h1, Bool.and_true]
  refine al_iff.2 fun j hj => inC_iff.2 ?_
  obtain ⟨k, q1, q2, _⟩ := hx.2 j hj
  exact ⟨k, q1, q2.symm⟩
theorem pss_cover (hok : Ok l E) {x : List Int} (hl : x.length = l.length) (h : paB l E x = true) : ∃ C, C ∈ pss l E ∧ inBx l x C := by
  unfold paB at h
  rw [Bool.and_eq_true] at h
  have hx : inBx l x (fuS l) := ⟨hl, fun j hj => by
    obtain ⟨k, q1, q2⟩ := inC_iff.1 (al_iff.1 h.1 j hj)
    exact ⟨k, q1, q2.symm, by unfold fuS; rw [if_pos hj, Nat.testBit_two_pow_sub_one]; simpa using q1⟩⟩
  obtain ⟨C, G, q1, q2, q3⟩ := prt_cover hok l.length 0 _ _ (by omega) (prg_full l E) hx
  have := q3 h.2
  subst this
  exact ⟨C, pss_mem.2 (by rw [prs_full hok]; exact q1), q2⟩
/-- The fields in which a record is in no record of a box. -/
def chB (l : List Fd) (r : List Int) (C : Nat → Nat) (i : Nat) : Bool := decide (rbx l r i &&& C i = 0)
theorem ch_not (hok : Ok l E) {r : List Int} {C : Nat → Nat} {i : Nat} (hi : i < l.length) (h : chB l r C i = false) : ∃ k, k < (fd l i).cs.length ∧ fn r i = fn (fd l i).cs k ∧ (C i).testBit k = true := by
  unfold chB rbx at h
  rw [if_pos hi] at h
  have h := of_decide_eq_false h
  have h0 : mkS (fd l i).cs (fn r i) ≠ 0 := fun e => h (by rw [e, Nat.zero_and])
  obtain ⟨k, hk, he, h2⟩ := mk_pos hok hi h0
  refine ⟨k, hk, he.symm, ?_⟩
  cases q : (C i).testBit k with
  | true => rfl
  | false =>
    exfalso
    apply h
    rw [h2]
    refine nat_ext fun j => ?_
    rw [Nat.testBit_and, Nat.testBit_two_pow, Nat.zero_testBit]
    by_cases e : k = j
    · subst e; rw [q]; simp
    · simp [e]
theorem ch_yes (hok : Ok l E) {r x : List Int} {C : Nat → Nat} {i : Nat} (hi : i < l.length) (hx : inBx l x C) (h : chB l r C i = true) : fn x i ≠ fn r i := fun e => by
  obtain ⟨k, hk, h1, h2⟩ := hx.2 i hi
  unfold chB rbx at h
  rw [if_pos hi] at h
  have h := of_decide_eq_true h
  rw [← e, h1, hok.mk_at hi hk] at h
  have : (2 ^ k &&& C i).testBit k = true := by rw [Nat.testBit_and, h2, Nat.testBit_two_pow]; simp
  rw [h, Nat.zero_testBit] at this; cases this
/-- What the search finds. -/
theorem fil_some : ∀ (f : List Nat) (r x : List Int), (∀ i, i ∈ f → i < r.length) → fil l E f r = some x → x.length = r.length ∧ paB l E x = true ∧ ∀ j, j ∉ f → fn x j = fn r j
  | [], r, x, _, h => by
    unfold fil at h
    split at h
    · rename_i h1
      injection h with h
      subst h
      exact ⟨rfl, h1, fun _ _ => rfl⟩
    · cases h
  | i :: f, r, x, hf, h => by
    obtain ⟨c, _, h1⟩ := List.exists_of_findSome?_eq_some (show (fd l i).cs.findSome? _ = _ from h)
    obtain ⟨q1, q2, q3⟩ := fil_some f _ x (fun j hj => by rw [List.length_set]; exact hf j (by simp [hj])) h1
    rw [List.length_set] at q1
    refine ⟨q1, q2, fun j hj => ?_⟩
    rw [q3 j (fun e => hj (by simp [e])), fn_set (hf i (by simp)), if_neg (fun e => hj (by simp [e]))]
theorem fil_ex : ∀ (f : List Nat) (r x : List Int), (∀ i, i ∈ f → i < l.length) → r.length = l.length → x.length = l.length → paB l E x = true → (∀ j, j < l.length → j ∉ f → fn x j = fn r j) → fil l E f r ≠ none
  | [], r, x, _, hr, hx, hp, h => by
    have e : x = r := list_fn (by rw [hx, hr]) fun j hj => h j (by omega) (by simp)
    unfold fil
    rw [← e, if_pos hp]; simp
  | i :: f, r, x, hf, hr, hx, hp, h => by
    intro q
    have q := List.findSome?_eq_none_iff.1 (show (fd l i).cs.findSome? _ = none from q)
    have hi := hf i (by simp)
    have hv : vdB l x = true := by unfold paB at hp; rw [Bool.and_eq_true] at hp; exact hp.1
    have hc := al_iff.1 hv i hi
    unfold inC at hc
    rw [List.contains_iff_mem] at hc
    refine fil_ex f _ x (fun j hj => hf j (by simp [hj])) (by rw [List.length_set]; exact hr) hx hp (fun j hj hjf => ?_) (q _ hc)
    rw [fn_set (by rw [hr]; exact hi)]
    by_cases e : j = i
    · rw [if_pos e, e]
    · rw [if_neg e]; exact h j hj (by simp [e, hjf])
/-- A sum over some of the first n. -/
def smS (c : Nat → Nat) (p : Nat → Bool) : Nat → Nat
  | 0 => 0
  | n + 1 => smS c p n + if p n = true then c n else 0
theorem sm_succ (c : Nat → Nat) (p : Nat → Bool) (n : Nat) : smS c p (n + 1) = smS c p n + (if p n = true then c n else 0) := rfl
theorem sm_le {c : Nat → Nat} {p q : Nat → Bool} : ∀ {n : Nat}, (∀ j, j < n → p j = true → q j = true) → smS c p n ≤ smS c q n
  | 0, _ => Nat.le_refl _
  | n + 1, h => by
    have h1 := sm_le (c := c) (p := p) (q := q) (n := n) fun j hj => h j (by omega)
    have h2 := h n (by omega)
    rw [sm_succ, sm_succ]
    by_cases hp : p n = true
    · rw [if_pos hp, if_pos (h2 hp)]; omega
    · rw [if_neg hp]; omega
theorem sm_mono (c : Nat → Nat) (p : Nat → Bool) (m : Nat) : ∀ d, smS c p m ≤ smS c p (m + d)
  | 0 => Nat.le_refl _
  | d + 1 => by
    have := sm_mono c p m d
    rw [← Nat.add_assoc, sm_succ]; omega
theorem sm_ext {c : Nat → Nat} {p q : Nat → Bool} : ∀ {n : Nat}, (∀ j, j < n → p j = q j) → smS c p n = smS c q n
  | 0, _ => rfl
  | n + 1, h => by
    rw [sm_succ, sm_succ, sm_ext (fun j hj => h j (by omega)), h n (by omega)]
theorem sm_bd {c : Nat → Nat} {b : Nat} (p : Nat → Bool) : ∀ {n : Nat}, (∀ j, j < n → c j ≤ b) → smS c p n ≤ n * b
  | 0, _ => Nat.zero_le _
  | n + 1, h => by
    have h1 := sm_bd (c := c) (b := b) p (n := n) fun j hj => h j (by omega)
    have h2 := h n (by omega)
    rw [sm_succ, Nat.succ_mul]
    by_cases hp : p n = true
    · rw [if_pos hp]; omega
    · rw [if_neg hp]; omega
/-- The weight of a field; what its change costs. -/
def wtN (l : List Fd) (i : Nat) : Nat := (fd l i).wt.toNat
def csN (l : List Fd) (i : Nat) : Nat := wtN l i * 16777216 + 4096 - 2 ^ (11 - i)
def rsN (i : Nat) : Nat := 4096 - 2 ^ (11 - i)
theorem pow11 (i : Nat) : 1 ≤ 2 ^ (11 - i) ∧ 2 ^ (11 - i) ≤ 2048 := ⟨Nat.two_pow_pos _, show 2 ^ (11 - i) ≤ 2 ^ 11 from Nat.pow_le_pow_right (by omega) (by omega)⟩
theorem cs_one (l : List Fd) (n : Nat) : csN l n = wtN l n * 16777216 + rsN n := by
  have h2 := pow11 n
  unfold csN rsN
  generalize 2 ^ (11 - n) = y at h2
  generalize wtN l n * 16777216 = x
  omega
theorem cs_split (l : List Fd) (p : Nat → Bool) : ∀ n, smS (csN l) p n = smS (wtN l) p n * 16777216 + smS rsN p n
  | 0 => by simp [smS]
  | n + 1 => by
    have h := cs_split l p n
    rw [sm_succ, sm_succ, sm_succ, h, Nat.add_mul, cs_one]
    by_cases hp : p n = true
    · rw [if_pos hp, if_pos hp, if_pos hp]; omega
    · rw [if_neg hp, if_neg hp, if_neg hp, Nat.zero_mul]; omega
theorem rs_lt (p : Nat → Bool) {n : Nat} (h : n ≤ 12) : smS rsN p n < 16777216 := by
  have := sm_bd (c := rsN) (b := 4096) p (n := n) fun j _ => by unfold rsN; exact Nat.sub_le _ _
  omega
/-- What is least by costs is least by weights. -/
theorem cs_wt {l : List Fd} {p q : Nat → Bool} {n : Nat} (hn : n ≤ 12) (h : smS (csN l) p n ≤ smS (csN l) q n) : smS (wtN l) p n ≤ smS (wtN l) q n := by
  rw [cs_split, cs_split] at h
  have h1 := rs_lt p hn
  have h2 := rs_lt q hn
  omega
theorem cs_bd (hok : Ok l E) (p : Nat → Bool) {n : Nat} (hn : n ≤ l.length) : smS (csN l) p n ≤ 201326641152 := by
  have h := sm_bd (c := csN l) (b := 16777220096) p (n := n) fun j hj => by
    have h1 := hok.wt j (by omega)
    have h2 : wtN l j ≤ 1000 := by unfold wtN; omega
    unfold csN
    have h3 := pow11 j
    generalize 2 ^ (11 - j) = y at h3
    generalize wtN l j = x at h2
    omega
  have h2 := hok.n12
  omega
theorem ch_bit {B : Nat → Nat} {i n : Nat} (hn : n ≤ 64) (h0 : B i ≠ 0) (h : B i < 2 ^ n) : (B i).testBit (ch B i) = true := by
  have h1 : B i = bz (fun j => (B i).testBit j) n := (bz_of h).symm
  obtain ⟨t, ht, h2, h3⟩ := bz_first (p := fun j => (B i).testBit j) (n := n) (by rw [← h1]; exact h0)
  have e : ch B i = t := by
    unfold ch
    exact ctz_first (Nat.lt_of_lt_of_le h (Nat.pow_le_pow_right (by omega) hn)) h2 h3
  rw [e]; exact h2
/-- What Least finds. -/
def IsLs (l : List Fd) (E : List Ed) (r : List Int) (s : Nat) : Prop := ∃ C, C ∈ pss l E ∧ s = bz (chB l r C) l.length ∧ ∀ D, D ∈ pss l E → smS (csN l) (chB l r C) l.length ≤ smS (csN l) (chB l r D) l.length
/-- With these fields a record can be made to pass. -/
theorem ls_fil (hok : Ok l E) {r : List Int} (hr : r.length = l.length) {C : Nat → Nat} (hC : C ∈ pss l E) : fil l E (lst (chB l r C) l.length) r ≠ none := by
  have hb := pss_bd hC
  let x : List Int := (List.range l.length).map fun j => if chB l r C j = true then fn (fd l j).cs (ch C j) else fn r j
  have hxl : x.length = l.length := by simp [x]
  have hxf : ∀ j, j < l.length → fn x j = if chB l r C j = true then fn (fd l j).cs (ch C j) else fn r j := fun j hj => by
    unfold fn
    rw [List.getD_eq_getElem?_getD, List.getElem?_map, List.getElem?_range hj]
    rfl
  have hx : inBx l x C := ⟨hxl, fun j hj => by
    rw [hxf j hj]
    cases q : chB l r C j with
    | false =>
      rw [if_neg (by simp)]
      exact ch_not hok hj q
    | true =>
      rw [if_pos rfl]
      have h20 := hok.c20 j hj
      have h1 := hb j hj
      have h2 : (C j).testBit (ch C j) = true := by
        exact ch_bit (by omega) h1.1 h1.2
      exact ⟨ch C j, bits_lt h1.2 h2, rfl, h2⟩⟩
  refine fil_ex _ r x (fun i hi => ?_) hr hxl (pss_sound hok hC hx) fun j hj hjf => ?_
  · unfold lst at hi; exact List.mem_range.1 (List.mem_filter.1 hi).1
  · rw [hxf j hj, if_neg]
    intro e
    apply hjf
    unfold lst
    exact List.mem_filter.2 ⟨List.mem_range.2 hj, e⟩
/-- Fields with which it can are those of some part at least. -/
theorem fil_ls (hok : Ok l E) {r x : List Int} (hr : r.length = l.length) {f : List Nat} (hf : ∀ i, i ∈ f → i < l.length) (h : fil l E f r = some x) : ∃ C, C ∈ pss l E ∧ ∀ j, j < l.length → chB l r C j = true → j ∈ f := by
  obtain ⟨h1, h2, h3⟩ := fil_some f r x (fun i hi => by rw [hr]; exact hf i hi) h
  obtain ⟨C, hC, hx⟩ := pss_cover hok (by rw [h1, hr]) h2
  refine ⟨C, hC, fun j hj hc => ?_⟩
  refine Classical.byContradiction fun q => ?_
  exact ch_yes hok hj hx hc (h3 j q)
end
end Go.Proofs.YtadfmplafehjlaaDoor
