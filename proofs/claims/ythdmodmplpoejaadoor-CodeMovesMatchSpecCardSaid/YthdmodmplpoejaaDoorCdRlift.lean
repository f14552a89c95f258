/-
  The reference of package code: Lift.
-/
import Derived.Test.YthdmodmplpoejaaDoorCdRlin
namespace Go.Proofs.YthdmodmplpoejaaDoor
open Go.RowKit Go.WideMaps Go.Maps

/-- What lies there in the loop of Lift. -/
structure InQ (w wr : World) (B g : Nat) (l : List Nd) (n : Nat) (C : List Cg) (k : Nat) : Prop where
  own : OwnF wr B g C.length (fun j => if j < k then lif l n (cg C j) else cg C j)
  bel : Below w.heap.size w wr
  wb : w.heap.size ≤ B
theorem InQ.keep {w wr W : World} {B g : Nat} {l : List Nd} {n : Nat} {C : List Cg} {k : Nat} (h : InQ w wr B g l n C k) (hb : Below wr.heap.size wr W) : InQ w W B g l n C k :=
  ⟨h.own.keep hb, h.bel.trans (hb.mono h.bel.size), h.wb⟩
theorem InQ.next {w wr : World} {B g : Nat} {l : List Nd} {n : Nat} {C : List Cg} {k : Nat} (h : InQ w wr B g l n C k) (hk : k < C.length) :
    InQ w (wr.setCell ⟨g, k * 3 + 2, none⟩ (.int .i64 (it (par l) (lev l (cg C k).cd.toNat - n) (cg C k).cd.toNat : Nat))) B g l n C (k + 1) := by
  have lo := h.own.lo
  have wb := h.wb
  have s := h.own.set hk (it (par l) (lev l (cg C k).cd.toNat - n) (cg C k).cd.toNat : Nat)
  refine ⟨⟨fun j hj => ?_, s.fr, s.lo, s.lt⟩, h.bel.setCell (p := ⟨g, k * 3 + 2, none⟩) (by show _ ≤ g; omega) _, wb⟩
  have := s.at_ j hj
  by_cases e : j = k
  · subst e
    simp only [if_pos rfl, Nat.lt_irrefl, if_false] at this
    rw [if_pos (Nat.lt_succ_self _)]
    exact this
  · simp only [if_neg e] at this
    by_cases e2 : j < k
    · rw [if_pos e2] at this; rw [if_pos (by omega)]; exact this
    · rw [if_neg e2] at this; rw [if_neg (by omega)]; exact this
set_option maxRecDepth 100000 in
set_option maxHeartbeats 4000000 in
theorem rLift_c (sa : Option Addr) (c : Nat) (l : List Nd) (a2 : Option Addr) (c2 : Nat) (C : List Cg) (m : Int) (w : World) (hl : RdN w sa l) (hf : Fits l) (hC : RdC w a2 C) :
    Calls Tryd.prog 25 #[.slice sa l.length c, .slice a2 C.length c2, .int .i64 m] w (LiP l C m w) := by
  have h9 := hC.1
  have HC := Lib.hid (rCheckCodings_c sa c l a2 c2 C w hl hf hC)
  have HCC := Lib.hid hC
  have HL := Lib.hid hl
  clear hl hf hC
  by_cases hz : forS l C ≠ 0
  · have HP : Hid (liE l C m = forS l C ∧ liE l C m ≠ 0) := by
      have e : liE l C m = forS l C := by unfold liE; rw [if_pos hz]
      exact ⟨e, by rw [e]; exact hz⟩
    obtain ⟨f, hfl⟩ : ∃ f, forS l C = f := ⟨_, rfl⟩
    rw [hfl] at hz HC HP
    have f1 : (f == 0) = false := by rw [beq_eq_false_iff_ne]; exact hz
    have f2 : (f != 0) = true := by rw [bne, f1]; rfl
    clear hfl hz
    go_enter Tryd.func25, Tryd.ntmps25
    go_wp2_with fail
    (with_reducible refine HC.out.mono ?_)
    rintro e W2 ⟨rfl, b2⟩
    have BW2 := Lib.hid b2
    clear b2
    go_wp2
    go_ret2
    exact Or.inr ⟨HP.out.2, by rw [HP.out.1]; rfl, BW2.out⟩
  have hz : forS l C = 0 := by omega
  obtain ⟨F, _, hn, hcs⟩ := for_ok hz
  have HP : Hid (liE l C m = if m < 1 ∨ 8 < m then 1 else 0) := by unfold Hid liE; rw [if_neg (by simpa using hz)]
  rw [hz] at HC
  have HF := Lib.hid F
  have HCS := Lib.hid hcs
  clear hz F hcs
  go_enter Tryd.func25, Tryd.ntmps25
  go_wp2_with fail
  (with_reducible refine HC.out.mono ?_)
  rintro e W2 ⟨rfl, b2⟩
  have B2 := Lib.hid b2
  have HW := Lib.hid (rwithin_c m 1 8 W2)
  clear b2
  by_cases m1 : 1 ≤ m ∧ m ≤ 8
  rotate_left
  · have RR : Hid (liE l C m = 1) := by unfold Hid; rw [HP.out, if_pos (by omega)]
    rw [decide_eq_false m1] at HW
    go_wp2_with fail
    (with_reducible refine HW.out.mono ?_)
    rintro e w' ⟨rfl, hw⟩
    have hw := hw.symm
    subst hw
    go_wp2
    go_ret2
    exact Or.inr ⟨by rw [RR.out]; decide, by rw [RR.out]; rfl, B2.out⟩
  have RR : Hid (liE l C m = 0) := by unfold Hid; rw [HP.out, if_neg (by omega)]
  obtain ⟨n, rfl⟩ : ∃ n : Nat, m = n := ⟨m.toNat, by omega⟩
  have hn8 : n ≤ 8 ∧ 1 ≤ n := by omega
  rw [decide_eq_true m1] at HW
  have HLc := Lib.hid (clone_c a2 c2 C W2 (HCC.out.below B2.out) hn)
  clear m1
  go_wp2_with fail
  (with_reducible refine HW.out.mono ?_)
  rintro e w' ⟨rfl, hw⟩
  have hw := hw.symm
  subst hw
  go_wp2_with fail
  (with_reducible refine HLc.out.mono ?_)
  rintro e W4 ⟨v, rfl, hown, b4⟩
  have BW4 := Lib.hid (B2.out.trans (b4.mono B2.out.size))
  by_cases h0 : C.length = 0
  · have e : C = [] := List.eq_nil_of_length_eq_zero h0
    subst e
    obtain ⟨a', c', rfl, _⟩ := rdC_own hown (by simp)
    have RD : Hid (RdC W4 a' (lifC l n [])) := RdC.nil_ _ _
    clear hown b4
    go_wp2_with fail
    go_loop [10, 12, 26] (fun _ _ i => i = .int .i64 0) (fun _ _ _ => 0)
    case atStart => exact rfl
    case round =>
      obtain rfl := hrel
      go_wp2
      go_ret2
      exact Or.inl ⟨RR.out, a', c', rfl, by rw [Int.toNat_natCast]; exact RD.out, BW4.out⟩
  obtain ⟨g, cap, rfl, hO⟩ := own_C hown (by omega)
  have S0 : Hid (InQ w W4 W2.heap.size g l n C 0) := ⟨⟨fun j hj => by rw [if_neg (Nat.not_lt_zero _)]; exact hO.at_ j hj, hO.fr, hO.lo, hO.lt⟩, BW4.out, B2.out.size⟩
  obtain ⟨B, hB⟩ : ∃ z, W2.heap.size = z := ⟨_, rfl⟩
  rw [hB] at S0
  clear hown b4 hO h0 BW4 HLc HP
  go_wp2_with fail
  go_loopw [10, 12, 26] (fun _ _ i wr => ∃ k : Nat, k ≤ C.length ∧ i = .int .i64 k ∧ Hid (InQ w wr B g l n C k)) (fun _ _ i _ => C.length - (intOf i).toNat)
  case atStart => exact ⟨0, Nat.zero_le _, rfl, S0.out⟩
  case round =>
    clear S0
    obtain ⟨k, hk, rfl, hS⟩ := hrel
    by_cases hlt : k < C.length
    · have hlt' : (k : Int) < (C.length : Int) := by omega
      obtain ⟨cd, hcd, hcn⟩ := HCS.out k hlt
      have HCD := Lib.hid hcd
      obtain ⟨x0, x1, x2⟩ := hS.out.own.at_ k hlt
      simp only [Nat.lt_irrefl, if_false] at x0 x1 x2
      obtain ⟨W5, hW5⟩ : ∃ W5, wr.alloc (.cells #[.int .i64 (cg C k).ca, .int .i64 (cg C k).co, .int .i64 (cg C k).cd] 49) = W5 := ⟨_, rfl⟩
      have N5 : Hid (CodB wr W5 (cg C k)) := by unfold Hid; rw [← hW5]; exact cod_b _ _
      have S5 := Lib.hid (hS.out.keep N5.out.1)
      have v2 := N5.out.2.c2
      rw [hcd] at v2 hW5 x2
      have HLn := Lib.hid (rlineage_c _ c l cd W5 (HL.out.below S5.out.bel) HF.out hcn)
      have hlev := (HF.out.lev hcn).2
      have HIt := Lib.hid hlev.1
      clear hcd hcn hS N5
      go_wp2_with fail
      (with_reducible refine HLn.out.mono ?_)
      rintro e W6 ⟨av, cv, rfl, hrd, b6, _⟩
      obtain ⟨L, hL⟩ : ∃ L, lev l cd = L := ⟨_, rfl⟩
      rw [hL] at hrd hlev
      have S6 := Lib.hid (S5.out.keep b6)
      have hix : L - n < (pth (par l) cd L).length := by rw [pth_len]; omega
      obtain ⟨b9, o9, rfl, y0⟩ := hrd.at_ hix
      rw [pth_at (by omega)] at y0
      have NX : Hid (InQ w (W6.setCell ⟨g, k * 3 + 2, none⟩ (.int .i64 (it (par l) (L - n) cd : Nat))) B g l n C (k + 1)) := by
        have := S6.out.next hlt
        rw [HCD.out, Int.toNat_natCast, hL] at this
        exact this
      have z2 := (S6.out.own.at_ k hlt).2.2
      simp only [Nat.lt_irrefl, if_false] at z2
      have z3 := S6.out.own.fr (k * 3 + 2)
      have hmx : max (0 : Int) (wrap64 ((L : Int) - (n : Int))) = ((L - n : Nat) : Int) := by unfold wrap64; omega
      have hix' : ((L - n : Nat) : Int) < (L : Int) := by omega
      obtain ⟨q, hq⟩ : ∃ q, L - n = q := ⟨_, rfl⟩
      rw [hq] at hmx hix' y0 NX
      rw [hL]
      clear b6 hrd hix hL hlev x0 x1 x2 v2 hW5 hq
      go_wp2
      go_roundw
      case rel => exact ⟨k + 1, by omega, by go_num, NX.out⟩
      case measure => simp [intOf]; omega
    · obtain rfl : k = C.length := by omega
      have RD : Hid (RdC wr (some ⟨g, 0, none⟩) (lifC l n C)) := ⟨by rw [lifC_len]; exact h9, fun _ => ⟨g, 0, rfl, hS.out.own.lt, fun j hj => by
        rw [lifC_len] at hj
        have := hS.out.own.at_ j hj
        rw [if_pos hj] at this
        rw [lifC_at hj, Nat.zero_add]; exact this⟩⟩
      clear hlt
      go_wp2
      go_ret2
      exact Or.inl ⟨RR.out, _, cap, rfl, by rw [Int.toNat_natCast]; exact RD.out, hS.out.bel⟩
end Go.Proofs.YthdmodmplpoejaaDoor
