/-
  Package edit: First.
  EditRecordsMatchSpec: the law.
  An argument of the type api.EditPlan, opened: the lists that it reads as.
  Package edit: a box is divided, for rounds that change blocks of their own.
-/
import Derived.Test.YtadfmplafehjlaaDoorEP09
import Derived.Test.YtadfmplafehjlaaDoorEP11
import Derived.ProofKit
import Derived.OpenShut
import Derived.ShutString
import Derived.ChangeOld
import Derived.Deep.DeepHandedRow
import Derived.Lib.SmallJoins
namespace Go.Proofs.YtadfmplafehjlaaDoor
open Go.RowKit Go.WideMaps Go.Maps

theorem fsrch_wib {l : List Fd} {E : List Ed} (hok : Ok l E) {r : List Int} {g : List Nat} (hr : r.length = l.length) (hg : ∀ x, x ∈ g → x < l.length) (hs : g.Pairwise (· < ·)) : fsrch l E (wib l r g) = fil l E g r := by
  unfold fsrch prs
  by_cases h : emB l (wib l r g) = true
  · rw [if_pos h, fil_none hok hr hg h]; rfl
  · rw [if_neg h]
    exact (wib_sch hok hr hg hs (by simpa using h)).find hok
theorem wib_lt {l : List Fd} (r : List Int) (g : List Nat) : ∀ j, j < l.length → wib l r g j < 2 ^ (fd l j).cs.length := fun j hj => by
  unfold wib
  rw [if_pos hj]
  by_cases h : j ∈ g
  · rw [if_pos h]; unfold fuS; rw [if_pos hj]
    have := Nat.two_pow_pos (fd l j).cs.length; omega
  · rw [if_neg h]; exact bz_lt _ _
theorem wib_nil (l : List Fd) (r : List Int) : wib l r [] = rbx l r := by
  funext i
  unfold wib rbx
  by_cases h : i < l.length
  · rw [if_pos h, if_pos h, if_neg (by simp)]
  · rw [if_neg h, if_neg h]
theorem wib_step {l : List Fd} (r : List Int) {f : List Int} {k n : Nat} (hk : k < f.length) (hn : fn f k = n) (hl : n < l.length) : upd (wib l r ((natL f).take k)) n (fuS l n) = wib l r ((natL f).take (k + 1)) := by
  have e : (natL f).take (k + 1) = (natL f).take k ++ [n] := by
    have h1 : (natL f)[k]? = some n := by
      unfold natL
      rw [List.getElem?_map]
      unfold fn at hn
      rw [List.getD_eq_getElem?_getD] at hn
      rw [List.getElem?_eq_getElem hk] at hn ⊢
      simp only [Option.getD_some] at hn
      rw [hn]; rfl
    rw [List.take_add_one, h1]; rfl
  rw [e]
  funext i
  unfold upd wib
  by_cases h : i = n
  · subst h
    rw [if_pos rfl, if_pos hl, if_pos (by simp)]
  · rw [if_neg h]
    by_cases h2 : i < l.length
    · rw [if_pos h2, if_pos h2]
      by_cases h3 : i ∈ (natL f).take k
      · rw [if_pos h3, if_pos (by simp [h3])]
      · rw [if_neg h3, if_neg (by simp [h3, h])]
    · rw [if_neg h2, if_neg h2]
def laV (f : List Int) (k : Nat) : Int := if k = 0 then -1 else fn f (k - 1)
set_option maxRecDepth 100000 in
set_option maxHeartbeats 8000000 in
theorem First_c (a : Option Addr) (c : Nat) (l : List Fd) (a2 : Option Addr) (c2 : Nat) (E : List Ed) (a3 : Option Addr) (c3 : Nat) (r : List Int) (fa : Option Addr) (fcc : Nat) (f : List Int) (w : World) (hl : RdF w a l) (hE : RdE w a2 E) (hr : Rd w a3 r) (hf : Rd w fa f) (hst : ∀ u, u ∈ l → u.nm.size ≤ 9223372036854775807) (hst2 : ∀ u, u ∈ E → u.nm.size ≤ 9223372036854775807)
    (hT : TabAt 0 Lib.deBruijn64tab w) (ht : 0 < w.heap.size) :
    Calls Tryd.prog 13 #[.agg #[.slice a l.length c, .slice a2 E.length c2], .slice a3 r.length c3, .slice fa f.length fcc] w (FirP l E r f w) := by
  obtain ⟨W1, hW1⟩ : ∃ W, w.alloc (.cells #[.slice a l.length c, .slice a2 E.length c2] 25) = W := ⟨_, rfl⟩
  obtain ⟨W2, hW2⟩ : ∃ W, W1.alloc (.cells #[.slice a3 r.length c3] 26) = W := ⟨_, rfl⟩
  have b1 : Below w.heap.size w W1 := by rw [← hW1]; exact bel_one _ _
  have b2 : Below W1.heap.size W1 W2 := by rw [← hW2]; exact bel_one _ _
  have B2 : Hid (Below w.heap.size w W2) := b1.trans (b2.mono b1.size)
  have l2 : W1.heap.size < W2.heap.size := by rw [← hW2]; simp
  have HZ : Hid (W1.heap.size < W2.heap.size) := l2
  have C := Lib.hid (planFor_c a c l a2 c2 E (some ⟨W1.heap.size, 0, none⟩) 1 [r] W2 (hl.below B2.out) (hE.below B2.out) (rdL_one l2 (by rw [← hW2, World.cell?_alloc_new]; rfl) (hr.below B2.out)) hst hst2 (tab_below hT ht B2.out) (Nat.lt_of_lt_of_le ht B2.out.size))
  have x0 : W1.cell? ⟨w.heap.size, 0, none⟩ = some (.slice a l.length c) := by rw [← hW1, World.cell?_alloc_new]; rfl
  have x1 : W1.cell? ⟨w.heap.size, 1, none⟩ = some (.slice a2 E.length c2) := by rw [← hW1, World.cell?_alloc_new]; rfl
  have y0 : W2.cell? ⟨w.heap.size, 0, none⟩ = some (.slice a l.length c) := by exact (b2.cell (p := ⟨w.heap.size, 0, none⟩) (cellLt x0)).trans x0
  have y1 : W2.cell? ⟨w.heap.size, 1, none⟩ = some (.slice a2 E.length c2) := by exact (b2.cell (p := ⟨w.heap.size, 1, none⟩) (cellLt x1)).trans x1
  have C2 : Hid (∀ p V, PlR V p l E → Ok l E → RecOk l r → Below w.heap.size w V → Calls Tryd.prog 27 #[.pointer (some ⟨p, 0, none⟩), .slice a3 r.length c3] V fun e w' => e = .returned (bxV (rbx l r)) ∧ Below V.heap.size V w') := fun p V h hok hb b =>
    boxOf_c p l E a3 c3 r V h hok.n12 (hr.below b) hb.1 fun j hj => by have := hb.2 j hj; omega
  have C3 : Hid (∀ p V, PlR V p l E → Ok l E → RecOk l r → freS l.length f = 0 → Below w.heap.size w V → Calls Tryd.prog 34 #[.pointer (some ⟨p, 0, none⟩), bxV (wib l r (natL f))] V (FstP (fil l E (natL f) r) V)) := fun p V h hok hrk h0 b => by
    have hb := nat_back h0
    have := pfirst_c p l E (wib l r (natL f)) V h hok (wib_lt r _) (tab_below hT ht b) (Nat.lt_of_lt_of_le ht b.size)
    rw [fsrch_wib hok hrk.1 hb.2.1 hb.2.2] at this
    exact this
  have HFR := Lib.hid hf
  obtain ⟨fl, hfl⟩ : ∃ n, f.length = n := ⟨_, rfl⟩
  have HFL := Lib.hid hfl
  have fl64 : fl ≤ 9223372036854775807 := by rw [← hfl]; exact hf.1
  unfold PfP at C
  rw [pf_one] at C
  obtain ⟨g, hg⟩ : ∃ f, frS l E r = f := ⟨_, rfl⟩
  rw [hg] at C
  have HG := Lib.hid hg
  obtain ⟨o, ho⟩ : ∃ o, fil l E (natL f) r = o := ⟨_, rfl⟩
  have HO := Lib.hid ho
  rw [ho] at C3
  obtain ⟨n, hn⟩ : ∃ n, l.length = n := ⟨_, rfl⟩
  obtain ⟨m, hm⟩ : ∃ n, E.length = n := ⟨_, rfl⟩
  obtain ⟨k3, hk⟩ : ∃ n, r.length = n := ⟨_, rfl⟩
  have HF : Hid (frfS l E r f = if g ≠ 0 then g else freS n f) := by unfold Hid frfS; rw [hg, hn]
  have HN := Lib.hid hn
  rw [hn] at C x0 y0 hW1
  rw [hm] at C x1 y1 hW1
  rw [hk] at C2 hW2
  rw [hn, hm, hk, hfl]
  clear hl hE hr hf hst hst2 hT b1 b2 l2 hg hn hm hk hfl ho
  unfold FstP at C3
  go_enter Tryd.func13, Tryd.ntmps13
  go_wp2_with fail
  refine C.out.mono ?_
  rintro e1 w2 ⟨b2, h2⟩
  have B3 : Hid (Below w.heap.size w w2) := B2.out.trans (b2.mono B2.out.size)
  clear b2 x0 x1 y0 y1 hW1 hW2
  rcases h2 with ⟨h0, rfl⟩ | ⟨h0, hok, p, rfl, hp⟩
  · have g2 : (g != 0) = true := by simpa using h0
    have PP : Hid (FirP l E r f w (.returned (.tuple #[.slice none 0 0, .bool false, .int .i64 g])) w2) := by
      refine ⟨B3.out, .inl ⟨?_, ?_⟩⟩
      · rw [HF.out, if_pos h0]; exact h0
      · rw [HF.out, if_pos h0]
    clear C C2 C3 h0
    go_wp2
    go_ret3
    exact PP.out
  · have HB := Lib.hid (fr_ok (HG.out.trans h0)).2
    have HOK := Lib.hid hok
    have HP := Lib.hid hp
    have HF2 : Hid (frfS l E r f = freS n f) := by unfold Hid; rw [HF.out, if_neg (by simpa using h0)]
    have n12 : n ≤ 12 := by rw [← HN.out]; exact hok.n12
    have C4 := Lib.hid (C2.out p w2 hp hok HB.out B3.out)
    obtain ⟨D, hD⟩ : ∃ D, rbx l r = D := ⟨_, rfl⟩
    have HD : Hid (wib l r ((natL f).take 0) = D) := by unfold Hid; rw [List.take_zero, wib_nil, hD]
    rw [hD] at C4
    unfold bxV at C4
    subst h0
    clear hp hok C C2 HF hD
    go_wp2_with fail
    refine C4.out.mono ?_
    rintro e1 w4 ⟨rfl, b4⟩
    have B4 := Lib.hid (B3.out.trans (b4.mono B3.out.size))
    have P4 := Lib.hid (HP.out.below b4)
    obtain ⟨wb, hwb⟩ : ∃ q, w4.heap.size = q := ⟨_, rfl⟩
    obtain ⟨W5, hW5⟩ : ∃ W, w4.alloc (.cells #[.int .u64 (D 0), .int .u64 (D 1), .int .u64 (D 2), .int .u64 (D 3), .int .u64 (D 4), .int .u64 (D 5), .int .u64 (D 6), .int .u64 (D 7), .int .u64 (D 8), .int .u64 (D 9), .int .u64 (D 10), .int .u64 (D 11)] 57) = W := ⟨_, rfl⟩
    have b5 : Below w4.heap.size w4 W5 := by rw [← hW5]; exact bel_one _ _
    have X5 : Hid (BxAt W5 wb 0 D ∧ wb < W5.heap.size ∧ w4.heap.size = wb ∧ ∀ o, W5.frozen? ⟨wb, o, none⟩ = false) := by unfold Hid; rw [← hW5, ← hwb]; exact ⟨bx_made w4 D, by simp, rfl, fun o => by simp⟩
    have B5 := Lib.hid b5
    clear b4 C4
    go_wp2_with fail
    clear hW5 b5
    go_loopw [12, 14, 32] (fun la _ iv wr => ∃ k : Nat, iv = .int .i64 k ∧ la = .int .i64 (laV f k) ∧ Hid (k ≤ fl ∧ fe (frE n f) k = 0 ∧ BxAt wr wb 0 (wib l r ((natL f).take k)) ∧ Below w4.heap.size w4 wr ∧ wb < wr.heap.size ∧ ∀ o, wr.frozen? ⟨wb, o, none⟩ = false)) (fun _ _ iv _ => fl - (intOf iv).toNat)
    case atStart => exact ⟨0, rfl, rfl, Nat.zero_le _, rfl, by rw [HD.out]; exact X5.out.1, B5.out, X5.out.2.1, X5.out.2.2.2⟩
    case round =>
      obtain ⟨k, rfl, rfl, hS⟩ := hrel
      obtain ⟨hk, hfe, hbx, hb, hlt5, hfr⟩ := hS.out
      have BWr : Hid (Below w.heap.size w wr) := B4.out.trans (hb.mono B4.out.size)
      have PR := P4.out.below hb
      obtain ⟨qb, qc, q0, _, _⟩ := PR.fs
      rw [HN.out] at q0
      by_cases hlt : k < fl
      · have hlt' : (k : Int) < (fl : Int) := by omega
        obtain ⟨b, off, rfl, _, hcs⟩ := (HFR.out.below BWr.out).2 (by rw [HFL.out]; omega)
        have c0 := hcs k (by rw [HFL.out]; exact hlt)
        obtain ⟨x, hx⟩ : ∃ x, fn f k = x := ⟨_, rfl⟩
        rw [hx] at c0
        obtain ⟨la, hla⟩ : ∃ v, laV f k = v := ⟨_, rfl⟩
        have BAD : Hid (∀ v, frE n f k = v → v ≠ 0 → FirP l E r f w (.returned (.tuple #[.slice none 0 0, .bool false, .int .i64 v])) wr) := fun v h hv => by
          have e : frfS l E r f = v := by
            rw [HF2.out]; unfold freS
            rw [HFL.out, fe_at hlt hfe (by rw [h]; exact hv), h]
          exact ⟨BWr.out, .inl ⟨by rw [e]; exact hv, by rw [e]⟩⟩
        rw [hla]
        by_cases hx0 : x < 0
        · have PP := Lib.hid (BAD.out 1 (frE_1 (by rw [hx]; exact .inl hx0)) (by decide))
          clear hS hk hfe hbx hb hlt5 hfr PR hcs hx hla BAD
          go_wp2
          go_ret3
          exact PP.out
        · by_cases hxn : (n : Int) ≤ x
          · have PP := Lib.hid (BAD.out 1 (frE_1 (by rw [hx]; exact .inr hxn)) (by decide))
            clear hS hk hfe hbx hb hlt5 hfr PR hcs hx hla BAD
            go_wp2
            go_ret3
            exact PP.out
          · have hin : ¬ (fn f k < 0 ∨ (n : Int) ≤ fn f k) := by rw [hx]; omega
            by_cases hxl : x ≤ la
            · have hk0 : k ≠ 0 := fun e => by
                rw [e] at hla
                have : laV f 0 = -1 := rfl
                omega
              have PP := Lib.hid (BAD.out 7 (frE_7 hin ⟨hk0, by
                unfold laV at hla
                rw [if_neg hk0] at hla
                rw [hx, hla]; exact hxl⟩) (by decide))
              clear hS hk hfe hbx hb hlt5 hfr PR hcs hx hla BAD
              go_wp2
              go_ret3
              exact PP.out
            · have h00 : frE n f k = 0 := frE_0 hin (fun h => by
                have h2 := h.2
                unfold laV at hla
                rw [if_neg h.1] at hla
                rw [hx, hla] at h2; exact hxl h2)
              obtain ⟨xn, rfl⟩ : ∃ q : Nat, x = q := ⟨x.toNat, by omega⟩
              have hxnl : xn < n := by omega
              have hx12 : (xn : Int) < 12 := by omega
              have hx00 : (0 : Int) ≤ (xn : Int) := by omega
              have q1 := PR.fu xn (by omega)
              obtain ⟨fv, hfv⟩ : ∃ v, fuS l xn = v := ⟨_, rfl⟩
              rw [hfv] at q1
              have q2 := hbx xn (by omega)
              rw [Nat.zero_add] at q2
              have q3 := hfr xn
              obtain ⟨ov, hov⟩ : ∃ v, wib l r ((natL f).take k) xn = v := ⟨_, rfl⟩
              rw [hov] at q2
              obtain ⟨W9, hW9⟩ : ∃ W, wr.setCell ⟨wb, xn, none⟩ (.int .u64 fv) = W := ⟨_, rfl⟩
              have NX : Hid (k + 1 ≤ fl ∧ fe (frE n f) (k + 1) = 0 ∧ BxAt W9 wb 0 (wib l r ((natL f).take (k + 1))) ∧ Below w4.heap.size w4 W9 ∧ wb < W9.heap.size ∧ ∀ o, W9.frozen? ⟨wb, o, none⟩ = false) := by
                unfold Hid
                rw [← hW9]
                refine ⟨hlt, by rw [fe_next hfe]; exact h00, ?_, hb.setCell (p := ⟨wb, xn, none⟩) (by have := X5.out.2.2.1; show w4.heap.size ≤ wb; omega) _, by simpa using hlt5, fun o => by rw [World.frozen?_setCell]; exact hfr o⟩
                have h1 := hbx.set (k := xn) (by omega) fv
                rw [Nat.zero_add, ← hfv, wib_step r (by rw [HFL.out]; exact hlt) hx (by rw [HN.out]; exact hxnl)] at h1
                rw [← hfv]; exact h1
              have HLA : Hid (laV f (k + 1) = (xn : Int)) := by unfold Hid laV; rw [if_neg (by omega), Nat.add_sub_cancel, hx]
              clear hS hk hfe hbx hb hlt5 hfr PR hcs hx hla BAD hin h00 hov hfv
              go_wp2
              try rw [hW9]
              clear hW9 q1 q2 q3
              go_roundw
              case rel => exact ⟨k + 1, by go_num, by rw [HLA.out], NX.out⟩
              case measure => simp [intOf]; omega
      · have hlt' : ¬ (k : Int) < (fl : Int) := by omega
        have hkf : k = fl := by omega
        have h0 : freS n f = 0 := by
          unfold freS
          rw [HFL.out, ← hkf]; exact hfe
        have e : (natL f).take k = natL f := List.take_of_length_le (by simp [natL]; have := HFL.out; omega)
        rw [e] at hbx
        have C5 := C3.out p wr PR HOK.out HB.out (by rw [HN.out] at *; exact h0) BWr.out
        obtain ⟨D2, hD2⟩ : ∃ D, wib l r (natL f) = D := ⟨_, rfl⟩
        rw [hD2] at C5 hbx
        unfold bxV at C5
        have C5 := Lib.hid C5
        have XB := hbx
        have x0 := XB 0 (by decide)
        have x1 := XB 1 (by decide)
        have x2 := XB 2 (by decide)
        have x3 := XB 3 (by decide)
        have x4 := XB 4 (by decide)
        have x5 := XB 5 (by decide)
        have x6 := XB 6 (by decide)
        have x7 := XB 7 (by decide)
        have x8 := XB 8 (by decide)
        have x9 := XB 9 (by decide)
        have x10 := XB 10 (by decide)
        have x11 := XB 11 (by decide)
        simp only [Nat.zero_add] at x0 x1 x2 x3 x4 x5 x6 x7 x8 x9 x10 x11
        have H0 := Lib.hid h0
        clear hlt hS hk hfe hbx hb hlt5 hfr PR h0 e hD2 XB C3 hkf
        go_wp2_with fail
        refine C5.out.mono ?_
        rintro e1 w6 ⟨b6, h6⟩
        have B6 : Hid (Below w.heap.size w w6) := BWr.out.trans (b6.mono BWr.out.size)
        clear x0 x1 x2 x3 x4 x5 x6 x7 x8 x9 x10 x11 C5 b6 q0
        rcases h6 with ⟨r', ra, rc, hro, rfl, hrd⟩ | ⟨hro, rfl⟩
        · obtain ⟨rl, hrl⟩ : ∃ rl, r'.length = rl := ⟨_, rfl⟩
          have PP : Hid (FirP l E r f w (.returned (.tuple #[.slice ra rl rc, .bool true, .int .i64 0])) w6) :=
            ⟨B6.out, .inr ⟨by rw [HF2.out]; exact H0.out, .inl ⟨r', ra, rc, HO.out.trans hro, by rw [hrl], hrd⟩⟩⟩
          rw [hrl]
          clear hro hrd hrl
          go_wp2
          go_ret3
          exact PP.out
        · have PP : Hid (FirP l E r f w (.returned (.tuple #[.slice none 0 0, .bool false, .int .i64 0])) w6) :=
            ⟨B6.out, .inr ⟨by rw [HF2.out]; exact H0.out, .inr ⟨HO.out.trans hro, rfl⟩⟩⟩
          clear hro
          go_wp2
          go_ret3
          exact PP.out
end Go.Proofs.YtadfmplafehjlaaDoor
namespace Go.Proofs.YtadfmplafehjlaaDoor
open Go.RowKit Go.WideMaps Go.Maps

theorem equalI_c (a1 a2 : Option Addr) (c1 c2 : Nat) (l : List Int) (w : World) (h1 : Rd w a1 l) (h2 : Rd w a2 l) :
    Calls Tryd.prog 10 #[.slice a1 l.length c1, .slice a2 l.length c2] w fun e w' => e = .returned (.bool true) ∧ Below w.heap.size w w' := by
  by_cases h0 : l.length = 0
  · rw [h0]
    refine (Tryd.slices_Equal_int_empty a1 a2 c1 0 c2 w (by omega)).mono ?_
    rintro e w' ⟨rfl, rfl⟩
    exact ⟨rfl, Below.refl _ _⟩
  · obtain ⟨b1, o1, rfl, _, k1⟩ := h1.2 (by omega)
    obtain ⟨b2, o2, rfl, _, k2⟩ := h2.2 (by omega)
    refine (Tryd.slices_Equal_int b1 o1 l.length c1 b2 o2 l.length c2 l l w (Nat.le_refl _) (Nat.le_refl _) h1.1 h1.1 k1 k2).mono ?_
    rintro e w' ⟨rfl, q, rfl⟩
    exact ⟨by simp, ⟨rfl, rfl, rfl, Nat.le_refl _, fun _ _ => rfl⟩⟩
def faL (l : List Fd) (E : List Ed) (r : List Int) : List Int := if frS l E r ≠ 0 then [] else toI (flL E r)
theorem fa_res {l : List Fd} {E : List Ed} {r : List Int} {w : World} {e : Ending} {w' : World} (h : FaP l E r w e w') : ∃ a c, e = .returned (.tuple #[.slice a (faL l E r).length c, .int .i64 (frS l E r)]) ∧ Rd w' a (faL l E r) ∧ Below w.heap.size w w' := by
  obtain ⟨hb, ⟨h0, he⟩ | ⟨h0, a, c, he, hr⟩⟩ := h
  · refine ⟨none, 0, ?_, ?_, hb⟩
    · unfold faL; rw [if_pos h0]; exact he
    · unfold faL; rw [if_pos h0]; exact ⟨by simp, fun h => by simp at h⟩
  · refine ⟨a, c, ?_, ?_, hb⟩
    · unfold faL; rw [if_neg (by simpa using h0), he, h0]
    · unfold faL; rw [if_neg (by simpa using h0)]; exact hr
def psB (l : List Fd) (E : List Ed) (r : List Int) : Bool := if frS l E r ≠ 0 then false else paB l E r
theorem ps_res {l : List Fd} {E : List Ed} {r : List Int} {w : World} {e : Ending} {w' : World} (h : PsP l E r w e w') : e = .returned (.tuple #[.bool (psB l E r), .int .i64 (frS l E r)]) ∧ Below w.heap.size w w' := by
  obtain ⟨hb, ⟨h0, he⟩ | ⟨h0, he⟩⟩ := h
  · exact ⟨by unfold psB; rw [if_pos h0]; exact he, hb⟩
  · exact ⟨by unfold psB; rw [if_neg (by simpa using h0), he, h0], hb⟩
def fiL (l : List Fd) (E : List Ed) (r f : List Int) : List Int := if frfS l E r f ≠ 0 then [] else (fil l E (natL f) r).getD []
def fiB (l : List Fd) (E : List Ed) (r f : List Int) : Bool := if frfS l E r f ≠ 0 then false else (fil l E (natL f) r).isSome
theorem fi_res {l : List Fd} {E : List Ed} {r f : List Int} {w : World} {e : Ending} {w' : World} (h : FirP l E r f w e w') : ∃ a c, e = .returned (.tuple #[.slice a (fiL l E r f).length c, .bool (fiB l E r f), .int .i64 (frfS l E r f)]) ∧ Rd w' a (fiL l E r f) ∧ Below w.heap.size w w' := by
  obtain ⟨hb, ⟨h0, he⟩ | ⟨h0, ⟨r', a, c, ho, he, hr⟩ | ⟨ho, he⟩⟩⟩ := h
  · refine ⟨none, 0, ?_, ?_, hb⟩
    · unfold fiL fiB; rw [if_pos h0, if_pos h0]; exact he
    · unfold fiL; rw [if_pos h0]; exact ⟨by simp, fun h => by simp at h⟩
  · refine ⟨a, c, ?_, ?_, hb⟩
    · unfold fiL fiB; rw [if_neg (by simpa using h0), if_neg (by simpa using h0), he, h0, ho]; rfl
    · unfold fiL; rw [if_neg (by simpa using h0), ho]; exact hr
  · refine ⟨none, 0, ?_, ?_, hb⟩
    · unfold fiL fiB; rw [if_neg (by simpa using h0), if_neg (by simpa using h0), he, h0, ho]; rfl
    · unfold fiL; rw [if_neg (by simpa using h0), ho]; exact ⟨by simp, fun h => by simp at h⟩
set_option maxRecDepth 100000 in
set_option maxHeartbeats 8000000 in
theorem law_records (a : Option Addr) (c : Nat) (l : List Fd) (a2 : Option Addr) (c2 : Nat) (E : List Ed) (a3 : Option Addr) (c3 : Nat) (r : List Int) (fa : Option Addr) (fc : Nat) (f : List Int) (w : World) (hl : RdF w a l) (hE : RdE w a2 E) (hr : Rd w a3 r) (hf : Rd w fa f) (hst : ∀ u, u ∈ l → u.nm.size ≤ 9223372036854775807) (hst2 : ∀ u, u ∈ E → u.nm.size ≤ 9223372036854775807)
    (hT : TabAt 0 Lib.deBruijn64tab w) (ht : 0 < w.heap.size) (hEnv : Env w) (hc1 : l.length ≤ c) (hc2 : E.length ≤ c2) :
    Calls Tryd.prog 3 #[.agg #[.slice a l.length c, .slice a2 E.length c2], .slice a3 r.length c3, .slice fa f.length fc] w fun e w' => e = .returned (.bool true) ∧ Below w.heap.size w w' := by
  obtain ⟨z, hzz⟩ : ∃ z, w.heap.size = z := ⟨_, rfl⟩
  obtain ⟨W1, hW1⟩ : ∃ W, w.alloc (.cells #[.slice a l.length c, .slice a2 E.length c2] 25) = W := ⟨_, rfl⟩
  have b1 : Below w.heap.size w W1 := by rw [← hW1]; exact bel_one _ _
  have B1 := Lib.hid b1
  have x0 : W1.cell? ⟨z, 0, none⟩ = some (.slice a l.length c) := by rw [← hW1, ← hzz, World.cell?_alloc_new]; rfl
  have x1 : W1.cell? ⟨z, 1, none⟩ = some (.slice a2 E.length c2) := by rw [← hW1, ← hzz, World.cell?_alloc_new]; rfl
  have X : Hid (∀ V, Below W1.heap.size W1 V → V.cell? ⟨z, 0, none⟩ = some (.slice a l.length c) ∧ V.cell? ⟨z, 1, none⟩ = some (.slice a2 E.length c2)) := fun V hV =>
    ⟨(hV.cell (p := ⟨z, 0, none⟩) (cellLt x0)).trans x0, (hV.cell (p := ⟨z, 1, none⟩) (cellLt x1)).trans x1⟩
  have lw : ∀ V, Below W1.heap.size W1 V → Below w.heap.size w V := fun V hV => b1.trans (hV.mono b1.size)
  have C1 : Hid (∀ V, Below W1.heap.size W1 V → Calls Tryd.prog 8 #[.agg #[.slice a l.length c, .slice a2 E.length c2], .slice a3 r.length c3] V fun e w' => ∃ a c, e = .returned (.tuple #[.slice a (faL l E r).length c, .int .i64 (frS l E r)]) ∧ Rd w' a (faL l E r) ∧ Below V.heap.size V w') := fun V hV =>
    (Fails_c a c l a2 c2 E a3 c3 r V (hl.below (lw V hV)) (hE.below (lw V hV)) (hr.below (lw V hV)) hst hst2 (tab_below hT ht (lw V hV)) (Nat.lt_of_lt_of_le ht (lw V hV).size)).mono fun e w' h => fa_res h
  have C2 : Hid (∀ V, Below W1.heap.size W1 V → Calls Tryd.prog 9 #[.agg #[.slice a l.length c, .slice a2 E.length c2], .slice a3 r.length c3] V fun e w' => ∃ a c, e = .returned (.tuple #[.slice a (faL l E r).length c, .int .i64 (frS l E r)]) ∧ Rd w' a (faL l E r) ∧ Below V.heap.size V w') := fun V hV =>
    (rFails_c a c l a2 c2 E a3 c3 r V (hl.below (lw V hV)) (hE.below (lw V hV)) (hr.below (lw V hV)) (hEnv.below (lw V hV)) hc1 hc2).mono fun e w' h => fa_res h
  have C3 : Hid (∀ V, Below W1.heap.size W1 V → Calls Tryd.prog 11 #[.agg #[.slice a l.length c, .slice a2 E.length c2], .slice a3 r.length c3] V fun e w' => e = .returned (.tuple #[.bool (psB l E r), .int .i64 (frS l E r)]) ∧ Below V.heap.size V w') := fun V hV =>
    (Passes_c a c l a2 c2 E a3 c3 r V (hl.below (lw V hV)) (hE.below (lw V hV)) (hr.below (lw V hV)) hst hst2 (tab_below hT ht (lw V hV)) (Nat.lt_of_lt_of_le ht (lw V hV).size)).mono fun e w' h => ps_res h
  have C4 : Hid (∀ V, Below W1.heap.size W1 V → Calls Tryd.prog 12 #[.agg #[.slice a l.length c, .slice a2 E.length c2], .slice a3 r.length c3] V fun e w' => e = .returned (.tuple #[.bool (psB l E r), .int .i64 (frS l E r)]) ∧ Below V.heap.size V w') := fun V hV =>
    (rPasses_c a c l a2 c2 E a3 c3 r V (hl.below (lw V hV)) (hE.below (lw V hV)) (hr.below (lw V hV)) (hEnv.below (lw V hV)) hc1 hc2).mono fun e w' h => ps_res h
  have C5 : Hid (∀ V, Below W1.heap.size W1 V → Calls Tryd.prog 13 #[.agg #[.slice a l.length c, .slice a2 E.length c2], .slice a3 r.length c3, .slice fa f.length fc] V fun e w' => ∃ a c, e = .returned (.tuple #[.slice a (fiL l E r f).length c, .bool (fiB l E r f), .int .i64 (frfS l E r f)]) ∧ Rd w' a (fiL l E r f) ∧ Below V.heap.size V w') := fun V hV =>
    (First_c a c l a2 c2 E a3 c3 r fa fc f V (hl.below (lw V hV)) (hE.below (lw V hV)) (hr.below (lw V hV)) (hf.below (lw V hV)) hst hst2 (tab_below hT ht (lw V hV)) (Nat.lt_of_lt_of_le ht (lw V hV).size)).mono fun e w' h => fi_res h
  have C6 : Hid (∀ V, Below W1.heap.size W1 V → Calls Tryd.prog 14 #[.agg #[.slice a l.length c, .slice a2 E.length c2], .slice a3 r.length c3, .slice fa f.length fc] V fun e w' => ∃ a c, e = .returned (.tuple #[.slice a (fiL l E r f).length c, .bool (fiB l E r f), .int .i64 (frfS l E r f)]) ∧ Rd w' a (fiL l E r f) ∧ Below V.heap.size V w') := fun V hV =>
    (rFirst_c a c l a2 c2 E a3 c3 r fa fc f V (hl.below (lw V hV)) (hE.below (lw V hV)) (hr.below (lw V hV)) (hf.below (lw V hV)) (hEnv.below (lw V hV)) hc1 hc2).mono fun e w' h => fi_res h
  have CE : Hid (∀ (L : List Int) a1 c1 a2 c2 V, Rd V a1 L → Rd V a2 L → Calls Tryd.prog 10 #[.slice a1 L.length c1, .slice a2 L.length c2] V fun e w' => e = .returned (.bool true) ∧ Below V.heap.size V w') := fun L a1 c1 a2 c2 V h1 h2 => equalI_c a1 a2 c1 c2 L V h1 h2
  obtain ⟨FL, hFL⟩ : ∃ L, faL l E r = L := ⟨_, rfl⟩
  obtain ⟨fs, hfs⟩ : ∃ L, frS l E r = L := ⟨_, rfl⟩
  obtain ⟨pb, hpb⟩ : ∃ L, psB l E r = L := ⟨_, rfl⟩
  obtain ⟨IL, hIL⟩ : ∃ L, fiL l E r f = L := ⟨_, rfl⟩
  obtain ⟨ib, hib⟩ : ∃ L, fiB l E r f = L := ⟨_, rfl⟩
  obtain ⟨gs, hgs⟩ : ∃ L, frfS l E r f = L := ⟨_, rfl⟩
  rw [hFL, hfs] at C1 C2
  rw [hpb, hfs] at C3 C4
  rw [hIL, hib, hgs] at C5 C6
  obtain ⟨n, hn⟩ : ∃ n, l.length = n := ⟨_, rfl⟩
  obtain ⟨m, hm⟩ : ∃ n, E.length = n := ⟨_, rfl⟩
  obtain ⟨k, hk⟩ : ∃ n, r.length = n := ⟨_, rfl⟩
  obtain ⟨q, hq⟩ : ∃ n, f.length = n := ⟨_, rfl⟩
  obtain ⟨fl, hfl⟩ : ∃ n, FL.length = n := ⟨_, rfl⟩
  obtain ⟨il, hil⟩ : ∃ n, IL.length = n := ⟨_, rfl⟩
  have CE1 : Hid (∀ a1 c1 a2 c2 V, Rd V a1 FL → Rd V a2 FL → Calls Tryd.prog 10 #[.slice a1 fl c1, .slice a2 fl c2] V fun e w' => e = .returned (.bool true) ∧ Below V.heap.size V w') := fun a1 c1 a2 c2 V h1 h2 => by rw [← hfl]; exact CE.out FL a1 c1 a2 c2 V h1 h2
  have CE2 : Hid (∀ a1 c1 a2 c2 V, Rd V a1 IL → Rd V a2 IL → Calls Tryd.prog 10 #[.slice a1 il c1, .slice a2 il c2] V fun e w' => e = .returned (.bool true) ∧ Below V.heap.size V w') := fun a1 c1 a2 c2 V h1 h2 => by rw [← hil]; exact CE.out IL a1 c1 a2 c2 V h1 h2
  rw [hn] at C1 C2 C3 C4 C5 C6 x0 X hW1
  rw [hm] at C1 C2 C3 C4 C5 C6 x1 X hW1
  rw [hk] at C1 C2 C3 C4 C5 C6
  rw [hq] at C5 C6
  rw [hfl] at C1 C2
  rw [hil] at C5 C6
  rw [hn, hm, hk, hq]
  have LW := Lib.hid lw
  clear hl hE hr hf hst hst2 hT hEnv hc1 hc2 b1 lw CE hFL hfs hpb hIL hib hgs hn hm hk hq hfl hil
  go_enter Tryd.func3, Tryd.ntmps3
  go_wp2_with fail
  clear hW1 x0 x1
  refine (C1.out W1 (Below.refl _ _)).mono ?_
  rintro e1 w2 ⟨p1, k1, rfl, r1, b2⟩
  have S2 := Lib.hid b2
  have R1 := Lib.hid r1
  clear r1 b2
  obtain ⟨v0, v1⟩ := X.out w2 S2.out
  go_wp2_with fail
  clear v0 v1
  refine (C2.out w2 S2.out).mono ?_
  rintro e1 w3 ⟨p2, k2, rfl, r2, b3⟩
  have S3 : Hid (Below W1.heap.size W1 w3) := S2.out.trans (b3.mono S2.out.size)
  have CQ := Lib.hid (CE1.out p1 k1 p2 k2 w3 (R1.out.below b3) r2)
  clear r2 b3 R1 CE1
  have f1 : (fs != fs) = false := by simp
  go_wp2_with fail
  refine CQ.out.mono ?_
  rintro e1 w4 ⟨rfl, b4⟩
  have S4 : Hid (Below W1.heap.size W1 w4) := S3.out.trans (b4.mono S3.out.size)
  clear CQ b4
  obtain ⟨v0, v1⟩ := X.out w4 S4.out
  go_wp2_with fail
  clear v0 v1
  refine (C3.out w4 S4.out).mono ?_
  rintro e1 w5 ⟨rfl, b5⟩
  have S5 : Hid (Below W1.heap.size W1 w5) := S4.out.trans (b5.mono S4.out.size)
  clear b5
  obtain ⟨v0, v1⟩ := X.out w5 S5.out
  go_wp2_with fail
  clear v0 v1
  refine (C4.out w5 S5.out).mono ?_
  rintro e1 w6 ⟨rfl, b6⟩
  have S6 : Hid (Below W1.heap.size W1 w6) := S5.out.trans (b6.mono S5.out.size)
  clear b6
  have f2 : (pb != pb) = false := by simp
  obtain ⟨v0, v1⟩ := X.out w6 S6.out
  go_wp2_with fail
  clear v0 v1
  refine (C5.out w6 S6.out).mono ?_
  rintro e1 w7 ⟨p1', k1', rfl, r1, b7⟩
  have S7 : Hid (Below W1.heap.size W1 w7) := S6.out.trans (b7.mono S6.out.size)
  have R1 := Lib.hid r1
  clear r1 b7
  obtain ⟨v0, v1⟩ := X.out w7 S7.out
  go_wp2_with fail
  clear v0 v1
  refine (C6.out w7 S7.out).mono ?_
  rintro e1 w8 ⟨p2', k2', rfl, r2, b8⟩
  have S8 : Hid (Below W1.heap.size W1 w8) := S7.out.trans (b8.mono S7.out.size)
  have CQ := Lib.hid (CE2.out p1' k1' p2' k2' w8 (R1.out.below b8) r2)
  clear r2 b8 R1 CE2
  have f3 : (gs == gs) = true := by simp
  have f4 : (ib == ib) = true := by simp
  go_wp2_with fail
  refine CQ.out.mono ?_
  rintro e1 w9 ⟨rfl, b9⟩
  have S9 : Hid (Below W1.heap.size W1 w9) := S8.out.trans (b9.mono S8.out.size)
  clear CQ b9
  go_wp2
  go_ret
  exact ⟨rfl, LW.out w9 S9.out⟩
end Go.Proofs.YtadfmplafehjlaaDoor
namespace Go.Proofs.YtadfmplafehjlaaDoor
open Go.ChangeShapes Go.WideShapes Go.ChangeAt Go.RowKit Go.Joins

theorem laidOut : laidOutB Tryd.prog = true := by kernel_rfl
theorem own : ownKnob Tryd.prog.godebug = none := by kernel_rfl
theorem block_lt {W : World} {b o : Nat} {v : Value} (h : W.cell? ⟨b, o, none⟩ = some v) : b < W.heap.size := by
  rcases Nat.lt_or_ge b W.heap.size with l | l
  · exact l
  · simp [World.cell?, Array.getElem?_eq_none l] at h
theorem add_none (b off i : Nat) : (Addr.mk b off none).add i = ⟨b, off + i, none⟩ := by
  unfold Addr.add
  split
  · rename_i h; subst h; simp
  · rfl
theorem cellsI : Tryd.prog.cellsOf 3 = 1 := by kernel_rfl
theorem cellsTx : Tryd.prog.cellsOf 9 = 1 := by kernel_rfl
theorem cellsSI : Tryd.prog.cellsOf 26 = 1 := by kernel_rfl
theorem cellsSL : Tryd.prog.cellsOf 41 = 1 := by kernel_rfl
theorem cellsSF : Tryd.prog.cellsOf 22 = 1 := by kernel_rfl
theorem cellsSE : Tryd.prog.cellsOf 23 = 1 := by kernel_rfl
theorem cellsF : Tryd.prog.cellsOf 39 = 3 := by kernel_rfl
theorem cellsE : Tryd.prog.cellsOf 43 = 2 := by kernel_rfl
theorem cellsP : Tryd.prog.cellsOf 25 = 2 := by kernel_rfl
section
variable {H : Type} {enc : TypeId × Value → H} {W : World}
theorem bulk_all_cons {d : DataW H} {r : List (DataW H)} : Rows.uptoBulkAll (d :: r) = Rows.uptoBulk d + Rows.uptoBulkAll r := by simp only [Rows.uptoBulkAll]
/-- A slice, opened element by element. -/
theorem open_row {α : Type} {tS tE : TypeId} {m : Nat} (hS : Tryd.prog.underlying tS = some (.slice tE)) (hm : Tryd.prog.cellsOf tE = m) (h0 : 0 < m) (El : α → List Value → Prop) (size : α → Nat)
    (hEl : ∀ fuel cs y, DataW.trod enc Tryd.prog W 0 (fun _ => true) true fuel tE cs = some y → ∃ c, El c cs ∧ size c ≤ Rows.uptoBulk y.1)
    {fuel : Nat} {cs : List Value} {x : DataW H × List MemPlace} (h : DataW.trod enc Tryd.prog W 0 (fun _ => true) true fuel tS cs = some x) :
    ∃ (l : List α) (a : Option Addr) (cap : Nat), cs = [.slice a l.length cap] ∧ (l = [] ∨ ∃ b off, a = some ⟨b, off, none⟩ ∧ b < W.heap.size ∧ (l.length ≤ cap ∧ cap ≤ 9223372036854775807) ∧
      ∀ (j : Nat) (c : α), l[j]? = some c → ∃ cs', El c cs' ∧ ∀ i, i < m → W.cell? ⟨b, off + j * m + i, none⟩ = cs'[i]?) ∧ (l.map size).sum + 1 ≤ Rows.uptoBulk x.1 ∧ l.length + 1 ≤ Rows.uptoBulk x.1 := by
  have pos : ∀ d : DataW H, 1 ≤ Rows.uptoBulk d := fun d => by
    cases d with
    | lit v => cases v <;> simp only [Rows.uptoBulk] <;> omega
    | _ => simp only [Rows.uptoBulk]; omega
  rcases DataW.trod_slice hS h with ⟨e7, e8⟩ | ⟨a, len, cap, elems, rest, n, hn, e7, e8, _, hlc, hcm, hel, hat, _, _⟩
  · exact ⟨[], none, 0, e7, .inl rfl, by rw [e8]; simp [Rows.uptoBulk], by rw [e8]; simp [Rows.uptoBulk]⟩
  · have hel1 : Rows.uptoBulkAll (elems.map (·.1)) + 1 ≤ Rows.uptoBulk x.1 := by
      rw [e8]; simp only [Rows.uptoBulk]; omega
    unfold maxLen at hcm
    by_cases hl0 : len = 0
    · subst hl0
      exact ⟨[], some a, cap, e7, .inl rfl, by simp; omega, by simp; omega⟩
    rw [hm] at hat
    have each : ∀ i, i < len → ∃ cs' y, elems[i]? = some y ∧ W.cells? 0 (a.add (i * m)) m = some cs' ∧ DataW.trod enc Tryd.prog W 0 (fun _ => true) true n tE cs' = some y := by
      intro i hi
      have h5 := hat i hi
      have h6 : elems[i]? = some (elems[i]'(by omega)) := List.getElem?_eq_getElem (by omega)
      rw [h6] at h5
      obtain ⟨cs', h7, h8⟩ := Option.bind_eq_some_iff.1 h5
      exact ⟨cs', _, h6, h7, h8⟩
    obtain ⟨b, off, spot⟩ := a
    obtain ⟨hspot, hblk⟩ : spot = none ∧ b < W.heap.size := by
      obtain ⟨cs', y, _, h7, h8⟩ := each 0 (by omega)
      obtain ⟨hlen, _, hc⟩ := World.cells?_some h7
      have hc0 := hc 0 (by omega)
      have hx : ∃ v, cs'[0]? = some v := ⟨cs'[0]'(by omega), List.getElem?_eq_getElem (by omega)⟩
      obtain ⟨v, hv⟩ := hx
      rw [hv] at hc0
      have hs0 : spot = none := by
        simpa [Addr.add] using World.cell?_spot hc0
      subst hs0
      rw [add_none, add_none] at hc0
      exact ⟨rfl, block_lt hc0⟩
    subst hspot
    have row : ∀ j, j ≤ len → ∃ l : List α, l.length = j ∧ (l.map size).sum ≤ Rows.uptoBulkAll ((elems.drop (len - j)).map (·.1)) ∧ l.length ≤ Rows.uptoBulkAll ((elems.drop (len - j)).map (·.1)) ∧
        ∀ (i : Nat) (c : α), l[i]? = some c → ∃ cs', El c cs' ∧ ∀ q, q < m → W.cell? ⟨b, off + (len - j + i) * m + q, none⟩ = cs'[q]? := by
      intro j
      induction j with
      | zero => intro _; exact ⟨[], rfl, by simp, by simp, fun i c hi => by simp at hi⟩
      | succ j ihj =>
        intro hj
        obtain ⟨l, hx1, hx2, hx3, hx4⟩ := ihj (by omega)
        obtain ⟨cs', y, h6, h7, h8⟩ := each (len - (j + 1)) (by omega)
        obtain ⟨c, g1, g2⟩ := hEl _ _ _ h8
        obtain ⟨_, _, hc⟩ := World.cells?_some h7
        rw [add_none] at hc
        have cc : ∀ i, i < m → W.cell? ⟨b, off + (len - (j + 1)) * m + i, none⟩ = cs'[i]? := fun i hi => by
          rw [← add_none]; exact hc i hi
        have hdrop : elems.drop (len - (j + 1)) = y :: elems.drop (len - j) := by
          obtain ⟨hlt, he⟩ := List.getElem?_eq_some_iff.1 h6
          rw [List.drop_eq_getElem_cons hlt, he, show len - (j + 1) + 1 = len - j by omega]
        have hp := pos y.1
        refine ⟨c :: l, by simp [hx1], ?_, ?_, ?_⟩
        · rw [hdrop, List.map_cons, List.map_cons, List.sum_cons, bulk_all_cons]; omega
        · rw [hdrop, List.map_cons, List.length_cons, bulk_all_cons]; omega
        · intro i c' hi
          cases i with
          | zero =>
            simp only [List.getElem?_cons_zero, Option.some.injEq] at hi
            subst hi
            exact ⟨cs', g1, cc⟩
          | succ i =>
            obtain ⟨cs2, g3, g4⟩ := hx4 i c' (by simpa using hi)
            refine ⟨cs2, g3, fun q hq => ?_⟩
            rw [show len - (j + 1) + (i + 1) = len - j + i by omega]
            exact g4 q hq
    obtain ⟨l, hx1, hx2, hx3, hx4⟩ := row len (Nat.le_refl _)
    rw [Nat.sub_self, List.drop_zero] at hx2 hx3
    simp only [Nat.sub_self, Nat.zero_add] at hx4
    exact ⟨l, some ⟨b, off, none⟩, cap, by rw [e7, hx1], .inr ⟨b, off, rfl, hblk, ⟨by omega, by omega⟩, hx4⟩, by omega, by omega⟩


theorem open_i (fuel : Nat) (cs : List Value) (y : DataW H × List MemPlace) (h : DataW.trod enc Tryd.prog W 0 (fun _ => true) true fuel 3 cs = some y) : ∃ x : Int, cs = [.int .i64 x] ∧ 0 ≤ Rows.uptoBulk y.1 := by
  obtain ⟨i, e0, _, _⟩ := DataW.trod_int Tryd.underlying3 h
  exact ⟨i, e0, Nat.zero_le _⟩
theorem open_ints (fuel : Nat) (cs : List Value) (y : DataW H × List MemPlace) (h : DataW.trod enc Tryd.prog W 0 (fun _ => true) true fuel 26 cs = some y) :
    ∃ l : List Int, (∃ a c, cs = [.slice a l.length c] ∧ Rd W a l) ∧ 0 ≤ Rows.uptoBulk y.1 := by
  obtain ⟨l, a, cap, e, hr, _, _⟩ := open_row (α := Int) Tryd.underlying26 cellsI (by decide) (fun x cs => cs = [.int .i64 x]) (fun _ => 0) open_i h
  refine ⟨l, ⟨a, cap, e, ?_⟩, Nat.zero_le _⟩
  rcases hr with rfl | ⟨b, off, rfl, hb, hc, hr⟩
  · exact ⟨by simp, fun h => by simp at h⟩
  · refine ⟨by omega, fun _ => ⟨b, off, rfl, hb, fun j hj => ?_⟩⟩
    obtain ⟨cs', rfl, hq⟩ := hr j (fn l j) (by unfold fn; rw [List.getD, List.getElem?_eq_getElem hj]; simp)
    have := hq 0 (by omega)
    simpa using this
theorem open_sets (fuel : Nat) (cs : List Value) (y : DataW H × List MemPlace) (h : DataW.trod enc Tryd.prog W 0 (fun _ => true) true fuel 41 cs = some y) :
    ∃ l : List (List Int), (∃ a c, cs = [.slice a l.length c] ∧ RdL W a l) ∧ 0 ≤ Rows.uptoBulk y.1 := by
  obtain ⟨l, a, cap, e, hr, _, _⟩ := open_row (α := List Int) Tryd.underlying41 cellsSI (by decide) (fun x cs => ∃ a c, cs = [.slice a x.length c] ∧ Rd W a x) (fun _ => 0) open_ints h
  refine ⟨l, ⟨a, cap, e, ?_⟩, Nat.zero_le _⟩
  rcases hr with rfl | ⟨b, off, rfl, hb, hc, hr⟩
  · exact ⟨by simp, fun h => by simp at h⟩
  · refine ⟨by omega, fun _ => ⟨b, off, rfl, hb, fun j hj => ?_⟩⟩
    obtain ⟨cs', ⟨a', c', rfl, hR⟩, hq⟩ := hr j (st l j) (by unfold st; rw [List.getD, List.getElem?_eq_getElem hj]; simp)
    have := hq 0 (by omega)
    exact ⟨a', c', by simpa using this, hR⟩
set_option maxRecDepth 100000 in
theorem open_fd (fuel : Nat) (cs : List Value) (y : DataW H × List MemPlace) (h : DataW.trod enc Tryd.prog W 0 (fun _ => true) true fuel 39 cs = some y) :
    ∃ u : Fd, (∃ a c, cs = [.string u.nm, .slice a u.cs.length c, .int .i64 u.wt] ∧ Rd W a u.cs ∧ u.nm.size ≤ maxLen) ∧ 0 ≤ Rows.uptoBulk y.1 := by
  obtain ⟨ys, n, _, rfl, hl, hlen, hf⟩ := DataW.trod_struct Tryd.underlying39 h
  rw [cellsF] at hl
  obtain ⟨c0, c1, c2, rfl⟩ : ∃ c0 c1 c2, cs = [c0, c1, c2] := by
    match cs, hl with
    | [a, b, c], _ => exact ⟨a, b, c, rfl⟩
  obtain ⟨y0, y1, y2, rfl⟩ : ∃ y0 y1 y2, ys = [y0, y1, y2] := by
    match ys, hlen with
    | [a, b, c], _ => exact ⟨a, b, c, rfl⟩
  have h0 : DataW.trod enc Tryd.prog W 0 (fun _ => true) true n 9 (([c0, c1, c2].drop 0).take (Tryd.prog.cellsOf 9)) = some y0 := hf 0 _ rfl
  have h1 : DataW.trod enc Tryd.prog W 0 (fun _ => true) true n 26 (([c0, c1, c2].drop 1).take (Tryd.prog.cellsOf 26)) = some y1 := hf 1 _ rfl
  have h2 : DataW.trod enc Tryd.prog W 0 (fun _ => true) true n 3 (([c0, c1, c2].drop 2).take (Tryd.prog.cellsOf 3)) = some y2 := hf 2 _ rfl
  simp only [cellsI, cellsTx, cellsSI, List.drop_zero, List.drop_succ_cons, List.take_succ_cons, List.take_zero] at h0 h1 h2
  obtain ⟨s, e0, _, hs⟩ := DataW.trod_string Tryd.underlying9 h0
  obtain ⟨l, ⟨a, c, e1, hR⟩, _⟩ := open_ints _ _ _ h1
  obtain ⟨z, e2, _, _⟩ := DataW.trod_int Tryd.underlying3 h2
  simp only [List.cons.injEq, and_true] at e0 e1 e2
  subst e0 e1 e2
  exact ⟨⟨s, l, z⟩, ⟨a, c, rfl, hR, hs⟩, Nat.zero_le _⟩
set_option maxRecDepth 100000 in
theorem open_ed (fuel : Nat) (cs : List Value) (y : DataW H × List MemPlace) (h : DataW.trod enc Tryd.prog W 0 (fun _ => true) true fuel 43 cs = some y) :
    ∃ u : Ed, (∃ a c, cs = [.string u.nm, .slice a u.ss.length c] ∧ RdL W a u.ss ∧ u.nm.size ≤ maxLen) ∧ 0 ≤ Rows.uptoBulk y.1 := by
  obtain ⟨ys, n, _, rfl, hl, hlen, hf⟩ := DataW.trod_struct Tryd.underlying43 h
  rw [cellsE] at hl
  obtain ⟨c0, c1, rfl⟩ : ∃ c0 c1, cs = [c0, c1] := by
    match cs, hl with
    | [a, b], _ => exact ⟨a, b, rfl⟩
  obtain ⟨y0, y1, rfl⟩ : ∃ y0 y1, ys = [y0, y1] := by
    match ys, hlen with
    | [a, b], _ => exact ⟨a, b, rfl⟩
  have h0 : DataW.trod enc Tryd.prog W 0 (fun _ => true) true n 9 (([c0, c1].drop 0).take (Tryd.prog.cellsOf 9)) = some y0 := hf 0 _ rfl
  have h1 : DataW.trod enc Tryd.prog W 0 (fun _ => true) true n 41 (([c0, c1].drop 1).take (Tryd.prog.cellsOf 41)) = some y1 := hf 1 _ rfl
  simp only [cellsTx, cellsSL, List.drop_zero, List.drop_succ_cons, List.take_succ_cons, List.take_zero] at h0 h1
  obtain ⟨s, e0, _, hs⟩ := DataW.trod_string Tryd.underlying9 h0
  obtain ⟨l, ⟨a, c, e1, hR⟩, _⟩ := open_sets _ _ _ h1
  simp only [List.cons.injEq, and_true] at e0 e1
  subst e0 e1
  exact ⟨⟨s, l⟩, ⟨a, c, rfl, hR, hs⟩, Nat.zero_le _⟩
theorem open_fds {fuel : Nat} {cs : List Value} {y : DataW H × List MemPlace} (h : DataW.trod enc Tryd.prog W 0 (fun _ => true) true fuel 22 cs = some y) :
    ∃ (l : List Fd) (a : Option Addr) (c : Nat), cs = [.slice a l.length c] ∧ RdF W a l ∧ (∀ u, u ∈ l → u.nm.size ≤ maxLen) ∧ l.length ≤ c := by
  obtain ⟨l, a, cap, e, hr, _, _⟩ := open_row (α := Fd) Tryd.underlying22 cellsF (by decide) (fun u cs => ∃ a c, cs = [.string u.nm, .slice a u.cs.length c, .int .i64 u.wt] ∧ Rd W a u.cs ∧ u.nm.size ≤ maxLen) (fun _ => 0) open_fd h
  refine ⟨l, a, cap, e, ?_⟩
  rcases hr with rfl | ⟨b, off, rfl, hb, hc, hr⟩
  · exact ⟨⟨by simp, fun h => by simp at h⟩, (fun u hu => by cases hu), by simp⟩
  · refine ⟨⟨by omega, fun _ => ⟨b, off, rfl, hb, fun j hj => ?_⟩⟩, fun u hu => ?_, hc.1⟩
    · obtain ⟨cs', ⟨a', c', rfl, hR, _⟩, hq⟩ := hr j (fd l j) (by unfold fd; rw [List.getD, List.getElem?_eq_getElem hj]; simp)
      exact ⟨hq 0 (by omega), ⟨a', c', hq 1 (by omega), hR⟩, hq 2 (by omega)⟩
    · obtain ⟨j, hj, rfl⟩ := List.mem_iff_getElem.1 hu
      obtain ⟨cs', ⟨_, _, _, _, hs⟩, _⟩ := hr j l[j] (List.getElem?_eq_getElem hj)
      exact hs
theorem open_eds {fuel : Nat} {cs : List Value} {y : DataW H × List MemPlace} (h : DataW.trod enc Tryd.prog W 0 (fun _ => true) true fuel 23 cs = some y) :
    ∃ (l : List Ed) (a : Option Addr) (c : Nat), cs = [.slice a l.length c] ∧ RdE W a l ∧ (∀ u, u ∈ l → u.nm.size ≤ maxLen) ∧ l.length ≤ c := by
  obtain ⟨l, a, cap, e, hr, _, _⟩ := open_row (α := Ed) Tryd.underlying23 cellsE (by decide) (fun u cs => ∃ a c, cs = [.string u.nm, .slice a u.ss.length c] ∧ RdL W a u.ss ∧ u.nm.size ≤ maxLen) (fun _ => 0) open_ed h
  refine ⟨l, a, cap, e, ?_⟩
  rcases hr with rfl | ⟨b, off, rfl, hb, hc, hr⟩
  · exact ⟨⟨by simp, fun h => by simp at h⟩, (fun u hu => by cases hu), by simp⟩
  · refine ⟨⟨by omega, fun _ => ⟨b, off, rfl, hb, fun j hj => ?_⟩⟩, fun u hu => ?_, hc.1⟩
    · obtain ⟨cs', ⟨a', c', rfl, hR, _⟩, hq⟩ := hr j (ed l j) (by unfold ed; rw [List.getD, List.getElem?_eq_getElem hj]; simp)
      exact ⟨hq 0 (by omega), a', c', hq 1 (by omega), hR⟩
    · obtain ⟨j, hj, rfl⟩ := List.mem_iff_getElem.1 hu
      obtain ⟨cs', ⟨_, _, _, _, hs⟩, _⟩ := hr j l[j] (List.getElem?_eq_getElem hj)
      exact hs
set_option maxRecDepth 100000 in
theorem open_plan {b0 : Nat} {v : Value} {d : DataW H} {p : List MemPlace} (hv : Value.okWide Tryd.prog W .any b0 25 v) (h : DataW.Trod enc Tryd.prog W 0 (fun _ => true) true 25 v d p) :
    ∃ (l : List Fd) (a : Option Addr) (c : Nat) (E : List Ed) (a2 : Option Addr) (c2 : Nat), v = .agg #[.slice a l.length c, .slice a2 E.length c2] ∧ RdF W a l ∧ RdE W a2 E ∧ (∀ u, u ∈ l → u.nm.size ≤ maxLen) ∧ (∀ u, u ∈ E → u.nm.size ≤ maxLen) ∧ l.length ≤ c ∧ E.length ≤ c2 := by
  obtain ⟨cs, rfl, _⟩ := okWide_struct Tryd.underlying25 hv
  obtain ⟨fuel, hf⟩ := h
  cases cs with
  | mk cs =>
    have hf' : DataW.trod enc Tryd.prog W 0 (fun _ => true) true fuel 25 cs = some (d, p) := hf
    obtain ⟨ys, n, _, hdd, hl, hlen, hf⟩ := DataW.trod_struct Tryd.underlying25 hf'
    rw [cellsP] at hl
    obtain ⟨c0, c1, rfl⟩ : ∃ c0 c1, cs = [c0, c1] := by
      match cs, hl with
      | [a, b], _ => exact ⟨a, b, rfl⟩
    obtain ⟨y0, y1, rfl⟩ : ∃ y0 y1, ys = [y0, y1] := by
      match ys, hlen with
      | [a, b], _ => exact ⟨a, b, rfl⟩
    have h0 : DataW.trod enc Tryd.prog W 0 (fun _ => true) true n 22 (([c0, c1].drop 0).take (Tryd.prog.cellsOf 22)) = some y0 := hf 0 _ rfl
    have h1 : DataW.trod enc Tryd.prog W 0 (fun _ => true) true n 23 (([c0, c1].drop 1).take (Tryd.prog.cellsOf 23)) = some y1 := hf 1 _ rfl
    simp only [cellsSF, cellsSE, List.drop_zero, List.drop_succ_cons, List.take_succ_cons, List.take_zero] at h0 h1
    obtain ⟨l, a, c, e0, hF, hs, hc⟩ := open_fds h0
    obtain ⟨E, a2, c2, e1, hE, hs2, hc2⟩ := open_eds h1
    simp only [List.cons.injEq, and_true] at e0 e1
    subst e0 e1
    exact ⟨l, a, c, E, a2, c2, rfl, hF, hE, hs, hs2, hc, hc2⟩
set_option maxRecDepth 100000 in
theorem open_L {b0 : Nat} {v : Value} {d : DataW H} {p : List MemPlace} (hv : Value.okWide Tryd.prog W .any b0 26 v) (h : DataW.Trod enc Tryd.prog W 0 (fun _ => true) true 26 v d p) :
    ∃ (l : List Int) (a : Option Addr) (c : Nat), v = .slice a l.length c ∧ Rd W a l := by
  obtain ⟨a0, len, cap, rfl⟩ := okWide_slice Tryd.underlying26 hv
  obtain ⟨fuel, hf⟩ := h
  obtain ⟨l, ⟨a, c, e, hR⟩, _⟩ := open_ints fuel _ (d, p) hf
  simp [Value.cells] at e
  obtain ⟨rfl, rfl, rfl⟩ := e
  exact ⟨l, _, _, rfl, hR⟩
end
end Go.Proofs.YtadfmplafehjlaaDoor
namespace Go.Proofs.YtadfmplafehjlaaDoor
open Go.RowKit Go.WideMaps Go.Maps Go.Shelf

attribute [local go_sem] Oper.semAt_some

/-- What rounds keep: all old blocks beside some and their own. -/
structure Kg (N : Nat → Prop) (Ow : World → Nat → Prop) (w w' : World) : Prop where
  os : w'.os = w.os
  tape : w'.tape = w.tape
  output : w'.output = w.output
  size : w.heap.size ≤ w'.heap.size
  block : ∀ b, b < w.heap.size → ¬ N b → ¬ Ow w b → w'.heap[b]? = w.heap[b]?
  ow : ∀ b, Ow w' b → Ow w b ∨ w.heap.size ≤ b
section
variable {N : Nat → Prop} {Ow : World → Nat → Prop} {w w' w2 : World}
theorem Kg.trans (h : Kg N Ow w w') (k : Kg N Ow w' w2) : Kg N Ow w w2 := by
  refine ⟨k.os.trans h.os, k.tape.trans h.tape, k.output.trans h.output, Nat.le_trans h.size k.size, fun b hb hn ho => ?_, fun b hb => ?_⟩
  · refine (k.block b (Nat.lt_of_lt_of_le hb h.size) hn (fun e => ?_)).trans (h.block b hb hn ho)
    rcases h.ow b e with q | q
    · exact ho q
    · omega
  · rcases k.ow b hb with q | q
    · exact h.ow b q
    · exact .inr (Nat.le_trans h.size q)
theorem Kg.of_below (h : Below w.heap.size w w') (ho : ∀ b, Ow w' b → Ow w b) : Kg N Ow w w' := ⟨h.os, h.tape, h.output, h.size, fun b hb _ _ => h.block b hb, fun b hb => .inl (ho b hb)⟩
theorem Kg.cell (h : Kg N Ow w w') {p : Addr} {v : Value} (e : w.cell? p = some v) (hn : ¬ N p.block) (ho : ¬ Ow w p.block) : w'.cell? p = some v :=
  (World.cell?_of_block (h.block _ (cellLt e) hn ho)).trans e
theorem Kg.mono {M : Nat → Prop} (h : Kg N Ow w w') (e : ∀ b, N b → M b) : Kg M Ow w w' :=
  ⟨h.os, h.tape, h.output, h.size, fun b hb hn ho => h.block b hb (fun q => hn (e b q)) ho, h.ow⟩
theorem Kg.below {B : Nat} (h : Kg N Ow w w') (hB : B ≤ w.heap.size) (hn : ∀ b, N b → B ≤ b) (ho : ∀ b, Ow w b → B ≤ b) : Below B w w' :=
  have hb : ∀ i, i < B → w'.heap[i]? = w.heap[i]? := fun i hi => h.block i (by omega) (fun q => by have := hn i q; omega) (fun q => by have := ho i q; omega)
  ⟨h.os, h.tape, h.output, h.size, hb⟩
end
def DvQ (N : Nat → Prop) (Ow : World → Nat → Prop) (rows rest : Prts) (J Jx : Nat → World → Prop) (W : World) (e : Ending) (W' : World) : Prop :=
  (e = .returned (.bool true) ∧ ∃ k', J k' W' ∧ Kg N Ow W W' ∧ rows.drop k' = rest) ∨ (e = .returned (.bool false) ∧ ∃ k', k' < rows.length ∧ Jx k' W' ∧ Kg N Ow W W')
/-- What the iterator asks of the rounds. -/
structure Dw (w0 : World) (N : Nat → Prop) (Ow : World → Nat → Prop) (p base : Nat) (l : List Fd) (E : List Ed) (l0 : Nat) (rows : Prts) (J Jx : Nat → World → Prop) : Prop where
  pl : PlR w0 p l E
  tab : TabAt 0 Lib.deBruijn64tab w0
  tl : 0 < w0.heap.size
  wb : w0.heap.size ≤ base
  n : ∀ b, N b → w0.heap.size ≤ b ∧ b < base
  i : ∀ k W, J k W → Below w0.heap.size w0 W ∧ base ≤ W.heap.size
  o : ∀ k W, J k W → ∀ b, Ow W b → base ≤ b ∧ b < W.heap.size
  w : ∀ k W W', J k W → Below base W W' → ∀ b, Ow W' b → Ow W b
  b : ∀ k W W', J k W → Below base W W' → (∀ b, Ow W b → W'.heap[b]? = W.heap[b]?) → J k W'
  y : ∀ m k (x : (Nat → Nat) × Nat) W, rows[k]? = some x → J k W → YieldAt Fence.wide m Tryd.prog l0 #[bxV x.1, .int .u64 x.2] W fun e W' => (e = .returned (.bool true) ∧ J (k + 1) W' ∧ Kg N Ow W W') ∨ (e = .returned (.bool false) ∧ Jx k W' ∧ Kg N Ow W W')
section
variable {w0 : World} {N : Nat → Prop} {Ow : World → Nat → Prop} {p base : Nat} {l : List Fd} {E : List Ed} {l0 : Nat} {rows : Prts} {J Jx : Nat → World → Prop}
theorem Dw.bel (hv : Dw w0 N Ow p base l E l0 rows J Jx) {k : Nat} {W W' : World} (hJ : J k W) (hb : Below W.heap.size W W') : J k W' ∧ Kg N Ow W W' :=
  have h := hb.mono (hv.i k W hJ).2
  ⟨hv.b k W W' hJ h fun b q => hb.block b (hv.o k W hJ b q).2, Kg.of_below hb (hv.w k W W' hJ h)⟩
end
set_option maxRecDepth 100000 in
set_option maxHeartbeats 4000000 in
theorem divideG_leaf (w0 : World) (N : Nat → Prop) (Ow : World → Nat → Prop) (p base : Nat) (l : List Fd) (E : List Ed) (l0 : Nat) (rows rest : Prts) (J Jx : Nat → World → Prop) (hv : Dw w0 N Ow p base l E l0 rows J Jx) (i : Nat) (B : Nat → Nat) (F : Nat) (k : Nat) (W : World) (h12 : l.length ≤ 12) (hz : F = 0 ∨ i = l.length) (hJ : J k W) (hd : rows.drop k = (B, F) :: rest) :
    Calls Tryd.prog 79 #[.pointer (some ⟨p, 0, none⟩), bxV B, .int .i64 i, .int .u64 F, .func (.yield l0) #[] #[]] W (DvQ N Ow rows rest J Jx W) := by
  obtain ⟨W1, hW1⟩ : ∃ V, W.alloc (.cells #[.int .u64 (B 0), .int .u64 (B 1), .int .u64 (B 2), .int .u64 (B 3), .int .u64 (B 4), .int .u64 (B 5), .int .u64 (B 6), .int .u64 (B 7), .int .u64 (B 8), .int .u64 (B 9), .int .u64 (B 10), .int .u64 (B 11)] 57) = V := ⟨_, rfl⟩
  obtain ⟨q, hq⟩ : ∃ q, W.heap.size = q := ⟨_, rfl⟩
  have B1 : Hid (Below W.heap.size W W1) := by unfold Hid; rw [← hW1]; exact bel_one _ _
  have X1 : Hid (BxAt W1 q 0 B ∧ q < W1.heap.size) := by unfold Hid; rw [← hW1, ← hq]; exact ⟨bx_made W B, by simp⟩
  have J1 := (hv.bel hJ B1.out).1
  have K1 : Hid (Kg N Ow W W1) := (hv.bel hJ B1.out).2
  have HD := Lib.hid (drop_headG hd)
  obtain ⟨fb, fc, f0, _, _⟩ := (hv.pl.below (hv.i k W1 J1).1).fs
  obtain ⟨fn, tmps, assign, body, hy, hR⟩ := hv.y (7 - 1) k (B, F) W1 HD.out.1 J1
  have R1 := Lib.hid hR
  obtain ⟨n, hn⟩ : ∃ n, l.length = n := ⟨_, rfl⟩
  rw [hn] at f0 h12 hz
  unfold bxV at hy ⊢
  have x0 := X1.out.1 0 (by decide)
  have x1 := X1.out.1 1 (by decide)
  have x2 := X1.out.1 2 (by decide)
  have x3 := X1.out.1 3 (by decide)
  have x4 := X1.out.1 4 (by decide)
  have x5 := X1.out.1 5 (by decide)
  have x6 := X1.out.1 6 (by decide)
  have x7 := X1.out.1 7 (by decide)
  have x8 := X1.out.1 8 (by decide)
  have x9 := X1.out.1 9 (by decide)
  have x10 := X1.out.1 10 (by decide)
  have x11 := X1.out.1 11 (by decide)
  simp only [Nat.zero_add] at x0 x1 x2 x3 x4 x5 x6 x7 x8 x9 x10 x11
  clear hR J1 hJ hd hv hn
  by_cases h0 : F = 0
  · have g1 : ((F : Int) == 0) = true := by rw [h0]; rfl
    clear hz h0
    refine (callsIn_wide (n := 7)).1 (callsIn_of_wp Tryd.func79 rfl trivial ?_ rfl)
    simp only [Tryd.ntmps79, List.size_toArray, List.length_cons, List.length_nil, Nat.reduceAdd, Nat.reduceSub, Array.replicate_succ, Array.replicate_zero, List.push_toArray, List.append_toArray, List.nil_append, List.cons_append]
    gi_wp2_with fail
    refine R1.out.mono ?_
    rintro e W4 (⟨rfl, hJ4, hb4⟩ | ⟨rfl, hJ4, hb4⟩)
    · have PP : Hid (DvQ N Ow rows rest J Jx W (.returned (.bool true)) W4) := .inl ⟨rfl, k + 1, hJ4, K1.out.trans hb4, HD.out.2.1⟩
      clear hJ4 hb4 hy x0 x1 x2 x3 x4 x5 x6 x7 x8 x9 x10 x11 hW1
      gi_wp2
      go_ret
      exact PP.out
    · have PP : Hid (DvQ N Ow rows rest J Jx W (.returned (.bool false)) W4) := .inr ⟨rfl, k, HD.out.2.2, hJ4, K1.out.trans hb4⟩
      clear hJ4 hb4 hy x0 x1 x2 x3 x4 x5 x6 x7 x8 x9 x10 x11 hW1
      gi_wp2
      go_ret
      exact PP.out
  · have g1 : ((F : Int) == 0) = false := by rw [beq_eq_false_iff_ne]; omega
    have e : i = n := by rcases hz with h | h; exact absurd h h0; exact h
    subst e
    clear hz h0
    refine (callsIn_wide (n := 7)).1 (callsIn_of_wp Tryd.func79 rfl trivial ?_ rfl)
    simp only [Tryd.ntmps79, List.size_toArray, List.length_cons, List.length_nil, Nat.reduceAdd, Nat.reduceSub, Array.replicate_succ, Array.replicate_zero, List.push_toArray, List.append_toArray, List.nil_append, List.cons_append]
    gi_wp2_with fail
    refine R1.out.mono ?_
    rintro e W4 (⟨rfl, hJ4, hb4⟩ | ⟨rfl, hJ4, hb4⟩)
    · have PP : Hid (DvQ N Ow rows rest J Jx W (.returned (.bool true)) W4) := .inl ⟨rfl, k + 1, hJ4, K1.out.trans hb4, HD.out.2.1⟩
      clear hJ4 hb4 hy x0 x1 x2 x3 x4 x5 x6 x7 x8 x9 x10 x11 hW1
      gi_wp2
      go_ret
      exact PP.out
    · have PP : Hid (DvQ N Ow rows rest J Jx W (.returned (.bool false)) W4) := .inr ⟨rfl, k, HD.out.2.2, hJ4, K1.out.trans hb4⟩
      clear hJ4 hb4 hy x0 x1 x2 x3 x4 x5 x6 x7 x8 x9 x10 x11 hW1
      gi_wp2
      go_ret
      exact PP.out
end Go.Proofs.YtadfmplafehjlaaDoor
