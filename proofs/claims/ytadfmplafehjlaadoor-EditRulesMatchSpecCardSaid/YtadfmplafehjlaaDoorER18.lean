/-
  Package edit: the edits that are needed.
  The reference's needed and possible.
  Redundant and Clash of the reference.
  Clash of the reference.
-/
import Derived.Test.YtadfmplafehjlaaDoorER17
import Derived.Maps.RangeWalk
import Derived.Maps.Views
import Derived.Maps.OwnRows
import Derived.Test.YtadfmplafehjlaaDoorER10
namespace Go.Proofs.YtadfmplafehjlaaDoor
open Go.RowKit Go.WideMaps Go.Maps Go.Shelf

/-- THE STEP over a map from sets. -/
theorem next_sets {P : Program} {w : World} {ops : Array Oper} {rest : List Oper} {o : Oper} {a : Act} {Q : Exit → Act → World → Prop} (hg : o.guard = none) (it : Operand) (hop : o.op = Op.next it false) (k : TypeId) (K : Keyed P k) (hk : P.underlying k = some (.int .u64)) (b r n : Nat) (D : DataW Value) (left : Lit → Bool) (cnt : Nat)
    (hit : a.eval it = .pointer (some ⟨r, 0, none⟩)) (h : w.ranges P k asIsK b r n D left cnt)
    (hDone : cnt = 0 → (∀ kl, left kl = false) → wpList P ops Q rest (a.put o.dst (.tuple #[.bool false])) w)
    (hMore : ∀ (s : Int) (c : Value) (w' : World) (cnt' : Nat), left (.int .u64 s) = true → (∀ zd, D.atKey (.int .u64 s) zd = .held c) → w'.ranges P k asIsK b r n D (fun z => left z && !z.sameKey (.int .u64 s)) cnt' → cnt' < cnt →
      w.grownBy w' (some r) → w'.heap.size = w.heap.size → (Instr.entry (.pointer (some ⟨r, 0, none⟩))).run P w' = .ok (.tuple #[.int .u64 s, c]) w' → wpList P ops Q rest (a.put o.dst (.tuple #[.bool true, .int .u64 s, c])) w') :
    wpList P ops Q (o :: rest) a w :=
  wpList_next_ranges w hg it hop k K asIsK (fun x : Int => Value.int .u64 x) (fun v : Value => v) (fun key kl h => by obtain ⟨x, e, _⟩ := Maps.keyOf_int_inv hk h; exact ⟨x, e⟩) (fun v y _ => ⟨v, rfl⟩) b r n D left cnt hit h hDone
    (fun s c kl y w' cnt' hkey hlk hy hat hrg hlt hgr hsz hen => by
      obtain ⟨s', e1, rfl, _⟩ := Maps.keyOf_int_inv hk hkey
      injection e1 with _ e1
      subst e1
      simp only [asIsK, Option.some.injEq] at hy
      subst hy
      exact hMore s c w' cnt' hlk hat hrg hlt hgr hsz hen)
/-- What one set says of edit k. -/
def cdB (L k : Nat) (s : Int) : Bool := decide (s.toNat &&& L = 2 ^ k)
/-- Seen so far. -/
structure SeB (p : Int → Bool) (L k : Nat) (left : Lit → Bool) (o : Bool) : Prop where
  sub : ∀ s, left (.int .u64 s) = true → p s = true
  yes : o = true → ∃ s, p s = true ∧ cdB L k s = true
  no : o = false → ∀ s, p s = true → left (.int .u64 s) = false → cdB L k s = false
theorem SeB.step {p : Int → Bool} {L k : Nat} {left : Lit → Bool} {o : Bool} (h : SeB p L k left o) {s : Int} (hs : left (.int .u64 s) = true) : SeB p L k (fun z => left z && !z.sameKey (.int .u64 s)) (o || cdB L k s) := by
  have hk : ∀ x : Int, (Lit.int .u64 x).sameKey (.int .u64 s) = decide (x = s) := fun x => by
    have hl : WideAt.IsKeyLit (.int .u64 x) := trivial
    rw [Bool.eq_iff_iff, decide_eq_true_iff]
    exact ⟨fun h => by have := WideAt.sameKey_eq h; injection this, fun e => e ▸ WideAt.sameKey_self hl⟩
  refine ⟨fun x hx => ?_, fun ho => ?_, fun ho x hx hl => ?_⟩
  · rw [Bool.and_eq_true] at hx; exact h.sub x hx.1
  · rw [Bool.or_eq_true] at ho
    rcases ho with q | q
    · exact h.yes q
    · exact ⟨s, h.sub s hs, q⟩
  · rw [Bool.or_eq_false_iff] at ho
    rw [hk] at hl
    by_cases e : x = s
    · rw [e]; exact ho.2
    · rw [decide_eq_false e, Bool.not_false, Bool.and_true] at hl
      exact h.no ho.1 x hx hl
set_option maxRecDepth 100000 in
set_option maxHeartbeats 8000000 in
theorem needed_c (p : Nat) (l : List Fd) (E : List Ed) (mp n : Nat) (w : World) (hP : PlR w p l E) (hok : Ok l E) (hm : MapB w mp n (gpP l E)) :
    Calls Tryd.prog 45 #[.pointer (some ⟨p, 0, none⟩), .map (some mp)] w fun e w' => e = .returned (.int .u64 (lfM (gpL l E) E.length E.length : Nat)) ∧ Below w.heap.size w w' := by
  have mixed : Tryd.prog.follows .mixedOrders = true := by kernel_rfl
  obtain ⟨ea, ec, e13, _⟩ := hP.es
  have e14 := hP.ev
  obtain ⟨m, hmm⟩ : ∃ m, E.length = m := ⟨_, rfl⟩
  have HM := Lib.hid hmm
  have m60 : m ≤ 60 := by rw [← hmm]; exact hok.m60
  have hev : evS E = lfM (gpL l E) m 0 := by rw [lf_0]; unfold evS; rw [hmm]
  rw [hmm] at e13
  rw [hev] at e14
  have HOK := Lib.hid hok
  obtain ⟨D, hown, hD⟩ := hm
  have ML := Lib.hid hown.lt
  have HOW := Lib.hid hown
  have HD : Hid (∀ s, Maps.has D (.int .u64 s) = gpP l E s) := fun s => (hD.2 s).1
  have HG : Hid (∀ s, gpP l E s = true → ∃ F : Nat, s = (F : Int) ∧ F ∈ gpL l E ∧ F < 1152921504606846976) := fun s hs => by
    unfold gpP at hs
    rw [List.any_eq_true] at hs
    obtain ⟨F, hF, e⟩ := hs
    refine ⟨F, (of_decide_eq_true e).symm, hF, ?_⟩
    exact Nat.lt_of_lt_of_le (gp_lt HOK.out hF) (Nat.pow_le_pow_right (n := 2) (by omega) (show E.length ≤ 60 by rw [HM.out]; exact m60))
  have hl0 : lfM (gpL l E) m 0 < 2 ^ 60 := Nat.lt_of_lt_of_le (lf_lt _ _ _) (Nat.pow_le_pow_right (by omega) m60)
  obtain ⟨L0, hL0⟩ : ∃ x, lfM (gpL l E) m 0 = x := ⟨_, rfl⟩
  have HL0 := Lib.hid hL0
  rw [hL0] at e14
  clear hP hok hown hD hmm hev hL0 hl0
  go_enter Tryd.func45, Tryd.ntmps45
  go_wp2_with fail
  go_loopw [5, 6, 7, 8, 18] (fun lv _ _ _ iv wr => ∃ (k L : Nat), iv = .int .i64 k ∧ lv = .int .u64 L ∧ Hid (k ≤ m ∧ L = lfM (gpL l E) m k ∧ Below w.heap.size w wr)) (fun _ _ _ _ iv _ => m - (intOf iv).toNat)
  case atStart => exact ⟨0, L0, rfl, rfl, Nat.zero_le _, HL0.out.symm, Below.refl _ _⟩
  case round =>
    obtain ⟨k, L, rfl, rfl, hS⟩ := hrel
    obtain ⟨hk, hL, hbl⟩ := hS.out
    have HLL := Lib.hid hL
    have HBL := Lib.hid hbl
    by_cases hlt : k < m
    · have hlt' : (k : Int) < (m : Int) := by omega
      have hLb : L < 1152921504606846976 := by rw [hL]; exact Nat.lt_of_lt_of_le (lf_lt _ _ _) (Nat.pow_le_pow_right (n := 2) (by omega) m60)
      have hown : wr.ownsMap Tryd.prog 54 asIsK mp n D := by
        obtain ⟨es, clock, h1, h2⟩ := HOW.out
        exact ⟨es, clock, (hbl.block mp ML.out).trans h1, h2⟩
      have hmlt := hown.lt
      obtain ⟨wo, hwo⟩ : ∃ V : World, V = wr := ⟨_, rfl⟩
      subst hwo
      clear hS hL hbl e13 e14
      go_wp2_with (first
        | (at_range; refine wpList_range_own _ rfl _ 82 rfl 54 4 lawU Tryd.underlying82 asIsK mp n D rfl hown ?_; intro w0 hrg0 hg0 hs0)
        | go_in)
      go_frame
      have R0 : Hid (w0.ranges Tryd.prog 54 asIsK mp wo.heap.size n D (Maps.has D) (Maps.size D) ∧ Below wo.heap.size wo w0 ∧ SeB (gpP l E) L k (Maps.has D) false) := by
        refine ⟨hrg0, (Below.refl _ _).grown hg0 (Nat.le_refl _) (fun j hj => by cases hj), ⟨fun s hs => by rw [← HD.out s]; exact hs, (fun h => by cases h), fun _ s hs hl => ?_⟩⟩
        rw [HD.out s, hs] at hl; cases hl
      clear hrg0 hg0 hs0 hown
      go_loopw [7, 8] (fun ov _ wr => ∃ (left : Lit → Bool) (cnt : Nat) (o : Bool), ov = .bool o ∧ Hid (wr.ranges Tryd.prog 54 asIsK mp wo.heap.size n D left cnt ∧ Below wo.heap.size wo wr ∧ SeB (gpP l E) L k left o)) (fun _ _ wr => wr.rangeLeft mp wo.heap.size)
      case atStart => exact ⟨_, _, false, rfl, R0.out⟩
      case round =>
        clear R0
        obtain ⟨left, cnt, o, rfl, hS⟩ := hrel
        have hrg := hS.out.1
        have HSE := Lib.hid hS.out.2.2
        have HBO := Lib.hid hS.out.2.1
        have HRG := Lib.hid hrg
        go_wp2_with (first
          | (at_next; refine next_sets rfl _ rfl 54 lawU Tryd.underlying54 mp wo.heap.size n D left cnt rfl hrg ?_ ?_)
          | go_in)
        · intro _ hl0
          have hnd : o = ndB (gpL l E) L k := by
            have h := HSE.out
            cases o with
            | true =>
              obtain ⟨s, hs, hc⟩ := h.yes rfl
              obtain ⟨F, rfl, hF, _⟩ := HG.out s hs
              symm
              unfold ndB
              rw [List.any_eq_true]
              exact ⟨F, hF, by unfold cdB at hc; simpa using hc⟩
            | false =>
              symm
              unfold ndB
              rw [List.any_eq_false]
              intro F hF q
              have hp : gpP l E (F : Int) = true := by
                unfold gpP
                rw [List.any_eq_true]
                exact ⟨F, hF, by simp⟩
              have := h.no rfl (F : Int) hp (hl0 _)
              unfold cdB at this
              simp at this q
              exact this q
          have HND := Lib.hid hnd
          have BR : Hid (Below w.heap.size w wr) := HBL.out.trans (HBO.out.mono HBL.out.size)
          clear hS hrg hl0 hnd
          cases o with
          | true =>
            have NX : Hid (k + 1 ≤ m ∧ L = lfM (gpL l E) m (k + 1) ∧ Below w.heap.size w wr) := ⟨hlt, by rw [lf_yes _ _ (by rw [← HLL.out]; exact HND.out.symm)]; exact HLL.out, BR.out⟩
            go_wp2_with fail
            go_roundw
            case rel => exact ⟨k + 1, L, by go_num, rfl, NX.out⟩
            case measure => simp [intOf]; omega
          | false =>
            have C8 : Hid (∀ V, Calls Tryd.prog 70 #[.int .i64 k] V fun e w' => e = .returned (.int .u64 ((2 ^ k : Nat) : Int)) ∧ w' = V) := fun V => only_c k V (by omega)
            have hp2 : 2 ^ k < 2 ^ 64 := Nat.pow_lt_pow_right (by omega) (by omega)
            have HX : Hid (L &&& (18446744073709551615 - 2 ^ k) = lfM (gpL l E) m (k + 1)) := by
              unfold Hid
              rw [← lf_no _ _ m60 hlt (by rw [← HLL.out]; exact HND.out.symm), ← HLL.out]
            obtain ⟨p2, hp⟩ : ∃ x, 2 ^ k = x := ⟨_, rfl⟩
            rw [hp] at C8 hp2 HX
            have hand : bits .andNot .u64 (L : Int) (p2 : Int) = ((L &&& (18446744073709551615 - p2) : Nat) : Int) := Go.u64_andNot_nat _ _ (by omega) (by omega)
            obtain ⟨L2, hL2⟩ : ∃ x, L &&& (18446744073709551615 - p2) = x := ⟨_, rfl⟩
            rw [hL2] at hand HX
            have NX : Hid (k + 1 ≤ m ∧ L2 = lfM (gpL l E) m (k + 1) ∧ Below w.heap.size w wr) := ⟨hlt, HX.out, BR.out⟩
            clear hp hL2 hp2 HX
            go_wp2_with fail
            refine (C8.out _).mono ?_
            rintro e1 w4 ⟨rfl, rfl⟩
            go_wp2_with fail
            go_roundw
            case rel => exact ⟨k + 1, L2, by go_num, rfl, NX.out⟩
            case measure => simp [intOf]; omega
        · intro s cv w1 cnt1 hlk hat hrg1 hlt1 hg1 hs1 hen
          obtain ⟨F, rfl, hF, hFb⟩ := HG.out s (HSE.out.sub s hlk)
          have B1 : Hid (Below wo.heap.size wo w1) := HBO.out.grown hg1 HBO.out.size (fun j hj => by cases hj; exact Nat.le_refl _)
          have ME : Hid (w1.rangeLeft mp wo.heap.size < wr.rangeLeft mp wo.heap.size) := by
            unfold Hid
            rw [hrg1.left_eq, HRG.out.left_eq]; exact hlt1
          have HST := Lib.hid (HSE.out.step hlk)
          have HR1 := Lib.hid hrg1
          have HCD : Hid (cdB L k (F : Int) = decide (F &&& L = 2 ^ k)) := by unfold Hid cdB; simp
          clear hS hrg hrg1 hlk hat hg1 hs1 hlt1 hF
          cases o with
          | true =>
            have NX : Hid (w1.ranges Tryd.prog 54 asIsK mp wo.heap.size n D (fun z => left z && !z.sameKey (.int .u64 (F : Int))) cnt1 ∧ Below wo.heap.size wo w1 ∧ SeB (gpP l E) L k (fun z => left z && !z.sameKey (.int .u64 (F : Int))) true) := ⟨HR1.out, B1.out, by have := HST.out; rw [Bool.true_or] at this; exact this⟩
            clear HST HCD
            go_wp2_with fail
            go_roundw
            case rel => exact ⟨_, cnt1, true, rfl, NX.out⟩
            case measure => exact ME.out
          | false =>
            have C8 : Hid (∀ V, Calls Tryd.prog 70 #[.int .i64 k] V fun e w' => e = .returned (.int .u64 ((2 ^ k : Nat) : Int)) ∧ w' = V) := fun V => only_c k V (by omega)
            obtain ⟨p2, hp⟩ : ∃ x, 2 ^ k = x := ⟨_, rfl⟩
            rw [hp] at C8 HCD
            have hand : bits .and .u64 (F : Int) (L : Int) = ((F &&& L : Nat) : Int) := Go.u64_and_nat _ _ (by omega) (by omega)
            obtain ⟨y, hy⟩ : ∃ x, F &&& L = x := ⟨_, rfl⟩
            rw [hy] at hand HCD
            obtain ⟨t, ht⟩ : ∃ t, decide (y = p2) = t := ⟨_, rfl⟩
            have heq : ((y : Int) == (p2 : Int)) = t := by rw [← ht, Bool.eq_iff_iff]; simp; omega
            have NX : Hid (w1.ranges Tryd.prog 54 asIsK mp wo.heap.size n D (fun z => left z && !z.sameKey (.int .u64 (F : Int))) cnt1 ∧ Below wo.heap.size wo w1 ∧ SeB (gpP l E) L k (fun z => left z && !z.sameKey (.int .u64 (F : Int))) t) := ⟨HR1.out, B1.out, by have := HST.out; rw [Bool.false_or, HCD.out, ht] at this; exact this⟩
            clear HST HCD hp hy ht
            go_wp2_with fail
            refine (C8.out _).mono ?_
            rintro e1 w4 ⟨rfl, rfl⟩
            go_wp2_with fail
            go_roundw
            case rel => exact ⟨_, cnt1, t, rfl, NX.out⟩
            case measure => exact ME.out
    · have hlt' : ¬ (k : Int) < (m : Int) := by omega
      have e : k = m := by omega
      have RR : Hid (lfM (gpL l E) E.length E.length = L) := by unfold Hid; rw [HM.out, hL, e]
      clear hS hL hbl hlt e
      go_wp2_with fail
      go_ret
      exact ⟨by rw [RR.out]; rfl, HBL.out⟩
end Go.Proofs.YtadfmplafehjlaaDoor
namespace Go.Proofs.YtadfmplafehjlaaDoor
open Go.RowKit Go.WideMaps Go.Maps Go.Shelf

set_option maxRecDepth 100000 in
set_option maxHeartbeats 8000000 in
theorem rneeded_c (a : Option Addr) (c : Nat) (l : List Fd) (a2 : Option Addr) (c2 : Nat) (E : List Ed) (i : Nat) (lb lc : Nat) (q : Nat → Bool) (w : World) (hl : RdF w a l) (hE : RdE w a2 E) (hok : Ok l E) (hi : i < E.length) (hq : ∀ j, j < E.length → w.cell? ⟨lb, j, none⟩ = some (.bool (q j))) :
    Calls Tryd.prog 47 #[.agg #[.slice a l.length c, .slice a2 E.length c2], .int .i64 i, .slice (some ⟨lb, 0, none⟩) E.length lc] w fun e w' => e = .returned (.bool (rnB l E i q)) ∧ Below w.heap.size w w' := by
  obtain ⟨W1, hW1⟩ : ∃ W, w.alloc (.cells #[.slice a l.length c, .slice a2 E.length c2] 25) = W := ⟨_, rfl⟩
  obtain ⟨z, hz⟩ : ∃ z, w.heap.size = z := ⟨_, rfl⟩
  have b1 : Below w.heap.size w W1 := by rw [← hW1]; exact bel_one _ _
  have B1 := Lib.hid b1
  have x0 : W1.cell? ⟨z, 0, none⟩ = some (.slice a l.length c) := by rw [← hW1, ← hz, World.cell?_alloc_new]; rfl
  have x1 : W1.cell? ⟨z, 1, none⟩ = some (.slice a2 E.length c2) := by rw [← hW1, ← hz, World.cell?_alloc_new]; rfl
  have C1 := Lib.hid (all_c a c l E a2 E.length c2 W1 (hl.below b1) hok)
  have HE := Lib.hid (hE.below b1)
  have HQ : Hid (∀ j, j < E.length → W1.cell? ⟨lb, j, none⟩ = some (.bool (q j))) := fun j hj => (b1.cell (p := ⟨lb, j, none⟩) (cellLt (hq j hj))).trans (hq j hj)
  have HOK := Lib.hid hok
  have m60 := hok.m60
  unfold AllP at C1
  obtain ⟨n, hn⟩ : ∃ n, l.length = n := ⟨_, rfl⟩
  obtain ⟨m, hm⟩ : ∃ n, E.length = n := ⟨_, rfl⟩
  obtain ⟨P, hP⟩ : ∃ n, (alR l l.length).length = n := ⟨_, rfl⟩
  have HN := Lib.hid hn
  have HM := Lib.hid hm
  have HPP := Lib.hid hP
  have hP2 : P ≤ 20000 := by rw [← hP, alR_len]; exact mixb hok (Nat.le_refl _)
  rw [hP] at C1
  rw [hn] at C1 x0 hW1 ⊢
  rw [hm] at C1 x1 hW1 m60 ⊢
  rw [hm] at hi
  have hi0 : (0 : Int) ≤ (i : Int) := by omega
  have him : (i : Int) < (m : Int) := by omega
  clear hl hE hok hq b1 hn hm hP
  go_enter Tryd.func47, Tryd.ntmps47
  go_wp2_with fail
  refine C1.out.mono ?_
  rintro e1 w2 ⟨b2, ra, rc, I, rfl, hw, hi2, hmap⟩
  have B2 := Lib.hid b2
  have HWN := Lib.hid hw
  have HI := Lib.hid hi2
  have HMP : Hid (I.map (·.2) = alR l l.length) := by unfold Hid; rw [HN.out]; exact hmap
  have HIL : Hid (I.length = P) := by
    have := congrArg List.length HMP.out
    rw [List.length_map] at this
    exact this.trans HPP.out
  clear b2 hw hi2 hmap C1 hW1
  go_wp2_with fail
  go_loopw [8, 9, 10, 11, 15] (fun _ _ _ _ iv wr => ∃ (j : Nat), iv = .int .i64 j ∧ Hid (j ≤ P ∧ (∀ s x, s < j → (alR l l.length)[s]? = some x → (flB E x i && al (fun k => decide (k = i) || !q k || !flB E x k) E.length) = false) ∧ Below w2.heap.size w2 wr)) (fun _ _ _ _ iv _ => P - (intOf iv).toNat)
  case atStart => exact ⟨0, rfl, Nat.zero_le _, fun s x hs => absurd hs (by omega), Below.refl _ _⟩
  case round =>
    obtain ⟨j, rfl, hS⟩ := hrel
    obtain ⟨hj, hno, hbl⟩ := hS.out
    have HNO := Lib.hid hno
    have HBL := Lib.hid hbl
    by_cases hlt : j < P
    · have hlt' : (j : Int) < (P : Int) := by omega
      have hjI : j < I.length := by rw [HIL.out]; exact hlt
      obtain ⟨⟨xv, x⟩, hx⟩ : ∃ x, I[j]? = some x := ⟨I[j], List.getElem?_eq_getElem hjI⟩
      have hxa : (alR l l.length)[j]? = some x := by rw [← HMP.out, List.getElem?_map, hx]; rfl
      have HXA := Lib.hid hxa
      have hxl : x.length = l.length := ((alR_mem l _ x).1 (List.mem_of_getElem? hxa)).1
      obtain ⟨xa, xc, ex, hrx, _⟩ := HI.out (xv, x) (List.mem_of_getElem? hx)
      obtain ⟨ib, io, rfl, hil, hic⟩ := HWN.out.2.2.2 (by unfold vlr; rw [List.length_map]; omega)
      have c0 := hic j xv (by unfold vlr; rw [List.getElem?_map, hx]; rfl)
      have ex : xv = .slice xa x.length xc := ex
      subst ex
      have c1 := (hbl.cell (p := ⟨ib, io + j, none⟩) hil).trans c0
      have HRX : Hid (Rd wr xa x) := Rd.below hrx hbl
      have HXL := Lib.hid hxl
      obtain ⟨wo, hwo⟩ : ∃ V : World, V = wr := ⟨_, rfl⟩
      subst hwo
      have BW : Hid (Below W1.heap.size W1 wo) := B2.out.trans (hbl.mono B2.out.size)
      have FC : Hid (∀ k V, k < m → Below wo.heap.size wo V → ∃ eb eo ea ec nm, a2 = some ⟨eb, eo, none⟩ ∧ V.cell? ⟨eb, eo + k * 2, none⟩ = some (.string nm) ∧ V.cell? ⟨eb, eo + k * 2 + 1, none⟩ = some (.slice ea n ec) ∧
          ∀ V2, Below V.heap.size V V2 → Calls Tryd.prog 57 #[.agg #[.string nm, .slice ea n ec], .slice xa x.length xc] V2 fun e w' => e = .returned (.bool (flB E x k)) ∧ Below V2.heap.size V2 w') := fun k V hk hV => by
        have hb : Below W1.heap.size W1 V := BW.out.trans (hV.mono BW.out.size)
        obtain ⟨eb, eo, e0, h1, ea, ec, h2, h3⟩ := (HE.out.below hb).at_ (k := k) (by rw [HM.out]; exact hk)
        have hsl := HOK.out.sl k (by rw [HM.out]; exact hk)
        rw [hsl, HN.out] at h2
        refine ⟨eb, eo, ea, ec, _, e0, h1, h2, fun V2 hV2 => ?_⟩
        have := rfails_c (ed E k).nm ea ec (ed E k).ss xa xc x V2 (h3.below hV2) (HRX.out.below (hV.trans (hV2.mono hV.size))) (by rw [hsl, HXL.out]; exact Nat.le_refl _)
        rw [hsl, HN.out] at this
        refine this.mono fun e w' h => ⟨?_, h.2⟩
        rw [h.1]
        unfold flB
        rw [hsl, HN.out]; rfl
      have y1 := (BW.out.cell (p := ⟨z, 1, none⟩) (cellLt x1)).trans x1
      clear hS hno hbl hx hxa hxl hrx hic hil c0 hjI
      obtain ⟨eb, eo, ea, ec, nm, rfl, g0, g1, CF⟩ := FC.out i wo (by omega) (Below.refl _ _)
      have C3 := Lib.hid (CF wo (Below.refl _ _))
      clear CF
      go_wp2_with fail
      refine C3.out.mono ?_
      rintro e1 w4 ⟨rfl, b4⟩
      have B4 := Lib.hid b4
      obtain ⟨fi, hfi⟩ : ∃ b, flB E x i = b := ⟨_, rfl⟩
      have HFI := Lib.hid hfi
      rw [hfi]
      have y2 := (b4.cell (p := ⟨z, 1, none⟩) (cellLt y1)).trans y1
      clear b4 C3 y1 g0 g1 hfi
      go_wp2_with fail
      have HB4 : Hid (Below W1.heap.size W1 w4) := BW.out.trans (B4.out.mono BW.out.size)
      have Y2 := Lib.hid y2
      clear y2 c1
      go_loopw [9, 10, 11, 30] (fun ov _ _ iv wr => ∃ (k : Nat) (o : Bool), iv = .int .i64 k ∧ ov = .bool o ∧ Hid (k ≤ m ∧ o = (!fi || !(al (fun j => decide (j = i) || !q j || !flB E x j) k)) ∧ Below w4.heap.size w4 wr)) (fun _ _ _ iv _ => m - (intOf iv).toNat)
      case atStart => exact ⟨0, !fi, rfl, rfl, Nat.zero_le _, by simp [al], Below.refl _ _⟩
      case round =>
        obtain ⟨k, o, rfl, rfl, hS⟩ := hrel
        obtain ⟨hk, ho, hbl⟩ := hS.out
        have HB := Lib.hid hbl
        by_cases hlt2 : k < m
        · have hlt2' : (k : Int) < (m : Int) := by omega
          have hk0 : (0 : Int) ≤ (k : Int) := by omega
          obtain ⟨eb, eo, ea, ec, nm, he0, g0, g1, CF⟩ := FC.out k wr hlt2 (B4.out.trans (hbl.mono B4.out.size))
          injection he0 with he0
          injection he0 with he0 he1
          subst he0 he1
          have y3 := (hbl.cell (p := ⟨z, 1, none⟩) (cellLt Y2.out)).trans Y2.out
          have q0 := HQ.out k (by rw [HM.out]; exact hlt2)
          have q1 := (hbl.cell (p := ⟨lb, k, none⟩) (Nat.lt_of_lt_of_le (cellLt q0) HB4.out.size)).trans ((HB4.out.cell (p := ⟨lb, k, none⟩) (cellLt q0)).trans q0)
          obtain ⟨W6, hW6⟩ : ∃ W, wr.alloc (.cells #[.string nm, .slice ea n ec] 43) = W := ⟨_, rfl⟩
          have b6 : Below wr.heap.size wr W6 := by rw [← hW6]; exact bel_one _ _
          obtain ⟨u, hu⟩ : ∃ z, wr.heap.size = z := ⟨_, rfl⟩
          have u0 : W6.cell? ⟨u, 0, none⟩ = some (.string nm) := by rw [← hW6, ← hu, World.cell?_alloc_new]; rfl
          have u1 : W6.cell? ⟨u, 1, none⟩ = some (.slice ea n ec) := by rw [← hW6, ← hu, World.cell?_alloc_new]; rfl
          have q2 := (b6.cell (p := ⟨lb, k, none⟩) (cellLt q1)).trans q1
          have C5 := Lib.hid (CF W6 b6)
          have B6 : Hid (Below w4.heap.size w4 W6) := hbl.trans (b6.mono hbl.size)
          have HO : Hid ((o || (decide (k ≠ i) && q k && flB E x k)) = (!fi || !(al (fun j => decide (j = i) || !q j || !flB E x j) (k + 1)))) := by
            unfold Hid
            rw [ho]
            rw [show al (fun j => decide (j = i) || !q j || !flB E x j) (k + 1) = (al (fun j => decide (j = i) || !q j || !flB E x j) k && (fun j => decide (j = i) || !q j || !flB E x j) k) from rfl]
            dsimp only
            generalize al (fun j => decide (j = i) || !q j || !flB E x j) k = t
            by_cases e : k = i
            · subst e; cases fi <;> cases t <;> simp
            · simp only [e, decide_false, Bool.false_or, ne_eq, not_false_eq_true, decide_true, Bool.true_and]
              cases fi <;> cases t <;> cases q k <;> cases flB E x k <;> rfl
          obtain ⟨fk, hfk⟩ : ∃ b, flB E x k = b := ⟨_, rfl⟩
          obtain ⟨qk, hqk⟩ : ∃ b, q k = b := ⟨_, rfl⟩
          rw [hfk, hqk] at HO
          rw [hfk] at C5
          rw [hqk] at q2
          clear hS hk ho hbl q0 q1 b6 CF hfk hqk
          cases o with
          | true =>
            have NO : Hid (true = (!fi || !(al (fun j => decide (j = i) || !q j || !flB E x j) (k + 1)))) := by unfold Hid; rw [← HO.out]; simp
            clear HO
            go_wp2_with fail
            try rw [hW6]
            go_roundw
            case rel => exact ⟨k + 1, true, by go_num, rfl, hlt2, NO.out, B6.out⟩
            case measure => simp [intOf]; omega
          | false =>
            by_cases e : k = i
            · have g2 : ((k : Int) != (i : Int)) = false := by rw [e]; simp
              have NO : Hid (false = (!fi || !(al (fun j => decide (j = i) || !q j || !flB E x j) (k + 1)))) := by unfold Hid; rw [← HO.out]; simp [e]
              clear HO e
              go_wp2_with fail
              try rw [hW6]
              go_roundw
              case rel => exact ⟨k + 1, false, by go_num, rfl, hlt2, NO.out, B6.out⟩
              case measure => simp [intOf]; omega
            · have g2 : ((k : Int) != (i : Int)) = true := by simp; omega
              cases qk with
              | false =>
                have NO : Hid (false = (!fi || !(al (fun j => decide (j = i) || !q j || !flB E x j) (k + 1)))) := by unfold Hid; rw [← HO.out]; simp
                clear HO
                go_wp2_with fail
                try rw [hW6]
                go_roundw
                case rel => exact ⟨k + 1, false, by go_num, rfl, hlt2, NO.out, B6.out⟩
                case measure => simp [intOf]; omega
              | true =>
                have NO : Hid (fk = (!fi || !(al (fun j => decide (j = i) || !q j || !flB E x j) (k + 1)))) := by unfold Hid; rw [← HO.out]; simp [e]
                clear HO e
                go_wp2_with fail
                try rw [hW6]
                refine C5.out.mono ?_
                rintro e1 w7 ⟨rfl, b7⟩
                have B7 : Hid (Below w4.heap.size w4 w7) := B6.out.trans (b7.mono B6.out.size)
                clear b7 C5
                go_wp2_with fail
                go_roundw
                case rel => exact ⟨k + 1, fk, by go_num, rfl, hlt2, NO.out, B7.out⟩
                case measure => simp [intOf]; omega
        · have hlt2' : ¬ (k : Int) < (m : Int) := by omega
          have e : k = m := by omega
          have HO : Hid ((flB E x i && al (fun k => decide (k = i) || !q k || !flB E x k) E.length) = !o) := by
            unfold Hid
            rw [ho, e, HM.out, HFI.out]
            cases fi <;> simp
          have HB5 : Hid (Below w2.heap.size w2 wr) := HBL.out.trans ((B4.out.trans (hbl.mono B4.out.size)).mono HBL.out.size)
          clear hS hk ho hbl e hlt2
          cases o with
          | false =>
            have RR : Hid ((rnB l E i q) = true) := by
              unfold Hid rnB
              rw [List.any_eq_true]
              exact ⟨x, List.mem_of_getElem? HXA.out, HO.out⟩
            have BF : Hid (Below w.heap.size w wr) := B1.out.trans ((B2.out.trans (HB5.out.mono B2.out.size)).mono B1.out.size)
            go_wp2_with fail
            go_ret
            exact ⟨by rw [RR.out]; rfl, (by first | exact BF.out | (rw [← hz]; exact BF.out))⟩
          | true =>
            have NX : Hid (j + 1 ≤ P ∧ (∀ s x, s < j + 1 → (alR l l.length)[s]? = some x → (flB E x i && al (fun k => decide (k = i) || !q k || !flB E x k) E.length) = false) ∧ Below w2.heap.size w2 wr) := by
              refine ⟨hlt, fun s y hs hy => ?_, HB5.out⟩
              by_cases e : s = j
              · subst e
                have := HXA.out
                rw [hy] at this
                injection this with this
                subst this
                exact HO.out
              · exact HNO.out s y (by omega) hy
            clear HO
            go_wp2_with fail
            go_roundw
            case rel => exact ⟨j + 1, by go_num, NX.out⟩
            case measure => simp [intOf]; omega
    · have hlt' : ¬ (j : Int) < (P : Int) := by omega
      have RR : Hid ((rnB l E i q) = false) := by
        unfold Hid rnB
        rw [List.any_eq_false]
        intro x hx
        obtain ⟨s, hs, e⟩ := List.getElem_of_mem hx
        have := hno s x (by rw [HPP.out] at hs; omega) (by rw [List.getElem?_eq_getElem hs, e])
        rw [this]; simp
      have BF : Hid (Below w.heap.size w wr) := B1.out.trans ((B2.out.trans (hbl.mono B2.out.size)).mono B1.out.size)
      clear hS hno hbl hlt
      go_wp2_with fail
      go_ret
      exact ⟨by rw [RR.out]; rfl, (by first | exact BF.out | (rw [← hz]; exact BF.out))⟩
set_option maxRecDepth 100000 in
set_option maxHeartbeats 8000000 in
theorem rpossible_c (a : Option Addr) (c : Nat) (l : List Fd) (a2 : Option Addr) (c2 : Nat) (E : List Ed) (lb lc : Nat) (q : Nat → Bool) (w : World) (hl : RdF w a l) (hE : RdE w a2 E) (hok : Ok l E) (hq : ∀ j, j < E.length → w.cell? ⟨lb, j, none⟩ = some (.bool (q j))) :
    Calls Tryd.prog 48 #[.agg #[.slice a l.length c, .slice a2 E.length c2], .slice (some ⟨lb, 0, none⟩) E.length lc] w fun e w' => e = .returned (.bool (rpB l E q)) ∧ Below w.heap.size w w' := by
  obtain ⟨W1, hW1⟩ : ∃ W, w.alloc (.cells #[.slice a l.length c, .slice a2 E.length c2] 25) = W := ⟨_, rfl⟩
  obtain ⟨z, hz⟩ : ∃ z, w.heap.size = z := ⟨_, rfl⟩
  have b1 : Below w.heap.size w W1 := by rw [← hW1]; exact bel_one _ _
  have B1 := Lib.hid b1
  have x0 : W1.cell? ⟨z, 0, none⟩ = some (.slice a l.length c) := by rw [← hW1, ← hz, World.cell?_alloc_new]; rfl
  have x1 : W1.cell? ⟨z, 1, none⟩ = some (.slice a2 E.length c2) := by rw [← hW1, ← hz, World.cell?_alloc_new]; rfl
  have C1 := Lib.hid (all_c a c l E a2 E.length c2 W1 (hl.below b1) hok)
  have HE := Lib.hid (hE.below b1)
  have HQ : Hid (∀ j, j < E.length → W1.cell? ⟨lb, j, none⟩ = some (.bool (q j))) := fun j hj => (b1.cell (p := ⟨lb, j, none⟩) (cellLt (hq j hj))).trans (hq j hj)
  have HOK := Lib.hid hok
  have m60 := hok.m60
  unfold AllP at C1
  obtain ⟨n, hn⟩ : ∃ n, l.length = n := ⟨_, rfl⟩
  obtain ⟨m, hm⟩ : ∃ n, E.length = n := ⟨_, rfl⟩
  obtain ⟨P, hP⟩ : ∃ n, (alR l l.length).length = n := ⟨_, rfl⟩
  have HN := Lib.hid hn
  have HM := Lib.hid hm
  have HPP := Lib.hid hP
  have hP2 : P ≤ 20000 := by rw [← hP, alR_len]; exact mixb hok (Nat.le_refl _)
  rw [hP] at C1
  rw [hn] at C1 x0 hW1 ⊢
  rw [hm] at C1 x1 hW1 m60 ⊢
  clear hl hE hok hq b1 hn hm hP
  go_enter Tryd.func48, Tryd.ntmps48
  go_wp2_with fail
  refine C1.out.mono ?_
  rintro e1 w2 ⟨b2, ra, rc, I, rfl, hw, hi2, hmap⟩
  have B2 := Lib.hid b2
  have HWN := Lib.hid hw
  have HI := Lib.hid hi2
  have HMP : Hid (I.map (·.2) = alR l l.length) := by unfold Hid; rw [HN.out]; exact hmap
  have HIL : Hid (I.length = P) := by
    have := congrArg List.length HMP.out
    rw [List.length_map] at this
    exact this.trans HPP.out
  clear b2 hw hi2 hmap C1 hW1
  go_wp2_with fail
  go_loopw [6, 7, 8, 9, 13] (fun _ _ _ _ iv wr => ∃ (j : Nat), iv = .int .i64 j ∧ Hid (j ≤ P ∧ (∀ s x, s < j → (alR l l.length)[s]? = some x → (al (fun k => !q k || !flB E x k) E.length) = false) ∧ Below w2.heap.size w2 wr)) (fun _ _ _ _ iv _ => P - (intOf iv).toNat)
  case atStart => exact ⟨0, rfl, Nat.zero_le _, fun s x hs => absurd hs (by omega), Below.refl _ _⟩
  case round =>
    obtain ⟨j, rfl, hS⟩ := hrel
    obtain ⟨hj, hno, hbl⟩ := hS.out
    have HNO := Lib.hid hno
    have HBL := Lib.hid hbl
    by_cases hlt : j < P
    · have hlt' : (j : Int) < (P : Int) := by omega
      have hjI : j < I.length := by rw [HIL.out]; exact hlt
      obtain ⟨⟨xv, x⟩, hx⟩ : ∃ x, I[j]? = some x := ⟨I[j], List.getElem?_eq_getElem hjI⟩
      have hxa : (alR l l.length)[j]? = some x := by rw [← HMP.out, List.getElem?_map, hx]; rfl
      have HXA := Lib.hid hxa
      have hxl : x.length = l.length := ((alR_mem l _ x).1 (List.mem_of_getElem? hxa)).1
      obtain ⟨xa, xc, ex, hrx, _⟩ := HI.out (xv, x) (List.mem_of_getElem? hx)
      obtain ⟨ib, io, rfl, hil, hic⟩ := HWN.out.2.2.2 (by unfold vlr; rw [List.length_map]; omega)
      have c0 := hic j xv (by unfold vlr; rw [List.getElem?_map, hx]; rfl)
      have ex : xv = .slice xa x.length xc := ex
      subst ex
      have c1 := (hbl.cell (p := ⟨ib, io + j, none⟩) hil).trans c0
      have HRX : Hid (Rd wr xa x) := Rd.below hrx hbl
      have HXL := Lib.hid hxl
      obtain ⟨wo, hwo⟩ : ∃ V : World, V = wr := ⟨_, rfl⟩
      subst hwo
      have BW : Hid (Below W1.heap.size W1 wo) := B2.out.trans (hbl.mono B2.out.size)
      have FC : Hid (∀ k V, k < m → Below wo.heap.size wo V → ∃ eb eo ea ec nm, a2 = some ⟨eb, eo, none⟩ ∧ V.cell? ⟨eb, eo + k * 2, none⟩ = some (.string nm) ∧ V.cell? ⟨eb, eo + k * 2 + 1, none⟩ = some (.slice ea n ec) ∧
          ∀ V2, Below V.heap.size V V2 → Calls Tryd.prog 57 #[.agg #[.string nm, .slice ea n ec], .slice xa x.length xc] V2 fun e w' => e = .returned (.bool (flB E x k)) ∧ Below V2.heap.size V2 w') := fun k V hk hV => by
        have hb : Below W1.heap.size W1 V := BW.out.trans (hV.mono BW.out.size)
        obtain ⟨eb, eo, e0, h1, ea, ec, h2, h3⟩ := (HE.out.below hb).at_ (k := k) (by rw [HM.out]; exact hk)
        have hsl := HOK.out.sl k (by rw [HM.out]; exact hk)
        rw [hsl, HN.out] at h2
        refine ⟨eb, eo, ea, ec, _, e0, h1, h2, fun V2 hV2 => ?_⟩
        have := rfails_c (ed E k).nm ea ec (ed E k).ss xa xc x V2 (h3.below hV2) (HRX.out.below (hV.trans (hV2.mono hV.size))) (by rw [hsl, HXL.out]; exact Nat.le_refl _)
        rw [hsl, HN.out] at this
        refine this.mono fun e w' h => ⟨?_, h.2⟩
        rw [h.1]
        unfold flB
        rw [hsl, HN.out]; rfl
      have y1 := (BW.out.cell (p := ⟨z, 1, none⟩) (cellLt x1)).trans x1
      clear hS hno hbl hx hxa hxl hrx hic hil c0 hjI
      obtain ⟨w4, hw4⟩ : ∃ V : World, wo = V := ⟨_, rfl⟩
      have B4 : Hid (Below wo.heap.size wo w4) := by unfold Hid; rw [← hw4]; exact Below.refl _ _
      have y2 := y1
      rw [hw4] at y2 ⊢
      rw [hw4] at c1
      clear y1
      go_wp2_with fail
      have HB4 : Hid (Below W1.heap.size W1 w4) := BW.out.trans (B4.out.mono BW.out.size)
      have Y2 := Lib.hid y2
      clear y2 c1
      go_loopw [7, 8, 9, 20] (fun ov _ _ iv wr => ∃ (k : Nat) (o : Bool), iv = .int .i64 k ∧ ov = .bool o ∧ Hid (k ≤ m ∧ o = (!(al (fun j => !q j || !flB E x j) k)) ∧ Below w4.heap.size w4 wr)) (fun _ _ _ iv _ => m - (intOf iv).toNat)
      case atStart => exact ⟨0, false, rfl, rfl, Nat.zero_le _, rfl, Below.refl _ _⟩
      case round =>
        obtain ⟨k, o, rfl, rfl, hS⟩ := hrel
        obtain ⟨hk, ho, hbl⟩ := hS.out
        have HB := Lib.hid hbl
        by_cases hlt2 : k < m
        · have hlt2' : (k : Int) < (m : Int) := by omega
          have hk0 : (0 : Int) ≤ (k : Int) := by omega
          obtain ⟨eb, eo, ea, ec, nm, rfl, g0, g1, CF⟩ := FC.out k wr hlt2 (B4.out.trans (hbl.mono B4.out.size))
          have y3 := (hbl.cell (p := ⟨z, 1, none⟩) (cellLt Y2.out)).trans Y2.out
          have q0 := HQ.out k (by rw [HM.out]; exact hlt2)
          have q1 := (hbl.cell (p := ⟨lb, k, none⟩) (Nat.lt_of_lt_of_le (cellLt q0) HB4.out.size)).trans ((HB4.out.cell (p := ⟨lb, k, none⟩) (cellLt q0)).trans q0)
          obtain ⟨W6, hW6⟩ : ∃ W, wr.alloc (.cells #[.string nm, .slice ea n ec] 43) = W := ⟨_, rfl⟩
          have b6 : Below wr.heap.size wr W6 := by rw [← hW6]; exact bel_one _ _
          obtain ⟨u, hu⟩ : ∃ z, wr.heap.size = z := ⟨_, rfl⟩
          have u0 : W6.cell? ⟨u, 0, none⟩ = some (.string nm) := by rw [← hW6, ← hu, World.cell?_alloc_new]; rfl
          have u1 : W6.cell? ⟨u, 1, none⟩ = some (.slice ea n ec) := by rw [← hW6, ← hu, World.cell?_alloc_new]; rfl
          have q2 := (b6.cell (p := ⟨lb, k, none⟩) (cellLt q1)).trans q1
          have C5 := Lib.hid (CF W6 b6)
          have B6 : Hid (Below w4.heap.size w4 W6) := hbl.trans (b6.mono hbl.size)
          have HO : Hid ((o || (q k && flB E x k)) = (!(al (fun j => !q j || !flB E x j) (k + 1)))) := by
            unfold Hid
            rw [ho]
            rw [show al (fun j => !q j || !flB E x j) (k + 1) = (al (fun j => !q j || !flB E x j) k && (fun j => !q j || !flB E x j) k) from rfl]
            dsimp only
            generalize al (fun j => !q j || !flB E x j) k = t
            
            cases t <;> cases q k <;> cases flB E x k <;> rfl
          obtain ⟨fk, hfk⟩ : ∃ b, flB E x k = b := ⟨_, rfl⟩
          obtain ⟨qk, hqk⟩ : ∃ b, q k = b := ⟨_, rfl⟩
          rw [hfk, hqk] at HO
          rw [hfk] at C5
          rw [hqk] at q2
          clear hS hk ho hbl q0 q1 b6 CF hfk hqk
          cases o with
          | true =>
            have NO : Hid (true = (!(al (fun j => !q j || !flB E x j) (k + 1)))) := by unfold Hid; rw [← HO.out]; simp
            clear HO
            go_wp2_with fail
            try rw [hW6]
            go_roundw
            case rel => exact ⟨k + 1, true, by go_num, rfl, hlt2, NO.out, B6.out⟩
            case measure => simp [intOf]; omega
          | false =>
            cases qk with
            | false =>
              have NO : Hid (false = (!(al (fun j => !q j || !flB E x j) (k + 1)))) := by unfold Hid; rw [← HO.out]; simp
              clear HO
              go_wp2_with fail
              try rw [hW6]
              go_roundw
              case rel => exact ⟨k + 1, false, by go_num, rfl, hlt2, NO.out, B6.out⟩
              case measure => simp [intOf]; omega
            | true =>
              have NO : Hid (fk = (!(al (fun j => !q j || !flB E x j) (k + 1)))) := by unfold Hid; rw [← HO.out]; simp
              clear HO
              go_wp2_with fail
              try rw [hW6]
              refine C5.out.mono ?_
              rintro e1 w7 ⟨rfl, b7⟩
              have B7 : Hid (Below w4.heap.size w4 w7) := B6.out.trans (b7.mono B6.out.size)
              clear b7 C5
              go_wp2_with fail
              go_roundw
              case rel => exact ⟨k + 1, fk, by go_num, rfl, hlt2, NO.out, B7.out⟩
              case measure => simp [intOf]; omega
        · have hlt2' : ¬ (k : Int) < (m : Int) := by omega
          have e : k = m := by omega
          have HO : Hid ((al (fun k => !q k || !flB E x k) E.length) = !o) := by
            unfold Hid
            rw [ho, e, HM.out]
            simp
          have HB5 : Hid (Below w2.heap.size w2 wr) := HBL.out.trans ((B4.out.trans (hbl.mono B4.out.size)).mono HBL.out.size)
          clear hS hk ho hbl e hlt2
          cases o with
          | false =>
            have RR : Hid ((rpB l E q) = true) := by
              unfold Hid rpB
              rw [List.any_eq_true]
              exact ⟨x, List.mem_of_getElem? HXA.out, HO.out⟩
            have BF : Hid (Below w.heap.size w wr) := B1.out.trans ((B2.out.trans (HB5.out.mono B2.out.size)).mono B1.out.size)
            go_wp2_with fail
            go_ret
            exact ⟨by rw [RR.out]; rfl, (by first | exact BF.out | (rw [← hz]; exact BF.out))⟩
          | true =>
            have NX : Hid (j + 1 ≤ P ∧ (∀ s x, s < j + 1 → (alR l l.length)[s]? = some x → (al (fun k => !q k || !flB E x k) E.length) = false) ∧ Below w2.heap.size w2 wr) := by
              refine ⟨hlt, fun s y hs hy => ?_, HB5.out⟩
              by_cases e : s = j
              · subst e
                have := HXA.out
                rw [hy] at this
                injection this with this
                subst this
                exact HO.out
              · exact HNO.out s y (by omega) hy
            clear HO
            go_wp2_with fail
            go_roundw
            case rel => exact ⟨j + 1, by go_num, NX.out⟩
            case measure => simp [intOf]; omega
    · have hlt' : ¬ (j : Int) < (P : Int) := by omega
      have RR : Hid ((rpB l E q) = false) := by
        unfold Hid rpB
        rw [List.any_eq_false]
        intro x hx
        obtain ⟨s, hs, e⟩ := List.getElem_of_mem hx
        have := hno s x (by rw [HPP.out] at hs; omega) (by rw [List.getElem?_eq_getElem hs, e])
        rw [this]; simp
      have BF : Hid (Below w.heap.size w wr) := B1.out.trans ((B2.out.trans (hbl.mono B2.out.size)).mono B1.out.size)
      clear hS hno hbl hlt
      go_wp2_with fail
      go_ret
      exact ⟨by rw [RR.out]; rfl, (by first | exact BF.out | (rw [← hz]; exact BF.out))⟩
end Go.Proofs.YtadfmplafehjlaaDoor
namespace Go.Proofs.YtadfmplafehjlaaDoor
open Go.RowKit Go.WideMaps Go.Maps Go.Shelf

theorem infoBo : (Tryd.prog.info? 4).map (fun i => (i.zero, i.size, i.bytes)) = some (some (.bool false), 1, 1) := by kernel_rfl
theorem zerosB_ex (n : Nat) : ∃ Z, madeCells #[Value.bool false] n = Z ∧ ∀ j, j < n → Z[j]? = some (Value.bool false) := ⟨_, rfl, fun j h => by
  rw [← Array.getElem?_toList, toList_madeCells_one, List.getElem?_replicate]
  exact if_pos h⟩
/-- The edits that are left, in memory, beside the plan's box. -/
structure LfW (W0 w : World) (b z m : Nat) (v0 v1 : Value) (q : Nat → Bool) : Prop where
  at_ : ∀ j, j < m → w.cell? ⟨b, j, none⟩ = some (.bool (q j))
  fr : ∀ o, w.frozen? ⟨b, o, none⟩ = false
  lb : b < W0.heap.size
  c0 : w.cell? ⟨z, 0, none⟩ = some v0
  c1 : w.cell? ⟨z, 1, none⟩ = some v1
  kx : Kx (fun x => x = b) W0 w
  ne : z ≠ b
  zl : z < W0.heap.size
section
variable {W0 w w' : World} {b z m : Nat} {v0 v1 : Value} {q : Nat → Bool}
theorem LfW.congr {p : Nat → Bool} (h : LfW W0 w b z m v0 v1 q) (e : ∀ j, j < m → q j = p j) : LfW W0 w b z m v0 v1 p :=
  ⟨fun j hj => by rw [← e j hj]; exact h.at_ j hj, h.fr, h.lb, h.c0, h.c1, h.kx, h.ne, h.zl⟩
theorem LfW.below (h : LfW W0 w b z m v0 v1 q) (hb : Below w.heap.size w w') : LfW W0 w' b z m v0 v1 q := by
  have hl : b < w.heap.size := Nat.lt_of_lt_of_le h.lb h.kx.size
  exact ⟨fun j hj => (hb.cell (p := ⟨b, j, none⟩) hl).trans (h.at_ j hj), fun o => (hb.frozen (p := ⟨b, o, none⟩) hl).trans (h.fr o), h.lb, (hb.cell (p := ⟨z, 0, none⟩) (cellLt h.c0)).trans h.c0, (hb.cell (p := ⟨z, 1, none⟩) (cellLt h.c1)).trans h.c1, h.kx.trans (Kx.of_below hb), h.ne, h.zl⟩
theorem LfW.grown {row : Option Nat} (h : LfW W0 w b z m v0 v1 q) (hg : w.grownBy w' row) (hr : ∀ g, row = some g → W0.heap.size ≤ g) : LfW W0 w' b z m v0 v1 q := by
  have hl : b < w.heap.size := Nat.lt_of_lt_of_le h.lb h.kx.size
  have hb := hg.block b hl (fun e => by have := hr b e.symm; have := h.lb; omega)
  have hzb := hg.block z (Nat.lt_of_lt_of_le h.zl h.kx.size) (fun e => by have := hr z e.symm; have := h.zl; omega)
  refine ⟨fun j hj => (show w'.cell? ⟨b, j, none⟩ = w.cell? ⟨b, j, none⟩ from World.cell?_of_block hb).trans (h.at_ j hj), fun o => (show w'.frozen? ⟨b, o, none⟩ = w.frozen? ⟨b, o, none⟩ from World.frozen?_of_block hb).trans (h.fr o), h.lb, (show w'.cell? ⟨z, 0, none⟩ = w.cell? ⟨z, 0, none⟩ from World.cell?_of_block hzb).trans h.c0, (show w'.cell? ⟨z, 1, none⟩ = w.cell? ⟨z, 1, none⟩ from World.cell?_of_block hzb).trans h.c1, ?_, h.ne, h.zl⟩
  exact ⟨hg.os.trans h.kx.os, hg.tape.trans h.kx.tape, hg.output.trans h.kx.output, Nat.le_trans h.kx.size hg.size, fun x hx hn => (hg.block x (Nat.lt_of_lt_of_le hx h.kx.size) fun e => by have := hr x e.symm; omega).trans (h.kx.block x hx hn)⟩
theorem LfW.put (h : LfW W0 w b z m v0 v1 q) {i : Nat} (hi : i < m) (v : Bool) : LfW W0 (w.setCell ⟨b, i, none⟩ (.bool v)) b z m v0 v1 (fun j => if j = i then v else q j) := by
  refine ⟨fun j hj => ?_, fun o => by rw [World.frozen?_setCell]; exact h.fr o, h.lb, ?_, ?_, h.kx.trans (Kx.of_grown (r := b) (grown_set w _ _ _) (.inl rfl)), h.ne, h.zl⟩
  · by_cases e : j = i
    · subst e; rw [World.cell?_setCell_same _ _ _ (h.at_ j hj), if_pos rfl]
    · rw [World.cell?_setCell_other _ _ _ _ (fun y => by injection y with _ y; exact e y.symm), if_neg e]; exact h.at_ j hj
  · rw [World.cell?_setCell_other _ _ _ _ (fun y => by injection y with y; exact h.ne y.symm)]; exact h.c0
  · rw [World.cell?_setCell_other _ _ _ _ (fun y => by injection y with y; exact h.ne y.symm)]; exact h.c1
theorem LfW.bel (h : LfW W0 w b z m v0 v1 q) {w0 : World} (hb : Below w0.heap.size w0 W0) (hl : w0.heap.size ≤ b) : Below w0.heap.size w0 w := hb.trans (h.kx.below hb.size (fun x e => by rw [e]; exact hl))
end
def rdL (l : List Fd) (E : List Ed) : List Int := toI (lst (fun j => !lfB (gpL l E) E.length E.length j) E.length)
def clL (l : List Fd) (E : List Ed) : List Int := toI (lst (lfB (gpL l E) E.length E.length) E.length)
def RedP (l : List Fd) (E : List Ed) (w : World) (e : Ending) (w' : World) : Prop :=
  Below w.heap.size w w' ∧ ((planS l E ≠ 0 ∧ e = .returned (.tuple #[.slice none 0 0, .int .i64 (planS l E)])) ∨ (planS l E = 0 ∧ ∃ a c, e = .returned (.tuple #[.slice a (rdL l E).length c, .int .i64 0]) ∧ Rd w' a (rdL l E)))
def ClaP (l : List Fd) (E : List Ed) (w : World) (e : Ending) (w' : World) : Prop :=
  Below w.heap.size w w' ∧ ((planS l E ≠ 0 ∧ e = .returned (.tuple #[.slice none 0 0, .bool false, .int .i64 (planS l E)])) ∨ (planS l E = 0 ∧ ((0 ∈ gpL l E ∧ e = .returned (.tuple #[.slice none 0 0, .bool false, .int .i64 0])) ∨ (0 ∉ gpL l E ∧ ∃ a c, e = .returned (.tuple #[.slice a (clL l E).length c, .bool true, .int .i64 0]) ∧ Rd w' a (clL l E)))))
set_option maxRecDepth 100000 in
set_option maxHeartbeats 8000000 in
theorem rRedundant_c (a : Option Addr) (c : Nat) (l : List Fd) (a2 : Option Addr) (c2 : Nat) (E : List Ed) (w : World) (hl : RdF w a l) (hE : RdE w a2 E) (hEnv : Env w) (hc1 : l.length ≤ c) (hc2 : E.length ≤ c2) :
    Calls Tryd.prog 19 #[.agg #[.slice a l.length c, .slice a2 E.length c2]] w (RedP l E w) := by
  obtain ⟨W1, hW1⟩ : ∃ W, w.alloc (.cells #[.slice a l.length c, .slice a2 E.length c2] 25) = W := ⟨_, rfl⟩
  obtain ⟨z, hz⟩ : ∃ z, w.heap.size = z := ⟨_, rfl⟩
  have b1 : Below w.heap.size w W1 := by rw [← hW1]; exact bel_one _ _
  have B1 := Lib.hid b1
  have x0 : W1.cell? ⟨z, 0, none⟩ = some (.slice a l.length c) := by rw [← hW1, ← hz, World.cell?_alloc_new]; rfl
  have x1 : W1.cell? ⟨z, 1, none⟩ = some (.slice a2 E.length c2) := by rw [← hW1, ← hz, World.cell?_alloc_new]; rfl
  have C1 : Hid (Calls Tryd.prog 29 #[.agg #[.slice a l.length c, .slice a2 E.length c2]] W1 (IntP (planS l E) W1)) := rCheckPlan_c a c l a2 c2 E W1 (hl.below b1) (hE.below b1) (hEnv.below b1) hc1 hc2
  have C2 : Hid (∀ (i : Nat) (lb lc : Nat) (q : Nat → Bool) V, Ok l E → i < E.length → Below w.heap.size w V → (∀ j, j < E.length → V.cell? ⟨lb, j, none⟩ = some (.bool (q j))) → Calls Tryd.prog 47 #[.agg #[.slice a l.length c, .slice a2 E.length c2], .int .i64 i, .slice (some ⟨lb, 0, none⟩) E.length lc] V fun e w' => e = .returned (.bool (rnB l E i q)) ∧ Below V.heap.size V w') := fun i lb lc q V hok hi hV hq => rneeded_c a c l a2 c2 E i lb lc q V (hl.below hV) (hE.below hV) hok hi hq
  obtain ⟨f, hf⟩ : ∃ f, planS l E = f := ⟨_, rfl⟩
  have HF := Lib.hid hf
  unfold IntP at C1
  rw [hf] at C1
  obtain ⟨n, hn⟩ : ∃ n, l.length = n := ⟨_, rfl⟩
  obtain ⟨m, hm⟩ : ∃ n, E.length = n := ⟨_, rfl⟩
  have HN := Lib.hid hn
  have HM := Lib.hid hm
  have HX : Hid (z < W1.heap.size ∧ W1.cell? ⟨z, 0, none⟩ = some (.slice a n c) ∧ W1.cell? ⟨z, 1, none⟩ = some (.slice a2 m c2)) := by
    rw [hn] at x0
    rw [hm] at x1
    exact ⟨cellLt x0, x0, x1⟩
  have HZW : Hid (w.heap.size = z) := hz
  rw [hn] at C1 C2 x0 hW1 ⊢
  rw [hm] at C1 C2 x1 hW1 ⊢
  clear hl hE hEnv hc1 hc2 b1 hn hm hf
  go_enter Tryd.func19, Tryd.ntmps19
  go_wp2_with fail
  clear hW1
  refine C1.out.mono ?_
  rintro e1 w2 ⟨rfl, b2⟩
  have B2 := Lib.hid b2
  have y0 := (b2.cell (p := ⟨z, 0, none⟩) (cellLt x0)).trans x0
  have y1 := (b2.cell (p := ⟨z, 1, none⟩) (cellLt x1)).trans x1
  clear b2 C1 x0 x1
  by_cases h0 : f = 0
  · subst h0
    have hok := plan_ok HF.out
    have HOK := Lib.hid hok
    have m60 : m ≤ 60 := by rw [← HM.out]; exact hok.m60
    have hm0 := run_make_row' (P := Tryd.prog) 84 4 (.bool false) 1 Tryd.underlying84 infoBo rfl .i64 .i64 m (by omega) (by omega)
    obtain ⟨Z, hZ, hZ2⟩ := zerosB_ex m
    rw [hZ] at hm0
    obtain ⟨W3, hW3⟩ : ∃ V, w2.alloc (.cells Z 4) = V := ⟨_, rfl⟩
    obtain ⟨lb, hlb⟩ : ∃ q, w2.heap.size = q := ⟨_, rfl⟩
    have b3 : Below w2.heap.size w2 W3 := by rw [← hW3]; exact bel_one _ _
    have y2 := (b3.cell (p := ⟨z, 0, none⟩) (cellLt y0)).trans y0
    have y3 := (b3.cell (p := ⟨z, 1, none⟩) (cellLt y1)).trans y1
    have S0 : Hid (LfW W3 W3 lb z m (.slice a n c) (.slice a2 m c2) (fun j => decide (j < 0))) := by
      refine ⟨fun q hq => ?_, fun o => ?_, ?_, y2, y3, Kx.refl _ _, ?_, ?_⟩
      · rw [← hW3, ← hlb, World.cell?_alloc_new]; exact hZ2 q hq
      · rw [← hW3, ← hlb]; simp
      · rw [← hW3, ← hlb]; simp
      · have := B2.out.size
        have := HX.out.1
        omega
      · have := B2.out.size
        have := HX.out.1
        have := b3.size
        omega
    have BW3 : Hid (Below w.heap.size w W3 ∧ w.heap.size ≤ lb) := by
      have h1 := B1.out.size
      have h2 := B2.out.size
      exact ⟨B1.out.trans ((B2.out.trans (b3.mono B2.out.size)).mono B1.out.size), by omega⟩
    have hmi : Hid (m = m) := rfl
    clear hok hZ hZ2 b3 y2 y3
    go_wp2_with fail
    clear hm0 hW3 y0 y1
    go_loopw [6, 20] (fun _ iv wr => ∃ (s : Nat), iv = .int .i64 s ∧ Hid (s ≤ m ∧ LfW W3 wr lb z m (.slice a n c) (.slice a2 m c2) (fun j => decide (j < s)))) (fun _ iv _ => m - (intOf iv).toNat)
    case atStart => exact ⟨0, rfl, Nat.zero_le _, S0.out⟩
    case round =>
      clear S0
      obtain ⟨s, rfl, hS⟩ := hrel
      obtain ⟨hs, hlf⟩ := hS.out
      by_cases hlt : s < m
      · have hlt' : (s : Int) < (m : Int) := by omega
        have hs0 : (0 : Int) ≤ (s : Int) := by omega
        have k0 := hlf.at_ s hlt
        have k1 := hlf.fr s
        obtain ⟨W4, hW4⟩ : ∃ V, wr.setCell ⟨lb, s, none⟩ (.bool true) = V := ⟨_, rfl⟩
        have NX : Hid (s + 1 ≤ m ∧ LfW W3 W4 lb z m (.slice a n c) (.slice a2 m c2) (fun j => decide (j < s + 1))) := by
          refine ⟨hlt, ?_⟩
          rw [← hW4]
          refine (hlf.put hlt true).congr fun j hj => ?_
          by_cases e : j = s
          · subst e; simp
          · rw [if_neg e, Bool.eq_iff_iff]; simp; omega
        clear hS hs hlf
        go_wp2_with fail
        try rw [hW4]
        clear k0 k1 hW4
        go_roundw
        case rel => exact ⟨s + 1, by go_num, NX.out⟩
        case measure => simp [intOf]; omega
      · have hlt' : ¬ (s : Int) < (m : Int) := by omega
        have L0 : Hid (LfW W3 wr lb z m (.slice a n c) (.slice a2 m c2) (fun _ => true)) := hlf.congr fun j hj => by simp; omega
        obtain ⟨wb, hwb⟩ : ∃ V : World, V = wr := ⟨_, rfl⟩
        subst hwb
        have k0 := L0.out.c0
        have k1 := L0.out.c1
        obtain ⟨i1, hj, hy0, hy1, hy2⟩ := info_parts infoIn
        clear hS hs hlf hlt
        go_wp2_with fail
        go_loopw [7, 8, 30] (fun ov _ iv wr => ∃ (i : Nat), iv = .int .i64 i ∧ Hid (i ≤ m ∧ LfW W3 wr lb z m (.slice a n c) (.slice a2 m c2) (lfB (gpL l E) m i) ∧ wr.ownsRow W3.heap.size 3 1 ov (toI (lst (fun j => !lfB (gpL l E) m i j) i)).length ((toI (lst (fun j => !lfB (gpL l E) m i j) i)).map (Value.int .i64)))) (fun _ _ iv _ => m - (intOf iv).toNat)
        case atStart => exact ⟨0, rfl, Nat.zero_le _, L0.out, World.ownsRow_nil _ _ _ _⟩
        case round =>
          clear L0
          obtain ⟨i, rfl, hS⟩ := hrel
          obtain ⟨hi, hlf, hown⟩ := hS.out
          have HLF := Lib.hid hlf
          have HOW := Lib.hid hown
          by_cases hlt : i < m
          · have hlt' : (i : Int) < (m : Int) := by omega
            have hi0 : (0 : Int) ≤ (i : Int) := by omega
            have C3 := Lib.hid (C2.out i lb m (lfB (gpL l E) m i) wr HOK.out hlt (hlf.bel BW3.out.1 BW3.out.2) hlf.at_)
            rw [rn_nd HOK.out (by rw [HM.out]; exact hlt) (lf_top _ _ (Nat.le_refl _)), HM.out] at C3
            obtain ⟨nb, hnb⟩ : ∃ b, ndB (gpL l E) (bz (lfB (gpL l E) m i) m) i = b := ⟨_, rfl⟩
            have HNB : Hid (ndB (gpL l E) (lfM (gpL l E) m i) i = nb) := hnb
            rw [hnb] at C3
            have k0 := hlf.c0
            have k1 := hlf.c1
            have HLEN : Hid ((toI (lst (fun j => !lfB (gpL l E) m i j) i)).length ≤ 60) := by unfold Hid; rw [toI_len]; exact Nat.le_trans (lst_le _ _) (by omega)
            have HST : Hid (lst (fun j => !lfB (gpL l E) m (i + 1) j) (i + 1) = lst (fun j => !lfB (gpL l E) m i j) i ++ (if nb = true then [] else [i])) := by
              unfold Hid
              rw [lst_succ', lf_self, HNB.out]
              congr 1
              · unfold lst
                refine List.filter_congr fun j hj => ?_
                have hji : j ≠ i := by have := List.mem_range.1 hj; omega
                show (!lfB (gpL l E) m (i + 1) j) = !lfB (gpL l E) m i j
                rw [lf_at _ _ hji]
              · cases nb <;> rfl
            clear hS hi hlf hown hnb
            go_wp2_with fail
            refine C3.out.mono ?_
            rintro e1 w5 ⟨rfl, b5⟩
            have L5 := Lib.hid (HLF.out.below b5)
            have O5 := Lib.hid (keep_own HOW.out b5)
            have SZ5 : Hid (W3.heap.size ≤ w5.heap.size) := Nat.le_trans HLF.out.kx.size b5.size
            clear b5 C3 k0 k1
            cases nb with
            | true =>
              have NX : Hid (i + 1 ≤ m ∧ LfW W3 w5 lb z m (.slice a n c) (.slice a2 m c2) (lfB (gpL l E) m (i + 1)) ∧ w5.ownsRow W3.heap.size 3 1 u7 (toI (lst (fun j => !lfB (gpL l E) m (i + 1) j) (i + 1))).length ((toI (lst (fun j => !lfB (gpL l E) m (i + 1) j) (i + 1))).map (Value.int .i64))) := by
                refine ⟨hlt, L5.out.congr fun j hj => ?_, ?_⟩
                · by_cases e : j = i
                  · subst e; rw [lf_self, HNB.out]; exact lf_top _ _ (Nat.le_refl _)
                  · rw [lf_at _ _ e]
                · rw [HST.out, if_pos rfl, List.append_nil]; exact O5.out
              clear HST
              go_wp2_with fail
              go_roundw
              case rel => exact ⟨i + 1, by go_num, NX.out⟩
              case measure => simp [intOf]; omega
            | false =>
              have q0 := L5.out.at_ i hlt
              have q1 := L5.out.fr i
              obtain ⟨W6, hW6⟩ : ∃ V, w5.setCell ⟨lb, i, none⟩ (.bool false) = V := ⟨_, rfl⟩
              have L6 : Hid (LfW W3 W6 lb z m (.slice a n c) (.slice a2 m c2) (lfB (gpL l E) m (i + 1))) := by
                unfold Hid
                rw [← hW6]
                refine (L5.out.put hlt false).congr fun j hj => ?_
                by_cases e : j = i
                · subst e; rw [lf_self, HNB.out]; simp
                · rw [lf_at _ _ e, if_neg e]
              have O6 : Hid (W6.ownsRow W3.heap.size 3 1 u7 (toI (lst (fun j => !lfB (gpL l E) m i j) i)).length ((toI (lst (fun j => !lfB (gpL l E) m i j) i)).map (Value.int .i64))) := by
                unfold Hid
                rw [← hW6]
                exact own_same O5.out fun b hb => set_block w5 lb i _ (by have := (O5.out.lt b hb).1; have := L5.out.lb; omega)
              have SZ6 : Hid (W3.heap.size ≤ W6.heap.size) := by unfold Hid; rw [← hW6]; simpa using SZ5.out
              have h5 := small5 (x := (toI (lst (fun j => !lfB (gpL l E) m i j) i)).length) (by have := HLEN.out; omega)
              go_wp2_with (at_builtin; refine wpList_append_own _ rfl _ _ 26 rfl W3.heap.size 3 i1 (.int .i64 0) 1 8 Tryd.underlying26 hj hy0 hy1 hy2 rfl (by decide) _ _ _ rfl (O6.out.alloc _) ⟨W6.heap.size, 0, none⟩ 1 1 [.int .i64 i] rfl rfl (cell_one_new _ _ _) (by simp [Value.oneCell']) ?c3 ?c4 ?c5 ?_)
              try (case c3 => exact h5.1)
              try (case c4 => exact h5.2)
              case c5 => have := SZ6.out; simp; omega
              intro v7 w7 hown7 hgrow7 _
              have L7 : LfW W3 w7 lb z m (.slice a n c) (.slice a2 m c2) (lfB (gpL l E) m (i + 1)) := (L6.out.below (bel_one W6 _)).grown hgrow7 (fun g hg => (O6.out.lt g hg).1)
              have NX : Hid (i + 1 ≤ m ∧ LfW W3 w7 lb z m (.slice a n c) (.slice a2 m c2) (lfB (gpL l E) m (i + 1)) ∧ w7.ownsRow W3.heap.size 3 1 v7 (toI (lst (fun j => !lfB (gpL l E) m (i + 1) j) (i + 1))).length ((toI (lst (fun j => !lfB (gpL l E) m (i + 1) j) (i + 1))).map (Value.int .i64))) := by
                refine ⟨hlt, L7, ?_⟩
                rw [HST.out, if_neg (by simp)]
                have e : ∀ L : List Nat, toI (L ++ [i]) = toI L ++ [(i : Int)] := fun L => by unfold toI; rw [List.map_append]; rfl
                rw [e, List.length_append, List.map_append]; exact hown7
              clear hown7 hgrow7 L7 q0 q1 HST
              go_wp2
              go_roundw
              case rel => exact ⟨i + 1, by go_num, NX.out⟩
              case measure => simp [intOf]; omega
          · have hlt' : ¬ (i : Int) < (m : Int) := by omega
            have e : i = m := by omega
            subst e
            obtain ⟨oa, oc, rfl, hrd⟩ := rdI_own hown (by rw [toI_len]; have := lst_le (fun j => !lfB (gpL l E) i i j) i; omega)
            have PP : Hid (RedP l E w (.returned (.tuple #[.slice oa (toI (lst (fun j => !lfB (gpL l E) i i j) i)).length oc, .int .i64 0])) wr) := by
              refine ⟨hlf.bel BW3.out.1 BW3.out.2, .inr ⟨HF.out, oa, oc, ?_, ?_⟩⟩
              · unfold rdL; rw [HM.out]
              · unfold rdL; rw [HM.out]; exact hrd
            clear hS hi hlf hown hrd hlt
            go_wp2_with fail
            go_ret2
            exact PP.out
  · have g1 : (f != 0) = true := by simpa using h0
    have PP : Hid (RedP l E w (.returned (.tuple #[.slice none 0 0, .int .i64 f])) w2) := by
      refine ⟨B1.out.trans (B2.out.mono B1.out.size), .inl ⟨?_, ?_⟩⟩
      · rw [HF.out]; exact h0
      · rw [HF.out]
    clear h0 C2 y0 y1
    go_wp2_with fail
    go_ret2
    exact PP.out
end Go.Proofs.YtadfmplafehjlaaDoor
namespace Go.Proofs.YtadfmplafehjlaaDoor
open Go.RowKit Go.WideMaps Go.Maps Go.Shelf

set_option maxRecDepth 100000 in
set_option maxHeartbeats 8000000 in
theorem rClash_c (a : Option Addr) (c : Nat) (l : List Fd) (a2 : Option Addr) (c2 : Nat) (E : List Ed) (w : World) (hl : RdF w a l) (hE : RdE w a2 E) (hEnv : Env w) (hc1 : l.length ≤ c) (hc2 : E.length ≤ c2) :
    Calls Tryd.prog 21 #[.agg #[.slice a l.length c, .slice a2 E.length c2]] w (ClaP l E w) := by
  obtain ⟨W1, hW1⟩ : ∃ W, w.alloc (.cells #[.slice a l.length c, .slice a2 E.length c2] 25) = W := ⟨_, rfl⟩
  obtain ⟨z, hz⟩ : ∃ z, w.heap.size = z := ⟨_, rfl⟩
  have b1 : Below w.heap.size w W1 := by rw [← hW1]; exact bel_one _ _
  have B1 := Lib.hid b1
  have x0 : W1.cell? ⟨z, 0, none⟩ = some (.slice a l.length c) := by rw [← hW1, ← hz, World.cell?_alloc_new]; rfl
  have x1 : W1.cell? ⟨z, 1, none⟩ = some (.slice a2 E.length c2) := by rw [← hW1, ← hz, World.cell?_alloc_new]; rfl
  have C1 : Hid (Calls Tryd.prog 29 #[.agg #[.slice a l.length c, .slice a2 E.length c2]] W1 (IntP (planS l E) W1)) := rCheckPlan_c a c l a2 c2 E W1 (hl.below b1) (hE.below b1) (hEnv.below b1) hc1 hc2
  have C2 : Hid (∀ (i : Nat) (lb lc : Nat) (q : Nat → Bool) V, Ok l E → Below w.heap.size w V → (∀ j, j < E.length → V.cell? ⟨lb, j, none⟩ = some (.bool (q j))) → Calls Tryd.prog 48 #[.agg #[.slice a l.length c, .slice a2 E.length c2], .slice (some ⟨lb, 0, none⟩) E.length lc] V fun e w' => e = .returned (.bool (rpB l E q)) ∧ Below V.heap.size V w') := fun _ lb lc q V hok hV hq => rpossible_c a c l a2 c2 E lb lc q V (hl.below hV) (hE.below hV) hok hq
  obtain ⟨f, hf⟩ : ∃ f, planS l E = f := ⟨_, rfl⟩
  have HF := Lib.hid hf
  unfold IntP at C1
  rw [hf] at C1
  obtain ⟨n, hn⟩ : ∃ n, l.length = n := ⟨_, rfl⟩
  obtain ⟨m, hm⟩ : ∃ n, E.length = n := ⟨_, rfl⟩
  have HN := Lib.hid hn
  have HM := Lib.hid hm
  have HX : Hid (z < W1.heap.size ∧ W1.cell? ⟨z, 0, none⟩ = some (.slice a n c) ∧ W1.cell? ⟨z, 1, none⟩ = some (.slice a2 m c2)) := by
    rw [hn] at x0
    rw [hm] at x1
    exact ⟨cellLt x0, x0, x1⟩
  have HZW : Hid (w.heap.size = z) := hz
  rw [hn] at C1 C2 x0 hW1 ⊢
  rw [hm] at C1 C2 x1 hW1 ⊢
  clear hl hE hEnv hc1 hc2 b1 hn hm hf
  go_enter Tryd.func21, Tryd.ntmps21
  go_wp2_with fail
  clear hW1
  refine C1.out.mono ?_
  rintro e1 w2 ⟨rfl, b2⟩
  have B2 := Lib.hid b2
  have y0 := (b2.cell (p := ⟨z, 0, none⟩) (cellLt x0)).trans x0
  have y1 := (b2.cell (p := ⟨z, 1, none⟩) (cellLt x1)).trans x1
  clear b2 C1 x0 x1
  by_cases h0 : f = 0
  · subst h0
    have hok := plan_ok HF.out
    have HOK := Lib.hid hok
    have m60 : m ≤ 60 := by rw [← HM.out]; exact hok.m60
    have hm0 := run_make_row' (P := Tryd.prog) 84 4 (.bool false) 1 Tryd.underlying84 infoBo rfl .i64 .i64 m (by omega) (by omega)
    obtain ⟨Z, hZ, hZ2⟩ := zerosB_ex m
    rw [hZ] at hm0
    obtain ⟨W3, hW3⟩ : ∃ V, w2.alloc (.cells Z 4) = V := ⟨_, rfl⟩
    obtain ⟨lb, hlb⟩ : ∃ q, w2.heap.size = q := ⟨_, rfl⟩
    have b3 : Below w2.heap.size w2 W3 := by rw [← hW3]; exact bel_one _ _
    have y2 := (b3.cell (p := ⟨z, 0, none⟩) (cellLt y0)).trans y0
    have y3 := (b3.cell (p := ⟨z, 1, none⟩) (cellLt y1)).trans y1
    have S0 : Hid (LfW W3 W3 lb z m (.slice a n c) (.slice a2 m c2) (fun j => decide (j < 0))) := by
      refine ⟨fun q hq => ?_, fun o => ?_, ?_, y2, y3, Kx.refl _ _, ?_, ?_⟩
      · rw [← hW3, ← hlb, World.cell?_alloc_new]; exact hZ2 q hq
      · rw [← hW3, ← hlb]; simp
      · rw [← hW3, ← hlb]; simp
      · have := B2.out.size
        have := HX.out.1
        omega
      · have := B2.out.size
        have := HX.out.1
        have := b3.size
        omega
    have BW3 : Hid (Below w.heap.size w W3 ∧ w.heap.size ≤ lb) := by
      have h1 := B1.out.size
      have h2 := B2.out.size
      exact ⟨B1.out.trans ((B2.out.trans (b3.mono B2.out.size)).mono B1.out.size), by omega⟩
    have hmi : Hid (m = m) := rfl
    clear hok hZ hZ2 b3 y2 y3
    go_wp2_with fail
    clear hm0 hW3 y0 y1
    go_loopw [7, 21] (fun _ iv wr => ∃ (s : Nat), iv = .int .i64 s ∧ Hid (s ≤ m ∧ LfW W3 wr lb z m (.slice a n c) (.slice a2 m c2) (fun j => decide (j < s)))) (fun _ iv _ => m - (intOf iv).toNat)
    case atStart => exact ⟨0, rfl, Nat.zero_le _, S0.out⟩
    case round =>
      clear S0
      obtain ⟨s, rfl, hS⟩ := hrel
      obtain ⟨hs, hlf⟩ := hS.out
      by_cases hlt : s < m
      · have hlt' : (s : Int) < (m : Int) := by omega
        have hs0 : (0 : Int) ≤ (s : Int) := by omega
        have k0 := hlf.at_ s hlt
        have k1 := hlf.fr s
        obtain ⟨W4, hW4⟩ : ∃ V, wr.setCell ⟨lb, s, none⟩ (.bool true) = V := ⟨_, rfl⟩
        have NX : Hid (s + 1 ≤ m ∧ LfW W3 W4 lb z m (.slice a n c) (.slice a2 m c2) (fun j => decide (j < s + 1))) := by
          refine ⟨hlt, ?_⟩
          rw [← hW4]
          refine (hlf.put hlt true).congr fun j hj => ?_
          by_cases e : j = s
          · subst e; simp
          · rw [if_neg e, Bool.eq_iff_iff]; simp; omega
        clear hS hs hlf
        go_wp2_with fail
        try rw [hW4]
        clear k0 k1 hW4
        go_roundw
        case rel => exact ⟨s + 1, by go_num, NX.out⟩
        case measure => simp [intOf]; omega
      · have hlt' : ¬ (s : Int) < (m : Int) := by omega
        have L0 : Hid (LfW W3 wr lb z m (.slice a n c) (.slice a2 m c2) (fun _ => true)) := hlf.congr fun j hj => by simp; omega
        obtain ⟨wb, hwb⟩ : ∃ V : World, V = wr := ⟨_, rfl⟩
        subst hwb
        have k0 := L0.out.c0
        have k1 := L0.out.c1
        obtain ⟨i1, hj, hy0, hy1, hy2⟩ := info_parts infoIn
        clear hS hs hlf hlt
        have C3 := Lib.hid (C2.out 0 lb m (fun _ => true) wb HOK.out (L0.out.bel BW3.out.1 BW3.out.2) L0.out.at_)
        obtain ⟨pb, hpb⟩ : ∃ b, rpB l E (fun _ => true) = b := ⟨_, rfl⟩
        rw [hpb] at C3
        have HPB := Lib.hid hpb
        have HG0 : Hid (pb = decide (0 ∈ gpL l E)) := by
          unfold Hid
          rw [← hpb, Bool.eq_iff_iff, rp_iff HOK.out, decide_eq_true_iff]
          have e : ∀ F, F ∈ gpL l E → F &&& bz (fun _ => true) E.length = F := fun F hF => by
            rw [bz_all]
            have := gp_lt HOK.out hF
            rw [Nat.and_two_pow_sub_one_eq_mod, Nat.mod_eq_of_lt this]
          constructor
          · rintro ⟨F, hF, h⟩
            rw [e F hF] at h
            rw [← h]; exact hF
          · intro h
            exact ⟨0, h, by rw [Nat.zero_and]⟩
        clear hpb
        go_wp2_with fail
        refine C3.out.mono ?_
        rintro e1 w5 ⟨rfl, b5⟩
        have L5 := Lib.hid (L0.out.below b5)
        clear b5 C3 k0 k1 L0
        cases pb with
        | true =>
          have PP : Hid (ClaP l E w (.returned (.tuple #[.slice none 0 0, .bool false, .int .i64 0])) w5) :=
            ⟨L5.out.bel BW3.out.1 BW3.out.2, .inr ⟨HF.out, .inl ⟨of_decide_eq_true HG0.out.symm, rfl⟩⟩⟩
          clear HG0
          go_wp2_with fail
          go_ret3
          exact PP.out
        | false =>
          go_wp2_with fail
          go_loopw [8, 9, 33] (fun ov _ iv wr => ∃ (i : Nat), iv = .int .i64 i ∧ Hid (i ≤ m ∧ LfW W3 wr lb z m (.slice a n c) (.slice a2 m c2) (lfB (gpL l E) m i) ∧ rpB l E (lfB (gpL l E) m i) = false ∧ wr.ownsRow W3.heap.size 3 1 ov (toI (lst (lfB (gpL l E) m i) i)).length ((toI (lst (lfB (gpL l E) m i) i)).map (Value.int .i64)))) (fun _ _ iv _ => m - (intOf iv).toNat)
          case atStart => exact ⟨0, rfl, Nat.zero_le _, L5.out, HPB.out, World.ownsRow_nil _ _ _ _⟩
          case round =>
            clear L5
            obtain ⟨i, rfl, hS⟩ := hrel
            obtain ⟨hi, hlf, hrp, hown⟩ := hS.out
            have HLF := Lib.hid hlf
            have HOW := Lib.hid hown
            have HRP := Lib.hid hrp
            by_cases hlt : i < m
            · have hlt' : (i : Int) < (m : Int) := by omega
              have hi0 : (0 : Int) ≤ (i : Int) := by omega
              have q0 := hlf.at_ i hlt
              have q1 := hlf.fr i
              obtain ⟨W6, hW6⟩ : ∃ V, wr.setCell ⟨lb, i, none⟩ (.bool false) = V := ⟨_, rfl⟩
              have L6 : Hid (LfW W3 W6 lb z m (.slice a n c) (.slice a2 m c2) (fun j => lfB (gpL l E) m i j && !decide (j = i))) := by
                unfold Hid
                rw [← hW6]
                refine (hlf.put hlt false).congr fun j hj => ?_
                by_cases e : j = i
                · subst e; simp
                · simp [e]
              have O6 : Hid (W6.ownsRow W3.heap.size 3 1 u8 (toI (lst (lfB (gpL l E) m i) i)).length ((toI (lst (lfB (gpL l E) m i) i)).map (Value.int .i64))) := by
                unfold Hid
                rw [← hW6]
                exact own_same hown fun b hb => set_block wr lb i _ (by have := (hown.lt b hb).1; have := hlf.lb; omega)
              have C4 := Lib.hid (C2.out i lb m (fun j => lfB (gpL l E) m i j && !decide (j = i)) W6 HOK.out (L6.out.bel BW3.out.1 BW3.out.2) L6.out.at_)
              obtain ⟨nb, hnb⟩ : ∃ b, rpB l E (fun j => lfB (gpL l E) m i j && !decide (j = i)) = b := ⟨_, rfl⟩
              have HRN := Lib.hid hnb
              rw [hnb] at C4
              have HNB : Hid (ndB (gpL l E) (lfM (gpL l E) m i) i = nb) := by
                unfold Hid
                rw [← hnb, rp_nd HOK.out (by rw [HM.out]; exact hlt) (lf_top _ _ (Nat.le_refl _)) hrp, HM.out]; rfl
              have k0 := L6.out.c0
              have k1 := L6.out.c1
              have HLEN : Hid ((toI (lst (lfB (gpL l E) m i) i)).length ≤ 60) := by unfold Hid; rw [toI_len]; exact Nat.le_trans (lst_le _ _) (by omega)
              have HST : Hid (lst (lfB (gpL l E) m (i + 1)) (i + 1) = lst (lfB (gpL l E) m i) i ++ (if nb = true then [i] else [])) := by
                unfold Hid
                rw [lst_succ', lf_self, HNB.out]
                congr 1
                unfold lst
                refine List.filter_congr fun j hj => ?_
                have hji : j ≠ i := by have := List.mem_range.1 hj; omega
                show lfB (gpL l E) m (i + 1) j = lfB (gpL l E) m i j
                exact lf_at _ _ hji
              clear hS hi hlf hown hnb hrp
              go_wp2_with fail
              clear q0 q1
              refine C4.out.mono ?_
              rintro e1 w7 ⟨rfl, b7⟩
              have L7 := Lib.hid (L6.out.below b7)
              have O7 := Lib.hid (keep_own O6.out b7)
              clear b7 C4 k0 k1
              cases nb with
              | false =>
                have e : lfB (gpL l E) m (i + 1) = fun j => lfB (gpL l E) m i j && !decide (j = i) := by
                  funext j
                  by_cases e : j = i
                  · subst e; rw [lf_self, HNB.out]; simp
                  · rw [lf_at _ _ e]; simp [e]
                have NX : Hid (i + 1 ≤ m ∧ LfW W3 w7 lb z m (.slice a n c) (.slice a2 m c2) (lfB (gpL l E) m (i + 1)) ∧ rpB l E (lfB (gpL l E) m (i + 1)) = false ∧ w7.ownsRow W3.heap.size 3 1 u8 (toI (lst (lfB (gpL l E) m (i + 1)) (i + 1))).length ((toI (lst (lfB (gpL l E) m (i + 1)) (i + 1))).map (Value.int .i64))) := by
                  refine ⟨hlt, ?_, ?_, ?_⟩
                  · rw [e]; exact L7.out
                  · rw [e]; exact HRN.out
                  · rw [HST.out, if_neg (by simp), List.append_nil]; exact O7.out
                clear HST e
                go_wp2_with fail
                go_roundw
                case rel => exact ⟨i + 1, by go_num, NX.out⟩
                case measure => simp [intOf]; omega
              | true =>
                have q0 := L7.out.at_ i hlt
                have q1 := L7.out.fr i
                obtain ⟨W8, hW8⟩ : ∃ V, w7.setCell ⟨lb, i, none⟩ (.bool true) = V := ⟨_, rfl⟩
                have e : lfB (gpL l E) m (i + 1) = lfB (gpL l E) m i := by
                  funext j
                  by_cases e : j = i
                  · subst e; rw [lf_self, HNB.out]; exact (lf_top _ _ (Nat.le_refl _)).symm
                  · rw [lf_at _ _ e]
                have L8 : Hid (LfW W3 W8 lb z m (.slice a n c) (.slice a2 m c2) (lfB (gpL l E) m (i + 1))) := by
                  unfold Hid
                  rw [← hW8]
                  refine (L7.out.put hlt true).congr fun j hj => ?_
                  rw [e]
                  by_cases e : j = i
                  · subst e; rw [lf_top _ _ (Nat.le_refl _)]; simp
                  · simp [e]
                have O8 : Hid (W8.ownsRow W3.heap.size 3 1 u8 (toI (lst (lfB (gpL l E) m i) i)).length ((toI (lst (lfB (gpL l E) m i) i)).map (Value.int .i64))) := by
                  unfold Hid
                  rw [← hW8]
                  exact own_same O7.out fun b hb => set_block w7 lb i _ (by have := (O7.out.lt b hb).1; have := L7.out.lb; omega)
                have SZ8 : Hid (W3.heap.size ≤ W8.heap.size) := L8.out.kx.size
                have R8 : Hid (rpB l E (lfB (gpL l E) m (i + 1)) = false) := by unfold Hid; rw [e]; exact HRP.out
                have h5 := small5 (x := (toI (lst (lfB (gpL l E) m i) i)).length) (by have := HLEN.out; omega)
                clear e
                go_wp2_with (at_builtin; refine wpList_append_own _ rfl _ _ 26 rfl W3.heap.size 3 i1 (.int .i64 0) 1 8 Tryd.underlying26 hj hy0 hy1 hy2 rfl (by decide) _ _ _ rfl (O8.out.alloc _) ⟨W8.heap.size, 0, none⟩ 1 1 [.int .i64 i] rfl rfl (cell_one_new _ _ _) (by simp [Value.oneCell']) ?c3 ?c4 ?c5 ?_)
                try (case c3 => exact h5.1)
                try (case c4 => exact h5.2)
                case c5 => have := SZ8.out; simp; omega
                intro v9 w9 hown9 hgrow9 _
                have L9 : LfW W3 w9 lb z m (.slice a n c) (.slice a2 m c2) (lfB (gpL l E) m (i + 1)) := (L8.out.below (bel_one W8 _)).grown hgrow9 (fun g hg => (O8.out.lt g hg).1)
                have NX : Hid (i + 1 ≤ m ∧ LfW W3 w9 lb z m (.slice a n c) (.slice a2 m c2) (lfB (gpL l E) m (i + 1)) ∧ rpB l E (lfB (gpL l E) m (i + 1)) = false ∧ w9.ownsRow W3.heap.size 3 1 v9 (toI (lst (lfB (gpL l E) m (i + 1)) (i + 1))).length ((toI (lst (lfB (gpL l E) m (i + 1)) (i + 1))).map (Value.int .i64))) := by
                  refine ⟨hlt, L9, R8.out, ?_⟩
                  have hst : lst (lfB (gpL l E) m (i + 1)) (i + 1) = lst (lfB (gpL l E) m i) i ++ [i] := by rw [HST.out]; simp
                  rw [hst]
                  have e : ∀ L : List Nat, toI (L ++ [i]) = toI L ++ [(i : Int)] := fun L => by unfold toI; rw [List.map_append]; rfl
                  rw [e, List.length_append, List.map_append]; exact hown9
                clear hown9 hgrow9 L9 q0 q1 HST
                go_wp2
                go_roundw
                case rel => exact ⟨i + 1, by go_num, NX.out⟩
                case measure => simp [intOf]; omega
            · have hlt' : ¬ (i : Int) < (m : Int) := by omega
              have e : i = m := by omega
              subst e
              obtain ⟨oa, oc, rfl, hrd⟩ := rdI_own hown (by rw [toI_len]; have := lst_le (lfB (gpL l E) i i) i; omega)
              have PP : Hid (ClaP l E w (.returned (.tuple #[.slice oa (toI (lst (lfB (gpL l E) i i) i)).length oc, .bool true, .int .i64 0])) wr) := by
                refine ⟨hlf.bel BW3.out.1 BW3.out.2, .inr ⟨HF.out, .inr ⟨of_decide_eq_false HG0.out.symm, oa, oc, ?_, ?_⟩⟩⟩
                · unfold clL; rw [HM.out]
                · unfold clL; rw [HM.out]; exact hrd
              clear hS hi hlf hown hrd hrp hlt
              go_wp2_with fail
              go_ret3
              exact PP.out
  · have g1 : (f != 0) = true := by simpa using h0
    have PP : Hid (ClaP l E w (.returned (.tuple #[.slice none 0 0, .bool false, .int .i64 f])) w2) := by
      refine ⟨B1.out.trans (B2.out.mono B1.out.size), .inl ⟨?_, ?_⟩⟩
      · rw [HF.out]; exact h0
      · rw [HF.out]
    clear h0 C2 y0 y1
    go_wp2_with fail
    go_ret3
    exact PP.out
end Go.Proofs.YtadfmplafehjlaaDoor
