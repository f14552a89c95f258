/-
  Package code: the path of a code.
  Package code: majority.
  Package code: what the codings of a case come to.
-/
import Derived.Test.YtgfjbilhgblbeaaDoorMf08
import Derived.Maps.RangeWalk
namespace Go.Proofs.YtgfjbilhgblbeaaDoor
open Go.RowKit Go.WideMaps Go.Maps

theorem pth_succ (p : Nat → Nat) (c n : Nat) : pth p c (n + 1) = pth p c n ++ [((it p n c : Nat) : Int)] := by
  unfold pth
  rw [List.range_succ, List.map_append]
  rfl
theorem own_low {w : World} {B B' : Nat} {e : TypeId} {size : Nat} {v : Value} {n : Nat} {xs : List Value} (h : w.ownsRow B e size v n xs) (hb : B' ≤ B) : w.ownsRow B' e size v n xs :=
  ⟨h.1, h.2.imp id (fun ⟨g, cap, cur, e1, e2, e3⟩ => ⟨g, cap, cur, e1, Nat.le_trans hb e2, e3⟩)⟩
def PaP (p : Nat → Nat) (c n : Nat) (w : World) (e : Ending) (w' : World) : Prop :=
  ∃ v, e = .returned v ∧ w'.ownsRow w.heap.size 3 1 v n ((pth p c n).map (Value.int .i64)) ∧ Below w.heap.size w w'
set_option maxRecDepth 100000 in
set_option maxHeartbeats 2000000 in
theorem path_c (bp bl : Nat) (p lv : Nat → Nat) (H : Nat → Prop) (T : Tree p lv H) (c : Nat) (w : World) (hp : Arr w bp p) (hc : In H c) (h9 : ∀ c, H c → c ≤ 999) (h8 : lv c ≤ 8) :
    Calls Tryd.prog 42 #[fv bp bl, .int .i64 (c : Nat)] w (PaP p c (lv c) w) := by
  obtain ⟨i0, hi, hz0, hz1, hz2⟩ := info_parts infoI
  obtain ⟨W1, hW1⟩ : ∃ W1, w.alloc (.cells #[row bp, row bl] 71) = W1 := ⟨_, rfl⟩
  have B1 : Hid (BoxF w W1 bp bl) := by unfold Hid; rw [← hW1]; exact box_f w bp bl
  have HP := Lib.hid (hp.below B1.out.1)
  have HT : Hid (Tree p lv H ∧ ∀ c, In H c → c < 1000) := ⟨T, fun c h => by rcases h with rfl | h; omega; have := h9 c h; omega⟩
  have HC := Lib.hid hc
  have v0 := B1.out.2.2.1
  have v1 := B1.out.2.2.2
  have SZ := Lib.hid B1.out.2.1
  clear hp T hc h9
  go_enter Tryd.func42, Tryd.ntmps42
  go_wp2
  go_loopw [1, 5] (fun cv v wr => ∃ k : Nat, k ≤ lv c ∧ cv = .int .i64 ((it p k c : Nat) : Int) ∧ Hid (wr.ownsRow W1.heap.size 3 1 v k ((pth p c k).map (Value.int .i64)) ∧ Below W1.heap.size W1 wr)) (fun _ v _ => lv c - (match v with | .slice _ n _ => n | _ => 0))
  case atStart => exact ⟨0, Nat.zero_le _, rfl, World.ownsRow_nil _ _ _ _, Below.refl _ _⟩
  case round =>
    obtain ⟨k, hk, rfl, hS⟩ := hrel
    have hin := HT.out.1.inIt (k := k) HC.out
    have hlv := HT.out.1.lvIt (k := k) HC.out
    have hz := HT.out.1.lv0 hin
    have hlt := HT.out.2 _ hin
    have hpn : p (it p k c) = it p (k + 1) c := (it_succ (p := p)).symm
    have PS := Lib.hid (pth_succ p c k)
    obtain ⟨d, hd⟩ : ∃ d, it p k c = d := ⟨_, rfl⟩
    rw [hd] at hin hlv hz hlt hpn ⊢
    have PS' : Hid (pth p c (k + 1) = pth p c k ++ [((d : Nat) : Int)]) := by unfold Hid; rw [PS.out, hd]
    clear PS hd
    have hmv : ∃ a n cc, u5 = .slice a n cc ∧ n = k := by
      rcases hS.out.1.2 with ⟨rfl, h⟩ | ⟨g, cap, cur, rfl, _⟩
      · exact ⟨none, 0, 0, rfl, h.symm⟩
      · exact ⟨_, _, _, rfl, rfl⟩
    by_cases h0 : d = 0
    · have e : k = lv c := by have := hz.2 h0; omega
      have R : Hid (PaP p c (lv c) w (.returned u5) wr) := by
        have h := hS.out.1
        rw [e] at h
        exact ⟨u5, rfl, own_low h (by have := SZ.out; omega), B1.out.1.trans (hS.out.2.mono B1.out.1.size)⟩
      subst h0
      clear hS hmv hz hlv hin hpn e
      go_wp2
      go_ret
      exact R.out
    · have hd0 : ((d : Int) == 0) = false := by rw [beq_eq_false_iff_ne]; omega
      have hd1 : ((d : Int) != 0) = true := by rw [bne, hd0]; rfl
      have hk1 : k + 1 ≤ lv c := by
        have : lv d ≠ 0 := fun h => h0 (hz.1 h)
        omega
      have hdb : (d : Int) < 1000 := by omega
      obtain ⟨av, nv, cv, rfl, rfl⟩ := hmv
      have hown := hS.out.1
      have hbel := Lib.hid hS.out.2
      clear h0 hz hlv hin
      go_wp2_with (at_builtin; refine wpList_append_own _ rfl _ _ 27 rfl W1.heap.size 3 i0 (.int .i64 0) 1 8 Tryd.underlying27 hi hz0 hz1 hz2 rfl (by decide) _ _ _ rfl (hown.alloc _) ⟨wr.heap.size, 0, none⟩ 1 1 [.int .i64 (d : Nat)] rfl rfl (cell_one_new _ _ _) (ints_oneCell .i64 [((d : Nat) : Int)]) ?c3 ?c4 ?c5 ?_)
      case c3 => unfold maxLen; omega
      case c4 => omega
      case c5 => have := hbel.out.size; simp; omega
      intro v' w4 hown' hgrow _
      have B4 : Hid (Below W1.heap.size W1 w4) := by
        have hs := hbel.out.size
        exact (hbel.out.trans ((bel_one wr _).mono hs)).grown hgrow (by simp; omega) (fun g hg => (hown.lt g hg).1)
      have NX : Hid (w4.ownsRow W1.heap.size 3 1 v' (nv + 1) ((pth p c (nv + 1)).map (Value.int .i64)) ∧ Below W1.heap.size W1 w4) := by
        refine ⟨?_, B4.out⟩
        rw [PS'.out, List.map_append]; exact hown'
      obtain ⟨av', cv', rfl⟩ : ∃ a c, v' = .slice a (nv + 1) c := by
        rcases NX.out.1.2 with ⟨_, h⟩ | ⟨g, cap, cur, rfl, _⟩
        · omega
        · exact ⟨_, _, rfl⟩
      have x0 : w4.cell? ⟨w.heap.size, 0, none⟩ = some (row bp) := (B4.out.cell (p := ⟨w.heap.size, 0, none⟩) (by have := SZ.out; show w.heap.size < W1.heap.size; omega)).trans v0
      have y0 : w4.cell? ⟨bp, d, none⟩ = some (.int .i64 ((it p (nv + 1) c : Nat) : Int)) := by rw [← hpn]; exact (HP.out.below B4.out).2 d hlt
      clear hown' hgrow hown hS hbel hpn
      go_wp2
      go_roundw
      case rel => exact ⟨nv + 1, hk1, rfl, NX.out⟩
      case measure => simp; omega
end Go.Proofs.YtgfjbilhgblbeaaDoor
namespace Go.Proofs.YtgfjbilhgblbeaaDoor
open Go.RowKit Go.WideMaps Go.Maps

/-- c is the lowest code that is counted for more than half of all; 0: there is none. -/
def IsMaj (lv : Nat → Nat) (f : Int → Option Int) (all c : Nat) : Prop :=
  (c = 0 ∨ ∃ x, f (c : Nat) = some x ∧ (all : Int) < 2 * x ∧ 0 < lv c) ∧ ∀ d x, f d = some x → (all : Int) < 2 * x → lv d.toNat ≤ lv c
def MajL (lv : Nat → Nat) (f : Int → Option Int) (all : Nat) (left : Lit → Bool) (c : Nat) : Prop :=
  c < 1000 ∧ (c = 0 ∨ ∃ x, f (c : Nat) = some x ∧ (all : Int) < 2 * x ∧ 0 < lv c) ∧ ∀ d x, f d = some x → (all : Int) < 2 * x → left (.int .i64 d) = false → lv d.toNat ≤ lv c
def MajP (lv : Nat → Nat) (f : Int → Option Int) (all : Nat) (w : World) (e : Ending) (w' : World) : Prop := ∃ c : Nat, c < 1000 ∧ e = .returned (.int .i64 c) ∧ IsMaj lv f all c ∧ Below w.heap.size w w'
theorem same_int (a b : Int) : (Lit.int .i64 a).sameKey (.int .i64 b) = decide (a = b) := by
  unfold Lit.sameKey
  by_cases h : a = b <;> simp [h]
/-- Keys and counts are small. -/
def Small (f : Int → Option Int) : Prop := ∀ s x, f s = some x → (0 ≤ s ∧ s < 1000) ∧ (0 ≤ x ∧ x ≤ 20000)
/-- The step of the loop: one entry more. -/
theorem MajL.miss {lv : Nat → Nat} {f : Int → Option Int} {all : Nat} {left : Lit → Bool} {c : Nat} (h : MajL lv f all left c) {s x : Int} (hs : f s = some x) (hx : (all : Int) < 2 * x → lv s.toNat ≤ lv c) :
    MajL lv f all (fun z => left z && !z.sameKey (.int .i64 s)) c := by
  refine ⟨h.1, h.2.1, fun d y hd hy hl => ?_⟩
  by_cases e : d = s
  · subst e
    rw [hs] at hd
    injection hd with hd
    subst hd
    exact hx hy
  · refine h.2.2 d y hd hy ?_
    simpa only [same_int, e, decide_false, Bool.not_false, Bool.and_true] using hl
theorem MajL.hit {lv : Nat → Nat} {f : Int → Option Int} {all : Nat} {left : Lit → Bool} {c : Nat} (h : MajL lv f all left c) {s x : Int} (h0 : 0 ≤ s) (h9 : s < 1000) (hs : f s = some x) (hx : (all : Int) < 2 * x) (hl : lv c < lv s.toNat) :
    MajL lv f all (fun z => left z && !z.sameKey (.int .i64 s)) s.toNat := by
  have es : ((s.toNat : Nat) : Int) = s := Int.toNat_of_nonneg h0
  refine ⟨by omega, .inr ⟨x, by rw [es]; exact hs, hx, by omega⟩, fun d y hd hy hl' => ?_⟩
  by_cases e : d = s
  · subst e; exact Nat.le_refl _
  · have := h.2.2 d y hd hy (by simpa only [same_int, e, decide_false, Bool.not_false, Bool.and_true] using hl')
    omega
/-- THE STEP over a map from ints, whatever its elements. -/
theorem next_nums {P : Program} {w : World} {ops : Array Oper} {rest : List Oper} {o : Oper} {a : Act} {Q : Exit → Act → World → Prop} (hg : o.guard = none) (it : Operand) (hop : o.op = Op.next it false) (k : TypeId) (K : Keyed P k) (hk : P.underlying k = some (.int .i64)) (b r n : Nat) (D : DataW Value) (left : Lit → Bool) (cnt : Nat)
    (hit : a.eval it = .pointer (some ⟨r, 0, none⟩)) (h : w.ranges P k asIs b r n D left cnt)
    (hDone : cnt = 0 → (∀ kl, left kl = false) → wpList P ops Q rest (a.put o.dst (.tuple #[.bool false])) w)
    (hMore : ∀ (s : Int) (c : Value) (w' : World) (cnt' : Nat), left (.int .i64 s) = true → (∀ zd, D.atKey (.int .i64 s) zd = .held c) → w'.ranges P k asIs b r n D (fun z => left z && !z.sameKey (.int .i64 s)) cnt' → cnt' < cnt →
      w.grownBy w' (some r) → w'.heap.size = w.heap.size → (Instr.entry (.pointer (some ⟨r, 0, none⟩))).run P w' = .ok (.tuple #[.int .i64 s, c]) w' → wpList P ops Q rest (a.put o.dst (.tuple #[.bool true, .int .i64 s, c])) w') :
    wpList P ops Q (o :: rest) a w :=
  wpList_next_ranges w hg it hop k K asIs (fun x : Int => Value.int .i64 x) (fun v : Value => v) (fun key kl h => by obtain ⟨x, e, _⟩ := Maps.keyOf_int_inv hk h; exact ⟨x, e⟩) (fun v y _ => ⟨v, rfl⟩) b r n D left cnt hit h hDone
    (fun s c kl y w' cnt' hkey hlk hy hat hrg hlt hgr hsz hen => by
      obtain ⟨s', e1, rfl, _⟩ := Maps.keyOf_int_inv hk hkey
      injection e1 with _ e1
      subst e1
      simp only [asIs, Option.some.injEq] at hy
      subst hy
      exact hMore s c w' cnt' hlk hat hrg hlt hgr hsz hen)
set_option maxRecDepth 100000 in
set_option maxHeartbeats 2000000 in
theorem majority_c (bp bl : Nat) (lv : Nat → Nat) (mp n : Nat) (f : Int → Option Int) (all : Nat) (w : World) (hl : Arr w bl lv) (hm : NuIs w mp n f) (hf : Small f) (ha : all ≤ 20000) (h0 : lv 0 = 0) :
    Calls Tryd.prog 66 #[fv bp bl, .map (some mp), .int .i64 (all : Nat)] w (MajP lv f all w) := by
  obtain ⟨W1, hW1⟩ : ∃ W1, w.alloc (.cells #[row bp, row bl] 71) = W1 := ⟨_, rfl⟩
  have B1 : Hid (BoxF w W1 bp bl) := by unfold Hid; rw [← hW1]; exact box_f w bp bl
  have HL := Lib.hid (hl.below B1.out.1)
  have hm1 : NuIs W1 mp n f := MapIs.below hm B1.out.1 (MapIs.lt hm)
  have HF := Lib.hid hf
  have H0 := Lib.hid h0
  have ML := Lib.hid (MapIs.lt hm1)
  obtain ⟨D, hown, hD⟩ := hm1
  have HD : Hid (∀ s, Maps.has D (.int .i64 s) = ((f s).map (Value.int .i64)).isSome ∧ ∀ z, D.atKey (.int .i64 s) (.held z) = .held (((f s).map (Value.int .i64)).getD z)) := hD.2
  clear hl hm hf h0 hD
  go_enter Tryd.func66, Tryd.ntmps66
  go_wp2_with (first
    | (at_range; refine wpList_range_own _ rfl _ 98 rfl 3 3 lawI Tryd.underlying98 asIs mp n D rfl hown ?_; intro w0 hrg0 hg0 hs0)
    | go_in)
  go_frame
  have R0 : Hid (w0.ranges Tryd.prog 3 asIs mp W1.heap.size n D (Maps.has D) (Maps.size D) ∧ Below W1.heap.size W1 w0 ∧ (∀ z, Maps.has D z = true → Maps.has D z = true) ∧ MajL lv f all (Maps.has D) 0) := by
    refine ⟨hrg0, (Below.refl _ _).grown hg0 (Nat.le_refl _) (fun j hj => by cases hj), fun z h => h, by omega, .inl rfl, fun d x hd hx hl => ?_⟩
    rw [(HD.out d).1, hd] at hl
    simp at hl
  clear hrg0 hg0 hs0 hown
  go_loopw [7] (fun cv wr => ∃ (left : Lit → Bool) (cnt c : Nat), cv = .int .i64 (c : Nat) ∧ Hid (wr.ranges Tryd.prog 3 asIs mp W1.heap.size n D left cnt ∧ Below W1.heap.size W1 wr ∧ (∀ z, left z = true → Maps.has D z = true) ∧ MajL lv f all left c)) (fun _ wr => wr.rangeLeft mp W1.heap.size)
  case atStart => exact ⟨_, _, 0, rfl, R0.out⟩
  case round =>
    clear R0
    obtain ⟨left, cnt, c, rfl, hS⟩ := hrel
    have hrg := hS.out.1
    go_wp2_with (first
      | (at_next; refine next_nums rfl _ rfl 3 lawI Tryd.underlying3 mp W1.heap.size n D left cnt rfl hrg ?_ ?_)
      | go_in)
    · intro _ hl0
      have R : Hid (MajP lv f all w (.returned (.int .i64 (c : Nat))) wr) := ⟨c, hS.out.2.2.2.1, rfl, ⟨hS.out.2.2.2.2.1, fun d x hd hx => hS.out.2.2.2.2.2 d x hd hx (hl0 _)⟩, B1.out.1.trans (hS.out.2.1.mono B1.out.1.size)⟩
      clear hS hrg hl0
      go_wp2
      go_ret
      exact R.out
    · intro s cv w1 cnt1 hlk hat hrg1 hlt hg1 hs1 hen
      have hhas := hS.out.2.2.1 _ hlk
      rw [(HD.out s).1] at hhas
      obtain ⟨x, hx⟩ : ∃ x, f s = some x := by
        cases h : f s with
        | none => rw [h] at hhas; simp at hhas
        | some x => exact ⟨x, rfl⟩
      have hcv : cv = .int .i64 x := by
        have := hat (.held (.int .i64 0))
        rw [(HD.out s).2, hx] at this
        simpa using this.symm
      subst hcv
      have sm := HF.out s x hx
      have B2 : Hid (Below W1.heap.size W1 w1) := hS.out.2.1.grown hg1 hS.out.2.1.size (fun j hj => by cases hj; exact Nat.le_refl _)
      have HS : Hid (MajL lv f all left c ∧ (∀ z, (left z && !z.sameKey (.int .i64 s)) = true → Maps.has D z = true)) := ⟨hS.out.2.2.2, fun z h => hS.out.2.2.1 z (by revert h; cases left z <;> simp)⟩
      have HR0 : Hid (∀ nq, (w1.drewN nq).ranges Tryd.prog 3 asIs mp W1.heap.size n D (fun z => left z && !z.sameKey (.int .i64 s)) cnt1) := fun nq => hrg1.kept (below_grow (below_drewN (Below.refl _ _) nq)) (by simp) (by simp)
      have HB : Hid (∀ nq, Below W1.heap.size W1 (w1.drewN nq)) := fun nq => below_drewN B2.out nq
      have ME : Hid (∀ nq, (w1.drewN nq).rangeLeft mp W1.heap.size < wr.rangeLeft mp W1.heap.size) := fun nq => by
        rw [(HR0.out nq).left_eq, hrg.left_eq]; exact hlt
      have HX := Lib.hid hx
      clear hat hhas hlk hg1 hs1 hS hrg hrg1 hlt hx
      obtain ⟨sn, rfl⟩ : ∃ sn : Nat, s = (sn : Int) := ⟨s.toNat, by omega⟩
      have q1 : w1.cell? ⟨bl, sn, none⟩ = some (.int .i64 (lv sn : Nat)) := (HL.out.below B2.out).2 sn (by omega)
      have q2 : w1.cell? ⟨bl, c, none⟩ = some (.int .i64 (lv c : Nat)) := (HL.out.below B2.out).2 c HS.out.1.1
      have q3 : w1.cell? ⟨w.heap.size, 1, none⟩ = some (row bl) := (B2.out.cell (p := ⟨w.heap.size, 1, none⟩) (by have := B1.out.2.1; show w.heap.size < W1.heap.size; omega)).trans B1.out.2.2.2
      have hx0 : 0 ≤ x := sm.2.1
      have hx9 : x ≤ 20000 := sm.2.2
      have hc9 : (c : Int) < 1000 := by have := HS.out.1.1; omega
      have hs9 : (sn : Int) < 1000 := by omega
      by_cases hx1 : (all : Int) < 2 * x
      · by_cases hlv : lv c < lv sn
        · have hlv' : (lv c : Int) < (lv sn : Int) := by omega
          have NX : Hid (∀ nq, (w1.drewN nq).ranges Tryd.prog 3 asIs mp W1.heap.size n D (fun z => left z && !z.sameKey (.int .i64 (sn : Int))) cnt1 ∧ Below W1.heap.size W1 (w1.drewN nq) ∧ (∀ z, (left z && !z.sameKey (.int .i64 (sn : Int))) = true → Maps.has D z = true) ∧ MajL lv f all (fun z => left z && !z.sameKey (.int .i64 (sn : Int))) sn) :=
            fun nq => ⟨HR0.out nq, HB.out nq, HS.out.2, HS.out.1.hit (s := (sn : Int)) (by omega) (by omega) HX.out hx1 hlv⟩
          clear HX hlv
          go_wp2_with fail
          go_quiet (fail)
          go_wp2
          go_roundw
          case rel => exact ⟨_, cnt1, sn, rfl, NX.out _⟩
          case measure => exact ME.out _
        · have hlv' : ¬ (lv c : Int) < (lv sn : Int) := by omega
          have hlv2 : decide ((lv c : Int) < (lv sn : Int)) = false := by rw [decide_eq_false_iff_not]; omega
          have NX : Hid (∀ nq, (w1.drewN nq).ranges Tryd.prog 3 asIs mp W1.heap.size n D (fun z => left z && !z.sameKey (.int .i64 (sn : Int))) cnt1 ∧ Below W1.heap.size W1 (w1.drewN nq) ∧ (∀ z, (left z && !z.sameKey (.int .i64 (sn : Int))) = true → Maps.has D z = true) ∧ MajL lv f all (fun z => left z && !z.sameKey (.int .i64 (sn : Int))) c) :=
            fun nq => ⟨HR0.out nq, HB.out nq, HS.out.2, HS.out.1.miss HX.out (fun _ => by show lv ((sn : Int)).toNat ≤ lv c; rw [Int.toNat_natCast]; omega)⟩
          clear HX hlv
          go_wp2_with fail
          go_quiet (fail)
          go_wp2
          go_roundw
          case rel => exact ⟨_, cnt1, c, rfl, NX.out _⟩
          case measure => exact ME.out _
      · have NX : Hid (∀ nq, (w1.drewN nq).ranges Tryd.prog 3 asIs mp W1.heap.size n D (fun z => left z && !z.sameKey (.int .i64 (sn : Int))) cnt1 ∧ Below W1.heap.size W1 (w1.drewN nq) ∧ (∀ z, (left z && !z.sameKey (.int .i64 (sn : Int))) = true → Maps.has D z = true) ∧ MajL lv f all (fun z => left z && !z.sameKey (.int .i64 (sn : Int))) c) :=
          fun nq => ⟨HR0.out nq, HB.out nq, HS.out.2, HS.out.1.miss HX.out (fun h => absurd h hx1)⟩
        have hx2 : decide ((all : Int) < 2 * x) = false := by rw [decide_eq_false_iff_not]; exact hx1
        clear HX hx1
        go_wp2_with fail
        go_quiet (fail)
        go_wp2
        go_roundw
        case rel => exact ⟨_, cnt1, c, rfl, NX.out _⟩
        case measure => exact ME.out _
end Go.Proofs.YtgfjbilhgblbeaaDoor
namespace Go.Proofs.YtgfjbilhgblbeaaDoor
open Go.RowKit Go.WideMaps Go.Maps

/-- How many of the first k have P. -/
def cn (P : Nat → Bool) : Nat → Nat
  | 0 => 0
  | k + 1 => cn P k + if P k = true then 1 else 0
theorem cn_le (P : Nat → Bool) : ∀ k, cn P k ≤ k
  | 0 => Nat.le_refl _
  | k + 1 => by have := cn_le P k; unfold cn; split <;> omega
theorem cn_all {P : Nat → Bool} : ∀ {k}, cn P k = k → ∀ j, j < k → P j = true
  | 0, _, j, hj => by omega
  | k + 1, h, j, hj => by
    unfold cn at h
    have := cn_le P k
    by_cases e : P k = true
    · rw [if_pos e] at h
      by_cases hjk : j = k
      · rw [hjk]; exact e
      · exact cn_all (k := k) (by omega) j (by omega)
    · rw [if_neg e] at h; omega
theorem cn_full {P : Nat → Bool} : ∀ {k}, (∀ j, j < k → P j = true) → cn P k = k
  | 0, _ => rfl
  | k + 1, h => by unfold cn; rw [cn_full fun j hj => h j (by omega), if_pos (h k (by omega))]
theorem cn_pos {P : Nat → Bool} : ∀ {k}, 0 < cn P k → ∃ j, j < k ∧ P j = true
  | 0, h => by simp [cn] at h
  | k + 1, h => by
    by_cases e : P k = true
    · exact ⟨k, by omega, e⟩
    · unfold cn at h
      rw [if_neg e] at h
      obtain ⟨j, hj, hP⟩ := cn_pos (k := k) (by omega)
      exact ⟨j, by omega, hP⟩
theorem cn_apart {P Q : Nat → Bool} : ∀ {k}, (∀ j, j < k → ¬ (P j = true ∧ Q j = true)) → cn P k + cn Q k ≤ k
  | 0, _ => Nat.le_refl _
  | k + 1, h => by
    have := cn_apart (P := P) (Q := Q) (k := k) fun j hj => h j (by omega)
    have hk := h k (by omega)
    unfold cn
    by_cases e : P k = true
    · have : ¬ Q k = true := fun e' => hk ⟨e, e'⟩
      rw [if_pos e, if_neg this]; omega
    · rw [if_neg e]; split <;> omega
theorem cn_meet {P Q : Nat → Bool} {k : Nat} (hP : k < 2 * cn P k) (hQ : k < 2 * cn Q k) : ∃ j, j < k ∧ P j = true ∧ Q j = true := by
  by_cases h : ∃ j, j < k ∧ P j = true ∧ Q j = true
  · exact h
  · have := cn_apart (P := P) (Q := Q) (k := k) fun j hj hb => h ⟨j, hj, hb⟩
    omega
theorem cn_mono {P Q : Nat → Bool} : ∀ {k}, (∀ j, j < k → P j = true → Q j = true) → cn P k ≤ cn Q k
  | 0, _ => Nat.le_refl _
  | k + 1, h => by
    have := cn_mono (P := P) (Q := Q) (k := k) fun j hj => h j (by omega)
    have hk := h k (by omega)
    unfold cn
    by_cases e : P k = true
    · rw [if_pos e, if_pos (hk e)]; omega
    · rw [if_neg e]; split <;> omega
theorem cn_less {P Q : Nat → Bool} : ∀ {k}, (∀ j, j < k → P j = true → Q j = true) → (∃ j, j < k ∧ Q j = true ∧ ¬ P j = true) → cn P k < cn Q k
  | 0, _, ⟨j, hj, _⟩ => by omega
  | k + 1, h, ⟨j, hj, hQ, hP⟩ => by
    have hk := h k (by omega)
    unfold cn
    by_cases e : j = k
    · subst e
      have := cn_mono (P := P) (Q := Q) (k := j) fun i hi => h i (by omega)
      rw [if_neg hP, if_pos hQ]; omega
    · have := cn_less (P := P) (Q := Q) (k := k) (fun i hi => h i (by omega)) ⟨j, by omega, hQ, hP⟩
      by_cases e : P k = true
      · rw [if_pos e, if_pos (hk e)]; omega
      · rw [if_neg e]; split <;> omega
theorem cn_congr {P Q : Nat → Bool} : ∀ {k}, (∀ j, j < k → P j = Q j) → cn P k = cn Q k
  | 0, _ => rfl
  | k + 1, h => by unfold cn; rw [cn_congr (k := k) fun j hj => h j (by omega), h k (by omega)]

section
variable {p lv : Nat → Nat} {H : Nat → Prop}
theorem pth_mem {c n : Nat} {s : Int} : s ∈ pth p c n ↔ ∃ i, i < n ∧ ((it p i c : Nat) : Int) = s := by
  unfold pth
  rw [List.mem_map]
  constructor
  · rintro ⟨i, hi, e⟩; exact ⟨i, List.mem_range.1 hi, e⟩
  · rintro ⟨i, hi, e⟩; exact ⟨i, List.mem_range.2 hi, e⟩
theorem pth_count (T : Tree p lv H) {c : Nat} (hc : In H c) (s : Int) : ∀ {n}, n ≤ lv c → (pth p c n).count s = if s ∈ pth p c n then 1 else 0
  | 0, _ => by simp [pth]
  | n + 1, hn => by
    have ih := pth_count T hc s (n := n) (by omega)
    rw [pth_succ, List.count_append, ih]
    by_cases e : ((it p n c : Nat) : Int) = s
    · have hno : ¬ s ∈ pth p c n := by
        rw [pth_mem]
        rintro ⟨i, hi, e2⟩
        have e3 : it p i c = it p n c := by omega
        have h1 := T.lvIt (k := i) hc
        have h2 := T.lvIt (k := n) hc
        rw [e3] at h1
        omega
      rw [if_neg hno, if_pos (by rw [e]; simp)]
      rw [e]; simp
    · have : s ∈ pth p c n ++ [((it p n c : Nat) : Int)] ↔ s ∈ pth p c n := by
        rw [List.mem_append]
        constructor
        · rintro (h | h)
          · exact h
          · simp at h; exact absurd h.symm e
        · exact fun h => .inl h
      have e0 : List.count s [((it p n c : Nat) : Int)] = 0 := by
        rw [List.count_eq_zero]; simp; exact fun h => e h.symm
      rw [e0]
      simp only [this]
      omega
/-- The codes of the codings; those that they are within. -/
def vP (D : List Cg) (s : Int) (j : Nat) : Bool := decide ((cg D j).cd = s)
def uP (p lv : Nat → Nat) (D : List Cg) (s : Int) (j : Nat) : Bool := decide (s ∈ pth p (cg D j).cd.toNat (lv (cg D j).cd.toNat))
def vN (D : List Cg) (s : Int) : Nat := cn (vP D s) D.length
def uN (p lv : Nat → Nat) (D : List Cg) (s : Int) : Nat := cn (uP p lv D s) D.length
/-- What a case comes to: a code, and the way. -/
def IsFin (p lv : Nat → Nat) (D : List Cg) (c y : Int) : Prop :=
  (y = 1 ∧ vN D c = D.length) ∨
  (y = 2 ∧ vN D c ≠ D.length ∧ D.length < 2 * vN D c) ∨
  (y = 3 ∧ (∀ s, ¬ D.length < 2 * vN D s) ∧ D.length < 2 * uN p lv D c ∧ ∀ s, D.length < 2 * uN p lv D s → lv s.toNat ≤ lv c.toNat) ∨
  (y = 4 ∧ c = 0 ∧ ∀ s, ¬ D.length < 2 * uN p lv D s)
/-- The codings of the case are codes. -/
def HasD (H : Nat → Prop) (D : List Cg) : Prop := ∀ j, j < D.length → ∃ c : Nat, (cg D j).cd = (c : Int) ∧ H c
theorem v_two {D : List Cg} {s t : Int} (hs : D.length < 2 * vN D s) (ht : D.length < 2 * vN D t) : s = t := by
  obtain ⟨j, _, h1, h2⟩ := cn_meet hs ht
  have h1 := of_decide_eq_true h1
  have h2 := of_decide_eq_true h2
  omega
theorem v_u (T : Tree p lv H) {D : List Cg} (hD : HasD H D) (s : Int) : vN D s ≤ uN p lv D s := by
  refine cn_mono fun j hj h => ?_
  have h := of_decide_eq_true h
  obtain ⟨c, e, hc⟩ := hD j hj
  refine decide_eq_true (pth_mem.2 ⟨0, ?_, ?_⟩)
  · rw [e, Int.toNat_natCast]
    have := T.lv0 (c := c) (.inr hc)
    have h0 : c ≠ 0 := (T.pos c hc).1
    omega
  · rw [e, Int.toNat_natCast, ← h, e]; rfl
/-- Two codes that codings have in common are on one path. -/
theorem u_one (T : Tree p lv H) {D : List Cg} (hD : HasD H D) {s t : Int} (hs : D.length < 2 * uN p lv D s) (ht : D.length < 2 * uN p lv D t) :
    ∃ x i j : Nat, In H x ∧ i < lv x ∧ j < lv x ∧ s = ((it p i x : Nat) : Int) ∧ t = ((it p j x : Nat) : Int) := by
  obtain ⟨k, hk, h1, h2⟩ := cn_meet hs ht
  obtain ⟨c, e, hc⟩ := hD k hk
  have h1 := of_decide_eq_true h1
  have h2 := of_decide_eq_true h2
  rw [e, Int.toNat_natCast, pth_mem] at h1 h2
  obtain ⟨i, hi, e1⟩ := h1
  obtain ⟨j, hj, e2⟩ := h2
  exact ⟨c, i, j, .inr hc, hi, hj, e1.symm, e2.symm⟩
theorem u_lv (T : Tree p lv H) {D : List Cg} (hD : HasD H D) {s t : Int} (hs : D.length < 2 * uN p lv D s) (ht : D.length < 2 * uN p lv D t) (e : lv s.toNat = lv t.toNat) : s = t := by
  obtain ⟨x, i, j, hx, hi, hj, rfl, rfl⟩ := u_one T hD hs ht
  rw [Int.toNat_natCast, Int.toNat_natCast, T.lvIt hx, T.lvIt hx] at e
  have : i = j := by omega
  rw [this]
theorem fin_one (T : Tree p lv H) {D : List Cg} (hD : HasD H D) (hn : 0 < D.length) {c y c' y' : Int} (h : IsFin p lv D c y) (h' : IsFin p lv D c' y') : c = c' ∧ y = y' := by
  have big : ∀ {s}, vN D s = D.length → D.length < 2 * vN D s := fun e => by omega
  have vu : ∀ {s}, D.length < 2 * vN D s → D.length < 2 * uN p lv D s := fun {s} e => by have := v_u T hD s; omega
  rcases h with ⟨rfl, h⟩ | ⟨rfl, h, h2⟩ | ⟨rfl, h, h2, h3⟩ | ⟨rfl, rfl, h⟩ <;>
  rcases h' with ⟨rfl, g⟩ | ⟨rfl, g, g2⟩ | ⟨rfl, g, g2, g3⟩ | ⟨rfl, rfl, g⟩
  · exact ⟨v_two (big h) (big g), rfl⟩
  · have := v_two (big h) g2; subst this; exact absurd h g
  · exact absurd (big h) (g _)
  · exact absurd (vu (big h)) (g _)
  · have := v_two h2 (big g); subst this; exact absurd g h
  · exact ⟨v_two h2 g2, rfl⟩
  · exact absurd h2 (g _)
  · exact absurd (vu h2) (g _)
  · exact absurd (big g) (h _)
  · exact absurd g2 (h _)
  · exact ⟨u_lv T hD h2 g2 (by have := h3 _ g2; have := g3 _ h2; omega), rfl⟩
  · exact absurd h2 (g _)
  · exact absurd (vu (big g)) (h _)
  · exact absurd (vu g2) (h _)
  · exact absurd g2 (h _)
  · exact ⟨rfl, rfl⟩
/-- How many nodes a code has below it, itself among them. -/
def cvd (l : List Nd) (s : Int) : Nat := cn (fun j => decide (s ∈ pth (par l) (nd l j).cd.toNat (lev l (nd l j).cd.toNat))) l.length
end
end Go.Proofs.YtgfjbilhgblbeaaDoor
