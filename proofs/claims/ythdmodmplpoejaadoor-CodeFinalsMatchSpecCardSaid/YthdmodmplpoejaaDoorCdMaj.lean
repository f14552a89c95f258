/-
  Package code: majority.
-/
import Derived.Test.YthdmodmplpoejaaDoorCdPath
import Derived.Maps.RangeWalk
namespace Go.Proofs.YthdmodmplpoejaaDoor
open Go.RowKit Go.WideMaps Go.Maps

/-- c is the lowest code that is counted for more than half of all; 0: there is none. -/
def IsMaj (lv : Nat → Nat) (f : Int → Option Int) (all c : Nat) : Prop :=
  (c = 0 ∨ ∃ x, f (c : Nat) = some x ∧ (all : Int) < 2 * x ∧ 0 < lv c) ∧ ∀ d x, f d = some x → (all : Int) < 2 * x → lv d.toNat ≤ lv c
def MajL (lv : Nat → Nat) (f : Int → Option Int) (all : Nat) (left : Lit → Bool) (c : Nat) : Prop :=
  c < 1000 ∧ (c = 0 ∨ ∃ x, f (c : Nat) = some x ∧ (all : Int) < 2 * x ∧ 0 < lv c) ∧ ∀ d x, f d = some x → (all : Int) < 2 * x → left (.int .i64 d) = false → lv d.toNat ≤ lv c
def MajP (lv : Nat → Nat) (f : Int → Option Int) (all : Nat) (w : World) (e : Ending) (w' : World) : Prop := ∃ c : Nat, c < 1000 ∧ e = .returned (.int .i64 c) ∧ IsMaj lv f all c ∧ Below w.heap.size w w'
theorem same_int (a b : Int) : (Lit.int .i64 a).sameKey (.int .i64 b) = decide (a = b) := by
  unfold Lit.sameKey
  by_cases h : a = b <;> simp [h]
/-- Keys and counts are small. -/
def Small (f : Int → Option Int) : Prop := ∀ s x, f s = some x → (0 ≤ s ∧ s < 1000) ∧ (0 ≤ x ∧ x ≤ 20000)
/-- The step of the loop: one entry more. -/
theorem MajL.miss {lv : Nat → Nat} {f : Int → Option Int} {all : Nat} {left : Lit → Bool} {c : Nat} (h : MajL lv f all left c) {s x : Int} (hs : f s = some x) (hx : (all : Int) < 2 * x → lv s.toNat ≤ lv c) :
    MajL lv f all (fun z => left z && !z.sameKey (.int .i64 s)) c := by
  refine ⟨h.1, h.2.1, fun d y hd hy hl => ?_⟩
  by_cases e : d = s
  · subst e
    rw [hs] at hd
    injection hd with hd
    subst hd
    exact hx hy
  · refine h.2.2 d y hd hy ?_
    simpa only [same_int, e, decide_false, Bool.not_false, Bool.and_true] using hl
theorem MajL.hit {lv : Nat → Nat} {f : Int → Option Int} {all : Nat} {left : Lit → Bool} {c : Nat} (h : MajL lv f all left c) {s x : Int} (h0 : 0 ≤ s) (h9 : s < 1000) (hs : f s = some x) (hx : (all : Int) < 2 * x) (hl : lv c < lv s.toNat) :
    MajL lv f all (fun z => left z && !z.sameKey (.int .i64 s)) s.toNat := by
  have es : ((s.toNat : Nat) : Int) = s := Int.toNat_of_nonneg h0
  refine ⟨by omega, .inr ⟨x, by rw [es]; exact hs, hx, by omega⟩, fun d y hd hy hl' => ?_⟩
  by_cases e : d = s
  · subst e; exact Nat.le_refl _
  · have := h.2.2 d y hd hy (by simpa only [same_int, e, decide_false, Bool.not_false, Bool.and_true] using hl')
    omega
/-- THE STEP over a map from ints, whatever its elements. -/
theorem next_nums {P : Program} {w : World} {ops : Array Oper} {rest : List Oper} {o : Oper} {a : Act} {Q : Exit → Act → World → Prop} (hg : o.guard = none) (it : Operand) (hop : o.op = Op.next it false) (k : TypeId) (K : Keyed P k) (hk : P.underlying k = some (.int .i64)) (b r n : Nat) (D : DataW Value) (left : Lit → Bool) (cnt : Nat)
    (hit : a.eval it = .pointer (some ⟨r, 0, none⟩)) (h : w.ranges P k asIs b r n D left cnt)
    (hDone : cnt = 0 → (∀ kl, left kl = false) → wpList P ops Q rest (a.put o.dst (.tuple #[.bool false])) w)
    (hMore : ∀ (s : Int) (c : Value) (w' : World) (cnt' : Nat), left (.int .i64 s) = true → (∀ zd, D.atKey (.int .i64 s) zd = .held c) → w'.ranges P k asIs b r n D (fun z => left z && !z.sameKey (.int .i64 s)) cnt' → cnt' < cnt →
      w.grownBy w' (some r) → w'.heap.size = w.heap.size → (Instr.entry (.pointer (some ⟨r, 0, none⟩))).run P w' = .ok (.tuple #[.int .i64 s, c]) w' → wpList P ops Q rest (a.put o.dst (.tuple #[.bool true, .int .i64 s, c])) w') :
    wpList P ops Q (o :: rest) a w :=
  wpList_next_ranges w hg it hop k K asIs (fun x : Int => Value.int .i64 x) (fun v : Value => v) (fun key kl h => by obtain ⟨x, e, _⟩ := Maps.keyOf_int_inv hk h; exact ⟨x, e⟩) (fun v y _ => ⟨v, rfl⟩) b r n D left cnt hit h hDone
    (fun s c kl y w' cnt' hkey hlk hy hat hrg hlt hgr hsz hen => by
      obtain ⟨s', e1, rfl, _⟩ := Maps.keyOf_int_inv hk hkey
      injection e1 with _ e1
      subst e1
      simp only [asIs, Option.some.injEq] at hy
      subst hy
      exact hMore s c w' cnt' hlk hat hrg hlt hgr hsz hen)
set_option maxRecDepth 100000 in
set_option maxHeartbeats 2000000 in
theorem majority_c (bp bl : Nat) (lv : Nat → Nat) (mp n : Nat) (f : Int → Option Int) (all : Nat) (w : World) (hl : Arr w bl lv) (hm : NuIs w mp n f) (hf : Small f) (ha : all ≤ 20000) (h0 : lv 0 = 0) :
    Calls Tryd.prog 66 #[fv bp bl, .map (some mp), .int .i64 (all : Nat)] w (MajP lv f all w) := by
  obtain ⟨W1, hW1⟩ : ∃ W1, w.alloc (.cells #[row bp, row bl] 71) = W1 := ⟨_, rfl⟩
  have B1 : Hid (BoxF w W1 bp bl) := by unfold Hid; rw [← hW1]; exact box_f w bp bl
  have HL := Lib.hid (hl.below B1.out.1)
  have hm1 : NuIs W1 mp n f := MapIs.below hm B1.out.1 (MapIs.lt hm)
  have HF := Lib.hid hf
  have H0 := Lib.hid h0
  have ML := Lib.hid (MapIs.lt hm1)
  obtain ⟨D, hown, hD⟩ := hm1
  have HD : Hid (∀ s, Maps.has D (.int .i64 s) = ((f s).map (Value.int .i64)).isSome ∧ ∀ z, D.atKey (.int .i64 s) (.held z) = .held (((f s).map (Value.int .i64)).getD z)) := hD.2
  clear hl hm hf h0 hD
  go_enter Tryd.func66, Tryd.ntmps66
  go_wp2_with (first
    | (at_range; refine wpList_range_own _ rfl _ 98 rfl 3 3 lawI Tryd.underlying98 asIs mp n D rfl hown ?_; intro w0 hrg0 hg0 hs0)
    | go_in)
  go_frame
  have R0 : Hid (w0.ranges Tryd.prog 3 asIs mp W1.heap.size n D (Maps.has D) (Maps.size D) ∧ Below W1.heap.size W1 w0 ∧ (∀ z, Maps.has D z = true → Maps.has D z = true) ∧ MajL lv f all (Maps.has D) 0) := by
    refine ⟨hrg0, (Below.refl _ _).grown hg0 (Nat.le_refl _) (fun j hj => by cases hj), fun z h => h, by omega, .inl rfl, fun d x hd hx hl => ?_⟩
    rw [(HD.out d).1, hd] at hl
    simp at hl
  clear hrg0 hg0 hs0 hown
  go_loopw [7] (fun cv wr => ∃ (left : Lit → Bool) (cnt c : Nat), cv = .int .i64 (c : Nat) ∧ Hid (wr.ranges Tryd.prog 3 asIs mp W1.heap.size n D left cnt ∧ Below W1.heap.size W1 wr ∧ (∀ z, left z = true → Maps.has D z = true) ∧ MajL lv f all left c)) (fun _ wr => wr.rangeLeft mp W1.heap.size)
  case atStart => exact ⟨_, _, 0, rfl, R0.out⟩
  case round =>
    clear R0
    obtain ⟨left, cnt, c, rfl, hS⟩ := hrel
    have hrg := hS.out.1
    go_wp2_with (first
      | (at_next; refine next_nums rfl _ rfl 3 lawI Tryd.underlying3 mp W1.heap.size n D left cnt rfl hrg ?_ ?_)
      | go_in)
    · intro _ hl0
      have R : Hid (MajP lv f all w (.returned (.int .i64 (c : Nat))) wr) := ⟨c, hS.out.2.2.2.1, rfl, ⟨hS.out.2.2.2.2.1, fun d x hd hx => hS.out.2.2.2.2.2 d x hd hx (hl0 _)⟩, B1.out.1.trans (hS.out.2.1.mono B1.out.1.size)⟩
      clear hS hrg hl0
      go_wp2
      go_ret
      exact R.out
    · intro s cv w1 cnt1 hlk hat hrg1 hlt hg1 hs1 hen
      have hhas := hS.out.2.2.1 _ hlk
      rw [(HD.out s).1] at hhas
      obtain ⟨x, hx⟩ : ∃ x, f s = some x := by
        cases h : f s with
        | none => rw [h] at hhas; simp at hhas
        | some x => exact ⟨x, rfl⟩
      have hcv : cv = .int .i64 x := by
        have := hat (.held (.int .i64 0))
        rw [(HD.out s).2, hx] at this
        simpa using this.symm
      subst hcv
      have sm := HF.out s x hx
      have B2 : Hid (Below W1.heap.size W1 w1) := hS.out.2.1.grown hg1 hS.out.2.1.size (fun j hj => by cases hj; exact Nat.le_refl _)
      have HS : Hid (MajL lv f all left c ∧ (∀ z, (left z && !z.sameKey (.int .i64 s)) = true → Maps.has D z = true)) := ⟨hS.out.2.2.2, fun z h => hS.out.2.2.1 z (by revert h; cases left z <;> simp)⟩
      have HR0 : Hid (∀ nq, (w1.drewN nq).ranges Tryd.prog 3 asIs mp W1.heap.size n D (fun z => left z && !z.sameKey (.int .i64 s)) cnt1) := fun nq => hrg1.kept (below_grow (below_drewN (Below.refl _ _) nq)) (by simp) (by simp)
      have HB : Hid (∀ nq, Below W1.heap.size W1 (w1.drewN nq)) := fun nq => below_drewN B2.out nq
      have ME : Hid (∀ nq, (w1.drewN nq).rangeLeft mp W1.heap.size < wr.rangeLeft mp W1.heap.size) := fun nq => by
        rw [(HR0.out nq).left_eq, hrg.left_eq]; exact hlt
      have HX := Lib.hid hx
      clear hat hhas hlk hg1 hs1 hS hrg hrg1 hlt hx
      obtain ⟨sn, rfl⟩ : ∃ sn : Nat, s = (sn : Int) := ⟨s.toNat, by omega⟩
      have q1 : w1.cell? ⟨bl, sn, none⟩ = some (.int .i64 (lv sn : Nat)) := (HL.out.below B2.out).2 sn (by omega)
      have q2 : w1.cell? ⟨bl, c, none⟩ = some (.int .i64 (lv c : Nat)) := (HL.out.below B2.out).2 c HS.out.1.1
      have q3 : w1.cell? ⟨w.heap.size, 1, none⟩ = some (row bl) := (B2.out.cell (p := ⟨w.heap.size, 1, none⟩) (by have := B1.out.2.1; show w.heap.size < W1.heap.size; omega)).trans B1.out.2.2.2
      have hx0 : 0 ≤ x := sm.2.1
      have hx9 : x ≤ 20000 := sm.2.2
      have hc9 : (c : Int) < 1000 := by have := HS.out.1.1; omega
      have hs9 : (sn : Int) < 1000 := by omega
      by_cases hx1 : (all : Int) < 2 * x
      · by_cases hlv : lv c < lv sn
        · have hlv' : (lv c : Int) < (lv sn : Int) := by omega
          have NX : Hid (∀ nq, (w1.drewN nq).ranges Tryd.prog 3 asIs mp W1.heap.size n D (fun z => left z && !z.sameKey (.int .i64 (sn : Int))) cnt1 ∧ Below W1.heap.size W1 (w1.drewN nq) ∧ (∀ z, (left z && !z.sameKey (.int .i64 (sn : Int))) = true → Maps.has D z = true) ∧ MajL lv f all (fun z => left z && !z.sameKey (.int .i64 (sn : Int))) sn) :=
            fun nq => ⟨HR0.out nq, HB.out nq, HS.out.2, HS.out.1.hit (s := (sn : Int)) (by omega) (by omega) HX.out hx1 hlv⟩
          clear HX hlv
          go_wp2_with fail
          go_quiet (fail)
          go_wp2
          go_roundw
          case rel => exact ⟨_, cnt1, sn, rfl, NX.out _⟩
          case measure => exact ME.out _
        · have hlv' : ¬ (lv c : Int) < (lv sn : Int) := by omega
          have hlv2 : decide ((lv c : Int) < (lv sn : Int)) = false := by rw [decide_eq_false_iff_not]; omega
          have NX : Hid (∀ nq, (w1.drewN nq).ranges Tryd.prog 3 asIs mp W1.heap.size n D (fun z => left z && !z.sameKey (.int .i64 (sn : Int))) cnt1 ∧ Below W1.heap.size W1 (w1.drewN nq) ∧ (∀ z, (left z && !z.sameKey (.int .i64 (sn : Int))) = true → Maps.has D z = true) ∧ MajL lv f all (fun z => left z && !z.sameKey (.int .i64 (sn : Int))) c) :=
            fun nq => ⟨HR0.out nq, HB.out nq, HS.out.2, HS.out.1.miss HX.out (fun _ => by show lv ((sn : Int)).toNat ≤ lv c; rw [Int.toNat_natCast]; omega)⟩
          clear HX hlv
          go_wp2_with fail
          go_quiet (fail)
          go_wp2
          go_roundw
          case rel => exact ⟨_, cnt1, c, rfl, NX.out _⟩
          case measure => exact ME.out _
      · have NX : Hid (∀ nq, (w1.drewN nq).ranges Tryd.prog 3 asIs mp W1.heap.size n D (fun z => left z && !z.sameKey (.int .i64 (sn : Int))) cnt1 ∧ Below W1.heap.size W1 (w1.drewN nq) ∧ (∀ z, (left z && !z.sameKey (.int .i64 (sn : Int))) = true → Maps.has D z = true) ∧ MajL lv f all (fun z => left z && !z.sameKey (.int .i64 (sn : Int))) c) :=
          fun nq => ⟨HR0.out nq, HB.out nq, HS.out.2, HS.out.1.miss HX.out (fun h => absurd h hx1)⟩
        have hx2 : decide ((all : Int) < 2 * x) = false := by rw [decide_eq_false_iff_not]; exact hx1
        clear HX hx1
        go_wp2_with fail
        go_quiet (fail)
        go_wp2
        go_roundw
        case rel => exact ⟨_, cnt1, c, rfl, NX.out _⟩
        case measure => exact ME.out _
end Go.Proofs.YthdmodmplpoejaaDoor
