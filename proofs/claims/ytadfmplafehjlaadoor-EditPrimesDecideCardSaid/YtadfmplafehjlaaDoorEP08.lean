/-
  Package edit: Fails and Passes.
  Package edit: a box is divided.
  Package edit: a box is divided, all of it.
  Package edit: the iterator over the parts of a box.
-/
import Derived.Test.YtadfmplafehjlaaDoorEP07
import Derived.RangeFuncNested
import Derived.RangeFuncBound
import Derived.RangeFuncCalls
import Derived.RangeFuncLeaves
import Derived.Shelf.Abstract
import Derived.Shelf.RegionOpen
import Derived.WalkKit
import Derived.OwnWalkIn
import Derived.TacticsInMore
import Derived.LoopNIn
import Derived.LoopIn
import Derived.Lib.Hide
import Derived.Test.YtadfmplafehjlaaDoorEP05
import Derived.RangeFuncBox
import Derived.RangeFuncFrom
namespace Go.Proofs.YtadfmplafehjlaaDoor
open Go.RowKit Go.WideMaps Go.Maps

theorem recs_one (n : Nat) (r : List Int) : recsE n [r] = recE n r := by
  unfold recsE
  rw [if_neg (by simp)]
  show fe _ 1 = _
  rw [fe_next (s := fun k => recE n (st [r] k)) (k := 0) rfl]
  rfl
theorem rdL_one {w : World} {b : Nat} {a : Option Addr} {c : Nat} {r : List Int} (hb : b < w.heap.size) (h : w.cell? ⟨b, 0, none⟩ = some (.slice a r.length c)) (hr : Rd w a r) : RdL w (some ⟨b, 0, none⟩) [r] :=
  ⟨by simp, fun _ => ⟨b, 0, rfl, hb, fun j hj => by
    have : j = 0 := by simpa using hj
    subst this
    exact ⟨a, c, h, hr⟩⟩⟩
/-- The fault of a plan with a record. -/
def frS (l : List Fd) (E : List Ed) (r : List Int) : Int := if planS l E ≠ 0 then planS l E else recE l.length r
theorem pf_one (l : List Fd) (E : List Ed) (r : List Int) : pfS l E [r] = frS l E r := by unfold pfS frS; rw [recs_one]
def RecOk (l : List Fd) (r : List Int) : Prop := r.length = l.length ∧ ∀ j, j < r.length → 0 ≤ fn r j ∧ fn r j ≤ 999
theorem fr_ok {l : List Fd} {E : List Ed} {r : List Int} (h : frS l E r = 0) : Ok l E ∧ RecOk l r := by
  unfold frS at h
  split at h
  · contradiction
  · rename_i h1
    have := rec_bounds h
    exact ⟨plan_ok (by simpa using h1), this.1, this.2⟩
theorem rbx_lt {l : List Fd} {E : List Ed} (hok : Ok l E) (r : List Int) : ∀ i, i < l.length → rbx l r i < 2 ^ (fd l i).cs.length := fun i hi => by
  unfold rbx
  rw [if_pos hi]
  exact bz_lt _ _
def FaP (l : List Fd) (E : List Ed) (r : List Int) (w : World) (e : Ending) (w' : World) : Prop :=
  Below w.heap.size w w' ∧ ((frS l E r ≠ 0 ∧ e = .returned (.tuple #[.slice none 0 0, .int .i64 (frS l E r)])) ∨ (frS l E r = 0 ∧ ∃ a c, e = .returned (.tuple #[.slice a (toI (flL E r)).length c, .int .i64 0]) ∧ Rd w' a (toI (flL E r))))
set_option maxRecDepth 100000 in
set_option maxHeartbeats 4000000 in
theorem Fails_c (a : Option Addr) (c : Nat) (l : List Fd) (a2 : Option Addr) (c2 : Nat) (E : List Ed) (a3 : Option Addr) (c3 : Nat) (r : List Int) (w : World) (hl : RdF w a l) (hE : RdE w a2 E) (hr : Rd w a3 r) (hst : ∀ u, u ∈ l → u.nm.size ≤ 9223372036854775807) (hst2 : ∀ u, u ∈ E → u.nm.size ≤ 9223372036854775807)
    (hT : TabAt 0 Lib.deBruijn64tab w) (ht : 0 < w.heap.size) :
    Calls Tryd.prog 8 #[.agg #[.slice a l.length c, .slice a2 E.length c2], .slice a3 r.length c3] w (FaP l E r w) := by
  obtain ⟨W1, hW1⟩ : ∃ W, w.alloc (.cells #[.slice a l.length c, .slice a2 E.length c2] 25) = W := ⟨_, rfl⟩
  obtain ⟨W2, hW2⟩ : ∃ W, W1.alloc (.cells #[.slice a3 r.length c3] 26) = W := ⟨_, rfl⟩
  have b1 : Below w.heap.size w W1 := by rw [← hW1]; exact bel_one _ _
  have b2 : Below W1.heap.size W1 W2 := by rw [← hW2]; exact bel_one _ _
  have B2 : Hid (Below w.heap.size w W2) := b1.trans (b2.mono b1.size)
  have l2 : W1.heap.size < W2.heap.size := by rw [← hW2]; simp
  have HZ : Hid (W1.heap.size < W2.heap.size) := l2
  have C := Lib.hid (planFor_c a c l a2 c2 E (some ⟨W1.heap.size, 0, none⟩) 1 [r] W2 (hl.below B2.out) (hE.below B2.out) (rdL_one l2 (by rw [← hW2, World.cell?_alloc_new]; rfl) (hr.below B2.out)) hst hst2 (tab_below hT ht B2.out) (Nat.lt_of_lt_of_le ht B2.out.size))
  have x0 : W1.cell? ⟨w.heap.size, 0, none⟩ = some (.slice a l.length c) := by rw [← hW1, World.cell?_alloc_new]; rfl
  have x1 : W1.cell? ⟨w.heap.size, 1, none⟩ = some (.slice a2 E.length c2) := by rw [← hW1, World.cell?_alloc_new]; rfl
  have y0 : W2.cell? ⟨w.heap.size, 0, none⟩ = some (.slice a l.length c) := by exact (b2.cell (p := ⟨w.heap.size, 0, none⟩) (cellLt x0)).trans x0
  have y1 : W2.cell? ⟨w.heap.size, 1, none⟩ = some (.slice a2 E.length c2) := by exact (b2.cell (p := ⟨w.heap.size, 1, none⟩) (cellLt x1)).trans x1
  have C2 : Hid (∀ p V, PlR V p l E → Ok l E → RecOk l r → Below w.heap.size w V → Calls Tryd.prog 27 #[.pointer (some ⟨p, 0, none⟩), .slice a3 r.length c3] V fun e w' => e = .returned (bxV (rbx l r)) ∧ Below V.heap.size V w') := fun p V h hok hb b =>
    boxOf_c p l E a3 c3 r V h hok.n12 (hr.below b) hb.1 fun j hj => by have := hb.2 j hj; omega
  have C3 : Hid (∀ p V, PlR V p l E → Ok l E → Below w.heap.size w V → Calls Tryd.prog 26 #[.pointer (some ⟨p, 0, none⟩), bxV (rbx l r)] V fun e w' => e = .returned (.int .u64 (bz (flB E r) E.length)) ∧ Below V.heap.size V w') := fun p V h hok b => by
    have := failed_c p l E (rbx l r) V h hok (rbx_lt hok r) (tab_below hT ht b) (Nat.lt_of_lt_of_le ht b.size)
    rw [fl_rec hok] at this
    exact this
  have C6 : Hid (∀ V, Ok l E → Below w.heap.size w V → Calls Tryd.prog 28 #[.int .u64 (bz (flB E r) E.length : Nat)] V (NuP (toI (flL E r)) V)) := fun V hok b =>
    numbers_c (flB E r) E.length V (by have := hok.m60; omega) (tab_below hT ht b) (Nat.lt_of_lt_of_le ht b.size)
  obtain ⟨x, hx⟩ : ∃ x, bz (flB E r) E.length = x := ⟨_, rfl⟩
  rw [hx] at C3 C6
  clear hx
  unfold PfP at C
  rw [pf_one] at C
  obtain ⟨f, hf⟩ : ∃ f, frS l E r = f := ⟨_, rfl⟩
  rw [hf] at C
  have HF := Lib.hid hf
  obtain ⟨n, hn⟩ : ∃ n, l.length = n := ⟨_, rfl⟩
  obtain ⟨m, hm⟩ : ∃ n, E.length = n := ⟨_, rfl⟩
  obtain ⟨k, hk⟩ : ∃ n, r.length = n := ⟨_, rfl⟩
  rw [hn] at C x0 y0 hW1
  rw [hm] at C x1 y1 hW1
  rw [hk] at C2 hW2
  rw [hn, hm, hk]
  clear hl hE hr hst hst2 hT b1 b2 l2 hf hn hm hk
  unfold bxV at C2 C3
  go_enter Tryd.func8, Tryd.ntmps8
  go_wp2_with fail
  refine C.out.mono ?_
  rintro e1 w2 ⟨b2, h2⟩
  have B3 : Hid (Below w.heap.size w w2) := B2.out.trans (b2.mono B2.out.size)
  clear b2 x0 x1 y0 y1 hW1 hW2
  rcases h2 with ⟨h0, rfl⟩ | ⟨h0, hok, p, rfl, hp⟩
  · have g2 : (f != 0) = true := by simpa using h0
    have PP : Hid (FaP l E r w (.returned (.tuple #[.slice none 0 0, .int .i64 f])) w2) := by
      refine ⟨B3.out, .inl ⟨?_, ?_⟩⟩
      · rw [HF.out]; exact h0
      · rw [HF.out]
    clear C C2 C3 h0
    go_wp2
    go_ret2
    exact PP.out
  · have HB := Lib.hid (fr_ok (HF.out.trans h0)).2
    have HOK := Lib.hid hok
    have HP := Lib.hid hp
    have C4 := Lib.hid (C2.out p w2 hp hok HB.out B3.out)
    have H0 := Lib.hid (HF.out.trans h0)
    subst h0
    clear hp hok C C2
    go_wp2_with fail
    refine C4.out.mono ?_
    rintro e1 w4 ⟨rfl, b4⟩
    have B4 := Lib.hid (B3.out.trans (b4.mono B3.out.size))
    have C5 := Lib.hid (C3.out p w4 (HP.out.below b4) HOK.out B4.out)
    clear C4 C3 b4
    go_wp2_with fail
    refine C5.out.mono ?_
    rintro e1 w5 ⟨rfl, b5⟩
    have B5 := Lib.hid (B4.out.trans (b5.mono B4.out.size))
    have C7 := Lib.hid (C6.out w5 HOK.out B5.out)
    clear C5 C6 b5
    go_wp2_with fail
    refine C7.out.mono ?_
    rintro e1 w6 ⟨v, rfl, hv, b6⟩
    obtain ⟨av, cv, hve, hrd⟩ := rdI_own hv (by rw [toI_len]; have := lst_len (flB E r) E.length; have := HOK.out.m60; show (lst _ _).length ≤ _; omega)
    have PP : Hid (FaP l E r w (.returned (.tuple #[v, .int .i64 0])) w6) := by
      refine ⟨B5.out.trans (b6.mono B5.out.size), .inr ⟨H0.out, av, cv, ?_, hrd⟩⟩
      rw [hve]
    clear hv b6 hve hrd C7
    go_wp2
    go_ret2
    exact PP.out
def PsP (l : List Fd) (E : List Ed) (r : List Int) (w : World) (e : Ending) (w' : World) : Prop :=
  Below w.heap.size w w' ∧ ((frS l E r ≠ 0 ∧ e = .returned (.tuple #[.bool false, .int .i64 (frS l E r)])) ∨ (frS l E r = 0 ∧ e = .returned (.tuple #[.bool (paB l E r), .int .i64 0])))
set_option maxRecDepth 100000 in
set_option maxHeartbeats 4000000 in
theorem Passes_c (a : Option Addr) (c : Nat) (l : List Fd) (a2 : Option Addr) (c2 : Nat) (E : List Ed) (a3 : Option Addr) (c3 : Nat) (r : List Int) (w : World) (hl : RdF w a l) (hE : RdE w a2 E) (hr : Rd w a3 r) (hst : ∀ u, u ∈ l → u.nm.size ≤ 9223372036854775807) (hst2 : ∀ u, u ∈ E → u.nm.size ≤ 9223372036854775807)
    (hT : TabAt 0 Lib.deBruijn64tab w) (ht : 0 < w.heap.size) :
    Calls Tryd.prog 11 #[.agg #[.slice a l.length c, .slice a2 E.length c2], .slice a3 r.length c3] w (PsP l E r w) := by
  obtain ⟨W1, hW1⟩ : ∃ W, w.alloc (.cells #[.slice a l.length c, .slice a2 E.length c2] 25) = W := ⟨_, rfl⟩
  obtain ⟨W2, hW2⟩ : ∃ W, W1.alloc (.cells #[.slice a3 r.length c3] 26) = W := ⟨_, rfl⟩
  have b1 : Below w.heap.size w W1 := by rw [← hW1]; exact bel_one _ _
  have b2 : Below W1.heap.size W1 W2 := by rw [← hW2]; exact bel_one _ _
  have B2 : Hid (Below w.heap.size w W2) := b1.trans (b2.mono b1.size)
  have l2 : W1.heap.size < W2.heap.size := by rw [← hW2]; simp
  have HZ : Hid (W1.heap.size < W2.heap.size) := l2
  have C := Lib.hid (planFor_c a c l a2 c2 E (some ⟨W1.heap.size, 0, none⟩) 1 [r] W2 (hl.below B2.out) (hE.below B2.out) (rdL_one l2 (by rw [← hW2, World.cell?_alloc_new]; rfl) (hr.below B2.out)) hst hst2 (tab_below hT ht B2.out) (Nat.lt_of_lt_of_le ht B2.out.size))
  have x0 : W1.cell? ⟨w.heap.size, 0, none⟩ = some (.slice a l.length c) := by rw [← hW1, World.cell?_alloc_new]; rfl
  have x1 : W1.cell? ⟨w.heap.size, 1, none⟩ = some (.slice a2 E.length c2) := by rw [← hW1, World.cell?_alloc_new]; rfl
  have y0 : W2.cell? ⟨w.heap.size, 0, none⟩ = some (.slice a l.length c) := by exact (b2.cell (p := ⟨w.heap.size, 0, none⟩) (cellLt x0)).trans x0
  have y1 : W2.cell? ⟨w.heap.size, 1, none⟩ = some (.slice a2 E.length c2) := by exact (b2.cell (p := ⟨w.heap.size, 1, none⟩) (cellLt x1)).trans x1
  have C2 : Hid (∀ p V, PlR V p l E → Ok l E → RecOk l r → Below w.heap.size w V → Calls Tryd.prog 27 #[.pointer (some ⟨p, 0, none⟩), .slice a3 r.length c3] V fun e w' => e = .returned (bxV (rbx l r)) ∧ Below V.heap.size V w') := fun p V h hok hb b =>
    boxOf_c p l E a3 c3 r V h hok.n12 (hr.below b) hb.1 fun j hj => by have := hb.2 j hj; omega
  have C3 : Hid (∀ p V, PlR V p l E → Ok l E → Below w.heap.size w V → Calls Tryd.prog 32 #[.pointer (some ⟨p, 0, none⟩), bxV (rbx l r)] V fun e w' => e = .returned (.bool (paB l E r)) ∧ Below V.heap.size V w') := fun p V h hok b => by
    have := passes_c p l E (rbx l r) V h hok (rbx_lt hok r) (tab_below hT ht b) (Nat.lt_of_lt_of_le ht b.size)
    rw [← pa_box hok] at this
    exact this
  obtain ⟨x, hx⟩ : ∃ x, paB l E r = x := ⟨_, rfl⟩
  rw [hx] at C3
  have HX := Lib.hid hx
  clear hx
  unfold PfP at C
  rw [pf_one] at C
  obtain ⟨f, hf⟩ : ∃ f, frS l E r = f := ⟨_, rfl⟩
  rw [hf] at C
  have HF := Lib.hid hf
  obtain ⟨n, hn⟩ : ∃ n, l.length = n := ⟨_, rfl⟩
  obtain ⟨m, hm⟩ : ∃ n, E.length = n := ⟨_, rfl⟩
  obtain ⟨k, hk⟩ : ∃ n, r.length = n := ⟨_, rfl⟩
  rw [hn] at C x0 y0 hW1
  rw [hm] at C x1 y1 hW1
  rw [hk] at C2 hW2
  rw [hn, hm, hk]
  clear hl hE hr hst hst2 hT b1 b2 l2 hf hn hm hk
  unfold bxV at C2 C3
  go_enter Tryd.func11, Tryd.ntmps11
  go_wp2_with fail
  refine C.out.mono ?_
  rintro e1 w2 ⟨b2, h2⟩
  have B3 : Hid (Below w.heap.size w w2) := B2.out.trans (b2.mono B2.out.size)
  clear b2 x0 x1 y0 y1 hW1 hW2
  rcases h2 with ⟨h0, rfl⟩ | ⟨h0, hok, p, rfl, hp⟩
  · have g2 : (f != 0) = true := by simpa using h0
    have PP : Hid (PsP l E r w (.returned (.tuple #[.bool false, .int .i64 f])) w2) := by
      refine ⟨B3.out, .inl ⟨?_, ?_⟩⟩
      · rw [HF.out]; exact h0
      · rw [HF.out]
    clear C C2 C3 h0
    go_wp2
    go_ret2
    exact PP.out
  · have HB := Lib.hid (fr_ok (HF.out.trans h0)).2
    have HOK := Lib.hid hok
    have HP := Lib.hid hp
    have C4 := Lib.hid (C2.out p w2 hp hok HB.out B3.out)
    have H0 := Lib.hid (HF.out.trans h0)
    subst h0
    clear hp hok C C2
    go_wp2_with fail
    refine C4.out.mono ?_
    rintro e1 w4 ⟨rfl, b4⟩
    have B4 := Lib.hid (B3.out.trans (b4.mono B3.out.size))
    have C5 := Lib.hid (C3.out p w4 (HP.out.below b4) HOK.out B4.out)
    clear C4 C3 b4
    go_wp2_with fail
    refine C5.out.mono ?_
    rintro e1 w5 ⟨rfl, b5⟩
    have PP : Hid (PsP l E r w (.returned (.tuple #[.bool x, .int .i64 0])) w5) := by
      refine ⟨B4.out.trans (b5.mono B4.out.size), .inr ⟨H0.out, ?_⟩⟩
      rw [HX.out]
    clear b5 C5
    go_wp2
    go_ret2
    exact PP.out
end Go.Proofs.YtadfmplafehjlaaDoor
namespace Go.Proofs.YtadfmplafehjlaaDoor
open Go.RowKit Go.WideMaps Go.Maps Go.Shelf

attribute [local go_sem] Oper.semAt_some

theorem drop_headG {α : Type} {rows : List α} {k : Nat} {x : α} {t : List α} (h : rows.drop k = x :: t) : rows[k]? = some x ∧ rows.drop (k + 1) = t ∧ k < rows.length := by
  have hk : k < rows.length := by
    have := congrArg List.length h
    rw [List.length_drop] at this; simp at this; omega
  rw [List.drop_eq_getElem_cons hk] at h
  injection h with h1 h2
  exact ⟨by rw [List.getElem?_eq_getElem hk, h1], h2, hk⟩
theorem lst_succ' (p : Nat → Bool) (n : Nat) : lst p (n + 1) = lst p n ++ (if p n = true then [n] else []) := by
  unfold lst
  rw [List.range_succ, List.filter_append]
  congr 1
  cases e : p n <;> simp [e]
abbrev Prts := List ((Nat → Nat) × Nat)
def DvP (N : Nat → Prop) (rows rest : Prts) (J Jx : Nat → World → Prop) (W : World) (e : Ending) (W' : World) : Prop :=
  (e = .returned (.bool true) ∧ ∃ k', J k' W' ∧ Below W.heap.size W W' ∧ rows.drop k' = rest) ∨ (e = .returned (.bool false) ∧ ∃ k', k' < rows.length ∧ Jx k' W' ∧ Kx N W W')
/-- What the iterator asks of the rounds. -/
structure Dv (w0 : World) (N : Nat → Prop) (p base : Nat) (l : List Fd) (E : List Ed) (l0 : Nat) (rows : Prts) (J Jx : Nat → World → Prop) : Prop where
  pl : PlR w0 p l E
  tab : TabAt 0 Lib.deBruijn64tab w0
  tl : 0 < w0.heap.size
  n : ∀ b, N b → w0.heap.size ≤ b ∧ b < base
  i : ∀ k W, J k W → Below w0.heap.size w0 W ∧ base ≤ W.heap.size
  b : ∀ k W W', J k W → Below base W W' → J k W'
  y : ∀ m k (x : (Nat → Nat) × Nat) W, rows[k]? = some x → J k W → YieldAt Fence.wide m Tryd.prog l0 #[bxV x.1, .int .u64 x.2] W fun e W' => (e = .returned (.bool true) ∧ J (k + 1) W' ∧ Below W.heap.size W W') ∨ (e = .returned (.bool false) ∧ Jx k W' ∧ Kx N W W')
set_option maxRecDepth 100000 in
set_option maxHeartbeats 4000000 in
theorem divide_leaf (w0 : World) (N : Nat → Prop) (p base : Nat) (l : List Fd) (E : List Ed) (l0 : Nat) (rows rest : Prts) (J Jx : Nat → World → Prop) (hv : Dv w0 N p base l E l0 rows J Jx) (i : Nat) (B : Nat → Nat) (F : Nat) (k : Nat) (W : World) (h12 : l.length ≤ 12) (hz : F = 0 ∨ i = l.length) (hJ : J k W) (hd : rows.drop k = (B, F) :: rest) :
    Calls Tryd.prog 79 #[.pointer (some ⟨p, 0, none⟩), bxV B, .int .i64 i, .int .u64 F, .func (.yield l0) #[] #[]] W (DvP N rows rest J Jx W) := by
  obtain ⟨W1, hW1⟩ : ∃ V, W.alloc (.cells #[.int .u64 (B 0), .int .u64 (B 1), .int .u64 (B 2), .int .u64 (B 3), .int .u64 (B 4), .int .u64 (B 5), .int .u64 (B 6), .int .u64 (B 7), .int .u64 (B 8), .int .u64 (B 9), .int .u64 (B 10), .int .u64 (B 11)] 57) = V := ⟨_, rfl⟩
  obtain ⟨q, hq⟩ : ∃ q, W.heap.size = q := ⟨_, rfl⟩
  have B1 : Hid (Below W.heap.size W W1) := by unfold Hid; rw [← hW1]; exact bel_one _ _
  have X1 : Hid (BxAt W1 q 0 B ∧ q < W1.heap.size) := by unfold Hid; rw [← hW1, ← hq]; exact ⟨bx_made W B, by simp⟩
  have J1 := hv.b k W W1 hJ (B1.out.mono (hv.i k W hJ).2)
  have HD := Lib.hid (drop_headG hd)
  obtain ⟨fb, fc, f0, _, _⟩ := (hv.pl.below (hv.i k W1 J1).1).fs
  obtain ⟨fn, tmps, assign, body, hy, hR⟩ := hv.y (7 - 1) k (B, F) W1 HD.out.1 J1
  have R1 := Lib.hid hR
  obtain ⟨n, hn⟩ : ∃ n, l.length = n := ⟨_, rfl⟩
  rw [hn] at f0 h12 hz
  unfold bxV at hy ⊢
  have x0 := X1.out.1 0 (by decide)
  have x1 := X1.out.1 1 (by decide)
  have x2 := X1.out.1 2 (by decide)
  have x3 := X1.out.1 3 (by decide)
  have x4 := X1.out.1 4 (by decide)
  have x5 := X1.out.1 5 (by decide)
  have x6 := X1.out.1 6 (by decide)
  have x7 := X1.out.1 7 (by decide)
  have x8 := X1.out.1 8 (by decide)
  have x9 := X1.out.1 9 (by decide)
  have x10 := X1.out.1 10 (by decide)
  have x11 := X1.out.1 11 (by decide)
  simp only [Nat.zero_add] at x0 x1 x2 x3 x4 x5 x6 x7 x8 x9 x10 x11
  clear hR J1 hJ hd hv hn
  by_cases h0 : F = 0
  · have g1 : ((F : Int) == 0) = true := by rw [h0]; rfl
    clear hz h0
    refine (callsIn_wide (n := 7)).1 (callsIn_of_wp Tryd.func79 rfl trivial ?_ rfl)
    simp only [Tryd.ntmps79, List.size_toArray, List.length_cons, List.length_nil, Nat.reduceAdd, Nat.reduceSub, Array.replicate_succ, Array.replicate_zero, List.push_toArray, List.append_toArray, List.nil_append, List.cons_append]
    gi_wp2_with fail
    refine R1.out.mono ?_
    rintro e W4 (⟨rfl, hJ4, hb4⟩ | ⟨rfl, hJ4, hb4⟩)
    · have PP : Hid (DvP N rows rest J Jx W (.returned (.bool true)) W4) := .inl ⟨rfl, k + 1, hJ4, B1.out.trans (hb4.mono B1.out.size), HD.out.2.1⟩
      clear hJ4 hb4 hy x0 x1 x2 x3 x4 x5 x6 x7 x8 x9 x10 x11 hW1
      gi_wp2
      go_ret
      exact PP.out
    · have PP : Hid (DvP N rows rest J Jx W (.returned (.bool false)) W4) := .inr ⟨rfl, k, HD.out.2.2, hJ4, (Kx.of_below B1.out).trans hb4⟩
      clear hJ4 hb4 hy x0 x1 x2 x3 x4 x5 x6 x7 x8 x9 x10 x11 hW1
      gi_wp2
      go_ret
      exact PP.out
  · have g1 : ((F : Int) == 0) = false := by rw [beq_eq_false_iff_ne]; omega
    have e : i = n := by rcases hz with h | h; exact absurd h h0; exact h
    subst e
    clear hz h0
    refine (callsIn_wide (n := 7)).1 (callsIn_of_wp Tryd.func79 rfl trivial ?_ rfl)
    simp only [Tryd.ntmps79, List.size_toArray, List.length_cons, List.length_nil, Nat.reduceAdd, Nat.reduceSub, Array.replicate_succ, Array.replicate_zero, List.push_toArray, List.append_toArray, List.nil_append, List.cons_append]
    gi_wp2_with fail
    refine R1.out.mono ?_
    rintro e W4 (⟨rfl, hJ4, hb4⟩ | ⟨rfl, hJ4, hb4⟩)
    · have PP : Hid (DvP N rows rest J Jx W (.returned (.bool true)) W4) := .inl ⟨rfl, k + 1, hJ4, B1.out.trans (hb4.mono B1.out.size), HD.out.2.1⟩
      clear hJ4 hb4 hy x0 x1 x2 x3 x4 x5 x6 x7 x8 x9 x10 x11 hW1
      gi_wp2
      go_ret
      exact PP.out
    · have PP : Hid (DvP N rows rest J Jx W (.returned (.bool false)) W4) := .inr ⟨rfl, k, HD.out.2.2, hJ4, (Kx.of_below B1.out).trans hb4⟩
      clear hJ4 hb4 hy x0 x1 x2 x3 x4 x5 x6 x7 x8 x9 x10 x11 hW1
      gi_wp2
      go_ret
      exact PP.out
theorem lst_head {q : Nat → Bool} {t : Nat} (h1 : q t = true) (h2 : ∀ j, j < t → q j = false) : ∀ d, lst q (t + 1 + d) = t :: lst (fun j => q j && decide (t < j)) (t + 1 + d)
  | 0 => by
    have e1 : lst q (t + 1) = [t] := by
      rw [lst_succ', h1, if_pos rfl, lst_none (k := 0) (fun j hj _ => h2 j hj) (Nat.zero_le _)]; rfl
    have e2 : lst (fun j => q j && decide (t < j)) (t + 1) = [] := by
      rw [lst_none (k := 0) (fun j hj _ => by simp; omega) (Nat.zero_le _)]; rfl
    rw [Nat.add_zero, e1, e2]
  | d + 1 => by
    have ih := lst_head h1 h2 d
    rw [← Nat.add_assoc, lst_succ', lst_succ', ih]
    have : (q (t + 1 + d) && decide (t < t + 1 + d)) = q (t + 1 + d) := by rw [decide_eq_true (by omega), Bool.and_true]
    rw [this]; rfl
/-- Fifteen cells. -/
def S15 (b : Nat) (C : Nat → Nat) (a1 a2 a3 : Addr) (v1 v2 v3 : Value) (w : World) : Prop := w.cell? ⟨b, 0, none⟩ = some (.int .u64 (C 0)) ∧ w.cell? ⟨b, 1, none⟩ = some (.int .u64 (C 1)) ∧ w.cell? ⟨b, 2, none⟩ = some (.int .u64 (C 2)) ∧ w.cell? ⟨b, 3, none⟩ = some (.int .u64 (C 3)) ∧ w.cell? ⟨b, 4, none⟩ = some (.int .u64 (C 4)) ∧ w.cell? ⟨b, 5, none⟩ = some (.int .u64 (C 5)) ∧ w.cell? ⟨b, 6, none⟩ = some (.int .u64 (C 6)) ∧ w.cell? ⟨b, 7, none⟩ = some (.int .u64 (C 7)) ∧ w.cell? ⟨b, 8, none⟩ = some (.int .u64 (C 8)) ∧ w.cell? ⟨b, 9, none⟩ = some (.int .u64 (C 9)) ∧ w.cell? ⟨b, 10, none⟩ = some (.int .u64 (C 10)) ∧ w.cell? ⟨b, 11, none⟩ = some (.int .u64 (C 11)) ∧ w.cell? a1 = some v1 ∧ w.cell? a2 = some v2 ∧ w.cell? a3 = some v3
end Go.Proofs.YtadfmplafehjlaaDoor
namespace Go.Proofs.YtadfmplafehjlaaDoor
open Go.RowKit Go.WideMaps Go.Maps Go.Shelf

attribute [local go_sem] Oper.semAt_some

theorem bits_lt {x k n : Nat} (h : x < 2 ^ n) (hb : x.testBit k = true) : k < n := by
  have h1 := Nat.ge_two_pow_of_testBit hb
  have : 2 ^ k < 2 ^ n := Nat.lt_of_le_of_lt h1 h
  exact (Nat.pow_lt_pow_iff_right (by omega)).1 this
theorem bz_self {x n : Nat} (h : x < 2 ^ n) : bz (fun k => x.testBit k) n = x := nat_ext fun j => by
  rw [bz_bit]
  by_cases hj : j < n
  · simp [hj]
  · have : x.testBit j = false := Nat.testBit_lt_two_pow (Nat.lt_of_lt_of_le h (Nat.pow_le_pow_right (by omega) (by omega)))
    rw [this]; simp
/-- Between two parts. -/
structure DvI (N : Nat → Prop) (l : List Fd) (E : List Ed) (rows rest : Prts) (J : Nat → World → Prop) (W : World) (d i : Nat) (B : Nat → Nat) (F pb t x k : Nat) (B' : Nat → Nat) (wr : World) : Prop where
  k20 : t ≤ 20
  x : bz (fun k => (B i).testBit k && decide (t ≤ k)) 20 = x
  bx : BxAt wr pb 0 B'
  bo : ∀ j, j ≠ i → B' j = B j
  fr : ∀ o, wr.frozen? ⟨pb, o, none⟩ = false
  lt : pb < wr.heap.size
  j : J k wr
  bel : Below W.heap.size W wr
  dr : rows.drop k = ((lst (fun k => (B i).testBit k && decide (t ≤ k)) 20).flatMap fun k => prt l E d (i + 1) (upd B i (2 ^ k)) (F &&& hdS l E i k)) ++ rest
set_option maxRecDepth 100000 in
set_option maxHeartbeats 16000000 in
theorem divide_c (w0 : World) (N : Nat → Prop) (p base : Nat) (l : List Fd) (E : List Ed) (l0 : Nat) (rows : Prts) (J Jx : Nat → World → Prop) (hv : Dv w0 N p base l E l0 rows J Jx) (hok : Ok l E) :
    ∀ (d i : Nat) (B : Nat → Nat) (F k : Nat) (rest : Prts) (W : World), i + d = l.length → (∀ j, j < l.length → B j < 2 ^ (fd l j).cs.length) → F < 2 ^ 60 → J k W → rows.drop k = prt l E d i B F ++ rest →
    Calls Tryd.prog 79 #[.pointer (some ⟨p, 0, none⟩), bxV B, .int .i64 i, .int .u64 F, .func (.yield l0) #[] #[]] W (DvP N rows rest J Jx W) := by
  have mixed : Tryd.prog.follows .mixedOrders = true := by kernel_rfl
  intro d
  induction d with
  | zero =>
    intro i B F k rest W hid hB hF hJ hd
    exact divide_leaf w0 N p base l E l0 rows rest J Jx hv i B F k W hok.n12 (.inr (by omega)) hJ hd
  | succ d ih =>
    intro i B F k rest W hid hB hF hJ hd
    by_cases h0 : F = 0
    · refine divide_leaf w0 N p base l E l0 rows rest J Jx hv i B F k W hok.n12 (.inl h0) hJ ?_
      rw [hd]; unfold prt; rw [if_pos h0]; rfl
    have hil : i < l.length := by omega
    have hpr : prt l E (d + 1) i B F = (lst (fun k => (B i).testBit k) 20).flatMap fun k => prt l E d (i + 1) (upd B i (2 ^ k)) (F &&& hdS l E i k) := by
      show (if F = 0 then _ else _) = _
      rw [if_neg h0]
    rw [hpr] at hd
    have h20 := hok.c20 i hil
    have hBi := hB i hil
    have hB20 : B i < 2 ^ 20 := Nat.lt_of_lt_of_le hBi (Nat.pow_le_pow_right (by omega) h20)
    obtain ⟨W1, hW1⟩ : ∃ V, W.alloc (.cells #[.int .u64 (B 0), .int .u64 (B 1), .int .u64 (B 2), .int .u64 (B 3), .int .u64 (B 4), .int .u64 (B 5), .int .u64 (B 6), .int .u64 (B 7), .int .u64 (B 8), .int .u64 (B 9), .int .u64 (B 10), .int .u64 (B 11)] 57) = V := ⟨_, rfl⟩
    obtain ⟨W2, hW2⟩ : ∃ V, W1.alloc (.cells #[.int .u64 (B 0), .int .u64 (B 1), .int .u64 (B 2), .int .u64 (B 3), .int .u64 (B 4), .int .u64 (B 5), .int .u64 (B 6), .int .u64 (B 7), .int .u64 (B 8), .int .u64 (B 9), .int .u64 (B 10), .int .u64 (B 11)] 57) = V := ⟨_, rfl⟩
    obtain ⟨q, hq⟩ : ∃ q, W.heap.size = q := ⟨_, rfl⟩
    obtain ⟨pb, hpb⟩ : ∃ q, W1.heap.size = q := ⟨_, rfl⟩
    have b1 : Below W.heap.size W W1 := by rw [← hW1]; exact bel_one _ _
    have b2 : Below W1.heap.size W1 W2 := by rw [← hW2]; exact bel_one _ _
    have B2 : Hid (Below W.heap.size W W2) := b1.trans (b2.mono b1.size)
    have X1 : BxAt W1 q 0 B ∧ q < W1.heap.size := by rw [← hW1, ← hq]; exact ⟨bx_made W B, by simp⟩
    have X2 : Hid (BxAt W2 pb 0 B ∧ pb < W2.heap.size ∧ ∀ o, W2.frozen? ⟨pb, o, none⟩ = false) := by unfold Hid; rw [← hW2, ← hpb]; exact ⟨bx_made W1 B, by simp, fun o => by simp⟩
    have HBS := Lib.hid (hv.i k W hJ).2
    have HPB : Hid (base ≤ pb ∧ W.heap.size ≤ pb) := by
      have h1 := HBS.out
      have h2 := b1.size
      unfold Hid
      omega
    have J2 := hv.b k W W2 hJ (B2.out.mono HBS.out)
    have P1 := hv.pl.below (hv.i k W1 (hv.b k W W1 hJ (b1.mono HBS.out))).1
    obtain ⟨fb, fc, f0, _, hfa⟩ := hv.pl.fs
    have HFA := Lib.hid hfa
    have HF0 := Lib.hid f0
    have HV := Lib.hid hv
    have fW : ∀ V, Below w0.heap.size w0 V → V.cell? ⟨p, 0, none⟩ = some (.slice (some ⟨fb, 0, none⟩) l.length fc) := fun V hV => (hV.cell (p := ⟨p, 0, none⟩) (cellLt f0)).trans f0
    have f1 := fW W1 (hv.i k W1 (hv.b k W W1 hJ (b1.mono HBS.out))).1
    have g0 : ((F : Int) == 0) = false := by rw [beq_eq_false_iff_ne]; omega
    obtain ⟨n, hn⟩ : ∃ n, l.length = n := ⟨_, rfl⟩
    have HN := Lib.hid hn
    have g1 : ((i : Int) == (n : Int)) = false := by rw [beq_eq_false_iff_ne]; omega
    have hi0 : (0 : Int) ≤ (i : Int) := by omega
    have hin : (i : Int) < (n : Int) := by omega
    have hi12 : (i : Int) < 12 := by have := hok.n12; omega
    have hi12' : i < 12 := by omega
    rw [hn] at f1
    have HOK := Lib.hid hok
    have HIH := Lib.hid ih
    have HB := Lib.hid hB
    have HF := Lib.hid hF
    have HIL := Lib.hid hil
    have HID : Hid (i + 1 + d = l.length) := by unfold Hid; omega
    have hxi : W2.cell? ⟨q, i, none⟩ = some (.int .u64 (B i)) := by
      have := (b2.cell (p := ⟨q, 0 + i, none⟩) X1.2).trans (X1.1 i hi12')
      rwa [Nat.zero_add] at this
    obtain ⟨x0v, hx0⟩ : ∃ v, B i = v := ⟨_, rfl⟩
    rw [hx0] at hxi
    have I0 : Hid (DvI N l E rows rest J W d i B F pb 0 x0v k B W2) := by
      refine ⟨by omega, ?_, X2.out.1, fun _ _ => rfl, X2.out.2.2, X2.out.2.1, J2, B2.out, ?_⟩
      · rw [← hx0]
        refine Eq.trans (bz_ext fun j _ => by simp) (bz_self hB20)
      · rw [hd]
        congr 2
        congr 1
        funext j; simp
    have HX1 := Lib.hid X1
    have x0 := X1.1 0 (by decide)
    have x1 := X1.1 1 (by decide)
    have x2 := X1.1 2 (by decide)
    have x3 := X1.1 3 (by decide)
    have x4 := X1.1 4 (by decide)
    have x5 := X1.1 5 (by decide)
    have x6 := X1.1 6 (by decide)
    have x7 := X1.1 7 (by decide)
    have x8 := X1.1 8 (by decide)
    have x9 := X1.1 9 (by decide)
    have x10 := X1.1 10 (by decide)
    have x11 := X1.1 11 (by decide)
    simp only [Nat.zero_add] at x0 x1 x2 x3 x4 x5 x6 x7 x8 x9 x10 x11
    clear hfa hv hok ih hid hB hF hJ hd hpr h20 hBi hB20 b1 b2 J2 P1 f0 fW hn hil hx0 X1 h0
    unfold bxV
    go_enter Tryd.func79, Tryd.ntmps79
    go_wp2_with fail
    clear x0 x1 x2 x3 x4 x5 x6 x7 x8 x9 x10 x11 hxi f1 hW1 hW2
    go_loopw [12] (fun rv wr => ∃ (t x kk : Nat) (B' : Nat → Nat), rv = .int .u64 x ∧ Hid (DvI N l E rows rest J W d i B F pb t x kk B' wr)) (fun rv _ => (intOf rv).toNat)
    case atStart => exact ⟨0, x0v, k, B, rfl, I0.out⟩
    case round =>
      clear I0
      obtain ⟨t0, x, kk, B', rfl, hS⟩ := hrel
      have I := hS.out
      by_cases h0 : x = 0
      · have hx0 : ((0 : Int) != 0) = false := rfl
        have PP : Hid (DvP N rows rest J Jx W (.returned (.bool true)) wr) := by
          refine .inl ⟨rfl, kk, I.j, I.bel, ?_⟩
          rw [I.dr]
          have : lst (fun k => (B i).testBit k && decide (t0 ≤ k)) 20 = [] := by
            have h := I.x
            rw [h0] at h
            rw [lst_none (k := 0) (fun j hj _ => bz_zero.1 h j hj) (Nat.zero_le _)]; rfl
          rw [this]; rfl
        subst h0
        clear I hS
        go_wp2
        go_ret
        exact PP.out
      · have hxx := I.x
        have hx64 : x < 18446744073709551616 := by rw [← hxx]; exact Nat.lt_of_lt_of_le (bz_lt _ 20) (Nat.pow_le_pow_right (by omega) (show 20 ≤ 64 by omega))
        have hne : ((x : Int) == 0) = false := by rw [beq_eq_false_iff_ne]; omega
        have hne' : ((x : Int) != 0) = true := by rw [bne, hne]; rfl
        obtain ⟨t, ht1, ht2, ht3⟩ := bz_first (p := fun j => (B i).testBit j && decide (t0 ≤ j)) (n := 20) (by rw [hxx]; exact h0)
        have htk : t0 ≤ t ∧ (B i).testBit t = true := by simp at ht2; exact ⟨ht2.2, ht2.1⟩
        have htc : t < (fd l i).cs.length := bits_lt (HB.out i HIL.out) htk.2
        have hJi := HV.out.i kk wr I.j
        have C := Lib.hid (first_c x wr hx64 h0 (tab_below HV.out.tab HV.out.tl hJi.1))
        have hc : Lib.ctz 64 x = t := by rw [← hxx]; exact ctz_bz (by omega) ht1 ht2 ht3
        rw [hc] at C
        have C8 : Hid (∀ V, Calls Tryd.prog 70 #[.int .i64 t] V fun e w' => e = .returned (.int .u64 ((2 ^ t : Nat) : Int)) ∧ w' = V) := fun V => only_c t V (by omega)
        have hand : bits .and .u64 (x : Int) ((x - 1 : Nat) : Int) = ((x &&& (x - 1) : Nat) : Int) := Go.u64_and_nat _ _ hx64 (by omega)
        have hsub : IntKind.u64.wrap ((x : Int) - 1) = ((x - 1 : Nat) : Int) := by rw [IntKind.wrap_u64]; omega
        obtain ⟨z, hz⟩ : ∃ y, x &&& (x - 1) = y := ⟨_, rfl⟩
        have hzlt : z < x := by rw [← hz]; have := Nat.and_le_right (n := x) (m := x - 1); omega
        have HZ : Hid (bz (fun j => (B i).testBit j && decide (t + 1 ≤ j)) 20 = z) := by
          unfold Hid
          rw [← hz, ← hxx, bz_pred ht1 ht2 ht3]
          refine bz_ext fun j _ => ?_
          have := htk.1
          rw [Bool.eq_iff_iff]; simp
          exact ⟨fun a => ⟨⟨a.1, by omega⟩, by omega⟩, fun a => ⟨a.1.1, by omega⟩⟩
        have HL : Hid (lst (fun k => (B i).testBit k && decide (t0 ≤ k)) 20 = t :: lst (fun k => (B i).testBit k && decide (t + 1 ≤ k)) 20) := by
          unfold Hid
          have h := lst_head (q := fun k => (B i).testBit k && decide (t0 ≤ k)) ht2 ht3 (20 - (t + 1))
          rw [show t + 1 + (20 - (t + 1)) = 20 by omega] at h
          rw [h]
          congr 2
          funext j
          have := htk.1
          rw [Bool.eq_iff_iff]; simp
          exact ⟨fun a => ⟨a.1.1, by omega⟩, fun a => ⟨⟨a.1, by omega⟩, by omega⟩⟩
        obtain ⟨z1, hz1⟩ : ∃ z, x - 1 = z := ⟨_, rfl⟩
        rw [hz, hz1] at hand
        rw [hz1] at hsub
        obtain ⟨_, _, h, c4', c4, hlt4, hh⟩ := HFA.out i HIL.out
        have c5 := hh t htc
        obtain ⟨hk, hhk⟩ : ∃ v, hdS l E i t = v := ⟨_, rfl⟩
        have hklt : hk < 18446744073709551616 := by rw [← hhk]; exact hd_lt _ _ _ _ HOK.out.m60
        obtain ⟨m, hm⟩ : ∃ m, (fd l i).cs.length = m := ⟨_, rfl⟩
        rw [hhk] at c5
        rw [hm] at c4 htc
        have ht0 : (0 : Int) ≤ (t : Int) := by omega
        have htm : (t : Int) < (m : Int) := by omega
        have hF64 : F < 18446744073709551616 := Nat.lt_of_lt_of_le HF.out (by decide)
        have handF : bits .and .u64 (F : Int) (hk : Int) = ((F &&& hk : Nat) : Int) := Go.u64_and_nat _ _ hF64 hklt
        obtain ⟨y, hy⟩ : ∃ y, F &&& hk = y := ⟨_, rfl⟩
        have hy60 : y < 2 ^ 60 := by rw [← hy]; exact Nat.lt_of_le_of_lt Nat.and_le_left HF.out
        rw [hy] at handF
        obtain ⟨p2, hp2⟩ : ∃ v, 2 ^ t = v := ⟨_, rfl⟩
        rw [hp2] at C8
        obtain ⟨C', hC'⟩ : ∃ D, upd B i p2 = D := ⟨_, rfl⟩
        have hI := HV.out
        obtain ⟨W5, hW5⟩ : ∃ V, wr.setCell ⟨pb, i, none⟩ (.int .u64 p2) = V := ⟨_, rfl⟩
        have BX5 : BxAt W5 pb 0 C' := by
          have h1 := I.bx.set (k := i) hi12' p2
          rw [Nat.zero_add, hW5] at h1
          have e : upd B' i p2 = C' := by
            rw [← hC']
            funext j
            unfold upd
            by_cases e : j = i
            · rw [if_pos e, if_pos e]
            · rw [if_neg e, if_neg e]; exact I.bo j e
          rw [e] at h1; exact h1
        have BW5 : Hid (Below W.heap.size W W5) := by unfold Hid; rw [← hW5]; exact I.bel.setCell (p := ⟨pb, i, none⟩) HPB.out.2 _
        have J5 : Hid (J kk W5) := by unfold Hid; rw [← hW5]; exact hI.b kk wr _ I.j ((Below.refl base wr).setCell (p := ⟨pb, i, none⟩) HPB.out.1 _)
        have S5 : Hid (base ≤ W5.heap.size) := (hI.i kk W5 J5.out).2
        have l5 : pb < W5.heap.size := cellLt (BX5 0 (by omega))
        have HS5 : Hid (S15 pb C' ⟨p, 0, none⟩ ⟨fb, i * 5 + 4, none⟩ ⟨h, t, none⟩ (.slice (some ⟨fb, 0, none⟩) n fc) (.slice (some ⟨h, 0, none⟩) m c4') (.int .u64 (hk : Nat)) W5) := by
          have b0 := (hI.i kk W5 J5.out).1
          have e0 := (b0.cell (p := ⟨p, 0, none⟩) (cellLt HF0.out)).trans HF0.out
          rw [HN.out] at e0
          have e1 := (b0.cell (p := ⟨fb, i * 5 + 4, none⟩) (cellLt c4)).trans c4
          have e2 := (b0.cell (p := ⟨h, t, none⟩) hlt4).trans c5
          have X := fun j (hj : j < 12) => (by have := BX5 j hj; rwa [Nat.zero_add] at this : W5.cell? ⟨pb, j, none⟩ = some (.int .u64 (C' j)))
          exact ⟨X 0 (by omega), X 1 (by omega), X 2 (by omega), X 3 (by omega), X 4 (by omega), X 5 (by omega), X 6 (by omega), X 7 (by omega), X 8 (by omega), X 9 (by omega), X 10 (by omega), X 11 (by omega), e0, e1, e2⟩
        have HSK : Hid (∀ V, Kx N W5 V → S15 pb C' ⟨p, 0, none⟩ ⟨fb, i * 5 + 4, none⟩ ⟨h, t, none⟩ (.slice (some ⟨fb, 0, none⟩) n fc) (.slice (some ⟨h, 0, none⟩) m c4') (.int .u64 (hk : Nat)) V) := fun V hV => by
          have n1 : ¬ N pb := fun e => by have := (hI.n pb e).2; have := HPB.out.1; omega
          have n2 : ∀ b, b < w0.heap.size → ¬ N b := fun b hb e => by have := (hI.n b e).1; omega
          obtain ⟨s0, s1, s2, s3, s4, s5, s6, s7, s8, s9, s10, s11, s12, s13, s14⟩ := HS5.out
          exact ⟨hV.cell s0 n1, hV.cell s1 n1, hV.cell s2 n1, hV.cell s3 n1, hV.cell s4 n1, hV.cell s5 n1, hV.cell s6 n1, hV.cell s7 n1, hV.cell s8 n1, hV.cell s9 n1, hV.cell s10 n1, hV.cell s11 n1,
            hV.cell s12 (n2 _ (cellLt HF0.out)), hV.cell s13 (n2 _ (cellLt c4)), hV.cell s14 (n2 _ hlt4)⟩
        obtain ⟨rest1, hrest⟩ : ∃ r, ((lst (fun k => (B i).testBit k && decide (t + 1 ≤ k)) 20).flatMap fun k => prt l E d (i + 1) (upd B i (2 ^ k)) (F &&& hdS l E i k)) ++ rest = r := ⟨_, rfl⟩
        have hdr : rows.drop kk = prt l E d (i + 1) C' y ++ rest1 := by
          rw [I.dr, HL.out, List.flatMap_cons, List.append_assoc, hrest, hhk, hy, hp2, hC']
        have C9 : ∀ V, Below W5.heap.size W5 V → Calls Tryd.prog 79 #[.pointer (some ⟨p, 0, none⟩), bxV C', .int .i64 ((i + 1 : Nat) : Int), .int .u64 y, .func (.yield l0) #[] #[]] V (DvP N rows rest1 J Jx V) := fun V hV =>
          HIH.out (i + 1) C' y kk rest1 V HID.out (fun j hj => by
            rw [← hC', ← hp2]
            unfold upd
            by_cases e : j = i
            · rw [if_pos e, e]; exact Nat.pow_lt_pow_right (by omega) (by omega)
            · rw [if_neg e]; exact HB.out j hj) hy60 (hI.b kk W5 V J5.out (hV.mono S5.out)) hdr
        have ek1 : ((i + 1 : Nat) : Int) = (i : Int) + 1 := by omega
        have hw1 : IntKind.i64.wrap ((i : Int) + 1) = (i : Int) + 1 := by rw [IntKind.wrap_i64]; omega
        rw [ek1] at C9
        unfold bxV DvP at C9
        have C9 := Lib.hid C9
        have NXT : Hid (∀ V, Below W5.heap.size W5 V → ∀ k', J k' V → rows.drop k' = rest1 → DvI N l E rows rest J W d i B F pb (t + 1) z k' C' V) := fun V hV k' hJ' hd' => by
          refine ⟨by omega, HZ.out, BX5.below hV l5, fun j hj => by rw [← hC']; unfold upd; rw [if_neg hj], fun o => ?_, Nat.lt_of_lt_of_le l5 hV.size, hJ', BW5.out.trans (hV.mono BW5.out.size), by rw [hd', hrest]⟩
          refine (hV.frozen (p := ⟨pb, o, none⟩) l5).trans ?_
          rw [← hW5, World.frozen?_setCell]; exact I.fr o
        have d0 := I.bx i hi12'
        rw [Nat.zero_add] at d0
        obtain ⟨dv, hdv⟩ : ∃ v, B' i = v := ⟨_, rfl⟩
        rw [hdv] at d0
        have d1 := I.fr i
        clear I hS hxx ht2 ht3 htk hJi hc hz h0 hne hh c5 c4 hhk hklt hm hF64 hy hy60 hp2 hC' hI BX5 l5 hrest hdr hdv htc hx64
        go_wp2_with fail
        refine C.out.mono ?_
        rintro e1 w3 ⟨rfl, rfl⟩
        go_wp2_with fail
        refine (C8.out _).mono ?_
        rintro e1 w4 ⟨rfl, rfl⟩
        go_wp2_with fail
        try rw [hW5]
        clear d0 d1 hW5
        refine wp_region_noPanic ?_
        refine wp_region_held_drew (S := (S15 pb C' ⟨p, 0, none⟩ ⟨fb, i * 5 + 4, none⟩ ⟨h, t, none⟩ (.slice (some ⟨fb, 0, none⟩) n fc) (.slice (some ⟨h, 0, none⟩) m c4') (.int .u64 (hk : Nat)))) (by kernel_rfl) (by exact HS5.out) (fun hS => ?_)
        obtain ⟨WD, hWD⟩ : ∃ W, W5.drew = W := ⟨_, rfl⟩
        have D0 : Hid (Below W5.heap.size W5 WD) := by unfold Hid; rw [← hWD]; exact (Below.refl _ _).drew
        rw [hWD] at hS ⊢
        clear hWD
        refine wpAnyH_take (i := 0) (v := ?v0a0) rfl (by kernel_rfl) (by kernel_rfl) (by kernel_rfl) (fun _ _ _ h => h) (Or.inl ⟨by rfl, ?hy0a0⟩) (by assumption) ?rest0a0
        case hy0a0 =>
          intro w hSw
          dsimp only [S15] at hSw
          go_simp
          try with_reducible rfl
        simp only [Act.put, List.getElem_toArray, List.getElem_cons_succ, List.getElem_cons_zero, List.setIfInBounds_toArray, List.set_cons_zero, List.set_cons_succ]
        refine wpAnyH_take (i := 1) (v := ?v1a1) rfl (by kernel_rfl) (by kernel_rfl) (by kernel_rfl) (fun _ _ _ h => h) (Or.inl ⟨by rfl, ?hy1a1⟩) (by assumption) ?rest1a1
        case hy1a1 =>
          intro w hSw
          dsimp only [S15] at hSw
          go_simp
          try with_reducible rfl
        simp only [Act.put, List.getElem_toArray, List.getElem_cons_succ, List.getElem_cons_zero, List.setIfInBounds_toArray, List.set_cons_zero, List.set_cons_succ]
        refine wpAnyH_take (i := 2) (v := ?v2a2) rfl (by kernel_rfl) (by kernel_rfl) (by kernel_rfl) (fun _ _ _ h => h) (Or.inl ⟨by rfl, ?hy2a2⟩) (by assumption) ?rest2a2
        case hy2a2 =>
          intro w hSw
          dsimp only [S15] at hSw
          go_simp
          try with_reducible rfl
        simp only [Act.put, List.getElem_toArray, List.getElem_cons_succ, List.getElem_cons_zero, List.setIfInBounds_toArray, List.set_cons_zero, List.set_cons_succ]
        refine wpAnyH_take (i := 3) (v := ?v3a3) rfl (by kernel_rfl) (by kernel_rfl) (by kernel_rfl) (fun _ _ _ h => h) (Or.inl ⟨by rfl, ?hy3a3⟩) (by assumption) ?rest3a3
        case hy3a3 =>
          intro w hSw
          dsimp only [S15] at hSw
          go_simp
          try with_reducible rfl
        simp only [Act.put, List.getElem_toArray, List.getElem_cons_succ, List.getElem_cons_zero, List.setIfInBounds_toArray, List.set_cons_zero, List.set_cons_succ]
        refine wpAnyH_take (i := 4) (v := ?v4a4) rfl (by kernel_rfl) (by kernel_rfl) (by kernel_rfl) (fun _ _ _ h => h) (Or.inl ⟨by rfl, ?hy4a4⟩) (by assumption) ?rest4a4
        case hy4a4 =>
          intro w hSw
          dsimp only [S15] at hSw
          go_simp
          try with_reducible rfl
        simp only [Act.put, List.getElem_toArray, List.getElem_cons_succ, List.getElem_cons_zero, List.setIfInBounds_toArray, List.set_cons_zero, List.set_cons_succ]
        refine wpAnyH_take (i := 5) (v := ?v5a5) rfl (by kernel_rfl) (by kernel_rfl) (by kernel_rfl) (fun _ _ _ h => h) (Or.inl ⟨by rfl, ?hy5a5⟩) (by assumption) ?rest5a5
        case hy5a5 =>
          intro w hSw
          dsimp only [S15] at hSw
          go_simp
          try with_reducible rfl
        simp only [Act.put, List.getElem_toArray, List.getElem_cons_succ, List.getElem_cons_zero, List.setIfInBounds_toArray, List.set_cons_zero, List.set_cons_succ]
        refine wpAnyH_take (i := 6) (v := ?v6a6) rfl (by kernel_rfl) (by kernel_rfl) (by kernel_rfl) (fun _ _ _ h => h) (Or.inl ⟨by rfl, ?hy6a6⟩) (by assumption) ?rest6a6
        case hy6a6 =>
          intro w hSw
          dsimp only [S15] at hSw
          go_simp
          try with_reducible rfl
        simp only [Act.put, List.getElem_toArray, List.getElem_cons_succ, List.getElem_cons_zero, List.setIfInBounds_toArray, List.set_cons_zero, List.set_cons_succ]
        refine wpAnyH_take (i := 7) (v := ?v7a7) rfl (by kernel_rfl) (by kernel_rfl) (by kernel_rfl) (fun _ _ _ h => h) (Or.inl ⟨by rfl, ?hy7a7⟩) (by assumption) ?rest7a7
        case hy7a7 =>
          intro w hSw
          dsimp only [S15] at hSw
          go_simp
          try with_reducible rfl
        simp only [Act.put, List.getElem_toArray, List.getElem_cons_succ, List.getElem_cons_zero, List.setIfInBounds_toArray, List.set_cons_zero, List.set_cons_succ]
        refine wpAnyH_take (i := 8) (v := ?v8a8) rfl (by kernel_rfl) (by kernel_rfl) (by kernel_rfl) (fun _ _ _ h => h) (Or.inl ⟨by rfl, ?hy8a8⟩) (by assumption) ?rest8a8
        case hy8a8 =>
          intro w hSw
          dsimp only [S15] at hSw
          go_simp
          try with_reducible rfl
        simp only [Act.put, List.getElem_toArray, List.getElem_cons_succ, List.getElem_cons_zero, List.setIfInBounds_toArray, List.set_cons_zero, List.set_cons_succ]
        refine wpAnyH_take (i := 9) (v := ?v9a9) rfl (by kernel_rfl) (by kernel_rfl) (by kernel_rfl) (fun _ _ _ h => h) (Or.inl ⟨by rfl, ?hy9a9⟩) (by assumption) ?rest9a9
        case hy9a9 =>
          intro w hSw
          dsimp only [S15] at hSw
          go_simp
          try with_reducible rfl
        simp only [Act.put, List.getElem_toArray, List.getElem_cons_succ, List.getElem_cons_zero, List.setIfInBounds_toArray, List.set_cons_zero, List.set_cons_succ]
        refine wpAnyH_take (i := 10) (v := ?v10a10) rfl (by kernel_rfl) (by kernel_rfl) (by kernel_rfl) (fun _ _ _ h => h) (Or.inl ⟨by rfl, ?hy10a10⟩) (by assumption) ?rest10a10
        case hy10a10 =>
          intro w hSw
          dsimp only [S15] at hSw
          go_simp
          try with_reducible rfl
        simp only [Act.put, List.getElem_toArray, List.getElem_cons_succ, List.getElem_cons_zero, List.setIfInBounds_toArray, List.set_cons_zero, List.set_cons_succ]
        refine wpAnyH_take (i := 11) (v := ?v11a11) rfl (by kernel_rfl) (by kernel_rfl) (by kernel_rfl) (fun _ _ _ h => h) (Or.inl ⟨by rfl, ?hy11a11⟩) (by assumption) ?rest11a11
        case hy11a11 =>
          intro w hSw
          dsimp only [S15] at hSw
          go_simp
          try with_reducible rfl
        simp only [Act.put, List.getElem_toArray, List.getElem_cons_succ, List.getElem_cons_zero, List.setIfInBounds_toArray, List.set_cons_zero, List.set_cons_succ]
        refine wpAnyH_take (i := 12) (v := ?v12a12) rfl (by kernel_rfl) (by kernel_rfl) (by kernel_rfl) (fun _ _ _ h => h) (Or.inl ⟨by rfl, ?hy12a12⟩) (by assumption) ?rest12a12
        case hy12a12 =>
          intro w hSw
          dsimp only [S15] at hSw
          go_simp
          try with_reducible rfl
        simp only [Act.put, List.getElem_toArray, List.getElem_cons_succ, List.getElem_cons_zero, List.setIfInBounds_toArray, List.set_cons_zero, List.set_cons_succ]
        refine wpAnyH_take (i := 13) (v := ?v13a13) rfl (by kernel_rfl) (by kernel_rfl) (by kernel_rfl) (fun _ _ _ h => h) (Or.inl ⟨by rfl, ?hy13a13⟩) (by assumption) ?rest13a13
        case hy13a13 =>
          intro w hSw
          dsimp only [S15] at hSw
          go_simp
          try with_reducible rfl
        simp only [Act.put, List.getElem_toArray, List.getElem_cons_succ, List.getElem_cons_zero, List.setIfInBounds_toArray, List.set_cons_zero, List.set_cons_succ]
        refine wpAnyH_take (i := 14) (v := ?v14a14) rfl (by kernel_rfl) (by kernel_rfl) (by kernel_rfl) (fun _ _ _ h => h) (Or.inl ⟨by rfl, ?hy14a14⟩) (by assumption) ?rest14a14
        case hy14a14 =>
          intro w hSw
          dsimp only [S15] at hSw
          go_simp
          try with_reducible rfl
        simp only [Act.put, List.getElem_toArray, List.getElem_cons_succ, List.getElem_cons_zero, List.setIfInBounds_toArray, List.set_cons_zero, List.set_cons_succ]
        refine wpAnyH_take (i := 15) (v := ?v15a15) rfl (by kernel_rfl) (by kernel_rfl) (by kernel_rfl) (fun _ _ _ h => h) (Or.inl ⟨by rfl, ?hy15a15⟩) (by assumption) ?rest15a15
        case hy15a15 =>
          intro w hSw
          dsimp only [S15] at hSw
          go_simp
          try with_reducible rfl
        simp only [Act.put, List.getElem_toArray, List.getElem_cons_succ, List.getElem_cons_zero, List.setIfInBounds_toArray, List.set_cons_zero, List.set_cons_succ]
        refine wpAnyH_take (i := 16) (v := ?v16a16) rfl (by kernel_rfl) (by kernel_rfl) (by kernel_rfl) (fun _ _ _ h => h) (Or.inl ⟨by rfl, ?hy16a16⟩) (by assumption) ?rest16a16
        case hy16a16 =>
          intro w hSw
          dsimp only [S15] at hSw
          go_simp
          try with_reducible rfl
        simp only [Act.put, List.getElem_toArray, List.getElem_cons_succ, List.getElem_cons_zero, List.setIfInBounds_toArray, List.set_cons_zero, List.set_cons_succ]
        refine wpAnyH_take (i := 17) (v := ?v17a17) rfl (by kernel_rfl) (by kernel_rfl) (by kernel_rfl) (fun _ _ _ h => h) (Or.inl ⟨by rfl, ?hy17a17⟩) (by assumption) ?rest17a17
        case hy17a17 =>
          intro w hSw
          dsimp only [S15] at hSw
          go_simp
          try with_reducible rfl
        simp only [Act.put, List.getElem_toArray, List.getElem_cons_succ, List.getElem_cons_zero, List.setIfInBounds_toArray, List.set_cons_zero, List.set_cons_succ]
        refine wpAnyH_ready (rs := [18]) (by kernel_rfl) (by simp) ?_
        refine AllReadyH.cons rfl (fun K hK => ?_) AllReadyH.nil
        go_simp
        refine (C9.out WD D0.out).mono ?_
        rintro e1 w6 (⟨rfl, k', hJ6, b6, hd6⟩ | ⟨rfl, k', hk6, hJ6, kx6⟩)
        · have hT := HSK.out w6 (Kx.of_below (D0.out.trans (b6.mono D0.out.size)))
          have NX := Lib.hid (NXT.out w6 (D0.out.trans (b6.mono D0.out.size)) k' hJ6 hd6)
          clear hJ6 hd6 b6
          try go_simp
          refine hK _ _ hT (fun _ => ?_)
          clear hK K hT
          try simp only [Act.put, List.setIfInBounds_toArray, List.set_cons_zero, List.set_cons_succ]
          refine wpAnyH_take (i := 19) (v := ?v19b19) rfl (by kernel_rfl) (by kernel_rfl) (by kernel_rfl) (fun _ _ _ h => h) (Or.inl ⟨by rfl, ?hy19b19⟩) (by assumption) ?rest19b19
          case hy19b19 =>
            intro w hSw
            dsimp only [S15] at hSw
            go_simp
            try with_reducible rfl
          simp only [Act.put, List.getElem_toArray, List.getElem_cons_succ, List.getElem_cons_zero, List.setIfInBounds_toArray, List.set_cons_zero, List.set_cons_succ]
          refine wpAnyH_done (by kernel_rfl) ?_ _
          refine NoPanic.normal ?_
          clear hS
          go_wp2
          go_roundw
          case rel => exact ⟨t + 1, z, k', C', by go_num, NX.out⟩
          case measure => simp [intOf]; omega
        · have hT := HSK.out w6 ((Kx.of_below D0.out).trans kx6)
          have PP : Hid (DvP N rows rest J Jx W (.returned (.bool false)) w6) := .inr ⟨rfl, k', hk6, hJ6, (Kx.of_below BW5.out).trans ((Kx.of_below D0.out).trans kx6)⟩
          clear hJ6 hk6 kx6
          try go_simp
          refine hK _ _ hT (fun _ => ?_)
          clear hK K hT
          try simp only [Act.put, List.setIfInBounds_toArray, List.set_cons_zero, List.set_cons_succ]
          refine wpAnyH_take (i := 19) (v := ?v19c19) rfl (by kernel_rfl) (by kernel_rfl) (by kernel_rfl) (fun _ _ _ h => h) (Or.inl ⟨by rfl, ?hy19c19⟩) (by assumption) ?rest19c19
          case hy19c19 =>
            intro w hSw
            dsimp only [S15] at hSw
            go_simp
            try with_reducible rfl
          simp only [Act.put, List.getElem_toArray, List.getElem_cons_succ, List.getElem_cons_zero, List.setIfInBounds_toArray, List.set_cons_zero, List.set_cons_succ]
          refine wpAnyH_done (by kernel_rfl) ?_ _
          refine NoPanic.normal ?_
          clear hS
          go_wp2
          go_ret
          exact PP.out
end Go.Proofs.YtadfmplafehjlaaDoor
namespace Go.Proofs.YtadfmplafehjlaaDoor
open Go.RowKit Go.WideMaps Go.Maps Go.Shelf

attribute [local go_sem] Oper.semAt_some

/-- All parts of a box. -/
def prs (l : List Fd) (E : List Ed) (B : Nat → Nat) : Prts := if emB l B = true then [] else prt l E l.length 0 B (evS E)
set_option maxRecDepth 100000 in
set_option maxHeartbeats 4000000 in
theorem parts1_c (w0 : World) (N : Nat → Prop) (p base : Nat) (l : List Fd) (E : List Ed) (l0 : Nat) (B : Nat → Nat) (J Jx : Nat → World → Prop) (hv : Dv w0 N p base l E l0 (prs l E B) J Jx) (hok : Ok l E) (hB : ∀ j, j < l.length → B j < 2 ^ (fd l j).cs.length)
    (hkl : ∀ k W, J k W → k ≤ (prs l E B).length) (b1 b2 : Nat) (n1 : ¬ N b1) (n2 : ¬ N b2) (W : World) (h0 : J 0 W) (hc1 : W.cell? ⟨b1, 0, none⟩ = some (.pointer (some ⟨p, 0, none⟩))) (hc2 : BxAt W b2 0 B) :
    Calls Tryd.prog 78 #[.func (.yield l0) #[] #[], .pointer (some ⟨b1, 0, none⟩), .pointer (some ⟨b2, 0, none⟩)] W fun e W' => (∃ v, e = .returned v) ∧ (J (prs l E B).length W' ∨ ∃ k, k < (prs l E B).length ∧ Jx k W') := by
  have mixed : Tryd.prog.follows .mixedOrders = true := by kernel_rfl
  obtain ⟨rows, hrows⟩ : ∃ r, prs l E B = r := ⟨_, rfl⟩
  rw [hrows] at hv hkl ⊢
  have HKL := Lib.hid hkl
  have hWW := hv.i 0 W h0
  have P0 := hv.pl.below hWW.1
  have C := Lib.hid (isEmpty_c p l E B W P0 hok.n12)
  have HV := Lib.hid hv
  have HJ0 := Lib.hid h0
  have HBS := Lib.hid hWW.2
  have HC1 := Lib.hid hc1
  have HC2 := Lib.hid hc2
  obtain ⟨ev, hev⟩ : ∃ v, evS E = v := ⟨_, rfl⟩
  have hev60 : ev < 2 ^ 60 := by
    rw [← hev]; unfold evS
    have : 2 ^ E.length ≤ 2 ^ 60 := Nat.pow_le_pow_right (by omega) hok.m60
    have := Nat.two_pow_pos E.length
    omega
  have x0 := hc2 0 (by decide)
  have x1 := hc2 1 (by decide)
  have x2 := hc2 2 (by decide)
  have x3 := hc2 3 (by decide)
  have x4 := hc2 4 (by decide)
  have x5 := hc2 5 (by decide)
  have x6 := hc2 6 (by decide)
  have x7 := hc2 7 (by decide)
  have x8 := hc2 8 (by decide)
  have x9 := hc2 9 (by decide)
  have x10 := hc2 10 (by decide)
  have x11 := hc2 11 (by decide)
  simp only [Nat.zero_add] at x0 x1 x2 x3 x4 x5 x6 x7 x8 x9 x10 x11
  have HN : Hid (¬ N b1 ∧ ¬ N b2) := ⟨n1, n2⟩
  unfold prs at hrows
  cases hem : emB l B with
  | true =>
    rw [hem] at C hrows
    rw [if_pos rfl] at hrows
    have HR := Lib.hid hrows
    unfold bxV at C
    clear hv hkl hWW P0 h0 hc2 hok hB hem hrows n1 n2 hev hev60
    go_enter Tryd.func78, Tryd.ntmps78
    go_wp2_with fail
    refine C.out.mono ?_
    rintro e1 w2 ⟨rfl, bb2⟩
    have PP : Hid (J rows.length w2) := by
      unfold Hid
      rw [← HR.out]
      exact HV.out.b 0 W w2 HJ0.out (bb2.mono HBS.out)
    clear bb2 hc1 x0 x1 x2 x3 x4 x5 x6 x7 x8 x9 x10 x11 C
    go_wp2
    go_end0
    exact ⟨⟨_, rfl⟩, .inl PP.out⟩
  | false =>
    rw [hem] at C hrows
    rw [if_neg (by simp), hev] at hrows
    have D := divide_c w0 N p base l E l0 rows J Jx hv hok l.length 0 B ev 0 []
    have C9' : ∀ V, Below W.heap.size W V → Calls Tryd.prog 79 #[.pointer (some ⟨p, 0, none⟩), bxV B, .int .i64 0, .int .u64 ev, .func (.yield l0) #[] #[]] V (DvP N rows [] J Jx V) := fun V hV =>
      D V (by omega) hB hev60 (hv.b 0 W V h0 (hV.mono hWW.2)) (by rw [List.drop_zero, List.append_nil]; exact hrows.symm)
    have HS : Hid (∀ V, Kx N W V → S15 b2 B ⟨b1, 0, none⟩ ⟨p, 14, none⟩ ⟨p, 14, none⟩ (.pointer (some ⟨p, 0, none⟩)) (.int .u64 ev) (.int .u64 ev) V) := fun V hV => by
      have q2 := HN.out.2
      have q3 : ¬ N p := fun e => by have := (HV.out.n p e).1; have := HV.out.pl.lt; omega
      have c := hV.cell (p := ⟨p, 14, none⟩) P0.ev q3
      rw [hev] at c
      exact ⟨hV.cell x0 q2, hV.cell x1 q2, hV.cell x2 q2, hV.cell x3 q2, hV.cell x4 q2, hV.cell x5 q2, hV.cell x6 q2, hV.cell x7 q2, hV.cell x8 q2, hV.cell x9 q2, hV.cell x10 q2, hV.cell x11 q2, hV.cell HC1.out HN.out.1, c, c⟩
    have C9 : Hid (∀ V, Below W.heap.size W V → _) := C9'
    unfold bxV DvP at C9
    unfold bxV at C
    clear hv hkl hWW P0 h0 hc2 hok hB hem hrows n1 n2 hev hev60 D C9'
    go_enter Tryd.func78, Tryd.ntmps78
    go_wp2_with fail
    refine C.out.mono ?_
    rintro e1 w2 ⟨rfl, bb2⟩
    have BB := Lib.hid bb2
    have HS2 : Hid (S15 b2 B ⟨b1, 0, none⟩ ⟨p, 14, none⟩ ⟨p, 14, none⟩ (.pointer (some ⟨p, 0, none⟩)) (.int .u64 ev) (.int .u64 ev) w2) := HS.out w2 (Kx.of_below bb2)
    have HSK : Hid (∀ V, Kx N w2 V → S15 b2 B ⟨b1, 0, none⟩ ⟨p, 14, none⟩ ⟨p, 14, none⟩ (.pointer (some ⟨p, 0, none⟩)) (.int .u64 ev) (.int .u64 ev) V) := fun V hV => HS.out V ((Kx.of_below BB.out).trans hV)
    have C9 : Hid (∀ V, Below w2.heap.size w2 V → _) := fun V hV => C9.out V (BB.out.trans (hV.mono BB.out.size))
    clear bb2 hc1 x0 x1 x2 x3 x4 x5 x6 x7 x8 x9 x10 x11 C HS
    go_wp2_with fail
    refine wp_region_noPanic ?_
    refine wp_region_held_drew (S := (S15 b2 B ⟨b1, 0, none⟩ ⟨p, 14, none⟩ ⟨p, 14, none⟩ (.pointer (some ⟨p, 0, none⟩)) (.int .u64 ev) (.int .u64 ev))) (by kernel_rfl) (by exact HS2.out) (fun hS => ?_)
    obtain ⟨WD, hWD⟩ : ∃ W, w2.drew = W := ⟨_, rfl⟩
    have D0 : Hid (Below w2.heap.size w2 WD) := by unfold Hid; rw [← hWD]; exact (Below.refl _ _).drew
    rw [hWD] at hS ⊢
    clear hWD
    refine wpAnyH_take (i := 0) (v := ?v0a0) rfl (by kernel_rfl) (by kernel_rfl) (by kernel_rfl) (fun _ _ _ h => h) (Or.inl ⟨by rfl, ?hy0a0⟩) (by assumption) ?rest0a0
    case hy0a0 =>
      intro w hSw
      dsimp only [S15] at hSw
      go_simp
      try with_reducible rfl
    simp only [Act.put, List.getElem_toArray, List.getElem_cons_succ, List.getElem_cons_zero, List.setIfInBounds_toArray, List.set_cons_zero, List.set_cons_succ]
    refine wpAnyH_take (i := 1) (v := ?v1a1) rfl (by kernel_rfl) (by kernel_rfl) (by kernel_rfl) (fun _ _ _ h => h) (Or.inl ⟨by rfl, ?hy1a1⟩) (by assumption) ?rest1a1
    case hy1a1 =>
      intro w hSw
      dsimp only [S15] at hSw
      go_simp
      try with_reducible rfl
    simp only [Act.put, List.getElem_toArray, List.getElem_cons_succ, List.getElem_cons_zero, List.setIfInBounds_toArray, List.set_cons_zero, List.set_cons_succ]
    refine wpAnyH_take (i := 2) (v := ?v2a2) rfl (by kernel_rfl) (by kernel_rfl) (by kernel_rfl) (fun _ _ _ h => h) (Or.inl ⟨by rfl, ?hy2a2⟩) (by assumption) ?rest2a2
    case hy2a2 =>
      intro w hSw
      dsimp only [S15] at hSw
      go_simp
      try with_reducible rfl
    simp only [Act.put, List.getElem_toArray, List.getElem_cons_succ, List.getElem_cons_zero, List.setIfInBounds_toArray, List.set_cons_zero, List.set_cons_succ]
    refine wpAnyH_take (i := 3) (v := ?v3a3) rfl (by kernel_rfl) (by kernel_rfl) (by kernel_rfl) (fun _ _ _ h => h) (Or.inl ⟨by rfl, ?hy3a3⟩) (by assumption) ?rest3a3
    case hy3a3 =>
      intro w hSw
      dsimp only [S15] at hSw
      go_simp
      try with_reducible rfl
    simp only [Act.put, List.getElem_toArray, List.getElem_cons_succ, List.getElem_cons_zero, List.setIfInBounds_toArray, List.set_cons_zero, List.set_cons_succ]
    refine wpAnyH_take (i := 4) (v := ?v4a4) rfl (by kernel_rfl) (by kernel_rfl) (by kernel_rfl) (fun _ _ _ h => h) (Or.inl ⟨by rfl, ?hy4a4⟩) (by assumption) ?rest4a4
    case hy4a4 =>
      intro w hSw
      dsimp only [S15] at hSw
      go_simp
      try with_reducible rfl
    simp only [Act.put, List.getElem_toArray, List.getElem_cons_succ, List.getElem_cons_zero, List.setIfInBounds_toArray, List.set_cons_zero, List.set_cons_succ]
    refine wpAnyH_take (i := 5) (v := ?v5a5) rfl (by kernel_rfl) (by kernel_rfl) (by kernel_rfl) (fun _ _ _ h => h) (Or.inl ⟨by rfl, ?hy5a5⟩) (by assumption) ?rest5a5
    case hy5a5 =>
      intro w hSw
      dsimp only [S15] at hSw
      go_simp
      try with_reducible rfl
    simp only [Act.put, List.getElem_toArray, List.getElem_cons_succ, List.getElem_cons_zero, List.setIfInBounds_toArray, List.set_cons_zero, List.set_cons_succ]
    refine wpAnyH_take (i := 6) (v := ?v6a6) rfl (by kernel_rfl) (by kernel_rfl) (by kernel_rfl) (fun _ _ _ h => h) (Or.inl ⟨by rfl, ?hy6a6⟩) (by assumption) ?rest6a6
    case hy6a6 =>
      intro w hSw
      dsimp only [S15] at hSw
      go_simp
      try with_reducible rfl
    simp only [Act.put, List.getElem_toArray, List.getElem_cons_succ, List.getElem_cons_zero, List.setIfInBounds_toArray, List.set_cons_zero, List.set_cons_succ]
    refine wpAnyH_ready (rs := [7]) (by kernel_rfl) (by simp) ?_
    refine AllReadyH.cons rfl (fun K hK => ?_) AllReadyH.nil
    go_simp
    refine (C9.out WD D0.out).mono ?_
    rintro e1 w6 (⟨rfl, k', hJ6, b6, hd6⟩ | ⟨rfl, k', hk6, hJ6, kx6⟩)
    · have hT := HSK.out w6 (Kx.of_below (D0.out.trans (b6.mono D0.out.size)))
      have PP : Hid (J rows.length w6) := by
        have h1 := List.drop_eq_nil_iff.1 hd6
        have h2 := HKL.out k' w6 hJ6
        have e : k' = rows.length := by omega
        rw [← e]; exact hJ6
      clear hJ6 hd6 b6
      try go_simp
      refine hK _ _ hT (fun _ => ?_)
      clear hK K hT
      try simp only [Act.put, List.setIfInBounds_toArray, List.set_cons_zero, List.set_cons_succ]
      refine wpAnyH_done (by kernel_rfl) ?_ _
      refine NoPanic.normal ?_
      clear hS
      go_wp2
      go_end0
      exact ⟨⟨_, rfl⟩, .inl PP.out⟩
    · have hT := HSK.out w6 ((Kx.of_below D0.out).trans kx6)
      have PP : Hid (k' < rows.length ∧ Jx k' w6) := ⟨hk6, hJ6⟩
      clear hJ6 hk6 kx6
      try go_simp
      refine hK _ _ hT (fun _ => ?_)
      clear hK K hT
      try simp only [Act.put, List.setIfInBounds_toArray, List.set_cons_zero, List.set_cons_succ]
      refine wpAnyH_done (by kernel_rfl) ?_ _
      refine NoPanic.normal ?_
      clear hS
      go_wp2
      go_end0
      exact ⟨⟨_, rfl⟩, .inr ⟨k', PP.out.1, PP.out.2⟩⟩
end Go.Proofs.YtadfmplafehjlaaDoor
