/-
  Package edit: the boxes that pass.
  Package edit: closed boxes, and what joint boxes cover.
  Package edit: what a change costs.
  Package edit: the least changes.
-/
import Derived.Test.YtadfmplafehjlaaDoorEP13
namespace Go.Proofs.YtadfmplafehjlaaDoor
open Go.RowKit Go.WideMaps Go.Maps Go.Shelf

attribute [local go_sem] Oper.semAt_some

/-- Boxes in a row. -/
def bxC : List (Nat → Nat) → List Value
  | [] => []
  | B :: L => bxL B ++ bxC L
theorem bxC_len : ∀ L, (bxC L).length = L.length * 12
  | [] => rfl
  | B :: L => by
    show (bxL B ++ bxC L).length = _
    rw [List.length_append, bxC_len L, List.length_cons]
    show 12 + _ = _
    omega
theorem bxC_snoc (B : Nat → Nat) : ∀ L, bxC (L ++ [B]) = bxC L ++ bxL B
  | [] => by show bxL B ++ [] = [] ++ bxL B; simp
  | C :: L => by
    show bxL C ++ bxC (L ++ [B]) = (bxL C ++ bxC L) ++ bxL B
    rw [bxC_snoc B L, List.append_assoc]
def bxAt (L : List (Nat → Nat)) (n : Nat) : Nat → Nat := L.getD n fun _ => 0
theorem bxC_at {i : Nat} (hi : i < 12) : ∀ (L : List (Nat → Nat)) (n : Nat), n < L.length → (bxC L)[n * 12 + i]? = some (.int .u64 (bxAt L n i))
  | [], n, h => by simp at h
  | B :: L, 0, _ => by
    show (bxL B ++ bxC L)[0 * 12 + i]? = _
    rw [List.getElem?_append_left (by show _ < 12; omega), Nat.zero_mul, Nat.zero_add, bxL_at B hi]
    rfl
  | B :: L, n + 1, h => by
    show (bxL B ++ bxC L)[(n + 1) * 12 + i]? = _
    rw [List.getElem?_append_right (by show 12 ≤ _; omega)]
    have : (n + 1) * 12 + i - (bxL B).length = n * 12 + i := by show (n + 1) * 12 + i - 12 = _; omega
    rw [this, bxC_at hi L n (by simpa using h)]
    rfl
/-- A slice that reads as boxes. -/
def RdX (w : World) (a : Option Addr) (L : List (Nat → Nat)) : Prop := L.length ≤ 9223372036854775807 ∧ (0 < L.length → ∃ b, a = some ⟨b, 0, none⟩ ∧ b < w.heap.size ∧ ∀ n, n < L.length → BxAt w b (n * 12) (bxAt L n))
theorem RdX.below {w w' : World} {a : Option Addr} {L : List (Nat → Nat)} (h : RdX w a L) (hb : Below w.heap.size w w') : RdX w' a L :=
  ⟨h.1, fun h0 => by
    obtain ⟨b, e, hl, hc⟩ := h.2 h0
    exact ⟨b, e, Nat.lt_of_lt_of_le hl hb.size, fun n hn => (hc n hn).below hb hl⟩⟩
/-- The parts that pass among the first so many. -/
def pst (rows : Prts) (k : Nat) : List (Nat → Nat) := ((rows.take k).filter fun x => decide (x.2 = 0)).map (·.1)
theorem pst_next {rows : Prts} {k : Nat} {x : (Nat → Nat) × Nat} (h : rows[k]? = some x) : pst rows (k + 1) = pst rows k ++ (if x.2 = 0 then [x.1] else []) := by
  unfold pst
  rw [List.take_add_one, h, List.filter_append, List.map_append]
  congr 1
  by_cases e : x.2 = 0 <;> simp [e]
theorem pst_len (rows : Prts) (k : Nat) : (pst rows k).length ≤ rows.length := by
  unfold pst
  rw [List.length_map]
  exact Nat.le_trans (List.length_filter_le _ _) (by rw [List.length_take]; exact Nat.min_le_right _ _)
/-- How many parts there are at most. -/
theorem lst_le (p : Nat → Bool) (n : Nat) : (lst p n).length ≤ n := by
  unfold lst
  exact Nat.le_trans (List.length_filter_le _ _) (by simp)
theorem fm_mul {α β : Type} (f : α → List β) (m M : Nat) : ∀ (s : List α), (∀ x, x ∈ s → (f x).length * m ≤ M) → (s.flatMap f).length * m ≤ s.length * M
  | [], _ => by simp
  | x :: s, h => by
    have h1 := fm_mul f m M s fun y hy => h y (by simp [hy])
    have h2 := h x (by simp)
    rw [List.flatMap_cons, List.length_append, List.length_cons, Nat.succ_mul, Nat.add_mul]
    omega
theorem mix_up {l : List Fd} {i : Nat} : ∀ d, (∀ j, i ≤ j → j < i + d → 1 ≤ (fd l j).cs.length) → mix l i ≤ mix l (i + d)
  | 0, _ => Nat.le_refl _
  | d + 1, h => by
    have h1 := mix_up (l := l) (i := i) d fun j h1 h2 => h j h1 (by omega)
    have h2 := h (i + d) (by omega) (by omega)
    rw [← Nat.add_assoc]
    show _ ≤ mix l (i + d) * _
    exact Nat.le_trans h1 (Nat.le_mul_of_pos_right _ h2)
theorem prt_len (l : List Fd) (E : List Ed) : ∀ (d i : Nat) (B : Nat → Nat) (F : Nat), (∀ j, i ≤ j → j < i + d → 1 ≤ (fd l j).cs.length ∧ (lst (fun k => (B j).testBit k) 20).length ≤ (fd l j).cs.length) → (prt l E d i B F).length * mix l i ≤ mix l (i + d)
  | 0, i, _, _, _ => by simp [prt]
  | d + 1, i, B, F, h => by
    have h0 := h i (Nat.le_refl _) (by omega)
    unfold prt
    split
    · have := mix_up (l := l) (i := i) (d + 1) fun j h1 h2 => (h j h1 h2).1
      simpa using this
    · have h1 := fm_mul (fun k => prt l E d (i + 1) (upd B i (2 ^ k)) (F &&& hdS l E i k)) (mix l (i + 1)) (mix l (i + 1 + d)) (lst (fun k => (B i).testBit k) 20) fun k _ =>
        prt_len l E d (i + 1) _ _ fun j h1 h2 => by
          have h3 := h j (by omega) (by omega)
          refine ⟨h3.1, ?_⟩
          have : upd B i (2 ^ k) j = B j := by unfold upd; rw [if_neg (by omega)]
          rw [this]; exact h3.2
      have h2 := Nat.mul_le_mul_right (mix l (i + 1 + d)) h0.2
      rw [show i + (d + 1) = i + 1 + d by omega]
      have e : mix l (i + 1) = mix l i * (fd l i).cs.length := rfl
      refine Nat.le_of_mul_le_mul_left (c := (fd l i).cs.length) ?_ h0.1
      refine Nat.le_trans (Nat.le_of_eq ?_) (Nat.le_trans h1 h2)
      rw [e, Nat.mul_comm, Nat.mul_assoc]
theorem full_bits (l : List Fd) {j : Nat} (hj : j < l.length) (h20 : (fd l j).cs.length ≤ 20) : (lst (fun k => (fuS l j).testBit k) 20).length ≤ (fd l j).cs.length := by
  unfold fuS
  rw [if_pos hj, lst_full h20, List.length_range]
  exact Nat.le_refl _
theorem prs_len {l : List Fd} {E : List Ed} (hok : Ok l E) : (prs l E (fuS l)).length ≤ 20000 := by
  have h := prt_len l E l.length 0 (fuS l) (evS E) fun j _ hj => ⟨hok.c1 j (by omega), full_bits l (by omega) (hok.c20 j (by omega))⟩
  rw [prs_full hok]
  have e : mix l 0 = 1 := rfl
  rw [e, Nat.mul_one, Nat.zero_add] at h
  exact Nat.le_trans h hok.mx
/-- The outcome of passing. -/
def PsgP (l : List Fd) (E : List Ed) (w : World) (e : Ending) (w' : World) : Prop :=
  Below w.heap.size w w' ∧ ∃ a c, e = .returned (.slice a (pss l E).length c) ∧ RdX w' a (pss l E)
def PgO (g : Nat) (W : World) (b : Nat) : Prop := ∃ v : Value, W.cell? ⟨g, 0, none⟩ = some v ∧ v.ownBlock = some b
structure PgI (w W0 : World) (g : Nat) (rows : Prts) (k : Nat) (W : World) : Prop where
  bel : Below w.heap.size w W
  sz : W0.heap.size ≤ W.heap.size
  old : ∀ b, b < W0.heap.size → b ≠ g → W.heap[b]? = W0.heap[b]?
  ex : ∃ v, Boxed W g 65 v ∧ W.ownsRow (W0.heap.size + 2) 57 12 v (pst rows k).length (bxC (pst rows k))
theorem own_same {w w' : World} {base : Nat} {e : TypeId} {size : Nat} {v : Value} {n : Nat} {xs : List Value} (h : w.ownsRow base e size v n xs) (hb : ∀ b, v.ownBlock = some b → w'.heap[b]? = w.heap[b]?) : w'.ownsRow base e size v n xs := by
  refine ⟨h.1, ?_⟩
  rcases h.2 with q | ⟨g, cap, cur, rfl, h1, hg, r⟩
  · exact .inl q
  · exact .inr ⟨g, cap, cur, rfl, h1, (hb g rfl).trans hg, r⟩
theorem PgI.turn {w W0 W W' : World} {g : Nat} {rows : Prts} {k : Nat} (h : PgI w W0 g rows k W) (hg : g < W0.heap.size) (hw : w.heap.size ≤ W0.heap.size) (hb : Below W0.heap.size W W') (hO : ∀ b, PgO g W b → W'.heap[b]? = W.heap[b]?) : PgI w W0 g rows k W' := by
  obtain ⟨v, h1, h2⟩ := h.ex
  exact ⟨h.bel.trans (hb.mono hw), Nat.le_trans h.sz hb.size, fun b hb1 hb2 => (hb.block b hb1).trans (h.old b hb1 hb2), v, (hb.block g hg).trans h1, own_same h2 fun b e => hO b ⟨v, h1.cell, e⟩⟩
theorem PgI.own {w W0 W : World} {g : Nat} {rows : Prts} {k : Nat} (h : PgI w W0 g rows k W) {b : Nat} (hb : PgO g W b) : W0.heap.size + 2 ≤ b ∧ b < W.heap.size := by
  obtain ⟨v, h1, h2⟩ := h.ex
  obtain ⟨u, h3, h4⟩ := hb
  rw [h1.cell] at h3
  injection h3 with h3
  subst h3
  exact h2.lt b h4
theorem PgI.cell {w W0 W : World} {g : Nat} {rows : Prts} {k : Nat} (h : PgI w W0 g rows k W) {p : Addr} {v : Value} (e : W0.cell? p = some v) (hp : p.block ≠ g) : W.cell? p = some v :=
  (World.cell?_of_block (h.old p.block (cellLt e) hp)).trans e
theorem PgI.none {w W0 W : World} {g : Nat} {rows : Prts} {k : Nat} (h : PgI w W0 g rows k W) {x : (Nat → Nat) × Nat} (hx : rows[k]? = some x) (h0 : x.2 ≠ 0) : PgI w W0 g rows (k + 1) W := by
  refine ⟨h.bel, h.sz, h.old, ?_⟩
  rw [pst_next hx, if_neg h0, List.append_nil]; exact h.ex
/-- A part more. -/
theorem PgI.add {w W0 V VA w4 : World} {g : Nat} {rows : Prts} {k : Nat} {C : Nat → Nat} {v v' : Value} (h : PgI w W0 g rows k V) (hx : rows[k]? = some (C, 0)) (hg : g < W0.heap.size) (hw : w.heap.size ≤ g) (hv : Boxed V g 65 v) (hr : V.ownsRow (W0.heap.size + 2) 57 12 v (pst rows k).length (bxC (pst rows k)))
    (hA : Below V.heap.size V VA) (hown : w4.ownsRow (W0.heap.size + 2) 57 12 v' ((pst rows k).length + 1) (bxC (pst rows k) ++ bxL C)) (hgr : VA.grownBy w4 v.ownBlock) (hat : v'.ownBlock = v.ownBlock ∨ v'.ownBlock = some VA.heap.size) :
    Boxed w4 g 65 v ∧ Kg (fun b => b = g) (PgO g) V (w4.setCell ⟨g, 0, .none⟩ v') ∧ PgI w W0 g rows (k + 1) (w4.setCell ⟨g, 0, .none⟩ v') := by
  have gV := h.sz
  have ne : some g ≠ v.ownBlock := fun e => by have := (hr.lt g e.symm).1; omega
  have hB : Boxed w4 g 65 v := (show Boxed VA g 65 v from (hA.block g (by omega)).trans hv).kept hgr ne
  have ne' : v'.ownBlock ≠ some g := fun e => by have := (hown.lt g e).1; omega
  have hsz := hA.size
  have hsz4 := hgr.size
  have hset : ∀ b, b ≠ g → (w4.setCell ⟨g, 0, .none⟩ v').heap[b]? = w4.heap[b]? := fun b hb => set_block w4 g 0 v' hb
  have hblk : ∀ b, b < V.heap.size → b ≠ g → some b ≠ v.ownBlock → (w4.setCell ⟨g, 0, .none⟩ v').heap[b]? = V.heap[b]? := fun b h1 h2 h3 =>
    (hset b h2).trans ((hgr.block b (by omega) h3).trans (hA.block b h1))
  refine ⟨hB, ⟨?_, ?_, ?_, ?_, fun b h1 h2 h3 => hblk b h1 h2 fun e => h3 ⟨v, hv.cell, e.symm⟩, fun b h1 => ?_⟩, ?_, ?_, fun b h1 h2 => ?_, v', hB.set v', ?_⟩
  · exact hgr.os.trans hA.os
  · exact hgr.tape.trans hA.tape
  · exact hgr.output.trans hA.output
  · simp; omega
  · obtain ⟨u, h2, h3⟩ := h1
    rw [(hB.set v').cell] at h2
    injection h2 with h2
    subst h2
    rcases hat with e | e
    · exact .inl ⟨v, hv.cell, by rw [← e]; exact h3⟩
    · rw [e] at h3; injection h3 with h3; exact .inr (by omega)
  · exact ((h.bel.trans (hA.mono h.bel.size)).grown hgr (by omega) (fun b e => by have := (hr.lt b e).1; omega)).setCell (p := ⟨g, 0, .none⟩) hw _
  · simp; omega
  · exact (hblk b (by omega) h2 fun e => by have := (hr.lt b e.symm).1; omega).trans (h.old b h1 h2)
  · rw [pst_next hx, if_pos rfl, bxC_snoc, List.length_append]
    exact own_same hown fun b e => hset b fun q => ne' (q ▸ e)
theorem rdX_own {w : World} {B : Nat} {v : Value} {L : List (Nat → Nat)} (h : w.ownsRow B 57 12 v L.length (bxC L)) (hn : L.length ≤ 9223372036854775807) : ∃ a c, v = .slice a L.length c ∧ RdX w a L := by
  rcases h.2 with ⟨rfl, h0⟩ | ⟨g, cap, cur, rfl, _, hg, _⟩
  · exact ⟨.none, 0, by rw [h0], hn, fun q => by omega⟩
  · refine ⟨_, _, rfl, hn, fun _ => ⟨g, rfl, (Array.getElem?_eq_some_iff.1 hg).1, fun n hn i hi => ?_⟩⟩
    have := h.cells (g := g) rfl (n * 12 + i) _ (bxC_at hi L n hn)
    have e : ∀ j, (⟨g, 0, none⟩ : Addr).add j = ⟨g, j, none⟩ := fun j => by
      unfold Addr.add
      by_cases q : j = 0
      · subst q; rfl
      · simp [q]
    rw [e] at this
    exact this
set_option maxRecDepth 100000 in
set_option maxHeartbeats 8000000 in
theorem passing_c (p : Nat) (l : List Fd) (E : List Ed) (w : World) (hP : PlR w p l E) (hok : Ok l E)
    (hT : TabAt 0 Lib.deBruijn64tab w) (ht : 0 < w.heap.size) :
    Calls Tryd.prog 49 #[.pointer (some ⟨p, 0, none⟩)] w (PsgP l E w) := by
  have mixed : Tryd.prog.follows .mixedOrders = true := by kernel_rfl
  have HC := Lib.hid (fun V => parts_c p (fuS l) V)
  unfold bxV PaP at HC
  obtain ⟨W1, hW1⟩ : ∃ V, w.alloc (.cells #[.slice none 0 0] 65) = V := ⟨_, rfl⟩
  have b1 : Below w.heap.size w W1 := by rw [← hW1]; exact bel_one _ _
  have x0 := (hP.below b1).fu 0 (by decide)
  have x1 := (hP.below b1).fu 1 (by decide)
  have x2 := (hP.below b1).fu 2 (by decide)
  have x3 := (hP.below b1).fu 3 (by decide)
  have x4 := (hP.below b1).fu 4 (by decide)
  have x5 := (hP.below b1).fu 5 (by decide)
  have x6 := (hP.below b1).fu 6 (by decide)
  have x7 := (hP.below b1).fu 7 (by decide)
  have x8 := (hP.below b1).fu 8 (by decide)
  have x9 := (hP.below b1).fu 9 (by decide)
  have x10 := (hP.below b1).fu 10 (by decide)
  have x11 := (hP.below b1).fu 11 (by decide)
  simp only [Nat.reduceAdd] at x0 x1 x2 x3 x4 x5 x6 x7 x8 x9 x10 x11
  refine (callsIn_wide (n := 8)).1 ?_
  refine callsIn_of_wp_marks Tryd.func49 rfl trivial ?_ rfl
  simp only [Tryd.ntmps49, List.size_toArray, List.length_cons, List.length_nil, Nat.reduceAdd, Nat.reduceSub, Array.replicate_succ, Array.replicate_zero, List.push_toArray, List.append_toArray, List.nil_append, List.cons_append]
  have HP := Lib.hid hP
  have HT := Lib.hid hT
  have HOK := Lib.hid hok
  clear hP hT hok
  gi_wp2_with (refine ⟨trivial, ?_⟩; gi_at_call 58; refine (callsIn_wide.2 (HC.out _)).mono ?_; rintro e w' ⟨rfl, rfl⟩)
  have hsz1 : W1.heap.size = w.heap.size + 1 := by rw [← hW1]; simp
  have box1 : Boxed W1 w.heap.size 65 (.slice none 0 0) := by rw [← hW1]; exact Boxed.new _ _ _
  obtain ⟨W0, hW0⟩ : ∃ V, ((W1.alloc (.cells #[.pointer (some ⟨p, 0, none⟩)] 50)).alloc (.cells #[.int .u64 (fuS l 0), .int .u64 (fuS l 1), .int .u64 (fuS l 2), .int .u64 (fuS l 3), .int .u64 (fuS l 4), .int .u64 (fuS l 5), .int .u64 (fuS l 6), .int .u64 (fuS l 7), .int .u64 (fuS l 8), .int .u64 (fuS l 9), .int .u64 (fuS l 10), .int .u64 (fuS l 11)] 57)) = V := ⟨_, rfl⟩
  have b0 : Below W1.heap.size W1 W0 := by rw [← hW0]; exact ((Below.refl _ W1).alloc (Nat.le_refl _) _).alloc (by simp) _
  have hsz0 : W0.heap.size = w.heap.size + 3 := by rw [← hW0]; simp; omega
  have me1 : W0.cell? ⟨W1.heap.size, 0, none⟩ = some (.pointer (some ⟨p, 0, none⟩)) := by rw [← hW0]; exact Boxed.cell (t := 50) ((Boxed.new W1 _ _).alloc _)
  have me2 : BxAt W0 (W1.heap.size + 1) 0 (fuS l) := by rw [← hW0]; simpa using bx_made (W1.alloc (.cells #[.pointer (some ⟨p, 0, none⟩)] 50)) (fuS l)
  have box0 : Boxed W0 w.heap.size 65 (.slice none 0 0) := (b0.block _ (by omega)).trans box1
  have BW : Hid (Below w.heap.size w W0) := b1.trans (b0.mono (by omega))
  rw [hW0]
  clear hW0 HC hW1 x0 x1 x2 x3 x4 x5 x6 x7 x8 x9 x10 x11 box1 b0 b1
  obtain ⟨g, hg⟩ : ∃ b, w.heap.size = b := ⟨_, rfl⟩
  obtain ⟨e1, he1⟩ : ∃ b, W1.heap.size = b := ⟨_, rfl⟩
  obtain ⟨e2, he2⟩ : ∃ b, e1 + 1 = b := ⟨_, rfl⟩
  rw [he1] at hsz1 me1 me2 ⊢
  rw [he2] at me2 ⊢
  have HG := Lib.hid hg
  rw [hg] at hsz1 hsz0 box0 ⊢
  have O : Hid (e1 = g + 1 ∧ e2 = g + 2 ∧ W0.heap.size = g + 3) := by unfold Hid; omega
  have BX0 := Lib.hid box0
  obtain ⟨rows, hrows⟩ : ∃ r, prs l E (fuS l) = r := ⟨_, rfl⟩
  have HR := Lib.hid hrows
  have HLN : Hid (rows.length ≤ 20000) := by unfold Hid; rw [← hrows]; exact prs_len HOK.out
  clear hsz1 hsz0 he1 he2 hg hrows box0
  refine range_partsG (n := 8) w (fun b => b = g) (PgO g) p l E (fuS l) e1 e2 rfl rfl (by decide) HP.out HOK.out (fu_lt l) HT.out ht ?hN ?n1 ?n2 ?hw0 (PgI w W0 g rows) (fun _ _ => False) ?hIb ?hIo ?hIv ?hIw ?hIx ?h0
    (fun x pb => { tmps := #[.pointer (some ⟨p, 0, none⟩), undef, .slice none 0 0, .pointer (some ⟨g, 0, none⟩), .pointer (some ⟨pb, 0, none⟩), .int .u64 x.2, .pointer (some ⟨p, 0, none⟩), .pointer (some ⟨p, 0, none⟩), .pointer (some ⟨p, 0, none⟩), .pointer (some ⟨p, 1, none⟩), bxV (fuS l), .func (.func 78) #[] #[.pointer (some ⟨e1, 0, none⟩), .pointer (some ⟨e2, 0, none⟩)], bxV x.1, .int .u64 x.2, undef, undef, undef, undef, undef, undef, undef], defers := [] }) ?assign ?body ?done ?stop
  case hN => intro b hb; have := O.out; have := HG.out; rw [hb]; omega
  case n1 => have := O.out; exact ⟨fun e => by omega, by omega⟩
  case n2 => have := O.out; exact ⟨fun e => by omega, by omega⟩
  case hw0 => have := O.out; have := HG.out; omega
  case hIb => exact fun k W W' hI hb hO => hI.turn (by have := O.out; omega) (by have := O.out; have := HG.out; omega) hb hO
  case hIo => exact fun k W hI b hb => hI.own hb
  case hIv =>
    rintro k W W' hI hb b ⟨v, h1, h2⟩
    exact ⟨v, by rw [← hb.cell (p := ⟨g, 0, none⟩) (by have := O.out; show g < _; omega)]; exact h1, h2⟩
  case hIw =>
    intro k W hI
    have := O.out
    exact ⟨hI.bel, hI.cell me1 (by show e1 ≠ g; omega), fun i hi => hI.cell (me2 i hi) (by show e2 ≠ g; omega)⟩
  case hIx => rintro k X Y row h _ _; exact h
  case h0 => exact ⟨BW.out, Nat.le_refl _, fun _ _ _ => rfl, _, BX0.out, World.ownsRow_nil _ _ _ _⟩
  case assign =>
    intro l' m x W K hK
    unfold bxV
    gi_wp2
    exact hK
  case body =>
    rintro l' m k x pb V hx hI hbx hpl hpb
    rw [HR.out] at hx
    obtain ⟨C, F⟩ := x
    by_cases h0 : F = 0
    · subst h0
      have HX := Lib.hid hx
      have HI := Lib.hid hI
      obtain ⟨v, hv, hr⟩ := hI.ex
      have HV := Lib.hid hv
      have HR2 := Lib.hid hr
      have hlen : (pst rows k).length ≤ 20000 := Nat.le_trans (pst_len rows k) HLN.out
      obtain ⟨zf, hzi, hzf⟩ := infoBx
      obtain ⟨i0, hi, hz0, hz1, hz2⟩ := info_parts hzi
      have c0 := hbx 0 (by decide)
      have c1 := hbx 1 (by decide)
      have c2 := hbx 2 (by decide)
      have c3 := hbx 3 (by decide)
      have c4 := hbx 4 (by decide)
      have c5 := hbx 5 (by decide)
      have c6 := hbx 6 (by decide)
      have c7 := hbx 7 (by decide)
      have c8 := hbx 8 (by decide)
      have c9 := hbx 9 (by decide)
      have c10 := hbx 10 (by decide)
      have c11 := hbx 11 (by decide)
      simp only [Nat.zero_add] at c0 c1 c2 c3 c4 c5 c6 c7 c8 c9 c10 c11
      have v0 := hv.cell
      have hbase : Hid (W0.heap.size + 2 ≤ V.heap.size) := by unfold Hid; omega
      clear hx hI hbx hpl hpb hv hr
      gi_wp2_with (gi_at_builtin; refine wpListIn_append_own_at _ rfl _ _ 65 rfl (W0.heap.size + 2) 57 i0 zf 12 96 Tryd.underlying65 hi hz0 hz1 hz2 hzf (by decide) v (pst rows k).length _ rfl (HR2.out.alloc _) ⟨V.heap.size, 0, none⟩ 1 1 (bxL C) rfl rfl (World.news_of_block (t := 57) (fr := (0, 0)) (newBlock _ _)) ?c1 ?c3 ?c4 ?c5 ?_)
      case c1 => intro u hu; simp [bxL] at hu; rcases hu with rfl | rfl | rfl | rfl | rfl | rfl | rfl | rfl | rfl | rfl | rfl | rfl <;> rfl
      case c3 => unfold maxLen; omega
      case c4 => omega
      case c5 => have := hbase.out; simp; omega
      intro v' w4 hown' hgrow _ hat
      obtain ⟨g', cap', rfl⟩ := ownsRow_succ hown'
      obtain ⟨B4, K4, I4⟩ := HI.out.add HX.out (by have := O.out; omega) (by have := HG.out; omega) HV.out HR2.out (bel_one V _) hown' hgrow (by simpa using hat)
      have y2 := B4.cell
      have y2' := B4.frozen
      obtain ⟨V3, hV3⟩ : ∃ V, w4.setCell ⟨g, 0, none⟩ (.slice (some ⟨g', 0, none⟩) ((pst rows k).length + 1) cap') = V := ⟨_, rfl⟩
      rw [hV3] at K4 I4
      have PP : Hid (∀ a, rgPost (PgI w W0 g rows) (fun _ _ => False) (fun b => b = g) (PgO g) W0.heap.size k V .normal a V3) := fun a => ⟨K4, I4⟩
      clear hown' hgrow hat B4 K4 I4 c0 c1 c2 c3 c4 c5 c6 c7 c8 c9 c10 c11 v0 hi hz0 hz1 hz2 hzi hzf
      gi_wp2
      exact PP.out _
    · have g1 : ((F : Int) == 0) = false := by rw [beq_eq_false_iff_ne]; omega
      have PP : Hid (∀ a, rgPost (PgI w W0 g rows) (fun _ _ => False) (fun b => b = g) (PgO g) W0.heap.size k V .normal a V) := fun a => ⟨Kg.of_below (Below.refl _ _) (fun _ q => q), hI.none hx h0⟩
      clear hI hbx hx h0
      gi_wp2
      exact PP.out _
  case done =>
    intro W hI hK
    rw [HR.out] at hI
    obtain ⟨v, hv, hr⟩ := hI.ex
    have hpl : (pst rows rows.length).length ≤ 20000 := Nat.le_trans (pst_len rows _) HLN.out
    have hps : pst rows rows.length = pss l E := by unfold pst pss; rw [List.take_length, HR.out]
    obtain ⟨a, c, rfl, hrd⟩ := rdX_own hr (by omega)
    have y := hv.cell
    have RR : Hid (PsgP l E w (.returned (.slice a (pst rows rows.length).length c)) (W.putObj W0.heap.size (.deferred none))) := by
      have hO := O.out
      have hGG := HG.out
      refine ⟨hI.bel.grown (grownBy_putObj' _ _ _) hI.bel.size (fun k e => by cases e; omega), a, c, by rw [hps], ?_⟩
      rw [← hps]
      refine ⟨hrd.1, fun h0 => ?_⟩
      obtain ⟨b, e, hl, hc⟩ := hrd.2 h0
      refine ⟨b, e, by simp [World.putObj]; exact hl, fun n hn i hi => ?_⟩
      refine Eq.trans (World.cell?_of_block (World.putObj_heap_other ?_)) (hc n hn i hi)
      have := (hr.lt b (by rw [e]; rfl)).1
      show b ≠ _
      omega
    have HK2 := Lib.hid hK
    clear hI hv hr hrd hpl hps hK
    gi_wp2
    refine ⟨by simp, .inl ⟨_, _, rfl, run_takeDeferred HK2.out, ?_⟩⟩
    exact ⟨_, by simp [results, Tryd.results49, go_sem], RR.out⟩
  case stop => exact fun k W _ h _ => h.elim
end Go.Proofs.YtadfmplafehjlaaDoor
namespace Go.Proofs.YtadfmplafehjlaaDoor
open Go.RowKit Go.WideMaps Go.Maps Go.Shelf

section
variable {l : List Fd} {E : List Ed}
/-- A box of sets of codes, none empty. -/
structure Vb (l : List Fd) (B : Nat → Nat) : Prop where
  ne : ∀ j, j < l.length → B j ≠ 0
  lt : ∀ j, j < l.length → B j < 2 ^ (fd l j).cs.length
  out : ∀ j, l.length ≤ j → B j = 0
/-- All records of the box fail. -/
def Clo (l : List Fd) (E : List Ed) (B : Nat → Nat) : Prop := ∀ x, inBx l x B → paB l E x = false
/-- A box is within another one. -/
def Wi (A B : Nat → Nat) : Prop := ∀ i k, (A i).testBit k = true → (B i).testBit k = true
theorem Wi.trans {A B C : Nat → Nat} (h : Wi A B) (g : Wi B C) : Wi A C := fun i k e => g i k (h i k e)
theorem Wi.refl (A : Nat → Nat) : Wi A A := fun _ _ h => h
/-- Some record is in both. -/
def meB (l : List Fd) (A B : Nat → Nat) : Bool := al (fun i => decide (A i &&& B i ≠ 0)) l.length
theorem bit_of_ne {x : Nat} (h : x ≠ 0) : ∃ k, x.testBit k = true := by
  refine Classical.byContradiction fun q => h (nat_ext fun j => ?_)
  rw [Nat.zero_testBit]
  cases e : x.testBit j with
  | false => rfl
  | true => exact absurd ⟨j, e⟩ q
theorem ne_of_bit {x k : Nat} (h : x.testBit k = true) : x ≠ 0 := fun e => by rw [e, Nat.zero_testBit] at h; cases h
theorem bit_lt {x n k : Nat} (h : x < 2 ^ n) (hk : x.testBit k = true) : k < n := by
  refine Classical.byContradiction fun q => ?_
  have := Nat.testBit_lt_two_pow (Nat.lt_of_lt_of_le h (Nat.pow_le_pow_right (by omega) (show n ≤ k by omega)))
  rw [this] at hk; cases hk
/-- The record that has these codes. -/
def recK (l : List Fd) (f : Nat → Nat) : List Int := (List.range l.length).map fun j => fn (fd l j).cs (f j)
theorem recK_len (l : List Fd) (f : Nat → Nat) : (recK l f).length = l.length := by simp [recK]
theorem recK_fn {f : Nat → Nat} {j : Nat} (hj : j < l.length) : fn (recK l f) j = fn (fd l j).cs (f j) := by
  unfold fn recK
  rw [List.getD_eq_getElem?_getD, List.getElem?_map, List.getElem?_range hj]
  rfl
theorem me_iff {A C : Nat → Nat} (hA : ∀ j, j < l.length → A j < 2 ^ (fd l j).cs.length) (hok : Ok l E) : meB l A C = true ↔ ∃ x, inBx l x A ∧ inBx l x C := by
  unfold meB
  rw [al_iff]
  constructor
  · intro h
    have h1 : ∀ j, ∃ k, j < l.length → (A j).testBit k = true ∧ (C j).testBit k = true := fun j => by
      by_cases hj : j < l.length
      · obtain ⟨k, hk⟩ := bit_of_ne (of_decide_eq_true (h j hj))
        rw [Nat.testBit_and, Bool.and_eq_true] at hk
        exact ⟨k, fun _ => hk⟩
      · exact ⟨0, fun q => absurd q hj⟩
    obtain ⟨f, hf⟩ := Classical.axiomOfChoice h1
    refine ⟨recK l f, ⟨recK_len l f, fun j hj => ?_⟩, ⟨recK_len l f, fun j hj => ?_⟩⟩
    · exact ⟨f j, bit_lt (hA j hj) (hf j hj).1, recK_fn hj, (hf j hj).1⟩
    · exact ⟨f j, bit_lt (hA j hj) (hf j hj).1, recK_fn hj, (hf j hj).2⟩
  · rintro ⟨x, h1, h2⟩ j hj
    obtain ⟨k, q1, q2, q3⟩ := h1.2 j hj
    obtain ⟨k', r1, r2, r3⟩ := h2.2 j hj
    have e : k = k' := Ok.inj hok hj q1 r1 (q2.symm.trans r2)
    subst e
    exact decide_eq_true (ne_of_bit (k := k) (by rw [Nat.testBit_and, q3, r3]; rfl))
theorem clo_iff (hok : Ok l E) {B : Nat → Nat} (hB : ∀ j, j < l.length → B j < 2 ^ (fd l j).cs.length) : Clo l E B ↔ ∀ C, C ∈ pss l E → meB l B C = false := by
  constructor
  · intro h C hC
    cases e : meB l B C with
    | false => rfl
    | true =>
      obtain ⟨x, h1, h2⟩ := (me_iff hB hok).1 e
      have := h x h1
      rw [pss_sound hok hC h2] at this; cases this
  · intro h x hx
    cases e : paB l E x with
    | false => rfl
    | true =>
      obtain ⟨C, hC, hx2⟩ := pss_cover hok hx.1 e
      have := h C hC
      rw [(me_iff hB hok).2 ⟨x, hx, hx2⟩] at this; cases this
theorem clo_wi {A B : Nat → Nat} (h : Clo l E B) (hw : Wi A B) : Clo l E A := fun x hx => h x ⟨hx.1, fun j hj => by
  obtain ⟨k, q1, q2, q3⟩ := hx.2 j hj
  exact ⟨k, q1, q2, hw j k q3⟩⟩
/-- The joint box of two boxes. -/
def joB (A B : Nat → Nat) (k i : Nat) : Nat := if i = k then A i ||| B i else A i &&& B i
theorem jo_clo {A B : Nat → Nat} {k : Nat} (hok : Ok l E) (hA : Clo l E A) (hB : Clo l E B) (hk : k < l.length) : Clo l E (joB A B k) := fun x hx => by
  obtain ⟨c, q1, q2, q3⟩ := hx.2 k hk
  unfold joB at q3
  rw [if_pos rfl, Nat.testBit_or, Bool.or_eq_true] at q3
  have hr : ∀ j, j < l.length → j ≠ k → ∃ c, c < (fd l j).cs.length ∧ fn x j = fn (fd l j).cs c ∧ (A j).testBit c = true ∧ (B j).testBit c = true := fun j hj hne => by
    obtain ⟨c, r1, r2, r3⟩ := hx.2 j hj
    unfold joB at r3
    rw [if_neg hne, Nat.testBit_and, Bool.and_eq_true] at r3
    exact ⟨c, r1, r2, r3⟩
  rcases q3 with q3 | q3
  · refine hA x ⟨hx.1, fun j hj => ?_⟩
    by_cases e : j = k
    · subst e; exact ⟨c, q1, q2, q3⟩
    · obtain ⟨c, r1, r2, r3⟩ := hr j hj e; exact ⟨c, r1, r2, r3.1⟩
  · refine hB x ⟨hx.1, fun j hj => ?_⟩
    by_cases e : j = k
    · subst e; exact ⟨c, q1, q2, q3⟩
    · obtain ⟨c, r1, r2, r3⟩ := hr j hj e; exact ⟨c, r1, r2, r3.2⟩
theorem jo_lt {A B : Nat → Nat} {k : Nat} (hA : Vb l A) (hB : Vb l B) : ∀ j, j < l.length → joB A B k j < 2 ^ (fd l j).cs.length := fun j hj => by
  unfold joB
  split
  · exact Nat.or_lt_two_pow (hA.lt j hj) (hB.lt j hj)
  · exact Nat.and_lt_two_pow _ (hB.lt j hj)
theorem jo_vb {A B : Nat → Nat} {k : Nat} (hA : Vb l A) (hB : Vb l B) (h : emB l (joB A B k) = false) : Vb l (joB A B k) :=
  ⟨em_iff.1 h, jo_lt hA hB, fun j hj => by unfold joB; rw [hA.out j hj, hB.out j hj]; split <;> rfl⟩
theorem jo_comm (A B : Nat → Nat) (k : Nat) : joB A B k = joB B A k := by
  funext i
  unfold joB
  rw [Nat.or_comm, Nat.and_comm]
/-- The box of an edit. -/
theorem eb_vb (hok : Ok l E) {n : Nat} (hn : n < E.length) : Vb l (ebS l E n) := by
  refine ⟨fun j hj => ?_, fun j hj => ?_, fun j hj => ?_⟩
  · unfold ebS; rw [if_pos hj]
    have h1 := (hok.s1 n hn j hj).1
    obtain ⟨k, hk, e⟩ := inC_iff.1 (hok.si n hn j hj (fn (st (ed E n).ss j) 0) (inC_iff.2 ⟨0, h1, rfl⟩))
    exact bz_pos hk (by rw [e]; exact inC_iff.2 ⟨0, h1, rfl⟩)
  · unfold ebS; rw [if_pos hj]; exact bz_lt _ _
  · unfold ebS; rw [if_neg (by omega)]
theorem in_eb (hok : Ok l E) {n : Nat} (hn : n < E.length) {x : List Int} (hl : x.length = l.length) (h : flB E x n = true) : inBx l x (ebS l E n) := ⟨hl, fun j hj => by
  unfold flB at h
  have h1 := al_iff.1 h j (by rw [hok.sl n hn]; exact hj)
  obtain ⟨k, hk, e⟩ := inC_iff.1 (hok.si n hn j hj _ h1)
  refine ⟨k, hk, e.symm, ?_⟩
  unfold ebS
  rw [if_pos hj, bz_bit, decide_eq_true hk, Bool.true_and, e]
  exact h1⟩
theorem eb_in (hok : Ok l E) {n : Nat} (hn : n < E.length) {x : List Int} (h : inBx l x (ebS l E n)) : flB E x n = true := by
  unfold flB
  rw [al_iff]
  intro j hj
  rw [hok.sl n hn] at hj
  obtain ⟨k, q1, q2, q3⟩ := h.2 j hj
  unfold ebS at q3
  rw [if_pos hj, bz_bit, Bool.and_eq_true] at q3
  rw [q2]; exact q3.2
theorem eb_clo (hok : Ok l E) {n : Nat} (hn : n < E.length) : Clo l E (ebS l E n) := fun x hx => by
  have h := eb_in hok hn hx
  unfold paB
  cases e : al (fun n => !flB E x n) E.length with
  | false => exact Bool.and_false _
  | true =>
    have := al_iff.1 e n hn
    rw [h] at this; cases this
/-- A record of valid values that does not pass fails some edit. -/
theorem fails_ex {x : List Int} (h : paB l E x = false) (hv : vdB l x = true) : ∃ n, n < E.length ∧ flB E x n = true := by
  unfold paB at h
  rw [hv, Bool.true_and] at h
  refine Classical.byContradiction fun q => ?_
  have : al (fun n => !flB E x n) E.length = true := al_iff.2 fun n hn => by
    cases e : flB E x n with
    | false => rfl
    | true => exact absurd ⟨n, hn, e⟩ q
  rw [h] at this; cases this
theorem in_vd {x : List Int} {B : Nat → Nat} (h : inBx l x B) : vdB l x = true := by
  unfold vdB
  exact al_iff.2 fun j hj => by
    obtain ⟨k, q1, q2, _⟩ := h.2 j hj
    exact inC_iff.2 ⟨k, q1, q2.symm⟩
def Cov (L : List (Nat → Nat)) (B : Nat → Nat) : Prop := ∃ P, P ∈ L ∧ Wi B P
/-- How many codes a box has. -/
def cnt (l : List Fd) (B : Nat → Nat) : Nat → Nat
  | 0 => 0
  | n + 1 => cnt l B n + (lst (fun k => (B n).testBit k) (fd l n).cs.length).length
theorem flt_lt {α : Type} {p q : α → Bool} : ∀ {s : List α}, (∀ x, x ∈ s → p x = true → q x = true) → (∃ x, x ∈ s ∧ p x = false ∧ q x = true) → (s.filter p).length < (s.filter q).length
  | [], _, ⟨x, hx, _⟩ => absurd hx (by simp)
  | a :: s, h, ⟨x, hx, h1, h2⟩ => by
    have hle : ∀ {s : List α}, (∀ x, x ∈ s → p x = true → q x = true) → (s.filter p).length ≤ (s.filter q).length := fun {s} h => by
      induction s with
      | nil => exact Nat.le_refl _
      | cons b s ih =>
        have i := ih fun x hx => h x (List.mem_cons_of_mem _ hx)
        rw [List.filter_cons, List.filter_cons]
        cases e : p b with
        | false => cases e2 : q b <;> simp <;> omega
        | true => rw [h b (by simp) e]; simp; omega
    rw [List.filter_cons, List.filter_cons]
    rcases List.mem_cons.1 hx with rfl | hx
    · rw [h1, h2]
      have := hle fun x hx => h x (List.mem_cons_of_mem _ hx)
      simp; omega
    · have i := flt_lt (s := s) (fun x hx => h x (List.mem_cons_of_mem _ hx)) ⟨x, hx, h1, h2⟩
      cases e : p a with
      | false => cases e2 : q a <;> simp <;> omega
      | true => rw [h a (by simp) e]; simp; omega
theorem flt_le {α : Type} {p q : α → Bool} : ∀ {s : List α}, (∀ x, x ∈ s → p x = true → q x = true) → (s.filter p).length ≤ (s.filter q).length
  | [], _ => Nat.le_refl _
  | b :: s, h => by
    have i := flt_le (s := s) fun x hx => h x (List.mem_cons_of_mem _ hx)
    rw [List.filter_cons, List.filter_cons]
    cases e : p b with
    | false => cases e2 : q b <;> simp <;> omega
    | true => rw [h b (by simp) e]; simp; omega
theorem cnt_le {A B : Nat → Nat} (h : Wi A B) : ∀ n, cnt l A n ≤ cnt l B n
  | 0 => Nat.le_refl _
  | n + 1 => Nat.add_le_add (cnt_le h n) (flt_le (s := List.range (fd l n).cs.length) fun k _ e => h n k e)
theorem cnt_lt {A B : Nat → Nat} (h : Wi A B) {i k : Nat} (hk : k < (fd l i).cs.length) (h1 : (A i).testBit k = false) (h2 : (B i).testBit k = true) : ∀ n, i < n → cnt l A n < cnt l B n
  | 0, hi => absurd hi (by omega)
  | n + 1, hi => by
    by_cases e : i = n
    · subst e
      exact Nat.add_lt_add_of_le_of_lt (cnt_le (l := l) h i) (flt_lt (s := List.range (fd l i).cs.length) (fun k _ e => h i k e) ⟨k, List.mem_range.2 hk, h1, h2⟩)
    · exact Nat.add_lt_add_of_lt_of_le (cnt_lt h hk h1 h2 n (by omega)) (flt_le (s := List.range (fd l n).cs.length) fun k _ e => h n k e)
/-- Boxes that cover the edits and, of each two of them, the joint boxes, cover each closed box. -/
theorem cover (hok : Ok l E) {L : List (Nat → Nat)} (hL : ∀ P, P ∈ L → Vb l P) (h1 : ∀ n, n < E.length → Cov L (ebS l E n)) (h2 : ∀ A B, A ∈ L → B ∈ L → ∀ k, k < l.length → emB l (joB A B k) = false → Cov L (joB A B k)) :
    ∀ (c : Nat) (B : Nat → Nat), cnt l B l.length ≤ c → Vb l B → Clo l E B → Cov L B := by
  intro c
  induction c with
  | zero =>
    intro B hc hB hcl
    exfalso
    obtain ⟨k, hk⟩ := bit_of_ne (hB.ne 0 hok.n1)
    have := cnt_lt (l := l) (A := fun _ => 0) (B := B) (fun i k e => by rw [Nat.zero_testBit] at e; cases e) (i := 0) (k := k) (bit_lt (hB.lt 0 hok.n1) hk) (Nat.zero_testBit _) hk l.length hok.n1
    omega
  | succ c ih =>
    intro B hc hB hcl
    by_cases hs : ∃ i a b, i < l.length ∧ a ≠ b ∧ (B i).testBit a = true ∧ (B i).testBit b = true
    · obtain ⟨i, a, b, hi, hab, ha, hb⟩ := hs
      have ha20 := bit_lt (hB.lt i hi) ha
      have hb20 := bit_lt (hB.lt i hi) hb
      -- the box with code a alone, and that without it
      have hC1 : Wi (upd B i (2 ^ a)) B := fun j k e => by
        unfold upd at e
        split at e
        · rename_i q; subst q
          rw [Nat.testBit_two_pow] at e
          have := of_decide_eq_true e
          subst this; exact ha
        · exact e
      have hbit : ∀ k, (bz (fun k => (B i).testBit k && decide (k ≠ a)) (fd l i).cs.length).testBit k = ((B i).testBit k && decide (k ≠ a)) := fun k => by
        rw [bz_bit]
        by_cases hk : k < (fd l i).cs.length
        · rw [decide_eq_true hk, Bool.true_and]
        · rw [decide_eq_false hk, Bool.false_and]
          cases e : (B i).testBit k with
          | false => rfl
          | true => exact absurd (bit_lt (hB.lt i hi) e) hk
      have hC2 : Wi (upd B i (bz (fun k => (B i).testBit k && decide (k ≠ a)) (fd l i).cs.length)) B := fun j k e => by
        unfold upd at e
        split at e
        · rename_i q; subst q
          rw [hbit, Bool.and_eq_true] at e
          exact e.1
        · exact e
      have v1 : Vb l (upd B i (2 ^ a)) := by
        refine ⟨fun j hj => ?_, fun j hj => ?_, fun j hj => ?_⟩ <;> unfold upd <;> split
        · exact Nat.ne_of_gt (Nat.two_pow_pos _)
        · exact hB.ne j hj
        · rename_i q; subst q; exact Nat.pow_lt_pow_right (by omega) ha20
        · exact hB.lt j hj
        · omega
        · exact hB.out j hj
      have v2 : Vb l (upd B i (bz (fun k => (B i).testBit k && decide (k ≠ a)) (fd l i).cs.length)) := by
        refine ⟨fun j hj => ?_, fun j hj => ?_, fun j hj => ?_⟩ <;> unfold upd <;> split
        · exact bz_pos hb20 (by rw [hb]; simpa using Ne.symm hab)
        · exact hB.ne j hj
        · rename_i q; subst q; exact bz_lt _ _
        · exact hB.lt j hj
        · omega
        · exact hB.out j hj
      have n1 := cnt_lt (l := l) hC1 (i := i) (k := b) hb20 (by unfold upd; rw [if_pos rfl, Nat.testBit_two_pow]; exact decide_eq_false hab) hb l.length hi
      have n2 := cnt_lt (l := l) hC2 (i := i) (k := a) ha20 (by unfold upd; rw [if_pos rfl, hbit]; simp) ha l.length hi
      obtain ⟨P, hP, w1⟩ := ih _ (by omega) v1 (clo_wi hcl hC1)
      obtain ⟨Q, hQ, w2⟩ := ih _ (by omega) v2 (clo_wi hcl hC2)
      have hj : Wi B (joB P Q i) := fun j k e => by
        unfold joB
        by_cases q : j = i
        · subst q
          rw [if_pos rfl, Nat.testBit_or, Bool.or_eq_true]
          by_cases ka : k = a
          · subst ka
            exact .inl (w1 j k (by unfold upd; rw [if_pos rfl, Nat.testBit_two_pow]; simp))
          · exact .inr (w2 j k (by unfold upd; rw [if_pos rfl, hbit, e]; simpa using ka))
        · rw [if_neg q, Nat.testBit_and, Bool.and_eq_true]
          exact ⟨w1 j k (by unfold upd; rw [if_neg q]; exact e), w2 j k (by unfold upd; rw [if_neg q]; exact e)⟩
      have hem : emB l (joB P Q i) = false := em_iff.2 fun j hj2 => by
        obtain ⟨k, hk⟩ := bit_of_ne (hB.ne j hj2)
        exact ne_of_bit (hj j k hk)
      obtain ⟨R, hR, w3⟩ := h2 P Q hP hQ i hi hem
      exact ⟨R, hR, hj.trans w3⟩
    · -- one record
      have h0 : ∀ j, ∃ k, j < l.length → (B j).testBit k = true := fun j => by
        by_cases hj : j < l.length
        · obtain ⟨k, hk⟩ := bit_of_ne (hB.ne j hj)
          exact ⟨k, fun _ => hk⟩
        · exact ⟨0, fun q => absurd q hj⟩
      obtain ⟨f, hf⟩ := Classical.axiomOfChoice h0
      have hx : inBx l (recK l f) B := ⟨recK_len l f, fun j hj => ⟨f j, bit_lt (hB.lt j hj) (hf j hj), recK_fn hj, hf j hj⟩⟩
      obtain ⟨n, hn, hfl⟩ := fails_ex (hcl _ hx) (in_vd hx)
      have hy := in_eb hok hn (recK_len l f) hfl
      obtain ⟨P, hP, w⟩ := h1 n hn
      refine ⟨P, hP, fun j k e => w j k ?_⟩
      by_cases hj : j < l.length
      · obtain ⟨k', q1, q2, q3⟩ := hy.2 j hj
        rw [recK_fn hj] at q2
        have e1 : f j = k' := Ok.inj hok hj (bit_lt (hB.lt j hj) (hf j hj)) q1 q2
        have e2 : k = f j := Classical.byContradiction fun q => hs ⟨j, k, f j, hj, q, e, hf j hj⟩
        rw [e2, e1]; exact q3
      · rw [hB.out j (by omega), Nat.zero_testBit] at e; cases e
end
end Go.Proofs.YtadfmplafehjlaaDoor
namespace Go.Proofs.YtadfmplafehjlaaDoor
open Go.RowKit Go.WideMaps Go.Maps Go.Shelf

attribute [local go_sem] Oper.semAt_some

set_option maxRecDepth 100000 in
set_option maxHeartbeats 4000000 in
theorem cost_c (p : Nat) (l : List Fd) (E : List Ed) (i : Nat) (w : World) (hP : PlR w p l E) (hok : Ok l E) (hi : i < l.length) :
    Calls Tryd.prog 72 #[.pointer (some ⟨p, 0, none⟩), .int .i64 i] w fun e w' => e = .returned (.int .i64 (csN l i : Nat)) ∧ Below w.heap.size w w' := by
  have mixed : Tryd.prog.follows .mixedOrders = true := by kernel_rfl
  obtain ⟨fb, fc, f0, _, hfa⟩ := hP.fs
  obtain ⟨⟨_, _, hw⟩, _, _⟩ := hfa i hi
  have h12 := hok.n12
  have hwt := hok.wt i hi
  obtain ⟨x, hx⟩ : ∃ x, (fd l i).wt = x := ⟨_, rfl⟩
  obtain ⟨n, hn⟩ : ∃ x, l.length = x := ⟨_, rfl⟩
  rw [hx] at hw hwt
  rw [hn] at f0 hi h12
  have hi0 : (0 : Int) ≤ (i : Int) := by omega
  have hin : (i : Int) < (n : Int) := by omega
  have PW : Hid (wrap64 (x * 16777216 + 4096 - wrap64 ((2 : Int) ^ (11 - i))) = ((csN l i : Nat) : Int)) := by
    unfold Hid
    have h1 := pow11 i
    have e : ((2 : Int) ^ (11 - i)) = ((2 ^ (11 - i) : Nat) : Int) := by rw [Int.natCast_pow]; rfl
    rw [e]
    unfold csN wtN
    rw [hx]
    generalize 2 ^ (11 - i) = y at h1
    unfold wrap64
    omega
  have HX := Lib.hid hx
  clear hP hok hfa hx
  go_enter Tryd.func72, Tryd.ntmps72
  go_wp2
  go_quiet (fail)
  rw [PW.out]
  have B : Hid (Below w.heap.size w (w.drewN nq)) := below_drewN _ _
  clear hw f0
  go_wp2
  go_ret
  exact ⟨rfl, B.out⟩
end Go.Proofs.YtadfmplafehjlaaDoor
namespace Go.Proofs.YtadfmplafehjlaaDoor
open Go.RowKit Go.WideMaps Go.Maps Go.Shelf

attribute [local go_sem] Oper.semAt_some

def chR (R C : Nat → Nat) (i : Nat) : Bool := decide (R i &&& C i = 0)
/-- The costs of box number n. -/
def coR (l : List Fd) (R : Nat → Nat) (L : List (Nat → Nat)) (n : Nat) : Nat := smS (csN l) (chR R (bxAt L n)) l.length
/-- The best of the first n boxes. -/
def LsI (l : List Fd) (R : Nat → Nat) (L : List (Nat → Nat)) (n out best : Nat) : Prop :=
  (n = 0 ∧ out = 0 ∧ best = 9223372036854775807) ∨ ∃ m, m < n ∧ out = bz (chR R (bxAt L m)) l.length ∧ best = coR l R L m ∧ ∀ q, q < n → best ≤ coR l R L q
section
variable {l : List Fd} {E : List Ed} {R : Nat → Nat} {L : List (Nat → Nat)} {n out best : Nat}
theorem LsI.keep (h : LsI l R L n out best) (hok : Ok l E) (hb : best ≤ coR l R L n) : LsI l R L (n + 1) out best := by
  rcases h with ⟨_, _, h⟩ | ⟨m, h1, h2, h3, h4⟩
  · have := cs_bd hok (chR R (bxAt L n)) (Nat.le_refl _)
    unfold coR at hb
    omega
  · refine .inr ⟨m, by omega, h2, h3, fun q hq => ?_⟩
    by_cases e : q = n
    · rw [e]; exact hb
    · exact h4 q (by omega)
theorem LsI.take (h : LsI l R L n out best) (hb : coR l R L n < best) : LsI l R L (n + 1) (bz (chR R (bxAt L n)) l.length) (coR l R L n) := by
  refine .inr ⟨n, by omega, rfl, rfl, fun q hq => ?_⟩
  by_cases e : q = n
  · rw [e]; exact Nat.le_refl _
  · rcases h with ⟨h0, _⟩ | ⟨m, _, _, _, h4⟩
    · omega
    · have := h4 q (by omega); omega
theorem LsI.bd (h : LsI l R L n out best) (hok : Ok l E) : out < 2 ^ 12 ∧ best ≤ 9223372036854775807 := by
  rcases h with ⟨_, h1, h2⟩ | ⟨m, _, h2, h3, _⟩
  · rw [h1, h2]; exact ⟨by decide, Nat.le_refl _⟩
  · rw [h2, h3]
    refine ⟨Nat.lt_of_lt_of_le (bz_lt _ _) (Nat.pow_le_pow_right (by omega) hok.n12), ?_⟩
    have := cs_bd hok (chR R (bxAt L m)) (Nat.le_refl _)
    unfold coR
    omega
end
def LesP (l : List Fd) (R : Nat → Nat) (L : List (Nat → Nat)) (w : World) (e : Ending) (w' : World) : Prop :=
  Below w.heap.size w w' ∧ ∃ out best, e = .returned (.int .u64 (out : Nat)) ∧ LsI l R L L.length out best
set_option maxRecDepth 100000 in
set_option maxHeartbeats 8000000 in
theorem least_c (p : Nat) (l : List Fd) (E : List Ed) (R : Nat → Nat) (a : Option Addr) (c : Nat) (L : List (Nat → Nat)) (w : World) (hP : PlR w p l E) (hok : Ok l E) (hL : RdX w a L) (hR : ∀ i, i < l.length → R i < 2 ^ 20) (hLb : ∀ n, n < L.length → ∀ i, i < l.length → bxAt L n i < 2 ^ 20) :
    Calls Tryd.prog 50 #[.pointer (some ⟨p, 0, none⟩), bxV R, .slice a L.length c] w (LesP l R L w) := by
  have mixed : Tryd.prog.follows .mixedOrders = true := by kernel_rfl
  obtain ⟨W1, hW1⟩ : ∃ V, w.alloc (.cells #[.int .u64 (R 0), .int .u64 (R 1), .int .u64 (R 2), .int .u64 (R 3), .int .u64 (R 4), .int .u64 (R 5), .int .u64 (R 6), .int .u64 (R 7), .int .u64 (R 8), .int .u64 (R 9), .int .u64 (R 10), .int .u64 (R 11)] 57) = V := ⟨_, rfl⟩
  obtain ⟨rb, hrb⟩ : ∃ q, w.heap.size = q := ⟨_, rfl⟩
  have b1 : Below w.heap.size w W1 := by rw [← hW1]; exact bel_one _ _
  have X1 : Hid (BxAt W1 rb 0 R ∧ rb < W1.heap.size) := by unfold Hid; rw [← hW1, ← hrb]; exact ⟨bx_made w R, by simp⟩
  obtain ⟨fb, fc, f0, _, _⟩ := (hP.below b1).fs
  obtain ⟨n, hn⟩ : ∃ n, l.length = n := ⟨_, rfl⟩
  have n12 : n ≤ 12 := by rw [← hn]; exact hok.n12
  rw [hn] at f0
  have hm0 := run_make_row' (P := Tryd.prog) 26 3 (.int .i64 0) 8 Tryd.underlying26 infoIn rfl .i64 .i64 n (by omega) (by omega)
  obtain ⟨Z, hZ, hZ2⟩ := zerosI_ex n
  rw [hZ] at hm0
  obtain ⟨W2, hW2⟩ : ∃ V, W1.alloc (.cells Z 3) = V := ⟨_, rfl⟩
  obtain ⟨cb, hcb⟩ : ∃ q, W1.heap.size = q := ⟨_, rfl⟩
  have b2 : Below W1.heap.size W1 W2 := by rw [← hW2]; exact bel_one _ _
  have B1 := Lib.hid b1
  have B2 := Lib.hid b2
  have R2 : Hid ((∀ q, q < n → W2.cell? ⟨cb, q, none⟩ = some (.int .i64 0)) ∧ (∀ o, W2.frozen? ⟨cb, o, none⟩ = false) ∧ cb < W2.heap.size ∧ W1.heap.size = cb) := by
    unfold Hid
    refine ⟨fun q hq => ?_, fun o => ?_, ?_, hcb⟩
    · rw [← hW2, ← hcb, World.cell?_alloc_new]; exact hZ2 q hq
    · rw [← hW2, ← hcb]; simp
    · rw [← hW2, ← hcb]; simp
  have HP := Lib.hid hP
  have HOK := Lib.hid hok
  have HL := Lib.hid hL
  have HRR := Lib.hid hR
  have HLB := Lib.hid hLb
  have HN := Lib.hid hn
  have HW : Hid (w.heap.size = rb) := hrb
  have hLl := hL.1
  unfold bxV
  clear hP hok hL hR hLb hn hZ hZ2 b1 b2
  go_enter Tryd.func50, Tryd.ntmps50
  go_wp2_with fail
  clear hW1 hW2 hm0
  have d0 := Lib.hid f0
  clear f0
  go_loopw [8, 24] (fun _ iv wr => ∃ j : Nat, iv = .int .i64 j ∧ Hid (j ≤ n ∧ Kx (fun b => b = cb) W2 wr ∧ (∀ q, q < n → wr.cell? ⟨cb, q, none⟩ = some (.int .i64 ((if q < j then csN l q else 0 : Nat) : Int))) ∧ ∀ o, wr.frozen? ⟨cb, o, none⟩ = false)) (fun _ iv _ => n - (intOf iv).toNat)
  case atStart => exact ⟨0, rfl, Nat.zero_le _, Kx.refl _ _, fun q hq => by rw [R2.out.1 q hq, if_neg (by omega)]; rfl, R2.out.2.1⟩
  case round =>
    obtain ⟨j, rfl, hS⟩ := hrel
    obtain ⟨hj, hkx, hcs, hfr⟩ := hS.out
    have BVr : Hid (Below w.heap.size w wr) := by
      have h1 := R2.out.2.2.2
      have h2 := B1.out.size
      have h3 := B2.out.size
      exact (B1.out.trans (B2.out.mono (by omega))).trans (hkx.below (by omega) (fun b e => by omega))
    by_cases hlt : j < n
    · have hlt' : (j : Int) < (n : Int) := by omega
      have hj0 : (0 : Int) ≤ (j : Int) := by omega
      have C := Lib.hid (cost_c p l E j wr (HP.out.below BVr.out) HOK.out (by rw [HN.out]; exact hlt))
      obtain ⟨x, hx⟩ : ∃ x, csN l j = x := ⟨_, rfl⟩
      have HX := Lib.hid hx
      rw [hx] at C
      have HS := Lib.hid hS.out
      have hcj := hcs j hlt
      rw [if_neg (by omega)] at hcj
      have hcl : Hid (cb < wr.heap.size) := cellLt hcj
      clear hx hkx hcs hS hfr hcj
      go_wp2_with fail
      refine C.out.mono ?_
      rintro e1 w3 ⟨rfl, b3⟩
      have B3 := Lib.hid b3
      have hc3 := (b3.cell (p := ⟨cb, j, none⟩) hcl.out).trans (HS.out.2.2.1 j hlt)
      have hf3 := (b3.frozen (p := ⟨cb, j, none⟩) hcl.out).trans (HS.out.2.2.2 j)
      obtain ⟨W4, hW4⟩ : ∃ V, w3.setCell ⟨cb, j, none⟩ (.int .i64 (x : Nat)) = V := ⟨_, rfl⟩
      have NX : Hid (j + 1 ≤ n ∧ Kx (fun b => b = cb) W2 W4 ∧ (∀ q, q < n → W4.cell? ⟨cb, q, none⟩ = some (.int .i64 ((if q < j + 1 then csN l q else 0 : Nat) : Int))) ∧ ∀ o, W4.frozen? ⟨cb, o, none⟩ = false) := by
        obtain ⟨_, hkx, hcs, hfr⟩ := HS.out
        refine ⟨hlt, ?_, fun q hq => ?_, fun o => ?_⟩
        · rw [← hW4]
          exact (hkx.trans (Kx.of_below b3)).trans (Kx.of_grown (r := cb) (grown_set w3 _ _ _) (.inl rfl))
        · rw [← hW4]
          by_cases e : q = j
          · rw [e, World.cell?_setCell_same _ _ _ hc3, if_pos (by omega), HX.out]
          · rw [World.cell?_setCell_other _ _ _ _ (fun y => by injection y with _ y; exact e y.symm), (b3.cell (p := ⟨cb, q, none⟩) hcl.out).trans (hcs q hq)]
            by_cases e2 : q < j
            · rw [if_pos e2, if_pos (by omega)]
            · rw [if_neg e2, if_neg (by omega)]
        · rw [← hW4, World.frozen?_setCell]
          exact (b3.frozen (p := ⟨cb, o, none⟩) hcl.out).trans (hfr o)
      clear b3 C
      go_wp2_with fail
      clear hc3 hf3 hW4
      go_roundw
      case rel => exact ⟨j + 1, by go_num, NX.out⟩
      case measure => simp [intOf]; omega
    · have hlt' : ¬ (j : Int) < (n : Int) := by omega
      have hjn : j = n := by omega
      subst hjn
      obtain ⟨W3, hW3⟩ : ∃ V : World, V = wr := ⟨_, rfl⟩
      subst hW3
      have CS : Hid ((∀ q, q < j → W3.cell? ⟨cb, q, none⟩ = some (.int .i64 ((csN l q : Nat) : Int))) ∧ BxAt W3 rb 0 R ∧ RdX W3 a L) := by
        have h1 := R2.out.2.2.2
        have h2 := X1.out.2
        have h3 := B1.out.size
        have h4 := HW.out
        refine ⟨fun q hq => ?_, ?_, HL.out.below BVr.out⟩
        · have := hcs q hq
          rw [if_pos hq] at this; exact this
        · have e := X1.out.1.below B2.out h2
          exact fun i hi => hkx.cell (e i hi) (by show rb ≠ cb; omega)
      clear hlt hj hkx hcs hfr hS
      go_wp2_with fail
      clear d0
      go_loopw [9, 10, 11, 12, 13, 14, 15, 36] (fun ov bv _ _ _ _ _ iv wr => ∃ (m out best : Nat), iv = .int .i64 m ∧ ov = .int .u64 out ∧ bv = .int .i64 best ∧ Hid (m ≤ L.length ∧ LsI l R L m out best ∧ Below W3.heap.size W3 wr)) (fun _ _ _ _ _ _ _ iv _ => L.length - (intOf iv).toNat)
      case atStart => exact ⟨0, 0, 9223372036854775807, rfl, rfl, rfl, Nat.zero_le _, .inl ⟨rfl, rfl, rfl⟩, Below.refl _ _⟩
      case round =>
        obtain ⟨m, out, best, rfl, rfl, rfl, hS⟩ := hrel
        obtain ⟨hm, hls, hb⟩ := hS.out
        by_cases hlt : m < L.length
        · have hlt' : (m : Int) < (L.length : Int) := by omega
          have hm0 : (0 : Int) ≤ (m : Int) := by omega
          obtain ⟨lb, ea, hll, hlc⟩ := CS.out.2.2.2 (by omega)
          subst ea
          obtain ⟨wo, hwo⟩ : ∃ V : World, V = wr := ⟨_, rfl⟩
          subst hwo
          have HLS := Lib.hid hls
          have HBO := Lib.hid hb
          have LC : Hid (BxAt W3 lb (m * 12) (bxAt L m) ∧ lb < W3.heap.size) := ⟨hlc m hlt, hll⟩
          have bst := (hls.bd HOK.out).2
          have HM := Lib.hid hlt
          obtain ⟨C, hC⟩ : ∃ C, bxAt L m = C := ⟨_, rfl⟩
          have HC := Lib.hid hC
          have HCB : Hid (∀ i, i < j → C i < 2 ^ 20) := fun i hi => by rw [← hC]; exact HLB.out m hlt i (by rw [HN.out]; exact hi)
          rw [hC] at LC
          have HCO : Hid (coR l R L m = smS (csN l) (chR R C) j) := by unfold Hid coR; rw [hC, HN.out]
          have HBZ : Hid (bz (chR R (bxAt L m)) l.length = bz (chR R C) j) := by unfold Hid; rw [hC, HN.out]
          clear hC hm hls hb hS hlc hll
          go_wp2_with fail
          go_loopw [12, 13, 14, 15, 41] (fun hv cv _ _ iv wr => ∃ (i ch co : Nat), iv = .int .i64 i ∧ hv = .int .u64 ch ∧ cv = .int .i64 co ∧ Hid (i ≤ j ∧ ch = bz (chR R C) i ∧ co = smS (csN l) (chR R C) i ∧ Below W3.heap.size W3 wr)) (fun _ _ _ _ iv _ => j - (intOf iv).toNat)
          case atStart => exact ⟨0, 0, 0, rfl, rfl, rfl, Nat.zero_le _, rfl, rfl, HBO.out⟩
          case round =>
            obtain ⟨i, ch, co, rfl, rfl, rfl, hS⟩ := hrel
            obtain ⟨hi, hch, hco, hb⟩ := hS.out
            have hbc : co ≤ 201326641152 := by rw [hco]; exact cs_bd HOK.out _ (by rw [HN.out]; exact hi)
            have HB := Lib.hid hb
            by_cases hlt2 : i < j
            · have hlt2' : (i : Int) < (j : Int) := by omega
              have hi0 : (0 : Int) ≤ (i : Int) := by omega
              have hi12 : (i : Int) < 12 := by omega
              obtain ⟨x, hx⟩ : ∃ x, csN l i = x := ⟨_, rfl⟩
              have hxb : x ≤ 201326641152 := by
                have h1 := cs_bd HOK.out (fun _ => true) (n := i + 1) (by rw [HN.out]; omega)
                rw [sm_succ, if_pos rfl, hx] at h1
                omega
              have c0 := CS.out.1 i hlt2
              rw [hx] at c0
              have c1 := (hb.cell (p := ⟨cb, i, none⟩) (cellLt c0)).trans c0
              have r0 := CS.out.2.1 i (by omega)
              rw [Nat.zero_add] at r0
              have r1 := (hb.cell (p := ⟨rb, i, none⟩) (cellLt r0)).trans r0
              have l0 := LC.out.1 i (by omega)
              have l1 := (hb.cell (p := ⟨lb, m * 12 + i, none⟩) (cellLt l0)).trans l0
              have hRi := HRR.out i (by rw [HN.out]; exact hlt2)
              have hCi := HCB.out i hlt2
              obtain ⟨z, hz⟩ : ∃ z, R i &&& C i = z := ⟨_, rfl⟩
              have HZ : Hid (chR R C i = decide (z = 0)) := by unfold Hid chR; rw [hz]
              obtain ⟨ri, hri⟩ : ∃ z, R i = z := ⟨_, rfl⟩
              obtain ⟨ci, hci⟩ : ∃ z, C i = z := ⟨_, rfl⟩
              rw [hri] at hRi r1 hz
              rw [hci] at hCi l1 hz
              have hand : bits .and .u64 (ri : Int) (ci : Int) = (z : Int) := by rw [← hz]; exact Go.u64_and_nat _ _ (by omega) (by omega)
              have SS : Hid (smS (csN l) (chR R C) (i + 1) = smS (csN l) (chR R C) i + (if chR R C i = true then x else 0)) := by unfold Hid; rw [sm_succ, hx]
              have HCH := Lib.hid hch
              have HCC := Lib.hid hco
              by_cases h0 : z = 0
              · have g0 : ((z : Int) != 0) = false := by rw [h0]; rfl
                rw [h0] at HZ
                have hDc : Hid (chR R C i = true) := by unfold Hid; rw [HZ.out]; rfl
                have C8 : Hid (∀ V, Calls Tryd.prog 70 #[.int .i64 i] V fun e w' => e = .returned (.int .u64 ((2 ^ i : Nat) : Int)) ∧ w' = V) := fun V => only_c i V (by omega)
                have hchb : ch < 2 ^ 12 := by rw [hch]; exact Nat.lt_of_lt_of_le (bz_lt _ _) (Nat.pow_le_pow_right (by omega) (by omega))
                have hp2b : 2 ^ i < 2 ^ 12 := Nat.pow_lt_pow_right (by omega) (by omega)
                obtain ⟨p2, hp2⟩ : ∃ v, 2 ^ i = v := ⟨_, rfl⟩
                rw [hp2] at C8 hp2b
                have hor : bits .or .u64 (ch : Int) (p2 : Int) = ((ch ||| p2 : Nat) : Int) := Go.u64_or_nat _ _ (by omega) (by omega)
                obtain ⟨ch2, hch2⟩ : ∃ v, ch ||| p2 = v := ⟨_, rfl⟩
                rw [hch2] at hor
                have HC2 : Hid (ch2 = bz (chR R C) (i + 1)) := by
                  unfold Hid
                  show _ = bz (chR R C) i ||| _
                  rw [if_pos hDc.out, hp2, ← hch, hch2]
                have HO2 : Hid (co + x = smS (csN l) (chR R C) (i + 1)) := by unfold Hid; rw [SS.out, if_pos hDc.out, ← hco]
                clear hx hS hch hco hb c0 r0 l0 hz hri hci hRi hCi HZ h0 hp2 hch2
                go_wp2_with fail
                go_quiet (fail)
                obtain ⟨wd, hwd⟩ : ∃ V, wr.drewN nq = V := ⟨_, rfl⟩
                have BD : Hid (Below W3.heap.size W3 wd) := by unfold Hid; rw [← hwd]; exact HB.out.trans ((below_drewN _ _).mono HB.out.size)
                rw [hwd]
                clear hwd hand c1 r1 l1
                go_wp2_with fail
                refine (C8.out _).mono ?_
                rintro e1 w4 ⟨rfl, rfl⟩
                have hw1 : IntKind.i64.wrap ((co : Int) + (x : Int)) = (co : Int) + (x : Int) := by rw [IntKind.wrap_i64]; omega
                obtain ⟨y, hy⟩ : ∃ y, co + x = y := ⟨_, rfl⟩
                have hy' : (co : Int) + (x : Int) = (y : Int) := by omega
                have HY := Lib.hid hy
                have hyb : y ≤ 402653282304 := by omega
                by_cases hge : best ≤ y
                · have hge' : (best : Int) ≤ (y : Int) := by omega
                  have hge2 : ¬ (y : Int) < (best : Int) := by omega
                  have NX : Hid (m + 1 ≤ L.length ∧ LsI l R L (m + 1) out best ∧ Below W3.heap.size W3 w4) := by
                    refine ⟨HM.out, HLS.out.keep HOK.out ?_, BD.out⟩
                    rw [HCO.out]
                    obtain ⟨d, hd⟩ : ∃ d, j = i + 1 + d := ⟨j - (i + 1), by omega⟩
                    have := sm_mono (csN l) (chR R C) (i + 1) d
                    rw [← hd, ← HO2.out, HY.out] at this
                    omega
                  clear hge hy
                  go_wp2_with fail
                  go_roundw
                  case rel => exact ⟨m + 1, out, best, by go_num, rfl, rfl, NX.out⟩
                  case measure => simp [intOf]; omega
                · have hge' : ¬ (best : Int) ≤ (y : Int) := by omega
                  have NX : Hid (i + 1 ≤ j ∧ ch2 = bz (chR R C) (i + 1) ∧ y = smS (csN l) (chR R C) (i + 1) ∧ Below W3.heap.size W3 w4) := ⟨hlt2, HC2.out, by rw [← HO2.out]; exact HY.out.symm, BD.out⟩
                  clear hge hy
                  go_wp2_with fail
                  go_roundw
                  case rel => exact ⟨i + 1, ch2, y, by go_num, rfl, rfl, NX.out⟩
                  case measure => simp [intOf]; omega
              · have g0 : ((z : Int) != 0) = true := by simp; omega
                have hDc : Hid (chR R C i = false) := by unfold Hid; rw [HZ.out]; exact decide_eq_false h0
                have HC2 : Hid (ch = bz (chR R C) (i + 1)) := by
                  unfold Hid
                  show _ = bz (chR R C) i ||| _
                  rw [if_neg (by rw [hDc.out]; simp), ← hch, Nat.or_zero]
                have HO2 : Hid (co = smS (csN l) (chR R C) (i + 1)) := by unfold Hid; rw [SS.out, if_neg (by rw [hDc.out]; simp), ← hco]; rfl
                clear hx hS hch hco hb c0 r0 l0 hz hri hci hRi hCi HZ h0
                go_wp2_with fail
                go_quiet (fail)
                obtain ⟨wd, hwd⟩ : ∃ V, wr.drewN nq = V := ⟨_, rfl⟩
                have BD : Hid (Below W3.heap.size W3 wd) := by unfold Hid; rw [← hwd]; exact HB.out.trans ((below_drewN _ _).mono HB.out.size)
                rw [hwd]
                clear hwd hand c1 r1 l1
                go_wp2_with fail
                go_roundw
                case rel => exact ⟨i + 1, ch, co, by go_num, rfl, rfl, hlt2, HC2.out, HO2.out, BD.out⟩
                case measure => simp [intOf]; omega
            · have hlt2' : ¬ (i : Int) < (j : Int) := by omega
              have e : i = j := by omega
              subst e
              have HCC := Lib.hid hco
              have HCH := Lib.hid hch
              by_cases hge : co < best
              · have hge' : (co : Int) < (best : Int) := by omega
                have NX : Hid (m + 1 ≤ L.length ∧ LsI l R L (m + 1) ch co ∧ Below W3.heap.size W3 wr) := by
                  refine ⟨HM.out, ?_, HB.out⟩
                  have := HLS.out.take (by rw [HCO.out, ← hco]; exact hge)
                  rw [HBZ.out, HCO.out, ← hch, ← hco] at this
                  exact this
                clear hge hS hch hco hb hi hlt2
                go_wp2_with fail
                go_roundw
                case rel => exact ⟨m + 1, ch, co, by go_num, rfl, rfl, NX.out⟩
                case measure => simp [intOf]; omega
              · have hge' : ¬ (co : Int) < (best : Int) := by omega
                have NX : Hid (m + 1 ≤ L.length ∧ LsI l R L (m + 1) out best ∧ Below W3.heap.size W3 wr) := by
                  refine ⟨HM.out, HLS.out.keep HOK.out ?_, HB.out⟩
                  rw [HCO.out, ← hco]; omega
                clear hge hS hch hco hb hi hlt2
                go_wp2_with fail
                go_roundw
                case rel => exact ⟨m + 1, out, best, by go_num, rfl, rfl, NX.out⟩
                case measure => simp [intOf]; omega
        · have hlt' : ¬ (m : Int) < (L.length : Int) := by omega
          have e : m = L.length := by omega
          have PP : Hid (LesP l R L w (.returned (.int .u64 (out : Nat))) wr) := by
            refine ⟨BVr.out.trans (hb.mono BVr.out.size), out, best, rfl, ?_⟩
            rw [← e]; exact hls
          clear hS hm hls hb hlt e
          go_wp2_with fail
          go_ret
          exact PP.out
end Go.Proofs.YtadfmplafehjlaaDoor
