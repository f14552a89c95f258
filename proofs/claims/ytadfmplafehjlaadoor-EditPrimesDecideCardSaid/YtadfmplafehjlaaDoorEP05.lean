/-
  Package edit: a plan that is being made ready.
  Package edit: the box of an edit; which codes it has.
  Package edit: a plan that is made ready, step by step.
  EditPlansMatchSpec: the fields of a plan, package edit.
-/
import Derived.Test.YtadfmplafehjlaaDoorEP04
import Derived.Deep.AppendLies
import Derived.Test.YtadfmplafehjlaaDoorEP03
namespace Go.Proofs.YtadfmplafehjlaaDoor
open Go.RowKit Go.WideMaps Go.Maps

/-- What a step keeps: all old blocks beside some. -/
structure Kx (N : Nat → Prop) (w w' : World) : Prop where
  os : w'.os = w.os
  tape : w'.tape = w.tape
  output : w'.output = w.output
  size : w.heap.size ≤ w'.heap.size
  block : ∀ b, b < w.heap.size → ¬ N b → w'.heap[b]? = w.heap[b]?
section
variable {N : Nat → Prop} {w w' w2 : World}
theorem Kx.refl (N : Nat → Prop) (w : World) : Kx N w w := ⟨rfl, rfl, rfl, Nat.le_refl _, fun _ _ _ => rfl⟩
theorem Kx.trans (h : Kx N w w') (k : Kx N w' w2) : Kx N w w2 :=
  ⟨k.os.trans h.os, k.tape.trans h.tape, k.output.trans h.output, Nat.le_trans h.size k.size, fun b hb hn => (k.block b (Nat.lt_of_lt_of_le hb h.size) hn).trans (h.block b hb hn)⟩
theorem Kx.of_below (h : Below w.heap.size w w') : Kx N w w' := ⟨h.os, h.tape, h.output, h.size, fun b hb _ => h.block b hb⟩
theorem Kx.of_grown {r : Nat} (h : w.grownBy w' (some r)) (hr : N r ∨ w.heap.size ≤ r) : Kx N w w' :=
  ⟨h.os, h.tape, h.output, h.size, fun b hb hn => h.block b hb (fun e => by injection e with e; rcases hr with q | q; exact hn (e ▸ q); omega)⟩
theorem Kx.cell (h : Kx N w w') {p : Addr} {v : Value} (e : w.cell? p = some v) (hn : ¬ N p.block) : w'.cell? p = some v := by
  have hl : p.block < w.heap.size := by
    rcases Nat.lt_or_ge p.block w.heap.size with q | q
    · exact q
    · rw [World.cell?, Array.getElem?_eq_none q] at e; cases e
  exact (World.cell?_of_block (h.block _ hl hn)).trans e
theorem Kx.frozen (h : Kx N w w') {p : Addr} (hl : p.block < w.heap.size) (hn : ¬ N p.block) : w'.frozen? p = w.frozen? p := World.frozen?_of_block (h.block _ hl hn)
theorem Kx.mono {M : Nat → Prop} (h : Kx N w w') (e : ∀ b, N b → M b ∨ w.heap.size ≤ b) : Kx M w w' :=
  ⟨h.os, h.tape, h.output, h.size, fun b hb hn => h.block b hb (fun q => by rcases e b q with x | x; exact hn x; omega)⟩
theorem Kx.below {B : Nat} (h : Kx N w w') (hB : B ≤ w.heap.size) (hn : ∀ b, N b → B ≤ b) : Below B w w' :=
  have hb : ∀ i, i < B → w'.heap[i]? = w.heap[i]? := fun i hi => h.block i (by omega) (fun q => by have := hn i q; omega)
  ⟨h.os, h.tape, h.output, h.size, hb⟩
theorem MapN.keepX {b n : Nat} {f : Int → Option Value} (h : MapN w b n f) (hk : Kx N w w') (hn : ¬ N b) : MapN w' b n f := by
  have hl := h.lt
  obtain ⟨D, ⟨es, clock, h1, h2⟩, hD⟩ := h
  exact ⟨D, ⟨es, clock, (hk.block b hl hn).trans h1, h2⟩, hD⟩
end
/-- The parts of a field. -/
theorem cellLt {w : World} {p : Addr} {v : Value} (e : w.cell? p = some v) : p.block < w.heap.size := by
  rcases Nat.lt_or_ge p.block w.heap.size with q | q
  · exact q
  · rw [World.cell?, Array.getElem?_eq_none q] at e; cases e
structure Fr where
  a : Option Addr
  c : Nat
  m : Nat
  h : Nat
structure FlX (w0 w : World) (fb : Nat) (f : Fd) (i : Nat) (x : Fr) (H : Nat → Nat) : Prop where
  c0 : w.cell? ⟨fb, i * 5, none⟩ = some (.string f.nm)
  c1 : w.cell? ⟨fb, i * 5 + 1, none⟩ = some (.slice x.a f.cs.length x.c)
  c2 : w.cell? ⟨fb, i * 5 + 2, none⟩ = some (.int .i64 f.wt)
  c3 : w.cell? ⟨fb, i * 5 + 3, none⟩ = some (.map (some x.m))
  c4 : w.cell? ⟨fb, i * 5 + 4, none⟩ = some (.slice (some ⟨x.h, 0, none⟩) f.cs.length f.cs.length)
  rd : Rd w0 x.a f.cs
  mp : MapN w x.m f.cs.length (mrk f.cs)
  ho : ∀ k, k < f.cs.length → w.cell? ⟨x.h, k, none⟩ = some (.int .u64 (H k))
  fr : ∀ k, w.frozen? ⟨x.h, k, none⟩ = false
  lm : w0.heap.size ≤ x.m
  lh : w0.heap.size ≤ x.h
  sh : x.h < w.heap.size
structure PlH (w0 w : World) (fb : Nat) (l : List Fd) (X : Nat → Fr) (H : Nat → Nat → Nat) : Prop where
  fl : ∀ i, i < l.length → FlX w0 w fb (fd l i) i (X i) (H i)
  hh : ∀ i j, i < l.length → j < l.length → i ≠ j → (X i).h ≠ (X j).h
  hf : ∀ i, i < l.length → (X i).h ≠ fb
  hm : ∀ i j, i < l.length → j < l.length → (X i).m ≠ (X j).h
/-- The rows of the places. -/
def Nh (l : List Fd) (X : Nat → Fr) (b : Nat) : Prop := ∃ i, i < l.length ∧ b = (X i).h
section
variable {w0 w w' : World} {fb : Nat} {l : List Fd} {X : Nat → Fr} {H : Nat → Nat → Nat}
theorem PlH.nf (h : PlH w0 w fb l X H) : ¬ Nh l X fb := fun ⟨i, hi, e⟩ => h.hf i hi e.symm
theorem PlH.nm (h : PlH w0 w fb l X H) {i : Nat} (hi : i < l.length) : ¬ Nh l X (X i).m := fun ⟨j, hj, e⟩ => h.hm i j hi hj e
/-- A step that keeps the rows of the places. -/
theorem PlH.keep {N : Nat → Prop} (h : PlH w0 w fb l X H) (hk : Kx N w w') (hn : ∀ b, N b → b < w.heap.size → b ≠ fb ∧ ∀ i, i < l.length → b ≠ (X i).h ∧ b ≠ (X i).m) : PlH w0 w' fb l X H := by
  refine ⟨fun i hi => ?_, h.hh, h.hf, h.hm⟩
  have f := h.fl i hi
  have nb : ∀ b, b < w.heap.size → b = fb ∨ b = (X i).h ∨ b = (X i).m → ¬ N b := fun b hl hb q => by
    have := hn b q hl
    rcases hb with e | e | e
    · exact this.1 e
    · exact (this.2 i hi).1 e
    · exact (this.2 i hi).2 e
  have lf : fb < w.heap.size := by
    rcases Nat.lt_or_ge fb w.heap.size with q | q
    · exact q
    · have := f.c0; rw [World.cell?, Array.getElem?_eq_none q] at this; cases this
  have n1 := nb fb lf (.inl rfl)
  have n2 := nb _ f.sh (.inr (.inl rfl))
  exact ⟨hk.cell f.c0 n1, hk.cell f.c1 n1, hk.cell f.c2 n1, hk.cell f.c3 n1, hk.cell f.c4 n1, f.rd, f.mp.keepX hk (nb _ f.mp.lt (.inr (.inr rfl))), fun k hk' => hk.cell (f.ho k hk') n2, fun k => (hk.frozen (p := ⟨(X i).h, k, none⟩) f.sh n2).trans (f.fr k), f.lm, f.lh, Nat.lt_of_lt_of_le f.sh hk.size⟩
theorem PlH.below (h : PlH w0 w fb l X H) (hb : Below w.heap.size w w') : PlH w0 w' fb l X H :=
  h.keep (N := fun _ => False) (Kx.of_below hb) (fun _ q => q.elim)
/-- A place gets another set of edits. -/
theorem PlH.store (h : PlH w0 w fb l X H) {i k : Nat} (hi : i < l.length) (hk : k < (fd l i).cs.length) (v : Nat) :
    PlH w0 (w.setCell ⟨(X i).h, k, none⟩ (.int .u64 v)) fb l X (fun i' k' => if i' = i ∧ k' = k then v else H i' k') := by
  refine ⟨fun j hj => ?_, h.hh, h.hf, h.hm⟩
  have f := h.fl j hj
  have oth : ∀ (b o : Nat) (u : Value), b ≠ (X i).h → w.cell? ⟨b, o, none⟩ = some u → (w.setCell ⟨(X i).h, k, none⟩ (.int .u64 v)).cell? ⟨b, o, none⟩ = some u := fun b o u hb e => by
    rw [World.cell?_setCell_other _ _ _ _ (fun q => by injection q with q; exact hb q.symm)]; exact e
  have nfb : fb ≠ (X i).h := fun e => h.hf i hi e.symm
  refine ⟨oth _ _ _ nfb f.c0, oth _ _ _ nfb f.c1, oth _ _ _ nfb f.c2, oth _ _ _ nfb f.c3, oth _ _ _ nfb f.c4, f.rd, f.mp.kept (grown_set w _ _ _) (fun e => by injection e with e; exact h.hm j i hj hi e), fun k' hk' => ?_, fun k' => by rw [World.frozen?_setCell]; exact f.fr k', f.lm, f.lh, by simpa using f.sh⟩
  by_cases e : j = i
  · subst e
    by_cases e2 : k' = k
    · subst e2
      rw [World.cell?_setCell_same _ _ _ (f.ho k' hk'), if_pos ⟨rfl, rfl⟩]
    · rw [World.cell?_setCell_other _ _ _ _ (fun q => by injection q with _ q; exact e2 q.symm), if_neg (fun q => e2 q.2)]
      exact f.ho k' hk'
  · rw [if_neg (fun q => e q.1)]
    exact oth _ _ _ (h.hh j i hj hi e) (f.ho k' hk')
theorem PlH.congr {H' : Nat → Nat → Nat} (h : PlH w0 w fb l X H) (e : ∀ i k, i < l.length → k < (fd l i).cs.length → H i k = H' i k) : PlH w0 w fb l X H' :=
  ⟨fun i hi => by
    have f := h.fl i hi
    exact ⟨f.c0, f.c1, f.c2, f.c3, f.c4, f.rd, f.mp, fun k hk => by rw [← e i k hi hk]; exact f.ho k hk, f.fr, f.lm, f.lh, f.sh⟩, h.hh, h.hf, h.hm⟩
end
end Go.Proofs.YtadfmplafehjlaaDoor
namespace Go.Proofs.YtadfmplafehjlaaDoor
open Go.RowKit Go.WideMaps Go.Maps

/-- The sets of places, while edit n is read: field i0, its first c codes. -/
def HHc (l : List Fd) (E : List Ed) (n : Nat) (H : Nat → Nat → Nat) (i0 c i k : Nat) : Nat :=
  if i < i0 then H i k ||| (if hdB l E i k n = true then 2 ^ n else 0)
  else if i = i0 then H i k ||| (if ((st (ed E n).ss i).take c).contains (fn (fd l i).cs k) = true then 2 ^ n else 0) else H i k
def OOc (l : List Fd) (E : List Ed) (n : Nat) (i0 c i : Nat) : Nat :=
  if i < i0 then ebS l E n i else if i = i0 then bz (fun k => ((st (ed E n).ss i).take c).contains (fn (fd l i).cs k)) (fd l i).cs.length else 0
section
variable {l : List Fd} {E : List Ed} {n : Nat} {H : Nat → Nat → Nat}
theorem take_has {s : List Int} {c : Nat} (hc : c < s.length) (x : Int) : (s.take (c + 1)).contains x = ((s.take c).contains x || decide (x = fn s c)) := by
  have e : fn s c = s[c] := by unfold fn; simp [List.getD, hc]
  have ht : s.take (c + 1) = s.take c ++ [s[c]] := by rw [List.take_add_one, List.getElem?_eq_getElem hc]; rfl
  rw [ht, e, Bool.eq_iff_iff, Bool.or_eq_true, List.contains_iff_mem, List.contains_iff_mem, List.mem_append, decide_eq_true_iff]
  simp
theorem HH_zero (i k : Nat) : HHc l E n H 0 0 i k = H i k := by
  unfold HHc
  rw [if_neg (Nat.not_lt_zero i)]
  split
  · simp
  · rfl
theorem HH_next {i0 : Nat} (i k : Nat) : HHc l E n H i0 (st (ed E n).ss i0).length i k = HHc l E n H (i0 + 1) 0 i k := by
  unfold HHc
  by_cases h : i < i0
  · rw [if_pos h, if_pos (show i < i0 + 1 by omega)]
  · rw [if_neg h]
    by_cases e : i = i0
    · subst e
      rw [if_pos rfl, if_pos (show i < i + 1 by omega), List.take_length]; rfl
    · rw [if_neg e, if_neg (show ¬ i < i0 + 1 by omega)]
      split
      · simp
      · rfl
theorem OO_zero (i : Nat) : OOc l E n 0 0 i = 0 := by
  unfold OOc
  rw [if_neg (Nat.not_lt_zero i)]
  split
  · exact bz_none fun j _ => by simp
  · rfl
theorem OO_next {i0 : Nat} (hi : i0 < l.length) (i : Nat) : OOc l E n i0 (st (ed E n).ss i0).length i = OOc l E n (i0 + 1) 0 i := by
  unfold OOc
  by_cases h : i < i0
  · rw [if_pos h, if_pos (show i < i0 + 1 by omega)]
  · rw [if_neg h]
    by_cases e : i = i0
    · subst e
      rw [if_pos rfl, if_pos (show i < i + 1 by omega), List.take_length]
      unfold ebS
      rw [if_pos hi]; rfl
    · rw [if_neg e, if_neg (show ¬ i < i0 + 1 by omega)]
      split
      · exact (bz_none fun j _ => by simp).symm
      · rfl
theorem HH_step (hok : Ok l E) {i0 c t : Nat} (hi : i0 < l.length) (hc : c < (st (ed E n).ss i0).length) (ht : t < (fd l i0).cs.length) (e : fn (fd l i0).cs t = fn (st (ed E n).ss i0) c) (i k : Nat) (hk : k < (fd l i).cs.length) :
    (if i = i0 ∧ k = t then HHc l E n H i0 c i0 t ||| 2 ^ n else HHc l E n H i0 c i k) = HHc l E n H i0 (c + 1) i k := by
  by_cases q : i = i0
  · subst q
    have hx : ∀ k', k' < (fd l i).cs.length → (((st (ed E n).ss i).take (c + 1)).contains (fn (fd l i).cs k') = (((st (ed E n).ss i).take c).contains (fn (fd l i).cs k') || decide (k' = t))) := fun k' hk' => by
      rw [take_has hc]
      congr 1
      rw [Bool.eq_iff_iff, decide_eq_true_iff, decide_eq_true_iff, ← e]
      exact ⟨fun h => hok.inj hi hk' ht h, fun h => by rw [h]⟩
    unfold HHc
    rw [if_neg (Nat.lt_irrefl i), if_pos rfl, if_neg (Nat.lt_irrefl i), if_pos rfl, if_neg (Nat.lt_irrefl i), if_pos rfl, hx k hk]
    by_cases q : k = t
    · subst q
      rw [if_pos ⟨rfl, rfl⟩, decide_eq_true rfl, Bool.or_true, if_pos rfl]
      split
      · rw [Nat.or_assoc, Nat.or_self]
      · simp
    · rw [if_neg (fun z => q z.2), decide_eq_false q, Bool.or_false]
  · rw [if_neg (fun z => q z.1)]
    unfold HHc
    by_cases h : i < i0
    · rw [if_pos h, if_pos h]
    · rw [if_neg h, if_neg q, if_neg h, if_neg q]
theorem OO_step (hok : Ok l E) {i0 c t : Nat} (hi : i0 < l.length) (hc : c < (st (ed E n).ss i0).length) (ht : t < (fd l i0).cs.length) (e : fn (fd l i0).cs t = fn (st (ed E n).ss i0) c) (i : Nat) :
    upd (OOc l E n i0 c) i0 (OOc l E n i0 c i0 ||| 2 ^ t) i = OOc l E n i0 (c + 1) i := by
  unfold upd
  by_cases q : i = i0
  · subst q
    rw [if_pos rfl]
    unfold OOc
    rw [if_neg (Nat.lt_irrefl i), if_pos rfl, if_neg (Nat.lt_irrefl i), if_pos rfl, ← bz_one ht, bz_or]
    refine bz_ext fun j hj => ?_
    rw [take_has hc]
    congr 1
    rw [Bool.eq_iff_iff, decide_eq_true_iff, decide_eq_true_iff, ← e]
    exact ⟨fun h => by rw [h], fun h => hok.inj hi hj ht h⟩
  · rw [if_neg q]
    unfold OOc
    by_cases h : i < i0
    · rw [if_pos h, if_pos h]
    · rw [if_neg h, if_neg q, if_neg h, if_neg q]
theorem HH_lt (hH : ∀ i k, H i k < 2 ^ 60) (hn : n < 60) (i0 c i k : Nat) : HHc l E n H i0 c i k < 2 ^ 60 := by
  have hp : 2 ^ n < 2 ^ 60 := Nat.pow_lt_pow_right (by omega) hn
  unfold HHc
  split
  · exact Nat.or_lt_two_pow (hH i k) (by split <;> omega)
  · split
    · exact Nat.or_lt_two_pow (hH i k) (by split <;> omega)
    · exact hH i k
theorem OO_lt (hok : Ok l E) (i0 c i : Nat) (hi : i < l.length) : OOc l E n i0 c i < 2 ^ 20 := by
  have h1 := hok.c20 i hi
  have h2 : 2 ^ (fd l i).cs.length ≤ 2 ^ 20 := Nat.pow_le_pow_right (by omega) h1
  unfold OOc
  split
  · unfold ebS
    rw [if_pos hi]
    exact Nat.lt_of_lt_of_le (bz_lt _ _) h2
  · split
    · exact Nat.lt_of_lt_of_le (bz_lt _ _) h2
    · exact Nat.two_pow_pos _
end
theorem putB_kx {w : World} {b : Nat} (B : Nat → Nat) : ∀ n, Kx (fun x => x = b) w (putB w b B n)
  | 0 => Kx.refl _ _
  | n + 1 => (putB_kx B n).trans (Kx.of_grown (grown_set _ _ _ _) (.inl rfl))
theorem Kx.lower {N : Nat → Prop} {w w' : World} (h : Kx (fun b => N b ∨ w.heap.size ≤ b) w w') : Kx N w w' :=
  ⟨h.os, h.tape, h.output, h.size, fun b hb hn => h.block b hb (fun q => by rcases q with x | x; exact hn x; omega)⟩
def S3g (a1 a2 : Addr) (v1 : Value) (xm : Nat) (x : Int) (y : Nat) (w : World) : Prop := w.cell? a1 = some v1 ∧ w.cell? a2 = some (.map (some xm)) ∧ (Instr.lookup 91 (.map (some xm)) (.int .i64 x) false).run Tryd.prog w = .ok (.int .u64 y) w
/-- Where the reading of an edit stands. -/
structure EoI (w0 W3 w : World) (fb q : Nat) (l : List Fd) (E : List Ed) (n : Nat) (X : Nat → Fr) (H : Nat → Nat → Nat) (i c : Nat) : Prop where
  pl : PlH w0 w fb l X (HHc l E n H i c)
  bx : BxAt w q 0 (OOc l E n i c)
  fr : ∀ o, w.frozen? ⟨q, o, none⟩ = false
  kx : Kx (fun b => Nh l X b ∨ b = q) W3 w
def EoP (w0 w : World) (fb : Nat) (l : List Fd) (E : List Ed) (n : Nat) (X : Nat → Fr) (H : Nat → Nat → Nat) (e : Ending) (w' : World) : Prop :=
  e = .returned (bxV (ebS l E n)) ∧ PlH w0 w' fb l X (fun i k => H i k ||| (if hdB l E i k n = true then 2 ^ n else 0)) ∧ Kx (Nh l X) w w'
set_option maxRecDepth 100000 in
set_option maxHeartbeats 8000000 in
theorem editOf_c (p fb fc : Nat) (l : List Fd) (E : List Ed) (n : Nat) (X : Nat → Fr) (H : Nat → Nat → Nat) (sa : Option Addr) (sc : Nat) (nm : ByteArray) (w0 w : World) (hok : Ok l E) (hn : n < E.length) (hP : PlH w0 w fb l X H) (hp : w.cell? ⟨p, 0, none⟩ = some (.slice (some ⟨fb, 0, none⟩) l.length fc)) (hpx : ∀ i, i < l.length → (X i).h ≠ p)
    (hH : ∀ i k, H i k < 2 ^ 60) (hb : Below w0.heap.size w0 w) (hE : RdL w0 sa (ed E n).ss) (hT : TabAt 0 Lib.deBruijn64tab w0) (ht : 0 < w0.heap.size) :
    Calls Tryd.prog 64 #[.pointer (some ⟨p, 0, none⟩), .int .i64 n, .agg #[.string nm, .slice sa (ed E n).ss.length sc]] w (EoP w0 w fb l E n X H) := by
  have mixed : Tryd.prog.follows .mixedOrders = true := by kernel_rfl
  have hsl := hok.sl n hn
  obtain ⟨L, hL⟩ : ∃ L, l.length = L := ⟨_, rfl⟩
  have HLL := Lib.hid hL
  have hL12 : L ≤ 12 := by rw [← hL]; exact hok.n12
  rw [hsl, hL]
  obtain ⟨W1, hW1⟩ : ∃ W, w.alloc (.cells #[.string nm, .slice sa L sc] 43) = W := ⟨_, rfl⟩
  obtain ⟨W2, hW2⟩ : ∃ W, (W1.alloc (.cells #[.int .u64 0, .int .u64 0, .int .u64 0, .int .u64 0, .int .u64 0, .int .u64 0, .int .u64 0, .int .u64 0, .int .u64 0, .int .u64 0, .int .u64 0, .int .u64 0] 57)) = W := ⟨_, rfl⟩
  obtain ⟨W3, hW3⟩ : ∃ W, (W2.alloc (.cells #[.int .u64 0, .int .u64 0, .int .u64 0, .int .u64 0, .int .u64 0, .int .u64 0, .int .u64 0, .int .u64 0, .int .u64 0, .int .u64 0, .int .u64 0, .int .u64 0] 57)) = W := ⟨_, rfl⟩
  have hs1 : W1.heap.size = w.heap.size + 1 := by rw [← hW1]; simp
  have hs2 : W2.heap.size = w.heap.size + 2 := by rw [← hW2]; simp [hs1]
  have hs3 : W3.heap.size = w.heap.size + 3 := by rw [← hW3]; simp [hs2]
  have HSZ : Hid (W1.heap.size = w.heap.size + 1 ∧ W2.heap.size = w.heap.size + 2 ∧ W3.heap.size = w.heap.size + 3) := ⟨hs1, hs2, hs3⟩
  have b1 : Below w.heap.size w W1 := by rw [← hW1]; exact bel_one _ _
  have b2 : Below W1.heap.size W1 W2 := by rw [← hW2]; exact bel_one _ _
  have b3 : Below W2.heap.size W2 W3 := by rw [← hW3]; exact bel_one _ _
  have b12 := b1.trans (b2.mono b1.size)
  have B3 : Hid (Below w.heap.size w W3) := b12.trans (b3.mono b12.size)
  have E1 : W3.cell? ⟨w.heap.size, 1, none⟩ = some (.slice sa L sc) := by
    have e : W1.cell? ⟨w.heap.size, 1, none⟩ = some (.slice sa L sc) := by rw [← hW1, World.cell?_alloc_new]; rfl
    exact (b3.cell (p := ⟨w.heap.size, 1, none⟩) (by show w.heap.size < _; omega)).trans ((b2.cell (p := ⟨w.heap.size, 1, none⟩) (by show w.heap.size < _; omega)).trans e)
  have Z6 : Hid (∀ V, Kx (fun b => Nh l X b ∨ b = W2.heap.size) W3 V → BxAt V W1.heap.size 0 (fun _ => 0) ∧ ∀ o, V.frozen? ⟨W1.heap.size, o, none⟩ = false) := by
    have h0 : BxAt W3 W1.heap.size 0 (fun _ => 0) := (BxAt.below (by rw [← hW2]; exact bx_made W1 (fun _ => 0)) b3 (by omega))
    have f0 : ∀ o, W3.frozen? ⟨W1.heap.size, o, none⟩ = false := fun o => (b3.frozen (p := ⟨W1.heap.size, o, none⟩) (by show W1.heap.size < _; omega)).trans (by rw [← hW2]; simp)
    have nn : ¬ (Nh l X W1.heap.size ∨ W1.heap.size = W2.heap.size) := by
      rintro (⟨i, hi, e⟩ | e)
      · have := (hP.fl i hi).sh; omega
      · omega
    exact fun V hV => ⟨fun i hi => hV.cell (h0 i hi) nn, fun o => (hV.frozen (p := ⟨W1.heap.size, o, none⟩) (by show W1.heap.size < _; omega) nn).trans (f0 o)⟩
  have S0 : Hid (EoI w0 W3 W3 fb W2.heap.size l E n X H 0 0) := by
    refine ⟨((hP.below B3.out).congr fun i k _ _ => (HH_zero i k).symm), fun i hi => ?_, fun o => by rw [← hW3]; simp, Kx.refl _ _⟩
    have := (show BxAt W3 W2.heap.size 0 (fun _ => 0) by rw [← hW3]; exact bx_made W2 (fun _ => 0)) i hi
    rw [this, OO_zero]
  have HPC : Hid (∀ V, Kx (fun b => Nh l X b ∨ b = W2.heap.size) W3 V → V.cell? ⟨p, 0, none⟩ = some (.slice (some ⟨fb, 0, none⟩) L fc)) := by
    intro V hV
    have hl := cellLt hp
    have e := (B3.out.cell (p := ⟨p, 0, none⟩) hl).trans hp
    rw [hL] at e
    refine hV.cell e ?_
    rintro (⟨i, hi, q⟩ | q)
    · exact hpx i hi q.symm
    · have : p = W2.heap.size := q
      have : p < w.heap.size := hl
      omega
  have HB0 : Hid (∀ V, Kx (fun b => Nh l X b ∨ b = W2.heap.size) W3 V → Below w0.heap.size w0 V) := by
    intro V hV
    have s0 := hb.size
    refine (hb.trans (B3.out.mono s0)).trans (hV.below (by omega) ?_)
    rintro b (⟨i, hi, q⟩ | q)
    · rw [q]; exact (hP.fl i hi).lh
    · omega
  have HPP := Lib.hid hP
  have HE := Lib.hid hE
  have HOK := Lib.hid hok
  have HHH := Lib.hid hH
  have HT := Lib.hid hT
  have hn60 : n < 60 := by have := hok.m60; omega
  have SL := Lib.hid hsl
  clear hP hp hpx hH hb hE hT hok b1 b2 b3 b12 hs1 hs2 hs3 hL hsl
  go_enter Tryd.func64, Tryd.ntmps64
  go_wp2_with fail
  clear hW1 hW2 hW3 E1
  go_loopw [8, 9, 10, 12, 16] (fun _ _ _ _ iv wr => ∃ i : Nat, iv = .int .i64 i ∧ Hid (i ≤ L ∧ EoI w0 W3 wr fb W2.heap.size l E n X H i 0)) (fun _ _ _ _ iv _ => L - (intOf iv).toNat)
  case atStart => exact ⟨0, rfl, Nat.zero_le _, S0.out⟩
  case round =>
    obtain ⟨i, rfl, hS⟩ := hrel
    by_cases hlt : i < L
    · have hlt' : (i : Int) < (L : Int) := by omega
      have hil : i < l.length := by rw [HLL.out]; exact hlt
      have hi0 : (0 : Int) ≤ (i : Int) := by omega
      have hi12 : (i : Int) < 12 := by omega
      have hB0 := HB0.out wr hS.out.2.kx
      obtain ⟨sb, so, ra, rc, hsa, hrow, hrd⟩ := (HE.out.below hB0).at_ (k := i) (by rw [SL.out]; exact hil)
      subst hsa
      have hpc := HPC.out wr hS.out.2.kx
      obtain ⟨M, hM⟩ : ∃ M, (st (ed E n).ss i).length = M := ⟨_, rfl⟩
      have HM := Lib.hid hM
      have hM20 : M ≤ 20 := by rw [← hM]; exact (HOK.out.s1 n hn i hil).2
      rw [hM] at hrow
      have HIL := Lib.hid hil
      have HS := Lib.hid hS.out.2
      obtain ⟨wz, hwz⟩ : ∃ x : World, x = wr := ⟨_, rfl⟩
      subst hwz
      have HRD : Hid (∀ V, Kx (fun b => Nh l X b ∨ b = W2.heap.size) W3 V → ∃ b off, ra = some ⟨b, off, none⟩ ∧ ∀ j, j < M → V.cell? ⟨b, off + j, none⟩ = some (.int .i64 (fn (st (ed E n).ss i) j))) := by
        intro V hV
        obtain ⟨sb2, so2, ra2, rc2, e1, e2, e3⟩ := HE.out.at_ (k := i) (by rw [SL.out]; exact hil)
        have h1 := hB0.cell (p := ⟨sb2, so2 + i, none⟩) (cellLt e2)
        injection e1 with e1
        injection e1 with e1 e4 e5
        subst e1 e4
        rw [hrow, e2] at h1
        injection h1 with h1
        injection h1 with h1 h2 h3
        subst h1
        obtain ⟨b, off, ea, _, ec⟩ := (e3.below (HB0.out V hV)).2 (by rw [hM]; have := (HOK.out.s1 n hn i hil).1; omega)
        exact ⟨b, off, ea, fun j hj => ec j (by rw [hM]; exact hj)⟩
      clear hrd hM hS hil hB0
      go_wp2_with fail
      go_loopw [12, 29] (fun _ iv wr => ∃ c : Nat, iv = .int .i64 c ∧ Hid (c ≤ M ∧ EoI w0 W3 wr fb W2.heap.size l E n X H i c)) (fun _ iv _ => M - (intOf iv).toNat)
      case atStart => exact ⟨0, rfl, Nat.zero_le _, HS.out⟩
      case round =>
        obtain ⟨c, rfl, hS⟩ := hrel
        by_cases hltc : c < M
        · have hltc' : (c : Int) < (M : Int) := by omega
          obtain ⟨rb, ro, hra, hrc⟩ := HRD.out wr hS.out.2.kx
          subst hra
          have c0 := hrc c hltc
          have hxin : inC (fd l i).cs (fn (st (ed E n).ss i) c) = true := HOK.out.si n hn i HIL.out _ (inC_iff.2 ⟨c, by rw [HM.out]; exact hltc, rfl⟩)
          obtain ⟨t, htl, hte⟩ := inC_iff.1 hxin
          have hmk := HOK.out.mk_at HIL.out htl
          rw [hte] at hmk
          have hxr : -9223372036854775808 ≤ fn (st (ed E n).ss i) c ∧ fn (st (ed E n).ss i) c ≤ 9223372036854775807 := by
            have := HOK.out.cd i HIL.out t htl; rw [hte] at this; omega
          obtain ⟨x, hx⟩ : ∃ x, fn (st (ed E n).ss i) c = x := ⟨_, rfl⟩
          have HX := Lib.hid hx
          rw [hx] at c0 hmk hxr hte
          have f := hS.out.2.pl.fl i HIL.out
          have c3 := f.c3
          have c4 := f.c4
          obtain ⟨m, hm⟩ : ∃ m, (fd l i).cs.length = m := ⟨_, rfl⟩
          have ht20 : t < 20 := by have := HOK.out.c20 i HIL.out; omega
          have htm0 : (0 : Int) ≤ (t : Int) := by omega
          have htm : (t : Int) < (m : Int) := by omega
          obtain ⟨y, hy⟩ : ∃ y, 2 ^ t = y := ⟨_, rfl⟩
          rw [hy] at hmk
          have hyl : y < 1048576 := by rw [← hy]; exact Nat.pow_lt_pow_right (by omega) ht20
          have hy0 : y ≠ 0 := by rw [← hy]; have := Nat.two_pow_pos t; omega
          have q0 := hS.out.2.bx i (by omega)
          rw [Nat.zero_add] at q0
          have q1 := hS.out.2.fr i
          obtain ⟨ov, hov⟩ : ∃ v, OOc l E n i c i = v := ⟨_, rfl⟩
          have hovl : ov < 1048576 := by rw [← hov]; exact OO_lt HOK.out i c i HIL.out
          rw [hov] at q0
          have hor1 : bits .or .u64 (ov : Int) (y : Int) = ((ov ||| y : Nat) : Int) := Go.u64_or_nat _ _ (by omega) (by omega)
          obtain ⟨o2, ho2⟩ : ∃ v, ov ||| y = v := ⟨_, rfl⟩
          rw [ho2] at hor1
          obtain ⟨v, hv⟩ : ∃ v, HHc l E n H i c i t = v := ⟨_, rfl⟩
          have hvl : v < 1152921504606846976 := by rw [← hv]; exact HH_lt HHH.out hn60 i c i t
          have hnl : 2 ^ n < 1152921504606846976 := Nat.pow_lt_pow_right (by omega) hn60
          obtain ⟨pn, hpn⟩ : ∃ z, 2 ^ n = z := ⟨_, rfl⟩
          have HPN := Lib.hid hpn
          rw [hpn] at hnl
          have hor2 : bits .or .u64 (v : Int) (pn : Int) = ((v ||| pn : Nat) : Int) := Go.u64_or_nat _ _ (by omega) (by omega)
          obtain ⟨v2, hv2⟩ : ∃ z, v ||| pn = z := ⟨_, rfl⟩
          rw [hv2] at hor2
          obtain ⟨xm, hxm⟩ : ∃ z, (X i).m = z := ⟨_, rfl⟩
          obtain ⟨xh, hxh⟩ : ∃ z, (X i).h = z := ⟨_, rfl⟩
          rw [hxm] at c3
          rw [hm, hxh] at c4
          have LK : Hid (∀ V, MapN V xm (fd l i).cs.length (mrk (fd l i).cs) → (Instr.lookup 91 (.map (some xm)) (.int .i64 x) false).run Tryd.prog V = .ok (.int .u64 y) V) := fun V hV => by rw [MapN.mark hV hxr, hmk]
          have hmap : MapN wr xm (fd l i).cs.length (mrk (fd l i).cs) := by rw [← hxm]; exact f.mp
          have L1 : (Instr.lookup 91 (.map (some xm)) (.int .i64 x) false).run Tryd.prog wr.drew = .ok (.int .u64 y) wr.drew := LK.out _ (hmap.below (Below.refl wr.heap.size wr).drew hmap.lt)
          obtain ⟨wa, hwa⟩ : ∃ W, (wr.setCell ⟨W2.heap.size, i, none⟩ (.int .u64 (o2 : Nat))).drew = W := ⟨_, rfl⟩
          -- the world behind the first store
          have ne1 : fb ≠ W2.heap.size ∧ xh ≠ W2.heap.size ∧ xm ≠ W2.heap.size ∧ (∀ j, j < l.length → W2.heap.size ≠ (X j).h ∧ W2.heap.size ≠ (X j).m) := by
            have z0 := HSZ.out
            have f0 := HPP.out.fl i HIL.out
            have z1 := cellLt f0.c0
            have z2 := f0.sh
            have z3 := f0.mp.lt
            rw [hxh] at z2
            rw [hxm] at z3
            have z1 : fb < w.heap.size := z1
            refine ⟨by omega, by omega, by omega, fun j hj => ?_⟩
            have g1 := (HPP.out.fl j hj).sh
            have g2 := (HPP.out.fl j hj).mp.lt
            omega
          have ga : wr.grownBy wa (some W2.heap.size) := by rw [← hwa]; exact ⟨rfl, rfl, rfl, by simp, fun k _ hk => Below.heap_setCell _ _ _ k (fun e => hk (by rw [e]))⟩
          have PA : Hid (PlH w0 wa fb l X (HHc l E n H i c)) := hS.out.2.pl.keep (Kx.of_grown (N := fun b => b = W2.heap.size) ga (.inl rfl)) (fun b e _ => by subst e; exact ⟨ne1.1.symm, ne1.2.2.2⟩)
          have BA : Hid (BxAt wa W2.heap.size 0 (upd (OOc l E n i c) i o2) ∧ ∀ o, wa.frozen? ⟨W2.heap.size, o, none⟩ = false) := by
            unfold Hid
            rw [← hwa]
            have h1 := hS.out.2.bx.set (k := i) (by omega) o2
            rw [Nat.zero_add] at h1
            exact ⟨h1, fun o => by show (World.setCell _ _ _).frozen? _ = _; rw [World.frozen?_setCell]; exact hS.out.2.fr o⟩
          have KA : Hid (Kx (fun b => Nh l X b ∨ b = W2.heap.size) W3 wa) := hS.out.2.kx.trans (Kx.of_grown ga (.inl (.inr rfl)))
          have fa := PA.out.fl i HIL.out
          have a3 := fa.c3
          have a4 := fa.c4
          have ao := fa.ho t htl
          have af := fa.fr t
          rw [hxm] at a3
          rw [hm, hxh] at a4
          rw [hv, hxh] at ao
          rw [hxh] at af
          have mapa : MapN wa xm (fd l i).cs.length (mrk (fd l i).cs) := by rw [← hxm]; exact fa.mp
          have HSa : Hid (S3g ⟨fb, i * 5 + 4, none⟩ ⟨fb, i * 5 + 3, none⟩ (.slice (some ⟨xh, 0, none⟩) m m) xm x y wa.drew) := ⟨a4, a3, LK.out _ (mapa.below (Below.refl wa.heap.size wa).drew mapa.lt)⟩
          have hxh2 : xh ≠ fb ∧ xh ≠ xm := by
            have := HPP.out.hf i HIL.out
            have := HPP.out.hm i i HIL.out HIL.out
            rw [hxh] at *
            rw [hxm] at *
            omega
          have hxhlt : xh < wa.heap.size := by rw [← hxh]; exact fa.sh
          have C1 : Hid (∀ V, Below wa.heap.size wa V → Calls Tryd.prog 54 #[.int .u64 y] V fun e w' => e = .returned (.int .i64 t) ∧ w' = V) := fun V hV => by
            have hb := HB0.out wa KA.out
            have := first_c y V (by omega) hy0 (tab_below HT.out ht (hb.trans (hV.mono hb.size)))
            rw [show Lib.ctz 64 y = t from by rw [← hy]; exact ctz_first (Nat.pow_lt_pow_right (by omega) (by omega)) (by simp) (fun j hj => by rw [Nat.testBit_two_pow]; exact decide_eq_false (by omega))] at this
            exact this
          have C2 : Hid (∀ V, Calls Tryd.prog 70 #[.int .i64 n] V fun e w' => e = .returned (.int .u64 (pn : Nat)) ∧ w' = V) := fun V => by rw [← HPN.out]; exact only_c n V (by omega)
          have HOD : Hid (∀ V, Below wa.heap.size wa V → V.cell? ⟨xh, t, none⟩ = some (.int .u64 (v : Nat)) ∧ V.frozen? ⟨xh, t, none⟩ = false ∧ S3g ⟨fb, i * 5 + 4, none⟩ ⟨fb, i * 5 + 3, none⟩ (.slice (some ⟨xh, 0, none⟩) m m) xm x y (V.setCell ⟨xh, t, none⟩ (.int .u64 (v2 : Nat)))) := fun V hV => by
            refine ⟨(hV.cell (p := ⟨xh, t, none⟩) hxhlt).trans ao, (hV.frozen (p := ⟨xh, t, none⟩) hxhlt).trans af, ?_, ?_, ?_⟩
            · rw [World.cell?_setCell_other _ _ _ _ (fun q => by injection q with q; exact hxh2.1 q)]
              exact (hV.cell (p := ⟨fb, i * 5 + 4, none⟩) (cellLt a4)).trans a4
            · rw [World.cell?_setCell_other _ _ _ _ (fun q => by injection q with q; exact hxh2.1 q)]
              exact (hV.cell (p := ⟨fb, i * 5 + 3, none⟩) (cellLt a3)).trans a3
            · exact LK.out _ ((mapa.below hV mapa.lt).kept (grown_set _ _ _ _) (fun e => by injection e with e; exact hxh2.2 e.symm))
          have NXF : Hid (∀ V, Below wa.heap.size wa V → c + 1 ≤ M ∧ EoI w0 W3 (V.setCell ⟨xh, t, none⟩ (.int .u64 (v2 : Nat))) fb W2.heap.size l E n X H i (c + 1)) := fun V hV => by
            have nq : W2.heap.size ≠ xh := ne1.2.1.symm
            have lq : W2.heap.size < wa.heap.size := by
              have := (BA.out.1 0 (by omega)); exact cellLt this
            refine ⟨hltc, ?_, ?_, fun o => ?_, ?_⟩
            · have h1 := (PA.out.below hV).store HIL.out htl v2
              rw [hxh] at h1
              refine h1.congr fun i' k' hi' hk' => ?_
              rw [← hv2, ← hv, ← HPN.out]
              exact HH_step HOK.out HIL.out (by rw [HM.out]; exact hltc) htl (by rw [hte, HX.out]) i' k' hk'
            · intro j hj
              have h1 := BA.out.1 j hj
              rw [World.cell?_setCell_other _ _ _ _ (fun q => by injection q with q; exact nq q.symm), hV.cell (p := ⟨W2.heap.size, 0 + j, none⟩) lq, h1]
              rw [← ho2, ← hov, ← hy]
              rw [OO_step HOK.out HIL.out (by rw [HM.out]; exact hltc) htl (by rw [hte, HX.out])]
            · rw [World.frozen?_setCell]
              exact (hV.frozen (p := ⟨W2.heap.size, o, none⟩) lq).trans (BA.out.2 o)
            · exact (KA.out.trans (Kx.of_below hV)).trans (Kx.of_grown (grown_set _ _ _ _) (.inl (.inl ⟨i, HIL.out, hxh.symm⟩)))
          clear hS hrc hmk hxr f hx hy hov ho2 hv hv2 hxm hxh hmap ne1 hpn ga fa a3 a4 ao af mapa hxh2 hxhlt hxin hte htl hm hnl
          go_wp2_with fail
          go_region

          clear c0 c3 c4 q0 q1 L1 hor1 hwa
          go_wp2_with fail
          refine wp_region_noPanic ?_
          refine wp_region_held_drew (S := (S3g ⟨fb, i * 5 + 4, none⟩ ⟨fb, i * 5 + 3, none⟩ (.slice (some ⟨xh, 0, none⟩) m m) xm x y)) (by kernel_rfl) (by exact HSa.out) (fun hS => ?_)
          obtain ⟨WD, hWD⟩ : ∃ W, wa.drew = W := ⟨_, rfl⟩
          have D0 : Hid (Below wa.heap.size wa WD) := by unfold Hid; rw [← hWD]; exact (Below.refl _ _).drew
          rw [hWD] at hS ⊢
          clear hWD
          refine wpAnyH_take (i := 0) (v := ?v0a0) rfl (by kernel_rfl) (by kernel_rfl) (by kernel_rfl) (fun _ _ _ h => h) (Or.inl ⟨by rfl, ?hy0a0⟩) (by assumption) ?rest0a0
          case hy0a0 =>
            intro w hSw
            dsimp only [S3g] at hSw
            go_simp
            try with_reducible rfl
          simp only [Act.put, List.getElem_toArray, List.getElem_cons_succ, List.getElem_cons_zero, List.setIfInBounds_toArray, List.set_cons_zero, List.set_cons_succ]
          refine wpAnyH_take (i := 1) (v := ?v1a1) rfl (by kernel_rfl) (by kernel_rfl) (by kernel_rfl) (fun _ _ _ h => h) (Or.inl ⟨by rfl, ?hy1a1⟩) (by assumption) ?rest1a1
          case hy1a1 =>
            intro w hSw
            dsimp only [S3g] at hSw
            go_simp
            try with_reducible rfl
          simp only [Act.put, List.getElem_toArray, List.getElem_cons_succ, List.getElem_cons_zero, List.setIfInBounds_toArray, List.set_cons_zero, List.set_cons_succ]
          refine wpAnyH_take (i := 2) (v := ?v2a2) rfl (by kernel_rfl) (by kernel_rfl) (by kernel_rfl) (fun _ _ _ h => h) (Or.inl ⟨by rfl, ?hy2a2⟩) (by assumption) ?rest2a2
          case hy2a2 =>
            intro w hSw
            dsimp only [S3g] at hSw
            go_simp
            try with_reducible rfl
          simp only [Act.put, List.getElem_toArray, List.getElem_cons_succ, List.getElem_cons_zero, List.setIfInBounds_toArray, List.set_cons_zero, List.set_cons_succ]
          refine wpAnyH_take (i := 3) (v := ?v3a3) rfl (by kernel_rfl) (by kernel_rfl) (by kernel_rfl) (fun _ _ _ h => h) (Or.inl ⟨by rfl, ?hy3a3⟩) (by assumption) ?rest3a3
          case hy3a3 =>
            intro w hSw
            dsimp only [S3g] at hSw
            go_simp
            try with_reducible rfl
          simp only [Act.put, List.getElem_toArray, List.getElem_cons_succ, List.getElem_cons_zero, List.setIfInBounds_toArray, List.set_cons_zero, List.set_cons_succ]
          refine wpAnyH_take (i := 4) (v := ?v4a4) rfl (by kernel_rfl) (by kernel_rfl) (by kernel_rfl) (fun _ _ _ h => h) (Or.inl ⟨by rfl, ?hy4a4⟩) (by assumption) ?rest4a4
          case hy4a4 =>
            intro w hSw
            dsimp only [S3g] at hSw
            go_simp
            try with_reducible rfl
          simp only [Act.put, List.getElem_toArray, List.getElem_cons_succ, List.getElem_cons_zero, List.setIfInBounds_toArray, List.set_cons_zero, List.set_cons_succ]
          refine wpAnyH_take (i := 5) (v := ?v5a5) rfl (by kernel_rfl) (by kernel_rfl) (by kernel_rfl) (fun _ _ _ h => h) (Or.inl ⟨by rfl, ?hy5a5⟩) (by assumption) ?rest5a5
          case hy5a5 =>
            intro w hSw
            dsimp only [S3g] at hSw
            go_simp
            try with_reducible rfl
          simp only [Act.put, List.getElem_toArray, List.getElem_cons_succ, List.getElem_cons_zero, List.setIfInBounds_toArray, List.set_cons_zero, List.set_cons_succ]
          refine wpAnyH_take (i := 6) (v := ?v6a6) rfl (by kernel_rfl) (by kernel_rfl) (by kernel_rfl) (fun _ _ _ h => h) (Or.inl ⟨by rfl, ?hy6a6⟩) (by assumption) ?rest6a6
          case hy6a6 =>
            intro w hSw
            dsimp only [S3g] at hSw
            go_simp
            try with_reducible rfl
          simp only [Act.put, List.getElem_toArray, List.getElem_cons_succ, List.getElem_cons_zero, List.setIfInBounds_toArray, List.set_cons_zero, List.set_cons_succ]
          refine wpAnyH_take (i := 7) (v := ?v7a7) rfl (by kernel_rfl) (by kernel_rfl) (by kernel_rfl) (fun _ _ _ h => h) (Or.inl ⟨by rfl, ?hy7a7⟩) (by assumption) ?rest7a7
          case hy7a7 =>
            intro w hSw
            dsimp only [S3g] at hSw
            go_simp
            try with_reducible rfl
          simp only [Act.put, List.getElem_toArray, List.getElem_cons_succ, List.getElem_cons_zero, List.setIfInBounds_toArray, List.set_cons_zero, List.set_cons_succ]
          refine wpAnyH_take (i := 8) (v := ?v8a8) rfl (by kernel_rfl) (by kernel_rfl) (by kernel_rfl) (fun _ _ _ h => h) (Or.inl ⟨by rfl, ?hy8a8⟩) (by assumption) ?rest8a8
          case hy8a8 =>
            intro w hSw
            dsimp only [S3g] at hSw
            go_simp
            try with_reducible rfl
          simp only [Act.put, List.getElem_toArray, List.getElem_cons_succ, List.getElem_cons_zero, List.setIfInBounds_toArray, List.set_cons_zero, List.set_cons_succ]
          refine wpAnyH_take (i := 9) (v := ?v9a9) rfl (by kernel_rfl) (by kernel_rfl) (by kernel_rfl) (fun _ _ _ h => h) (Or.inl ⟨by rfl, ?hy9a9⟩) (by assumption) ?rest9a9
          case hy9a9 =>
            intro w hSw
            dsimp only [S3g] at hSw
            go_simp
            try with_reducible rfl
          simp only [Act.put, List.getElem_toArray, List.getElem_cons_succ, List.getElem_cons_zero, List.setIfInBounds_toArray, List.set_cons_zero, List.set_cons_succ]
          refine wpAnyH_take (i := 13) (v := ?v13a13) rfl (by kernel_rfl) (by kernel_rfl) (by kernel_rfl) (fun _ _ _ h => h) (Or.inl ⟨by rfl, ?hy13a13⟩) (by assumption) ?rest13a13
          case hy13a13 =>
            intro w hSw
            dsimp only [S3g] at hSw
            go_simp
            try with_reducible rfl
          simp only [Act.put, List.getElem_toArray, List.getElem_cons_succ, List.getElem_cons_zero, List.setIfInBounds_toArray, List.set_cons_zero, List.set_cons_succ]
          refine wpAnyH_ready (rs := [10]) (by kernel_rfl) (by simp) ?_
          refine AllReadyH.cons rfl (fun K hK => ?_) AllReadyH.nil
          go_simp
          refine (C1.out WD D0.out).mono ?_
          rintro e1 w4 ⟨rfl, rfl⟩
          try go_simp
          have hT := hS
          refine hK _ _ hT (fun _ => ?_)
          clear hK K hT
          try simp only [Act.put, List.setIfInBounds_toArray, List.set_cons_zero, List.set_cons_succ]
          refine wpAnyH_take (i := 11) (v := ?v11b11) rfl (by kernel_rfl) (by kernel_rfl) (by kernel_rfl) (fun _ _ _ h => h) (Or.inl ⟨by rfl, ?hy11b11⟩) (by assumption) ?rest11b11
          case hy11b11 =>
            intro w hSw
            dsimp only [S3g] at hSw
            go_simp
            try with_reducible rfl
          simp only [Act.put, List.getElem_toArray, List.getElem_cons_succ, List.getElem_cons_zero, List.setIfInBounds_toArray, List.set_cons_zero, List.set_cons_succ]
          have HO4 : Hid (w4.cell? ⟨xh, t, none⟩ = some (.int .u64 (v : Nat)) ∧ w4.frozen? ⟨xh, t, none⟩ = false ∧ S3g ⟨fb, i * 5 + 4, none⟩ ⟨fb, i * 5 + 3, none⟩ (.slice (some ⟨xh, 0, none⟩) m m) xm x y (w4.setCell ⟨xh, t, none⟩ (.int .u64 (v2 : Nat)))) := HOD.out w4 D0.out
          obtain ⟨ho4, hf4, hs4⟩ := HO4.out
          refine wpAnyH_ready (rs := [12, 14]) (by kernel_rfl) (by simp) ?_
          refine AllReadyH.cons rfl (fun K hK => ?_) (AllReadyH.cons rfl (fun K hK => ?_) AllReadyH.nil)
          · go_simp
            refine hK _ _ hS (fun _ => ?_)
            clear hK K
            try simp only [Act.put, List.setIfInBounds_toArray, List.set_cons_zero, List.set_cons_succ]
            refine wpAnyH_ready (rs := [14]) (by kernel_rfl) (by simp) ?_
            refine AllReadyH.cons rfl (fun K hK => ?_) AllReadyH.nil
            go_simp
            refine (C2.out w4).mono ?_
            rintro e1 w5 ⟨rfl, hw5⟩
            subst hw5
            try go_simp
            refine hK _ _ hS (fun _ => ?_)
            clear hK K
            try simp only [Act.put, List.setIfInBounds_toArray, List.set_cons_zero, List.set_cons_succ]
            refine wpAnyH_take (i := 15) (v := ?v15c15) rfl (by kernel_rfl) (by kernel_rfl) (by kernel_rfl) (fun _ _ _ h => h) (Or.inl ⟨by rfl, ?hy15c15⟩) (by assumption) ?rest15c15
            case hy15c15 =>
              intro w hSw
              dsimp only [S3g] at hSw
              go_simp
              try with_reducible rfl
            simp only [Act.put, List.getElem_toArray, List.getElem_cons_succ, List.getElem_cons_zero, List.setIfInBounds_toArray, List.set_cons_zero, List.set_cons_succ]
            refine wpAnyH_take (i := 16) (v := ?v16c16) rfl (by kernel_rfl) (by kernel_rfl) (by kernel_rfl) (fun _ _ _ h => h) (Or.inl ⟨by rfl, ?hy16c16⟩) (by assumption) ?rest16c16
            case hy16c16 =>
              intro w hSw
              dsimp only [S3g] at hSw
              go_simp
              try with_reducible rfl
            simp only [Act.put, List.getElem_toArray, List.getElem_cons_succ, List.getElem_cons_zero, List.setIfInBounds_toArray, List.set_cons_zero, List.set_cons_succ]
            refine wpAnyH_ready (rs := [17]) (by kernel_rfl) (by simp) ?_
            refine AllReadyH.cons rfl (fun K hK => ?_) AllReadyH.nil
            go_simp
            refine hK _ _ hs4 (fun _ => ?_)
            clear hK K
            try simp only [Act.put, List.setIfInBounds_toArray, List.set_cons_zero, List.set_cons_succ]
            refine wpAnyH_done (by kernel_rfl) ?_ _
            refine NoPanic.normal ?_
            obtain ⟨W9, hW9⟩ : ∃ W, w5.setCell ⟨xh, t, none⟩ (.int .u64 (v2 : Nat)) = W := ⟨_, rfl⟩
            have NX : Hid (c + 1 ≤ M ∧ EoI w0 W3 W9 fb W2.heap.size l E n X H i (c + 1)) := by
              unfold Hid; rw [← hW9]; exact NXF.out w5 D0.out
            rw [hW9]
            clear hS ho4 hf4 hs4 hW9
            go_wp2
            go_roundw
            case rel => exact ⟨c + 1, by go_num, NX.out⟩
            case measure => simp [intOf]; omega
          · go_simp
            refine (C2.out w4).mono ?_
            rintro e1 w5 ⟨rfl, hw5⟩
            subst hw5
            try go_simp
            refine hK _ _ hS (fun _ => ?_)
            clear hK K
            try simp only [Act.put, List.setIfInBounds_toArray, List.set_cons_zero, List.set_cons_succ]
            refine wpAnyH_ready (rs := [12]) (by kernel_rfl) (by simp) ?_
            refine AllReadyH.cons rfl (fun K hK => ?_) AllReadyH.nil
            go_simp
            refine hK _ _ hS (fun _ => ?_)
            clear hK K
            try simp only [Act.put, List.setIfInBounds_toArray, List.set_cons_zero, List.set_cons_succ]
            refine wpAnyH_take (i := 15) (v := ?v15d15) rfl (by kernel_rfl) (by kernel_rfl) (by kernel_rfl) (fun _ _ _ h => h) (Or.inl ⟨by rfl, ?hy15d15⟩) (by assumption) ?rest15d15
            case hy15d15 =>
              intro w hSw
              dsimp only [S3g] at hSw
              go_simp
              try with_reducible rfl
            simp only [Act.put, List.getElem_toArray, List.getElem_cons_succ, List.getElem_cons_zero, List.setIfInBounds_toArray, List.set_cons_zero, List.set_cons_succ]
            refine wpAnyH_take (i := 16) (v := ?v16d16) rfl (by kernel_rfl) (by kernel_rfl) (by kernel_rfl) (fun _ _ _ h => h) (Or.inl ⟨by rfl, ?hy16d16⟩) (by assumption) ?rest16d16
            case hy16d16 =>
              intro w hSw
              dsimp only [S3g] at hSw
              go_simp
              try with_reducible rfl
            simp only [Act.put, List.getElem_toArray, List.getElem_cons_succ, List.getElem_cons_zero, List.setIfInBounds_toArray, List.set_cons_zero, List.set_cons_succ]
            refine wpAnyH_ready (rs := [17]) (by kernel_rfl) (by simp) ?_
            refine AllReadyH.cons rfl (fun K hK => ?_) AllReadyH.nil
            go_simp
            refine hK _ _ hs4 (fun _ => ?_)
            clear hK K
            try simp only [Act.put, List.setIfInBounds_toArray, List.set_cons_zero, List.set_cons_succ]
            refine wpAnyH_done (by kernel_rfl) ?_ _
            refine NoPanic.normal ?_
            obtain ⟨W9, hW9⟩ : ∃ W, w5.setCell ⟨xh, t, none⟩ (.int .u64 (v2 : Nat)) = W := ⟨_, rfl⟩
            have NX : Hid (c + 1 ≤ M ∧ EoI w0 W3 W9 fb W2.heap.size l E n X H i (c + 1)) := by
              unfold Hid; rw [← hW9]; exact NXF.out w5 D0.out
            rw [hW9]
            clear hS ho4 hf4 hs4 hW9
            go_wp2
            go_roundw
            case rel => exact ⟨c + 1, by go_num, NX.out⟩
            case measure => simp [intOf]; omega
        · have hltc' : ¬ (c : Int) < (M : Int) := by omega
          have NX : Hid (i + 1 ≤ L ∧ EoI w0 W3 wr fb W2.heap.size l E n X H (i + 1) 0) := by
            have hc := hS.out.1
            have e : c = (st (ed E n).ss i).length := by rw [HM.out]; omega
            have h := hS.out.2
            rw [e] at h
            exact ⟨hlt, h.pl.congr fun i' k' _ _ => HH_next i' k', fun j hj => by rw [h.bx j hj, OO_next HIL.out], h.fr, h.kx⟩
          clear hS hltc
          go_wp2
          go_roundw
          case rel => exact ⟨i + 1, by go_num, NX.out⟩
          case measure => simp [intOf]; omega
    · have hlt' : ¬ (i : Int) < (L : Int) := by omega
      have hiL : i = l.length := by rw [HLL.out]; have := hS.out.1; omega
      have h := hS.out.2
      rw [hiL] at h
      have QB : BxAt wr W2.heap.size 0 (ebS l E n) := fun j hj => by
        rw [h.bx j hj]
        unfold OOc
        by_cases q : j < l.length
        · rw [if_pos q]
        · rw [if_neg q]
          have e0 : ebS l E n j = 0 := by unfold ebS; rw [if_neg q]
          split
          · rename_i q2
            rw [e0, q2]
            have : bz (fun k => ((st (ed E n).ss l.length).take 0).contains (fn (fd l l.length).cs k)) (fd l l.length).cs.length = 0 := bz_none fun _ _ => by simp
            rw [this]
          · rw [e0]
      obtain ⟨ZB, ZF⟩ := Z6.out wr h.kx
      obtain ⟨B, hB⟩ : ∃ B, ebS l E n = B := ⟨_, rfl⟩
      rw [hB] at QB
      obtain ⟨W9, hW9⟩ : ∃ W, putB wr W1.heap.size B 12 = W := ⟨_, rfl⟩
      have RX : BxAt W9 W1.heap.size 0 B := by rw [← hW9]; exact bx_set12 ZB B
      have G9 : Kx (fun b => b = W1.heap.size) wr W9 := by rw [← hW9]; exact putB_kx B 12
      have z00 := HSZ.out
      have PP : Hid (EoP w0 w fb l E n X H (.returned (bxV B)) W9) := by
        have ne : ∀ j, j < l.length → W1.heap.size ≠ (X j).h ∧ W1.heap.size ≠ (X j).m := fun j hj => by
          have g1 := (HPP.out.fl j hj).sh
          have g2 := (HPP.out.fl j hj).mp.lt
          omega
        have nf : W1.heap.size ≠ fb := by
          have := cellLt (HPP.out.fl 0 HOK.out.n1).c0
          have : fb < w.heap.size := this
          omega
        refine ⟨by rw [hB], ?_, ?_⟩
        · refine (h.pl.keep G9 (fun b e _ => by subst e; exact ⟨nf, ne⟩)).congr fun i' k' hi' hk' => ?_
          unfold HHc
          rw [if_pos hi']
        · refine ((Kx.of_below B3.out).trans ((h.kx.mono (M := fun b => Nh l X b ∨ w.heap.size ≤ b) ?_).trans (G9.mono (M := fun b => Nh l X b ∨ w.heap.size ≤ b) ?_))).lower
          · rintro b (e | e)
            · exact .inl (.inl e)
            · exact .inl (.inr (by omega))
          · intro b e
            exact .inl (.inr (by omega))
      have x0 := QB 0 (by decide)
      have x1 := QB 1 (by decide)
      have x2 := QB 2 (by decide)
      have x3 := QB 3 (by decide)
      have x4 := QB 4 (by decide)
      have x5 := QB 5 (by decide)
      have x6 := QB 6 (by decide)
      have x7 := QB 7 (by decide)
      have x8 := QB 8 (by decide)
      have x9 := QB 9 (by decide)
      have x10 := QB 10 (by decide)
      have x11 := QB 11 (by decide)
      simp only [Nat.zero_add] at x0 x1 x2 x3 x4 x5 x6 x7 x8 x9 x10 x11
      have z0 := ZB 0 (by decide)
      have z1 := ZB 1 (by decide)
      have z2 := ZB 2 (by decide)
      have z3 := ZB 3 (by decide)
      have z4 := ZB 4 (by decide)
      have z5 := ZB 5 (by decide)
      have z6 := ZB 6 (by decide)
      have z7 := ZB 7 (by decide)
      have z8 := ZB 8 (by decide)
      have z9 := ZB 9 (by decide)
      have z10 := ZB 10 (by decide)
      have z11 := ZB 11 (by decide)
      simp only [Nat.zero_add] at z0 z1 z2 z3 z4 z5 z6 z7 z8 z9 z10 z11
      have r0 := RX 0 (by decide)
      have r1 := RX 1 (by decide)
      have r2 := RX 2 (by decide)
      have r3 := RX 3 (by decide)
      have r4 := RX 4 (by decide)
      have r5 := RX 5 (by decide)
      have r6 := RX 6 (by decide)
      have r7 := RX 7 (by decide)
      have r8 := RX 8 (by decide)
      have r9 := RX 9 (by decide)
      have r10 := RX 10 (by decide)
      have r11 := RX 11 (by decide)
      simp only [Nat.zero_add] at r0 r1 r2 r3 r4 r5 r6 r7 r8 r9 r10 r11
      simp only [putB] at hW9
      clear hS h QB ZB RX G9 hlt hiL z00
      go_wp2_with fail
      refine bodyPost_ret (v := bxV B) (by unfold bxV; simp [results, Tryd.results64, go_sem, r0, r1, r2, r3, r4, r5, r6, r7, r8, r9, r10, r11]) rfl ?_
      exact PP.out
end Go.Proofs.YtadfmplafehjlaaDoor
namespace Go.Proofs.YtadfmplafehjlaaDoor
open Go.RowKit Go.WideMaps Go.Maps

/-- The plan's own cells. -/
structure P15 (W : World) (p : Nat) (v : Value) (F : Nat → Nat) (ve : Value) (ev : Nat) : Prop where
  c0 : W.cell? ⟨p, 0, none⟩ = some v
  cf : ∀ i, i < 12 → W.cell? ⟨p, 1 + i, none⟩ = some (.int .u64 (F i))
  ce : W.cell? ⟨p, 13, none⟩ = some ve
  cv : W.cell? ⟨p, 14, none⟩ = some (.int .u64 ev)
  fr : ∀ o, W.frozen? ⟨p, o, none⟩ = false
section
variable {W W' : World} {p : Nat} {v ve : Value} {F : Nat → Nat} {ev : Nat}
theorem P15.lt (h : P15 W p v F ve ev) : p < W.heap.size := cellLt h.c0
theorem P15.keep {N : Nat → Prop} (h : P15 W p v F ve ev) (hk : Kx N W W') (hn : ¬ N p) : P15 W' p v F ve ev :=
  ⟨hk.cell h.c0 hn, fun i hi => hk.cell (h.cf i hi) hn, hk.cell h.ce hn, hk.cell h.cv hn, fun o => (hk.frozen (p := ⟨p, o, none⟩) h.lt hn).trans (h.fr o)⟩
theorem P15.setV (h : P15 W p v F ve ev) (x : Value) : P15 (W.setCell ⟨p, 0, none⟩ x) p x F ve ev :=
  ⟨World.cell?_setCell_same _ _ _ h.c0, fun i hi => by rw [World.cell?_setCell_other _ _ _ _ (fun q => by injection q with _ q; omega)]; exact h.cf i hi,
   by rw [World.cell?_setCell_other _ _ _ _ (fun q => by injection q with _ q; omega)]; exact h.ce, by rw [World.cell?_setCell_other _ _ _ _ (fun q => by injection q with _ q; omega)]; exact h.cv,
   fun o => by rw [World.frozen?_setCell]; exact h.fr o⟩
theorem P15.setE (h : P15 W p v F ve ev) (x : Value) : P15 (W.setCell ⟨p, 13, none⟩ x) p v F x ev :=
  ⟨by rw [World.cell?_setCell_other _ _ _ _ (fun q => by injection q with _ q; omega)]; exact h.c0, fun i hi => by rw [World.cell?_setCell_other _ _ _ _ (fun q => by injection q with _ q; omega)]; exact h.cf i hi,
   World.cell?_setCell_same _ _ _ h.ce, by rw [World.cell?_setCell_other _ _ _ _ (fun q => by injection q with _ q; omega)]; exact h.cv,
   fun o => by rw [World.frozen?_setCell]; exact h.fr o⟩
theorem P15.setF (h : P15 W p v F ve ev) {k : Nat} (hk : k < 12) (x : Nat) : P15 (W.setCell ⟨p, 1 + k, none⟩ (.int .u64 x)) p v (upd F k x) ve ev := by
  refine ⟨by rw [World.cell?_setCell_other _ _ _ _ (fun q => by injection q with _ q; omega)]; exact h.c0, fun i hi => ?_, by rw [World.cell?_setCell_other _ _ _ _ (fun q => by injection q with _ q; omega)]; exact h.ce, by rw [World.cell?_setCell_other _ _ _ _ (fun q => by injection q with _ q; omega)]; exact h.cv, fun o => by rw [World.frozen?_setCell]; exact h.fr o⟩
  by_cases e : i = k
  · subst e
    rw [World.cell?_setCell_same _ _ _ (h.cf i hi)]; simp [upd]
  · rw [World.cell?_setCell_other _ _ _ _ (fun q => by injection q with _ q; omega), h.cf i hi]
    simp [upd, e]
end
/-- A row of the call's own under a step that keeps it. -/
theorem ownKx {w w' : World} {N : Nat → Prop} {base : Nat} {e : TypeId} {size : Nat} {v : Value} {n : Nat} {xs : List Value} (h : w.ownsRow base e size v n xs) (hk : Kx N w w') (hn : ∀ g, v.ownBlock = some g → ¬ N g) : w'.ownsRow base e size v n xs := by
  refine ⟨h.1, ?_⟩
  rcases h.2 with q | ⟨g, cap, cur, rfl, hb, hg, r⟩
  · exact .inl q
  · exact .inr ⟨g, cap, cur, rfl, hb, (hk.block g (Array.getElem?_eq_some_iff.1 hg).1 (hn g rfl)).trans hg, r⟩
/-- A field's rows, with sets of places. -/
structure FxR (w0 W : World) (f : Fd) (x : Fr) (H : Nat → Nat) : Prop where
  rd : Rd w0 x.a f.cs
  mp : MapN W x.m f.cs.length (mrk f.cs)
  ho : ∀ k, k < f.cs.length → W.cell? ⟨x.h, k, none⟩ = some (.int .u64 (H k))
  fr : ∀ k, W.frozen? ⟨x.h, k, none⟩ = false
  lm : w0.heap.size ≤ x.m
  lh : w0.heap.size ≤ x.h
  sh : x.h < W.heap.size
theorem FxR.keep {w0 W W' : World} {f : Fd} {x : Fr} {H : Nat → Nat} {N : Nat → Prop} (h : FxR w0 W f x H) (hk : Kx N W W') (n1 : ¬ N x.m) (n2 : ¬ N x.h) : FxR w0 W' f x H :=
  ⟨h.rd, h.mp.keepX hk n1, fun k q => hk.cell (h.ho k q) n2, fun k => (hk.frozen (p := ⟨x.h, k, none⟩) h.sh n2).trans (h.fr k), h.lm, h.lh, Nat.lt_of_lt_of_le h.sh hk.size⟩
def frC (f : Fd) (x : Fr) : List Value := [.string f.nm, .slice x.a f.cs.length x.c, .int .i64 f.wt, .map (some x.m), .slice (some ⟨x.h, 0, none⟩) f.cs.length f.cs.length]
def flF (l : List Fd) (X : Nat → Fr) : Nat → List Value
  | 0 => []
  | k + 1 => flF l X k ++ frC (fd l k) (X k)
theorem flF_len (l : List Fd) (X : Nat → Fr) : ∀ k, (flF l X k).length = k * 5
  | 0 => rfl
  | k + 1 => by show (flF l X k ++ _).length = _; rw [List.length_append, flF_len]; simp [frC]; omega
theorem flF_at (l : List Fd) (X : Nat → Fr) {i j : Nat} (hj : j < 5) : ∀ {k : Nat}, i < k → (flF l X k)[i * 5 + j]? = (frC (fd l i) (X i))[j]?
  | k + 1, h => by
    show (flF l X k ++ _)[_]? = _
    by_cases e : i = k
    · subst e
      rw [List.getElem?_append_right (by rw [flF_len]; omega), flF_len]
      congr 1; omega
    · rw [List.getElem?_append_left (by rw [flF_len]; omega)]
      exact flF_at l X hj (by omega)
theorem flF_congr (l : List Fd) {X Y : Nat → Fr} : ∀ {k : Nat}, (∀ i, i < k → X i = Y i) → flF l X k = flF l Y k
  | 0, _ => rfl
  | k + 1, h => by
    show flF l X k ++ _ = flF l Y k ++ _
    rw [flF_congr l fun i hi => h i (by omega), h k (by omega)]
def setX (X : Nat → Fr) (k : Nat) (x : Fr) : Nat → Fr := fun i => if i = k then x else X i
/-- The fields so far. -/
structure PfI (w0 W : World) (p : Nat) (v : Value) (l : List Fd) (F : Nat → Nat) (ev k : Nat) (X : Nat → Fr) : Prop where
  own : W.ownsRow w0.heap.size 94 5 v k (flF l X k)
  pc : P15 W p v F (.slice none 0 0) ev
  fx : ∀ i, i < k → FxR w0 W (fd l i) (X i) (fun _ => 0)
  hh : ∀ i j, i < k → j < k → i ≠ j → (X i).h ≠ (X j).h
  hm : ∀ i j, i < k → j < k → (X i).m ≠ (X j).h
  np : ∀ i, i < k → (X i).h ≠ p ∧ (X i).m ≠ p ∧ v.ownBlock ≠ some (X i).h ∧ v.ownBlock ≠ some (X i).m
  vp : v.ownBlock ≠ some p
  lp : w0.heap.size ≤ p
  bel : Below w0.heap.size w0 W
section
variable {w0 W W' : World} {p : Nat} {v : Value} {l : List Fd} {F : Nat → Nat} {ev k : Nat} {X : Nat → Fr}
theorem PfI.keep {N : Nat → Prop} (h : PfI w0 W p v l F ev k X) (hk : Kx N W W') (n0 : ∀ b, N b → w0.heap.size ≤ b) (n1 : ¬ N p) (n2 : ∀ i, i < k → ¬ N (X i).h ∧ ¬ N (X i).m) (n3 : ∀ g, v.ownBlock = some g → ¬ N g) : PfI w0 W' p v l F ev k X :=
  ⟨ownKx h.own hk n3, h.pc.keep hk n1, fun i hi => (h.fx i hi).keep hk (n2 i hi).2 (n2 i hi).1, h.hh, h.hm, h.np, h.vp, h.lp, h.bel.trans (hk.below h.bel.size n0)⟩
theorem PfI.below (h : PfI w0 W p v l F ev k X) (hb : Below W.heap.size W W') : PfI w0 W' p v l F ev k X :=
  h.keep (N := fun _ => False) (Kx.of_below hb) (fun _ q => q.elim) (fun q => q) (fun _ _ => ⟨fun q => q, fun q => q⟩) (fun _ _ q => q)
theorem PfI.full (h : PfI w0 W p v l F ev k X) {j : Nat} (hj : j < 12) (x : Nat) : PfI w0 (W.setCell ⟨p, 1 + j, none⟩ (.int .u64 x)) p v l (upd F j x) ev k X := by
  have hg := grown_set W p (1 + j) (.int .u64 x)
  have hk : Kx (fun b => b = p) W (W.setCell ⟨p, 1 + j, none⟩ (.int .u64 x)) := Kx.of_grown hg (.inl rfl)
  exact ⟨ownKx h.own hk (fun g e q => h.vp (by rw [e, q])), h.pc.setF hj x, fun i hi => (h.fx i hi).keep hk (h.np i hi).2.1 (h.np i hi).1, h.hh, h.hm, h.np, h.vp, h.lp, h.bel.trans (hk.below h.bel.size (fun b e => by rw [e]; exact h.lp))⟩
/-- One field more. -/
theorem PfI.add (h : PfI w0 W p v l F ev k X) {W1 W2 W3 : World} {x : Fr} {g cap : Nat} {tmp : Obj} (hb : Below W.heap.size W W1) (hx : FxR w0 W1 (fd l k) x (fun _ => 0)) (lm : W.heap.size ≤ x.m) (lh : W.heap.size ≤ x.h) (mh : x.m ≠ x.h)
    (h2 : W2 = W1.alloc tmp) (hown : W3.ownsRow w0.heap.size 94 5 (.slice (some ⟨g, 0, none⟩) (k + 1) cap) (k + 1) (flF l X k ++ frC (fd l k) x)) (hg : W2.grownBy W3 v.ownBlock) (hat : v.ownBlock = some g ∨ g = W2.heap.size) :
    PfI w0 (W3.setCell ⟨p, 0, none⟩ (.slice (some ⟨g, 0, none⟩) (k + 1) cap)) p (.slice (some ⟨g, 0, none⟩) (k + 1) cap) l F ev (k + 1) (setX X k x) := by
  have hb2 : Below W1.heap.size W1 W2 := by rw [h2]; exact bel_one _ _
  have s1 := hb.size
  have s2 : W2.heap.size = W1.heap.size + 1 := by rw [h2]; simp
  have P2 := h.below (hb.trans (hb2.mono s1))
  have hvlt : ∀ q, v.ownBlock = some q → q < W.heap.size := fun q e => (h.own.lt q e).2
  have kx : Kx (fun b => v.ownBlock = some b) W2 W3 := ⟨hg.os, hg.tape, hg.output, hg.size, fun b hb' hn => hg.block b hb' (fun e => hn e.symm)⟩
  have P3 : P15 W3 p v F (.slice none 0 0) ev := P2.pc.keep kx h.vp
  have plt : p < W.heap.size := h.pc.lt
  have gp : g ≠ p := by
    rcases hat with e | e
    · intro q; exact h.vp (by rw [e, q])
    · omega
  have ks : Kx (fun b => b = p) W3 (W3.setCell ⟨p, 0, none⟩ (.slice (some ⟨g, 0, none⟩) (k + 1) cap)) := Kx.of_grown (grown_set _ _ _ _) (.inl rfl)
  have xl : x.m < W1.heap.size ∧ x.h < W1.heap.size := ⟨hx.mp.lt, hx.sh⟩
  have old : ∀ i, i < k → (X i).h < W.heap.size ∧ (X i).m < W.heap.size := fun i hi => ⟨(h.fx i hi).sh, (h.fx i hi).mp.lt⟩
  have gn : g ≠ x.h ∧ g ≠ x.m := by
    rcases hat with e | e
    · have := hvlt g e; omega
    · omega
  have go : ∀ i, i < k → g ≠ (X i).h ∧ g ≠ (X i).m := fun i hi => by
    have o := old i hi
    rcases hat with e | e
    · exact ⟨fun q => (h.np i hi).2.2.1 (by rw [e, q]), fun q => (h.np i hi).2.2.2 (by rw [e, q])⟩
    · omega
  refine ⟨?_, P3.setV _, fun i hi => ?_, fun i j hi hj hij => ?_, fun i j hi hj => ?_, fun i hi => ?_, fun e => by injection e with e; exact gp e, h.lp, ?_⟩
  · have e : flF l (setX X k x) (k + 1) = flF l X k ++ frC (fd l k) x := by
      show flF l (setX X k x) k ++ frC (fd l k) (setX X k x k) = _
      rw [flF_congr l (Y := X) fun i hi => by unfold setX; rw [if_neg (by omega)]]
      unfold setX; rw [if_pos rfl]
    rw [e]
    exact ownKx hown ks (fun q e q2 => by injection e with e; exact gp (e.trans q2))
  · unfold setX
    by_cases e : i = k
    · subst e
      rw [if_pos rfl]
      refine ((hx.keep (N := fun _ => False) (Kx.of_below hb2) (fun q => q) (fun q => q)).keep kx ?_ ?_).keep ks ?_ ?_
      · intro q; have := hvlt _ q; omega
      · intro q; have := hvlt _ q; omega
      · show x.m ≠ p; omega
      · show x.h ≠ p; omega
    · rw [if_neg e]
      have hi' : i < k := by omega
      exact ((P2.fx i hi').keep kx (h.np i hi').2.2.2 (h.np i hi').2.2.1).keep ks (h.np i hi').2.1 (h.np i hi').1
  · unfold setX
    by_cases e : i = k
    · rw [if_pos e, if_neg (by omega)]
      have := (old j (by omega)).1; omega
    · rw [if_neg e]
      by_cases e2 : j = k
      · rw [if_pos e2]
        have := (old i (by omega)).1; omega
      · rw [if_neg e2]; exact h.hh i j (by omega) (by omega) hij
  · unfold setX
    by_cases e : i = k
    · rw [if_pos e]
      by_cases e2 : j = k
      · rw [if_pos e2]; exact mh
      · rw [if_neg e2]
        have := (old j (by omega)).1; omega
    · rw [if_neg e]
      by_cases e2 : j = k
      · rw [if_pos e2]
        have := (old i (by omega)).2; omega
      · rw [if_neg e2]; exact h.hm i j (by omega) (by omega)
  · unfold setX
    by_cases e : i = k
    · rw [if_pos e]
      exact ⟨by omega, by omega, fun q => by injection q with q; exact gn.1 q, fun q => by injection q with q; exact gn.2 q⟩
    · rw [if_neg e]
      have hi' : i < k := by omega
      exact ⟨(h.np i hi').1, (h.np i hi').2.1, fun q => by injection q with q; exact (go i hi').1 q, fun q => by injection q with q; exact (go i hi').2 q⟩
  · refine (P2.bel.trans (kx.below P2.bel.size ?_)).trans (ks.below (Nat.le_trans P2.bel.size hg.size) (fun b e => by rw [e]; exact h.lp))
    intro b e
    exact (h.own.lt b e).1
end
/-- The edits so far. -/
def bxL (B : Nat → Nat) : List Value := [.int .u64 (B 0), .int .u64 (B 1), .int .u64 (B 2), .int .u64 (B 3), .int .u64 (B 4), .int .u64 (B 5), .int .u64 (B 6), .int .u64 (B 7), .int .u64 (B 8), .int .u64 (B 9), .int .u64 (B 10), .int .u64 (B 11)]
def flE (l : List Fd) (E : List Ed) : Nat → List Value
  | 0 => []
  | n + 1 => flE l E n ++ bxL (ebS l E n)
theorem flE_len (l : List Fd) (E : List Ed) : ∀ n, (flE l E n).length = n * 12
  | 0 => rfl
  | n + 1 => by show (flE l E n ++ _).length = _; rw [List.length_append, flE_len]; simp [bxL]; omega
theorem bxL_at (B : Nat → Nat) {i : Nat} (h : i < 12) : (bxL B)[i]? = some (.int .u64 (B i)) := by
  match i, h with
  | 0, _ => rfl
  | 1, _ => rfl
  | 2, _ => rfl
  | 3, _ => rfl
  | 4, _ => rfl
  | 5, _ => rfl
  | 6, _ => rfl
  | 7, _ => rfl
  | 8, _ => rfl
  | 9, _ => rfl
  | 10, _ => rfl
  | 11, _ => rfl
theorem flE_at (l : List Fd) (E : List Ed) {j i : Nat} (hi : i < 12) : ∀ {n : Nat}, j < n → (flE l E n)[j * 12 + i]? = some (.int .u64 (ebS l E j i))
  | n + 1, h => by
    show (flE l E n ++ _)[_]? = _
    by_cases e : j = n
    · subst e
      rw [List.getElem?_append_right (by rw [flE_len]; omega), flE_len, show j * 12 + i - j * 12 = i by omega]
      exact bxL_at _ hi
    · rw [List.getElem?_append_left (by rw [flE_len]; omega)]
      exact flE_at l E hi (by omega)
structure PeI (w0 W : World) (p fb fc : Nat) (v : Value) (l : List Fd) (E : List Ed) (n : Nat) (X : Nat → Fr) : Prop where
  own : W.ownsRow w0.heap.size 57 12 v n (flE l E n)
  pc : P15 W p (.slice (some ⟨fb, 0, none⟩) l.length fc) (fuS l) v (evS E)
  pl : PlH w0 W fb l X (fun i k => bz (hdB l E i k) n)
  np : ∀ i, i < l.length → (X i).h ≠ p ∧ (X i).m ≠ p ∧ v.ownBlock ≠ some (X i).h ∧ v.ownBlock ≠ some (X i).m
  vp : v.ownBlock ≠ some p
  vf : v.ownBlock ≠ some fb
  fp : fb ≠ p
  lp : w0.heap.size ≤ p
  lf : w0.heap.size ≤ fb
  bel : Below w0.heap.size w0 W
/-- Behind all fields. -/
theorem PfI.done {w0 W : World} {p g cap : Nat} {l : List Fd} {E : List Ed} {F : Nat → Nat} {X : Nat → Fr} (h : PfI w0 W p (.slice (some ⟨g, 0, none⟩) l.length cap) l F (evS E) l.length X) (hF : ∀ i, i < 12 → F i = fuS l i) :
    PeI w0 W p g cap (.slice none 0 0) l E 0 X := by
  have cs := h.own.cells (g := g) rfl
  have cell : ∀ i j, i < l.length → j < 5 → ∀ u, (frC (fd l i) (X i))[j]? = some u → W.cell? ⟨g, i * 5 + j, none⟩ = some u := fun i j hi hj u hu => by
    have := cs (i * 5 + j) u (by rw [flF_at l X hj hi]; exact hu)
    unfold Addr.add at this
    split at this <;> simp_all
  have gl := (h.own.lt g rfl)
  refine ⟨World.ownsRow_nil _ _ _ _, ⟨h.pc.c0, fun i hi => by rw [← hF i hi]; exact h.pc.cf i hi, h.pc.ce, h.pc.cv, h.pc.fr⟩, ⟨fun i hi => ?_, h.hh, fun i hi e => ?_, h.hm⟩, fun i hi => ⟨(h.np i hi).1, (h.np i hi).2.1, by simp [Value.ownBlock], by simp [Value.ownBlock]⟩, by simp [Value.ownBlock], by simp [Value.ownBlock], fun e => h.vp (by rw [← e]; rfl), h.lp, gl.1, h.bel⟩
  · have f := h.fx i hi
    exact ⟨cell i 0 hi (by omega) _ rfl, cell i 1 hi (by omega) _ rfl, cell i 2 hi (by omega) _ rfl, cell i 3 hi (by omega) _ rfl, cell i 4 hi (by omega) _ rfl, f.rd, f.mp, fun k hk => f.ho k hk, f.fr, f.lm, f.lh, f.sh⟩
  · exact (h.np i hi).2.2.1 (by rw [e]; rfl)
section
variable {w0 W W' : World} {p fb fc : Nat} {v : Value} {l : List Fd} {E : List Ed} {n : Nat} {X : Nat → Fr}
theorem PeI.below (h : PeI w0 W p fb fc v l E n X) (hb : Below W.heap.size W W') : PeI w0 W' p fb fc v l E n X :=
  ⟨keep_own h.own hb, h.pc.keep (N := fun _ => False) (Kx.of_below hb) (fun q => q), h.pl.below hb, h.np, h.vp, h.vf, h.fp, h.lp, h.lf, h.bel.trans (hb.mono h.bel.size)⟩
theorem PeI.add (h : PeI w0 W p fb fc v l E n X) (hl : 0 < l.length) {W1 W2 W3 : World} {g cap : Nat} {tmp : Obj} (hk : Kx (Nh l X) W W1) (hp1 : PlH w0 W1 fb l X (fun i k => bz (hdB l E i k) n ||| (if hdB l E i k n = true then 2 ^ n else 0)))
    (h2 : W2 = W1.alloc tmp) (hown : W3.ownsRow w0.heap.size 57 12 (.slice (some ⟨g, 0, none⟩) (n + 1) cap) (n + 1) (flE l E n ++ bxL (ebS l E n))) (hg : W2.grownBy W3 v.ownBlock) (hat : v.ownBlock = some g ∨ g = W2.heap.size) :
    PeI w0 (W3.setCell ⟨p, 13, none⟩ (.slice (some ⟨g, 0, none⟩) (n + 1) cap)) p fb fc (.slice (some ⟨g, 0, none⟩) (n + 1) cap) l E (n + 1) X := by
  have hb2 : Below W1.heap.size W1 W2 := by rw [h2]; exact bel_one _ _
  have s1 := hk.size
  have s2 : W2.heap.size = W1.heap.size + 1 := by rw [h2]; simp
  have nhp : ¬ Nh l X p := fun ⟨i, hi, e⟩ => (h.np i hi).1 e.symm
  have P1 := h.pc.keep hk nhp
  have P2 := P1.keep (N := fun _ => False) (Kx.of_below hb2) (fun q => q)
  have kx : Kx (fun b => v.ownBlock = some b) W2 W3 := ⟨hg.os, hg.tape, hg.output, hg.size, fun b hb' hn => hg.block b hb' (fun e => hn e.symm)⟩
  have P3 := P2.keep kx h.vp
  have ks : Kx (fun b => b = p) W3 (W3.setCell ⟨p, 13, none⟩ (.slice (some ⟨g, 0, none⟩) (n + 1) cap)) := Kx.of_grown (grown_set _ _ _ _) (.inl rfl)
  have plt : p < W.heap.size := h.pc.lt
  have flt : ∀ i, i < l.length → (X i).h < W.heap.size ∧ (X i).m < W.heap.size ∧ fb < W.heap.size := fun i hi => ⟨(h.pl.fl i hi).sh, (h.pl.fl i hi).mp.lt, cellLt (h.pl.fl i hi).c0⟩
  have gp : g ≠ p := by
    rcases hat with e | e
    · intro q; exact h.vp (by rw [e, q])
    · omega
  have gx : ∀ i, i < l.length → g ≠ (X i).h ∧ g ≠ (X i).m ∧ g ≠ fb := fun i hi => by
    have o := flt i hi
    rcases hat with e | e
    · exact ⟨fun q => (h.np i hi).2.2.1 (by rw [e, q]), fun q => (h.np i hi).2.2.2 (by rw [e, q]), fun q => h.vf (by rw [e, q])⟩
    · omega
  refine ⟨?_, P3.setE _, ?_, fun i hi => ⟨(h.np i hi).1, (h.np i hi).2.1, fun q => by injection q with q; exact (gx i hi).1 q, fun q => by injection q with q; exact (gx i hi).2.1 q⟩, fun e => by injection e with e; exact gp e, fun e => ?_, h.fp, h.lp, h.lf, ?_⟩
  · exact ownKx hown ks (fun q e q2 => by injection e with e; exact gp (e.trans q2))
  · refine (((hp1.below hb2).keep kx ?_).keep ks ?_).congr fun i k _ _ => rfl
    · intro b e _
      exact ⟨fun q => h.vf (by rw [e, q]), fun i hi => ⟨fun q => (h.np i hi).2.2.1 (by rw [e, q]), fun q => (h.np i hi).2.2.2 (by rw [e, q])⟩⟩
    · intro b e _
      subst e
      exact ⟨h.fp.symm, fun i hi => ⟨(h.np i hi).1.symm, (h.np i hi).2.1.symm⟩⟩
  · injection e with e
    rcases hat with q | q
    · exact h.vf (by rw [q]; exact congrArg some e)
    · have := (flt 0 hl).2.2
      have : g = fb := e
      omega
  · refine ((h.bel.trans (hk.below h.bel.size ?_)).trans (hb2.mono (Nat.le_trans h.bel.size s1))).trans ?_
    · rintro b ⟨i, hi, e⟩
      rw [e]; exact (h.pl.fl i hi).lh
    · refine (kx.below (by have := h.bel.size; omega) fun b e => (h.own.lt b e).1).trans (ks.below (by have := h.bel.size; have := hg.size; omega) (fun b e => by rw [e]; exact h.lp))
end
end Go.Proofs.YtadfmplafehjlaaDoor
namespace Go.Proofs.YtadfmplafehjlaaDoor
open Go.RowKit Go.WideMaps Go.Maps

theorem fdE_1 {l : List Fd} {k : Nat} (h : nmE (fun i => (fd l i).nm) (fd l k).nm k ≠ 0) : fdE l k = nmE (fun i => (fd l i).nm) (fd l k).nm k := by unfold fdE; rw [if_pos h]
theorem fdE_2 {l : List Fd} {k : Nat} (h : nmE (fun i => (fd l i).nm) (fd l k).nm k = 0) (h2 : codesS (fd l k).cs ≠ 0) : fdE l k = codesS (fd l k).cs := by unfold fdE; rw [if_neg (by simpa using h), if_pos h2]
theorem fdE_3 {l : List Fd} {k : Nat} (h : nmE (fun i => (fd l i).nm) (fd l k).nm k = 0) (h2 : codesS (fd l k).cs = 0) : fdE l k = wtE (fd l k).wt := by unfold fdE; rw [if_neg (by simpa using h), if_neg (by simpa using h2)]
theorem fdsS_at {l : List Fd} {k : Nat} (h1 : l.length ≠ 0) (h2 : ¬ 12 < l.length) (hk : k < l.length) (h0 : fe (fdE l) k = 0) (h : fdE l k ≠ 0) : fdsS l = fdE l k := by
  unfold fdsS
  rw [if_neg h1, if_neg h2, fe_at hk h0 h]
set_option maxHeartbeats 2000000 in
theorem checkFields_c (a : Option Addr) (c : Nat) (l : List Fd) (w : World) (hl : RdF w a l) (hst : ∀ u, u ∈ l → u.nm.size ≤ 9223372036854775807) :
    Calls Tryd.prog 80 #[.slice a l.length c] w (IntP (fdsS l) w) := by
  have h9 := hl.1
  by_cases h1 : l.length = 0
  · have e : Hid (fdsS l = 9) := by unfold Hid fdsS; rw [if_pos h1]
    clear hl hst
    have h1' : (l.length : Int) = 0 := by omega
    go_enter Tryd.func80, Tryd.ntmps80
    go_wp2
    go_ret
    exact ⟨by rw [e.out]; rfl, Below.refl _ _⟩
  have h1' : ((l.length : Int) == 0) = false := by rw [beq_eq_false_iff_ne]; omega
  by_cases h2 : 12 < l.length
  · have e : Hid (fdsS l = 2) := by unfold Hid fdsS; rw [if_neg h1, if_pos h2]
    have h2' : (12 : Int) < (l.length : Int) := by omega
    clear hl hst h1 h2
    go_enter Tryd.func80, Tryd.ntmps80
    go_wp2
    go_ret
    exact ⟨by rw [e.out]; rfl, Below.refl _ _⟩
  have h2' : ¬ (12 : Int) < (l.length : Int) := by omega
  have hmm := @run_makeMap Tryd.prog
  have HL := Lib.hid hl
  have HST := Lib.hid hst
  have HAT : Hid (∀ k, k < l.length → fe (fdE l) k = 0 → fdE l k ≠ 0 → fdsS l = fdE l k) := fun k hk h0 h => fdsS_at h1 h2 hk h0 h
  have HEND : Hid (fe (fdE l) l.length = 0 → fdsS l = 0) := fun h => by unfold fdsS; rw [if_neg h1, if_neg h2, h]
  have hle : Hid (l.length ≤ 12) := by unfold Hid; omega
  clear hl hst h1 h2
  go_enter Tryd.func80, Tryd.ntmps80
  go_wp2
  go_loopw [19] (fun i wr => ∃ k : Nat, k ≤ l.length ∧ i = .int .i64 k ∧ Hid (NmIs wr w.heap.size (fun i => (fd l i).nm) k ∧ Below w.heap.size w wr ∧ w.heap.size + 1 ≤ wr.heap.size ∧ fe (fdE l) k = 0)) (fun i _ => l.length - (intOf i).toNat)
  case atStart => exact ⟨0, Nat.zero_le _, rfl, NmIs.made _ _, (Below.refl _ _).alloc (Nat.le_refl _) _, by simp, rfl⟩
  case round =>
    obtain ⟨k, hk, rfl, hS⟩ := hrel
    by_cases hlt : k < l.length
    · obtain ⟨b, off, rfl, u0, ⟨a', c', u1, hcs⟩, u2⟩ := (HL.out.below hS.out.2.1).at_ hlt
      have HCS : Hid (Rd w a' (fd l k).cs) := by
        obtain ⟨b', off', e, v0, ⟨a2, c2, v1, v2⟩, v3⟩ := HL.out.at_ hlt
        injection e with e; injection e with e1 e2; subst e1; subst e2
        have := hS.out.2.1.cell (p := ⟨b, off + k * 3 + 1, none⟩) (by obtain ⟨b', off', e, hb, _⟩ := HL.out.2 (by omega); injection e with e; injection e with e1 e2; subst e1; exact hb)
        rw [this, v1] at u1
        injection u1 with u1; injection u1 with u1 _ _; subst u1
        exact v2
      clear hcs
      have hlt' : (k : Int) < (l.length : Int) := by omega
      have hsz : Hid ((fd l k).nm.size ≤ 9223372036854775807) := HST.out _ (by unfold fd; rw [List.getD, List.getElem?_eq_getElem hlt]; simp)
      have hF : Hid (fdE l k ≠ 0 → fdsS l = fdE l k) := fun h => HAT.out k hlt hS.out.2.2.2 h
      have hN : Hid (fe (fdE l) (k + 1) = fdE l k) := fe_next hS.out.2.2.2
      obtain ⟨W1, hW1⟩ : ∃ W1, wr.alloc (.cells #[.string (fd l k).nm, .slice a' (fd l k).cs.length c', .int .i64 (fd l k).wt] 39) = W1 := ⟨_, rfl⟩
      have B1 : Hid (Below wr.heap.size wr W1 ∧ W1.heap.size = wr.heap.size + 1 ∧ W1.cell? ⟨wr.heap.size, 0, none⟩ = some (.string (fd l k).nm) ∧ W1.cell? ⟨wr.heap.size, 1, none⟩ = some (.slice a' (fd l k).cs.length c') ∧ W1.cell? ⟨wr.heap.size, 2, none⟩ = some (.int .i64 (fd l k).wt)) := by
        unfold Hid
        rw [← hW1]
        exact ⟨bel_one _ _, by simp, by rw [World.cell?_alloc_at _ _ _ _ rfl]; rfl, by rw [World.cell?_alloc_at _ _ _ _ rfl]; rfl, by rw [World.cell?_alloc_at _ _ _ _ rfl]; rfl⟩
      have BW1 : Hid (Below w.heap.size w W1) := hS.out.2.1.trans (B1.out.1.mono hS.out.2.1.size)
      have HNm : Hid (Calls Tryd.prog 105 #[.string (fd l k).nm, .map (some w.heap.size)] W1 (NameP (fun i => (fd l i).nm) k w.heap.size W1)) := checkName_c (fun i => (fd l i).nm) k w.heap.size W1 (hS.out.1.below B1.out.1 (by have := hS.out.2.2.1; omega)) (by have := hle.out; unfold maxLen; omega) hsz.out
      have v0 := B1.out.2.2.1
      go_wp2_with fail
      clear hW1 v0 u0 u1 u2
      refine HNm.out.mono ?_
      rintro e W2 ⟨rfl, hnx, hg⟩
      dsimp only at hnx
      have BW2 : Hid (Below w.heap.size w W2) := BW1.out.grown hg BW1.out.size (fun j hj => by cases hj; exact Nat.le_refl _)
      have hne : wr.heap.size ≠ w.heap.size := by have := hS.out.2.2.1; omega
      have x1 : W2.cell? ⟨wr.heap.size, 1, none⟩ = some (.slice a' (fd l k).cs.length c') := (grown_cell (p := ⟨wr.heap.size, 1, none⟩) hg (by have := B1.out.2.1; show wr.heap.size < _; omega) hne).trans B1.out.2.2.2.1
      have x2 : W2.cell? ⟨wr.heap.size, 2, none⟩ = some (.int .i64 (fd l k).wt) := (grown_cell (p := ⟨wr.heap.size, 2, none⟩) hg (by have := B1.out.2.1; show wr.heap.size < _; omega) hne).trans B1.out.2.2.2.2
      have hsz2 : Hid (w.heap.size + 1 ≤ W2.heap.size) := by
        have := hg.size; have := B1.out.2.1; have := hS.out.2.2.1
        unfold Hid; omega
      clear hg hne
      by_cases hc1 : nmE (fun i => (fd l i).nm) (fd l k).nm k = 0
      · have hNM := Lib.hid (hnx hc1)
        rw [hc1]
        clear hnx
        have HC : Hid (Calls Tryd.prog 106 #[.slice a' (fd l k).cs.length c'] W2 fun e w' => e = .returned (.int .i64 (codesS (fd l k).cs)) ∧ w' = W2) := checkCodes_c a' c' (fd l k).cs W2 (HCS.out.below BW2.out)
        by_cases hc2 : codesS (fd l k).cs = 0
        · have hE3 : Hid (fdE l k = wtE (fd l k).wt) := fdE_3 hc1 hc2
          rw [hc2] at HC
          clear hc1 hc2
          by_cases hw1 : (fd l k).wt < 1
          · have e : fdE l k = 1 := by rw [hE3.out]; unfold wtE; rw [if_pos hw1]
            have hR : Hid (fdsS l = 1) := by unfold Hid; rw [hF.out (by rw [e]; decide), e]
            clear e
            go_wp2_with fail
            refine HC.out.mono ?_
            rintro e W3 ⟨rfl, rfl⟩
            go_wp2
            go_ret
            exact ⟨by rw [hR.out]; rfl, BW2.out⟩
          by_cases hw2 : 1000 < (fd l k).wt
          · have e : fdE l k = 1 := by rw [hE3.out]; unfold wtE; rw [if_neg hw1, if_pos hw2]
            have hR : Hid (fdsS l = 1) := by unfold Hid; rw [hF.out (by rw [e]; decide), e]
            clear e
            go_wp2_with fail
            refine HC.out.mono ?_
            rintro e W3 ⟨rfl, rfl⟩
            go_wp2
            go_ret
            exact ⟨by rw [hR.out]; rfl, BW2.out⟩
          · have NX : Hid (NmIs W2 w.heap.size (fun i => (fd l i).nm) (k + 1) ∧ Below w.heap.size w W2 ∧ w.heap.size + 1 ≤ W2.heap.size ∧ fe (fdE l) (k + 1) = 0) :=
              ⟨hNM.out, BW2.out, hsz2.out, by rw [hN.out, hE3.out]; unfold wtE; rw [if_neg hw1, if_neg hw2]⟩
            go_wp2_with fail
            refine HC.out.mono ?_
            rintro e W3 ⟨rfl, rfl⟩
            go_wp2
            go_roundw
            case rel => exact ⟨k + 1, by omega, by go_num, NX.out⟩
            case measure => simp [intOf]; omega
        · have e : fdE l k = codesS (fd l k).cs := fdE_2 hc1 hc2
          have hR : Hid (fdsS l = codesS (fd l k).cs) := by unfold Hid; rw [hF.out (by rw [e]; exact hc2), e]
          have hc' : (codesS (fd l k).cs == 0) = false := by rw [beq_eq_false_iff_ne]; exact hc2
          clear e hc1 hc2
          go_wp2_with fail
          refine HC.out.mono ?_
          rintro e W3 ⟨rfl, rfl⟩
          go_wp2
          go_ret
          exact ⟨by rw [hR.out]; rfl, BW2.out⟩
      · have e : fdE l k = nmE (fun i => (fd l i).nm) (fd l k).nm k := fdE_1 hc1
        have hR : Hid (fdsS l = nmE (fun i => (fd l i).nm) (fd l k).nm k) := by unfold Hid; rw [hF.out (by rw [e]; exact hc1), e]
        have hc' : (nmE (fun i => (fd l i).nm) (fd l k).nm k == 0) = false := by rw [beq_eq_false_iff_ne]; exact hc1
        clear e hc1 hnx
        generalize nmE (fun i => (fd l i).nm) (fd l k).nm k = ch at *
        go_wp2
        go_ret
        exact ⟨by rw [hR.out]; rfl, BW2.out⟩
    · obtain rfl : k = l.length := by omega
      clear hlt
      have hR := Lib.hid (HEND.out hS.out.2.2.2)
      go_wp2
      go_ret
      exact ⟨by rw [hR.out]; rfl, hS.out.2.1⟩
end Go.Proofs.YtadfmplafehjlaaDoor
