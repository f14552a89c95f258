/-
  Package code: the cases of a list of codings.
  Package code: final.
  Package code: final, the walk.
-/
import Derived.Test.YtgfjbilhgblbeaaDoorMf09
namespace Go.Proofs.YtgfjbilhgblbeaaDoor
open Go.RowKit Go.WideMaps Go.Maps

/-- The codings from s on, n of them. -/
def seg (C : List Cg) (s n : Nat) : List Cg := (List.range n).map fun i => cg C (s + i)
theorem seg_len (C : List Cg) (s n : Nat) : (seg C s n).length = n := by unfold seg; simp
theorem seg_at {C : List Cg} {s n i : Nat} (h : i < n) : cg (seg C s n) i = cg C (s + i) := by
  unfold seg
  rw [cg, List.getD, List.getElem?_map, List.getElem?_range h]
  rfl
theorem seg_succ (C : List Cg) (s n : Nat) : seg C s (n + 1) = seg C s n ++ [cg C (s + n)] := by
  unfold seg
  rw [List.range_succ, List.map_append]
  rfl
/-- A case begins at k. -/
def New (C : List Cg) (k : Nat) : Prop := k = 0 ∨ (cg C k).ca ≠ (cg C (k - 1)).ca
instance (C : List Cg) (k : Nat) : Decidable (New C k) := by unfold New; infer_instance
/-- Where the case of coding k begins. -/
def beg (C : List Cg) : Nat → Nat
  | 0 => 0
  | k + 1 => if New C (k + 1) then k + 1 else beg C k
/-- The cases that begin among the first k, all but the last one of them. -/
def cas (C : List Cg) : Nat → List (List Cg)
  | 0 => []
  | k + 1 => if New C (k + 1) then cas C k ++ [seg C (beg C k) (k + 1 - beg C k)] else cas C k
/-- All cases. -/
def cases_ (C : List Cg) : List (List Cg) := if C.length = 0 then [] else cas C (C.length - 1) ++ [seg C (beg C (C.length - 1)) (C.length - beg C (C.length - 1))]
theorem beg_le (C : List Cg) : ∀ k, beg C k ≤ k
  | 0 => Nat.le_refl _
  | k + 1 => by have := beg_le C k; unfold beg; split <;> omega
theorem beg_new {C : List Cg} {k : Nat} (h : New C (k + 1)) : beg C (k + 1) = k + 1 := by unfold beg; rw [if_pos h]
theorem beg_old {C : List Cg} {k : Nat} (h : ¬ New C (k + 1)) : beg C (k + 1) = beg C k := by rw [beg, if_neg h]
theorem cas_new {C : List Cg} {k : Nat} (h : New C (k + 1)) : cas C (k + 1) = cas C k ++ [seg C (beg C k) (k + 1 - beg C k)] := by rw [cas, if_pos h]
theorem cas_old {C : List Cg} {k : Nat} (h : ¬ New C (k + 1)) : cas C (k + 1) = cas C k := by rw [cas, if_neg h]
theorem cas_len (C : List Cg) : ∀ k, (cas C k).length ≤ k
  | 0 => Nat.le_refl _
  | k + 1 => by
    have := cas_len C k
    unfold cas
    split
    · rw [List.length_append]; simp; exact this
    · omega
theorem cases_len (C : List Cg) : (cases_ C).length ≤ C.length := by
  unfold cases_
  split
  · simp
  · have := cas_len C (C.length - 1)
    rw [List.length_append]; simp; omega
/-- Each case has codings, and they are some of C. -/
theorem cas_all (C : List Cg) : ∀ k, k < C.length → ∀ D ∈ cas C k, 0 < D.length ∧ ∃ s, s + D.length ≤ C.length ∧ D = seg C s D.length
  | 0, _, D, h => by simp [cas] at h
  | k + 1, hk, D, h => by
    unfold cas at h
    split at h
    · rw [List.mem_append] at h
      rcases h with h | h
      · exact cas_all C k (by omega) D h
      · simp at h
        have := beg_le C k
        subst h
        rw [seg_len]
        exact ⟨by omega, beg C k, by omega, rfl⟩
    · exact cas_all C k (by omega) D h
theorem cases_all {C : List Cg} {D : List Cg} (h : D ∈ cases_ C) : 0 < D.length ∧ ∃ s, s + D.length ≤ C.length ∧ D = seg C s D.length := by
  unfold cases_ at h
  split at h
  · simp at h
  · have := beg_le C (C.length - 1)
    rw [List.mem_append] at h
    rcases h with h | h
    · exact cas_all C _ (by omega) D h
    · simp at h
      subst h
      rw [seg_len]
      exact ⟨by omega, _, by omega, rfl⟩
def rn (R : List (List Cg)) (j : Nat) : List Cg := R.getD j []
/-- A slice of slices of codings. -/
def RdR (w : World) (a : Option Addr) (R : List (List Cg)) : Prop :=
  ∀ j, j < R.length → ∃ g a' c', a = some ⟨g, 0, none⟩ ∧ g < w.heap.size ∧ w.cell? ⟨g, j, none⟩ = some (.slice a' (rn R j).length c') ∧ RdC w a' (rn R j)
/-- A row of the call's own of slices of codings, which read in the world w0. -/
def OwnR (w0 w : World) (B : Nat) (v : Value) (R : List (List Cg)) : Prop :=
  ∃ xs : List Value, w.ownsRow B 35 1 v R.length xs ∧ ∀ j, j < R.length → ∃ a c, xs[j]? = some (.slice a (rn R j).length c) ∧ RdC w0 a (rn R j)
theorem rn_snoc {R : List (List Cg)} {D : List Cg} {j : Nat} (h : j < (R ++ [D]).length) : (j < R.length ∧ rn (R ++ [D]) j = rn R j) ∨ (j = R.length ∧ rn (R ++ [D]) j = D) := by
  unfold rn
  rw [List.length_append] at h
  by_cases e : j < R.length
  · exact .inl ⟨e, by rw [List.getD, List.getD, List.getElem?_append_left e]⟩
  · have : j = R.length := by simp at h; omega
    subst this
    exact .inr ⟨rfl, by rw [List.getD, List.getElem?_append_right (Nat.le_refl _)]; simp⟩
theorem OwnR.nil_ (w0 w : World) (B : Nat) : OwnR w0 w B (.slice none 0 0) [] := ⟨[], World.ownsRow_nil _ _ _ _, fun j h => by simp at h⟩
theorem own_slice {w : World} {B : Nat} {e : TypeId} {size : Nat} {v : Value} {n : Nat} {xs : List Value} (h : w.ownsRow B e size v n xs) : ∃ a c, v = .slice a n c := by
  rcases h.2 with ⟨rfl, h0⟩ | ⟨g, cap, cur, rfl, _⟩
  · exact ⟨none, 0, by rw [h0]⟩
  · exact ⟨_, _, rfl⟩
theorem OwnR.rd {w0 w : World} {B : Nat} {v : Value} {R : List (List Cg)} (h : OwnR w0 w B v R) (hb : Below w0.heap.size w0 w) : ∃ a c, v = .slice a R.length c ∧ RdR w a R := by
  obtain ⟨xs, ho, hx⟩ := h
  obtain ⟨a, c, rfl⟩ := own_slice ho
  refine ⟨a, c, rfl, fun j hj => ?_⟩
  obtain ⟨a', c', e, hr⟩ := hx j hj
  rcases ho.2 with ⟨e1, e2⟩ | ⟨g, cap, cur, e1, _⟩
  · omega
  · injection e1 with e1
    subst e1
    have := ho.cells (g := g) rfl j _ e
    rw [show (⟨g, 0, none⟩ : Addr).add j = ⟨g, j, none⟩ by rw [add_at, Nat.zero_add]] at this
    exact ⟨g, a', c', rfl, (ho.lt g rfl).2, this, hr.below hb⟩
theorem OwnR.snoc {w0 w' : World} {B : Nat} {v' : Value} {R : List (List Cg)} {D : List Cg} {a : Option Addr} {c : Nat} {xs : List Value}
    (hx : ∀ j, j < R.length → ∃ a c, xs[j]? = some (.slice a (rn R j).length c) ∧ RdC w0 a (rn R j)) (hl : xs.length = R.length)
    (ho : w'.ownsRow B 35 1 v' (R.length + 1) (xs ++ [.slice a D.length c])) (hD : RdC w0 a D) : OwnR w0 w' B v' (R ++ [D]) := by
  refine ⟨_, by rw [List.length_append]; exact ho, fun j hj => ?_⟩
  rcases rn_snoc hj with ⟨h1, h2⟩ | ⟨h1, h2⟩
  · obtain ⟨a', c', e, hr⟩ := hx j h1
    rw [h2]
    exact ⟨a', c', by rw [List.getElem?_append_left (by omega)]; exact e, hr⟩
  · subst h1
    rw [h2]
    exact ⟨a, c, by rw [← hl, List.getElem?_append_right (Nat.le_refl _)]; simp, hD⟩
/-- A part of the codings. -/
theorem RdC.part {w : World} {b off : Nat} {C : List Cg} {s n : Nat} (h : RdC w (some ⟨b, off, none⟩) C) (hs : s + n ≤ C.length) : RdC w (some ⟨b, off + s * 3, none⟩) (seg C s n) := by
  refine ⟨by rw [seg_len]; have := h.1; omega, fun h0 => ?_⟩
  rw [seg_len] at h0
  obtain ⟨b', off', e, hl, hc⟩ := h.2 (by omega)
  injection e with e
  injection e with e1 e2
  subst e1; subst e2
  refine ⟨b, off + s * 3, rfl, hl, fun j hj => ?_⟩
  rw [seg_len] at hj
  rw [seg_at hj]
  have := hc (s + j) (by omega)
  rw [show off + s * 3 + j * 3 = off + (s + j) * 3 by omega]
  exact this
theorem infoS : (Tryd.prog.info? 35).map (fun i => (i.zero, i.size, i.bytes)) = some (some (.slice none 0 0), 1, 24) := by kernel_rfl
end Go.Proofs.YtgfjbilhgblbeaaDoor
namespace Go.Proofs.YtgfjbilhgblbeaaDoor
open Go.RowKit Go.WideMaps Go.Maps

/-- Block b counts: g says how often. -/
def ctF (g : Int → Nat) : Int → Option Int := fun s => if g s = 0 then none else some (g s : Int)
def CtIs (w : World) (b n : Nat) (g : Int → Nat) : Prop := NuIs w b n (ctF g)
theorem CtIs.look {w : World} {b n : Nat} {g : Int → Nat} (h : CtIs w b n g) {s : Int} (hs : in64 s) :
    (Instr.lookup 98 (.map (some b)) (.int .i64 s) false).run Tryd.prog w = .ok (.int .i64 (g s : Nat)) w := by
  rw [NuIs.look h hs]
  unfold ctF
  by_cases e : g s = 0
  · rw [if_pos e, e]; rfl
  · rw [if_neg e]; rfl
theorem CtIs.store {w : World} {b n : Nat} {g : Int → Nat} (h : CtIs w b n g) (hn : n < maxLen) {s : Int} (hs : in64 s) :
    ∃ w', (Instr.mapUpdate 98 (.map (some b)) (.int .i64 s) (.int .i64 ((g s : Int) + 1))).run Tryd.prog w = .ok () w' ∧ CtIs w' b (n + 1) (fun x => if x = s then g s + 1 else g x) ∧ w.grownBy w' (some b) := by
  obtain ⟨w', h1, h2, h3⟩ := NuIs.store h hn hs ((g s : Int) + 1)
  refine ⟨w', h1, MapIs.congr h2 fun x => ?_, h3⟩
  unfold ctF
  by_cases e : x = s
  · subst e; simp
  · simp [e]
theorem CtIs.congr {w : World} {b n : Nat} {g g' : Int → Nat} (h : CtIs w b n g) (e : ∀ s, g s = g' s) : CtIs w b n g' := by
  have : g = g' := funext e
  rw [← this]; exact h
/-- Two maps of counts, behind the world W1. -/
structure InF (W1 wr : World) (b1 b2 n : Nat) (g1 g2 : Int → Nat) : Prop where
  c1 : CtIs wr b1 n g1
  c2 : CtIs wr b2 n g2
  bel : Below W1.heap.size W1 wr
  lo : W1.heap.size ≤ b1
  lt : b1 < b2
  le : b2 < wr.heap.size
theorem InF.keep {W1 wr W : World} {b1 b2 n : Nat} {g1 g2 : Int → Nat} (h : InF W1 wr b1 b2 n g1 g2) (hb : Below wr.heap.size wr W) : InF W1 W b1 b2 n g1 g2 :=
  ⟨MapIs.below h.c1 hb (MapIs.lt h.c1), MapIs.below h.c2 hb (MapIs.lt h.c2), h.bel.trans (hb.mono h.bel.size), h.lo, h.lt, Nat.lt_of_lt_of_le h.le hb.size⟩
theorem InF.more {W1 wr : World} {b1 b2 n m : Nat} {g1 g2 : Int → Nat} (h : InF W1 wr b1 b2 n g1 g2) (hm : n ≤ m) : InF W1 wr b1 b2 m g1 g2 := { h with c1 := NuIs.more h.c1 hm, c2 := NuIs.more h.c2 hm }
theorem InF.congr {W1 wr : World} {b1 b2 n : Nat} {g1 g2 g1' g2' : Int → Nat} (h : InF W1 wr b1 b2 n g1 g2) (e1 : ∀ s, g1 s = g1' s) (e2 : ∀ s, g2 s = g2' s) : InF W1 wr b1 b2 n g1' g2' := { h with c1 := h.c1.congr e1, c2 := h.c2.congr e2 }
theorem InF.store1 {W1 wr : World} {b1 b2 n : Nat} {g1 g2 : Int → Nat} (h : InF W1 wr b1 b2 n g1 g2) (hn : n < maxLen) {s : Int} (hs : in64 s) :
    ∃ W, (Instr.mapUpdate 98 (.map (some b1)) (.int .i64 s) (.int .i64 ((g1 s : Int) + 1))).run Tryd.prog wr = .ok () W ∧ InF W1 W b1 b2 (n + 1) (fun x => if x = s then g1 s + 1 else g1 x) g2 ∧ wr.grownBy W (some b1) := by
  obtain ⟨W, e, h2, h3⟩ := h.c1.store hn hs
  have lo := h.lo
  have lt := h.lt
  exact ⟨W, e, ⟨h2, NuIs.more (MapIs.kept h.c2 h3 (by intro e; injection e with e; omega)) (Nat.le_succ _), h.bel.grown h3 h.bel.size (fun j hj => by cases hj; omega), h.lo, h.lt, Nat.lt_of_lt_of_le h.le h3.size⟩, h3⟩
theorem InF.store2 {W1 wr : World} {b1 b2 n : Nat} {g1 g2 : Int → Nat} (h : InF W1 wr b1 b2 n g1 g2) (hn : n < maxLen) {s : Int} (hs : in64 s) :
    ∃ W, (Instr.mapUpdate 98 (.map (some b2)) (.int .i64 s) (.int .i64 ((g2 s : Int) + 1))).run Tryd.prog wr = .ok () W ∧ InF W1 W b1 b2 (n + 1) g1 (fun x => if x = s then g2 s + 1 else g2 x) ∧ wr.grownBy W (some b2) := by
  obtain ⟨W, e, h2, h3⟩ := h.c2.store hn hs
  have lo := h.lo
  have lt := h.lt
  exact ⟨W, e, ⟨NuIs.more (MapIs.kept h.c1 h3 (by intro e; injection e with e; omega)) (Nat.le_succ _), h2, h.bel.grown h3 h.bel.size (fun j hj => by cases hj; omega), h.lo, h.lt, Nat.lt_of_lt_of_le h.le h3.size⟩, h3⟩
theorem InF.made (W1 : World) : InF W1 ((W1.alloc (.map #[] 0)).alloc (.map #[] 0)) W1.heap.size (W1.heap.size + 1) 0 (fun _ => 0) (fun _ => 0) := by
  have e1 : (W1.alloc (.map #[] 0)).heap.size = W1.heap.size + 1 := by simp
  refine ⟨?_, ?_, ?_, Nat.le_refl _, Nat.lt_succ_self _, by simp⟩
  · exact MapIs.below ((MapIs.made W1).congr fun s => rfl) (bel_one _ _) (by simp)
  · have := MapIs.made (W1.alloc (.map #[] 0))
    rw [e1] at this
    exact this.congr fun s => rfl
  · exact (bel_one _ _).trans ((bel_one _ _).mono (by simp))
/-- The counts of the first k codings. -/
def gV (D : List Cg) (k : Nat) (s : Int) : Nat := cn (vP D s) k
def gU (p lv : Nat → Nat) (D : List Cg) (k : Nat) (s : Int) : Nat := cn (uP p lv D s) k
theorem gV_next {D : List Cg} {k : Nat} (s : Int) : (if s = (cg D k).cd then gV D k (cg D k).cd + 1 else gV D k s) = gV D (k + 1) s := by
  unfold gV
  by_cases e : s = (cg D k).cd
  · subst e
    rw [if_pos rfl, cn, if_pos (by unfold vP; exact decide_eq_true rfl)]
  · rw [if_neg e, cn, if_neg (by unfold vP; exact fun h => e (of_decide_eq_true h).symm), Nat.add_zero]
/-- .. and of a part of the path of coding k. -/
def gJ (p lv : Nat → Nat) (D : List Cg) (k c j : Nat) (s : Int) : Nat := gU p lv D k s + (pth p c j).count s
theorem gJ_next {p lv : Nat → Nat} {D : List Cg} {k c j : Nat} {x : Int} (hx : x = ((it p j c : Nat) : Int)) (s : Int) : (if s = x then gJ p lv D k c j x + 1 else gJ p lv D k c j s) = gJ p lv D k c (j + 1) s := by
  unfold gJ
  rw [pth_succ, List.count_append, ← hx]
  by_cases e : s = x
  · subst e; simp [Nat.add_assoc]
  · rw [if_neg e]
    have : List.count s [x] = 0 := by rw [List.count_eq_zero]; simp; exact e
    rw [this]
    omega
theorem gJ_end {p lv : Nat → Nat} {H : Nat → Prop} (T : Tree p lv H) {D : List Cg} {k c : Nat} (hc : In H c) (e : (cg D k).cd = (c : Int)) (s : Int) : gJ p lv D k c (lv c) s = gU p lv D (k + 1) s := by
  unfold gJ gU
  rw [pth_count T hc s (Nat.le_refl _), cn]
  unfold uP
  rw [e, Int.toNat_natCast]
  by_cases h : s ∈ pth p c (lv c) <;> simp [h]
def FiP (p lv : Nat → Nat) (D : List Cg) (w : World) (e : Ending) (w' : World) : Prop := ∃ c y : Int, e = .returned (.tuple #[.int .i64 c, .int .i64 y]) ∧ IsFin p lv D c y ∧ in64 c ∧ Below w.heap.size w w'
theorem small_V {H : Nat → Prop} {D : List Cg} (hD : HasD H D) (h9 : ∀ c, H c → c ≤ 999) (hn : D.length ≤ 20000) : Small (ctF (gV D D.length)) := by
  intro s x h
  unfold ctF at h
  split at h
  · cases h
  · injection h with h
    have hle := cn_le (vP D s) D.length
    obtain ⟨j, hj, hP⟩ := cn_pos (P := vP D s) (k := D.length) (by unfold gV at *; omega)
    have hP := of_decide_eq_true hP
    obtain ⟨c, e, hc⟩ := hD j hj
    have := h9 c hc
    unfold gV at h
    omega
theorem small_U {p lv : Nat → Nat} {H : Nat → Prop} (T : Tree p lv H) {D : List Cg} (hD : HasD H D) (h9 : ∀ c, H c → c ≤ 999) (hn : D.length ≤ 20000) : Small (ctF (gU p lv D D.length)) := by
  intro s x h
  unfold ctF at h
  split at h
  · cases h
  · injection h with h
    have hle := cn_le (uP p lv D s) D.length
    obtain ⟨j, hj, hP⟩ := cn_pos (P := uP p lv D s) (k := D.length) (by unfold gU at *; omega)
    have hP := of_decide_eq_true hP
    obtain ⟨c, e, hc⟩ := hD j hj
    rw [e, Int.toNat_natCast, pth_mem] at hP
    obtain ⟨i, hi, e2⟩ := hP
    have : In H (it p i c) := T.inIt (.inr hc)
    have : it p i c ≤ 999 := by
      rcases this with h | h
      · omega
      · exact h9 _ h
    unfold gU at h
    omega
/-- What the two majorities say. -/
theorem fin_maj {p lv : Nat → Nat} {H : Nat → Prop} (T : Tree p lv H) {D : List Cg} (hD : HasD H D) (hn : 0 < D.length) (h1 : vN D (cg D 0).cd ≠ D.length) {c : Nat} (h : IsMaj lv (ctF (gV D D.length)) D.length c) :
    (c ≠ 0 → IsFin p lv D c 2) ∧ (c = 0 → (∀ s, ¬ D.length < 2 * vN D s)) := by
  have all : ∀ s, vN D s ≠ D.length := fun s e => by
    have := of_decide_eq_true (cn_all e 0 hn)
    rw [this] at h1
    exact h1 e
  refine ⟨fun hc => ?_, fun hc s hs => ?_⟩
  · rcases h.1 with h0 | ⟨x, hx, h2, _⟩
    · exact absurd h0 hc
    · refine .inr (.inl ⟨rfl, all _, ?_⟩)
      unfold ctF at hx
      split at hx
      · cases hx
      · injection hx with hx
        have : vN D (c : Int) = gV D D.length c := rfl
        omega
  · have e : vN D s = gV D D.length s := rfl
    have h0 : gV D D.length s ≠ 0 := by omega
    have := h.2 s (gV D D.length s) (by unfold ctF; rw [if_neg h0]) (by omega)
    rw [hc, T.zero] at this
    obtain ⟨j, hj, hP⟩ := cn_pos (P := vP D s) (k := D.length) (by unfold gV at h0; omega)
    have hP := of_decide_eq_true hP
    obtain ⟨d, e, hd⟩ := hD j hj
    have e3 : s.toNat = d := by omega
    rw [e3] at this
    have := (T.pos d hd).2.1
    omega
theorem fin_abv {p lv : Nat → Nat} {H : Nat → Prop} (T : Tree p lv H) {D : List Cg} (hD : HasD H D) (h1 : ∀ s, ¬ D.length < 2 * vN D s) {c : Nat} (h : IsMaj lv (ctF (gU p lv D D.length)) D.length c) :
    (c ≠ 0 → IsFin p lv D c 3) ∧ (c = 0 → IsFin p lv D 0 4) := by
  have up : ∀ s, D.length < 2 * uN p lv D s → lv s.toNat ≤ lv c := fun s hs => by
    have e : uN p lv D s = gU p lv D D.length s := rfl
    have h0 : gU p lv D D.length s ≠ 0 := by omega
    exact h.2 s (gU p lv D D.length s) (by unfold ctF; rw [if_neg h0]) (by omega)
  refine ⟨fun hc => ?_, fun hc => .inr (.inr (.inr ⟨rfl, rfl, fun s hs => ?_⟩))⟩
  · rcases h.1 with h0 | ⟨x, hx, h2, _⟩
    · exact absurd h0 hc
    · refine .inr (.inr (.inl ⟨rfl, h1, ?_, up⟩))
      unfold ctF at hx
      split at hx
      · cases hx
      · injection hx with hx
        have : uN p lv D (c : Int) = gU p lv D D.length c := rfl
        omega
  · have := up s hs
    rw [hc, T.zero] at this
    obtain ⟨j, hj, hP⟩ := cn_pos (P := uP p lv D s) (k := D.length) (by unfold uN at hs; omega)
    have hP := of_decide_eq_true hP
    obtain ⟨d, e, hd⟩ := hD j hj
    rw [e, Int.toNat_natCast, pth_mem] at hP
    obtain ⟨i, hi, e2⟩ := hP
    have e3 : s.toNat = it p i d := by omega
    rw [e3, T.lvIt (.inr hd)] at this
    omega
end Go.Proofs.YtgfjbilhgblbeaaDoor
namespace Go.Proofs.YtgfjbilhgblbeaaDoor
open Go.RowKit Go.WideMaps Go.Maps

set_option maxRecDepth 100000 in
set_option maxHeartbeats 4000000 in
theorem final_c (bp bl : Nat) (p lv : Nat → Nat) (H : Nat → Prop) (T : Tree p lv H) (a : Option Addr) (ca : Nat) (D : List Cg) (w : World) (hp : Arr w bp p) (hl : Arr w bl lv) (h9 : ∀ c, H c → c ≤ 999) (h8 : ∀ c, H c → lv c ≤ 8)
    (hC : RdC w a D) (hD : HasD H D) (h0 : 0 < D.length) (hn : D.length ≤ 20000) :
    Calls Tryd.prog 49 #[fv bp bl, .slice a D.length ca] w (FiP p lv D w) := by
  have hmm := @run_makeMap Tryd.prog
  obtain ⟨W1, hW1⟩ : ∃ W1, w.alloc (.cells #[row bp, row bl] 71) = W1 := ⟨_, rfl⟩
  have B1 : Hid (BoxF w W1 bp bl) := by unfold Hid; rw [← hW1]; exact box_f w bp bl
  have HP := Lib.hid (hp.below B1.out.1)
  have HL := Lib.hid (hl.below B1.out.1)
  have HC := Lib.hid (hC.below B1.out.1)
  have HT : Hid (Tree p lv H ∧ (∀ c, H c → c ≤ 999) ∧ ∀ c, H c → lv c ≤ 8) := ⟨T, h9, h8⟩
  have HD := Lib.hid hD
  have hwb : Hid (w.heap.size < W1.heap.size) := by have := B1.out.2.1; unfold Hid; omega
  have S0 : Hid (InF W1 ((W1.alloc (.map #[] 0)).alloc (.map #[] 0)) W1.heap.size (W1.heap.size + 1) (9 * 0) (gV D 0) (gU p lv D 0)) := InF.made W1
  have h9n := hC.1
  clear hp hl hC T hD h9 h8
  go_enter Tryd.func49, Tryd.ntmps49
  go_wp2_with fail
  go_loopw [19] (fun i wr => ∃ k : Nat, k ≤ D.length ∧ i = .int .i64 k ∧ Hid (InF W1 wr W1.heap.size (W1.heap.size + 1) (9 * k) (gV D k) (gU p lv D k))) (fun i _ => D.length - (intOf i).toNat)
  case atStart => exact ⟨0, Nat.zero_le _, rfl, S0.out⟩
  case round =>
    clear S0
    obtain ⟨k, hk, rfl, hS⟩ := hrel
    have x0 : wr.cell? ⟨w.heap.size, 0, none⟩ = some (row bp) := (hS.out.bel.cell (p := ⟨w.heap.size, 0, none⟩) hwb.out).trans B1.out.2.2.1
    have x1 : wr.cell? ⟨w.heap.size, 1, none⟩ = some (row bl) := (hS.out.bel.cell (p := ⟨w.heap.size, 1, none⟩) hwb.out).trans B1.out.2.2.2
    by_cases hlt : k < D.length
    · obtain ⟨wo, hwo⟩ : ∃ x : World, x = wr := ⟨wr, rfl⟩
      subst hwo
      obtain ⟨b', off, rfl, u0, u1, u2⟩ := (HC.out.below hS.out.bel).at_ hlt
      have hlt' : (k : Int) < (D.length : Int) := by omega
      obtain ⟨c, ec, hc⟩ := HD.out k hlt
      have c9 := HT.out.2.1 c hc
      have l8 := HT.out.2.2 c hc
      obtain ⟨WA, hWA⟩ : ∃ W, wo.alloc (.cells #[.int .i64 (cg D k).ca, .int .i64 (cg D k).co, .int .i64 (cg D k).cd] 49) = W := ⟨_, rfl⟩
      have N1 : Hid (CodB wo WA (cg D k)) := by unfold Hid; rw [← hWA]; exact cod_b _ _
      have SA := hS.out.keep N1.out.1
      have in1 : in64 (cg D k).cd := by rw [ec]; unfold in64; omega
      have hlook := SA.c1.look in1
      have hle : gV D k (cg D k).cd ≤ 20000 := by have := cn_le (vP D (cg D k).cd) k; unfold gV; omega
      obtain ⟨WB, hup, SB, gB⟩ := SA.store1 (by unfold maxLen; omega) in1
      have SB' := Lib.hid ((SB.more (m := 9 * k + 1) (Nat.le_refl _)).congr (fun s => gV_next s) (fun s => rfl))
      have hws : w.heap.size < wo.heap.size := Nat.lt_of_lt_of_le hwb.out hS.out.bel.size
      have v2 := N1.out.2.c2
      have v2b := gB.cell v2 (by have := SA.lo; have := hS.out.le; simp; omega)
      have y0 := gB.cell ((N1.out.1.cell (p := ⟨w.heap.size, 0, none⟩) hws).trans x0) (by have := hwb.out; simp; omega)
      have y1 := gB.cell ((N1.out.1.cell (p := ⟨w.heap.size, 1, none⟩) hws).trans x1) (by have := hwb.out; simp; omega)
      rw [ec] at u2 hWA hlook hup v2 v2b hle
      obtain ⟨m, hm⟩ : ∃ m, gV D k (c : Int) = m := ⟨_, rfl⟩
      rw [hm] at hlook hup hle
      have hm9 : (m : Int) ≤ 20000 := by omega
      have EC := Lib.hid (And.intro ec hc)
      have KP := Lib.hid (path_c bp bl p lv H HT.out.1 c WB (HP.out.below SB'.out.bel) (.inr hc) HT.out.2.1 l8)
      have bl2 := Lib.hid SB'.out.le
      clear SA SB gB hS N1 in1 x0 x1 hm ec hc
      go_wp2_with fail
      (with_reducible refine KP.out.mono ?_)
      rintro e WP ⟨v, rfl, hown, bP⟩
      obtain ⟨av, cv, rfl, _⟩ := rd_own hown (pth_len _ _ _) (by omega)
      have SJ : Hid (InF W1 WP W1.heap.size (W1.heap.size + 1) (9 * k + 1 + 0) (gV D (k + 1)) (gJ p lv D k c 0) ∧ WP.ownsRow WB.heap.size 3 1 (.slice av (lv c) cv) (lv c) ((pth p c (lv c)).map (Value.int .i64))) :=
        ⟨(SB'.out.keep bP).congr (fun s => rfl) (fun s => by unfold gJ pth; simp), hown⟩
      clear bP hown KP hlook hup v2 v2b y0 y1 u0 u1 u2 hWA SB'
      go_wp2_with fail
      go_loopw [33] (fun i wr => ∃ j : Nat, j ≤ lv c ∧ i = .int .i64 j ∧ Hid (InF W1 wr W1.heap.size (W1.heap.size + 1) (9 * k + 1 + j) (gV D (k + 1)) (gJ p lv D k c j) ∧ wr.ownsRow WB.heap.size 3 1 (.slice av (lv c) cv) (lv c) ((pth p c (lv c)).map (Value.int .i64)))) (fun i _ => lv c - (intOf i).toNat)
      case atStart => exact ⟨0, Nat.zero_le _, rfl, SJ.out⟩
      case round =>
        clear SJ
        obtain ⟨j, hj, rfl, hJ⟩ := hrel
        by_cases hjl : j < lv c
        · have hjl' : (j : Int) < (lv c : Int) := by omega
          obtain ⟨a', c', e, hr⟩ := rd_own hJ.out.2 (pth_len _ _ _) (by omega)
          injection e with e _ _
          subst e
          obtain ⟨b9, off9, rfl, q0⟩ := hr.at_ (k := j) (by rw [pth_len]; exact hjl)
          rw [pth_at hjl] at q0
          have hin := HT.out.1.inIt (k := j) (c := c) (.inr EC.out.2)
          have hx9 : it p j c ≤ 999 := by
            rcases hin with h | h
            · omega
            · exact HT.out.2.1 _ h
          obtain ⟨x, hx⟩ : ∃ x, it p j c = x := ⟨_, rfl⟩
          rw [hx] at q0 hx9
          have HX := Lib.hid hx
          have inx : in64 (x : Int) := by unfold in64; omega
          have hlook := hJ.out.1.c2.look inx
          obtain ⟨WN, hup, SN, gN⟩ := hJ.out.1.store2 (by unfold maxLen; omega) inx
          have hle : gJ p lv D k c j (x : Int) ≤ 20010 := by
            have h1 := cn_le (uP p lv D (x : Int)) k
            have h2 := List.count_le_length (a := (x : Int)) (l := pth p c j)
            rw [pth_len] at h2
            unfold gJ gU; omega
          have NX : Hid (InF W1 WN W1.heap.size (W1.heap.size + 1) (9 * k + 1 + (j + 1)) (gV D (k + 1)) (gJ p lv D k c (j + 1)) ∧ WN.ownsRow WB.heap.size 3 1 (.slice (some ⟨b9, off9, none⟩) (lv c) cv) (lv c) ((pth p c (lv c)).map (Value.int .i64))) := by
            refine ⟨SN.congr (fun s => rfl) (fun s => gJ_next (by rw [HX.out]) s), hJ.out.2.kept gN ?_⟩
            refine .inr fun e => ?_
            have := (hJ.out.2.lt _ e).1
            have := bl2.out
            omega
          obtain ⟨m2, hm2⟩ : ∃ m, gJ p lv D k c j (x : Int) = m := ⟨_, rfl⟩
          rw [hm2] at hlook hup hle
          have hm9' : (m2 : Int) ≤ 20010 := by omega
          clear SN gN hJ hr hin hx hm2 inx
          go_wp2
          go_roundw
          case rel => exact ⟨j + 1, by omega, by go_num, NX.out⟩
          case measure => simp [intOf]; omega
        · obtain rfl : j = lv c := by omega
          have NX : Hid (InF W1 wr W1.heap.size (W1.heap.size + 1) (9 * (k + 1)) (gV D (k + 1)) (gU p lv D (k + 1))) :=
            (hJ.out.1.more (m := 9 * (k + 1)) (by omega)).congr (fun s => rfl) (fun s => gJ_end HT.out.1 (.inr EC.out.2) EC.out.1 s)
          clear hJ hjl
          go_wp2
          go_roundw
          case rel => exact ⟨k + 1, by omega, by go_num, NX.out⟩
          case measure => simp [intOf]; omega
    · obtain rfl : k = D.length := by omega
      obtain ⟨b', off, rfl, u0, u1, u2⟩ := (HC.out.below hS.out.bel).at_ h0
      simp only [Nat.zero_mul, Nat.add_zero] at u0 u1 u2
      obtain ⟨c, ec, hc⟩ := HD.out 0 h0
      have c9 := HT.out.2.1 c hc
      have in1 : in64 (cg D 0).cd := by rw [ec]; unfold in64; omega
      have hlook := hS.out.c1.look in1
      have BW : Hid (Below w.heap.size w wr) := B1.out.1.trans (hS.out.bel.mono B1.out.1.size)
      have h0' : (0 : Int) < (D.length : Int) := by omega
      by_cases hall : vN D (cg D 0).cd = D.length
      · have R : Hid (FiP p lv D w (.returned (.tuple #[.int .i64 (cg D 0).cd, .int .i64 1])) wr) := ⟨_, _, rfl, .inl ⟨rfl, hall⟩, in1, BW.out⟩
        rw [show gV D D.length (cg D 0).cd = D.length from hall] at hlook
        clear hS hall hlt ec hc in1 x0 x1
        go_wp2
        go_ret2
        exact R.out
      · have NA := Lib.hid hall
        obtain ⟨m, hm⟩ : ∃ m, gV D D.length (cg D 0).cd = m := ⟨_, rfl⟩
        have hm1 : ¬ (m : Int) = (D.length : Int) := fun e => NA.out (by show gV D D.length (cg D 0).cd = _; omega)
        have hm2 : ((m : Int) == (D.length : Int)) = false := by rw [beq_eq_false_iff_ne]; exact hm1
        rw [hm] at hlook
        have K1 := Lib.hid (majority_c bp bl lv W1.heap.size (9 * D.length) (ctF (gV D D.length)) D.length wr (HL.out.below hS.out.bel) hS.out.c1 (small_V HD.out HT.out.2.1 hn) hn HT.out.1.zero)
        have K2 := Lib.hid (fun W (hb : Below wr.heap.size wr W) => majority_c bp bl lv (W1.heap.size + 1) (9 * D.length) (ctF (gU p lv D D.length)) D.length W (HL.out.below (hS.out.bel.trans (hb.mono hS.out.bel.size))) (hS.out.keep hb).c2 (small_U HT.out.1 HD.out HT.out.2.1 hn) hn HT.out.1.zero)
        have hws : Hid (w.heap.size < wr.heap.size) := Nat.lt_of_lt_of_le hwb.out hS.out.bel.size
        clear hS hall hlt ec hc in1 hm
        go_wp2_with fail
        (with_reducible refine K1.out.mono ?_)
        rintro e W2 ⟨d, d9, rfl, hmj, b2⟩
        have FM := Lib.hid (fin_maj HT.out.1 HD.out h0 NA.out hmj)
        have z0 := (b2.cell (p := ⟨w.heap.size, 0, none⟩) hws.out).trans x0
        have z1 := (b2.cell (p := ⟨w.heap.size, 1, none⟩) hws.out).trans x1
        have B2 := Lib.hid b2
        clear hmj b2 hlook x0 x1 u0 u1 u2
        by_cases hd : d = 0
        · subst hd
          have NM := Lib.hid (FM.out.2 rfl)
          have K3 := Lib.hid (K2.out W2 B2.out)
          go_wp2_with fail
          (with_reducible refine K3.out.mono ?_)
          rintro e W3 ⟨d, d9, rfl, hmj, b3⟩
          have FA := Lib.hid (fin_abv HT.out.1 HD.out NM.out hmj)
          have B3 : Hid (Below w.heap.size w W3) := BW.out.trans ((B2.out.trans (b3.mono B2.out.size)).mono BW.out.size)
          clear hmj b3 z0 z1
          by_cases hd : d = 0
          · subst hd
            have R : Hid (FiP p lv D w (.returned (.tuple #[.int .i64 0, .int .i64 4])) W3) := ⟨_, _, rfl, FA.out.2 rfl, by unfold in64; omega, B3.out⟩
            go_wp2
            go_ret2
            exact R.out
          · have R : Hid (FiP p lv D w (.returned (.tuple #[.int .i64 (d : Nat), .int .i64 3])) W3) := ⟨_, _, rfl, FA.out.1 hd, by unfold in64; omega, B3.out⟩
            have hd' : (0 : Int) < (d : Int) := by omega
            clear hd
            go_wp2
            go_ret2
            exact R.out
        · have R : Hid (FiP p lv D w (.returned (.tuple #[.int .i64 (d : Nat), .int .i64 2])) W2) := ⟨_, _, rfl, FM.out.1 hd, by unfold in64; omega, BW.out.trans (B2.out.mono BW.out.size)⟩
          have hd' : (0 : Int) < (d : Int) := by omega
          clear hd
          go_wp2
          go_ret2
          exact R.out
end Go.Proofs.YtgfjbilhgblbeaaDoor
