/-
  Package code: final.
-/
import Derived.Test.YthdmodmplpoejaaDoorCdMaj
import Derived.Test.YthdmodmplpoejaaDoorCdFin
import Derived.Test.YthdmodmplpoejaaDoorCdRuns
namespace Go.Proofs.YthdmodmplpoejaaDoor
open Go.RowKit Go.WideMaps Go.Maps

/-- Block b counts: g says how often. -/
def ctF (g : Int → Nat) : Int → Option Int := fun s => if g s = 0 then none else some (g s : Int)
def CtIs (w : World) (b n : Nat) (g : Int → Nat) : Prop := NuIs w b n (ctF g)
theorem CtIs.look {w : World} {b n : Nat} {g : Int → Nat} (h : CtIs w b n g) {s : Int} (hs : in64 s) :
    (Instr.lookup 98 (.map (some b)) (.int .i64 s) false).run Tryd.prog w = .ok (.int .i64 (g s : Nat)) w := by
  rw [NuIs.look h hs]
  unfold ctF
  by_cases e : g s = 0
  · rw [if_pos e, e]; rfl
  · rw [if_neg e]; rfl
theorem CtIs.store {w : World} {b n : Nat} {g : Int → Nat} (h : CtIs w b n g) (hn : n < maxLen) {s : Int} (hs : in64 s) :
    ∃ w', (Instr.mapUpdate 98 (.map (some b)) (.int .i64 s) (.int .i64 ((g s : Int) + 1))).run Tryd.prog w = .ok () w' ∧ CtIs w' b (n + 1) (fun x => if x = s then g s + 1 else g x) ∧ w.grownBy w' (some b) := by
  obtain ⟨w', h1, h2, h3⟩ := NuIs.store h hn hs ((g s : Int) + 1)
  refine ⟨w', h1, MapIs.congr h2 fun x => ?_, h3⟩
  unfold ctF
  by_cases e : x = s
  · subst e; simp
  · simp [e]
theorem CtIs.congr {w : World} {b n : Nat} {g g' : Int → Nat} (h : CtIs w b n g) (e : ∀ s, g s = g' s) : CtIs w b n g' := by
  have : g = g' := funext e
  rw [← this]; exact h
/-- Two maps of counts, behind the world W1. -/
structure InF (W1 wr : World) (b1 b2 n : Nat) (g1 g2 : Int → Nat) : Prop where
  c1 : CtIs wr b1 n g1
  c2 : CtIs wr b2 n g2
  bel : Below W1.heap.size W1 wr
  lo : W1.heap.size ≤ b1
  lt : b1 < b2
  le : b2 < wr.heap.size
theorem InF.keep {W1 wr W : World} {b1 b2 n : Nat} {g1 g2 : Int → Nat} (h : InF W1 wr b1 b2 n g1 g2) (hb : Below wr.heap.size wr W) : InF W1 W b1 b2 n g1 g2 :=
  ⟨MapIs.below h.c1 hb (MapIs.lt h.c1), MapIs.below h.c2 hb (MapIs.lt h.c2), h.bel.trans (hb.mono h.bel.size), h.lo, h.lt, Nat.lt_of_lt_of_le h.le hb.size⟩
theorem InF.more {W1 wr : World} {b1 b2 n m : Nat} {g1 g2 : Int → Nat} (h : InF W1 wr b1 b2 n g1 g2) (hm : n ≤ m) : InF W1 wr b1 b2 m g1 g2 := { h with c1 := NuIs.more h.c1 hm, c2 := NuIs.more h.c2 hm }
theorem InF.congr {W1 wr : World} {b1 b2 n : Nat} {g1 g2 g1' g2' : Int → Nat} (h : InF W1 wr b1 b2 n g1 g2) (e1 : ∀ s, g1 s = g1' s) (e2 : ∀ s, g2 s = g2' s) : InF W1 wr b1 b2 n g1' g2' := { h with c1 := h.c1.congr e1, c2 := h.c2.congr e2 }
theorem InF.store1 {W1 wr : World} {b1 b2 n : Nat} {g1 g2 : Int → Nat} (h : InF W1 wr b1 b2 n g1 g2) (hn : n < maxLen) {s : Int} (hs : in64 s) :
    ∃ W, (Instr.mapUpdate 98 (.map (some b1)) (.int .i64 s) (.int .i64 ((g1 s : Int) + 1))).run Tryd.prog wr = .ok () W ∧ InF W1 W b1 b2 (n + 1) (fun x => if x = s then g1 s + 1 else g1 x) g2 ∧ wr.grownBy W (some b1) := by
  obtain ⟨W, e, h2, h3⟩ := h.c1.store hn hs
  have lo := h.lo
  have lt := h.lt
  exact ⟨W, e, ⟨h2, NuIs.more (MapIs.kept h.c2 h3 (by intro e; injection e with e; omega)) (Nat.le_succ _), h.bel.grown h3 h.bel.size (fun j hj => by cases hj; omega), h.lo, h.lt, Nat.lt_of_lt_of_le h.le h3.size⟩, h3⟩
theorem InF.store2 {W1 wr : World} {b1 b2 n : Nat} {g1 g2 : Int → Nat} (h : InF W1 wr b1 b2 n g1 g2) (hn : n < maxLen) {s : Int} (hs : in64 s) :
    ∃ W, (Instr.mapUpdate 98 (.map (some b2)) (.int .i64 s) (.int .i64 ((g2 s : Int) + 1))).run Tryd.prog wr = .ok () W ∧ InF W1 W b1 b2 (n + 1) g1 (fun x => if x = s then g2 s + 1 else g2 x) ∧ wr.grownBy W (some b2) := by
  obtain ⟨W, e, h2, h3⟩ := h.c2.store hn hs
  have lo := h.lo
  have lt := h.lt
  exact ⟨W, e, ⟨NuIs.more (MapIs.kept h.c1 h3 (by intro e; injection e with e; omega)) (Nat.le_succ _), h2, h.bel.grown h3 h.bel.size (fun j hj => by cases hj; omega), h.lo, h.lt, Nat.lt_of_lt_of_le h.le h3.size⟩, h3⟩
theorem InF.made (W1 : World) : InF W1 ((W1.alloc (.map #[] 0)).alloc (.map #[] 0)) W1.heap.size (W1.heap.size + 1) 0 (fun _ => 0) (fun _ => 0) := by
  have e1 : (W1.alloc (.map #[] 0)).heap.size = W1.heap.size + 1 := by simp
  refine ⟨?_, ?_, ?_, Nat.le_refl _, Nat.lt_succ_self _, by simp⟩
  · exact MapIs.below ((MapIs.made W1).congr fun s => rfl) (bel_one _ _) (by simp)
  · have := MapIs.made (W1.alloc (.map #[] 0))
    rw [e1] at this
    exact this.congr fun s => rfl
  · exact (bel_one _ _).trans ((bel_one _ _).mono (by simp))
/-- The counts of the first k codings. -/
def gV (D : List Cg) (k : Nat) (s : Int) : Nat := cn (vP D s) k
def gU (p lv : Nat → Nat) (D : List Cg) (k : Nat) (s : Int) : Nat := cn (uP p lv D s) k
theorem gV_next {D : List Cg} {k : Nat} (s : Int) : (if s = (cg D k).cd then gV D k (cg D k).cd + 1 else gV D k s) = gV D (k + 1) s := by
  unfold gV
  by_cases e : s = (cg D k).cd
  · subst e
    rw [if_pos rfl, cn, if_pos (by unfold vP; exact decide_eq_true rfl)]
  · rw [if_neg e, cn, if_neg (by unfold vP; exact fun h => e (of_decide_eq_true h).symm), Nat.add_zero]
/-- .. and of a part of the path of coding k. -/
def gJ (p lv : Nat → Nat) (D : List Cg) (k c j : Nat) (s : Int) : Nat := gU p lv D k s + (pth p c j).count s
theorem gJ_next {p lv : Nat → Nat} {D : List Cg} {k c j : Nat} {x : Int} (hx : x = ((it p j c : Nat) : Int)) (s : Int) : (if s = x then gJ p lv D k c j x + 1 else gJ p lv D k c j s) = gJ p lv D k c (j + 1) s := by
  unfold gJ
  rw [pth_succ, List.count_append, ← hx]
  by_cases e : s = x
  · subst e; simp [Nat.add_assoc]
  · rw [if_neg e]
    have : List.count s [x] = 0 := by rw [List.count_eq_zero]; simp; exact e
    rw [this]
    omega
theorem gJ_end {p lv : Nat → Nat} {H : Nat → Prop} (T : Tree p lv H) {D : List Cg} {k c : Nat} (hc : In H c) (e : (cg D k).cd = (c : Int)) (s : Int) : gJ p lv D k c (lv c) s = gU p lv D (k + 1) s := by
  unfold gJ gU
  rw [pth_count T hc s (Nat.le_refl _), cn]
  unfold uP
  rw [e, Int.toNat_natCast]
  by_cases h : s ∈ pth p c (lv c) <;> simp [h]
def FiP (p lv : Nat → Nat) (D : List Cg) (w : World) (e : Ending) (w' : World) : Prop := ∃ c y : Int, e = .returned (.tuple #[.int .i64 c, .int .i64 y]) ∧ IsFin p lv D c y ∧ in64 c ∧ Below w.heap.size w w'
theorem small_V {H : Nat → Prop} {D : List Cg} (hD : HasD H D) (h9 : ∀ c, H c → c ≤ 999) (hn : D.length ≤ 20000) : Small (ctF (gV D D.length)) := by
  intro s x h
  unfold ctF at h
  split at h
  · cases h
  · injection h with h
    have hle := cn_le (vP D s) D.length
    obtain ⟨j, hj, hP⟩ := cn_pos (P := vP D s) (k := D.length) (by unfold gV at *; omega)
    have hP := of_decide_eq_true hP
    obtain ⟨c, e, hc⟩ := hD j hj
    have := h9 c hc
    unfold gV at h
    omega
theorem small_U {p lv : Nat → Nat} {H : Nat → Prop} (T : Tree p lv H) {D : List Cg} (hD : HasD H D) (h9 : ∀ c, H c → c ≤ 999) (hn : D.length ≤ 20000) : Small (ctF (gU p lv D D.length)) := by
  intro s x h
  unfold ctF at h
  split at h
  · cases h
  · injection h with h
    have hle := cn_le (uP p lv D s) D.length
    obtain ⟨j, hj, hP⟩ := cn_pos (P := uP p lv D s) (k := D.length) (by unfold gU at *; omega)
    have hP := of_decide_eq_true hP
    obtain ⟨c, e, hc⟩ := hD j hj
    rw [e, Int.toNat_natCast, pth_mem] at hP
    obtain ⟨i, hi, e2⟩ := hP
    have : In H (it p i c) := T.inIt (.inr hc)
    have : it p i c ≤ 999 := by
      rcases this with h | h
      · omega
      · exact h9 _ h
    unfold gU at h
    omega
/-- What the two majorities say. -/
theorem fin_maj {p lv : Nat → Nat} {H : Nat → Prop} (T : Tree p lv H) {D : List Cg} (hD : HasD H D) (hn : 0 < D.length) (h1 : vN D (cg D 0).cd ≠ D.length) {c : Nat} (h : IsMaj lv (ctF (gV D D.length)) D.length c) :
    (c ≠ 0 → IsFin p lv D c 2) ∧ (c = 0 → (∀ s, ¬ D.length < 2 * vN D s)) := by
  have all : ∀ s, vN D s ≠ D.length := fun s e => by
    have := of_decide_eq_true (cn_all e 0 hn)
    rw [this] at h1
    exact h1 e
  refine ⟨fun hc => ?_, fun hc s hs => ?_⟩
  · rcases h.1 with h0 | ⟨x, hx, h2, _⟩
    · exact absurd h0 hc
    · refine .inr (.inl ⟨rfl, all _, ?_⟩)
      unfold ctF at hx
      split at hx
      · cases hx
      · injection hx with hx
        have : vN D (c : Int) = gV D D.length c := rfl
        omega
  · have e : vN D s = gV D D.length s := rfl
    have h0 : gV D D.length s ≠ 0 := by omega
    have := h.2 s (gV D D.length s) (by unfold ctF; rw [if_neg h0]) (by omega)
    rw [hc, T.zero] at this
    obtain ⟨j, hj, hP⟩ := cn_pos (P := vP D s) (k := D.length) (by unfold gV at h0; omega)
    have hP := of_decide_eq_true hP
    obtain ⟨d, e, hd⟩ := hD j hj
    have e3 : s.toNat = d := by omega
    rw [e3] at this
    have := (T.pos d hd).2.1
    omega
theorem fin_abv {p lv : Nat → Nat} {H : Nat → Prop} (T : Tree p lv H) {D : List Cg} (hD : HasD H D) (h1 : ∀ s, ¬ D.length < 2 * vN D s) {c : Nat} (h : IsMaj lv (ctF (gU p lv D D.length)) D.length c) :
    (c ≠ 0 → IsFin p lv D c 3) ∧ (c = 0 → IsFin p lv D 0 4) := by
  have up : ∀ s, D.length < 2 * uN p lv D s → lv s.toNat ≤ lv c := fun s hs => by
    have e : uN p lv D s = gU p lv D D.length s := rfl
    have h0 : gU p lv D D.length s ≠ 0 := by omega
    exact h.2 s (gU p lv D D.length s) (by unfold ctF; rw [if_neg h0]) (by omega)
  refine ⟨fun hc => ?_, fun hc => .inr (.inr (.inr ⟨rfl, rfl, fun s hs => ?_⟩))⟩
  · rcases h.1 with h0 | ⟨x, hx, h2, _⟩
    · exact absurd h0 hc
    · refine .inr (.inr (.inl ⟨rfl, h1, ?_, up⟩))
      unfold ctF at hx
      split at hx
      · cases hx
      · injection hx with hx
        have : uN p lv D (c : Int) = gU p lv D D.length c := rfl
        omega
  · have := up s hs
    rw [hc, T.zero] at this
    obtain ⟨j, hj, hP⟩ := cn_pos (P := uP p lv D s) (k := D.length) (by unfold uN at hs; omega)
    have hP := of_decide_eq_true hP
    obtain ⟨d, e, hd⟩ := hD j hj
    rw [e, Int.toNat_natCast, pth_mem] at hP
    obtain ⟨i, hi, e2⟩ := hP
    have e3 : s.toNat = it p i d := by omega
    rw [e3, T.lvIt (.inr hd)] at this
    omega
end Go.Proofs.YthdmodmplpoejaaDoor
