/-
  Package code: final.
  Package code: final, the walk.
  Package code: casesOf.
  Package code: Finals.
-/
import Derived.Test.YtheekfijbbgbkaaGreatDoorTS08
import Derived.Test.YtheekfijbbgbkaaGreatDoorTS05
namespace Go.Proofs.YtheekfijbbgbkaaGreatDoor
open Go.RowKit Go.WideMaps Go.Maps

/-- Block b counts: g says how often. -/
def ctF (g : Int → Nat) : Int → Option Int := fun s => if g s = 0 then none else some (g s : Int)
def CtIs (w : World) (b n : Nat) (g : Int → Nat) : Prop := NuIs w b n (ctF g)
theorem CtIs.congr {w : World} {b n : Nat} {g g' : Int → Nat} (h : CtIs w b n g) (e : ∀ s, g s = g' s) : CtIs w b n g' := by
  have : g = g' := funext e
  rw [← this]; exact h
/-- Two maps of counts, behind the world W1. -/
structure InF (W1 wr : World) (b1 b2 n : Nat) (g1 g2 : Int → Nat) : Prop where
  c1 : CtIs wr b1 n g1
  c2 : CtIs wr b2 n g2
  bel : Below W1.heap.size W1 wr
  lo : W1.heap.size ≤ b1
  lt : b1 < b2
  le : b2 < wr.heap.size
theorem InF.keep {W1 wr W : World} {b1 b2 n : Nat} {g1 g2 : Int → Nat} (h : InF W1 wr b1 b2 n g1 g2) (hb : Below wr.heap.size wr W) : InF W1 W b1 b2 n g1 g2 :=
  ⟨MapIs.below h.c1 hb (MapIs.lt h.c1), MapIs.below h.c2 hb (MapIs.lt h.c2), h.bel.trans (hb.mono h.bel.size), h.lo, h.lt, Nat.lt_of_lt_of_le h.le hb.size⟩
theorem InF.more {W1 wr : World} {b1 b2 n m : Nat} {g1 g2 : Int → Nat} (h : InF W1 wr b1 b2 n g1 g2) (hm : n ≤ m) : InF W1 wr b1 b2 m g1 g2 := { h with c1 := NuIs.more h.c1 hm, c2 := NuIs.more h.c2 hm }
theorem InF.congr {W1 wr : World} {b1 b2 n : Nat} {g1 g2 g1' g2' : Int → Nat} (h : InF W1 wr b1 b2 n g1 g2) (e1 : ∀ s, g1 s = g1' s) (e2 : ∀ s, g2 s = g2' s) : InF W1 wr b1 b2 n g1' g2' := { h with c1 := h.c1.congr e1, c2 := h.c2.congr e2 }
theorem InF.made (W1 : World) : InF W1 ((W1.alloc (.map #[] 0)).alloc (.map #[] 0)) W1.heap.size (W1.heap.size + 1) 0 (fun _ => 0) (fun _ => 0) := by
  have e1 : (W1.alloc (.map #[] 0)).heap.size = W1.heap.size + 1 := by simp
  refine ⟨?_, ?_, ?_, Nat.le_refl _, Nat.lt_succ_self _, by simp⟩
  · exact MapIs.below ((MapIs.made W1).congr fun s => rfl) (bel_one _ _) (by simp)
  · have := MapIs.made (W1.alloc (.map #[] 0))
    rw [e1] at this
    exact this.congr fun s => rfl
  · exact (bel_one _ _).trans ((bel_one _ _).mono (by simp))
/-- The counts of the first k codings. -/
def gV (D : List Cg) (k : Nat) (s : Int) : Nat := cn (vP D s) k
def gU (p lv : Nat → Nat) (D : List Cg) (k : Nat) (s : Int) : Nat := cn (uP p lv D s) k
theorem gV_next {D : List Cg} {k : Nat} (s : Int) : (if s = (cg D k).cd then gV D k (cg D k).cd + 1 else gV D k s) = gV D (k + 1) s := by
  unfold gV
  by_cases e : s = (cg D k).cd
  · subst e
    rw [if_pos rfl, cn, if_pos (by unfold vP; exact decide_eq_true rfl)]
  · rw [if_neg e, cn, if_neg (by unfold vP; exact fun h => e (of_decide_eq_true h).symm), Nat.add_zero]
/-- .. and of a part of the path of coding k. -/
def gJ (p lv : Nat → Nat) (D : List Cg) (k c j : Nat) (s : Int) : Nat := gU p lv D k s + (pth p c j).count s
theorem gJ_next {p lv : Nat → Nat} {D : List Cg} {k c j : Nat} {x : Int} (hx : x = ((it p j c : Nat) : Int)) (s : Int) : (if s = x then gJ p lv D k c j x + 1 else gJ p lv D k c j s) = gJ p lv D k c (j + 1) s := by
  unfold gJ
  rw [pth_succ, List.count_append, ← hx]
  by_cases e : s = x
  · subst e; simp [Nat.add_assoc]
  · rw [if_neg e]
    have : List.count s [x] = 0 := by rw [List.count_eq_zero]; simp; exact e
    rw [this]
    omega
theorem gJ_end {p lv : Nat → Nat} {H : Nat → Prop} (T : Tree p lv H) {D : List Cg} {k c : Nat} (hc : In H c) (e : (cg D k).cd = (c : Int)) (s : Int) : gJ p lv D k c (lv c) s = gU p lv D (k + 1) s := by
  unfold gJ gU
  rw [pth_count T hc s (Nat.le_refl _), cn]
  unfold uP
  rw [e, Int.toNat_natCast]
  by_cases h : s ∈ pth p c (lv c) <;> simp [h]
def FiP (p lv : Nat → Nat) (D : List Cg) (w : World) (e : Ending) (w' : World) : Prop := ∃ c y : Int, e = .returned (.tuple #[.int .i64 c, .int .i64 y]) ∧ IsFin p lv D c y ∧ in64 c ∧ Below w.heap.size w w'
theorem small_V {H : Nat → Prop} {D : List Cg} (hD : HasD H D) (h9 : ∀ c, H c → c ≤ 999) (hn : D.length ≤ 20000) : Small (ctF (gV D D.length)) := by
  intro s x h
  unfold ctF at h
  split at h
  · cases h
  · injection h with h
    have hle := cn_le (vP D s) D.length
    obtain ⟨j, hj, hP⟩ := cn_pos (P := vP D s) (k := D.length) (by unfold gV at *; omega)
    have hP := of_decide_eq_true hP
    obtain ⟨c, e, hc⟩ := hD j hj
    have := h9 c hc
    unfold gV at h
    omega
theorem small_U {p lv : Nat → Nat} {H : Nat → Prop} (T : Tree p lv H) {D : List Cg} (hD : HasD H D) (h9 : ∀ c, H c → c ≤ 999) (hn : D.length ≤ 20000) : Small (ctF (gU p lv D D.length)) := by
  intro s x h
  unfold ctF at h
  split at h
  · cases h
  · injection h with h
    have hle := cn_le (uP p lv D s) D.length
    obtain ⟨j, hj, hP⟩ := cn_pos (P := uP p lv D s) (k := D.length) (by unfold gU at *; omega)
    have hP := of_decide_eq_true hP
    obtain ⟨c, e, hc⟩ := hD j hj
    rw [e, Int.toNat_natCast, pth_mem] at hP
    obtain ⟨i, hi, e2⟩ := hP
    have : In H (it p i c) := T.inIt (.inr hc)
    have : it p i c ≤ 999 := by
      rcases this with h | h
      · omega
      · exact h9 _ h
    unfold gU at h
    omega
/-- What the two majorities say. -/
theorem fin_maj {p lv : Nat → Nat} {H : Nat → Prop} (T : Tree p lv H) {D : List Cg} (hD : HasD H D) (hn : 0 < D.length) (h1 : vN D (cg D 0).cd ≠ D.length) {c : Nat} (h : IsMaj lv (ctF (gV D D.length)) D.length c) :
    (c ≠ 0 → IsFin p lv D c 2) ∧ (c = 0 → (∀ s, ¬ D.length < 2 * vN D s)) := by
  have all : ∀ s, vN D s ≠ D.length := fun s e => by
    have := of_decide_eq_true (cn_all e 0 hn)
    rw [this] at h1
    exact h1 e
  refine ⟨fun hc => ?_, fun hc s hs => ?_⟩
  · rcases h.1 with h0 | ⟨x, hx, h2, _⟩
    · exact absurd h0 hc
    · refine .inr (.inl ⟨rfl, all _, ?_⟩)
      unfold ctF at hx
      split at hx
      · cases hx
      · injection hx with hx
        have : vN D (c : Int) = gV D D.length c := rfl
        omega
  · have e : vN D s = gV D D.length s := rfl
    have h0 : gV D D.length s ≠ 0 := by omega
    have := h.2 s (gV D D.length s) (by unfold ctF; rw [if_neg h0]) (by omega)
    rw [hc, T.zero] at this
    obtain ⟨j, hj, hP⟩ := cn_pos (P := vP D s) (k := D.length) (by unfold gV at h0; omega)
    have hP := of_decide_eq_true hP
    obtain ⟨d, e, hd⟩ := hD j hj
    have e3 : s.toNat = d := by omega
    rw [e3] at this
    have := (T.pos d hd).2.1
    omega
theorem fin_abv {p lv : Nat → Nat} {H : Nat → Prop} (T : Tree p lv H) {D : List Cg} (hD : HasD H D) (h1 : ∀ s, ¬ D.length < 2 * vN D s) {c : Nat} (h : IsMaj lv (ctF (gU p lv D D.length)) D.length c) :
    (c ≠ 0 → IsFin p lv D c 3) ∧ (c = 0 → IsFin p lv D 0 4) := by
  have up : ∀ s, D.length < 2 * uN p lv D s → lv s.toNat ≤ lv c := fun s hs => by
    have e : uN p lv D s = gU p lv D D.length s := rfl
    have h0 : gU p lv D D.length s ≠ 0 := by omega
    exact h.2 s (gU p lv D D.length s) (by unfold ctF; rw [if_neg h0]) (by omega)
  refine ⟨fun hc => ?_, fun hc => .inr (.inr (.inr ⟨rfl, rfl, fun s hs => ?_⟩))⟩
  · rcases h.1 with h0 | ⟨x, hx, h2, _⟩
    · exact absurd h0 hc
    · refine .inr (.inr (.inl ⟨rfl, h1, ?_, up⟩))
      unfold ctF at hx
      split at hx
      · cases hx
      · injection hx with hx
        have : uN p lv D (c : Int) = gU p lv D D.length c := rfl
        omega
  · have := up s hs
    rw [hc, T.zero] at this
    obtain ⟨j, hj, hP⟩ := cn_pos (P := uP p lv D s) (k := D.length) (by unfold uN at hs; omega)
    have hP := of_decide_eq_true hP
    obtain ⟨d, e, hd⟩ := hD j hj
    rw [e, Int.toNat_natCast, pth_mem] at hP
    obtain ⟨i, hi, e2⟩ := hP
    have e3 : s.toNat = it p i d := by omega
    rw [e3, T.lvIt (.inr hd)] at this
    omega
end Go.Proofs.YtheekfijbbgbkaaGreatDoor
namespace Go.Proofs.YtheekfijbbgbkaaGreatDoor
open Go.RowKit Go.WideMaps Go.Maps

end Go.Proofs.YtheekfijbbgbkaaGreatDoor
namespace Go.Proofs.YtheekfijbbgbkaaGreatDoor
open Go.RowKit Go.WideMaps Go.Maps

/-- What has been given out ahead of coding k. -/
def outK (C : List Cg) (k : Nat) : List (List Cg) := if k < C.length then cas C k else cases_ C
def begK (C : List Cg) (k : Nat) : Nat := if k < C.length then beg C k else C.length
def CsP (C : List Cg) (w : World) (e : Ending) (w' : World) : Prop := ∃ a c, e = .returned (.slice a (cases_ C).length c) ∧ RdR w' a (cases_ C) ∧ Below w.heap.size w w'
theorem outK_in {C : List Cg} {k : Nat} (h : k < C.length) : outK C k = cas C k ∧ begK C k = beg C k := by
  unfold outK begK
  rw [if_pos h, if_pos h]
  exact ⟨rfl, rfl⟩
theorem out_last {C : List Cg} {k : Nat} (h : k + 1 = C.length) : outK C (k + 1) = outK C k ++ [seg C (begK C k) (k + 1 - begK C k)] ∧ begK C (k + 1) = k + 1 := by
  have h1 := outK_in (C := C) (k := k) (by omega)
  rw [h1.1, h1.2]
  unfold outK begK
  rw [if_neg (by omega), if_neg (by omega)]
  unfold cases_
  rw [if_neg (by omega), ← h, Nat.add_sub_cancel]
  exact ⟨rfl, rfl⟩
theorem out_new {C : List Cg} {k : Nat} (h : k + 1 < C.length) (hn : (cg C (k + 1)).ca ≠ (cg C k).ca) : outK C (k + 1) = outK C k ++ [seg C (begK C k) (k + 1 - begK C k)] ∧ begK C (k + 1) = k + 1 := by
  have hN : New C (k + 1) := .inr hn
  have h1 := outK_in (C := C) (k := k) (by omega)
  have h2 := outK_in h
  rw [h1.1, h1.2, h2.1, h2.2, cas_new hN, beg_new hN]
  exact ⟨rfl, rfl⟩
theorem out_old {C : List Cg} {k : Nat} (h : k + 1 < C.length) (hn : (cg C (k + 1)).ca = (cg C k).ca) : outK C (k + 1) = outK C k ∧ begK C (k + 1) = begK C k := by
  have hN : ¬ New C (k + 1) := fun h => by rcases h with h | h; omega; exact h hn
  have h1 := outK_in (C := C) (k := k) (by omega)
  have h2 := outK_in h
  rw [h1.1, h1.2, h2.1, h2.2, cas_old hN, beg_old hN]
  exact ⟨rfl, rfl⟩
theorem begK_le {C : List Cg} {k : Nat} (h : k < C.length) : begK C k ≤ k := by unfold begK; rw [if_pos h]; exact beg_le C k
theorem outK_len {C : List Cg} {k : Nat} (h : k < C.length) : (outK C k).length ≤ k := by unfold outK; rw [if_pos h]; exact cas_len C k
end Go.Proofs.YtheekfijbbgbkaaGreatDoor
namespace Go.Proofs.YtheekfijbbgbkaaGreatDoor
open Go.RowKit Go.WideMaps Go.Maps

/-- What the first k cases come to: case, code and way. -/
def Res (l : List Nd) (C : List Cg) (R : List Cg) : Prop :=
  ∀ j, j < R.length → (cg R j).ca = (cg (rn (cases_ C) j) 0).ca ∧ IsFin (par l) (lev l) (rn (cases_ C) j) (cg R j).co (cg R j).cd
def FnP (l : List Nd) (C : List Cg) (w : World) (e : Ending) (w' : World) : Prop :=
  (forS l C = 0 ∧ ∃ a c R, e = .returned (.tuple #[.slice a (cases_ C).length c, .int .i64 0]) ∧ R.length = (cases_ C).length ∧ Res l C R ∧ RdC w' a R ∧ Below w.heap.size w w') ∨
  (forS l C ≠ 0 ∧ e = .returned (.tuple #[.slice none 0 0, .int .i64 (forS l C)]) ∧ Below w.heap.size w w')
theorem cg_snoc {R : List Cg} {u : Cg} {j : Nat} (h : j < (R ++ [u]).length) : (j < R.length ∧ cg (R ++ [u]) j = cg R j) ∨ (j = R.length ∧ cg (R ++ [u]) j = u) := by
  unfold cg
  rw [List.length_append] at h
  by_cases e : j < R.length
  · exact .inl ⟨e, by rw [List.getD, List.getD, List.getElem?_append_left e]⟩
  · have : j = R.length := by simp at h; omega
    subst this
    exact .inr ⟨rfl, by rw [List.getD, List.getElem?_append_right (Nat.le_refl _)]; simp⟩
theorem Res.snoc {l : List Nd} {C R : List Cg} (h : Res l C R) {u : Cg} (h1 : u.ca = (cg (rn (cases_ C) R.length) 0).ca) (h2 : IsFin (par l) (lev l) (rn (cases_ C) R.length) u.co u.cd) : Res l C (R ++ [u]) := by
  intro j hj
  rcases cg_snoc hj with ⟨e1, e2⟩ | ⟨e1, e2⟩
  · rw [e2]; exact h j e1
  · subst e1
    rw [e2]; exact ⟨h1, h2⟩
theorem rn_in {R : List (List Cg)} {j : Nat} (h : j < R.length) : rn R j ∈ R := by
  unfold rn
  rw [List.getD, List.getElem?_eq_getElem h]
  exact List.getElem_mem h
/-- A case: it has codings, all of the frame. -/
theorem case_has {l : List Nd} {C : List Cg} (hcs : ∀ k, k < C.length → ∃ c : Nat, (cg C k).cd = c ∧ Has l c) {j : Nat} (h : j < (cases_ C).length) : 0 < (rn (cases_ C) j).length ∧ (rn (cases_ C) j).length ≤ C.length ∧ HasD (Has l) (rn (cases_ C) j) := by
  obtain ⟨h1, s, h2, h3⟩ := cases_all (rn_in h)
  refine ⟨h1, by omega, fun i hi => ?_⟩
  rw [h3, seg_at (by rw [h3, seg_len] at hi; exact hi)]
  exact hcs _ (by omega)
theorem rdT_own {w : World} {T : TypeId} {B : Nat} {v : Value} {C : List Cg} (h : w.ownsRow B T 3 v C.length (crow C)) (hn : C.length ≤ 9223372036854775807) : ∃ a c, v = .slice a C.length c ∧ RdC w a C := by
  obtain ⟨a, c, rfl⟩ := own_slice h
  refine ⟨a, c, rfl, hn, fun h0 => ?_⟩
  rcases h.2 with ⟨_, e2⟩ | ⟨g, cap, cur, e1, _⟩
  · omega
  · injection e1 with e1
    subst e1
    refine ⟨g, 0, rfl, (h.lt g rfl).2, fun j hj => ?_⟩
    have hc := h.cells (g := g) rfl
    have at3 : ∀ i, i < 3 → w.cell? ⟨g, j * 3 + i, none⟩ = (ccells (cg C j))[i]? := fun i hi => by
      have e := crow_at C j hj i hi
      have hlt : i < (ccells (cg C j)).length := hi
      rw [List.getElem?_eq_getElem hlt] at e
      have := hc _ _ e
      rw [add_at, Nat.zero_add] at this
      rw [this, List.getElem?_eq_getElem hlt]
    rw [Nat.zero_add]
    exact ⟨at3 0 (by omega), at3 1 (by omega), at3 2 (by omega)⟩
end Go.Proofs.YtheekfijbbgbkaaGreatDoor
