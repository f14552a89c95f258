/-
  Package code: the cases of a list of codings.
-/
import Derived.Test.YthdmodmplpoejaaDoorCdFin
namespace Go.Proofs.YthdmodmplpoejaaDoor
open Go.RowKit Go.WideMaps Go.Maps

/-- The codings from s on, n of them. -/
def seg (C : List Cg) (s n : Nat) : List Cg := (List.range n).map fun i => cg C (s + i)
theorem seg_len (C : List Cg) (s n : Nat) : (seg C s n).length = n := by unfold seg; simp
theorem seg_at {C : List Cg} {s n i : Nat} (h : i < n) : cg (seg C s n) i = cg C (s + i) := by
  unfold seg
  rw [cg, List.getD, List.getElem?_map, List.getElem?_range h]
  rfl
theorem seg_succ (C : List Cg) (s n : Nat) : seg C s (n + 1) = seg C s n ++ [cg C (s + n)] := by
  unfold seg
  rw [List.range_succ, List.map_append]
  rfl
/-- A case begins at k. -/
def New (C : List Cg) (k : Nat) : Prop := k = 0 ∨ (cg C k).ca ≠ (cg C (k - 1)).ca
instance (C : List Cg) (k : Nat) : Decidable (New C k) := by unfold New; infer_instance
/-- Where the case of coding k begins. -/
def beg (C : List Cg) : Nat → Nat
  | 0 => 0
  | k + 1 => if New C (k + 1) then k + 1 else beg C k
/-- The cases that begin among the first k, all but the last one of them. -/
def cas (C : List Cg) : Nat → List (List Cg)
  | 0 => []
  | k + 1 => if New C (k + 1) then cas C k ++ [seg C (beg C k) (k + 1 - beg C k)] else cas C k
/-- All cases. -/
def cases_ (C : List Cg) : List (List Cg) := if C.length = 0 then [] else cas C (C.length - 1) ++ [seg C (beg C (C.length - 1)) (C.length - beg C (C.length - 1))]
theorem beg_le (C : List Cg) : ∀ k, beg C k ≤ k
  | 0 => Nat.le_refl _
  | k + 1 => by have := beg_le C k; unfold beg; split <;> omega
theorem beg_new {C : List Cg} {k : Nat} (h : New C (k + 1)) : beg C (k + 1) = k + 1 := by unfold beg; rw [if_pos h]
theorem beg_old {C : List Cg} {k : Nat} (h : ¬ New C (k + 1)) : beg C (k + 1) = beg C k := by rw [beg, if_neg h]
theorem cas_new {C : List Cg} {k : Nat} (h : New C (k + 1)) : cas C (k + 1) = cas C k ++ [seg C (beg C k) (k + 1 - beg C k)] := by rw [cas, if_pos h]
theorem cas_old {C : List Cg} {k : Nat} (h : ¬ New C (k + 1)) : cas C (k + 1) = cas C k := by rw [cas, if_neg h]
theorem cas_len (C : List Cg) : ∀ k, (cas C k).length ≤ k
  | 0 => Nat.le_refl _
  | k + 1 => by
    have := cas_len C k
    unfold cas
    split
    · rw [List.length_append]; simp; exact this
    · omega
theorem cases_len (C : List Cg) : (cases_ C).length ≤ C.length := by
  unfold cases_
  split
  · simp
  · have := cas_len C (C.length - 1)
    rw [List.length_append]; simp; omega
/-- Each case has codings, and they are some of C. -/
theorem cas_all (C : List Cg) : ∀ k, k < C.length → ∀ D ∈ cas C k, 0 < D.length ∧ ∃ s, s + D.length ≤ C.length ∧ D = seg C s D.length
  | 0, _, D, h => by simp [cas] at h
  | k + 1, hk, D, h => by
    unfold cas at h
    split at h
    · rw [List.mem_append] at h
      rcases h with h | h
      · exact cas_all C k (by omega) D h
      · simp at h
        have := beg_le C k
        subst h
        rw [seg_len]
        exact ⟨by omega, beg C k, by omega, rfl⟩
    · exact cas_all C k (by omega) D h
theorem cases_all {C : List Cg} {D : List Cg} (h : D ∈ cases_ C) : 0 < D.length ∧ ∃ s, s + D.length ≤ C.length ∧ D = seg C s D.length := by
  unfold cases_ at h
  split at h
  · simp at h
  · have := beg_le C (C.length - 1)
    rw [List.mem_append] at h
    rcases h with h | h
    · exact cas_all C _ (by omega) D h
    · simp at h
      subst h
      rw [seg_len]
      exact ⟨by omega, _, by omega, rfl⟩
def rn (R : List (List Cg)) (j : Nat) : List Cg := R.getD j []
/-- A slice of slices of codings. -/
def RdR (w : World) (a : Option Addr) (R : List (List Cg)) : Prop :=
  ∀ j, j < R.length → ∃ g a' c', a = some ⟨g, 0, none⟩ ∧ g < w.heap.size ∧ w.cell? ⟨g, j, none⟩ = some (.slice a' (rn R j).length c') ∧ RdC w a' (rn R j)
/-- A row of the call's own of slices of codings, which read in the world w0. -/
def OwnR (w0 w : World) (B : Nat) (v : Value) (R : List (List Cg)) : Prop :=
  ∃ xs : List Value, w.ownsRow B 35 1 v R.length xs ∧ ∀ j, j < R.length → ∃ a c, xs[j]? = some (.slice a (rn R j).length c) ∧ RdC w0 a (rn R j)
theorem rn_snoc {R : List (List Cg)} {D : List Cg} {j : Nat} (h : j < (R ++ [D]).length) : (j < R.length ∧ rn (R ++ [D]) j = rn R j) ∨ (j = R.length ∧ rn (R ++ [D]) j = D) := by
  unfold rn
  rw [List.length_append] at h
  by_cases e : j < R.length
  · exact .inl ⟨e, by rw [List.getD, List.getD, List.getElem?_append_left e]⟩
  · have : j = R.length := by simp at h; omega
    subst this
    exact .inr ⟨rfl, by rw [List.getD, List.getElem?_append_right (Nat.le_refl _)]; simp⟩
theorem OwnR.nil_ (w0 w : World) (B : Nat) : OwnR w0 w B (.slice none 0 0) [] := ⟨[], World.ownsRow_nil _ _ _ _, fun j h => by simp at h⟩
theorem own_slice {w : World} {B : Nat} {e : TypeId} {size : Nat} {v : Value} {n : Nat} {xs : List Value} (h : w.ownsRow B e size v n xs) : ∃ a c, v = .slice a n c := by
  rcases h.2 with ⟨rfl, h0⟩ | ⟨g, cap, cur, rfl, _⟩
  · exact ⟨none, 0, by rw [h0]⟩
  · exact ⟨_, _, rfl⟩
theorem OwnR.rd {w0 w : World} {B : Nat} {v : Value} {R : List (List Cg)} (h : OwnR w0 w B v R) (hb : Below w0.heap.size w0 w) : ∃ a c, v = .slice a R.length c ∧ RdR w a R := by
  obtain ⟨xs, ho, hx⟩ := h
  obtain ⟨a, c, rfl⟩ := own_slice ho
  refine ⟨a, c, rfl, fun j hj => ?_⟩
  obtain ⟨a', c', e, hr⟩ := hx j hj
  rcases ho.2 with ⟨e1, e2⟩ | ⟨g, cap, cur, e1, _⟩
  · omega
  · injection e1 with e1
    subst e1
    have := ho.cells (g := g) rfl j _ e
    rw [show (⟨g, 0, none⟩ : Addr).add j = ⟨g, j, none⟩ by rw [add_at, Nat.zero_add]] at this
    exact ⟨g, a', c', rfl, (ho.lt g rfl).2, this, hr.below hb⟩
theorem OwnR.snoc {w0 w' : World} {B : Nat} {v' : Value} {R : List (List Cg)} {D : List Cg} {a : Option Addr} {c : Nat} {xs : List Value}
    (hx : ∀ j, j < R.length → ∃ a c, xs[j]? = some (.slice a (rn R j).length c) ∧ RdC w0 a (rn R j)) (hl : xs.length = R.length)
    (ho : w'.ownsRow B 35 1 v' (R.length + 1) (xs ++ [.slice a D.length c])) (hD : RdC w0 a D) : OwnR w0 w' B v' (R ++ [D]) := by
  refine ⟨_, by rw [List.length_append]; exact ho, fun j hj => ?_⟩
  rcases rn_snoc hj with ⟨h1, h2⟩ | ⟨h1, h2⟩
  · obtain ⟨a', c', e, hr⟩ := hx j h1
    rw [h2]
    exact ⟨a', c', by rw [List.getElem?_append_left (by omega)]; exact e, hr⟩
  · subst h1
    rw [h2]
    exact ⟨a, c, by rw [← hl, List.getElem?_append_right (Nat.le_refl _)]; simp, hD⟩
/-- A part of the codings. -/
theorem RdC.part {w : World} {b off : Nat} {C : List Cg} {s n : Nat} (h : RdC w (some ⟨b, off, none⟩) C) (hs : s + n ≤ C.length) : RdC w (some ⟨b, off + s * 3, none⟩) (seg C s n) := by
  refine ⟨by rw [seg_len]; have := h.1; omega, fun h0 => ?_⟩
  rw [seg_len] at h0
  obtain ⟨b', off', e, hl, hc⟩ := h.2 (by omega)
  injection e with e
  injection e with e1 e2
  subst e1; subst e2
  refine ⟨b, off + s * 3, rfl, hl, fun j hj => ?_⟩
  rw [seg_len] at hj
  rw [seg_at hj]
  have := hc (s + j) (by omega)
  rw [show off + s * 3 + j * 3 = off + (s + j) * 3 by omega]
  exact this
theorem infoS : (Tryd.prog.info? 35).map (fun i => (i.zero, i.size, i.bytes)) = some (some (.slice none 0 0), 1, 24) := by kernel_rfl
end Go.Proofs.YthdmodmplpoejaaDoor
