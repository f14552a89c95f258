/-
  EditPlansMatchSpec: the text of a plan.
-/
import Derived.Test.YtpoaikbedcfgaaaDoorEdBuild
namespace Go.Proofs.YtpoaikbedcfgaaaDoor

/-- The line of a field. -/
def fT (f : Fd) : List UInt8 := [102, 105, 101, 108, 100, 32] ++ f.nm.data.toList ++ [32] ++ cT f.cs ++ [32, 119, 101, 105, 103, 104, 116, 32] ++ Lib.itoa f.wt ++ [10]
def fTs (l : List Fd) : Nat → List UInt8
  | 0 => []
  | k + 1 => fTs l k ++ fT (fd l k)
/-- The parts of an edit's line. -/
def pT (l : List Fd) (L : List (List Int)) (i : Nat) : List UInt8 := [32] ++ (fd l i).nm.data.toList ++ [32] ++ cT (st L i)
def pTs (l : List Fd) (L : List (List Int)) : Nat → List (List UInt8)
  | 0 => []
  | k + 1 => if (st L k).length < (fd l k).cs.length then pTs l L k ++ [pT l L k] else pTs l L k
def sT (l : List Fd) (L : List (List Int)) : List UInt8 := Lib.join (pTs l L l.length) [59]
def eT (l : List Fd) (e : Ed) : List UInt8 := [101, 100, 105, 116, 32] ++ e.nm.data.toList ++ [58] ++ sT l e.ss ++ [10]
def eTs (l : List Fd) (E : List Ed) : Nat → List UInt8
  | 0 => []
  | k + 1 => eTs l E k ++ eT l (ed E k)
/-- A field that is good. -/
structure Gf (f : Fd) : Prop where
  nm : f.nm.size ≤ 16
  cs : Cod f.cs
  wt : 1 ≤ f.wt ∧ f.wt ≤ 1000
theorem name_le {s : ByteArray} (h : nameS s = true) : s.size ≤ 16 := by
  unfold nameS at h
  simp only [Bool.and_eq_true, decide_eq_true_eq] at h
  exact h.1.1.1.2
theorem nm_zero {ns : Nat → ByteArray} {s : ByteArray} {k : Nat} (h : nmE ns s k = 0) : nameS s = true := by
  unfold nmE at h
  by_cases e : nameS s = false
  · rw [if_pos e] at h; exact absurd h (by decide)
  · simpa using e
theorem inc_ok {ok : Int → Bool} {l : List Int} (h : incS ok l = 0) {j : Nat} (hj : j < l.length) : ok (fn l j) = true := by
  have e := fe_zero h j hj
  unfold stepE at e
  by_cases c : ok (fn l j) = false
  · rw [if_pos c] at e; exact absurd e (by decide)
  · simpa using c
theorem codes_cod {l : List Int} (h : codesS l = 0) : Cod l := by
  have hb := codes_le h
  unfold codesS at h
  rw [if_neg (by omega), if_neg (by omega)] at h
  exact ⟨hb.1, hb.2, fun j hj => by simpa [okC] using inc_ok h hj⟩
theorem fd_good {l : List Fd} {k : Nat} (h : fdE l k = 0) : Gf (fd l k) := by
  unfold fdE at h
  split at h
  · exact absurd h ‹_›
  · rename_i h1
    split at h
    · exact absurd h ‹_›
    · rename_i h2
      refine ⟨name_le (nm_zero (by simpa using h1)), codes_cod (by simpa using h2), ?_⟩
      unfold wtE at h
      by_cases a : (fd l k).wt < 1
      · rw [if_pos a] at h; exact absurd h (by decide)
      · rw [if_neg a] at h
        by_cases b : 1000 < (fd l k).wt
        · rw [if_pos b] at h; exact absurd h (by decide)
        · omega
theorem size_list (s : ByteArray) : s.data.toList.length = s.size := by cases s; rfl
theorem fT_le {f : Fd} (h : Gf f) : (fT f).length ≤ 560 := by
  have h1 := h.nm
  have h2 := h.cs.size
  have h3 := Lib.itoa_length_le f.wt (by have := h.wt; omega) (by have := h.wt; omega)
  have h4 := size_list f.nm
  unfold fT
  simp only [List.length_append, List.length_cons, List.length_nil]
  omega
theorem fTs_le {l : List Fd} : ∀ {k : Nat}, (∀ i, i < k → Gf (fd l i)) → (fTs l k).length ≤ 560 * k
  | 0, _ => by simp [fTs]
  | k + 1, h => by
    have h1 := fTs_le (k := k) fun i hi => h i (by omega)
    have h2 := fT_le (h k (by omega))
    unfold fTs
    rw [List.length_append]
    omega
theorem plan_good {l : List Fd} {E : List Ed} (h : planS l E = 0) : (l.length ≤ 12 ∧ ∀ i, i < l.length → Gf (fd l i)) ∧ E.length ≤ 60 ∧ ∀ k, k < E.length → edE l E k = 0 := by
  unfold planS at h
  by_cases a : fdsS l = 0
  · rw [if_neg (by simpa using a)] at h
    have hb := fds_codes a
    have hfe : fe (fdE l) l.length = 0 := by
      unfold fdsS at a
      rw [if_neg (by omega), if_neg (by omega)] at a
      exact a
    split at h
    · exact absurd h (by decide)
    split at h
    · exact absurd h (by decide)
    · exact ⟨⟨hb.1, fun i hi => fd_good (fe_zero hfe i hi)⟩, by omega, fun k hk => fe_zero h k hk⟩
  · rw [if_pos (by simpa using a)] at h; exact absurd h a
theorem ed_good {l : List Fd} {E : List Ed} {k : Nat} (h : edE l E k = 0) : (ed E k).nm.size ≤ 16 ∧ (ed E k).ss.length = l.length ∧ ∀ i, i < (ed E k).ss.length → 0 < (st (ed E k).ss i).length ∧ ∀ j, j < (st (ed E k).ss i).length → inC (fd l i).cs (fn (st (ed E k).ss i) j) = true := by
  unfold edE at h
  split at h
  · exact absurd h ‹_›
  · rename_i h1
    split at h
    · exact absurd h (by decide)
    · rename_i h2
      refine ⟨name_le (nm_zero (by simpa using h1)), by simpa using h2, fun i hi => ?_⟩
      have e := fe_zero h i hi
      unfold setE at e
      split at e
      · exact absurd e (by decide)
      · exact ⟨by omega, fun j hj => inc_ok e hj⟩
end Go.Proofs.YtpoaikbedcfgaaaDoor
