/-
  EditPlansMatchSpec: what CheckPlan gives, of lists.
-/
import Derived.Test.YtpoaikbedcfgaaaDoorFrmName
namespace Go.Proofs.YtpoaikbedcfgaaaDoor

/-- The first error of the first k places. -/
def fe (s : Nat → Int) : Nat → Int
  | 0 => 0
  | k + 1 => if fe s k = 0 then s k else fe s k
theorem fe_next {s : Nat → Int} {k : Nat} (h : fe s k = 0) : fe s (k + 1) = s k := by
  show (if fe s k = 0 then _ else _) = _
  rw [if_pos h]
theorem fe_stays {s : Nat → Int} {k : Nat} (h : fe s k ≠ 0) : ∀ m, fe s (k + m) = fe s k
  | 0 => rfl
  | m + 1 => by
    show (if fe s (k + m) = 0 then _ else fe s (k + m)) = _
    rw [fe_stays h m, if_neg h]
theorem fe_at {s : Nat → Int} {k n : Nat} (hk : k < n) (h0 : fe s k = 0) (h1 : s k ≠ 0) : fe s n = s k := by
  have e := fe_next h0
  have t := fe_stays (s := s) (k := k + 1) (by rw [e]; exact h1) (n - (k + 1))
  rw [show k + 1 + (n - (k + 1)) = n by omega, e] at t
  exact t
theorem fe_zero {s : Nat → Int} : ∀ {n : Nat}, fe s n = 0 → ∀ k, k < n → s k = 0
  | n + 1, h, k, hk => by
    by_cases h0 : fe s n = 0
    · rw [fe_next h0] at h
      by_cases e : k = n
      · rw [e]; exact h
      · exact fe_zero h0 k (by omega)
    · have := fe_stays h0 1
      rw [this] at h
      exact absurd h h0

/-- The error of number k of a list whose numbers ok knows. -/
def stepE (ok : Int → Bool) (l : List Int) (k : Nat) : Int := if ok (fn l k) = false then 1 else if k ≠ 0 ∧ fn l k ≤ fn l (k - 1) then 7 else 0
def incS (ok : Int → Bool) (l : List Int) : Int := fe (stepE ok l) l.length
def okC (c : Int) : Bool := decide (1 ≤ c ∧ c ≤ 999)
def codesS (l : List Int) : Int := if l.length = 0 then 9 else if 20 < l.length then 2 else incS okC l
/-- A field, an edit. -/
structure Fd where
  nm : ByteArray
  cs : List Int
  wt : Int
structure Ed where
  nm : ByteArray
  ss : List (List Int)
def fd0 : Fd := ⟨⟨#[]⟩, [], 0⟩
def fd (l : List Fd) (j : Nat) : Fd := l.getD j fd0
def ed0 : Ed := ⟨⟨#[]⟩, []⟩
def ed (l : List Ed) (j : Nat) : Ed := l.getD j ed0
def st (l : List (List Int)) (j : Nat) : List Int := l.getD j []
/-- One of the first k names is s. -/
def old (ns : Nat → ByteArray) (s : ByteArray) : Nat → Bool
  | 0 => false
  | k + 1 => decide (ns k = s) || old ns s k
theorem old_mem {ns : Nat → ByteArray} {s : ByteArray} : ∀ {k : Nat}, old ns s k = true ↔ ∃ i, i < k ∧ ns i = s
  | 0 => by simp [old]
  | k + 1 => by
    unfold old
    rw [Bool.or_eq_true, old_mem]
    constructor
    · rintro (h | ⟨i, h1, h2⟩)
      · exact ⟨k, by omega, by simpa using h⟩
      · exact ⟨i, by omega, h2⟩
    · rintro ⟨i, h1, h2⟩
      by_cases e : i = k
      · left; simpa [← e] using h2
      · exact Or.inr ⟨i, by omega, h2⟩
/-- The error of name s behind some k names. -/
def nmE (ns : Nat → ByteArray) (s : ByteArray) (k : Nat) : Int := if nameS s = false then 5 else if old ns s k = true then 6 else 0
def wtE (n : Int) : Int := if n < 1 then 1 else if 1000 < n then 1 else 0
/-- The error of field k. -/
def fdE (l : List Fd) (k : Nat) : Int :=
  if nmE (fun i => (fd l i).nm) (fd l k).nm k ≠ 0 then nmE (fun i => (fd l i).nm) (fd l k).nm k
  else if codesS (fd l k).cs ≠ 0 then codesS (fd l k).cs else wtE (fd l k).wt
def fdsS (l : List Fd) : Int := if l.length = 0 then 9 else if 12 < l.length then 2 else fe (fdE l) l.length
/-- The product of the numbers of codes of the first k fields. -/
def mix (l : List Fd) : Nat → Nat
  | 0 => 1
  | k + 1 => mix l k * (fd l k).cs.length
def inC (l : List Int) (c : Int) : Bool := l.contains c
def setE (l : List Fd) (L : List (List Int)) (i : Nat) : Int := if (st L i).length = 0 then 9 else incS (inC (fd l i).cs) (st L i)
/-- The error of edit k. -/
def edE (l : List Fd) (E : List Ed) (k : Nat) : Int :=
  if nmE (fun i => (ed E i).nm) (ed E k).nm k ≠ 0 then nmE (fun i => (ed E i).nm) (ed E k).nm k
  else if (ed E k).ss.length ≠ l.length then 3 else fe (setE l (ed E k).ss) (ed E k).ss.length
def planS (l : List Fd) (E : List Ed) : Int :=
  if fdsS l ≠ 0 then fdsS l else if 20000 < mix l l.length then 2 else if 60 < E.length then 2 else fe (edE l E) E.length
theorem mix_le {l : List Fd} : ∀ {k : Nat}, (∀ i, i < k → (fd l i).cs.length ≤ 20) → mix l k ≤ 20 ^ k
  | 0, _ => Nat.le_refl _
  | k + 1, h => by
    have h1 := mix_le (k := k) fun i hi => h i (by omega)
    have h2 := h k (by omega)
    show mix l k * _ ≤ _
    rw [Nat.pow_succ]
    exact Nat.mul_le_mul h1 h2
theorem codes_le {l : List Int} (h : codesS l = 0) : 0 < l.length ∧ l.length ≤ 20 := by
  unfold codesS at h
  split at h
  · simp at h
  · split at h
    · simp at h
    · omega
theorem fds_codes {l : List Fd} (h : fdsS l = 0) : l.length ≤ 12 ∧ 0 < l.length ∧ ∀ i, i < l.length → 0 < (fd l i).cs.length ∧ (fd l i).cs.length ≤ 20 := by
  unfold fdsS at h
  split at h
  · simp at h
  split at h
  · simp at h
  refine ⟨by omega, by omega, fun i hi => ?_⟩
  have e := fe_zero h i hi
  unfold fdE at e
  split at e
  · exact absurd e ‹_›
  split at e
  · exact absurd e ‹_›
  · exact codes_le (by simpa using ‹¬ codesS _ ≠ 0›)
end Go.Proofs.YtpoaikbedcfgaaaDoor
