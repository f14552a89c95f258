/-
  EditPlansMatchSpec: the sets of an edit are no longer than the codes of their fields; how long the texts are.
-/
import Derived.Test.YtpoaikbedcfgaaaDoorEdSets
namespace Go.Proofs.YtpoaikbedcfgaaaDoor

theorem inc_lt {ok : Int → Bool} {l : List Int} (h : incS ok l = 0) {j : Nat} (hj : j + 1 < l.length) : fn l j < fn l (j + 1) := by
  have e := fe_zero h (j + 1) hj
  unfold stepE at e
  by_cases c : ok (fn l (j + 1)) = false
  · rw [if_pos c] at e; exact absurd e (by decide)
  · rw [if_neg c] at e
    by_cases d : j + 1 ≠ 0 ∧ fn l (j + 1) ≤ fn l (j + 1 - 1)
    · rw [if_pos d] at e; exact absurd e (by decide)
    · have : ¬ fn l (j + 1) ≤ fn l j := fun h => d ⟨by omega, h⟩
      omega
theorem inc_le {ok : Int → Bool} {l : List Int} (h : incS ok l = 0) {p : Nat} (hp : p < l.length) : ∀ d, d ≤ p → fn l (p - d) ≤ fn l p
  | 0, _ => by simp
  | d + 1, hd => by
    have h1 := inc_le h hp d (by omega)
    have h2 := inc_lt h (j := p - (d + 1)) (by omega)
    rw [show p - (d + 1) + 1 = p - d by omega] at h2
    omega
theorem fn_mem {l : List Int} {x : Int} (h : inC l x = true) : ∃ p, p < l.length ∧ fn l p = x := by
  unfold inC at h
  have h1 : x ∈ l := by simpa using h
  obtain ⟨p, hp, e⟩ := List.getElem_of_mem h1
  exact ⟨p, hp, by unfold fn; simp [List.getD, List.getElem?_eq_getElem hp, e]⟩
theorem sub_at {ok ok' : Int → Bool} {cs s : List Int} (hc : incS ok cs = 0) (hs : incS ok' s = 0) (hm : ∀ j, j < s.length → inC cs (fn s j) = true) : ∀ j, j < s.length → ∃ p, j ≤ p ∧ p < cs.length ∧ fn cs p = fn s j
  | 0, h => by
    obtain ⟨p, h1, h2⟩ := fn_mem (hm 0 h)
    exact ⟨p, by omega, h1, h2⟩
  | j + 1, h => by
    obtain ⟨p, h0, h1, h2⟩ := sub_at hc hs hm j (by omega)
    obtain ⟨q, h3, h4⟩ := fn_mem (hm (j + 1) h)
    have h5 := inc_lt hs h
    refine ⟨q, ?_, h3, h4⟩
    rcases Nat.lt_or_ge p q with g | g
    · omega
    · have := inc_le hc h1 (p - q) (by omega)
      rw [show p - (p - q) = q by omega, h4, h2] at this
      omega
theorem sub_len {ok ok' : Int → Bool} {cs s : List Int} (hc : incS ok cs = 0) (hs : incS ok' s = 0) (hm : ∀ j, j < s.length → inC cs (fn s j) = true) : s.length ≤ cs.length := by
  rcases Nat.eq_zero_or_pos s.length with h | h
  · omega
  · obtain ⟨p, h1, h2, _⟩ := sub_at hc hs hm (s.length - 1) (by omega)
    omega
theorem codes_inc {l : List Int} (h : codesS l = 0) : incS okC l = 0 := by
  have hb := codes_le h
  unfold codesS at h
  rw [if_neg (by omega), if_neg (by omega)] at h
  exact h
theorem fd_codes {l : List Fd} {k : Nat} (h : fdE l k = 0) : codesS (fd l k).cs = 0 := by
  unfold fdE at h
  split at h
  · exact absurd h ‹_›
  · split at h
    · exact absurd h ‹_›
    · rename_i h2; simpa using h2
theorem plan_codes {l : List Fd} {E : List Ed} (h : planS l E = 0) : ∀ i, i < l.length → codesS (fd l i).cs = 0 := by
  unfold planS at h
  by_cases a : fdsS l = 0
  · have hb := fds_codes a
    have hfe : fe (fdE l) l.length = 0 := by
      unfold fdsS at a
      rw [if_neg (by omega), if_neg (by omega)] at a
      exact a
    exact fun i hi => fd_codes (fe_zero hfe i hi)
  · rw [if_pos (by simpa using a)] at h; exact absurd h a
/-- The sets of a good plan's edits are codes. -/
theorem set_cod {l : List Fd} {E : List Ed} (h : planS l E = 0) {m : Nat} (hm : m < E.length) {i : Nat} (hi : i < l.length) : Cod (st (ed E m).ss i) := by
  have hg := plan_good h
  have he := hg.2.2 m hm
  have hgd := ed_good he
  have hss : i < (ed E m).ss.length := by rw [hgd.2.1]; exact hi
  have hs : incS (inC (fd l i).cs) (st (ed E m).ss i) = 0 := by
    unfold edE at he
    split at he
    · exact absurd he ‹_›
    · split at he
      · exact absurd he (by decide)
      · have e := fe_zero he i hss
        unfold setE at e
        split at e
        · exact absurd e (by decide)
        · exact e
  have hc := codes_inc (plan_codes h i hi)
  have hcod := (hg.1.2 i hi).cs
  have h2 := hgd.2.2 i hss
  refine ⟨h2.1, Nat.le_trans (sub_len hc hs h2.2) hcod.le, fun j hj => ?_⟩
  obtain ⟨p, h3, h4⟩ := fn_mem (h2.2 j hj)
  rw [← h4]
  exact hcod.num p h3
theorem sT_le {l : List Fd} {L : List (List Int)} (h : ∀ i, i < l.length → (fd l i).nm.size ≤ 16 ∧ Cod (st L i)) (h12 : l.length ≤ 12) : (sT l L).length ≤ 7212 := by
  have h1 := lens_le2 600 (pTs l L l.length) (pTs_each h)
  have h2 := pTs_len l L l.length
  unfold sT; omega
theorem eTs_le {l : List Fd} {E : List Ed} (h : planS l E = 0) : ∀ m, m ≤ E.length → (eTs l E m).length ≤ 7300 * m
  | 0, _ => by simp [eTs]
  | m + 1, hm => by
    have h1 := eTs_le h m (by omega)
    have hg := plan_good h
    have h2 := sT_le (l := l) (L := (ed E m).ss) (fun i hi => ⟨(hg.1.2 i hi).nm, set_cod h (by omega) hi⟩) hg.1.1
    have h3 := (ed_good (hg.2.2 m (by omega))).1
    have h4 := size_list (ed E m).nm
    unfold eTs eT
    simp only [List.length_append, List.length_cons, List.length_nil]
    omega
/-- The text of a plan, and Text's answer. -/
def planT (l : List Fd) (E : List Ed) : List UInt8 := fTs l l.length ++ eTs l E E.length
def textS (l : List Fd) (E : List Ed) : List UInt8 × Int := if planS l E ≠ 0 then ([], planS l E) else if 60000 < (planT l E).length then ([], 2) else (planT l E, 0)
end Go.Proofs.YtpoaikbedcfgaaaDoor
