/-
  SampleFramesMatchSpec: what groupBy, CheckFrame and Strata give, of lists.
-/
import Derived.Test.YtkppfceogknlkaaDoorFrmGrp
namespace Go.Proofs.YtkppfceogknlkaaDoor
open Go.Lib

/-- A unit. -/
structure Un where
  id : Int
  st : ByteArray
  cl : Int
  sz : Int
def un0 : Un := ⟨0, ⟨#[]⟩, 0, 0⟩
def un (l : List Un) (j : Nat) : Un := l.getD j un0
/-- The bytes of a unit's stratum. -/
def sk (u : Un) : List UInt8 := u.st.data.toList
def leS (x y : List UInt8) : Bool := decide (x ≤ y)
def leN (x y : Int) : Bool := decide (x ≤ y)
section
variable {κ : Type} [Inhabited κ] [DecidableEq κ] (le : κ → κ → Bool)
/-- The keys of groupBy, in order. -/
def gk (key : Int → κ) (ps : List Int) : List κ := compact ((ps.map key).mergeSort le)
/-- The places of a key. -/
def gp (key : Int → κ) (ps : List Int) (x : κ) : List Int := ps.filter (fun z => decide (key z = x))
theorem gk_len_le (key : Int → κ) (ps : List Int) : (gk le key ps).length ≤ ps.length := by
  have h := (compact_sub ((ps.map key).mergeSort le)).length_le
  unfold gk
  simpa using h
/-- The keys are any list of what the places' keys are, each once, sorted. -/
theorem gk_is (tr : ∀ a b c, le a b = true → le b c = true → le a c = true) (to : ∀ a b, (le a b || le b a) = true) (anti : ∀ a b, le a b = true → le b a = true → a = b)
    {key : Int → κ} {ps : List Int} {ks : List κ} (hn : ks.Nodup) (hm : ∀ x, x ∈ ks ↔ ∃ i, i < ps.length ∧ key (ps.getD i 0) = x) : gk le key ps = ks.mergeSort le := by
  unfold gk
  refine compact_sorted le tr to anti hn fun x => ?_
  rw [hm]
  simp only [List.mem_map]
  constructor
  · rintro ⟨i, h1, h2⟩
    exact ⟨ps.getD i 0, by rw [List.getD, List.getElem?_eq_getElem h1]; simp, h2⟩
  · rintro ⟨z, hz, h2⟩
    obtain ⟨i, hi, rfl⟩ := List.mem_iff_getElem.1 hz
    exact ⟨i, hi, by rw [List.getD, List.getElem?_eq_getElem hi]; simpa using h2⟩
end
/-- The places of a frame. -/
def places (n : Nat) : List Int := (List.range n).map Int.ofNat
theorem places_len (n : Nat) : (places n).length = n := by simp [places]
/-- The strata in order. -/
def strN (l : List Un) : List (List UInt8) := compact ((l.map sk).mergeSort leS)
/-- The units of a stratum. -/
def ownU (l : List Un) (x : List UInt8) : List Un := l.filter (fun u => decide (sk u = x))
/-- The clusters of some units, in order. -/
def cluN (l : List Un) : List Int := compact ((l.map (·.cl)).mergeSort leN)
def sumZ (l : List Un) : Int := (l.map (·.sz)).sum
theorem map_places {β : Type} (l : List Un) (f : Un → β) : (places l.length).map (fun z => f (un l z.toNat)) = l.map f := by
  apply List.ext_getElem
  · simp [places]
  · intro i h1 h2
    have hi : i < l.length := by simpa using h2
    simp [places, un, List.getD, List.getElem?_eq_getElem hi]
theorem strN_is (l : List Un) : gk leS (fun z => sk (un l z.toNat)) (places l.length) = strN l := by
  unfold gk strN
  rw [map_places]
theorem own_is (l : List Un) (x : List UInt8) : (gp (fun z => sk (un l z.toNat)) (places l.length) x).map (fun z => un l z.toNat) = ownU l x := by
  unfold gp ownU
  have h := map_places l id
  rw [List.map_id] at h
  simp only [id] at h
  conv => rhs; rw [← h]
  rw [List.filter_map]
  rfl
theorem own_len (l : List Un) (x : List UInt8) : (gp (fun z => sk (un l z.toNat)) (places l.length) x).length = (ownU l x).length := by
  rw [← own_is, List.length_map]
theorem clu_is (l : List Un) (ps : List Int) : gk leN (fun z => (un l z.toNat).cl) ps = cluN (ps.map fun z => un l z.toNat) := by
  unfold gk cluN
  rw [List.map_map]
  rfl
theorem sum_is (l : List Un) (ps : List Int) : (ps.map fun z => (un l z.toNat).sz).sum = sumZ (ps.map fun z => un l z.toNat) := by
  unfold sumZ
  rw [List.map_map]
  rfl
end Go.Proofs.YtkppfceogknlkaaDoor
