/-
  The keys of groupBy's map, sorted.
-/
import Derived.Test.YtkppfceogknlkaaDoorFrmSorted
import Derived.Test.YtkppfceogknlkaaDoorFrmBase
import Derived.Lib.SlKeysI
namespace Go.Proofs.YtkppfceogknlkaaDoor
open Go.RowKit Go.WideMaps Go.Maps Go.Lib

section
variable {κ : Type} [Inhabited κ] [DecidableEq κ] (le : κ → κ → Bool)
theorem gk_nodup (tr : ∀ a b c, le a b = true → le b c = true → le a c = true) (to : ∀ a b, (le a b || le b a) = true) (anti : ∀ a b, le a b = true → le b a = true → a = b) (key : Int → κ) (ps : List Int) : (gk le key ps).Nodup :=
  compact_nodup le anti (List.pairwise_mergeSort tr to _) (fun a => by have := to a a; simpa using this)
theorem gk_mem {key : Int → κ} {ps : List Int} {x : κ} : x ∈ gk le key ps ↔ ∃ i, i < ps.length ∧ key (ps.getD i 0) = x := by
  unfold gk
  rw [mem_compact, List.mem_mergeSort, List.mem_map]
  constructor
  · rintro ⟨z, hz, h2⟩
    obtain ⟨i, hi, rfl⟩ := List.mem_iff_getElem.1 hz
    exact ⟨i, hi, by rw [List.getD, List.getElem?_eq_getElem hi]; simpa using h2⟩
  · rintro ⟨i, h1, h2⟩
    exact ⟨ps.getD i 0, by rw [List.getD, List.getElem?_eq_getElem h1]; simp, h2⟩
/-- Any permutation of the keys sorts to them. -/
theorem gk_sort (tr : ∀ a b c, le a b = true → le b c = true → le a c = true) (to : ∀ a b, (le a b || le b a) = true) (anti : ∀ a b, le a b = true → le b a = true → a = b) {key : Int → κ} {ps : List Int} {ss : List κ} (h : ss.Perm (gk le key ps)) : ss.mergeSort le = gk le key ps := by
  have hs : (gk le key ps).Pairwise (fun a b => le a b = true) := (List.pairwise_mergeSort tr to (ps.map key)).sublist (compact_sub _)
  exact List.Perm.eq_of_pairwise (le := fun a b => le a b = true) (fun a b _ _ => anti a b) (List.pairwise_mergeSort tr to ss) hs ((List.mergeSort_perm ss le).trans h)
end
def keyS (l : List Un) : Int → List UInt8 := fun z => sk (un l z.toNat)
def keyI (l : List Un) : Int → Int := fun z => (un l z.toNat).cl
theorem keysS_perm {R : Value → Option (DataW Unit × List MemPlace)} {w : World} {b n : Nat} {l : List Un} {ps : List Int} (hown : w.ownsMap Tryd.prog 9 R b n (gd Lit.string (fun i => keyS l (ps.getD i 0)) (fun i => ps.getD i 0) ps.length)) :
    (gk leS (keyS l) ps).Perm (strKeys (gd (H := Unit) Lit.string (fun i => keyS l (ps.getD i 0)) (fun i => ps.getD i 0) ps.length)) :=
  Collected.perm (left := fun _ => false) ⟨gk_nodup leS leB_tr leB_to leB_anti _ _, fun x => by rw [gk_mem, gd_has keysS]; simp⟩ hown (string_keyed Tryd.underlying9) Tryd.underlying9 (fun _ => rfl)
theorem keysI_perm {R : Value → Option (DataW Unit × List MemPlace)} {w : World} {b n : Nat} {l : List Un} {ps : List Int} (hown : w.ownsMap Tryd.prog 3 R b n (gd (Lit.int .i64) (fun i => keyI l (ps.getD i 0)) (fun i => ps.getD i 0) ps.length)) :
    (gk leN (keyI l) ps).Perm (intKeys (gd (H := Unit) (Lit.int .i64) (fun i => keyI l (ps.getD i 0)) (fun i => ps.getD i 0) ps.length)) :=
  CollectedI.perm (left := fun _ => false) ⟨gk_nodup leN leI_tr leI_to leI_anti _ _, fun x => by rw [gk_mem, gd_has keysI]; simp⟩ hown (int_keyed Tryd.underlying3) Tryd.underlying3 (fun _ => rfl)
end Go.Proofs.YtkppfceogknlkaaDoor
