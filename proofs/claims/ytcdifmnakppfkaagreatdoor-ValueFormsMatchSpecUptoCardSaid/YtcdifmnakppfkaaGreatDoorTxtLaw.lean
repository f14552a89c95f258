/-
  The length of the text of a value (TxtLaw of the texts: that part of it).
-/
import Derived.Test.YtcdifmnakppfkaaGreatDoorTxtShown
namespace Go.Proofs.YtcdifmnakppfkaaGreatDoor
open Go.RowKit
theorem showT_len {k n : Int} {s : ByteArray} {l : List Int} (h : Good k n s l) : (showT k n s l).length ≤ 10000 := by
  cases h with
  | none => simp [showT]
  | special n a b =>
    simp only [showT, if_true, reasonT]
    split
    · simp
    · split <;> simp
  | number n a b =>
    have h1 := frac_len (n.natAbs % 10000) (by omega)
    have h2 := dec_len (u := n.natAbs / 10000) (by omega)
    simp only [showT, show ¬ ((2 : Int) = 1) by omega, if_false, if_true, Txt.numT, Txt.magT]
    split <;> simp only [List.length_cons, List.length_append] <;> omega
  | text s a b =>
    have h1 := Txt.dbl_len s.data.toList
    rw [← Lib.size_eq] at h1
    simp [showT]; omega
  | choice n a b =>
    have h1 := code_len n (by omega) (by omega)
    simp [showT]; omega
  | choices l a b =>
    have h1 := join_le (l.map Txt.codeT) 100 (by
      intro x hx
      obtain ⟨n, hn, rfl⟩ := List.mem_map.1 hx
      obtain ⟨j, hj, e⟩ := List.getElem_of_mem hn
      have := b j hj
      simp only [List.getD_eq_getElem?_getD, List.getElem?_eq_getElem hj, Option.getD_some, e] at this
      have := code_len n (by omega) (by omega)
      omega)
    rw [List.length_map] at h1
    simp [showT, Txt.setT]; omega
  | day n a b =>
    obtain ⟨y, m, d, hd⟩ := has_date n a b
    have hb := Cal.dim_bd (y : Int) (m : Int)
    have hd' := hd
    obtain ⟨⟨v1, v2, v3, v4⟩, v5, v6, _⟩ := hd'
    have p1 := Txt.pad_len (k := 3) (u := y) (by omega)
    have p2 := Txt.pad_len (k := 1) (u := m) (by omega)
    have p3 := Txt.pad_len (k := 1) (u := d) (by omega)
    simp [showT, dayOf_eq hd, Txt.dayT, p1, p2, p3]
  | bool n a b =>
    simp [showT, boolT]
    split <;> simp

end Go.Proofs.YtcdifmnakppfkaaGreatDoor
