/-
  The texts of expressions, as plain lists of bytes: words, rows of the table, what stands in brackets.
-/
import Derived.Test.YtcdifmnakppfkaaGreatDoorDaysMath
import Derived.Lib.Join
namespace Go.Proofs.YtcdifmnakppfkaaGreatDoor

def opWL : List (List UInt8) := [[], [110, 111, 116], [97, 110, 100], [111, 114], [61], [60, 62], [60], [60, 61], [62], [62, 61], [105, 110], [104, 97, 115], [97, 110, 115, 119, 101, 114, 101, 100], [97, 115, 107, 101, 100], [114, 101, 97, 115, 111, 110], [43], [45], [42], [47], [109, 111, 100], [45], [97, 98, 115], [102, 108, 111, 111, 114], [114, 111, 117, 110, 100], [109, 105, 110], [109, 97, 120], [105, 102], [101, 108, 115, 101], [115, 105, 122, 101], [99, 111, 100, 101], [108, 111, 119, 101, 114], [106, 111, 105, 110], [98, 101, 103, 105, 110, 115], [104, 111, 108, 100, 115], [121, 101, 97, 114], [109, 111, 110, 116, 104], [100, 97, 121], [100, 97, 121, 115], [97, 103, 101], [108, 97, 116, 101, 114]]
def overWL : List (List UInt8) := [[], [115, 117, 109], [99, 111, 117, 110, 116], [97, 110, 121], [97, 108, 108], [108, 101, 97, 115, 116], [109, 111, 115, 116]]
def opW (o : Nat) : List UInt8 := opWL.getD o []
def overW (o : Nat) : List UInt8 := overWL.getD o []
theorem opW_len (o : Nat) : (opW o).length ≤ 8 := by
  by_cases h : o < 40
  · have : ∀ o : Fin 40, (opW o).length ≤ 8 := by decide +kernel
    exact this ⟨o, h⟩
  · unfold opW; rw [List.getD_eq_getElem?_getD, List.getElem?_eq_none (by simp [opWL]; omega)]; simp
theorem overW_len (o : Nat) : (overW o).length ≤ 8 := by
  by_cases h : o < 7
  · have : ∀ o : Fin 7, (overW o).length ≤ 8 := by decide +kernel
    exact this ⟨o, h⟩
  · unfold overW; rw [List.getD_eq_getElem?_getD, List.getElem?_eq_none (by simp [overWL]; omega)]; simp

/-- The row of the table in which a part stands. -/
def rowS (k o : Int) : Int := if k ≠ 4 then 8 else if o = 3 then 1 else if o = 2 then 2 else if o = 1 then 3 else if 4 ≤ o ∧ o ≤ 11 then 4 else if o = 15 ∨ o = 16 then 5 else if 17 ≤ o ∧ o ≤ 19 then 6 else if o = 20 then 7 else 8
theorem rowS_ge (k o : Int) : 1 ≤ rowS k o ∧ rowS k o ≤ 8 := by
  unfold rowS; repeat (split <;> try omega)

/-- The text of a part without brackets, its row, and whether it is a Number that is not below 0. -/
structure Tx where
  t : List UInt8
  row : Int
  pos : Bool
instance : Inhabited Tx := ⟨⟨[], 8, false⟩⟩
def paren (t : List UInt8) : List UInt8 := 40 :: (t ++ [41])
def Tx.put (x : Tx) (least : Int) : List UInt8 := if x.row < least then paren x.t else x.t
theorem put_len (x : Tx) (least : Int) : (x.put least).length ≤ x.t.length + 2 := by
  unfold Tx.put; split <;> simp [paren]
def Tx.opp (x : Tx) : List UInt8 := if x.pos then paren x.t else x.put 7
theorem opp_len (x : Tx) : x.opp.length ≤ x.t.length + 2 := by
  unfold Tx.opp; split
  · simp [paren]
  · exact put_len x 7
def joinX (xs : List Tx) (least : Int) (sep : List UInt8) : List UInt8 := Lib.join (xs.map (·.put least)) sep
/-- The text of an operation. -/
def opT (o : Nat) (xs : List Tx) : List UInt8 :=
  let r := rowS 4 o
  if r = 1 ∨ r = 2 then joinX xs (r + 1) (32 :: (opW o ++ [32]))
  else if r = 3 then opW o ++ (32 :: (xs.getD 0 default).put 3)
  else if r = 4 then joinX xs 5 (32 :: (opW o ++ [32]))
  else if r = 5 ∨ r = 6 then (xs.getD 0 default).put r ++ (32 :: (opW o ++ (32 :: (xs.getD 1 default).put (r + 1))))
  else if r = 7 then opW o ++ (xs.getD 0 default).opp
  else opW o ++ (40 :: (joinX xs 1 [44, 32] ++ [41]))
def overT (o : Nat) (nm : List UInt8) (xs : List Tx) : List UInt8 := overW o ++ (40 :: (nm ++ (58 :: 32 :: ((xs.getD 0 default).put 1 ++ [41]))))
def rowT (nm : List UInt8) : List UInt8 := [114, 111, 119, 40] ++ (nm ++ [41])

def total (xs : List Tx) : Nat := (xs.map fun x => x.t.length + 20).sum
theorem total_cons (x : Tx) (xs : List Tx) : total (x :: xs) = x.t.length + 20 + total xs := by simp [total]
theorem getD_total (xs : List Tx) (i : Nat) : ((xs.getD i default).t).length ≤ total xs := by
  induction xs generalizing i with
  | nil => simp [default]
  | cons x r ih =>
    rw [total_cons]
    cases i with
    | zero => simp; omega
    | succ i => have := ih i; simp only [List.getD_cons_succ]; omega
theorem two_total (xs : List Tx) : ((xs.getD 0 default).t).length + ((xs.getD 1 default).t).length ≤ total xs := by
  cases xs with
  | nil => simp [default]
  | cons x r =>
    rw [total_cons]
    have := getD_total r 0
    simp only [List.getD_cons_zero, List.getD_cons_succ]; omega
theorem joinX_len (xs : List Tx) (least : Int) (sep : List UInt8) (h : sep.length ≤ 10) : (joinX xs least sep).length ≤ total xs := by
  unfold joinX
  cases xs with
  | nil => simp [Lib.join_nil, total]
  | cons x r =>
    rw [List.map_cons, Lib.join_length]
    have key : ∀ ys : List Tx, Lib.lens (ys.map (·.put least)) + ys.length * sep.length ≤ total ys := by
      intro ys
      induction ys with
      | nil => simp [Lib.lens, total]
      | cons y ys ih =>
        rw [total_cons]
        have := put_len y least
        simp only [List.map_cons, Lib.lens, List.sum_cons, List.length_cons] at ih ⊢
        rw [Nat.add_mul]; omega
    have h1 := key (x :: r)
    simp only [List.map_cons, List.length_cons, List.length_map] at h1 ⊢
    have h2 : (r.length + 1) * sep.length = r.length * sep.length + sep.length := by rw [Nat.add_mul]; omega
    have h3 : sep.length * r.length = r.length * sep.length := Nat.mul_comm _ _
    first | omega | (simp only [Nat.add_sub_cancel] at *; omega)
theorem opT_len (o : Nat) (xs : List Tx) : (opT o xs).length ≤ total xs + 40 := by
  have h8 := opW_len o
  have h0 := put_len (xs.getD 0 default)
  have h1 := put_len (xs.getD 1 default)
  have ho := opp_len (xs.getD 0 default)
  have h2 := two_total xs
  have hj := fun least sep h => joinX_len xs least sep h
  unfold opT
  simp only
  split
  · have := hj (rowS 4 ↑o + 1) (32 :: (opW o ++ [32])) (by simp only [List.length_append, List.length_cons, List.length_nil]; omega); omega
  split
  · have := h0 3; simp only [List.length_append, List.length_cons, List.length_nil]; omega
  split
  · have := hj 5 (32 :: (opW o ++ [32])) (by simp only [List.length_append, List.length_cons, List.length_nil]; omega); omega
  split
  · have := h0 (rowS 4 ↑o); have := h1 (rowS 4 ↑o + 1); simp only [List.length_append, List.length_cons, List.length_nil]; omega
  split
  · simp only [List.length_append]; omega
  · have := hj 1 [44, 32] (by simp); simp only [List.length_append, List.length_cons, List.length_nil]; omega
theorem overT_len (o : Nat) (nm : List UInt8) (xs : List Tx) (h : nm.length ≤ 16) : (overT o nm xs).length ≤ total xs + 40 := by
  have h8 := overW_len o
  have h0 := put_len (xs.getD 0 default) 1
  have h2 := getD_total xs 0
  unfold overT; simp only [List.length_append, List.length_cons, List.length_nil]; omega
end Go.Proofs.YtcdifmnakppfkaaGreatDoor
