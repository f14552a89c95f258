/-
  resultKind of package value at all operations (made by a program).
-/
import Derived.Test.YtngijlmokhkdjaaDoorTyMost
import Derived.Test.YtngijlmokhkdjaaDoorTyKind
namespace Go.Proofs.YtngijlmokhkdjaaDoor
open Go.RowKit

theorem list_1 {ks : List Int} (h : (ks.length : Int) = 1) : ∃ a, ks = [a] := by
  match ks, h with
  | [a], _ => exact ⟨a, rfl⟩
  | [], h => simp at h
  | _ :: _ :: _, h => simp only [List.length_cons] at h; omega
theorem list_2 {ks : List Int} (h : (ks.length : Int) = 2) : ∃ a b, ks = [a, b] := by
  match ks, h with
  | [a, b], _ => exact ⟨a, b, rfl⟩
  | [], h => simp at h
  | [_], h => simp at h
  | _ :: _ :: _ :: _, h => simp only [List.length_cons] at h; omega
theorem list_3 {ks : List Int} (h : (ks.length : Int) = 3) : ∃ a b c, ks = [a, b, c] := by
  match ks, h with
  | [a, b, c], _ => exact ⟨a, b, c, rfl⟩
  | [], h => simp at h
  | [_], h => simp at h
  | [_, _], h => simp at h
  | _ :: _ :: _ :: _ :: _, h => simp only [List.length_cons] at h; omega
theorem resultKind_c (o : Int) (nm : ByteArray) (vk vn : Int) (vs : ByteArray) (p : Option Addr) (m q : Nat) (a : Option Addr) (n c : Nat) (v : Value) (ks : List Int) (w : World) (h1 : 1 ≤ o) (h2 : o ≤ 39) (hv : IsL w v ks) (hl : leastS o ≤ ks.length) (hm : (ks.length : Int) ≤ mostS o) (hk : ks.length ≤ 1048576) :
    Calls Tryd.prog 47 #[.agg #[.int .i64 4, .int .i64 o, .string nm, .int .i64 vk, .int .i64 vn, .string vs, .slice p m q, .slice a n c], v] w fun e w' => e = .returned (.tuple #[.int .i64 (resK o ks).1, .bool (resK o ks).2]) ∧ Below w.heap.size w w' := by
  have ho : o = 1 ∨ o = 2 ∨ o = 3 ∨ o = 4 ∨ o = 5 ∨ o = 6 ∨ o = 7 ∨ o = 8 ∨ o = 9 ∨ o = 10 ∨ o = 11 ∨ o = 12 ∨ o = 13 ∨ o = 14 ∨ o = 15 ∨ o = 16 ∨ o = 17 ∨ o = 18 ∨ o = 19 ∨ o = 20 ∨ o = 21 ∨ o = 22 ∨ o = 23 ∨ o = 24 ∨ o = 25 ∨ o = 26 ∨ o = 27 ∨ o = 28 ∨ o = 29 ∨ o = 30 ∨ o = 31 ∨ o = 32 ∨ o = 33 ∨ o = 34 ∨ o = 35 ∨ o = 36 ∨ o = 37 ∨ o = 38 ∨ o = 39 := by omega
  clear h1 h2
  rcases ho with rfl | rfl | rfl | rfl | rfl | rfl | rfl | rfl | rfl | rfl | rfl | rfl | rfl | rfl | rfl | rfl | rfl | rfl | rfl | rfl | rfl | rfl | rfl | rfl | rfl | rfl | rfl | rfl | rfl | rfl | rfl | rfl | rfl | rfl | rfl | rfl | rfl | rfl | rfl
  · exact resK_1 nm vk vn vs p m q a n c v ks w hv hk
  · exact resK_2 nm vk vn vs p m q a n c v ks w hv hk
  · exact resK_3 nm vk vn vs p m q a n c v ks w hv hk
  · obtain ⟨x, y, rfl⟩ := list_2 (ks := ks) (by have e1 : leastS 4 = 2 := rfl; have e2 : mostS 4 = 2 := rfl; omega)
    exact resK_4 nm vk vn vs p m q a n c v x y w hv
  · obtain ⟨x, y, rfl⟩ := list_2 (ks := ks) (by have e1 : leastS 5 = 2 := rfl; have e2 : mostS 5 = 2 := rfl; omega)
    exact resK_5 nm vk vn vs p m q a n c v x y w hv
  · exact resK_6 nm vk vn vs p m q a n c v ks w hv hk
  · exact resK_7 nm vk vn vs p m q a n c v ks w hv hk
  · exact resK_8 nm vk vn vs p m q a n c v ks w hv hk
  · exact resK_9 nm vk vn vs p m q a n c v ks w hv hk
  · obtain ⟨x, y, rfl⟩ := list_2 (ks := ks) (by have e1 : leastS 10 = 2 := rfl; have e2 : mostS 10 = 2 := rfl; omega)
    exact resK_10 nm vk vn vs p m q a n c v x y w hv
  · obtain ⟨x, y, rfl⟩ := list_2 (ks := ks) (by have e1 : leastS 11 = 2 := rfl; have e2 : mostS 11 = 2 := rfl; omega)
    exact resK_11 nm vk vn vs p m q a n c v x y w hv
  · exact resK_12 nm vk vn vs p m q a n c v ks w hv
  · exact resK_13 nm vk vn vs p m q a n c v ks w hv
  · exact resK_14 nm vk vn vs p m q a n c v ks w hv
  · exact resK_15 nm vk vn vs p m q a n c v ks w hv hk
  · exact resK_16 nm vk vn vs p m q a n c v ks w hv hk
  · exact resK_17 nm vk vn vs p m q a n c v ks w hv hk
  · exact resK_18 nm vk vn vs p m q a n c v ks w hv hk
  · exact resK_19 nm vk vn vs p m q a n c v ks w hv hk
  · exact resK_20 nm vk vn vs p m q a n c v ks w hv hk
  · exact resK_21 nm vk vn vs p m q a n c v ks w hv hk
  · exact resK_22 nm vk vn vs p m q a n c v ks w hv hk
  · exact resK_23 nm vk vn vs p m q a n c v ks w hv hk
  · exact resK_24 nm vk vn vs p m q a n c v ks w hv hk (by have : leastS 24 = 2 := rfl; omega)
  · exact resK_25 nm vk vn vs p m q a n c v ks w hv hk (by have : leastS 25 = 2 := rfl; omega)
  · obtain ⟨x, y, z, rfl⟩ := list_3 (ks := ks) (by have e1 : leastS 26 = 3 := rfl; have e2 : mostS 26 = 3 := rfl; omega)
    exact resK_26 nm vk vn vs p m q a n c v x y z w hv
  · obtain ⟨x, y, rfl⟩ := list_2 (ks := ks) (by have e1 : leastS 27 = 2 := rfl; have e2 : mostS 27 = 2 := rfl; omega)
    exact resK_27 nm vk vn vs p m q a n c v x y w hv
  · obtain ⟨x, rfl⟩ := list_1 (ks := ks) (by have e1 : leastS 28 = 1 := rfl; have e2 : mostS 28 = 1 := rfl; omega)
    exact resK_28 nm vk vn vs p m q a n c v x w hv
  · obtain ⟨x, rfl⟩ := list_1 (ks := ks) (by have e1 : leastS 29 = 1 := rfl; have e2 : mostS 29 = 1 := rfl; omega)
    exact resK_29 nm vk vn vs p m q a n c v x w hv
  · exact resK_30 nm vk vn vs p m q a n c v ks w hv hk
  · exact resK_31 nm vk vn vs p m q a n c v ks w hv hk
  · exact resK_32 nm vk vn vs p m q a n c v ks w hv hk
  · exact resK_33 nm vk vn vs p m q a n c v ks w hv hk
  · exact resK_34 nm vk vn vs p m q a n c v ks w hv hk
  · exact resK_35 nm vk vn vs p m q a n c v ks w hv hk
  · exact resK_36 nm vk vn vs p m q a n c v ks w hv hk
  · exact resK_37 nm vk vn vs p m q a n c v ks w hv hk
  · exact resK_38 nm vk vn vs p m q a n c v ks w hv hk
  · obtain ⟨x, y, rfl⟩ := list_2 (ks := ks) (by have e1 : leastS 39 = 2 := rfl; have e2 : mostS 39 = 2 := rfl; omega)
    exact resK_39 nm vk vn vs p m q a n c v x y w hv
end Go.Proofs.YtngijlmokhkdjaaDoor
