/-
  EditPlansMatchSpec: rows of numbers as texts.
-/
import Derived.Test.YtpoaikbedcfgaaaDoorEdRp
import Derived.Lib.AppendIntMem
import Derived.Lib.QuietBelow
import Derived.Lib.ItoaLen
import Derived.Lib.ItoaNum
namespace Go.Proofs.YtpoaikbedcfgaaaDoor
open Go.RowKit

theorem bs_size (l : List UInt8) : (bs l).size = l.length := by simp [bs, ByteArray.size]
theorem bs_app (a b : List UInt8) : bs a ++ bs b = bs (a ++ b) := by
  apply ByteArray.ext; simp [bs, ByteArray.data_append]
theorem gPow : Tryd.prog.globalNamed "internal/strconv.uint64pow10" = some 1 := by kernel_rfl
def Pow (w : World) : Prop := Lib.TabIs Tryd.prog w "internal/strconv.uint64pow10" .u64 Lib.pow10Tab
theorem Pow.below {w w' : World} (h : Pow w) (hb : Below w.heap.size w w') : Pow w' := Go.Joins.tab_stays gPow h hb (Nat.le_refl _)

/-- A text, not too long, comes back. -/
def TP (l : List UInt8) (w : World) (e : Ending) (w' : World) : Prop :=
  ∃ t : ByteArray, e = .returned (.string t) ∧ t.size ≤ 10000000 ∧ Hid (t = bs l) ∧ Hid (Below w.heap.size w w')
theorem tp_of {l : List UInt8} {w w' : World} {e : Ending} (he : e = .returned (.string (bs l))) (hl : l.length ≤ 10000000) (hb : Below w.heap.size w w') : TP l w e w' :=
  ⟨bs l, he, by rw [bs_size]; exact hl, rfl, hb⟩
theorem tp_ret {l : List UInt8} {w w' : World} {t : ByteArray} (ht : t = bs l) (hl : l.length ≤ 10000000) (hb : Below w.heap.size w w') : TP l w (.returned (.string t)) w' :=
  tp_of (by rw [ht]) hl hb
theorem itoa_len (n : Int) (h0 : -9223372036854775808 ≤ n) (h1 : n ≤ 9223372036854775807) : (Lib.itoa n).length ≤ 10000000 := by
  have := Lib.itoa_length_le n h0 h1; omega

theorem itoa_c (n : Int) (w : World) (hE : Pow w) (h0 : -9223372036854775808 ≤ n) (h1 : n ≤ 9223372036854775807) :
    Calls Tryd.prog 10 #[.int .i64 n] w (TP (Lib.itoa n) w) :=
  (Tryd.strconv_Itoa n h0 h1 w hE).mono fun _ _ ⟨he, k, os, hw⟩ => tp_of he (itoa_len n h0 h1) (by rw [hw]; exact Go.Lib.below_grow _ _ (Nat.le_refl _) k os)
def RowV (w : World) (b n : Nat) (f : Nat → Value) : Prop := ∀ j, j < n → w.cell? ⟨b, j, none⟩ = some (f j) ∧ w.frozen? ⟨b, j, none⟩ = false
theorem RowV.made (w : World) (n : Nat) (z : Value) (e : TypeId) : RowV (w.alloc (.cells (madeCells #[z] n) e)) w.heap.size n (fun _ => z) := by
  intro j hj
  refine ⟨?_, by simp⟩
  rw [World.cell?_alloc_new]
  rw [← Array.getElem?_toList, toList_madeCells_one]
  simp [hj]
theorem RowV.congr {w : World} {b n : Nat} {f g : Nat → Value} (h : RowV w b n f) (e : ∀ j, j < n → f j = g j) : RowV w b n g :=
  fun j hj => by rw [← e j hj]; exact h j hj
theorem RowV.set {w : World} {b n : Nat} {f : Nat → Value} (h : RowV w b n f) (i : Nat) (x : Value) : RowV (w.setCell ⟨b, i, none⟩ x) b n (fun j => if j = i then x else f j) := by
  intro j hj
  refine ⟨?_, by rw [World.frozen?_setCell]; exact (h j hj).2⟩
  by_cases e : j = i
  · subst e
    rw [World.cell?_setCell_same _ _ _ (h j hj).1]; simp
  · rw [World.cell?_setCell_other _ _ _ _ (by intro h; exact e (by injection h with _ h2; exact h2.symm))]
    simp only [if_neg e]
    exact (h j hj).1
theorem RowV.below {w w' : World} {B b n : Nat} {f : Nat → Value} (h : RowV w b n f) (hb : Below B w w') (hB : b < B) : RowV w' b n f :=
  fun j hj => ⟨by rw [hb.cell (p := ⟨b, j, none⟩) hB]; exact (h j hj).1, by rw [hb.frozen (p := ⟨b, j, none⟩) hB]; exact (h j hj).2⟩

/-- The first k texts of a new row are laid, the others are empty. -/
structure Laid (w : World) (n : Nat) (f : Nat → List UInt8) (k : Nat) (wr : World) : Prop where
  row : RowV wr w.heap.size n (fun j => if j < k then .string (bs (f j)) else .string ByteArray.empty)
  bel : Below w.heap.size w wr
  own : w.heap.size < wr.heap.size
theorem Laid.start (w : World) (n : Nat) (f : Nat → List UInt8) : Laid w n f 0 (w.alloc (.cells (madeCells #[.string ByteArray.empty] n) 9)) where
  row := (RowV.made w n _ _).congr fun j _ => by simp
  bel := (Below.refl _ _).alloc (Nat.le_refl _) _
  own := by simp
theorem Laid.keep {w wr w1 : World} {n k : Nat} {f : Nat → List UInt8} (h : Laid w n f k wr) (hb : Below wr.heap.size wr w1) : Laid w n f k w1 where
  row := h.row.below hb h.own
  bel := h.bel.trans (hb.mono h.bel.size)
  own := Nat.lt_of_lt_of_le h.own hb.size
theorem Laid.next {w wr : World} {n k : Nat} {f : Nat → List UInt8} (h : Laid w n f k wr) (t : ByteArray) (ht : t = bs (f k)) : Laid w n f (k + 1) (wr.setCell ⟨w.heap.size, k, none⟩ (.string t)) where
  row := (h.row.set k _).congr fun j _ => by
    by_cases e : j = k
    · subst e; simp [ht]
    · rw [if_neg e]
      by_cases l : j < k
      · rw [if_pos l, if_pos (by omega)]
      · rw [if_neg l, if_neg (by omega)]
  bel := h.bel.setCell (p := ⟨w.heap.size, k, none⟩) (Nat.le_refl _) _
  own := by simpa using h.own

theorem lens_le (n : Nat) : ∀ (xs : List (List UInt8)), (∀ x ∈ xs, x.length ≤ n) → Lib.lens xs ≤ n * xs.length
  | [], _ => by simp [Lib.lens]
  | x :: r, h => by
    have h1 := h x (by simp)
    have h2 := lens_le n r (fun y hy => h y (by simp [hy]))
    simp only [Lib.lens, List.map_cons, List.sum_cons, List.length_cons] at h2 ⊢
    rw [Nat.mul_add]; omega
theorem join_le (xs : List (List UInt8)) (n : Nat) (h : ∀ x ∈ xs, x.length ≤ n) : (Lib.join xs [44]).length ≤ xs.length + n * xs.length := by
  cases xs with
  | nil => simp [Lib.join_nil]
  | cons x r =>
    rw [Lib.join_length]
    have := lens_le n (x :: r) h
    simp only [List.length_cons, List.length_nil] at this ⊢
    omega
theorem join_c (b n c : Nat) (xs : List (List UInt8)) (w : World) (hn : xs.length = n) (hx : ∀ x ∈ xs, x.length ≤ 100) (h40 : n ≤ 50) (hc : n ≤ c)
    (hrow : ∀ j, j < n → w.cell? ⟨b, j, none⟩ = some (.string (bs (xs.getD j [])))) :
    Calls Tryd.prog 15 #[.slice (some ⟨b, 0, none⟩) n c, .string ⟨#[44]⟩] w (TP (Lib.join xs [44]) w) := by
  have hl := join_le xs 100 hx
  rw [hn] at hl
  by_cases h0 : n = 0
  · subst h0
    obtain rfl : xs = [] := List.eq_nil_of_length_eq_zero hn
    exact (Tryd.strings_Join_none _ c ⟨#[44]⟩ w).mono fun _ _ ⟨he, hw⟩ => tp_of he (by simp [Lib.join_nil]) (by rw [hw]; exact Below.refl _ _)
  · have hb : b < w.heap.size := by
      have h1 := (hrow 0 (by omega))
      rcases Nat.lt_or_ge b w.heap.size with l | l
      · exact l
      · simp [World.cell?, Array.getElem?_eq_none l] at h1
    have hm : (xs.map bs).map (·.data.toList) = xs := by
      rw [List.map_map]
      conv => rhs; rw [← List.map_id xs]
      exact List.map_congr_left fun x _ => bs_list x
    have J := Tryd.strings_Join b 0 c (xs.map bs) ⟨#[44]⟩ w (fun j x hj => by
      rw [List.getElem?_map] at hj
      obtain ⟨y, hy, rfl⟩ := Option.map_eq_some_iff.1 hj
      have hj' : j < n := by
        have := List.getElem?_eq_some_iff.1 hy
        rw [← hn]; exact this.1
      rw [Nat.zero_add, hrow j hj', List.getD_eq_getElem?_getD, hy]; rfl) hb (by rw [List.length_map]; omega) (by rw [List.length_map]; omega) (by
        rw [hm]; show (Lib.join xs [44]).length ≤ _; omega)
    rw [hm, List.length_map, hn] at J
    exact J.mono fun _ _ ⟨he, hb⟩ => tp_of he (by omega) hb

theorem infoS : (Tryd.prog.info? 9).map (fun i => (i.zero, i.size, i.bytes)) = some (some (.string ByteArray.empty), 1, 16) := by kernel_rfl

/-- The text of codes. -/
def cT (l : List Int) : List UInt8 := Lib.join (l.map Lib.itoa) [44]
/-- Codes: some, not many, small. -/
structure Cod (l : List Int) : Prop where
  pos : 0 < l.length
  le : l.length ≤ 20
  num : ∀ j, j < l.length → 1 ≤ fn l j ∧ fn l j ≤ 999
theorem Cod.each {l : List Int} (h : Cod l) : ∀ x ∈ l.map Lib.itoa, x.length ≤ 100 := by
  intro x hx'
  obtain ⟨n, hn, rfl⟩ := List.mem_map.1 hx'
  obtain ⟨j, hj, e⟩ := List.getElem_of_mem hn
  have := h.num j hj
  unfold fn at this
  simp only [List.getD_eq_getElem?_getD, List.getElem?_eq_getElem hj, Option.getD_some, e] at this
  have := Lib.itoa_length_le n (by omega) (by omega)
  omega
theorem Cod.each24 {l : List Int} (h : Cod l) : ∀ x ∈ l.map Lib.itoa, x.length ≤ 24 := by
  intro x hx'
  obtain ⟨n, hn, rfl⟩ := List.mem_map.1 hx'
  obtain ⟨j, hj, e⟩ := List.getElem_of_mem hn
  have := h.num j hj
  unfold fn at this
  simp only [List.getD_eq_getElem?_getD, List.getElem?_eq_getElem hj, Option.getD_some, e] at this
  have := Lib.itoa_length_le n (by omega) (by omega)
  omega
theorem Cod.size {l : List Int} (h : Cod l) : (cT l).length ≤ 500 := by
  have := join_le _ 24 h.each24
  have := h.le
  rw [List.length_map] at *
  unfold cT; omega
set_option maxHeartbeats 2000000 in
theorem codesText_c (a : Option Addr) (c : Nat) (l : List Int) (w : World) (hl : Rd w a l) (hC : Cod l) (hE : Pow w) :
    Calls Tryd.prog 9 #[.slice a l.length c] w (TP (cT l) w) := by
  have hle := hC.le
  have hJ := Lib.hid (fun (w1 : World) (c : Nat) (hc : l.length ≤ c) hrow => join_c w.heap.size l.length c (l.map Lib.itoa) w1 (by simp) hC.each (by omega) hc hrow)
  have hS : Hid ((cT l).length ≤ 10000000) := by have := hC.size; unfold Hid; omega
  have HE := Lib.hid hE
  have HX := Lib.hid hC.num
  have H := Lib.hid hl
  have hmk := run_make_row' (P := Tryd.prog) 50 9 (.string ByteArray.empty) 16 Tryd.underlying50 infoS rfl .i64 .i64 l.length (by omega) (by omega)
  clear hl hE hC
  go_enter Tryd.func9, Tryd.ntmps9
  go_wp2_with fail
  have hS0 := Lib.hid (Laid.start w l.length (fun j => Lib.itoa (l.getD j 0)))
  generalize w.alloc (.cells (madeCells #[.string ByteArray.empty] l.length) 9) = w2 at hS0
  clear hmk
  go_loopw [4, 5, 11] (fun _ _ i wr => ∃ k : Nat, k ≤ l.length ∧ i = .int .i64 k ∧ Hid (Laid w l.length (fun j => Lib.itoa (l.getD j 0)) k wr)) (fun _ _ i _ => l.length - (intOf i).toNat)
  case atStart => exact ⟨0, Nat.zero_le _, rfl, hS0.out⟩
  case round =>
    obtain ⟨k, hk, rfl, hR⟩ := hrel
    by_cases hlt : k < l.length
    · obtain ⟨b, off, rfl, c1⟩ := (H.out.below hR.out.bel).at_ hlt
      have hlt' : (k : Int) < (l.length : Int) := by omega
      obtain ⟨x1, x2⟩ := HX.out k hlt
      obtain ⟨x, hxx⟩ : ∃ x, x = fn l k := ⟨_, rfl⟩
      rw [← hxx] at c1 x1 x2
      have HXX := Lib.hid hxx; clear hxx hS0
      go_wp2_with fail
      refine (itoa_c x wr (HE.out.below hR.out.bel) (by omega) (by omega)).mono ?_
      rintro e w3 ⟨t, rfl, hs, ht, HB⟩
      have hR2 := Lib.hid (hR.out.keep HB.out)
      have cc := (hR2.out.row k hlt).1
      have ff := (hR2.out.row k hlt).2
      simp only [if_neg (Nat.lt_irrefl k)] at cc
      have hN := Lib.hid (hR2.out.next t (by
        show t = bs (Lib.itoa (fn l k))
        rw [ht.out, ← HXX.out]))
      clear hR hR2
      go_wp2
      go_roundw
      case rel => exact ⟨k + 1, by omega, by go_num, hN.out⟩
      case measure => simp [intOf]; omega
    · obtain rfl : k = l.length := by omega
      go_wp2_with fail
      refine (hJ.out _ l.length (Nat.le_refl _) (fun j hj => by
        have := (hR.out.row j hj).1
        simp only [if_pos hj] at this
        rw [this]
        simp [hj])).mono ?_
      rintro e w3 ⟨t, rfl, ht1, ht, HB2⟩
      have hB := Lib.hid hR.out.bel; clear hR
      go_wp2
      go_ret
      exact tp_ret ht.out hS.out (hB.out.trans (HB2.out.mono hB.out.size))
end Go.Proofs.YtpoaikbedcfgaaaDoor
