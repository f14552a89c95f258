/-
  resultKind of package value: the kind of an operation and whether the kinds of its arguments fit (one theorem an operation, made by a program).
-/
import Derived.Test.YtngijlmokhkdjaaDoorTyKinds
namespace Go.Proofs.YtngijlmokhkdjaaDoor
open Go.RowKit

/-- The cells of a row of kinds, in every later world. -/
theorem kind_cells {w : World} {v : Value} {ks : List Int} (hv : IsL w v ks) (h0 : 0 < ks.length) :
    ∃ b off c, v = .slice (some ⟨b, off, none⟩) ks.length c ∧ b < w.heap.size ∧ ∀ w', Below w.heap.size w w' → ∀ j, j < ks.length → w'.cell? ⟨b, off + j, none⟩ = some (.int .i64 (ks.getD j 0)) := by
  rcases hv with ⟨a, c, rfl, rfl⟩ | ⟨b, off, cap, rfl, h1, h2, h3, h4⟩
  · simp at h0
  · exact ⟨b, off, cap, rfl, h3, fun w' hb j hj => (hb.cell (p := ⟨b, off + j, none⟩) h3).trans (h4 j hj)⟩
/-- What a region that draws needs of memory: one kind, and all that was there. -/
def BoxK (w : World) (b off : Nat) (k0 : Int) (W : World) : Prop := W.cell? ⟨b, off, none⟩ = some (.int .i64 k0) ∧ Hid (Below w.heap.size w W)
theorem BoxK.keep {w W W' : World} {b off : Nat} {k0 : Int} (hl : b < w.heap.size) (h : BoxK w b off k0 W) (hb : Below W.heap.size W W') : BoxK w b off k0 W' :=
  ⟨(hb.cell (p := ⟨b, off, none⟩) (Nat.lt_of_lt_of_le hl h.2.out.size)).trans h.1, h.2.out.trans (hb.mono h.2.out.size)⟩
theorem are_K {w W : World} {b off : Nat} {k0 : Int} {v : Value} {ks : List Int} (hl : b < w.heap.size) (hA : Hid (∀ w', Below w.heap.size w w' → AreC v ks w')) (k : Int) (r : Bool) (hr : Hid (allK ks k = r)) (hS : BoxK w b off k0 W) :
    Calls Tryd.prog 71 #[v, .int .i64 k] W fun e w' => e = .returned (.bool r) ∧ BoxK w b off k0 w' :=
  (hA.out W hS.2.out k).mono fun e w' ⟨he, hb⟩ => ⟨by rw [he, hr.out], BoxK.keep hl hS hb⟩
def BoxO (w : World) (b off : Nat) (o k0 : Int) (W : World) : Prop := W.cell? ⟨w.heap.size, 1, none⟩ = some (.int .i64 o) ∧ W.cell? ⟨b, off, none⟩ = some (.int .i64 k0) ∧ Hid (Below w.heap.size w W ∧ w.heap.size + 1 ≤ W.heap.size)
theorem BoxO.keep {w W W' : World} {b off : Nat} {o k0 : Int} (hl : b < w.heap.size) (h : BoxO w b off o k0 W) (hb : Below W.heap.size W W') : BoxO w b off o k0 W' := by
  obtain ⟨h1, h2, h3⟩ := h
  obtain ⟨h3, h4⟩ := h3.out
  exact ⟨(hb.cell (p := ⟨w.heap.size, 1, none⟩) (by show w.heap.size < _; omega)).trans h1, (hb.cell (p := ⟨b, off, none⟩) (by show b < _; omega)).trans h2, h3.trans (hb.mono (by omega)), Nat.le_trans h4 hb.size⟩
theorem over_O {w : World} (o k0 : Int) (b off : Nat) (W : World) (hS : BoxO w b off o k0 W) :
    Calls Tryd.prog 70 #[.int .i64 o, .int .i64 k0] W fun e w' => e = .returned (.tuple #[.int .i64 (overK o k0).1, .bool (overK o k0).2]) ∧ BoxO w b off o k0 w' :=
  (overKind_c o k0 W).mono fun e w' ⟨he, hw⟩ => ⟨he, by rw [hw]; exact hS⟩
theorem bel_al (w : World) (o : Obj) : Below w.heap.size w (w.alloc o) := (Below.refl _ _).alloc (Nat.le_refl _) o

set_option maxRecDepth 100000 in
set_option maxHeartbeats 2000000 in
theorem resK_1 (nm : ByteArray) (vk vn : Int) (vs : ByteArray) (p : Option Addr) (m q : Nat) (a : Option Addr) (n c : Nat) (v : Value) (ks : List Int) (w : World) (hv : IsL w v ks) (hk : ks.length ≤ 1048576) :
    Calls Tryd.prog 47 #[.agg #[.int .i64 4, .int .i64 1, .string nm, .int .i64 vk, .int .i64 vn, .string vs, .slice p m q, .slice a n c], v] w fun e w' => e = .returned (.tuple #[.int .i64 (resK 1 ks).1, .bool (resK 1 ks).2]) ∧ Below w.heap.size w w' := by
  have hA := Lib.hid (fun w' hb => areAll_c ks v w' (IsL.below hv hb) hk)
  have e0 : Hid (resK 1 ks = (7, allK ks 7)) := rfl
  obtain ⟨a', c', rfl⟩ := isL_len hv
  clear hv
  go_enter Tryd.func47, Tryd.ntmps47
  go_wp2_with fail
  refine (hA.out _ (bel_al w _) 7).mono ?_
  rintro e w4 ⟨rfl, hB⟩
  have HB := Lib.hid ((bel_al w (.cells #[.int .i64 4, .int .i64 1, .string nm, .int .i64 vk, .int .i64 vn, .string vs, .slice p m q, .slice a n c] 27)).trans (hB.mono (by simp)))
  clear hB hA
  go_wp2
  go_ret2
  exact ⟨by rw [e0.out]; rfl, HB.out⟩

set_option maxRecDepth 100000 in
set_option maxHeartbeats 2000000 in
theorem resK_2 (nm : ByteArray) (vk vn : Int) (vs : ByteArray) (p : Option Addr) (m q : Nat) (a : Option Addr) (n c : Nat) (v : Value) (ks : List Int) (w : World) (hv : IsL w v ks) (hk : ks.length ≤ 1048576) :
    Calls Tryd.prog 47 #[.agg #[.int .i64 4, .int .i64 2, .string nm, .int .i64 vk, .int .i64 vn, .string vs, .slice p m q, .slice a n c], v] w fun e w' => e = .returned (.tuple #[.int .i64 (resK 2 ks).1, .bool (resK 2 ks).2]) ∧ Below w.heap.size w w' := by
  have hA := Lib.hid (fun w' hb => areAll_c ks v w' (IsL.below hv hb) hk)
  have e0 : Hid (resK 2 ks = (7, allK ks 7)) := rfl
  obtain ⟨a', c', rfl⟩ := isL_len hv
  clear hv
  go_enter Tryd.func47, Tryd.ntmps47
  go_wp2_with fail
  refine (hA.out _ (bel_al w _) 7).mono ?_
  rintro e w4 ⟨rfl, hB⟩
  have HB := Lib.hid ((bel_al w (.cells #[.int .i64 4, .int .i64 2, .string nm, .int .i64 vk, .int .i64 vn, .string vs, .slice p m q, .slice a n c] 27)).trans (hB.mono (by simp)))
  clear hB hA
  go_wp2
  go_ret2
  exact ⟨by rw [e0.out]; rfl, HB.out⟩

set_option maxRecDepth 100000 in
set_option maxHeartbeats 2000000 in
theorem resK_3 (nm : ByteArray) (vk vn : Int) (vs : ByteArray) (p : Option Addr) (m q : Nat) (a : Option Addr) (n c : Nat) (v : Value) (ks : List Int) (w : World) (hv : IsL w v ks) (hk : ks.length ≤ 1048576) :
    Calls Tryd.prog 47 #[.agg #[.int .i64 4, .int .i64 3, .string nm, .int .i64 vk, .int .i64 vn, .string vs, .slice p m q, .slice a n c], v] w fun e w' => e = .returned (.tuple #[.int .i64 (resK 3 ks).1, .bool (resK 3 ks).2]) ∧ Below w.heap.size w w' := by
  have hA := Lib.hid (fun w' hb => areAll_c ks v w' (IsL.below hv hb) hk)
  have e0 : Hid (resK 3 ks = (7, allK ks 7)) := rfl
  obtain ⟨a', c', rfl⟩ := isL_len hv
  clear hv
  go_enter Tryd.func47, Tryd.ntmps47
  go_wp2_with fail
  refine (hA.out _ (bel_al w _) 7).mono ?_
  rintro e w4 ⟨rfl, hB⟩
  have HB := Lib.hid ((bel_al w (.cells #[.int .i64 4, .int .i64 3, .string nm, .int .i64 vk, .int .i64 vn, .string vs, .slice p m q, .slice a n c] 27)).trans (hB.mono (by simp)))
  clear hB hA
  go_wp2
  go_ret2
  exact ⟨by rw [e0.out]; rfl, HB.out⟩

set_option maxRecDepth 100000 in
set_option maxHeartbeats 2000000 in
theorem resK_4 (nm : ByteArray) (vk vn : Int) (vs : ByteArray) (p : Option Addr) (m q : Nat) (a : Option Addr) (n c : Nat) (v : Value) (k0 k1 : Int) (w : World) (hv : IsL w v [k0, k1]) :
    Calls Tryd.prog 47 #[.agg #[.int .i64 4, .int .i64 4, .string nm, .int .i64 vk, .int .i64 vn, .string vs, .slice p m q, .slice a n c], v] w fun e w' => e = .returned (.tuple #[.int .i64 (resK 4 [k0, k1]).1, .bool (resK 4 [k0, k1]).2]) ∧ Below w.heap.size w w' := by
  have e0 : Hid (resK 4 [k0, k1] = (7, k0 == k1)) := rfl
  obtain ⟨b, off, c', rfl, hbl, hc⟩ := kind_cells hv (by simp)
  clear hv
  have c0 : (w.alloc (.cells #[.int .i64 4, .int .i64 4, .string nm, .int .i64 vk, .int .i64 vn, .string vs, .slice p m q, .slice a n c] 27)).cell? ⟨b, off, none⟩ = some (.int .i64 k0) := by simpa using hc _ (bel_al w _) 0 (by simp)
  have c1 : (w.alloc (.cells #[.int .i64 4, .int .i64 4, .string nm, .int .i64 vk, .int .i64 vn, .string vs, .slice p m q, .slice a n c] 27)).cell? ⟨b, off + 1, none⟩ = some (.int .i64 k1) := by simpa using hc _ (bel_al w _) 1 (by simp)
  clear hc
  go_enter Tryd.func47, Tryd.ntmps47
  go_wp2
  try (go_region; go_wp2)
  go_ret2
  exact ⟨by rw [e0.out]; rfl, by first | exact bel_al w _ | exact below_drewN (bel_al w _) 1⟩

set_option maxRecDepth 100000 in
set_option maxHeartbeats 2000000 in
theorem resK_5 (nm : ByteArray) (vk vn : Int) (vs : ByteArray) (p : Option Addr) (m q : Nat) (a : Option Addr) (n c : Nat) (v : Value) (k0 k1 : Int) (w : World) (hv : IsL w v [k0, k1]) :
    Calls Tryd.prog 47 #[.agg #[.int .i64 4, .int .i64 5, .string nm, .int .i64 vk, .int .i64 vn, .string vs, .slice p m q, .slice a n c], v] w fun e w' => e = .returned (.tuple #[.int .i64 (resK 5 [k0, k1]).1, .bool (resK 5 [k0, k1]).2]) ∧ Below w.heap.size w w' := by
  have e0 : Hid (resK 5 [k0, k1] = (7, k0 == k1)) := rfl
  obtain ⟨b, off, c', rfl, hbl, hc⟩ := kind_cells hv (by simp)
  clear hv
  have c0 : (w.alloc (.cells #[.int .i64 4, .int .i64 5, .string nm, .int .i64 vk, .int .i64 vn, .string vs, .slice p m q, .slice a n c] 27)).cell? ⟨b, off, none⟩ = some (.int .i64 k0) := by simpa using hc _ (bel_al w _) 0 (by simp)
  have c1 : (w.alloc (.cells #[.int .i64 4, .int .i64 5, .string nm, .int .i64 vk, .int .i64 vn, .string vs, .slice p m q, .slice a n c] 27)).cell? ⟨b, off + 1, none⟩ = some (.int .i64 k1) := by simpa using hc _ (bel_al w _) 1 (by simp)
  clear hc
  go_enter Tryd.func47, Tryd.ntmps47
  go_wp2
  try (go_region; go_wp2)
  go_ret2
  exact ⟨by rw [e0.out]; rfl, by first | exact bel_al w _ | exact below_drewN (bel_al w _) 1⟩

set_option maxRecDepth 100000 in
set_option maxHeartbeats 2000000 in
theorem resK_6 (nm : ByteArray) (vk vn : Int) (vs : ByteArray) (p : Option Addr) (m q : Nat) (a : Option Addr) (n c : Nat) (v : Value) (ks : List Int) (w : World) (hv : IsL w v ks) (hk : ks.length ≤ 1048576) :
    Calls Tryd.prog 47 #[.agg #[.int .i64 4, .int .i64 6, .string nm, .int .i64 vk, .int .i64 vn, .string vs, .slice p m q, .slice a n c], v] w fun e w' => e = .returned (.tuple #[.int .i64 (resK 6 ks).1, .bool (resK 6 ks).2]) ∧ Below w.heap.size w w' := by
  have hA := Lib.hid (fun w' hb => areAll_c ks v w' (IsL.below hv hb) hk)
  have e0 : Hid (resK 6 ks = (7, allK ks 2 || allK ks 6)) := rfl
  obtain ⟨a', c', rfl⟩ := isL_len hv
  clear hv
  go_enter Tryd.func47, Tryd.ntmps47
  go_wp2_with fail
  refine (hA.out _ (bel_al w _) 2).mono ?_
  rintro e w4 ⟨rfl, hB⟩
  have HB := Lib.hid ((bel_al w (.cells #[.int .i64 4, .int .i64 6, .string nm, .int .i64 vk, .int .i64 vn, .string vs, .slice p m q, .slice a n c] 27)).trans (hB.mono (by simp)))
  clear hB
  by_cases h2 : allK ks 2 = true
  · rw [h2] at e0 ⊢
    clear hA h2
    go_wp2
    try (go_region; go_wp2)
    go_ret2
    exact ⟨by rw [e0.out]; rfl, by first | exact HB.out | exact below_drewN HB.out 1⟩
  · have h2' : allK ks 2 = false := by simpa using h2
    rw [h2'] at e0 ⊢
    clear h2 h2'
    go_wp2_with fail
    refine (hA.out _ HB.out 6).mono ?_
    rintro e w5 ⟨rfl, hB5⟩
    have HB5 := Lib.hid (HB.out.trans (hB5.mono HB.out.size))
    clear hB5 hA
    go_wp2
    try (go_region; go_wp2)
    go_ret2
    exact ⟨by rw [e0.out]; rfl, by first | exact HB5.out | exact below_drewN HB5.out 1⟩

set_option maxRecDepth 100000 in
set_option maxHeartbeats 2000000 in
theorem resK_7 (nm : ByteArray) (vk vn : Int) (vs : ByteArray) (p : Option Addr) (m q : Nat) (a : Option Addr) (n c : Nat) (v : Value) (ks : List Int) (w : World) (hv : IsL w v ks) (hk : ks.length ≤ 1048576) :
    Calls Tryd.prog 47 #[.agg #[.int .i64 4, .int .i64 7, .string nm, .int .i64 vk, .int .i64 vn, .string vs, .slice p m q, .slice a n c], v] w fun e w' => e = .returned (.tuple #[.int .i64 (resK 7 ks).1, .bool (resK 7 ks).2]) ∧ Below w.heap.size w w' := by
  have hA := Lib.hid (fun w' hb => areAll_c ks v w' (IsL.below hv hb) hk)
  have e0 : Hid (resK 7 ks = (7, allK ks 2 || allK ks 6)) := rfl
  obtain ⟨a', c', rfl⟩ := isL_len hv
  clear hv
  go_enter Tryd.func47, Tryd.ntmps47
  go_wp2_with fail
  refine (hA.out _ (bel_al w _) 2).mono ?_
  rintro e w4 ⟨rfl, hB⟩
  have HB := Lib.hid ((bel_al w (.cells #[.int .i64 4, .int .i64 7, .string nm, .int .i64 vk, .int .i64 vn, .string vs, .slice p m q, .slice a n c] 27)).trans (hB.mono (by simp)))
  clear hB
  by_cases h2 : allK ks 2 = true
  · rw [h2] at e0 ⊢
    clear hA h2
    go_wp2
    try (go_region; go_wp2)
    go_ret2
    exact ⟨by rw [e0.out]; rfl, by first | exact HB.out | exact below_drewN HB.out 1⟩
  · have h2' : allK ks 2 = false := by simpa using h2
    rw [h2'] at e0 ⊢
    clear h2 h2'
    go_wp2_with fail
    refine (hA.out _ HB.out 6).mono ?_
    rintro e w5 ⟨rfl, hB5⟩
    have HB5 := Lib.hid (HB.out.trans (hB5.mono HB.out.size))
    clear hB5 hA
    go_wp2
    try (go_region; go_wp2)
    go_ret2
    exact ⟨by rw [e0.out]; rfl, by first | exact HB5.out | exact below_drewN HB5.out 1⟩

set_option maxRecDepth 100000 in
set_option maxHeartbeats 2000000 in
theorem resK_8 (nm : ByteArray) (vk vn : Int) (vs : ByteArray) (p : Option Addr) (m q : Nat) (a : Option Addr) (n c : Nat) (v : Value) (ks : List Int) (w : World) (hv : IsL w v ks) (hk : ks.length ≤ 1048576) :
    Calls Tryd.prog 47 #[.agg #[.int .i64 4, .int .i64 8, .string nm, .int .i64 vk, .int .i64 vn, .string vs, .slice p m q, .slice a n c], v] w fun e w' => e = .returned (.tuple #[.int .i64 (resK 8 ks).1, .bool (resK 8 ks).2]) ∧ Below w.heap.size w w' := by
  have hA := Lib.hid (fun w' hb => areAll_c ks v w' (IsL.below hv hb) hk)
  have e0 : Hid (resK 8 ks = (7, allK ks 2 || allK ks 6)) := rfl
  obtain ⟨a', c', rfl⟩ := isL_len hv
  clear hv
  go_enter Tryd.func47, Tryd.ntmps47
  go_wp2_with fail
  refine (hA.out _ (bel_al w _) 2).mono ?_
  rintro e w4 ⟨rfl, hB⟩
  have HB := Lib.hid ((bel_al w (.cells #[.int .i64 4, .int .i64 8, .string nm, .int .i64 vk, .int .i64 vn, .string vs, .slice p m q, .slice a n c] 27)).trans (hB.mono (by simp)))
  clear hB
  by_cases h2 : allK ks 2 = true
  · rw [h2] at e0 ⊢
    clear hA h2
    go_wp2
    try (go_region; go_wp2)
    go_ret2
    exact ⟨by rw [e0.out]; rfl, by first | exact HB.out | exact below_drewN HB.out 1⟩
  · have h2' : allK ks 2 = false := by simpa using h2
    rw [h2'] at e0 ⊢
    clear h2 h2'
    go_wp2_with fail
    refine (hA.out _ HB.out 6).mono ?_
    rintro e w5 ⟨rfl, hB5⟩
    have HB5 := Lib.hid (HB.out.trans (hB5.mono HB.out.size))
    clear hB5 hA
    go_wp2
    try (go_region; go_wp2)
    go_ret2
    exact ⟨by rw [e0.out]; rfl, by first | exact HB5.out | exact below_drewN HB5.out 1⟩

set_option maxRecDepth 100000 in
set_option maxHeartbeats 2000000 in
theorem resK_9 (nm : ByteArray) (vk vn : Int) (vs : ByteArray) (p : Option Addr) (m q : Nat) (a : Option Addr) (n c : Nat) (v : Value) (ks : List Int) (w : World) (hv : IsL w v ks) (hk : ks.length ≤ 1048576) :
    Calls Tryd.prog 47 #[.agg #[.int .i64 4, .int .i64 9, .string nm, .int .i64 vk, .int .i64 vn, .string vs, .slice p m q, .slice a n c], v] w fun e w' => e = .returned (.tuple #[.int .i64 (resK 9 ks).1, .bool (resK 9 ks).2]) ∧ Below w.heap.size w w' := by
  have hA := Lib.hid (fun w' hb => areAll_c ks v w' (IsL.below hv hb) hk)
  have e0 : Hid (resK 9 ks = (7, allK ks 2 || allK ks 6)) := rfl
  obtain ⟨a', c', rfl⟩ := isL_len hv
  clear hv
  go_enter Tryd.func47, Tryd.ntmps47
  go_wp2_with fail
  refine (hA.out _ (bel_al w _) 2).mono ?_
  rintro e w4 ⟨rfl, hB⟩
  have HB := Lib.hid ((bel_al w (.cells #[.int .i64 4, .int .i64 9, .string nm, .int .i64 vk, .int .i64 vn, .string vs, .slice p m q, .slice a n c] 27)).trans (hB.mono (by simp)))
  clear hB
  by_cases h2 : allK ks 2 = true
  · rw [h2] at e0 ⊢
    clear hA h2
    go_wp2
    try (go_region; go_wp2)
    go_ret2
    exact ⟨by rw [e0.out]; rfl, by first | exact HB.out | exact below_drewN HB.out 1⟩
  · have h2' : allK ks 2 = false := by simpa using h2
    rw [h2'] at e0 ⊢
    clear h2 h2'
    go_wp2_with fail
    refine (hA.out _ HB.out 6).mono ?_
    rintro e w5 ⟨rfl, hB5⟩
    have HB5 := Lib.hid (HB.out.trans (hB5.mono HB.out.size))
    clear hB5 hA
    go_wp2
    try (go_region; go_wp2)
    go_ret2
    exact ⟨by rw [e0.out]; rfl, by first | exact HB5.out | exact below_drewN HB5.out 1⟩

set_option maxRecDepth 100000 in
set_option maxHeartbeats 2000000 in
theorem resK_10 (nm : ByteArray) (vk vn : Int) (vs : ByteArray) (p : Option Addr) (m q : Nat) (a : Option Addr) (n c : Nat) (v : Value) (k0 k1 : Int) (w : World) (hv : IsL w v [k0, k1]) :
    Calls Tryd.prog 47 #[.agg #[.int .i64 4, .int .i64 10, .string nm, .int .i64 vk, .int .i64 vn, .string vs, .slice p m q, .slice a n c], v] w fun e w' => e = .returned (.tuple #[.int .i64 (resK 10 [k0, k1]).1, .bool (resK 10 [k0, k1]).2]) ∧ Below w.heap.size w w' := by
  have e0 : Hid (resK 10 [k0, k1] = (7, k0 == 4 && k1 == 5)) := rfl
  obtain ⟨b, off, c', rfl, hbl, hc⟩ := kind_cells hv (by simp)
  clear hv
  have c0 : (w.alloc (.cells #[.int .i64 4, .int .i64 10, .string nm, .int .i64 vk, .int .i64 vn, .string vs, .slice p m q, .slice a n c] 27)).cell? ⟨b, off, none⟩ = some (.int .i64 k0) := by simpa using hc _ (bel_al w _) 0 (by simp)
  have c1 : (w.alloc (.cells #[.int .i64 4, .int .i64 10, .string nm, .int .i64 vk, .int .i64 vn, .string vs, .slice p m q, .slice a n c] 27)).cell? ⟨b, off + 1, none⟩ = some (.int .i64 k1) := by simpa using hc _ (bel_al w _) 1 (by simp)
  clear hc
  by_cases h : k0 = 4
  · subst h
    go_enter Tryd.func47, Tryd.ntmps47
    go_wp2
    try (go_region; go_wp2)
    go_ret2
    exact ⟨by rw [e0.out]; first | rfl | simp, by first | exact bel_al w _ | exact below_drewN (bel_al w _) 1⟩
  · have h' : (k0 == 4) = false := by simpa using h
    clear h
    go_enter Tryd.func47, Tryd.ntmps47
    go_wp2
    try (go_region; go_wp2)
    go_ret2
    exact ⟨by rw [e0.out]; simp [h'], by first | exact bel_al w _ | exact below_drewN (bel_al w _) 1⟩

set_option maxRecDepth 100000 in
set_option maxHeartbeats 2000000 in
theorem resK_11 (nm : ByteArray) (vk vn : Int) (vs : ByteArray) (p : Option Addr) (m q : Nat) (a : Option Addr) (n c : Nat) (v : Value) (k0 k1 : Int) (w : World) (hv : IsL w v [k0, k1]) :
    Calls Tryd.prog 47 #[.agg #[.int .i64 4, .int .i64 11, .string nm, .int .i64 vk, .int .i64 vn, .string vs, .slice p m q, .slice a n c], v] w fun e w' => e = .returned (.tuple #[.int .i64 (resK 11 [k0, k1]).1, .bool (resK 11 [k0, k1]).2]) ∧ Below w.heap.size w w' := by
  have e0 : Hid (resK 11 [k0, k1] = (7, k0 == 5 && k1 == 4)) := rfl
  obtain ⟨b, off, c', rfl, hbl, hc⟩ := kind_cells hv (by simp)
  clear hv
  have c0 : (w.alloc (.cells #[.int .i64 4, .int .i64 11, .string nm, .int .i64 vk, .int .i64 vn, .string vs, .slice p m q, .slice a n c] 27)).cell? ⟨b, off, none⟩ = some (.int .i64 k0) := by simpa using hc _ (bel_al w _) 0 (by simp)
  have c1 : (w.alloc (.cells #[.int .i64 4, .int .i64 11, .string nm, .int .i64 vk, .int .i64 vn, .string vs, .slice p m q, .slice a n c] 27)).cell? ⟨b, off + 1, none⟩ = some (.int .i64 k1) := by simpa using hc _ (bel_al w _) 1 (by simp)
  clear hc
  by_cases h : k0 = 5
  · subst h
    go_enter Tryd.func47, Tryd.ntmps47
    go_wp2
    try (go_region; go_wp2)
    go_ret2
    exact ⟨by rw [e0.out]; first | rfl | simp, by first | exact bel_al w _ | exact below_drewN (bel_al w _) 1⟩
  · have h' : (k0 == 5) = false := by simpa using h
    clear h
    go_enter Tryd.func47, Tryd.ntmps47
    go_wp2
    try (go_region; go_wp2)
    go_ret2
    exact ⟨by rw [e0.out]; simp [h'], by first | exact bel_al w _ | exact below_drewN (bel_al w _) 1⟩

set_option maxRecDepth 100000 in
set_option maxHeartbeats 2000000 in
theorem resK_12 (nm : ByteArray) (vk vn : Int) (vs : ByteArray) (p : Option Addr) (m q : Nat) (a : Option Addr) (n c : Nat) (v : Value) (ks : List Int) (w : World) (hv : IsL w v ks) :
    Calls Tryd.prog 47 #[.agg #[.int .i64 4, .int .i64 12, .string nm, .int .i64 vk, .int .i64 vn, .string vs, .slice p m q, .slice a n c], v] w fun e w' => e = .returned (.tuple #[.int .i64 (resK 12 ks).1, .bool (resK 12 ks).2]) ∧ Below w.heap.size w w' := by
  have e0 : Hid (resK 12 ks = (7, true)) := rfl
  obtain ⟨a', c', rfl⟩ := isL_len hv
  clear hv
  go_enter Tryd.func47, Tryd.ntmps47
  go_wp2
  go_ret2
  exact ⟨by rw [e0.out]; rfl, bel_al w _⟩

set_option maxRecDepth 100000 in
set_option maxHeartbeats 2000000 in
theorem resK_13 (nm : ByteArray) (vk vn : Int) (vs : ByteArray) (p : Option Addr) (m q : Nat) (a : Option Addr) (n c : Nat) (v : Value) (ks : List Int) (w : World) (hv : IsL w v ks) :
    Calls Tryd.prog 47 #[.agg #[.int .i64 4, .int .i64 13, .string nm, .int .i64 vk, .int .i64 vn, .string vs, .slice p m q, .slice a n c], v] w fun e w' => e = .returned (.tuple #[.int .i64 (resK 13 ks).1, .bool (resK 13 ks).2]) ∧ Below w.heap.size w w' := by
  have e0 : Hid (resK 13 ks = (7, true)) := rfl
  obtain ⟨a', c', rfl⟩ := isL_len hv
  clear hv
  go_enter Tryd.func47, Tryd.ntmps47
  go_wp2
  go_ret2
  exact ⟨by rw [e0.out]; rfl, bel_al w _⟩

set_option maxRecDepth 100000 in
set_option maxHeartbeats 2000000 in
theorem resK_14 (nm : ByteArray) (vk vn : Int) (vs : ByteArray) (p : Option Addr) (m q : Nat) (a : Option Addr) (n c : Nat) (v : Value) (ks : List Int) (w : World) (hv : IsL w v ks) :
    Calls Tryd.prog 47 #[.agg #[.int .i64 4, .int .i64 14, .string nm, .int .i64 vk, .int .i64 vn, .string vs, .slice p m q, .slice a n c], v] w fun e w' => e = .returned (.tuple #[.int .i64 (resK 14 ks).1, .bool (resK 14 ks).2]) ∧ Below w.heap.size w w' := by
  have e0 : Hid (resK 14 ks = (2, true)) := rfl
  obtain ⟨a', c', rfl⟩ := isL_len hv
  clear hv
  go_enter Tryd.func47, Tryd.ntmps47
  go_wp2
  go_ret2
  exact ⟨by rw [e0.out]; rfl, bel_al w _⟩

set_option maxRecDepth 100000 in
set_option maxHeartbeats 2000000 in
theorem resK_15 (nm : ByteArray) (vk vn : Int) (vs : ByteArray) (p : Option Addr) (m q : Nat) (a : Option Addr) (n c : Nat) (v : Value) (ks : List Int) (w : World) (hv : IsL w v ks) (hk : ks.length ≤ 1048576) :
    Calls Tryd.prog 47 #[.agg #[.int .i64 4, .int .i64 15, .string nm, .int .i64 vk, .int .i64 vn, .string vs, .slice p m q, .slice a n c], v] w fun e w' => e = .returned (.tuple #[.int .i64 (resK 15 ks).1, .bool (resK 15 ks).2]) ∧ Below w.heap.size w w' := by
  have hA := Lib.hid (fun w' hb => areAll_c ks v w' (IsL.below hv hb) hk)
  have e0 : Hid (resK 15 ks = (2, allK ks 2)) := rfl
  obtain ⟨a', c', rfl⟩ := isL_len hv
  clear hv
  go_enter Tryd.func47, Tryd.ntmps47
  go_wp2_with fail
  refine (hA.out _ (bel_al w _) 2).mono ?_
  rintro e w4 ⟨rfl, hB⟩
  have HB := Lib.hid ((bel_al w (.cells #[.int .i64 4, .int .i64 15, .string nm, .int .i64 vk, .int .i64 vn, .string vs, .slice p m q, .slice a n c] 27)).trans (hB.mono (by simp)))
  clear hB hA
  go_wp2
  go_ret2
  exact ⟨by rw [e0.out]; rfl, HB.out⟩

set_option maxRecDepth 100000 in
set_option maxHeartbeats 2000000 in
theorem resK_16 (nm : ByteArray) (vk vn : Int) (vs : ByteArray) (p : Option Addr) (m q : Nat) (a : Option Addr) (n c : Nat) (v : Value) (ks : List Int) (w : World) (hv : IsL w v ks) (hk : ks.length ≤ 1048576) :
    Calls Tryd.prog 47 #[.agg #[.int .i64 4, .int .i64 16, .string nm, .int .i64 vk, .int .i64 vn, .string vs, .slice p m q, .slice a n c], v] w fun e w' => e = .returned (.tuple #[.int .i64 (resK 16 ks).1, .bool (resK 16 ks).2]) ∧ Below w.heap.size w w' := by
  have hA := Lib.hid (fun w' hb => areAll_c ks v w' (IsL.below hv hb) hk)
  have e0 : Hid (resK 16 ks = (2, allK ks 2)) := rfl
  obtain ⟨a', c', rfl⟩ := isL_len hv
  clear hv
  go_enter Tryd.func47, Tryd.ntmps47
  go_wp2_with fail
  refine (hA.out _ (bel_al w _) 2).mono ?_
  rintro e w4 ⟨rfl, hB⟩
  have HB := Lib.hid ((bel_al w (.cells #[.int .i64 4, .int .i64 16, .string nm, .int .i64 vk, .int .i64 vn, .string vs, .slice p m q, .slice a n c] 27)).trans (hB.mono (by simp)))
  clear hB hA
  go_wp2
  go_ret2
  exact ⟨by rw [e0.out]; rfl, HB.out⟩

set_option maxRecDepth 100000 in
set_option maxHeartbeats 2000000 in
theorem resK_17 (nm : ByteArray) (vk vn : Int) (vs : ByteArray) (p : Option Addr) (m q : Nat) (a : Option Addr) (n c : Nat) (v : Value) (ks : List Int) (w : World) (hv : IsL w v ks) (hk : ks.length ≤ 1048576) :
    Calls Tryd.prog 47 #[.agg #[.int .i64 4, .int .i64 17, .string nm, .int .i64 vk, .int .i64 vn, .string vs, .slice p m q, .slice a n c], v] w fun e w' => e = .returned (.tuple #[.int .i64 (resK 17 ks).1, .bool (resK 17 ks).2]) ∧ Below w.heap.size w w' := by
  have hA := Lib.hid (fun w' hb => areAll_c ks v w' (IsL.below hv hb) hk)
  have e0 : Hid (resK 17 ks = (2, allK ks 2)) := rfl
  obtain ⟨a', c', rfl⟩ := isL_len hv
  clear hv
  go_enter Tryd.func47, Tryd.ntmps47
  go_wp2_with fail
  refine (hA.out _ (bel_al w _) 2).mono ?_
  rintro e w4 ⟨rfl, hB⟩
  have HB := Lib.hid ((bel_al w (.cells #[.int .i64 4, .int .i64 17, .string nm, .int .i64 vk, .int .i64 vn, .string vs, .slice p m q, .slice a n c] 27)).trans (hB.mono (by simp)))
  clear hB hA
  go_wp2
  go_ret2
  exact ⟨by rw [e0.out]; rfl, HB.out⟩

set_option maxRecDepth 100000 in
set_option maxHeartbeats 2000000 in
theorem resK_18 (nm : ByteArray) (vk vn : Int) (vs : ByteArray) (p : Option Addr) (m q : Nat) (a : Option Addr) (n c : Nat) (v : Value) (ks : List Int) (w : World) (hv : IsL w v ks) (hk : ks.length ≤ 1048576) :
    Calls Tryd.prog 47 #[.agg #[.int .i64 4, .int .i64 18, .string nm, .int .i64 vk, .int .i64 vn, .string vs, .slice p m q, .slice a n c], v] w fun e w' => e = .returned (.tuple #[.int .i64 (resK 18 ks).1, .bool (resK 18 ks).2]) ∧ Below w.heap.size w w' := by
  have hA := Lib.hid (fun w' hb => areAll_c ks v w' (IsL.below hv hb) hk)
  have e0 : Hid (resK 18 ks = (2, allK ks 2)) := rfl
  obtain ⟨a', c', rfl⟩ := isL_len hv
  clear hv
  go_enter Tryd.func47, Tryd.ntmps47
  go_wp2_with fail
  refine (hA.out _ (bel_al w _) 2).mono ?_
  rintro e w4 ⟨rfl, hB⟩
  have HB := Lib.hid ((bel_al w (.cells #[.int .i64 4, .int .i64 18, .string nm, .int .i64 vk, .int .i64 vn, .string vs, .slice p m q, .slice a n c] 27)).trans (hB.mono (by simp)))
  clear hB hA
  go_wp2
  go_ret2
  exact ⟨by rw [e0.out]; rfl, HB.out⟩

set_option maxRecDepth 100000 in
set_option maxHeartbeats 2000000 in
theorem resK_19 (nm : ByteArray) (vk vn : Int) (vs : ByteArray) (p : Option Addr) (m q : Nat) (a : Option Addr) (n c : Nat) (v : Value) (ks : List Int) (w : World) (hv : IsL w v ks) (hk : ks.length ≤ 1048576) :
    Calls Tryd.prog 47 #[.agg #[.int .i64 4, .int .i64 19, .string nm, .int .i64 vk, .int .i64 vn, .string vs, .slice p m q, .slice a n c], v] w fun e w' => e = .returned (.tuple #[.int .i64 (resK 19 ks).1, .bool (resK 19 ks).2]) ∧ Below w.heap.size w w' := by
  have hA := Lib.hid (fun w' hb => areAll_c ks v w' (IsL.below hv hb) hk)
  have e0 : Hid (resK 19 ks = (2, allK ks 2)) := rfl
  obtain ⟨a', c', rfl⟩ := isL_len hv
  clear hv
  go_enter Tryd.func47, Tryd.ntmps47
  go_wp2_with fail
  refine (hA.out _ (bel_al w _) 2).mono ?_
  rintro e w4 ⟨rfl, hB⟩
  have HB := Lib.hid ((bel_al w (.cells #[.int .i64 4, .int .i64 19, .string nm, .int .i64 vk, .int .i64 vn, .string vs, .slice p m q, .slice a n c] 27)).trans (hB.mono (by simp)))
  clear hB hA
  go_wp2
  go_ret2
  exact ⟨by rw [e0.out]; rfl, HB.out⟩

set_option maxRecDepth 100000 in
set_option maxHeartbeats 2000000 in
theorem resK_20 (nm : ByteArray) (vk vn : Int) (vs : ByteArray) (p : Option Addr) (m q : Nat) (a : Option Addr) (n c : Nat) (v : Value) (ks : List Int) (w : World) (hv : IsL w v ks) (hk : ks.length ≤ 1048576) :
    Calls Tryd.prog 47 #[.agg #[.int .i64 4, .int .i64 20, .string nm, .int .i64 vk, .int .i64 vn, .string vs, .slice p m q, .slice a n c], v] w fun e w' => e = .returned (.tuple #[.int .i64 (resK 20 ks).1, .bool (resK 20 ks).2]) ∧ Below w.heap.size w w' := by
  have hA := Lib.hid (fun w' hb => areAll_c ks v w' (IsL.below hv hb) hk)
  have e0 : Hid (resK 20 ks = (2, allK ks 2)) := rfl
  obtain ⟨a', c', rfl⟩ := isL_len hv
  clear hv
  go_enter Tryd.func47, Tryd.ntmps47
  go_wp2_with fail
  refine (hA.out _ (bel_al w _) 2).mono ?_
  rintro e w4 ⟨rfl, hB⟩
  have HB := Lib.hid ((bel_al w (.cells #[.int .i64 4, .int .i64 20, .string nm, .int .i64 vk, .int .i64 vn, .string vs, .slice p m q, .slice a n c] 27)).trans (hB.mono (by simp)))
  clear hB hA
  go_wp2
  go_ret2
  exact ⟨by rw [e0.out]; rfl, HB.out⟩

set_option maxRecDepth 100000 in
set_option maxHeartbeats 2000000 in
theorem resK_21 (nm : ByteArray) (vk vn : Int) (vs : ByteArray) (p : Option Addr) (m q : Nat) (a : Option Addr) (n c : Nat) (v : Value) (ks : List Int) (w : World) (hv : IsL w v ks) (hk : ks.length ≤ 1048576) :
    Calls Tryd.prog 47 #[.agg #[.int .i64 4, .int .i64 21, .string nm, .int .i64 vk, .int .i64 vn, .string vs, .slice p m q, .slice a n c], v] w fun e w' => e = .returned (.tuple #[.int .i64 (resK 21 ks).1, .bool (resK 21 ks).2]) ∧ Below w.heap.size w w' := by
  have hA := Lib.hid (fun w' hb => areAll_c ks v w' (IsL.below hv hb) hk)
  have e0 : Hid (resK 21 ks = (2, allK ks 2)) := rfl
  obtain ⟨a', c', rfl⟩ := isL_len hv
  clear hv
  go_enter Tryd.func47, Tryd.ntmps47
  go_wp2_with fail
  refine (hA.out _ (bel_al w _) 2).mono ?_
  rintro e w4 ⟨rfl, hB⟩
  have HB := Lib.hid ((bel_al w (.cells #[.int .i64 4, .int .i64 21, .string nm, .int .i64 vk, .int .i64 vn, .string vs, .slice p m q, .slice a n c] 27)).trans (hB.mono (by simp)))
  clear hB hA
  go_wp2
  go_ret2
  exact ⟨by rw [e0.out]; rfl, HB.out⟩

set_option maxRecDepth 100000 in
set_option maxHeartbeats 2000000 in
theorem resK_22 (nm : ByteArray) (vk vn : Int) (vs : ByteArray) (p : Option Addr) (m q : Nat) (a : Option Addr) (n c : Nat) (v : Value) (ks : List Int) (w : World) (hv : IsL w v ks) (hk : ks.length ≤ 1048576) :
    Calls Tryd.prog 47 #[.agg #[.int .i64 4, .int .i64 22, .string nm, .int .i64 vk, .int .i64 vn, .string vs, .slice p m q, .slice a n c], v] w fun e w' => e = .returned (.tuple #[.int .i64 (resK 22 ks).1, .bool (resK 22 ks).2]) ∧ Below w.heap.size w w' := by
  have hA := Lib.hid (fun w' hb => areAll_c ks v w' (IsL.below hv hb) hk)
  have e0 : Hid (resK 22 ks = (2, allK ks 2)) := rfl
  obtain ⟨a', c', rfl⟩ := isL_len hv
  clear hv
  go_enter Tryd.func47, Tryd.ntmps47
  go_wp2_with fail
  refine (hA.out _ (bel_al w _) 2).mono ?_
  rintro e w4 ⟨rfl, hB⟩
  have HB := Lib.hid ((bel_al w (.cells #[.int .i64 4, .int .i64 22, .string nm, .int .i64 vk, .int .i64 vn, .string vs, .slice p m q, .slice a n c] 27)).trans (hB.mono (by simp)))
  clear hB hA
  go_wp2
  go_ret2
  exact ⟨by rw [e0.out]; rfl, HB.out⟩

set_option maxRecDepth 100000 in
set_option maxHeartbeats 2000000 in
theorem resK_23 (nm : ByteArray) (vk vn : Int) (vs : ByteArray) (p : Option Addr) (m q : Nat) (a : Option Addr) (n c : Nat) (v : Value) (ks : List Int) (w : World) (hv : IsL w v ks) (hk : ks.length ≤ 1048576) :
    Calls Tryd.prog 47 #[.agg #[.int .i64 4, .int .i64 23, .string nm, .int .i64 vk, .int .i64 vn, .string vs, .slice p m q, .slice a n c], v] w fun e w' => e = .returned (.tuple #[.int .i64 (resK 23 ks).1, .bool (resK 23 ks).2]) ∧ Below w.heap.size w w' := by
  have hA := Lib.hid (fun w' hb => areAll_c ks v w' (IsL.below hv hb) hk)
  have e0 : Hid (resK 23 ks = (2, allK ks 2)) := rfl
  obtain ⟨a', c', rfl⟩ := isL_len hv
  clear hv
  go_enter Tryd.func47, Tryd.ntmps47
  go_wp2_with fail
  refine (hA.out _ (bel_al w _) 2).mono ?_
  rintro e w4 ⟨rfl, hB⟩
  have HB := Lib.hid ((bel_al w (.cells #[.int .i64 4, .int .i64 23, .string nm, .int .i64 vk, .int .i64 vn, .string vs, .slice p m q, .slice a n c] 27)).trans (hB.mono (by simp)))
  clear hB hA
  go_wp2
  go_ret2
  exact ⟨by rw [e0.out]; rfl, HB.out⟩

set_option maxRecDepth 100000 in
set_option maxHeartbeats 2000000 in
theorem resK_26 (nm : ByteArray) (vk vn : Int) (vs : ByteArray) (p : Option Addr) (m q : Nat) (a : Option Addr) (n c : Nat) (v : Value) (k0 k1 k2 : Int) (w : World) (hv : IsL w v [k0, k1, k2]) :
    Calls Tryd.prog 47 #[.agg #[.int .i64 4, .int .i64 26, .string nm, .int .i64 vk, .int .i64 vn, .string vs, .slice p m q, .slice a n c], v] w fun e w' => e = .returned (.tuple #[.int .i64 (resK 26 [k0, k1, k2]).1, .bool (resK 26 [k0, k1, k2]).2]) ∧ Below w.heap.size w w' := by
  have e0 : Hid (resK 26 [k0, k1, k2] = (k1, k0 == 7 && k1 == k2)) := rfl
  obtain ⟨b, off, c', rfl, hbl, hc⟩ := kind_cells hv (by simp)
  clear hv
  have c0 : (w.alloc (.cells #[.int .i64 4, .int .i64 26, .string nm, .int .i64 vk, .int .i64 vn, .string vs, .slice p m q, .slice a n c] 27)).cell? ⟨b, off, none⟩ = some (.int .i64 k0) := by simpa using hc _ (bel_al w _) 0 (by simp)
  have c1 : (w.alloc (.cells #[.int .i64 4, .int .i64 26, .string nm, .int .i64 vk, .int .i64 vn, .string vs, .slice p m q, .slice a n c] 27)).cell? ⟨b, off + 1, none⟩ = some (.int .i64 k1) := by simpa using hc _ (bel_al w _) 1 (by simp)
  have c2 : (w.alloc (.cells #[.int .i64 4, .int .i64 26, .string nm, .int .i64 vk, .int .i64 vn, .string vs, .slice p m q, .slice a n c] 27)).cell? ⟨b, off + 2, none⟩ = some (.int .i64 k2) := by simpa using hc _ (bel_al w _) 2 (by simp)
  clear hc
  by_cases h : k0 = 7
  · subst h
    go_enter Tryd.func47, Tryd.ntmps47
    go_wp2
    try (go_region; go_wp2)
    go_ret2
    exact ⟨by rw [e0.out]; first | rfl | simp, by first | exact bel_al w _ | exact below_drewN (bel_al w _) 1⟩
  · have h' : (k0 == 7) = false := by simpa using h
    clear h
    go_enter Tryd.func47, Tryd.ntmps47
    go_wp2
    try (go_region; go_wp2)
    go_ret2
    exact ⟨by rw [e0.out]; simp [h'], by first | exact bel_al w _ | exact below_drewN (bel_al w _) 1⟩

set_option maxRecDepth 100000 in
set_option maxHeartbeats 2000000 in
theorem resK_27 (nm : ByteArray) (vk vn : Int) (vs : ByteArray) (p : Option Addr) (m q : Nat) (a : Option Addr) (n c : Nat) (v : Value) (k0 k1 : Int) (w : World) (hv : IsL w v [k0, k1]) :
    Calls Tryd.prog 47 #[.agg #[.int .i64 4, .int .i64 27, .string nm, .int .i64 vk, .int .i64 vn, .string vs, .slice p m q, .slice a n c], v] w fun e w' => e = .returned (.tuple #[.int .i64 (resK 27 [k0, k1]).1, .bool (resK 27 [k0, k1]).2]) ∧ Below w.heap.size w w' := by
  have e0 : Hid (resK 27 [k0, k1] = (k0, k0 == k1)) := rfl
  obtain ⟨b, off, c', rfl, hbl, hc⟩ := kind_cells hv (by simp)
  clear hv
  have c0 : (w.alloc (.cells #[.int .i64 4, .int .i64 27, .string nm, .int .i64 vk, .int .i64 vn, .string vs, .slice p m q, .slice a n c] 27)).cell? ⟨b, off, none⟩ = some (.int .i64 k0) := by simpa using hc _ (bel_al w _) 0 (by simp)
  have c1 : (w.alloc (.cells #[.int .i64 4, .int .i64 27, .string nm, .int .i64 vk, .int .i64 vn, .string vs, .slice p m q, .slice a n c] 27)).cell? ⟨b, off + 1, none⟩ = some (.int .i64 k1) := by simpa using hc _ (bel_al w _) 1 (by simp)
  clear hc
  go_enter Tryd.func47, Tryd.ntmps47
  go_wp2
  try (go_region; go_wp2)
  go_ret2
  exact ⟨by rw [e0.out]; rfl, by first | exact bel_al w _ | exact below_drewN (bel_al w _) 1⟩

set_option maxRecDepth 100000 in
set_option maxHeartbeats 2000000 in
theorem resK_28 (nm : ByteArray) (vk vn : Int) (vs : ByteArray) (p : Option Addr) (m q : Nat) (a : Option Addr) (n c : Nat) (v : Value) (k0 : Int) (w : World) (hv : IsL w v [k0]) :
    Calls Tryd.prog 47 #[.agg #[.int .i64 4, .int .i64 28, .string nm, .int .i64 vk, .int .i64 vn, .string vs, .slice p m q, .slice a n c], v] w fun e w' => e = .returned (.tuple #[.int .i64 (resK 28 [k0]).1, .bool (resK 28 [k0]).2]) ∧ Below w.heap.size w w' := by
  have e0 : Hid (resK 28 [k0] = (2, k0 == 5 || k0 == 3)) := rfl
  obtain ⟨b, off, c', rfl, hbl, hc⟩ := kind_cells hv (by simp)
  clear hv
  have c0 : (w.alloc (.cells #[.int .i64 4, .int .i64 28, .string nm, .int .i64 vk, .int .i64 vn, .string vs, .slice p m q, .slice a n c] 27)).cell? ⟨b, off, none⟩ = some (.int .i64 k0) := by simpa using hc _ (bel_al w _) 0 (by simp)
  clear hc
  by_cases h : k0 = 5
  · subst h
    go_enter Tryd.func47, Tryd.ntmps47
    go_wp2
    try (go_region; go_wp2)
    go_ret2
    exact ⟨by rw [e0.out]; first | rfl | simp, by first | exact bel_al w _ | exact below_drewN (bel_al w _) 1⟩
  · have h' : (k0 == 5) = false := by simpa using h
    clear h
    go_enter Tryd.func47, Tryd.ntmps47
    go_wp2
    try (go_region; go_wp2)
    go_ret2
    exact ⟨by rw [e0.out]; simp [h'], by first | exact bel_al w _ | exact below_drewN (bel_al w _) 1⟩

set_option maxRecDepth 100000 in
set_option maxHeartbeats 2000000 in
theorem resK_29 (nm : ByteArray) (vk vn : Int) (vs : ByteArray) (p : Option Addr) (m q : Nat) (a : Option Addr) (n c : Nat) (v : Value) (k0 : Int) (w : World) (hv : IsL w v [k0]) :
    Calls Tryd.prog 47 #[.agg #[.int .i64 4, .int .i64 29, .string nm, .int .i64 vk, .int .i64 vn, .string vs, .slice p m q, .slice a n c], v] w fun e w' => e = .returned (.tuple #[.int .i64 (resK 29 [k0]).1, .bool (resK 29 [k0]).2]) ∧ Below w.heap.size w w' := by
  have e0 : Hid (resK 29 [k0] = (2, k0 == 4)) := rfl
  obtain ⟨b, off, c', rfl, hbl, hc⟩ := kind_cells hv (by simp)
  clear hv
  have c0 : (w.alloc (.cells #[.int .i64 4, .int .i64 29, .string nm, .int .i64 vk, .int .i64 vn, .string vs, .slice p m q, .slice a n c] 27)).cell? ⟨b, off, none⟩ = some (.int .i64 k0) := by simpa using hc _ (bel_al w _) 0 (by simp)
  clear hc
  go_enter Tryd.func47, Tryd.ntmps47
  go_wp2
  try (go_region; go_wp2)
  go_ret2
  exact ⟨by rw [e0.out]; rfl, by first | exact bel_al w _ | exact below_drewN (bel_al w _) 1⟩

set_option maxRecDepth 100000 in
set_option maxHeartbeats 2000000 in
theorem resK_30 (nm : ByteArray) (vk vn : Int) (vs : ByteArray) (p : Option Addr) (m q : Nat) (a : Option Addr) (n c : Nat) (v : Value) (ks : List Int) (w : World) (hv : IsL w v ks) (hk : ks.length ≤ 1048576) :
    Calls Tryd.prog 47 #[.agg #[.int .i64 4, .int .i64 30, .string nm, .int .i64 vk, .int .i64 vn, .string vs, .slice p m q, .slice a n c], v] w fun e w' => e = .returned (.tuple #[.int .i64 (resK 30 ks).1, .bool (resK 30 ks).2]) ∧ Below w.heap.size w w' := by
  have hA := Lib.hid (fun w' hb => areAll_c ks v w' (IsL.below hv hb) hk)
  have e0 : Hid (resK 30 ks = (3, allK ks 3)) := rfl
  obtain ⟨a', c', rfl⟩ := isL_len hv
  clear hv
  go_enter Tryd.func47, Tryd.ntmps47
  go_wp2_with fail
  refine (hA.out _ (bel_al w _) 3).mono ?_
  rintro e w4 ⟨rfl, hB⟩
  have HB := Lib.hid ((bel_al w (.cells #[.int .i64 4, .int .i64 30, .string nm, .int .i64 vk, .int .i64 vn, .string vs, .slice p m q, .slice a n c] 27)).trans (hB.mono (by simp)))
  clear hB hA
  go_wp2
  go_ret2
  exact ⟨by rw [e0.out]; rfl, HB.out⟩

set_option maxRecDepth 100000 in
set_option maxHeartbeats 2000000 in
theorem resK_31 (nm : ByteArray) (vk vn : Int) (vs : ByteArray) (p : Option Addr) (m q : Nat) (a : Option Addr) (n c : Nat) (v : Value) (ks : List Int) (w : World) (hv : IsL w v ks) (hk : ks.length ≤ 1048576) :
    Calls Tryd.prog 47 #[.agg #[.int .i64 4, .int .i64 31, .string nm, .int .i64 vk, .int .i64 vn, .string vs, .slice p m q, .slice a n c], v] w fun e w' => e = .returned (.tuple #[.int .i64 (resK 31 ks).1, .bool (resK 31 ks).2]) ∧ Below w.heap.size w w' := by
  have hA := Lib.hid (fun w' hb => areAll_c ks v w' (IsL.below hv hb) hk)
  have e0 : Hid (resK 31 ks = (3, allK ks 3)) := rfl
  obtain ⟨a', c', rfl⟩ := isL_len hv
  clear hv
  go_enter Tryd.func47, Tryd.ntmps47
  go_wp2_with fail
  refine (hA.out _ (bel_al w _) 3).mono ?_
  rintro e w4 ⟨rfl, hB⟩
  have HB := Lib.hid ((bel_al w (.cells #[.int .i64 4, .int .i64 31, .string nm, .int .i64 vk, .int .i64 vn, .string vs, .slice p m q, .slice a n c] 27)).trans (hB.mono (by simp)))
  clear hB hA
  go_wp2
  go_ret2
  exact ⟨by rw [e0.out]; rfl, HB.out⟩

set_option maxRecDepth 100000 in
set_option maxHeartbeats 2000000 in
theorem resK_32 (nm : ByteArray) (vk vn : Int) (vs : ByteArray) (p : Option Addr) (m q : Nat) (a : Option Addr) (n c : Nat) (v : Value) (ks : List Int) (w : World) (hv : IsL w v ks) (hk : ks.length ≤ 1048576) :
    Calls Tryd.prog 47 #[.agg #[.int .i64 4, .int .i64 32, .string nm, .int .i64 vk, .int .i64 vn, .string vs, .slice p m q, .slice a n c], v] w fun e w' => e = .returned (.tuple #[.int .i64 (resK 32 ks).1, .bool (resK 32 ks).2]) ∧ Below w.heap.size w w' := by
  have hA := Lib.hid (fun w' hb => areAll_c ks v w' (IsL.below hv hb) hk)
  have e0 : Hid (resK 32 ks = (7, allK ks 3)) := rfl
  obtain ⟨a', c', rfl⟩ := isL_len hv
  clear hv
  go_enter Tryd.func47, Tryd.ntmps47
  go_wp2_with fail
  refine (hA.out _ (bel_al w _) 3).mono ?_
  rintro e w4 ⟨rfl, hB⟩
  have HB := Lib.hid ((bel_al w (.cells #[.int .i64 4, .int .i64 32, .string nm, .int .i64 vk, .int .i64 vn, .string vs, .slice p m q, .slice a n c] 27)).trans (hB.mono (by simp)))
  clear hB hA
  go_wp2
  go_ret2
  exact ⟨by rw [e0.out]; rfl, HB.out⟩

set_option maxRecDepth 100000 in
set_option maxHeartbeats 2000000 in
theorem resK_33 (nm : ByteArray) (vk vn : Int) (vs : ByteArray) (p : Option Addr) (m q : Nat) (a : Option Addr) (n c : Nat) (v : Value) (ks : List Int) (w : World) (hv : IsL w v ks) (hk : ks.length ≤ 1048576) :
    Calls Tryd.prog 47 #[.agg #[.int .i64 4, .int .i64 33, .string nm, .int .i64 vk, .int .i64 vn, .string vs, .slice p m q, .slice a n c], v] w fun e w' => e = .returned (.tuple #[.int .i64 (resK 33 ks).1, .bool (resK 33 ks).2]) ∧ Below w.heap.size w w' := by
  have hA := Lib.hid (fun w' hb => areAll_c ks v w' (IsL.below hv hb) hk)
  have e0 : Hid (resK 33 ks = (7, allK ks 3)) := rfl
  obtain ⟨a', c', rfl⟩ := isL_len hv
  clear hv
  go_enter Tryd.func47, Tryd.ntmps47
  go_wp2_with fail
  refine (hA.out _ (bel_al w _) 3).mono ?_
  rintro e w4 ⟨rfl, hB⟩
  have HB := Lib.hid ((bel_al w (.cells #[.int .i64 4, .int .i64 33, .string nm, .int .i64 vk, .int .i64 vn, .string vs, .slice p m q, .slice a n c] 27)).trans (hB.mono (by simp)))
  clear hB hA
  go_wp2
  go_ret2
  exact ⟨by rw [e0.out]; rfl, HB.out⟩

set_option maxRecDepth 100000 in
set_option maxHeartbeats 2000000 in
theorem resK_34 (nm : ByteArray) (vk vn : Int) (vs : ByteArray) (p : Option Addr) (m q : Nat) (a : Option Addr) (n c : Nat) (v : Value) (ks : List Int) (w : World) (hv : IsL w v ks) (hk : ks.length ≤ 1048576) :
    Calls Tryd.prog 47 #[.agg #[.int .i64 4, .int .i64 34, .string nm, .int .i64 vk, .int .i64 vn, .string vs, .slice p m q, .slice a n c], v] w fun e w' => e = .returned (.tuple #[.int .i64 (resK 34 ks).1, .bool (resK 34 ks).2]) ∧ Below w.heap.size w w' := by
  have hA := Lib.hid (fun w' hb => areAll_c ks v w' (IsL.below hv hb) hk)
  have e0 : Hid (resK 34 ks = (2, allK ks 6)) := rfl
  obtain ⟨a', c', rfl⟩ := isL_len hv
  clear hv
  go_enter Tryd.func47, Tryd.ntmps47
  go_wp2_with fail
  refine (hA.out _ (bel_al w _) 6).mono ?_
  rintro e w4 ⟨rfl, hB⟩
  have HB := Lib.hid ((bel_al w (.cells #[.int .i64 4, .int .i64 34, .string nm, .int .i64 vk, .int .i64 vn, .string vs, .slice p m q, .slice a n c] 27)).trans (hB.mono (by simp)))
  clear hB hA
  go_wp2
  go_ret2
  exact ⟨by rw [e0.out]; rfl, HB.out⟩

set_option maxRecDepth 100000 in
set_option maxHeartbeats 2000000 in
theorem resK_35 (nm : ByteArray) (vk vn : Int) (vs : ByteArray) (p : Option Addr) (m q : Nat) (a : Option Addr) (n c : Nat) (v : Value) (ks : List Int) (w : World) (hv : IsL w v ks) (hk : ks.length ≤ 1048576) :
    Calls Tryd.prog 47 #[.agg #[.int .i64 4, .int .i64 35, .string nm, .int .i64 vk, .int .i64 vn, .string vs, .slice p m q, .slice a n c], v] w fun e w' => e = .returned (.tuple #[.int .i64 (resK 35 ks).1, .bool (resK 35 ks).2]) ∧ Below w.heap.size w w' := by
  have hA := Lib.hid (fun w' hb => areAll_c ks v w' (IsL.below hv hb) hk)
  have e0 : Hid (resK 35 ks = (2, allK ks 6)) := rfl
  obtain ⟨a', c', rfl⟩ := isL_len hv
  clear hv
  go_enter Tryd.func47, Tryd.ntmps47
  go_wp2_with fail
  refine (hA.out _ (bel_al w _) 6).mono ?_
  rintro e w4 ⟨rfl, hB⟩
  have HB := Lib.hid ((bel_al w (.cells #[.int .i64 4, .int .i64 35, .string nm, .int .i64 vk, .int .i64 vn, .string vs, .slice p m q, .slice a n c] 27)).trans (hB.mono (by simp)))
  clear hB hA
  go_wp2
  go_ret2
  exact ⟨by rw [e0.out]; rfl, HB.out⟩

set_option maxRecDepth 100000 in
set_option maxHeartbeats 2000000 in
theorem resK_36 (nm : ByteArray) (vk vn : Int) (vs : ByteArray) (p : Option Addr) (m q : Nat) (a : Option Addr) (n c : Nat) (v : Value) (ks : List Int) (w : World) (hv : IsL w v ks) (hk : ks.length ≤ 1048576) :
    Calls Tryd.prog 47 #[.agg #[.int .i64 4, .int .i64 36, .string nm, .int .i64 vk, .int .i64 vn, .string vs, .slice p m q, .slice a n c], v] w fun e w' => e = .returned (.tuple #[.int .i64 (resK 36 ks).1, .bool (resK 36 ks).2]) ∧ Below w.heap.size w w' := by
  have hA := Lib.hid (fun w' hb => areAll_c ks v w' (IsL.below hv hb) hk)
  have e0 : Hid (resK 36 ks = (2, allK ks 6)) := rfl
  obtain ⟨a', c', rfl⟩ := isL_len hv
  clear hv
  go_enter Tryd.func47, Tryd.ntmps47
  go_wp2_with fail
  refine (hA.out _ (bel_al w _) 6).mono ?_
  rintro e w4 ⟨rfl, hB⟩
  have HB := Lib.hid ((bel_al w (.cells #[.int .i64 4, .int .i64 36, .string nm, .int .i64 vk, .int .i64 vn, .string vs, .slice p m q, .slice a n c] 27)).trans (hB.mono (by simp)))
  clear hB hA
  go_wp2
  go_ret2
  exact ⟨by rw [e0.out]; rfl, HB.out⟩

set_option maxRecDepth 100000 in
set_option maxHeartbeats 2000000 in
theorem resK_37 (nm : ByteArray) (vk vn : Int) (vs : ByteArray) (p : Option Addr) (m q : Nat) (a : Option Addr) (n c : Nat) (v : Value) (ks : List Int) (w : World) (hv : IsL w v ks) (hk : ks.length ≤ 1048576) :
    Calls Tryd.prog 47 #[.agg #[.int .i64 4, .int .i64 37, .string nm, .int .i64 vk, .int .i64 vn, .string vs, .slice p m q, .slice a n c], v] w fun e w' => e = .returned (.tuple #[.int .i64 (resK 37 ks).1, .bool (resK 37 ks).2]) ∧ Below w.heap.size w w' := by
  have hA := Lib.hid (fun w' hb => areAll_c ks v w' (IsL.below hv hb) hk)
  have e0 : Hid (resK 37 ks = (2, allK ks 6)) := rfl
  obtain ⟨a', c', rfl⟩ := isL_len hv
  clear hv
  go_enter Tryd.func47, Tryd.ntmps47
  go_wp2_with fail
  refine (hA.out _ (bel_al w _) 6).mono ?_
  rintro e w4 ⟨rfl, hB⟩
  have HB := Lib.hid ((bel_al w (.cells #[.int .i64 4, .int .i64 37, .string nm, .int .i64 vk, .int .i64 vn, .string vs, .slice p m q, .slice a n c] 27)).trans (hB.mono (by simp)))
  clear hB hA
  go_wp2
  go_ret2
  exact ⟨by rw [e0.out]; rfl, HB.out⟩

set_option maxRecDepth 100000 in
set_option maxHeartbeats 2000000 in
theorem resK_38 (nm : ByteArray) (vk vn : Int) (vs : ByteArray) (p : Option Addr) (m q : Nat) (a : Option Addr) (n c : Nat) (v : Value) (ks : List Int) (w : World) (hv : IsL w v ks) (hk : ks.length ≤ 1048576) :
    Calls Tryd.prog 47 #[.agg #[.int .i64 4, .int .i64 38, .string nm, .int .i64 vk, .int .i64 vn, .string vs, .slice p m q, .slice a n c], v] w fun e w' => e = .returned (.tuple #[.int .i64 (resK 38 ks).1, .bool (resK 38 ks).2]) ∧ Below w.heap.size w w' := by
  have hA := Lib.hid (fun w' hb => areAll_c ks v w' (IsL.below hv hb) hk)
  have e0 : Hid (resK 38 ks = (2, allK ks 6)) := rfl
  obtain ⟨a', c', rfl⟩ := isL_len hv
  clear hv
  go_enter Tryd.func47, Tryd.ntmps47
  go_wp2_with fail
  refine (hA.out _ (bel_al w _) 6).mono ?_
  rintro e w4 ⟨rfl, hB⟩
  have HB := Lib.hid ((bel_al w (.cells #[.int .i64 4, .int .i64 38, .string nm, .int .i64 vk, .int .i64 vn, .string vs, .slice p m q, .slice a n c] 27)).trans (hB.mono (by simp)))
  clear hB hA
  go_wp2
  go_ret2
  exact ⟨by rw [e0.out]; rfl, HB.out⟩

set_option maxRecDepth 100000 in
set_option maxHeartbeats 2000000 in
theorem resK_39 (nm : ByteArray) (vk vn : Int) (vs : ByteArray) (p : Option Addr) (m q : Nat) (a : Option Addr) (n c : Nat) (v : Value) (k0 k1 : Int) (w : World) (hv : IsL w v [k0, k1]) :
    Calls Tryd.prog 47 #[.agg #[.int .i64 4, .int .i64 39, .string nm, .int .i64 vk, .int .i64 vn, .string vs, .slice p m q, .slice a n c], v] w fun e w' => e = .returned (.tuple #[.int .i64 (resK 39 [k0, k1]).1, .bool (resK 39 [k0, k1]).2]) ∧ Below w.heap.size w w' := by
  have e0 : Hid (resK 39 [k0, k1] = (6, k0 == 6 && k1 == 2)) := rfl
  obtain ⟨b, off, c', rfl, hbl, hc⟩ := kind_cells hv (by simp)
  clear hv
  have c0 : (w.alloc (.cells #[.int .i64 4, .int .i64 39, .string nm, .int .i64 vk, .int .i64 vn, .string vs, .slice p m q, .slice a n c] 27)).cell? ⟨b, off, none⟩ = some (.int .i64 k0) := by simpa using hc _ (bel_al w _) 0 (by simp)
  have c1 : (w.alloc (.cells #[.int .i64 4, .int .i64 39, .string nm, .int .i64 vk, .int .i64 vn, .string vs, .slice p m q, .slice a n c] 27)).cell? ⟨b, off + 1, none⟩ = some (.int .i64 k1) := by simpa using hc _ (bel_al w _) 1 (by simp)
  clear hc
  by_cases h : k0 = 6
  · subst h
    go_enter Tryd.func47, Tryd.ntmps47
    go_wp2
    try (go_region; go_wp2)
    go_ret2
    exact ⟨by rw [e0.out]; first | rfl | simp, by first | exact bel_al w _ | exact below_drewN (bel_al w _) 1⟩
  · have h' : (k0 == 6) = false := by simpa using h
    clear h
    go_enter Tryd.func47, Tryd.ntmps47
    go_wp2
    try (go_region; go_wp2)
    go_ret2
    exact ⟨by rw [e0.out]; simp [h'], by first | exact bel_al w _ | exact below_drewN (bel_al w _) 1⟩

set_option maxRecDepth 100000 in
set_option maxHeartbeats 2000000 in
/-- Of an aggregate. -/
theorem resK_over (o k0 : Int) (nm : ByteArray) (vk vn : Int) (vs : ByteArray) (p : Option Addr) (m q : Nat) (a : Option Addr) (n c : Nat) (v : Value) (w : World) (hv : IsL w v [k0]) :
    Calls Tryd.prog 47 #[.agg #[.int .i64 5, .int .i64 o, .string nm, .int .i64 vk, .int .i64 vn, .string vs, .slice p m q, .slice a n c], v] w fun e w' => e = .returned (.tuple #[.int .i64 (overK o k0).1, .bool (overK o k0).2]) ∧ Below w.heap.size w w' := by
  obtain ⟨b, off, c', rfl, hbl, hc⟩ := kind_cells hv (by simp)
  clear hv
  have c0 : (w.alloc (.cells #[.int .i64 5, .int .i64 o, .string nm, .int .i64 vk, .int .i64 vn, .string vs, .slice p m q, .slice a n c] 27)).cell? ⟨b, off, none⟩ = some (.int .i64 k0) := by simpa using hc _ (bel_al w _) 0 (by simp)
  clear hc
  have h1 : (w.alloc (.cells #[.int .i64 5, .int .i64 o, .string nm, .int .i64 vk, .int .i64 vn, .string vs, .slice p m q, .slice a n c] 27)).cell? ⟨w.heap.size, 1, none⟩ = some (.int .i64 o) := by rw [World.cell?_alloc_new]; rfl
  have B0 : BoxO w b off o k0 (w.alloc (.cells #[.int .i64 5, .int .i64 o, .string nm, .int .i64 vk, .int .i64 vn, .string vs, .slice p m q, .slice a n c] 27)) := ⟨h1, c0, bel_al w _, by simp⟩
  clear c0 h1
  have HBL := Lib.hid hbl; clear hbl
  go_enter Tryd.func47, Tryd.ntmps47
  go_wp2_with fail
  generalize w.alloc (.cells #[.int .i64 5, .int .i64 o, .string nm, .int .i64 vk, .int .i64 vn, .string vs, .slice p m q, .slice a n c] 27) = W0 at B0 ⊢
  go_region_held3 (fun W => W.cell? ⟨w.heap.size, 1, none⟩ = some (.int .i64 o) ∧ W.cell? ⟨b, off, none⟩ = some (.int .i64 k0) ∧ Hid (Below w.heap.size w W ∧ w.heap.size + 1 ≤ W.heap.size)) ((first | exact BoxO.keep HBL.out B0 (Below.refl _ _).drew | assumption))
    (first | (go_at_call 70; (with_reducible refine (over_O (w := w) o k0 b off _ ?_).mono ?_); assumption; rintro e w' ⟨rfl, hbx⟩))
  have HB := Lib.hid hbx.2.2.out.1
  clear hbx
  go_wp2
  go_ret2
  exact ⟨rfl, HB.out⟩

end Go.Proofs.YtngijlmokhkdjaaDoor
