/-
  ValueFormsMatchSpec: the walk of the law.
-/
import Derived.Test.YtcdifmnakppfkaaGreatDoorExRNames
import Derived.Test.YtcdifmnakppfkaaGreatDoorExRPrint
namespace Go.Proofs.YtcdifmnakppfkaaGreatDoor
open Go.RowKit

/-- Two rows of the same texts are equal. -/
theorem equalS (v v' : Value) (L : List (List UInt8)) (hL : L.length ≤ 3000000) (w : World) (h : IsS w v L) (h' : IsS w v' L) :
    Calls Tryz.prog 8 #[v, v'] w fun e w' => e = .returned (.bool true) ∧ Below w.heap.size w w' := by
  rcases h with ⟨a, c, rfl, rfl⟩ | ⟨b, cap, rfl, h0, _, hc⟩
  · rcases h' with ⟨a', c', rfl, _⟩ | ⟨b', cap', _, h0, _⟩
    · exact (Tryz.slices_Equal_string_empty a a' c 0 c' w (by omega)).mono fun e w' ⟨he, hw⟩ => ⟨by rw [he]; rfl, by rw [hw]; exact Below.refl _ _⟩
    · simp at h0
  · rcases h' with ⟨a', c', _, rfl⟩ | ⟨b', cap', rfl, _, _, hc'⟩
    · simp at h0
    · refine (Tryz.slices_Equal_string b 0 L.length cap b' 0 L.length cap' (L.map bs) (L.map bs) w (by simp) (by simp) (by omega) (by omega) (fun j hj => ?_) (fun j hj => ?_)).mono fun e w' ⟨he, q, hw⟩ => ⟨?_, ?_⟩
      · rw [List.length_map] at hj; rw [Nat.zero_add, hc j hj]; simp [hj]
      · rw [List.length_map] at hj; rw [Nat.zero_add, hc' j hj]; simp [hj]
      · rw [he]; simp
      · rw [hw]; exact below_drewN (Below.refl _ _) q
section
variable {w W : World} {h : Hd} {xs : Fo} {p : Option Addr} {m q : Nat} {a : Option Addr} {c : Nat}
abbrev LawBox (w : World) (h : Hd) (xs : Fo) (p : Option Addr) (m q : Nat) (a : Option Addr) (c : Nat) (W : World) : Prop := Box1 w h.k h.o h.nm h.vk h.vn h.vs (.slice p m q) (.slice a xs.len c) W
abbrev exV (h : Hd) (xs : Fo) (p : Option Addr) (m q : Nat) (a : Option Addr) (c : Nat) : Value := .agg #[.int .i64 h.k, .int .i64 h.o, .string h.nm, .int .i64 h.vk, .int .i64 h.vn, .string h.vs, .slice p m q, .slice a xs.len c]
theorem chk_L (x : Int) (hxe : Hid (x = exprS h xs)) (hx : Hid (IsX w h xs (exV h xs p m q a c))) (hp : xs.parts ≤ 1048576) (hz : h.vs.size ≤ 9223372036854775807) (hf : Hid xs.fine) (hS : Box1 w h.k h.o h.nm h.vk h.vn h.vs (.slice p m q) (.slice a xs.len c) W) :
    Calls Tryz.prog 6 #[exV h xs p m q a c] W fun e w' => e = .returned (.int .i64 x) ∧ Box1 w h.k h.o h.nm h.vk h.vn h.vs (.slice p m q) (.slice a xs.len c) w' :=
  (checkExpr_c W h xs _ W hp hz hf.out (hx.out.below hS.bel) (Below.refl _ _)).mono fun e w' ⟨he, hb⟩ => ⟨by rw [he, hxe.out], hS.keep hb⟩
theorem rchk_L (x : Int) (hxe : Hid (x = exprS h xs)) (hE : Hid (Env w)) (hx : Hid (IsX w h xs (exV h xs p m q a c))) (hp : xs.parts ≤ 1048576) (hz : h.vs.size ≤ 9223372036854775807) (hf : Hid xs.fine) (hS : Box1 w h.k h.o h.nm h.vk h.vn h.vs (.slice p m q) (.slice a xs.len c) W) :
    Calls Tryz.prog 7 #[exV h xs p m q a c] W fun e w' => e = .returned (.int .i64 x) ∧ Box1 w h.k h.o h.nm h.vk h.vn h.vs (.slice p m q) (.slice a xs.len c) w' :=
  (rCheckExpr_c W (hE.out.below hS.bel) h xs _ W hp hz hf.out (hx.out.below hS.bel) (Below.refl _ _)).mono fun e w' ⟨he, hb⟩ => ⟨by rw [he, hxe.out], hS.keep hb⟩
theorem nam_L (hx : Hid (IsX w h xs (exV h xs p m q a c))) (hp : xs.parts ≤ 1048576) (hS : Box1 w h.k h.o h.nm h.vk h.vn h.vs (.slice p m q) (.slice a xs.len c) W) :
    Calls Tryz.prog 9 #[exV h xs p m q a c] W fun e w' => ∃ v', e = .returned v' ∧ Hid (IsS w' v' (canon (nms1 h xs))) ∧ Box1 w h.k h.o h.nm h.vk h.vn h.vs (.slice p m q) (.slice a xs.len c) w' :=
  (names_c W h xs _ W hp (hx.out.below hS.bel) (Below.refl _ _)).mono fun e w' ⟨v', he, hs, hb⟩ => ⟨v', he, hs, hS.keep hb.out⟩
theorem rnam_L (v1 : Value) (hx : Hid (IsX w h xs (exV h xs p m q a c))) (hp : xs.parts ≤ 1048576) (h1 : Hid (IsS W v1 (canon (nms1 h xs)))) (hS : Box1 w h.k h.o h.nm h.vk h.vn h.vs (.slice p m q) (.slice a xs.len c) W) :
    Calls Tryz.prog 10 #[exV h xs p m q a c] W fun e w' => ∃ v', e = .returned v' ∧ Hid (IsS w' v1 (canon (nms1 h xs)) ∧ IsS w' v' (canon (nms1 h xs))) ∧ Box1 w h.k h.o h.nm h.vk h.vn h.vs (.slice p m q) (.slice a xs.len c) w' :=
  (rnames_c W h xs _ W (hx.out.below hS.bel) (Below.refl _ _) hp).mono fun e w' ⟨v', he, hs⟩ => ⟨v', he, ⟨h1.out.below hs.out.bel, hs.out.row.isS⟩, hS.keep hs.out.bel⟩
theorem eq_L (v1 v2 : Value) (hp : xs.parts ≤ 1048576) (h1 : Hid (IsS W v1 (canon (nms1 h xs)) ∧ IsS W v2 (canon (nms1 h xs)))) (hS : Box1 w h.k h.o h.nm h.vk h.vn h.vs (.slice p m q) (.slice a xs.len c) W) :
    Calls Tryz.prog 8 #[v1, v2] W fun e w' => e = .returned (.bool true) ∧ Box1 w h.k h.o h.nm h.vk h.vn h.vs (.slice p m q) (.slice a xs.len c) w' :=
  (equalS v1 v2 _ (by have := canon_len (nms1 h xs); have := nms1_len h xs; omega) W h1.out.1 h1.out.2).mono fun e w' ⟨he, hb⟩ => ⟨he, hS.keep hb⟩
end

set_option maxRecDepth 100000 in
set_option maxHeartbeats 16000000 in
theorem law_forms (h : Hd) (xs : Fo) (v : Value) (w : World) (hE : Env w) (hx : IsX w h xs v) (hp : xs.parts ≤ 1048576) (hz : h.vs.size ≤ 9223372036854775807) (hf : xs.fine) :
    Calls Tryz.prog 3 #[v] w fun e w' => e = .returned (.bool true) ∧ Below w.heap.size w w' := by
  have hx0 := hx
  obtain ⟨sv, a, n, c, rfl, hL, rfl, hs⟩ := hx
  obtain ⟨p, m, q, rfl⟩ := hL.form
  clear hL hs
  have HX := Lib.hid (show IsX w h xs (exV h xs p m q a c) from hx0)
  have HE := Lib.hid hE
  have HF := Lib.hid hf
  have hb1 := (Below.refl w.heap.size w).alloc (Nat.le_refl _) (.cells #[.int .i64 h.k, .int .i64 h.o, .string h.nm, .int .i64 h.vk, .int .i64 h.vn, .string h.vs, .slice p m q, .slice a xs.len c] 27)
  have hP := print_c _ (hE.below hb1) h xs _ _ hp hz hf (hx0.below hb1) (Below.refl _ _)
  have HR := Lib.hid (fun W (hB : Below w.heap.size w W) => rPrint_c W (hE.below hB) h xs _ W hp hz hf (hx0.below hB) (Below.refl _ _))
  have B0 := Box1.start w h.k h.o h.nm h.vk h.vn h.vs (.slice p m q) (.slice a xs.len c) 27
  have HP := Lib.hid hP
  have HBB := Lib.hid hb1
  clear hP hx0 hE hf hb1
  obtain ⟨x, hxe⟩ : ∃ x, x = exprS h xs := ⟨_, rfl⟩
  have HXE := Lib.hid hxe; clear hxe
  generalize printO h xs = s at HP HR
  generalize printF h xs = f at HP HR
  go_enter Tryz.func3, Tryz.ntmps3
  go_wp2_with fail
  refine HP.out.mono ?_
  rintro e w1 ⟨rfl, hB⟩
  have B1 := Lib.hid (B0.keep hB)
  obtain ⟨bc, bf⟩ := bcell hB
  clear hB B0
  go_wp2_with fail
  refine (HR.out _ B1.out.bel).mono ?_
  rintro e w2 ⟨rfl, hB⟩
  have B2 := B1.out.keep hB
  clear hB bc bf B1
  go_wp2_with fail
  go_region_held3 (fun W => W.cell? ⟨w.heap.size, 0, none⟩ = some (.int .i64 h.k) ∧ W.cell? ⟨w.heap.size, 1, none⟩ = some (.int .i64 h.o) ∧ W.cell? ⟨w.heap.size, 2, none⟩ = some (.string h.nm) ∧ W.cell? ⟨w.heap.size, 3, none⟩ = some (.int .i64 h.vk) ∧ W.cell? ⟨w.heap.size, 4, none⟩ = some (.int .i64 h.vn) ∧ W.cell? ⟨w.heap.size, 5, none⟩ = some (.string h.vs) ∧ W.cell? ⟨w.heap.size, 6, none⟩ = some (.slice p m q) ∧ W.cell? ⟨w.heap.size, 7, none⟩ = some (.slice a xs.len c) ∧ Hid (Below w.heap.size w W ∧ w.heap.size + 1 ≤ W.heap.size)) ((first | exact B2.keep (Below.refl _ _).drew | assumption))
    (first | (go_at_call 6; (with_reducible refine (chk_L x HXE HX hp hz HF ?_).mono ?_); assumption; rintro e w' ⟨rfl, hbx⟩) | (go_at_call 7; (with_reducible refine (rchk_L x HXE HE HX hp hz HF ?_).mono ?_); assumption; rintro e w' ⟨rfl, hbx⟩) | (go_at_call 9; (with_reducible refine (nam_L HX hp ?_).mono ?_); assumption; rintro e w' ⟨v1, rfl, hS1, hbx⟩) | (go_at_call 10; (with_reducible refine (rnam_L v1 HX hp hS1 ?_).mono ?_); assumption; rintro e w' ⟨v2, rfl, hS2, hbx⟩) | (go_at_call 8; (with_reducible refine (eq_L (w := w) (h := h) (xs := xs) (p := p) (m := m) (q := q) (a := a) (c := c) v1 v2 hp hS2 ?_).mono ?_); assumption; rintro e w' ⟨rfl, hbx⟩))
  go_wp2
  go_ret
  exact ⟨rfl, hbx.bel⟩
end Go.Proofs.YtcdifmnakppfkaaGreatDoor
