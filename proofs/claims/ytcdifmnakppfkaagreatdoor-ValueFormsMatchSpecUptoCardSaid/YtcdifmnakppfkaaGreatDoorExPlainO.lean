/-
  The texts of operations and aggregates (made by a program).
  The texts of operations (made by a program).
-/
import Derived.Test.YtcdifmnakppfkaaGreatDoorExBox
namespace Go.Proofs.YtcdifmnakppfkaaGreatDoor
open Go.RowKit

theorem sz_le {n : Nat} (h : n ≤ 10000000) : n ≤ 9223372036854775807 := by omega
theorem lit_size (a : Array UInt8) : ByteArray.size ⟨a⟩ = a.size := rfl
theorem size_one (b : UInt8) : (#[b] : Array UInt8).size = 1 := rfl
theorem printed_V (w W : World) (k o : Int) (nm : ByteArray) (vk vn : Int) (vs : ByteArray) (sv av : Value) (gb go : Nat) (word : ByteArray) (b off : Nat) (g : Hd) (gs ga : Value) (hg : gb < w.heap.size) (hb0 : b < w.heap.size) (v0 : Value) (r : Int) (t : ByteArray) (hS : BoxV w k o nm vk vn vs sv av gb go word b off g gs ga W)
    (hP : Hid (∀ W, Below w.heap.size w W → Calls Tryz.prog 11 #[v0, .int .i64 r] W fun e w' => e = .returned (.string t) ∧ Below W.heap.size W w')) :
    Calls Tryz.prog 11 #[v0, .int .i64 r] W fun e w' => e = .returned (.string t) ∧ BoxV w k o nm vk vn vs sv av gb go word b off g gs ga w' :=
  (hP.out W hS.bel).mono fun e w' ⟨he, hb⟩ => ⟨he, BoxV.keep hg hb0 hS hb⟩
set_option maxRecDepth 100000 in
set_option maxHeartbeats 4000000 in
theorem plain_5 (o : Nat) (nm : ByteArray) (vk vn : Int) (vs : ByteArray) (p : Option Addr) (m q : Nat) (b off n c : Nat) (w : World) (hn : 0 < n) (ho1 : 1 ≤ o) (ho6 : o ≤ 6)
    (g : Hd) (sp : Option Addr) (sm sq : Nat) (p' : Option Addr) (n' c' : Nat) (hbl : b < w.heap.size) (hE : Env w) (hnm : nm.size ≤ 16) (t : ByteArray) (ht : t.size ≤ 5000000)
    (g0 : w.cell? ⟨b, off, none⟩ = some (.int .i64 g.k)) (g1 : w.cell? ⟨b, off + 1, none⟩ = some (.int .i64 g.o)) (g2 : w.cell? ⟨b, off + 2, none⟩ = some (.string g.nm)) (g3 : w.cell? ⟨b, off + 3, none⟩ = some (.int .i64 g.vk)) (g4 : w.cell? ⟨b, off + 4, none⟩ = some (.int .i64 g.vn)) (g5 : w.cell? ⟨b, off + 5, none⟩ = some (.string g.vs)) (g6 : w.cell? ⟨b, off + 6, none⟩ = some (.slice sp sm sq)) (g7 : w.cell? ⟨b, off + 7, none⟩ = some (.slice p' n' c'))
    (hP : Hid (∀ W, Below w.heap.size w W → Calls Tryz.prog 11 #[.agg #[.int .i64 g.k, .int .i64 g.o, .string g.nm, .int .i64 g.vk, .int .i64 g.vn, .string g.vs, .slice sp sm sq, .slice p' n' c'], .int .i64 1] W fun e w' => e = .returned (.string t) ∧ Below W.heap.size W w')) :
    Calls Tryz.prog 20 #[.agg #[.int .i64 5, .int .i64 o, .string nm, .int .i64 vk, .int .i64 vn, .string vs, .slice p m q, .slice (some ⟨b, off, none⟩) n c]] w (fun e w' => e = .returned (.string (bs (overW o) ++ bs [40] ++ nm ++ bs [58, 32] ++ t ++ bs [41])) ∧ Below w.heap.size w w') := by
  obtain ⟨word, hword⟩ : ∃ x, x = bs (overW o) := ⟨_, rfl⟩
  have hws : word.size ≤ 8 := by rw [hword, bs_size]; exact overW_len o
  have c9 := hE.ovs o ho1 ho6
  rw [← hword] at c9
  rw [← hword]
  have hbig := hE.big
  have hg0 : 0 < w.heap.size := by omega
  have B0 : BoxV w 5 (o : Int) nm vk vn vs (.slice p m q) (.slice (some ⟨b, off, none⟩) n c) 0 o word b off g (.slice sp sm sq) (.slice p' n' c') (w.alloc (.cells #[.int .i64 5, .int .i64 o, .string nm, .int .i64 vk, .int .i64 vn, .string vs, .slice p m q, .slice (some ⟨b, off, none⟩) n c] 27)) := by
    obtain ⟨x0, x1, x2, x3, x4, x5, x6, x7, hh⟩ := Box1.start w 5 o nm vk vn vs (.slice p m q) (.slice (some ⟨b, off, none⟩) n c) 27
    have f := fun (g o : Nat) (hg : g < w.heap.size) => hh.out.1.cell (p := ⟨g, o, none⟩) hg
    refine ⟨x0, x1, x2, x3, x4, x5, x6, x7, ?_, ?_, ?_, ?_, ?_, ?_, ?_, ?_, ?_, hh⟩
    all_goals (rw [f _ _ (by omega)]; assumption)
  clear hword hE c9 g0 g1 g2 g3 g4 g5 g6 g7 hbig
  have HG := Lib.hid hg0; clear hg0
  have HBL := Lib.hid hbl; clear hbl
  have hoi : (0 : Int) ≤ o ∧ (o : Int) < 7 := by omega
  obtain ⟨hoi1, hoi2⟩ := hoi
  have hni : (0 : Int) < n := by omega
  have r1 : ∀ w : World, (Op.stringOp .add word ⟨#[40]⟩).run Tryz.prog w = .ok (.string (word ++ ⟨#[40]⟩)) w := fun w => run_string_add_sum w _ _ (sz_le (show word.size + 1 ≤ 10000000 by omega))
  have r2 : ∀ w : World, (Op.stringOp .add (word ++ ⟨#[40]⟩) nm).run Tryz.prog w = .ok (.string (word ++ ⟨#[40]⟩ ++ nm)) w := fun w => run_string_add_sum w _ _ (sz_le (by simp [ByteArray.size_append, lit_size]; omega))
  have r3 : ∀ w : World, (Op.stringOp .add (word ++ ⟨#[40]⟩ ++ nm) ⟨#[58, 32]⟩).run Tryz.prog w = .ok (.string (word ++ ⟨#[40]⟩ ++ nm ++ ⟨#[58, 32]⟩)) w := fun w => run_string_add_sum w _ _ (sz_le (by simp [ByteArray.size_append, lit_size]; omega))
  have r4 : ∀ w : World, (Op.stringOp .add (word ++ ⟨#[40]⟩ ++ nm ++ ⟨#[58, 32]⟩) t).run Tryz.prog w = .ok (.string (word ++ ⟨#[40]⟩ ++ nm ++ ⟨#[58, 32]⟩ ++ t)) w := fun w => run_string_add_sum w _ _ (sz_le (by simp [ByteArray.size_append, lit_size]; omega))
  have r5 : ∀ w : World, (Op.stringOp .add (word ++ ⟨#[40]⟩ ++ nm ++ ⟨#[58, 32]⟩ ++ t) ⟨#[41]⟩).run Tryz.prog w = .ok (.string (word ++ ⟨#[40]⟩ ++ nm ++ ⟨#[58, 32]⟩ ++ t ++ ⟨#[41]⟩)) w := fun w => run_string_add_sum w _ _ (sz_le (by simp [ByteArray.size_append, lit_size]; omega))
  clear hws hnm ht
  go_enter Tryz.func20, Tryz.ntmps20
  go_wp2_with fail
  generalize w.alloc (.cells #[.int .i64 5, .int .i64 o, .string nm, .int .i64 vk, .int .i64 vn, .string vs, .slice p m q, .slice (some ⟨b, off, none⟩) n c] 27) = W0 at B0 ⊢
  go_region_held3 (fun W => W.cell? ⟨w.heap.size, 0, none⟩ = some (.int .i64 5) ∧ W.cell? ⟨w.heap.size, 1, none⟩ = some (.int .i64 (o : Int)) ∧ W.cell? ⟨w.heap.size, 2, none⟩ = some (.string nm) ∧ W.cell? ⟨w.heap.size, 3, none⟩ = some (.int .i64 vk) ∧ W.cell? ⟨w.heap.size, 4, none⟩ = some (.int .i64 vn) ∧ W.cell? ⟨w.heap.size, 5, none⟩ = some (.string vs) ∧ W.cell? ⟨w.heap.size, 6, none⟩ = some (.slice p m q) ∧ W.cell? ⟨w.heap.size, 7, none⟩ = some (.slice (some ⟨b, off, none⟩) n c) ∧ W.cell? ⟨0, o, none⟩ = some (.string word) ∧ W.cell? ⟨b, off, none⟩ = some (.int .i64 g.k) ∧ W.cell? ⟨b, off + 1, none⟩ = some (.int .i64 g.o) ∧ W.cell? ⟨b, off + 2, none⟩ = some (.string g.nm) ∧ W.cell? ⟨b, off + 3, none⟩ = some (.int .i64 g.vk) ∧ W.cell? ⟨b, off + 4, none⟩ = some (.int .i64 g.vn) ∧ W.cell? ⟨b, off + 5, none⟩ = some (.string g.vs) ∧ W.cell? ⟨b, off + 6, none⟩ = some (.slice sp sm sq) ∧ W.cell? ⟨b, off + 7, none⟩ = some (.slice p' n' c') ∧ Hid (Below w.heap.size w W ∧ w.heap.size + 1 ≤ W.heap.size)) ((first | exact BoxV.keep HG.out HBL.out B0 (Below.refl _ _).drew | assumption))
    (first | (go_at_call 11; (with_reducible refine (printed_V w _ 5 (o : Int) nm vk vn vs (.slice p m q) (.slice (some ⟨b, off, none⟩) n c) 0 o word b off g (.slice sp sm sq) (.slice p' n' c') HG.out HBL.out _ _ t ?_ hP).mono ?_); assumption; rintro e w' ⟨rfl, hbx⟩))
  go_wp2
  go_ret
  exact ⟨rfl, hbx.bel⟩
end Go.Proofs.YtcdifmnakppfkaaGreatDoor

namespace Go.Proofs.YtcdifmnakppfkaaGreatDoor
open Go.RowKit

theorem rowOf_W (w W : World) (o : Int) (nm : ByteArray) (vk vn : Int) (vs : ByteArray) (p : Option Addr) (m q : Nat) (a : Option Addr) (n c : Nat) (gb go : Nat) (word : ByteArray) (r : Int) (hr : Hid (rowS 4 o = r)) (h1 : 1 ≤ o) (h2 : o ≤ 39) (hg : gb < w.heap.size)
    (hS : BoxW w 4 o nm vk vn vs (.slice p m q) (.slice a n c) gb go word W) :
    Calls Tryz.prog 21 #[.agg #[.int .i64 4, .int .i64 o, .string nm, .int .i64 vk, .int .i64 vn, .string vs, .slice p m q, .slice a n c]] W fun e w' => e = .returned (.int .i64 r) ∧ BoxW w 4 o nm vk vn vs (.slice p m q) (.slice a n c) gb go word w' := by
  rw [← hr.out]
  exact (rowOf_c 4 o nm vk vn vs p m q a n c W (.inr ⟨h1, h2⟩)).mono fun e w' ⟨he, hb⟩ => ⟨he, BoxW.keep hg hS hb⟩
theorem BoxW.start {w : World} (hE : Env w) (o : Nat) (nm : ByteArray) (vk vn : Int) (vs : ByteArray) (sv av : Value) (h1 : 1 ≤ o) (h2 : o ≤ 39) (t : TypeId) (word : ByteArray) (hw : word = bs (opW o)) :
    BoxW w 4 (o : Int) nm vk vn vs sv av 1 o word (w.alloc (.cells #[.int .i64 4, .int .i64 o, .string nm, .int .i64 vk, .int .i64 vn, .string vs, sv, av] t)) := by
  have hbig := hE.big
  have c9 := hE.ops o h1 h2
  rw [← hw] at c9
  obtain ⟨x0, x1, x2, x3, x4, x5, x6, x7, hh⟩ := Box1.start w 4 o nm vk vn vs sv av t
  have f := fun (g o : Nat) (hg : g < w.heap.size) => hh.out.1.cell (p := ⟨g, o, none⟩) hg
  refine ⟨x0, x1, x2, x3, x4, x5, x6, x7, ?_, hh⟩
  rw [f _ _ (by omega)]; exact c9
theorem printed_U (w W : World) (k o : Int) (nm : ByteArray) (vk vn : Int) (vs : ByteArray) (sv av : Value) (b off : Nat) (g : Hd) (gs ga : Value) (g2 : Hd) (gs2 ga2 : Value) (hb0 : b < w.heap.size) (v0 : Value) (r : Int) (t : ByteArray) (hS : BoxU w k o nm vk vn vs sv av b off g gs ga g2 gs2 ga2 W)
    (hP : Hid (∀ W, Below w.heap.size w W → Calls Tryz.prog 11 #[v0, .int .i64 r] W fun e w' => e = .returned (.string t) ∧ Below W.heap.size W w')) :
    Calls Tryz.prog 11 #[v0, .int .i64 r] W fun e w' => e = .returned (.string t) ∧ BoxU w k o nm vk vn vs sv av b off g gs ga g2 gs2 ga2 w' :=
  (hP.out W hS.bel).mono fun e w' ⟨he, hb⟩ => ⟨he, BoxU.keep hb0 hS hb⟩
set_option maxRecDepth 100000 in
set_option maxHeartbeats 4000000 in
theorem plain_j1 (o : Nat) (nm : ByteArray) (vk vn : Int) (vs : ByteArray) (p : Option Addr) (m q : Nat) (a : Option Addr) (n c : Nat) (w : World) (ho1 : 1 ≤ o) (ho2 : o ≤ 39) (hE : Env w) (t : ByteArray) (ht : t.size ≤ 4100000) (hr : rowS 4 (o : Int) = 1) (hJ : ∀ W, Below w.heap.size w W → Calls Tryz.prog 33 #[.slice a n c, .int .i64 2, .string (⟨#[32]⟩ ++ bs (opW o) ++ ⟨#[32]⟩)] W fun e w' => e = .returned (.string t) ∧ Below W.heap.size W w') :
    Calls Tryz.prog 20 #[.agg #[.int .i64 4, .int .i64 o, .string nm, .int .i64 vk, .int .i64 vn, .string vs, .slice p m q, .slice a n c]] w (fun e w' => e = .returned (.string (t)) ∧ Below w.heap.size w w') := by
  obtain ⟨word, hword⟩ : ∃ x, x = bs (opW o) := ⟨_, rfl⟩
  have hws : word.size ≤ 8 := by rw [hword, bs_size]; exact opW_len o
  have B0 := BoxW.start hE o nm vk vn vs (.slice p m q) (.slice a n c) ho1 ho2 27 word hword
  have hg0 := Lib.hid (show 1 < w.heap.size by have := hE.big; omega)
  skip
  have HR := Lib.hid hr
  rw [← hword] at hJ
  clear hword hE hr
  have HO1 := Lib.hid (show (1 : Int) ≤ o by omega)
  have HO2 := Lib.hid (show (o : Int) ≤ 39 by omega)
  have ho0 : (0 : Int) ≤ o ∧ (o : Int) < 40 := by omega
  obtain ⟨ho3, ho4⟩ := ho0
  clear ho1 ho2
  have HJ := Lib.hid hJ; clear hJ
  have u1 : 1 + word.size ≤ 10000000 := by omega
  clear ht
  go_enter Tryz.func20, Tryz.ntmps20
  go_wp2_with fail
  generalize w.alloc (.cells #[.int .i64 4, .int .i64 o, .string nm, .int .i64 vk, .int .i64 vn, .string vs, .slice p m q, .slice a n c] 27) = W0 at B0 ⊢
  go_region_held3 (fun W => W.cell? ⟨w.heap.size, 0, none⟩ = some (.int .i64 4) ∧ W.cell? ⟨w.heap.size, 1, none⟩ = some (.int .i64 (o : Int)) ∧ W.cell? ⟨w.heap.size, 2, none⟩ = some (.string nm) ∧ W.cell? ⟨w.heap.size, 3, none⟩ = some (.int .i64 vk) ∧ W.cell? ⟨w.heap.size, 4, none⟩ = some (.int .i64 vn) ∧ W.cell? ⟨w.heap.size, 5, none⟩ = some (.string vs) ∧ W.cell? ⟨w.heap.size, 6, none⟩ = some (.slice p m q) ∧ W.cell? ⟨w.heap.size, 7, none⟩ = some (.slice a n c) ∧ W.cell? ⟨1, o, none⟩ = some (.string word) ∧ Hid (Below w.heap.size w W ∧ w.heap.size + 1 ≤ W.heap.size)) ((first | exact BoxW.keep hg0.out B0 (Below.refl _ _).drew | assumption))
    (first | (go_at_call 21; (with_reducible refine (rowOf_W w _ (o : Int) nm vk vn vs p m q a n c 1 o word 1 HR HO1.out HO2.out hg0.out ?_).mono ?_); assumption; rintro e w' ⟨rfl, hbx⟩))
  obtain ⟨x0, x1, x2, x3, x4, x5, x6, x7, xw, hh⟩ := hbx
  have HB := Lib.hid hh.out.1
  clear hh
  go_wp2_with fail
  refine (HJ.out _ HB.out).mono ?_
  rintro e1 w2 ⟨rfl, hB⟩
  have HB2 := Lib.hid (HB.out.trans (hB.mono HB.out.size)); clear hB
  go_wp2
  go_ret
  exact ⟨rfl, HB2.out⟩
set_option maxRecDepth 100000 in
set_option maxHeartbeats 4000000 in
theorem plain_j2 (o : Nat) (nm : ByteArray) (vk vn : Int) (vs : ByteArray) (p : Option Addr) (m q : Nat) (a : Option Addr) (n c : Nat) (w : World) (ho1 : 1 ≤ o) (ho2 : o ≤ 39) (hE : Env w) (t : ByteArray) (ht : t.size ≤ 4100000) (hr : rowS 4 (o : Int) = 2) (hJ : ∀ W, Below w.heap.size w W → Calls Tryz.prog 33 #[.slice a n c, .int .i64 3, .string (⟨#[32]⟩ ++ bs (opW o) ++ ⟨#[32]⟩)] W fun e w' => e = .returned (.string t) ∧ Below W.heap.size W w') :
    Calls Tryz.prog 20 #[.agg #[.int .i64 4, .int .i64 o, .string nm, .int .i64 vk, .int .i64 vn, .string vs, .slice p m q, .slice a n c]] w (fun e w' => e = .returned (.string (t)) ∧ Below w.heap.size w w') := by
  obtain ⟨word, hword⟩ : ∃ x, x = bs (opW o) := ⟨_, rfl⟩
  have hws : word.size ≤ 8 := by rw [hword, bs_size]; exact opW_len o
  have B0 := BoxW.start hE o nm vk vn vs (.slice p m q) (.slice a n c) ho1 ho2 27 word hword
  have hg0 := Lib.hid (show 1 < w.heap.size by have := hE.big; omega)
  skip
  have HR := Lib.hid hr
  rw [← hword] at hJ
  clear hword hE hr
  have HO1 := Lib.hid (show (1 : Int) ≤ o by omega)
  have HO2 := Lib.hid (show (o : Int) ≤ 39 by omega)
  have ho0 : (0 : Int) ≤ o ∧ (o : Int) < 40 := by omega
  obtain ⟨ho3, ho4⟩ := ho0
  clear ho1 ho2
  have HJ := Lib.hid hJ; clear hJ
  have u1 : 1 + word.size ≤ 10000000 := by omega
  clear ht
  go_enter Tryz.func20, Tryz.ntmps20
  go_wp2_with fail
  generalize w.alloc (.cells #[.int .i64 4, .int .i64 o, .string nm, .int .i64 vk, .int .i64 vn, .string vs, .slice p m q, .slice a n c] 27) = W0 at B0 ⊢
  go_region_held3 (fun W => W.cell? ⟨w.heap.size, 0, none⟩ = some (.int .i64 4) ∧ W.cell? ⟨w.heap.size, 1, none⟩ = some (.int .i64 (o : Int)) ∧ W.cell? ⟨w.heap.size, 2, none⟩ = some (.string nm) ∧ W.cell? ⟨w.heap.size, 3, none⟩ = some (.int .i64 vk) ∧ W.cell? ⟨w.heap.size, 4, none⟩ = some (.int .i64 vn) ∧ W.cell? ⟨w.heap.size, 5, none⟩ = some (.string vs) ∧ W.cell? ⟨w.heap.size, 6, none⟩ = some (.slice p m q) ∧ W.cell? ⟨w.heap.size, 7, none⟩ = some (.slice a n c) ∧ W.cell? ⟨1, o, none⟩ = some (.string word) ∧ Hid (Below w.heap.size w W ∧ w.heap.size + 1 ≤ W.heap.size)) ((first | exact BoxW.keep hg0.out B0 (Below.refl _ _).drew | assumption))
    (first | (go_at_call 21; (with_reducible refine (rowOf_W w _ (o : Int) nm vk vn vs p m q a n c 1 o word 2 HR HO1.out HO2.out hg0.out ?_).mono ?_); assumption; rintro e w' ⟨rfl, hbx⟩))
  obtain ⟨x0, x1, x2, x3, x4, x5, x6, x7, xw, hh⟩ := hbx
  have HB := Lib.hid hh.out.1
  clear hh
  go_wp2_with fail
  refine (HJ.out _ HB.out).mono ?_
  rintro e1 w2 ⟨rfl, hB⟩
  have HB2 := Lib.hid (HB.out.trans (hB.mono HB.out.size)); clear hB
  go_wp2
  go_ret
  exact ⟨rfl, HB2.out⟩
set_option maxRecDepth 100000 in
set_option maxHeartbeats 4000000 in
theorem plain_j4 (o : Nat) (nm : ByteArray) (vk vn : Int) (vs : ByteArray) (p : Option Addr) (m q : Nat) (a : Option Addr) (n c : Nat) (w : World) (ho1 : 1 ≤ o) (ho2 : o ≤ 39) (hE : Env w) (t : ByteArray) (ht : t.size ≤ 4100000) (hr : rowS 4 (o : Int) = 4) (hJ : ∀ W, Below w.heap.size w W → Calls Tryz.prog 33 #[.slice a n c, .int .i64 5, .string (⟨#[32]⟩ ++ bs (opW o) ++ ⟨#[32]⟩)] W fun e w' => e = .returned (.string t) ∧ Below W.heap.size W w') :
    Calls Tryz.prog 20 #[.agg #[.int .i64 4, .int .i64 o, .string nm, .int .i64 vk, .int .i64 vn, .string vs, .slice p m q, .slice a n c]] w (fun e w' => e = .returned (.string (t)) ∧ Below w.heap.size w w') := by
  obtain ⟨word, hword⟩ : ∃ x, x = bs (opW o) := ⟨_, rfl⟩
  have hws : word.size ≤ 8 := by rw [hword, bs_size]; exact opW_len o
  have B0 := BoxW.start hE o nm vk vn vs (.slice p m q) (.slice a n c) ho1 ho2 27 word hword
  have hg0 := Lib.hid (show 1 < w.heap.size by have := hE.big; omega)
  skip
  have HR := Lib.hid hr
  rw [← hword] at hJ
  clear hword hE hr
  have HO1 := Lib.hid (show (1 : Int) ≤ o by omega)
  have HO2 := Lib.hid (show (o : Int) ≤ 39 by omega)
  have ho0 : (0 : Int) ≤ o ∧ (o : Int) < 40 := by omega
  obtain ⟨ho3, ho4⟩ := ho0
  clear ho1 ho2
  have HJ := Lib.hid hJ; clear hJ
  have u1 : 1 + word.size ≤ 10000000 := by omega
  clear ht
  go_enter Tryz.func20, Tryz.ntmps20
  go_wp2_with fail
  generalize w.alloc (.cells #[.int .i64 4, .int .i64 o, .string nm, .int .i64 vk, .int .i64 vn, .string vs, .slice p m q, .slice a n c] 27) = W0 at B0 ⊢
  go_region_held3 (fun W => W.cell? ⟨w.heap.size, 0, none⟩ = some (.int .i64 4) ∧ W.cell? ⟨w.heap.size, 1, none⟩ = some (.int .i64 (o : Int)) ∧ W.cell? ⟨w.heap.size, 2, none⟩ = some (.string nm) ∧ W.cell? ⟨w.heap.size, 3, none⟩ = some (.int .i64 vk) ∧ W.cell? ⟨w.heap.size, 4, none⟩ = some (.int .i64 vn) ∧ W.cell? ⟨w.heap.size, 5, none⟩ = some (.string vs) ∧ W.cell? ⟨w.heap.size, 6, none⟩ = some (.slice p m q) ∧ W.cell? ⟨w.heap.size, 7, none⟩ = some (.slice a n c) ∧ W.cell? ⟨1, o, none⟩ = some (.string word) ∧ Hid (Below w.heap.size w W ∧ w.heap.size + 1 ≤ W.heap.size)) ((first | exact BoxW.keep hg0.out B0 (Below.refl _ _).drew | assumption))
    (first | (go_at_call 21; (with_reducible refine (rowOf_W w _ (o : Int) nm vk vn vs p m q a n c 1 o word 4 HR HO1.out HO2.out hg0.out ?_).mono ?_); assumption; rintro e w' ⟨rfl, hbx⟩))
  obtain ⟨x0, x1, x2, x3, x4, x5, x6, x7, xw, hh⟩ := hbx
  have HB := Lib.hid hh.out.1
  clear hh
  go_wp2_with fail
  refine (HJ.out _ HB.out).mono ?_
  rintro e1 w2 ⟨rfl, hB⟩
  have HB2 := Lib.hid (HB.out.trans (hB.mono HB.out.size)); clear hB
  go_wp2
  go_ret
  exact ⟨rfl, HB2.out⟩
set_option maxRecDepth 100000 in
set_option maxHeartbeats 4000000 in
theorem plain_f8 (o : Nat) (nm : ByteArray) (vk vn : Int) (vs : ByteArray) (p : Option Addr) (m q : Nat) (a : Option Addr) (n c : Nat) (w : World) (ho1 : 1 ≤ o) (ho2 : o ≤ 39) (hE : Env w) (t : ByteArray) (ht : t.size ≤ 4100000) (hr : rowS 4 (o : Int) = 8) (hJ : ∀ W, Below w.heap.size w W → Calls Tryz.prog 33 #[.slice a n c, .int .i64 1, .string ⟨#[44, 32]⟩] W fun e w' => e = .returned (.string t) ∧ Below W.heap.size W w') :
    Calls Tryz.prog 20 #[.agg #[.int .i64 4, .int .i64 o, .string nm, .int .i64 vk, .int .i64 vn, .string vs, .slice p m q, .slice a n c]] w (fun e w' => e = .returned (.string (bs (opW o) ++ ⟨#[40]⟩ ++ t ++ ⟨#[41]⟩)) ∧ Below w.heap.size w w') := by
  obtain ⟨word, hword⟩ : ∃ x, x = bs (opW o) := ⟨_, rfl⟩
  have hws : word.size ≤ 8 := by rw [hword, bs_size]; exact opW_len o
  have B0 := BoxW.start hE o nm vk vn vs (.slice p m q) (.slice a n c) ho1 ho2 27 word hword
  have hg0 := Lib.hid (show 1 < w.heap.size by have := hE.big; omega)
  rw [← hword]
  have HR := Lib.hid hr
  clear hword hE hr
  have HO1 := Lib.hid (show (1 : Int) ≤ o by omega)
  have HO2 := Lib.hid (show (o : Int) ≤ 39 by omega)
  have ho0 : (0 : Int) ≤ o ∧ (o : Int) < 40 := by omega
  obtain ⟨ho3, ho4⟩ := ho0
  clear ho1 ho2
  have HJ := Lib.hid hJ; clear hJ
  go_enter Tryz.func20, Tryz.ntmps20
  go_wp2_with fail
  generalize w.alloc (.cells #[.int .i64 4, .int .i64 o, .string nm, .int .i64 vk, .int .i64 vn, .string vs, .slice p m q, .slice a n c] 27) = W0 at B0 ⊢
  go_region_held3 (fun W => W.cell? ⟨w.heap.size, 0, none⟩ = some (.int .i64 4) ∧ W.cell? ⟨w.heap.size, 1, none⟩ = some (.int .i64 (o : Int)) ∧ W.cell? ⟨w.heap.size, 2, none⟩ = some (.string nm) ∧ W.cell? ⟨w.heap.size, 3, none⟩ = some (.int .i64 vk) ∧ W.cell? ⟨w.heap.size, 4, none⟩ = some (.int .i64 vn) ∧ W.cell? ⟨w.heap.size, 5, none⟩ = some (.string vs) ∧ W.cell? ⟨w.heap.size, 6, none⟩ = some (.slice p m q) ∧ W.cell? ⟨w.heap.size, 7, none⟩ = some (.slice a n c) ∧ W.cell? ⟨1, o, none⟩ = some (.string word) ∧ Hid (Below w.heap.size w W ∧ w.heap.size + 1 ≤ W.heap.size)) ((first | exact BoxW.keep hg0.out B0 (Below.refl _ _).drew | assumption))
    (first | (go_at_call 21; (with_reducible refine (rowOf_W w _ (o : Int) nm vk vn vs p m q a n c 1 o word 8 HR HO1.out HO2.out hg0.out ?_).mono ?_); assumption; rintro e w' ⟨rfl, hbx⟩))
  obtain ⟨x0, x1, x2, x3, x4, x5, x6, x7, xw, hh⟩ := hbx
  have HB := Lib.hid hh.out.1
  clear hh
  go_wp2_with fail
  refine (HJ.out _ HB.out).mono ?_
  rintro e1 w2 ⟨rfl, hB⟩
  have HB2 := Lib.hid (HB.out.trans (hB.mono HB.out.size)); clear hB
  go_wp2
  go_ret
  exact ⟨rfl, HB2.out⟩
set_option maxRecDepth 100000 in
set_option maxHeartbeats 4000000 in
theorem plain_a3 (o : Nat) (nm : ByteArray) (vk vn : Int) (vs : ByteArray) (p : Option Addr) (m q : Nat) (b off : Nat) (n c : Nat) (w : World) (ho1 : 1 ≤ o) (ho2 : o ≤ 39) (hE : Env w) (t : ByteArray) (ht : t.size ≤ 4100000) (hr : rowS 4 (o : Int) = 3) (hn : 0 < n) (hbl : Hid (b < w.heap.size)) (g : Hd) (sp : Option Addr) (sm sq : Nat) (p' : Option Addr) (n' c' : Nat) (g0 : w.cell? ⟨b, off, none⟩ = some (.int .i64 g.k)) (g1 : w.cell? ⟨b, off + 1, none⟩ = some (.int .i64 g.o)) (g2 : w.cell? ⟨b, off + 2, none⟩ = some (.string g.nm)) (g3 : w.cell? ⟨b, off + 3, none⟩ = some (.int .i64 g.vk)) (g4 : w.cell? ⟨b, off + 4, none⟩ = some (.int .i64 g.vn)) (g5 : w.cell? ⟨b, off + 5, none⟩ = some (.string g.vs)) (g6 : w.cell? ⟨b, off + 6, none⟩ = some (.slice sp sm sq)) (g7 : w.cell? ⟨b, off + 7, none⟩ = some (.slice p' n' c')) (hJ : ∀ W, Below w.heap.size w W → Calls Tryz.prog 11 #[.agg #[.int .i64 g.k, .int .i64 g.o, .string g.nm, .int .i64 g.vk, .int .i64 g.vn, .string g.vs, .slice sp sm sq, .slice p' n' c'], .int .i64 3] W fun e w' => e = .returned (.string t) ∧ Below W.heap.size W w') :
    Calls Tryz.prog 20 #[.agg #[.int .i64 4, .int .i64 o, .string nm, .int .i64 vk, .int .i64 vn, .string vs, .slice p m q, .slice (some ⟨b, off, none⟩) n c]] w (fun e w' => e = .returned (.string (bs (opW o) ++ ⟨#[32]⟩ ++ t)) ∧ Below w.heap.size w w') := by
  obtain ⟨word, hword⟩ : ∃ x, x = bs (opW o) := ⟨_, rfl⟩
  have hws : word.size ≤ 8 := by rw [hword, bs_size]; exact opW_len o
  have B0 := BoxW.start hE o nm vk vn vs (.slice p m q) (.slice (some ⟨b, off, none⟩) n c) ho1 ho2 27 word hword
  have hg0 := Lib.hid (show 1 < w.heap.size by have := hE.big; omega)
  rw [← hword]
  have HR := Lib.hid hr
  clear hword hE hr
  have HO1 := Lib.hid (show (1 : Int) ≤ o by omega)
  have HO2 := Lib.hid (show (o : Int) ≤ 39 by omega)
  have ho0 : (0 : Int) ≤ o ∧ (o : Int) < 40 := by omega
  obtain ⟨ho3, ho4⟩ := ho0
  clear ho1 ho2
  have HJ := Lib.hid hJ; clear hJ
  have hni : (0 : Int) < n := by omega
  have G0 := Lib.hid g0; clear g0
  have G1 := Lib.hid g1; clear g1
  have G2 := Lib.hid g2; clear g2
  have G3 := Lib.hid g3; clear g3
  have G4 := Lib.hid g4; clear g4
  have G5 := Lib.hid g5; clear g5
  have G6 := Lib.hid g6; clear g6
  have G7 := Lib.hid g7; clear g7
  go_enter Tryz.func20, Tryz.ntmps20
  go_wp2_with fail
  generalize w.alloc (.cells #[.int .i64 4, .int .i64 o, .string nm, .int .i64 vk, .int .i64 vn, .string vs, .slice p m q, .slice (some ⟨b, off, none⟩) n c] 27) = W0 at B0 ⊢
  go_region_held3 (fun W => W.cell? ⟨w.heap.size, 0, none⟩ = some (.int .i64 4) ∧ W.cell? ⟨w.heap.size, 1, none⟩ = some (.int .i64 (o : Int)) ∧ W.cell? ⟨w.heap.size, 2, none⟩ = some (.string nm) ∧ W.cell? ⟨w.heap.size, 3, none⟩ = some (.int .i64 vk) ∧ W.cell? ⟨w.heap.size, 4, none⟩ = some (.int .i64 vn) ∧ W.cell? ⟨w.heap.size, 5, none⟩ = some (.string vs) ∧ W.cell? ⟨w.heap.size, 6, none⟩ = some (.slice p m q) ∧ W.cell? ⟨w.heap.size, 7, none⟩ = some (.slice (some ⟨b, off, none⟩) n c) ∧ W.cell? ⟨1, o, none⟩ = some (.string word) ∧ Hid (Below w.heap.size w W ∧ w.heap.size + 1 ≤ W.heap.size)) ((first | exact BoxW.keep hg0.out B0 (Below.refl _ _).drew | assumption))
    (first | (go_at_call 21; (with_reducible refine (rowOf_W w _ (o : Int) nm vk vn vs p m q (some ⟨b, off, none⟩) n c 1 o word 3 HR HO1.out HO2.out hg0.out ?_).mono ?_); assumption; rintro e w' ⟨rfl, hbx⟩))
  obtain ⟨x0, x1, x2, x3, x4, x5, x6, x7, xw, hh⟩ := hbx
  have HB := Lib.hid hh.out.1
  clear hh
  have f0 := (HB.out.cell (p := ⟨b, off, none⟩) hbl.out).trans G0.out
  have f1 := (HB.out.cell (p := ⟨b, off + 1, none⟩) hbl.out).trans G1.out
  have f2 := (HB.out.cell (p := ⟨b, off + 2, none⟩) hbl.out).trans G2.out
  have f3 := (HB.out.cell (p := ⟨b, off + 3, none⟩) hbl.out).trans G3.out
  have f4 := (HB.out.cell (p := ⟨b, off + 4, none⟩) hbl.out).trans G4.out
  have f5 := (HB.out.cell (p := ⟨b, off + 5, none⟩) hbl.out).trans G5.out
  have f6 := (HB.out.cell (p := ⟨b, off + 6, none⟩) hbl.out).trans G6.out
  have f7 := (HB.out.cell (p := ⟨b, off + 7, none⟩) hbl.out).trans G7.out
  go_wp2_with fail
  refine (HJ.out _ HB.out).mono ?_
  rintro e1 w2 ⟨rfl, hB⟩
  have HB2 := Lib.hid (HB.out.trans (hB.mono HB.out.size)); clear hB
  go_wp2
  go_ret
  exact ⟨rfl, HB2.out⟩
set_option maxRecDepth 100000 in
set_option maxHeartbeats 4000000 in
theorem plain_a7 (o : Nat) (nm : ByteArray) (vk vn : Int) (vs : ByteArray) (p : Option Addr) (m q : Nat) (b off : Nat) (n c : Nat) (w : World) (ho1 : 1 ≤ o) (ho2 : o ≤ 39) (hE : Env w) (t : ByteArray) (ht : t.size ≤ 4100000) (hr : rowS 4 (o : Int) = 7) (hn : 0 < n) (hbl : Hid (b < w.heap.size)) (g : Hd) (sp : Option Addr) (sm sq : Nat) (p' : Option Addr) (n' c' : Nat) (g0 : w.cell? ⟨b, off, none⟩ = some (.int .i64 g.k)) (g1 : w.cell? ⟨b, off + 1, none⟩ = some (.int .i64 g.o)) (g2 : w.cell? ⟨b, off + 2, none⟩ = some (.string g.nm)) (g3 : w.cell? ⟨b, off + 3, none⟩ = some (.int .i64 g.vk)) (g4 : w.cell? ⟨b, off + 4, none⟩ = some (.int .i64 g.vn)) (g5 : w.cell? ⟨b, off + 5, none⟩ = some (.string g.vs)) (g6 : w.cell? ⟨b, off + 6, none⟩ = some (.slice sp sm sq)) (g7 : w.cell? ⟨b, off + 7, none⟩ = some (.slice p' n' c')) (hJ : ∀ W, Below w.heap.size w W → Calls Tryz.prog 34 #[.agg #[.int .i64 g.k, .int .i64 g.o, .string g.nm, .int .i64 g.vk, .int .i64 g.vn, .string g.vs, .slice sp sm sq, .slice p' n' c']] W fun e w' => e = .returned (.string t) ∧ Below W.heap.size W w') :
    Calls Tryz.prog 20 #[.agg #[.int .i64 4, .int .i64 o, .string nm, .int .i64 vk, .int .i64 vn, .string vs, .slice p m q, .slice (some ⟨b, off, none⟩) n c]] w (fun e w' => e = .returned (.string (bs (opW o) ++ t)) ∧ Below w.heap.size w w') := by
  obtain ⟨word, hword⟩ : ∃ x, x = bs (opW o) := ⟨_, rfl⟩
  have hws : word.size ≤ 8 := by rw [hword, bs_size]; exact opW_len o
  have B0 := BoxW.start hE o nm vk vn vs (.slice p m q) (.slice (some ⟨b, off, none⟩) n c) ho1 ho2 27 word hword
  have hg0 := Lib.hid (show 1 < w.heap.size by have := hE.big; omega)
  rw [← hword]
  have HR := Lib.hid hr
  clear hword hE hr
  have HO1 := Lib.hid (show (1 : Int) ≤ o by omega)
  have HO2 := Lib.hid (show (o : Int) ≤ 39 by omega)
  have ho0 : (0 : Int) ≤ o ∧ (o : Int) < 40 := by omega
  obtain ⟨ho3, ho4⟩ := ho0
  clear ho1 ho2
  have HJ := Lib.hid hJ; clear hJ
  have hni : (0 : Int) < n := by omega
  have G0 := Lib.hid g0; clear g0
  have G1 := Lib.hid g1; clear g1
  have G2 := Lib.hid g2; clear g2
  have G3 := Lib.hid g3; clear g3
  have G4 := Lib.hid g4; clear g4
  have G5 := Lib.hid g5; clear g5
  have G6 := Lib.hid g6; clear g6
  have G7 := Lib.hid g7; clear g7
  go_enter Tryz.func20, Tryz.ntmps20
  go_wp2_with fail
  generalize w.alloc (.cells #[.int .i64 4, .int .i64 o, .string nm, .int .i64 vk, .int .i64 vn, .string vs, .slice p m q, .slice (some ⟨b, off, none⟩) n c] 27) = W0 at B0 ⊢
  go_region_held3 (fun W => W.cell? ⟨w.heap.size, 0, none⟩ = some (.int .i64 4) ∧ W.cell? ⟨w.heap.size, 1, none⟩ = some (.int .i64 (o : Int)) ∧ W.cell? ⟨w.heap.size, 2, none⟩ = some (.string nm) ∧ W.cell? ⟨w.heap.size, 3, none⟩ = some (.int .i64 vk) ∧ W.cell? ⟨w.heap.size, 4, none⟩ = some (.int .i64 vn) ∧ W.cell? ⟨w.heap.size, 5, none⟩ = some (.string vs) ∧ W.cell? ⟨w.heap.size, 6, none⟩ = some (.slice p m q) ∧ W.cell? ⟨w.heap.size, 7, none⟩ = some (.slice (some ⟨b, off, none⟩) n c) ∧ W.cell? ⟨1, o, none⟩ = some (.string word) ∧ Hid (Below w.heap.size w W ∧ w.heap.size + 1 ≤ W.heap.size)) ((first | exact BoxW.keep hg0.out B0 (Below.refl _ _).drew | assumption))
    (first | (go_at_call 21; (with_reducible refine (rowOf_W w _ (o : Int) nm vk vn vs p m q (some ⟨b, off, none⟩) n c 1 o word 7 HR HO1.out HO2.out hg0.out ?_).mono ?_); assumption; rintro e w' ⟨rfl, hbx⟩))
  obtain ⟨x0, x1, x2, x3, x4, x5, x6, x7, xw, hh⟩ := hbx
  have HB := Lib.hid hh.out.1
  clear hh
  have f0 := (HB.out.cell (p := ⟨b, off, none⟩) hbl.out).trans G0.out
  have f1 := (HB.out.cell (p := ⟨b, off + 1, none⟩) hbl.out).trans G1.out
  have f2 := (HB.out.cell (p := ⟨b, off + 2, none⟩) hbl.out).trans G2.out
  have f3 := (HB.out.cell (p := ⟨b, off + 3, none⟩) hbl.out).trans G3.out
  have f4 := (HB.out.cell (p := ⟨b, off + 4, none⟩) hbl.out).trans G4.out
  have f5 := (HB.out.cell (p := ⟨b, off + 5, none⟩) hbl.out).trans G5.out
  have f6 := (HB.out.cell (p := ⟨b, off + 6, none⟩) hbl.out).trans G6.out
  have f7 := (HB.out.cell (p := ⟨b, off + 7, none⟩) hbl.out).trans G7.out
  go_wp2_with fail
  refine (HJ.out _ HB.out).mono ?_
  rintro e1 w2 ⟨rfl, hB⟩
  have HB2 := Lib.hid (HB.out.trans (hB.mono HB.out.size)); clear hB
  go_wp2
  go_ret
  exact ⟨rfl, HB2.out⟩
end Go.Proofs.YtcdifmnakppfkaaGreatDoor
