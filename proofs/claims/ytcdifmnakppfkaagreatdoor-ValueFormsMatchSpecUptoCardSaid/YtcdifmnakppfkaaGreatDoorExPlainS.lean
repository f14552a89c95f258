/-
  The texts of sums and products (made by a program).
-/
import Derived.Test.YtcdifmnakppfkaaGreatDoorExPlainO
namespace Go.Proofs.YtcdifmnakppfkaaGreatDoor
open Go.RowKit

set_option maxRecDepth 100000 in
set_option maxHeartbeats 4000000 in
theorem plain_s5 (o : Nat) (nm : ByteArray) (vk vn : Int) (vs : ByteArray) (p : Option Addr) (m q : Nat) (b off : Nat) (n c : Nat) (w : World) (ho1 : 1 ≤ o) (ho2 : o ≤ 39) (hE : Env w) (t : ByteArray) (ht : t.size ≤ 4100000) (hr : rowS 4 (o : Int) = 5) (hn : 1 < n) (hbl : b < w.heap.size) (t2 : ByteArray) (ht2 : t2.size ≤ 4100000) (g : Hd) (sp : Option Addr) (sm sq : Nat) (p' : Option Addr) (n' c' : Nat) (g0 : w.cell? ⟨b, off, none⟩ = some (.int .i64 g.k)) (g1 : w.cell? ⟨b, off + 1, none⟩ = some (.int .i64 g.o)) (g2 : w.cell? ⟨b, off + 2, none⟩ = some (.string g.nm)) (g3 : w.cell? ⟨b, off + 3, none⟩ = some (.int .i64 g.vk)) (g4 : w.cell? ⟨b, off + 4, none⟩ = some (.int .i64 g.vn)) (g5 : w.cell? ⟨b, off + 5, none⟩ = some (.string g.vs)) (g6 : w.cell? ⟨b, off + 6, none⟩ = some (.slice sp sm sq)) (g7 : w.cell? ⟨b, off + 7, none⟩ = some (.slice p' n' c')) (gg : Hd) (sp2 : Option Addr) (sm2 sq2 : Nat) (p2' : Option Addr) (n2' c2' : Nat) (k0 : w.cell? ⟨b, off + 8, none⟩ = some (.int .i64 gg.k)) (k1 : w.cell? ⟨b, off + 8 + 1, none⟩ = some (.int .i64 gg.o)) (k2 : w.cell? ⟨b, off + 8 + 2, none⟩ = some (.string gg.nm)) (k3 : w.cell? ⟨b, off + 8 + 3, none⟩ = some (.int .i64 gg.vk)) (k4 : w.cell? ⟨b, off + 8 + 4, none⟩ = some (.int .i64 gg.vn)) (k5 : w.cell? ⟨b, off + 8 + 5, none⟩ = some (.string gg.vs)) (k6 : w.cell? ⟨b, off + 8 + 6, none⟩ = some (.slice sp2 sm2 sq2)) (k7 : w.cell? ⟨b, off + 8 + 7, none⟩ = some (.slice p2' n2' c2')) (hP : ∀ W, Below w.heap.size w W → Calls Tryz.prog 11 #[.agg #[.int .i64 g.k, .int .i64 g.o, .string g.nm, .int .i64 g.vk, .int .i64 g.vn, .string g.vs, .slice sp sm sq, .slice p' n' c'], .int .i64 5] W fun e w' => e = .returned (.string t) ∧ Below W.heap.size W w') (hQ : ∀ W, Below w.heap.size w W → Calls Tryz.prog 11 #[.agg #[.int .i64 gg.k, .int .i64 gg.o, .string gg.nm, .int .i64 gg.vk, .int .i64 gg.vn, .string gg.vs, .slice sp2 sm2 sq2, .slice p2' n2' c2'], .int .i64 6] W fun e w' => e = .returned (.string t2) ∧ Below W.heap.size W w') :
    Calls Tryz.prog 20 #[.agg #[.int .i64 4, .int .i64 o, .string nm, .int .i64 vk, .int .i64 vn, .string vs, .slice p m q, .slice (some ⟨b, off, none⟩) n c]] w (fun e w' => e = .returned (.string (t ++ ⟨#[32]⟩ ++ bs (opW o) ++ ⟨#[32]⟩ ++ t2)) ∧ Below w.heap.size w w') := by
  obtain ⟨word, hword⟩ : ∃ x, x = bs (opW o) := ⟨_, rfl⟩
  have hws : word.size ≤ 8 := by rw [hword, bs_size]; exact opW_len o
  have B0 := BoxW.start hE o nm vk vn vs (.slice p m q) (.slice (some ⟨b, off, none⟩) n c) ho1 ho2 27 word hword
  have hg0 := Lib.hid (show 1 < w.heap.size by have := hE.big; omega)
  rw [← hword]
  have HR := Lib.hid hr
  clear hword hE hr
  have HO1 := Lib.hid (show (1 : Int) ≤ o by omega)
  have HO2 := Lib.hid (show (o : Int) ≤ 39 by omega)
  have ho0 : (0 : Int) ≤ o ∧ (o : Int) < 40 := by omega
  obtain ⟨ho3, ho4⟩ := ho0
  clear ho1 ho2
  have HP := Lib.hid hP; clear hP
  have HQ := Lib.hid hQ; clear hQ
  have HBL := Lib.hid hbl; clear hbl
  have hni : (0 : Int) < n ∧ (1 : Int) < n := by omega
  obtain ⟨hn1, hn2⟩ := hni
  have hn0 : 0 < n := by omega
  have wr6 : IntKind.i64.wrap 6 = 6 := by decide
  have G0 := Lib.hid g0; clear g0
  have G1 := Lib.hid g1; clear g1
  have G2 := Lib.hid g2; clear g2
  have G3 := Lib.hid g3; clear g3
  have G4 := Lib.hid g4; clear g4
  have G5 := Lib.hid g5; clear g5
  have G6 := Lib.hid g6; clear g6
  have G7 := Lib.hid g7; clear g7
  have K0 := Lib.hid k0; clear k0
  have K1 := Lib.hid k1; clear k1
  have K2 := Lib.hid k2; clear k2
  have K3 := Lib.hid k3; clear k3
  have K4 := Lib.hid k4; clear k4
  have K5 := Lib.hid k5; clear k5
  have K6 := Lib.hid k6; clear k6
  have K7 := Lib.hid k7; clear k7
  have r1 : ∀ w : World, (Op.stringOp .add t ⟨#[32]⟩).run Tryz.prog w = .ok (.string (t ++ ⟨#[32]⟩)) w := fun w => run_string_add_sum w _ _ (sz_le (by simp only [ByteArray.size_append, lit_size, List.size_toArray, List.length_cons, List.length_nil, size_one]; omega))
  have r2 : ∀ w : World, (Op.stringOp .add (t ++ ⟨#[32]⟩) word).run Tryz.prog w = .ok (.string (t ++ ⟨#[32]⟩ ++ word)) w := fun w => run_string_add_sum w _ _ (sz_le (by simp only [ByteArray.size_append, lit_size, List.size_toArray, List.length_cons, List.length_nil, size_one]; omega))
  have r3 : ∀ w : World, (Op.stringOp .add (t ++ ⟨#[32]⟩ ++ word) ⟨#[32]⟩).run Tryz.prog w = .ok (.string (t ++ ⟨#[32]⟩ ++ word ++ ⟨#[32]⟩)) w := fun w => run_string_add_sum w _ _ (sz_le (by simp only [ByteArray.size_append, lit_size, List.size_toArray, List.length_cons, List.length_nil, size_one]; omega))
  have r4 : ∀ w : World, (Op.stringOp .add (t ++ ⟨#[32]⟩ ++ word ++ ⟨#[32]⟩) t2).run Tryz.prog w = .ok (.string (t ++ ⟨#[32]⟩ ++ word ++ ⟨#[32]⟩ ++ t2)) w := fun w => run_string_add_sum w _ _ (sz_le (by simp only [ByteArray.size_append, lit_size, List.size_toArray, List.length_cons, List.length_nil, size_one]; omega))
  clear hws ht ht2
  go_enter Tryz.func20, Tryz.ntmps20
  go_wp2_with fail
  generalize w.alloc (.cells #[.int .i64 4, .int .i64 o, .string nm, .int .i64 vk, .int .i64 vn, .string vs, .slice p m q, .slice (some ⟨b, off, none⟩) n c] 27) = W0 at B0 ⊢
  go_region_held3 (fun W => W.cell? ⟨w.heap.size, 0, none⟩ = some (.int .i64 4) ∧ W.cell? ⟨w.heap.size, 1, none⟩ = some (.int .i64 (o : Int)) ∧ W.cell? ⟨w.heap.size, 2, none⟩ = some (.string nm) ∧ W.cell? ⟨w.heap.size, 3, none⟩ = some (.int .i64 vk) ∧ W.cell? ⟨w.heap.size, 4, none⟩ = some (.int .i64 vn) ∧ W.cell? ⟨w.heap.size, 5, none⟩ = some (.string vs) ∧ W.cell? ⟨w.heap.size, 6, none⟩ = some (.slice p m q) ∧ W.cell? ⟨w.heap.size, 7, none⟩ = some (.slice (some ⟨b, off, none⟩) n c) ∧ W.cell? ⟨1, o, none⟩ = some (.string word) ∧ Hid (Below w.heap.size w W ∧ w.heap.size + 1 ≤ W.heap.size)) ((first | exact BoxW.keep hg0.out B0 (Below.refl _ _).drew | assumption))
    (first | (go_at_call 21; (with_reducible refine (rowOf_W w _ (o : Int) nm vk vn vs p m q (some ⟨b, off, none⟩) n c 1 o word 5 HR HO1.out HO2.out hg0.out ?_).mono ?_); assumption; rintro e w' ⟨rfl, hbx⟩))
  have B1 : BoxU w 4 (o : Int) nm vk vn vs (.slice p m q) (.slice (some ⟨b, off, none⟩) n c) b off g (.slice sp sm sq) (.slice p' n' c') gg (.slice sp2 sm2 sq2) (.slice p2' n2' c2') w' := by
    obtain ⟨x0, x1, x2, x3, x4, x5, x6, x7, xw, hh⟩ := hbx
    have f := fun (o : Nat) => hh.out.1.cell (p := ⟨b, o, none⟩) HBL.out
    refine ⟨x0, x1, x2, x3, x4, x5, x6, x7, ?_, ?_, ?_, ?_, ?_, ?_, ?_, ?_, ?_, ?_, ?_, ?_, ?_, ?_, ?_, ?_, hh⟩
    · rw [f]; exact G0.out
    · rw [f]; exact G1.out
    · rw [f]; exact G2.out
    · rw [f]; exact G3.out
    · rw [f]; exact G4.out
    · rw [f]; exact G5.out
    · rw [f]; exact G6.out
    · rw [f]; exact G7.out
    · rw [f]; exact K0.out
    · rw [f]; exact K1.out
    · rw [f]; exact K2.out
    · rw [f]; exact K3.out
    · rw [f]; exact K4.out
    · rw [f]; exact K5.out
    · rw [f]; exact K6.out
    · rw [f]; exact K7.out
  clear hbx
  go_wp2_with fail
  go_region_held3 (fun W => W.cell? ⟨w.heap.size, 0, none⟩ = some (.int .i64 4) ∧ W.cell? ⟨w.heap.size, 1, none⟩ = some (.int .i64 (o : Int)) ∧ W.cell? ⟨w.heap.size, 2, none⟩ = some (.string nm) ∧ W.cell? ⟨w.heap.size, 3, none⟩ = some (.int .i64 vk) ∧ W.cell? ⟨w.heap.size, 4, none⟩ = some (.int .i64 vn) ∧ W.cell? ⟨w.heap.size, 5, none⟩ = some (.string vs) ∧ W.cell? ⟨w.heap.size, 6, none⟩ = some (.slice p m q) ∧ W.cell? ⟨w.heap.size, 7, none⟩ = some (.slice (some ⟨b, off, none⟩) n c) ∧ W.cell? ⟨b, off, none⟩ = some (.int .i64 g.k) ∧ W.cell? ⟨b, off + 1, none⟩ = some (.int .i64 g.o) ∧ W.cell? ⟨b, off + 2, none⟩ = some (.string g.nm) ∧ W.cell? ⟨b, off + 3, none⟩ = some (.int .i64 g.vk) ∧ W.cell? ⟨b, off + 4, none⟩ = some (.int .i64 g.vn) ∧ W.cell? ⟨b, off + 5, none⟩ = some (.string g.vs) ∧ W.cell? ⟨b, off + 6, none⟩ = some (.slice sp sm sq) ∧ W.cell? ⟨b, off + 7, none⟩ = some (.slice p' n' c') ∧ W.cell? ⟨b, off + 8, none⟩ = some (.int .i64 gg.k) ∧ W.cell? ⟨b, off + 8 + 1, none⟩ = some (.int .i64 gg.o) ∧ W.cell? ⟨b, off + 8 + 2, none⟩ = some (.string gg.nm) ∧ W.cell? ⟨b, off + 8 + 3, none⟩ = some (.int .i64 gg.vk) ∧ W.cell? ⟨b, off + 8 + 4, none⟩ = some (.int .i64 gg.vn) ∧ W.cell? ⟨b, off + 8 + 5, none⟩ = some (.string gg.vs) ∧ W.cell? ⟨b, off + 8 + 6, none⟩ = some (.slice sp2 sm2 sq2) ∧ W.cell? ⟨b, off + 8 + 7, none⟩ = some (.slice p2' n2' c2') ∧ Hid (Below w.heap.size w W ∧ w.heap.size + 1 ≤ W.heap.size)) ((first | exact BoxU.keep HBL.out B1 (Below.refl _ _).drew | assumption))
    (first | (go_at_call 11; (with_reducible refine (printed_U w _ 4 (o : Int) nm vk vn vs (.slice p m q) (.slice (some ⟨b, off, none⟩) n c) b off g (.slice sp sm sq) (.slice p' n' c') gg (.slice sp2 sm2 sq2) (.slice p2' n2' c2') HBL.out _ _ t ?_ HP).mono ?_); assumption; rintro e w' ⟨rfl, hbx⟩) | (go_at_call 11; (with_reducible refine (printed_U w _ 4 (o : Int) nm vk vn vs (.slice p m q) (.slice (some ⟨b, off, none⟩) n c) b off g (.slice sp sm sq) (.slice p' n' c') gg (.slice sp2 sm2 sq2) (.slice p2' n2' c2') HBL.out _ _ t2 ?_ HQ).mono ?_); assumption; rintro e w' ⟨rfl, hbx⟩))
  go_wp2
  go_ret
  exact ⟨rfl, hbx.bel⟩
set_option maxRecDepth 100000 in
set_option maxHeartbeats 4000000 in
theorem plain_s6 (o : Nat) (nm : ByteArray) (vk vn : Int) (vs : ByteArray) (p : Option Addr) (m q : Nat) (b off : Nat) (n c : Nat) (w : World) (ho1 : 1 ≤ o) (ho2 : o ≤ 39) (hE : Env w) (t : ByteArray) (ht : t.size ≤ 4100000) (hr : rowS 4 (o : Int) = 6) (hn : 1 < n) (hbl : b < w.heap.size) (t2 : ByteArray) (ht2 : t2.size ≤ 4100000) (g : Hd) (sp : Option Addr) (sm sq : Nat) (p' : Option Addr) (n' c' : Nat) (g0 : w.cell? ⟨b, off, none⟩ = some (.int .i64 g.k)) (g1 : w.cell? ⟨b, off + 1, none⟩ = some (.int .i64 g.o)) (g2 : w.cell? ⟨b, off + 2, none⟩ = some (.string g.nm)) (g3 : w.cell? ⟨b, off + 3, none⟩ = some (.int .i64 g.vk)) (g4 : w.cell? ⟨b, off + 4, none⟩ = some (.int .i64 g.vn)) (g5 : w.cell? ⟨b, off + 5, none⟩ = some (.string g.vs)) (g6 : w.cell? ⟨b, off + 6, none⟩ = some (.slice sp sm sq)) (g7 : w.cell? ⟨b, off + 7, none⟩ = some (.slice p' n' c')) (gg : Hd) (sp2 : Option Addr) (sm2 sq2 : Nat) (p2' : Option Addr) (n2' c2' : Nat) (k0 : w.cell? ⟨b, off + 8, none⟩ = some (.int .i64 gg.k)) (k1 : w.cell? ⟨b, off + 8 + 1, none⟩ = some (.int .i64 gg.o)) (k2 : w.cell? ⟨b, off + 8 + 2, none⟩ = some (.string gg.nm)) (k3 : w.cell? ⟨b, off + 8 + 3, none⟩ = some (.int .i64 gg.vk)) (k4 : w.cell? ⟨b, off + 8 + 4, none⟩ = some (.int .i64 gg.vn)) (k5 : w.cell? ⟨b, off + 8 + 5, none⟩ = some (.string gg.vs)) (k6 : w.cell? ⟨b, off + 8 + 6, none⟩ = some (.slice sp2 sm2 sq2)) (k7 : w.cell? ⟨b, off + 8 + 7, none⟩ = some (.slice p2' n2' c2')) (hP : ∀ W, Below w.heap.size w W → Calls Tryz.prog 11 #[.agg #[.int .i64 g.k, .int .i64 g.o, .string g.nm, .int .i64 g.vk, .int .i64 g.vn, .string g.vs, .slice sp sm sq, .slice p' n' c'], .int .i64 6] W fun e w' => e = .returned (.string t) ∧ Below W.heap.size W w') (hQ : ∀ W, Below w.heap.size w W → Calls Tryz.prog 11 #[.agg #[.int .i64 gg.k, .int .i64 gg.o, .string gg.nm, .int .i64 gg.vk, .int .i64 gg.vn, .string gg.vs, .slice sp2 sm2 sq2, .slice p2' n2' c2'], .int .i64 7] W fun e w' => e = .returned (.string t2) ∧ Below W.heap.size W w') :
    Calls Tryz.prog 20 #[.agg #[.int .i64 4, .int .i64 o, .string nm, .int .i64 vk, .int .i64 vn, .string vs, .slice p m q, .slice (some ⟨b, off, none⟩) n c]] w (fun e w' => e = .returned (.string (t ++ ⟨#[32]⟩ ++ bs (opW o) ++ ⟨#[32]⟩ ++ t2)) ∧ Below w.heap.size w w') := by
  obtain ⟨word, hword⟩ : ∃ x, x = bs (opW o) := ⟨_, rfl⟩
  have hws : word.size ≤ 8 := by rw [hword, bs_size]; exact opW_len o
  have B0 := BoxW.start hE o nm vk vn vs (.slice p m q) (.slice (some ⟨b, off, none⟩) n c) ho1 ho2 27 word hword
  have hg0 := Lib.hid (show 1 < w.heap.size by have := hE.big; omega)
  rw [← hword]
  have HR := Lib.hid hr
  clear hword hE hr
  have HO1 := Lib.hid (show (1 : Int) ≤ o by omega)
  have HO2 := Lib.hid (show (o : Int) ≤ 39 by omega)
  have ho0 : (0 : Int) ≤ o ∧ (o : Int) < 40 := by omega
  obtain ⟨ho3, ho4⟩ := ho0
  clear ho1 ho2
  have HP := Lib.hid hP; clear hP
  have HQ := Lib.hid hQ; clear hQ
  have HBL := Lib.hid hbl; clear hbl
  have hni : (0 : Int) < n ∧ (1 : Int) < n := by omega
  obtain ⟨hn1, hn2⟩ := hni
  have hn0 : 0 < n := by omega
  have wr6 : IntKind.i64.wrap 7 = 7 := by decide
  have G0 := Lib.hid g0; clear g0
  have G1 := Lib.hid g1; clear g1
  have G2 := Lib.hid g2; clear g2
  have G3 := Lib.hid g3; clear g3
  have G4 := Lib.hid g4; clear g4
  have G5 := Lib.hid g5; clear g5
  have G6 := Lib.hid g6; clear g6
  have G7 := Lib.hid g7; clear g7
  have K0 := Lib.hid k0; clear k0
  have K1 := Lib.hid k1; clear k1
  have K2 := Lib.hid k2; clear k2
  have K3 := Lib.hid k3; clear k3
  have K4 := Lib.hid k4; clear k4
  have K5 := Lib.hid k5; clear k5
  have K6 := Lib.hid k6; clear k6
  have K7 := Lib.hid k7; clear k7
  have r1 : ∀ w : World, (Op.stringOp .add t ⟨#[32]⟩).run Tryz.prog w = .ok (.string (t ++ ⟨#[32]⟩)) w := fun w => run_string_add_sum w _ _ (sz_le (by simp only [ByteArray.size_append, lit_size, List.size_toArray, List.length_cons, List.length_nil, size_one]; omega))
  have r2 : ∀ w : World, (Op.stringOp .add (t ++ ⟨#[32]⟩) word).run Tryz.prog w = .ok (.string (t ++ ⟨#[32]⟩ ++ word)) w := fun w => run_string_add_sum w _ _ (sz_le (by simp only [ByteArray.size_append, lit_size, List.size_toArray, List.length_cons, List.length_nil, size_one]; omega))
  have r3 : ∀ w : World, (Op.stringOp .add (t ++ ⟨#[32]⟩ ++ word) ⟨#[32]⟩).run Tryz.prog w = .ok (.string (t ++ ⟨#[32]⟩ ++ word ++ ⟨#[32]⟩)) w := fun w => run_string_add_sum w _ _ (sz_le (by simp only [ByteArray.size_append, lit_size, List.size_toArray, List.length_cons, List.length_nil, size_one]; omega))
  have r4 : ∀ w : World, (Op.stringOp .add (t ++ ⟨#[32]⟩ ++ word ++ ⟨#[32]⟩) t2).run Tryz.prog w = .ok (.string (t ++ ⟨#[32]⟩ ++ word ++ ⟨#[32]⟩ ++ t2)) w := fun w => run_string_add_sum w _ _ (sz_le (by simp only [ByteArray.size_append, lit_size, List.size_toArray, List.length_cons, List.length_nil, size_one]; omega))
  clear hws ht ht2
  go_enter Tryz.func20, Tryz.ntmps20
  go_wp2_with fail
  generalize w.alloc (.cells #[.int .i64 4, .int .i64 o, .string nm, .int .i64 vk, .int .i64 vn, .string vs, .slice p m q, .slice (some ⟨b, off, none⟩) n c] 27) = W0 at B0 ⊢
  go_region_held3 (fun W => W.cell? ⟨w.heap.size, 0, none⟩ = some (.int .i64 4) ∧ W.cell? ⟨w.heap.size, 1, none⟩ = some (.int .i64 (o : Int)) ∧ W.cell? ⟨w.heap.size, 2, none⟩ = some (.string nm) ∧ W.cell? ⟨w.heap.size, 3, none⟩ = some (.int .i64 vk) ∧ W.cell? ⟨w.heap.size, 4, none⟩ = some (.int .i64 vn) ∧ W.cell? ⟨w.heap.size, 5, none⟩ = some (.string vs) ∧ W.cell? ⟨w.heap.size, 6, none⟩ = some (.slice p m q) ∧ W.cell? ⟨w.heap.size, 7, none⟩ = some (.slice (some ⟨b, off, none⟩) n c) ∧ W.cell? ⟨1, o, none⟩ = some (.string word) ∧ Hid (Below w.heap.size w W ∧ w.heap.size + 1 ≤ W.heap.size)) ((first | exact BoxW.keep hg0.out B0 (Below.refl _ _).drew | assumption))
    (first | (go_at_call 21; (with_reducible refine (rowOf_W w _ (o : Int) nm vk vn vs p m q (some ⟨b, off, none⟩) n c 1 o word 6 HR HO1.out HO2.out hg0.out ?_).mono ?_); assumption; rintro e w' ⟨rfl, hbx⟩))
  have B1 : BoxU w 4 (o : Int) nm vk vn vs (.slice p m q) (.slice (some ⟨b, off, none⟩) n c) b off g (.slice sp sm sq) (.slice p' n' c') gg (.slice sp2 sm2 sq2) (.slice p2' n2' c2') w' := by
    obtain ⟨x0, x1, x2, x3, x4, x5, x6, x7, xw, hh⟩ := hbx
    have f := fun (o : Nat) => hh.out.1.cell (p := ⟨b, o, none⟩) HBL.out
    refine ⟨x0, x1, x2, x3, x4, x5, x6, x7, ?_, ?_, ?_, ?_, ?_, ?_, ?_, ?_, ?_, ?_, ?_, ?_, ?_, ?_, ?_, ?_, hh⟩
    · rw [f]; exact G0.out
    · rw [f]; exact G1.out
    · rw [f]; exact G2.out
    · rw [f]; exact G3.out
    · rw [f]; exact G4.out
    · rw [f]; exact G5.out
    · rw [f]; exact G6.out
    · rw [f]; exact G7.out
    · rw [f]; exact K0.out
    · rw [f]; exact K1.out
    · rw [f]; exact K2.out
    · rw [f]; exact K3.out
    · rw [f]; exact K4.out
    · rw [f]; exact K5.out
    · rw [f]; exact K6.out
    · rw [f]; exact K7.out
  clear hbx
  go_wp2_with fail
  go_region_held3 (fun W => W.cell? ⟨w.heap.size, 0, none⟩ = some (.int .i64 4) ∧ W.cell? ⟨w.heap.size, 1, none⟩ = some (.int .i64 (o : Int)) ∧ W.cell? ⟨w.heap.size, 2, none⟩ = some (.string nm) ∧ W.cell? ⟨w.heap.size, 3, none⟩ = some (.int .i64 vk) ∧ W.cell? ⟨w.heap.size, 4, none⟩ = some (.int .i64 vn) ∧ W.cell? ⟨w.heap.size, 5, none⟩ = some (.string vs) ∧ W.cell? ⟨w.heap.size, 6, none⟩ = some (.slice p m q) ∧ W.cell? ⟨w.heap.size, 7, none⟩ = some (.slice (some ⟨b, off, none⟩) n c) ∧ W.cell? ⟨b, off, none⟩ = some (.int .i64 g.k) ∧ W.cell? ⟨b, off + 1, none⟩ = some (.int .i64 g.o) ∧ W.cell? ⟨b, off + 2, none⟩ = some (.string g.nm) ∧ W.cell? ⟨b, off + 3, none⟩ = some (.int .i64 g.vk) ∧ W.cell? ⟨b, off + 4, none⟩ = some (.int .i64 g.vn) ∧ W.cell? ⟨b, off + 5, none⟩ = some (.string g.vs) ∧ W.cell? ⟨b, off + 6, none⟩ = some (.slice sp sm sq) ∧ W.cell? ⟨b, off + 7, none⟩ = some (.slice p' n' c') ∧ W.cell? ⟨b, off + 8, none⟩ = some (.int .i64 gg.k) ∧ W.cell? ⟨b, off + 8 + 1, none⟩ = some (.int .i64 gg.o) ∧ W.cell? ⟨b, off + 8 + 2, none⟩ = some (.string gg.nm) ∧ W.cell? ⟨b, off + 8 + 3, none⟩ = some (.int .i64 gg.vk) ∧ W.cell? ⟨b, off + 8 + 4, none⟩ = some (.int .i64 gg.vn) ∧ W.cell? ⟨b, off + 8 + 5, none⟩ = some (.string gg.vs) ∧ W.cell? ⟨b, off + 8 + 6, none⟩ = some (.slice sp2 sm2 sq2) ∧ W.cell? ⟨b, off + 8 + 7, none⟩ = some (.slice p2' n2' c2') ∧ Hid (Below w.heap.size w W ∧ w.heap.size + 1 ≤ W.heap.size)) ((first | exact BoxU.keep HBL.out B1 (Below.refl _ _).drew | assumption))
    (first | (go_at_call 11; (with_reducible refine (printed_U w _ 4 (o : Int) nm vk vn vs (.slice p m q) (.slice (some ⟨b, off, none⟩) n c) b off g (.slice sp sm sq) (.slice p' n' c') gg (.slice sp2 sm2 sq2) (.slice p2' n2' c2') HBL.out _ _ t ?_ HP).mono ?_); assumption; rintro e w' ⟨rfl, hbx⟩) | (go_at_call 11; (with_reducible refine (printed_U w _ 4 (o : Int) nm vk vn vs (.slice p m q) (.slice (some ⟨b, off, none⟩) n c) b off g (.slice sp sm sq) (.slice p' n' c') gg (.slice sp2 sm2 sq2) (.slice p2' n2' c2') HBL.out _ _ t2 ?_ HQ).mono ?_); assumption; rintro e w' ⟨rfl, hbx⟩))
  go_wp2
  go_ret
  exact ⟨rfl, hbx.bel⟩
end Go.Proofs.YtcdifmnakppfkaaGreatDoor
