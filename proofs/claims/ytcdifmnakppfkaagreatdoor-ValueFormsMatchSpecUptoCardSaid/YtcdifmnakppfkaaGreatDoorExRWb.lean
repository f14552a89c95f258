/-
  The texts of expressions in the reference (made by a program).
-/
import Derived.Test.YtcdifmnakppfkaaGreatDoorExRJoin
import Derived.Test.YtcdifmnakppfkaaGreatDoorExRName
import Derived.Test.YtcdifmnakppfkaaGreatDoorExPlainS
import Derived.Test.YtcdifmnakppfkaaGreatDoorTxtRefShown
namespace Go.Proofs.YtcdifmnakppfkaaGreatDoor
open Go.RowKit

def BoxC (w : World) (o : Int) (nm : ByteArray) (vk vn : Int) (vs : ByteArray) (sv av : Value) (g : Hd) (gs ga : Value) (b off : Nat) (gg : Hd) (gs2 ga2 : Value) (W : World) : Prop := (fun W => W.cell? ⟨w.heap.size, 0, none⟩ = some (.int .i64 4) ∧ W.cell? ⟨w.heap.size, 1, none⟩ = some (.int .i64 o) ∧ W.cell? ⟨w.heap.size, 2, none⟩ = some (.string nm) ∧ W.cell? ⟨w.heap.size, 3, none⟩ = some (.int .i64 vk) ∧ W.cell? ⟨w.heap.size, 4, none⟩ = some (.int .i64 vn) ∧ W.cell? ⟨w.heap.size, 5, none⟩ = some (.string vs) ∧ W.cell? ⟨w.heap.size, 6, none⟩ = some (sv) ∧ W.cell? ⟨w.heap.size, 7, none⟩ = some (av) ∧ W.cell? ⟨w.heap.size + 1, 0, none⟩ = some (.int .i64 g.k) ∧ W.cell? ⟨w.heap.size + 1, 1, none⟩ = some (.int .i64 g.o) ∧ W.cell? ⟨w.heap.size + 1, 2, none⟩ = some (.string g.nm) ∧ W.cell? ⟨w.heap.size + 1, 3, none⟩ = some (.int .i64 g.vk) ∧ W.cell? ⟨w.heap.size + 1, 4, none⟩ = some (.int .i64 g.vn) ∧ W.cell? ⟨w.heap.size + 1, 5, none⟩ = some (.string g.vs) ∧ W.cell? ⟨w.heap.size + 1, 6, none⟩ = some (gs) ∧ W.cell? ⟨w.heap.size + 1, 7, none⟩ = some (ga) ∧ W.cell? ⟨b, off + 8, none⟩ = some (.int .i64 gg.k) ∧ W.cell? ⟨b, off + 8 + 1, none⟩ = some (.int .i64 gg.o) ∧ W.cell? ⟨b, off + 8 + 2, none⟩ = some (.string gg.nm) ∧ W.cell? ⟨b, off + 8 + 3, none⟩ = some (.int .i64 gg.vk) ∧ W.cell? ⟨b, off + 8 + 4, none⟩ = some (.int .i64 gg.vn) ∧ W.cell? ⟨b, off + 8 + 5, none⟩ = some (.string gg.vs) ∧ W.cell? ⟨b, off + 8 + 6, none⟩ = some (gs2) ∧ W.cell? ⟨b, off + 8 + 7, none⟩ = some (ga2) ∧ Hid (Below w.heap.size w W ∧ w.heap.size + 2 ≤ W.heap.size)) W
theorem BoxC.bel {w W : World} {o : Int} {nm : ByteArray} {vk vn : Int} {vs : ByteArray} {sv av : Value} {g : Hd} {gs ga : Value} {b off : Nat} {gg : Hd} {gs2 ga2 : Value} (h : BoxC w o nm vk vn vs sv av g gs ga b off gg gs2 ga2 W) : Below w.heap.size w W := by
  obtain ⟨_, _, _, _, _, _, _, _, _, _, _, _, _, _, _, _, _, _, _, _, _, _, _, _, hh⟩ := h
  exact hh.out.1
theorem BoxC.keep {w W W' : World} {o : Int} {nm : ByteArray} {vk vn : Int} {vs : ByteArray} {sv av : Value} {g : Hd} {gs ga : Value} {b off : Nat} {gg : Hd} {gs2 ga2 : Value} (hb0 : b < w.heap.size) (h : BoxC w o nm vk vn vs sv av g gs ga b off gg gs2 ga2 W) (hb : Below W.heap.size W W') : BoxC w o nm vk vn vs sv av g gs ga b off gg gs2 ga2 W' := by
  obtain ⟨a0, a1, a2, a3, a4, a5, a6, a7, a8, a9, a10, a11, a12, a13, a14, a15, a16, a17, a18, a19, a20, a21, a22, a23, hh⟩ := h
  obtain ⟨hB, hs⟩ := hh.out
  have f := fun (g o : Nat) (hg : g < W.heap.size) => hb.cell (p := ⟨g, o, none⟩) hg
  refine ⟨?_, ?_, ?_, ?_, ?_, ?_, ?_, ?_, ?_, ?_, ?_, ?_, ?_, ?_, ?_, ?_, ?_, ?_, ?_, ?_, ?_, ?_, ?_, ?_, hB.trans (hb.mono hB.size), Nat.le_trans hs hb.size⟩
  all_goals (rw [f _ _ (by omega)]; assumption)
theorem inside_C (w W : World) (o : Int) (nm : ByteArray) (vk vn : Int) (vs : ByteArray) (sv av : Value) (g : Hd) (gs ga : Value) (b off : Nat) (gg : Hd) (gs2 ga2 : Value) (hb0 : b < w.heap.size) (v0 : Value) (r : Int) (t : ByteArray) (hS : BoxC w o nm vk vn vs sv av g gs ga b off gg gs2 ga2 W)
    (hP : Hid (∀ W, Below w.heap.size w W → Calls Tryz.prog 26 #[v0, .int .i64 r] W fun e w' => e = .returned (.string t) ∧ Below W.heap.size W w')) :
    Calls Tryz.prog 26 #[v0, .int .i64 r] W fun e w' => e = .returned (.string t) ∧ BoxC w o nm vk vn vs sv av g gs ga b off gg gs2 ga2 w' :=
  (hP.out W hS.bel).mono fun e w' ⟨he, hb⟩ => ⟨he, BoxC.keep hb0 hS hb⟩
theorem infix_C (w W : World) (u : Nat) (nm : ByteArray) (vk vn : Int) (vs : ByteArray) (sv av : Value) (g : Hd) (gs ga : Value) (b off : Nat) (gg : Hd) (gs2 ga2 : Value) (word : ByteArray) (hw : Hid (word = bs (opW u))) (hu : Hid ((4 ≤ u ∧ u ≤ 11) ∨ (15 ≤ u ∧ u ≤ 19))) (hS : BoxC w (u : Int) nm vk vn vs sv av g gs ga b off gg gs2 ga2 W) :
    Calls Tryz.prog 27 #[.int .i64 u] W fun e w' => e = .returned (.string word) ∧ BoxC w (u : Int) nm vk vn vs sv av g gs ga b off gg gs2 ga2 w' := by
  rw [hw.out]
  exact (infix_c u W hu.out).mono fun e w' ⟨he, hb⟩ => ⟨he, by rw [hb]; exact hS⟩
set_option maxRecDepth 100000 in
set_option maxHeartbeats 4000000 in
theorem rw_s4 (o : Nat) (nm : ByteArray) (vk vn : Int) (vs : ByteArray) (p : Option Addr) (m q : Nat) (b off n c : Nat) (w : World) (hn : 0 < n) (hbl : Hid (b < w.heap.size)) (g : Hd) (sp : Option Addr) (sm sq : Nat) (p' : Option Addr) (n' c' : Nat) (g0 : w.cell? ⟨b, off, none⟩ = some (.int .i64 g.k)) (g1 : w.cell? ⟨b, off + 1, none⟩ = some (.int .i64 g.o)) (g2 : w.cell? ⟨b, off + 2, none⟩ = some (.string g.nm)) (g3 : w.cell? ⟨b, off + 3, none⟩ = some (.int .i64 g.vk)) (g4 : w.cell? ⟨b, off + 4, none⟩ = some (.int .i64 g.vn)) (g5 : w.cell? ⟨b, off + 5, none⟩ = some (.string g.vs)) (g6 : w.cell? ⟨b, off + 6, none⟩ = some (.slice sp sm sq)) (g7 : w.cell? ⟨b, off + 7, none⟩ = some (.slice p' n' c')) (hr : rowS 4 (o : Int) = 4) (hu : Hid ((4 ≤ o ∧ o ≤ 11) ∨ (15 ≤ o ∧ o ≤ 19))) (hn1 : 1 < n) (t : ByteArray) (ht : t.size ≤ 4100000) (t2 : ByteArray) (ht2 : t2.size ≤ 4100000) (gg : Hd) (sp2 : Option Addr) (sm2 sq2 : Nat) (p2' : Option Addr) (n2' c2' : Nat) (k0 : w.cell? ⟨b, off + 8, none⟩ = some (.int .i64 gg.k)) (k1 : w.cell? ⟨b, off + 8 + 1, none⟩ = some (.int .i64 gg.o)) (k2 : w.cell? ⟨b, off + 8 + 2, none⟩ = some (.string gg.nm)) (k3 : w.cell? ⟨b, off + 8 + 3, none⟩ = some (.int .i64 gg.vk)) (k4 : w.cell? ⟨b, off + 8 + 4, none⟩ = some (.int .i64 gg.vn)) (k5 : w.cell? ⟨b, off + 8 + 5, none⟩ = some (.string gg.vs)) (k6 : w.cell? ⟨b, off + 8 + 6, none⟩ = some (.slice sp2 sm2 sq2)) (k7 : w.cell? ⟨b, off + 8 + 7, none⟩ = some (.slice p2' n2' c2')) (hP : ∀ W, Below w.heap.size w W → Calls Tryz.prog 26 #[.agg #[.int .i64 g.k, .int .i64 g.o, .string g.nm, .int .i64 g.vk, .int .i64 g.vn, .string g.vs, .slice sp sm sq, .slice p' n' c'], .int .i64 5] W fun e w' => e = .returned (.string t) ∧ Below W.heap.size W w') (hQ : ∀ W, Below w.heap.size w W → Calls Tryz.prog 26 #[.agg #[.int .i64 gg.k, .int .i64 gg.o, .string gg.nm, .int .i64 gg.vk, .int .i64 gg.vn, .string gg.vs, .slice sp2 sm2 sq2, .slice p2' n2' c2'], .int .i64 5] W fun e w' => e = .returned (.string t2) ∧ Below W.heap.size W w') :
    Calls Tryz.prog 12 #[.agg #[.int .i64 4, .int .i64 (o : Int), .string nm, .int .i64 vk, .int .i64 vn, .string vs, .slice p m q, .slice (some ⟨b, off, none⟩) n c]] w (fun e w' => e = .returned (.string (t ++ ⟨#[32]⟩ ++ bs (opW o) ++ ⟨#[32]⟩ ++ t2)) ∧ Below w.heap.size w w') := by
  have HB0 := Lib.hid ((Below.refl w.heap.size w).alloc (Nat.le_refl _) (.cells #[.int .i64 4, .int .i64 (o : Int), .string nm, .int .i64 vk, .int .i64 vn, .string vs, .slice p m q, .slice (some ⟨b, off, none⟩) n c] 27))
  have HB1 := Lib.hid (HB0.out.alloc HB0.out.size (.cells #[.int .i64 g.k, .int .i64 g.o, .string g.nm, .int .i64 g.vk, .int .i64 g.vn, .string g.vs, .slice sp sm sq, .slice p' n' c'] 27))
  have HR := Lib.hid (fun w => by have := rrow_c 4 (o : Int) nm vk vn vs p m q (some ⟨b, off, none⟩) n c w (.inr (by have := hu.out; omega)); rw [show rrowS 4 (o : Int) vk vn = 4 from by unfold rrowS; rw [if_neg (by omega)]; exact hr] at this; exact this)
  have f0 := (HB0.out.cell (p := ⟨b, off, none⟩) hbl.out).trans g0
  have f1 := (HB0.out.cell (p := ⟨b, off + 1, none⟩) hbl.out).trans g1
  have f2 := (HB0.out.cell (p := ⟨b, off + 2, none⟩) hbl.out).trans g2
  have f3 := (HB0.out.cell (p := ⟨b, off + 3, none⟩) hbl.out).trans g3
  have f4 := (HB0.out.cell (p := ⟨b, off + 4, none⟩) hbl.out).trans g4
  have f5 := (HB0.out.cell (p := ⟨b, off + 5, none⟩) hbl.out).trans g5
  have f6 := (HB0.out.cell (p := ⟨b, off + 6, none⟩) hbl.out).trans g6
  have f7 := (HB0.out.cell (p := ⟨b, off + 7, none⟩) hbl.out).trans g7
  have HP := Lib.hid hP; clear hP
  have HQ := Lib.hid hQ; clear hQ
  have hni1 : (1 : Int) < (n : Int) := by omega
  clear hr
  have K0 := Lib.hid k0; clear k0
  have K1 := Lib.hid k1; clear k1
  have K2 := Lib.hid k2; clear k2
  have K3 := Lib.hid k3; clear k3
  have K4 := Lib.hid k4; clear k4
  have K5 := Lib.hid k5; clear k5
  have K6 := Lib.hid k6; clear k6
  have K7 := Lib.hid k7; clear k7
  obtain ⟨word, hword⟩ : ∃ x, x = bs (opW o) := ⟨_, rfl⟩
  have hws : word.size ≤ 8 := by rw [hword, bs_size]; exact opW_len o
  rw [← hword]
  have HW := Lib.hid hword; clear hword
  have r1 : ∀ w : World, (Op.stringOp .add t ⟨#[32]⟩).run Tryz.prog w = .ok (.string (t ++ ⟨#[32]⟩)) w := fun w => run_string_add_sum w _ _ (sz_le (by simp only [ByteArray.size_append, lit_size, List.size_toArray, List.length_cons, List.length_nil, size_one]; omega))
  have r2 : ∀ w : World, (Op.stringOp .add (t ++ ⟨#[32]⟩) word).run Tryz.prog w = .ok (.string (t ++ ⟨#[32]⟩ ++ word)) w := fun w => run_string_add_sum w _ _ (sz_le (by simp only [ByteArray.size_append, lit_size, List.size_toArray, List.length_cons, List.length_nil, size_one]; omega))
  have r3 : ∀ w : World, (Op.stringOp .add (t ++ ⟨#[32]⟩ ++ word) ⟨#[32]⟩).run Tryz.prog w = .ok (.string (t ++ ⟨#[32]⟩ ++ word ++ ⟨#[32]⟩)) w := fun w => run_string_add_sum w _ _ (sz_le (by simp only [ByteArray.size_append, lit_size, List.size_toArray, List.length_cons, List.length_nil, size_one]; omega))
  have r4 : ∀ w : World, (Op.stringOp .add (t ++ ⟨#[32]⟩ ++ word ++ ⟨#[32]⟩) t2).run Tryz.prog w = .ok (.string (t ++ ⟨#[32]⟩ ++ word ++ ⟨#[32]⟩ ++ t2)) w := fun w => run_string_add_sum w _ _ (sz_le (by simp only [ByteArray.size_append, lit_size, List.size_toArray, List.length_cons, List.length_nil, size_one]; omega))
  have wr6 : IntKind.i64.wrap 5 = 5 := by decide
  clear hws ht ht2
  clear g0 g1 g2 g3 g4 g5 g6 g7
  have hni : (0 : Int) < (n : Int) := by omega
  go_enter Tryz.func12, Tryz.ntmps12
  go_wp2_with fail
  refine (HR.out _).mono ?_
  rintro e1 w1 ⟨rfl, hB⟩
  have B1 := Lib.hid (HB1.out.trans (hB.mono HB1.out.size))
  have BC1 : BoxC w (o : Int) nm vk vn vs (.slice p m q) (.slice (some ⟨b, off, none⟩) n c) g (.slice sp sm sq) (.slice p' n' c') b off gg (.slice sp2 sm2 sq2) (.slice p2' n2' c2') w1 := by
    have ff := fun (g o : Nat) (hg : g < w.heap.size) => B1.out.cell (p := ⟨g, o, none⟩) hg
    have fc := fun (g o : Nat) (hg : g < w.heap.size + 2) => hB.cell (p := ⟨g, o, none⟩) (by simpa using hg)
    refine ⟨?_, ?_, ?_, ?_, ?_, ?_, ?_, ?_, ?_, ?_, ?_, ?_, ?_, ?_, ?_, ?_, ?_, ?_, ?_, ?_, ?_, ?_, ?_, ?_, B1.out, by have := hB.size; simpa using this⟩
    · rw [fc _ _ (by omega), World.cell?_alloc_past _ _ _ (by simp), World.cell?_alloc_new]; rfl
    · rw [fc _ _ (by omega), World.cell?_alloc_past _ _ _ (by simp), World.cell?_alloc_new]; rfl
    · rw [fc _ _ (by omega), World.cell?_alloc_past _ _ _ (by simp), World.cell?_alloc_new]; rfl
    · rw [fc _ _ (by omega), World.cell?_alloc_past _ _ _ (by simp), World.cell?_alloc_new]; rfl
    · rw [fc _ _ (by omega), World.cell?_alloc_past _ _ _ (by simp), World.cell?_alloc_new]; rfl
    · rw [fc _ _ (by omega), World.cell?_alloc_past _ _ _ (by simp), World.cell?_alloc_new]; rfl
    · rw [fc _ _ (by omega), World.cell?_alloc_past _ _ _ (by simp), World.cell?_alloc_new]; rfl
    · rw [fc _ _ (by omega), World.cell?_alloc_past _ _ _ (by simp), World.cell?_alloc_new]; rfl
    · rw [fc _ _ (by omega)]; simp
    · rw [fc _ _ (by omega)]; simp
    · rw [fc _ _ (by omega)]; simp
    · rw [fc _ _ (by omega)]; simp
    · rw [fc _ _ (by omega)]; simp
    · rw [fc _ _ (by omega)]; simp
    · rw [fc _ _ (by omega)]; simp
    · rw [fc _ _ (by omega)]; simp
    · rw [ff _ _ hbl.out]; exact K0.out
    · rw [ff _ _ hbl.out]; exact K1.out
    · rw [ff _ _ hbl.out]; exact K2.out
    · rw [ff _ _ hbl.out]; exact K3.out
    · rw [ff _ _ hbl.out]; exact K4.out
    · rw [ff _ _ hbl.out]; exact K5.out
    · rw [ff _ _ hbl.out]; exact K6.out
    · rw [ff _ _ hbl.out]; exact K7.out
  clear hB f0 f1 f2 f3 f4 f5 f6 f7
  go_wp2_with fail
  go_region_held3 (fun W => W.cell? ⟨w.heap.size, 0, none⟩ = some (.int .i64 4) ∧ W.cell? ⟨w.heap.size, 1, none⟩ = some (.int .i64 (o : Int)) ∧ W.cell? ⟨w.heap.size, 2, none⟩ = some (.string nm) ∧ W.cell? ⟨w.heap.size, 3, none⟩ = some (.int .i64 vk) ∧ W.cell? ⟨w.heap.size, 4, none⟩ = some (.int .i64 vn) ∧ W.cell? ⟨w.heap.size, 5, none⟩ = some (.string vs) ∧ W.cell? ⟨w.heap.size, 6, none⟩ = some (.slice p m q) ∧ W.cell? ⟨w.heap.size, 7, none⟩ = some (.slice (some ⟨b, off, none⟩) n c) ∧ W.cell? ⟨w.heap.size + 1, 0, none⟩ = some (.int .i64 g.k) ∧ W.cell? ⟨w.heap.size + 1, 1, none⟩ = some (.int .i64 g.o) ∧ W.cell? ⟨w.heap.size + 1, 2, none⟩ = some (.string g.nm) ∧ W.cell? ⟨w.heap.size + 1, 3, none⟩ = some (.int .i64 g.vk) ∧ W.cell? ⟨w.heap.size + 1, 4, none⟩ = some (.int .i64 g.vn) ∧ W.cell? ⟨w.heap.size + 1, 5, none⟩ = some (.string g.vs) ∧ W.cell? ⟨w.heap.size + 1, 6, none⟩ = some (.slice sp sm sq) ∧ W.cell? ⟨w.heap.size + 1, 7, none⟩ = some (.slice p' n' c') ∧ W.cell? ⟨b, off + 8, none⟩ = some (.int .i64 gg.k) ∧ W.cell? ⟨b, off + 8 + 1, none⟩ = some (.int .i64 gg.o) ∧ W.cell? ⟨b, off + 8 + 2, none⟩ = some (.string gg.nm) ∧ W.cell? ⟨b, off + 8 + 3, none⟩ = some (.int .i64 gg.vk) ∧ W.cell? ⟨b, off + 8 + 4, none⟩ = some (.int .i64 gg.vn) ∧ W.cell? ⟨b, off + 8 + 5, none⟩ = some (.string gg.vs) ∧ W.cell? ⟨b, off + 8 + 6, none⟩ = some (.slice sp2 sm2 sq2) ∧ W.cell? ⟨b, off + 8 + 7, none⟩ = some (.slice p2' n2' c2') ∧ Hid (Below w.heap.size w W ∧ w.heap.size + 2 ≤ W.heap.size)) ((first | exact BoxC.keep hbl.out BC1 (Below.refl _ _).drew | assumption))
    (first | (go_at_call 26; (with_reducible refine (inside_C w _ (o : Int) nm vk vn vs (.slice p m q) (.slice (some ⟨b, off, none⟩) n c) g (.slice sp sm sq) (.slice p' n' c') b off gg (.slice sp2 sm2 sq2) (.slice p2' n2' c2') hbl.out _ _ t ?_ HP).mono ?_); assumption; rintro e w' ⟨rfl, hbx⟩) | (go_at_call 26; (with_reducible refine (inside_C w _ (o : Int) nm vk vn vs (.slice p m q) (.slice (some ⟨b, off, none⟩) n c) g (.slice sp sm sq) (.slice p' n' c') b off gg (.slice sp2 sm2 sq2) (.slice p2' n2' c2') hbl.out _ _ t2 ?_ HQ).mono ?_); assumption; rintro e w' ⟨rfl, hbx⟩) | (go_at_call 27; (with_reducible refine (infix_C w _ o nm vk vn vs (.slice p m q) (.slice (some ⟨b, off, none⟩) n c) g (.slice sp sm sq) (.slice p' n' c') b off gg (.slice sp2 sm2 sq2) (.slice p2' n2' c2') word HW hu ?_).mono ?_); assumption; rintro e w' ⟨rfl, hbx⟩))
  go_wp2
  go_ret
  exact ⟨rfl, hbx.bel⟩
set_option maxRecDepth 100000 in
set_option maxHeartbeats 4000000 in
theorem rw_s5 (o : Nat) (nm : ByteArray) (vk vn : Int) (vs : ByteArray) (p : Option Addr) (m q : Nat) (b off n c : Nat) (w : World) (hn : 0 < n) (hbl : Hid (b < w.heap.size)) (g : Hd) (sp : Option Addr) (sm sq : Nat) (p' : Option Addr) (n' c' : Nat) (g0 : w.cell? ⟨b, off, none⟩ = some (.int .i64 g.k)) (g1 : w.cell? ⟨b, off + 1, none⟩ = some (.int .i64 g.o)) (g2 : w.cell? ⟨b, off + 2, none⟩ = some (.string g.nm)) (g3 : w.cell? ⟨b, off + 3, none⟩ = some (.int .i64 g.vk)) (g4 : w.cell? ⟨b, off + 4, none⟩ = some (.int .i64 g.vn)) (g5 : w.cell? ⟨b, off + 5, none⟩ = some (.string g.vs)) (g6 : w.cell? ⟨b, off + 6, none⟩ = some (.slice sp sm sq)) (g7 : w.cell? ⟨b, off + 7, none⟩ = some (.slice p' n' c')) (hr : rowS 4 (o : Int) = 5) (hu : Hid ((4 ≤ o ∧ o ≤ 11) ∨ (15 ≤ o ∧ o ≤ 19))) (hn1 : 1 < n) (t : ByteArray) (ht : t.size ≤ 4100000) (t2 : ByteArray) (ht2 : t2.size ≤ 4100000) (gg : Hd) (sp2 : Option Addr) (sm2 sq2 : Nat) (p2' : Option Addr) (n2' c2' : Nat) (k0 : w.cell? ⟨b, off + 8, none⟩ = some (.int .i64 gg.k)) (k1 : w.cell? ⟨b, off + 8 + 1, none⟩ = some (.int .i64 gg.o)) (k2 : w.cell? ⟨b, off + 8 + 2, none⟩ = some (.string gg.nm)) (k3 : w.cell? ⟨b, off + 8 + 3, none⟩ = some (.int .i64 gg.vk)) (k4 : w.cell? ⟨b, off + 8 + 4, none⟩ = some (.int .i64 gg.vn)) (k5 : w.cell? ⟨b, off + 8 + 5, none⟩ = some (.string gg.vs)) (k6 : w.cell? ⟨b, off + 8 + 6, none⟩ = some (.slice sp2 sm2 sq2)) (k7 : w.cell? ⟨b, off + 8 + 7, none⟩ = some (.slice p2' n2' c2')) (hP : ∀ W, Below w.heap.size w W → Calls Tryz.prog 26 #[.agg #[.int .i64 g.k, .int .i64 g.o, .string g.nm, .int .i64 g.vk, .int .i64 g.vn, .string g.vs, .slice sp sm sq, .slice p' n' c'], .int .i64 5] W fun e w' => e = .returned (.string t) ∧ Below W.heap.size W w') (hQ : ∀ W, Below w.heap.size w W → Calls Tryz.prog 26 #[.agg #[.int .i64 gg.k, .int .i64 gg.o, .string gg.nm, .int .i64 gg.vk, .int .i64 gg.vn, .string gg.vs, .slice sp2 sm2 sq2, .slice p2' n2' c2'], .int .i64 6] W fun e w' => e = .returned (.string t2) ∧ Below W.heap.size W w') :
    Calls Tryz.prog 12 #[.agg #[.int .i64 4, .int .i64 (o : Int), .string nm, .int .i64 vk, .int .i64 vn, .string vs, .slice p m q, .slice (some ⟨b, off, none⟩) n c]] w (fun e w' => e = .returned (.string (t ++ ⟨#[32]⟩ ++ bs (opW o) ++ ⟨#[32]⟩ ++ t2)) ∧ Below w.heap.size w w') := by
  have HB0 := Lib.hid ((Below.refl w.heap.size w).alloc (Nat.le_refl _) (.cells #[.int .i64 4, .int .i64 (o : Int), .string nm, .int .i64 vk, .int .i64 vn, .string vs, .slice p m q, .slice (some ⟨b, off, none⟩) n c] 27))
  have HB1 := Lib.hid (HB0.out.alloc HB0.out.size (.cells #[.int .i64 g.k, .int .i64 g.o, .string g.nm, .int .i64 g.vk, .int .i64 g.vn, .string g.vs, .slice sp sm sq, .slice p' n' c'] 27))
  have HR := Lib.hid (fun w => by have := rrow_c 4 (o : Int) nm vk vn vs p m q (some ⟨b, off, none⟩) n c w (.inr (by have := hu.out; omega)); rw [show rrowS 4 (o : Int) vk vn = 5 from by unfold rrowS; rw [if_neg (by omega)]; exact hr] at this; exact this)
  have f0 := (HB0.out.cell (p := ⟨b, off, none⟩) hbl.out).trans g0
  have f1 := (HB0.out.cell (p := ⟨b, off + 1, none⟩) hbl.out).trans g1
  have f2 := (HB0.out.cell (p := ⟨b, off + 2, none⟩) hbl.out).trans g2
  have f3 := (HB0.out.cell (p := ⟨b, off + 3, none⟩) hbl.out).trans g3
  have f4 := (HB0.out.cell (p := ⟨b, off + 4, none⟩) hbl.out).trans g4
  have f5 := (HB0.out.cell (p := ⟨b, off + 5, none⟩) hbl.out).trans g5
  have f6 := (HB0.out.cell (p := ⟨b, off + 6, none⟩) hbl.out).trans g6
  have f7 := (HB0.out.cell (p := ⟨b, off + 7, none⟩) hbl.out).trans g7
  have HP := Lib.hid hP; clear hP
  have HQ := Lib.hid hQ; clear hQ
  have hni1 : (1 : Int) < (n : Int) := by omega
  clear hr
  have K0 := Lib.hid k0; clear k0
  have K1 := Lib.hid k1; clear k1
  have K2 := Lib.hid k2; clear k2
  have K3 := Lib.hid k3; clear k3
  have K4 := Lib.hid k4; clear k4
  have K5 := Lib.hid k5; clear k5
  have K6 := Lib.hid k6; clear k6
  have K7 := Lib.hid k7; clear k7
  obtain ⟨word, hword⟩ : ∃ x, x = bs (opW o) := ⟨_, rfl⟩
  have hws : word.size ≤ 8 := by rw [hword, bs_size]; exact opW_len o
  rw [← hword]
  have HW := Lib.hid hword; clear hword
  have r1 : ∀ w : World, (Op.stringOp .add t ⟨#[32]⟩).run Tryz.prog w = .ok (.string (t ++ ⟨#[32]⟩)) w := fun w => run_string_add_sum w _ _ (sz_le (by simp only [ByteArray.size_append, lit_size, List.size_toArray, List.length_cons, List.length_nil, size_one]; omega))
  have r2 : ∀ w : World, (Op.stringOp .add (t ++ ⟨#[32]⟩) word).run Tryz.prog w = .ok (.string (t ++ ⟨#[32]⟩ ++ word)) w := fun w => run_string_add_sum w _ _ (sz_le (by simp only [ByteArray.size_append, lit_size, List.size_toArray, List.length_cons, List.length_nil, size_one]; omega))
  have r3 : ∀ w : World, (Op.stringOp .add (t ++ ⟨#[32]⟩ ++ word) ⟨#[32]⟩).run Tryz.prog w = .ok (.string (t ++ ⟨#[32]⟩ ++ word ++ ⟨#[32]⟩)) w := fun w => run_string_add_sum w _ _ (sz_le (by simp only [ByteArray.size_append, lit_size, List.size_toArray, List.length_cons, List.length_nil, size_one]; omega))
  have r4 : ∀ w : World, (Op.stringOp .add (t ++ ⟨#[32]⟩ ++ word ++ ⟨#[32]⟩) t2).run Tryz.prog w = .ok (.string (t ++ ⟨#[32]⟩ ++ word ++ ⟨#[32]⟩ ++ t2)) w := fun w => run_string_add_sum w _ _ (sz_le (by simp only [ByteArray.size_append, lit_size, List.size_toArray, List.length_cons, List.length_nil, size_one]; omega))
  have wr6 : IntKind.i64.wrap 6 = 6 := by decide
  clear hws ht ht2
  clear g0 g1 g2 g3 g4 g5 g6 g7
  have hni : (0 : Int) < (n : Int) := by omega
  go_enter Tryz.func12, Tryz.ntmps12
  go_wp2_with fail
  refine (HR.out _).mono ?_
  rintro e1 w1 ⟨rfl, hB⟩
  have B1 := Lib.hid (HB1.out.trans (hB.mono HB1.out.size))
  have BC1 : BoxC w (o : Int) nm vk vn vs (.slice p m q) (.slice (some ⟨b, off, none⟩) n c) g (.slice sp sm sq) (.slice p' n' c') b off gg (.slice sp2 sm2 sq2) (.slice p2' n2' c2') w1 := by
    have ff := fun (g o : Nat) (hg : g < w.heap.size) => B1.out.cell (p := ⟨g, o, none⟩) hg
    have fc := fun (g o : Nat) (hg : g < w.heap.size + 2) => hB.cell (p := ⟨g, o, none⟩) (by simpa using hg)
    refine ⟨?_, ?_, ?_, ?_, ?_, ?_, ?_, ?_, ?_, ?_, ?_, ?_, ?_, ?_, ?_, ?_, ?_, ?_, ?_, ?_, ?_, ?_, ?_, ?_, B1.out, by have := hB.size; simpa using this⟩
    · rw [fc _ _ (by omega), World.cell?_alloc_past _ _ _ (by simp), World.cell?_alloc_new]; rfl
    · rw [fc _ _ (by omega), World.cell?_alloc_past _ _ _ (by simp), World.cell?_alloc_new]; rfl
    · rw [fc _ _ (by omega), World.cell?_alloc_past _ _ _ (by simp), World.cell?_alloc_new]; rfl
    · rw [fc _ _ (by omega), World.cell?_alloc_past _ _ _ (by simp), World.cell?_alloc_new]; rfl
    · rw [fc _ _ (by omega), World.cell?_alloc_past _ _ _ (by simp), World.cell?_alloc_new]; rfl
    · rw [fc _ _ (by omega), World.cell?_alloc_past _ _ _ (by simp), World.cell?_alloc_new]; rfl
    · rw [fc _ _ (by omega), World.cell?_alloc_past _ _ _ (by simp), World.cell?_alloc_new]; rfl
    · rw [fc _ _ (by omega), World.cell?_alloc_past _ _ _ (by simp), World.cell?_alloc_new]; rfl
    · rw [fc _ _ (by omega)]; simp
    · rw [fc _ _ (by omega)]; simp
    · rw [fc _ _ (by omega)]; simp
    · rw [fc _ _ (by omega)]; simp
    · rw [fc _ _ (by omega)]; simp
    · rw [fc _ _ (by omega)]; simp
    · rw [fc _ _ (by omega)]; simp
    · rw [fc _ _ (by omega)]; simp
    · rw [ff _ _ hbl.out]; exact K0.out
    · rw [ff _ _ hbl.out]; exact K1.out
    · rw [ff _ _ hbl.out]; exact K2.out
    · rw [ff _ _ hbl.out]; exact K3.out
    · rw [ff _ _ hbl.out]; exact K4.out
    · rw [ff _ _ hbl.out]; exact K5.out
    · rw [ff _ _ hbl.out]; exact K6.out
    · rw [ff _ _ hbl.out]; exact K7.out
  clear hB f0 f1 f2 f3 f4 f5 f6 f7
  go_wp2_with fail
  go_region_held3 (fun W => W.cell? ⟨w.heap.size, 0, none⟩ = some (.int .i64 4) ∧ W.cell? ⟨w.heap.size, 1, none⟩ = some (.int .i64 (o : Int)) ∧ W.cell? ⟨w.heap.size, 2, none⟩ = some (.string nm) ∧ W.cell? ⟨w.heap.size, 3, none⟩ = some (.int .i64 vk) ∧ W.cell? ⟨w.heap.size, 4, none⟩ = some (.int .i64 vn) ∧ W.cell? ⟨w.heap.size, 5, none⟩ = some (.string vs) ∧ W.cell? ⟨w.heap.size, 6, none⟩ = some (.slice p m q) ∧ W.cell? ⟨w.heap.size, 7, none⟩ = some (.slice (some ⟨b, off, none⟩) n c) ∧ W.cell? ⟨w.heap.size + 1, 0, none⟩ = some (.int .i64 g.k) ∧ W.cell? ⟨w.heap.size + 1, 1, none⟩ = some (.int .i64 g.o) ∧ W.cell? ⟨w.heap.size + 1, 2, none⟩ = some (.string g.nm) ∧ W.cell? ⟨w.heap.size + 1, 3, none⟩ = some (.int .i64 g.vk) ∧ W.cell? ⟨w.heap.size + 1, 4, none⟩ = some (.int .i64 g.vn) ∧ W.cell? ⟨w.heap.size + 1, 5, none⟩ = some (.string g.vs) ∧ W.cell? ⟨w.heap.size + 1, 6, none⟩ = some (.slice sp sm sq) ∧ W.cell? ⟨w.heap.size + 1, 7, none⟩ = some (.slice p' n' c') ∧ W.cell? ⟨b, off + 8, none⟩ = some (.int .i64 gg.k) ∧ W.cell? ⟨b, off + 8 + 1, none⟩ = some (.int .i64 gg.o) ∧ W.cell? ⟨b, off + 8 + 2, none⟩ = some (.string gg.nm) ∧ W.cell? ⟨b, off + 8 + 3, none⟩ = some (.int .i64 gg.vk) ∧ W.cell? ⟨b, off + 8 + 4, none⟩ = some (.int .i64 gg.vn) ∧ W.cell? ⟨b, off + 8 + 5, none⟩ = some (.string gg.vs) ∧ W.cell? ⟨b, off + 8 + 6, none⟩ = some (.slice sp2 sm2 sq2) ∧ W.cell? ⟨b, off + 8 + 7, none⟩ = some (.slice p2' n2' c2') ∧ Hid (Below w.heap.size w W ∧ w.heap.size + 2 ≤ W.heap.size)) ((first | exact BoxC.keep hbl.out BC1 (Below.refl _ _).drew | assumption))
    (first | (go_at_call 26; (with_reducible refine (inside_C w _ (o : Int) nm vk vn vs (.slice p m q) (.slice (some ⟨b, off, none⟩) n c) g (.slice sp sm sq) (.slice p' n' c') b off gg (.slice sp2 sm2 sq2) (.slice p2' n2' c2') hbl.out _ _ t ?_ HP).mono ?_); assumption; rintro e w' ⟨rfl, hbx⟩) | (go_at_call 26; (with_reducible refine (inside_C w _ (o : Int) nm vk vn vs (.slice p m q) (.slice (some ⟨b, off, none⟩) n c) g (.slice sp sm sq) (.slice p' n' c') b off gg (.slice sp2 sm2 sq2) (.slice p2' n2' c2') hbl.out _ _ t2 ?_ HQ).mono ?_); assumption; rintro e w' ⟨rfl, hbx⟩) | (go_at_call 27; (with_reducible refine (infix_C w _ o nm vk vn vs (.slice p m q) (.slice (some ⟨b, off, none⟩) n c) g (.slice sp sm sq) (.slice p' n' c') b off gg (.slice sp2 sm2 sq2) (.slice p2' n2' c2') word HW hu ?_).mono ?_); assumption; rintro e w' ⟨rfl, hbx⟩))
  go_wp2
  go_ret
  exact ⟨rfl, hbx.bel⟩
set_option maxRecDepth 100000 in
set_option maxHeartbeats 4000000 in
theorem rw_s6 (o : Nat) (nm : ByteArray) (vk vn : Int) (vs : ByteArray) (p : Option Addr) (m q : Nat) (b off n c : Nat) (w : World) (hn : 0 < n) (hbl : Hid (b < w.heap.size)) (g : Hd) (sp : Option Addr) (sm sq : Nat) (p' : Option Addr) (n' c' : Nat) (g0 : w.cell? ⟨b, off, none⟩ = some (.int .i64 g.k)) (g1 : w.cell? ⟨b, off + 1, none⟩ = some (.int .i64 g.o)) (g2 : w.cell? ⟨b, off + 2, none⟩ = some (.string g.nm)) (g3 : w.cell? ⟨b, off + 3, none⟩ = some (.int .i64 g.vk)) (g4 : w.cell? ⟨b, off + 4, none⟩ = some (.int .i64 g.vn)) (g5 : w.cell? ⟨b, off + 5, none⟩ = some (.string g.vs)) (g6 : w.cell? ⟨b, off + 6, none⟩ = some (.slice sp sm sq)) (g7 : w.cell? ⟨b, off + 7, none⟩ = some (.slice p' n' c')) (hr : rowS 4 (o : Int) = 6) (hu : Hid ((4 ≤ o ∧ o ≤ 11) ∨ (15 ≤ o ∧ o ≤ 19))) (hn1 : 1 < n) (t : ByteArray) (ht : t.size ≤ 4100000) (t2 : ByteArray) (ht2 : t2.size ≤ 4100000) (gg : Hd) (sp2 : Option Addr) (sm2 sq2 : Nat) (p2' : Option Addr) (n2' c2' : Nat) (k0 : w.cell? ⟨b, off + 8, none⟩ = some (.int .i64 gg.k)) (k1 : w.cell? ⟨b, off + 8 + 1, none⟩ = some (.int .i64 gg.o)) (k2 : w.cell? ⟨b, off + 8 + 2, none⟩ = some (.string gg.nm)) (k3 : w.cell? ⟨b, off + 8 + 3, none⟩ = some (.int .i64 gg.vk)) (k4 : w.cell? ⟨b, off + 8 + 4, none⟩ = some (.int .i64 gg.vn)) (k5 : w.cell? ⟨b, off + 8 + 5, none⟩ = some (.string gg.vs)) (k6 : w.cell? ⟨b, off + 8 + 6, none⟩ = some (.slice sp2 sm2 sq2)) (k7 : w.cell? ⟨b, off + 8 + 7, none⟩ = some (.slice p2' n2' c2')) (hP : ∀ W, Below w.heap.size w W → Calls Tryz.prog 26 #[.agg #[.int .i64 g.k, .int .i64 g.o, .string g.nm, .int .i64 g.vk, .int .i64 g.vn, .string g.vs, .slice sp sm sq, .slice p' n' c'], .int .i64 6] W fun e w' => e = .returned (.string t) ∧ Below W.heap.size W w') (hQ : ∀ W, Below w.heap.size w W → Calls Tryz.prog 26 #[.agg #[.int .i64 gg.k, .int .i64 gg.o, .string gg.nm, .int .i64 gg.vk, .int .i64 gg.vn, .string gg.vs, .slice sp2 sm2 sq2, .slice p2' n2' c2'], .int .i64 7] W fun e w' => e = .returned (.string t2) ∧ Below W.heap.size W w') :
    Calls Tryz.prog 12 #[.agg #[.int .i64 4, .int .i64 (o : Int), .string nm, .int .i64 vk, .int .i64 vn, .string vs, .slice p m q, .slice (some ⟨b, off, none⟩) n c]] w (fun e w' => e = .returned (.string (t ++ ⟨#[32]⟩ ++ bs (opW o) ++ ⟨#[32]⟩ ++ t2)) ∧ Below w.heap.size w w') := by
  have HB0 := Lib.hid ((Below.refl w.heap.size w).alloc (Nat.le_refl _) (.cells #[.int .i64 4, .int .i64 (o : Int), .string nm, .int .i64 vk, .int .i64 vn, .string vs, .slice p m q, .slice (some ⟨b, off, none⟩) n c] 27))
  have HB1 := Lib.hid (HB0.out.alloc HB0.out.size (.cells #[.int .i64 g.k, .int .i64 g.o, .string g.nm, .int .i64 g.vk, .int .i64 g.vn, .string g.vs, .slice sp sm sq, .slice p' n' c'] 27))
  have HR := Lib.hid (fun w => by have := rrow_c 4 (o : Int) nm vk vn vs p m q (some ⟨b, off, none⟩) n c w (.inr (by have := hu.out; omega)); rw [show rrowS 4 (o : Int) vk vn = 6 from by unfold rrowS; rw [if_neg (by omega)]; exact hr] at this; exact this)
  have f0 := (HB0.out.cell (p := ⟨b, off, none⟩) hbl.out).trans g0
  have f1 := (HB0.out.cell (p := ⟨b, off + 1, none⟩) hbl.out).trans g1
  have f2 := (HB0.out.cell (p := ⟨b, off + 2, none⟩) hbl.out).trans g2
  have f3 := (HB0.out.cell (p := ⟨b, off + 3, none⟩) hbl.out).trans g3
  have f4 := (HB0.out.cell (p := ⟨b, off + 4, none⟩) hbl.out).trans g4
  have f5 := (HB0.out.cell (p := ⟨b, off + 5, none⟩) hbl.out).trans g5
  have f6 := (HB0.out.cell (p := ⟨b, off + 6, none⟩) hbl.out).trans g6
  have f7 := (HB0.out.cell (p := ⟨b, off + 7, none⟩) hbl.out).trans g7
  have HP := Lib.hid hP; clear hP
  have HQ := Lib.hid hQ; clear hQ
  have hni1 : (1 : Int) < (n : Int) := by omega
  clear hr
  have K0 := Lib.hid k0; clear k0
  have K1 := Lib.hid k1; clear k1
  have K2 := Lib.hid k2; clear k2
  have K3 := Lib.hid k3; clear k3
  have K4 := Lib.hid k4; clear k4
  have K5 := Lib.hid k5; clear k5
  have K6 := Lib.hid k6; clear k6
  have K7 := Lib.hid k7; clear k7
  obtain ⟨word, hword⟩ : ∃ x, x = bs (opW o) := ⟨_, rfl⟩
  have hws : word.size ≤ 8 := by rw [hword, bs_size]; exact opW_len o
  rw [← hword]
  have HW := Lib.hid hword; clear hword
  have r1 : ∀ w : World, (Op.stringOp .add t ⟨#[32]⟩).run Tryz.prog w = .ok (.string (t ++ ⟨#[32]⟩)) w := fun w => run_string_add_sum w _ _ (sz_le (by simp only [ByteArray.size_append, lit_size, List.size_toArray, List.length_cons, List.length_nil, size_one]; omega))
  have r2 : ∀ w : World, (Op.stringOp .add (t ++ ⟨#[32]⟩) word).run Tryz.prog w = .ok (.string (t ++ ⟨#[32]⟩ ++ word)) w := fun w => run_string_add_sum w _ _ (sz_le (by simp only [ByteArray.size_append, lit_size, List.size_toArray, List.length_cons, List.length_nil, size_one]; omega))
  have r3 : ∀ w : World, (Op.stringOp .add (t ++ ⟨#[32]⟩ ++ word) ⟨#[32]⟩).run Tryz.prog w = .ok (.string (t ++ ⟨#[32]⟩ ++ word ++ ⟨#[32]⟩)) w := fun w => run_string_add_sum w _ _ (sz_le (by simp only [ByteArray.size_append, lit_size, List.size_toArray, List.length_cons, List.length_nil, size_one]; omega))
  have r4 : ∀ w : World, (Op.stringOp .add (t ++ ⟨#[32]⟩ ++ word ++ ⟨#[32]⟩) t2).run Tryz.prog w = .ok (.string (t ++ ⟨#[32]⟩ ++ word ++ ⟨#[32]⟩ ++ t2)) w := fun w => run_string_add_sum w _ _ (sz_le (by simp only [ByteArray.size_append, lit_size, List.size_toArray, List.length_cons, List.length_nil, size_one]; omega))
  have wr6 : IntKind.i64.wrap 7 = 7 := by decide
  clear hws ht ht2
  clear g0 g1 g2 g3 g4 g5 g6 g7
  have hni : (0 : Int) < (n : Int) := by omega
  go_enter Tryz.func12, Tryz.ntmps12
  go_wp2_with fail
  refine (HR.out _).mono ?_
  rintro e1 w1 ⟨rfl, hB⟩
  have B1 := Lib.hid (HB1.out.trans (hB.mono HB1.out.size))
  have BC1 : BoxC w (o : Int) nm vk vn vs (.slice p m q) (.slice (some ⟨b, off, none⟩) n c) g (.slice sp sm sq) (.slice p' n' c') b off gg (.slice sp2 sm2 sq2) (.slice p2' n2' c2') w1 := by
    have ff := fun (g o : Nat) (hg : g < w.heap.size) => B1.out.cell (p := ⟨g, o, none⟩) hg
    have fc := fun (g o : Nat) (hg : g < w.heap.size + 2) => hB.cell (p := ⟨g, o, none⟩) (by simpa using hg)
    refine ⟨?_, ?_, ?_, ?_, ?_, ?_, ?_, ?_, ?_, ?_, ?_, ?_, ?_, ?_, ?_, ?_, ?_, ?_, ?_, ?_, ?_, ?_, ?_, ?_, B1.out, by have := hB.size; simpa using this⟩
    · rw [fc _ _ (by omega), World.cell?_alloc_past _ _ _ (by simp), World.cell?_alloc_new]; rfl
    · rw [fc _ _ (by omega), World.cell?_alloc_past _ _ _ (by simp), World.cell?_alloc_new]; rfl
    · rw [fc _ _ (by omega), World.cell?_alloc_past _ _ _ (by simp), World.cell?_alloc_new]; rfl
    · rw [fc _ _ (by omega), World.cell?_alloc_past _ _ _ (by simp), World.cell?_alloc_new]; rfl
    · rw [fc _ _ (by omega), World.cell?_alloc_past _ _ _ (by simp), World.cell?_alloc_new]; rfl
    · rw [fc _ _ (by omega), World.cell?_alloc_past _ _ _ (by simp), World.cell?_alloc_new]; rfl
    · rw [fc _ _ (by omega), World.cell?_alloc_past _ _ _ (by simp), World.cell?_alloc_new]; rfl
    · rw [fc _ _ (by omega), World.cell?_alloc_past _ _ _ (by simp), World.cell?_alloc_new]; rfl
    · rw [fc _ _ (by omega)]; simp
    · rw [fc _ _ (by omega)]; simp
    · rw [fc _ _ (by omega)]; simp
    · rw [fc _ _ (by omega)]; simp
    · rw [fc _ _ (by omega)]; simp
    · rw [fc _ _ (by omega)]; simp
    · rw [fc _ _ (by omega)]; simp
    · rw [fc _ _ (by omega)]; simp
    · rw [ff _ _ hbl.out]; exact K0.out
    · rw [ff _ _ hbl.out]; exact K1.out
    · rw [ff _ _ hbl.out]; exact K2.out
    · rw [ff _ _ hbl.out]; exact K3.out
    · rw [ff _ _ hbl.out]; exact K4.out
    · rw [ff _ _ hbl.out]; exact K5.out
    · rw [ff _ _ hbl.out]; exact K6.out
    · rw [ff _ _ hbl.out]; exact K7.out
  clear hB f0 f1 f2 f3 f4 f5 f6 f7
  go_wp2_with fail
  go_region_held3 (fun W => W.cell? ⟨w.heap.size, 0, none⟩ = some (.int .i64 4) ∧ W.cell? ⟨w.heap.size, 1, none⟩ = some (.int .i64 (o : Int)) ∧ W.cell? ⟨w.heap.size, 2, none⟩ = some (.string nm) ∧ W.cell? ⟨w.heap.size, 3, none⟩ = some (.int .i64 vk) ∧ W.cell? ⟨w.heap.size, 4, none⟩ = some (.int .i64 vn) ∧ W.cell? ⟨w.heap.size, 5, none⟩ = some (.string vs) ∧ W.cell? ⟨w.heap.size, 6, none⟩ = some (.slice p m q) ∧ W.cell? ⟨w.heap.size, 7, none⟩ = some (.slice (some ⟨b, off, none⟩) n c) ∧ W.cell? ⟨w.heap.size + 1, 0, none⟩ = some (.int .i64 g.k) ∧ W.cell? ⟨w.heap.size + 1, 1, none⟩ = some (.int .i64 g.o) ∧ W.cell? ⟨w.heap.size + 1, 2, none⟩ = some (.string g.nm) ∧ W.cell? ⟨w.heap.size + 1, 3, none⟩ = some (.int .i64 g.vk) ∧ W.cell? ⟨w.heap.size + 1, 4, none⟩ = some (.int .i64 g.vn) ∧ W.cell? ⟨w.heap.size + 1, 5, none⟩ = some (.string g.vs) ∧ W.cell? ⟨w.heap.size + 1, 6, none⟩ = some (.slice sp sm sq) ∧ W.cell? ⟨w.heap.size + 1, 7, none⟩ = some (.slice p' n' c') ∧ W.cell? ⟨b, off + 8, none⟩ = some (.int .i64 gg.k) ∧ W.cell? ⟨b, off + 8 + 1, none⟩ = some (.int .i64 gg.o) ∧ W.cell? ⟨b, off + 8 + 2, none⟩ = some (.string gg.nm) ∧ W.cell? ⟨b, off + 8 + 3, none⟩ = some (.int .i64 gg.vk) ∧ W.cell? ⟨b, off + 8 + 4, none⟩ = some (.int .i64 gg.vn) ∧ W.cell? ⟨b, off + 8 + 5, none⟩ = some (.string gg.vs) ∧ W.cell? ⟨b, off + 8 + 6, none⟩ = some (.slice sp2 sm2 sq2) ∧ W.cell? ⟨b, off + 8 + 7, none⟩ = some (.slice p2' n2' c2') ∧ Hid (Below w.heap.size w W ∧ w.heap.size + 2 ≤ W.heap.size)) ((first | exact BoxC.keep hbl.out BC1 (Below.refl _ _).drew | assumption))
    (first | (go_at_call 26; (with_reducible refine (inside_C w _ (o : Int) nm vk vn vs (.slice p m q) (.slice (some ⟨b, off, none⟩) n c) g (.slice sp sm sq) (.slice p' n' c') b off gg (.slice sp2 sm2 sq2) (.slice p2' n2' c2') hbl.out _ _ t ?_ HP).mono ?_); assumption; rintro e w' ⟨rfl, hbx⟩) | (go_at_call 26; (with_reducible refine (inside_C w _ (o : Int) nm vk vn vs (.slice p m q) (.slice (some ⟨b, off, none⟩) n c) g (.slice sp sm sq) (.slice p' n' c') b off gg (.slice sp2 sm2 sq2) (.slice p2' n2' c2') hbl.out _ _ t2 ?_ HQ).mono ?_); assumption; rintro e w' ⟨rfl, hbx⟩) | (go_at_call 27; (with_reducible refine (infix_C w _ o nm vk vn vs (.slice p m q) (.slice (some ⟨b, off, none⟩) n c) g (.slice sp sm sq) (.slice p' n' c') b off gg (.slice sp2 sm2 sq2) (.slice p2' n2' c2') word HW hu ?_).mono ?_); assumption; rintro e w' ⟨rfl, hbx⟩))
  go_wp2
  go_ret
  exact ⟨rfl, hbx.bel⟩
end Go.Proofs.YtcdifmnakppfkaaGreatDoor
