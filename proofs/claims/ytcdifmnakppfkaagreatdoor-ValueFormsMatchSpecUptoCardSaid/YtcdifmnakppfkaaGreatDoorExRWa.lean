/-
  The texts of expressions in the reference (made by a program).
-/
import Derived.Test.YtcdifmnakppfkaaGreatDoorExRJoin
import Derived.Test.YtcdifmnakppfkaaGreatDoorExRName
import Derived.Test.YtcdifmnakppfkaaGreatDoorExPlainS
import Derived.Test.YtcdifmnakppfkaaGreatDoorTxtRefShown
namespace Go.Proofs.YtcdifmnakppfkaaGreatDoor
open Go.RowKit

set_option maxRecDepth 100000 in
theorem rw_2 (o : Int) (nm : ByteArray) (vk vn : Int) (vs : ByteArray) (p : Option Addr) (m q : Nat) (a : Option Addr) (n c : Nat) (w : World) (hn : nm.size ≤ 16) :
    Calls Tryz.prog 12 #[.agg #[.int .i64 2, .int .i64 o, .string nm, .int .i64 vk, .int .i64 vn, .string vs, .slice p m q, .slice a n c]] w (TP nm.data.toList w) := by
  have HN := Lib.hid hn; clear hn
  go_enter Tryz.func12, Tryz.ntmps12
  go_wp2
  go_ret
  exact tp_ret (bs_of nm).symm (by rw [← Lib.size_eq]; have := HN.out; omega) ((Below.refl _ _).alloc (Nat.le_refl _) _)
set_option maxRecDepth 100000 in
theorem rw_3 (o : Int) (nm : ByteArray) (vk vn : Int) (vs : ByteArray) (p : Option Addr) (m q : Nat) (a : Option Addr) (n c : Nat) (w : World) (hn : nm.size ≤ 16) :
    Calls Tryz.prog 12 #[.agg #[.int .i64 3, .int .i64 o, .string nm, .int .i64 vk, .int .i64 vn, .string vs, .slice p m q, .slice a n c]] w (TP (rowT nm.data.toList) w) := by
  go_enter Tryz.func12, Tryz.ntmps12
  go_wp2
  go_ret
  refine tp_ret ?_ ?_ ((Below.refl _ _).alloc (Nat.le_refl _) _)
  · show bs [114, 111, 119, 40] ++ nm ++ bs [41] = _
    rw [← bs_of nm, bs_app, bs_app, bs_list]; simp [rowT]
  · simp only [rowT, List.length_append, List.length_cons, List.length_nil]; rw [← Lib.size_eq]; omega

set_option maxRecDepth 100000 in
set_option maxHeartbeats 1000000 in
theorem rw_1 (o : Int) (nm : ByteArray) (vk vn : Int) (vs : ByteArray) (vl : List Int) (p : Option Addr) (m q : Nat) (a : Option Addr) (n c : Nat) (w : World) (hv : IsL w (.slice p m q) vl) (hE : Env w) (hz : vs.size ≤ 9223372036854775807) (hc : cChk vk vn vs vl = 0) :
    Calls Tryz.prog 12 #[.agg #[.int .i64 1, .int .i64 o, .string nm, .int .i64 vk, .int .i64 vn, .string vs, .slice p m q, .slice a n c]] w (TE (bs (showT vk vn vs vl)) w) := by
  have HB := Lib.hid ((Below.refl w.heap.size w).alloc (Nat.le_refl _) (.cells #[.int .i64 1, .int .i64 o, .string nm, .int .i64 vk, .int .i64 vn, .string vs, .slice p m q, .slice a n c] 27))
  have hS : Hid (Calls Tryz.prog 22 #[.agg #[.int .i64 vk, .int .i64 vn, .string vs, .slice p m q]] (w.alloc (.cells #[.int .i64 1, .int .i64 o, .string nm, .int .i64 vk, .int .i64 vn, .string vs, .slice p m q, .slice a n c] 27)) fun e w' => e = .returned (.tuple #[.string (bs (showT vk vn vs vl)), .int .i64 0]) ∧ Below (w.heap.size + 1) (w.alloc (.cells #[.int .i64 1, .int .i64 o, .string nm, .int .i64 vk, .int .i64 vn, .string vs, .slice p m q, .slice a n c] 27)) w') :=
    (RShow_c vk vn vs _ vl _ (hv.below HB.out) (hE.below HB.out) hz).mono fun e w' ⟨t, he, _, h1, _, hB⟩ => ⟨by rw [he, hc, h1.out hc], by have := hB.out; simpa using this⟩
  clear hv hE hc
  go_enter Tryz.func12, Tryz.ntmps12
  go_wp2_with fail
  refine hS.out.mono ?_
  rintro e w1 ⟨rfl, hB⟩
  have HB2 := Lib.hid (HB.out.trans (hB.mono (Nat.le_succ _))); clear hB
  go_wp2
  go_ret
  exact ⟨rfl, HB2.out⟩
set_option maxRecDepth 100000 in
set_option maxHeartbeats 4000000 in
theorem rw_j1 (nm : ByteArray) (vk vn : Int) (vs : ByteArray) (p : Option Addr) (m q : Nat) (b off n c : Nat) (w : World) (hn : 0 < n) (hbl : Hid (b < w.heap.size)) (g : Hd) (sp : Option Addr) (sm sq : Nat) (p' : Option Addr) (n' c' : Nat) (g0 : w.cell? ⟨b, off, none⟩ = some (.int .i64 g.k)) (g1 : w.cell? ⟨b, off + 1, none⟩ = some (.int .i64 g.o)) (g2 : w.cell? ⟨b, off + 2, none⟩ = some (.string g.nm)) (g3 : w.cell? ⟨b, off + 3, none⟩ = some (.int .i64 g.vk)) (g4 : w.cell? ⟨b, off + 4, none⟩ = some (.int .i64 g.vn)) (g5 : w.cell? ⟨b, off + 5, none⟩ = some (.string g.vs)) (g6 : w.cell? ⟨b, off + 6, none⟩ = some (.slice sp sm sq)) (g7 : w.cell? ⟨b, off + 7, none⟩ = some (.slice p' n' c')) (t : ByteArray) (ht : t.size ≤ 4100000) (hJ : ∀ W, Below w.heap.size w W → Calls Tryz.prog 25 #[.slice (some ⟨b, off, none⟩) n c, .int .i64 2, .string ⟨#[32, 111, 114, 32]⟩] W fun e w' => e = .returned (.string t) ∧ Below W.heap.size W w') :
    Calls Tryz.prog 12 #[.agg #[.int .i64 4, .int .i64 3, .string nm, .int .i64 vk, .int .i64 vn, .string vs, .slice p m q, .slice (some ⟨b, off, none⟩) n c]] w (fun e w' => e = .returned (.string (t)) ∧ Below w.heap.size w w') := by
  have HB0 := Lib.hid ((Below.refl w.heap.size w).alloc (Nat.le_refl _) (.cells #[.int .i64 4, .int .i64 3, .string nm, .int .i64 vk, .int .i64 vn, .string vs, .slice p m q, .slice (some ⟨b, off, none⟩) n c] 27))
  have HB1 := Lib.hid (HB0.out.alloc HB0.out.size (.cells #[.int .i64 g.k, .int .i64 g.o, .string g.nm, .int .i64 g.vk, .int .i64 g.vn, .string g.vs, .slice sp sm sq, .slice p' n' c'] 27))
  have HR := Lib.hid (fun w => by have := rrow_c 4 3 nm vk vn vs p m q (some ⟨b, off, none⟩) n c w (.inr (by omega)); rw [show rrowS 4 3 vk vn = 1 from by unfold rrowS; rw [if_neg (by omega)]; rfl] at this; exact this)
  have f0 := (HB0.out.cell (p := ⟨b, off, none⟩) hbl.out).trans g0
  have f1 := (HB0.out.cell (p := ⟨b, off + 1, none⟩) hbl.out).trans g1
  have f2 := (HB0.out.cell (p := ⟨b, off + 2, none⟩) hbl.out).trans g2
  have f3 := (HB0.out.cell (p := ⟨b, off + 3, none⟩) hbl.out).trans g3
  have f4 := (HB0.out.cell (p := ⟨b, off + 4, none⟩) hbl.out).trans g4
  have f5 := (HB0.out.cell (p := ⟨b, off + 5, none⟩) hbl.out).trans g5
  have f6 := (HB0.out.cell (p := ⟨b, off + 6, none⟩) hbl.out).trans g6
  have f7 := (HB0.out.cell (p := ⟨b, off + 7, none⟩) hbl.out).trans g7
  have HJ := Lib.hid hJ; clear hJ
  clear g0 g1 g2 g3 g4 g5 g6 g7
  have hni : (0 : Int) < (n : Int) := by omega
  go_enter Tryz.func12, Tryz.ntmps12
  go_wp2_with fail
  refine (HR.out _).mono ?_
  rintro e1 w1 ⟨rfl, hB⟩
  have B1 := Lib.hid (HB1.out.trans (hB.mono HB1.out.size))
  obtain ⟨bc, bf⟩ := bcell hB
  clear hB f0 f1 f2 f3 f4 f5 f6 f7
  go_wp2_with fail
  refine (HJ.out _ B1.out).mono ?_
  rintro e2 w2 ⟨rfl, hB⟩
  have B2 := Lib.hid (B1.out.trans (hB.mono B1.out.size)); clear hB bc bf
  go_wp2
  go_ret
  exact ⟨rfl, B2.out⟩
set_option maxRecDepth 100000 in
set_option maxHeartbeats 4000000 in
theorem rw_j2 (nm : ByteArray) (vk vn : Int) (vs : ByteArray) (p : Option Addr) (m q : Nat) (b off n c : Nat) (w : World) (hn : 0 < n) (hbl : Hid (b < w.heap.size)) (g : Hd) (sp : Option Addr) (sm sq : Nat) (p' : Option Addr) (n' c' : Nat) (g0 : w.cell? ⟨b, off, none⟩ = some (.int .i64 g.k)) (g1 : w.cell? ⟨b, off + 1, none⟩ = some (.int .i64 g.o)) (g2 : w.cell? ⟨b, off + 2, none⟩ = some (.string g.nm)) (g3 : w.cell? ⟨b, off + 3, none⟩ = some (.int .i64 g.vk)) (g4 : w.cell? ⟨b, off + 4, none⟩ = some (.int .i64 g.vn)) (g5 : w.cell? ⟨b, off + 5, none⟩ = some (.string g.vs)) (g6 : w.cell? ⟨b, off + 6, none⟩ = some (.slice sp sm sq)) (g7 : w.cell? ⟨b, off + 7, none⟩ = some (.slice p' n' c')) (t : ByteArray) (ht : t.size ≤ 4100000) (hJ : ∀ W, Below w.heap.size w W → Calls Tryz.prog 25 #[.slice (some ⟨b, off, none⟩) n c, .int .i64 3, .string ⟨#[32, 97, 110, 100, 32]⟩] W fun e w' => e = .returned (.string t) ∧ Below W.heap.size W w') :
    Calls Tryz.prog 12 #[.agg #[.int .i64 4, .int .i64 2, .string nm, .int .i64 vk, .int .i64 vn, .string vs, .slice p m q, .slice (some ⟨b, off, none⟩) n c]] w (fun e w' => e = .returned (.string (t)) ∧ Below w.heap.size w w') := by
  have HB0 := Lib.hid ((Below.refl w.heap.size w).alloc (Nat.le_refl _) (.cells #[.int .i64 4, .int .i64 2, .string nm, .int .i64 vk, .int .i64 vn, .string vs, .slice p m q, .slice (some ⟨b, off, none⟩) n c] 27))
  have HB1 := Lib.hid (HB0.out.alloc HB0.out.size (.cells #[.int .i64 g.k, .int .i64 g.o, .string g.nm, .int .i64 g.vk, .int .i64 g.vn, .string g.vs, .slice sp sm sq, .slice p' n' c'] 27))
  have HR := Lib.hid (fun w => by have := rrow_c 4 2 nm vk vn vs p m q (some ⟨b, off, none⟩) n c w (.inr (by omega)); rw [show rrowS 4 2 vk vn = 2 from by unfold rrowS; rw [if_neg (by omega)]; rfl] at this; exact this)
  have f0 := (HB0.out.cell (p := ⟨b, off, none⟩) hbl.out).trans g0
  have f1 := (HB0.out.cell (p := ⟨b, off + 1, none⟩) hbl.out).trans g1
  have f2 := (HB0.out.cell (p := ⟨b, off + 2, none⟩) hbl.out).trans g2
  have f3 := (HB0.out.cell (p := ⟨b, off + 3, none⟩) hbl.out).trans g3
  have f4 := (HB0.out.cell (p := ⟨b, off + 4, none⟩) hbl.out).trans g4
  have f5 := (HB0.out.cell (p := ⟨b, off + 5, none⟩) hbl.out).trans g5
  have f6 := (HB0.out.cell (p := ⟨b, off + 6, none⟩) hbl.out).trans g6
  have f7 := (HB0.out.cell (p := ⟨b, off + 7, none⟩) hbl.out).trans g7
  have HJ := Lib.hid hJ; clear hJ
  clear g0 g1 g2 g3 g4 g5 g6 g7
  have hni : (0 : Int) < (n : Int) := by omega
  go_enter Tryz.func12, Tryz.ntmps12
  go_wp2_with fail
  refine (HR.out _).mono ?_
  rintro e1 w1 ⟨rfl, hB⟩
  have B1 := Lib.hid (HB1.out.trans (hB.mono HB1.out.size))
  obtain ⟨bc, bf⟩ := bcell hB
  clear hB f0 f1 f2 f3 f4 f5 f6 f7
  go_wp2_with fail
  refine (HJ.out _ B1.out).mono ?_
  rintro e2 w2 ⟨rfl, hB⟩
  have B2 := Lib.hid (B1.out.trans (hB.mono B1.out.size)); clear hB bc bf
  go_wp2
  go_ret
  exact ⟨rfl, B2.out⟩
set_option maxRecDepth 100000 in
set_option maxHeartbeats 4000000 in
theorem rw_a3 (nm : ByteArray) (vk vn : Int) (vs : ByteArray) (p : Option Addr) (m q : Nat) (b off n c : Nat) (w : World) (hn : 0 < n) (hbl : Hid (b < w.heap.size)) (g : Hd) (sp : Option Addr) (sm sq : Nat) (p' : Option Addr) (n' c' : Nat) (g0 : w.cell? ⟨b, off, none⟩ = some (.int .i64 g.k)) (g1 : w.cell? ⟨b, off + 1, none⟩ = some (.int .i64 g.o)) (g2 : w.cell? ⟨b, off + 2, none⟩ = some (.string g.nm)) (g3 : w.cell? ⟨b, off + 3, none⟩ = some (.int .i64 g.vk)) (g4 : w.cell? ⟨b, off + 4, none⟩ = some (.int .i64 g.vn)) (g5 : w.cell? ⟨b, off + 5, none⟩ = some (.string g.vs)) (g6 : w.cell? ⟨b, off + 6, none⟩ = some (.slice sp sm sq)) (g7 : w.cell? ⟨b, off + 7, none⟩ = some (.slice p' n' c')) (t : ByteArray) (ht : t.size ≤ 4100000) (hJ : ∀ W, Below w.heap.size w W → Calls Tryz.prog 26 #[.agg #[.int .i64 g.k, .int .i64 g.o, .string g.nm, .int .i64 g.vk, .int .i64 g.vn, .string g.vs, .slice sp sm sq, .slice p' n' c'], .int .i64 3] W fun e w' => e = .returned (.string t) ∧ Below W.heap.size W w') :
    Calls Tryz.prog 12 #[.agg #[.int .i64 4, .int .i64 1, .string nm, .int .i64 vk, .int .i64 vn, .string vs, .slice p m q, .slice (some ⟨b, off, none⟩) n c]] w (fun e w' => e = .returned (.string (⟨#[110, 111, 116, 32]⟩ ++ t)) ∧ Below w.heap.size w w') := by
  have HB0 := Lib.hid ((Below.refl w.heap.size w).alloc (Nat.le_refl _) (.cells #[.int .i64 4, .int .i64 1, .string nm, .int .i64 vk, .int .i64 vn, .string vs, .slice p m q, .slice (some ⟨b, off, none⟩) n c] 27))
  have HB1 := Lib.hid (HB0.out.alloc HB0.out.size (.cells #[.int .i64 g.k, .int .i64 g.o, .string g.nm, .int .i64 g.vk, .int .i64 g.vn, .string g.vs, .slice sp sm sq, .slice p' n' c'] 27))
  have HR := Lib.hid (fun w => by have := rrow_c 4 1 nm vk vn vs p m q (some ⟨b, off, none⟩) n c w (.inr (by omega)); rw [show rrowS 4 1 vk vn = 3 from by unfold rrowS; rw [if_neg (by omega)]; rfl] at this; exact this)
  have f0 := (HB0.out.cell (p := ⟨b, off, none⟩) hbl.out).trans g0
  have f1 := (HB0.out.cell (p := ⟨b, off + 1, none⟩) hbl.out).trans g1
  have f2 := (HB0.out.cell (p := ⟨b, off + 2, none⟩) hbl.out).trans g2
  have f3 := (HB0.out.cell (p := ⟨b, off + 3, none⟩) hbl.out).trans g3
  have f4 := (HB0.out.cell (p := ⟨b, off + 4, none⟩) hbl.out).trans g4
  have f5 := (HB0.out.cell (p := ⟨b, off + 5, none⟩) hbl.out).trans g5
  have f6 := (HB0.out.cell (p := ⟨b, off + 6, none⟩) hbl.out).trans g6
  have f7 := (HB0.out.cell (p := ⟨b, off + 7, none⟩) hbl.out).trans g7
  have HJ := Lib.hid hJ; clear hJ
  clear g0 g1 g2 g3 g4 g5 g6 g7
  have hni : (0 : Int) < (n : Int) := by omega
  go_enter Tryz.func12, Tryz.ntmps12
  go_wp2_with fail
  refine (HR.out _).mono ?_
  rintro e1 w1 ⟨rfl, hB⟩
  have B1 := Lib.hid (HB1.out.trans (hB.mono HB1.out.size))
  obtain ⟨bc, bf⟩ := bcell hB
  clear hB f0 f1 f2 f3 f4 f5 f6 f7
  go_wp2_with fail
  refine (HJ.out _ B1.out).mono ?_
  rintro e2 w2 ⟨rfl, hB⟩
  have B2 := Lib.hid (B1.out.trans (hB.mono B1.out.size)); clear hB bc bf
  go_wp2
  go_ret
  exact ⟨rfl, B2.out⟩
set_option maxRecDepth 100000 in
set_option maxHeartbeats 4000000 in
theorem rw_a7p (nm : ByteArray) (vk vn : Int) (vs : ByteArray) (p : Option Addr) (m q : Nat) (b off n c : Nat) (w : World) (hn : 0 < n) (hbl : Hid (b < w.heap.size)) (g : Hd) (sp : Option Addr) (sm sq : Nat) (p' : Option Addr) (n' c' : Nat) (g0 : w.cell? ⟨b, off, none⟩ = some (.int .i64 g.k)) (g1 : w.cell? ⟨b, off + 1, none⟩ = some (.int .i64 g.o)) (g2 : w.cell? ⟨b, off + 2, none⟩ = some (.string g.nm)) (g3 : w.cell? ⟨b, off + 3, none⟩ = some (.int .i64 g.vk)) (g4 : w.cell? ⟨b, off + 4, none⟩ = some (.int .i64 g.vn)) (g5 : w.cell? ⟨b, off + 5, none⟩ = some (.string g.vs)) (g6 : w.cell? ⟨b, off + 6, none⟩ = some (.slice sp sm sq)) (g7 : w.cell? ⟨b, off + 7, none⟩ = some (.slice p' n' c')) (t : ByteArray) (ht : t.size ≤ 4100000) (h1 : g.k = 1) (h2 : g.vk = 2) (h3 : 0 ≤ g.vn) (hJ : ∀ W, Below w.heap.size w W → Calls Tryz.prog 12 #[.agg #[.int .i64 g.k, .int .i64 g.o, .string g.nm, .int .i64 g.vk, .int .i64 g.vn, .string g.vs, .slice sp sm sq, .slice p' n' c']] W fun e w' => e = .returned (.string t) ∧ Below W.heap.size W w') :
    Calls Tryz.prog 12 #[.agg #[.int .i64 4, .int .i64 20, .string nm, .int .i64 vk, .int .i64 vn, .string vs, .slice p m q, .slice (some ⟨b, off, none⟩) n c]] w (fun e w' => e = .returned (.string (⟨#[45, 40]⟩ ++ t ++ ⟨#[41]⟩)) ∧ Below w.heap.size w w') := by
  have HB0 := Lib.hid ((Below.refl w.heap.size w).alloc (Nat.le_refl _) (.cells #[.int .i64 4, .int .i64 20, .string nm, .int .i64 vk, .int .i64 vn, .string vs, .slice p m q, .slice (some ⟨b, off, none⟩) n c] 27))
  have HB1 := Lib.hid (HB0.out.alloc HB0.out.size (.cells #[.int .i64 g.k, .int .i64 g.o, .string g.nm, .int .i64 g.vk, .int .i64 g.vn, .string g.vs, .slice sp sm sq, .slice p' n' c'] 27))
  have HR := Lib.hid (fun w => by have := rrow_c 4 20 nm vk vn vs p m q (some ⟨b, off, none⟩) n c w (.inr (by omega)); rw [show rrowS 4 20 vk vn = 7 from by unfold rrowS; rw [if_neg (by omega)]; rfl] at this; exact this)
  have f0 := (HB0.out.cell (p := ⟨b, off, none⟩) hbl.out).trans g0
  have f1 := (HB0.out.cell (p := ⟨b, off + 1, none⟩) hbl.out).trans g1
  have f2 := (HB0.out.cell (p := ⟨b, off + 2, none⟩) hbl.out).trans g2
  have f3 := (HB0.out.cell (p := ⟨b, off + 3, none⟩) hbl.out).trans g3
  have f4 := (HB0.out.cell (p := ⟨b, off + 4, none⟩) hbl.out).trans g4
  have f5 := (HB0.out.cell (p := ⟨b, off + 5, none⟩) hbl.out).trans g5
  have f6 := (HB0.out.cell (p := ⟨b, off + 6, none⟩) hbl.out).trans g6
  have f7 := (HB0.out.cell (p := ⟨b, off + 7, none⟩) hbl.out).trans g7
  have HJ := Lib.hid hJ; clear hJ
  have k1 : (g.k == 1) = true := by simpa using h1
  have k2 : (g.vk == 2) = true := by simpa using h2
  clear h1 h2
  clear g0 g1 g2 g3 g4 g5 g6 g7
  have hni : (0 : Int) < (n : Int) := by omega
  go_enter Tryz.func12, Tryz.ntmps12
  go_wp2_with fail
  refine (HR.out _).mono ?_
  rintro e1 w1 ⟨rfl, hB⟩
  have B1 := Lib.hid (HB1.out.trans (hB.mono HB1.out.size))
  obtain ⟨bc, bf⟩ := bcell hB
  clear hB f0 f1 f2 f3 f4 f5 f6 f7
  go_wp2_with fail
  refine (HJ.out _ B1.out).mono ?_
  rintro e2 w2 ⟨rfl, hB⟩
  have B2 := Lib.hid (B1.out.trans (hB.mono B1.out.size)); clear hB bc bf
  go_wp2
  go_ret
  exact ⟨rfl, B2.out⟩
set_option maxRecDepth 100000 in
set_option maxHeartbeats 4000000 in
theorem rw_a7n (nm : ByteArray) (vk vn : Int) (vs : ByteArray) (p : Option Addr) (m q : Nat) (b off n c : Nat) (w : World) (hn : 0 < n) (hbl : Hid (b < w.heap.size)) (g : Hd) (sp : Option Addr) (sm sq : Nat) (p' : Option Addr) (n' c' : Nat) (g0 : w.cell? ⟨b, off, none⟩ = some (.int .i64 g.k)) (g1 : w.cell? ⟨b, off + 1, none⟩ = some (.int .i64 g.o)) (g2 : w.cell? ⟨b, off + 2, none⟩ = some (.string g.nm)) (g3 : w.cell? ⟨b, off + 3, none⟩ = some (.int .i64 g.vk)) (g4 : w.cell? ⟨b, off + 4, none⟩ = some (.int .i64 g.vn)) (g5 : w.cell? ⟨b, off + 5, none⟩ = some (.string g.vs)) (g6 : w.cell? ⟨b, off + 6, none⟩ = some (.slice sp sm sq)) (g7 : w.cell? ⟨b, off + 7, none⟩ = some (.slice p' n' c')) (t : ByteArray) (ht : t.size ≤ 4100000) (h1 : g.k = 1) (h2 : g.vk = 2) (h3 : ¬ 0 ≤ g.vn) (hJ : ∀ W, Below w.heap.size w W → Calls Tryz.prog 26 #[.agg #[.int .i64 g.k, .int .i64 g.o, .string g.nm, .int .i64 g.vk, .int .i64 g.vn, .string g.vs, .slice sp sm sq, .slice p' n' c'], .int .i64 7] W fun e w' => e = .returned (.string t) ∧ Below W.heap.size W w') :
    Calls Tryz.prog 12 #[.agg #[.int .i64 4, .int .i64 20, .string nm, .int .i64 vk, .int .i64 vn, .string vs, .slice p m q, .slice (some ⟨b, off, none⟩) n c]] w (fun e w' => e = .returned (.string (⟨#[45]⟩ ++ t)) ∧ Below w.heap.size w w') := by
  have HB0 := Lib.hid ((Below.refl w.heap.size w).alloc (Nat.le_refl _) (.cells #[.int .i64 4, .int .i64 20, .string nm, .int .i64 vk, .int .i64 vn, .string vs, .slice p m q, .slice (some ⟨b, off, none⟩) n c] 27))
  have HB1 := Lib.hid (HB0.out.alloc HB0.out.size (.cells #[.int .i64 g.k, .int .i64 g.o, .string g.nm, .int .i64 g.vk, .int .i64 g.vn, .string g.vs, .slice sp sm sq, .slice p' n' c'] 27))
  have HR := Lib.hid (fun w => by have := rrow_c 4 20 nm vk vn vs p m q (some ⟨b, off, none⟩) n c w (.inr (by omega)); rw [show rrowS 4 20 vk vn = 7 from by unfold rrowS; rw [if_neg (by omega)]; rfl] at this; exact this)
  have f0 := (HB0.out.cell (p := ⟨b, off, none⟩) hbl.out).trans g0
  have f1 := (HB0.out.cell (p := ⟨b, off + 1, none⟩) hbl.out).trans g1
  have f2 := (HB0.out.cell (p := ⟨b, off + 2, none⟩) hbl.out).trans g2
  have f3 := (HB0.out.cell (p := ⟨b, off + 3, none⟩) hbl.out).trans g3
  have f4 := (HB0.out.cell (p := ⟨b, off + 4, none⟩) hbl.out).trans g4
  have f5 := (HB0.out.cell (p := ⟨b, off + 5, none⟩) hbl.out).trans g5
  have f6 := (HB0.out.cell (p := ⟨b, off + 6, none⟩) hbl.out).trans g6
  have f7 := (HB0.out.cell (p := ⟨b, off + 7, none⟩) hbl.out).trans g7
  have HJ := Lib.hid hJ; clear hJ
  have k1 : (g.k == 1) = true := by simpa using h1
  have k2 : (g.vk == 2) = true := by simpa using h2
  have k3 : decide (0 ≤ g.vn) = false := by simpa using h3
  clear h1 h2 h3
  clear g0 g1 g2 g3 g4 g5 g6 g7
  have hni : (0 : Int) < (n : Int) := by omega
  go_enter Tryz.func12, Tryz.ntmps12
  go_wp2_with fail
  refine (HR.out _).mono ?_
  rintro e1 w1 ⟨rfl, hB⟩
  have B1 := Lib.hid (HB1.out.trans (hB.mono HB1.out.size))
  obtain ⟨bc, bf⟩ := bcell hB
  clear hB f0 f1 f2 f3 f4 f5 f6 f7
  go_wp2_with fail
  refine (HJ.out _ B1.out).mono ?_
  rintro e2 w2 ⟨rfl, hB⟩
  have B2 := Lib.hid (B1.out.trans (hB.mono B1.out.size)); clear hB bc bf
  go_wp2
  go_ret
  exact ⟨rfl, B2.out⟩
set_option maxRecDepth 100000 in
set_option maxHeartbeats 4000000 in
theorem rw_a7v (nm : ByteArray) (vk vn : Int) (vs : ByteArray) (p : Option Addr) (m q : Nat) (b off n c : Nat) (w : World) (hn : 0 < n) (hbl : Hid (b < w.heap.size)) (g : Hd) (sp : Option Addr) (sm sq : Nat) (p' : Option Addr) (n' c' : Nat) (g0 : w.cell? ⟨b, off, none⟩ = some (.int .i64 g.k)) (g1 : w.cell? ⟨b, off + 1, none⟩ = some (.int .i64 g.o)) (g2 : w.cell? ⟨b, off + 2, none⟩ = some (.string g.nm)) (g3 : w.cell? ⟨b, off + 3, none⟩ = some (.int .i64 g.vk)) (g4 : w.cell? ⟨b, off + 4, none⟩ = some (.int .i64 g.vn)) (g5 : w.cell? ⟨b, off + 5, none⟩ = some (.string g.vs)) (g6 : w.cell? ⟨b, off + 6, none⟩ = some (.slice sp sm sq)) (g7 : w.cell? ⟨b, off + 7, none⟩ = some (.slice p' n' c')) (t : ByteArray) (ht : t.size ≤ 4100000) (h1 : g.k = 1) (h2 : g.vk ≠ 2) (hJ : ∀ W, Below w.heap.size w W → Calls Tryz.prog 26 #[.agg #[.int .i64 g.k, .int .i64 g.o, .string g.nm, .int .i64 g.vk, .int .i64 g.vn, .string g.vs, .slice sp sm sq, .slice p' n' c'], .int .i64 7] W fun e w' => e = .returned (.string t) ∧ Below W.heap.size W w') :
    Calls Tryz.prog 12 #[.agg #[.int .i64 4, .int .i64 20, .string nm, .int .i64 vk, .int .i64 vn, .string vs, .slice p m q, .slice (some ⟨b, off, none⟩) n c]] w (fun e w' => e = .returned (.string (⟨#[45]⟩ ++ t)) ∧ Below w.heap.size w w') := by
  have HB0 := Lib.hid ((Below.refl w.heap.size w).alloc (Nat.le_refl _) (.cells #[.int .i64 4, .int .i64 20, .string nm, .int .i64 vk, .int .i64 vn, .string vs, .slice p m q, .slice (some ⟨b, off, none⟩) n c] 27))
  have HB1 := Lib.hid (HB0.out.alloc HB0.out.size (.cells #[.int .i64 g.k, .int .i64 g.o, .string g.nm, .int .i64 g.vk, .int .i64 g.vn, .string g.vs, .slice sp sm sq, .slice p' n' c'] 27))
  have HR := Lib.hid (fun w => by have := rrow_c 4 20 nm vk vn vs p m q (some ⟨b, off, none⟩) n c w (.inr (by omega)); rw [show rrowS 4 20 vk vn = 7 from by unfold rrowS; rw [if_neg (by omega)]; rfl] at this; exact this)
  have f0 := (HB0.out.cell (p := ⟨b, off, none⟩) hbl.out).trans g0
  have f1 := (HB0.out.cell (p := ⟨b, off + 1, none⟩) hbl.out).trans g1
  have f2 := (HB0.out.cell (p := ⟨b, off + 2, none⟩) hbl.out).trans g2
  have f3 := (HB0.out.cell (p := ⟨b, off + 3, none⟩) hbl.out).trans g3
  have f4 := (HB0.out.cell (p := ⟨b, off + 4, none⟩) hbl.out).trans g4
  have f5 := (HB0.out.cell (p := ⟨b, off + 5, none⟩) hbl.out).trans g5
  have f6 := (HB0.out.cell (p := ⟨b, off + 6, none⟩) hbl.out).trans g6
  have f7 := (HB0.out.cell (p := ⟨b, off + 7, none⟩) hbl.out).trans g7
  have HJ := Lib.hid hJ; clear hJ
  have k1 : (g.k == 1) = true := by simpa using h1
  have k2 : (g.vk == 2) = false := by rw [beq_eq_false_iff_ne]; exact h2
  clear h1 h2
  clear g0 g1 g2 g3 g4 g5 g6 g7
  have hni : (0 : Int) < (n : Int) := by omega
  go_enter Tryz.func12, Tryz.ntmps12
  go_wp2_with fail
  refine (HR.out _).mono ?_
  rintro e1 w1 ⟨rfl, hB⟩
  have B1 := Lib.hid (HB1.out.trans (hB.mono HB1.out.size))
  obtain ⟨bc, bf⟩ := bcell hB
  clear hB f0 f1 f2 f3 f4 f5 f6 f7
  go_wp2_with fail
  refine (HJ.out _ B1.out).mono ?_
  rintro e2 w2 ⟨rfl, hB⟩
  have B2 := Lib.hid (B1.out.trans (hB.mono B1.out.size)); clear hB bc bf
  go_wp2
  go_ret
  exact ⟨rfl, B2.out⟩
set_option maxRecDepth 100000 in
set_option maxHeartbeats 4000000 in
theorem rw_a7k (nm : ByteArray) (vk vn : Int) (vs : ByteArray) (p : Option Addr) (m q : Nat) (b off n c : Nat) (w : World) (hn : 0 < n) (hbl : Hid (b < w.heap.size)) (g : Hd) (sp : Option Addr) (sm sq : Nat) (p' : Option Addr) (n' c' : Nat) (g0 : w.cell? ⟨b, off, none⟩ = some (.int .i64 g.k)) (g1 : w.cell? ⟨b, off + 1, none⟩ = some (.int .i64 g.o)) (g2 : w.cell? ⟨b, off + 2, none⟩ = some (.string g.nm)) (g3 : w.cell? ⟨b, off + 3, none⟩ = some (.int .i64 g.vk)) (g4 : w.cell? ⟨b, off + 4, none⟩ = some (.int .i64 g.vn)) (g5 : w.cell? ⟨b, off + 5, none⟩ = some (.string g.vs)) (g6 : w.cell? ⟨b, off + 6, none⟩ = some (.slice sp sm sq)) (g7 : w.cell? ⟨b, off + 7, none⟩ = some (.slice p' n' c')) (t : ByteArray) (ht : t.size ≤ 4100000) (h1 : g.k ≠ 1) (hJ : ∀ W, Below w.heap.size w W → Calls Tryz.prog 26 #[.agg #[.int .i64 g.k, .int .i64 g.o, .string g.nm, .int .i64 g.vk, .int .i64 g.vn, .string g.vs, .slice sp sm sq, .slice p' n' c'], .int .i64 7] W fun e w' => e = .returned (.string t) ∧ Below W.heap.size W w') :
    Calls Tryz.prog 12 #[.agg #[.int .i64 4, .int .i64 20, .string nm, .int .i64 vk, .int .i64 vn, .string vs, .slice p m q, .slice (some ⟨b, off, none⟩) n c]] w (fun e w' => e = .returned (.string (⟨#[45]⟩ ++ t)) ∧ Below w.heap.size w w') := by
  have HB0 := Lib.hid ((Below.refl w.heap.size w).alloc (Nat.le_refl _) (.cells #[.int .i64 4, .int .i64 20, .string nm, .int .i64 vk, .int .i64 vn, .string vs, .slice p m q, .slice (some ⟨b, off, none⟩) n c] 27))
  have HB1 := Lib.hid (HB0.out.alloc HB0.out.size (.cells #[.int .i64 g.k, .int .i64 g.o, .string g.nm, .int .i64 g.vk, .int .i64 g.vn, .string g.vs, .slice sp sm sq, .slice p' n' c'] 27))
  have HR := Lib.hid (fun w => by have := rrow_c 4 20 nm vk vn vs p m q (some ⟨b, off, none⟩) n c w (.inr (by omega)); rw [show rrowS 4 20 vk vn = 7 from by unfold rrowS; rw [if_neg (by omega)]; rfl] at this; exact this)
  have f0 := (HB0.out.cell (p := ⟨b, off, none⟩) hbl.out).trans g0
  have f1 := (HB0.out.cell (p := ⟨b, off + 1, none⟩) hbl.out).trans g1
  have f2 := (HB0.out.cell (p := ⟨b, off + 2, none⟩) hbl.out).trans g2
  have f3 := (HB0.out.cell (p := ⟨b, off + 3, none⟩) hbl.out).trans g3
  have f4 := (HB0.out.cell (p := ⟨b, off + 4, none⟩) hbl.out).trans g4
  have f5 := (HB0.out.cell (p := ⟨b, off + 5, none⟩) hbl.out).trans g5
  have f6 := (HB0.out.cell (p := ⟨b, off + 6, none⟩) hbl.out).trans g6
  have f7 := (HB0.out.cell (p := ⟨b, off + 7, none⟩) hbl.out).trans g7
  have HJ := Lib.hid hJ; clear hJ
  have k1 : (g.k == 1) = false := by rw [beq_eq_false_iff_ne]; exact h1
  clear h1
  clear g0 g1 g2 g3 g4 g5 g6 g7
  have hni : (0 : Int) < (n : Int) := by omega
  go_enter Tryz.func12, Tryz.ntmps12
  go_wp2_with fail
  refine (HR.out _).mono ?_
  rintro e1 w1 ⟨rfl, hB⟩
  have B1 := Lib.hid (HB1.out.trans (hB.mono HB1.out.size))
  obtain ⟨bc, bf⟩ := bcell hB
  clear hB f0 f1 f2 f3 f4 f5 f6 f7
  go_wp2_with fail
  refine (HJ.out _ B1.out).mono ?_
  rintro e2 w2 ⟨rfl, hB⟩
  have B2 := Lib.hid (B1.out.trans (hB.mono B1.out.size)); clear hB bc bf
  go_wp2
  go_ret
  exact ⟨rfl, B2.out⟩
end Go.Proofs.YtcdifmnakppfkaaGreatDoor
