/-
  The texts of expressions in the reference (made by a program).
-/
import Derived.Test.YtcdifmnakppfkaaGreatDoorExRWc
import Derived.Test.YtcdifmnakppfkaaGreatDoorExRName
import Derived.Test.YtcdifmnakppfkaaGreatDoorExPlainS
import Derived.Test.YtcdifmnakppfkaaGreatDoorTxtRefShown
namespace Go.Proofs.YtcdifmnakppfkaaGreatDoor
open Go.RowKit

theorem wpAnyH_weaken {P : Program} {ops : Array Oper} {Q : Exit → Act → World → Prop} {md : Region.Mode} {S S' : World → Prop} (h : ∀ w, S' w → S w) : ∀ (fuel : Nat) (listed : Array Bool) (a : Act) (w : World), wpAnyH P md ops Q S' fuel listed a w → wpAnyH P md ops Q S fuel listed a w
  | 0, _, _, _, hh => hh
  | fuel + 1, _, _, _, hh => ⟨hh.1, fun i hi => wpOp_mono (fun a' w' h' => ⟨h _ h'.1, wpAnyH_weaken h fuel _ a' w' h'.2⟩) (hh.2 i hi)⟩
theorem size_two (x y : UInt8) : (#[x, y] : Array UInt8).size = 2 := rfl
def BoxO (w : World) (u : Nat) (nm : ByteArray) (vk vn : Int) (vs : ByteArray) (p : Option Addr) (m q : Nat) (b off n c : Nat) (g : Hd) (sp : Option Addr) (sm sq : Nat) (p' : Option Addr) (n' c' : Nat) (W : World) : Prop := (fun W => W.cell? ⟨w.heap.size, 0, none⟩ = some (.int .i64 5) ∧ W.cell? ⟨w.heap.size, 1, none⟩ = some (.int .i64 ((u : Int) + 1)) ∧ W.cell? ⟨w.heap.size, 2, none⟩ = some (.string nm) ∧ W.cell? ⟨w.heap.size, 3, none⟩ = some (.int .i64 vk) ∧ W.cell? ⟨w.heap.size, 4, none⟩ = some (.int .i64 vn) ∧ W.cell? ⟨w.heap.size, 5, none⟩ = some (.string vs) ∧ W.cell? ⟨w.heap.size, 6, none⟩ = some (.slice p m q) ∧ W.cell? ⟨w.heap.size, 7, none⟩ = some (.slice (some ⟨b, off, none⟩) n c) ∧ W.cell? ⟨b, off, none⟩ = some (.int .i64 g.k) ∧ W.cell? ⟨b, off + 1, none⟩ = some (.int .i64 g.o) ∧ W.cell? ⟨b, off + 2, none⟩ = some (.string g.nm) ∧ W.cell? ⟨b, off + 3, none⟩ = some (.int .i64 g.vk) ∧ W.cell? ⟨b, off + 4, none⟩ = some (.int .i64 g.vn) ∧ W.cell? ⟨b, off + 5, none⟩ = some (.string g.vs) ∧ W.cell? ⟨b, off + 6, none⟩ = some (.slice sp sm sq) ∧ W.cell? ⟨b, off + 7, none⟩ = some (.slice p' n' c') ∧ Hid (Below w.heap.size w W ∧ w.heap.size + 1 ≤ W.heap.size)) W
def BoxO2 (w : World) (u : Nat) (nm : ByteArray) (vk vn : Int) (vs : ByteArray) (p : Option Addr) (m q : Nat) (b off n c : Nat) (g : Hd) (sp : Option Addr) (sm sq : Nat) (p' : Option Addr) (n' c' : Nat) (bn : Nat) (word : ByteArray) (W : World) : Prop := (fun W => W.cell? ⟨w.heap.size, 0, none⟩ = some (.int .i64 5) ∧ W.cell? ⟨w.heap.size, 1, none⟩ = some (.int .i64 ((u : Int) + 1)) ∧ W.cell? ⟨w.heap.size, 2, none⟩ = some (.string nm) ∧ W.cell? ⟨w.heap.size, 3, none⟩ = some (.int .i64 vk) ∧ W.cell? ⟨w.heap.size, 4, none⟩ = some (.int .i64 vn) ∧ W.cell? ⟨w.heap.size, 5, none⟩ = some (.string vs) ∧ W.cell? ⟨w.heap.size, 6, none⟩ = some (.slice p m q) ∧ W.cell? ⟨w.heap.size, 7, none⟩ = some (.slice (some ⟨b, off, none⟩) n c) ∧ W.cell? ⟨b, off, none⟩ = some (.int .i64 g.k) ∧ W.cell? ⟨b, off + 1, none⟩ = some (.int .i64 g.o) ∧ W.cell? ⟨b, off + 2, none⟩ = some (.string g.nm) ∧ W.cell? ⟨b, off + 3, none⟩ = some (.int .i64 g.vk) ∧ W.cell? ⟨b, off + 4, none⟩ = some (.int .i64 g.vn) ∧ W.cell? ⟨b, off + 5, none⟩ = some (.string g.vs) ∧ W.cell? ⟨b, off + 6, none⟩ = some (.slice sp sm sq) ∧ W.cell? ⟨b, off + 7, none⟩ = some (.slice p' n' c') ∧ W.cell? ⟨bn, u, none⟩ = some (.string word) ∧ bn < W.heap.size ∧ Hid (Below w.heap.size w W ∧ w.heap.size + 1 ≤ W.heap.size)) W
theorem BoxO.bel {w W : World} {u : Nat} {nm : ByteArray} {vk vn : Int} {vs : ByteArray} {p : Option Addr} {m q : Nat} {b off n c : Nat} {g : Hd} {sp : Option Addr} {sm sq : Nat} {p' : Option Addr} {n' c' : Nat} (h : BoxO w u nm vk vn vs p m q b off n c g sp sm sq p' n' c' W) : Below w.heap.size w W := by
  obtain ⟨_, _, _, _, _, _, _, _, _, _, _, _, _, _, _, _, hh⟩ := h
  exact hh.out.1
theorem BoxO2.bel {w W : World} {u : Nat} {nm : ByteArray} {vk vn : Int} {vs : ByteArray} {p : Option Addr} {m q : Nat} {b off n c : Nat} {g : Hd} {sp : Option Addr} {sm sq : Nat} {p' : Option Addr} {n' c' : Nat} {bn : Nat} {word : ByteArray} (h : BoxO2 w u nm vk vn vs p m q b off n c g sp sm sq p' n' c' bn word W) : Below w.heap.size w W := by
  obtain ⟨_, _, _, _, _, _, _, _, _, _, _, _, _, _, _, _, _, _, hh⟩ := h
  exact hh.out.1
theorem BoxO.keep {w W W' : World} {u : Nat} {nm : ByteArray} {vk vn : Int} {vs : ByteArray} {p : Option Addr} {m q : Nat} {b off n c : Nat} {g : Hd} {sp : Option Addr} {sm sq : Nat} {p' : Option Addr} {n' c' : Nat} (hb0 : b < w.heap.size) (h : BoxO w u nm vk vn vs p m q b off n c g sp sm sq p' n' c' W) (hb : Below W.heap.size W W') : BoxO w u nm vk vn vs p m q b off n c g sp sm sq p' n' c' W' := by
  obtain ⟨a0, a1, a2, a3, a4, a5, a6, a7, a8, a9, a10, a11, a12, a13, a14, a15, hh⟩ := h
  obtain ⟨hB, hs⟩ := hh.out
  have f := fun (g o : Nat) (hg : g < W.heap.size) => hb.cell (p := ⟨g, o, none⟩) hg
  refine ⟨?_, ?_, ?_, ?_, ?_, ?_, ?_, ?_, ?_, ?_, ?_, ?_, ?_, ?_, ?_, ?_, hB.trans (hb.mono hB.size), Nat.le_trans hs hb.size⟩
  all_goals (rw [f _ _ (by omega)]; assumption)
theorem BoxO2.keep {w W W' : World} {u : Nat} {nm : ByteArray} {vk vn : Int} {vs : ByteArray} {p : Option Addr} {m q : Nat} {b off n c : Nat} {g : Hd} {sp : Option Addr} {sm sq : Nat} {p' : Option Addr} {n' c' : Nat} {bn : Nat} {word : ByteArray} (hb0 : b < w.heap.size) (h : BoxO2 w u nm vk vn vs p m q b off n c g sp sm sq p' n' c' bn word W) (hb : Below W.heap.size W W') : BoxO2 w u nm vk vn vs p m q b off n c g sp sm sq p' n' c' bn word W' := by
  obtain ⟨a0, a1, a2, a3, a4, a5, a6, a7, a8, a9, a10, a11, a12, a13, a14, a15, a16, a17, hh⟩ := h
  obtain ⟨hB, hs⟩ := hh.out
  have f := fun (g o : Nat) (hg : g < W.heap.size) => hb.cell (p := ⟨g, o, none⟩) hg
  refine ⟨?_, ?_, ?_, ?_, ?_, ?_, ?_, ?_, ?_, ?_, ?_, ?_, ?_, ?_, ?_, ?_, ?_, Nat.lt_of_lt_of_le a17 hb.size, hB.trans (hb.mono hB.size), Nat.le_trans hs hb.size⟩
  all_goals (rw [f _ _ (by omega)]; assumption)
theorem BoxO2.weak {w W : World} {u : Nat} {nm : ByteArray} {vk vn : Int} {vs : ByteArray} {p : Option Addr} {m q : Nat} {b off n c : Nat} {g : Hd} {sp : Option Addr} {sm sq : Nat} {p' : Option Addr} {n' c' : Nat} {bn : Nat} {word : ByteArray} (h : BoxO2 w u nm vk vn vs p m q b off n c g sp sm sq p' n' c' bn word W) : BoxO w u nm vk vn vs p m q b off n c g sp sm sq p' n' c' W := by
  obtain ⟨a0, a1, a2, a3, a4, a5, a6, a7, a8, a9, a10, a11, a12, a13, a14, a15, a16, a17, hh⟩ := h
  exact ⟨a0, a1, a2, a3, a4, a5, a6, a7, a8, a9, a10, a11, a12, a13, a14, a15, hh⟩
theorem BoxO.start {w W : World} {u : Nat} {nm : ByteArray} {vk vn : Int} {vs : ByteArray} {p : Option Addr} {m q : Nat} {b off n c : Nat} {g : Hd} {sp : Option Addr} {sm sq : Nat} {p' : Option Addr} {n' c' : Nat} (h : Box1 w 5 ((u : Int) + 1) nm vk vn vs (.slice p m q) (.slice (some ⟨b, off, none⟩) n c) W) (hb0 : b < w.heap.size) (g0 : w.cell? ⟨b, off, none⟩ = some (.int .i64 g.k)) (g1 : w.cell? ⟨b, off + 1, none⟩ = some (.int .i64 g.o)) (g2 : w.cell? ⟨b, off + 2, none⟩ = some (.string g.nm)) (g3 : w.cell? ⟨b, off + 3, none⟩ = some (.int .i64 g.vk)) (g4 : w.cell? ⟨b, off + 4, none⟩ = some (.int .i64 g.vn)) (g5 : w.cell? ⟨b, off + 5, none⟩ = some (.string g.vs)) (g6 : w.cell? ⟨b, off + 6, none⟩ = some (.slice sp sm sq)) (g7 : w.cell? ⟨b, off + 7, none⟩ = some (.slice p' n' c')) : BoxO w u nm vk vn vs p m q b off n c g sp sm sq p' n' c' W := by
  obtain ⟨a0, a1, a2, a3, a4, a5, a6, a7, hh⟩ := h
  have f := fun (o : Nat) => hh.out.1.cell (p := ⟨b, o, none⟩) hb0
  refine ⟨a0, a1, a2, a3, a4, a5, a6, a7, ?_, ?_, ?_, ?_, ?_, ?_, ?_, ?_, hh⟩
  all_goals (rw [f]; assumption)
theorem over_5 (w W : World) (hE : Env w) (u : Nat) (nm : ByteArray) (vk vn : Int) (vs : ByteArray) (p : Option Addr) (m q : Nat) (b off n c : Nat) (g : Hd) (sp : Option Addr) (sm sq : Nat) (p' : Option Addr) (n' c' : Nat) (word : ByteArray) (hw : word = bs (overW (u + 1))) (hu : u + 1 ≤ 6) (hb0 : b < w.heap.size) (hS : BoxO w u nm vk vn vs p m q b off n c g sp sm sq p' n' c' W) :
    Calls Tryz.prog 23 #[.string overText] W (fun e w' => ∃ bn, e = .returned (.slice (some ⟨bn, 0, none⟩) 6 6) ∧ BoxO2 w u nm vk vn vs p m q b off n c g sp sm sq p' n' c' bn word w') :=
  (fieldsOver W (hE.below hS.bel)).mono fun e w' ⟨bn, he, hR, hB⟩ => ⟨bn, he, by
    obtain ⟨a0, a1, a2, a3, a4, a5, a6, a7, a8, a9, a10, a11, a12, a13, a14, a15, hh⟩ := hS.keep hb0 hB.out
    have h2 := hR.out.2 u (by show u < 6; omega)
    rw [over_word u hu, ← hw] at h2
    exact ⟨a0, a1, a2, a3, a4, a5, a6, a7, a8, a9, a10, a11, a12, a13, a14, a15, h2, hR.out.1, hh⟩⟩
set_option maxRecDepth 100000 in
set_option maxHeartbeats 4000000 in
theorem rw_5 (u : Nat) (nm : ByteArray) (vk vn : Int) (vs : ByteArray) (p : Option Addr) (m q : Nat) (b off n c : Nat) (g : Hd) (sp : Option Addr) (sm sq : Nat) (p' : Option Addr) (n' c' : Nat) (w : World) (hn : 0 < n) (hu : u + 1 ≤ 6) (hE : Env w) (hbl : b < w.heap.size) (hnm : nm.size ≤ 16) (t : ByteArray) (ht : t.size ≤ 4100000) (g0 : w.cell? ⟨b, off, none⟩ = some (.int .i64 g.k)) (g1 : w.cell? ⟨b, off + 1, none⟩ = some (.int .i64 g.o)) (g2 : w.cell? ⟨b, off + 2, none⟩ = some (.string g.nm)) (g3 : w.cell? ⟨b, off + 3, none⟩ = some (.int .i64 g.vk)) (g4 : w.cell? ⟨b, off + 4, none⟩ = some (.int .i64 g.vn)) (g5 : w.cell? ⟨b, off + 5, none⟩ = some (.string g.vs)) (g6 : w.cell? ⟨b, off + 6, none⟩ = some (.slice sp sm sq)) (g7 : w.cell? ⟨b, off + 7, none⟩ = some (.slice p' n' c'))
    (hJ : ∀ W, Below w.heap.size w W → Calls Tryz.prog 12 #[.agg #[.int .i64 g.k, .int .i64 g.o, .string g.nm, .int .i64 g.vk, .int .i64 g.vn, .string g.vs, .slice sp sm sq, .slice p' n' c']] W fun e w' => e = .returned (.string t) ∧ Below W.heap.size W w') :
    Calls Tryz.prog 12 #[.agg #[.int .i64 5, .int .i64 ((u : Int) + 1), .string nm, .int .i64 vk, .int .i64 vn, .string vs, .slice p m q, .slice (some ⟨b, off, none⟩) n c]] w (fun e w' => e = .returned (.string (bs (overW (u + 1)) ++ ⟨#[40]⟩ ++ nm ++ ⟨#[58, 32]⟩ ++ t ++ ⟨#[41]⟩)) ∧ Below w.heap.size w w') := by
  have B0 : BoxO w u nm vk vn vs p m q b off n c g sp sm sq p' n' c' (w.alloc (.cells #[.int .i64 5, .int .i64 ((u : Int) + 1), .string nm, .int .i64 vk, .int .i64 vn, .string vs, .slice p m q, .slice (some ⟨b, off, none⟩) n c] 27)) := BoxO.start (Box1.start _ _ _ _ _ _ _ _ _ _) hbl g0 g1 g2 g3 g4 g5 g6 g7
  clear g0 g1 g2 g3 g4 g5 g6 g7
  obtain ⟨word, hword⟩ : ∃ x, x = bs (overW (u + 1)) := ⟨_, rfl⟩
  have hws : word.size ≤ 8 := by rw [hword, bs_size]; exact overW_len _
  rw [← hword]
  have HF := Lib.hid (fun W (hS : BoxO w u nm vk vn vs p m q b off n c g sp sm sq p' n' c' W) => over_5 w W hE u nm vk vn vs p m q b off n c g sp sm sq p' n' c' word hword hu hbl hS)
  have HJ := Lib.hid (fun W bn (hS : BoxO2 w u nm vk vn vs p m q b off n c g sp sm sq p' n' c' bn word W) => (hJ W hS.bel).mono fun e w' ⟨he, hb⟩ => (⟨he, hS.keep hbl hb⟩ : e = Ending.returned (.string t) ∧ BoxO2 w u nm vk vn vs p m q b off n c g sp sm sq p' n' c' bn word w'))
  clear hword hE hJ
  have r1 : ∀ w : World, (Op.stringOp .add word ⟨#[40]⟩).run Tryz.prog w = .ok (.string (word ++ ⟨#[40]⟩)) w := fun w => run_string_add_sum w _ _ (sz_le (by simp only [ByteArray.size_append, lit_size, List.size_toArray, List.length_cons, List.length_nil, size_one]; omega))
  have r2 : ∀ w : World, (Op.stringOp .add (word ++ ⟨#[40]⟩) nm).run Tryz.prog w = .ok (.string (word ++ ⟨#[40]⟩ ++ nm)) w := fun w => run_string_add_sum w _ _ (sz_le (by simp only [ByteArray.size_append, lit_size, List.size_toArray, List.length_cons, List.length_nil, size_one]; omega))
  have r3 : ∀ w : World, (Op.stringOp .add (word ++ ⟨#[40]⟩ ++ nm) ⟨#[58, 32]⟩).run Tryz.prog w = .ok (.string (word ++ ⟨#[40]⟩ ++ nm ++ ⟨#[58, 32]⟩)) w := fun w => run_string_add_sum w _ _ (sz_le (by simp only [ByteArray.size_append, lit_size, List.size_toArray, List.length_cons, List.length_nil, size_one, size_two]; omega))
  have r4 : ∀ w : World, (Op.stringOp .add (word ++ ⟨#[40]⟩ ++ nm ++ ⟨#[58, 32]⟩) t).run Tryz.prog w = .ok (.string (word ++ ⟨#[40]⟩ ++ nm ++ ⟨#[58, 32]⟩ ++ t)) w := fun w => run_string_add_sum w _ _ (sz_le (by simp only [ByteArray.size_append, lit_size, List.size_toArray, List.length_cons, List.length_nil, size_one, size_two]; omega))
  have r5 : ∀ w : World, (Op.stringOp .add (word ++ ⟨#[40]⟩ ++ nm ++ ⟨#[58, 32]⟩ ++ t) ⟨#[41]⟩).run Tryz.prog w = .ok (.string (word ++ ⟨#[40]⟩ ++ nm ++ ⟨#[58, 32]⟩ ++ t ++ ⟨#[41]⟩)) w := fun w => run_string_add_sum w _ _ (sz_le (by simp only [ByteArray.size_append, lit_size, List.size_toArray, List.length_cons, List.length_nil, size_one, size_two]; omega))
  have u1 : (0 : Int) ≤ (u : Int) := by omega
  have u2 : (u : Int) < 6 := by omega
  have u3 : IntKind.i64.wrap ((u : Int) + 1 - 1) = (u : Int) := by rw [show (u : Int) + 1 - 1 = u by omega]; exact IntWalk.i64_in _ (by omega)
  have u4 : IntKind.i64.wrap (u : Int) = (u : Int) := IntWalk.i64_in _ (by omega)
  have hni : (0 : Int) < (n : Int) := by omega
  clear hws ht hu hnm
  go_enter Tryz.func12, Tryz.ntmps12
  go_wp2_with fail
  generalize w.alloc (.cells #[.int .i64 5, .int .i64 ((u : Int) + 1), .string nm, .int .i64 vk, .int .i64 vn, .string vs, .slice p m q, .slice (some ⟨b, off, none⟩) n c] 27) = W0 at B0 ⊢
  refine wp_region_noPanic ?_
  refine wp_region_held_drew (S := BoxO w u nm vk vn vs p m q b off n c g sp sm sq p' n' c') (by kernel_rfl) (B0.keep hbl (Below.refl _ _).drew) (fun hHeld => ?_)
  refine wpAnyH_take (i := 1) (v := ?v1) rfl (by kernel_rfl) (by kernel_rfl) (by kernel_rfl) (fun _ _ _ h => h) (Or.inl ⟨by rfl, ?hy1⟩) (by assumption) ?rest1
  case hy1 =>
    intro w hSw
    dsimp only [BoxO, BoxO2] at hSw
    go_simp
    try with_reducible rfl
  simp only [Act.put, List.setIfInBounds_toArray, List.set_cons_zero, List.set_cons_succ]
  refine wpAnyH_take (i := 2) (v := ?v2) rfl (by kernel_rfl) (by kernel_rfl) (by kernel_rfl) (fun _ _ _ h => h) (Or.inl ⟨by rfl, ?hy2⟩) (by assumption) ?rest2
  case hy2 =>
    intro w hSw
    dsimp only [BoxO, BoxO2] at hSw
    go_simp
    try with_reducible rfl
  simp only [Act.put, List.setIfInBounds_toArray, List.set_cons_zero, List.set_cons_succ]
  refine wpAnyH_take (i := 3) (v := ?v3) rfl (by kernel_rfl) (by kernel_rfl) (by kernel_rfl) (fun _ _ _ h => h) (Or.inl ⟨by rfl, ?hy3⟩) (by assumption) ?rest3
  case hy3 =>
    intro w hSw
    dsimp only [BoxO, BoxO2] at hSw
    go_simp
    try with_reducible rfl
  simp only [Act.put, List.setIfInBounds_toArray, List.set_cons_zero, List.set_cons_succ]
  refine wpAnyH_take (i := 7) (v := ?v7) rfl (by kernel_rfl) (by kernel_rfl) (by kernel_rfl) (fun _ _ _ h => h) (Or.inl ⟨by rfl, ?hy7⟩) (by assumption) ?rest7
  case hy7 =>
    intro w hSw
    dsimp only [BoxO, BoxO2] at hSw
    go_simp
    try with_reducible rfl
  simp only [Act.put, List.setIfInBounds_toArray, List.set_cons_zero, List.set_cons_succ]
  refine wpAnyH_take (i := 8) (v := ?v8) rfl (by kernel_rfl) (by kernel_rfl) (by kernel_rfl) (fun _ _ _ h => h) (Or.inl ⟨by rfl, ?hy8⟩) (by assumption) ?rest8
  case hy8 =>
    intro w hSw
    dsimp only [BoxO, BoxO2] at hSw
    go_simp
    try with_reducible rfl
  simp only [Act.put, List.setIfInBounds_toArray, List.set_cons_zero, List.set_cons_succ]
  refine wpAnyH_take (i := 11) (v := ?v11) rfl (by kernel_rfl) (by kernel_rfl) (by kernel_rfl) (fun _ _ _ h => h) (Or.inl ⟨by rfl, ?hy11⟩) (by assumption) ?rest11
  case hy11 =>
    intro w hSw
    dsimp only [BoxO, BoxO2] at hSw
    go_simp
    try with_reducible rfl
  simp only [Act.put, List.setIfInBounds_toArray, List.set_cons_zero, List.set_cons_succ]
  refine wpAnyH_take (i := 12) (v := ?v12) rfl (by kernel_rfl) (by kernel_rfl) (by kernel_rfl) (fun _ _ _ h => h) (Or.inl ⟨by rfl, ?hy12⟩) (by assumption) ?rest12
  case hy12 =>
    intro w hSw
    dsimp only [BoxO, BoxO2] at hSw
    go_simp
    try with_reducible rfl
  simp only [Act.put, List.setIfInBounds_toArray, List.set_cons_zero, List.set_cons_succ]
  refine wpAnyH_take (i := 13) (v := ?v13) rfl (by kernel_rfl) (by kernel_rfl) (by kernel_rfl) (fun _ _ _ h => h) (Or.inl ⟨by rfl, ?hy13⟩) (by assumption) ?rest13
  case hy13 =>
    intro w hSw
    dsimp only [BoxO, BoxO2] at hSw
    go_simp
    try with_reducible rfl
  simp only [Act.put, List.setIfInBounds_toArray, List.set_cons_zero, List.set_cons_succ]
  refine wpAnyH_take (i := 14) (v := ?v14) rfl (by kernel_rfl) (by kernel_rfl) (by kernel_rfl) (fun _ _ _ h => h) (Or.inl ⟨by rfl, ?hy14⟩) (by assumption) ?rest14
  case hy14 =>
    intro w hSw
    dsimp only [BoxO, BoxO2] at hSw
    go_simp
    try with_reducible rfl
  simp only [Act.put, List.setIfInBounds_toArray, List.set_cons_zero, List.set_cons_succ]
  refine wpAnyH_ready (rs := [0]) (by kernel_rfl) (by simp) ?_
  refine AllReadyH.cons rfl (fun K hK => ?_) AllReadyH.nil
  go_simp
  refine (HF.out _ hHeld).mono ?_
  rintro e w1 ⟨bn, rfl, hH2⟩
  try go_simp
  refine hK.out _ _ hH2.weak (fun _ => ?_)
  clear hK K hHeld B0
  try simp only [Act.put, List.setIfInBounds_toArray, List.set_cons_zero, List.set_cons_succ]
  refine wpAnyH_weaken (S' := BoxO2 w u nm vk vn vs p m q b off n c g sp sm sq p' n' c' bn word) (fun _ h => h.weak) _ _ _ _ ?_
  refine wpAnyH_take (i := 4) (v := ?v4) rfl (by kernel_rfl) (by kernel_rfl) (by kernel_rfl) (fun _ _ _ h => h) (Or.inl ⟨by rfl, ?hy4⟩) (by assumption) ?rest4
  case hy4 =>
    intro w hSw
    dsimp only [BoxO, BoxO2] at hSw
    go_simp
    try with_reducible rfl
  simp only [Act.put, List.setIfInBounds_toArray, List.set_cons_zero, List.set_cons_succ]
  refine wpAnyH_take (i := 5) (v := ?v5) rfl (by kernel_rfl) (by kernel_rfl) (by kernel_rfl) (fun _ _ _ h => h) (Or.inl ⟨by rfl, ?hy5⟩) (by assumption) ?rest5
  case hy5 =>
    intro w hSw
    dsimp only [BoxO, BoxO2] at hSw
    go_simp
    try with_reducible rfl
  simp only [Act.put, List.setIfInBounds_toArray, List.set_cons_zero, List.set_cons_succ]
  refine wpAnyH_take (i := 6) (v := ?v6) rfl (by kernel_rfl) (by kernel_rfl) (by kernel_rfl) (fun _ _ _ h => h) (Or.inl ⟨by rfl, ?hy6⟩) (by assumption) ?rest6
  case hy6 =>
    intro w hSw
    dsimp only [BoxO, BoxO2] at hSw
    go_simp
    try with_reducible rfl
  simp only [Act.put, List.setIfInBounds_toArray, List.set_cons_zero, List.set_cons_succ]
  refine wpAnyH_take (i := 9) (v := ?v9) rfl (by kernel_rfl) (by kernel_rfl) (by kernel_rfl) (fun _ _ _ h => h) (Or.inl ⟨by rfl, ?hy9⟩) (by assumption) ?rest9
  case hy9 =>
    intro w hSw
    dsimp only [BoxO, BoxO2] at hSw
    go_simp
    try with_reducible rfl
  simp only [Act.put, List.setIfInBounds_toArray, List.set_cons_zero, List.set_cons_succ]
  refine wpAnyH_take (i := 10) (v := ?v10) rfl (by kernel_rfl) (by kernel_rfl) (by kernel_rfl) (fun _ _ _ h => h) (Or.inl ⟨by rfl, ?hy10⟩) (by assumption) ?rest10
  case hy10 =>
    intro w hSw
    dsimp only [BoxO, BoxO2] at hSw
    go_simp
    try with_reducible rfl
  simp only [Act.put, List.setIfInBounds_toArray, List.set_cons_zero, List.set_cons_succ]
  refine wpAnyH_ready (rs := [15]) (by kernel_rfl) (by simp) ?_
  refine AllReadyH.cons rfl (fun K hK => ?_) AllReadyH.nil
  go_simp
  refine (HJ.out _ _ hH2).mono ?_
  rintro e w2 ⟨rfl, hH3⟩
  try go_simp
  refine hK.out _ _ hH3 (fun _ => ?_)
  clear hK K hH2
  try simp only [Act.put, List.setIfInBounds_toArray, List.set_cons_zero, List.set_cons_succ]
  refine wpAnyH_take (i := 16) (v := ?v16) rfl (by kernel_rfl) (by kernel_rfl) (by kernel_rfl) (fun _ _ _ h => h) (Or.inl ⟨by rfl, ?hy16⟩) (by assumption) ?rest16
  case hy16 =>
    intro w hSw
    dsimp only [BoxO, BoxO2] at hSw
    go_simp
    try with_reducible rfl
  simp only [Act.put, List.getElem_toArray, List.getElem_cons_succ, List.getElem_cons_zero, List.setIfInBounds_toArray, List.set_cons_zero, List.set_cons_succ]
  refine wpAnyH_take (i := 17) (v := ?v17) rfl (by kernel_rfl) (by kernel_rfl) (by kernel_rfl) (fun _ _ _ h => h) (Or.inl ⟨by rfl, ?hy17⟩) (by assumption) ?rest17
  case hy17 =>
    intro w hSw
    dsimp only [BoxO, BoxO2] at hSw
    go_simp
    try with_reducible rfl
  simp only [Act.put, List.getElem_toArray, List.getElem_cons_succ, List.getElem_cons_zero, List.setIfInBounds_toArray, List.set_cons_zero, List.set_cons_succ]
  refine wpAnyH_take (i := 18) (v := ?v18) rfl (by kernel_rfl) (by kernel_rfl) (by kernel_rfl) (fun _ _ _ h => h) (Or.inl ⟨by rfl, ?hy18⟩) (by assumption) ?rest18
  case hy18 =>
    intro w hSw
    dsimp only [BoxO, BoxO2] at hSw
    go_simp
    try with_reducible rfl
  simp only [Act.put, List.getElem_toArray, List.getElem_cons_succ, List.getElem_cons_zero, List.setIfInBounds_toArray, List.set_cons_zero, List.set_cons_succ]
  refine wpAnyH_done (by kernel_rfl) ?_ _
  refine NoPanic.normal ?_
  go_wp2
  go_ret
  exact ⟨rfl, hH3.bel⟩
end Go.Proofs.YtcdifmnakppfkaaGreatDoor
