/-
  The texts of expressions in the reference (made by a program).
-/
import Derived.Test.YtcdifmnakppfkaaGreatDoorExRJoin
import Derived.IntWalk
import Derived.Deep.RegionWith
import Derived.Test.YtcdifmnakppfkaaGreatDoorExRName
import Derived.Test.YtcdifmnakppfkaaGreatDoorExPlainS
import Derived.Test.YtcdifmnakppfkaaGreatDoorTxtRefShown
namespace Go.Proofs.YtcdifmnakppfkaaGreatDoor
open Go.RowKit

abbrev funText : ByteArray := ⟨#[97, 110, 115, 119, 101, 114, 101, 100, 32, 97, 115, 107, 101, 100, 32, 114, 101, 97, 115, 111, 110, 32, 45, 32, 45, 32, 45, 32, 45, 32, 45, 32, 45, 32, 97, 98, 115, 32, 102, 108, 111, 111, 114, 32, 114, 111, 117, 110, 100, 32, 109, 105, 110, 32, 109, 97, 120, 32, 105, 102, 32, 101, 108, 115, 101, 32, 115, 105, 122, 101, 32, 99, 111, 100, 101, 32, 108, 111, 119, 101, 114, 32, 106, 111, 105, 110, 32, 98, 101, 103, 105, 110, 115, 32, 104, 111, 108, 100, 115, 32, 121, 101, 97, 114, 32, 109, 111, 110, 116, 104, 32, 100, 97, 121, 32, 100, 97, 121, 115, 32, 97, 103, 101, 32, 108, 97, 116, 101, 114]⟩
abbrev overText : ByteArray := ⟨#[115, 117, 109, 32, 99, 111, 117, 110, 116, 32, 97, 110, 121, 32, 97, 108, 108, 32, 108, 101, 97, 115, 116, 32, 109, 111, 115, 116]⟩
def funL : List (List UInt8) := [[97, 110, 115, 119, 101, 114, 101, 100], [97, 115, 107, 101, 100], [114, 101, 97, 115, 111, 110], [45], [45], [45], [45], [45], [45], [97, 98, 115], [102, 108, 111, 111, 114], [114, 111, 117, 110, 100], [109, 105, 110], [109, 97, 120], [105, 102], [101, 108, 115, 101], [115, 105, 122, 101], [99, 111, 100, 101], [108, 111, 119, 101, 114], [106, 111, 105, 110], [98, 101, 103, 105, 110, 115], [104, 111, 108, 100, 115], [121, 101, 97, 114], [109, 111, 110, 116, 104], [100, 97, 121], [100, 97, 121, 115], [97, 103, 101], [108, 97, 116, 101, 114]]
def overL : List (List UInt8) := [[115, 117, 109], [99, 111, 117, 110, 116], [97, 110, 121], [97, 108, 108], [108, 101, 97, 115, 116], [109, 111, 115, 116]]
theorem fieldsFun (w : World) (hE : Env w) : Calls Tryz.prog 23 #[.string funText] w (FieldsP funL w) :=
  fields_c funText funL (by decide +kernel) (by decide +kernel) (by decide +kernel) w hE
theorem fieldsOver (w : World) (hE : Env w) : Calls Tryz.prog 23 #[.string overText] w (FieldsP overL w) :=
  fields_c overText overL (by decide +kernel) (by decide +kernel) (by decide +kernel) w hE
theorem fun_word (u : Nat) (h : rowS 4 ((u : Int) + 12) = 8) (h2 : u + 12 ≤ 39) : funL.getD u [] = opW (u + 12) := by
  have : ∀ v : Fin 28, rowS 4 ((v.val : Int) + 12) = 8 → funL.getD v.val [] = opW (v.val + 12) := by decide +kernel
  exact this ⟨u, by omega⟩ h
theorem over_word (u : Nat) (h2 : u + 1 ≤ 6) : overL.getD u [] = overW (u + 1) := by
  have : ∀ v : Fin 6, overL.getD v.val [] = overW (v.val + 1) := by decide +kernel
  exact this ⟨u, by omega⟩
/-- A word of a list of words stands in its cell of a new row. -/
def WordP (w : World) (n u : Nat) (word : ByteArray) (S : World → Prop) (e : Ending) (w' : World) : Prop :=
  ∃ bn, e = .returned (.slice (some ⟨bn, 0, none⟩) n n) ∧ w'.cell? ⟨bn, u, none⟩ = some (.string word) ∧ bn < w'.heap.size ∧ S w' ∧ Hid (Below w.heap.size w w')
theorem word_of {L : List (List UInt8)} {w w' : World} {e : Ending} (h : FieldsP L w e w') (u : Nat) (hu : u < L.length) (word : ByteArray) (hw : word = bs (L.getD u [])) (S : World → Prop) (hS : ∀ w', Below w.heap.size w w' → S w') : WordP w L.length u word S e w' := by
  obtain ⟨b, he, hR, hB⟩ := h
  exact ⟨b, he, by rw [hw]; exact hR.out.2 u hu, hR.out.1, hS w' hB.out, hB.out⟩
theorem fun_8 (w W : World) (hE : Hid (Env w)) (u : Nat) (nm : ByteArray) (vk vn : Int) (vs : ByteArray) (p : Option Addr) (m q : Nat) (a : Option Addr) (n c : Nat) (word : ByteArray) (hw : Hid (word = bs (opW (u + 12)))) (hr : Hid (rowS 4 ((u : Int) + 12) = 8)) (hu : Hid (u + 12 ≤ 39)) (hS : Box1 w 4 ((u : Int) + 12) nm vk vn vs (.slice p m q) (.slice a n c) W) :
    Calls Tryz.prog 23 #[.string funText] W (WordP W 28 u word (Box1 w 4 ((u : Int) + 12) nm vk vn vs (.slice p m q) (.slice a n c))) :=
  (fieldsFun W (hE.out.below hS.bel)).mono fun e w' h => word_of h u (by have := hu.out; show u < 28; omega) word (by rw [hw.out, fun_word u hr.out hu.out]) _ (fun w' hB => hS.keep hB)
theorem list_8 (w W : World) (u : Nat) (nm : ByteArray) (vk vn : Int) (vs : ByteArray) (p : Option Addr) (m q : Nat) (a : Option Addr) (n c : Nat) (t : ByteArray) (hS : Box1 w 4 ((u : Int) + 12) nm vk vn vs (.slice p m q) (.slice a n c) W)
    (hP : Hid (∀ W, Below w.heap.size w W → Calls Tryz.prog 25 #[.slice a n c, .int .i64 1, .string ⟨#[44, 32]⟩] W fun e w' => e = .returned (.string t) ∧ Below W.heap.size W w')) :
    Calls Tryz.prog 25 #[.slice a n c, .int .i64 1, .string ⟨#[44, 32]⟩] W fun e w' => e = .returned (.string t) ∧ Box1 w 4 ((u : Int) + 12) nm vk vn vs (.slice p m q) (.slice a n c) w' ∧ Below W.heap.size W w' :=
  (hP.out W hS.bel).mono fun e w' ⟨he, hb⟩ => ⟨he, hS.keep hb, hb⟩
set_option maxRecDepth 100000 in
set_option maxHeartbeats 4000000 in
theorem rw_f8 (u : Nat) (nm : ByteArray) (vk vn : Int) (vs : ByteArray) (p : Option Addr) (m q : Nat) (b off n c : Nat) (w : World) (hn : 0 < n) (hbl : Hid (b < w.heap.size)) (g : Hd) (sp : Option Addr) (sm sq : Nat) (p' : Option Addr) (n' c' : Nat) (g0 : w.cell? ⟨b, off, none⟩ = some (.int .i64 g.k)) (g1 : w.cell? ⟨b, off + 1, none⟩ = some (.int .i64 g.o)) (g2 : w.cell? ⟨b, off + 2, none⟩ = some (.string g.nm)) (g3 : w.cell? ⟨b, off + 3, none⟩ = some (.int .i64 g.vk)) (g4 : w.cell? ⟨b, off + 4, none⟩ = some (.int .i64 g.vn)) (g5 : w.cell? ⟨b, off + 5, none⟩ = some (.string g.vs)) (g6 : w.cell? ⟨b, off + 6, none⟩ = some (.slice sp sm sq)) (g7 : w.cell? ⟨b, off + 7, none⟩ = some (.slice p' n' c')) (hr : rowS 4 ((u : Int) + 12) = 8) (hu : u + 12 ≤ 39) (hE : Env w) (t : ByteArray) (ht : t.size ≤ 4100000) (hJ : ∀ W, Below w.heap.size w W → Calls Tryz.prog 25 #[.slice (some ⟨b, off, none⟩) n c, .int .i64 1, .string ⟨#[44, 32]⟩] W fun e w' => e = .returned (.string t) ∧ Below W.heap.size W w') :
    Calls Tryz.prog 12 #[.agg #[.int .i64 4, .int .i64 ((u : Int) + 12), .string nm, .int .i64 vk, .int .i64 vn, .string vs, .slice p m q, .slice (some ⟨b, off, none⟩) n c]] w (fun e w' => e = .returned (.string (bs (opW (u + 12)) ++ ⟨#[40]⟩ ++ t ++ ⟨#[41]⟩)) ∧ Below w.heap.size w w') := by
  have HB0 := Lib.hid ((Below.refl w.heap.size w).alloc (Nat.le_refl _) (.cells #[.int .i64 4, .int .i64 ((u : Int) + 12), .string nm, .int .i64 vk, .int .i64 vn, .string vs, .slice p m q, .slice (some ⟨b, off, none⟩) n c] 27))
  have HB1 := Lib.hid (HB0.out.alloc HB0.out.size (.cells #[.int .i64 g.k, .int .i64 g.o, .string g.nm, .int .i64 g.vk, .int .i64 g.vn, .string g.vs, .slice sp sm sq, .slice p' n' c'] 27))
  have HR := Lib.hid (fun w => by have := rrow_c 4 ((u : Int) + 12) nm vk vn vs p m q (some ⟨b, off, none⟩) n c w (.inr (by omega)); rw [show rrowS 4 ((u : Int) + 12) vk vn = 8 from by unfold rrowS; rw [if_neg (by omega)]; exact hr] at this; exact this)
  have f0 := (HB0.out.cell (p := ⟨b, off, none⟩) hbl.out).trans g0
  have f1 := (HB0.out.cell (p := ⟨b, off + 1, none⟩) hbl.out).trans g1
  have f2 := (HB0.out.cell (p := ⟨b, off + 2, none⟩) hbl.out).trans g2
  have f3 := (HB0.out.cell (p := ⟨b, off + 3, none⟩) hbl.out).trans g3
  have f4 := (HB0.out.cell (p := ⟨b, off + 4, none⟩) hbl.out).trans g4
  have f5 := (HB0.out.cell (p := ⟨b, off + 5, none⟩) hbl.out).trans g5
  have f6 := (HB0.out.cell (p := ⟨b, off + 6, none⟩) hbl.out).trans g6
  have f7 := (HB0.out.cell (p := ⟨b, off + 7, none⟩) hbl.out).trans g7
  have HJ := Lib.hid hJ; clear hJ
  have HE := Lib.hid hE; clear hE
  have HRR := Lib.hid hr; clear hr
  have HU := Lib.hid hu
  obtain ⟨word, hword⟩ : ∃ x, x = bs (opW (u + 12)) := ⟨_, rfl⟩
  have hws : word.size ≤ 8 := by rw [hword, bs_size]; exact opW_len _
  rw [← hword]
  have HW := Lib.hid hword; clear hword
  have r1 : ∀ w : World, (Op.stringOp .add word ⟨#[40]⟩).run Tryz.prog w = .ok (.string (word ++ ⟨#[40]⟩)) w := fun w => run_string_add_sum w _ _ (sz_le (by simp only [ByteArray.size_append, lit_size, List.size_toArray, List.length_cons, List.length_nil, size_one]; omega))
  have r2 : ∀ w : World, (Op.stringOp .add (word ++ ⟨#[40]⟩) t).run Tryz.prog w = .ok (.string (word ++ ⟨#[40]⟩ ++ t)) w := fun w => run_string_add_sum w _ _ (sz_le (by simp only [ByteArray.size_append, lit_size, List.size_toArray, List.length_cons, List.length_nil, size_one]; omega))
  have r3 : ∀ w : World, (Op.stringOp .add (word ++ ⟨#[40]⟩ ++ t) ⟨#[41]⟩).run Tryz.prog w = .ok (.string (word ++ ⟨#[40]⟩ ++ t ++ ⟨#[41]⟩)) w := fun w => run_string_add_sum w _ _ (sz_le (by simp only [ByteArray.size_append, lit_size, List.size_toArray, List.length_cons, List.length_nil, size_one]; omega))
  have u1 : (0 : Int) ≤ (u : Int) := by omega
  have u2 : (u : Int) < 28 := by omega
  have u3 : IntKind.i64.wrap ((u : Int) + 12 - 12) = (u : Int) := by rw [show (u : Int) + 12 - 12 = u by omega]; exact IntWalk.i64_in _ (by omega)
  have u4 : IntKind.i64.wrap (u : Int) = (u : Int) := IntWalk.i64_in _ (by omega)
  clear hws ht hu
  clear g0 g1 g2 g3 g4 g5 g6 g7
  have hni : (0 : Int) < (n : Int) := by omega
  go_enter Tryz.func12, Tryz.ntmps12
  go_wp2_with fail
  refine (HR.out _).mono ?_
  rintro e1 w1 ⟨rfl, hB⟩
  have B1 := Lib.hid (HB1.out.trans (hB.mono HB1.out.size))
  have BC1 : Box1 w 4 ((u : Int) + 12) nm vk vn vs (.slice p m q) (.slice (some ⟨b, off, none⟩) n c) w1 := by
    have fc := fun (g o : Nat) (hg : g < w.heap.size + 2) => hB.cell (p := ⟨g, o, none⟩) (by simpa using hg)
    refine ⟨?_, ?_, ?_, ?_, ?_, ?_, ?_, ?_, B1.out, by have := hB.size; simp at this; omega⟩
    · rw [fc _ _ (by omega), World.cell?_alloc_past _ _ _ (by simp), World.cell?_alloc_new]; rfl
    · rw [fc _ _ (by omega), World.cell?_alloc_past _ _ _ (by simp), World.cell?_alloc_new]; rfl
    · rw [fc _ _ (by omega), World.cell?_alloc_past _ _ _ (by simp), World.cell?_alloc_new]; rfl
    · rw [fc _ _ (by omega), World.cell?_alloc_past _ _ _ (by simp), World.cell?_alloc_new]; rfl
    · rw [fc _ _ (by omega), World.cell?_alloc_past _ _ _ (by simp), World.cell?_alloc_new]; rfl
    · rw [fc _ _ (by omega), World.cell?_alloc_past _ _ _ (by simp), World.cell?_alloc_new]; rfl
    · rw [fc _ _ (by omega), World.cell?_alloc_past _ _ _ (by simp), World.cell?_alloc_new]; rfl
    · rw [fc _ _ (by omega), World.cell?_alloc_past _ _ _ (by simp), World.cell?_alloc_new]; rfl
  clear hB f0 f1 f2 f3 f4 f5 f6 f7
  go_wp2_with fail
  obtain ⟨x0, x1, x2, x3, x4, x5, x6, x7, xh⟩ := id BC1
  clear xh
  go_region_with (first | (go_at_call 23; (with_reducible refine (fun_8 w _ HE u nm vk vn vs p m q (some ⟨b, off, none⟩) n c word HW HRR HU ?_).mono ?_); (first | assumption | exact BC1.keep (Below.refl _ _).drew); rintro e w' ⟨bn, rfl, hcn, hbn, hbx, _⟩; obtain ⟨y0, y1, y2, y3, y4, y5, y6, y7, yh⟩ := id hbx; clear yh) | (go_at_call 25; (with_reducible refine (list_8 w _ u nm vk vn vs p m q (some ⟨b, off, none⟩) n c t ?_ HJ).mono ?_); assumption; rintro e w' ⟨rfl, hbz, hBl⟩; obtain ⟨bcl, bfl⟩ := bcell hBl; clear hBl; obtain ⟨z0, z1, z2, z3, z4, z5, z6, z7, zh⟩ := id hbz; clear zh))
  all_goals
    go_wp2
    go_ret
    exact ⟨rfl, hbz.bel⟩
end Go.Proofs.YtcdifmnakppfkaaGreatDoor
