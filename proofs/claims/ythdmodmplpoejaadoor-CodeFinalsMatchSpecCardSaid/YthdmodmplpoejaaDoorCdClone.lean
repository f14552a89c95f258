/-
  Package code: rows of codings of the call's own; Clone.
-/
import Derived.Test.YthdmodmplpoejaaDoorCdFor
import Derived.Laws.Cover3
namespace Go.Proofs.YthdmodmplpoejaaDoor
open Go.RowKit Go.WideMaps Go.Maps

theorem infoC : (Tryd.prog.info? 49).map (fun i => (i.zero, i.size, i.bytes)) = some (some (.agg #[.int .i64 0, .int .i64 0, .int .i64 0]), 3, 24) := by kernel_rfl
def ccells (u : Cg) : List Value := [.int .i64 u.ca, .int .i64 u.co, .int .i64 u.cd]
def crow (C : List Cg) : List Value := C.flatMap ccells
theorem crow_snoc (C : List Cg) (u : Cg) : crow (C ++ [u]) = crow C ++ ccells u := by unfold crow; rw [List.flatMap_append]; simp
theorem crow_len : ∀ C : List Cg, (crow C).length = C.length * 3
  | [] => rfl
  | u :: C => by
    show (ccells u ++ crow C).length = _
    rw [List.length_append, crow_len C]
    simp only [ccells, List.length_cons, List.length_nil]; omega
theorem crow_at : ∀ (C : List Cg) (j : Nat), j < C.length → ∀ i, i < 3 → (crow C)[j * 3 + i]? = (ccells (cg C j))[i]?
  | [], _, h, _, _ => by simp at h
  | u :: C, 0, _, i, hi => by
    show (ccells u ++ crow C)[0 * 3 + i]? = _
    rw [Nat.zero_mul, Nat.zero_add, List.getElem?_append_left (by simpa [ccells] using hi)]
    rfl
  | u :: C, j + 1, h, i, hi => by
    show (ccells u ++ crow C)[(j + 1) * 3 + i]? = _
    rw [List.getElem?_append_right (by simp only [ccells, List.length_cons, List.length_nil]; omega)]
    rw [show (j + 1) * 3 + i - (ccells u).length = j * 3 + i by simp only [ccells, List.length_cons, List.length_nil]; omega]
    rw [crow_at C j (by simpa using h) i hi]
    rfl
theorem crow_one (C : List Cg) : ∀ u ∈ crow C, u.oneCell' = true := by
  intro u hu
  unfold crow at hu
  obtain ⟨x, _, hx⟩ := List.mem_flatMap.1 hu
  simp only [ccells, List.mem_cons, List.not_mem_nil, or_false] at hx
  rcases hx with rfl | rfl | rfl <;> rfl
theorem add_at (b off j : Nat) : (⟨b, off, none⟩ : Addr).add j = ⟨b, off + j, none⟩ := by
  unfold Addr.add
  split
  · rename_i h; subst h; simp
  · rfl
/-- What came in, as the cells that an append takes. -/
theorem crow_src {w : World} {b off : Nat} {C : List Cg} (h : ∀ j, j < C.length → CgAt w b (off + j * 3) (cg C j)) : ∀ j u, (crow C)[j]? = some u → w.cell? ((⟨b, off, none⟩ : Addr).add j) = some u := by
  intro j u hu
  have hj : j < C.length * 3 := by
    have := (List.getElem?_eq_some_iff.1 hu).1
    rw [crow_len] at this; exact this
  have e := crow_at C (j / 3) (by omega) (j % 3) (by omega)
  rw [show j / 3 * 3 + j % 3 = j by omega, hu] at e
  obtain ⟨h0, h1, h2⟩ := h (j / 3) (by omega)
  rw [add_at]
  have hd : off + j = off + j / 3 * 3 + j % 3 := by omega
  rw [hd]
  have hm : j % 3 = 0 ∨ j % 3 = 1 ∨ j % 3 = 2 := by omega
  rcases hm with hm | hm | hm
  · rw [hm] at e ⊢; simp only [ccells, List.getElem?_cons_zero, Option.some.injEq] at e; rw [e]; exact h0
  · rw [hm] at e ⊢; simp only [ccells, List.getElem?_cons_zero, List.getElem?_cons_succ, Option.some.injEq] at e; rw [e]; exact h1
  · rw [hm] at e ⊢; simp only [ccells, List.getElem?_cons_zero, List.getElem?_cons_succ, Option.some.injEq] at e; rw [e]; exact h2
/-- Codings in a block of the call's own. -/
structure OwnC (w : World) (B g : Nat) (C : List Cg) : Prop where
  at_ : ∀ j, j < C.length → CgAt w g (j * 3) (cg C j)
  fr : ∀ o, w.frozen? ⟨g, o, none⟩ = false
  lo : B ≤ g
  lt : g < w.heap.size
theorem OwnC.keep {w W : World} {B g : Nat} {C : List Cg} (h : OwnC w B g C) (hb : Below w.heap.size w W) : OwnC W B g C :=
  ⟨fun j hj => (h.at_ j hj).below hb h.lt, fun o => (hb.frozen (p := ⟨g, o, none⟩) h.lt).trans (h.fr o), h.lo, Nat.lt_of_lt_of_le h.lt hb.size⟩
theorem OwnC.rd {w : World} {B g : Nat} {C : List Cg} (h : OwnC w B g C) (hn : C.length ≤ 9223372036854775807) : RdC w (some ⟨g, 0, none⟩) C :=
  ⟨hn, fun _ => ⟨g, 0, rfl, h.lt, fun j hj => by rw [Nat.zero_add]; exact h.at_ j hj⟩⟩
theorem lt_of_block {w : World} {g : Nat} {o : Obj} (h : w.heap[g]? = some o) : g < w.heap.size := (Array.getElem?_eq_some_iff.1 h).1
theorem own_C {w : World} {B : Nat} {v : Value} {C : List Cg} (h : w.ownsRow B 49 3 v C.length (crow C)) (hn : 0 < C.length) : ∃ g cap, v = .slice (some ⟨g, 0, none⟩) C.length cap ∧ OwnC w B g C := by
  rcases h.2 with ⟨_, h0⟩ | ⟨g, cap, cur, rfl, hbase, hb, h1, h2, h3, h4⟩
  · omega
  · refine ⟨g, cap, rfl, fun j hj => ?_, fun o => h.frozenAt o, hbase, lt_of_block hb⟩
    have key : ∀ i, i < 3 → w.cell? ⟨g, j * 3 + i, none⟩ = (ccells (cg C j))[i]? := fun i hi => by rw [h.cellAt _ (by omega), crow_at C j hj i hi]
    exact ⟨key 0 (by omega), key 1 (by omega), key 2 (by omega)⟩
theorem rdC_own {w : World} {B : Nat} {v : Value} {C : List Cg} (h : w.ownsRow B 49 3 v C.length (crow C)) (hn : C.length ≤ 9223372036854775807) : ∃ a c, v = .slice a C.length c ∧ RdC w a C := by
  by_cases h0 : 0 < C.length
  · obtain ⟨g, cap, rfl, ho⟩ := own_C h h0
    exact ⟨_, _, rfl, ho.rd hn⟩
  · have e : C = [] := List.eq_nil_of_length_eq_zero (by omega)
    subst e
    rcases h.2 with ⟨rfl, _⟩ | ⟨g, cap, cur, rfl, _⟩
    · exact ⟨none, 0, rfl, RdC.nil_ _ _⟩
    · exact ⟨_, _, rfl, RdC.nil_ _ _⟩
theorem own_keep {W W' : World} {base : Nat} {e : TypeId} {size : Nat} {v : Value} {n : Nat} {xs : List Value} (h : W.ownsRow base e size v n xs) (hb : Below W.heap.size W W') : W'.ownsRow base e size v n xs := by
  refine h.kept (below_grow hb) ?_
  cases v.ownBlock with
  | none => exact .inl rfl
  | some _ => exact .inr (by simp)
theorem nil_eq (a : Option Addr) (k c : Nat) (w : World) : (binOp .eql 35 (.slice a k c) (.slice none 0 0)).run Tryd.prog w = .ok (.bool a.isNone) w := by
  simp only [binOp]
  simp [run_equal_slice_nil w 35 49 a k c Tryd.underlying35]
def CloneP (C : List Cg) (w : World) (e : Ending) (w' : World) : Prop := ∃ v, e = .returned v ∧ w'.ownsRow w.heap.size 49 3 v C.length (crow C) ∧ Below w.heap.size w w'
set_option maxRecDepth 100000 in
set_option maxHeartbeats 2000000 in
theorem clone_c (a : Option Addr) (c : Nat) (C : List Cg) (w : World) (hC : RdC w a C) (hn : C.length ≤ 20000) :
    Calls Tryd.prog 52 #[.slice a C.length c] w (CloneP C w) := by
  obtain ⟨i0, hi, hz0, hz1, hz2⟩ := info_parts infoC
  have hnil := nil_eq a C.length c
  by_cases ha : a = none
  · subst ha
    have h0 : C = [] := by
      by_cases e : 0 < C.length
      · obtain ⟨b, off, e2, _⟩ := hC.2 e; simp at e2
      · exact List.eq_nil_of_length_eq_zero (by omega)
    subst h0
    clear hC hn
    have hnil : ∀ w : World, (binOp .eql 35 (.slice none 0 c) (.slice none 0 0)).run Tryd.prog w = .ok (.bool true) w := hnil
    go_enter Tryd.func52, Tryd.ntmps52
    go_wp2
    go_ret
    exact ⟨_, rfl, World.ownsRow_nil _ _ _ _, Below.refl _ _⟩
  · obtain ⟨ad, rfl⟩ := Option.ne_none_iff_exists'.1 ha
    have hnil : ∀ w : World, (binOp .eql 35 (.slice (some ad) C.length c) (.slice none 0 0)).run Tryd.prog w = .ok (.bool false) w := hnil
    have SRC : Hid (∀ j u, (crow C)[j]? = some u → (w.alloc (.cells #[] 49)).cell? (ad.add j) = some u) := by
      intro j u hu
      by_cases e : 0 < C.length
      · obtain ⟨b, off, e2, hb, hc⟩ := hC.2 e
        injection e2 with e2
        subst e2
        exact crow_src (fun j hj => (hc j hj).below (bel_one _ _) hb) j u hu
      · have := (List.getElem?_eq_some_iff.1 hu).1
        rw [crow_len] at this; omega
    have OW : Hid ((w.alloc (.cells #[] 49)).ownsRow w.heap.size 49 3 (.slice (some ⟨w.heap.size, 0, none⟩) 0 0) 0 []) := World.ownsRow_lit w #[] 0 (Nat.le_refl _) (by unfold maxLen; omega) rfl
    clear hC ha
    go_enter Tryd.func52, Tryd.ntmps52
    go_wp2_with (at_builtin; refine wpList_append_own _ rfl _ _ 35 rfl w.heap.size 49 i0 (.agg #[.int .i64 0, .int .i64 0, .int .i64 0]) 3 24 Tryd.underlying35 hi hz0 hz1 hz2 rfl (by decide) _ _ _ rfl OW.out ad C.length c (crow C) rfl (crow_len C) SRC.out (crow_one C) ?c3 ?c4 ?c5 ?_)
    case c3 => unfold maxLen; omega
    case c4 => omega
    case c5 => simp
    intro v' w4 hown hgrow _
    have OO : Hid (w4.ownsRow w.heap.size 49 3 v' C.length (crow C)) := by
      exact hown
    have BB : Hid (Below w.heap.size w w4) := (bel_one w _).grown hgrow (by simp) (fun b hb => by cases hb; exact Nat.le_refl _)
    clear hown hgrow
    go_wp2
    go_ret
    exact ⟨_, rfl, OO.out, BB.out⟩
end Go.Proofs.YthdmodmplpoejaaDoor
