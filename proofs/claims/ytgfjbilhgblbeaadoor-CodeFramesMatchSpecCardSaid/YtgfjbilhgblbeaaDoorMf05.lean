/-
  Package code: rows of codings of the call's own; Clone.
  Package code: Lift.
  Package code: checkMoves.
-/
import Derived.Test.YtgfjbilhgblbeaaDoorMf04
import Derived.Laws.Cover3
namespace Go.Proofs.YtgfjbilhgblbeaaDoor
open Go.RowKit Go.WideMaps Go.Maps

theorem infoC : (Tryd.prog.info? 49).map (fun i => (i.zero, i.size, i.bytes)) = some (some (.agg #[.int .i64 0, .int .i64 0, .int .i64 0]), 3, 24) := by kernel_rfl
def ccells (u : Cg) : List Value := [.int .i64 u.ca, .int .i64 u.co, .int .i64 u.cd]
def crow (C : List Cg) : List Value := C.flatMap ccells
theorem crow_snoc (C : List Cg) (u : Cg) : crow (C ++ [u]) = crow C ++ ccells u := by unfold crow; rw [List.flatMap_append]; simp
theorem crow_len : ∀ C : List Cg, (crow C).length = C.length * 3
  | [] => rfl
  | u :: C => by
    show (ccells u ++ crow C).length = _
    rw [List.length_append, crow_len C]
    simp only [ccells, List.length_cons, List.length_nil]; omega
theorem crow_at : ∀ (C : List Cg) (j : Nat), j < C.length → ∀ i, i < 3 → (crow C)[j * 3 + i]? = (ccells (cg C j))[i]?
  | [], _, h, _, _ => by simp at h
  | u :: C, 0, _, i, hi => by
    show (ccells u ++ crow C)[0 * 3 + i]? = _
    rw [Nat.zero_mul, Nat.zero_add, List.getElem?_append_left (by simpa [ccells] using hi)]
    rfl
  | u :: C, j + 1, h, i, hi => by
    show (ccells u ++ crow C)[(j + 1) * 3 + i]? = _
    rw [List.getElem?_append_right (by simp only [ccells, List.length_cons, List.length_nil]; omega)]
    rw [show (j + 1) * 3 + i - (ccells u).length = j * 3 + i by simp only [ccells, List.length_cons, List.length_nil]; omega]
    rw [crow_at C j (by simpa using h) i hi]
    rfl
theorem crow_one (C : List Cg) : ∀ u ∈ crow C, u.oneCell' = true := by
  intro u hu
  unfold crow at hu
  obtain ⟨x, _, hx⟩ := List.mem_flatMap.1 hu
  simp only [ccells, List.mem_cons, List.not_mem_nil, or_false] at hx
  rcases hx with rfl | rfl | rfl <;> rfl
theorem add_at (b off j : Nat) : (⟨b, off, none⟩ : Addr).add j = ⟨b, off + j, none⟩ := by
  unfold Addr.add
  split
  · rename_i h; subst h; simp
  · rfl
/-- What came in, as the cells that an append takes. -/
theorem crow_src {w : World} {b off : Nat} {C : List Cg} (h : ∀ j, j < C.length → CgAt w b (off + j * 3) (cg C j)) : ∀ j u, (crow C)[j]? = some u → w.cell? ((⟨b, off, none⟩ : Addr).add j) = some u := by
  intro j u hu
  have hj : j < C.length * 3 := by
    have := (List.getElem?_eq_some_iff.1 hu).1
    rw [crow_len] at this; exact this
  have e := crow_at C (j / 3) (by omega) (j % 3) (by omega)
  rw [show j / 3 * 3 + j % 3 = j by omega, hu] at e
  obtain ⟨h0, h1, h2⟩ := h (j / 3) (by omega)
  rw [add_at]
  have hd : off + j = off + j / 3 * 3 + j % 3 := by omega
  rw [hd]
  have hm : j % 3 = 0 ∨ j % 3 = 1 ∨ j % 3 = 2 := by omega
  rcases hm with hm | hm | hm
  · rw [hm] at e ⊢; simp only [ccells, List.getElem?_cons_zero, Option.some.injEq] at e; rw [e]; exact h0
  · rw [hm] at e ⊢; simp only [ccells, List.getElem?_cons_zero, List.getElem?_cons_succ, Option.some.injEq] at e; rw [e]; exact h1
  · rw [hm] at e ⊢; simp only [ccells, List.getElem?_cons_zero, List.getElem?_cons_succ, Option.some.injEq] at e; rw [e]; exact h2
/-- Codings in a block of the call's own. -/
structure OwnC (w : World) (B g : Nat) (C : List Cg) : Prop where
  at_ : ∀ j, j < C.length → CgAt w g (j * 3) (cg C j)
  fr : ∀ o, w.frozen? ⟨g, o, none⟩ = false
  lo : B ≤ g
  lt : g < w.heap.size
theorem OwnC.keep {w W : World} {B g : Nat} {C : List Cg} (h : OwnC w B g C) (hb : Below w.heap.size w W) : OwnC W B g C :=
  ⟨fun j hj => (h.at_ j hj).below hb h.lt, fun o => (hb.frozen (p := ⟨g, o, none⟩) h.lt).trans (h.fr o), h.lo, Nat.lt_of_lt_of_le h.lt hb.size⟩
theorem OwnC.rd {w : World} {B g : Nat} {C : List Cg} (h : OwnC w B g C) (hn : C.length ≤ 9223372036854775807) : RdC w (some ⟨g, 0, none⟩) C :=
  ⟨hn, fun _ => ⟨g, 0, rfl, h.lt, fun j hj => by rw [Nat.zero_add]; exact h.at_ j hj⟩⟩
theorem lt_of_block {w : World} {g : Nat} {o : Obj} (h : w.heap[g]? = some o) : g < w.heap.size := (Array.getElem?_eq_some_iff.1 h).1
theorem own_C {w : World} {B : Nat} {v : Value} {C : List Cg} (h : w.ownsRow B 49 3 v C.length (crow C)) (hn : 0 < C.length) : ∃ g cap, v = .slice (some ⟨g, 0, none⟩) C.length cap ∧ OwnC w B g C := by
  rcases h.2 with ⟨_, h0⟩ | ⟨g, cap, cur, rfl, hbase, hb, h1, h2, h3, h4⟩
  · omega
  · refine ⟨g, cap, rfl, fun j hj => ?_, fun o => h.frozenAt o, hbase, lt_of_block hb⟩
    have key : ∀ i, i < 3 → w.cell? ⟨g, j * 3 + i, none⟩ = (ccells (cg C j))[i]? := fun i hi => by rw [h.cellAt _ (by omega), crow_at C j hj i hi]
    exact ⟨key 0 (by omega), key 1 (by omega), key 2 (by omega)⟩
theorem rdC_own {w : World} {B : Nat} {v : Value} {C : List Cg} (h : w.ownsRow B 49 3 v C.length (crow C)) (hn : C.length ≤ 9223372036854775807) : ∃ a c, v = .slice a C.length c ∧ RdC w a C := by
  by_cases h0 : 0 < C.length
  · obtain ⟨g, cap, rfl, ho⟩ := own_C h h0
    exact ⟨_, _, rfl, ho.rd hn⟩
  · have e : C = [] := List.eq_nil_of_length_eq_zero (by omega)
    subst e
    rcases h.2 with ⟨rfl, _⟩ | ⟨g, cap, cur, rfl, _⟩
    · exact ⟨none, 0, rfl, RdC.nil_ _ _⟩
    · exact ⟨_, _, rfl, RdC.nil_ _ _⟩
theorem own_keep {W W' : World} {base : Nat} {e : TypeId} {size : Nat} {v : Value} {n : Nat} {xs : List Value} (h : W.ownsRow base e size v n xs) (hb : Below W.heap.size W W') : W'.ownsRow base e size v n xs := by
  refine h.kept (below_grow hb) ?_
  cases v.ownBlock with
  | none => exact .inl rfl
  | some _ => exact .inr (by simp)
theorem nil_eq (a : Option Addr) (k c : Nat) (w : World) : (binOp .eql 35 (.slice a k c) (.slice none 0 0)).run Tryd.prog w = .ok (.bool a.isNone) w := by
  simp only [binOp]
  simp [run_equal_slice_nil w 35 49 a k c Tryd.underlying35]
def CloneP (C : List Cg) (w : World) (e : Ending) (w' : World) : Prop := ∃ v, e = .returned v ∧ w'.ownsRow w.heap.size 49 3 v C.length (crow C) ∧ Below w.heap.size w w'
set_option maxRecDepth 100000 in
set_option maxHeartbeats 2000000 in
theorem clone_c (a : Option Addr) (c : Nat) (C : List Cg) (w : World) (hC : RdC w a C) (hn : C.length ≤ 20000) :
    Calls Tryd.prog 52 #[.slice a C.length c] w (CloneP C w) := by
  obtain ⟨i0, hi, hz0, hz1, hz2⟩ := info_parts infoC
  have hnil := nil_eq a C.length c
  by_cases ha : a = none
  · subst ha
    have h0 : C = [] := by
      by_cases e : 0 < C.length
      · obtain ⟨b, off, e2, _⟩ := hC.2 e; simp at e2
      · exact List.eq_nil_of_length_eq_zero (by omega)
    subst h0
    clear hC hn
    have hnil : ∀ w : World, (binOp .eql 35 (.slice none 0 c) (.slice none 0 0)).run Tryd.prog w = .ok (.bool true) w := hnil
    go_enter Tryd.func52, Tryd.ntmps52
    go_wp2
    go_ret
    exact ⟨_, rfl, World.ownsRow_nil _ _ _ _, Below.refl _ _⟩
  · obtain ⟨ad, rfl⟩ := Option.ne_none_iff_exists'.1 ha
    have hnil : ∀ w : World, (binOp .eql 35 (.slice (some ad) C.length c) (.slice none 0 0)).run Tryd.prog w = .ok (.bool false) w := hnil
    have SRC : Hid (∀ j u, (crow C)[j]? = some u → (w.alloc (.cells #[] 49)).cell? (ad.add j) = some u) := by
      intro j u hu
      by_cases e : 0 < C.length
      · obtain ⟨b, off, e2, hb, hc⟩ := hC.2 e
        injection e2 with e2
        subst e2
        exact crow_src (fun j hj => (hc j hj).below (bel_one _ _) hb) j u hu
      · have := (List.getElem?_eq_some_iff.1 hu).1
        rw [crow_len] at this; omega
    have OW : Hid ((w.alloc (.cells #[] 49)).ownsRow w.heap.size 49 3 (.slice (some ⟨w.heap.size, 0, none⟩) 0 0) 0 []) := World.ownsRow_lit w #[] 0 (Nat.le_refl _) (by unfold maxLen; omega) rfl
    clear hC ha
    go_enter Tryd.func52, Tryd.ntmps52
    go_wp2_with (at_builtin; refine wpList_append_own _ rfl _ _ 35 rfl w.heap.size 49 i0 (.agg #[.int .i64 0, .int .i64 0, .int .i64 0]) 3 24 Tryd.underlying35 hi hz0 hz1 hz2 rfl (by decide) _ _ _ rfl OW.out ad C.length c (crow C) rfl (crow_len C) SRC.out (crow_one C) ?c3 ?c4 ?c5 ?_)
    case c3 => unfold maxLen; omega
    case c4 => omega
    case c5 => simp
    intro v' w4 hown hgrow _
    have OO : Hid (w4.ownsRow w.heap.size 49 3 v' C.length (crow C)) := by
      exact hown
    have BB : Hid (Below w.heap.size w w4) := (bel_one w _).grown hgrow (by simp) (fun b hb => by cases hb; exact Nat.le_refl _)
    clear hown hgrow
    go_wp2
    go_ret
    exact ⟨_, rfl, OO.out, BB.out⟩
end Go.Proofs.YtgfjbilhgblbeaaDoor
namespace Go.Proofs.YtgfjbilhgblbeaaDoor
open Go.RowKit Go.WideMaps Go.Maps

/-- A coding with a code of at most a level. -/
def lif (l : List Nd) (n : Nat) (u : Cg) : Cg := ⟨u.ca, u.co, (it (par l) (lev l u.cd.toNat - n) u.cd.toNat : Nat)⟩
def lifC (l : List Nd) (n : Nat) (C : List Cg) : List Cg := C.map (lif l n)
/-- Lift's error. -/
def liE (l : List Nd) (C : List Cg) (n : Int) : Int := if forS l C ≠ 0 then forS l C else if n < 1 ∨ 8 < n then 1 else 0
/-- Codings in a block of the call's own, by their places. -/
structure OwnF (w : World) (B g n : Nat) (f : Nat → Cg) : Prop where
  at_ : ∀ j, j < n → CgAt w g (j * 3) (f j)
  fr : ∀ o, w.frozen? ⟨g, o, none⟩ = false
  lo : B ≤ g
  lt : g < w.heap.size
theorem OwnF.keep {w W : World} {B g n : Nat} {f : Nat → Cg} (h : OwnF w B g n f) (hb : Below w.heap.size w W) : OwnF W B g n f :=
  ⟨fun j hj => (h.at_ j hj).below hb h.lt, fun o => (hb.frozen (p := ⟨g, o, none⟩) h.lt).trans (h.fr o), h.lo, Nat.lt_of_lt_of_le h.lt hb.size⟩
theorem OwnF.set {w : World} {B g n : Nat} {f : Nat → Cg} (h : OwnF w B g n f) {k : Nat} (hk : k < n) (x : Int) : OwnF (w.setCell ⟨g, k * 3 + 2, none⟩ (.int .i64 x)) B g n (fun j => if j = k then ⟨(f k).ca, (f k).co, x⟩ else f j) := by
  have ne : ∀ {i j : Nat}, i ≠ j → (⟨g, i, none⟩ : Addr) ≠ ⟨g, j, none⟩ := fun h e => by injection e with _ e2; exact h e2
  refine ⟨fun j hj => ?_, fun o => by rw [World.frozen?_setCell]; exact h.fr o, h.lo, by simpa using h.lt⟩
  obtain ⟨h0, h1, h2⟩ := h.at_ j hj
  by_cases e : j = k
  · subst e
    refine ⟨?_, ?_, ?_⟩
    · rw [World.cell?_setCell_other _ _ _ _ (ne (by omega))]; simpa using h0
    · rw [World.cell?_setCell_other _ _ _ _ (ne (by omega))]; simpa using h1
    · rw [World.cell?_setCell_same _ _ _ h2]; simp
  · simp only [if_neg e]
    refine ⟨?_, ?_, ?_⟩
    · rw [World.cell?_setCell_other _ _ _ _ (ne (by omega))]; exact h0
    · rw [World.cell?_setCell_other _ _ _ _ (ne (by omega))]; exact h1
    · rw [World.cell?_setCell_other _ _ _ _ (ne (by omega))]; exact h2
theorem lifC_at {l : List Nd} {n : Nat} {C : List Cg} {j : Nat} (hj : j < C.length) : cg (lifC l n C) j = lif l n (cg C j) := by
  rw [cg_is (by unfold lifC; simpa using hj), cg_is hj]; unfold lifC; simp
theorem lifC_len (l : List Nd) (n : Nat) (C : List Cg) : (lifC l n C).length = C.length := by unfold lifC; simp
theorem cgs_ok {h : Int → Bool} {C : List Cg} (e : cgsS h C = 0) : C.length ≤ 20000 ∧ ∀ k, k < C.length → 1 ≤ (cg C k).ca ∧ h (cg C k).cd = true := by
  unfold cgsS at e
  by_cases h1 : 20000 < C.length
  · rw [if_pos h1] at e; simp at e
  rw [if_neg h1] at e
  refine ⟨by omega, fun k hk => ?_⟩
  have := fe_zero e k hk
  unfold cgE at this
  by_cases g : (cg C k).ca < 1 ∨ (cg C k).co < 1 ∨ 50 < (cg C k).co
  · rw [if_pos g] at this; simp at this
  rw [if_neg g] at this
  by_cases g2 : h (cg C k).cd = false
  · rw [if_pos g2] at this; simp at this
  exact ⟨by omega, by simpa using g2⟩
theorem for_ok {l : List Nd} {C : List Cg} (e : forS l C = 0) : Fr l ∧ cgsS (hasB (lev l)) C = 0 ∧ C.length ≤ 20000 ∧ ∀ k, k < C.length → ∃ c : Nat, (cg C k).cd = c ∧ Has l c := by
  unfold forS at e
  by_cases h1 : frS l ≠ 0
  · rw [if_pos h1] at e; exact absurd e h1
  rw [if_neg h1] at e
  have F := fr_of (show frS l = 0 by omega)
  refine ⟨F, e, (cgs_ok e).1, fun k hk => (hasS_iff F).1 ((cgs_ok e).2 k hk).2⟩
def SB (z x y : Nat) (W : World) : Prop := W.cell? ⟨z, 0, none⟩ = some (row x) ∧ W.cell? ⟨z, 1, none⟩ = some (row y)
/-- What lies there in the loop of Lift. -/
structure InL (w wr : World) (x y z g : Nat) (l : List Nd) (n : Nat) (C : List Cg) (k : Nat) : Prop where
  box : B2 wr z (row x) (row y)
  ax : Arr wr x (par l)
  ay : Arr wr y (lev l)
  own : OwnF wr (z + 1) g C.length (fun j => if j < k then lif l n (cg C j) else cg C j)
  bel : Below w.heap.size w wr
  wz : w.heap.size ≤ z
  xz : x < z
  yz : y < z
theorem InL.keep {w wr W : World} {x y z g : Nat} {l : List Nd} {n : Nat} {C : List Cg} {k : Nat} (h : InL w wr x y z g l n C k) (hb : Below wr.heap.size wr W) : InL w W x y z g l n C k :=
  ⟨h.box.keep hb, h.ax.below hb, h.ay.below hb, h.own.keep hb, h.bel.trans (hb.mono h.bel.size), h.wz, h.xz, h.yz⟩
theorem Arr.other {w : World} {b g i : Nat} {f : Nat → Nat} (h : Arr w b f) (hne : g ≠ b) (x : Value) : Arr (w.setCell ⟨g, i, none⟩ x) b f :=
  ⟨by simpa using h.1, fun j hj => (set_cell hne x).trans (h.2 j hj)⟩
theorem InL.next {w wr : World} {x y z g : Nat} {l : List Nd} {n : Nat} {C : List Cg} {k : Nat} (h : InL w wr x y z g l n C k) (hk : k < C.length) :
    InL w (wr.setCell ⟨g, k * 3 + 2, none⟩ (.int .i64 (it (par l) (lev l (cg C k).cd.toNat - n) (cg C k).cd.toNat : Nat))) x y z g l n C (k + 1) := by
  have lo := h.own.lo
  have xz := h.xz
  have yz := h.yz
  have s := h.own.set hk (it (par l) (lev l (cg C k).cd.toNat - n) (cg C k).cd.toNat : Nat)
  refine ⟨h.box.otherCell (by omega) _, h.ax.other (by omega) _, h.ay.other (by omega) _, ?_, h.bel.setCell (p := ⟨g, k * 3 + 2, none⟩) (by have := h.wz; show _ ≤ g; omega) _, h.wz, xz, yz⟩
  refine ⟨fun j hj => ?_, s.fr, s.lo, s.lt⟩
  have := s.at_ j hj
  by_cases e : j = k
  · subst e
    simp only [if_pos rfl, Nat.lt_irrefl, if_false] at this
    rw [if_pos (Nat.lt_succ_self _)]
    exact this
  · simp only [if_neg e] at this
    by_cases e2 : j < k
    · rw [if_pos e2] at this; rw [if_pos (by omega)]; exact this
    · rw [if_neg e2] at this; rw [if_neg (by omega)]; exact this
def LiP (l : List Nd) (C : List Cg) (n : Int) (w : World) (e : Ending) (w' : World) : Prop :=
  (liE l C n = 0 ∧ ∃ a c, e = .returned (.tuple #[.slice a C.length c, .int .i64 0]) ∧ RdC w' a (lifC l n.toNat C) ∧ Below w.heap.size w w') ∨
  (liE l C n ≠ 0 ∧ e = .returned (.tuple #[.slice none 0 0, .int .i64 (liE l C n)]) ∧ Below w.heap.size w w')
set_option maxRecDepth 100000 in
set_option maxHeartbeats 4000000 in
theorem Lift_c (sa : Option Addr) (c : Nat) (l : List Nd) (a2 : Option Addr) (c2 : Nat) (C : List Cg) (m : Int) (w : World) (hl : RdN w sa l) (hf : Fits l) (hC : RdC w a2 C) :
    Calls Tryd.prog 24 #[.slice sa l.length c, .slice a2 C.length c2, .int .i64 m] w (LiP l C m w) := by
  have h9 := hC.1
  have HC := Lib.hid (frameFor_c sa c l a2 c2 C w hl hf hC)
  have HCC := Lib.hid hC
  clear hl hf hC
  by_cases hz : forS l C ≠ 0
  · have HP : Hid (liE l C m = forS l C ∧ liE l C m ≠ 0) := by
      have e : liE l C m = forS l C := by unfold liE; rw [if_pos hz]
      exact ⟨e, by rw [e]; exact hz⟩
    obtain ⟨f, hfl⟩ : ∃ f, forS l C = f := ⟨_, rfl⟩
    rw [hfl] at hz HC HP
    have HZ := Lib.hid hz
    have f1 : (f == 0) = false := by rw [beq_eq_false_iff_ne]; exact hz
    have f2 : (f != 0) = true := by rw [bne, f1]; rfl
    clear hfl hz
    go_enter Tryd.func24, Tryd.ntmps24
    go_wp2_with fail
    (with_reducible refine HC.out.mono ?_)
    intro e W2 he
    obtain ⟨h, _⟩ | ⟨_, rfl, b2⟩ := he
    · exact absurd h HZ.out
    have BW2 := Lib.hid (b2.trans ((bel_one W2 (.cells #[.slice none 0 0, .slice none 0 0] 71)).mono b2.size))
    clear b2
    go_wp2_with fail
    go_ret2
    exact Or.inr ⟨HP.out.2, by rw [HP.out.1]; rfl, BW2.out⟩
  have hz : forS l C = 0 := by omega
  obtain ⟨F, _, hn, hcs⟩ := for_ok hz
  have HP : Hid (liE l C m = if m < 1 ∨ 8 < m then 1 else 0) := by unfold Hid liE; rw [if_neg (by simpa using hz)]
  rw [hz] at HC
  have HF := Lib.hid F
  have HCS := Lib.hid hcs
  clear hz F hcs
  go_enter Tryd.func24, Tryd.ntmps24
  go_wp2_with fail
  (with_reducible refine HC.out.mono ?_)
  intro e W2 he
  obtain ⟨_, x, y, rfl, hx, hy, b2, _, _⟩ | ⟨h, _⟩ := he
  rotate_left
  · exact absurd rfl h
  obtain ⟨W3, hW3⟩ : ∃ W3, W2.alloc (.cells #[row x, row y] 71) = W3 := ⟨_, rfl⟩
  have b3 : Below W2.heap.size W2 W3 := by rw [← hW3]; exact bel_one _ _
  have D3 : Hid (B2 W3 W2.heap.size (row x) (row y)) := by rw [← hW3]; exact B2.made _ _ _ _
  have X3 := Lib.hid (hx.below b3)
  have Y3 := Lib.hid (hy.below b3)
  have LXY : Hid (x < W2.heap.size ∧ y < W2.heap.size ∧ w.heap.size ≤ W2.heap.size) := ⟨hx.1, hy.1, b2.size⟩
  have BW3 := Lib.hid (b2.trans (b3.mono b2.size))
  clear b2 b3 hx hy HC
  by_cases m1 : m < 1
  · have RR : Hid (liE l C m = 1) := by unfold Hid; rw [HP.out, if_pos (Or.inl m1)]
    go_wp2_with fail
    go_ret2
    exact Or.inr ⟨by rw [RR.out]; decide, by rw [RR.out]; rfl, BW3.out⟩
  have m1' : decide (m < 1) = false := decide_eq_false m1
  by_cases m2 : 8 < m
  · have RR : Hid (liE l C m = 1) := by unfold Hid; rw [HP.out, if_pos (Or.inr m2)]
    clear m1
    go_wp2_with fail
    go_ret2
    exact Or.inr ⟨by rw [RR.out]; decide, by rw [RR.out]; rfl, BW3.out⟩
  have RR : Hid (liE l C m = 0) := by unfold Hid; rw [HP.out, if_neg (by omega)]
  obtain ⟨n, rfl⟩ : ∃ n : Nat, m = n := ⟨m.toNat, by omega⟩
  have HL := Lib.hid (clone_c a2 c2 C W3 (HCC.out.below BW3.out) hn)
  clear m1
  go_wp2_with fail
  clear hW3
  (with_reducible refine HL.out.mono ?_)
  rintro e W4 ⟨v, rfl, hown, b4⟩
  have BW4 := Lib.hid (BW3.out.trans (b4.mono BW3.out.size))
  by_cases h0 : C.length = 0
  · have e : C = [] := List.eq_nil_of_length_eq_zero h0
    subst e
    obtain ⟨a', c', rfl, _⟩ := rdC_own hown (by simp)
    have RD : Hid (RdC W4 a' (lifC l n [])) := RdC.nil_ _ _
    clear hown b4
    go_wp2_with fail
    go_loop [11, 31] (fun _ i => i = .int .i64 0) (fun _ _ => 0)
    case atStart => exact rfl
    case round =>
      obtain rfl := hrel
      go_wp2
      go_ret2
      exact Or.inl ⟨RR.out, a', c', rfl, by rw [Int.toNat_natCast]; exact RD.out, BW4.out⟩
  obtain ⟨g, cap, rfl, hO⟩ := own_C hown (by omega)
  have S0 : Hid (InL w W4 x y W2.heap.size g l n C 0) :=
    ⟨D3.out.keep b4, X3.out.below b4, Y3.out.below b4, ⟨fun j hj => by rw [if_neg (Nat.not_lt_zero _)]; exact hO.at_ j hj, hO.fr, by have := hO.lo; have := D3.out.lt; omega, hO.lt⟩, BW4.out, LXY.out.2.2, LXY.out.1, LXY.out.2.1⟩
  obtain ⟨z, hzz⟩ : ∃ z, W2.heap.size = z := ⟨_, rfl⟩
  rw [hzz] at S0 ⊢
  clear hown b4 hO h0 D3 X3 Y3 LXY BW3 BW4 HL HP
  go_wp2_with fail
  go_loopw [11, 31] (fun _ i wr => ∃ k : Nat, k ≤ C.length ∧ i = .int .i64 k ∧ Hid (InL w wr x y z g l n C k)) (fun _ i _ => C.length - (intOf i).toNat)
  case atStart => exact ⟨0, Nat.zero_le _, rfl, S0.out⟩
  case round =>
    clear S0
    obtain ⟨k, hk, rfl, hS⟩ := hrel
    by_cases hlt : k < C.length
    · have hlt' : (k : Int) < (C.length : Int) := by omega
      obtain ⟨cd, hcd, hcn⟩ := HCS.out k hlt
      have hcd := Lib.hid hcd
      have hcn := Lib.hid hcn
      go_wp2_with fail
      have JF : Hid (InL w wr.drew x y z g l n C k) := hS.out.keep (Below.refl _ _).drew
      refine wp_region_noPanic ?_
      refine wp_region_held_drew (S := SB z x y) (by kernel_rfl) ⟨JF.out.box.c0, JF.out.box.c1⟩ (fun hS => ?_)
      obtain ⟨V0, hV0⟩ : ∃ W, wr.drew = W := ⟨_, rfl⟩
      rw [hV0] at hS JF ⊢
      clear hV0
      refine wpAnyH_take (i := 0) (v := ?v0z1) rfl (by kernel_rfl) (by kernel_rfl) (by kernel_rfl) (fun _ _ _ h => h) (Or.inl ⟨by rfl, ?hy0z1⟩) (by assumption) ?rest0z1
      case hy0z1 =>
        intro w hSw
        dsimp only [SB] at hSw
        go_simp
        try with_reducible rfl
      simp only [Act.put, List.getElem_toArray, List.getElem_cons_succ, List.getElem_cons_zero, List.setIfInBounds_toArray, List.set_cons_zero, List.set_cons_succ]
      refine wpAnyH_take (i := 1) (v := ?v1z2) rfl (by kernel_rfl) (by kernel_rfl) (by kernel_rfl) (fun _ _ _ h => h) (Or.inl ⟨by rfl, ?hy1z2⟩) (by assumption) ?rest1z2
      case hy1z2 =>
        intro w hSw
        dsimp only [SB] at hSw
        go_simp
        try with_reducible rfl
      simp only [Act.put, List.getElem_toArray, List.getElem_cons_succ, List.getElem_cons_zero, List.setIfInBounds_toArray, List.set_cons_zero, List.set_cons_succ]
      refine wpAnyH_take (i := 2) (v := ?v2z3) rfl (by kernel_rfl) (by kernel_rfl) (by kernel_rfl) (fun _ _ _ h => h) (Or.inl ⟨by rfl, ?hy2z3⟩) (by assumption) ?rest2z3
      case hy2z3 =>
        intro w hSw
        dsimp only [SB] at hSw
        go_simp
        try with_reducible rfl
      simp only [Act.put, List.getElem_toArray, List.getElem_cons_succ, List.getElem_cons_zero, List.setIfInBounds_toArray, List.set_cons_zero, List.set_cons_succ]
      refine wpAnyH_take (i := 3) (v := ?v3z4) rfl (by kernel_rfl) (by kernel_rfl) (by kernel_rfl) (fun _ _ _ h => h) (Or.inl ⟨by rfl, ?hy3z4⟩) (by assumption) ?rest3z4
      case hy3z4 =>
        intro w hSw
        dsimp only [SB] at hSw
        go_simp
        try with_reducible rfl
      simp only [Act.put, List.getElem_toArray, List.getElem_cons_succ, List.getElem_cons_zero, List.setIfInBounds_toArray, List.set_cons_zero, List.set_cons_succ]
      refine wpAnyH_take (i := 4) (v := ?v4z5) rfl (by kernel_rfl) (by kernel_rfl) (by kernel_rfl) (fun _ _ _ h => h) (Or.inl ⟨by rfl, ?hy4z5⟩) (by assumption) ?rest4z5
      case hy4z5 =>
        intro w hSw
        dsimp only [SB] at hSw
        go_simp
        try with_reducible rfl
      simp only [Act.put, List.getElem_toArray, List.getElem_cons_succ, List.getElem_cons_zero, List.setIfInBounds_toArray, List.set_cons_zero, List.set_cons_succ]
      refine wpAnyH_take (i := 5) (v := ?v5z6) rfl (by kernel_rfl) (by kernel_rfl) (by kernel_rfl) (fun _ _ _ h => h) (Or.inl ⟨by rfl, ?hy5z6⟩) (by assumption) ?rest5z6
      case hy5z6 =>
        intro w hSw
        dsimp only [SB] at hSw
        go_simp
        try with_reducible rfl
      simp only [Act.put, List.getElem_toArray, List.getElem_cons_succ, List.getElem_cons_zero, List.setIfInBounds_toArray, List.set_cons_zero, List.set_cons_succ]
      refine wpAnyH_take (i := 6) (v := ?v6z7) rfl (by kernel_rfl) (by kernel_rfl) (by kernel_rfl) (fun _ _ _ h => h) (Or.inl ⟨by rfl, ?hy6z7⟩) (by assumption) ?rest6z7
      case hy6z7 =>
        intro w hSw
        dsimp only [SB] at hSw
        go_simp
        try with_reducible rfl
      simp only [Act.put, List.getElem_toArray, List.getElem_cons_succ, List.getElem_cons_zero, List.setIfInBounds_toArray, List.set_cons_zero, List.set_cons_succ]
      refine wpAnyH_take (i := 8) (v := ?v8z8) rfl (by kernel_rfl) (by kernel_rfl) (by kernel_rfl) (fun _ _ _ h => h) (Or.inl ⟨by rfl, ?hy8z8⟩) (by assumption) ?rest8z8
      case hy8z8 =>
        intro w hSw
        dsimp only [SB] at hSw
        go_simp
        try with_reducible rfl
      simp only [Act.put, List.getElem_toArray, List.getElem_cons_succ, List.getElem_cons_zero, List.setIfInBounds_toArray, List.set_cons_zero, List.set_cons_succ]
      refine wpAnyH_ready (rs := [7]) (by kernel_rfl) (by simp) ?_
      refine AllReadyH.cons rfl (fun K hK => ?_) AllReadyH.nil
      have u2 : V0.cell? ⟨g, k * 3 + 2, none⟩ = some (.int .i64 (cg C k).cd) := by
        have := (JF.out.own.at_ k hlt).2.2
        simp only [Nat.lt_irrefl, if_false] at this
        exact this
      go_simp

      refine hK.out _ _ hS (fun _ => ?_)
      clear hK K u2
      try simp only [Act.put, List.setIfInBounds_toArray, List.set_cons_zero, List.set_cons_succ]
      refine wpAnyH_ready (rs := [9]) (by kernel_rfl) (by simp) ?_
      refine AllReadyH.cons rfl (fun K hK => ?_) AllReadyH.nil
      go_simp
      (refine (lifted_c x y (par l) (lev l) (Has l) HF.out.tree cd n V0 JF.out.ax JF.out.ay (Or.inr hcn.out) (fun c h => (has_pos HF.out.ord h).2)).mono ?_)
      rintro e V1 ⟨rfl, bc⟩
      try go_simp
      have J2 : Hid (InL w V1 x y z g l n C k) := JF.out.keep bc
      have hT : SB z x y V1 := ⟨J2.out.box.c0, J2.out.box.c1⟩
      refine hK.out _ _ hT (fun _ => ?_)
      clear hK K hS bc
      have hS := hT
      clear hT
      try simp only [Act.put, List.setIfInBounds_toArray, List.set_cons_zero, List.set_cons_succ]
      refine wpAnyH_take (i := 10) (v := ?v10z9) rfl (by kernel_rfl) (by kernel_rfl) (by kernel_rfl) (fun _ _ _ h => h) (Or.inl ⟨by rfl, ?hy10z9⟩) (by assumption) ?rest10z9
      case hy10z9 =>
        intro w hSw
        dsimp only [SB] at hSw
        go_simp
        try with_reducible rfl
      simp only [Act.put, List.getElem_toArray, List.getElem_cons_succ, List.getElem_cons_zero, List.setIfInBounds_toArray, List.set_cons_zero, List.set_cons_succ]
      refine wpAnyH_take (i := 11) (v := ?v11z10) rfl (by kernel_rfl) (by kernel_rfl) (by kernel_rfl) (fun _ _ _ h => h) (Or.inl ⟨by rfl, ?hy11z10⟩) (by assumption) ?rest11z10
      case hy11z10 =>
        intro w hSw
        dsimp only [SB] at hSw
        go_simp
        try with_reducible rfl
      simp only [Act.put, List.getElem_toArray, List.getElem_cons_succ, List.getElem_cons_zero, List.setIfInBounds_toArray, List.set_cons_zero, List.set_cons_succ]
      refine wpAnyH_ready (rs := [12]) (by kernel_rfl) (by simp) ?_
      refine AllReadyH.cons rfl (fun K hK => ?_) AllReadyH.nil
      have s0 : V1.cell? ⟨g, k * 3 + 2, none⟩ = some (.int .i64 (cg C k).cd) := by
        have := (J2.out.own.at_ k hlt).2.2
        simp only [Nat.lt_irrefl, if_false] at this
        exact this
      have s1 := J2.out.own.fr (k * 3 + 2)
      go_simp
      have NX : Hid (InL w (V1.setCell ⟨g, k * 3 + 2, none⟩ (.int .i64 (it (par l) (lev l cd - n) cd : Nat))) x y z g l n C (k + 1)) := by
        have := J2.out.next hlt
        rw [hcd.out, Int.toNat_natCast] at this
        exact this
      have hT : SB z x y (V1.setCell ⟨g, k * 3 + 2, none⟩ (.int .i64 (it (par l) (lev l cd - n) cd : Nat))) := ⟨NX.out.box.c0, NX.out.box.c1⟩
      refine hK.out _ _ hT (fun _ => ?_)
      clear hK K hS
      try simp only [Act.put, List.setIfInBounds_toArray, List.set_cons_zero, List.set_cons_succ]
      refine wpAnyH_done (by kernel_rfl) ?_ _
      refine NoPanic.normal ?_
      clear hT s0 s1 J2
      go_wp2
      go_roundw
      case rel => exact ⟨k + 1, by omega, by go_num, NX.out⟩
      case measure => simp [intOf]; omega
    · obtain rfl : k = C.length := by omega
      have RD : Hid (RdC wr (some ⟨g, 0, none⟩) (lifC l n C)) := ⟨by rw [lifC_len]; exact h9, fun _ => ⟨g, 0, rfl, hS.out.own.lt, fun j hj => by
        rw [lifC_len] at hj
        have := hS.out.own.at_ j hj
        rw [if_pos hj] at this
        rw [lifC_at hj, Nat.zero_add]; exact this⟩⟩
      clear hlt
      go_wp2
      go_ret2
      exact Or.inl ⟨RR.out, _, cap, rfl, by rw [Int.toNat_natCast]; exact RD.out, hS.out.bel⟩
end Go.Proofs.YtgfjbilhgblbeaaDoor
namespace Go.Proofs.YtgfjbilhgblbeaaDoor
open Go.RowKit Go.WideMaps Go.Maps

/-- The error of move k; h and h' say which codes there are. -/
def mvE (h h' : Int → Bool) (M : List Mv) (k : Nat) : Int :=
  if h (mv M k).fr = false ∨ ((mv M k).tg ≠ 0 ∧ h' (mv M k).tg = false) then 5 else if k ≠ 0 ∧ (mv M k).fr ≤ (mv M (k - 1)).fr then 7 else 0
def mvS (h h' : Int → Bool) (M : List Mv) : Int := fe (mvE h h' M) M.length
section
variable {h h' : Int → Bool} {M : List Mv} {k : Nat}
theorem mvE_5 (a : h (mv M k).fr = false ∨ ((mv M k).tg ≠ 0 ∧ h' (mv M k).tg = false)) : mvE h h' M k = 5 := by unfold mvE; rw [if_pos a]
theorem mvE_r (a : ¬ (h (mv M k).fr = false ∨ ((mv M k).tg ≠ 0 ∧ h' (mv M k).tg = false))) : mvE h h' M k = if k ≠ 0 ∧ (mv M k).fr ≤ (mv M (k - 1)).fr then 7 else 0 := by unfold mvE; rw [if_neg a]
end
/-- Sound moves go up; so there are at most 999. -/
theorem mv_len {h h' : Int → Bool} {M : List Mv} (e : mvS h h' M = 0) (hh : ∀ c, h c = true → 1 ≤ c ∧ c ≤ 999) : M.length ≤ 999 ∧ ∀ k, k < M.length → h (mv M k).fr = true ∧ ((mv M k).tg = 0 ∨ h' (mv M k).tg = true) := by
  have z := fe_zero e
  have key : ∀ k, k < M.length → (h (mv M k).fr = true ∧ ((mv M k).tg = 0 ∨ h' (mv M k).tg = true)) ∧ (k ≠ 0 → (mv M (k - 1)).fr < (mv M k).fr) := fun k hk => by
    have := z k hk
    by_cases a : h (mv M k).fr = false ∨ ((mv M k).tg ≠ 0 ∧ h' (mv M k).tg = false)
    · rw [mvE_5 a] at this; simp at this
    rw [mvE_r a] at this
    by_cases b : k ≠ 0 ∧ (mv M k).fr ≤ (mv M (k - 1)).fr
    · rw [if_pos b] at this; simp at this
    refine ⟨⟨?_, ?_⟩, fun hk0 => ?_⟩
    · by_cases q : h (mv M k).fr = true
      · exact q
      · exact absurd (Or.inl (by simpa using q)) a
    · by_cases q : (mv M k).tg = 0
      · exact Or.inl q
      · right
        by_cases r : h' (mv M k).tg = true
        · exact r
        · exact absurd (Or.inr ⟨q, by simpa using r⟩) a
    · by_cases q : (mv M k).fr ≤ (mv M (k - 1)).fr
      · exact absurd ⟨hk0, q⟩ b
      · omega
  refine ⟨?_, fun k hk => (key k hk).1⟩
  have up : ∀ k, k < M.length → (k : Int) + 1 ≤ (mv M k).fr := fun k => by
    induction k with
    | zero => intro hk; have := (hh _ (key 0 hk).1.1).1; omega
    | succ k ih => intro hk; have a := ih (by omega); have b := (key (k + 1) hk).2 (by omega); simp only [Nat.add_sub_cancel] at b; omega
  by_cases e : M.length ≤ 999
  · exact e
  · have a := up 999 (by omega)
    have b := (hh _ (key 999 (by omega)).1.1).2
    omega
theorem hasB_rng {lv : Nat → Nat} {c : Int} (h : hasB lv c = true) : 1 ≤ c ∧ c ≤ 999 := by
  unfold hasB at h
  rw [Bool.and_eq_true, Bool.and_eq_true, decide_eq_true_iff, decide_eq_true_iff] at h
  exact ⟨h.1, h.2.1⟩
/-- What lies there in the loop of checkMoves. -/
structure InM (w wr : World) (x y x2 y2 : Nat) : Prop where
  box : B2 wr w.heap.size (row x) (row y)
  box2 : B2 wr (w.heap.size + 1) (row x2) (row y2)
  bel : Below w.heap.size w wr
theorem InM.keep {w wr W : World} {x y x2 y2 : Nat} (h : InM w wr x y x2 y2) (hb : Below wr.heap.size wr W) : InM w W x y x2 y2 :=
  ⟨h.box.keep hb, h.box2.keep hb, h.bel.trans (hb.mono h.bel.size)⟩
def MovB (wr W1 : World) (u : Mv) : Prop := Below wr.heap.size wr W1 ∧ B2 W1 wr.heap.size (.int .i64 u.fr) (.int .i64 u.tg)
theorem mov_b (wr : World) (u : Mv) : MovB wr (wr.alloc (.cells #[.int .i64 u.fr, .int .i64 u.tg] 101)) u := ⟨bel_one _ _, B2.made _ _ _ _⟩
set_option maxRecDepth 100000 in
set_option maxHeartbeats 4000000 in
theorem checkMoves_c (x y x2 y2 : Nat) (lv lv2 : Nat → Nat) (a : Option Addr) (c : Nat) (M : List Mv) (w : World) (hl : Arr w y lv) (hl2 : Arr w y2 lv2) (hM : RdM w a M) :
    Calls Tryd.prog 54 #[fv x y, fv x2 y2, .slice a M.length c] w (IntP (mvS (hasB lv) (hasB lv2) M) w) := by
  have h9 := hM.1
  have HL := Lib.hid hl
  have HL2 := Lib.hid hl2
  have HM := Lib.hid hM
  have S0 : Hid (InM w ((w.alloc (.cells #[row x, row y] 71)).alloc (.cells #[row x2, row y2] 71)) x y x2 y2) := by
    have e := B2.made (w.alloc (.cells #[row x, row y] 71)) (row x2) (row y2) 71
    have hs : (w.alloc (.cells #[row x, row y] 71)).heap.size = w.heap.size + 1 := by simp
    rw [hs] at e
    exact ⟨(B2.made _ _ _ _).keep (bel_one _ _), e, (bel_one _ _).trans ((bel_one _ _).mono (by simp))⟩
  clear hl hl2 hM
  go_enter Tryd.func54, Tryd.ntmps54
  go_wp2
  go_loopw [6, 7, 11] (fun fl _ i wr => ∃ k : Nat, k ≤ M.length ∧ i = .int .i64 k ∧ fl = .int .i64 0 ∧ Hid (InM w wr x y x2 y2 ∧ fe (mvE (hasB lv) (hasB lv2) M) k = 0)) (fun _ _ i _ => M.length - (intOf i).toNat)
  case atStart => exact ⟨0, Nat.zero_le _, rfl, rfl, S0.out, rfl⟩
  case round =>
    clear S0
    obtain ⟨k, hk, rfl, rfl, hS⟩ := hrel
    by_cases hlt : k < M.length
    · obtain ⟨b', off, rfl, u0, u1⟩ := (HM.out.below hS.out.1.bel).at_ hlt
      have hlt' : (k : Int) < (M.length : Int) := by omega
      have hF : Hid (mvE (hasB lv) (hasB lv2) M k ≠ 0 → mvS (hasB lv) (hasB lv2) M = mvE (hasB lv) (hasB lv2) M k) := fun h => fe_at hlt hS.out.2 h
      have hN : Hid (fe (mvE (hasB lv) (hasB lv2) M) (k + 1) = mvE (hasB lv) (hasB lv2) M k) := fe_next hS.out.2
      obtain ⟨W1, hW1⟩ : ∃ W1, wr.alloc (.cells #[.int .i64 (mv M k).fr, .int .i64 (mv M k).tg] 101) = W1 := ⟨_, rfl⟩
      have N0 : Hid (MovB wr W1 (mv M k)) := by unfold Hid; rw [← hW1]; exact mov_b _ _
      have S1 := Lib.hid (hS.out.1.keep N0.out.1)
      have N1 := Lib.hid N0.out.2
      have v0 := N1.out.c0
      have v1 := N1.out.c1
      have b0 := S1.out.box.c0
      have b1 := S1.out.box.c1
      have d0 := S1.out.box2.c0
      have d1 := S1.out.box2.c1
      have HH1 := Lib.hid (fun W (hb : InM w W x y x2 y2) => has_c x y lv (mv M k).fr W (HL.out.below hb.bel))
      have HH2 := Lib.hid (fun W (hb : InM w W x y x2 y2) => has_c x2 y2 lv2 (mv M k).tg W (HL2.out.below hb.bel))
      clear hS N0
      by_cases g1 : hasB lv (mv M k).fr = false
      · have hE : mvE (hasB lv) (hasB lv2) M k = 5 := mvE_5 (Or.inl g1)
        have R : Hid (mvS (hasB lv) (hasB lv2) M = 5) := by unfold Hid; rw [hF.out (by rw [hE]; decide), hE]
        rw [g1] at HH1
        clear hE hF hN HH2 g1
        go_wp2_with fail
        (with_reducible refine (HH1.out W1 S1.out).mono ?_)
        rintro e W2 ⟨rfl, bq⟩
        have S2 := Lib.hid (S1.out.keep bq)
        have N2 := Lib.hid (N1.out.keep bq)
        have v0 := N2.out.c0
        have v1 := N2.out.c1
        have b0 := S2.out.box.c0
        have b1 := S2.out.box.c1
        have d0 := S2.out.box2.c0
        have d1 := S2.out.box2.c1
        clear bq
        go_wp2
        go_ret
        exact ⟨by rw [R.out]; rfl, S2.out.bel⟩
      have g1' : hasB lv (mv M k).fr = true := by simpa using g1
      rw [g1'] at HH1
      by_cases g2 : (mv M k).tg = 0
      · have gr : Hid (¬ (hasB lv (mv M k).fr = false ∨ ((mv M k).tg ≠ 0 ∧ hasB lv2 (mv M k).tg = false))) := fun h => h.elim g1 fun h => h.1 g2
        have g2' : ((mv M k).tg == 0) = true := by rw [beq_iff_eq]; exact g2
        have g2n : ((mv M k).tg != 0) = false := by rw [bne, g2']; rfl
        clear g1 g1' g2
        go_wp2_with fail
        (with_reducible refine (HH1.out W1 S1.out).mono ?_)
        rintro e W2 ⟨rfl, bq⟩
        have S2 := Lib.hid (S1.out.keep bq)
        have N2 := Lib.hid (N1.out.keep bq)
        have v0 := N2.out.c0
        have v1 := N2.out.c1
        have b0 := S2.out.box.c0
        have b1 := S2.out.box.c1
        have d0 := S2.out.box2.c0
        have d1 := S2.out.box2.c1
        clear bq
        clear u0 u1 hW1
        have hR := Lib.hid (mvE_r (h := hasB lv) (h' := hasB lv2) gr.out)
        clear gr HH1 HH2
        clear b0 b1 d0 d1
        by_cases hk0 : k = 0
        · have hz : Hid (fe (mvE (hasB lv) (hasB lv2) M) (k + 1) = 0) := by unfold Hid; rw [hN.out, hR.out, if_neg (fun h => h.1 hk0)]
          subst hk0
          clear hF hN hR
          go_wp2_with fail
          go_quiet (fail)
          have NX : Hid (InM w (W2.drewN nq) x y x2 y2 ∧ fe (mvE (hasB lv) (hasB lv2) M) (0 + 1) = 0) := ⟨S2.out.keep (below_drewN (Below.refl _ _) nq), hz.out⟩
          clear v0 v1
          go_wp2
          go_roundw
          case rel => exact ⟨1, by omega, by go_num, rfl, NX.out⟩
          case measure => simp [intOf]; omega
        · obtain ⟨m, rfl⟩ : ∃ m, k = m + 1 := ⟨k - 1, by omega⟩
          obtain ⟨_, _, e, p0, _⟩ := (HM.out.below S2.out.bel).at_ (k := m) (by omega)
          injection e with e; injection e with e1 e2; subst e1; subst e2
          have hpos : (0 : Int) < ((m + 1 : Nat) : Int) := by omega
          have hm1 : ((m + 1 : Nat) : Int) - 1 = (m : Int) := by omega
          have hm2 : (m : Int) < (M.length : Int) := by omega
          by_cases q : (mv M (m + 1)).fr ≤ (mv M m).fr
          · have hE : mvE (hasB lv) (hasB lv2) M (m + 1) = 7 := by rw [hR.out, if_pos ⟨hk0, q⟩]
            have R : Hid (mvS (hasB lv) (hasB lv2) M = 7) := by unfold Hid; rw [hF.out (by rw [hE]; decide), hE]
            clear hE hF hN hR hk0
            go_wp2_with fail
            go_quiet (fail)
            go_wp2
            go_ret
            exact ⟨by rw [R.out]; rfl, below_drewN S2.out.bel _⟩
          · have hz : Hid (fe (mvE (hasB lv) (hasB lv2) M) (m + 1 + 1) = 0) := by unfold Hid; rw [hN.out, hR.out, if_neg (fun h => q h.2)]
            have q' : decide ((mv M (m + 1)).fr ≤ (mv M m).fr) = false := decide_eq_false q
            clear hF hN hR hk0 q
            go_wp2_with fail
            go_quiet (fail)
            have NX : Hid (InM w (W2.drewN nq) x y x2 y2 ∧ fe (mvE (hasB lv) (hasB lv2) M) (m + 1 + 1) = 0) := ⟨S2.out.keep (below_drewN (Below.refl _ _) nq), hz.out⟩
            clear v0 v1 p0 hpos hm1 hm2
            go_wp2
            go_roundw
            case rel => exact ⟨m + 1 + 1, by omega, by go_num, rfl, NX.out⟩
            case measure => simp [intOf]; omega
      have g2' : ((mv M k).tg == 0) = false := by rw [beq_eq_false_iff_ne]; exact g2
      have g2n : ((mv M k).tg != 0) = true := by rw [bne, g2']; rfl
      by_cases g3 : hasB lv2 (mv M k).tg = false
      · have hE : mvE (hasB lv) (hasB lv2) M k = 5 := mvE_5 (Or.inr ⟨g2, g3⟩)
        have R : Hid (mvS (hasB lv) (hasB lv2) M = 5) := by unfold Hid; rw [hF.out (by rw [hE]; decide), hE]
        rw [g3] at HH2
        clear hE hF hN g1 g1' g2 g3
        go_wp2_with fail
        (with_reducible refine (HH1.out W1 S1.out).mono ?_)
        rintro e W2 ⟨rfl, bq⟩
        have S2 := Lib.hid (S1.out.keep bq)
        have N2 := Lib.hid (N1.out.keep bq)
        have v0 := N2.out.c0
        have v1 := N2.out.c1
        have b0 := S2.out.box.c0
        have b1 := S2.out.box.c1
        have d0 := S2.out.box2.c0
        have d1 := S2.out.box2.c1
        clear bq
        clear u0 u1 hW1
        go_wp2_with fail
        (with_reducible refine (HH2.out W2 S2.out).mono ?_)
        rintro e W3 ⟨rfl, bq⟩
        have S3 := Lib.hid (S2.out.keep bq)
        have N3 := Lib.hid (N2.out.keep bq)
        have v0 := N3.out.c0
        have v1 := N3.out.c1
        have b0 := S3.out.box.c0
        have b1 := S3.out.box.c1
        have d0 := S3.out.box2.c0
        have d1 := S3.out.box2.c1
        clear bq
        go_wp2
        go_ret
        exact ⟨by rw [R.out]; rfl, S3.out.bel⟩
      have gr : Hid (¬ (hasB lv (mv M k).fr = false ∨ ((mv M k).tg ≠ 0 ∧ hasB lv2 (mv M k).tg = false))) := fun h => h.elim g1 fun h => g3 h.2
      have g3' : hasB lv2 (mv M k).tg = true := by simpa using g3
      rw [g3'] at HH2
      clear g1 g1' g2 g3 g3'
      go_wp2_with fail
      (with_reducible refine (HH1.out W1 S1.out).mono ?_)
      rintro e W2 ⟨rfl, bq⟩
      have S2 := Lib.hid (S1.out.keep bq)
      have N2 := Lib.hid (N1.out.keep bq)
      have v0 := N2.out.c0
      have v1 := N2.out.c1
      have b0 := S2.out.box.c0
      have b1 := S2.out.box.c1
      have d0 := S2.out.box2.c0
      have d1 := S2.out.box2.c1
      clear bq
      clear u0 u1 hW1
      go_wp2_with fail
      (with_reducible refine (HH2.out W2 S2.out).mono ?_)
      rintro e W3 ⟨rfl, bq⟩
      have S3 := Lib.hid (S2.out.keep bq)
      have N3 := Lib.hid (N2.out.keep bq)
      have v0 := N3.out.c0
      have v1 := N3.out.c1
      have b0 := S3.out.box.c0
      have b1 := S3.out.box.c1
      have d0 := S3.out.box2.c0
      have d1 := S3.out.box2.c1
      clear bq
      have hR := Lib.hid (mvE_r (h := hasB lv) (h' := hasB lv2) gr.out)
      clear gr HH1 HH2
      clear b0 b1 d0 d1
      by_cases hk0 : k = 0
      · have hz : Hid (fe (mvE (hasB lv) (hasB lv2) M) (k + 1) = 0) := by unfold Hid; rw [hN.out, hR.out, if_neg (fun h => h.1 hk0)]
        subst hk0
        clear hF hN hR
        go_wp2_with fail
        go_quiet (fail)
        have NX : Hid (InM w (W3.drewN nq) x y x2 y2 ∧ fe (mvE (hasB lv) (hasB lv2) M) (0 + 1) = 0) := ⟨S3.out.keep (below_drewN (Below.refl _ _) nq), hz.out⟩
        clear v0 v1
        go_wp2
        go_roundw
        case rel => exact ⟨1, by omega, by go_num, rfl, NX.out⟩
        case measure => simp [intOf]; omega
      · obtain ⟨m, rfl⟩ : ∃ m, k = m + 1 := ⟨k - 1, by omega⟩
        obtain ⟨_, _, e, p0, _⟩ := (HM.out.below S3.out.bel).at_ (k := m) (by omega)
        injection e with e; injection e with e1 e2; subst e1; subst e2
        have hpos : (0 : Int) < ((m + 1 : Nat) : Int) := by omega
        have hm1 : ((m + 1 : Nat) : Int) - 1 = (m : Int) := by omega
        have hm2 : (m : Int) < (M.length : Int) := by omega
        by_cases q : (mv M (m + 1)).fr ≤ (mv M m).fr
        · have hE : mvE (hasB lv) (hasB lv2) M (m + 1) = 7 := by rw [hR.out, if_pos ⟨hk0, q⟩]
          have R : Hid (mvS (hasB lv) (hasB lv2) M = 7) := by unfold Hid; rw [hF.out (by rw [hE]; decide), hE]
          clear hE hF hN hR hk0
          go_wp2_with fail
          go_quiet (fail)
          go_wp2
          go_ret
          exact ⟨by rw [R.out]; rfl, below_drewN S3.out.bel _⟩
        · have hz : Hid (fe (mvE (hasB lv) (hasB lv2) M) (m + 1 + 1) = 0) := by unfold Hid; rw [hN.out, hR.out, if_neg (fun h => q h.2)]
          have q' : decide ((mv M (m + 1)).fr ≤ (mv M m).fr) = false := decide_eq_false q
          clear hF hN hR hk0 q
          go_wp2_with fail
          go_quiet (fail)
          have NX : Hid (InM w (W3.drewN nq) x y x2 y2 ∧ fe (mvE (hasB lv) (hasB lv2) M) (m + 1 + 1) = 0) := ⟨S3.out.keep (below_drewN (Below.refl _ _) nq), hz.out⟩
          clear v0 v1 p0 hpos hm1 hm2
          go_wp2
          go_roundw
          case rel => exact ⟨m + 1 + 1, by omega, by go_num, rfl, NX.out⟩
          case measure => simp [intOf]; omega
    · obtain rfl : k = M.length := by omega
      have R : Hid (mvS (hasB lv) (hasB lv2) M = 0) := hS.out.2
      clear hlt
      go_wp2
      go_ret
      exact ⟨by rw [R.out]; rfl, hS.out.1.bel⟩
end Go.Proofs.YtgfjbilhgblbeaaDoor
