/-
  Package code: recoded.
-/
import Derived.Test.YthdmodmplpoejaaDoorCdSucc
namespace Go.Proofs.YthdmodmplpoejaaDoor
open Go.RowKit Go.WideMaps Go.Maps

/-- The codings that are carried, and those that are left. -/
def carL (f : Int → Int) (C : List Cg) : List Cg := (C.filter fun u => decide (f u.cd ≠ 0)).map fun u => ⟨u.ca, u.co, f u.cd⟩
def lefL (f : Int → Int) (C : List Cg) : List Cg := C.filter fun u => decide (f u.cd = 0)
theorem take_cg {C : List Cg} {k : Nat} (h : k < C.length) : C.take (k + 1) = C.take k ++ [cg C k] := by
  rw [List.take_succ_eq_append_getElem h, cg_is h]
section
variable {f : Int → Int} {C : List Cg} {k : Nat}
theorem carL_hit (h : k < C.length) (e : f (cg C k).cd ≠ 0) : carL f (C.take (k + 1)) = carL f (C.take k) ++ [⟨(cg C k).ca, (cg C k).co, f (cg C k).cd⟩] ∧ lefL f (C.take (k + 1)) = lefL f (C.take k) := by
  unfold carL lefL
  rw [take_cg h, List.filter_append, List.filter_append]
  simp [e]
theorem carL_miss (h : k < C.length) (e : f (cg C k).cd = 0) : carL f (C.take (k + 1)) = carL f (C.take k) ∧ lefL f (C.take (k + 1)) = lefL f (C.take k) ++ [cg C k] := by
  unfold carL lefL
  rw [take_cg h, List.filter_append, List.filter_append]
  simp [e]
end
theorem carL_len (f : Int → Int) (C : List Cg) : (carL f C).length ≤ C.length ∧ (lefL f C).length ≤ C.length := by
  unfold carL lefL
  rw [List.length_map]
  exact ⟨List.length_filter_le _ _, List.length_filter_le _ _⟩
/-- Two rows of the call's own. -/
structure InR (w wr : World) (v4 v5 : Value) (A B : List Cg) : Prop where
  o4 : wr.ownsRow w.heap.size 49 3 v4 A.length (crow A)
  o5 : wr.ownsRow w.heap.size 49 3 v5 B.length (crow B)
  ne : ∀ g, v4.ownBlock = some g → v5.ownBlock ≠ some g
  bel : Below w.heap.size w wr
theorem InR.keep {w wr W : World} {v4 v5 : Value} {A B : List Cg} (h : InR w wr v4 v5 A B) (hb : Below wr.heap.size wr W) : InR w W v4 v5 A B :=
  ⟨own_keep h.o4 hb, own_keep h.o5 hb, h.ne, h.bel.trans (hb.mono h.bel.size)⟩
theorem InR.swap {w wr : World} {v4 v5 : Value} {A B : List Cg} (h : InR w wr v4 v5 A B) : InR w wr v5 v4 B A :=
  ⟨h.o5, h.o4, fun g e e2 => h.ne g e2 e, h.bel⟩
/-- An append to the first row. -/
theorem InR.more {w wr w4 : World} {v4 v5 v' : Value} {A B : List Cg} {o : Obj} {u : Cg} (h : InR w wr v4 v5 A B)
    (hown : w4.ownsRow w.heap.size 49 3 v' (A.length + 1) (crow A ++ ccells u)) (hg : (wr.alloc o).grownBy w4 v4.ownBlock) (hloc : v'.ownBlock = v4.ownBlock ∨ v'.ownBlock = some (wr.heap.size + 1)) : InR w w4 v' v5 (A ++ [u]) B := by
  have a5 : (wr.alloc o).ownsRow w.heap.size 49 3 v5 B.length (crow B) := h.o5.alloc o
  refine ⟨?_, ?_, ?_, ?_⟩
  · rw [List.length_append, crow_snoc]; exact hown
  · refine a5.kept hg ?_
    cases e5 : v5.ownBlock with
    | none => exact .inl rfl
    | some g => exact .inr fun e => h.ne g e.symm e5
  · intro g e1 e2
    rcases hloc with e | e
    · exact h.ne g (e.symm.trans e1) e2
    · have := (h.o5.lt g e2).2
      rw [e] at e1
      injection e1 with e1
      omega
  · have hs := h.bel.size
    exact (h.bel.alloc hs o).grown hg (by simp; omega) (fun g hg => (h.o4.lt g hg).1)
theorem cell_three_new (w : World) (x y z : Value) (e : TypeId) : ∀ j v, [x, y, z][j]? = some v → (w.alloc (.cells #[x, y, z] e)).cell? ((⟨w.heap.size, 0, none⟩ : Addr).add j) = some v := fun j v h => by
  rw [add_at, Nat.zero_add, World.cell?_alloc_at _ _ _ _ rfl]
  simpa using h
def ReP (A B : List Cg) (w : World) (e : Ending) (w' : World) : Prop := ∃ v4 v5, e = .returned (.tuple #[v4, v5]) ∧ InR w w' v4 v5 A B
set_option maxRecDepth 100000 in
set_option maxHeartbeats 4000000 in
theorem recoded_c (a : Option Addr) (c : Nat) (C : List Cg) (mp n : Nat) (f : Int → Option Int) (w : World) (hC : RdC w a C) (fC : FitsC C) (hn : C.length ≤ 20000) (hm : NuIs w mp n f) :
    Calls Tryd.prog 56 #[.slice a C.length c, .map (some mp)] w (ReP (carL (fun s => (f s).getD 0) C) (lefL (fun s => (f s).getD 0) C) w) := by
  obtain ⟨i0, hi, hz0, hz1, hz2⟩ := info_parts infoC
  have h9 := hC.1
  have HC := Lib.hid hC
  have HF := Lib.hid fC
  have HM := Lib.hid hm
  have ML := Lib.hid (MapIs.lt hm)
  obtain ⟨F, hFF⟩ : ∃ F : Int → Int, (fun s => (f s).getD 0) = F := ⟨_, rfl⟩
  have HFF : Hid (∀ s, (f s).getD 0 = F s) := fun s => by rw [← hFF]
  rw [hFF]
  clear hC fC hm hFF
  go_enter Tryd.func56, Tryd.ntmps56
  go_wp2
  go_loopw [4, 5, 8, 11] (fun v4 v5 _ i wr => ∃ k : Nat, k ≤ C.length ∧ i = .int .i64 k ∧ Hid (InR w wr v4 v5 (carL F (C.take k)) (lefL F (C.take k)))) (fun _ _ _ i _ => C.length - (intOf i).toNat)
  case atStart => exact ⟨0, Nat.zero_le _, rfl, World.ownsRow_nil _ _ _ _, World.ownsRow_nil _ _ _ _, fun g e => by simp [Value.ownBlock] at e, Below.refl _ _⟩
  case round =>
    obtain ⟨k, hk, rfl, hS⟩ := hrel
    by_cases hlt : k < C.length
    · obtain ⟨b', off, rfl, u0, u1, u2⟩ := (HC.out.below hS.out.bel).at_ hlt
      have hlt' : (k : Int) < (C.length : Int) := by omega
      have fk := HF.out _ (cg_mem hlt)
      have lens := carL_len F (C.take k)
      have hln : (C.take k).length ≤ 20000 := by rw [List.length_take]; omega
      obtain ⟨W1, hW1⟩ : ∃ W1, wr.alloc (.cells #[.int .i64 (cg C k).ca, .int .i64 (cg C k).co, .int .i64 (cg C k).cd] 49) = W1 := ⟨_, rfl⟩
      have N1 : Hid (CodB wr W1 (cg C k)) := by unfold Hid; rw [← hW1]; exact cod_b _ _
      have S1 := Lib.hid (hS.out.keep N1.out.1)
      have S0 := Lib.hid hS.out
      have hlook : (Instr.lookup 98 (.map (some mp)) (.int .i64 (cg C k).cd) false).run Tryd.prog W1 = .ok (.int .i64 (F (cg C k).cd)) W1 := by
        have := NuIs.look (MapIs.below HM.out S1.out.bel ML.out) fk.2.2
        rw [HFF.out] at this
        exact this
      have v0 := N1.out.2.c0
      have v1 := N1.out.2.c1
      have v2 := N1.out.2.c2
      have fr2 := N1.out.2.fr 2
      clear fk hS
      by_cases he : F (cg C k).cd = 0
      · have HM2 := Lib.hid (carL_miss (f := F) hlt he)
        have he' : (F (cg C k).cd == 0) = true := by rw [beq_iff_eq]; exact he
        have hen : (F (cg C k).cd != 0) = false := by rw [bne, he']; rfl
        clear he
        have SW := Lib.hid S1.out.swap
        go_wp2_with (at_builtin; refine wpList_append_own_at _ rfl _ _ 35 rfl w.heap.size 49 i0 (.agg #[.int .i64 0, .int .i64 0, .int .i64 0]) 3 24 Tryd.underlying35 hi hz0 hz1 hz2 rfl (by decide) _ _ _ rfl (SW.out.o4.alloc _) ⟨W1.heap.size, 0, none⟩ 1 1 [.int .i64 (cg C k).ca, .int .i64 (cg C k).co, .int .i64 (cg C k).cd] rfl rfl (cell_three_new _ _ _ _ _) (by simp [Value.oneCell']) ?c3 ?c4 ?c5 ?_)
        case c3 => unfold maxLen; omega
        case c4 => omega
        case c5 => have := SW.out.bel.size; simp; omega
        intro v' w4 hown hgrow _ hloc
        have NX : Hid (InR w w4 u4 v' (carL F (C.take (k + 1))) (lefL F (C.take (k + 1)))) := by
          rw [HM2.out.1, HM2.out.2]
          exact (SW.out.more (u := cg C k) hown hgrow hloc).swap
        clear hown hgrow hloc SW S1 N1 v0 v1 v2 fr2 hlook hW1
        go_wp2
        go_roundw
        case rel => exact ⟨k + 1, by omega, by go_num, NX.out⟩
        case measure => simp [intOf]; omega
      · have HM2 := Lib.hid (carL_hit (f := F) hlt he)
        have he' : (F (cg C k).cd == 0) = false := by rw [beq_eq_false_iff_ne]; exact he
        have hen : (F (cg C k).cd != 0) = true := by rw [bne, he']; rfl
        clear he
        obtain ⟨W2, hW2⟩ : ∃ W2, W1.setCell ⟨wr.heap.size, 2, none⟩ (.int .i64 (F (cg C k).cd)) = W2 := ⟨_, rfl⟩
        have S2 : Hid (InR w W2 u4 u5 (carL F (C.take k)) (lefL F (C.take k))) := by
          rw [← hW2]
          exact S0.out.keep (N1.out.1.setCell (p := ⟨wr.heap.size, 2, none⟩) (Nat.le_refl _) _)
        have ne : ∀ {i j : Nat}, i ≠ j → (⟨wr.heap.size, i, none⟩ : Addr) ≠ ⟨wr.heap.size, j, none⟩ := fun h e => by injection e with _ e2; exact h e2
        have x0 : W2.cell? ⟨wr.heap.size, 0, none⟩ = some (.int .i64 (cg C k).ca) := by rw [← hW2, World.cell?_setCell_other _ _ _ _ (ne (by decide))]; exact v0
        have x1 : W2.cell? ⟨wr.heap.size, 1, none⟩ = some (.int .i64 (cg C k).co) := by rw [← hW2, World.cell?_setCell_other _ _ _ _ (ne (by decide))]; exact v1
        have x2 : W2.cell? ⟨wr.heap.size, 2, none⟩ = some (.int .i64 (F (cg C k).cd)) := by rw [← hW2, World.cell?_setCell_same _ _ _ v2]
        clear ne
        go_wp2_with (at_builtin; refine wpList_append_own_at _ rfl _ _ 35 rfl w.heap.size 49 i0 (.agg #[.int .i64 0, .int .i64 0, .int .i64 0]) 3 24 Tryd.underlying35 hi hz0 hz1 hz2 rfl (by decide) _ _ _ rfl (S2.out.o4.alloc _) ⟨W2.heap.size, 0, none⟩ 1 1 [.int .i64 (cg C k).ca, .int .i64 (cg C k).co, .int .i64 (F (cg C k).cd)] rfl rfl (cell_three_new _ _ _ _ _) (by simp [Value.oneCell']) ?c3 ?c4 ?c5 ?_)
        case c3 => unfold maxLen; omega
        case c4 => omega
        case c5 => have := S2.out.bel.size; simp; omega
        intro v' w4 hown hgrow _ hloc
        have NX : Hid (InR w w4 v' u5 (carL F (C.take (k + 1))) (lefL F (C.take (k + 1)))) := by
          rw [HM2.out.1, HM2.out.2]
          exact S2.out.more (u := ⟨(cg C k).ca, (cg C k).co, F (cg C k).cd⟩) hown hgrow hloc
        clear hown hgrow hloc S2 S1 S0 N1 v0 v1 v2 x0 x1 x2 fr2 hlook hW1 hW2
        go_wp2
        go_roundw
        case rel => exact ⟨k + 1, by omega, by go_num, NX.out⟩
        case measure => simp [intOf]; omega
    · obtain rfl : k = C.length := by omega
      have R : Hid (InR w wr u4 u5 (carL F C) (lefL F C)) := by
        have := hS.out
        rw [List.take_length] at this
        exact this
      clear hlt
      go_wp2
      go_ret2
      exact ⟨_, _, rfl, R.out⟩
end Go.Proofs.YthdmodmplpoejaaDoor
