/-
  CheckFrame of package sample: the walk.
-/
import Derived.Test.YtkppfceogknlkaaDoorFrmChk
namespace Go.Proofs.YtkppfceogknlkaaDoor
open Go.RowKit Go.WideMaps Go.Maps

theorem zeroBool (w : World) : (zeroValue 4).run Tryd.prog w = .ok (.bool false) w := by kernel_rfl
set_option maxRecDepth 100000 in
set_option maxHeartbeats 2000000 in
theorem CheckFrame_c (a : Option Addr) (c : Nat) (l : List Un) (w : World) (hl : RdU w a l) (hst : ∀ u, u ∈ l → u.st.size ≤ maxLen) :
    Calls Tryd.prog 6 #[.slice a l.length c] w (IntP (chkF l) w) := by
  have h9 := hl.1
  by_cases hn : l.length ≤ 5000
  · have hmm := @run_makeMap Tryd.prog
    have HL := Lib.hid hl
    have HST := Lib.hid hst
    clear hl hst
    go_enter Tryd.func6, Tryd.ntmps6
    go_wp2
    go_loopw [4, 14] (fun s i wr => ∃ k : Nat, k ≤ l.length ∧ i = .int .i64 k ∧ s = .int .i64 (prev l k) ∧ wr.ownsMap Tryd.prog 9 (plainElem Tryd.prog 4) w.heap.size k (sd l k) ∧ Hid (Below w.heap.size w wr ∧ w.heap.size + 1 ≤ wr.heap.size ∧ firstE l k = 0)) (fun _ i _ => l.length - (intOf i).toNat)
    case atStart => exact ⟨0, Nat.zero_le _, rfl, rfl, World.ownsMap_made _ _ _ _, (Below.refl _ _).alloc (Nat.le_refl _) _, by simp, rfl⟩
    case round =>
      obtain ⟨k, hk, rfl, rfl, hown, hS⟩ := hrel
      by_cases hlt : k < l.length
      · obtain ⟨b, off, rfl, u0, u1, u2, u3⟩ := (HL.out.below hS.out.1).at_ hlt
        have hlt' : (k : Int) < (l.length : Int) := by omega
        have hsz : (un l k).st.size ≤ maxLen := HST.out _ (by unfold un; rw [List.getD, List.getElem?_eq_getElem hlt]; simp)
        have hkey : keyOf Tryd.prog 9 (.string (un l k).st) = some (.string (sk (un l k))) := keyOf_string_mk Tryd.underlying9 hsz
        have HU := Lib.hid (fun W => checkUnit_c (un l k) (prev l k) W)
        have hF : Hid (chkU (un l k) (prev l k) ≠ 0 → chkF l = chkU (un l k) (prev l k)) := fun h => chkF_at hn hlt hS.out.2.2 h
        have hP : Hid (prev l (k + 1) = (un l k).id) := by unfold Hid prev; rw [if_neg (by omega)]; rfl
        have hE : Hid (firstE l (k + 1) = chkU (un l k) (prev l k)) := by
          show (if firstE l k = 0 then _ else _) = _
          rw [if_pos hS.out.2.2]
        have hD : Hid (sd l (k + 1) = (sd l k).put (.string (sk (un l k))) (.lit (.bool true))) := rfl
        unfold unV at HU
        generalize chkU (un l k) (prev l k) = ch at *
        generalize sk (un l k) = skk at *
        generalize un l k = uu at *
        obtain ⟨id, st, cl, sz⟩ := uu
        dsimp only at *
        obtain ⟨W1, hW1⟩ : ∃ W1, wr.alloc (.cells #[.int .i64 id, .string st, .int .i64 cl, .int .i64 sz] 47) = W1 := ⟨_, rfl⟩
        have B1 : Hid (Below wr.heap.size wr W1 ∧ W1.heap.size = wr.heap.size + 1 ∧ W1.cell? ⟨wr.heap.size, 0, none⟩ = some (.int .i64 id) ∧ W1.cell? ⟨wr.heap.size, 1, none⟩ = some (.string st) ∧ W1.cell? ⟨wr.heap.size, 2, none⟩ = some (.int .i64 cl) ∧ W1.cell? ⟨wr.heap.size, 3, none⟩ = some (.int .i64 sz)) := by
          unfold Hid
          rw [← hW1]
          exact ⟨bel_one _ _, by simp, by rw [World.cell?_alloc_at _ _ _ _ rfl]; rfl, by rw [World.cell?_alloc_at _ _ _ _ rfl]; rfl, by rw [World.cell?_alloc_at _ _ _ _ rfl]; rfl, by rw [World.cell?_alloc_at _ _ _ _ rfl]; rfl⟩
        have v0 := B1.out.2.2.1
        have v1 := B1.out.2.2.2.1
        have v2 := B1.out.2.2.2.2.1
        have v3 := B1.out.2.2.2.2.2
        go_wp2_with fail
        clear hW1 v0 v1 v2 v3
        refine (HU.out W1).mono ?_
        rintro e W2 ⟨rfl, b2⟩
        by_cases hc : ch = 0
        · subst hc
          have x0 : W2.cell? ⟨wr.heap.size, 0, none⟩ = some (.int .i64 id) := (b2.cell (p := ⟨wr.heap.size, 0, none⟩) (by have := B1.out.2.1; show wr.heap.size < _; omega)).trans B1.out.2.2.1
          have x1 : W2.cell? ⟨wr.heap.size, 1, none⟩ = some (.string st) := (b2.cell (p := ⟨wr.heap.size, 1, none⟩) (by have := B1.out.2.1; show wr.heap.size < _; omega)).trans B1.out.2.2.2.1
          have g2 : Hid (wr.grownBy W2 none) := (below_grow B1.out.1).trans (below_grow b2)
          have hown2 : W2.ownsMap Tryd.prog 9 (plainElem Tryd.prog 4) w.heap.size k (sd l k) := hown.kept g2.out (by simp)
          clear b2 hown u0 u1 u2 u3
          go_wp2_with (at_mapUpdate; refine wpList_mapUpdate_own _ rfl _ _ _ 45 rfl 9 4 lawS Tryd.underlying45 _ w.heap.size k _ rfl hown2 (by unfold maxLen; omega) _ _ _ rfl rfl hkey _ [] (plainElem_bool Tryd.underlying4 true) ?_; intro w3 hown3 hgrow3)
          have NX : Hid (Below w.heap.size w w3 ∧ w.heap.size + 1 ≤ w3.heap.size ∧ firstE l (k + 1) = 0) := by
            have e1 := g2.out.size
            have e2 := hgrow3.size
            have e3 := hS.out.2.1
            exact ⟨(hS.out.1.grown g2.out hS.out.1.size (by simp)).grown hgrow3 (by omega) (fun j hj => by cases hj; exact Nat.le_refl _), by omega, hE.out⟩
          clear hgrow3
          go_roundw
          case rel => exact ⟨k + 1, by omega, by go_num, by rw [hP.out], by rw [hD.out]; exact hown3, NX.out⟩
          case measure => simp [intOf]; omega
        · have hc' : (ch == 0) = false := by rw [beq_eq_false_iff_ne]; exact hc
          have R := Lib.hid (show Below w.heap.size w W2 from (hS.out.1.trans (B1.out.1.mono hS.out.1.size)).trans (b2.mono (by have := hS.out.1.size; have := B1.out.2.1; omega)))
          have hF2 := Lib.hid (hF.out hc)
          clear b2 hown u0 u1 u2 u3
          go_wp2
          go_ret
          exact ⟨by rw [hF2.out]; rfl, R.out⟩
      · obtain rfl : k = l.length := by omega
        clear hlt
        have hz := sd_size hown
        have hl0 := hown
        by_cases hm : 40 < (strN l).length
        · have hF := Lib.hid (chkF_many hn hS.out.2.2 hm)
          generalize (strN l).length = m at hz hm
          have hm' : (40 : Int) < (m : Int) := by omega
          rw [← hz] at hm'
          go_wp2_with (at_len; refine wpList_len_own _ rfl _ 45 rfl 9 4 Tryd.underlying45 _ w.heap.size l.length _ rfl hown ?_)
          go_ret
          exact ⟨by rw [hF.out]; rfl, hS.out.1⟩
        · have hF := Lib.hid (chkF_ok hn hS.out.2.2 hm)
          generalize (strN l).length = m at hz hm
          have hm' : ¬ (40 : Int) < (m : Int) := by omega
          rw [← hz] at hm'
          go_wp2_with (at_len; refine wpList_len_own _ rfl _ 45 rfl 9 4 Tryd.underlying45 _ w.heap.size l.length _ rfl hown ?_)
          go_ret
          exact ⟨by rw [hF.out]; rfl, hS.out.1⟩
  · have e : Hid (chkF l = 2) := chkF_large hn
    clear hl hst
    go_enter Tryd.func6, Tryd.ntmps6
    go_wp2
    go_ret
    exact ⟨by rw [e.out]; rfl, Below.refl _ _⟩
end Go.Proofs.YtkppfceogknlkaaDoor
