/-
  Ratios in the reference: Order.
-/
import Derived.Test.YtfijhkaalpinhaaGreatDoorRa16
namespace Go.Proofs.YtfijhkaalpinhaaGreatDoor
open Go.RowKit

theorem zcmp_same (b : Bool) (p q : Nat) : zcmp (zv b p) (zv b q) = if b then -(sgn p q) else sgn p q := by
  cases b
  · rw [zv_false, zv_false]
    show (if (p : Int) < q then _ else _) = (if p < q then (-1 : Int) else _)
    rcases Nat.lt_trichotomy p q with h | h | h
    · rw [if_pos (by omega), if_pos h]
    · rw [if_neg (by omega), if_neg (by omega), if_neg (by omega), if_neg (by omega)]
    · rw [if_neg (by omega), if_pos (by omega), if_neg (by omega), if_pos (by omega)]
  · rw [zv_true, zv_true]
    show (if -(p : Int) < -(q : Int) then _ else _) = -(if p < q then (-1 : Int) else _)
    rcases Nat.lt_trichotomy p q with h | h | h
    · rw [if_neg (by omega), if_pos (by omega), if_pos h]; rfl
    · rw [if_neg (by omega), if_neg (by omega), if_neg (by omega), if_neg (by omega)]; rfl
    · rw [if_pos (by omega), if_neg (by omega), if_pos (by omega)]
theorem zcmp_neg {u v : Int} (h1 : u < 0) (h2 : 0 ≤ v) : zcmp u v = -1 := by unfold zcmp; rw [if_pos (by omega)]
theorem zcmp_pos {u v : Int} (h1 : 0 ≤ u) (h2 : v < 0) : zcmp u v = 1 := by unfold zcmp; rw [if_neg (by omega), if_pos (by omega)]
def OrPost (r : Int × Int) (w : World) (e : Ending) (w' : World) : Prop := e = .returned (.tuple #[.int .i64 r.1, .int .i64 r.2]) ∧ Below w.heap.size w w'
set_option maxRecDepth 100000 in
set_option maxHeartbeats 4000000 in
theorem rOrder_c (s t s' t' : ByteArray) (w : World) (hE : Pow w) :
    Calls Tryz.prog 16 #[.agg #[.string s, .string t], .agg #[.string s', .string t']] w (OrPost (orS s.data.toList t.data.toList s'.data.toList t'.data.toList) w) := by
  obtain ⟨W0, hW0⟩ : ∃ W0, ((w.alloc (.cells #[.string s, .string t] 23)).alloc (.cells #[.string s', .string t'] 23)) = W0 := ⟨_, rfl⟩
  have J0 : Hid (Two w s t s' t' W0) := by rw [← hW0]; exact Two.made _ _ _ _ _ _ _
  have x0 := J0.out.x.c0
  have x1 := J0.out.x.c1
  have y0 := J0.out.y.c0
  have y1 := J0.out.y.c1
  have HE := Lib.hid (fun W (h : Below w.heap.size w W) => hE.below h)
  have HBK := Lib.hid (both_c s t s' t' W0 (HE.out _ J0.out.bel))
  clear hE
  obtain ⟨flt, hflt⟩ : ∃ flt, bk s.data.toList t.data.toList s'.data.toList t'.data.toList = flt := ⟨_, rfl⟩
  rw [hflt] at HBK
  have HF := Lib.hid hflt
  clear hflt
  go_enter Tryz.func16, Tryz.ntmps16
  go_wp2_with fail
  clear hW0 x0 x1 y0 y1
  (with_reducible refine HBK.out.mono ?_)
  rintro e w1 ⟨rfl, b1⟩
  have J1 := Lib.hid (J0.out.keep b1)
  clear b1 J0 HBK
  by_cases hz : flt = 0
  · subst hz
    obtain ⟨x, y, x', y', e1, e2⟩ := bk_zero HF.out
    have O1 := Lib.hid (fun w => open_c s t x y w e1)
    have O2 := Lib.hid (fun w => open_c s' t' x' y' w e2)
    have P1 := Lib.hid (rread_pos' e1)
    have P2 := Lib.hid (rread_pos' e2)
    have V1 := Lib.hid (val_pos_den e1)
    have V2 := Lib.hid (val_pos_den e2)
    have RS : Hid (orS s.data.toList t.data.toList s'.data.toList t'.data.toList = (zcmp (x * y') (x' * y), 0)) := by unfold Hid orS; rw [e1, e2]
    clear e1 e2 HF
    obtain ⟨b1, hb1⟩ : ∃ b, decide (x < 0) = b := ⟨_, rfl⟩
    obtain ⟨b2, hb2⟩ : ∃ b, decide (x' < 0) = b := ⟨_, rfl⟩
    rw [hb1] at O1
    rw [hb2] at O2
    have FB : Hid (b1 = decide (x < 0)) := hb1.symm
    have QB : Hid (b2 = decide (x' < 0)) := hb2.symm
    clear hb1 hb2
    go_upto_region 4 with fail
    go_cut [7, 8] from 16 to 19 (fun v7 v8 wx => ∃ (g h : Nat) (f q : Rq), v7 = .pointer (some ⟨g, 0, none⟩) ∧ v8 = .pointer (some ⟨h, 0, none⟩) ∧ Hid (Od w (w.heap.size + 1) g h f q x y x' y' wx) ∧ Hid (Two w s t s' t' wx))
    case first =>
      refine wp_region_noPanic ?_
      refine wp_region_held_drew (S := S22 w.heap.size s t s' t') (by kernel_rfl) (J1.out.keep (Below.refl _ _).drew).s22 (fun hS => ?_)
      have J_0 := Lib.hid (J1.out.keep (Below.refl _ _).drew)
      clear J1
      generalize w1.drew = WD at *
      refine wpAnyH_take (i := 0) (v := ?v0z68) rfl (by kernel_rfl) (by kernel_rfl) (by kernel_rfl) (fun _ _ _ h => h) (Or.inl ⟨by rfl, ?hy0z68⟩) (by assumption) ?rest0z68
      case hy0z68 =>
        intro w hSw
        dsimp only [S22] at hSw
        go_simp
        try with_reducible rfl
      simp only [Act.put, List.getElem_toArray, List.getElem_cons_succ, List.getElem_cons_zero, List.setIfInBounds_toArray, List.set_cons_zero, List.set_cons_succ]
      refine wpAnyH_take (i := 2) (v := ?v2z69) rfl (by kernel_rfl) (by kernel_rfl) (by kernel_rfl) (fun _ _ _ h => h) (Or.inl ⟨by rfl, ?hy2z69⟩) (by assumption) ?rest2z69
      case hy2z69 =>
        intro w hSw
        dsimp only [S22] at hSw
        go_simp
        try with_reducible rfl
      simp only [Act.put, List.getElem_toArray, List.getElem_cons_succ, List.getElem_cons_zero, List.setIfInBounds_toArray, List.set_cons_zero, List.set_cons_succ]
      refine wpAnyH_ready (rs := [1, 4, 5]) (by kernel_rfl) (by simp) ?_
      refine AllReadyH.cons rfl (fun K hK => ?_) (AllReadyH.cons rfl (fun K hK => ?_) (AllReadyH.cons rfl (fun K hK => ?_) AllReadyH.nil))
      · go_simp
        (refine (O1.out WD).mono ?_)
        rintro e W67 ⟨a, k, c, a', k', c', rfl, hp, hd, bc⟩
        try go_simp
        have J_1 := Lib.hid (J_0.out.keep bc)
        clear J_0
        have P_1 := Lib.hid hp
        have D_1 := Lib.hid hd
        have hT := J_1.out.s22
        refine hK.out _ _ hT (fun _ => ?_)
        clear hK K hS bc hp hd
        have hS := hT
        clear hT
        try simp only [Act.put, List.setIfInBounds_toArray, List.set_cons_zero, List.set_cons_succ]
        refine wpAnyH_ready (rs := [3, 4, 5]) (by kernel_rfl) (by simp) ?_
        refine AllReadyH.cons rfl (fun K hK => ?_) (AllReadyH.cons rfl (fun K hK => ?_) (AllReadyH.cons rfl (fun K hK => ?_) AllReadyH.nil))
        · go_simp
          (refine (O2.out W67).mono ?_)
          rintro e W68 ⟨p, l, e, p', l', e', rfl, hp, hd, bc⟩
          try go_simp
          have J_2 := Lib.hid (J_1.out.keep bc)
          have P_2 := Lib.hid (P_1.out.below bc)
          have D_2 := Lib.hid (D_1.out.below bc)
          clear J_1 P_1 D_1
          have Q_2 := Lib.hid hp
          have E_2 := Lib.hid hd
          have hT := J_2.out.s22
          refine hK.out _ _ hT (fun _ => ?_)
          clear hK K hS bc hp hd
          have hS := hT
          clear hT
          try simp only [Act.put, List.setIfInBounds_toArray, List.set_cons_zero, List.set_cons_succ]
          refine wpAnyH_ready (rs := [4, 5]) (by kernel_rfl) (by simp) ?_
          refine AllReadyH.cons rfl (fun K hK => ?_) (AllReadyH.cons rfl (fun K hK => ?_) AllReadyH.nil)
          · go_simp
            have bc := bel_one W68 (.cells #[.bool false, .slice none 0 0, .slice none 0 0] 53)
            have LG : Hid (w.heap.size + 1 < W68.heap.size) := J_2.out.lo
            have J_3 := Lib.hid (J_2.out.keep bc)
            have P_3 := Lib.hid (P_2.out.below bc)
            have D_3 := Lib.hid (D_2.out.below bc)
            have Q_3 := Lib.hid (Q_2.out.below bc)
            have E_3 := Lib.hid (E_2.out.below bc)
            clear J_2 P_2 D_2 Q_2 E_2
            have G_3 : Hid (B3 (W68.alloc (.cells #[.bool false, .slice none 0 0, .slice none 0 0] 53)) W68.heap.size (.bool false) (.slice none 0 0) (.slice none 0 0)) := B3.made W68 _ _ _ _
            have hT := J_3.out.s22
            refine hK.out _ _ hT (fun _ => ?_)
            clear hK K hS bc
            try simp only [Act.put, List.setIfInBounds_toArray, List.set_cons_zero, List.set_cons_succ]
            generalize W68.alloc (.cells #[.bool false, .slice none 0 0, .slice none 0 0] 53) = W69 at *
            generalize W68.heap.size = g at *
            have hS := hT
            clear hT
            refine wpAnyH_ready (rs := [5]) (by kernel_rfl) (by simp) ?_
            refine AllReadyH.cons rfl (fun K hK => ?_) AllReadyH.nil
            go_simp
            have bc := bel_one W69 (.cells #[.bool false, .slice none 0 0, .slice none 0 0] 53)
            have LH : Hid (w.heap.size + 1 < W69.heap.size) := J_3.out.lo
            have NE : Hid (g ≠ W69.heap.size) := by have := G_3.out.lt; unfold Hid; omega
            have J_4 := Lib.hid (J_3.out.keep bc)
            have P_4 := Lib.hid (P_3.out.below bc)
            have D_4 := Lib.hid (D_3.out.below bc)
            have Q_4 := Lib.hid (Q_3.out.below bc)
            have E_4 := Lib.hid (E_3.out.below bc)
            have G_4 := Lib.hid (G_3.out.keep bc)
            clear J_3 P_3 D_3 Q_3 E_3 G_3
            have H_4 : Hid (B3 (W69.alloc (.cells #[.bool false, .slice none 0 0, .slice none 0 0] 53)) W69.heap.size (.bool false) (.slice none 0 0) (.slice none 0 0)) := B3.made W69 _ _ _ _
            have hT := J_4.out.s22
            refine hK.out _ _ hT (fun _ => ?_)
            clear hK K hS bc
            try simp only [Act.put, List.setIfInBounds_toArray, List.set_cons_zero, List.set_cons_succ]
            generalize W69.alloc (.cells #[.bool false, .slice none 0 0, .slice none 0 0] 53) = W70 at *
            generalize W69.heap.size = h at *
            have hS := hT
            clear hT
            refine wpAnyH_ready (rs := [6]) (by kernel_rfl) (by simp) ?_
            refine AllReadyH.cons rfl (fun K hK => ?_) AllReadyH.nil
            have q0 := G_4.out.c0
            have q1 := G_4.out.c1
            have q2 := G_4.out.c2
            have g0 := G_4.out.fr 0
            have g1 := G_4.out.fr 1
            have g2 := G_4.out.fr 2
            go_simp
            clear q0 q1 q2 g0 g1 g2
            have jj := J_4.out.three LG.out (.bool b1) (.slice a k c) (.slice a' k' c')
            have gg := G_4.out.set (.bool b1) (.slice a k c) (.slice a' k' c')
            have hh := H_4.out.other (NE.out) (.bool b1) (.slice a k c) (.slice a' k' c')
            have pp := P_4.out.set3 G_4.out (.bool b1) (.slice a k c) (.slice a' k' c')
            have dd := D_4.out.set3 G_4.out (.bool b1) (.slice a k c) (.slice a' k' c')
            have qq := Q_4.out.set3 G_4.out (.bool b1) (.slice a k c) (.slice a' k' c')
            have ee := E_4.out.set3 G_4.out (.bool b1) (.slice a k c) (.slice a' k' c')
            have hT := jj.s22
            clear J_4 G_4 H_4 P_4 D_4 Q_4 E_4
            unfold three at jj gg hh pp dd qq ee hT
            refine hK.out _ _ hT (fun _ => ?_)
            clear hK K hS
            try simp only [Act.put, List.setIfInBounds_toArray, List.set_cons_zero, List.set_cons_succ]
            generalize ((W70.setCell ⟨g, 0, none⟩ (.bool b1)).setCell ⟨g, 1, none⟩ (.slice a k c)).setCell ⟨g, 2, none⟩ (.slice a' k' c') = W71 at *
            have J_5 := Lib.hid jj
            have G_5 := Lib.hid gg
            have H_5 := Lib.hid hh
            have P_5 := Lib.hid pp
            have D_5 := Lib.hid dd
            have Q_5 := Lib.hid qq
            have E_5 := Lib.hid ee
            clear jj gg hh pp dd qq ee
            have hS := hT
            clear hT
            refine wpAnyH_ready (rs := [7]) (by kernel_rfl) (by simp) ?_
            refine AllReadyH.cons rfl (fun K hK => ?_) AllReadyH.nil
            have q0 := H_5.out.c0
            have q1 := H_5.out.c1
            have q2 := H_5.out.c2
            have g0 := H_5.out.fr 0
            have g1 := H_5.out.fr 1
            have g2 := H_5.out.fr 2
            go_simp
            clear q0 q1 q2 g0 g1 g2
            have jj := J_5.out.three LH.out (.bool b2) (.slice p l e) (.slice p' l' e')
            have gg := H_5.out.set (.bool b2) (.slice p l e) (.slice p' l' e')
            have hh := G_5.out.other (NE.out.symm) (.bool b2) (.slice p l e) (.slice p' l' e')
            have pp := P_5.out.set3 H_5.out (.bool b2) (.slice p l e) (.slice p' l' e')
            have dd := D_5.out.set3 H_5.out (.bool b2) (.slice p l e) (.slice p' l' e')
            have qq := Q_5.out.set3 H_5.out (.bool b2) (.slice p l e) (.slice p' l' e')
            have ee := E_5.out.set3 H_5.out (.bool b2) (.slice p l e) (.slice p' l' e')
            have hT := jj.s22
            clear J_5 G_5 H_5 P_5 D_5 Q_5 E_5
            unfold three at jj gg hh pp dd qq ee hT
            refine hK.out _ _ hT (fun _ => ?_)
            clear hK K hS
            try simp only [Act.put, List.setIfInBounds_toArray, List.set_cons_zero, List.set_cons_succ]
            generalize ((W71.setCell ⟨h, 0, none⟩ (.bool b2)).setCell ⟨h, 1, none⟩ (.slice p l e)).setCell ⟨h, 2, none⟩ (.slice p' l' e') = W72 at *
            have J_6 := Lib.hid jj
            have H_6 := Lib.hid gg
            have G_6 := Lib.hid hh
            have P_6 := Lib.hid pp
            have D_6 := Lib.hid dd
            have Q_6 := Lib.hid qq
            have E_6 := Lib.hid ee
            clear jj gg hh pp dd qq ee
            have hS := hT
            clear hT
            refine wpAnyH_done (by kernel_rfl) ?_ _
            refine NoPanic.normal ?_
            have OD : Hid (Od w (w.heap.size + 1) g h ⟨b1, a, k, c, a', k', c'⟩ ⟨b2, p, l, e, p', l', e'⟩ x y x' y' W72) := ⟨G_6.out, H_6.out, P_6.out, D_6.out, Q_6.out, E_6.out, FB.out, QB.out, LG.out, LH.out, J_6.out.bel⟩
            go_wp2_with fail
            go_meet
            case rel => exact ⟨g, h, _, _, rfl, rfl, OD.out, J_6.out⟩
          · go_simp
            have bc := bel_one W68 (.cells #[.bool false, .slice none 0 0, .slice none 0 0] 53)
            have LH : Hid (w.heap.size + 1 < W68.heap.size) := J_2.out.lo
            have J_3 := Lib.hid (J_2.out.keep bc)
            have P_3 := Lib.hid (P_2.out.below bc)
            have D_3 := Lib.hid (D_2.out.below bc)
            have Q_3 := Lib.hid (Q_2.out.below bc)
            have E_3 := Lib.hid (E_2.out.below bc)
            clear J_2 P_2 D_2 Q_2 E_2
            have H_3 : Hid (B3 (W68.alloc (.cells #[.bool false, .slice none 0 0, .slice none 0 0] 53)) W68.heap.size (.bool false) (.slice none 0 0) (.slice none 0 0)) := B3.made W68 _ _ _ _
            have hT := J_3.out.s22
            refine hK.out _ _ hT (fun _ => ?_)
            clear hK K hS bc
            try simp only [Act.put, List.setIfInBounds_toArray, List.set_cons_zero, List.set_cons_succ]
            generalize W68.alloc (.cells #[.bool false, .slice none 0 0, .slice none 0 0] 53) = W73 at *
            generalize W68.heap.size = h at *
            have hS := hT
            clear hT
            refine wpAnyH_ready (rs := [4]) (by kernel_rfl) (by simp) ?_
            refine AllReadyH.cons rfl (fun K hK => ?_) AllReadyH.nil
            go_simp
            have bc := bel_one W73 (.cells #[.bool false, .slice none 0 0, .slice none 0 0] 53)
            have LG : Hid (w.heap.size + 1 < W73.heap.size) := J_3.out.lo
            have NE : Hid (h ≠ W73.heap.size) := by have := H_3.out.lt; unfold Hid; omega
            have J_4 := Lib.hid (J_3.out.keep bc)
            have P_4 := Lib.hid (P_3.out.below bc)
            have D_4 := Lib.hid (D_3.out.below bc)
            have Q_4 := Lib.hid (Q_3.out.below bc)
            have E_4 := Lib.hid (E_3.out.below bc)
            have H_4 := Lib.hid (H_3.out.keep bc)
            clear J_3 P_3 D_3 Q_3 E_3 H_3
            have G_4 : Hid (B3 (W73.alloc (.cells #[.bool false, .slice none 0 0, .slice none 0 0] 53)) W73.heap.size (.bool false) (.slice none 0 0) (.slice none 0 0)) := B3.made W73 _ _ _ _
            have hT := J_4.out.s22
            refine hK.out _ _ hT (fun _ => ?_)
            clear hK K hS bc
            try simp only [Act.put, List.setIfInBounds_toArray, List.set_cons_zero, List.set_cons_succ]
            generalize W73.alloc (.cells #[.bool false, .slice none 0 0, .slice none 0 0] 53) = W74 at *
            generalize W73.heap.size = g at *
            have hS := hT
            clear hT
            refine wpAnyH_ready (rs := [6]) (by kernel_rfl) (by simp) ?_
            refine AllReadyH.cons rfl (fun K hK => ?_) AllReadyH.nil
            have q0 := G_4.out.c0
            have q1 := G_4.out.c1
            have q2 := G_4.out.c2
            have g0 := G_4.out.fr 0
            have g1 := G_4.out.fr 1
            have g2 := G_4.out.fr 2
            go_simp
            clear q0 q1 q2 g0 g1 g2
            have jj := J_4.out.three LG.out (.bool b1) (.slice a k c) (.slice a' k' c')
            have gg := G_4.out.set (.bool b1) (.slice a k c) (.slice a' k' c')
            have hh := H_4.out.other (NE.out.symm) (.bool b1) (.slice a k c) (.slice a' k' c')
            have pp := P_4.out.set3 G_4.out (.bool b1) (.slice a k c) (.slice a' k' c')
            have dd := D_4.out.set3 G_4.out (.bool b1) (.slice a k c) (.slice a' k' c')
            have qq := Q_4.out.set3 G_4.out (.bool b1) (.slice a k c) (.slice a' k' c')
            have ee := E_4.out.set3 G_4.out (.bool b1) (.slice a k c) (.slice a' k' c')
            have hT := jj.s22
            clear J_4 G_4 H_4 P_4 D_4 Q_4 E_4
            unfold three at jj gg hh pp dd qq ee hT
            refine hK.out _ _ hT (fun _ => ?_)
            clear hK K hS
            try simp only [Act.put, List.setIfInBounds_toArray, List.set_cons_zero, List.set_cons_succ]
            generalize ((W74.setCell ⟨g, 0, none⟩ (.bool b1)).setCell ⟨g, 1, none⟩ (.slice a k c)).setCell ⟨g, 2, none⟩ (.slice a' k' c') = W75 at *
            have J_5 := Lib.hid jj
            have G_5 := Lib.hid gg
            have H_5 := Lib.hid hh
            have P_5 := Lib.hid pp
            have D_5 := Lib.hid dd
            have Q_5 := Lib.hid qq
            have E_5 := Lib.hid ee
            clear jj gg hh pp dd qq ee
            have hS := hT
            clear hT
            refine wpAnyH_ready (rs := [7]) (by kernel_rfl) (by simp) ?_
            refine AllReadyH.cons rfl (fun K hK => ?_) AllReadyH.nil
            have q0 := H_5.out.c0
            have q1 := H_5.out.c1
            have q2 := H_5.out.c2
            have g0 := H_5.out.fr 0
            have g1 := H_5.out.fr 1
            have g2 := H_5.out.fr 2
            go_simp
            clear q0 q1 q2 g0 g1 g2
            have jj := J_5.out.three LH.out (.bool b2) (.slice p l e) (.slice p' l' e')
            have gg := H_5.out.set (.bool b2) (.slice p l e) (.slice p' l' e')
            have hh := G_5.out.other (NE.out) (.bool b2) (.slice p l e) (.slice p' l' e')
            have pp := P_5.out.set3 H_5.out (.bool b2) (.slice p l e) (.slice p' l' e')
            have dd := D_5.out.set3 H_5.out (.bool b2) (.slice p l e) (.slice p' l' e')
            have qq := Q_5.out.set3 H_5.out (.bool b2) (.slice p l e) (.slice p' l' e')
            have ee := E_5.out.set3 H_5.out (.bool b2) (.slice p l e) (.slice p' l' e')
            have hT := jj.s22
            clear J_5 G_5 H_5 P_5 D_5 Q_5 E_5
            unfold three at jj gg hh pp dd qq ee hT
            refine hK.out _ _ hT (fun _ => ?_)
            clear hK K hS
            try simp only [Act.put, List.setIfInBounds_toArray, List.set_cons_zero, List.set_cons_succ]
            generalize ((W75.setCell ⟨h, 0, none⟩ (.bool b2)).setCell ⟨h, 1, none⟩ (.slice p l e)).setCell ⟨h, 2, none⟩ (.slice p' l' e') = W76 at *
            have J_6 := Lib.hid jj
            have H_6 := Lib.hid gg
            have G_6 := Lib.hid hh
            have P_6 := Lib.hid pp
            have D_6 := Lib.hid dd
            have Q_6 := Lib.hid qq
            have E_6 := Lib.hid ee
            clear jj gg hh pp dd qq ee
            have hS := hT
            clear hT
            refine wpAnyH_done (by kernel_rfl) ?_ _
            refine NoPanic.normal ?_
            have OD : Hid (Od w (w.heap.size + 1) g h ⟨b1, a, k, c, a', k', c'⟩ ⟨b2, p, l, e, p', l', e'⟩ x y x' y' W76) := ⟨G_6.out, H_6.out, P_6.out, D_6.out, Q_6.out, E_6.out, FB.out, QB.out, LG.out, LH.out, J_6.out.bel⟩
            go_wp2_with fail
            go_meet
            case rel => exact ⟨g, h, _, _, rfl, rfl, OD.out, J_6.out⟩
        · go_simp
          have bc := bel_one W67 (.cells #[.bool false, .slice none 0 0, .slice none 0 0] 53)
          have LG : Hid (w.heap.size + 1 < W67.heap.size) := J_1.out.lo
          have J_2 := Lib.hid (J_1.out.keep bc)
          have P_2 := Lib.hid (P_1.out.below bc)
          have D_2 := Lib.hid (D_1.out.below bc)
          clear J_1 P_1 D_1
          have G_2 : Hid (B3 (W67.alloc (.cells #[.bool false, .slice none 0 0, .slice none 0 0] 53)) W67.heap.size (.bool false) (.slice none 0 0) (.slice none 0 0)) := B3.made W67 _ _ _ _
          have hT := J_2.out.s22
          refine hK.out _ _ hT (fun _ => ?_)
          clear hK K hS bc
          try simp only [Act.put, List.setIfInBounds_toArray, List.set_cons_zero, List.set_cons_succ]
          generalize W67.alloc (.cells #[.bool false, .slice none 0 0, .slice none 0 0] 53) = W77 at *
          generalize W67.heap.size = g at *
          have hS := hT
          clear hT
          refine wpAnyH_ready (rs := [3, 5]) (by kernel_rfl) (by simp) ?_
          refine AllReadyH.cons rfl (fun K hK => ?_) (AllReadyH.cons rfl (fun K hK => ?_) AllReadyH.nil)
          · go_simp
            (refine (O2.out W77).mono ?_)
            rintro e W78 ⟨p, l, e, p', l', e', rfl, hp, hd, bc⟩
            try go_simp
            have J_3 := Lib.hid (J_2.out.keep bc)
            have P_3 := Lib.hid (P_2.out.below bc)
            have D_3 := Lib.hid (D_2.out.below bc)
            have G_3 := Lib.hid (G_2.out.keep bc)
            clear J_2 P_2 D_2 G_2
            have Q_3 := Lib.hid hp
            have E_3 := Lib.hid hd
            have hT := J_3.out.s22
            refine hK.out _ _ hT (fun _ => ?_)
            clear hK K hS bc hp hd
            have hS := hT
            clear hT
            try simp only [Act.put, List.setIfInBounds_toArray, List.set_cons_zero, List.set_cons_succ]
            refine wpAnyH_ready (rs := [5]) (by kernel_rfl) (by simp) ?_
            refine AllReadyH.cons rfl (fun K hK => ?_) AllReadyH.nil
            go_simp
            have bc := bel_one W78 (.cells #[.bool false, .slice none 0 0, .slice none 0 0] 53)
            have LH : Hid (w.heap.size + 1 < W78.heap.size) := J_3.out.lo
            have NE : Hid (g ≠ W78.heap.size) := by have := G_3.out.lt; unfold Hid; omega
            have J_4 := Lib.hid (J_3.out.keep bc)
            have P_4 := Lib.hid (P_3.out.below bc)
            have D_4 := Lib.hid (D_3.out.below bc)
            have G_4 := Lib.hid (G_3.out.keep bc)
            have Q_4 := Lib.hid (Q_3.out.below bc)
            have E_4 := Lib.hid (E_3.out.below bc)
            clear J_3 P_3 D_3 G_3 Q_3 E_3
            have H_4 : Hid (B3 (W78.alloc (.cells #[.bool false, .slice none 0 0, .slice none 0 0] 53)) W78.heap.size (.bool false) (.slice none 0 0) (.slice none 0 0)) := B3.made W78 _ _ _ _
            have hT := J_4.out.s22
            refine hK.out _ _ hT (fun _ => ?_)
            clear hK K hS bc
            try simp only [Act.put, List.setIfInBounds_toArray, List.set_cons_zero, List.set_cons_succ]
            generalize W78.alloc (.cells #[.bool false, .slice none 0 0, .slice none 0 0] 53) = W79 at *
            generalize W78.heap.size = h at *
            have hS := hT
            clear hT
            refine wpAnyH_ready (rs := [6]) (by kernel_rfl) (by simp) ?_
            refine AllReadyH.cons rfl (fun K hK => ?_) AllReadyH.nil
            have q0 := G_4.out.c0
            have q1 := G_4.out.c1
            have q2 := G_4.out.c2
            have g0 := G_4.out.fr 0
            have g1 := G_4.out.fr 1
            have g2 := G_4.out.fr 2
            go_simp
            clear q0 q1 q2 g0 g1 g2
            have jj := J_4.out.three LG.out (.bool b1) (.slice a k c) (.slice a' k' c')
            have gg := G_4.out.set (.bool b1) (.slice a k c) (.slice a' k' c')
            have hh := H_4.out.other (NE.out) (.bool b1) (.slice a k c) (.slice a' k' c')
            have pp := P_4.out.set3 G_4.out (.bool b1) (.slice a k c) (.slice a' k' c')
            have dd := D_4.out.set3 G_4.out (.bool b1) (.slice a k c) (.slice a' k' c')
            have qq := Q_4.out.set3 G_4.out (.bool b1) (.slice a k c) (.slice a' k' c')
            have ee := E_4.out.set3 G_4.out (.bool b1) (.slice a k c) (.slice a' k' c')
            have hT := jj.s22
            clear J_4 G_4 H_4 P_4 D_4 Q_4 E_4
            unfold three at jj gg hh pp dd qq ee hT
            refine hK.out _ _ hT (fun _ => ?_)
            clear hK K hS
            try simp only [Act.put, List.setIfInBounds_toArray, List.set_cons_zero, List.set_cons_succ]
            generalize ((W79.setCell ⟨g, 0, none⟩ (.bool b1)).setCell ⟨g, 1, none⟩ (.slice a k c)).setCell ⟨g, 2, none⟩ (.slice a' k' c') = W80 at *
            have J_5 := Lib.hid jj
            have G_5 := Lib.hid gg
            have H_5 := Lib.hid hh
            have P_5 := Lib.hid pp
            have D_5 := Lib.hid dd
            have Q_5 := Lib.hid qq
            have E_5 := Lib.hid ee
            clear jj gg hh pp dd qq ee
            have hS := hT
            clear hT
            refine wpAnyH_ready (rs := [7]) (by kernel_rfl) (by simp) ?_
            refine AllReadyH.cons rfl (fun K hK => ?_) AllReadyH.nil
            have q0 := H_5.out.c0
            have q1 := H_5.out.c1
            have q2 := H_5.out.c2
            have g0 := H_5.out.fr 0
            have g1 := H_5.out.fr 1
            have g2 := H_5.out.fr 2
            go_simp
            clear q0 q1 q2 g0 g1 g2
            have jj := J_5.out.three LH.out (.bool b2) (.slice p l e) (.slice p' l' e')
            have gg := H_5.out.set (.bool b2) (.slice p l e) (.slice p' l' e')
            have hh := G_5.out.other (NE.out.symm) (.bool b2) (.slice p l e) (.slice p' l' e')
            have pp := P_5.out.set3 H_5.out (.bool b2) (.slice p l e) (.slice p' l' e')
            have dd := D_5.out.set3 H_5.out (.bool b2) (.slice p l e) (.slice p' l' e')
            have qq := Q_5.out.set3 H_5.out (.bool b2) (.slice p l e) (.slice p' l' e')
            have ee := E_5.out.set3 H_5.out (.bool b2) (.slice p l e) (.slice p' l' e')
            have hT := jj.s22
            clear J_5 G_5 H_5 P_5 D_5 Q_5 E_5
            unfold three at jj gg hh pp dd qq ee hT
            refine hK.out _ _ hT (fun _ => ?_)
            clear hK K hS
            try simp only [Act.put, List.setIfInBounds_toArray, List.set_cons_zero, List.set_cons_succ]
            generalize ((W80.setCell ⟨h, 0, none⟩ (.bool b2)).setCell ⟨h, 1, none⟩ (.slice p l e)).setCell ⟨h, 2, none⟩ (.slice p' l' e') = W81 at *
            have J_6 := Lib.hid jj
            have H_6 := Lib.hid gg
            have G_6 := Lib.hid hh
            have P_6 := Lib.hid pp
            have D_6 := Lib.hid dd
            have Q_6 := Lib.hid qq
            have E_6 := Lib.hid ee
            clear jj gg hh pp dd qq ee
            have hS := hT
            clear hT
            refine wpAnyH_done (by kernel_rfl) ?_ _
            refine NoPanic.normal ?_
            have OD : Hid (Od w (w.heap.size + 1) g h ⟨b1, a, k, c, a', k', c'⟩ ⟨b2, p, l, e, p', l', e'⟩ x y x' y' W81) := ⟨G_6.out, H_6.out, P_6.out, D_6.out, Q_6.out, E_6.out, FB.out, QB.out, LG.out, LH.out, J_6.out.bel⟩
            go_wp2_with fail
            go_meet
            case rel => exact ⟨g, h, _, _, rfl, rfl, OD.out, J_6.out⟩
          · go_simp
            have bc := bel_one W77 (.cells #[.bool false, .slice none 0 0, .slice none 0 0] 53)
            have LH : Hid (w.heap.size + 1 < W77.heap.size) := J_2.out.lo
            have NE : Hid (g ≠ W77.heap.size) := by have := G_2.out.lt; unfold Hid; omega
            have J_3 := Lib.hid (J_2.out.keep bc)
            have P_3 := Lib.hid (P_2.out.below bc)
            have D_3 := Lib.hid (D_2.out.below bc)
            have G_3 := Lib.hid (G_2.out.keep bc)
            clear J_2 P_2 D_2 G_2
            have H_3 : Hid (B3 (W77.alloc (.cells #[.bool false, .slice none 0 0, .slice none 0 0] 53)) W77.heap.size (.bool false) (.slice none 0 0) (.slice none 0 0)) := B3.made W77 _ _ _ _
            have hT := J_3.out.s22
            refine hK.out _ _ hT (fun _ => ?_)
            clear hK K hS bc
            try simp only [Act.put, List.setIfInBounds_toArray, List.set_cons_zero, List.set_cons_succ]
            generalize W77.alloc (.cells #[.bool false, .slice none 0 0, .slice none 0 0] 53) = W82 at *
            generalize W77.heap.size = h at *
            have hS := hT
            clear hT
            refine wpAnyH_ready (rs := [3]) (by kernel_rfl) (by simp) ?_
            refine AllReadyH.cons rfl (fun K hK => ?_) AllReadyH.nil
            go_simp
            (refine (O2.out W82).mono ?_)
            rintro e W83 ⟨p, l, e, p', l', e', rfl, hp, hd, bc⟩
            try go_simp
            have J_4 := Lib.hid (J_3.out.keep bc)
            have P_4 := Lib.hid (P_3.out.below bc)
            have D_4 := Lib.hid (D_3.out.below bc)
            have G_4 := Lib.hid (G_3.out.keep bc)
            have H_4 := Lib.hid (H_3.out.keep bc)
            clear J_3 P_3 D_3 G_3 H_3
            have Q_4 := Lib.hid hp
            have E_4 := Lib.hid hd
            have hT := J_4.out.s22
            refine hK.out _ _ hT (fun _ => ?_)
            clear hK K hS bc hp hd
            have hS := hT
            clear hT
            try simp only [Act.put, List.setIfInBounds_toArray, List.set_cons_zero, List.set_cons_succ]
            refine wpAnyH_ready (rs := [6]) (by kernel_rfl) (by simp) ?_
            refine AllReadyH.cons rfl (fun K hK => ?_) AllReadyH.nil
            have q0 := G_4.out.c0
            have q1 := G_4.out.c1
            have q2 := G_4.out.c2
            have g0 := G_4.out.fr 0
            have g1 := G_4.out.fr 1
            have g2 := G_4.out.fr 2
            go_simp
            clear q0 q1 q2 g0 g1 g2
            have jj := J_4.out.three LG.out (.bool b1) (.slice a k c) (.slice a' k' c')
            have gg := G_4.out.set (.bool b1) (.slice a k c) (.slice a' k' c')
            have hh := H_4.out.other (NE.out) (.bool b1) (.slice a k c) (.slice a' k' c')
            have pp := P_4.out.set3 G_4.out (.bool b1) (.slice a k c) (.slice a' k' c')
            have dd := D_4.out.set3 G_4.out (.bool b1) (.slice a k c) (.slice a' k' c')
            have qq := Q_4.out.set3 G_4.out (.bool b1) (.slice a k c) (.slice a' k' c')
            have ee := E_4.out.set3 G_4.out (.bool b1) (.slice a k c) (.slice a' k' c')
            have hT := jj.s22
            clear J_4 G_4 H_4 P_4 D_4 Q_4 E_4
            unfold three at jj gg hh pp dd qq ee hT
            refine hK.out _ _ hT (fun _ => ?_)
            clear hK K hS
            try simp only [Act.put, List.setIfInBounds_toArray, List.set_cons_zero, List.set_cons_succ]
            generalize ((W83.setCell ⟨g, 0, none⟩ (.bool b1)).setCell ⟨g, 1, none⟩ (.slice a k c)).setCell ⟨g, 2, none⟩ (.slice a' k' c') = W84 at *
            have J_5 := Lib.hid jj
            have G_5 := Lib.hid gg
            have H_5 := Lib.hid hh
            have P_5 := Lib.hid pp
            have D_5 := Lib.hid dd
            have Q_5 := Lib.hid qq
            have E_5 := Lib.hid ee
            clear jj gg hh pp dd qq ee
            have hS := hT
            clear hT
            refine wpAnyH_ready (rs := [7]) (by kernel_rfl) (by simp) ?_
            refine AllReadyH.cons rfl (fun K hK => ?_) AllReadyH.nil
            have q0 := H_5.out.c0
            have q1 := H_5.out.c1
            have q2 := H_5.out.c2
            have g0 := H_5.out.fr 0
            have g1 := H_5.out.fr 1
            have g2 := H_5.out.fr 2
            go_simp
            clear q0 q1 q2 g0 g1 g2
            have jj := J_5.out.three LH.out (.bool b2) (.slice p l e) (.slice p' l' e')
            have gg := H_5.out.set (.bool b2) (.slice p l e) (.slice p' l' e')
            have hh := G_5.out.other (NE.out.symm) (.bool b2) (.slice p l e) (.slice p' l' e')
            have pp := P_5.out.set3 H_5.out (.bool b2) (.slice p l e) (.slice p' l' e')
            have dd := D_5.out.set3 H_5.out (.bool b2) (.slice p l e) (.slice p' l' e')
            have qq := Q_5.out.set3 H_5.out (.bool b2) (.slice p l e) (.slice p' l' e')
            have ee := E_5.out.set3 H_5.out (.bool b2) (.slice p l e) (.slice p' l' e')
            have hT := jj.s22
            clear J_5 G_5 H_5 P_5 D_5 Q_5 E_5
            unfold three at jj gg hh pp dd qq ee hT
            refine hK.out _ _ hT (fun _ => ?_)
            clear hK K hS
            try simp only [Act.put, List.setIfInBounds_toArray, List.set_cons_zero, List.set_cons_succ]
            generalize ((W84.setCell ⟨h, 0, none⟩ (.bool b2)).setCell ⟨h, 1, none⟩ (.slice p l e)).setCell ⟨h, 2, none⟩ (.slice p' l' e') = W85 at *
            have J_6 := Lib.hid jj
            have H_6 := Lib.hid gg
            have G_6 := Lib.hid hh
            have P_6 := Lib.hid pp
            have D_6 := Lib.hid dd
            have Q_6 := Lib.hid qq
            have E_6 := Lib.hid ee
            clear jj gg hh pp dd qq ee
            have hS := hT
            clear hT
            refine wpAnyH_done (by kernel_rfl) ?_ _
            refine NoPanic.normal ?_
            have OD : Hid (Od w (w.heap.size + 1) g h ⟨b1, a, k, c, a', k', c'⟩ ⟨b2, p, l, e, p', l', e'⟩ x y x' y' W85) := ⟨G_6.out, H_6.out, P_6.out, D_6.out, Q_6.out, E_6.out, FB.out, QB.out, LG.out, LH.out, J_6.out.bel⟩
            go_wp2_with fail
            go_meet
            case rel => exact ⟨g, h, _, _, rfl, rfl, OD.out, J_6.out⟩
        · go_simp
          have bc := bel_one W67 (.cells #[.bool false, .slice none 0 0, .slice none 0 0] 53)
          have LH : Hid (w.heap.size + 1 < W67.heap.size) := J_1.out.lo
          have J_2 := Lib.hid (J_1.out.keep bc)
          have P_2 := Lib.hid (P_1.out.below bc)
          have D_2 := Lib.hid (D_1.out.below bc)
          clear J_1 P_1 D_1
          have H_2 : Hid (B3 (W67.alloc (.cells #[.bool false, .slice none 0 0, .slice none 0 0] 53)) W67.heap.size (.bool false) (.slice none 0 0) (.slice none 0 0)) := B3.made W67 _ _ _ _
          have hT := J_2.out.s22
          refine hK.out _ _ hT (fun _ => ?_)
          clear hK K hS bc
          try simp only [Act.put, List.setIfInBounds_toArray, List.set_cons_zero, List.set_cons_succ]
          generalize W67.alloc (.cells #[.bool false, .slice none 0 0, .slice none 0 0] 53) = W86 at *
          generalize W67.heap.size = h at *
          have hS := hT
          clear hT
          refine wpAnyH_ready (rs := [3, 4]) (by kernel_rfl) (by simp) ?_
          refine AllReadyH.cons rfl (fun K hK => ?_) (AllReadyH.cons rfl (fun K hK => ?_) AllReadyH.nil)
          · go_simp
            (refine (O2.out W86).mono ?_)
            rintro e W87 ⟨p, l, e, p', l', e', rfl, hp, hd, bc⟩
            try go_simp
            have J_3 := Lib.hid (J_2.out.keep bc)
            have P_3 := Lib.hid (P_2.out.below bc)
            have D_3 := Lib.hid (D_2.out.below bc)
            have H_3 := Lib.hid (H_2.out.keep bc)
            clear J_2 P_2 D_2 H_2
            have Q_3 := Lib.hid hp
            have E_3 := Lib.hid hd
            have hT := J_3.out.s22
            refine hK.out _ _ hT (fun _ => ?_)
            clear hK K hS bc hp hd
            have hS := hT
            clear hT
            try simp only [Act.put, List.setIfInBounds_toArray, List.set_cons_zero, List.set_cons_succ]
            refine wpAnyH_ready (rs := [4]) (by kernel_rfl) (by simp) ?_
            refine AllReadyH.cons rfl (fun K hK => ?_) AllReadyH.nil
            go_simp
            have bc := bel_one W87 (.cells #[.bool false, .slice none 0 0, .slice none 0 0] 53)
            have LG : Hid (w.heap.size + 1 < W87.heap.size) := J_3.out.lo
            have NE : Hid (h ≠ W87.heap.size) := by have := H_3.out.lt; unfold Hid; omega
            have J_4 := Lib.hid (J_3.out.keep bc)
            have P_4 := Lib.hid (P_3.out.below bc)
            have D_4 := Lib.hid (D_3.out.below bc)
            have H_4 := Lib.hid (H_3.out.keep bc)
            have Q_4 := Lib.hid (Q_3.out.below bc)
            have E_4 := Lib.hid (E_3.out.below bc)
            clear J_3 P_3 D_3 H_3 Q_3 E_3
            have G_4 : Hid (B3 (W87.alloc (.cells #[.bool false, .slice none 0 0, .slice none 0 0] 53)) W87.heap.size (.bool false) (.slice none 0 0) (.slice none 0 0)) := B3.made W87 _ _ _ _
            have hT := J_4.out.s22
            refine hK.out _ _ hT (fun _ => ?_)
            clear hK K hS bc
            try simp only [Act.put, List.setIfInBounds_toArray, List.set_cons_zero, List.set_cons_succ]
            generalize W87.alloc (.cells #[.bool false, .slice none 0 0, .slice none 0 0] 53) = W88 at *
            generalize W87.heap.size = g at *
            have hS := hT
            clear hT
            refine wpAnyH_ready (rs := [6]) (by kernel_rfl) (by simp) ?_
            refine AllReadyH.cons rfl (fun K hK => ?_) AllReadyH.nil
            have q0 := G_4.out.c0
            have q1 := G_4.out.c1
            have q2 := G_4.out.c2
            have g0 := G_4.out.fr 0
            have g1 := G_4.out.fr 1
            have g2 := G_4.out.fr 2
            go_simp
            clear q0 q1 q2 g0 g1 g2
            have jj := J_4.out.three LG.out (.bool b1) (.slice a k c) (.slice a' k' c')
            have gg := G_4.out.set (.bool b1) (.slice a k c) (.slice a' k' c')
            have hh := H_4.out.other (NE.out.symm) (.bool b1) (.slice a k c) (.slice a' k' c')
            have pp := P_4.out.set3 G_4.out (.bool b1) (.slice a k c) (.slice a' k' c')
            have dd := D_4.out.set3 G_4.out (.bool b1) (.slice a k c) (.slice a' k' c')
            have qq := Q_4.out.set3 G_4.out (.bool b1) (.slice a k c) (.slice a' k' c')
            have ee := E_4.out.set3 G_4.out (.bool b1) (.slice a k c) (.slice a' k' c')
            have hT := jj.s22
            clear J_4 G_4 H_4 P_4 D_4 Q_4 E_4
            unfold three at jj gg hh pp dd qq ee hT
            refine hK.out _ _ hT (fun _ => ?_)
            clear hK K hS
            try simp only [Act.put, List.setIfInBounds_toArray, List.set_cons_zero, List.set_cons_succ]
            generalize ((W88.setCell ⟨g, 0, none⟩ (.bool b1)).setCell ⟨g, 1, none⟩ (.slice a k c)).setCell ⟨g, 2, none⟩ (.slice a' k' c') = W89 at *
            have J_5 := Lib.hid jj
            have G_5 := Lib.hid gg
            have H_5 := Lib.hid hh
            have P_5 := Lib.hid pp
            have D_5 := Lib.hid dd
            have Q_5 := Lib.hid qq
            have E_5 := Lib.hid ee
            clear jj gg hh pp dd qq ee
            have hS := hT
            clear hT
            refine wpAnyH_ready (rs := [7]) (by kernel_rfl) (by simp) ?_
            refine AllReadyH.cons rfl (fun K hK => ?_) AllReadyH.nil
            have q0 := H_5.out.c0
            have q1 := H_5.out.c1
            have q2 := H_5.out.c2
            have g0 := H_5.out.fr 0
            have g1 := H_5.out.fr 1
            have g2 := H_5.out.fr 2
            go_simp
            clear q0 q1 q2 g0 g1 g2
            have jj := J_5.out.three LH.out (.bool b2) (.slice p l e) (.slice p' l' e')
            have gg := H_5.out.set (.bool b2) (.slice p l e) (.slice p' l' e')
            have hh := G_5.out.other (NE.out) (.bool b2) (.slice p l e) (.slice p' l' e')
            have pp := P_5.out.set3 H_5.out (.bool b2) (.slice p l e) (.slice p' l' e')
            have dd := D_5.out.set3 H_5.out (.bool b2) (.slice p l e) (.slice p' l' e')
            have qq := Q_5.out.set3 H_5.out (.bool b2) (.slice p l e) (.slice p' l' e')
            have ee := E_5.out.set3 H_5.out (.bool b2) (.slice p l e) (.slice p' l' e')
            have hT := jj.s22
            clear J_5 G_5 H_5 P_5 D_5 Q_5 E_5
            unfold three at jj gg hh pp dd qq ee hT
            refine hK.out _ _ hT (fun _ => ?_)
            clear hK K hS
            try simp only [Act.put, List.setIfInBounds_toArray, List.set_cons_zero, List.set_cons_succ]
            generalize ((W89.setCell ⟨h, 0, none⟩ (.bool b2)).setCell ⟨h, 1, none⟩ (.slice p l e)).setCell ⟨h, 2, none⟩ (.slice p' l' e') = W90 at *
            have J_6 := Lib.hid jj
            have H_6 := Lib.hid gg
            have G_6 := Lib.hid hh
            have P_6 := Lib.hid pp
            have D_6 := Lib.hid dd
            have Q_6 := Lib.hid qq
            have E_6 := Lib.hid ee
            clear jj gg hh pp dd qq ee
            have hS := hT
            clear hT
            refine wpAnyH_done (by kernel_rfl) ?_ _
            refine NoPanic.normal ?_
            have OD : Hid (Od w (w.heap.size + 1) g h ⟨b1, a, k, c, a', k', c'⟩ ⟨b2, p, l, e, p', l', e'⟩ x y x' y' W90) := ⟨G_6.out, H_6.out, P_6.out, D_6.out, Q_6.out, E_6.out, FB.out, QB.out, LG.out, LH.out, J_6.out.bel⟩
            go_wp2_with fail
            go_meet
            case rel => exact ⟨g, h, _, _, rfl, rfl, OD.out, J_6.out⟩
          · go_simp
            have bc := bel_one W86 (.cells #[.bool false, .slice none 0 0, .slice none 0 0] 53)
            have LG : Hid (w.heap.size + 1 < W86.heap.size) := J_2.out.lo
            have NE : Hid (h ≠ W86.heap.size) := by have := H_2.out.lt; unfold Hid; omega
            have J_3 := Lib.hid (J_2.out.keep bc)
            have P_3 := Lib.hid (P_2.out.below bc)
            have D_3 := Lib.hid (D_2.out.below bc)
            have H_3 := Lib.hid (H_2.out.keep bc)
            clear J_2 P_2 D_2 H_2
            have G_3 : Hid (B3 (W86.alloc (.cells #[.bool false, .slice none 0 0, .slice none 0 0] 53)) W86.heap.size (.bool false) (.slice none 0 0) (.slice none 0 0)) := B3.made W86 _ _ _ _
            have hT := J_3.out.s22
            refine hK.out _ _ hT (fun _ => ?_)
            clear hK K hS bc
            try simp only [Act.put, List.setIfInBounds_toArray, List.set_cons_zero, List.set_cons_succ]
            generalize W86.alloc (.cells #[.bool false, .slice none 0 0, .slice none 0 0] 53) = W91 at *
            generalize W86.heap.size = g at *
            have hS := hT
            clear hT
            refine wpAnyH_ready (rs := [3]) (by kernel_rfl) (by simp) ?_
            refine AllReadyH.cons rfl (fun K hK => ?_) AllReadyH.nil
            go_simp
            (refine (O2.out W91).mono ?_)
            rintro e W92 ⟨p, l, e, p', l', e', rfl, hp, hd, bc⟩
            try go_simp
            have J_4 := Lib.hid (J_3.out.keep bc)
            have P_4 := Lib.hid (P_3.out.below bc)
            have D_4 := Lib.hid (D_3.out.below bc)
            have H_4 := Lib.hid (H_3.out.keep bc)
            have G_4 := Lib.hid (G_3.out.keep bc)
            clear J_3 P_3 D_3 H_3 G_3
            have Q_4 := Lib.hid hp
            have E_4 := Lib.hid hd
            have hT := J_4.out.s22
            refine hK.out _ _ hT (fun _ => ?_)
            clear hK K hS bc hp hd
            have hS := hT
            clear hT
            try simp only [Act.put, List.setIfInBounds_toArray, List.set_cons_zero, List.set_cons_succ]
            refine wpAnyH_ready (rs := [6]) (by kernel_rfl) (by simp) ?_
            refine AllReadyH.cons rfl (fun K hK => ?_) AllReadyH.nil
            have q0 := G_4.out.c0
            have q1 := G_4.out.c1
            have q2 := G_4.out.c2
            have g0 := G_4.out.fr 0
            have g1 := G_4.out.fr 1
            have g2 := G_4.out.fr 2
            go_simp
            clear q0 q1 q2 g0 g1 g2
            have jj := J_4.out.three LG.out (.bool b1) (.slice a k c) (.slice a' k' c')
            have gg := G_4.out.set (.bool b1) (.slice a k c) (.slice a' k' c')
            have hh := H_4.out.other (NE.out.symm) (.bool b1) (.slice a k c) (.slice a' k' c')
            have pp := P_4.out.set3 G_4.out (.bool b1) (.slice a k c) (.slice a' k' c')
            have dd := D_4.out.set3 G_4.out (.bool b1) (.slice a k c) (.slice a' k' c')
            have qq := Q_4.out.set3 G_4.out (.bool b1) (.slice a k c) (.slice a' k' c')
            have ee := E_4.out.set3 G_4.out (.bool b1) (.slice a k c) (.slice a' k' c')
            have hT := jj.s22
            clear J_4 G_4 H_4 P_4 D_4 Q_4 E_4
            unfold three at jj gg hh pp dd qq ee hT
            refine hK.out _ _ hT (fun _ => ?_)
            clear hK K hS
            try simp only [Act.put, List.setIfInBounds_toArray, List.set_cons_zero, List.set_cons_succ]
            generalize ((W92.setCell ⟨g, 0, none⟩ (.bool b1)).setCell ⟨g, 1, none⟩ (.slice a k c)).setCell ⟨g, 2, none⟩ (.slice a' k' c') = W93 at *
            have J_5 := Lib.hid jj
            have G_5 := Lib.hid gg
            have H_5 := Lib.hid hh
            have P_5 := Lib.hid pp
            have D_5 := Lib.hid dd
            have Q_5 := Lib.hid qq
            have E_5 := Lib.hid ee
            clear jj gg hh pp dd qq ee
            have hS := hT
            clear hT
            refine wpAnyH_ready (rs := [7]) (by kernel_rfl) (by simp) ?_
            refine AllReadyH.cons rfl (fun K hK => ?_) AllReadyH.nil
            have q0 := H_5.out.c0
            have q1 := H_5.out.c1
            have q2 := H_5.out.c2
            have g0 := H_5.out.fr 0
            have g1 := H_5.out.fr 1
            have g2 := H_5.out.fr 2
            go_simp
            clear q0 q1 q2 g0 g1 g2
            have jj := J_5.out.three LH.out (.bool b2) (.slice p l e) (.slice p' l' e')
            have gg := H_5.out.set (.bool b2) (.slice p l e) (.slice p' l' e')
            have hh := G_5.out.other (NE.out) (.bool b2) (.slice p l e) (.slice p' l' e')
            have pp := P_5.out.set3 H_5.out (.bool b2) (.slice p l e) (.slice p' l' e')
            have dd := D_5.out.set3 H_5.out (.bool b2) (.slice p l e) (.slice p' l' e')
            have qq := Q_5.out.set3 H_5.out (.bool b2) (.slice p l e) (.slice p' l' e')
            have ee := E_5.out.set3 H_5.out (.bool b2) (.slice p l e) (.slice p' l' e')
            have hT := jj.s22
            clear J_5 G_5 H_5 P_5 D_5 Q_5 E_5
            unfold three at jj gg hh pp dd qq ee hT
            refine hK.out _ _ hT (fun _ => ?_)
            clear hK K hS
            try simp only [Act.put, List.setIfInBounds_toArray, List.set_cons_zero, List.set_cons_succ]
            generalize ((W93.setCell ⟨h, 0, none⟩ (.bool b2)).setCell ⟨h, 1, none⟩ (.slice p l e)).setCell ⟨h, 2, none⟩ (.slice p' l' e') = W94 at *
            have J_6 := Lib.hid jj
            have H_6 := Lib.hid gg
            have G_6 := Lib.hid hh
            have P_6 := Lib.hid pp
            have D_6 := Lib.hid dd
            have Q_6 := Lib.hid qq
            have E_6 := Lib.hid ee
            clear jj gg hh pp dd qq ee
            have hS := hT
            clear hT
            refine wpAnyH_done (by kernel_rfl) ?_ _
            refine NoPanic.normal ?_
            have OD : Hid (Od w (w.heap.size + 1) g h ⟨b1, a, k, c, a', k', c'⟩ ⟨b2, p, l, e, p', l', e'⟩ x y x' y' W94) := ⟨G_6.out, H_6.out, P_6.out, D_6.out, Q_6.out, E_6.out, FB.out, QB.out, LG.out, LH.out, J_6.out.bel⟩
            go_wp2_with fail
            go_meet
            case rel => exact ⟨g, h, _, _, rfl, rfl, OD.out, J_6.out⟩
      · go_simp
        have bc := bel_one WD (.cells #[.bool false, .slice none 0 0, .slice none 0 0] 53)
        have LG : Hid (w.heap.size + 1 < WD.heap.size) := J_0.out.lo
        have J_1 := Lib.hid (J_0.out.keep bc)
        clear J_0
        have G_1 : Hid (B3 (WD.alloc (.cells #[.bool false, .slice none 0 0, .slice none 0 0] 53)) WD.heap.size (.bool false) (.slice none 0 0) (.slice none 0 0)) := B3.made WD _ _ _ _
        have hT := J_1.out.s22
        refine hK.out _ _ hT (fun _ => ?_)
        clear hK K hS bc
        try simp only [Act.put, List.setIfInBounds_toArray, List.set_cons_zero, List.set_cons_succ]
        generalize WD.alloc (.cells #[.bool false, .slice none 0 0, .slice none 0 0] 53) = W95 at *
        generalize WD.heap.size = g at *
        have hS := hT
        clear hT
        refine wpAnyH_ready (rs := [1, 5]) (by kernel_rfl) (by simp) ?_
        refine AllReadyH.cons rfl (fun K hK => ?_) (AllReadyH.cons rfl (fun K hK => ?_) AllReadyH.nil)
        · go_simp
          (refine (O1.out W95).mono ?_)
          rintro e W96 ⟨a, k, c, a', k', c', rfl, hp, hd, bc⟩
          try go_simp
          have J_2 := Lib.hid (J_1.out.keep bc)
          have G_2 := Lib.hid (G_1.out.keep bc)
          clear J_1 G_1
          have P_2 := Lib.hid hp
          have D_2 := Lib.hid hd
          have hT := J_2.out.s22
          refine hK.out _ _ hT (fun _ => ?_)
          clear hK K hS bc hp hd
          have hS := hT
          clear hT
          try simp only [Act.put, List.setIfInBounds_toArray, List.set_cons_zero, List.set_cons_succ]
          refine wpAnyH_ready (rs := [3, 5]) (by kernel_rfl) (by simp) ?_
          refine AllReadyH.cons rfl (fun K hK => ?_) (AllReadyH.cons rfl (fun K hK => ?_) AllReadyH.nil)
          · go_simp
            (refine (O2.out W96).mono ?_)
            rintro e W97 ⟨p, l, e, p', l', e', rfl, hp, hd, bc⟩
            try go_simp
            have J_3 := Lib.hid (J_2.out.keep bc)
            have G_3 := Lib.hid (G_2.out.keep bc)
            have P_3 := Lib.hid (P_2.out.below bc)
            have D_3 := Lib.hid (D_2.out.below bc)
            clear J_2 G_2 P_2 D_2
            have Q_3 := Lib.hid hp
            have E_3 := Lib.hid hd
            have hT := J_3.out.s22
            refine hK.out _ _ hT (fun _ => ?_)
            clear hK K hS bc hp hd
            have hS := hT
            clear hT
            try simp only [Act.put, List.setIfInBounds_toArray, List.set_cons_zero, List.set_cons_succ]
            refine wpAnyH_ready (rs := [5]) (by kernel_rfl) (by simp) ?_
            refine AllReadyH.cons rfl (fun K hK => ?_) AllReadyH.nil
            go_simp
            have bc := bel_one W97 (.cells #[.bool false, .slice none 0 0, .slice none 0 0] 53)
            have LH : Hid (w.heap.size + 1 < W97.heap.size) := J_3.out.lo
            have NE : Hid (g ≠ W97.heap.size) := by have := G_3.out.lt; unfold Hid; omega
            have J_4 := Lib.hid (J_3.out.keep bc)
            have G_4 := Lib.hid (G_3.out.keep bc)
            have P_4 := Lib.hid (P_3.out.below bc)
            have D_4 := Lib.hid (D_3.out.below bc)
            have Q_4 := Lib.hid (Q_3.out.below bc)
            have E_4 := Lib.hid (E_3.out.below bc)
            clear J_3 G_3 P_3 D_3 Q_3 E_3
            have H_4 : Hid (B3 (W97.alloc (.cells #[.bool false, .slice none 0 0, .slice none 0 0] 53)) W97.heap.size (.bool false) (.slice none 0 0) (.slice none 0 0)) := B3.made W97 _ _ _ _
            have hT := J_4.out.s22
            refine hK.out _ _ hT (fun _ => ?_)
            clear hK K hS bc
            try simp only [Act.put, List.setIfInBounds_toArray, List.set_cons_zero, List.set_cons_succ]
            generalize W97.alloc (.cells #[.bool false, .slice none 0 0, .slice none 0 0] 53) = W98 at *
            generalize W97.heap.size = h at *
            have hS := hT
            clear hT
            refine wpAnyH_ready (rs := [6]) (by kernel_rfl) (by simp) ?_
            refine AllReadyH.cons rfl (fun K hK => ?_) AllReadyH.nil
            have q0 := G_4.out.c0
            have q1 := G_4.out.c1
            have q2 := G_4.out.c2
            have g0 := G_4.out.fr 0
            have g1 := G_4.out.fr 1
            have g2 := G_4.out.fr 2
            go_simp
            clear q0 q1 q2 g0 g1 g2
            have jj := J_4.out.three LG.out (.bool b1) (.slice a k c) (.slice a' k' c')
            have gg := G_4.out.set (.bool b1) (.slice a k c) (.slice a' k' c')
            have hh := H_4.out.other (NE.out) (.bool b1) (.slice a k c) (.slice a' k' c')
            have pp := P_4.out.set3 G_4.out (.bool b1) (.slice a k c) (.slice a' k' c')
            have dd := D_4.out.set3 G_4.out (.bool b1) (.slice a k c) (.slice a' k' c')
            have qq := Q_4.out.set3 G_4.out (.bool b1) (.slice a k c) (.slice a' k' c')
            have ee := E_4.out.set3 G_4.out (.bool b1) (.slice a k c) (.slice a' k' c')
            have hT := jj.s22
            clear J_4 G_4 H_4 P_4 D_4 Q_4 E_4
            unfold three at jj gg hh pp dd qq ee hT
            refine hK.out _ _ hT (fun _ => ?_)
            clear hK K hS
            try simp only [Act.put, List.setIfInBounds_toArray, List.set_cons_zero, List.set_cons_succ]
            generalize ((W98.setCell ⟨g, 0, none⟩ (.bool b1)).setCell ⟨g, 1, none⟩ (.slice a k c)).setCell ⟨g, 2, none⟩ (.slice a' k' c') = W99 at *
            have J_5 := Lib.hid jj
            have G_5 := Lib.hid gg
            have H_5 := Lib.hid hh
            have P_5 := Lib.hid pp
            have D_5 := Lib.hid dd
            have Q_5 := Lib.hid qq
            have E_5 := Lib.hid ee
            clear jj gg hh pp dd qq ee
            have hS := hT
            clear hT
            refine wpAnyH_ready (rs := [7]) (by kernel_rfl) (by simp) ?_
            refine AllReadyH.cons rfl (fun K hK => ?_) AllReadyH.nil
            have q0 := H_5.out.c0
            have q1 := H_5.out.c1
            have q2 := H_5.out.c2
            have g0 := H_5.out.fr 0
            have g1 := H_5.out.fr 1
            have g2 := H_5.out.fr 2
            go_simp
            clear q0 q1 q2 g0 g1 g2
            have jj := J_5.out.three LH.out (.bool b2) (.slice p l e) (.slice p' l' e')
            have gg := H_5.out.set (.bool b2) (.slice p l e) (.slice p' l' e')
            have hh := G_5.out.other (NE.out.symm) (.bool b2) (.slice p l e) (.slice p' l' e')
            have pp := P_5.out.set3 H_5.out (.bool b2) (.slice p l e) (.slice p' l' e')
            have dd := D_5.out.set3 H_5.out (.bool b2) (.slice p l e) (.slice p' l' e')
            have qq := Q_5.out.set3 H_5.out (.bool b2) (.slice p l e) (.slice p' l' e')
            have ee := E_5.out.set3 H_5.out (.bool b2) (.slice p l e) (.slice p' l' e')
            have hT := jj.s22
            clear J_5 G_5 H_5 P_5 D_5 Q_5 E_5
            unfold three at jj gg hh pp dd qq ee hT
            refine hK.out _ _ hT (fun _ => ?_)
            clear hK K hS
            try simp only [Act.put, List.setIfInBounds_toArray, List.set_cons_zero, List.set_cons_succ]
            generalize ((W99.setCell ⟨h, 0, none⟩ (.bool b2)).setCell ⟨h, 1, none⟩ (.slice p l e)).setCell ⟨h, 2, none⟩ (.slice p' l' e') = W100 at *
            have J_6 := Lib.hid jj
            have H_6 := Lib.hid gg
            have G_6 := Lib.hid hh
            have P_6 := Lib.hid pp
            have D_6 := Lib.hid dd
            have Q_6 := Lib.hid qq
            have E_6 := Lib.hid ee
            clear jj gg hh pp dd qq ee
            have hS := hT
            clear hT
            refine wpAnyH_done (by kernel_rfl) ?_ _
            refine NoPanic.normal ?_
            have OD : Hid (Od w (w.heap.size + 1) g h ⟨b1, a, k, c, a', k', c'⟩ ⟨b2, p, l, e, p', l', e'⟩ x y x' y' W100) := ⟨G_6.out, H_6.out, P_6.out, D_6.out, Q_6.out, E_6.out, FB.out, QB.out, LG.out, LH.out, J_6.out.bel⟩
            go_wp2_with fail
            go_meet
            case rel => exact ⟨g, h, _, _, rfl, rfl, OD.out, J_6.out⟩
          · go_simp
            have bc := bel_one W96 (.cells #[.bool false, .slice none 0 0, .slice none 0 0] 53)
            have LH : Hid (w.heap.size + 1 < W96.heap.size) := J_2.out.lo
            have NE : Hid (g ≠ W96.heap.size) := by have := G_2.out.lt; unfold Hid; omega
            have J_3 := Lib.hid (J_2.out.keep bc)
            have G_3 := Lib.hid (G_2.out.keep bc)
            have P_3 := Lib.hid (P_2.out.below bc)
            have D_3 := Lib.hid (D_2.out.below bc)
            clear J_2 G_2 P_2 D_2
            have H_3 : Hid (B3 (W96.alloc (.cells #[.bool false, .slice none 0 0, .slice none 0 0] 53)) W96.heap.size (.bool false) (.slice none 0 0) (.slice none 0 0)) := B3.made W96 _ _ _ _
            have hT := J_3.out.s22
            refine hK.out _ _ hT (fun _ => ?_)
            clear hK K hS bc
            try simp only [Act.put, List.setIfInBounds_toArray, List.set_cons_zero, List.set_cons_succ]
            generalize W96.alloc (.cells #[.bool false, .slice none 0 0, .slice none 0 0] 53) = W101 at *
            generalize W96.heap.size = h at *
            have hS := hT
            clear hT
            refine wpAnyH_ready (rs := [3]) (by kernel_rfl) (by simp) ?_
            refine AllReadyH.cons rfl (fun K hK => ?_) AllReadyH.nil
            go_simp
            (refine (O2.out W101).mono ?_)
            rintro e W102 ⟨p, l, e, p', l', e', rfl, hp, hd, bc⟩
            try go_simp
            have J_4 := Lib.hid (J_3.out.keep bc)
            have G_4 := Lib.hid (G_3.out.keep bc)
            have P_4 := Lib.hid (P_3.out.below bc)
            have D_4 := Lib.hid (D_3.out.below bc)
            have H_4 := Lib.hid (H_3.out.keep bc)
            clear J_3 G_3 P_3 D_3 H_3
            have Q_4 := Lib.hid hp
            have E_4 := Lib.hid hd
            have hT := J_4.out.s22
            refine hK.out _ _ hT (fun _ => ?_)
            clear hK K hS bc hp hd
            have hS := hT
            clear hT
            try simp only [Act.put, List.setIfInBounds_toArray, List.set_cons_zero, List.set_cons_succ]
            refine wpAnyH_ready (rs := [6]) (by kernel_rfl) (by simp) ?_
            refine AllReadyH.cons rfl (fun K hK => ?_) AllReadyH.nil
            have q0 := G_4.out.c0
            have q1 := G_4.out.c1
            have q2 := G_4.out.c2
            have g0 := G_4.out.fr 0
            have g1 := G_4.out.fr 1
            have g2 := G_4.out.fr 2
            go_simp
            clear q0 q1 q2 g0 g1 g2
            have jj := J_4.out.three LG.out (.bool b1) (.slice a k c) (.slice a' k' c')
            have gg := G_4.out.set (.bool b1) (.slice a k c) (.slice a' k' c')
            have hh := H_4.out.other (NE.out) (.bool b1) (.slice a k c) (.slice a' k' c')
            have pp := P_4.out.set3 G_4.out (.bool b1) (.slice a k c) (.slice a' k' c')
            have dd := D_4.out.set3 G_4.out (.bool b1) (.slice a k c) (.slice a' k' c')
            have qq := Q_4.out.set3 G_4.out (.bool b1) (.slice a k c) (.slice a' k' c')
            have ee := E_4.out.set3 G_4.out (.bool b1) (.slice a k c) (.slice a' k' c')
            have hT := jj.s22
            clear J_4 G_4 H_4 P_4 D_4 Q_4 E_4
            unfold three at jj gg hh pp dd qq ee hT
            refine hK.out _ _ hT (fun _ => ?_)
            clear hK K hS
            try simp only [Act.put, List.setIfInBounds_toArray, List.set_cons_zero, List.set_cons_succ]
            generalize ((W102.setCell ⟨g, 0, none⟩ (.bool b1)).setCell ⟨g, 1, none⟩ (.slice a k c)).setCell ⟨g, 2, none⟩ (.slice a' k' c') = W103 at *
            have J_5 := Lib.hid jj
            have G_5 := Lib.hid gg
            have H_5 := Lib.hid hh
            have P_5 := Lib.hid pp
            have D_5 := Lib.hid dd
            have Q_5 := Lib.hid qq
            have E_5 := Lib.hid ee
            clear jj gg hh pp dd qq ee
            have hS := hT
            clear hT
            refine wpAnyH_ready (rs := [7]) (by kernel_rfl) (by simp) ?_
            refine AllReadyH.cons rfl (fun K hK => ?_) AllReadyH.nil
            have q0 := H_5.out.c0
            have q1 := H_5.out.c1
            have q2 := H_5.out.c2
            have g0 := H_5.out.fr 0
            have g1 := H_5.out.fr 1
            have g2 := H_5.out.fr 2
            go_simp
            clear q0 q1 q2 g0 g1 g2
            have jj := J_5.out.three LH.out (.bool b2) (.slice p l e) (.slice p' l' e')
            have gg := H_5.out.set (.bool b2) (.slice p l e) (.slice p' l' e')
            have hh := G_5.out.other (NE.out.symm) (.bool b2) (.slice p l e) (.slice p' l' e')
            have pp := P_5.out.set3 H_5.out (.bool b2) (.slice p l e) (.slice p' l' e')
            have dd := D_5.out.set3 H_5.out (.bool b2) (.slice p l e) (.slice p' l' e')
            have qq := Q_5.out.set3 H_5.out (.bool b2) (.slice p l e) (.slice p' l' e')
            have ee := E_5.out.set3 H_5.out (.bool b2) (.slice p l e) (.slice p' l' e')
            have hT := jj.s22
            clear J_5 G_5 H_5 P_5 D_5 Q_5 E_5
            unfold three at jj gg hh pp dd qq ee hT
            refine hK.out _ _ hT (fun _ => ?_)
            clear hK K hS
            try simp only [Act.put, List.setIfInBounds_toArray, List.set_cons_zero, List.set_cons_succ]
            generalize ((W103.setCell ⟨h, 0, none⟩ (.bool b2)).setCell ⟨h, 1, none⟩ (.slice p l e)).setCell ⟨h, 2, none⟩ (.slice p' l' e') = W104 at *
            have J_6 := Lib.hid jj
            have H_6 := Lib.hid gg
            have G_6 := Lib.hid hh
            have P_6 := Lib.hid pp
            have D_6 := Lib.hid dd
            have Q_6 := Lib.hid qq
            have E_6 := Lib.hid ee
            clear jj gg hh pp dd qq ee
            have hS := hT
            clear hT
            refine wpAnyH_done (by kernel_rfl) ?_ _
            refine NoPanic.normal ?_
            have OD : Hid (Od w (w.heap.size + 1) g h ⟨b1, a, k, c, a', k', c'⟩ ⟨b2, p, l, e, p', l', e'⟩ x y x' y' W104) := ⟨G_6.out, H_6.out, P_6.out, D_6.out, Q_6.out, E_6.out, FB.out, QB.out, LG.out, LH.out, J_6.out.bel⟩
            go_wp2_with fail
            go_meet
            case rel => exact ⟨g, h, _, _, rfl, rfl, OD.out, J_6.out⟩
        · go_simp
          have bc := bel_one W95 (.cells #[.bool false, .slice none 0 0, .slice none 0 0] 53)
          have LH : Hid (w.heap.size + 1 < W95.heap.size) := J_1.out.lo
          have NE : Hid (g ≠ W95.heap.size) := by have := G_1.out.lt; unfold Hid; omega
          have J_2 := Lib.hid (J_1.out.keep bc)
          have G_2 := Lib.hid (G_1.out.keep bc)
          clear J_1 G_1
          have H_2 : Hid (B3 (W95.alloc (.cells #[.bool false, .slice none 0 0, .slice none 0 0] 53)) W95.heap.size (.bool false) (.slice none 0 0) (.slice none 0 0)) := B3.made W95 _ _ _ _
          have hT := J_2.out.s22
          refine hK.out _ _ hT (fun _ => ?_)
          clear hK K hS bc
          try simp only [Act.put, List.setIfInBounds_toArray, List.set_cons_zero, List.set_cons_succ]
          generalize W95.alloc (.cells #[.bool false, .slice none 0 0, .slice none 0 0] 53) = W105 at *
          generalize W95.heap.size = h at *
          have hS := hT
          clear hT
          refine wpAnyH_ready (rs := [1]) (by kernel_rfl) (by simp) ?_
          refine AllReadyH.cons rfl (fun K hK => ?_) AllReadyH.nil
          go_simp
          (refine (O1.out W105).mono ?_)
          rintro e W106 ⟨a, k, c, a', k', c', rfl, hp, hd, bc⟩
          try go_simp
          have J_3 := Lib.hid (J_2.out.keep bc)
          have G_3 := Lib.hid (G_2.out.keep bc)
          have H_3 := Lib.hid (H_2.out.keep bc)
          clear J_2 G_2 H_2
          have P_3 := Lib.hid hp
          have D_3 := Lib.hid hd
          have hT := J_3.out.s22
          refine hK.out _ _ hT (fun _ => ?_)
          clear hK K hS bc hp hd
          have hS := hT
          clear hT
          try simp only [Act.put, List.setIfInBounds_toArray, List.set_cons_zero, List.set_cons_succ]
          refine wpAnyH_ready (rs := [3]) (by kernel_rfl) (by simp) ?_
          refine AllReadyH.cons rfl (fun K hK => ?_) AllReadyH.nil
          go_simp
          (refine (O2.out W106).mono ?_)
          rintro e W107 ⟨p, l, e, p', l', e', rfl, hp, hd, bc⟩
          try go_simp
          have J_4 := Lib.hid (J_3.out.keep bc)
          have G_4 := Lib.hid (G_3.out.keep bc)
          have H_4 := Lib.hid (H_3.out.keep bc)
          have P_4 := Lib.hid (P_3.out.below bc)
          have D_4 := Lib.hid (D_3.out.below bc)
          clear J_3 G_3 H_3 P_3 D_3
          have Q_4 := Lib.hid hp
          have E_4 := Lib.hid hd
          have hT := J_4.out.s22
          refine hK.out _ _ hT (fun _ => ?_)
          clear hK K hS bc hp hd
          have hS := hT
          clear hT
          try simp only [Act.put, List.setIfInBounds_toArray, List.set_cons_zero, List.set_cons_succ]
          refine wpAnyH_ready (rs := [6]) (by kernel_rfl) (by simp) ?_
          refine AllReadyH.cons rfl (fun K hK => ?_) AllReadyH.nil
          have q0 := G_4.out.c0
          have q1 := G_4.out.c1
          have q2 := G_4.out.c2
          have g0 := G_4.out.fr 0
          have g1 := G_4.out.fr 1
          have g2 := G_4.out.fr 2
          go_simp
          clear q0 q1 q2 g0 g1 g2
          have jj := J_4.out.three LG.out (.bool b1) (.slice a k c) (.slice a' k' c')
          have gg := G_4.out.set (.bool b1) (.slice a k c) (.slice a' k' c')
          have hh := H_4.out.other (NE.out) (.bool b1) (.slice a k c) (.slice a' k' c')
          have pp := P_4.out.set3 G_4.out (.bool b1) (.slice a k c) (.slice a' k' c')
          have dd := D_4.out.set3 G_4.out (.bool b1) (.slice a k c) (.slice a' k' c')
          have qq := Q_4.out.set3 G_4.out (.bool b1) (.slice a k c) (.slice a' k' c')
          have ee := E_4.out.set3 G_4.out (.bool b1) (.slice a k c) (.slice a' k' c')
          have hT := jj.s22
          clear J_4 G_4 H_4 P_4 D_4 Q_4 E_4
          unfold three at jj gg hh pp dd qq ee hT
          refine hK.out _ _ hT (fun _ => ?_)
          clear hK K hS
          try simp only [Act.put, List.setIfInBounds_toArray, List.set_cons_zero, List.set_cons_succ]
          generalize ((W107.setCell ⟨g, 0, none⟩ (.bool b1)).setCell ⟨g, 1, none⟩ (.slice a k c)).setCell ⟨g, 2, none⟩ (.slice a' k' c') = W108 at *
          have J_5 := Lib.hid jj
          have G_5 := Lib.hid gg
          have H_5 := Lib.hid hh
          have P_5 := Lib.hid pp
          have D_5 := Lib.hid dd
          have Q_5 := Lib.hid qq
          have E_5 := Lib.hid ee
          clear jj gg hh pp dd qq ee
          have hS := hT
          clear hT
          refine wpAnyH_ready (rs := [7]) (by kernel_rfl) (by simp) ?_
          refine AllReadyH.cons rfl (fun K hK => ?_) AllReadyH.nil
          have q0 := H_5.out.c0
          have q1 := H_5.out.c1
          have q2 := H_5.out.c2
          have g0 := H_5.out.fr 0
          have g1 := H_5.out.fr 1
          have g2 := H_5.out.fr 2
          go_simp
          clear q0 q1 q2 g0 g1 g2
          have jj := J_5.out.three LH.out (.bool b2) (.slice p l e) (.slice p' l' e')
          have gg := H_5.out.set (.bool b2) (.slice p l e) (.slice p' l' e')
          have hh := G_5.out.other (NE.out.symm) (.bool b2) (.slice p l e) (.slice p' l' e')
          have pp := P_5.out.set3 H_5.out (.bool b2) (.slice p l e) (.slice p' l' e')
          have dd := D_5.out.set3 H_5.out (.bool b2) (.slice p l e) (.slice p' l' e')
          have qq := Q_5.out.set3 H_5.out (.bool b2) (.slice p l e) (.slice p' l' e')
          have ee := E_5.out.set3 H_5.out (.bool b2) (.slice p l e) (.slice p' l' e')
          have hT := jj.s22
          clear J_5 G_5 H_5 P_5 D_5 Q_5 E_5
          unfold three at jj gg hh pp dd qq ee hT
          refine hK.out _ _ hT (fun _ => ?_)
          clear hK K hS
          try simp only [Act.put, List.setIfInBounds_toArray, List.set_cons_zero, List.set_cons_succ]
          generalize ((W108.setCell ⟨h, 0, none⟩ (.bool b2)).setCell ⟨h, 1, none⟩ (.slice p l e)).setCell ⟨h, 2, none⟩ (.slice p' l' e') = W109 at *
          have J_6 := Lib.hid jj
          have H_6 := Lib.hid gg
          have G_6 := Lib.hid hh
          have P_6 := Lib.hid pp
          have D_6 := Lib.hid dd
          have Q_6 := Lib.hid qq
          have E_6 := Lib.hid ee
          clear jj gg hh pp dd qq ee
          have hS := hT
          clear hT
          refine wpAnyH_done (by kernel_rfl) ?_ _
          refine NoPanic.normal ?_
          have OD : Hid (Od w (w.heap.size + 1) g h ⟨b1, a, k, c, a', k', c'⟩ ⟨b2, p, l, e, p', l', e'⟩ x y x' y' W109) := ⟨G_6.out, H_6.out, P_6.out, D_6.out, Q_6.out, E_6.out, FB.out, QB.out, LG.out, LH.out, J_6.out.bel⟩
          go_wp2_with fail
          go_meet
          case rel => exact ⟨g, h, _, _, rfl, rfl, OD.out, J_6.out⟩
      · go_simp
        have bc := bel_one WD (.cells #[.bool false, .slice none 0 0, .slice none 0 0] 53)
        have LH : Hid (w.heap.size + 1 < WD.heap.size) := J_0.out.lo
        have J_1 := Lib.hid (J_0.out.keep bc)
        clear J_0
        have H_1 : Hid (B3 (WD.alloc (.cells #[.bool false, .slice none 0 0, .slice none 0 0] 53)) WD.heap.size (.bool false) (.slice none 0 0) (.slice none 0 0)) := B3.made WD _ _ _ _
        have hT := J_1.out.s22
        refine hK.out _ _ hT (fun _ => ?_)
        clear hK K hS bc
        try simp only [Act.put, List.setIfInBounds_toArray, List.set_cons_zero, List.set_cons_succ]
        generalize WD.alloc (.cells #[.bool false, .slice none 0 0, .slice none 0 0] 53) = W110 at *
        generalize WD.heap.size = h at *
        have hS := hT
        clear hT
        refine wpAnyH_ready (rs := [1, 4]) (by kernel_rfl) (by simp) ?_
        refine AllReadyH.cons rfl (fun K hK => ?_) (AllReadyH.cons rfl (fun K hK => ?_) AllReadyH.nil)
        · go_simp
          (refine (O1.out W110).mono ?_)
          rintro e W111 ⟨a, k, c, a', k', c', rfl, hp, hd, bc⟩
          try go_simp
          have J_2 := Lib.hid (J_1.out.keep bc)
          have H_2 := Lib.hid (H_1.out.keep bc)
          clear J_1 H_1
          have P_2 := Lib.hid hp
          have D_2 := Lib.hid hd
          have hT := J_2.out.s22
          refine hK.out _ _ hT (fun _ => ?_)
          clear hK K hS bc hp hd
          have hS := hT
          clear hT
          try simp only [Act.put, List.setIfInBounds_toArray, List.set_cons_zero, List.set_cons_succ]
          refine wpAnyH_ready (rs := [3, 4]) (by kernel_rfl) (by simp) ?_
          refine AllReadyH.cons rfl (fun K hK => ?_) (AllReadyH.cons rfl (fun K hK => ?_) AllReadyH.nil)
          · go_simp
            (refine (O2.out W111).mono ?_)
            rintro e W112 ⟨p, l, e, p', l', e', rfl, hp, hd, bc⟩
            try go_simp
            have J_3 := Lib.hid (J_2.out.keep bc)
            have H_3 := Lib.hid (H_2.out.keep bc)
            have P_3 := Lib.hid (P_2.out.below bc)
            have D_3 := Lib.hid (D_2.out.below bc)
            clear J_2 H_2 P_2 D_2
            have Q_3 := Lib.hid hp
            have E_3 := Lib.hid hd
            have hT := J_3.out.s22
            refine hK.out _ _ hT (fun _ => ?_)
            clear hK K hS bc hp hd
            have hS := hT
            clear hT
            try simp only [Act.put, List.setIfInBounds_toArray, List.set_cons_zero, List.set_cons_succ]
            refine wpAnyH_ready (rs := [4]) (by kernel_rfl) (by simp) ?_
            refine AllReadyH.cons rfl (fun K hK => ?_) AllReadyH.nil
            go_simp
            have bc := bel_one W112 (.cells #[.bool false, .slice none 0 0, .slice none 0 0] 53)
            have LG : Hid (w.heap.size + 1 < W112.heap.size) := J_3.out.lo
            have NE : Hid (h ≠ W112.heap.size) := by have := H_3.out.lt; unfold Hid; omega
            have J_4 := Lib.hid (J_3.out.keep bc)
            have H_4 := Lib.hid (H_3.out.keep bc)
            have P_4 := Lib.hid (P_3.out.below bc)
            have D_4 := Lib.hid (D_3.out.below bc)
            have Q_4 := Lib.hid (Q_3.out.below bc)
            have E_4 := Lib.hid (E_3.out.below bc)
            clear J_3 H_3 P_3 D_3 Q_3 E_3
            have G_4 : Hid (B3 (W112.alloc (.cells #[.bool false, .slice none 0 0, .slice none 0 0] 53)) W112.heap.size (.bool false) (.slice none 0 0) (.slice none 0 0)) := B3.made W112 _ _ _ _
            have hT := J_4.out.s22
            refine hK.out _ _ hT (fun _ => ?_)
            clear hK K hS bc
            try simp only [Act.put, List.setIfInBounds_toArray, List.set_cons_zero, List.set_cons_succ]
            generalize W112.alloc (.cells #[.bool false, .slice none 0 0, .slice none 0 0] 53) = W113 at *
            generalize W112.heap.size = g at *
            have hS := hT
            clear hT
            refine wpAnyH_ready (rs := [6]) (by kernel_rfl) (by simp) ?_
            refine AllReadyH.cons rfl (fun K hK => ?_) AllReadyH.nil
            have q0 := G_4.out.c0
            have q1 := G_4.out.c1
            have q2 := G_4.out.c2
            have g0 := G_4.out.fr 0
            have g1 := G_4.out.fr 1
            have g2 := G_4.out.fr 2
            go_simp
            clear q0 q1 q2 g0 g1 g2
            have jj := J_4.out.three LG.out (.bool b1) (.slice a k c) (.slice a' k' c')
            have gg := G_4.out.set (.bool b1) (.slice a k c) (.slice a' k' c')
            have hh := H_4.out.other (NE.out.symm) (.bool b1) (.slice a k c) (.slice a' k' c')
            have pp := P_4.out.set3 G_4.out (.bool b1) (.slice a k c) (.slice a' k' c')
            have dd := D_4.out.set3 G_4.out (.bool b1) (.slice a k c) (.slice a' k' c')
            have qq := Q_4.out.set3 G_4.out (.bool b1) (.slice a k c) (.slice a' k' c')
            have ee := E_4.out.set3 G_4.out (.bool b1) (.slice a k c) (.slice a' k' c')
            have hT := jj.s22
            clear J_4 G_4 H_4 P_4 D_4 Q_4 E_4
            unfold three at jj gg hh pp dd qq ee hT
            refine hK.out _ _ hT (fun _ => ?_)
            clear hK K hS
            try simp only [Act.put, List.setIfInBounds_toArray, List.set_cons_zero, List.set_cons_succ]
            generalize ((W113.setCell ⟨g, 0, none⟩ (.bool b1)).setCell ⟨g, 1, none⟩ (.slice a k c)).setCell ⟨g, 2, none⟩ (.slice a' k' c') = W114 at *
            have J_5 := Lib.hid jj
            have G_5 := Lib.hid gg
            have H_5 := Lib.hid hh
            have P_5 := Lib.hid pp
            have D_5 := Lib.hid dd
            have Q_5 := Lib.hid qq
            have E_5 := Lib.hid ee
            clear jj gg hh pp dd qq ee
            have hS := hT
            clear hT
            refine wpAnyH_ready (rs := [7]) (by kernel_rfl) (by simp) ?_
            refine AllReadyH.cons rfl (fun K hK => ?_) AllReadyH.nil
            have q0 := H_5.out.c0
            have q1 := H_5.out.c1
            have q2 := H_5.out.c2
            have g0 := H_5.out.fr 0
            have g1 := H_5.out.fr 1
            have g2 := H_5.out.fr 2
            go_simp
            clear q0 q1 q2 g0 g1 g2
            have jj := J_5.out.three LH.out (.bool b2) (.slice p l e) (.slice p' l' e')
            have gg := H_5.out.set (.bool b2) (.slice p l e) (.slice p' l' e')
            have hh := G_5.out.other (NE.out) (.bool b2) (.slice p l e) (.slice p' l' e')
            have pp := P_5.out.set3 H_5.out (.bool b2) (.slice p l e) (.slice p' l' e')
            have dd := D_5.out.set3 H_5.out (.bool b2) (.slice p l e) (.slice p' l' e')
            have qq := Q_5.out.set3 H_5.out (.bool b2) (.slice p l e) (.slice p' l' e')
            have ee := E_5.out.set3 H_5.out (.bool b2) (.slice p l e) (.slice p' l' e')
            have hT := jj.s22
            clear J_5 G_5 H_5 P_5 D_5 Q_5 E_5
            unfold three at jj gg hh pp dd qq ee hT
            refine hK.out _ _ hT (fun _ => ?_)
            clear hK K hS
            try simp only [Act.put, List.setIfInBounds_toArray, List.set_cons_zero, List.set_cons_succ]
            generalize ((W114.setCell ⟨h, 0, none⟩ (.bool b2)).setCell ⟨h, 1, none⟩ (.slice p l e)).setCell ⟨h, 2, none⟩ (.slice p' l' e') = W115 at *
            have J_6 := Lib.hid jj
            have H_6 := Lib.hid gg
            have G_6 := Lib.hid hh
            have P_6 := Lib.hid pp
            have D_6 := Lib.hid dd
            have Q_6 := Lib.hid qq
            have E_6 := Lib.hid ee
            clear jj gg hh pp dd qq ee
            have hS := hT
            clear hT
            refine wpAnyH_done (by kernel_rfl) ?_ _
            refine NoPanic.normal ?_
            have OD : Hid (Od w (w.heap.size + 1) g h ⟨b1, a, k, c, a', k', c'⟩ ⟨b2, p, l, e, p', l', e'⟩ x y x' y' W115) := ⟨G_6.out, H_6.out, P_6.out, D_6.out, Q_6.out, E_6.out, FB.out, QB.out, LG.out, LH.out, J_6.out.bel⟩
            go_wp2_with fail
            go_meet
            case rel => exact ⟨g, h, _, _, rfl, rfl, OD.out, J_6.out⟩
          · go_simp
            have bc := bel_one W111 (.cells #[.bool false, .slice none 0 0, .slice none 0 0] 53)
            have LG : Hid (w.heap.size + 1 < W111.heap.size) := J_2.out.lo
            have NE : Hid (h ≠ W111.heap.size) := by have := H_2.out.lt; unfold Hid; omega
            have J_3 := Lib.hid (J_2.out.keep bc)
            have H_3 := Lib.hid (H_2.out.keep bc)
            have P_3 := Lib.hid (P_2.out.below bc)
            have D_3 := Lib.hid (D_2.out.below bc)
            clear J_2 H_2 P_2 D_2
            have G_3 : Hid (B3 (W111.alloc (.cells #[.bool false, .slice none 0 0, .slice none 0 0] 53)) W111.heap.size (.bool false) (.slice none 0 0) (.slice none 0 0)) := B3.made W111 _ _ _ _
            have hT := J_3.out.s22
            refine hK.out _ _ hT (fun _ => ?_)
            clear hK K hS bc
            try simp only [Act.put, List.setIfInBounds_toArray, List.set_cons_zero, List.set_cons_succ]
            generalize W111.alloc (.cells #[.bool false, .slice none 0 0, .slice none 0 0] 53) = W116 at *
            generalize W111.heap.size = g at *
            have hS := hT
            clear hT
            refine wpAnyH_ready (rs := [3]) (by kernel_rfl) (by simp) ?_
            refine AllReadyH.cons rfl (fun K hK => ?_) AllReadyH.nil
            go_simp
            (refine (O2.out W116).mono ?_)
            rintro e W117 ⟨p, l, e, p', l', e', rfl, hp, hd, bc⟩
            try go_simp
            have J_4 := Lib.hid (J_3.out.keep bc)
            have H_4 := Lib.hid (H_3.out.keep bc)
            have P_4 := Lib.hid (P_3.out.below bc)
            have D_4 := Lib.hid (D_3.out.below bc)
            have G_4 := Lib.hid (G_3.out.keep bc)
            clear J_3 H_3 P_3 D_3 G_3
            have Q_4 := Lib.hid hp
            have E_4 := Lib.hid hd
            have hT := J_4.out.s22
            refine hK.out _ _ hT (fun _ => ?_)
            clear hK K hS bc hp hd
            have hS := hT
            clear hT
            try simp only [Act.put, List.setIfInBounds_toArray, List.set_cons_zero, List.set_cons_succ]
            refine wpAnyH_ready (rs := [6]) (by kernel_rfl) (by simp) ?_
            refine AllReadyH.cons rfl (fun K hK => ?_) AllReadyH.nil
            have q0 := G_4.out.c0
            have q1 := G_4.out.c1
            have q2 := G_4.out.c2
            have g0 := G_4.out.fr 0
            have g1 := G_4.out.fr 1
            have g2 := G_4.out.fr 2
            go_simp
            clear q0 q1 q2 g0 g1 g2
            have jj := J_4.out.three LG.out (.bool b1) (.slice a k c) (.slice a' k' c')
            have gg := G_4.out.set (.bool b1) (.slice a k c) (.slice a' k' c')
            have hh := H_4.out.other (NE.out.symm) (.bool b1) (.slice a k c) (.slice a' k' c')
            have pp := P_4.out.set3 G_4.out (.bool b1) (.slice a k c) (.slice a' k' c')
            have dd := D_4.out.set3 G_4.out (.bool b1) (.slice a k c) (.slice a' k' c')
            have qq := Q_4.out.set3 G_4.out (.bool b1) (.slice a k c) (.slice a' k' c')
            have ee := E_4.out.set3 G_4.out (.bool b1) (.slice a k c) (.slice a' k' c')
            have hT := jj.s22
            clear J_4 G_4 H_4 P_4 D_4 Q_4 E_4
            unfold three at jj gg hh pp dd qq ee hT
            refine hK.out _ _ hT (fun _ => ?_)
            clear hK K hS
            try simp only [Act.put, List.setIfInBounds_toArray, List.set_cons_zero, List.set_cons_succ]
            generalize ((W117.setCell ⟨g, 0, none⟩ (.bool b1)).setCell ⟨g, 1, none⟩ (.slice a k c)).setCell ⟨g, 2, none⟩ (.slice a' k' c') = W118 at *
            have J_5 := Lib.hid jj
            have G_5 := Lib.hid gg
            have H_5 := Lib.hid hh
            have P_5 := Lib.hid pp
            have D_5 := Lib.hid dd
            have Q_5 := Lib.hid qq
            have E_5 := Lib.hid ee
            clear jj gg hh pp dd qq ee
            have hS := hT
            clear hT
            refine wpAnyH_ready (rs := [7]) (by kernel_rfl) (by simp) ?_
            refine AllReadyH.cons rfl (fun K hK => ?_) AllReadyH.nil
            have q0 := H_5.out.c0
            have q1 := H_5.out.c1
            have q2 := H_5.out.c2
            have g0 := H_5.out.fr 0
            have g1 := H_5.out.fr 1
            have g2 := H_5.out.fr 2
            go_simp
            clear q0 q1 q2 g0 g1 g2
            have jj := J_5.out.three LH.out (.bool b2) (.slice p l e) (.slice p' l' e')
            have gg := H_5.out.set (.bool b2) (.slice p l e) (.slice p' l' e')
            have hh := G_5.out.other (NE.out) (.bool b2) (.slice p l e) (.slice p' l' e')
            have pp := P_5.out.set3 H_5.out (.bool b2) (.slice p l e) (.slice p' l' e')
            have dd := D_5.out.set3 H_5.out (.bool b2) (.slice p l e) (.slice p' l' e')
            have qq := Q_5.out.set3 H_5.out (.bool b2) (.slice p l e) (.slice p' l' e')
            have ee := E_5.out.set3 H_5.out (.bool b2) (.slice p l e) (.slice p' l' e')
            have hT := jj.s22
            clear J_5 G_5 H_5 P_5 D_5 Q_5 E_5
            unfold three at jj gg hh pp dd qq ee hT
            refine hK.out _ _ hT (fun _ => ?_)
            clear hK K hS
            try simp only [Act.put, List.setIfInBounds_toArray, List.set_cons_zero, List.set_cons_succ]
            generalize ((W118.setCell ⟨h, 0, none⟩ (.bool b2)).setCell ⟨h, 1, none⟩ (.slice p l e)).setCell ⟨h, 2, none⟩ (.slice p' l' e') = W119 at *
            have J_6 := Lib.hid jj
            have H_6 := Lib.hid gg
            have G_6 := Lib.hid hh
            have P_6 := Lib.hid pp
            have D_6 := Lib.hid dd
            have Q_6 := Lib.hid qq
            have E_6 := Lib.hid ee
            clear jj gg hh pp dd qq ee
            have hS := hT
            clear hT
            refine wpAnyH_done (by kernel_rfl) ?_ _
            refine NoPanic.normal ?_
            have OD : Hid (Od w (w.heap.size + 1) g h ⟨b1, a, k, c, a', k', c'⟩ ⟨b2, p, l, e, p', l', e'⟩ x y x' y' W119) := ⟨G_6.out, H_6.out, P_6.out, D_6.out, Q_6.out, E_6.out, FB.out, QB.out, LG.out, LH.out, J_6.out.bel⟩
            go_wp2_with fail
            go_meet
            case rel => exact ⟨g, h, _, _, rfl, rfl, OD.out, J_6.out⟩
        · go_simp
          have bc := bel_one W110 (.cells #[.bool false, .slice none 0 0, .slice none 0 0] 53)
          have LG : Hid (w.heap.size + 1 < W110.heap.size) := J_1.out.lo
          have NE : Hid (h ≠ W110.heap.size) := by have := H_1.out.lt; unfold Hid; omega
          have J_2 := Lib.hid (J_1.out.keep bc)
          have H_2 := Lib.hid (H_1.out.keep bc)
          clear J_1 H_1
          have G_2 : Hid (B3 (W110.alloc (.cells #[.bool false, .slice none 0 0, .slice none 0 0] 53)) W110.heap.size (.bool false) (.slice none 0 0) (.slice none 0 0)) := B3.made W110 _ _ _ _
          have hT := J_2.out.s22
          refine hK.out _ _ hT (fun _ => ?_)
          clear hK K hS bc
          try simp only [Act.put, List.setIfInBounds_toArray, List.set_cons_zero, List.set_cons_succ]
          generalize W110.alloc (.cells #[.bool false, .slice none 0 0, .slice none 0 0] 53) = W120 at *
          generalize W110.heap.size = g at *
          have hS := hT
          clear hT
          refine wpAnyH_ready (rs := [1]) (by kernel_rfl) (by simp) ?_
          refine AllReadyH.cons rfl (fun K hK => ?_) AllReadyH.nil
          go_simp
          (refine (O1.out W120).mono ?_)
          rintro e W121 ⟨a, k, c, a', k', c', rfl, hp, hd, bc⟩
          try go_simp
          have J_3 := Lib.hid (J_2.out.keep bc)
          have H_3 := Lib.hid (H_2.out.keep bc)
          have G_3 := Lib.hid (G_2.out.keep bc)
          clear J_2 H_2 G_2
          have P_3 := Lib.hid hp
          have D_3 := Lib.hid hd
          have hT := J_3.out.s22
          refine hK.out _ _ hT (fun _ => ?_)
          clear hK K hS bc hp hd
          have hS := hT
          clear hT
          try simp only [Act.put, List.setIfInBounds_toArray, List.set_cons_zero, List.set_cons_succ]
          refine wpAnyH_ready (rs := [3]) (by kernel_rfl) (by simp) ?_
          refine AllReadyH.cons rfl (fun K hK => ?_) AllReadyH.nil
          go_simp
          (refine (O2.out W121).mono ?_)
          rintro e W122 ⟨p, l, e, p', l', e', rfl, hp, hd, bc⟩
          try go_simp
          have J_4 := Lib.hid (J_3.out.keep bc)
          have H_4 := Lib.hid (H_3.out.keep bc)
          have G_4 := Lib.hid (G_3.out.keep bc)
          have P_4 := Lib.hid (P_3.out.below bc)
          have D_4 := Lib.hid (D_3.out.below bc)
          clear J_3 H_3 G_3 P_3 D_3
          have Q_4 := Lib.hid hp
          have E_4 := Lib.hid hd
          have hT := J_4.out.s22
          refine hK.out _ _ hT (fun _ => ?_)
          clear hK K hS bc hp hd
          have hS := hT
          clear hT
          try simp only [Act.put, List.setIfInBounds_toArray, List.set_cons_zero, List.set_cons_succ]
          refine wpAnyH_ready (rs := [6]) (by kernel_rfl) (by simp) ?_
          refine AllReadyH.cons rfl (fun K hK => ?_) AllReadyH.nil
          have q0 := G_4.out.c0
          have q1 := G_4.out.c1
          have q2 := G_4.out.c2
          have g0 := G_4.out.fr 0
          have g1 := G_4.out.fr 1
          have g2 := G_4.out.fr 2
          go_simp
          clear q0 q1 q2 g0 g1 g2
          have jj := J_4.out.three LG.out (.bool b1) (.slice a k c) (.slice a' k' c')
          have gg := G_4.out.set (.bool b1) (.slice a k c) (.slice a' k' c')
          have hh := H_4.out.other (NE.out.symm) (.bool b1) (.slice a k c) (.slice a' k' c')
          have pp := P_4.out.set3 G_4.out (.bool b1) (.slice a k c) (.slice a' k' c')
          have dd := D_4.out.set3 G_4.out (.bool b1) (.slice a k c) (.slice a' k' c')
          have qq := Q_4.out.set3 G_4.out (.bool b1) (.slice a k c) (.slice a' k' c')
          have ee := E_4.out.set3 G_4.out (.bool b1) (.slice a k c) (.slice a' k' c')
          have hT := jj.s22
          clear J_4 G_4 H_4 P_4 D_4 Q_4 E_4
          unfold three at jj gg hh pp dd qq ee hT
          refine hK.out _ _ hT (fun _ => ?_)
          clear hK K hS
          try simp only [Act.put, List.setIfInBounds_toArray, List.set_cons_zero, List.set_cons_succ]
          generalize ((W122.setCell ⟨g, 0, none⟩ (.bool b1)).setCell ⟨g, 1, none⟩ (.slice a k c)).setCell ⟨g, 2, none⟩ (.slice a' k' c') = W123 at *
          have J_5 := Lib.hid jj
          have G_5 := Lib.hid gg
          have H_5 := Lib.hid hh
          have P_5 := Lib.hid pp
          have D_5 := Lib.hid dd
          have Q_5 := Lib.hid qq
          have E_5 := Lib.hid ee
          clear jj gg hh pp dd qq ee
          have hS := hT
          clear hT
          refine wpAnyH_ready (rs := [7]) (by kernel_rfl) (by simp) ?_
          refine AllReadyH.cons rfl (fun K hK => ?_) AllReadyH.nil
          have q0 := H_5.out.c0
          have q1 := H_5.out.c1
          have q2 := H_5.out.c2
          have g0 := H_5.out.fr 0
          have g1 := H_5.out.fr 1
          have g2 := H_5.out.fr 2
          go_simp
          clear q0 q1 q2 g0 g1 g2
          have jj := J_5.out.three LH.out (.bool b2) (.slice p l e) (.slice p' l' e')
          have gg := H_5.out.set (.bool b2) (.slice p l e) (.slice p' l' e')
          have hh := G_5.out.other (NE.out) (.bool b2) (.slice p l e) (.slice p' l' e')
          have pp := P_5.out.set3 H_5.out (.bool b2) (.slice p l e) (.slice p' l' e')
          have dd := D_5.out.set3 H_5.out (.bool b2) (.slice p l e) (.slice p' l' e')
          have qq := Q_5.out.set3 H_5.out (.bool b2) (.slice p l e) (.slice p' l' e')
          have ee := E_5.out.set3 H_5.out (.bool b2) (.slice p l e) (.slice p' l' e')
          have hT := jj.s22
          clear J_5 G_5 H_5 P_5 D_5 Q_5 E_5
          unfold three at jj gg hh pp dd qq ee hT
          refine hK.out _ _ hT (fun _ => ?_)
          clear hK K hS
          try simp only [Act.put, List.setIfInBounds_toArray, List.set_cons_zero, List.set_cons_succ]
          generalize ((W123.setCell ⟨h, 0, none⟩ (.bool b2)).setCell ⟨h, 1, none⟩ (.slice p l e)).setCell ⟨h, 2, none⟩ (.slice p' l' e') = W124 at *
          have J_6 := Lib.hid jj
          have H_6 := Lib.hid gg
          have G_6 := Lib.hid hh
          have P_6 := Lib.hid pp
          have D_6 := Lib.hid dd
          have Q_6 := Lib.hid qq
          have E_6 := Lib.hid ee
          clear jj gg hh pp dd qq ee
          have hS := hT
          clear hT
          refine wpAnyH_done (by kernel_rfl) ?_ _
          refine NoPanic.normal ?_
          have OD : Hid (Od w (w.heap.size + 1) g h ⟨b1, a, k, c, a', k', c'⟩ ⟨b2, p, l, e, p', l', e'⟩ x y x' y' W124) := ⟨G_6.out, H_6.out, P_6.out, D_6.out, Q_6.out, E_6.out, FB.out, QB.out, LG.out, LH.out, J_6.out.bel⟩
          go_wp2_with fail
          go_meet
          case rel => exact ⟨g, h, _, _, rfl, rfl, OD.out, J_6.out⟩
    case rest =>
      obtain ⟨g, h, f, q, rfl, rfl, hO, hJ⟩ := hcut
      clear J1 O1 O2
      have c0 := hO.out.bf.c0
      have d0 := hO.out.bh.c0
      have fb := Lib.hid hO.out.fb
      have qb := Lib.hid hO.out.qb
      obtain ⟨u, hu⟩ : ∃ u, f.b = u := ⟨_, rfl⟩
      obtain ⟨v, hv⟩ : ∃ v, q.b = v := ⟨_, rfl⟩
      have HU := Lib.hid hu
      have HV := Lib.hid hv
      rw [hu] at c0
      rw [hv] at d0
      clear hu hv
      by_cases hb : u = v
      · subst hb
        have ZS : Hid (zcmp (x * y') (x' * y) = if u then -(sgn (x.natAbs * y'.natAbs) (x'.natAbs * y.natAbs)) else sgn (x.natAbs * y'.natAbs) (x'.natAbs * y.natAbs)) := by
          unfold Hid
          have e1 := zv_times x y' P2.out
          have e2 := zv_times x' y P1.out
          rw [← fb.out, HU.out] at e1
          rw [← qb.out, HV.out] at e2
          rw [← e1, ← e2]
          exact zcmp_same u _ _
        go_wp2_with fail
        clear c0 d0
        refine wp_region_noPanic ?_
        refine wp_region_held_drew (S := S33 g h f q) (by kernel_rfl) (hO.out.keep (Below.refl _ _).drew).s33 (fun hS => ?_)
        have O_0 := Lib.hid (hO.out.keep (Below.refl _ _).drew)
        have J_0 := Lib.hid (hJ.out.keep (Below.refl _ _).drew)
        clear hO hJ
        generalize wc.drew = WD at *
        refine wpAnyH_take (i := 0) (v := ?v0z70) rfl (by kernel_rfl) (by kernel_rfl) (by kernel_rfl) (fun _ _ _ h => h) (Or.inl ⟨by rfl, ?hy0z70⟩) (by assumption) ?rest0z70
        case hy0z70 =>
          intro w hSw
          dsimp only [S33] at hSw
          go_simp
          try with_reducible rfl
        simp only [Act.put, List.getElem_toArray, List.getElem_cons_succ, List.getElem_cons_zero, List.setIfInBounds_toArray, List.set_cons_zero, List.set_cons_succ]
        refine wpAnyH_take (i := 1) (v := ?v1z71) rfl (by kernel_rfl) (by kernel_rfl) (by kernel_rfl) (fun _ _ _ h => h) (Or.inl ⟨by rfl, ?hy1z71⟩) (by assumption) ?rest1z71
        case hy1z71 =>
          intro w hSw
          dsimp only [S33] at hSw
          go_simp
          try with_reducible rfl
        simp only [Act.put, List.getElem_toArray, List.getElem_cons_succ, List.getElem_cons_zero, List.setIfInBounds_toArray, List.set_cons_zero, List.set_cons_succ]
        refine wpAnyH_take (i := 2) (v := ?v2z72) rfl (by kernel_rfl) (by kernel_rfl) (by kernel_rfl) (fun _ _ _ h => h) (Or.inl ⟨by rfl, ?hy2z72⟩) (by assumption) ?rest2z72
        case hy2z72 =>
          intro w hSw
          dsimp only [S33] at hSw
          go_simp
          try with_reducible rfl
        simp only [Act.put, List.getElem_toArray, List.getElem_cons_succ, List.getElem_cons_zero, List.setIfInBounds_toArray, List.set_cons_zero, List.set_cons_succ]
        refine wpAnyH_take (i := 3) (v := ?v3z73) rfl (by kernel_rfl) (by kernel_rfl) (by kernel_rfl) (fun _ _ _ h => h) (Or.inl ⟨by rfl, ?hy3z73⟩) (by assumption) ?rest3z73
        case hy3z73 =>
          intro w hSw
          dsimp only [S33] at hSw
          go_simp
          try with_reducible rfl
        simp only [Act.put, List.getElem_toArray, List.getElem_cons_succ, List.getElem_cons_zero, List.setIfInBounds_toArray, List.set_cons_zero, List.set_cons_succ]
        refine wpAnyH_take (i := 5) (v := ?v5z74) rfl (by kernel_rfl) (by kernel_rfl) (by kernel_rfl) (fun _ _ _ h => h) (Or.inl ⟨by rfl, ?hy5z74⟩) (by assumption) ?rest5z74
        case hy5z74 =>
          intro w hSw
          dsimp only [S33] at hSw
          go_simp
          try with_reducible rfl
        simp only [Act.put, List.getElem_toArray, List.getElem_cons_succ, List.getElem_cons_zero, List.setIfInBounds_toArray, List.set_cons_zero, List.set_cons_succ]
        refine wpAnyH_take (i := 6) (v := ?v6z75) rfl (by kernel_rfl) (by kernel_rfl) (by kernel_rfl) (fun _ _ _ h => h) (Or.inl ⟨by rfl, ?hy6z75⟩) (by assumption) ?rest6z75
        case hy6z75 =>
          intro w hSw
          dsimp only [S33] at hSw
          go_simp
          try with_reducible rfl
        simp only [Act.put, List.getElem_toArray, List.getElem_cons_succ, List.getElem_cons_zero, List.setIfInBounds_toArray, List.set_cons_zero, List.set_cons_succ]
        refine wpAnyH_take (i := 7) (v := ?v7z76) rfl (by kernel_rfl) (by kernel_rfl) (by kernel_rfl) (fun _ _ _ h => h) (Or.inl ⟨by rfl, ?hy7z76⟩) (by assumption) ?rest7z76
        case hy7z76 =>
          intro w hSw
          dsimp only [S33] at hSw
          go_simp
          try with_reducible rfl
        simp only [Act.put, List.getElem_toArray, List.getElem_cons_succ, List.getElem_cons_zero, List.setIfInBounds_toArray, List.set_cons_zero, List.set_cons_succ]
        refine wpAnyH_take (i := 8) (v := ?v8z77) rfl (by kernel_rfl) (by kernel_rfl) (by kernel_rfl) (fun _ _ _ h => h) (Or.inl ⟨by rfl, ?hy8z77⟩) (by assumption) ?rest8z77
        case hy8z77 =>
          intro w hSw
          dsimp only [S33] at hSw
          go_simp
          try with_reducible rfl
        simp only [Act.put, List.getElem_toArray, List.getElem_cons_succ, List.getElem_cons_zero, List.setIfInBounds_toArray, List.set_cons_zero, List.set_cons_succ]
        refine wpAnyH_ready (rs := [4]) (by kernel_rfl) (by simp) ?_
        refine AllReadyH.cons rfl (fun K hK => ?_) AllReadyH.nil
        go_simp
        (refine (ntimes_c f.a q.a' f.k q.k' f.c q.c' _ _ _ O_0.out.n O_0.out.d' (by have := O_0.out.n.len V1.out.2.2; have := O_0.out.d'.len V2.out.2.1; omega)).mono ?_)
        rintro e V125 ⟨pa, pk, pc, rfl, hp, bc⟩
        try go_simp
        have O_1 := Lib.hid (O_0.out.keep bc)
        have J_1 := Lib.hid (J_0.out.keep bc)
        clear O_0 J_0
        have P_1 := Lib.hid hp
        have hT := O_1.out.s33
        refine hK.out _ _ hT (fun _ => ?_)
        clear hK K hS bc hp
        have hS := hT
        clear hT
        try simp only [Act.put, List.setIfInBounds_toArray, List.set_cons_zero, List.set_cons_succ]
        refine wpAnyH_ready (rs := [9]) (by kernel_rfl) (by simp) ?_
        refine AllReadyH.cons rfl (fun K hK => ?_) AllReadyH.nil
        go_simp
        (refine (ntimes_c q.a f.a' q.k f.k' q.c f.c' _ _ _ O_1.out.n' O_1.out.d (by have := O_1.out.n'.len V2.out.2.2; have := O_1.out.d.len V1.out.2.1; omega)).mono ?_)
        rintro e V126 ⟨qa, qk, qc, rfl, hq, bc⟩
        try go_simp
        have O_2 := Lib.hid (O_1.out.keep bc)
        have J_2 := Lib.hid (J_1.out.keep bc)
        have P_2 := Lib.hid (P_1.out.below bc)
        clear O_1 J_1 P_1
        have Q_2 := Lib.hid hq
        have hT := O_2.out.s33
        refine hK.out _ _ hT (fun _ => ?_)
        clear hK K hS bc hq
        have hS := hT
        clear hT
        try simp only [Act.put, List.setIfInBounds_toArray, List.set_cons_zero, List.set_cons_succ]
        have HO := Lib.hid (norder_c pa qa pk qk pc qc _ _ _ P_2.out Q_2.out)
        obtain ⟨sg, hsg⟩ : ∃ sg, sgn (x.natAbs * y'.natAbs) (x'.natAbs * y.natAbs) = sg := ⟨_, rfl⟩
        rw [hsg] at HO
        have sgb : -1 ≤ sg ∧ sg ≤ 1 := by rw [← hsg]; unfold sgn; split <;> (try split) <;> omega
        have ZS2 : Hid (zcmp (x * y') (x' * y) = if u then -sg else sg) := by unfold Hid; rw [ZS.out, hsg]
        clear hsg ZS
        refine wpAnyH_ready (rs := [10]) (by kernel_rfl) (by simp) ?_
        refine AllReadyH.cons rfl (fun K hK => ?_) AllReadyH.nil
        go_simp
        (refine HO.out.mono ?_)
        rintro e V9 ⟨rfl, m, rfl⟩
        try go_simp
        have bc := bel_drewN V126 m
        have O_3 := Lib.hid (O_2.out.keep bc)
        have hT := O_3.out.s33
        refine hK.out _ _ hT (fun _ => ?_)
        clear hK K hS bc O_2 HO P_2 Q_2 J_2
        generalize V126.drewN m = V9 at *
        have hS := hT
        clear hT
        try simp only [Act.put, List.setIfInBounds_toArray, List.set_cons_zero, List.set_cons_succ]
        refine wpAnyH_take (i := 11) (v := ?v11z78) rfl (by kernel_rfl) (by kernel_rfl) (by kernel_rfl) (fun _ _ _ h => h) (Or.inl ⟨by rfl, ?hy11z78⟩) (by assumption) ?rest11z78
        case hy11z78 =>
          intro w hSw
          dsimp only [S33] at hSw
          go_simp
          try with_reducible rfl
        simp only [Act.put, List.getElem_toArray, List.getElem_cons_succ, List.getElem_cons_zero, List.setIfInBounds_toArray, List.set_cons_zero, List.set_cons_succ]
        refine wpAnyH_done (by kernel_rfl) ?_ _
        refine NoPanic.normal ?_
        clear hS
        have c0 := O_3.out.bf.c0
        rw [HU.out] at c0
        obtain ⟨sb1, sb2⟩ := sgb
        cases u
        · have RS2 : Hid (orS s.data.toList t.data.toList s'.data.toList t'.data.toList = (sg, 0)) := by unfold Hid; rw [RS.out, ZS2.out]; rfl
          clear RS ZS2
          go_wp2_with fail
          go_ret2
          exact ⟨by rw [RS2.out]; rfl, O_3.out.bel⟩
        · obtain ⟨ng, hng⟩ : ∃ ng, -sg = ng := ⟨_, rfl⟩
          have hw : IntKind.i64.wrap ng = ng := by rw [IntKind.wrap_i64]; omega
          have RS2 : Hid (orS s.data.toList t.data.toList s'.data.toList t'.data.toList = (ng, 0)) := by unfold Hid; rw [RS.out, ZS2.out, ← hng]; rfl
          clear RS ZS2
          go_wp2_with fail
          go_ret2
          exact ⟨by rw [RS2.out]; rfl, O_3.out.bel⟩
      · have z1 : x < 0 ↔ u = true := by rw [← HU.out, fb.out]; simp
        have z2 : x' < 0 ↔ v = true := by rw [← HV.out, qb.out]; simp
        cases u
        · obtain rfl : v = true := by cases v; exact absurd rfl hb; rfl
          have ZR : Hid (zcmp (x * y') (x' * y) = 1) := zcmp_pos (Int.mul_nonneg (by have := fun h => (z1.1 h); simp at this; omega) (by have := P2.out; omega)) (Int.mul_neg_of_neg_of_pos (z2.2 rfl) P1.out)
          have RS2 : Hid (orS s.data.toList t.data.toList s'.data.toList t'.data.toList = (1, 0)) := by unfold Hid; rw [RS.out, ZR.out]
          clear ZR RS hb z1 z2
          go_wp2_with fail
          go_ret2
          exact ⟨by rw [RS2.out]; rfl, hJ.out.bel⟩
        · obtain rfl : v = false := by cases v; rfl; exact absurd rfl hb
          have ZR : Hid (zcmp (x * y') (x' * y) = -1) := zcmp_neg (Int.mul_neg_of_neg_of_pos (z1.2 rfl) P2.out) (Int.mul_nonneg (by have := fun h => (z2.1 h); simp at this; omega) (by have := P1.out; omega))
          have RS2 : Hid (orS s.data.toList t.data.toList s'.data.toList t'.data.toList = (-1, 0)) := by unfold Hid; rw [RS.out, ZR.out]
          clear ZR RS hb z1 z2
          go_wp2_with fail
          go_ret2
          exact ⟨by rw [RS2.out]; rfl, hJ.out.bel⟩
  · have hne : (flt == 0) = false := by rw [beq_eq_false_iff_ne]; exact hz
    have hne2 : (flt != 0) = true := by simp [hz]
    have RS2 : Hid (orS s.data.toList t.data.toList s'.data.toList t'.data.toList = (0, flt)) := by unfold Hid; rw [← HF.out]; exact bk_orS (by rw [HF.out]; exact hz)
    clear hz HF
    go_wp2_with fail
    go_ret2
    exact ⟨by rw [RS2.out]; rfl, J1.out.bel⟩
end Go.Proofs.YtfijhkaalpinhaaGreatDoor
