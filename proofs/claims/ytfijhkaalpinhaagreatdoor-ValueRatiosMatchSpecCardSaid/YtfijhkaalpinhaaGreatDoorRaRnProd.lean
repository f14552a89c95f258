/-
  Ratios in the reference: Product.
-/
import Derived.Test.YtfijhkaalpinhaaGreatDoorRa16
namespace Go.Proofs.YtfijhkaalpinhaaGreatDoor
open Go.RowKit

set_option maxRecDepth 100000 in
set_option maxHeartbeats 4000000 in
theorem rProduct_c (s t s' t' : ByteArray) (w : World) (hE : Pow w) :
    Calls Tryz.prog 12 #[.agg #[.string s, .string t], .agg #[.string s', .string t']] w (OpPost (opS fMul s.data.toList t.data.toList s'.data.toList t'.data.toList) w) := by
  obtain ⟨W0, hW0⟩ : ∃ W0, ((w.alloc (.cells #[.string s, .string t] 23)).alloc (.cells #[.string s', .string t'] 23)).alloc (.cells #[.string ⟨#[]⟩, .string ⟨#[]⟩] 23) = W0 := ⟨_, rfl⟩
  have J0 : Hid (Sa w s t s' t' W0) := by rw [← hW0]; exact Sa.made _ _ _ _ _ _ _ _
  have x0 := J0.out.x.c0
  have x1 := J0.out.x.c1
  have y0 := J0.out.y.c0
  have y1 := J0.out.y.c1
  have HE := Lib.hid (fun W (h : Below w.heap.size w W) => hE.below h)
  have HBK := Lib.hid (both_c s t s' t' W0 (HE.out _ J0.out.bel))
  clear hE
  obtain ⟨flt, hflt⟩ : ∃ flt, bk s.data.toList t.data.toList s'.data.toList t'.data.toList = flt := ⟨_, rfl⟩
  rw [hflt] at HBK
  have HF := Lib.hid hflt
  clear hflt
  go_enter Tryz.func12, Tryz.ntmps12
  go_wp2_with fail
  clear hW0 x0 x1 y0 y1
  (with_reducible refine HBK.out.mono ?_)
  rintro e w1 ⟨rfl, b1⟩
  have J1 := Lib.hid (J0.out.keep b1)
  clear b1 J0 HBK
  by_cases hz : flt = 0
  · subst hz
    obtain ⟨x, y, x', y', e1, e2⟩ := bk_zero HF.out
    have O1 := Lib.hid (fun w => open_c s t x y w e1)
    have O2 := Lib.hid (fun w => open_c s' t' x' y' w e2)
    have P1 := Lib.hid (rread_pos' e1)
    have P2 := Lib.hid (rread_pos' e2)
    have V1 := Lib.hid (val_pos_den e1)
    have V2 := Lib.hid (val_pos_den e2)
    have RS : Hid (opS fMul s.data.toList t.data.toList s'.data.toList t'.data.toList = raR (x * x') (y * y')) := by unfold Hid opS; rw [e1, e2]; rfl
    clear e1 e2 HF
    obtain ⟨b1, hb1⟩ : ∃ b, decide (x < 0) = b := ⟨_, rfl⟩
    obtain ⟨b2, hb2⟩ : ∃ b, decide (x' < 0) = b := ⟨_, rfl⟩
    rw [hb1] at O1
    rw [hb2] at O2
    have FB : Hid (b1 = decide (x < 0)) := hb1.symm
    have QB : Hid (b2 = decide (x' < 0)) := hb2.symm
    clear hb1 hb2
    go_upto_region 4 with fail
    go_cut [7, 8] from 16 to 19 (fun v7 v8 wx => ∃ (g h : Nat) (f q : Rq), v7 = .pointer (some ⟨g, 0, none⟩) ∧ v8 = .pointer (some ⟨h, 0, none⟩) ∧ Hid (Od w (w.heap.size + 1 + 1) g h f q x y x' y' wx) ∧ Hid (Sa w s t s' t' wx))
    case first =>
      refine wp_region_noPanic ?_
      refine wp_region_held_drew (S := S22 w.heap.size s t s' t') (by kernel_rfl) (J1.out.keep (Below.refl _ _).drew).s22 (fun hS => ?_)
      have J_0 := Lib.hid (J1.out.keep (Below.refl _ _).drew)
      clear J1
      generalize w1.drew = WD at *
      refine wpAnyH_take (i := 0) (v := ?v0z29) rfl (by kernel_rfl) (by kernel_rfl) (by kernel_rfl) (fun _ _ _ h => h) (Or.inl ⟨by rfl, ?hy0z29⟩) (by assumption) ?rest0z29
      case hy0z29 =>
        intro w hSw
        dsimp only [S22] at hSw
        go_simp
        try with_reducible rfl
      simp only [Act.put, List.getElem_toArray, List.getElem_cons_succ, List.getElem_cons_zero, List.setIfInBounds_toArray, List.set_cons_zero, List.set_cons_succ]
      refine wpAnyH_take (i := 2) (v := ?v2z30) rfl (by kernel_rfl) (by kernel_rfl) (by kernel_rfl) (fun _ _ _ h => h) (Or.inl ⟨by rfl, ?hy2z30⟩) (by assumption) ?rest2z30
      case hy2z30 =>
        intro w hSw
        dsimp only [S22] at hSw
        go_simp
        try with_reducible rfl
      simp only [Act.put, List.getElem_toArray, List.getElem_cons_succ, List.getElem_cons_zero, List.setIfInBounds_toArray, List.set_cons_zero, List.set_cons_succ]
      refine wpAnyH_ready (rs := [1, 4, 5]) (by kernel_rfl) (by simp) ?_
      refine AllReadyH.cons rfl (fun K hK => ?_) (AllReadyH.cons rfl (fun K hK => ?_) (AllReadyH.cons rfl (fun K hK => ?_) AllReadyH.nil))
      · go_simp
        (refine (O1.out WD).mono ?_)
        rintro e W1 ⟨a, k, c, a', k', c', rfl, hp, hd, bc⟩
        try go_simp
        have J_1 := Lib.hid (J_0.out.keep bc)
        clear J_0
        have P_1 := Lib.hid hp
        have D_1 := Lib.hid hd
        have hT := J_1.out.s22
        refine hK.out _ _ hT (fun _ => ?_)
        clear hK K hS bc hp hd
        have hS := hT
        clear hT
        try simp only [Act.put, List.setIfInBounds_toArray, List.set_cons_zero, List.set_cons_succ]
        refine wpAnyH_ready (rs := [3, 4, 5]) (by kernel_rfl) (by simp) ?_
        refine AllReadyH.cons rfl (fun K hK => ?_) (AllReadyH.cons rfl (fun K hK => ?_) (AllReadyH.cons rfl (fun K hK => ?_) AllReadyH.nil))
        · go_simp
          (refine (O2.out W1).mono ?_)
          rintro e W2 ⟨p, l, e, p', l', e', rfl, hp, hd, bc⟩
          try go_simp
          have J_2 := Lib.hid (J_1.out.keep bc)
          have P_2 := Lib.hid (P_1.out.below bc)
          have D_2 := Lib.hid (D_1.out.below bc)
          clear J_1 P_1 D_1
          have Q_2 := Lib.hid hp
          have E_2 := Lib.hid hd
          have hT := J_2.out.s22
          refine hK.out _ _ hT (fun _ => ?_)
          clear hK K hS bc hp hd
          have hS := hT
          clear hT
          try simp only [Act.put, List.setIfInBounds_toArray, List.set_cons_zero, List.set_cons_succ]
          refine wpAnyH_ready (rs := [4, 5]) (by kernel_rfl) (by simp) ?_
          refine AllReadyH.cons rfl (fun K hK => ?_) (AllReadyH.cons rfl (fun K hK => ?_) AllReadyH.nil)
          · go_simp
            have bc := bel_one W2 (.cells #[.bool false, .slice none 0 0, .slice none 0 0] 53)
            have LG : Hid (w.heap.size + 1 + 1 < W2.heap.size) := J_2.out.lo
            have J_3 := Lib.hid (J_2.out.keep bc)
            have P_3 := Lib.hid (P_2.out.below bc)
            have D_3 := Lib.hid (D_2.out.below bc)
            have Q_3 := Lib.hid (Q_2.out.below bc)
            have E_3 := Lib.hid (E_2.out.below bc)
            clear J_2 P_2 D_2 Q_2 E_2
            have G_3 : Hid (B3 (W2.alloc (.cells #[.bool false, .slice none 0 0, .slice none 0 0] 53)) W2.heap.size (.bool false) (.slice none 0 0) (.slice none 0 0)) := B3.made W2 _ _ _ _
            have hT := J_3.out.s22
            refine hK.out _ _ hT (fun _ => ?_)
            clear hK K hS bc
            try simp only [Act.put, List.setIfInBounds_toArray, List.set_cons_zero, List.set_cons_succ]
            generalize W2.alloc (.cells #[.bool false, .slice none 0 0, .slice none 0 0] 53) = W3 at *
            generalize W2.heap.size = g at *
            have hS := hT
            clear hT
            refine wpAnyH_ready (rs := [5]) (by kernel_rfl) (by simp) ?_
            refine AllReadyH.cons rfl (fun K hK => ?_) AllReadyH.nil
            go_simp
            have bc := bel_one W3 (.cells #[.bool false, .slice none 0 0, .slice none 0 0] 53)
            have LH : Hid (w.heap.size + 1 + 1 < W3.heap.size) := J_3.out.lo
            have NE : Hid (g ≠ W3.heap.size) := by have := G_3.out.lt; unfold Hid; omega
            have J_4 := Lib.hid (J_3.out.keep bc)
            have P_4 := Lib.hid (P_3.out.below bc)
            have D_4 := Lib.hid (D_3.out.below bc)
            have Q_4 := Lib.hid (Q_3.out.below bc)
            have E_4 := Lib.hid (E_3.out.below bc)
            have G_4 := Lib.hid (G_3.out.keep bc)
            clear J_3 P_3 D_3 Q_3 E_3 G_3
            have H_4 : Hid (B3 (W3.alloc (.cells #[.bool false, .slice none 0 0, .slice none 0 0] 53)) W3.heap.size (.bool false) (.slice none 0 0) (.slice none 0 0)) := B3.made W3 _ _ _ _
            have hT := J_4.out.s22
            refine hK.out _ _ hT (fun _ => ?_)
            clear hK K hS bc
            try simp only [Act.put, List.setIfInBounds_toArray, List.set_cons_zero, List.set_cons_succ]
            generalize W3.alloc (.cells #[.bool false, .slice none 0 0, .slice none 0 0] 53) = W4 at *
            generalize W3.heap.size = h at *
            have hS := hT
            clear hT
            refine wpAnyH_ready (rs := [6]) (by kernel_rfl) (by simp) ?_
            refine AllReadyH.cons rfl (fun K hK => ?_) AllReadyH.nil
            have q0 := G_4.out.c0
            have q1 := G_4.out.c1
            have q2 := G_4.out.c2
            have g0 := G_4.out.fr 0
            have g1 := G_4.out.fr 1
            have g2 := G_4.out.fr 2
            go_simp
            clear q0 q1 q2 g0 g1 g2
            have jj := J_4.out.three LG.out (.bool b1) (.slice a k c) (.slice a' k' c')
            have gg := G_4.out.set (.bool b1) (.slice a k c) (.slice a' k' c')
            have hh := H_4.out.other (NE.out) (.bool b1) (.slice a k c) (.slice a' k' c')
            have pp := P_4.out.set3 G_4.out (.bool b1) (.slice a k c) (.slice a' k' c')
            have dd := D_4.out.set3 G_4.out (.bool b1) (.slice a k c) (.slice a' k' c')
            have qq := Q_4.out.set3 G_4.out (.bool b1) (.slice a k c) (.slice a' k' c')
            have ee := E_4.out.set3 G_4.out (.bool b1) (.slice a k c) (.slice a' k' c')
            have hT := jj.s22
            clear J_4 G_4 H_4 P_4 D_4 Q_4 E_4
            unfold three at jj gg hh pp dd qq ee hT
            refine hK.out _ _ hT (fun _ => ?_)
            clear hK K hS
            try simp only [Act.put, List.setIfInBounds_toArray, List.set_cons_zero, List.set_cons_succ]
            generalize ((W4.setCell ⟨g, 0, none⟩ (.bool b1)).setCell ⟨g, 1, none⟩ (.slice a k c)).setCell ⟨g, 2, none⟩ (.slice a' k' c') = W5 at *
            have J_5 := Lib.hid jj
            have G_5 := Lib.hid gg
            have H_5 := Lib.hid hh
            have P_5 := Lib.hid pp
            have D_5 := Lib.hid dd
            have Q_5 := Lib.hid qq
            have E_5 := Lib.hid ee
            clear jj gg hh pp dd qq ee
            have hS := hT
            clear hT
            refine wpAnyH_ready (rs := [7]) (by kernel_rfl) (by simp) ?_
            refine AllReadyH.cons rfl (fun K hK => ?_) AllReadyH.nil
            have q0 := H_5.out.c0
            have q1 := H_5.out.c1
            have q2 := H_5.out.c2
            have g0 := H_5.out.fr 0
            have g1 := H_5.out.fr 1
            have g2 := H_5.out.fr 2
            go_simp
            clear q0 q1 q2 g0 g1 g2
            have jj := J_5.out.three LH.out (.bool b2) (.slice p l e) (.slice p' l' e')
            have gg := H_5.out.set (.bool b2) (.slice p l e) (.slice p' l' e')
            have hh := G_5.out.other (NE.out.symm) (.bool b2) (.slice p l e) (.slice p' l' e')
            have pp := P_5.out.set3 H_5.out (.bool b2) (.slice p l e) (.slice p' l' e')
            have dd := D_5.out.set3 H_5.out (.bool b2) (.slice p l e) (.slice p' l' e')
            have qq := Q_5.out.set3 H_5.out (.bool b2) (.slice p l e) (.slice p' l' e')
            have ee := E_5.out.set3 H_5.out (.bool b2) (.slice p l e) (.slice p' l' e')
            have hT := jj.s22
            clear J_5 G_5 H_5 P_5 D_5 Q_5 E_5
            unfold three at jj gg hh pp dd qq ee hT
            refine hK.out _ _ hT (fun _ => ?_)
            clear hK K hS
            try simp only [Act.put, List.setIfInBounds_toArray, List.set_cons_zero, List.set_cons_succ]
            generalize ((W5.setCell ⟨h, 0, none⟩ (.bool b2)).setCell ⟨h, 1, none⟩ (.slice p l e)).setCell ⟨h, 2, none⟩ (.slice p' l' e') = W6 at *
            have J_6 := Lib.hid jj
            have H_6 := Lib.hid gg
            have G_6 := Lib.hid hh
            have P_6 := Lib.hid pp
            have D_6 := Lib.hid dd
            have Q_6 := Lib.hid qq
            have E_6 := Lib.hid ee
            clear jj gg hh pp dd qq ee
            have hS := hT
            clear hT
            refine wpAnyH_done (by kernel_rfl) ?_ _
            refine NoPanic.normal ?_
            have OD : Hid (Od w (w.heap.size + 1 + 1) g h ⟨b1, a, k, c, a', k', c'⟩ ⟨b2, p, l, e, p', l', e'⟩ x y x' y' W6) := ⟨G_6.out, H_6.out, P_6.out, D_6.out, Q_6.out, E_6.out, FB.out, QB.out, LG.out, LH.out, J_6.out.bel⟩
            go_wp2_with fail
            go_meet
            case rel => exact ⟨g, h, _, _, rfl, rfl, OD.out, J_6.out⟩
          · go_simp
            have bc := bel_one W2 (.cells #[.bool false, .slice none 0 0, .slice none 0 0] 53)
            have LH : Hid (w.heap.size + 1 + 1 < W2.heap.size) := J_2.out.lo
            have J_3 := Lib.hid (J_2.out.keep bc)
            have P_3 := Lib.hid (P_2.out.below bc)
            have D_3 := Lib.hid (D_2.out.below bc)
            have Q_3 := Lib.hid (Q_2.out.below bc)
            have E_3 := Lib.hid (E_2.out.below bc)
            clear J_2 P_2 D_2 Q_2 E_2
            have H_3 : Hid (B3 (W2.alloc (.cells #[.bool false, .slice none 0 0, .slice none 0 0] 53)) W2.heap.size (.bool false) (.slice none 0 0) (.slice none 0 0)) := B3.made W2 _ _ _ _
            have hT := J_3.out.s22
            refine hK.out _ _ hT (fun _ => ?_)
            clear hK K hS bc
            try simp only [Act.put, List.setIfInBounds_toArray, List.set_cons_zero, List.set_cons_succ]
            generalize W2.alloc (.cells #[.bool false, .slice none 0 0, .slice none 0 0] 53) = W7 at *
            generalize W2.heap.size = h at *
            have hS := hT
            clear hT
            refine wpAnyH_ready (rs := [4]) (by kernel_rfl) (by simp) ?_
            refine AllReadyH.cons rfl (fun K hK => ?_) AllReadyH.nil
            go_simp
            have bc := bel_one W7 (.cells #[.bool false, .slice none 0 0, .slice none 0 0] 53)
            have LG : Hid (w.heap.size + 1 + 1 < W7.heap.size) := J_3.out.lo
            have NE : Hid (h ≠ W7.heap.size) := by have := H_3.out.lt; unfold Hid; omega
            have J_4 := Lib.hid (J_3.out.keep bc)
            have P_4 := Lib.hid (P_3.out.below bc)
            have D_4 := Lib.hid (D_3.out.below bc)
            have Q_4 := Lib.hid (Q_3.out.below bc)
            have E_4 := Lib.hid (E_3.out.below bc)
            have H_4 := Lib.hid (H_3.out.keep bc)
            clear J_3 P_3 D_3 Q_3 E_3 H_3
            have G_4 : Hid (B3 (W7.alloc (.cells #[.bool false, .slice none 0 0, .slice none 0 0] 53)) W7.heap.size (.bool false) (.slice none 0 0) (.slice none 0 0)) := B3.made W7 _ _ _ _
            have hT := J_4.out.s22
            refine hK.out _ _ hT (fun _ => ?_)
            clear hK K hS bc
            try simp only [Act.put, List.setIfInBounds_toArray, List.set_cons_zero, List.set_cons_succ]
            generalize W7.alloc (.cells #[.bool false, .slice none 0 0, .slice none 0 0] 53) = W8 at *
            generalize W7.heap.size = g at *
            have hS := hT
            clear hT
            refine wpAnyH_ready (rs := [6]) (by kernel_rfl) (by simp) ?_
            refine AllReadyH.cons rfl (fun K hK => ?_) AllReadyH.nil
            have q0 := G_4.out.c0
            have q1 := G_4.out.c1
            have q2 := G_4.out.c2
            have g0 := G_4.out.fr 0
            have g1 := G_4.out.fr 1
            have g2 := G_4.out.fr 2
            go_simp
            clear q0 q1 q2 g0 g1 g2
            have jj := J_4.out.three LG.out (.bool b1) (.slice a k c) (.slice a' k' c')
            have gg := G_4.out.set (.bool b1) (.slice a k c) (.slice a' k' c')
            have hh := H_4.out.other (NE.out.symm) (.bool b1) (.slice a k c) (.slice a' k' c')
            have pp := P_4.out.set3 G_4.out (.bool b1) (.slice a k c) (.slice a' k' c')
            have dd := D_4.out.set3 G_4.out (.bool b1) (.slice a k c) (.slice a' k' c')
            have qq := Q_4.out.set3 G_4.out (.bool b1) (.slice a k c) (.slice a' k' c')
            have ee := E_4.out.set3 G_4.out (.bool b1) (.slice a k c) (.slice a' k' c')
            have hT := jj.s22
            clear J_4 G_4 H_4 P_4 D_4 Q_4 E_4
            unfold three at jj gg hh pp dd qq ee hT
            refine hK.out _ _ hT (fun _ => ?_)
            clear hK K hS
            try simp only [Act.put, List.setIfInBounds_toArray, List.set_cons_zero, List.set_cons_succ]
            generalize ((W8.setCell ⟨g, 0, none⟩ (.bool b1)).setCell ⟨g, 1, none⟩ (.slice a k c)).setCell ⟨g, 2, none⟩ (.slice a' k' c') = W9 at *
            have J_5 := Lib.hid jj
            have G_5 := Lib.hid gg
            have H_5 := Lib.hid hh
            have P_5 := Lib.hid pp
            have D_5 := Lib.hid dd
            have Q_5 := Lib.hid qq
            have E_5 := Lib.hid ee
            clear jj gg hh pp dd qq ee
            have hS := hT
            clear hT
            refine wpAnyH_ready (rs := [7]) (by kernel_rfl) (by simp) ?_
            refine AllReadyH.cons rfl (fun K hK => ?_) AllReadyH.nil
            have q0 := H_5.out.c0
            have q1 := H_5.out.c1
            have q2 := H_5.out.c2
            have g0 := H_5.out.fr 0
            have g1 := H_5.out.fr 1
            have g2 := H_5.out.fr 2
            go_simp
            clear q0 q1 q2 g0 g1 g2
            have jj := J_5.out.three LH.out (.bool b2) (.slice p l e) (.slice p' l' e')
            have gg := H_5.out.set (.bool b2) (.slice p l e) (.slice p' l' e')
            have hh := G_5.out.other (NE.out) (.bool b2) (.slice p l e) (.slice p' l' e')
            have pp := P_5.out.set3 H_5.out (.bool b2) (.slice p l e) (.slice p' l' e')
            have dd := D_5.out.set3 H_5.out (.bool b2) (.slice p l e) (.slice p' l' e')
            have qq := Q_5.out.set3 H_5.out (.bool b2) (.slice p l e) (.slice p' l' e')
            have ee := E_5.out.set3 H_5.out (.bool b2) (.slice p l e) (.slice p' l' e')
            have hT := jj.s22
            clear J_5 G_5 H_5 P_5 D_5 Q_5 E_5
            unfold three at jj gg hh pp dd qq ee hT
            refine hK.out _ _ hT (fun _ => ?_)
            clear hK K hS
            try simp only [Act.put, List.setIfInBounds_toArray, List.set_cons_zero, List.set_cons_succ]
            generalize ((W9.setCell ⟨h, 0, none⟩ (.bool b2)).setCell ⟨h, 1, none⟩ (.slice p l e)).setCell ⟨h, 2, none⟩ (.slice p' l' e') = W10 at *
            have J_6 := Lib.hid jj
            have H_6 := Lib.hid gg
            have G_6 := Lib.hid hh
            have P_6 := Lib.hid pp
            have D_6 := Lib.hid dd
            have Q_6 := Lib.hid qq
            have E_6 := Lib.hid ee
            clear jj gg hh pp dd qq ee
            have hS := hT
            clear hT
            refine wpAnyH_done (by kernel_rfl) ?_ _
            refine NoPanic.normal ?_
            have OD : Hid (Od w (w.heap.size + 1 + 1) g h ⟨b1, a, k, c, a', k', c'⟩ ⟨b2, p, l, e, p', l', e'⟩ x y x' y' W10) := ⟨G_6.out, H_6.out, P_6.out, D_6.out, Q_6.out, E_6.out, FB.out, QB.out, LG.out, LH.out, J_6.out.bel⟩
            go_wp2_with fail
            go_meet
            case rel => exact ⟨g, h, _, _, rfl, rfl, OD.out, J_6.out⟩
        · go_simp
          have bc := bel_one W1 (.cells #[.bool false, .slice none 0 0, .slice none 0 0] 53)
          have LG : Hid (w.heap.size + 1 + 1 < W1.heap.size) := J_1.out.lo
          have J_2 := Lib.hid (J_1.out.keep bc)
          have P_2 := Lib.hid (P_1.out.below bc)
          have D_2 := Lib.hid (D_1.out.below bc)
          clear J_1 P_1 D_1
          have G_2 : Hid (B3 (W1.alloc (.cells #[.bool false, .slice none 0 0, .slice none 0 0] 53)) W1.heap.size (.bool false) (.slice none 0 0) (.slice none 0 0)) := B3.made W1 _ _ _ _
          have hT := J_2.out.s22
          refine hK.out _ _ hT (fun _ => ?_)
          clear hK K hS bc
          try simp only [Act.put, List.setIfInBounds_toArray, List.set_cons_zero, List.set_cons_succ]
          generalize W1.alloc (.cells #[.bool false, .slice none 0 0, .slice none 0 0] 53) = W11 at *
          generalize W1.heap.size = g at *
          have hS := hT
          clear hT
          refine wpAnyH_ready (rs := [3, 5]) (by kernel_rfl) (by simp) ?_
          refine AllReadyH.cons rfl (fun K hK => ?_) (AllReadyH.cons rfl (fun K hK => ?_) AllReadyH.nil)
          · go_simp
            (refine (O2.out W11).mono ?_)
            rintro e W12 ⟨p, l, e, p', l', e', rfl, hp, hd, bc⟩
            try go_simp
            have J_3 := Lib.hid (J_2.out.keep bc)
            have P_3 := Lib.hid (P_2.out.below bc)
            have D_3 := Lib.hid (D_2.out.below bc)
            have G_3 := Lib.hid (G_2.out.keep bc)
            clear J_2 P_2 D_2 G_2
            have Q_3 := Lib.hid hp
            have E_3 := Lib.hid hd
            have hT := J_3.out.s22
            refine hK.out _ _ hT (fun _ => ?_)
            clear hK K hS bc hp hd
            have hS := hT
            clear hT
            try simp only [Act.put, List.setIfInBounds_toArray, List.set_cons_zero, List.set_cons_succ]
            refine wpAnyH_ready (rs := [5]) (by kernel_rfl) (by simp) ?_
            refine AllReadyH.cons rfl (fun K hK => ?_) AllReadyH.nil
            go_simp
            have bc := bel_one W12 (.cells #[.bool false, .slice none 0 0, .slice none 0 0] 53)
            have LH : Hid (w.heap.size + 1 + 1 < W12.heap.size) := J_3.out.lo
            have NE : Hid (g ≠ W12.heap.size) := by have := G_3.out.lt; unfold Hid; omega
            have J_4 := Lib.hid (J_3.out.keep bc)
            have P_4 := Lib.hid (P_3.out.below bc)
            have D_4 := Lib.hid (D_3.out.below bc)
            have G_4 := Lib.hid (G_3.out.keep bc)
            have Q_4 := Lib.hid (Q_3.out.below bc)
            have E_4 := Lib.hid (E_3.out.below bc)
            clear J_3 P_3 D_3 G_3 Q_3 E_3
            have H_4 : Hid (B3 (W12.alloc (.cells #[.bool false, .slice none 0 0, .slice none 0 0] 53)) W12.heap.size (.bool false) (.slice none 0 0) (.slice none 0 0)) := B3.made W12 _ _ _ _
            have hT := J_4.out.s22
            refine hK.out _ _ hT (fun _ => ?_)
            clear hK K hS bc
            try simp only [Act.put, List.setIfInBounds_toArray, List.set_cons_zero, List.set_cons_succ]
            generalize W12.alloc (.cells #[.bool false, .slice none 0 0, .slice none 0 0] 53) = W13 at *
            generalize W12.heap.size = h at *
            have hS := hT
            clear hT
            refine wpAnyH_ready (rs := [6]) (by kernel_rfl) (by simp) ?_
            refine AllReadyH.cons rfl (fun K hK => ?_) AllReadyH.nil
            have q0 := G_4.out.c0
            have q1 := G_4.out.c1
            have q2 := G_4.out.c2
            have g0 := G_4.out.fr 0
            have g1 := G_4.out.fr 1
            have g2 := G_4.out.fr 2
            go_simp
            clear q0 q1 q2 g0 g1 g2
            have jj := J_4.out.three LG.out (.bool b1) (.slice a k c) (.slice a' k' c')
            have gg := G_4.out.set (.bool b1) (.slice a k c) (.slice a' k' c')
            have hh := H_4.out.other (NE.out) (.bool b1) (.slice a k c) (.slice a' k' c')
            have pp := P_4.out.set3 G_4.out (.bool b1) (.slice a k c) (.slice a' k' c')
            have dd := D_4.out.set3 G_4.out (.bool b1) (.slice a k c) (.slice a' k' c')
            have qq := Q_4.out.set3 G_4.out (.bool b1) (.slice a k c) (.slice a' k' c')
            have ee := E_4.out.set3 G_4.out (.bool b1) (.slice a k c) (.slice a' k' c')
            have hT := jj.s22
            clear J_4 G_4 H_4 P_4 D_4 Q_4 E_4
            unfold three at jj gg hh pp dd qq ee hT
            refine hK.out _ _ hT (fun _ => ?_)
            clear hK K hS
            try simp only [Act.put, List.setIfInBounds_toArray, List.set_cons_zero, List.set_cons_succ]
            generalize ((W13.setCell ⟨g, 0, none⟩ (.bool b1)).setCell ⟨g, 1, none⟩ (.slice a k c)).setCell ⟨g, 2, none⟩ (.slice a' k' c') = W14 at *
            have J_5 := Lib.hid jj
            have G_5 := Lib.hid gg
            have H_5 := Lib.hid hh
            have P_5 := Lib.hid pp
            have D_5 := Lib.hid dd
            have Q_5 := Lib.hid qq
            have E_5 := Lib.hid ee
            clear jj gg hh pp dd qq ee
            have hS := hT
            clear hT
            refine wpAnyH_ready (rs := [7]) (by kernel_rfl) (by simp) ?_
            refine AllReadyH.cons rfl (fun K hK => ?_) AllReadyH.nil
            have q0 := H_5.out.c0
            have q1 := H_5.out.c1
            have q2 := H_5.out.c2
            have g0 := H_5.out.fr 0
            have g1 := H_5.out.fr 1
            have g2 := H_5.out.fr 2
            go_simp
            clear q0 q1 q2 g0 g1 g2
            have jj := J_5.out.three LH.out (.bool b2) (.slice p l e) (.slice p' l' e')
            have gg := H_5.out.set (.bool b2) (.slice p l e) (.slice p' l' e')
            have hh := G_5.out.other (NE.out.symm) (.bool b2) (.slice p l e) (.slice p' l' e')
            have pp := P_5.out.set3 H_5.out (.bool b2) (.slice p l e) (.slice p' l' e')
            have dd := D_5.out.set3 H_5.out (.bool b2) (.slice p l e) (.slice p' l' e')
            have qq := Q_5.out.set3 H_5.out (.bool b2) (.slice p l e) (.slice p' l' e')
            have ee := E_5.out.set3 H_5.out (.bool b2) (.slice p l e) (.slice p' l' e')
            have hT := jj.s22
            clear J_5 G_5 H_5 P_5 D_5 Q_5 E_5
            unfold three at jj gg hh pp dd qq ee hT
            refine hK.out _ _ hT (fun _ => ?_)
            clear hK K hS
            try simp only [Act.put, List.setIfInBounds_toArray, List.set_cons_zero, List.set_cons_succ]
            generalize ((W14.setCell ⟨h, 0, none⟩ (.bool b2)).setCell ⟨h, 1, none⟩ (.slice p l e)).setCell ⟨h, 2, none⟩ (.slice p' l' e') = W15 at *
            have J_6 := Lib.hid jj
            have H_6 := Lib.hid gg
            have G_6 := Lib.hid hh
            have P_6 := Lib.hid pp
            have D_6 := Lib.hid dd
            have Q_6 := Lib.hid qq
            have E_6 := Lib.hid ee
            clear jj gg hh pp dd qq ee
            have hS := hT
            clear hT
            refine wpAnyH_done (by kernel_rfl) ?_ _
            refine NoPanic.normal ?_
            have OD : Hid (Od w (w.heap.size + 1 + 1) g h ⟨b1, a, k, c, a', k', c'⟩ ⟨b2, p, l, e, p', l', e'⟩ x y x' y' W15) := ⟨G_6.out, H_6.out, P_6.out, D_6.out, Q_6.out, E_6.out, FB.out, QB.out, LG.out, LH.out, J_6.out.bel⟩
            go_wp2_with fail
            go_meet
            case rel => exact ⟨g, h, _, _, rfl, rfl, OD.out, J_6.out⟩
          · go_simp
            have bc := bel_one W11 (.cells #[.bool false, .slice none 0 0, .slice none 0 0] 53)
            have LH : Hid (w.heap.size + 1 + 1 < W11.heap.size) := J_2.out.lo
            have NE : Hid (g ≠ W11.heap.size) := by have := G_2.out.lt; unfold Hid; omega
            have J_3 := Lib.hid (J_2.out.keep bc)
            have P_3 := Lib.hid (P_2.out.below bc)
            have D_3 := Lib.hid (D_2.out.below bc)
            have G_3 := Lib.hid (G_2.out.keep bc)
            clear J_2 P_2 D_2 G_2
            have H_3 : Hid (B3 (W11.alloc (.cells #[.bool false, .slice none 0 0, .slice none 0 0] 53)) W11.heap.size (.bool false) (.slice none 0 0) (.slice none 0 0)) := B3.made W11 _ _ _ _
            have hT := J_3.out.s22
            refine hK.out _ _ hT (fun _ => ?_)
            clear hK K hS bc
            try simp only [Act.put, List.setIfInBounds_toArray, List.set_cons_zero, List.set_cons_succ]
            generalize W11.alloc (.cells #[.bool false, .slice none 0 0, .slice none 0 0] 53) = W16 at *
            generalize W11.heap.size = h at *
            have hS := hT
            clear hT
            refine wpAnyH_ready (rs := [3]) (by kernel_rfl) (by simp) ?_
            refine AllReadyH.cons rfl (fun K hK => ?_) AllReadyH.nil
            go_simp
            (refine (O2.out W16).mono ?_)
            rintro e W17 ⟨p, l, e, p', l', e', rfl, hp, hd, bc⟩
            try go_simp
            have J_4 := Lib.hid (J_3.out.keep bc)
            have P_4 := Lib.hid (P_3.out.below bc)
            have D_4 := Lib.hid (D_3.out.below bc)
            have G_4 := Lib.hid (G_3.out.keep bc)
            have H_4 := Lib.hid (H_3.out.keep bc)
            clear J_3 P_3 D_3 G_3 H_3
            have Q_4 := Lib.hid hp
            have E_4 := Lib.hid hd
            have hT := J_4.out.s22
            refine hK.out _ _ hT (fun _ => ?_)
            clear hK K hS bc hp hd
            have hS := hT
            clear hT
            try simp only [Act.put, List.setIfInBounds_toArray, List.set_cons_zero, List.set_cons_succ]
            refine wpAnyH_ready (rs := [6]) (by kernel_rfl) (by simp) ?_
            refine AllReadyH.cons rfl (fun K hK => ?_) AllReadyH.nil
            have q0 := G_4.out.c0
            have q1 := G_4.out.c1
            have q2 := G_4.out.c2
            have g0 := G_4.out.fr 0
            have g1 := G_4.out.fr 1
            have g2 := G_4.out.fr 2
            go_simp
            clear q0 q1 q2 g0 g1 g2
            have jj := J_4.out.three LG.out (.bool b1) (.slice a k c) (.slice a' k' c')
            have gg := G_4.out.set (.bool b1) (.slice a k c) (.slice a' k' c')
            have hh := H_4.out.other (NE.out) (.bool b1) (.slice a k c) (.slice a' k' c')
            have pp := P_4.out.set3 G_4.out (.bool b1) (.slice a k c) (.slice a' k' c')
            have dd := D_4.out.set3 G_4.out (.bool b1) (.slice a k c) (.slice a' k' c')
            have qq := Q_4.out.set3 G_4.out (.bool b1) (.slice a k c) (.slice a' k' c')
            have ee := E_4.out.set3 G_4.out (.bool b1) (.slice a k c) (.slice a' k' c')
            have hT := jj.s22
            clear J_4 G_4 H_4 P_4 D_4 Q_4 E_4
            unfold three at jj gg hh pp dd qq ee hT
            refine hK.out _ _ hT (fun _ => ?_)
            clear hK K hS
            try simp only [Act.put, List.setIfInBounds_toArray, List.set_cons_zero, List.set_cons_succ]
            generalize ((W17.setCell ⟨g, 0, none⟩ (.bool b1)).setCell ⟨g, 1, none⟩ (.slice a k c)).setCell ⟨g, 2, none⟩ (.slice a' k' c') = W18 at *
            have J_5 := Lib.hid jj
            have G_5 := Lib.hid gg
            have H_5 := Lib.hid hh
            have P_5 := Lib.hid pp
            have D_5 := Lib.hid dd
            have Q_5 := Lib.hid qq
            have E_5 := Lib.hid ee
            clear jj gg hh pp dd qq ee
            have hS := hT
            clear hT
            refine wpAnyH_ready (rs := [7]) (by kernel_rfl) (by simp) ?_
            refine AllReadyH.cons rfl (fun K hK => ?_) AllReadyH.nil
            have q0 := H_5.out.c0
            have q1 := H_5.out.c1
            have q2 := H_5.out.c2
            have g0 := H_5.out.fr 0
            have g1 := H_5.out.fr 1
            have g2 := H_5.out.fr 2
            go_simp
            clear q0 q1 q2 g0 g1 g2
            have jj := J_5.out.three LH.out (.bool b2) (.slice p l e) (.slice p' l' e')
            have gg := H_5.out.set (.bool b2) (.slice p l e) (.slice p' l' e')
            have hh := G_5.out.other (NE.out.symm) (.bool b2) (.slice p l e) (.slice p' l' e')
            have pp := P_5.out.set3 H_5.out (.bool b2) (.slice p l e) (.slice p' l' e')
            have dd := D_5.out.set3 H_5.out (.bool b2) (.slice p l e) (.slice p' l' e')
            have qq := Q_5.out.set3 H_5.out (.bool b2) (.slice p l e) (.slice p' l' e')
            have ee := E_5.out.set3 H_5.out (.bool b2) (.slice p l e) (.slice p' l' e')
            have hT := jj.s22
            clear J_5 G_5 H_5 P_5 D_5 Q_5 E_5
            unfold three at jj gg hh pp dd qq ee hT
            refine hK.out _ _ hT (fun _ => ?_)
            clear hK K hS
            try simp only [Act.put, List.setIfInBounds_toArray, List.set_cons_zero, List.set_cons_succ]
            generalize ((W18.setCell ⟨h, 0, none⟩ (.bool b2)).setCell ⟨h, 1, none⟩ (.slice p l e)).setCell ⟨h, 2, none⟩ (.slice p' l' e') = W19 at *
            have J_6 := Lib.hid jj
            have H_6 := Lib.hid gg
            have G_6 := Lib.hid hh
            have P_6 := Lib.hid pp
            have D_6 := Lib.hid dd
            have Q_6 := Lib.hid qq
            have E_6 := Lib.hid ee
            clear jj gg hh pp dd qq ee
            have hS := hT
            clear hT
            refine wpAnyH_done (by kernel_rfl) ?_ _
            refine NoPanic.normal ?_
            have OD : Hid (Od w (w.heap.size + 1 + 1) g h ⟨b1, a, k, c, a', k', c'⟩ ⟨b2, p, l, e, p', l', e'⟩ x y x' y' W19) := ⟨G_6.out, H_6.out, P_6.out, D_6.out, Q_6.out, E_6.out, FB.out, QB.out, LG.out, LH.out, J_6.out.bel⟩
            go_wp2_with fail
            go_meet
            case rel => exact ⟨g, h, _, _, rfl, rfl, OD.out, J_6.out⟩
        · go_simp
          have bc := bel_one W1 (.cells #[.bool false, .slice none 0 0, .slice none 0 0] 53)
          have LH : Hid (w.heap.size + 1 + 1 < W1.heap.size) := J_1.out.lo
          have J_2 := Lib.hid (J_1.out.keep bc)
          have P_2 := Lib.hid (P_1.out.below bc)
          have D_2 := Lib.hid (D_1.out.below bc)
          clear J_1 P_1 D_1
          have H_2 : Hid (B3 (W1.alloc (.cells #[.bool false, .slice none 0 0, .slice none 0 0] 53)) W1.heap.size (.bool false) (.slice none 0 0) (.slice none 0 0)) := B3.made W1 _ _ _ _
          have hT := J_2.out.s22
          refine hK.out _ _ hT (fun _ => ?_)
          clear hK K hS bc
          try simp only [Act.put, List.setIfInBounds_toArray, List.set_cons_zero, List.set_cons_succ]
          generalize W1.alloc (.cells #[.bool false, .slice none 0 0, .slice none 0 0] 53) = W20 at *
          generalize W1.heap.size = h at *
          have hS := hT
          clear hT
          refine wpAnyH_ready (rs := [3, 4]) (by kernel_rfl) (by simp) ?_
          refine AllReadyH.cons rfl (fun K hK => ?_) (AllReadyH.cons rfl (fun K hK => ?_) AllReadyH.nil)
          · go_simp
            (refine (O2.out W20).mono ?_)
            rintro e W21 ⟨p, l, e, p', l', e', rfl, hp, hd, bc⟩
            try go_simp
            have J_3 := Lib.hid (J_2.out.keep bc)
            have P_3 := Lib.hid (P_2.out.below bc)
            have D_3 := Lib.hid (D_2.out.below bc)
            have H_3 := Lib.hid (H_2.out.keep bc)
            clear J_2 P_2 D_2 H_2
            have Q_3 := Lib.hid hp
            have E_3 := Lib.hid hd
            have hT := J_3.out.s22
            refine hK.out _ _ hT (fun _ => ?_)
            clear hK K hS bc hp hd
            have hS := hT
            clear hT
            try simp only [Act.put, List.setIfInBounds_toArray, List.set_cons_zero, List.set_cons_succ]
            refine wpAnyH_ready (rs := [4]) (by kernel_rfl) (by simp) ?_
            refine AllReadyH.cons rfl (fun K hK => ?_) AllReadyH.nil
            go_simp
            have bc := bel_one W21 (.cells #[.bool false, .slice none 0 0, .slice none 0 0] 53)
            have LG : Hid (w.heap.size + 1 + 1 < W21.heap.size) := J_3.out.lo
            have NE : Hid (h ≠ W21.heap.size) := by have := H_3.out.lt; unfold Hid; omega
            have J_4 := Lib.hid (J_3.out.keep bc)
            have P_4 := Lib.hid (P_3.out.below bc)
            have D_4 := Lib.hid (D_3.out.below bc)
            have H_4 := Lib.hid (H_3.out.keep bc)
            have Q_4 := Lib.hid (Q_3.out.below bc)
            have E_4 := Lib.hid (E_3.out.below bc)
            clear J_3 P_3 D_3 H_3 Q_3 E_3
            have G_4 : Hid (B3 (W21.alloc (.cells #[.bool false, .slice none 0 0, .slice none 0 0] 53)) W21.heap.size (.bool false) (.slice none 0 0) (.slice none 0 0)) := B3.made W21 _ _ _ _
            have hT := J_4.out.s22
            refine hK.out _ _ hT (fun _ => ?_)
            clear hK K hS bc
            try simp only [Act.put, List.setIfInBounds_toArray, List.set_cons_zero, List.set_cons_succ]
            generalize W21.alloc (.cells #[.bool false, .slice none 0 0, .slice none 0 0] 53) = W22 at *
            generalize W21.heap.size = g at *
            have hS := hT
            clear hT
            refine wpAnyH_ready (rs := [6]) (by kernel_rfl) (by simp) ?_
            refine AllReadyH.cons rfl (fun K hK => ?_) AllReadyH.nil
            have q0 := G_4.out.c0
            have q1 := G_4.out.c1
            have q2 := G_4.out.c2
            have g0 := G_4.out.fr 0
            have g1 := G_4.out.fr 1
            have g2 := G_4.out.fr 2
            go_simp
            clear q0 q1 q2 g0 g1 g2
            have jj := J_4.out.three LG.out (.bool b1) (.slice a k c) (.slice a' k' c')
            have gg := G_4.out.set (.bool b1) (.slice a k c) (.slice a' k' c')
            have hh := H_4.out.other (NE.out.symm) (.bool b1) (.slice a k c) (.slice a' k' c')
            have pp := P_4.out.set3 G_4.out (.bool b1) (.slice a k c) (.slice a' k' c')
            have dd := D_4.out.set3 G_4.out (.bool b1) (.slice a k c) (.slice a' k' c')
            have qq := Q_4.out.set3 G_4.out (.bool b1) (.slice a k c) (.slice a' k' c')
            have ee := E_4.out.set3 G_4.out (.bool b1) (.slice a k c) (.slice a' k' c')
            have hT := jj.s22
            clear J_4 G_4 H_4 P_4 D_4 Q_4 E_4
            unfold three at jj gg hh pp dd qq ee hT
            refine hK.out _ _ hT (fun _ => ?_)
            clear hK K hS
            try simp only [Act.put, List.setIfInBounds_toArray, List.set_cons_zero, List.set_cons_succ]
            generalize ((W22.setCell ⟨g, 0, none⟩ (.bool b1)).setCell ⟨g, 1, none⟩ (.slice a k c)).setCell ⟨g, 2, none⟩ (.slice a' k' c') = W23 at *
            have J_5 := Lib.hid jj
            have G_5 := Lib.hid gg
            have H_5 := Lib.hid hh
            have P_5 := Lib.hid pp
            have D_5 := Lib.hid dd
            have Q_5 := Lib.hid qq
            have E_5 := Lib.hid ee
            clear jj gg hh pp dd qq ee
            have hS := hT
            clear hT
            refine wpAnyH_ready (rs := [7]) (by kernel_rfl) (by simp) ?_
            refine AllReadyH.cons rfl (fun K hK => ?_) AllReadyH.nil
            have q0 := H_5.out.c0
            have q1 := H_5.out.c1
            have q2 := H_5.out.c2
            have g0 := H_5.out.fr 0
            have g1 := H_5.out.fr 1
            have g2 := H_5.out.fr 2
            go_simp
            clear q0 q1 q2 g0 g1 g2
            have jj := J_5.out.three LH.out (.bool b2) (.slice p l e) (.slice p' l' e')
            have gg := H_5.out.set (.bool b2) (.slice p l e) (.slice p' l' e')
            have hh := G_5.out.other (NE.out) (.bool b2) (.slice p l e) (.slice p' l' e')
            have pp := P_5.out.set3 H_5.out (.bool b2) (.slice p l e) (.slice p' l' e')
            have dd := D_5.out.set3 H_5.out (.bool b2) (.slice p l e) (.slice p' l' e')
            have qq := Q_5.out.set3 H_5.out (.bool b2) (.slice p l e) (.slice p' l' e')
            have ee := E_5.out.set3 H_5.out (.bool b2) (.slice p l e) (.slice p' l' e')
            have hT := jj.s22
            clear J_5 G_5 H_5 P_5 D_5 Q_5 E_5
            unfold three at jj gg hh pp dd qq ee hT
            refine hK.out _ _ hT (fun _ => ?_)
            clear hK K hS
            try simp only [Act.put, List.setIfInBounds_toArray, List.set_cons_zero, List.set_cons_succ]
            generalize ((W23.setCell ⟨h, 0, none⟩ (.bool b2)).setCell ⟨h, 1, none⟩ (.slice p l e)).setCell ⟨h, 2, none⟩ (.slice p' l' e') = W24 at *
            have J_6 := Lib.hid jj
            have H_6 := Lib.hid gg
            have G_6 := Lib.hid hh
            have P_6 := Lib.hid pp
            have D_6 := Lib.hid dd
            have Q_6 := Lib.hid qq
            have E_6 := Lib.hid ee
            clear jj gg hh pp dd qq ee
            have hS := hT
            clear hT
            refine wpAnyH_done (by kernel_rfl) ?_ _
            refine NoPanic.normal ?_
            have OD : Hid (Od w (w.heap.size + 1 + 1) g h ⟨b1, a, k, c, a', k', c'⟩ ⟨b2, p, l, e, p', l', e'⟩ x y x' y' W24) := ⟨G_6.out, H_6.out, P_6.out, D_6.out, Q_6.out, E_6.out, FB.out, QB.out, LG.out, LH.out, J_6.out.bel⟩
            go_wp2_with fail
            go_meet
            case rel => exact ⟨g, h, _, _, rfl, rfl, OD.out, J_6.out⟩
          · go_simp
            have bc := bel_one W20 (.cells #[.bool false, .slice none 0 0, .slice none 0 0] 53)
            have LG : Hid (w.heap.size + 1 + 1 < W20.heap.size) := J_2.out.lo
            have NE : Hid (h ≠ W20.heap.size) := by have := H_2.out.lt; unfold Hid; omega
            have J_3 := Lib.hid (J_2.out.keep bc)
            have P_3 := Lib.hid (P_2.out.below bc)
            have D_3 := Lib.hid (D_2.out.below bc)
            have H_3 := Lib.hid (H_2.out.keep bc)
            clear J_2 P_2 D_2 H_2
            have G_3 : Hid (B3 (W20.alloc (.cells #[.bool false, .slice none 0 0, .slice none 0 0] 53)) W20.heap.size (.bool false) (.slice none 0 0) (.slice none 0 0)) := B3.made W20 _ _ _ _
            have hT := J_3.out.s22
            refine hK.out _ _ hT (fun _ => ?_)
            clear hK K hS bc
            try simp only [Act.put, List.setIfInBounds_toArray, List.set_cons_zero, List.set_cons_succ]
            generalize W20.alloc (.cells #[.bool false, .slice none 0 0, .slice none 0 0] 53) = W25 at *
            generalize W20.heap.size = g at *
            have hS := hT
            clear hT
            refine wpAnyH_ready (rs := [3]) (by kernel_rfl) (by simp) ?_
            refine AllReadyH.cons rfl (fun K hK => ?_) AllReadyH.nil
            go_simp
            (refine (O2.out W25).mono ?_)
            rintro e W26 ⟨p, l, e, p', l', e', rfl, hp, hd, bc⟩
            try go_simp
            have J_4 := Lib.hid (J_3.out.keep bc)
            have P_4 := Lib.hid (P_3.out.below bc)
            have D_4 := Lib.hid (D_3.out.below bc)
            have H_4 := Lib.hid (H_3.out.keep bc)
            have G_4 := Lib.hid (G_3.out.keep bc)
            clear J_3 P_3 D_3 H_3 G_3
            have Q_4 := Lib.hid hp
            have E_4 := Lib.hid hd
            have hT := J_4.out.s22
            refine hK.out _ _ hT (fun _ => ?_)
            clear hK K hS bc hp hd
            have hS := hT
            clear hT
            try simp only [Act.put, List.setIfInBounds_toArray, List.set_cons_zero, List.set_cons_succ]
            refine wpAnyH_ready (rs := [6]) (by kernel_rfl) (by simp) ?_
            refine AllReadyH.cons rfl (fun K hK => ?_) AllReadyH.nil
            have q0 := G_4.out.c0
            have q1 := G_4.out.c1
            have q2 := G_4.out.c2
            have g0 := G_4.out.fr 0
            have g1 := G_4.out.fr 1
            have g2 := G_4.out.fr 2
            go_simp
            clear q0 q1 q2 g0 g1 g2
            have jj := J_4.out.three LG.out (.bool b1) (.slice a k c) (.slice a' k' c')
            have gg := G_4.out.set (.bool b1) (.slice a k c) (.slice a' k' c')
            have hh := H_4.out.other (NE.out.symm) (.bool b1) (.slice a k c) (.slice a' k' c')
            have pp := P_4.out.set3 G_4.out (.bool b1) (.slice a k c) (.slice a' k' c')
            have dd := D_4.out.set3 G_4.out (.bool b1) (.slice a k c) (.slice a' k' c')
            have qq := Q_4.out.set3 G_4.out (.bool b1) (.slice a k c) (.slice a' k' c')
            have ee := E_4.out.set3 G_4.out (.bool b1) (.slice a k c) (.slice a' k' c')
            have hT := jj.s22
            clear J_4 G_4 H_4 P_4 D_4 Q_4 E_4
            unfold three at jj gg hh pp dd qq ee hT
            refine hK.out _ _ hT (fun _ => ?_)
            clear hK K hS
            try simp only [Act.put, List.setIfInBounds_toArray, List.set_cons_zero, List.set_cons_succ]
            generalize ((W26.setCell ⟨g, 0, none⟩ (.bool b1)).setCell ⟨g, 1, none⟩ (.slice a k c)).setCell ⟨g, 2, none⟩ (.slice a' k' c') = W27 at *
            have J_5 := Lib.hid jj
            have G_5 := Lib.hid gg
            have H_5 := Lib.hid hh
            have P_5 := Lib.hid pp
            have D_5 := Lib.hid dd
            have Q_5 := Lib.hid qq
            have E_5 := Lib.hid ee
            clear jj gg hh pp dd qq ee
            have hS := hT
            clear hT
            refine wpAnyH_ready (rs := [7]) (by kernel_rfl) (by simp) ?_
            refine AllReadyH.cons rfl (fun K hK => ?_) AllReadyH.nil
            have q0 := H_5.out.c0
            have q1 := H_5.out.c1
            have q2 := H_5.out.c2
            have g0 := H_5.out.fr 0
            have g1 := H_5.out.fr 1
            have g2 := H_5.out.fr 2
            go_simp
            clear q0 q1 q2 g0 g1 g2
            have jj := J_5.out.three LH.out (.bool b2) (.slice p l e) (.slice p' l' e')
            have gg := H_5.out.set (.bool b2) (.slice p l e) (.slice p' l' e')
            have hh := G_5.out.other (NE.out) (.bool b2) (.slice p l e) (.slice p' l' e')
            have pp := P_5.out.set3 H_5.out (.bool b2) (.slice p l e) (.slice p' l' e')
            have dd := D_5.out.set3 H_5.out (.bool b2) (.slice p l e) (.slice p' l' e')
            have qq := Q_5.out.set3 H_5.out (.bool b2) (.slice p l e) (.slice p' l' e')
            have ee := E_5.out.set3 H_5.out (.bool b2) (.slice p l e) (.slice p' l' e')
            have hT := jj.s22
            clear J_5 G_5 H_5 P_5 D_5 Q_5 E_5
            unfold three at jj gg hh pp dd qq ee hT
            refine hK.out _ _ hT (fun _ => ?_)
            clear hK K hS
            try simp only [Act.put, List.setIfInBounds_toArray, List.set_cons_zero, List.set_cons_succ]
            generalize ((W27.setCell ⟨h, 0, none⟩ (.bool b2)).setCell ⟨h, 1, none⟩ (.slice p l e)).setCell ⟨h, 2, none⟩ (.slice p' l' e') = W28 at *
            have J_6 := Lib.hid jj
            have H_6 := Lib.hid gg
            have G_6 := Lib.hid hh
            have P_6 := Lib.hid pp
            have D_6 := Lib.hid dd
            have Q_6 := Lib.hid qq
            have E_6 := Lib.hid ee
            clear jj gg hh pp dd qq ee
            have hS := hT
            clear hT
            refine wpAnyH_done (by kernel_rfl) ?_ _
            refine NoPanic.normal ?_
            have OD : Hid (Od w (w.heap.size + 1 + 1) g h ⟨b1, a, k, c, a', k', c'⟩ ⟨b2, p, l, e, p', l', e'⟩ x y x' y' W28) := ⟨G_6.out, H_6.out, P_6.out, D_6.out, Q_6.out, E_6.out, FB.out, QB.out, LG.out, LH.out, J_6.out.bel⟩
            go_wp2_with fail
            go_meet
            case rel => exact ⟨g, h, _, _, rfl, rfl, OD.out, J_6.out⟩
      · go_simp
        have bc := bel_one WD (.cells #[.bool false, .slice none 0 0, .slice none 0 0] 53)
        have LG : Hid (w.heap.size + 1 + 1 < WD.heap.size) := J_0.out.lo
        have J_1 := Lib.hid (J_0.out.keep bc)
        clear J_0
        have G_1 : Hid (B3 (WD.alloc (.cells #[.bool false, .slice none 0 0, .slice none 0 0] 53)) WD.heap.size (.bool false) (.slice none 0 0) (.slice none 0 0)) := B3.made WD _ _ _ _
        have hT := J_1.out.s22
        refine hK.out _ _ hT (fun _ => ?_)
        clear hK K hS bc
        try simp only [Act.put, List.setIfInBounds_toArray, List.set_cons_zero, List.set_cons_succ]
        generalize WD.alloc (.cells #[.bool false, .slice none 0 0, .slice none 0 0] 53) = W29 at *
        generalize WD.heap.size = g at *
        have hS := hT
        clear hT
        refine wpAnyH_ready (rs := [1, 5]) (by kernel_rfl) (by simp) ?_
        refine AllReadyH.cons rfl (fun K hK => ?_) (AllReadyH.cons rfl (fun K hK => ?_) AllReadyH.nil)
        · go_simp
          (refine (O1.out W29).mono ?_)
          rintro e W30 ⟨a, k, c, a', k', c', rfl, hp, hd, bc⟩
          try go_simp
          have J_2 := Lib.hid (J_1.out.keep bc)
          have G_2 := Lib.hid (G_1.out.keep bc)
          clear J_1 G_1
          have P_2 := Lib.hid hp
          have D_2 := Lib.hid hd
          have hT := J_2.out.s22
          refine hK.out _ _ hT (fun _ => ?_)
          clear hK K hS bc hp hd
          have hS := hT
          clear hT
          try simp only [Act.put, List.setIfInBounds_toArray, List.set_cons_zero, List.set_cons_succ]
          refine wpAnyH_ready (rs := [3, 5]) (by kernel_rfl) (by simp) ?_
          refine AllReadyH.cons rfl (fun K hK => ?_) (AllReadyH.cons rfl (fun K hK => ?_) AllReadyH.nil)
          · go_simp
            (refine (O2.out W30).mono ?_)
            rintro e W31 ⟨p, l, e, p', l', e', rfl, hp, hd, bc⟩
            try go_simp
            have J_3 := Lib.hid (J_2.out.keep bc)
            have G_3 := Lib.hid (G_2.out.keep bc)
            have P_3 := Lib.hid (P_2.out.below bc)
            have D_3 := Lib.hid (D_2.out.below bc)
            clear J_2 G_2 P_2 D_2
            have Q_3 := Lib.hid hp
            have E_3 := Lib.hid hd
            have hT := J_3.out.s22
            refine hK.out _ _ hT (fun _ => ?_)
            clear hK K hS bc hp hd
            have hS := hT
            clear hT
            try simp only [Act.put, List.setIfInBounds_toArray, List.set_cons_zero, List.set_cons_succ]
            refine wpAnyH_ready (rs := [5]) (by kernel_rfl) (by simp) ?_
            refine AllReadyH.cons rfl (fun K hK => ?_) AllReadyH.nil
            go_simp
            have bc := bel_one W31 (.cells #[.bool false, .slice none 0 0, .slice none 0 0] 53)
            have LH : Hid (w.heap.size + 1 + 1 < W31.heap.size) := J_3.out.lo
            have NE : Hid (g ≠ W31.heap.size) := by have := G_3.out.lt; unfold Hid; omega
            have J_4 := Lib.hid (J_3.out.keep bc)
            have G_4 := Lib.hid (G_3.out.keep bc)
            have P_4 := Lib.hid (P_3.out.below bc)
            have D_4 := Lib.hid (D_3.out.below bc)
            have Q_4 := Lib.hid (Q_3.out.below bc)
            have E_4 := Lib.hid (E_3.out.below bc)
            clear J_3 G_3 P_3 D_3 Q_3 E_3
            have H_4 : Hid (B3 (W31.alloc (.cells #[.bool false, .slice none 0 0, .slice none 0 0] 53)) W31.heap.size (.bool false) (.slice none 0 0) (.slice none 0 0)) := B3.made W31 _ _ _ _
            have hT := J_4.out.s22
            refine hK.out _ _ hT (fun _ => ?_)
            clear hK K hS bc
            try simp only [Act.put, List.setIfInBounds_toArray, List.set_cons_zero, List.set_cons_succ]
            generalize W31.alloc (.cells #[.bool false, .slice none 0 0, .slice none 0 0] 53) = W32 at *
            generalize W31.heap.size = h at *
            have hS := hT
            clear hT
            refine wpAnyH_ready (rs := [6]) (by kernel_rfl) (by simp) ?_
            refine AllReadyH.cons rfl (fun K hK => ?_) AllReadyH.nil
            have q0 := G_4.out.c0
            have q1 := G_4.out.c1
            have q2 := G_4.out.c2
            have g0 := G_4.out.fr 0
            have g1 := G_4.out.fr 1
            have g2 := G_4.out.fr 2
            go_simp
            clear q0 q1 q2 g0 g1 g2
            have jj := J_4.out.three LG.out (.bool b1) (.slice a k c) (.slice a' k' c')
            have gg := G_4.out.set (.bool b1) (.slice a k c) (.slice a' k' c')
            have hh := H_4.out.other (NE.out) (.bool b1) (.slice a k c) (.slice a' k' c')
            have pp := P_4.out.set3 G_4.out (.bool b1) (.slice a k c) (.slice a' k' c')
            have dd := D_4.out.set3 G_4.out (.bool b1) (.slice a k c) (.slice a' k' c')
            have qq := Q_4.out.set3 G_4.out (.bool b1) (.slice a k c) (.slice a' k' c')
            have ee := E_4.out.set3 G_4.out (.bool b1) (.slice a k c) (.slice a' k' c')
            have hT := jj.s22
            clear J_4 G_4 H_4 P_4 D_4 Q_4 E_4
            unfold three at jj gg hh pp dd qq ee hT
            refine hK.out _ _ hT (fun _ => ?_)
            clear hK K hS
            try simp only [Act.put, List.setIfInBounds_toArray, List.set_cons_zero, List.set_cons_succ]
            generalize ((W32.setCell ⟨g, 0, none⟩ (.bool b1)).setCell ⟨g, 1, none⟩ (.slice a k c)).setCell ⟨g, 2, none⟩ (.slice a' k' c') = W33 at *
            have J_5 := Lib.hid jj
            have G_5 := Lib.hid gg
            have H_5 := Lib.hid hh
            have P_5 := Lib.hid pp
            have D_5 := Lib.hid dd
            have Q_5 := Lib.hid qq
            have E_5 := Lib.hid ee
            clear jj gg hh pp dd qq ee
            have hS := hT
            clear hT
            refine wpAnyH_ready (rs := [7]) (by kernel_rfl) (by simp) ?_
            refine AllReadyH.cons rfl (fun K hK => ?_) AllReadyH.nil
            have q0 := H_5.out.c0
            have q1 := H_5.out.c1
            have q2 := H_5.out.c2
            have g0 := H_5.out.fr 0
            have g1 := H_5.out.fr 1
            have g2 := H_5.out.fr 2
            go_simp
            clear q0 q1 q2 g0 g1 g2
            have jj := J_5.out.three LH.out (.bool b2) (.slice p l e) (.slice p' l' e')
            have gg := H_5.out.set (.bool b2) (.slice p l e) (.slice p' l' e')
            have hh := G_5.out.other (NE.out.symm) (.bool b2) (.slice p l e) (.slice p' l' e')
            have pp := P_5.out.set3 H_5.out (.bool b2) (.slice p l e) (.slice p' l' e')
            have dd := D_5.out.set3 H_5.out (.bool b2) (.slice p l e) (.slice p' l' e')
            have qq := Q_5.out.set3 H_5.out (.bool b2) (.slice p l e) (.slice p' l' e')
            have ee := E_5.out.set3 H_5.out (.bool b2) (.slice p l e) (.slice p' l' e')
            have hT := jj.s22
            clear J_5 G_5 H_5 P_5 D_5 Q_5 E_5
            unfold three at jj gg hh pp dd qq ee hT
            refine hK.out _ _ hT (fun _ => ?_)
            clear hK K hS
            try simp only [Act.put, List.setIfInBounds_toArray, List.set_cons_zero, List.set_cons_succ]
            generalize ((W33.setCell ⟨h, 0, none⟩ (.bool b2)).setCell ⟨h, 1, none⟩ (.slice p l e)).setCell ⟨h, 2, none⟩ (.slice p' l' e') = W34 at *
            have J_6 := Lib.hid jj
            have H_6 := Lib.hid gg
            have G_6 := Lib.hid hh
            have P_6 := Lib.hid pp
            have D_6 := Lib.hid dd
            have Q_6 := Lib.hid qq
            have E_6 := Lib.hid ee
            clear jj gg hh pp dd qq ee
            have hS := hT
            clear hT
            refine wpAnyH_done (by kernel_rfl) ?_ _
            refine NoPanic.normal ?_
            have OD : Hid (Od w (w.heap.size + 1 + 1) g h ⟨b1, a, k, c, a', k', c'⟩ ⟨b2, p, l, e, p', l', e'⟩ x y x' y' W34) := ⟨G_6.out, H_6.out, P_6.out, D_6.out, Q_6.out, E_6.out, FB.out, QB.out, LG.out, LH.out, J_6.out.bel⟩
            go_wp2_with fail
            go_meet
            case rel => exact ⟨g, h, _, _, rfl, rfl, OD.out, J_6.out⟩
          · go_simp
            have bc := bel_one W30 (.cells #[.bool false, .slice none 0 0, .slice none 0 0] 53)
            have LH : Hid (w.heap.size + 1 + 1 < W30.heap.size) := J_2.out.lo
            have NE : Hid (g ≠ W30.heap.size) := by have := G_2.out.lt; unfold Hid; omega
            have J_3 := Lib.hid (J_2.out.keep bc)
            have G_3 := Lib.hid (G_2.out.keep bc)
            have P_3 := Lib.hid (P_2.out.below bc)
            have D_3 := Lib.hid (D_2.out.below bc)
            clear J_2 G_2 P_2 D_2
            have H_3 : Hid (B3 (W30.alloc (.cells #[.bool false, .slice none 0 0, .slice none 0 0] 53)) W30.heap.size (.bool false) (.slice none 0 0) (.slice none 0 0)) := B3.made W30 _ _ _ _
            have hT := J_3.out.s22
            refine hK.out _ _ hT (fun _ => ?_)
            clear hK K hS bc
            try simp only [Act.put, List.setIfInBounds_toArray, List.set_cons_zero, List.set_cons_succ]
            generalize W30.alloc (.cells #[.bool false, .slice none 0 0, .slice none 0 0] 53) = W35 at *
            generalize W30.heap.size = h at *
            have hS := hT
            clear hT
            refine wpAnyH_ready (rs := [3]) (by kernel_rfl) (by simp) ?_
            refine AllReadyH.cons rfl (fun K hK => ?_) AllReadyH.nil
            go_simp
            (refine (O2.out W35).mono ?_)
            rintro e W36 ⟨p, l, e, p', l', e', rfl, hp, hd, bc⟩
            try go_simp
            have J_4 := Lib.hid (J_3.out.keep bc)
            have G_4 := Lib.hid (G_3.out.keep bc)
            have P_4 := Lib.hid (P_3.out.below bc)
            have D_4 := Lib.hid (D_3.out.below bc)
            have H_4 := Lib.hid (H_3.out.keep bc)
            clear J_3 G_3 P_3 D_3 H_3
            have Q_4 := Lib.hid hp
            have E_4 := Lib.hid hd
            have hT := J_4.out.s22
            refine hK.out _ _ hT (fun _ => ?_)
            clear hK K hS bc hp hd
            have hS := hT
            clear hT
            try simp only [Act.put, List.setIfInBounds_toArray, List.set_cons_zero, List.set_cons_succ]
            refine wpAnyH_ready (rs := [6]) (by kernel_rfl) (by simp) ?_
            refine AllReadyH.cons rfl (fun K hK => ?_) AllReadyH.nil
            have q0 := G_4.out.c0
            have q1 := G_4.out.c1
            have q2 := G_4.out.c2
            have g0 := G_4.out.fr 0
            have g1 := G_4.out.fr 1
            have g2 := G_4.out.fr 2
            go_simp
            clear q0 q1 q2 g0 g1 g2
            have jj := J_4.out.three LG.out (.bool b1) (.slice a k c) (.slice a' k' c')
            have gg := G_4.out.set (.bool b1) (.slice a k c) (.slice a' k' c')
            have hh := H_4.out.other (NE.out) (.bool b1) (.slice a k c) (.slice a' k' c')
            have pp := P_4.out.set3 G_4.out (.bool b1) (.slice a k c) (.slice a' k' c')
            have dd := D_4.out.set3 G_4.out (.bool b1) (.slice a k c) (.slice a' k' c')
            have qq := Q_4.out.set3 G_4.out (.bool b1) (.slice a k c) (.slice a' k' c')
            have ee := E_4.out.set3 G_4.out (.bool b1) (.slice a k c) (.slice a' k' c')
            have hT := jj.s22
            clear J_4 G_4 H_4 P_4 D_4 Q_4 E_4
            unfold three at jj gg hh pp dd qq ee hT
            refine hK.out _ _ hT (fun _ => ?_)
            clear hK K hS
            try simp only [Act.put, List.setIfInBounds_toArray, List.set_cons_zero, List.set_cons_succ]
            generalize ((W36.setCell ⟨g, 0, none⟩ (.bool b1)).setCell ⟨g, 1, none⟩ (.slice a k c)).setCell ⟨g, 2, none⟩ (.slice a' k' c') = W37 at *
            have J_5 := Lib.hid jj
            have G_5 := Lib.hid gg
            have H_5 := Lib.hid hh
            have P_5 := Lib.hid pp
            have D_5 := Lib.hid dd
            have Q_5 := Lib.hid qq
            have E_5 := Lib.hid ee
            clear jj gg hh pp dd qq ee
            have hS := hT
            clear hT
            refine wpAnyH_ready (rs := [7]) (by kernel_rfl) (by simp) ?_
            refine AllReadyH.cons rfl (fun K hK => ?_) AllReadyH.nil
            have q0 := H_5.out.c0
            have q1 := H_5.out.c1
            have q2 := H_5.out.c2
            have g0 := H_5.out.fr 0
            have g1 := H_5.out.fr 1
            have g2 := H_5.out.fr 2
            go_simp
            clear q0 q1 q2 g0 g1 g2
            have jj := J_5.out.three LH.out (.bool b2) (.slice p l e) (.slice p' l' e')
            have gg := H_5.out.set (.bool b2) (.slice p l e) (.slice p' l' e')
            have hh := G_5.out.other (NE.out.symm) (.bool b2) (.slice p l e) (.slice p' l' e')
            have pp := P_5.out.set3 H_5.out (.bool b2) (.slice p l e) (.slice p' l' e')
            have dd := D_5.out.set3 H_5.out (.bool b2) (.slice p l e) (.slice p' l' e')
            have qq := Q_5.out.set3 H_5.out (.bool b2) (.slice p l e) (.slice p' l' e')
            have ee := E_5.out.set3 H_5.out (.bool b2) (.slice p l e) (.slice p' l' e')
            have hT := jj.s22
            clear J_5 G_5 H_5 P_5 D_5 Q_5 E_5
            unfold three at jj gg hh pp dd qq ee hT
            refine hK.out _ _ hT (fun _ => ?_)
            clear hK K hS
            try simp only [Act.put, List.setIfInBounds_toArray, List.set_cons_zero, List.set_cons_succ]
            generalize ((W37.setCell ⟨h, 0, none⟩ (.bool b2)).setCell ⟨h, 1, none⟩ (.slice p l e)).setCell ⟨h, 2, none⟩ (.slice p' l' e') = W38 at *
            have J_6 := Lib.hid jj
            have H_6 := Lib.hid gg
            have G_6 := Lib.hid hh
            have P_6 := Lib.hid pp
            have D_6 := Lib.hid dd
            have Q_6 := Lib.hid qq
            have E_6 := Lib.hid ee
            clear jj gg hh pp dd qq ee
            have hS := hT
            clear hT
            refine wpAnyH_done (by kernel_rfl) ?_ _
            refine NoPanic.normal ?_
            have OD : Hid (Od w (w.heap.size + 1 + 1) g h ⟨b1, a, k, c, a', k', c'⟩ ⟨b2, p, l, e, p', l', e'⟩ x y x' y' W38) := ⟨G_6.out, H_6.out, P_6.out, D_6.out, Q_6.out, E_6.out, FB.out, QB.out, LG.out, LH.out, J_6.out.bel⟩
            go_wp2_with fail
            go_meet
            case rel => exact ⟨g, h, _, _, rfl, rfl, OD.out, J_6.out⟩
        · go_simp
          have bc := bel_one W29 (.cells #[.bool false, .slice none 0 0, .slice none 0 0] 53)
          have LH : Hid (w.heap.size + 1 + 1 < W29.heap.size) := J_1.out.lo
          have NE : Hid (g ≠ W29.heap.size) := by have := G_1.out.lt; unfold Hid; omega
          have J_2 := Lib.hid (J_1.out.keep bc)
          have G_2 := Lib.hid (G_1.out.keep bc)
          clear J_1 G_1
          have H_2 : Hid (B3 (W29.alloc (.cells #[.bool false, .slice none 0 0, .slice none 0 0] 53)) W29.heap.size (.bool false) (.slice none 0 0) (.slice none 0 0)) := B3.made W29 _ _ _ _
          have hT := J_2.out.s22
          refine hK.out _ _ hT (fun _ => ?_)
          clear hK K hS bc
          try simp only [Act.put, List.setIfInBounds_toArray, List.set_cons_zero, List.set_cons_succ]
          generalize W29.alloc (.cells #[.bool false, .slice none 0 0, .slice none 0 0] 53) = W39 at *
          generalize W29.heap.size = h at *
          have hS := hT
          clear hT
          refine wpAnyH_ready (rs := [1]) (by kernel_rfl) (by simp) ?_
          refine AllReadyH.cons rfl (fun K hK => ?_) AllReadyH.nil
          go_simp
          (refine (O1.out W39).mono ?_)
          rintro e W40 ⟨a, k, c, a', k', c', rfl, hp, hd, bc⟩
          try go_simp
          have J_3 := Lib.hid (J_2.out.keep bc)
          have G_3 := Lib.hid (G_2.out.keep bc)
          have H_3 := Lib.hid (H_2.out.keep bc)
          clear J_2 G_2 H_2
          have P_3 := Lib.hid hp
          have D_3 := Lib.hid hd
          have hT := J_3.out.s22
          refine hK.out _ _ hT (fun _ => ?_)
          clear hK K hS bc hp hd
          have hS := hT
          clear hT
          try simp only [Act.put, List.setIfInBounds_toArray, List.set_cons_zero, List.set_cons_succ]
          refine wpAnyH_ready (rs := [3]) (by kernel_rfl) (by simp) ?_
          refine AllReadyH.cons rfl (fun K hK => ?_) AllReadyH.nil
          go_simp
          (refine (O2.out W40).mono ?_)
          rintro e W41 ⟨p, l, e, p', l', e', rfl, hp, hd, bc⟩
          try go_simp
          have J_4 := Lib.hid (J_3.out.keep bc)
          have G_4 := Lib.hid (G_3.out.keep bc)
          have H_4 := Lib.hid (H_3.out.keep bc)
          have P_4 := Lib.hid (P_3.out.below bc)
          have D_4 := Lib.hid (D_3.out.below bc)
          clear J_3 G_3 H_3 P_3 D_3
          have Q_4 := Lib.hid hp
          have E_4 := Lib.hid hd
          have hT := J_4.out.s22
          refine hK.out _ _ hT (fun _ => ?_)
          clear hK K hS bc hp hd
          have hS := hT
          clear hT
          try simp only [Act.put, List.setIfInBounds_toArray, List.set_cons_zero, List.set_cons_succ]
          refine wpAnyH_ready (rs := [6]) (by kernel_rfl) (by simp) ?_
          refine AllReadyH.cons rfl (fun K hK => ?_) AllReadyH.nil
          have q0 := G_4.out.c0
          have q1 := G_4.out.c1
          have q2 := G_4.out.c2
          have g0 := G_4.out.fr 0
          have g1 := G_4.out.fr 1
          have g2 := G_4.out.fr 2
          go_simp
          clear q0 q1 q2 g0 g1 g2
          have jj := J_4.out.three LG.out (.bool b1) (.slice a k c) (.slice a' k' c')
          have gg := G_4.out.set (.bool b1) (.slice a k c) (.slice a' k' c')
          have hh := H_4.out.other (NE.out) (.bool b1) (.slice a k c) (.slice a' k' c')
          have pp := P_4.out.set3 G_4.out (.bool b1) (.slice a k c) (.slice a' k' c')
          have dd := D_4.out.set3 G_4.out (.bool b1) (.slice a k c) (.slice a' k' c')
          have qq := Q_4.out.set3 G_4.out (.bool b1) (.slice a k c) (.slice a' k' c')
          have ee := E_4.out.set3 G_4.out (.bool b1) (.slice a k c) (.slice a' k' c')
          have hT := jj.s22
          clear J_4 G_4 H_4 P_4 D_4 Q_4 E_4
          unfold three at jj gg hh pp dd qq ee hT
          refine hK.out _ _ hT (fun _ => ?_)
          clear hK K hS
          try simp only [Act.put, List.setIfInBounds_toArray, List.set_cons_zero, List.set_cons_succ]
          generalize ((W41.setCell ⟨g, 0, none⟩ (.bool b1)).setCell ⟨g, 1, none⟩ (.slice a k c)).setCell ⟨g, 2, none⟩ (.slice a' k' c') = W42 at *
          have J_5 := Lib.hid jj
          have G_5 := Lib.hid gg
          have H_5 := Lib.hid hh
          have P_5 := Lib.hid pp
          have D_5 := Lib.hid dd
          have Q_5 := Lib.hid qq
          have E_5 := Lib.hid ee
          clear jj gg hh pp dd qq ee
          have hS := hT
          clear hT
          refine wpAnyH_ready (rs := [7]) (by kernel_rfl) (by simp) ?_
          refine AllReadyH.cons rfl (fun K hK => ?_) AllReadyH.nil
          have q0 := H_5.out.c0
          have q1 := H_5.out.c1
          have q2 := H_5.out.c2
          have g0 := H_5.out.fr 0
          have g1 := H_5.out.fr 1
          have g2 := H_5.out.fr 2
          go_simp
          clear q0 q1 q2 g0 g1 g2
          have jj := J_5.out.three LH.out (.bool b2) (.slice p l e) (.slice p' l' e')
          have gg := H_5.out.set (.bool b2) (.slice p l e) (.slice p' l' e')
          have hh := G_5.out.other (NE.out.symm) (.bool b2) (.slice p l e) (.slice p' l' e')
          have pp := P_5.out.set3 H_5.out (.bool b2) (.slice p l e) (.slice p' l' e')
          have dd := D_5.out.set3 H_5.out (.bool b2) (.slice p l e) (.slice p' l' e')
          have qq := Q_5.out.set3 H_5.out (.bool b2) (.slice p l e) (.slice p' l' e')
          have ee := E_5.out.set3 H_5.out (.bool b2) (.slice p l e) (.slice p' l' e')
          have hT := jj.s22
          clear J_5 G_5 H_5 P_5 D_5 Q_5 E_5
          unfold three at jj gg hh pp dd qq ee hT
          refine hK.out _ _ hT (fun _ => ?_)
          clear hK K hS
          try simp only [Act.put, List.setIfInBounds_toArray, List.set_cons_zero, List.set_cons_succ]
          generalize ((W42.setCell ⟨h, 0, none⟩ (.bool b2)).setCell ⟨h, 1, none⟩ (.slice p l e)).setCell ⟨h, 2, none⟩ (.slice p' l' e') = W43 at *
          have J_6 := Lib.hid jj
          have H_6 := Lib.hid gg
          have G_6 := Lib.hid hh
          have P_6 := Lib.hid pp
          have D_6 := Lib.hid dd
          have Q_6 := Lib.hid qq
          have E_6 := Lib.hid ee
          clear jj gg hh pp dd qq ee
          have hS := hT
          clear hT
          refine wpAnyH_done (by kernel_rfl) ?_ _
          refine NoPanic.normal ?_
          have OD : Hid (Od w (w.heap.size + 1 + 1) g h ⟨b1, a, k, c, a', k', c'⟩ ⟨b2, p, l, e, p', l', e'⟩ x y x' y' W43) := ⟨G_6.out, H_6.out, P_6.out, D_6.out, Q_6.out, E_6.out, FB.out, QB.out, LG.out, LH.out, J_6.out.bel⟩
          go_wp2_with fail
          go_meet
          case rel => exact ⟨g, h, _, _, rfl, rfl, OD.out, J_6.out⟩
      · go_simp
        have bc := bel_one WD (.cells #[.bool false, .slice none 0 0, .slice none 0 0] 53)
        have LH : Hid (w.heap.size + 1 + 1 < WD.heap.size) := J_0.out.lo
        have J_1 := Lib.hid (J_0.out.keep bc)
        clear J_0
        have H_1 : Hid (B3 (WD.alloc (.cells #[.bool false, .slice none 0 0, .slice none 0 0] 53)) WD.heap.size (.bool false) (.slice none 0 0) (.slice none 0 0)) := B3.made WD _ _ _ _
        have hT := J_1.out.s22
        refine hK.out _ _ hT (fun _ => ?_)
        clear hK K hS bc
        try simp only [Act.put, List.setIfInBounds_toArray, List.set_cons_zero, List.set_cons_succ]
        generalize WD.alloc (.cells #[.bool false, .slice none 0 0, .slice none 0 0] 53) = W44 at *
        generalize WD.heap.size = h at *
        have hS := hT
        clear hT
        refine wpAnyH_ready (rs := [1, 4]) (by kernel_rfl) (by simp) ?_
        refine AllReadyH.cons rfl (fun K hK => ?_) (AllReadyH.cons rfl (fun K hK => ?_) AllReadyH.nil)
        · go_simp
          (refine (O1.out W44).mono ?_)
          rintro e W45 ⟨a, k, c, a', k', c', rfl, hp, hd, bc⟩
          try go_simp
          have J_2 := Lib.hid (J_1.out.keep bc)
          have H_2 := Lib.hid (H_1.out.keep bc)
          clear J_1 H_1
          have P_2 := Lib.hid hp
          have D_2 := Lib.hid hd
          have hT := J_2.out.s22
          refine hK.out _ _ hT (fun _ => ?_)
          clear hK K hS bc hp hd
          have hS := hT
          clear hT
          try simp only [Act.put, List.setIfInBounds_toArray, List.set_cons_zero, List.set_cons_succ]
          refine wpAnyH_ready (rs := [3, 4]) (by kernel_rfl) (by simp) ?_
          refine AllReadyH.cons rfl (fun K hK => ?_) (AllReadyH.cons rfl (fun K hK => ?_) AllReadyH.nil)
          · go_simp
            (refine (O2.out W45).mono ?_)
            rintro e W46 ⟨p, l, e, p', l', e', rfl, hp, hd, bc⟩
            try go_simp
            have J_3 := Lib.hid (J_2.out.keep bc)
            have H_3 := Lib.hid (H_2.out.keep bc)
            have P_3 := Lib.hid (P_2.out.below bc)
            have D_3 := Lib.hid (D_2.out.below bc)
            clear J_2 H_2 P_2 D_2
            have Q_3 := Lib.hid hp
            have E_3 := Lib.hid hd
            have hT := J_3.out.s22
            refine hK.out _ _ hT (fun _ => ?_)
            clear hK K hS bc hp hd
            have hS := hT
            clear hT
            try simp only [Act.put, List.setIfInBounds_toArray, List.set_cons_zero, List.set_cons_succ]
            refine wpAnyH_ready (rs := [4]) (by kernel_rfl) (by simp) ?_
            refine AllReadyH.cons rfl (fun K hK => ?_) AllReadyH.nil
            go_simp
            have bc := bel_one W46 (.cells #[.bool false, .slice none 0 0, .slice none 0 0] 53)
            have LG : Hid (w.heap.size + 1 + 1 < W46.heap.size) := J_3.out.lo
            have NE : Hid (h ≠ W46.heap.size) := by have := H_3.out.lt; unfold Hid; omega
            have J_4 := Lib.hid (J_3.out.keep bc)
            have H_4 := Lib.hid (H_3.out.keep bc)
            have P_4 := Lib.hid (P_3.out.below bc)
            have D_4 := Lib.hid (D_3.out.below bc)
            have Q_4 := Lib.hid (Q_3.out.below bc)
            have E_4 := Lib.hid (E_3.out.below bc)
            clear J_3 H_3 P_3 D_3 Q_3 E_3
            have G_4 : Hid (B3 (W46.alloc (.cells #[.bool false, .slice none 0 0, .slice none 0 0] 53)) W46.heap.size (.bool false) (.slice none 0 0) (.slice none 0 0)) := B3.made W46 _ _ _ _
            have hT := J_4.out.s22
            refine hK.out _ _ hT (fun _ => ?_)
            clear hK K hS bc
            try simp only [Act.put, List.setIfInBounds_toArray, List.set_cons_zero, List.set_cons_succ]
            generalize W46.alloc (.cells #[.bool false, .slice none 0 0, .slice none 0 0] 53) = W47 at *
            generalize W46.heap.size = g at *
            have hS := hT
            clear hT
            refine wpAnyH_ready (rs := [6]) (by kernel_rfl) (by simp) ?_
            refine AllReadyH.cons rfl (fun K hK => ?_) AllReadyH.nil
            have q0 := G_4.out.c0
            have q1 := G_4.out.c1
            have q2 := G_4.out.c2
            have g0 := G_4.out.fr 0
            have g1 := G_4.out.fr 1
            have g2 := G_4.out.fr 2
            go_simp
            clear q0 q1 q2 g0 g1 g2
            have jj := J_4.out.three LG.out (.bool b1) (.slice a k c) (.slice a' k' c')
            have gg := G_4.out.set (.bool b1) (.slice a k c) (.slice a' k' c')
            have hh := H_4.out.other (NE.out.symm) (.bool b1) (.slice a k c) (.slice a' k' c')
            have pp := P_4.out.set3 G_4.out (.bool b1) (.slice a k c) (.slice a' k' c')
            have dd := D_4.out.set3 G_4.out (.bool b1) (.slice a k c) (.slice a' k' c')
            have qq := Q_4.out.set3 G_4.out (.bool b1) (.slice a k c) (.slice a' k' c')
            have ee := E_4.out.set3 G_4.out (.bool b1) (.slice a k c) (.slice a' k' c')
            have hT := jj.s22
            clear J_4 G_4 H_4 P_4 D_4 Q_4 E_4
            unfold three at jj gg hh pp dd qq ee hT
            refine hK.out _ _ hT (fun _ => ?_)
            clear hK K hS
            try simp only [Act.put, List.setIfInBounds_toArray, List.set_cons_zero, List.set_cons_succ]
            generalize ((W47.setCell ⟨g, 0, none⟩ (.bool b1)).setCell ⟨g, 1, none⟩ (.slice a k c)).setCell ⟨g, 2, none⟩ (.slice a' k' c') = W48 at *
            have J_5 := Lib.hid jj
            have G_5 := Lib.hid gg
            have H_5 := Lib.hid hh
            have P_5 := Lib.hid pp
            have D_5 := Lib.hid dd
            have Q_5 := Lib.hid qq
            have E_5 := Lib.hid ee
            clear jj gg hh pp dd qq ee
            have hS := hT
            clear hT
            refine wpAnyH_ready (rs := [7]) (by kernel_rfl) (by simp) ?_
            refine AllReadyH.cons rfl (fun K hK => ?_) AllReadyH.nil
            have q0 := H_5.out.c0
            have q1 := H_5.out.c1
            have q2 := H_5.out.c2
            have g0 := H_5.out.fr 0
            have g1 := H_5.out.fr 1
            have g2 := H_5.out.fr 2
            go_simp
            clear q0 q1 q2 g0 g1 g2
            have jj := J_5.out.three LH.out (.bool b2) (.slice p l e) (.slice p' l' e')
            have gg := H_5.out.set (.bool b2) (.slice p l e) (.slice p' l' e')
            have hh := G_5.out.other (NE.out) (.bool b2) (.slice p l e) (.slice p' l' e')
            have pp := P_5.out.set3 H_5.out (.bool b2) (.slice p l e) (.slice p' l' e')
            have dd := D_5.out.set3 H_5.out (.bool b2) (.slice p l e) (.slice p' l' e')
            have qq := Q_5.out.set3 H_5.out (.bool b2) (.slice p l e) (.slice p' l' e')
            have ee := E_5.out.set3 H_5.out (.bool b2) (.slice p l e) (.slice p' l' e')
            have hT := jj.s22
            clear J_5 G_5 H_5 P_5 D_5 Q_5 E_5
            unfold three at jj gg hh pp dd qq ee hT
            refine hK.out _ _ hT (fun _ => ?_)
            clear hK K hS
            try simp only [Act.put, List.setIfInBounds_toArray, List.set_cons_zero, List.set_cons_succ]
            generalize ((W48.setCell ⟨h, 0, none⟩ (.bool b2)).setCell ⟨h, 1, none⟩ (.slice p l e)).setCell ⟨h, 2, none⟩ (.slice p' l' e') = W49 at *
            have J_6 := Lib.hid jj
            have H_6 := Lib.hid gg
            have G_6 := Lib.hid hh
            have P_6 := Lib.hid pp
            have D_6 := Lib.hid dd
            have Q_6 := Lib.hid qq
            have E_6 := Lib.hid ee
            clear jj gg hh pp dd qq ee
            have hS := hT
            clear hT
            refine wpAnyH_done (by kernel_rfl) ?_ _
            refine NoPanic.normal ?_
            have OD : Hid (Od w (w.heap.size + 1 + 1) g h ⟨b1, a, k, c, a', k', c'⟩ ⟨b2, p, l, e, p', l', e'⟩ x y x' y' W49) := ⟨G_6.out, H_6.out, P_6.out, D_6.out, Q_6.out, E_6.out, FB.out, QB.out, LG.out, LH.out, J_6.out.bel⟩
            go_wp2_with fail
            go_meet
            case rel => exact ⟨g, h, _, _, rfl, rfl, OD.out, J_6.out⟩
          · go_simp
            have bc := bel_one W45 (.cells #[.bool false, .slice none 0 0, .slice none 0 0] 53)
            have LG : Hid (w.heap.size + 1 + 1 < W45.heap.size) := J_2.out.lo
            have NE : Hid (h ≠ W45.heap.size) := by have := H_2.out.lt; unfold Hid; omega
            have J_3 := Lib.hid (J_2.out.keep bc)
            have H_3 := Lib.hid (H_2.out.keep bc)
            have P_3 := Lib.hid (P_2.out.below bc)
            have D_3 := Lib.hid (D_2.out.below bc)
            clear J_2 H_2 P_2 D_2
            have G_3 : Hid (B3 (W45.alloc (.cells #[.bool false, .slice none 0 0, .slice none 0 0] 53)) W45.heap.size (.bool false) (.slice none 0 0) (.slice none 0 0)) := B3.made W45 _ _ _ _
            have hT := J_3.out.s22
            refine hK.out _ _ hT (fun _ => ?_)
            clear hK K hS bc
            try simp only [Act.put, List.setIfInBounds_toArray, List.set_cons_zero, List.set_cons_succ]
            generalize W45.alloc (.cells #[.bool false, .slice none 0 0, .slice none 0 0] 53) = W50 at *
            generalize W45.heap.size = g at *
            have hS := hT
            clear hT
            refine wpAnyH_ready (rs := [3]) (by kernel_rfl) (by simp) ?_
            refine AllReadyH.cons rfl (fun K hK => ?_) AllReadyH.nil
            go_simp
            (refine (O2.out W50).mono ?_)
            rintro e W51 ⟨p, l, e, p', l', e', rfl, hp, hd, bc⟩
            try go_simp
            have J_4 := Lib.hid (J_3.out.keep bc)
            have H_4 := Lib.hid (H_3.out.keep bc)
            have P_4 := Lib.hid (P_3.out.below bc)
            have D_4 := Lib.hid (D_3.out.below bc)
            have G_4 := Lib.hid (G_3.out.keep bc)
            clear J_3 H_3 P_3 D_3 G_3
            have Q_4 := Lib.hid hp
            have E_4 := Lib.hid hd
            have hT := J_4.out.s22
            refine hK.out _ _ hT (fun _ => ?_)
            clear hK K hS bc hp hd
            have hS := hT
            clear hT
            try simp only [Act.put, List.setIfInBounds_toArray, List.set_cons_zero, List.set_cons_succ]
            refine wpAnyH_ready (rs := [6]) (by kernel_rfl) (by simp) ?_
            refine AllReadyH.cons rfl (fun K hK => ?_) AllReadyH.nil
            have q0 := G_4.out.c0
            have q1 := G_4.out.c1
            have q2 := G_4.out.c2
            have g0 := G_4.out.fr 0
            have g1 := G_4.out.fr 1
            have g2 := G_4.out.fr 2
            go_simp
            clear q0 q1 q2 g0 g1 g2
            have jj := J_4.out.three LG.out (.bool b1) (.slice a k c) (.slice a' k' c')
            have gg := G_4.out.set (.bool b1) (.slice a k c) (.slice a' k' c')
            have hh := H_4.out.other (NE.out.symm) (.bool b1) (.slice a k c) (.slice a' k' c')
            have pp := P_4.out.set3 G_4.out (.bool b1) (.slice a k c) (.slice a' k' c')
            have dd := D_4.out.set3 G_4.out (.bool b1) (.slice a k c) (.slice a' k' c')
            have qq := Q_4.out.set3 G_4.out (.bool b1) (.slice a k c) (.slice a' k' c')
            have ee := E_4.out.set3 G_4.out (.bool b1) (.slice a k c) (.slice a' k' c')
            have hT := jj.s22
            clear J_4 G_4 H_4 P_4 D_4 Q_4 E_4
            unfold three at jj gg hh pp dd qq ee hT
            refine hK.out _ _ hT (fun _ => ?_)
            clear hK K hS
            try simp only [Act.put, List.setIfInBounds_toArray, List.set_cons_zero, List.set_cons_succ]
            generalize ((W51.setCell ⟨g, 0, none⟩ (.bool b1)).setCell ⟨g, 1, none⟩ (.slice a k c)).setCell ⟨g, 2, none⟩ (.slice a' k' c') = W52 at *
            have J_5 := Lib.hid jj
            have G_5 := Lib.hid gg
            have H_5 := Lib.hid hh
            have P_5 := Lib.hid pp
            have D_5 := Lib.hid dd
            have Q_5 := Lib.hid qq
            have E_5 := Lib.hid ee
            clear jj gg hh pp dd qq ee
            have hS := hT
            clear hT
            refine wpAnyH_ready (rs := [7]) (by kernel_rfl) (by simp) ?_
            refine AllReadyH.cons rfl (fun K hK => ?_) AllReadyH.nil
            have q0 := H_5.out.c0
            have q1 := H_5.out.c1
            have q2 := H_5.out.c2
            have g0 := H_5.out.fr 0
            have g1 := H_5.out.fr 1
            have g2 := H_5.out.fr 2
            go_simp
            clear q0 q1 q2 g0 g1 g2
            have jj := J_5.out.three LH.out (.bool b2) (.slice p l e) (.slice p' l' e')
            have gg := H_5.out.set (.bool b2) (.slice p l e) (.slice p' l' e')
            have hh := G_5.out.other (NE.out) (.bool b2) (.slice p l e) (.slice p' l' e')
            have pp := P_5.out.set3 H_5.out (.bool b2) (.slice p l e) (.slice p' l' e')
            have dd := D_5.out.set3 H_5.out (.bool b2) (.slice p l e) (.slice p' l' e')
            have qq := Q_5.out.set3 H_5.out (.bool b2) (.slice p l e) (.slice p' l' e')
            have ee := E_5.out.set3 H_5.out (.bool b2) (.slice p l e) (.slice p' l' e')
            have hT := jj.s22
            clear J_5 G_5 H_5 P_5 D_5 Q_5 E_5
            unfold three at jj gg hh pp dd qq ee hT
            refine hK.out _ _ hT (fun _ => ?_)
            clear hK K hS
            try simp only [Act.put, List.setIfInBounds_toArray, List.set_cons_zero, List.set_cons_succ]
            generalize ((W52.setCell ⟨h, 0, none⟩ (.bool b2)).setCell ⟨h, 1, none⟩ (.slice p l e)).setCell ⟨h, 2, none⟩ (.slice p' l' e') = W53 at *
            have J_6 := Lib.hid jj
            have H_6 := Lib.hid gg
            have G_6 := Lib.hid hh
            have P_6 := Lib.hid pp
            have D_6 := Lib.hid dd
            have Q_6 := Lib.hid qq
            have E_6 := Lib.hid ee
            clear jj gg hh pp dd qq ee
            have hS := hT
            clear hT
            refine wpAnyH_done (by kernel_rfl) ?_ _
            refine NoPanic.normal ?_
            have OD : Hid (Od w (w.heap.size + 1 + 1) g h ⟨b1, a, k, c, a', k', c'⟩ ⟨b2, p, l, e, p', l', e'⟩ x y x' y' W53) := ⟨G_6.out, H_6.out, P_6.out, D_6.out, Q_6.out, E_6.out, FB.out, QB.out, LG.out, LH.out, J_6.out.bel⟩
            go_wp2_with fail
            go_meet
            case rel => exact ⟨g, h, _, _, rfl, rfl, OD.out, J_6.out⟩
        · go_simp
          have bc := bel_one W44 (.cells #[.bool false, .slice none 0 0, .slice none 0 0] 53)
          have LG : Hid (w.heap.size + 1 + 1 < W44.heap.size) := J_1.out.lo
          have NE : Hid (h ≠ W44.heap.size) := by have := H_1.out.lt; unfold Hid; omega
          have J_2 := Lib.hid (J_1.out.keep bc)
          have H_2 := Lib.hid (H_1.out.keep bc)
          clear J_1 H_1
          have G_2 : Hid (B3 (W44.alloc (.cells #[.bool false, .slice none 0 0, .slice none 0 0] 53)) W44.heap.size (.bool false) (.slice none 0 0) (.slice none 0 0)) := B3.made W44 _ _ _ _
          have hT := J_2.out.s22
          refine hK.out _ _ hT (fun _ => ?_)
          clear hK K hS bc
          try simp only [Act.put, List.setIfInBounds_toArray, List.set_cons_zero, List.set_cons_succ]
          generalize W44.alloc (.cells #[.bool false, .slice none 0 0, .slice none 0 0] 53) = W54 at *
          generalize W44.heap.size = g at *
          have hS := hT
          clear hT
          refine wpAnyH_ready (rs := [1]) (by kernel_rfl) (by simp) ?_
          refine AllReadyH.cons rfl (fun K hK => ?_) AllReadyH.nil
          go_simp
          (refine (O1.out W54).mono ?_)
          rintro e W55 ⟨a, k, c, a', k', c', rfl, hp, hd, bc⟩
          try go_simp
          have J_3 := Lib.hid (J_2.out.keep bc)
          have H_3 := Lib.hid (H_2.out.keep bc)
          have G_3 := Lib.hid (G_2.out.keep bc)
          clear J_2 H_2 G_2
          have P_3 := Lib.hid hp
          have D_3 := Lib.hid hd
          have hT := J_3.out.s22
          refine hK.out _ _ hT (fun _ => ?_)
          clear hK K hS bc hp hd
          have hS := hT
          clear hT
          try simp only [Act.put, List.setIfInBounds_toArray, List.set_cons_zero, List.set_cons_succ]
          refine wpAnyH_ready (rs := [3]) (by kernel_rfl) (by simp) ?_
          refine AllReadyH.cons rfl (fun K hK => ?_) AllReadyH.nil
          go_simp
          (refine (O2.out W55).mono ?_)
          rintro e W56 ⟨p, l, e, p', l', e', rfl, hp, hd, bc⟩
          try go_simp
          have J_4 := Lib.hid (J_3.out.keep bc)
          have H_4 := Lib.hid (H_3.out.keep bc)
          have G_4 := Lib.hid (G_3.out.keep bc)
          have P_4 := Lib.hid (P_3.out.below bc)
          have D_4 := Lib.hid (D_3.out.below bc)
          clear J_3 H_3 G_3 P_3 D_3
          have Q_4 := Lib.hid hp
          have E_4 := Lib.hid hd
          have hT := J_4.out.s22
          refine hK.out _ _ hT (fun _ => ?_)
          clear hK K hS bc hp hd
          have hS := hT
          clear hT
          try simp only [Act.put, List.setIfInBounds_toArray, List.set_cons_zero, List.set_cons_succ]
          refine wpAnyH_ready (rs := [6]) (by kernel_rfl) (by simp) ?_
          refine AllReadyH.cons rfl (fun K hK => ?_) AllReadyH.nil
          have q0 := G_4.out.c0
          have q1 := G_4.out.c1
          have q2 := G_4.out.c2
          have g0 := G_4.out.fr 0
          have g1 := G_4.out.fr 1
          have g2 := G_4.out.fr 2
          go_simp
          clear q0 q1 q2 g0 g1 g2
          have jj := J_4.out.three LG.out (.bool b1) (.slice a k c) (.slice a' k' c')
          have gg := G_4.out.set (.bool b1) (.slice a k c) (.slice a' k' c')
          have hh := H_4.out.other (NE.out.symm) (.bool b1) (.slice a k c) (.slice a' k' c')
          have pp := P_4.out.set3 G_4.out (.bool b1) (.slice a k c) (.slice a' k' c')
          have dd := D_4.out.set3 G_4.out (.bool b1) (.slice a k c) (.slice a' k' c')
          have qq := Q_4.out.set3 G_4.out (.bool b1) (.slice a k c) (.slice a' k' c')
          have ee := E_4.out.set3 G_4.out (.bool b1) (.slice a k c) (.slice a' k' c')
          have hT := jj.s22
          clear J_4 G_4 H_4 P_4 D_4 Q_4 E_4
          unfold three at jj gg hh pp dd qq ee hT
          refine hK.out _ _ hT (fun _ => ?_)
          clear hK K hS
          try simp only [Act.put, List.setIfInBounds_toArray, List.set_cons_zero, List.set_cons_succ]
          generalize ((W56.setCell ⟨g, 0, none⟩ (.bool b1)).setCell ⟨g, 1, none⟩ (.slice a k c)).setCell ⟨g, 2, none⟩ (.slice a' k' c') = W57 at *
          have J_5 := Lib.hid jj
          have G_5 := Lib.hid gg
          have H_5 := Lib.hid hh
          have P_5 := Lib.hid pp
          have D_5 := Lib.hid dd
          have Q_5 := Lib.hid qq
          have E_5 := Lib.hid ee
          clear jj gg hh pp dd qq ee
          have hS := hT
          clear hT
          refine wpAnyH_ready (rs := [7]) (by kernel_rfl) (by simp) ?_
          refine AllReadyH.cons rfl (fun K hK => ?_) AllReadyH.nil
          have q0 := H_5.out.c0
          have q1 := H_5.out.c1
          have q2 := H_5.out.c2
          have g0 := H_5.out.fr 0
          have g1 := H_5.out.fr 1
          have g2 := H_5.out.fr 2
          go_simp
          clear q0 q1 q2 g0 g1 g2
          have jj := J_5.out.three LH.out (.bool b2) (.slice p l e) (.slice p' l' e')
          have gg := H_5.out.set (.bool b2) (.slice p l e) (.slice p' l' e')
          have hh := G_5.out.other (NE.out) (.bool b2) (.slice p l e) (.slice p' l' e')
          have pp := P_5.out.set3 H_5.out (.bool b2) (.slice p l e) (.slice p' l' e')
          have dd := D_5.out.set3 H_5.out (.bool b2) (.slice p l e) (.slice p' l' e')
          have qq := Q_5.out.set3 H_5.out (.bool b2) (.slice p l e) (.slice p' l' e')
          have ee := E_5.out.set3 H_5.out (.bool b2) (.slice p l e) (.slice p' l' e')
          have hT := jj.s22
          clear J_5 G_5 H_5 P_5 D_5 Q_5 E_5
          unfold three at jj gg hh pp dd qq ee hT
          refine hK.out _ _ hT (fun _ => ?_)
          clear hK K hS
          try simp only [Act.put, List.setIfInBounds_toArray, List.set_cons_zero, List.set_cons_succ]
          generalize ((W57.setCell ⟨h, 0, none⟩ (.bool b2)).setCell ⟨h, 1, none⟩ (.slice p l e)).setCell ⟨h, 2, none⟩ (.slice p' l' e') = W58 at *
          have J_6 := Lib.hid jj
          have H_6 := Lib.hid gg
          have G_6 := Lib.hid hh
          have P_6 := Lib.hid pp
          have D_6 := Lib.hid dd
          have Q_6 := Lib.hid qq
          have E_6 := Lib.hid ee
          clear jj gg hh pp dd qq ee
          have hS := hT
          clear hT
          refine wpAnyH_done (by kernel_rfl) ?_ _
          refine NoPanic.normal ?_
          have OD : Hid (Od w (w.heap.size + 1 + 1) g h ⟨b1, a, k, c, a', k', c'⟩ ⟨b2, p, l, e, p', l', e'⟩ x y x' y' W58) := ⟨G_6.out, H_6.out, P_6.out, D_6.out, Q_6.out, E_6.out, FB.out, QB.out, LG.out, LH.out, J_6.out.bel⟩
          go_wp2_with fail
          go_meet
          case rel => exact ⟨g, h, _, _, rfl, rfl, OD.out, J_6.out⟩
    case rest =>
      obtain ⟨g, h, f, q, rfl, rfl, hO, hJ⟩ := hcut
      clear J1 O1 O2
      go_wp2_with fail
      refine wp_region_noPanic ?_
      refine wp_region_held_drew (S := S33 g h f q) (by kernel_rfl) (hO.out.keep (Below.refl _ _).drew).s33 (fun hS => ?_)
      have O_0 := Lib.hid (hO.out.keep (Below.refl _ _).drew)
      have J_0 := Lib.hid (hJ.out.keep (Below.refl _ _).drew)
      clear hO hJ
      generalize wc.drew = WD at *
      refine wpAnyH_take (i := 0) (v := ?v0z31) rfl (by kernel_rfl) (by kernel_rfl) (by kernel_rfl) (fun _ _ _ h => h) (Or.inl ⟨by rfl, ?hy0z31⟩) (by assumption) ?rest0z31
      case hy0z31 =>
        intro w hSw
        dsimp only [S33] at hSw
        go_simp
        try with_reducible rfl
      simp only [Act.put, List.getElem_toArray, List.getElem_cons_succ, List.getElem_cons_zero, List.setIfInBounds_toArray, List.set_cons_zero, List.set_cons_succ]
      refine wpAnyH_take (i := 1) (v := ?v1z32) rfl (by kernel_rfl) (by kernel_rfl) (by kernel_rfl) (fun _ _ _ h => h) (Or.inl ⟨by rfl, ?hy1z32⟩) (by assumption) ?rest1z32
      case hy1z32 =>
        intro w hSw
        dsimp only [S33] at hSw
        go_simp
        try with_reducible rfl
      simp only [Act.put, List.getElem_toArray, List.getElem_cons_succ, List.getElem_cons_zero, List.setIfInBounds_toArray, List.set_cons_zero, List.set_cons_succ]
      refine wpAnyH_take (i := 2) (v := ?v2z33) rfl (by kernel_rfl) (by kernel_rfl) (by kernel_rfl) (fun _ _ _ h => h) (Or.inl ⟨by rfl, ?hy2z33⟩) (by assumption) ?rest2z33
      case hy2z33 =>
        intro w hSw
        dsimp only [S33] at hSw
        go_simp
        try with_reducible rfl
      simp only [Act.put, List.getElem_toArray, List.getElem_cons_succ, List.getElem_cons_zero, List.setIfInBounds_toArray, List.set_cons_zero, List.set_cons_succ]
      refine wpAnyH_take (i := 3) (v := ?v3z34) rfl (by kernel_rfl) (by kernel_rfl) (by kernel_rfl) (fun _ _ _ h => h) (Or.inl ⟨by rfl, ?hy3z34⟩) (by assumption) ?rest3z34
      case hy3z34 =>
        intro w hSw
        dsimp only [S33] at hSw
        go_simp
        try with_reducible rfl
      simp only [Act.put, List.getElem_toArray, List.getElem_cons_succ, List.getElem_cons_zero, List.setIfInBounds_toArray, List.set_cons_zero, List.set_cons_succ]
      refine wpAnyH_take (i := 4) (v := ?v4z35) rfl (by kernel_rfl) (by kernel_rfl) (by kernel_rfl) (fun _ _ _ h => h) (Or.inl ⟨by rfl, ?hy4z35⟩) (by assumption) ?rest4z35
      case hy4z35 =>
        intro w hSw
        dsimp only [S33] at hSw
        go_simp
        try with_reducible rfl
      simp only [Act.put, List.getElem_toArray, List.getElem_cons_succ, List.getElem_cons_zero, List.setIfInBounds_toArray, List.set_cons_zero, List.set_cons_succ]
      refine wpAnyH_take (i := 5) (v := ?v5z36) rfl (by kernel_rfl) (by kernel_rfl) (by kernel_rfl) (fun _ _ _ h => h) (Or.inl ⟨by rfl, ?hy5z36⟩) (by assumption) ?rest5z36
      case hy5z36 =>
        intro w hSw
        dsimp only [S33] at hSw
        go_simp
        try with_reducible rfl
      simp only [Act.put, List.getElem_toArray, List.getElem_cons_succ, List.getElem_cons_zero, List.setIfInBounds_toArray, List.set_cons_zero, List.set_cons_succ]
      refine wpAnyH_take (i := 6) (v := ?v6z37) rfl (by kernel_rfl) (by kernel_rfl) (by kernel_rfl) (fun _ _ _ h => h) (Or.inl ⟨by rfl, ?hy6z37⟩) (by assumption) ?rest6z37
      case hy6z37 =>
        intro w hSw
        dsimp only [S33] at hSw
        go_simp
        try with_reducible rfl
      simp only [Act.put, List.getElem_toArray, List.getElem_cons_succ, List.getElem_cons_zero, List.setIfInBounds_toArray, List.set_cons_zero, List.set_cons_succ]
      refine wpAnyH_take (i := 7) (v := ?v7z38) rfl (by kernel_rfl) (by kernel_rfl) (by kernel_rfl) (fun _ _ _ h => h) (Or.inl ⟨by rfl, ?hy7z38⟩) (by assumption) ?rest7z38
      case hy7z38 =>
        intro w hSw
        dsimp only [S33] at hSw
        go_simp
        try with_reducible rfl
      simp only [Act.put, List.getElem_toArray, List.getElem_cons_succ, List.getElem_cons_zero, List.setIfInBounds_toArray, List.set_cons_zero, List.set_cons_succ]
      refine wpAnyH_take (i := 8) (v := ?v8z39) rfl (by kernel_rfl) (by kernel_rfl) (by kernel_rfl) (fun _ _ _ h => h) (Or.inl ⟨by rfl, ?hy8z39⟩) (by assumption) ?rest8z39
      case hy8z39 =>
        intro w hSw
        dsimp only [S33] at hSw
        go_simp
        try with_reducible rfl
      simp only [Act.put, List.getElem_toArray, List.getElem_cons_succ, List.getElem_cons_zero, List.setIfInBounds_toArray, List.set_cons_zero, List.set_cons_succ]
      refine wpAnyH_take (i := 10) (v := ?v10z40) rfl (by kernel_rfl) (by kernel_rfl) (by kernel_rfl) (fun _ _ _ h => h) (Or.inl ⟨by rfl, ?hy10z40⟩) (by assumption) ?rest10z40
      case hy10z40 =>
        intro w hSw
        dsimp only [S33] at hSw
        go_simp
        try with_reducible rfl
      simp only [Act.put, List.getElem_toArray, List.getElem_cons_succ, List.getElem_cons_zero, List.setIfInBounds_toArray, List.set_cons_zero, List.set_cons_succ]
      refine wpAnyH_take (i := 11) (v := ?v11z41) rfl (by kernel_rfl) (by kernel_rfl) (by kernel_rfl) (fun _ _ _ h => h) (Or.inl ⟨by rfl, ?hy11z41⟩) (by assumption) ?rest11z41
      case hy11z41 =>
        intro w hSw
        dsimp only [S33] at hSw
        go_simp
        try with_reducible rfl
      simp only [Act.put, List.getElem_toArray, List.getElem_cons_succ, List.getElem_cons_zero, List.setIfInBounds_toArray, List.set_cons_zero, List.set_cons_succ]
      refine wpAnyH_take (i := 12) (v := ?v12z42) rfl (by kernel_rfl) (by kernel_rfl) (by kernel_rfl) (fun _ _ _ h => h) (Or.inl ⟨by rfl, ?hy12z42⟩) (by assumption) ?rest12z42
      case hy12z42 =>
        intro w hSw
        dsimp only [S33] at hSw
        go_simp
        try with_reducible rfl
      simp only [Act.put, List.getElem_toArray, List.getElem_cons_succ, List.getElem_cons_zero, List.setIfInBounds_toArray, List.set_cons_zero, List.set_cons_succ]
      refine wpAnyH_take (i := 13) (v := ?v13z43) rfl (by kernel_rfl) (by kernel_rfl) (by kernel_rfl) (fun _ _ _ h => h) (Or.inl ⟨by rfl, ?hy13z43⟩) (by assumption) ?rest13z43
      case hy13z43 =>
        intro w hSw
        dsimp only [S33] at hSw
        go_simp
        try with_reducible rfl
      simp only [Act.put, List.getElem_toArray, List.getElem_cons_succ, List.getElem_cons_zero, List.setIfInBounds_toArray, List.set_cons_zero, List.set_cons_succ]
      refine wpAnyH_ready (rs := [9]) (by kernel_rfl) (by simp) ?_
      refine AllReadyH.cons rfl (fun K hK => ?_) AllReadyH.nil
      go_simp
      (refine (ntimes_c f.a q.a f.k q.k f.c q.c _ _ _ O_0.out.n O_0.out.n' (by have := O_0.out.n.len V1.out.2.2; have := O_0.out.n'.len V2.out.2.2; omega)).mono ?_)
      rintro e V59 ⟨na, nk, nc, rfl, hn, bc⟩
      try go_simp
      have O_1 := Lib.hid (O_0.out.keep bc)
      have J_1 := Lib.hid (J_0.out.keep bc)
      clear O_0 J_0
      have N_1 := Lib.hid hn
      have hT := O_1.out.s33
      refine hK.out _ _ hT (fun _ => ?_)
      clear hK K hS bc hn
      have hS := hT
      clear hT
      try simp only [Act.put, List.setIfInBounds_toArray, List.set_cons_zero, List.set_cons_succ]
      refine wpAnyH_ready (rs := [14]) (by kernel_rfl) (by simp) ?_
      refine AllReadyH.cons rfl (fun K hK => ?_) AllReadyH.nil
      go_simp
      (refine (ntimes_c f.a' q.a' f.k' q.k' f.c' q.c' _ _ _ O_1.out.d O_1.out.d' (by have := O_1.out.d.len V1.out.2.1; have := O_1.out.d'.len V2.out.2.1; omega)).mono ?_)
      rintro e V60 ⟨da, dk, dc, rfl, hd, bc⟩
      try go_simp
      have O_2 := Lib.hid (O_1.out.keep bc)
      have J_2 := Lib.hid (J_1.out.keep bc)
      have N_2 := Lib.hid (N_1.out.below bc)
      clear O_1 J_1 N_1
      have D_2 := Lib.hid hd
      have hT := O_2.out.s33
      refine hK.out _ _ hT (fun _ => ?_)
      clear hK K hS bc hd
      have hS := hT
      clear hT
      try simp only [Act.put, List.setIfInBounds_toArray, List.set_cons_zero, List.set_cons_succ]
      refine wpAnyH_take (i := 15) (v := ?v15z44) rfl (by kernel_rfl) (by kernel_rfl) (by kernel_rfl) (fun _ _ _ h => h) (Or.inl ⟨by rfl, ?hy15z44⟩) (by assumption) ?rest15z44
      case hy15z44 =>
        intro w hSw
        dsimp only [S33] at hSw
        go_simp
        try with_reducible rfl
      simp only [Act.put, List.getElem_toArray, List.getElem_cons_succ, List.getElem_cons_zero, List.setIfInBounds_toArray, List.set_cons_zero, List.set_cons_succ]
      have HSH := shut_c (f.b != q.b) na da nk dk nc dc _ _ _ N_2.out D_2.out (Nat.mul_pos V1.out.1 V2.out.1) (by have := N_2.out.len (tp_mul_lt V1.out.2.2 V2.out.2.2); omega) (by have := D_2.out.len (tp_mul_lt V1.out.2.1 V2.out.2.1); omega) (HE.out _ O_2.out.bel)
      have e1 : zv (f.b != q.b) (x.natAbs * x'.natAbs) = x * x' := by rw [zv_mul, O_2.out.fb, O_2.out.qb, zv_dec, zv_dec]
      have e2 : ((y.natAbs * y'.natAbs : Nat) : Int) = y * y' := by
        have p1 := P1.out
        have p2 := P2.out
        rw [Int.natCast_mul, Int.natAbs_of_nonneg (by omega), Int.natAbs_of_nonneg (by omega)]
      rw [e1, e2] at HSH
      obtain ⟨rr, hrr⟩ : ∃ rr, raR (x * x') (y * y') = rr := ⟨_, rfl⟩
      rw [hrr] at HSH
      have RS2 : Hid (opS fMul s.data.toList t.data.toList s'.data.toList t'.data.toList = rr) := by unfold Hid; rw [← hrr]; exact RS.out
      have HSH := Lib.hid HSH
      clear e1 e2 hrr RS
      refine wpAnyH_ready (rs := [16]) (by kernel_rfl) (by simp) ?_
      refine AllReadyH.cons rfl (fun K hK => ?_) AllReadyH.nil
      go_simp
      (refine (HSH.out).mono ?_)
      rintro e V61 ⟨rfl, bc⟩
      try go_simp
      have O_3 := Lib.hid (O_2.out.keep bc)
      have J_3 := Lib.hid (J_2.out.keep bc)
      clear O_2 J_2
      have hT := O_3.out.s33
      refine hK.out _ _ hT (fun _ => ?_)
      clear hK K hS bc
      have hS := hT
      clear hT
      try simp only [Act.put, List.setIfInBounds_toArray, List.set_cons_zero, List.set_cons_succ]
      refine wpAnyH_take (i := 17) (v := ?v17z45) rfl (by kernel_rfl) (by kernel_rfl) (by kernel_rfl) (fun _ _ _ h => h) (Or.inl ⟨by rfl, ?hy17z45⟩) (by assumption) ?rest17z45
      case hy17z45 =>
        intro w hSw
        dsimp only [S33] at hSw
        go_simp
        try with_reducible rfl
      simp only [Act.put, List.getElem_toArray, List.getElem_cons_succ, List.getElem_cons_zero, List.setIfInBounds_toArray, List.set_cons_zero, List.set_cons_succ]
      refine wpAnyH_take (i := 18) (v := ?v18z46) rfl (by kernel_rfl) (by kernel_rfl) (by kernel_rfl) (fun _ _ _ h => h) (Or.inl ⟨by rfl, ?hy18z46⟩) (by assumption) ?rest18z46
      case hy18z46 =>
        intro w hSw
        dsimp only [S33] at hSw
        go_simp
        try with_reducible rfl
      simp only [Act.put, List.getElem_toArray, List.getElem_cons_succ, List.getElem_cons_zero, List.setIfInBounds_toArray, List.set_cons_zero, List.set_cons_succ]
      refine wpAnyH_ready (rs := [19]) (by kernel_rfl) (by simp) ?_
      refine AllReadyH.cons rfl (fun K hK => ?_) AllReadyH.nil
      have q0 := J_3.out.r.c0
      have q1 := J_3.out.r.c1
      have g0 := J_3.out.r.fr 0
      have g1 := J_3.out.r.fr 1
      go_simp
      clear q0 q1 g0 g1
      have hT := O_3.out.done (.string rr.1) (.string rr.2.1)
      have R9 := J_3.out.r.set (.string rr.1) (.string rr.2.1)
      have PP : Hid (OpPost (opS fMul s.data.toList t.data.toList s'.data.toList t'.data.toList) w (.returned (.tuple #[.agg #[.string rr.1, .string rr.2.1], .int .i64 rr.2.2])) (two V61 (w.heap.size + 1 + 1) (.string rr.1) (.string rr.2.1))) :=
        ⟨by rw [RS2.out], below_two J_3.out.bel (by omega) _ _⟩
      unfold two at hT R9 PP
      refine hK.out _ _ hT (fun _ => ?_)
      clear hK K hS
      try simp only [Act.put, List.setIfInBounds_toArray, List.set_cons_zero, List.set_cons_succ]
      refine wpAnyH_take (i := 20) (v := ?v20z47) rfl (by kernel_rfl) (by kernel_rfl) (by kernel_rfl) (fun _ _ _ h => h) (Or.inl ⟨by rfl, ?hy20z47⟩) (by assumption) ?rest20z47
      case hy20z47 =>
        intro w hSw
        dsimp only [S33] at hSw
        go_simp
        try with_reducible rfl
      simp only [Act.put, List.getElem_toArray, List.getElem_cons_succ, List.getElem_cons_zero, List.setIfInBounds_toArray, List.set_cons_zero, List.set_cons_succ]
      refine wpAnyH_done (by kernel_rfl) ?_ _
      refine NoPanic.normal ?_
      obtain ⟨r0, r1, _, _⟩ := id R9
      clear hT R9
      go_wp2_with fail
      exact bodyPost_ret (v := .tuple #[.agg #[.string rr.1, .string rr.2.1], .int .i64 rr.2.2]) (by simp [results, Tryz.results12, go_sem, r0, r1]) rfl PP.out
  · have hne : (flt == 0) = false := by rw [beq_eq_false_iff_ne]; exact hz
    have hne2 : (flt != 0) = true := by simp [hz]
    have RS2 : Hid (opS fMul s.data.toList t.data.toList s'.data.toList t'.data.toList = (⟨#[]⟩, ⟨#[]⟩, flt)) := by unfold Hid; rw [← HF.out]; exact bk_opS (by rw [HF.out]; exact hz)
    clear hz HF
    obtain ⟨W9, hW9⟩ : ∃ W9, two w1 (w.heap.size + 1 + 1) (.string ⟨#[]⟩) (.string ⟨#[]⟩) = W9 := ⟨_, rfl⟩
    have R9 : B2 W9 (w.heap.size + 1 + 1) (.string ⟨#[]⟩) (.string ⟨#[]⟩) := by rw [← hW9]; exact J1.out.r.set _ _
    have PP : Hid (OpPost (opS fMul s.data.toList t.data.toList s'.data.toList t'.data.toList) w (.returned (.tuple #[.agg #[.string ⟨#[]⟩, .string ⟨#[]⟩], .int .i64 flt])) W9) := by
      rw [← hW9]
      exact ⟨by rw [RS2.out], below_two J1.out.bel (by omega) _ _⟩
    have c0 := J1.out.r.c0
    have c1 := J1.out.r.c1
    have cf0 := J1.out.r.fr 0
    have cf1 := J1.out.r.fr 1
    obtain ⟨r0, r1, _, _⟩ := id R9
    unfold two at hW9
    clear R9
    go_wp2_with fail
    exact bodyPost_ret (v := .tuple #[.agg #[.string ⟨#[]⟩, .string ⟨#[]⟩], .int .i64 flt]) (by simp [results, Tryz.results12, go_sem, r0, r1]) rfl PP.out
end Go.Proofs.YtfijhkaalpinhaaGreatDoor
