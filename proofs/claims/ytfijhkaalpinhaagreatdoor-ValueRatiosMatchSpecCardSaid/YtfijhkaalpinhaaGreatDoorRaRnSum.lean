/-
  Ratios in the reference: Sum.
-/
import Derived.Test.YtfijhkaalpinhaaGreatDoorRa16
namespace Go.Proofs.YtfijhkaalpinhaaGreatDoor
open Go.RowKit

set_option maxRecDepth 100000 in
set_option maxHeartbeats 4000000 in
theorem rSum_c (s t s' t' : ByteArray) (w : World) (hE : Pow w) :
    Calls Tryz.prog 10 #[.agg #[.string s, .string t], .agg #[.string s', .string t']] w (OpPost (opS fSum s.data.toList t.data.toList s'.data.toList t'.data.toList) w) := by
  obtain ⟨W0, hW0⟩ : ∃ W0, ((w.alloc (.cells #[.string s, .string t] 23)).alloc (.cells #[.string s', .string t'] 23)).alloc (.cells #[.string ⟨#[]⟩, .string ⟨#[]⟩] 23) = W0 := ⟨_, rfl⟩
  have J0 : Hid (Sa w s t s' t' W0) := by rw [← hW0]; exact Sa.made _ _ _ _ _ _ _ _
  have x0 := J0.out.x.c0
  have x1 := J0.out.x.c1
  have y0 := J0.out.y.c0
  have y1 := J0.out.y.c1
  have HE := Lib.hid (fun W (h : Below w.heap.size w W) => hE.below h)
  have HBK := Lib.hid (both_c s t s' t' W0 (HE.out _ J0.out.bel))
  clear hE
  obtain ⟨flt, hflt⟩ : ∃ flt, bk s.data.toList t.data.toList s'.data.toList t'.data.toList = flt := ⟨_, rfl⟩
  rw [hflt] at HBK
  have HF := Lib.hid hflt
  clear hflt
  go_enter Tryz.func10, Tryz.ntmps10
  go_wp2_with fail
  clear hW0 x0 x1 y0 y1
  (with_reducible refine HBK.out.mono ?_)
  rintro e w1 ⟨rfl, b1⟩
  have J1 := Lib.hid (J0.out.keep b1)
  clear b1 J0 HBK
  by_cases hz : flt = 0
  · subst hz
    obtain ⟨x, y, x', y', e1, e2⟩ := bk_zero HF.out
    have O1 := Lib.hid (fun w => open_c s t x y w e1)
    have O2 := Lib.hid (fun w => open_c s' t' x' y' w e2)
    have P1 := Lib.hid (rread_pos' e1)
    have P2 := Lib.hid (rread_pos' e2)
    have V1 := Lib.hid (val_pos_den e1)
    have V2 := Lib.hid (val_pos_den e2)
    have RS : Hid (opS fSum s.data.toList t.data.toList s'.data.toList t'.data.toList = raR (x * y' + x' * y) (y * y')) := by unfold Hid opS; rw [e1, e2]; rfl
    clear e1 e2 HF
    obtain ⟨b1, hb1⟩ : ∃ b, decide (x < 0) = b := ⟨_, rfl⟩
    obtain ⟨b2, hb2⟩ : ∃ b, decide (x' < 0) = b := ⟨_, rfl⟩
    rw [hb1] at O1
    rw [hb2] at O2
    have FB : Hid (b1 = decide (x < 0)) := hb1.symm
    have QB : Hid (b2 = decide (x' < 0)) := hb2.symm
    clear hb1 hb2
    go_upto_region 4 with fail
    go_cut [7, 8] from 19 to 22 (fun v7 v8 wx => ∃ (g h : Nat) (f q : Rq), v7 = .pointer (some ⟨g, 0, none⟩) ∧ v8 = .pointer (some ⟨h, 0, none⟩) ∧ Hid (Od w (w.heap.size + 1 + 1) g h f q x y x' y' wx) ∧ Hid (Sa w s t s' t' wx))
    case first =>
      refine wp_region_noPanic ?_
      refine wp_region_held_drew (S := S22 w.heap.size s t s' t') (by kernel_rfl) (J1.out.keep (Below.refl _ _).drew).s22 (fun hS => ?_)
      have J_0 := Lib.hid (J1.out.keep (Below.refl _ _).drew)
      clear J1
      generalize w1.drew = WD at *
      refine wpAnyH_take (i := 0) (v := ?v0z29) rfl (by kernel_rfl) (by kernel_rfl) (by kernel_rfl) (fun _ _ _ h => h) (Or.inl ⟨by rfl, ?hy0z29⟩) (by assumption) ?rest0z29
      case hy0z29 =>
        intro w hSw
        dsimp only [S22] at hSw
        go_simp
        try with_reducible rfl
      simp only [Act.put, List.getElem_toArray, List.getElem_cons_succ, List.getElem_cons_zero, List.setIfInBounds_toArray, List.set_cons_zero, List.set_cons_succ]
      refine wpAnyH_take (i := 2) (v := ?v2z30) rfl (by kernel_rfl) (by kernel_rfl) (by kernel_rfl) (fun _ _ _ h => h) (Or.inl ⟨by rfl, ?hy2z30⟩) (by assumption) ?rest2z30
      case hy2z30 =>
        intro w hSw
        dsimp only [S22] at hSw
        go_simp
        try with_reducible rfl
      simp only [Act.put, List.getElem_toArray, List.getElem_cons_succ, List.getElem_cons_zero, List.setIfInBounds_toArray, List.set_cons_zero, List.set_cons_succ]
      refine wpAnyH_ready (rs := [1, 4, 5]) (by kernel_rfl) (by simp) ?_
      refine AllReadyH.cons rfl (fun K hK => ?_) (AllReadyH.cons rfl (fun K hK => ?_) (AllReadyH.cons rfl (fun K hK => ?_) AllReadyH.nil))
      · go_simp
        (refine (O1.out WD).mono ?_)
        rintro e W1 ⟨a, k, c, a', k', c', rfl, hp, hd, bc⟩
        try go_simp
        have J_1 := Lib.hid (J_0.out.keep bc)
        clear J_0
        have P_1 := Lib.hid hp
        have D_1 := Lib.hid hd
        have hT := J_1.out.s22
        refine hK.out _ _ hT (fun _ => ?_)
        clear hK K hS bc hp hd
        have hS := hT
        clear hT
        try simp only [Act.put, List.setIfInBounds_toArray, List.set_cons_zero, List.set_cons_succ]
        refine wpAnyH_ready (rs := [3, 4, 5]) (by kernel_rfl) (by simp) ?_
        refine AllReadyH.cons rfl (fun K hK => ?_) (AllReadyH.cons rfl (fun K hK => ?_) (AllReadyH.cons rfl (fun K hK => ?_) AllReadyH.nil))
        · go_simp
          (refine (O2.out W1).mono ?_)
          rintro e W2 ⟨p, l, e, p', l', e', rfl, hp, hd, bc⟩
          try go_simp
          have J_2 := Lib.hid (J_1.out.keep bc)
          have P_2 := Lib.hid (P_1.out.below bc)
          have D_2 := Lib.hid (D_1.out.below bc)
          clear J_1 P_1 D_1
          have Q_2 := Lib.hid hp
          have E_2 := Lib.hid hd
          have hT := J_2.out.s22
          refine hK.out _ _ hT (fun _ => ?_)
          clear hK K hS bc hp hd
          have hS := hT
          clear hT
          try simp only [Act.put, List.setIfInBounds_toArray, List.set_cons_zero, List.set_cons_succ]
          refine wpAnyH_ready (rs := [4, 5]) (by kernel_rfl) (by simp) ?_
          refine AllReadyH.cons rfl (fun K hK => ?_) (AllReadyH.cons rfl (fun K hK => ?_) AllReadyH.nil)
          · go_simp
            have bc := bel_one W2 (.cells #[.bool false, .slice none 0 0, .slice none 0 0] 53)
            have LG : Hid (w.heap.size + 1 + 1 < W2.heap.size) := J_2.out.lo
            have J_3 := Lib.hid (J_2.out.keep bc)
            have P_3 := Lib.hid (P_2.out.below bc)
            have D_3 := Lib.hid (D_2.out.below bc)
            have Q_3 := Lib.hid (Q_2.out.below bc)
            have E_3 := Lib.hid (E_2.out.below bc)
            clear J_2 P_2 D_2 Q_2 E_2
            have G_3 : Hid (B3 (W2.alloc (.cells #[.bool false, .slice none 0 0, .slice none 0 0] 53)) W2.heap.size (.bool false) (.slice none 0 0) (.slice none 0 0)) := B3.made W2 _ _ _ _
            have hT := J_3.out.s22
            refine hK.out _ _ hT (fun _ => ?_)
            clear hK K hS bc
            try simp only [Act.put, List.setIfInBounds_toArray, List.set_cons_zero, List.set_cons_succ]
            generalize W2.alloc (.cells #[.bool false, .slice none 0 0, .slice none 0 0] 53) = W3 at *
            generalize W2.heap.size = g at *
            have hS := hT
            clear hT
            refine wpAnyH_ready (rs := [5]) (by kernel_rfl) (by simp) ?_
            refine AllReadyH.cons rfl (fun K hK => ?_) AllReadyH.nil
            go_simp
            have bc := bel_one W3 (.cells #[.bool false, .slice none 0 0, .slice none 0 0] 53)
            have LH : Hid (w.heap.size + 1 + 1 < W3.heap.size) := J_3.out.lo
            have NE : Hid (g ≠ W3.heap.size) := by have := G_3.out.lt; unfold Hid; omega
            have J_4 := Lib.hid (J_3.out.keep bc)
            have P_4 := Lib.hid (P_3.out.below bc)
            have D_4 := Lib.hid (D_3.out.below bc)
            have Q_4 := Lib.hid (Q_3.out.below bc)
            have E_4 := Lib.hid (E_3.out.below bc)
            have G_4 := Lib.hid (G_3.out.keep bc)
            clear J_3 P_3 D_3 Q_3 E_3 G_3
            have H_4 : Hid (B3 (W3.alloc (.cells #[.bool false, .slice none 0 0, .slice none 0 0] 53)) W3.heap.size (.bool false) (.slice none 0 0) (.slice none 0 0)) := B3.made W3 _ _ _ _
            have hT := J_4.out.s22
            refine hK.out _ _ hT (fun _ => ?_)
            clear hK K hS bc
            try simp only [Act.put, List.setIfInBounds_toArray, List.set_cons_zero, List.set_cons_succ]
            generalize W3.alloc (.cells #[.bool false, .slice none 0 0, .slice none 0 0] 53) = W4 at *
            generalize W3.heap.size = h at *
            have hS := hT
            clear hT
            refine wpAnyH_ready (rs := [6]) (by kernel_rfl) (by simp) ?_
            refine AllReadyH.cons rfl (fun K hK => ?_) AllReadyH.nil
            have q0 := G_4.out.c0
            have q1 := G_4.out.c1
            have q2 := G_4.out.c2
            have g0 := G_4.out.fr 0
            have g1 := G_4.out.fr 1
            have g2 := G_4.out.fr 2
            go_simp
            clear q0 q1 q2 g0 g1 g2
            have jj := J_4.out.three LG.out (.bool b1) (.slice a k c) (.slice a' k' c')
            have gg := G_4.out.set (.bool b1) (.slice a k c) (.slice a' k' c')
            have hh := H_4.out.other (NE.out) (.bool b1) (.slice a k c) (.slice a' k' c')
            have pp := P_4.out.set3 G_4.out (.bool b1) (.slice a k c) (.slice a' k' c')
            have dd := D_4.out.set3 G_4.out (.bool b1) (.slice a k c) (.slice a' k' c')
            have qq := Q_4.out.set3 G_4.out (.bool b1) (.slice a k c) (.slice a' k' c')
            have ee := E_4.out.set3 G_4.out (.bool b1) (.slice a k c) (.slice a' k' c')
            have hT := jj.s22
            clear J_4 G_4 H_4 P_4 D_4 Q_4 E_4
            unfold three at jj gg hh pp dd qq ee hT
            refine hK.out _ _ hT (fun _ => ?_)
            clear hK K hS
            try simp only [Act.put, List.setIfInBounds_toArray, List.set_cons_zero, List.set_cons_succ]
            generalize ((W4.setCell ⟨g, 0, none⟩ (.bool b1)).setCell ⟨g, 1, none⟩ (.slice a k c)).setCell ⟨g, 2, none⟩ (.slice a' k' c') = W5 at *
            have J_5 := Lib.hid jj
            have G_5 := Lib.hid gg
            have H_5 := Lib.hid hh
            have P_5 := Lib.hid pp
            have D_5 := Lib.hid dd
            have Q_5 := Lib.hid qq
            have E_5 := Lib.hid ee
            clear jj gg hh pp dd qq ee
            have hS := hT
            clear hT
            refine wpAnyH_ready (rs := [7]) (by kernel_rfl) (by simp) ?_
            refine AllReadyH.cons rfl (fun K hK => ?_) AllReadyH.nil
            have q0 := H_5.out.c0
            have q1 := H_5.out.c1
            have q2 := H_5.out.c2
            have g0 := H_5.out.fr 0
            have g1 := H_5.out.fr 1
            have g2 := H_5.out.fr 2
            go_simp
            clear q0 q1 q2 g0 g1 g2
            have jj := J_5.out.three LH.out (.bool b2) (.slice p l e) (.slice p' l' e')
            have gg := H_5.out.set (.bool b2) (.slice p l e) (.slice p' l' e')
            have hh := G_5.out.other (NE.out.symm) (.bool b2) (.slice p l e) (.slice p' l' e')
            have pp := P_5.out.set3 H_5.out (.bool b2) (.slice p l e) (.slice p' l' e')
            have dd := D_5.out.set3 H_5.out (.bool b2) (.slice p l e) (.slice p' l' e')
            have qq := Q_5.out.set3 H_5.out (.bool b2) (.slice p l e) (.slice p' l' e')
            have ee := E_5.out.set3 H_5.out (.bool b2) (.slice p l e) (.slice p' l' e')
            have hT := jj.s22
            clear J_5 G_5 H_5 P_5 D_5 Q_5 E_5
            unfold three at jj gg hh pp dd qq ee hT
            refine hK.out _ _ hT (fun _ => ?_)
            clear hK K hS
            try simp only [Act.put, List.setIfInBounds_toArray, List.set_cons_zero, List.set_cons_succ]
            generalize ((W5.setCell ⟨h, 0, none⟩ (.bool b2)).setCell ⟨h, 1, none⟩ (.slice p l e)).setCell ⟨h, 2, none⟩ (.slice p' l' e') = W6 at *
            have J_6 := Lib.hid jj
            have H_6 := Lib.hid gg
            have G_6 := Lib.hid hh
            have P_6 := Lib.hid pp
            have D_6 := Lib.hid dd
            have Q_6 := Lib.hid qq
            have E_6 := Lib.hid ee
            clear jj gg hh pp dd qq ee
            have hS := hT
            clear hT
            refine wpAnyH_done (by kernel_rfl) ?_ _
            refine NoPanic.normal ?_
            have OD : Hid (Od w (w.heap.size + 1 + 1) g h ⟨b1, a, k, c, a', k', c'⟩ ⟨b2, p, l, e, p', l', e'⟩ x y x' y' W6) := ⟨G_6.out, H_6.out, P_6.out, D_6.out, Q_6.out, E_6.out, FB.out, QB.out, LG.out, LH.out, J_6.out.bel⟩
            go_wp2_with fail
            go_meet
            case rel => exact ⟨g, h, _, _, rfl, rfl, OD.out, J_6.out⟩
          · go_simp
            have bc := bel_one W2 (.cells #[.bool false, .slice none 0 0, .slice none 0 0] 53)
            have LH : Hid (w.heap.size + 1 + 1 < W2.heap.size) := J_2.out.lo
            have J_3 := Lib.hid (J_2.out.keep bc)
            have P_3 := Lib.hid (P_2.out.below bc)
            have D_3 := Lib.hid (D_2.out.below bc)
            have Q_3 := Lib.hid (Q_2.out.below bc)
            have E_3 := Lib.hid (E_2.out.below bc)
            clear J_2 P_2 D_2 Q_2 E_2
            have H_3 : Hid (B3 (W2.alloc (.cells #[.bool false, .slice none 0 0, .slice none 0 0] 53)) W2.heap.size (.bool false) (.slice none 0 0) (.slice none 0 0)) := B3.made W2 _ _ _ _
            have hT := J_3.out.s22
            refine hK.out _ _ hT (fun _ => ?_)
            clear hK K hS bc
            try simp only [Act.put, List.setIfInBounds_toArray, List.set_cons_zero, List.set_cons_succ]
            generalize W2.alloc (.cells #[.bool false, .slice none 0 0, .slice none 0 0] 53) = W7 at *
            generalize W2.heap.size = h at *
            have hS := hT
            clear hT
            refine wpAnyH_ready (rs := [4]) (by kernel_rfl) (by simp) ?_
            refine AllReadyH.cons rfl (fun K hK => ?_) AllReadyH.nil
            go_simp
            have bc := bel_one W7 (.cells #[.bool false, .slice none 0 0, .slice none 0 0] 53)
            have LG : Hid (w.heap.size + 1 + 1 < W7.heap.size) := J_3.out.lo
            have NE : Hid (h ≠ W7.heap.size) := by have := H_3.out.lt; unfold Hid; omega
            have J_4 := Lib.hid (J_3.out.keep bc)
            have P_4 := Lib.hid (P_3.out.below bc)
            have D_4 := Lib.hid (D_3.out.below bc)
            have Q_4 := Lib.hid (Q_3.out.below bc)
            have E_4 := Lib.hid (E_3.out.below bc)
            have H_4 := Lib.hid (H_3.out.keep bc)
            clear J_3 P_3 D_3 Q_3 E_3 H_3
            have G_4 : Hid (B3 (W7.alloc (.cells #[.bool false, .slice none 0 0, .slice none 0 0] 53)) W7.heap.size (.bool false) (.slice none 0 0) (.slice none 0 0)) := B3.made W7 _ _ _ _
            have hT := J_4.out.s22
            refine hK.out _ _ hT (fun _ => ?_)
            clear hK K hS bc
            try simp only [Act.put, List.setIfInBounds_toArray, List.set_cons_zero, List.set_cons_succ]
            generalize W7.alloc (.cells #[.bool false, .slice none 0 0, .slice none 0 0] 53) = W8 at *
            generalize W7.heap.size = g at *
            have hS := hT
            clear hT
            refine wpAnyH_ready (rs := [6]) (by kernel_rfl) (by simp) ?_
            refine AllReadyH.cons rfl (fun K hK => ?_) AllReadyH.nil
            have q0 := G_4.out.c0
            have q1 := G_4.out.c1
            have q2 := G_4.out.c2
            have g0 := G_4.out.fr 0
            have g1 := G_4.out.fr 1
            have g2 := G_4.out.fr 2
            go_simp
            clear q0 q1 q2 g0 g1 g2
            have jj := J_4.out.three LG.out (.bool b1) (.slice a k c) (.slice a' k' c')
            have gg := G_4.out.set (.bool b1) (.slice a k c) (.slice a' k' c')
            have hh := H_4.out.other (NE.out.symm) (.bool b1) (.slice a k c) (.slice a' k' c')
            have pp := P_4.out.set3 G_4.out (.bool b1) (.slice a k c) (.slice a' k' c')
            have dd := D_4.out.set3 G_4.out (.bool b1) (.slice a k c) (.slice a' k' c')
            have qq := Q_4.out.set3 G_4.out (.bool b1) (.slice a k c) (.slice a' k' c')
            have ee := E_4.out.set3 G_4.out (.bool b1) (.slice a k c) (.slice a' k' c')
            have hT := jj.s22
            clear J_4 G_4 H_4 P_4 D_4 Q_4 E_4
            unfold three at jj gg hh pp dd qq ee hT
            refine hK.out _ _ hT (fun _ => ?_)
            clear hK K hS
            try simp only [Act.put, List.setIfInBounds_toArray, List.set_cons_zero, List.set_cons_succ]
            generalize ((W8.setCell ⟨g, 0, none⟩ (.bool b1)).setCell ⟨g, 1, none⟩ (.slice a k c)).setCell ⟨g, 2, none⟩ (.slice a' k' c') = W9 at *
            have J_5 := Lib.hid jj
            have G_5 := Lib.hid gg
            have H_5 := Lib.hid hh
            have P_5 := Lib.hid pp
            have D_5 := Lib.hid dd
            have Q_5 := Lib.hid qq
            have E_5 := Lib.hid ee
            clear jj gg hh pp dd qq ee
            have hS := hT
            clear hT
            refine wpAnyH_ready (rs := [7]) (by kernel_rfl) (by simp) ?_
            refine AllReadyH.cons rfl (fun K hK => ?_) AllReadyH.nil
            have q0 := H_5.out.c0
            have q1 := H_5.out.c1
            have q2 := H_5.out.c2
            have g0 := H_5.out.fr 0
            have g1 := H_5.out.fr 1
            have g2 := H_5.out.fr 2
            go_simp
            clear q0 q1 q2 g0 g1 g2
            have jj := J_5.out.three LH.out (.bool b2) (.slice p l e) (.slice p' l' e')
            have gg := H_5.out.set (.bool b2) (.slice p l e) (.slice p' l' e')
            have hh := G_5.out.other (NE.out) (.bool b2) (.slice p l e) (.slice p' l' e')
            have pp := P_5.out.set3 H_5.out (.bool b2) (.slice p l e) (.slice p' l' e')
            have dd := D_5.out.set3 H_5.out (.bool b2) (.slice p l e) (.slice p' l' e')
            have qq := Q_5.out.set3 H_5.out (.bool b2) (.slice p l e) (.slice p' l' e')
            have ee := E_5.out.set3 H_5.out (.bool b2) (.slice p l e) (.slice p' l' e')
            have hT := jj.s22
            clear J_5 G_5 H_5 P_5 D_5 Q_5 E_5
            unfold three at jj gg hh pp dd qq ee hT
            refine hK.out _ _ hT (fun _ => ?_)
            clear hK K hS
            try simp only [Act.put, List.setIfInBounds_toArray, List.set_cons_zero, List.set_cons_succ]
            generalize ((W9.setCell ⟨h, 0, none⟩ (.bool b2)).setCell ⟨h, 1, none⟩ (.slice p l e)).setCell ⟨h, 2, none⟩ (.slice p' l' e') = W10 at *
            have J_6 := Lib.hid jj
            have H_6 := Lib.hid gg
            have G_6 := Lib.hid hh
            have P_6 := Lib.hid pp
            have D_6 := Lib.hid dd
            have Q_6 := Lib.hid qq
            have E_6 := Lib.hid ee
            clear jj gg hh pp dd qq ee
            have hS := hT
            clear hT
            refine wpAnyH_done (by kernel_rfl) ?_ _
            refine NoPanic.normal ?_
            have OD : Hid (Od w (w.heap.size + 1 + 1) g h ⟨b1, a, k, c, a', k', c'⟩ ⟨b2, p, l, e, p', l', e'⟩ x y x' y' W10) := ⟨G_6.out, H_6.out, P_6.out, D_6.out, Q_6.out, E_6.out, FB.out, QB.out, LG.out, LH.out, J_6.out.bel⟩
            go_wp2_with fail
            go_meet
            case rel => exact ⟨g, h, _, _, rfl, rfl, OD.out, J_6.out⟩
        · go_simp
          have bc := bel_one W1 (.cells #[.bool false, .slice none 0 0, .slice none 0 0] 53)
          have LG : Hid (w.heap.size + 1 + 1 < W1.heap.size) := J_1.out.lo
          have J_2 := Lib.hid (J_1.out.keep bc)
          have P_2 := Lib.hid (P_1.out.below bc)
          have D_2 := Lib.hid (D_1.out.below bc)
          clear J_1 P_1 D_1
          have G_2 : Hid (B3 (W1.alloc (.cells #[.bool false, .slice none 0 0, .slice none 0 0] 53)) W1.heap.size (.bool false) (.slice none 0 0) (.slice none 0 0)) := B3.made W1 _ _ _ _
          have hT := J_2.out.s22
          refine hK.out _ _ hT (fun _ => ?_)
          clear hK K hS bc
          try simp only [Act.put, List.setIfInBounds_toArray, List.set_cons_zero, List.set_cons_succ]
          generalize W1.alloc (.cells #[.bool false, .slice none 0 0, .slice none 0 0] 53) = W11 at *
          generalize W1.heap.size = g at *
          have hS := hT
          clear hT
          refine wpAnyH_ready (rs := [3, 5]) (by kernel_rfl) (by simp) ?_
          refine AllReadyH.cons rfl (fun K hK => ?_) (AllReadyH.cons rfl (fun K hK => ?_) AllReadyH.nil)
          · go_simp
            (refine (O2.out W11).mono ?_)
            rintro e W12 ⟨p, l, e, p', l', e', rfl, hp, hd, bc⟩
            try go_simp
            have J_3 := Lib.hid (J_2.out.keep bc)
            have P_3 := Lib.hid (P_2.out.below bc)
            have D_3 := Lib.hid (D_2.out.below bc)
            have G_3 := Lib.hid (G_2.out.keep bc)
            clear J_2 P_2 D_2 G_2
            have Q_3 := Lib.hid hp
            have E_3 := Lib.hid hd
            have hT := J_3.out.s22
            refine hK.out _ _ hT (fun _ => ?_)
            clear hK K hS bc hp hd
            have hS := hT
            clear hT
            try simp only [Act.put, List.setIfInBounds_toArray, List.set_cons_zero, List.set_cons_succ]
            refine wpAnyH_ready (rs := [5]) (by kernel_rfl) (by simp) ?_
            refine AllReadyH.cons rfl (fun K hK => ?_) AllReadyH.nil
            go_simp
            have bc := bel_one W12 (.cells #[.bool false, .slice none 0 0, .slice none 0 0] 53)
            have LH : Hid (w.heap.size + 1 + 1 < W12.heap.size) := J_3.out.lo
            have NE : Hid (g ≠ W12.heap.size) := by have := G_3.out.lt; unfold Hid; omega
            have J_4 := Lib.hid (J_3.out.keep bc)
            have P_4 := Lib.hid (P_3.out.below bc)
            have D_4 := Lib.hid (D_3.out.below bc)
            have G_4 := Lib.hid (G_3.out.keep bc)
            have Q_4 := Lib.hid (Q_3.out.below bc)
            have E_4 := Lib.hid (E_3.out.below bc)
            clear J_3 P_3 D_3 G_3 Q_3 E_3
            have H_4 : Hid (B3 (W12.alloc (.cells #[.bool false, .slice none 0 0, .slice none 0 0] 53)) W12.heap.size (.bool false) (.slice none 0 0) (.slice none 0 0)) := B3.made W12 _ _ _ _
            have hT := J_4.out.s22
            refine hK.out _ _ hT (fun _ => ?_)
            clear hK K hS bc
            try simp only [Act.put, List.setIfInBounds_toArray, List.set_cons_zero, List.set_cons_succ]
            generalize W12.alloc (.cells #[.bool false, .slice none 0 0, .slice none 0 0] 53) = W13 at *
            generalize W12.heap.size = h at *
            have hS := hT
            clear hT
            refine wpAnyH_ready (rs := [6]) (by kernel_rfl) (by simp) ?_
            refine AllReadyH.cons rfl (fun K hK => ?_) AllReadyH.nil
            have q0 := G_4.out.c0
            have q1 := G_4.out.c1
            have q2 := G_4.out.c2
            have g0 := G_4.out.fr 0
            have g1 := G_4.out.fr 1
            have g2 := G_4.out.fr 2
            go_simp
            clear q0 q1 q2 g0 g1 g2
            have jj := J_4.out.three LG.out (.bool b1) (.slice a k c) (.slice a' k' c')
            have gg := G_4.out.set (.bool b1) (.slice a k c) (.slice a' k' c')
            have hh := H_4.out.other (NE.out) (.bool b1) (.slice a k c) (.slice a' k' c')
            have pp := P_4.out.set3 G_4.out (.bool b1) (.slice a k c) (.slice a' k' c')
            have dd := D_4.out.set3 G_4.out (.bool b1) (.slice a k c) (.slice a' k' c')
            have qq := Q_4.out.set3 G_4.out (.bool b1) (.slice a k c) (.slice a' k' c')
            have ee := E_4.out.set3 G_4.out (.bool b1) (.slice a k c) (.slice a' k' c')
            have hT := jj.s22
            clear J_4 G_4 H_4 P_4 D_4 Q_4 E_4
            unfold three at jj gg hh pp dd qq ee hT
            refine hK.out _ _ hT (fun _ => ?_)
            clear hK K hS
            try simp only [Act.put, List.setIfInBounds_toArray, List.set_cons_zero, List.set_cons_succ]
            generalize ((W13.setCell ⟨g, 0, none⟩ (.bool b1)).setCell ⟨g, 1, none⟩ (.slice a k c)).setCell ⟨g, 2, none⟩ (.slice a' k' c') = W14 at *
            have J_5 := Lib.hid jj
            have G_5 := Lib.hid gg
            have H_5 := Lib.hid hh
            have P_5 := Lib.hid pp
            have D_5 := Lib.hid dd
            have Q_5 := Lib.hid qq
            have E_5 := Lib.hid ee
            clear jj gg hh pp dd qq ee
            have hS := hT
            clear hT
            refine wpAnyH_ready (rs := [7]) (by kernel_rfl) (by simp) ?_
            refine AllReadyH.cons rfl (fun K hK => ?_) AllReadyH.nil
            have q0 := H_5.out.c0
            have q1 := H_5.out.c1
            have q2 := H_5.out.c2
            have g0 := H_5.out.fr 0
            have g1 := H_5.out.fr 1
            have g2 := H_5.out.fr 2
            go_simp
            clear q0 q1 q2 g0 g1 g2
            have jj := J_5.out.three LH.out (.bool b2) (.slice p l e) (.slice p' l' e')
            have gg := H_5.out.set (.bool b2) (.slice p l e) (.slice p' l' e')
            have hh := G_5.out.other (NE.out.symm) (.bool b2) (.slice p l e) (.slice p' l' e')
            have pp := P_5.out.set3 H_5.out (.bool b2) (.slice p l e) (.slice p' l' e')
            have dd := D_5.out.set3 H_5.out (.bool b2) (.slice p l e) (.slice p' l' e')
            have qq := Q_5.out.set3 H_5.out (.bool b2) (.slice p l e) (.slice p' l' e')
            have ee := E_5.out.set3 H_5.out (.bool b2) (.slice p l e) (.slice p' l' e')
            have hT := jj.s22
            clear J_5 G_5 H_5 P_5 D_5 Q_5 E_5
            unfold three at jj gg hh pp dd qq ee hT
            refine hK.out _ _ hT (fun _ => ?_)
            clear hK K hS
            try simp only [Act.put, List.setIfInBounds_toArray, List.set_cons_zero, List.set_cons_succ]
            generalize ((W14.setCell ⟨h, 0, none⟩ (.bool b2)).setCell ⟨h, 1, none⟩ (.slice p l e)).setCell ⟨h, 2, none⟩ (.slice p' l' e') = W15 at *
            have J_6 := Lib.hid jj
            have H_6 := Lib.hid gg
            have G_6 := Lib.hid hh
            have P_6 := Lib.hid pp
            have D_6 := Lib.hid dd
            have Q_6 := Lib.hid qq
            have E_6 := Lib.hid ee
            clear jj gg hh pp dd qq ee
            have hS := hT
            clear hT
            refine wpAnyH_done (by kernel_rfl) ?_ _
            refine NoPanic.normal ?_
            have OD : Hid (Od w (w.heap.size + 1 + 1) g h ⟨b1, a, k, c, a', k', c'⟩ ⟨b2, p, l, e, p', l', e'⟩ x y x' y' W15) := ⟨G_6.out, H_6.out, P_6.out, D_6.out, Q_6.out, E_6.out, FB.out, QB.out, LG.out, LH.out, J_6.out.bel⟩
            go_wp2_with fail
            go_meet
            case rel => exact ⟨g, h, _, _, rfl, rfl, OD.out, J_6.out⟩
          · go_simp
            have bc := bel_one W11 (.cells #[.bool false, .slice none 0 0, .slice none 0 0] 53)
            have LH : Hid (w.heap.size + 1 + 1 < W11.heap.size) := J_2.out.lo
            have NE : Hid (g ≠ W11.heap.size) := by have := G_2.out.lt; unfold Hid; omega
            have J_3 := Lib.hid (J_2.out.keep bc)
            have P_3 := Lib.hid (P_2.out.below bc)
            have D_3 := Lib.hid (D_2.out.below bc)
            have G_3 := Lib.hid (G_2.out.keep bc)
            clear J_2 P_2 D_2 G_2
            have H_3 : Hid (B3 (W11.alloc (.cells #[.bool false, .slice none 0 0, .slice none 0 0] 53)) W11.heap.size (.bool false) (.slice none 0 0) (.slice none 0 0)) := B3.made W11 _ _ _ _
            have hT := J_3.out.s22
            refine hK.out _ _ hT (fun _ => ?_)
            clear hK K hS bc
            try simp only [Act.put, List.setIfInBounds_toArray, List.set_cons_zero, List.set_cons_succ]
            generalize W11.alloc (.cells #[.bool false, .slice none 0 0, .slice none 0 0] 53) = W16 at *
            generalize W11.heap.size = h at *
            have hS := hT
            clear hT
            refine wpAnyH_ready (rs := [3]) (by kernel_rfl) (by simp) ?_
            refine AllReadyH.cons rfl (fun K hK => ?_) AllReadyH.nil
            go_simp
            (refine (O2.out W16).mono ?_)
            rintro e W17 ⟨p, l, e, p', l', e', rfl, hp, hd, bc⟩
            try go_simp
            have J_4 := Lib.hid (J_3.out.keep bc)
            have P_4 := Lib.hid (P_3.out.below bc)
            have D_4 := Lib.hid (D_3.out.below bc)
            have G_4 := Lib.hid (G_3.out.keep bc)
            have H_4 := Lib.hid (H_3.out.keep bc)
            clear J_3 P_3 D_3 G_3 H_3
            have Q_4 := Lib.hid hp
            have E_4 := Lib.hid hd
            have hT := J_4.out.s22
            refine hK.out _ _ hT (fun _ => ?_)
            clear hK K hS bc hp hd
            have hS := hT
            clear hT
            try simp only [Act.put, List.setIfInBounds_toArray, List.set_cons_zero, List.set_cons_succ]
            refine wpAnyH_ready (rs := [6]) (by kernel_rfl) (by simp) ?_
            refine AllReadyH.cons rfl (fun K hK => ?_) AllReadyH.nil
            have q0 := G_4.out.c0
            have q1 := G_4.out.c1
            have q2 := G_4.out.c2
            have g0 := G_4.out.fr 0
            have g1 := G_4.out.fr 1
            have g2 := G_4.out.fr 2
            go_simp
            clear q0 q1 q2 g0 g1 g2
            have jj := J_4.out.three LG.out (.bool b1) (.slice a k c) (.slice a' k' c')
            have gg := G_4.out.set (.bool b1) (.slice a k c) (.slice a' k' c')
            have hh := H_4.out.other (NE.out) (.bool b1) (.slice a k c) (.slice a' k' c')
            have pp := P_4.out.set3 G_4.out (.bool b1) (.slice a k c) (.slice a' k' c')
            have dd := D_4.out.set3 G_4.out (.bool b1) (.slice a k c) (.slice a' k' c')
            have qq := Q_4.out.set3 G_4.out (.bool b1) (.slice a k c) (.slice a' k' c')
            have ee := E_4.out.set3 G_4.out (.bool b1) (.slice a k c) (.slice a' k' c')
            have hT := jj.s22
            clear J_4 G_4 H_4 P_4 D_4 Q_4 E_4
            unfold three at jj gg hh pp dd qq ee hT
            refine hK.out _ _ hT (fun _ => ?_)
            clear hK K hS
            try simp only [Act.put, List.setIfInBounds_toArray, List.set_cons_zero, List.set_cons_succ]
            generalize ((W17.setCell ⟨g, 0, none⟩ (.bool b1)).setCell ⟨g, 1, none⟩ (.slice a k c)).setCell ⟨g, 2, none⟩ (.slice a' k' c') = W18 at *
            have J_5 := Lib.hid jj
            have G_5 := Lib.hid gg
            have H_5 := Lib.hid hh
            have P_5 := Lib.hid pp
            have D_5 := Lib.hid dd
            have Q_5 := Lib.hid qq
            have E_5 := Lib.hid ee
            clear jj gg hh pp dd qq ee
            have hS := hT
            clear hT
            refine wpAnyH_ready (rs := [7]) (by kernel_rfl) (by simp) ?_
            refine AllReadyH.cons rfl (fun K hK => ?_) AllReadyH.nil
            have q0 := H_5.out.c0
            have q1 := H_5.out.c1
            have q2 := H_5.out.c2
            have g0 := H_5.out.fr 0
            have g1 := H_5.out.fr 1
            have g2 := H_5.out.fr 2
            go_simp
            clear q0 q1 q2 g0 g1 g2
            have jj := J_5.out.three LH.out (.bool b2) (.slice p l e) (.slice p' l' e')
            have gg := H_5.out.set (.bool b2) (.slice p l e) (.slice p' l' e')
            have hh := G_5.out.other (NE.out.symm) (.bool b2) (.slice p l e) (.slice p' l' e')
            have pp := P_5.out.set3 H_5.out (.bool b2) (.slice p l e) (.slice p' l' e')
            have dd := D_5.out.set3 H_5.out (.bool b2) (.slice p l e) (.slice p' l' e')
            have qq := Q_5.out.set3 H_5.out (.bool b2) (.slice p l e) (.slice p' l' e')
            have ee := E_5.out.set3 H_5.out (.bool b2) (.slice p l e) (.slice p' l' e')
            have hT := jj.s22
            clear J_5 G_5 H_5 P_5 D_5 Q_5 E_5
            unfold three at jj gg hh pp dd qq ee hT
            refine hK.out _ _ hT (fun _ => ?_)
            clear hK K hS
            try simp only [Act.put, List.setIfInBounds_toArray, List.set_cons_zero, List.set_cons_succ]
            generalize ((W18.setCell ⟨h, 0, none⟩ (.bool b2)).setCell ⟨h, 1, none⟩ (.slice p l e)).setCell ⟨h, 2, none⟩ (.slice p' l' e') = W19 at *
            have J_6 := Lib.hid jj
            have H_6 := Lib.hid gg
            have G_6 := Lib.hid hh
            have P_6 := Lib.hid pp
            have D_6 := Lib.hid dd
            have Q_6 := Lib.hid qq
            have E_6 := Lib.hid ee
            clear jj gg hh pp dd qq ee
            have hS := hT
            clear hT
            refine wpAnyH_done (by kernel_rfl) ?_ _
            refine NoPanic.normal ?_
            have OD : Hid (Od w (w.heap.size + 1 + 1) g h ⟨b1, a, k, c, a', k', c'⟩ ⟨b2, p, l, e, p', l', e'⟩ x y x' y' W19) := ⟨G_6.out, H_6.out, P_6.out, D_6.out, Q_6.out, E_6.out, FB.out, QB.out, LG.out, LH.out, J_6.out.bel⟩
            go_wp2_with fail
            go_meet
            case rel => exact ⟨g, h, _, _, rfl, rfl, OD.out, J_6.out⟩
        · go_simp
          have bc := bel_one W1 (.cells #[.bool false, .slice none 0 0, .slice none 0 0] 53)
          have LH : Hid (w.heap.size + 1 + 1 < W1.heap.size) := J_1.out.lo
          have J_2 := Lib.hid (J_1.out.keep bc)
          have P_2 := Lib.hid (P_1.out.below bc)
          have D_2 := Lib.hid (D_1.out.below bc)
          clear J_1 P_1 D_1
          have H_2 : Hid (B3 (W1.alloc (.cells #[.bool false, .slice none 0 0, .slice none 0 0] 53)) W1.heap.size (.bool false) (.slice none 0 0) (.slice none 0 0)) := B3.made W1 _ _ _ _
          have hT := J_2.out.s22
          refine hK.out _ _ hT (fun _ => ?_)
          clear hK K hS bc
          try simp only [Act.put, List.setIfInBounds_toArray, List.set_cons_zero, List.set_cons_succ]
          generalize W1.alloc (.cells #[.bool false, .slice none 0 0, .slice none 0 0] 53) = W20 at *
          generalize W1.heap.size = h at *
          have hS := hT
          clear hT
          refine wpAnyH_ready (rs := [3, 4]) (by kernel_rfl) (by simp) ?_
          refine AllReadyH.cons rfl (fun K hK => ?_) (AllReadyH.cons rfl (fun K hK => ?_) AllReadyH.nil)
          · go_simp
            (refine (O2.out W20).mono ?_)
            rintro e W21 ⟨p, l, e, p', l', e', rfl, hp, hd, bc⟩
            try go_simp
            have J_3 := Lib.hid (J_2.out.keep bc)
            have P_3 := Lib.hid (P_2.out.below bc)
            have D_3 := Lib.hid (D_2.out.below bc)
            have H_3 := Lib.hid (H_2.out.keep bc)
            clear J_2 P_2 D_2 H_2
            have Q_3 := Lib.hid hp
            have E_3 := Lib.hid hd
            have hT := J_3.out.s22
            refine hK.out _ _ hT (fun _ => ?_)
            clear hK K hS bc hp hd
            have hS := hT
            clear hT
            try simp only [Act.put, List.setIfInBounds_toArray, List.set_cons_zero, List.set_cons_succ]
            refine wpAnyH_ready (rs := [4]) (by kernel_rfl) (by simp) ?_
            refine AllReadyH.cons rfl (fun K hK => ?_) AllReadyH.nil
            go_simp
            have bc := bel_one W21 (.cells #[.bool false, .slice none 0 0, .slice none 0 0] 53)
            have LG : Hid (w.heap.size + 1 + 1 < W21.heap.size) := J_3.out.lo
            have NE : Hid (h ≠ W21.heap.size) := by have := H_3.out.lt; unfold Hid; omega
            have J_4 := Lib.hid (J_3.out.keep bc)
            have P_4 := Lib.hid (P_3.out.below bc)
            have D_4 := Lib.hid (D_3.out.below bc)
            have H_4 := Lib.hid (H_3.out.keep bc)
            have Q_4 := Lib.hid (Q_3.out.below bc)
            have E_4 := Lib.hid (E_3.out.below bc)
            clear J_3 P_3 D_3 H_3 Q_3 E_3
            have G_4 : Hid (B3 (W21.alloc (.cells #[.bool false, .slice none 0 0, .slice none 0 0] 53)) W21.heap.size (.bool false) (.slice none 0 0) (.slice none 0 0)) := B3.made W21 _ _ _ _
            have hT := J_4.out.s22
            refine hK.out _ _ hT (fun _ => ?_)
            clear hK K hS bc
            try simp only [Act.put, List.setIfInBounds_toArray, List.set_cons_zero, List.set_cons_succ]
            generalize W21.alloc (.cells #[.bool false, .slice none 0 0, .slice none 0 0] 53) = W22 at *
            generalize W21.heap.size = g at *
            have hS := hT
            clear hT
            refine wpAnyH_ready (rs := [6]) (by kernel_rfl) (by simp) ?_
            refine AllReadyH.cons rfl (fun K hK => ?_) AllReadyH.nil
            have q0 := G_4.out.c0
            have q1 := G_4.out.c1
            have q2 := G_4.out.c2
            have g0 := G_4.out.fr 0
            have g1 := G_4.out.fr 1
            have g2 := G_4.out.fr 2
            go_simp
            clear q0 q1 q2 g0 g1 g2
            have jj := J_4.out.three LG.out (.bool b1) (.slice a k c) (.slice a' k' c')
            have gg := G_4.out.set (.bool b1) (.slice a k c) (.slice a' k' c')
            have hh := H_4.out.other (NE.out.symm) (.bool b1) (.slice a k c) (.slice a' k' c')
            have pp := P_4.out.set3 G_4.out (.bool b1) (.slice a k c) (.slice a' k' c')
            have dd := D_4.out.set3 G_4.out (.bool b1) (.slice a k c) (.slice a' k' c')
            have qq := Q_4.out.set3 G_4.out (.bool b1) (.slice a k c) (.slice a' k' c')
            have ee := E_4.out.set3 G_4.out (.bool b1) (.slice a k c) (.slice a' k' c')
            have hT := jj.s22
            clear J_4 G_4 H_4 P_4 D_4 Q_4 E_4
            unfold three at jj gg hh pp dd qq ee hT
            refine hK.out _ _ hT (fun _ => ?_)
            clear hK K hS
            try simp only [Act.put, List.setIfInBounds_toArray, List.set_cons_zero, List.set_cons_succ]
            generalize ((W22.setCell ⟨g, 0, none⟩ (.bool b1)).setCell ⟨g, 1, none⟩ (.slice a k c)).setCell ⟨g, 2, none⟩ (.slice a' k' c') = W23 at *
            have J_5 := Lib.hid jj
            have G_5 := Lib.hid gg
            have H_5 := Lib.hid hh
            have P_5 := Lib.hid pp
            have D_5 := Lib.hid dd
            have Q_5 := Lib.hid qq
            have E_5 := Lib.hid ee
            clear jj gg hh pp dd qq ee
            have hS := hT
            clear hT
            refine wpAnyH_ready (rs := [7]) (by kernel_rfl) (by simp) ?_
            refine AllReadyH.cons rfl (fun K hK => ?_) AllReadyH.nil
            have q0 := H_5.out.c0
            have q1 := H_5.out.c1
            have q2 := H_5.out.c2
            have g0 := H_5.out.fr 0
            have g1 := H_5.out.fr 1
            have g2 := H_5.out.fr 2
            go_simp
            clear q0 q1 q2 g0 g1 g2
            have jj := J_5.out.three LH.out (.bool b2) (.slice p l e) (.slice p' l' e')
            have gg := H_5.out.set (.bool b2) (.slice p l e) (.slice p' l' e')
            have hh := G_5.out.other (NE.out) (.bool b2) (.slice p l e) (.slice p' l' e')
            have pp := P_5.out.set3 H_5.out (.bool b2) (.slice p l e) (.slice p' l' e')
            have dd := D_5.out.set3 H_5.out (.bool b2) (.slice p l e) (.slice p' l' e')
            have qq := Q_5.out.set3 H_5.out (.bool b2) (.slice p l e) (.slice p' l' e')
            have ee := E_5.out.set3 H_5.out (.bool b2) (.slice p l e) (.slice p' l' e')
            have hT := jj.s22
            clear J_5 G_5 H_5 P_5 D_5 Q_5 E_5
            unfold three at jj gg hh pp dd qq ee hT
            refine hK.out _ _ hT (fun _ => ?_)
            clear hK K hS
            try simp only [Act.put, List.setIfInBounds_toArray, List.set_cons_zero, List.set_cons_succ]
            generalize ((W23.setCell ⟨h, 0, none⟩ (.bool b2)).setCell ⟨h, 1, none⟩ (.slice p l e)).setCell ⟨h, 2, none⟩ (.slice p' l' e') = W24 at *
            have J_6 := Lib.hid jj
            have H_6 := Lib.hid gg
            have G_6 := Lib.hid hh
            have P_6 := Lib.hid pp
            have D_6 := Lib.hid dd
            have Q_6 := Lib.hid qq
            have E_6 := Lib.hid ee
            clear jj gg hh pp dd qq ee
            have hS := hT
            clear hT
            refine wpAnyH_done (by kernel_rfl) ?_ _
            refine NoPanic.normal ?_
            have OD : Hid (Od w (w.heap.size + 1 + 1) g h ⟨b1, a, k, c, a', k', c'⟩ ⟨b2, p, l, e, p', l', e'⟩ x y x' y' W24) := ⟨G_6.out, H_6.out, P_6.out, D_6.out, Q_6.out, E_6.out, FB.out, QB.out, LG.out, LH.out, J_6.out.bel⟩
            go_wp2_with fail
            go_meet
            case rel => exact ⟨g, h, _, _, rfl, rfl, OD.out, J_6.out⟩
          · go_simp
            have bc := bel_one W20 (.cells #[.bool false, .slice none 0 0, .slice none 0 0] 53)
            have LG : Hid (w.heap.size + 1 + 1 < W20.heap.size) := J_2.out.lo
            have NE : Hid (h ≠ W20.heap.size) := by have := H_2.out.lt; unfold Hid; omega
            have J_3 := Lib.hid (J_2.out.keep bc)
            have P_3 := Lib.hid (P_2.out.below bc)
            have D_3 := Lib.hid (D_2.out.below bc)
            have H_3 := Lib.hid (H_2.out.keep bc)
            clear J_2 P_2 D_2 H_2
            have G_3 : Hid (B3 (W20.alloc (.cells #[.bool false, .slice none 0 0, .slice none 0 0] 53)) W20.heap.size (.bool false) (.slice none 0 0) (.slice none 0 0)) := B3.made W20 _ _ _ _
            have hT := J_3.out.s22
            refine hK.out _ _ hT (fun _ => ?_)
            clear hK K hS bc
            try simp only [Act.put, List.setIfInBounds_toArray, List.set_cons_zero, List.set_cons_succ]
            generalize W20.alloc (.cells #[.bool false, .slice none 0 0, .slice none 0 0] 53) = W25 at *
            generalize W20.heap.size = g at *
            have hS := hT
            clear hT
            refine wpAnyH_ready (rs := [3]) (by kernel_rfl) (by simp) ?_
            refine AllReadyH.cons rfl (fun K hK => ?_) AllReadyH.nil
            go_simp
            (refine (O2.out W25).mono ?_)
            rintro e W26 ⟨p, l, e, p', l', e', rfl, hp, hd, bc⟩
            try go_simp
            have J_4 := Lib.hid (J_3.out.keep bc)
            have P_4 := Lib.hid (P_3.out.below bc)
            have D_4 := Lib.hid (D_3.out.below bc)
            have H_4 := Lib.hid (H_3.out.keep bc)
            have G_4 := Lib.hid (G_3.out.keep bc)
            clear J_3 P_3 D_3 H_3 G_3
            have Q_4 := Lib.hid hp
            have E_4 := Lib.hid hd
            have hT := J_4.out.s22
            refine hK.out _ _ hT (fun _ => ?_)
            clear hK K hS bc hp hd
            have hS := hT
            clear hT
            try simp only [Act.put, List.setIfInBounds_toArray, List.set_cons_zero, List.set_cons_succ]
            refine wpAnyH_ready (rs := [6]) (by kernel_rfl) (by simp) ?_
            refine AllReadyH.cons rfl (fun K hK => ?_) AllReadyH.nil
            have q0 := G_4.out.c0
            have q1 := G_4.out.c1
            have q2 := G_4.out.c2
            have g0 := G_4.out.fr 0
            have g1 := G_4.out.fr 1
            have g2 := G_4.out.fr 2
            go_simp
            clear q0 q1 q2 g0 g1 g2
            have jj := J_4.out.three LG.out (.bool b1) (.slice a k c) (.slice a' k' c')
            have gg := G_4.out.set (.bool b1) (.slice a k c) (.slice a' k' c')
            have hh := H_4.out.other (NE.out.symm) (.bool b1) (.slice a k c) (.slice a' k' c')
            have pp := P_4.out.set3 G_4.out (.bool b1) (.slice a k c) (.slice a' k' c')
            have dd := D_4.out.set3 G_4.out (.bool b1) (.slice a k c) (.slice a' k' c')
            have qq := Q_4.out.set3 G_4.out (.bool b1) (.slice a k c) (.slice a' k' c')
            have ee := E_4.out.set3 G_4.out (.bool b1) (.slice a k c) (.slice a' k' c')
            have hT := jj.s22
            clear J_4 G_4 H_4 P_4 D_4 Q_4 E_4
            unfold three at jj gg hh pp dd qq ee hT
            refine hK.out _ _ hT (fun _ => ?_)
            clear hK K hS
            try simp only [Act.put, List.setIfInBounds_toArray, List.set_cons_zero, List.set_cons_succ]
            generalize ((W26.setCell ⟨g, 0, none⟩ (.bool b1)).setCell ⟨g, 1, none⟩ (.slice a k c)).setCell ⟨g, 2, none⟩ (.slice a' k' c') = W27 at *
            have J_5 := Lib.hid jj
            have G_5 := Lib.hid gg
            have H_5 := Lib.hid hh
            have P_5 := Lib.hid pp
            have D_5 := Lib.hid dd
            have Q_5 := Lib.hid qq
            have E_5 := Lib.hid ee
            clear jj gg hh pp dd qq ee
            have hS := hT
            clear hT
            refine wpAnyH_ready (rs := [7]) (by kernel_rfl) (by simp) ?_
            refine AllReadyH.cons rfl (fun K hK => ?_) AllReadyH.nil
            have q0 := H_5.out.c0
            have q1 := H_5.out.c1
            have q2 := H_5.out.c2
            have g0 := H_5.out.fr 0
            have g1 := H_5.out.fr 1
            have g2 := H_5.out.fr 2
            go_simp
            clear q0 q1 q2 g0 g1 g2
            have jj := J_5.out.three LH.out (.bool b2) (.slice p l e) (.slice p' l' e')
            have gg := H_5.out.set (.bool b2) (.slice p l e) (.slice p' l' e')
            have hh := G_5.out.other (NE.out) (.bool b2) (.slice p l e) (.slice p' l' e')
            have pp := P_5.out.set3 H_5.out (.bool b2) (.slice p l e) (.slice p' l' e')
            have dd := D_5.out.set3 H_5.out (.bool b2) (.slice p l e) (.slice p' l' e')
            have qq := Q_5.out.set3 H_5.out (.bool b2) (.slice p l e) (.slice p' l' e')
            have ee := E_5.out.set3 H_5.out (.bool b2) (.slice p l e) (.slice p' l' e')
            have hT := jj.s22
            clear J_5 G_5 H_5 P_5 D_5 Q_5 E_5
            unfold three at jj gg hh pp dd qq ee hT
            refine hK.out _ _ hT (fun _ => ?_)
            clear hK K hS
            try simp only [Act.put, List.setIfInBounds_toArray, List.set_cons_zero, List.set_cons_succ]
            generalize ((W27.setCell ⟨h, 0, none⟩ (.bool b2)).setCell ⟨h, 1, none⟩ (.slice p l e)).setCell ⟨h, 2, none⟩ (.slice p' l' e') = W28 at *
            have J_6 := Lib.hid jj
            have H_6 := Lib.hid gg
            have G_6 := Lib.hid hh
            have P_6 := Lib.hid pp
            have D_6 := Lib.hid dd
            have Q_6 := Lib.hid qq
            have E_6 := Lib.hid ee
            clear jj gg hh pp dd qq ee
            have hS := hT
            clear hT
            refine wpAnyH_done (by kernel_rfl) ?_ _
            refine NoPanic.normal ?_
            have OD : Hid (Od w (w.heap.size + 1 + 1) g h ⟨b1, a, k, c, a', k', c'⟩ ⟨b2, p, l, e, p', l', e'⟩ x y x' y' W28) := ⟨G_6.out, H_6.out, P_6.out, D_6.out, Q_6.out, E_6.out, FB.out, QB.out, LG.out, LH.out, J_6.out.bel⟩
            go_wp2_with fail
            go_meet
            case rel => exact ⟨g, h, _, _, rfl, rfl, OD.out, J_6.out⟩
      · go_simp
        have bc := bel_one WD (.cells #[.bool false, .slice none 0 0, .slice none 0 0] 53)
        have LG : Hid (w.heap.size + 1 + 1 < WD.heap.size) := J_0.out.lo
        have J_1 := Lib.hid (J_0.out.keep bc)
        clear J_0
        have G_1 : Hid (B3 (WD.alloc (.cells #[.bool false, .slice none 0 0, .slice none 0 0] 53)) WD.heap.size (.bool false) (.slice none 0 0) (.slice none 0 0)) := B3.made WD _ _ _ _
        have hT := J_1.out.s22
        refine hK.out _ _ hT (fun _ => ?_)
        clear hK K hS bc
        try simp only [Act.put, List.setIfInBounds_toArray, List.set_cons_zero, List.set_cons_succ]
        generalize WD.alloc (.cells #[.bool false, .slice none 0 0, .slice none 0 0] 53) = W29 at *
        generalize WD.heap.size = g at *
        have hS := hT
        clear hT
        refine wpAnyH_ready (rs := [1, 5]) (by kernel_rfl) (by simp) ?_
        refine AllReadyH.cons rfl (fun K hK => ?_) (AllReadyH.cons rfl (fun K hK => ?_) AllReadyH.nil)
        · go_simp
          (refine (O1.out W29).mono ?_)
          rintro e W30 ⟨a, k, c, a', k', c', rfl, hp, hd, bc⟩
          try go_simp
          have J_2 := Lib.hid (J_1.out.keep bc)
          have G_2 := Lib.hid (G_1.out.keep bc)
          clear J_1 G_1
          have P_2 := Lib.hid hp
          have D_2 := Lib.hid hd
          have hT := J_2.out.s22
          refine hK.out _ _ hT (fun _ => ?_)
          clear hK K hS bc hp hd
          have hS := hT
          clear hT
          try simp only [Act.put, List.setIfInBounds_toArray, List.set_cons_zero, List.set_cons_succ]
          refine wpAnyH_ready (rs := [3, 5]) (by kernel_rfl) (by simp) ?_
          refine AllReadyH.cons rfl (fun K hK => ?_) (AllReadyH.cons rfl (fun K hK => ?_) AllReadyH.nil)
          · go_simp
            (refine (O2.out W30).mono ?_)
            rintro e W31 ⟨p, l, e, p', l', e', rfl, hp, hd, bc⟩
            try go_simp
            have J_3 := Lib.hid (J_2.out.keep bc)
            have G_3 := Lib.hid (G_2.out.keep bc)
            have P_3 := Lib.hid (P_2.out.below bc)
            have D_3 := Lib.hid (D_2.out.below bc)
            clear J_2 G_2 P_2 D_2
            have Q_3 := Lib.hid hp
            have E_3 := Lib.hid hd
            have hT := J_3.out.s22
            refine hK.out _ _ hT (fun _ => ?_)
            clear hK K hS bc hp hd
            have hS := hT
            clear hT
            try simp only [Act.put, List.setIfInBounds_toArray, List.set_cons_zero, List.set_cons_succ]
            refine wpAnyH_ready (rs := [5]) (by kernel_rfl) (by simp) ?_
            refine AllReadyH.cons rfl (fun K hK => ?_) AllReadyH.nil
            go_simp
            have bc := bel_one W31 (.cells #[.bool false, .slice none 0 0, .slice none 0 0] 53)
            have LH : Hid (w.heap.size + 1 + 1 < W31.heap.size) := J_3.out.lo
            have NE : Hid (g ≠ W31.heap.size) := by have := G_3.out.lt; unfold Hid; omega
            have J_4 := Lib.hid (J_3.out.keep bc)
            have G_4 := Lib.hid (G_3.out.keep bc)
            have P_4 := Lib.hid (P_3.out.below bc)
            have D_4 := Lib.hid (D_3.out.below bc)
            have Q_4 := Lib.hid (Q_3.out.below bc)
            have E_4 := Lib.hid (E_3.out.below bc)
            clear J_3 G_3 P_3 D_3 Q_3 E_3
            have H_4 : Hid (B3 (W31.alloc (.cells #[.bool false, .slice none 0 0, .slice none 0 0] 53)) W31.heap.size (.bool false) (.slice none 0 0) (.slice none 0 0)) := B3.made W31 _ _ _ _
            have hT := J_4.out.s22
            refine hK.out _ _ hT (fun _ => ?_)
            clear hK K hS bc
            try simp only [Act.put, List.setIfInBounds_toArray, List.set_cons_zero, List.set_cons_succ]
            generalize W31.alloc (.cells #[.bool false, .slice none 0 0, .slice none 0 0] 53) = W32 at *
            generalize W31.heap.size = h at *
            have hS := hT
            clear hT
            refine wpAnyH_ready (rs := [6]) (by kernel_rfl) (by simp) ?_
            refine AllReadyH.cons rfl (fun K hK => ?_) AllReadyH.nil
            have q0 := G_4.out.c0
            have q1 := G_4.out.c1
            have q2 := G_4.out.c2
            have g0 := G_4.out.fr 0
            have g1 := G_4.out.fr 1
            have g2 := G_4.out.fr 2
            go_simp
            clear q0 q1 q2 g0 g1 g2
            have jj := J_4.out.three LG.out (.bool b1) (.slice a k c) (.slice a' k' c')
            have gg := G_4.out.set (.bool b1) (.slice a k c) (.slice a' k' c')
            have hh := H_4.out.other (NE.out) (.bool b1) (.slice a k c) (.slice a' k' c')
            have pp := P_4.out.set3 G_4.out (.bool b1) (.slice a k c) (.slice a' k' c')
            have dd := D_4.out.set3 G_4.out (.bool b1) (.slice a k c) (.slice a' k' c')
            have qq := Q_4.out.set3 G_4.out (.bool b1) (.slice a k c) (.slice a' k' c')
            have ee := E_4.out.set3 G_4.out (.bool b1) (.slice a k c) (.slice a' k' c')
            have hT := jj.s22
            clear J_4 G_4 H_4 P_4 D_4 Q_4 E_4
            unfold three at jj gg hh pp dd qq ee hT
            refine hK.out _ _ hT (fun _ => ?_)
            clear hK K hS
            try simp only [Act.put, List.setIfInBounds_toArray, List.set_cons_zero, List.set_cons_succ]
            generalize ((W32.setCell ⟨g, 0, none⟩ (.bool b1)).setCell ⟨g, 1, none⟩ (.slice a k c)).setCell ⟨g, 2, none⟩ (.slice a' k' c') = W33 at *
            have J_5 := Lib.hid jj
            have G_5 := Lib.hid gg
            have H_5 := Lib.hid hh
            have P_5 := Lib.hid pp
            have D_5 := Lib.hid dd
            have Q_5 := Lib.hid qq
            have E_5 := Lib.hid ee
            clear jj gg hh pp dd qq ee
            have hS := hT
            clear hT
            refine wpAnyH_ready (rs := [7]) (by kernel_rfl) (by simp) ?_
            refine AllReadyH.cons rfl (fun K hK => ?_) AllReadyH.nil
            have q0 := H_5.out.c0
            have q1 := H_5.out.c1
            have q2 := H_5.out.c2
            have g0 := H_5.out.fr 0
            have g1 := H_5.out.fr 1
            have g2 := H_5.out.fr 2
            go_simp
            clear q0 q1 q2 g0 g1 g2
            have jj := J_5.out.three LH.out (.bool b2) (.slice p l e) (.slice p' l' e')
            have gg := H_5.out.set (.bool b2) (.slice p l e) (.slice p' l' e')
            have hh := G_5.out.other (NE.out.symm) (.bool b2) (.slice p l e) (.slice p' l' e')
            have pp := P_5.out.set3 H_5.out (.bool b2) (.slice p l e) (.slice p' l' e')
            have dd := D_5.out.set3 H_5.out (.bool b2) (.slice p l e) (.slice p' l' e')
            have qq := Q_5.out.set3 H_5.out (.bool b2) (.slice p l e) (.slice p' l' e')
            have ee := E_5.out.set3 H_5.out (.bool b2) (.slice p l e) (.slice p' l' e')
            have hT := jj.s22
            clear J_5 G_5 H_5 P_5 D_5 Q_5 E_5
            unfold three at jj gg hh pp dd qq ee hT
            refine hK.out _ _ hT (fun _ => ?_)
            clear hK K hS
            try simp only [Act.put, List.setIfInBounds_toArray, List.set_cons_zero, List.set_cons_succ]
            generalize ((W33.setCell ⟨h, 0, none⟩ (.bool b2)).setCell ⟨h, 1, none⟩ (.slice p l e)).setCell ⟨h, 2, none⟩ (.slice p' l' e') = W34 at *
            have J_6 := Lib.hid jj
            have H_6 := Lib.hid gg
            have G_6 := Lib.hid hh
            have P_6 := Lib.hid pp
            have D_6 := Lib.hid dd
            have Q_6 := Lib.hid qq
            have E_6 := Lib.hid ee
            clear jj gg hh pp dd qq ee
            have hS := hT
            clear hT
            refine wpAnyH_done (by kernel_rfl) ?_ _
            refine NoPanic.normal ?_
            have OD : Hid (Od w (w.heap.size + 1 + 1) g h ⟨b1, a, k, c, a', k', c'⟩ ⟨b2, p, l, e, p', l', e'⟩ x y x' y' W34) := ⟨G_6.out, H_6.out, P_6.out, D_6.out, Q_6.out, E_6.out, FB.out, QB.out, LG.out, LH.out, J_6.out.bel⟩
            go_wp2_with fail
            go_meet
            case rel => exact ⟨g, h, _, _, rfl, rfl, OD.out, J_6.out⟩
          · go_simp
            have bc := bel_one W30 (.cells #[.bool false, .slice none 0 0, .slice none 0 0] 53)
            have LH : Hid (w.heap.size + 1 + 1 < W30.heap.size) := J_2.out.lo
            have NE : Hid (g ≠ W30.heap.size) := by have := G_2.out.lt; unfold Hid; omega
            have J_3 := Lib.hid (J_2.out.keep bc)
            have G_3 := Lib.hid (G_2.out.keep bc)
            have P_3 := Lib.hid (P_2.out.below bc)
            have D_3 := Lib.hid (D_2.out.below bc)
            clear J_2 G_2 P_2 D_2
            have H_3 : Hid (B3 (W30.alloc (.cells #[.bool false, .slice none 0 0, .slice none 0 0] 53)) W30.heap.size (.bool false) (.slice none 0 0) (.slice none 0 0)) := B3.made W30 _ _ _ _
            have hT := J_3.out.s22
            refine hK.out _ _ hT (fun _ => ?_)
            clear hK K hS bc
            try simp only [Act.put, List.setIfInBounds_toArray, List.set_cons_zero, List.set_cons_succ]
            generalize W30.alloc (.cells #[.bool false, .slice none 0 0, .slice none 0 0] 53) = W35 at *
            generalize W30.heap.size = h at *
            have hS := hT
            clear hT
            refine wpAnyH_ready (rs := [3]) (by kernel_rfl) (by simp) ?_
            refine AllReadyH.cons rfl (fun K hK => ?_) AllReadyH.nil
            go_simp
            (refine (O2.out W35).mono ?_)
            rintro e W36 ⟨p, l, e, p', l', e', rfl, hp, hd, bc⟩
            try go_simp
            have J_4 := Lib.hid (J_3.out.keep bc)
            have G_4 := Lib.hid (G_3.out.keep bc)
            have P_4 := Lib.hid (P_3.out.below bc)
            have D_4 := Lib.hid (D_3.out.below bc)
            have H_4 := Lib.hid (H_3.out.keep bc)
            clear J_3 G_3 P_3 D_3 H_3
            have Q_4 := Lib.hid hp
            have E_4 := Lib.hid hd
            have hT := J_4.out.s22
            refine hK.out _ _ hT (fun _ => ?_)
            clear hK K hS bc hp hd
            have hS := hT
            clear hT
            try simp only [Act.put, List.setIfInBounds_toArray, List.set_cons_zero, List.set_cons_succ]
            refine wpAnyH_ready (rs := [6]) (by kernel_rfl) (by simp) ?_
            refine AllReadyH.cons rfl (fun K hK => ?_) AllReadyH.nil
            have q0 := G_4.out.c0
            have q1 := G_4.out.c1
            have q2 := G_4.out.c2
            have g0 := G_4.out.fr 0
            have g1 := G_4.out.fr 1
            have g2 := G_4.out.fr 2
            go_simp
            clear q0 q1 q2 g0 g1 g2
            have jj := J_4.out.three LG.out (.bool b1) (.slice a k c) (.slice a' k' c')
            have gg := G_4.out.set (.bool b1) (.slice a k c) (.slice a' k' c')
            have hh := H_4.out.other (NE.out) (.bool b1) (.slice a k c) (.slice a' k' c')
            have pp := P_4.out.set3 G_4.out (.bool b1) (.slice a k c) (.slice a' k' c')
            have dd := D_4.out.set3 G_4.out (.bool b1) (.slice a k c) (.slice a' k' c')
            have qq := Q_4.out.set3 G_4.out (.bool b1) (.slice a k c) (.slice a' k' c')
            have ee := E_4.out.set3 G_4.out (.bool b1) (.slice a k c) (.slice a' k' c')
            have hT := jj.s22
            clear J_4 G_4 H_4 P_4 D_4 Q_4 E_4
            unfold three at jj gg hh pp dd qq ee hT
            refine hK.out _ _ hT (fun _ => ?_)
            clear hK K hS
            try simp only [Act.put, List.setIfInBounds_toArray, List.set_cons_zero, List.set_cons_succ]
            generalize ((W36.setCell ⟨g, 0, none⟩ (.bool b1)).setCell ⟨g, 1, none⟩ (.slice a k c)).setCell ⟨g, 2, none⟩ (.slice a' k' c') = W37 at *
            have J_5 := Lib.hid jj
            have G_5 := Lib.hid gg
            have H_5 := Lib.hid hh
            have P_5 := Lib.hid pp
            have D_5 := Lib.hid dd
            have Q_5 := Lib.hid qq
            have E_5 := Lib.hid ee
            clear jj gg hh pp dd qq ee
            have hS := hT
            clear hT
            refine wpAnyH_ready (rs := [7]) (by kernel_rfl) (by simp) ?_
            refine AllReadyH.cons rfl (fun K hK => ?_) AllReadyH.nil
            have q0 := H_5.out.c0
            have q1 := H_5.out.c1
            have q2 := H_5.out.c2
            have g0 := H_5.out.fr 0
            have g1 := H_5.out.fr 1
            have g2 := H_5.out.fr 2
            go_simp
            clear q0 q1 q2 g0 g1 g2
            have jj := J_5.out.three LH.out (.bool b2) (.slice p l e) (.slice p' l' e')
            have gg := H_5.out.set (.bool b2) (.slice p l e) (.slice p' l' e')
            have hh := G_5.out.other (NE.out.symm) (.bool b2) (.slice p l e) (.slice p' l' e')
            have pp := P_5.out.set3 H_5.out (.bool b2) (.slice p l e) (.slice p' l' e')
            have dd := D_5.out.set3 H_5.out (.bool b2) (.slice p l e) (.slice p' l' e')
            have qq := Q_5.out.set3 H_5.out (.bool b2) (.slice p l e) (.slice p' l' e')
            have ee := E_5.out.set3 H_5.out (.bool b2) (.slice p l e) (.slice p' l' e')
            have hT := jj.s22
            clear J_5 G_5 H_5 P_5 D_5 Q_5 E_5
            unfold three at jj gg hh pp dd qq ee hT
            refine hK.out _ _ hT (fun _ => ?_)
            clear hK K hS
            try simp only [Act.put, List.setIfInBounds_toArray, List.set_cons_zero, List.set_cons_succ]
            generalize ((W37.setCell ⟨h, 0, none⟩ (.bool b2)).setCell ⟨h, 1, none⟩ (.slice p l e)).setCell ⟨h, 2, none⟩ (.slice p' l' e') = W38 at *
            have J_6 := Lib.hid jj
            have H_6 := Lib.hid gg
            have G_6 := Lib.hid hh
            have P_6 := Lib.hid pp
            have D_6 := Lib.hid dd
            have Q_6 := Lib.hid qq
            have E_6 := Lib.hid ee
            clear jj gg hh pp dd qq ee
            have hS := hT
            clear hT
            refine wpAnyH_done (by kernel_rfl) ?_ _
            refine NoPanic.normal ?_
            have OD : Hid (Od w (w.heap.size + 1 + 1) g h ⟨b1, a, k, c, a', k', c'⟩ ⟨b2, p, l, e, p', l', e'⟩ x y x' y' W38) := ⟨G_6.out, H_6.out, P_6.out, D_6.out, Q_6.out, E_6.out, FB.out, QB.out, LG.out, LH.out, J_6.out.bel⟩
            go_wp2_with fail
            go_meet
            case rel => exact ⟨g, h, _, _, rfl, rfl, OD.out, J_6.out⟩
        · go_simp
          have bc := bel_one W29 (.cells #[.bool false, .slice none 0 0, .slice none 0 0] 53)
          have LH : Hid (w.heap.size + 1 + 1 < W29.heap.size) := J_1.out.lo
          have NE : Hid (g ≠ W29.heap.size) := by have := G_1.out.lt; unfold Hid; omega
          have J_2 := Lib.hid (J_1.out.keep bc)
          have G_2 := Lib.hid (G_1.out.keep bc)
          clear J_1 G_1
          have H_2 : Hid (B3 (W29.alloc (.cells #[.bool false, .slice none 0 0, .slice none 0 0] 53)) W29.heap.size (.bool false) (.slice none 0 0) (.slice none 0 0)) := B3.made W29 _ _ _ _
          have hT := J_2.out.s22
          refine hK.out _ _ hT (fun _ => ?_)
          clear hK K hS bc
          try simp only [Act.put, List.setIfInBounds_toArray, List.set_cons_zero, List.set_cons_succ]
          generalize W29.alloc (.cells #[.bool false, .slice none 0 0, .slice none 0 0] 53) = W39 at *
          generalize W29.heap.size = h at *
          have hS := hT
          clear hT
          refine wpAnyH_ready (rs := [1]) (by kernel_rfl) (by simp) ?_
          refine AllReadyH.cons rfl (fun K hK => ?_) AllReadyH.nil
          go_simp
          (refine (O1.out W39).mono ?_)
          rintro e W40 ⟨a, k, c, a', k', c', rfl, hp, hd, bc⟩
          try go_simp
          have J_3 := Lib.hid (J_2.out.keep bc)
          have G_3 := Lib.hid (G_2.out.keep bc)
          have H_3 := Lib.hid (H_2.out.keep bc)
          clear J_2 G_2 H_2
          have P_3 := Lib.hid hp
          have D_3 := Lib.hid hd
          have hT := J_3.out.s22
          refine hK.out _ _ hT (fun _ => ?_)
          clear hK K hS bc hp hd
          have hS := hT
          clear hT
          try simp only [Act.put, List.setIfInBounds_toArray, List.set_cons_zero, List.set_cons_succ]
          refine wpAnyH_ready (rs := [3]) (by kernel_rfl) (by simp) ?_
          refine AllReadyH.cons rfl (fun K hK => ?_) AllReadyH.nil
          go_simp
          (refine (O2.out W40).mono ?_)
          rintro e W41 ⟨p, l, e, p', l', e', rfl, hp, hd, bc⟩
          try go_simp
          have J_4 := Lib.hid (J_3.out.keep bc)
          have G_4 := Lib.hid (G_3.out.keep bc)
          have H_4 := Lib.hid (H_3.out.keep bc)
          have P_4 := Lib.hid (P_3.out.below bc)
          have D_4 := Lib.hid (D_3.out.below bc)
          clear J_3 G_3 H_3 P_3 D_3
          have Q_4 := Lib.hid hp
          have E_4 := Lib.hid hd
          have hT := J_4.out.s22
          refine hK.out _ _ hT (fun _ => ?_)
          clear hK K hS bc hp hd
          have hS := hT
          clear hT
          try simp only [Act.put, List.setIfInBounds_toArray, List.set_cons_zero, List.set_cons_succ]
          refine wpAnyH_ready (rs := [6]) (by kernel_rfl) (by simp) ?_
          refine AllReadyH.cons rfl (fun K hK => ?_) AllReadyH.nil
          have q0 := G_4.out.c0
          have q1 := G_4.out.c1
          have q2 := G_4.out.c2
          have g0 := G_4.out.fr 0
          have g1 := G_4.out.fr 1
          have g2 := G_4.out.fr 2
          go_simp
          clear q0 q1 q2 g0 g1 g2
          have jj := J_4.out.three LG.out (.bool b1) (.slice a k c) (.slice a' k' c')
          have gg := G_4.out.set (.bool b1) (.slice a k c) (.slice a' k' c')
          have hh := H_4.out.other (NE.out) (.bool b1) (.slice a k c) (.slice a' k' c')
          have pp := P_4.out.set3 G_4.out (.bool b1) (.slice a k c) (.slice a' k' c')
          have dd := D_4.out.set3 G_4.out (.bool b1) (.slice a k c) (.slice a' k' c')
          have qq := Q_4.out.set3 G_4.out (.bool b1) (.slice a k c) (.slice a' k' c')
          have ee := E_4.out.set3 G_4.out (.bool b1) (.slice a k c) (.slice a' k' c')
          have hT := jj.s22
          clear J_4 G_4 H_4 P_4 D_4 Q_4 E_4
          unfold three at jj gg hh pp dd qq ee hT
          refine hK.out _ _ hT (fun _ => ?_)
          clear hK K hS
          try simp only [Act.put, List.setIfInBounds_toArray, List.set_cons_zero, List.set_cons_succ]
          generalize ((W41.setCell ⟨g, 0, none⟩ (.bool b1)).setCell ⟨g, 1, none⟩ (.slice a k c)).setCell ⟨g, 2, none⟩ (.slice a' k' c') = W42 at *
          have J_5 := Lib.hid jj
          have G_5 := Lib.hid gg
          have H_5 := Lib.hid hh
          have P_5 := Lib.hid pp
          have D_5 := Lib.hid dd
          have Q_5 := Lib.hid qq
          have E_5 := Lib.hid ee
          clear jj gg hh pp dd qq ee
          have hS := hT
          clear hT
          refine wpAnyH_ready (rs := [7]) (by kernel_rfl) (by simp) ?_
          refine AllReadyH.cons rfl (fun K hK => ?_) AllReadyH.nil
          have q0 := H_5.out.c0
          have q1 := H_5.out.c1
          have q2 := H_5.out.c2
          have g0 := H_5.out.fr 0
          have g1 := H_5.out.fr 1
          have g2 := H_5.out.fr 2
          go_simp
          clear q0 q1 q2 g0 g1 g2
          have jj := J_5.out.three LH.out (.bool b2) (.slice p l e) (.slice p' l' e')
          have gg := H_5.out.set (.bool b2) (.slice p l e) (.slice p' l' e')
          have hh := G_5.out.other (NE.out.symm) (.bool b2) (.slice p l e) (.slice p' l' e')
          have pp := P_5.out.set3 H_5.out (.bool b2) (.slice p l e) (.slice p' l' e')
          have dd := D_5.out.set3 H_5.out (.bool b2) (.slice p l e) (.slice p' l' e')
          have qq := Q_5.out.set3 H_5.out (.bool b2) (.slice p l e) (.slice p' l' e')
          have ee := E_5.out.set3 H_5.out (.bool b2) (.slice p l e) (.slice p' l' e')
          have hT := jj.s22
          clear J_5 G_5 H_5 P_5 D_5 Q_5 E_5
          unfold three at jj gg hh pp dd qq ee hT
          refine hK.out _ _ hT (fun _ => ?_)
          clear hK K hS
          try simp only [Act.put, List.setIfInBounds_toArray, List.set_cons_zero, List.set_cons_succ]
          generalize ((W42.setCell ⟨h, 0, none⟩ (.bool b2)).setCell ⟨h, 1, none⟩ (.slice p l e)).setCell ⟨h, 2, none⟩ (.slice p' l' e') = W43 at *
          have J_6 := Lib.hid jj
          have H_6 := Lib.hid gg
          have G_6 := Lib.hid hh
          have P_6 := Lib.hid pp
          have D_6 := Lib.hid dd
          have Q_6 := Lib.hid qq
          have E_6 := Lib.hid ee
          clear jj gg hh pp dd qq ee
          have hS := hT
          clear hT
          refine wpAnyH_done (by kernel_rfl) ?_ _
          refine NoPanic.normal ?_
          have OD : Hid (Od w (w.heap.size + 1 + 1) g h ⟨b1, a, k, c, a', k', c'⟩ ⟨b2, p, l, e, p', l', e'⟩ x y x' y' W43) := ⟨G_6.out, H_6.out, P_6.out, D_6.out, Q_6.out, E_6.out, FB.out, QB.out, LG.out, LH.out, J_6.out.bel⟩
          go_wp2_with fail
          go_meet
          case rel => exact ⟨g, h, _, _, rfl, rfl, OD.out, J_6.out⟩
      · go_simp
        have bc := bel_one WD (.cells #[.bool false, .slice none 0 0, .slice none 0 0] 53)
        have LH : Hid (w.heap.size + 1 + 1 < WD.heap.size) := J_0.out.lo
        have J_1 := Lib.hid (J_0.out.keep bc)
        clear J_0
        have H_1 : Hid (B3 (WD.alloc (.cells #[.bool false, .slice none 0 0, .slice none 0 0] 53)) WD.heap.size (.bool false) (.slice none 0 0) (.slice none 0 0)) := B3.made WD _ _ _ _
        have hT := J_1.out.s22
        refine hK.out _ _ hT (fun _ => ?_)
        clear hK K hS bc
        try simp only [Act.put, List.setIfInBounds_toArray, List.set_cons_zero, List.set_cons_succ]
        generalize WD.alloc (.cells #[.bool false, .slice none 0 0, .slice none 0 0] 53) = W44 at *
        generalize WD.heap.size = h at *
        have hS := hT
        clear hT
        refine wpAnyH_ready (rs := [1, 4]) (by kernel_rfl) (by simp) ?_
        refine AllReadyH.cons rfl (fun K hK => ?_) (AllReadyH.cons rfl (fun K hK => ?_) AllReadyH.nil)
        · go_simp
          (refine (O1.out W44).mono ?_)
          rintro e W45 ⟨a, k, c, a', k', c', rfl, hp, hd, bc⟩
          try go_simp
          have J_2 := Lib.hid (J_1.out.keep bc)
          have H_2 := Lib.hid (H_1.out.keep bc)
          clear J_1 H_1
          have P_2 := Lib.hid hp
          have D_2 := Lib.hid hd
          have hT := J_2.out.s22
          refine hK.out _ _ hT (fun _ => ?_)
          clear hK K hS bc hp hd
          have hS := hT
          clear hT
          try simp only [Act.put, List.setIfInBounds_toArray, List.set_cons_zero, List.set_cons_succ]
          refine wpAnyH_ready (rs := [3, 4]) (by kernel_rfl) (by simp) ?_
          refine AllReadyH.cons rfl (fun K hK => ?_) (AllReadyH.cons rfl (fun K hK => ?_) AllReadyH.nil)
          · go_simp
            (refine (O2.out W45).mono ?_)
            rintro e W46 ⟨p, l, e, p', l', e', rfl, hp, hd, bc⟩
            try go_simp
            have J_3 := Lib.hid (J_2.out.keep bc)
            have H_3 := Lib.hid (H_2.out.keep bc)
            have P_3 := Lib.hid (P_2.out.below bc)
            have D_3 := Lib.hid (D_2.out.below bc)
            clear J_2 H_2 P_2 D_2
            have Q_3 := Lib.hid hp
            have E_3 := Lib.hid hd
            have hT := J_3.out.s22
            refine hK.out _ _ hT (fun _ => ?_)
            clear hK K hS bc hp hd
            have hS := hT
            clear hT
            try simp only [Act.put, List.setIfInBounds_toArray, List.set_cons_zero, List.set_cons_succ]
            refine wpAnyH_ready (rs := [4]) (by kernel_rfl) (by simp) ?_
            refine AllReadyH.cons rfl (fun K hK => ?_) AllReadyH.nil
            go_simp
            have bc := bel_one W46 (.cells #[.bool false, .slice none 0 0, .slice none 0 0] 53)
            have LG : Hid (w.heap.size + 1 + 1 < W46.heap.size) := J_3.out.lo
            have NE : Hid (h ≠ W46.heap.size) := by have := H_3.out.lt; unfold Hid; omega
            have J_4 := Lib.hid (J_3.out.keep bc)
            have H_4 := Lib.hid (H_3.out.keep bc)
            have P_4 := Lib.hid (P_3.out.below bc)
            have D_4 := Lib.hid (D_3.out.below bc)
            have Q_4 := Lib.hid (Q_3.out.below bc)
            have E_4 := Lib.hid (E_3.out.below bc)
            clear J_3 H_3 P_3 D_3 Q_3 E_3
            have G_4 : Hid (B3 (W46.alloc (.cells #[.bool false, .slice none 0 0, .slice none 0 0] 53)) W46.heap.size (.bool false) (.slice none 0 0) (.slice none 0 0)) := B3.made W46 _ _ _ _
            have hT := J_4.out.s22
            refine hK.out _ _ hT (fun _ => ?_)
            clear hK K hS bc
            try simp only [Act.put, List.setIfInBounds_toArray, List.set_cons_zero, List.set_cons_succ]
            generalize W46.alloc (.cells #[.bool false, .slice none 0 0, .slice none 0 0] 53) = W47 at *
            generalize W46.heap.size = g at *
            have hS := hT
            clear hT
            refine wpAnyH_ready (rs := [6]) (by kernel_rfl) (by simp) ?_
            refine AllReadyH.cons rfl (fun K hK => ?_) AllReadyH.nil
            have q0 := G_4.out.c0
            have q1 := G_4.out.c1
            have q2 := G_4.out.c2
            have g0 := G_4.out.fr 0
            have g1 := G_4.out.fr 1
            have g2 := G_4.out.fr 2
            go_simp
            clear q0 q1 q2 g0 g1 g2
            have jj := J_4.out.three LG.out (.bool b1) (.slice a k c) (.slice a' k' c')
            have gg := G_4.out.set (.bool b1) (.slice a k c) (.slice a' k' c')
            have hh := H_4.out.other (NE.out.symm) (.bool b1) (.slice a k c) (.slice a' k' c')
            have pp := P_4.out.set3 G_4.out (.bool b1) (.slice a k c) (.slice a' k' c')
            have dd := D_4.out.set3 G_4.out (.bool b1) (.slice a k c) (.slice a' k' c')
            have qq := Q_4.out.set3 G_4.out (.bool b1) (.slice a k c) (.slice a' k' c')
            have ee := E_4.out.set3 G_4.out (.bool b1) (.slice a k c) (.slice a' k' c')
            have hT := jj.s22
            clear J_4 G_4 H_4 P_4 D_4 Q_4 E_4
            unfold three at jj gg hh pp dd qq ee hT
            refine hK.out _ _ hT (fun _ => ?_)
            clear hK K hS
            try simp only [Act.put, List.setIfInBounds_toArray, List.set_cons_zero, List.set_cons_succ]
            generalize ((W47.setCell ⟨g, 0, none⟩ (.bool b1)).setCell ⟨g, 1, none⟩ (.slice a k c)).setCell ⟨g, 2, none⟩ (.slice a' k' c') = W48 at *
            have J_5 := Lib.hid jj
            have G_5 := Lib.hid gg
            have H_5 := Lib.hid hh
            have P_5 := Lib.hid pp
            have D_5 := Lib.hid dd
            have Q_5 := Lib.hid qq
            have E_5 := Lib.hid ee
            clear jj gg hh pp dd qq ee
            have hS := hT
            clear hT
            refine wpAnyH_ready (rs := [7]) (by kernel_rfl) (by simp) ?_
            refine AllReadyH.cons rfl (fun K hK => ?_) AllReadyH.nil
            have q0 := H_5.out.c0
            have q1 := H_5.out.c1
            have q2 := H_5.out.c2
            have g0 := H_5.out.fr 0
            have g1 := H_5.out.fr 1
            have g2 := H_5.out.fr 2
            go_simp
            clear q0 q1 q2 g0 g1 g2
            have jj := J_5.out.three LH.out (.bool b2) (.slice p l e) (.slice p' l' e')
            have gg := H_5.out.set (.bool b2) (.slice p l e) (.slice p' l' e')
            have hh := G_5.out.other (NE.out) (.bool b2) (.slice p l e) (.slice p' l' e')
            have pp := P_5.out.set3 H_5.out (.bool b2) (.slice p l e) (.slice p' l' e')
            have dd := D_5.out.set3 H_5.out (.bool b2) (.slice p l e) (.slice p' l' e')
            have qq := Q_5.out.set3 H_5.out (.bool b2) (.slice p l e) (.slice p' l' e')
            have ee := E_5.out.set3 H_5.out (.bool b2) (.slice p l e) (.slice p' l' e')
            have hT := jj.s22
            clear J_5 G_5 H_5 P_5 D_5 Q_5 E_5
            unfold three at jj gg hh pp dd qq ee hT
            refine hK.out _ _ hT (fun _ => ?_)
            clear hK K hS
            try simp only [Act.put, List.setIfInBounds_toArray, List.set_cons_zero, List.set_cons_succ]
            generalize ((W48.setCell ⟨h, 0, none⟩ (.bool b2)).setCell ⟨h, 1, none⟩ (.slice p l e)).setCell ⟨h, 2, none⟩ (.slice p' l' e') = W49 at *
            have J_6 := Lib.hid jj
            have H_6 := Lib.hid gg
            have G_6 := Lib.hid hh
            have P_6 := Lib.hid pp
            have D_6 := Lib.hid dd
            have Q_6 := Lib.hid qq
            have E_6 := Lib.hid ee
            clear jj gg hh pp dd qq ee
            have hS := hT
            clear hT
            refine wpAnyH_done (by kernel_rfl) ?_ _
            refine NoPanic.normal ?_
            have OD : Hid (Od w (w.heap.size + 1 + 1) g h ⟨b1, a, k, c, a', k', c'⟩ ⟨b2, p, l, e, p', l', e'⟩ x y x' y' W49) := ⟨G_6.out, H_6.out, P_6.out, D_6.out, Q_6.out, E_6.out, FB.out, QB.out, LG.out, LH.out, J_6.out.bel⟩
            go_wp2_with fail
            go_meet
            case rel => exact ⟨g, h, _, _, rfl, rfl, OD.out, J_6.out⟩
          · go_simp
            have bc := bel_one W45 (.cells #[.bool false, .slice none 0 0, .slice none 0 0] 53)
            have LG : Hid (w.heap.size + 1 + 1 < W45.heap.size) := J_2.out.lo
            have NE : Hid (h ≠ W45.heap.size) := by have := H_2.out.lt; unfold Hid; omega
            have J_3 := Lib.hid (J_2.out.keep bc)
            have H_3 := Lib.hid (H_2.out.keep bc)
            have P_3 := Lib.hid (P_2.out.below bc)
            have D_3 := Lib.hid (D_2.out.below bc)
            clear J_2 H_2 P_2 D_2
            have G_3 : Hid (B3 (W45.alloc (.cells #[.bool false, .slice none 0 0, .slice none 0 0] 53)) W45.heap.size (.bool false) (.slice none 0 0) (.slice none 0 0)) := B3.made W45 _ _ _ _
            have hT := J_3.out.s22
            refine hK.out _ _ hT (fun _ => ?_)
            clear hK K hS bc
            try simp only [Act.put, List.setIfInBounds_toArray, List.set_cons_zero, List.set_cons_succ]
            generalize W45.alloc (.cells #[.bool false, .slice none 0 0, .slice none 0 0] 53) = W50 at *
            generalize W45.heap.size = g at *
            have hS := hT
            clear hT
            refine wpAnyH_ready (rs := [3]) (by kernel_rfl) (by simp) ?_
            refine AllReadyH.cons rfl (fun K hK => ?_) AllReadyH.nil
            go_simp
            (refine (O2.out W50).mono ?_)
            rintro e W51 ⟨p, l, e, p', l', e', rfl, hp, hd, bc⟩
            try go_simp
            have J_4 := Lib.hid (J_3.out.keep bc)
            have H_4 := Lib.hid (H_3.out.keep bc)
            have P_4 := Lib.hid (P_3.out.below bc)
            have D_4 := Lib.hid (D_3.out.below bc)
            have G_4 := Lib.hid (G_3.out.keep bc)
            clear J_3 H_3 P_3 D_3 G_3
            have Q_4 := Lib.hid hp
            have E_4 := Lib.hid hd
            have hT := J_4.out.s22
            refine hK.out _ _ hT (fun _ => ?_)
            clear hK K hS bc hp hd
            have hS := hT
            clear hT
            try simp only [Act.put, List.setIfInBounds_toArray, List.set_cons_zero, List.set_cons_succ]
            refine wpAnyH_ready (rs := [6]) (by kernel_rfl) (by simp) ?_
            refine AllReadyH.cons rfl (fun K hK => ?_) AllReadyH.nil
            have q0 := G_4.out.c0
            have q1 := G_4.out.c1
            have q2 := G_4.out.c2
            have g0 := G_4.out.fr 0
            have g1 := G_4.out.fr 1
            have g2 := G_4.out.fr 2
            go_simp
            clear q0 q1 q2 g0 g1 g2
            have jj := J_4.out.three LG.out (.bool b1) (.slice a k c) (.slice a' k' c')
            have gg := G_4.out.set (.bool b1) (.slice a k c) (.slice a' k' c')
            have hh := H_4.out.other (NE.out.symm) (.bool b1) (.slice a k c) (.slice a' k' c')
            have pp := P_4.out.set3 G_4.out (.bool b1) (.slice a k c) (.slice a' k' c')
            have dd := D_4.out.set3 G_4.out (.bool b1) (.slice a k c) (.slice a' k' c')
            have qq := Q_4.out.set3 G_4.out (.bool b1) (.slice a k c) (.slice a' k' c')
            have ee := E_4.out.set3 G_4.out (.bool b1) (.slice a k c) (.slice a' k' c')
            have hT := jj.s22
            clear J_4 G_4 H_4 P_4 D_4 Q_4 E_4
            unfold three at jj gg hh pp dd qq ee hT
            refine hK.out _ _ hT (fun _ => ?_)
            clear hK K hS
            try simp only [Act.put, List.setIfInBounds_toArray, List.set_cons_zero, List.set_cons_succ]
            generalize ((W51.setCell ⟨g, 0, none⟩ (.bool b1)).setCell ⟨g, 1, none⟩ (.slice a k c)).setCell ⟨g, 2, none⟩ (.slice a' k' c') = W52 at *
            have J_5 := Lib.hid jj
            have G_5 := Lib.hid gg
            have H_5 := Lib.hid hh
            have P_5 := Lib.hid pp
            have D_5 := Lib.hid dd
            have Q_5 := Lib.hid qq
            have E_5 := Lib.hid ee
            clear jj gg hh pp dd qq ee
            have hS := hT
            clear hT
            refine wpAnyH_ready (rs := [7]) (by kernel_rfl) (by simp) ?_
            refine AllReadyH.cons rfl (fun K hK => ?_) AllReadyH.nil
            have q0 := H_5.out.c0
            have q1 := H_5.out.c1
            have q2 := H_5.out.c2
            have g0 := H_5.out.fr 0
            have g1 := H_5.out.fr 1
            have g2 := H_5.out.fr 2
            go_simp
            clear q0 q1 q2 g0 g1 g2
            have jj := J_5.out.three LH.out (.bool b2) (.slice p l e) (.slice p' l' e')
            have gg := H_5.out.set (.bool b2) (.slice p l e) (.slice p' l' e')
            have hh := G_5.out.other (NE.out) (.bool b2) (.slice p l e) (.slice p' l' e')
            have pp := P_5.out.set3 H_5.out (.bool b2) (.slice p l e) (.slice p' l' e')
            have dd := D_5.out.set3 H_5.out (.bool b2) (.slice p l e) (.slice p' l' e')
            have qq := Q_5.out.set3 H_5.out (.bool b2) (.slice p l e) (.slice p' l' e')
            have ee := E_5.out.set3 H_5.out (.bool b2) (.slice p l e) (.slice p' l' e')
            have hT := jj.s22
            clear J_5 G_5 H_5 P_5 D_5 Q_5 E_5
            unfold three at jj gg hh pp dd qq ee hT
            refine hK.out _ _ hT (fun _ => ?_)
            clear hK K hS
            try simp only [Act.put, List.setIfInBounds_toArray, List.set_cons_zero, List.set_cons_succ]
            generalize ((W52.setCell ⟨h, 0, none⟩ (.bool b2)).setCell ⟨h, 1, none⟩ (.slice p l e)).setCell ⟨h, 2, none⟩ (.slice p' l' e') = W53 at *
            have J_6 := Lib.hid jj
            have H_6 := Lib.hid gg
            have G_6 := Lib.hid hh
            have P_6 := Lib.hid pp
            have D_6 := Lib.hid dd
            have Q_6 := Lib.hid qq
            have E_6 := Lib.hid ee
            clear jj gg hh pp dd qq ee
            have hS := hT
            clear hT
            refine wpAnyH_done (by kernel_rfl) ?_ _
            refine NoPanic.normal ?_
            have OD : Hid (Od w (w.heap.size + 1 + 1) g h ⟨b1, a, k, c, a', k', c'⟩ ⟨b2, p, l, e, p', l', e'⟩ x y x' y' W53) := ⟨G_6.out, H_6.out, P_6.out, D_6.out, Q_6.out, E_6.out, FB.out, QB.out, LG.out, LH.out, J_6.out.bel⟩
            go_wp2_with fail
            go_meet
            case rel => exact ⟨g, h, _, _, rfl, rfl, OD.out, J_6.out⟩
        · go_simp
          have bc := bel_one W44 (.cells #[.bool false, .slice none 0 0, .slice none 0 0] 53)
          have LG : Hid (w.heap.size + 1 + 1 < W44.heap.size) := J_1.out.lo
          have NE : Hid (h ≠ W44.heap.size) := by have := H_1.out.lt; unfold Hid; omega
          have J_2 := Lib.hid (J_1.out.keep bc)
          have H_2 := Lib.hid (H_1.out.keep bc)
          clear J_1 H_1
          have G_2 : Hid (B3 (W44.alloc (.cells #[.bool false, .slice none 0 0, .slice none 0 0] 53)) W44.heap.size (.bool false) (.slice none 0 0) (.slice none 0 0)) := B3.made W44 _ _ _ _
          have hT := J_2.out.s22
          refine hK.out _ _ hT (fun _ => ?_)
          clear hK K hS bc
          try simp only [Act.put, List.setIfInBounds_toArray, List.set_cons_zero, List.set_cons_succ]
          generalize W44.alloc (.cells #[.bool false, .slice none 0 0, .slice none 0 0] 53) = W54 at *
          generalize W44.heap.size = g at *
          have hS := hT
          clear hT
          refine wpAnyH_ready (rs := [1]) (by kernel_rfl) (by simp) ?_
          refine AllReadyH.cons rfl (fun K hK => ?_) AllReadyH.nil
          go_simp
          (refine (O1.out W54).mono ?_)
          rintro e W55 ⟨a, k, c, a', k', c', rfl, hp, hd, bc⟩
          try go_simp
          have J_3 := Lib.hid (J_2.out.keep bc)
          have H_3 := Lib.hid (H_2.out.keep bc)
          have G_3 := Lib.hid (G_2.out.keep bc)
          clear J_2 H_2 G_2
          have P_3 := Lib.hid hp
          have D_3 := Lib.hid hd
          have hT := J_3.out.s22
          refine hK.out _ _ hT (fun _ => ?_)
          clear hK K hS bc hp hd
          have hS := hT
          clear hT
          try simp only [Act.put, List.setIfInBounds_toArray, List.set_cons_zero, List.set_cons_succ]
          refine wpAnyH_ready (rs := [3]) (by kernel_rfl) (by simp) ?_
          refine AllReadyH.cons rfl (fun K hK => ?_) AllReadyH.nil
          go_simp
          (refine (O2.out W55).mono ?_)
          rintro e W56 ⟨p, l, e, p', l', e', rfl, hp, hd, bc⟩
          try go_simp
          have J_4 := Lib.hid (J_3.out.keep bc)
          have H_4 := Lib.hid (H_3.out.keep bc)
          have G_4 := Lib.hid (G_3.out.keep bc)
          have P_4 := Lib.hid (P_3.out.below bc)
          have D_4 := Lib.hid (D_3.out.below bc)
          clear J_3 H_3 G_3 P_3 D_3
          have Q_4 := Lib.hid hp
          have E_4 := Lib.hid hd
          have hT := J_4.out.s22
          refine hK.out _ _ hT (fun _ => ?_)
          clear hK K hS bc hp hd
          have hS := hT
          clear hT
          try simp only [Act.put, List.setIfInBounds_toArray, List.set_cons_zero, List.set_cons_succ]
          refine wpAnyH_ready (rs := [6]) (by kernel_rfl) (by simp) ?_
          refine AllReadyH.cons rfl (fun K hK => ?_) AllReadyH.nil
          have q0 := G_4.out.c0
          have q1 := G_4.out.c1
          have q2 := G_4.out.c2
          have g0 := G_4.out.fr 0
          have g1 := G_4.out.fr 1
          have g2 := G_4.out.fr 2
          go_simp
          clear q0 q1 q2 g0 g1 g2
          have jj := J_4.out.three LG.out (.bool b1) (.slice a k c) (.slice a' k' c')
          have gg := G_4.out.set (.bool b1) (.slice a k c) (.slice a' k' c')
          have hh := H_4.out.other (NE.out.symm) (.bool b1) (.slice a k c) (.slice a' k' c')
          have pp := P_4.out.set3 G_4.out (.bool b1) (.slice a k c) (.slice a' k' c')
          have dd := D_4.out.set3 G_4.out (.bool b1) (.slice a k c) (.slice a' k' c')
          have qq := Q_4.out.set3 G_4.out (.bool b1) (.slice a k c) (.slice a' k' c')
          have ee := E_4.out.set3 G_4.out (.bool b1) (.slice a k c) (.slice a' k' c')
          have hT := jj.s22
          clear J_4 G_4 H_4 P_4 D_4 Q_4 E_4
          unfold three at jj gg hh pp dd qq ee hT
          refine hK.out _ _ hT (fun _ => ?_)
          clear hK K hS
          try simp only [Act.put, List.setIfInBounds_toArray, List.set_cons_zero, List.set_cons_succ]
          generalize ((W56.setCell ⟨g, 0, none⟩ (.bool b1)).setCell ⟨g, 1, none⟩ (.slice a k c)).setCell ⟨g, 2, none⟩ (.slice a' k' c') = W57 at *
          have J_5 := Lib.hid jj
          have G_5 := Lib.hid gg
          have H_5 := Lib.hid hh
          have P_5 := Lib.hid pp
          have D_5 := Lib.hid dd
          have Q_5 := Lib.hid qq
          have E_5 := Lib.hid ee
          clear jj gg hh pp dd qq ee
          have hS := hT
          clear hT
          refine wpAnyH_ready (rs := [7]) (by kernel_rfl) (by simp) ?_
          refine AllReadyH.cons rfl (fun K hK => ?_) AllReadyH.nil
          have q0 := H_5.out.c0
          have q1 := H_5.out.c1
          have q2 := H_5.out.c2
          have g0 := H_5.out.fr 0
          have g1 := H_5.out.fr 1
          have g2 := H_5.out.fr 2
          go_simp
          clear q0 q1 q2 g0 g1 g2
          have jj := J_5.out.three LH.out (.bool b2) (.slice p l e) (.slice p' l' e')
          have gg := H_5.out.set (.bool b2) (.slice p l e) (.slice p' l' e')
          have hh := G_5.out.other (NE.out) (.bool b2) (.slice p l e) (.slice p' l' e')
          have pp := P_5.out.set3 H_5.out (.bool b2) (.slice p l e) (.slice p' l' e')
          have dd := D_5.out.set3 H_5.out (.bool b2) (.slice p l e) (.slice p' l' e')
          have qq := Q_5.out.set3 H_5.out (.bool b2) (.slice p l e) (.slice p' l' e')
          have ee := E_5.out.set3 H_5.out (.bool b2) (.slice p l e) (.slice p' l' e')
          have hT := jj.s22
          clear J_5 G_5 H_5 P_5 D_5 Q_5 E_5
          unfold three at jj gg hh pp dd qq ee hT
          refine hK.out _ _ hT (fun _ => ?_)
          clear hK K hS
          try simp only [Act.put, List.setIfInBounds_toArray, List.set_cons_zero, List.set_cons_succ]
          generalize ((W57.setCell ⟨h, 0, none⟩ (.bool b2)).setCell ⟨h, 1, none⟩ (.slice p l e)).setCell ⟨h, 2, none⟩ (.slice p' l' e') = W58 at *
          have J_6 := Lib.hid jj
          have H_6 := Lib.hid gg
          have G_6 := Lib.hid hh
          have P_6 := Lib.hid pp
          have D_6 := Lib.hid dd
          have Q_6 := Lib.hid qq
          have E_6 := Lib.hid ee
          clear jj gg hh pp dd qq ee
          have hS := hT
          clear hT
          refine wpAnyH_done (by kernel_rfl) ?_ _
          refine NoPanic.normal ?_
          have OD : Hid (Od w (w.heap.size + 1 + 1) g h ⟨b1, a, k, c, a', k', c'⟩ ⟨b2, p, l, e, p', l', e'⟩ x y x' y' W58) := ⟨G_6.out, H_6.out, P_6.out, D_6.out, Q_6.out, E_6.out, FB.out, QB.out, LG.out, LH.out, J_6.out.bel⟩
          go_wp2_with fail
          go_meet
          case rel => exact ⟨g, h, _, _, rfl, rfl, OD.out, J_6.out⟩
    case rest =>
      obtain ⟨g, h, f, q, rfl, rfl, hO, hJ⟩ := hcut
      clear J1 O1 O2
      have p2 := hO.out.bf.c2
      have q2 := hO.out.bh.c2
      have HD := Lib.hid (ntimes_c f.a' q.a' f.k' q.k' f.c' q.c' _ _ _ hO.out.d hO.out.d' (by have := hO.out.d.len V1.out.2.1; have := hO.out.d'.len V2.out.2.1; omega))
      go_wp2_with fail
      clear p2 q2
      (with_reducible refine HD.out.mono ?_)
      rintro e w2 ⟨da, dk, dc, rfl, hd, b2⟩
      have O2 := Lib.hid (hO.out.keep b2)
      have J2 := Lib.hid (hJ.out.keep b2)
      have D2 := Lib.hid hd
      clear hO hJ hd b2 HD
      go_wp2_with fail
      refine wp_region_noPanic ?_
      refine wp_region_held_drew (S := S33 g h f q) (by kernel_rfl) (O2.out.keep (Below.refl _ _).drew).s33 (fun hS => ?_)
      have O_0 := Lib.hid (O2.out.keep (Below.refl _ _).drew)
      have J_0 := Lib.hid (J2.out.keep (Below.refl _ _).drew)
      have D_0 := Lib.hid (D2.out.below (Below.refl _ _).drew)
      clear O2 J2 D2
      generalize w2.drew = WD at *
      refine wpAnyH_take (i := 0) (v := ?v0z31) rfl (by kernel_rfl) (by kernel_rfl) (by kernel_rfl) (fun _ _ _ h => h) (Or.inl ⟨by rfl, ?hy0z31⟩) (by assumption) ?rest0z31
      case hy0z31 =>
        intro w hSw
        dsimp only [S33] at hSw
        go_simp
        try with_reducible rfl
      simp only [Act.put, List.getElem_toArray, List.getElem_cons_succ, List.getElem_cons_zero, List.setIfInBounds_toArray, List.set_cons_zero, List.set_cons_succ]
      refine wpAnyH_take (i := 1) (v := ?v1z32) rfl (by kernel_rfl) (by kernel_rfl) (by kernel_rfl) (fun _ _ _ h => h) (Or.inl ⟨by rfl, ?hy1z32⟩) (by assumption) ?rest1z32
      case hy1z32 =>
        intro w hSw
        dsimp only [S33] at hSw
        go_simp
        try with_reducible rfl
      simp only [Act.put, List.getElem_toArray, List.getElem_cons_succ, List.getElem_cons_zero, List.setIfInBounds_toArray, List.set_cons_zero, List.set_cons_succ]
      refine wpAnyH_take (i := 2) (v := ?v2z33) rfl (by kernel_rfl) (by kernel_rfl) (by kernel_rfl) (fun _ _ _ h => h) (Or.inl ⟨by rfl, ?hy2z33⟩) (by assumption) ?rest2z33
      case hy2z33 =>
        intro w hSw
        dsimp only [S33] at hSw
        go_simp
        try with_reducible rfl
      simp only [Act.put, List.getElem_toArray, List.getElem_cons_succ, List.getElem_cons_zero, List.setIfInBounds_toArray, List.set_cons_zero, List.set_cons_succ]
      refine wpAnyH_take (i := 3) (v := ?v3z34) rfl (by kernel_rfl) (by kernel_rfl) (by kernel_rfl) (fun _ _ _ h => h) (Or.inl ⟨by rfl, ?hy3z34⟩) (by assumption) ?rest3z34
      case hy3z34 =>
        intro w hSw
        dsimp only [S33] at hSw
        go_simp
        try with_reducible rfl
      simp only [Act.put, List.getElem_toArray, List.getElem_cons_succ, List.getElem_cons_zero, List.setIfInBounds_toArray, List.set_cons_zero, List.set_cons_succ]
      refine wpAnyH_take (i := 5) (v := ?v5z35) rfl (by kernel_rfl) (by kernel_rfl) (by kernel_rfl) (fun _ _ _ h => h) (Or.inl ⟨by rfl, ?hy5z35⟩) (by assumption) ?rest5z35
      case hy5z35 =>
        intro w hSw
        dsimp only [S33] at hSw
        go_simp
        try with_reducible rfl
      simp only [Act.put, List.getElem_toArray, List.getElem_cons_succ, List.getElem_cons_zero, List.setIfInBounds_toArray, List.set_cons_zero, List.set_cons_succ]
      refine wpAnyH_take (i := 6) (v := ?v6z36) rfl (by kernel_rfl) (by kernel_rfl) (by kernel_rfl) (fun _ _ _ h => h) (Or.inl ⟨by rfl, ?hy6z36⟩) (by assumption) ?rest6z36
      case hy6z36 =>
        intro w hSw
        dsimp only [S33] at hSw
        go_simp
        try with_reducible rfl
      simp only [Act.put, List.getElem_toArray, List.getElem_cons_succ, List.getElem_cons_zero, List.setIfInBounds_toArray, List.set_cons_zero, List.set_cons_succ]
      refine wpAnyH_take (i := 7) (v := ?v7z37) rfl (by kernel_rfl) (by kernel_rfl) (by kernel_rfl) (fun _ _ _ h => h) (Or.inl ⟨by rfl, ?hy7z37⟩) (by assumption) ?rest7z37
      case hy7z37 =>
        intro w hSw
        dsimp only [S33] at hSw
        go_simp
        try with_reducible rfl
      simp only [Act.put, List.getElem_toArray, List.getElem_cons_succ, List.getElem_cons_zero, List.setIfInBounds_toArray, List.set_cons_zero, List.set_cons_succ]
      refine wpAnyH_take (i := 8) (v := ?v8z38) rfl (by kernel_rfl) (by kernel_rfl) (by kernel_rfl) (fun _ _ _ h => h) (Or.inl ⟨by rfl, ?hy8z38⟩) (by assumption) ?rest8z38
      case hy8z38 =>
        intro w hSw
        dsimp only [S33] at hSw
        go_simp
        try with_reducible rfl
      simp only [Act.put, List.getElem_toArray, List.getElem_cons_succ, List.getElem_cons_zero, List.setIfInBounds_toArray, List.set_cons_zero, List.set_cons_succ]
      refine wpAnyH_ready (rs := [4]) (by kernel_rfl) (by simp) ?_
      refine AllReadyH.cons rfl (fun K hK => ?_) AllReadyH.nil
      go_simp
      (refine (ntimes_c f.a q.a' f.k q.k' f.c q.c' _ _ _ O_0.out.n O_0.out.d' (by have := O_0.out.n.len V1.out.2.2; have := O_0.out.d'.len V2.out.2.1; omega)).mono ?_)
      rintro e V59 ⟨pa, pk, pc, rfl, hp, bc⟩
      try go_simp
      have O_1 := Lib.hid (O_0.out.keep bc)
      have J_1 := Lib.hid (J_0.out.keep bc)
      have D_1 := Lib.hid (D_0.out.below bc)
      clear O_0 J_0 D_0
      have P_1 := Lib.hid hp
      have hT := O_1.out.s33
      refine hK.out _ _ hT (fun _ => ?_)
      clear hK K hS bc hp
      have hS := hT
      clear hT
      try simp only [Act.put, List.setIfInBounds_toArray, List.set_cons_zero, List.set_cons_succ]
      refine wpAnyH_ready (rs := [9]) (by kernel_rfl) (by simp) ?_
      refine AllReadyH.cons rfl (fun K hK => ?_) AllReadyH.nil
      go_simp
      (refine (ntimes_c q.a f.a' q.k f.k' q.c f.c' _ _ _ O_1.out.n' O_1.out.d (by have := O_1.out.n'.len V2.out.2.2; have := O_1.out.d.len V1.out.2.1; omega)).mono ?_)
      rintro e V60 ⟨qa, qk, qc, rfl, hq, bc⟩
      try go_simp
      have O_2 := Lib.hid (O_1.out.keep bc)
      have J_2 := Lib.hid (J_1.out.keep bc)
      have D_2 := Lib.hid (D_1.out.below bc)
      have P_2 := Lib.hid (P_1.out.below bc)
      clear O_1 J_1 D_1 P_1
      have Q_2 := Lib.hid hq
      have hT := O_2.out.s33
      refine hK.out _ _ hT (fun _ => ?_)
      clear hK K hS bc hq
      have hS := hT
      clear hT
      try simp only [Act.put, List.setIfInBounds_toArray, List.set_cons_zero, List.set_cons_succ]
      refine wpAnyH_take (i := 10) (v := ?v10z39) rfl (by kernel_rfl) (by kernel_rfl) (by kernel_rfl) (fun _ _ _ h => h) (Or.inl ⟨by rfl, ?hy10z39⟩) (by assumption) ?rest10z39
      case hy10z39 =>
        intro w hSw
        dsimp only [S33] at hSw
        go_simp
        try with_reducible rfl
      simp only [Act.put, List.getElem_toArray, List.getElem_cons_succ, List.getElem_cons_zero, List.setIfInBounds_toArray, List.set_cons_zero, List.set_cons_succ]
      refine wpAnyH_take (i := 11) (v := ?v11z40) rfl (by kernel_rfl) (by kernel_rfl) (by kernel_rfl) (fun _ _ _ h => h) (Or.inl ⟨by rfl, ?hy11z40⟩) (by assumption) ?rest11z40
      case hy11z40 =>
        intro w hSw
        dsimp only [S33] at hSw
        go_simp
        try with_reducible rfl
      simp only [Act.put, List.getElem_toArray, List.getElem_cons_succ, List.getElem_cons_zero, List.setIfInBounds_toArray, List.set_cons_zero, List.set_cons_succ]
      refine wpAnyH_done (by kernel_rfl) ?_ _
      refine NoPanic.normal ?_
      clear hS
      have O6 := O_2
      have J6 := J_2
      have D6 := D_2
      have P6 := P_2
      have Q6 := Q_2
      clear O_2 J_2 D_2 P_2 Q_2
      generalize V60 = W6 at *
      have c0 := O6.out.bf.c0
      have d0 := O6.out.bh.c0
      have zp : Hid (zv f.b (x.natAbs * y'.natAbs) = x * y') := by unfold Hid; rw [O6.out.fb]; exact zv_times x y' P2.out
      have zq : Hid (zv q.b (x'.natAbs * y.natAbs) = x' * y) := by unfold Hid; rw [O6.out.qb]; exact zv_times x' y P1.out
      have lp : Hid (x.natAbs * y'.natAbs < tp 446) := tp_mul_lt V1.out.2.2 V2.out.2.1
      have lq : Hid (x'.natAbs * y.natAbs < tp 446) := tp_mul_lt V2.out.2.2 V1.out.2.1
      by_cases hb : f.b = q.b
      · have hbq : (f.b == q.b) = true := by rw [hb]; simp
        have HB := Lib.hid hb
        clear hb
        go_wp2_with fail
        clear hbq c0 d0
        have O7 := O6
        have J7 := J6
        have D7 := D6
        have P7 := P6
        have Q7 := Q6
        clear O6 J6 D6 P6 Q6
        generalize W6 = WW at *
        refine wp_region_noPanic ?_
        refine wp_region_held_drew (S := S33 g h f q) (by kernel_rfl) (O7.out.keep (Below.refl _ _).drew).s33 (fun hS => ?_)
        have O_0 := Lib.hid (O7.out.keep (Below.refl _ _).drew)
        have J_0 := Lib.hid (J7.out.keep (Below.refl _ _).drew)
        have D_0 := Lib.hid (D7.out.below (Below.refl _ _).drew)
        have P_0 := Lib.hid (P7.out.below (Below.refl _ _).drew)
        have Q_0 := Lib.hid (Q7.out.below (Below.refl _ _).drew)
        clear O7 J7 D7 P7 Q7
        generalize WW.drew = WD at *
        refine wpAnyH_take (i := 0) (v := ?v0z41) rfl (by kernel_rfl) (by kernel_rfl) (by kernel_rfl) (fun _ _ _ h => h) (Or.inl ⟨by rfl, ?hy0z41⟩) (by assumption) ?rest0z41
        case hy0z41 =>
          intro w hSw
          dsimp only [S33] at hSw
          go_simp
          try with_reducible rfl
        simp only [Act.put, List.getElem_toArray, List.getElem_cons_succ, List.getElem_cons_zero, List.setIfInBounds_toArray, List.set_cons_zero, List.set_cons_succ]
        refine wpAnyH_take (i := 1) (v := ?v1z42) rfl (by kernel_rfl) (by kernel_rfl) (by kernel_rfl) (fun _ _ _ h => h) (Or.inl ⟨by rfl, ?hy1z42⟩) (by assumption) ?rest1z42
        case hy1z42 =>
          intro w hSw
          dsimp only [S33] at hSw
          go_simp
          try with_reducible rfl
        simp only [Act.put, List.getElem_toArray, List.getElem_cons_succ, List.getElem_cons_zero, List.setIfInBounds_toArray, List.set_cons_zero, List.set_cons_succ]
        refine wpAnyH_take (i := 2) (v := ?v2z43) rfl (by kernel_rfl) (by kernel_rfl) (by kernel_rfl) (fun _ _ _ h => h) (Or.inl ⟨by rfl, ?hy2z43⟩) (by assumption) ?rest2z43
        case hy2z43 =>
          intro w hSw
          dsimp only [S33] at hSw
          go_simp
          try with_reducible rfl
        simp only [Act.put, List.getElem_toArray, List.getElem_cons_succ, List.getElem_cons_zero, List.setIfInBounds_toArray, List.set_cons_zero, List.set_cons_succ]
        refine wpAnyH_take (i := 3) (v := ?v3z44) rfl (by kernel_rfl) (by kernel_rfl) (by kernel_rfl) (fun _ _ _ h => h) (Or.inl ⟨by rfl, ?hy3z44⟩) (by assumption) ?rest3z44
        case hy3z44 =>
          intro w hSw
          dsimp only [S33] at hSw
          go_simp
          try with_reducible rfl
        simp only [Act.put, List.getElem_toArray, List.getElem_cons_succ, List.getElem_cons_zero, List.setIfInBounds_toArray, List.set_cons_zero, List.set_cons_succ]
        refine wpAnyH_take (i := 5) (v := ?v5z45) rfl (by kernel_rfl) (by kernel_rfl) (by kernel_rfl) (fun _ _ _ h => h) (Or.inl ⟨by rfl, ?hy5z45⟩) (by assumption) ?rest5z45
        case hy5z45 =>
          intro w hSw
          dsimp only [S33] at hSw
          go_simp
          try with_reducible rfl
        simp only [Act.put, List.getElem_toArray, List.getElem_cons_succ, List.getElem_cons_zero, List.setIfInBounds_toArray, List.set_cons_zero, List.set_cons_succ]
        refine wpAnyH_ready (rs := [4]) (by kernel_rfl) (by simp) ?_
        refine AllReadyH.cons rfl (fun K hK => ?_) AllReadyH.nil
        go_simp
        (refine (nplus_c pa qa pk qk pc qc _ _ _ P_0.out Q_0.out (by have := P_0.out.len lp.out; omega) (by have := Q_0.out.len lq.out; omega)).mono ?_)
        rintro e V61 ⟨na, nk, nc, rfl, hn, bc⟩
        try go_simp
        have O_1 := Lib.hid (O_0.out.keep bc)
        have J_1 := Lib.hid (J_0.out.keep bc)
        have D_1 := Lib.hid (D_0.out.below bc)
        have P_1 := Lib.hid (P_0.out.below bc)
        have Q_1 := Lib.hid (Q_0.out.below bc)
        clear O_0 J_0 D_0 P_0 Q_0
        have N_1 := Lib.hid hn
        have hT := O_1.out.s33
        refine hK.out _ _ hT (fun _ => ?_)
        clear hK K hS bc hn
        have hS := hT
        clear hT
        try simp only [Act.put, List.setIfInBounds_toArray, List.set_cons_zero, List.set_cons_succ]
        refine wpAnyH_take (i := 6) (v := ?v6z46) rfl (by kernel_rfl) (by kernel_rfl) (by kernel_rfl) (fun _ _ _ h => h) (Or.inl ⟨by rfl, ?hy6z46⟩) (by assumption) ?rest6z46
        case hy6z46 =>
          intro w hSw
          dsimp only [S33] at hSw
          go_simp
          try with_reducible rfl
        simp only [Act.put, List.getElem_toArray, List.getElem_cons_succ, List.getElem_cons_zero, List.setIfInBounds_toArray, List.set_cons_zero, List.set_cons_succ]
        have HSH := shut_c f.b na da nk dk nc dc _ _ _ N_1.out D_1.out (Nat.mul_pos V1.out.1 V2.out.1) (by have := N_1.out.len (tp_sum_lt lp.out lq.out); omega) (by have := D_1.out.len (tp_mul_lt V1.out.2.1 V2.out.2.1); omega) (HE.out _ O_1.out.bel)
        have e1 : zv f.b (x.natAbs * y'.natAbs + x'.natAbs * y.natAbs) = x * y' + x' * y := by rw [zv_same, zp.out, HB.out, zq.out]
        have e2 : ((y.natAbs * y'.natAbs : Nat) : Int) = y * y' := by
          have p1 := P1.out
          have p2 := P2.out
          rw [Int.natCast_mul, Int.natAbs_of_nonneg (by omega), Int.natAbs_of_nonneg (by omega)]
        rw [e1, e2] at HSH
        obtain ⟨rr, hrr⟩ : ∃ rr, raR (x * y' + x' * y) (y * y') = rr := ⟨_, rfl⟩
        rw [hrr] at HSH
        have RS2 : Hid (opS fSum s.data.toList t.data.toList s'.data.toList t'.data.toList = rr) := by unfold Hid; rw [← hrr]; exact RS.out
        have HSH := Lib.hid HSH
        clear e1 e2 hrr RS
        refine wpAnyH_ready (rs := [7]) (by kernel_rfl) (by simp) ?_
        refine AllReadyH.cons rfl (fun K hK => ?_) AllReadyH.nil
        go_simp
        (refine (HSH.out).mono ?_)
        rintro e V62 ⟨rfl, bc⟩
        try go_simp
        have O_2 := Lib.hid (O_1.out.keep bc)
        have J_2 := Lib.hid (J_1.out.keep bc)
        clear O_1 J_1
        have hT := O_2.out.s33
        refine hK.out _ _ hT (fun _ => ?_)
        clear hK K hS bc 
        have hS := hT
        clear hT
        try simp only [Act.put, List.setIfInBounds_toArray, List.set_cons_zero, List.set_cons_succ]
        refine wpAnyH_take (i := 8) (v := ?v8z47) rfl (by kernel_rfl) (by kernel_rfl) (by kernel_rfl) (fun _ _ _ h => h) (Or.inl ⟨by rfl, ?hy8z47⟩) (by assumption) ?rest8z47
        case hy8z47 =>
          intro w hSw
          dsimp only [S33] at hSw
          go_simp
          try with_reducible rfl
        simp only [Act.put, List.getElem_toArray, List.getElem_cons_succ, List.getElem_cons_zero, List.setIfInBounds_toArray, List.set_cons_zero, List.set_cons_succ]
        refine wpAnyH_take (i := 9) (v := ?v9z48) rfl (by kernel_rfl) (by kernel_rfl) (by kernel_rfl) (fun _ _ _ h => h) (Or.inl ⟨by rfl, ?hy9z48⟩) (by assumption) ?rest9z48
        case hy9z48 =>
          intro w hSw
          dsimp only [S33] at hSw
          go_simp
          try with_reducible rfl
        simp only [Act.put, List.getElem_toArray, List.getElem_cons_succ, List.getElem_cons_zero, List.setIfInBounds_toArray, List.set_cons_zero, List.set_cons_succ]
        refine wpAnyH_ready (rs := [10]) (by kernel_rfl) (by simp) ?_
        refine AllReadyH.cons rfl (fun K hK => ?_) AllReadyH.nil
        have q0 := J_2.out.r.c0
        have q1 := J_2.out.r.c1
        have g0 := J_2.out.r.fr 0
        have g1 := J_2.out.r.fr 1
        go_simp
        clear q0 q1 g0 g1
        have hT := O_2.out.done (.string rr.1) (.string rr.2.1)
        have R9 := J_2.out.r.set (.string rr.1) (.string rr.2.1)
        have PP : Hid (OpPost (opS fSum s.data.toList t.data.toList s'.data.toList t'.data.toList) w (.returned (.tuple #[.agg #[.string rr.1, .string rr.2.1], .int .i64 rr.2.2])) (two V62 (w.heap.size + 1 + 1) (.string rr.1) (.string rr.2.1))) :=
          ⟨by rw [RS2.out], below_two J_2.out.bel (by omega) _ _⟩
        unfold two at hT R9 PP
        refine hK.out _ _ hT (fun _ => ?_)
        clear hK K hS
        try simp only [Act.put, List.setIfInBounds_toArray, List.set_cons_zero, List.set_cons_succ]
        refine wpAnyH_take (i := 11) (v := ?v11z49) rfl (by kernel_rfl) (by kernel_rfl) (by kernel_rfl) (fun _ _ _ h => h) (Or.inl ⟨by rfl, ?hy11z49⟩) (by assumption) ?rest11z49
        case hy11z49 =>
          intro w hSw
          dsimp only [S33] at hSw
          go_simp
          try with_reducible rfl
        simp only [Act.put, List.getElem_toArray, List.getElem_cons_succ, List.getElem_cons_zero, List.setIfInBounds_toArray, List.set_cons_zero, List.set_cons_succ]
        refine wpAnyH_done (by kernel_rfl) ?_ _
        refine NoPanic.normal ?_
        obtain ⟨r0, r1, _, _⟩ := id R9
        clear hT R9
        go_wp2_with fail
        exact bodyPost_ret (v := .tuple #[.agg #[.string rr.1, .string rr.2.1], .int .i64 rr.2.2]) (by simp [results, Tryz.results10, go_sem, r0, r1]) rfl PP.out
      · have hbq : (f.b == q.b) = false := by rw [beq_eq_false_iff_ne]; exact hb
        have HB := Lib.hid hb
        clear hb
        have HO := Lib.hid (norder_c pa qa pk qk pc qc _ _ W6 P6.out Q6.out)
        by_cases hle : x'.natAbs * y.natAbs ≤ x.natAbs * y'.natAbs
        · have HLE := Lib.hid hle
          obtain ⟨sg, hsg⟩ : ∃ sg, sgn (x.natAbs * y'.natAbs) (x'.natAbs * y.natAbs) = sg := ⟨_, rfl⟩
          have hs0 : 0 ≤ sg := by rw [← hsg]; unfold sgn; split <;> (try split) <;> omega
          rw [hsg] at HO
          clear hsg hle
          go_wp2_with fail
          clear hbq c0 d0
          (with_reducible refine HO.out.mono ?_)
          rintro e w8 ⟨rfl, m, rfl⟩
          have b8 := bel_drewN W6 m
          have O7 := Lib.hid (O6.out.keep b8)
          have J7 := Lib.hid (J6.out.keep b8)
          have D7 := Lib.hid (D6.out.below b8)
          have P7 := Lib.hid (P6.out.below b8)
          have Q7 := Lib.hid (Q6.out.below b8)
          clear O6 J6 D6 P6 Q6 b8 HO
          generalize W6.drewN m = WW at *
          go_wp2_with fail
          clear hs0
          refine wp_region_noPanic ?_
          refine wp_region_held_drew (S := S33 g h f q) (by kernel_rfl) (O7.out.keep (Below.refl _ _).drew).s33 (fun hS => ?_)
          have O_0 := Lib.hid (O7.out.keep (Below.refl _ _).drew)
          have J_0 := Lib.hid (J7.out.keep (Below.refl _ _).drew)
          have D_0 := Lib.hid (D7.out.below (Below.refl _ _).drew)
          have P_0 := Lib.hid (P7.out.below (Below.refl _ _).drew)
          have Q_0 := Lib.hid (Q7.out.below (Below.refl _ _).drew)
          clear O7 J7 D7 P7 Q7
          generalize WW.drew = WD at *
          refine wpAnyH_take (i := 0) (v := ?v0z50) rfl (by kernel_rfl) (by kernel_rfl) (by kernel_rfl) (fun _ _ _ h => h) (Or.inl ⟨by rfl, ?hy0z50⟩) (by assumption) ?rest0z50
          case hy0z50 =>
            intro w hSw
            dsimp only [S33] at hSw
            go_simp
            try with_reducible rfl
          simp only [Act.put, List.getElem_toArray, List.getElem_cons_succ, List.getElem_cons_zero, List.setIfInBounds_toArray, List.set_cons_zero, List.set_cons_succ]
          refine wpAnyH_take (i := 1) (v := ?v1z51) rfl (by kernel_rfl) (by kernel_rfl) (by kernel_rfl) (fun _ _ _ h => h) (Or.inl ⟨by rfl, ?hy1z51⟩) (by assumption) ?rest1z51
          case hy1z51 =>
            intro w hSw
            dsimp only [S33] at hSw
            go_simp
            try with_reducible rfl
          simp only [Act.put, List.getElem_toArray, List.getElem_cons_succ, List.getElem_cons_zero, List.setIfInBounds_toArray, List.set_cons_zero, List.set_cons_succ]
          refine wpAnyH_take (i := 2) (v := ?v2z52) rfl (by kernel_rfl) (by kernel_rfl) (by kernel_rfl) (fun _ _ _ h => h) (Or.inl ⟨by rfl, ?hy2z52⟩) (by assumption) ?rest2z52
          case hy2z52 =>
            intro w hSw
            dsimp only [S33] at hSw
            go_simp
            try with_reducible rfl
          simp only [Act.put, List.getElem_toArray, List.getElem_cons_succ, List.getElem_cons_zero, List.setIfInBounds_toArray, List.set_cons_zero, List.set_cons_succ]
          refine wpAnyH_take (i := 3) (v := ?v3z53) rfl (by kernel_rfl) (by kernel_rfl) (by kernel_rfl) (fun _ _ _ h => h) (Or.inl ⟨by rfl, ?hy3z53⟩) (by assumption) ?rest3z53
          case hy3z53 =>
            intro w hSw
            dsimp only [S33] at hSw
            go_simp
            try with_reducible rfl
          simp only [Act.put, List.getElem_toArray, List.getElem_cons_succ, List.getElem_cons_zero, List.setIfInBounds_toArray, List.set_cons_zero, List.set_cons_succ]
          refine wpAnyH_take (i := 5) (v := ?v5z54) rfl (by kernel_rfl) (by kernel_rfl) (by kernel_rfl) (fun _ _ _ h => h) (Or.inl ⟨by rfl, ?hy5z54⟩) (by assumption) ?rest5z54
          case hy5z54 =>
            intro w hSw
            dsimp only [S33] at hSw
            go_simp
            try with_reducible rfl
          simp only [Act.put, List.getElem_toArray, List.getElem_cons_succ, List.getElem_cons_zero, List.setIfInBounds_toArray, List.set_cons_zero, List.set_cons_succ]
          refine wpAnyH_ready (rs := [4]) (by kernel_rfl) (by simp) ?_
          refine AllReadyH.cons rfl (fun K hK => ?_) AllReadyH.nil
          go_simp
          (refine (nminus_c pa qa pk qk pc qc _ _ _ P_0.out Q_0.out HLE.out (by have := P_0.out.len lp.out; omega)).mono ?_)
          rintro e V63 ⟨na, nk, nc, rfl, hn, bc⟩
          try go_simp
          have O_1 := Lib.hid (O_0.out.keep bc)
          have J_1 := Lib.hid (J_0.out.keep bc)
          have D_1 := Lib.hid (D_0.out.below bc)
          have P_1 := Lib.hid (P_0.out.below bc)
          have Q_1 := Lib.hid (Q_0.out.below bc)
          clear O_0 J_0 D_0 P_0 Q_0
          have N_1 := Lib.hid hn
          have hT := O_1.out.s33
          refine hK.out _ _ hT (fun _ => ?_)
          clear hK K hS bc hn
          have hS := hT
          clear hT
          try simp only [Act.put, List.setIfInBounds_toArray, List.set_cons_zero, List.set_cons_succ]
          refine wpAnyH_take (i := 6) (v := ?v6z55) rfl (by kernel_rfl) (by kernel_rfl) (by kernel_rfl) (fun _ _ _ h => h) (Or.inl ⟨by rfl, ?hy6z55⟩) (by assumption) ?rest6z55
          case hy6z55 =>
            intro w hSw
            dsimp only [S33] at hSw
            go_simp
            try with_reducible rfl
          simp only [Act.put, List.getElem_toArray, List.getElem_cons_succ, List.getElem_cons_zero, List.setIfInBounds_toArray, List.set_cons_zero, List.set_cons_succ]
          have HSH := shut_c f.b na da nk dk nc dc _ _ _ N_1.out D_1.out (Nat.mul_pos V1.out.1 V2.out.1) (by have := N_1.out.len (Nat.lt_of_le_of_lt (Nat.sub_le _ _) lp.out); omega) (by have := D_1.out.len (tp_mul_lt V1.out.2.1 V2.out.2.1); omega) (HE.out _ O_1.out.bel)
          have e1 : zv f.b (x.natAbs * y'.natAbs - x'.natAbs * y.natAbs) = x * y' + x' * y := by rw [zv_diff HB.out HLE.out, zp.out, zq.out]
          have e2 : ((y.natAbs * y'.natAbs : Nat) : Int) = y * y' := by
            have p1 := P1.out
            have p2 := P2.out
            rw [Int.natCast_mul, Int.natAbs_of_nonneg (by omega), Int.natAbs_of_nonneg (by omega)]
          rw [e1, e2] at HSH
          obtain ⟨rr, hrr⟩ : ∃ rr, raR (x * y' + x' * y) (y * y') = rr := ⟨_, rfl⟩
          rw [hrr] at HSH
          have RS2 : Hid (opS fSum s.data.toList t.data.toList s'.data.toList t'.data.toList = rr) := by unfold Hid; rw [← hrr]; exact RS.out
          have HSH := Lib.hid HSH
          clear e1 e2 hrr RS
          refine wpAnyH_ready (rs := [7]) (by kernel_rfl) (by simp) ?_
          refine AllReadyH.cons rfl (fun K hK => ?_) AllReadyH.nil
          go_simp
          (refine (HSH.out).mono ?_)
          rintro e V64 ⟨rfl, bc⟩
          try go_simp
          have O_2 := Lib.hid (O_1.out.keep bc)
          have J_2 := Lib.hid (J_1.out.keep bc)
          clear O_1 J_1
          have hT := O_2.out.s33
          refine hK.out _ _ hT (fun _ => ?_)
          clear hK K hS bc 
          have hS := hT
          clear hT
          try simp only [Act.put, List.setIfInBounds_toArray, List.set_cons_zero, List.set_cons_succ]
          refine wpAnyH_take (i := 8) (v := ?v8z56) rfl (by kernel_rfl) (by kernel_rfl) (by kernel_rfl) (fun _ _ _ h => h) (Or.inl ⟨by rfl, ?hy8z56⟩) (by assumption) ?rest8z56
          case hy8z56 =>
            intro w hSw
            dsimp only [S33] at hSw
            go_simp
            try with_reducible rfl
          simp only [Act.put, List.getElem_toArray, List.getElem_cons_succ, List.getElem_cons_zero, List.setIfInBounds_toArray, List.set_cons_zero, List.set_cons_succ]
          refine wpAnyH_take (i := 9) (v := ?v9z57) rfl (by kernel_rfl) (by kernel_rfl) (by kernel_rfl) (fun _ _ _ h => h) (Or.inl ⟨by rfl, ?hy9z57⟩) (by assumption) ?rest9z57
          case hy9z57 =>
            intro w hSw
            dsimp only [S33] at hSw
            go_simp
            try with_reducible rfl
          simp only [Act.put, List.getElem_toArray, List.getElem_cons_succ, List.getElem_cons_zero, List.setIfInBounds_toArray, List.set_cons_zero, List.set_cons_succ]
          refine wpAnyH_ready (rs := [10]) (by kernel_rfl) (by simp) ?_
          refine AllReadyH.cons rfl (fun K hK => ?_) AllReadyH.nil
          have q0 := J_2.out.r.c0
          have q1 := J_2.out.r.c1
          have g0 := J_2.out.r.fr 0
          have g1 := J_2.out.r.fr 1
          go_simp
          clear q0 q1 g0 g1
          have hT := O_2.out.done (.string rr.1) (.string rr.2.1)
          have R9 := J_2.out.r.set (.string rr.1) (.string rr.2.1)
          have PP : Hid (OpPost (opS fSum s.data.toList t.data.toList s'.data.toList t'.data.toList) w (.returned (.tuple #[.agg #[.string rr.1, .string rr.2.1], .int .i64 rr.2.2])) (two V64 (w.heap.size + 1 + 1) (.string rr.1) (.string rr.2.1))) :=
            ⟨by rw [RS2.out], below_two J_2.out.bel (by omega) _ _⟩
          unfold two at hT R9 PP
          refine hK.out _ _ hT (fun _ => ?_)
          clear hK K hS
          try simp only [Act.put, List.setIfInBounds_toArray, List.set_cons_zero, List.set_cons_succ]
          refine wpAnyH_take (i := 11) (v := ?v11z58) rfl (by kernel_rfl) (by kernel_rfl) (by kernel_rfl) (fun _ _ _ h => h) (Or.inl ⟨by rfl, ?hy11z58⟩) (by assumption) ?rest11z58
          case hy11z58 =>
            intro w hSw
            dsimp only [S33] at hSw
            go_simp
            try with_reducible rfl
          simp only [Act.put, List.getElem_toArray, List.getElem_cons_succ, List.getElem_cons_zero, List.setIfInBounds_toArray, List.set_cons_zero, List.set_cons_succ]
          refine wpAnyH_done (by kernel_rfl) ?_ _
          refine NoPanic.normal ?_
          obtain ⟨r0, r1, _, _⟩ := id R9
          clear hT R9
          go_wp2_with fail
          exact bodyPost_ret (v := .tuple #[.agg #[.string rr.1, .string rr.2.1], .int .i64 rr.2.2]) (by simp [results, Tryz.results10, go_sem, r0, r1]) rfl PP.out
        · have HLE : Hid (x.natAbs * y'.natAbs ≤ x'.natAbs * y.natAbs) := by unfold Hid; omega
          obtain ⟨sg, hsg⟩ : ∃ sg, sgn (x.natAbs * y'.natAbs) (x'.natAbs * y.natAbs) = sg := ⟨_, rfl⟩
          have hs0 : ¬ 0 ≤ sg := by rw [← hsg]; rw [sgn_lt (by omega)]; decide
          rw [hsg] at HO
          clear hsg hle
          go_wp2_with fail
          clear hbq c0 d0
          (with_reducible refine HO.out.mono ?_)
          rintro e w8 ⟨rfl, m, rfl⟩
          have b8 := bel_drewN W6 m
          have O7 := Lib.hid (O6.out.keep b8)
          have J7 := Lib.hid (J6.out.keep b8)
          have D7 := Lib.hid (D6.out.below b8)
          have P7 := Lib.hid (P6.out.below b8)
          have Q7 := Lib.hid (Q6.out.below b8)
          clear O6 J6 D6 P6 Q6 b8 HO
          generalize W6.drewN m = WW at *
          go_wp2_with fail
          clear hs0
          refine wp_region_noPanic ?_
          refine wp_region_held_drew (S := S33 g h f q) (by kernel_rfl) (O7.out.keep (Below.refl _ _).drew).s33 (fun hS => ?_)
          have O_0 := Lib.hid (O7.out.keep (Below.refl _ _).drew)
          have J_0 := Lib.hid (J7.out.keep (Below.refl _ _).drew)
          have D_0 := Lib.hid (D7.out.below (Below.refl _ _).drew)
          have P_0 := Lib.hid (P7.out.below (Below.refl _ _).drew)
          have Q_0 := Lib.hid (Q7.out.below (Below.refl _ _).drew)
          clear O7 J7 D7 P7 Q7
          generalize WW.drew = WD at *
          refine wpAnyH_take (i := 0) (v := ?v0z59) rfl (by kernel_rfl) (by kernel_rfl) (by kernel_rfl) (fun _ _ _ h => h) (Or.inl ⟨by rfl, ?hy0z59⟩) (by assumption) ?rest0z59
          case hy0z59 =>
            intro w hSw
            dsimp only [S33] at hSw
            go_simp
            try with_reducible rfl
          simp only [Act.put, List.getElem_toArray, List.getElem_cons_succ, List.getElem_cons_zero, List.setIfInBounds_toArray, List.set_cons_zero, List.set_cons_succ]
          refine wpAnyH_take (i := 1) (v := ?v1z60) rfl (by kernel_rfl) (by kernel_rfl) (by kernel_rfl) (fun _ _ _ h => h) (Or.inl ⟨by rfl, ?hy1z60⟩) (by assumption) ?rest1z60
          case hy1z60 =>
            intro w hSw
            dsimp only [S33] at hSw
            go_simp
            try with_reducible rfl
          simp only [Act.put, List.getElem_toArray, List.getElem_cons_succ, List.getElem_cons_zero, List.setIfInBounds_toArray, List.set_cons_zero, List.set_cons_succ]
          refine wpAnyH_take (i := 2) (v := ?v2z61) rfl (by kernel_rfl) (by kernel_rfl) (by kernel_rfl) (fun _ _ _ h => h) (Or.inl ⟨by rfl, ?hy2z61⟩) (by assumption) ?rest2z61
          case hy2z61 =>
            intro w hSw
            dsimp only [S33] at hSw
            go_simp
            try with_reducible rfl
          simp only [Act.put, List.getElem_toArray, List.getElem_cons_succ, List.getElem_cons_zero, List.setIfInBounds_toArray, List.set_cons_zero, List.set_cons_succ]
          refine wpAnyH_take (i := 3) (v := ?v3z62) rfl (by kernel_rfl) (by kernel_rfl) (by kernel_rfl) (fun _ _ _ h => h) (Or.inl ⟨by rfl, ?hy3z62⟩) (by assumption) ?rest3z62
          case hy3z62 =>
            intro w hSw
            dsimp only [S33] at hSw
            go_simp
            try with_reducible rfl
          simp only [Act.put, List.getElem_toArray, List.getElem_cons_succ, List.getElem_cons_zero, List.setIfInBounds_toArray, List.set_cons_zero, List.set_cons_succ]
          refine wpAnyH_take (i := 5) (v := ?v5z63) rfl (by kernel_rfl) (by kernel_rfl) (by kernel_rfl) (fun _ _ _ h => h) (Or.inl ⟨by rfl, ?hy5z63⟩) (by assumption) ?rest5z63
          case hy5z63 =>
            intro w hSw
            dsimp only [S33] at hSw
            go_simp
            try with_reducible rfl
          simp only [Act.put, List.getElem_toArray, List.getElem_cons_succ, List.getElem_cons_zero, List.setIfInBounds_toArray, List.set_cons_zero, List.set_cons_succ]
          refine wpAnyH_ready (rs := [4]) (by kernel_rfl) (by simp) ?_
          refine AllReadyH.cons rfl (fun K hK => ?_) AllReadyH.nil
          go_simp
          (refine (nminus_c qa pa qk pk qc pc _ _ _ Q_0.out P_0.out HLE.out (by have := Q_0.out.len lq.out; omega)).mono ?_)
          rintro e V65 ⟨na, nk, nc, rfl, hn, bc⟩
          try go_simp
          have O_1 := Lib.hid (O_0.out.keep bc)
          have J_1 := Lib.hid (J_0.out.keep bc)
          have D_1 := Lib.hid (D_0.out.below bc)
          have P_1 := Lib.hid (P_0.out.below bc)
          have Q_1 := Lib.hid (Q_0.out.below bc)
          clear O_0 J_0 D_0 P_0 Q_0
          have N_1 := Lib.hid hn
          have hT := O_1.out.s33
          refine hK.out _ _ hT (fun _ => ?_)
          clear hK K hS bc hn
          have hS := hT
          clear hT
          try simp only [Act.put, List.setIfInBounds_toArray, List.set_cons_zero, List.set_cons_succ]
          refine wpAnyH_take (i := 6) (v := ?v6z64) rfl (by kernel_rfl) (by kernel_rfl) (by kernel_rfl) (fun _ _ _ h => h) (Or.inl ⟨by rfl, ?hy6z64⟩) (by assumption) ?rest6z64
          case hy6z64 =>
            intro w hSw
            dsimp only [S33] at hSw
            go_simp
            try with_reducible rfl
          simp only [Act.put, List.getElem_toArray, List.getElem_cons_succ, List.getElem_cons_zero, List.setIfInBounds_toArray, List.set_cons_zero, List.set_cons_succ]
          have HSH := shut_c q.b na da nk dk nc dc _ _ _ N_1.out D_1.out (Nat.mul_pos V1.out.1 V2.out.1) (by have := N_1.out.len (Nat.lt_of_le_of_lt (Nat.sub_le _ _) lq.out); omega) (by have := D_1.out.len (tp_mul_lt V1.out.2.1 V2.out.2.1); omega) (HE.out _ O_1.out.bel)
          have e1 : zv q.b (x'.natAbs * y.natAbs - x.natAbs * y'.natAbs) = x * y' + x' * y := by rw [zv_diff (Ne.symm HB.out) HLE.out, zp.out, zq.out, Int.add_comm]
          have e2 : ((y.natAbs * y'.natAbs : Nat) : Int) = y * y' := by
            have p1 := P1.out
            have p2 := P2.out
            rw [Int.natCast_mul, Int.natAbs_of_nonneg (by omega), Int.natAbs_of_nonneg (by omega)]
          rw [e1, e2] at HSH
          obtain ⟨rr, hrr⟩ : ∃ rr, raR (x * y' + x' * y) (y * y') = rr := ⟨_, rfl⟩
          rw [hrr] at HSH
          have RS2 : Hid (opS fSum s.data.toList t.data.toList s'.data.toList t'.data.toList = rr) := by unfold Hid; rw [← hrr]; exact RS.out
          have HSH := Lib.hid HSH
          clear e1 e2 hrr RS
          refine wpAnyH_ready (rs := [7]) (by kernel_rfl) (by simp) ?_
          refine AllReadyH.cons rfl (fun K hK => ?_) AllReadyH.nil
          go_simp
          (refine (HSH.out).mono ?_)
          rintro e V66 ⟨rfl, bc⟩
          try go_simp
          have O_2 := Lib.hid (O_1.out.keep bc)
          have J_2 := Lib.hid (J_1.out.keep bc)
          clear O_1 J_1
          have hT := O_2.out.s33
          refine hK.out _ _ hT (fun _ => ?_)
          clear hK K hS bc 
          have hS := hT
          clear hT
          try simp only [Act.put, List.setIfInBounds_toArray, List.set_cons_zero, List.set_cons_succ]
          refine wpAnyH_take (i := 8) (v := ?v8z65) rfl (by kernel_rfl) (by kernel_rfl) (by kernel_rfl) (fun _ _ _ h => h) (Or.inl ⟨by rfl, ?hy8z65⟩) (by assumption) ?rest8z65
          case hy8z65 =>
            intro w hSw
            dsimp only [S33] at hSw
            go_simp
            try with_reducible rfl
          simp only [Act.put, List.getElem_toArray, List.getElem_cons_succ, List.getElem_cons_zero, List.setIfInBounds_toArray, List.set_cons_zero, List.set_cons_succ]
          refine wpAnyH_take (i := 9) (v := ?v9z66) rfl (by kernel_rfl) (by kernel_rfl) (by kernel_rfl) (fun _ _ _ h => h) (Or.inl ⟨by rfl, ?hy9z66⟩) (by assumption) ?rest9z66
          case hy9z66 =>
            intro w hSw
            dsimp only [S33] at hSw
            go_simp
            try with_reducible rfl
          simp only [Act.put, List.getElem_toArray, List.getElem_cons_succ, List.getElem_cons_zero, List.setIfInBounds_toArray, List.set_cons_zero, List.set_cons_succ]
          refine wpAnyH_ready (rs := [10]) (by kernel_rfl) (by simp) ?_
          refine AllReadyH.cons rfl (fun K hK => ?_) AllReadyH.nil
          have q0 := J_2.out.r.c0
          have q1 := J_2.out.r.c1
          have g0 := J_2.out.r.fr 0
          have g1 := J_2.out.r.fr 1
          go_simp
          clear q0 q1 g0 g1
          have hT := O_2.out.done (.string rr.1) (.string rr.2.1)
          have R9 := J_2.out.r.set (.string rr.1) (.string rr.2.1)
          have PP : Hid (OpPost (opS fSum s.data.toList t.data.toList s'.data.toList t'.data.toList) w (.returned (.tuple #[.agg #[.string rr.1, .string rr.2.1], .int .i64 rr.2.2])) (two V66 (w.heap.size + 1 + 1) (.string rr.1) (.string rr.2.1))) :=
            ⟨by rw [RS2.out], below_two J_2.out.bel (by omega) _ _⟩
          unfold two at hT R9 PP
          refine hK.out _ _ hT (fun _ => ?_)
          clear hK K hS
          try simp only [Act.put, List.setIfInBounds_toArray, List.set_cons_zero, List.set_cons_succ]
          refine wpAnyH_take (i := 11) (v := ?v11z67) rfl (by kernel_rfl) (by kernel_rfl) (by kernel_rfl) (fun _ _ _ h => h) (Or.inl ⟨by rfl, ?hy11z67⟩) (by assumption) ?rest11z67
          case hy11z67 =>
            intro w hSw
            dsimp only [S33] at hSw
            go_simp
            try with_reducible rfl
          simp only [Act.put, List.getElem_toArray, List.getElem_cons_succ, List.getElem_cons_zero, List.setIfInBounds_toArray, List.set_cons_zero, List.set_cons_succ]
          refine wpAnyH_done (by kernel_rfl) ?_ _
          refine NoPanic.normal ?_
          obtain ⟨r0, r1, _, _⟩ := id R9
          clear hT R9
          go_wp2_with fail
          exact bodyPost_ret (v := .tuple #[.agg #[.string rr.1, .string rr.2.1], .int .i64 rr.2.2]) (by simp [results, Tryz.results10, go_sem, r0, r1]) rfl PP.out
  · have hne : (flt == 0) = false := by rw [beq_eq_false_iff_ne]; exact hz
    have hne2 : (flt != 0) = true := by simp [hz]
    have RS2 : Hid (opS fSum s.data.toList t.data.toList s'.data.toList t'.data.toList = (⟨#[]⟩, ⟨#[]⟩, flt)) := by unfold Hid; rw [← HF.out]; exact bk_opS (by rw [HF.out]; exact hz)
    clear hz HF
    obtain ⟨W9, hW9⟩ : ∃ W9, two w1 (w.heap.size + 1 + 1) (.string ⟨#[]⟩) (.string ⟨#[]⟩) = W9 := ⟨_, rfl⟩
    have R9 : B2 W9 (w.heap.size + 1 + 1) (.string ⟨#[]⟩) (.string ⟨#[]⟩) := by rw [← hW9]; exact J1.out.r.set _ _
    have PP : Hid (OpPost (opS fSum s.data.toList t.data.toList s'.data.toList t'.data.toList) w (.returned (.tuple #[.agg #[.string ⟨#[]⟩, .string ⟨#[]⟩], .int .i64 flt])) W9) := by
      rw [← hW9]
      exact ⟨by rw [RS2.out], below_two J1.out.bel (by omega) _ _⟩
    have c0 := J1.out.r.c0
    have c1 := J1.out.r.c1
    have cf0 := J1.out.r.fr 0
    have cf1 := J1.out.r.fr 1
    obtain ⟨r0, r1, _, _⟩ := id R9
    unfold two at hW9
    clear R9
    go_wp2_with fail
    exact bodyPost_ret (v := .tuple #[.agg #[.string ⟨#[]⟩, .string ⟨#[]⟩], .int .i64 flt]) (by simp [results, Tryz.results10, go_sem, r0, r1]) rfl PP.out
end Go.Proofs.YtfijhkaalpinhaaGreatDoor
