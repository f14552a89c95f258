/-
  Package code: the path of a code.
-/
import Derived.Test.YthdmodmplpoejaaDoorCdRlin
namespace Go.Proofs.YthdmodmplpoejaaDoor
open Go.RowKit Go.WideMaps Go.Maps

theorem pth_succ (p : Nat → Nat) (c n : Nat) : pth p c (n + 1) = pth p c n ++ [((it p n c : Nat) : Int)] := by
  unfold pth
  rw [List.range_succ, List.map_append]
  rfl
theorem own_low {w : World} {B B' : Nat} {e : TypeId} {size : Nat} {v : Value} {n : Nat} {xs : List Value} (h : w.ownsRow B e size v n xs) (hb : B' ≤ B) : w.ownsRow B' e size v n xs :=
  ⟨h.1, h.2.imp id (fun ⟨g, cap, cur, e1, e2, e3⟩ => ⟨g, cap, cur, e1, Nat.le_trans hb e2, e3⟩)⟩
def PaP (p : Nat → Nat) (c n : Nat) (w : World) (e : Ending) (w' : World) : Prop :=
  ∃ v, e = .returned v ∧ w'.ownsRow w.heap.size 3 1 v n ((pth p c n).map (Value.int .i64)) ∧ Below w.heap.size w w'
set_option maxRecDepth 100000 in
set_option maxHeartbeats 2000000 in
theorem path_c (bp bl : Nat) (p lv : Nat → Nat) (H : Nat → Prop) (T : Tree p lv H) (c : Nat) (w : World) (hp : Arr w bp p) (hc : In H c) (h9 : ∀ c, H c → c ≤ 999) (h8 : lv c ≤ 8) :
    Calls Tryd.prog 42 #[fv bp bl, .int .i64 (c : Nat)] w (PaP p c (lv c) w) := by
  obtain ⟨i0, hi, hz0, hz1, hz2⟩ := info_parts infoI
  obtain ⟨W1, hW1⟩ : ∃ W1, w.alloc (.cells #[row bp, row bl] 71) = W1 := ⟨_, rfl⟩
  have B1 : Hid (BoxF w W1 bp bl) := by unfold Hid; rw [← hW1]; exact box_f w bp bl
  have HP := Lib.hid (hp.below B1.out.1)
  have HT : Hid (Tree p lv H ∧ ∀ c, In H c → c < 1000) := ⟨T, fun c h => by rcases h with rfl | h; omega; have := h9 c h; omega⟩
  have HC := Lib.hid hc
  have v0 := B1.out.2.2.1
  have v1 := B1.out.2.2.2
  have SZ := Lib.hid B1.out.2.1
  clear hp T hc h9
  go_enter Tryd.func42, Tryd.ntmps42
  go_wp2
  go_loopw [1, 5] (fun cv v wr => ∃ k : Nat, k ≤ lv c ∧ cv = .int .i64 ((it p k c : Nat) : Int) ∧ Hid (wr.ownsRow W1.heap.size 3 1 v k ((pth p c k).map (Value.int .i64)) ∧ Below W1.heap.size W1 wr)) (fun _ v _ => lv c - (match v with | .slice _ n _ => n | _ => 0))
  case atStart => exact ⟨0, Nat.zero_le _, rfl, World.ownsRow_nil _ _ _ _, Below.refl _ _⟩
  case round =>
    obtain ⟨k, hk, rfl, hS⟩ := hrel
    have hin := HT.out.1.inIt (k := k) HC.out
    have hlv := HT.out.1.lvIt (k := k) HC.out
    have hz := HT.out.1.lv0 hin
    have hlt := HT.out.2 _ hin
    have hpn : p (it p k c) = it p (k + 1) c := (it_succ (p := p)).symm
    have PS := Lib.hid (pth_succ p c k)
    obtain ⟨d, hd⟩ : ∃ d, it p k c = d := ⟨_, rfl⟩
    rw [hd] at hin hlv hz hlt hpn ⊢
    have PS' : Hid (pth p c (k + 1) = pth p c k ++ [((d : Nat) : Int)]) := by unfold Hid; rw [PS.out, hd]
    clear PS hd
    have hmv : ∃ a n cc, u5 = .slice a n cc ∧ n = k := by
      rcases hS.out.1.2 with ⟨rfl, h⟩ | ⟨g, cap, cur, rfl, _⟩
      · exact ⟨none, 0, 0, rfl, h.symm⟩
      · exact ⟨_, _, _, rfl, rfl⟩
    by_cases h0 : d = 0
    · have e : k = lv c := by have := hz.2 h0; omega
      have R : Hid (PaP p c (lv c) w (.returned u5) wr) := by
        have h := hS.out.1
        rw [e] at h
        exact ⟨u5, rfl, own_low h (by have := SZ.out; omega), B1.out.1.trans (hS.out.2.mono B1.out.1.size)⟩
      subst h0
      clear hS hmv hz hlv hin hpn e
      go_wp2
      go_ret
      exact R.out
    · have hd0 : ((d : Int) == 0) = false := by rw [beq_eq_false_iff_ne]; omega
      have hd1 : ((d : Int) != 0) = true := by rw [bne, hd0]; rfl
      have hk1 : k + 1 ≤ lv c := by
        have : lv d ≠ 0 := fun h => h0 (hz.1 h)
        omega
      have hdb : (d : Int) < 1000 := by omega
      obtain ⟨av, nv, cv, rfl, rfl⟩ := hmv
      have hown := hS.out.1
      have hbel := Lib.hid hS.out.2
      clear h0 hz hlv hin
      go_wp2_with (at_builtin; refine wpList_append_own _ rfl _ _ 27 rfl W1.heap.size 3 i0 (.int .i64 0) 1 8 Tryd.underlying27 hi hz0 hz1 hz2 rfl (by decide) _ _ _ rfl (hown.alloc _) ⟨wr.heap.size, 0, none⟩ 1 1 [.int .i64 (d : Nat)] rfl rfl (cell_one_new _ _ _) (ints_oneCell .i64 [((d : Nat) : Int)]) ?c3 ?c4 ?c5 ?_)
      case c3 => unfold maxLen; omega
      case c4 => omega
      case c5 => have := hbel.out.size; simp; omega
      intro v' w4 hown' hgrow _
      have B4 : Hid (Below W1.heap.size W1 w4) := by
        have hs := hbel.out.size
        exact (hbel.out.trans ((bel_one wr _).mono hs)).grown hgrow (by simp; omega) (fun g hg => (hown.lt g hg).1)
      have NX : Hid (w4.ownsRow W1.heap.size 3 1 v' (nv + 1) ((pth p c (nv + 1)).map (Value.int .i64)) ∧ Below W1.heap.size W1 w4) := by
        refine ⟨?_, B4.out⟩
        rw [PS'.out, List.map_append]; exact hown'
      obtain ⟨av', cv', rfl⟩ : ∃ a c, v' = .slice a (nv + 1) c := by
        rcases NX.out.1.2 with ⟨_, h⟩ | ⟨g, cap, cur, rfl, _⟩
        · omega
        · exact ⟨_, _, rfl⟩
      have x0 : w4.cell? ⟨w.heap.size, 0, none⟩ = some (row bp) := (B4.out.cell (p := ⟨w.heap.size, 0, none⟩) (by have := SZ.out; show w.heap.size < W1.heap.size; omega)).trans v0
      have y0 : w4.cell? ⟨bp, d, none⟩ = some (.int .i64 ((it p (nv + 1) c : Nat) : Int)) := by rw [← hpn]; exact (HP.out.below B4.out).2 d hlt
      clear hown' hgrow hown hS hbel hpn
      go_wp2
      go_roundw
      case rel => exact ⟨nv + 1, hk1, rfl, NX.out⟩
      case measure => simp; omega
end Go.Proofs.YthdmodmplpoejaaDoor
