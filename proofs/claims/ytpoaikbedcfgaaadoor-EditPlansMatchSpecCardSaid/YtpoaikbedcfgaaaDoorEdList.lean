/-
  EditPlansMatchSpec: rows of numbers as texts, the reference.
-/
import Derived.Test.YtpoaikbedcfgaaaDoorEdTxt
import Derived.Deep.OwnRows
import Derived.Laws.OwnMore
import Derived.Maps.AppendAt
namespace Go.Proofs.YtpoaikbedcfgaaaDoor
open Go.RowKit Go.WideMaps Go.Maps

theorem own_keep {W W' : World} {base : Nat} {e : TypeId} {size : Nat} {v : Value} {n : Nat} {xs : List Value} (h : W.ownsRow base e size v n xs) (hb : Below W.heap.size W W') : W'.ownsRow base e size v n xs := by
  refine h.kept (below_grow hb) ?_
  cases v.ownBlock with
  | none => exact .inl rfl
  | some _ => exact .inr (by simp)
/-- The row of some texts. -/
def tr (xs : List (List UInt8)) (k : Nat) : List Value := (xs.take k).map (fun t => Value.string (bs t))
theorem tr_succ (xs : List (List UInt8)) {k : Nat} (h : k < xs.length) : tr xs (k + 1) = tr xs k ++ [.string (bs (xs.getD k []))] := by
  have e : xs.getD k [] = xs[k] := by simp [List.getD, List.getElem?_eq_getElem h]
  unfold tr
  rw [e, List.take_add_one, List.getElem?_eq_getElem h, List.map_append]
  rfl
theorem itoa_at (l : List Int) {k : Nat} (h : k < l.length) : (l.map Lib.itoa).getD k [] = Lib.itoa (fn l k) := by
  unfold fn
  simp [List.getD, List.getElem?_eq_getElem h]
set_option maxHeartbeats 2000000 in
theorem list_c (a : Option Addr) (c : Nat) (l : List Int) (w : World) (hl : Rd w a l) (hC : Cod l) (hE : Pow w) :
    Calls Tryd.prog 14 #[.slice a l.length c] w (TP (cT l) w) := by
  obtain ⟨i0, hi, hz0, hz1, hz2⟩ := info_parts infoS
  have hle := hC.le
  have hJ := Lib.hid (fun (w1 : World) (g c : Nat) (hc : l.length ≤ c) hrow => join_c g l.length c (l.map Lib.itoa) w1 (by simp) hC.each (by omega) hc hrow)
  have hS : Hid ((cT l).length ≤ 10000000) := by have := hC.size; unfold Hid; omega
  have HE := Lib.hid hE
  have HX := Lib.hid hC.num
  have H := Lib.hid hl
  have HP := Lib.hid hC.pos
  clear hl hE hC
  go_enter Tryd.func14, Tryd.ntmps14
  go_wp2
  go_loopw [3, 8] (fun o i wr => ∃ k : Nat, k ≤ l.length ∧ i = .int .i64 k ∧ Hid (wr.ownsRow w.heap.size 9 1 o k (tr (l.map Lib.itoa) k) ∧ Below w.heap.size w wr)) (fun _ i _ => l.length - (intOf i).toNat)
  case atStart => exact ⟨0, Nat.zero_le _, rfl, World.ownsRow_nil _ _ _ _, Below.refl _ _⟩
  case round =>
    obtain ⟨k, hk, rfl, hR⟩ := hrel
    by_cases hlt : k < l.length
    · obtain ⟨b, off, rfl, c1⟩ := (H.out.below hR.out.2).at_ hlt
      have hlt' : (k : Int) < (l.length : Int) := by omega
      obtain ⟨x1, x2⟩ := HX.out k hlt
      have HN : Hid (tr (l.map Lib.itoa) (k + 1) = tr (l.map Lib.itoa) k ++ [.string (bs (Lib.itoa (fn l k)))]) := by
        unfold Hid; rw [tr_succ _ (by simpa using hlt), itoa_at l hlt]
      obtain ⟨x, hxx⟩ : ∃ x, x = fn l k := ⟨_, rfl⟩
      rw [← hxx] at c1 x1 x2 HN
      clear hxx
      go_wp2_with fail
      refine (itoa_c x wr (HE.out.below hR.out.2) (by omega) (by omega)).mono ?_
      rintro e w3 ⟨t, rfl, hs, ht, HB⟩
      have hO := Lib.hid (own_keep hR.out.1 HB.out)
      have hBB := Lib.hid (hR.out.2.trans (HB.out.mono hR.out.2.size))
      go_wp2_with (at_builtin; refine wpList_append_own _ rfl _ _ 50 rfl w.heap.size 9 i0 (.string ByteArray.empty) 1 16 Tryd.underlying50 hi hz0 hz1 hz2 rfl (by decide) _ _ _ rfl (hO.out.alloc _) ⟨w3.heap.size, 0, none⟩ 1 1 [.string t] rfl rfl (cell_one_new _ _ _) ?c2 ?c3 ?c4 ?c5 ?_)
      case c2 => intro u hu; simp at hu; subst hu; rfl
      case c3 => unfold maxLen; omega
      case c4 => omega
      case c5 => have := hBB.out.size; simp; omega
      intro v' w4 hown' hgrow _
      have NX : Hid (w4.ownsRow w.heap.size 9 1 v' (k + 1) (tr (l.map Lib.itoa) (k + 1)) ∧ Below w.heap.size w w4) := by
        refine ⟨by rw [HN.out, ← ht.out]; exact hown', ?_⟩
        have hs := hBB.out.size
        exact (hBB.out.trans ((bel_one w3 _).mono hs)).grown hgrow (by simp; omega) (fun g hg => (hO.out.lt g hg).1)
      clear hown' hgrow hO hR
      go_wp2
      go_roundw
      case rel => exact ⟨k + 1, by omega, by go_num, NX.out⟩
      case measure => simp [intOf]; omega
    · obtain rfl : k = l.length := by omega
      clear hlt
      have hp := HP.out
      obtain ⟨g, cap, e, hcap⟩ : ∃ g cap, u3 = .slice (some ⟨g, 0, none⟩) l.length cap ∧ l.length ≤ cap := by
        obtain ⟨_, h | ⟨g, cap, cur, e, _, _, hnc, _⟩⟩ := hR.out.1
        · omega
        · exact ⟨g, cap, e, hnc⟩
      subst e
      clear hp
      go_wp2_with fail
      refine (hJ.out _ g cap hcap (fun j hj => by
        have := hR.out.1.cellAt j (by omega)
        rw [this]
        unfold tr
        simp [hj])).mono ?_
      rintro e w3 ⟨t, rfl, ht1, ht, HB2⟩
      have hB := Lib.hid hR.out.2; clear hR
      go_wp2
      go_ret
      exact tp_ret ht.out hS.out (hB.out.trans (HB2.out.mono hB.out.size))
end Go.Proofs.YtpoaikbedcfgaaaDoor
