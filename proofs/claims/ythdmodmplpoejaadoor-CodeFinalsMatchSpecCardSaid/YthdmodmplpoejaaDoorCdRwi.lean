/-
  The reference of package code: known, Within.
-/
import Derived.Test.YthdmodmplpoejaaDoorCdFns
import Derived.Test.YthdmodmplpoejaaDoorCdRlin
namespace Go.Proofs.YthdmodmplpoejaaDoor
open Go.RowKit Go.WideMaps Go.Maps

set_option maxRecDepth 100000 in
set_option maxHeartbeats 2000000 in
theorem rknown_c (a : Option Addr) (ca : Nat) (l : List Nd) (g c : Nat) (w : World) (hl : RdN w a l) (hf : Fits l) (hz : frS l = 0) (hc : Has l c) (hg : w.cell? ⟨g, 0, none⟩ = some (.int .i64 (c : Nat))) (hgl : g < w.heap.size) :
    Calls Tryd.prog 43 #[.slice a l.length ca, .slice (some ⟨g, 0, none⟩) 1 1] w (IntP 0 w) := by
  have HK := Lib.hid (rCheckFrame_c a ca l w hl hf)
  rw [hz] at HK
  have HF := Lib.hid (fun W (hb : Below w.heap.size w W) => rfind_c a ca l (c : Int) W (hl.below hb))
  have HC := Lib.hid hc
  clear hl hf hz hc
  go_enter Tryd.func43, Tryd.ntmps43
  go_wp2_with fail
  (with_reducible refine HK.out.mono ?_)
  rintro e w1 ⟨rfl, b1⟩
  have B1 := Lib.hid b1
  clear b1
  go_wp2_with fail
  go_loopw [15] (fun i wr => ∃ k : Nat, k ≤ 1 ∧ i = .int .i64 k ∧ Hid (Below w.heap.size w wr)) (fun i _ => 1 - (intOf i).toNat)
  case atStart => exact ⟨0, Nat.zero_le _, rfl, B1.out⟩
  case round =>
    obtain ⟨k, hk, rfl, hS⟩ := hrel
    by_cases hlt : k < 1
    · obtain rfl : k = 0 := by omega
      have u0 : wr.cell? ⟨g, 0, none⟩ = some (.int .i64 (c : Nat)) := (hS.out.cell (p := ⟨g, 0, none⟩) hgl).trans hg
      have K := Lib.hid (HF.out wr hS.out)
      clear hlt
      go_wp2_with fail
      (with_reducible refine K.out.mono ?_)
      rintro e w2 ⟨⟨r, rfl, hr⟩, b2⟩
      obtain ⟨j, hj, rfl, _⟩ := fnd_at hr HC.out
      have B2 := Lib.hid (hS.out.trans (b2.mono hS.out.size))
      have hj0 : ¬ (j : Int) < 0 := by omega
      clear b2 hr hS u0
      go_wp2
      go_roundw
      case rel => exact ⟨1, Nat.le_refl _, by go_num, B2.out⟩
      case measure => simp [intOf]
    · obtain rfl : k = 1 := by omega
      clear hlt
      go_wp2
      go_ret
      exact ⟨rfl, hS.out⟩
/-- The node is below the code, or the code itself. -/
def wiP (l : List Nd) (s : Int) (j : Nat) : Bool := decide (s ∈ pth (par l) (nd l j).cd.toNat (lev l (nd l j).cd.toNat))
theorem cvd_is (l : List Nd) (s : Int) : cvd l s = cn (wiP l s) l.length := rfl
theorem pth_has (p : Nat → Nat) (c n : Nat) (s : Int) : (pth p c n).contains s = decide (s ∈ pth p c n) := by simp
def WiP (n : Nat) (w : World) (e : Ending) (w' : World) : Prop := ∃ a c, e = .returned (.tuple #[.slice a n c, .int .i64 0]) ∧ Below w.heap.size w w'
structure InW (w wr : World) (v : Value) (n : Nat) : Prop where
  own : ∃ zs : List Int, zs.length = n ∧ wr.ownsRow w.heap.size 3 1 v n (zs.map (Value.int .i64))
  bel : Below w.heap.size w wr
theorem InW.keep {w wr W : World} {v : Value} {n : Nat} (h : InW w wr v n) (hb : Below wr.heap.size wr W) : InW w W v n := by
  obtain ⟨zs, h1, h2⟩ := h.own
  exact ⟨⟨zs, h1, own_keep h2 hb⟩, h.bel.trans (hb.mono h.bel.size)⟩
set_option maxRecDepth 100000 in
set_option maxHeartbeats 4000000 in
theorem rWithin_c (a : Option Addr) (ca : Nat) (l : List Nd) (c : Nat) (w : World) (hl : RdN w a l) (hf : Fits l) (hz : frS l = 0) (hc : Has l c) :
    Calls Tryd.prog 16 #[.slice a l.length ca, .int .i64 (c : Nat)] w (WiP (cvd l (c : Nat)) w) := by
  obtain ⟨i0, hi, hz0, hz1, hz2⟩ := info_parts infoI
  have F := fr_of hz
  have HF := Lib.hid F
  have h9 := hl.1
  have h6 : l.length ≤ 600 := F.le
  have HL := Lib.hid hl
  have HK : Hid (∀ W g, Below w.heap.size w W → W.cell? ⟨g, 0, none⟩ = some (.int .i64 (c : Nat)) → g < W.heap.size → Calls Tryd.prog 43 #[.slice a l.length ca, .slice (some ⟨g, 0, none⟩) 1 1] W (IntP 0 W)) := fun W g hb h1 h2 => rknown_c a ca l g c W (hl.below hb) hf hz hc h1 h2
  have HLN : Hid (∀ W (d : Nat), Below w.heap.size w W → Has l d → Calls Tryd.prog 44 #[.slice a l.length ca, .int .i64 (d : Nat)] W (LnP l d W)) := fun W d hb hd => rlineage_c a ca l d W (hl.below hb) F hd
  clear hl hf hz hc F
  obtain ⟨W1, hW1⟩ : ∃ W1, w.alloc (.cells #[.int .i64 (c : Nat)] 3) = W1 := ⟨_, rfl⟩
  have B1 : Hid (Below w.heap.size w W1) := by rw [← hW1]; exact bel_one _ _
  have K1 := Lib.hid (HK.out W1 w.heap.size B1.out (by rw [← hW1, World.cell?_alloc_at _ _ _ _ rfl]; rfl) (by rw [← hW1]; simp))
  clear HK
  go_enter Tryd.func16, Tryd.ntmps16
  go_wp2_with fail
  (with_reducible refine K1.out.mono ?_)
  rintro e W2 ⟨rfl, b2⟩
  have B2 := Lib.hid (B1.out.trans (b2.mono B1.out.size))
  clear b2 K1
  go_wp2_with fail
  go_loopw [7, 19] (fun v i wr => ∃ k : Nat, k ≤ l.length ∧ i = .int .i64 k ∧ Hid (InW w wr v (cn (wiP l (c : Nat)) k))) (fun _ i _ => l.length - (intOf i).toNat)
  case atStart => exact ⟨0, Nat.zero_le _, rfl, ⟨[], rfl, World.ownsRow_nil _ _ _ _⟩, B2.out⟩
  case round =>
    obtain ⟨k, hk, rfl, hS⟩ := hrel
    by_cases hlt : k < l.length
    · obtain ⟨b', off, rfl, u0, u1, u2⟩ := (HL.out.below hS.out.bel).at_ hlt
      have hlt' : (k : Int) < (l.length : Int) := by omega
      have hrg := HF.out.ord.rng k hlt
      obtain ⟨d, hd⟩ : ∃ d : Nat, (nd l k).cd = (d : Int) := ⟨(nd l k).cd.toNat, by omega⟩
      have hh : Has l d := ⟨k, hlt, hd⟩
      have hv := HF.out.lev hh
      obtain ⟨W3, hW3⟩ : ∃ W3, wr.alloc (.cells #[.int .i64 (nd l k).cd, .int .i64 (nd l k).pr, .string (nd l k).ti] 56) = W3 := ⟨_, rfl⟩
      have N3 : Hid (NodeB wr W3 (nd l k)) := by unfold Hid; rw [← hW3]; exact node_b _ _
      have v0 := N3.out.2.2.1
      have S3 := Lib.hid (hS.out.keep N3.out.1)
      have KL := Lib.hid (HLN.out W3 d S3.out.bel hh)
      have WP : Hid (wiP l (c : Nat) k = (pth (par l) d (lev l d)).contains (c : Int)) := by
        unfold Hid wiP; rw [hd, Int.toNat_natCast, pth_has]
      have CNX : Hid (cn (wiP l (c : Nat)) (k + 1) = cn (wiP l (c : Nat)) k + if wiP l (c : Nat) k = true then 1 else 0) := rfl
      have CLE := Lib.hid (cn_le (wiP l (c : Nat)) k)
      have L8 : Hid (lev l d ≤ 8) := hv.2.2.1
      rw [hd] at hW3 v0 u0
      have hs3 : Hid (wr.heap.size < W3.heap.size) := by have := N3.out.2.1; unfold Hid; omega
      clear N3 hS hv hh hrg
      go_wp2_with fail
      (with_reducible refine KL.out.mono ?_)
      rintro e W4 ⟨av, cv, rfl, hr, b4, _⟩
      have KC := Lib.hid (contains_c av cv (pth (par l) d (lev l d)) (c : Int) W4 hr)
      rw [pth_len] at KC
      have S4 := Lib.hid (S3.out.keep b4)
      have v4 := (b4.cell (p := ⟨wr.heap.size, 0, none⟩) hs3.out).trans v0
      clear KL hr b4 u0 u1 u2 hW3
      go_wp2_with fail
      (with_reducible refine KC.out.mono ?_)
      rintro e W5 ⟨rfl, rfl⟩
      rw [← WP.out]
      clear KC
      by_cases hw : wiP l (c : Nat) k = true
      · rw [hw]
        have CN : Hid (cn (wiP l (c : Nat)) (k + 1) = cn (wiP l (c : Nat)) k + 1) := by unfold Hid; rw [CNX.out, if_pos hw]
        obtain ⟨m, hm⟩ : ∃ m, cn (wiP l (c : Nat)) k = m := ⟨_, rfl⟩
        rw [hm] at S4 CLE CN
        obtain ⟨zs, hzl, hown⟩ := S4.out.own
        have CL9 := CLE.out
        clear hw CNX WP hm
        go_wp2_with (at_builtin; refine wpList_append_own _ rfl _ _ 27 rfl w.heap.size 3 i0 (.int .i64 0) 1 8 Tryd.underlying27 hi hz0 hz1 hz2 rfl (by decide) _ _ _ rfl (hown.alloc _) ⟨W5.heap.size, 0, none⟩ 1 1 [.int .i64 (d : Nat)] rfl rfl (cell_one_new _ _ _) (ints_oneCell .i64 [((d : Nat) : Int)]) ?c3 ?c4 ?c5 ?_)
        case c3 => unfold maxLen; omega
        case c4 => omega
        case c5 => have := S4.out.bel.size; simp; omega
        intro v' w4 hown' hgrow _
        have NX : Hid (InW w w4 v' (cn (wiP l (c : Nat)) (k + 1))) := by
          rw [CN.out]
          refine ⟨⟨zs ++ [(d : Int)], by simp [hzl], by rw [List.map_append]; exact hown'⟩, ?_⟩
          have hs := S4.out.bel.size
          exact (S4.out.bel.alloc hs _).grown hgrow (by simp; omega) (fun g hg => (hown.lt g hg).1)
        clear hown hown' hgrow S4 S3 v4
        go_wp2
        go_roundw
        case rel => exact ⟨k + 1, by omega, by go_num, NX.out⟩
        case measure => simp [intOf]; omega
      · have hw' : wiP l (c : Nat) k = false := by simpa using hw
        have NX : Hid (InW w W5 u7 (cn (wiP l (c : Nat)) (k + 1))) := by
          rw [CNX.out, if_neg hw, Nat.add_zero]; exact S4.out
        rw [hw']
        clear hw hw' S4 S3 CNX WP v4
        go_wp2
        go_roundw
        case rel => exact ⟨k + 1, by omega, by go_num, NX.out⟩
        case measure => simp [intOf]; omega
    · obtain rfl : k = l.length := by omega
      have R : Hid (WiP (cvd l (c : Nat)) w (.returned (.tuple #[u7, .int .i64 0])) wr) := by
        obtain ⟨zs, hzl, hown⟩ := hS.out.own
        obtain ⟨av, cv, e⟩ := own_slice hown
        exact ⟨av, cv, by rw [e]; rfl, hS.out.bel⟩
      clear hS hlt
      go_wp2
      go_ret2
      exact R.out
end Go.Proofs.YthdmodmplpoejaaDoor
