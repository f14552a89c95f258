/-
  Numbers of any size: sums, differences, products.
-/
import Derived.Test.YtaibpppobblnoaaDoorWhMul
import Derived.Laws.IdiomCopy
namespace Go.Proofs.YtaibpppobblnoaaDoor
open Go.RowKit

def AddToPost (w : World) (g K o m n : Nat) (f fb : Nat → Nat) (e : Ending) (w' : World) : Prop :=
  ∃ (x : Nat) (f' : Nat → Nat), e = .returned (.int .u64 (x : Int)) ∧ x ≤ 1 ∧ Wd w g K o m f f' w' ∧ S (from_ f' o) m + x * bp m = S (from_ f o) m + S fb n
theorem Wd.more {w w' : World} {g K o m m' : Nat} {f f' : Nat → Nat} (h : Wd w g K o m f f' w') (hm : m ≤ m') : Wd w g K o m' f f' w' := ⟨h.bf, fun j hj => h.out j (by omega), h.grown⟩
set_option maxRecDepth 100000 in
set_option maxHeartbeats 4000000 in
theorem addTo_c (w0 : World) (g o m n c K cb : Nat) (ab : Option Addr) (f fb : Nat → Nat) (w : World) (hb : Rl w0 ab n fb) (hB : Below w0.heap.size w0 w) (hg : w0.heap.size ≤ g) (hf : Bf w g K f) (hK : o + m ≤ K) (hK2 : K ≤ 100000) (hnm : n ≤ m) :
    Calls Tryd.prog 62 #[.slice (some ⟨g, o, none⟩) m c, .slice ab n cb] w (AddToPost w g K o m n f fb) := by
  have HRB := Lib.hid hb
  have HBW := Lib.hid hB
  have HF := Lib.hid hf
  have HG := Lib.hid hg
  clear hb hB hf hg
  go_enter Tryd.func62, Tryd.ntmps62
  go_wp2
  go_loopw [5, 11] (fun v i wr => ∃ (j y : Nat) (f' : Nat → Nat), j ≤ n ∧ i = .int .i64 j ∧ v = .int .u64 y ∧ y ≤ 1 ∧ Hid (Wd w g K o j f f' wr ∧ S (from_ f' o) j + y * bp j = S (from_ f o) j + S fb j)) (fun _ i _ => n - (intOf i).toNat)
  case atStart => exact ⟨0, 0, f, Nat.zero_le _, rfl, rfl, by omega, ⟨HF.out, fun _ _ => rfl, World.grownBy.refl _ _⟩, by simp only [S_zero]; omega⟩
  case round =>
    obtain ⟨j, y, f', hj, rfl, rfl, hy, hR⟩ := hrel
    by_cases hlt : j < n
    · have hlt' : (j : Int) < (n : Int) := by omega
      have hltm : (j : Int) < (m : Int) := by omega
      have hBw := bel_grown HBW.out HG.out hR.out.1.grown
      obtain ⟨b, off, rfl, hbl, hc1⟩ := (HRB.out.below hBw).at_ hlt
      have hx := HRB.out.2.1 j hlt
      have hBj := hR.out.1.bf.2.2 (o + j) (by omega)
      have hz := hR.out.1.bf.2.1 (o + j) (by omega)
      have ez : f' (o + j) = f (o + j) := hR.out.1.out _ (.inr (by omega))
      have hc2 := hBj.1
      have hf2 := hBj.2
      rw [ez] at hc2 hz
      obtain ⟨s, d, hadd, ha1, ha2, ha3⟩ := adds (f (o + j)) (fb j) y rfl rfl rfl hz hx hy
      have NX : Hid (Wd w g K o (j + 1) f (put f' (o + j) s) (wr.setCell ⟨g, o + j, none⟩ (.int .u64 s)) ∧ S (from_ (put f' (o + j) s) o) (j + 1) + d * bp (j + 1) = S (from_ f o) (j + 1) + S fb (j + 1)) := by
        refine ⟨⟨hR.out.1.bf.put (by omega) ha2, fun i hi => by rw [put_ne (by omega)]; exact hR.out.1.out i (by omega), grown_set hR.out.1.grown⟩, ?_⟩
        rw [from_put, S_put, bp_succ, S_succ, S_succ]
        have e : from_ f o j = f (o + j) := rfl
        rw [e]
        exact step_add hR.out.2 (by omega)
      clear hBj ha1 ez hBw
      generalize fb j = x at *
      generalize f (o + j) = z at *
      go_wp2_with (rw [hadd])
      go_roundw
      case rel => exact ⟨j + 1, d, put f' (o + j) s, by omega, by go_num, rfl, ha3, NX.out⟩
      case measure => simp [intOf]; omega
    · obtain rfl : j = n := by omega
      clear hlt
      have HJ : Hid (Wd w g K o j f f' wr ∧ S (from_ f' o) j + y * bp j = S (from_ f o) j + S fb j) := hR.out
      clear hR
      go_wp2
      generalize hwr : wr = wr0 at *
      have HWR := Lib.hid hwr
      clear hwr
      go_loopw [5, 8] (fun v i wx => ∃ (p y : Nat) (f' : Nat → Nat), j ≤ p ∧ p ≤ m ∧ i = .int .i64 p ∧ v = .int .u64 y ∧ y ≤ 1 ∧ Hid (Wd w g K o p f f' wx ∧ S (from_ f' o) p + y * bp p = S (from_ f o) p + S fb j)) (fun _ i _ => m - (intOf i).toNat)
      case atStart => exact ⟨j, y, f', Nat.le_refl _, hnm, rfl, rfl, hy, HJ.out⟩
      case round =>
        clear HJ
        obtain ⟨p, y2, f2, hjp, hpm, rfl, rfl, hy2, hP⟩ := hrel
        rcases Nat.eq_zero_or_pos y2 with e | e
        · subst e
          go_wp2_with fail
          go_ret
          have hE : from_ f2 o = from_ f2 o := rfl
          refine ⟨0, f2, rfl, by omega, hP.out.1.more hpm, ?_⟩
          obtain ⟨d, rfl⟩ := Nat.exists_eq_add_of_le hpm
          rw [S_at (from_ f2 o) p d, S_at (from_ f o) p d, from_from, from_from]
          have e2 : S (from_ f2 (o + p)) d = S (from_ f (o + p)) d := S_congr (fun i hi => hP.out.1.out _ (.inr (by omega)))
          rw [e2]
          have := hP.out.2
          omega
        · obtain rfl : y2 = 1 := by omega
          by_cases hlt : p < m
          · have hltm : (p : Int) < (m : Int) := by omega
            have hBj := hP.out.1.bf.2.2 (o + p) (by omega)
            have hz := hP.out.1.bf.2.1 (o + p) (by omega)
            have ez : f2 (o + p) = f (o + p) := hP.out.1.out _ (.inr (by omega))
            have hc2 := hBj.1
            have hf2 := hBj.2
            rw [ez] at hc2 hz
            obtain ⟨s, d, hadd, ha1, ha2, ha3⟩ := adds (f (o + p)) 0 1 rfl (show (0 : Int) = ((0 : Nat) : Int) from rfl) (show (1 : Int) = ((1 : Nat) : Int) from rfl) hz (by omega) (by omega)
            have NX : Hid (Wd w g K o (p + 1) f (put f2 (o + p) s) (wr.setCell ⟨g, o + p, none⟩ (.int .u64 s)) ∧ S (from_ (put f2 (o + p) s) o) (p + 1) + d * bp (p + 1) = S (from_ f o) (p + 1) + S fb j) := by
              refine ⟨⟨hP.out.1.bf.put (by omega) ha2, fun i hi => by rw [put_ne (by omega)]; exact hP.out.1.out i (by omega), grown_set hP.out.1.grown⟩, ?_⟩
              rw [from_put, S_put, bp_succ, S_succ]
              have e : from_ f o p = f (o + p) := rfl
              rw [e]
              have t := step_add (x := f (o + p)) (y := 0) (s := s) (c' := d) hP.out.2 (by omega)
              rw [Nat.zero_mul, Nat.add_zero] at t
              exact t
            clear hBj ha1 ez
            generalize f (o + p) = z at *
            go_wp2_with (rw [hadd])
            go_roundw
            case rel => exact ⟨p + 1, d, put f2 (o + p) s, by omega, by omega, by go_num, rfl, ha3, NX.out⟩
            case measure => simp [intOf]; omega
          · obtain rfl : p = m := by omega
            go_wp2
            go_ret
            exact ⟨1, f2, rfl, by omega, hP.out.1, hP.out.2⟩
end Go.Proofs.YtaibpppobblnoaaDoor
