/-
  Numbers of any size: sums, differences, products.
  Numbers of any size: sums, products and differences.
  Numbers of any size: the arithmetic of a division of two limbs by one.
  Numbers of any size: two limbs divided by one.
-/
import Derived.Test.YtfijhkaalpinhaaDoorWh02
import Derived.Laws.IdiomCopy
import Derived.Test.YtfijhkaalpinhaaDoorWh01
import Derived.Deep.CutBlock
import Derived.Deep.CutRange
namespace Go.Proofs.YtfijhkaalpinhaaDoor
open Go.RowKit

def AddToPost (w : World) (g K o m n : Nat) (f fb : Nat → Nat) (e : Ending) (w' : World) : Prop :=
  ∃ (x : Nat) (f' : Nat → Nat), e = .returned (.int .u64 (x : Int)) ∧ x ≤ 1 ∧ Wd w g K o m f f' w' ∧ S (from_ f' o) m + x * bp m = S (from_ f o) m + S fb n
theorem Wd.more {w w' : World} {g K o m m' : Nat} {f f' : Nat → Nat} (h : Wd w g K o m f f' w') (hm : m ≤ m') : Wd w g K o m' f f' w' := ⟨h.bf, fun j hj => h.out j (by omega), h.grown⟩
set_option maxRecDepth 100000 in
set_option maxHeartbeats 4000000 in
theorem addTo_g (g o m n c K cb : Nat) (ab : Option Addr) (f fb : Nat → Nat) (w : World) (hb : Rl w ab n fb) (hA : Apart ab n g) (hf : Bf w g K f) (hK : o + m ≤ K) (hK2 : K ≤ 100000) (hnm : n ≤ m) :
    Calls Tryd.prog 61 #[.slice (some ⟨g, o, none⟩) m c, .slice ab n cb] w (AddToPost w g K o m n f fb) := by
  have HRB := Lib.hid hb
  have HF := Lib.hid hf
  have HAP := Lib.hid hA
  clear hb hA hf
  go_enter Tryd.func61, Tryd.ntmps61
  go_wp2
  go_loopw [5, 11] (fun v i wr => ∃ (j y : Nat) (f' : Nat → Nat), j ≤ n ∧ i = .int .i64 j ∧ v = .int .u64 y ∧ y ≤ 1 ∧ Hid (Wd w g K o j f f' wr ∧ S (from_ f' o) j + y * bp j = S (from_ f o) j + S fb j)) (fun _ i _ => n - (intOf i).toNat)
  case atStart => exact ⟨0, 0, f, Nat.zero_le _, rfl, rfl, by omega, ⟨HF.out, fun _ _ => rfl, World.grownBy.refl _ _⟩, by simp only [S_zero]; omega⟩
  case round =>
    obtain ⟨j, y, f', hj, rfl, rfl, hy, hR⟩ := hrel
    by_cases hlt : j < n
    · have hlt' : (j : Int) < (n : Int) := by omega
      have hltm : (j : Int) < (m : Int) := by omega
      have hBw := HRB.out.grown hR.out.1.grown HAP.out
      obtain ⟨b, off, rfl, hbl, hc1⟩ := hBw.at_ hlt
      have hx := HRB.out.2.1 j hlt
      have hBj := hR.out.1.bf.2.2 (o + j) (by omega)
      have hz := hR.out.1.bf.2.1 (o + j) (by omega)
      have ez : f' (o + j) = f (o + j) := hR.out.1.out _ (.inr (by omega))
      have hc2 := hBj.1
      have hf2 := hBj.2
      rw [ez] at hc2 hz
      obtain ⟨s, d, hadd, ha1, ha2, ha3⟩ := adds (f (o + j)) (fb j) y rfl rfl rfl hz hx hy
      have NX : Hid (Wd w g K o (j + 1) f (put f' (o + j) s) (wr.setCell ⟨g, o + j, none⟩ (.int .u64 s)) ∧ S (from_ (put f' (o + j) s) o) (j + 1) + d * bp (j + 1) = S (from_ f o) (j + 1) + S fb (j + 1)) := by
        refine ⟨⟨hR.out.1.bf.put (by omega) ha2, fun i hi => by rw [put_ne (by omega)]; exact hR.out.1.out i (by omega), grown_set hR.out.1.grown⟩, ?_⟩
        rw [from_put, S_put, bp_succ, S_succ, S_succ]
        have e : from_ f o j = f (o + j) := rfl
        rw [e]
        exact step_add hR.out.2 (by omega)
      clear hBj ha1 ez hBw
      generalize fb j = x at *
      generalize f (o + j) = z at *
      go_wp2_with (rw [hadd])
      go_roundw
      case rel => exact ⟨j + 1, d, put f' (o + j) s, by omega, by go_num, rfl, ha3, NX.out⟩
      case measure => simp [intOf]; omega
    · obtain rfl : j = n := by omega
      clear hlt
      have HJ : Hid (Wd w g K o j f f' wr ∧ S (from_ f' o) j + y * bp j = S (from_ f o) j + S fb j) := hR.out
      clear hR
      go_wp2
      generalize hwr : wr = wr0 at *
      have HWR := Lib.hid hwr
      clear hwr
      go_loopw [5, 8] (fun v i wx => ∃ (p y : Nat) (f' : Nat → Nat), j ≤ p ∧ p ≤ m ∧ i = .int .i64 p ∧ v = .int .u64 y ∧ y ≤ 1 ∧ Hid (Wd w g K o p f f' wx ∧ S (from_ f' o) p + y * bp p = S (from_ f o) p + S fb j)) (fun _ i _ => m - (intOf i).toNat)
      case atStart => exact ⟨j, y, f', Nat.le_refl _, hnm, rfl, rfl, hy, HJ.out⟩
      case round =>
        clear HJ
        obtain ⟨p, y2, f2, hjp, hpm, rfl, rfl, hy2, hP⟩ := hrel
        rcases Nat.eq_zero_or_pos y2 with e | e
        · subst e
          go_wp2_with fail
          go_ret
          have hE : from_ f2 o = from_ f2 o := rfl
          refine ⟨0, f2, rfl, by omega, hP.out.1.more hpm, ?_⟩
          obtain ⟨d, rfl⟩ := Nat.exists_eq_add_of_le hpm
          rw [S_at (from_ f2 o) p d, S_at (from_ f o) p d, from_from, from_from]
          have e2 : S (from_ f2 (o + p)) d = S (from_ f (o + p)) d := S_congr (fun i hi => hP.out.1.out _ (.inr (by omega)))
          rw [e2]
          have := hP.out.2
          omega
        · obtain rfl : y2 = 1 := by omega
          by_cases hlt : p < m
          · have hltm : (p : Int) < (m : Int) := by omega
            have hBj := hP.out.1.bf.2.2 (o + p) (by omega)
            have hz := hP.out.1.bf.2.1 (o + p) (by omega)
            have ez : f2 (o + p) = f (o + p) := hP.out.1.out _ (.inr (by omega))
            have hc2 := hBj.1
            have hf2 := hBj.2
            rw [ez] at hc2 hz
            obtain ⟨s, d, hadd, ha1, ha2, ha3⟩ := adds (f (o + p)) 0 1 rfl (show (0 : Int) = ((0 : Nat) : Int) from rfl) (show (1 : Int) = ((1 : Nat) : Int) from rfl) hz (by omega) (by omega)
            have NX : Hid (Wd w g K o (p + 1) f (put f2 (o + p) s) (wr.setCell ⟨g, o + p, none⟩ (.int .u64 s)) ∧ S (from_ (put f2 (o + p) s) o) (p + 1) + d * bp (p + 1) = S (from_ f o) (p + 1) + S fb j) := by
              refine ⟨⟨hP.out.1.bf.put (by omega) ha2, fun i hi => by rw [put_ne (by omega)]; exact hP.out.1.out i (by omega), grown_set hP.out.1.grown⟩, ?_⟩
              rw [from_put, S_put, bp_succ, S_succ]
              have e : from_ f o p = f (o + p) := rfl
              rw [e]
              have t := step_add (x := f (o + p)) (y := 0) (s := s) (c' := d) hP.out.2 (by omega)
              rw [Nat.zero_mul, Nat.add_zero] at t
              exact t
            clear hBj ha1 ez
            generalize f (o + p) = z at *
            go_wp2_with (rw [hadd])
            go_roundw
            case rel => exact ⟨p + 1, d, put f2 (o + p) s, by omega, by omega, by go_num, rfl, ha3, NX.out⟩
            case measure => simp [intOf]; omega
          · obtain rfl : p = m := by omega
            go_wp2
            go_ret
            exact ⟨1, f2, rfl, by omega, hP.out.1, hP.out.2⟩
theorem addTo_c (w0 : World) (g o m n c K cb : Nat) (ab : Option Addr) (f fb : Nat → Nat) (w : World) (hb : Rl w0 ab n fb) (hB : Below w0.heap.size w0 w) (hg : w0.heap.size ≤ g) (hf : Bf w g K f) (hK : o + m ≤ K) (hK2 : K ≤ 100000) (hnm : n ≤ m) :
    Calls Tryd.prog 61 #[.slice (some ⟨g, o, none⟩) m c, .slice ab n cb] w (AddToPost w g K o m n f fb) :=
  addTo_g g o m n c K cb ab f fb w (hb.below hB) (apart_of hb hg) hf hK hK2 hnm
end Go.Proofs.YtfijhkaalpinhaaDoor
namespace Go.Proofs.YtfijhkaalpinhaaDoor
open Go.RowKit

theorem from_zero (f : Nat → Nat) : from_ f 0 = f := by funext j; unfold from_; rw [Nat.zero_add]
/-- A row over the beginning of another one. -/
def over_ (f f0 : Nat → Nat) (k : Nat) : Nat → Nat := fun j => if j < k then f j else f0 j
theorem S_over (f f0 : Nat → Nat) (k : Nat) : S (over_ f f0 k) k = S f k := S_congr (fun j hj => by unfold over_; rw [if_pos hj])
def lcells (f : Nat → Nat) (k : Nat) : List Value := (List.range k).map fun j => Value.int .u64 (f j : Int)
theorem lcells_at {f : Nat → Nat} {k j : Nat} (h : j < k) : (lcells f k)[j]? = some (.int .u64 (f j : Int)) := by unfold lcells; simp [h]
theorem size_set (b : Nat) : ∀ (vs : List Value) (o : Nat) (w : World), (w.setCells b o vs).heap.size = w.heap.size
  | [], _, _ => rfl
  | v :: vs, o, w => by
    show ((w.setCell ⟨b, o, none⟩ v).setCells b (o + 1) vs).heap.size = _
    rw [size_set b vs (o + 1)]; simp
theorem grown_sets (g : Nat) : ∀ (vs : List Value) (o : Nat) (w : World), w.grownBy (w.setCells g o vs) (some g)
  | [], _, w => World.grownBy.refl _ _
  | v :: vs, o, w => (grown_set (World.grownBy.refl w (some g))).trans (grown_sets g vs (o + 1) _)
theorem copy_limbs (W : World) (g K k c : Nat) (a : Option Addr) (f f0 : Nat → Nat) (ty : TypeId) (hb : Bf W g K f0) (hr : Rl W a k f) (hk : k ≤ K) :
    ∃ W', (Builtin.copy_ #[35, 35] ty #[.slice (some ⟨g, 0, none⟩) K K, .slice a k c]).run Tryd.prog W = .ok (goInt k) W' ∧ Bf W' g K (over_ f f0 k) ∧ W.grownBy W' (some g) := by
  have hsz : (Tryd.prog.info? 59).map (·.size) = some 1 := by
    have h := infoL
    cases e : Tryd.prog.info? 59 with
    | none => rw [e] at h; cases h
    | some i => rw [e] at h; simp at h; simp [h.2.1]
  rcases Nat.eq_zero_or_pos k with e | e
  · subst e
    exact ⟨W, run_copy_none W _ _ ty 59 _ _ _ _ _ _ Tryd.underlying35 hsz (Nat.zero_min _), hb.congr (fun j _ => by unfold over_; rw [if_neg (by omega)]), World.grownBy.refl _ _⟩
  · obtain ⟨b, off, rfl, hbl, hc⟩ := hr.2.2 e
    have hl : (lcells f k).length = k := by simp [lcells]
    have hin : ∀ j, j < (lcells f k).length → (W.cell? ⟨g, 0 + j, none⟩).isSome = true := fun j hj => by
      rw [Nat.zero_add, (hb.2.2 j (by omega)).1]; rfl
    have h := run_copy_cells (P := Tryd.prog) W 35 35 ty 59 g 0 K K ⟨b, off, none⟩ k c (lcells f k) Tryd.underlying35 hsz (by rw [hl]; exact (Nat.min_eq_left hk).symm) (fun j v hj => by
        have hjk : j < k := by
          have := (List.getElem?_eq_some_iff.1 hj).1; omega
        rw [lcells_at hjk] at hj
        cases hj
        have e2 : (Addr.mk b off none).add j = ⟨b, off + j, none⟩ := by
          unfold Addr.add
          split
          · rename_i h; subst h; rfl
          · rfl
        rw [e2]; exact hc j hjk) hin (fun j hj => by rw [Nat.zero_add]; exact (hb.2.2 j (by omega)).2) (fun v hv => by
        unfold lcells at hv
        obtain ⟨j, _, rfl⟩ := List.mem_map.1 hv
        rfl)
    rw [hl] at h
    refine ⟨_, h, ⟨by rw [size_set]; exact hb.1, fun j hj => ?_, fun j hj => ⟨?_, by rw [World.frozen?_setCells]; exact (hb.2.2 j hj).2⟩⟩, grown_sets _ _ _ _⟩
    · unfold over_
      split
      · next h => exact hr.2.1 j h
      · exact hb.2.1 j hj
    · by_cases hjk : j < k
      · have t := World.cell?_setCells_in g (lcells f k) 0 W hin j (by omega)
        rw [Nat.zero_add] at t
        rw [t]
        unfold over_
        rw [if_pos hjk, ← List.getElem?_eq_getElem, lcells_at hjk]
      · rw [World.cell?_setCells_out g (lcells f k) 0 W _ (fun _ _ => .inr (by rw [hl]; show 0 + k ≤ j; omega)), (hb.2.2 j hj).1]
        unfold over_
        rw [if_neg hjk]
set_option maxRecDepth 100000 in
set_option maxHeartbeats 4000000 in
theorem sum_c (a1 a2 : Option Addr) (k1 k2 c1 c2 n1 n2 : Nat) (w : World) (h1 : Nm w a1 k1 c1 n1) (h2 : Nm w a2 k2 c2 n2) (hn1 : n1 < bp 2000) (hn2 : n2 < bp 2000) :
    Calls Tryd.prog 43 #[.slice a1 k1 c1, .slice a2 k2 c2] w (NmPost (n1 + n2) w) := by
  have hk1 := h1.len hn1
  have hk2 := h2.len hn2
  obtain ⟨f1, r1, hkc1, hcc1, t1, s1, p1⟩ := h1
  obtain ⟨f2, r2, hkc2, hcc2, t2, s2, p2⟩ := h2
  have H1 := Lib.hid r1
  have H2 := Lib.hid r2
  have S1 := Lib.hid s1
  have S2 := Lib.hid s2
  clear r1 r2 s1 s2 hn1 hn2
  clear t1 t2
  by_cases hlt0 : k1 < k2
  · have hmk := fun w => mk_limbsI ((k2 : Int) + 1) (k2 + 1) (by omega) (by omega) w
    have hlt : (k1 : Int) < (k2 : Int) := by omega
    go_enter Tryd.func43, Tryd.ntmps43
    go_wp2_with fail
    have B0 := Bf.made w (k2 + 1) 59
    have BL : Hid (Below w.heap.size w (w.alloc (.cells (madeCells #[.int .u64 0] (k2 + 1)) 59))) := bel_one _ _
    generalize hW1 : w.alloc (.cells (madeCells #[.int .u64 0] (k2 + 1)) 59) = W1 at *
    obtain ⟨W2, hcp, hb2, hg2⟩ := copy_limbs W1 w.heap.size (k2 + 1) k2 c2 a2 f2 _ 3 B0 (H2.out.below BL.out) (by omega)
    have BB2 := Lib.hid hb2
    have BL2 : Hid (Below w.heap.size w W2) := bel_grown BL.out (Nat.le_refl _) hg2
    clear hW1 hmk hb2 hg2 B0
    go_wp2_with (rw [hcp])
    clear hcp
    refine (addTo_c w w.heap.size 0 k2 k1 (k2 + 1) (k2 + 1) c1 a1 (over_ f2 (fun _ => 0) k2) f1 W2 H1.out BL2.out (Nat.le_refl _) BB2.out (by omega) (by omega) (by omega)).mono ?_
    rintro e W3 ⟨x, f', rfl, hx, hW, hs⟩
    rw [from_zero, from_zero, S_over, S2.out, S1.out] at hs
    have HW := Lib.hid hW
    have hBj := hW.bf.2.2 k2 (by omega)
    have hc2 := hBj.1
    have hf2 := hBj.2
    have BL3 := Lib.hid (bel_grown BL2.out (Nat.le_refl _) hW.grown)
    have NB := Lib.hid (hW.bf.put (i := k2) (x := x) (by omega) (by omega))
    have BL4 : Hid (Below w.heap.size w (W3.setCell ⟨w.heap.size, k2, none⟩ (.int .u64 x))) := BL3.out.setCell (p := ⟨w.heap.size, k2, none⟩) (Nat.le_refl _) _
    have E : Hid (S (put f' k2 x) (k2 + 1) = n1 + n2) := by unfold Hid; rw [S_put]; omega
    clear hBj hW hs
    go_wp2_with fail
    generalize W3.setCell ⟨w.heap.size, k2, none⟩ (.int .u64 x) = W4 at *
    refine (trim_c (some ⟨w.heap.size, 0, none⟩) (k2 + 1) (k2 + 1) (put f' k2 x) W4 (NB.out.rl0 (Nat.le_refl _) (by omega)) (Nat.le_refl _) (by omega) (Pl.some_ _ _)).mono ?_
    rintro e w5 ⟨a', k', c', rfl, hN, b5⟩
    rw [E.out] at hN
    have R := Lib.hid (show NmPost (n1 + n2) w (.returned (.slice a' k' c')) w5 from ⟨a', k', c', rfl, hN, BL4.out.trans (b5.mono BL4.out.size)⟩)
    clear hN b5
    go_wp2
    go_ret
    exact R.out
  · have hmk := fun w => mk_limbsI ((k1 : Int) + 1) (k1 + 1) (by omega) (by omega) w
    have hlt : ¬ (k1 : Int) < (k2 : Int) := by omega
    go_enter Tryd.func43, Tryd.ntmps43
    go_wp2_with fail
    have B0 := Bf.made w (k1 + 1) 59
    have BL : Hid (Below w.heap.size w (w.alloc (.cells (madeCells #[.int .u64 0] (k1 + 1)) 59))) := bel_one _ _
    generalize hW1 : w.alloc (.cells (madeCells #[.int .u64 0] (k1 + 1)) 59) = W1 at *
    obtain ⟨W2, hcp, hb2, hg2⟩ := copy_limbs W1 w.heap.size (k1 + 1) k1 c1 a1 f1 _ 3 B0 (H1.out.below BL.out) (by omega)
    have BB2 := Lib.hid hb2
    have BL2 : Hid (Below w.heap.size w W2) := bel_grown BL.out (Nat.le_refl _) hg2
    clear hW1 hmk hb2 hg2 B0
    go_wp2_with (rw [hcp])
    clear hcp
    refine (addTo_c w w.heap.size 0 k1 k2 (k1 + 1) (k1 + 1) c2 a2 (over_ f1 (fun _ => 0) k1) f2 W2 H2.out BL2.out (Nat.le_refl _) BB2.out (by omega) (by omega) (by omega)).mono ?_
    rintro e W3 ⟨x, f', rfl, hx, hW, hs⟩
    rw [from_zero, from_zero, S_over, S1.out, S2.out] at hs
    have HW := Lib.hid hW
    have hBj := hW.bf.2.2 k1 (by omega)
    have hc2 := hBj.1
    have hf2 := hBj.2
    have BL3 := Lib.hid (bel_grown BL2.out (Nat.le_refl _) hW.grown)
    have NB := Lib.hid (hW.bf.put (i := k1) (x := x) (by omega) (by omega))
    have BL4 : Hid (Below w.heap.size w (W3.setCell ⟨w.heap.size, k1, none⟩ (.int .u64 x))) := BL3.out.setCell (p := ⟨w.heap.size, k1, none⟩) (Nat.le_refl _) _
    have E : Hid (S (put f' k1 x) (k1 + 1) = n1 + n2) := by unfold Hid; rw [S_put]; omega
    clear hBj hW hs
    go_wp2_with fail
    generalize W3.setCell ⟨w.heap.size, k1, none⟩ (.int .u64 x) = W4 at *
    refine (trim_c (some ⟨w.heap.size, 0, none⟩) (k1 + 1) (k1 + 1) (put f' k1 x) W4 (NB.out.rl0 (Nat.le_refl _) (by omega)) (Nat.le_refl _) (by omega) (Pl.some_ _ _)).mono ?_
    rintro e w5 ⟨a', k', c', rfl, hN, b5⟩
    rw [E.out] at hN
    have R := Lib.hid (show NmPost (n1 + n2) w (.returned (.slice a' k' c')) w5 from ⟨a', k', c', rfl, hN, BL4.out.trans (b5.mono BL4.out.size)⟩)
    clear hN b5
    go_wp2
    go_ret
    exact R.out
set_option maxRecDepth 100000 in
set_option maxHeartbeats 4000000 in
theorem product_c (a1 a2 : Option Addr) (k1 k2 c1 c2 n1 n2 : Nat) (w : World) (h1 : Nm w a1 k1 c1 n1) (h2 : Nm w a2 k2 c2 n2) (hn1 : n1 < bp 2000) (hn2 : n2 < bp 2000) :
    Calls Tryd.prog 40 #[.slice a1 k1 c1, .slice a2 k2 c2] w (NmPost (n1 * n2) w) := by
  have hk1 := h1.len hn1
  have hk2 := h2.len hn2
  obtain ⟨f1, r1, hkc1, hcc1, t1, s1, p1⟩ := h1
  obtain ⟨f2, r2, hkc2, hcc2, t2, s2, p2⟩ := h2
  have H1 := Lib.hid r1
  have H2 := Lib.hid r2
  have S1 := Lib.hid s1
  have S2 := Lib.hid s2
  clear r1 r2 s1 s2 hn1 hn2
  clear t1 t2
  by_cases hlt0 : k2 < k1
  · have hmk := fun w => mk_limbsI ((k2 : Int) + k1) (k2 + k1) (by omega) (by omega) w
    have hlt : (k2 : Int) < (k1 : Int) := by omega
    go_enter Tryd.func40, Tryd.ntmps40
    go_wp2_with fail
    have B0 := Lib.hid (Bf.made w (k2 + k1) 59)
    have BL : Hid (Below w.heap.size w (w.alloc (.cells (madeCells #[.int .u64 0] (k2 + k1)) 59))) := bel_one _ _
    generalize hW1 : w.alloc (.cells (madeCells #[.int .u64 0] (k2 + k1)) 59) = W1 at *
    clear hW1 hmk hlt
    go_loopw [23] (fun i wr => ∃ (j : Nat) (F : Nat → Nat), j ≤ k2 ∧ i = .int .i64 j ∧ Hid (Bf wr w.heap.size (k2 + k1) F ∧ Below w.heap.size w wr ∧ (∀ i, j + k1 ≤ i → F i = 0) ∧ S F (j + k1) = S f2 j * n1)) (fun i _ => k2 - (intOf i).toNat)
    case atStart => exact ⟨0, fun _ => 0, Nat.zero_le _, rfl, B0.out, BL.out, fun _ _ => rfl, by rw [S_zero, S_zeros (fun _ _ => rfl)]; omega⟩
    case round =>
      clear B0 BL
      obtain ⟨j, F, hj, rfl, hR⟩ := hrel
      by_cases hlt : j < k2
      · have hlt' : (j : Int) < (k2 : Int) := by omega
        obtain ⟨b, off, rfl, hbl, hc1⟩ := (H2.out.below hR.out.2.1).at_ hlt
        have hx := H2.out.2.1 j hlt
        have HA := Lib.hid (addTimes_c w w.heap.size j k1 (k2 + k1 - j) (k2 + k1) c1 (f2 j) a1 F f1 wr H1.out hR.out.2.1 (Nat.le_refl _) hR.out.1 (by omega) (by omega) hx)
        have HS := Lib.hid (S_succ f2 j)
        generalize f2 j = t at *
        have hle : (j : Int) + (k1 : Int) ≤ (k2 : Int) + k1 := by omega
        go_wp2_with fail
        refine HA.out.mono ?_
        rintro e W3 ⟨x, F', rfl, hx2, hW, hs⟩
        rw [S1.out] at hs
        have hBj := hW.bf.2.2 (j + k1) (by omega)
        have hc2 := hBj.1
        have hf2 := hBj.2
        have BL3 := Lib.hid (bel_grown hR.out.2.1 (Nat.le_refl _) hW.grown)
        have NX : Hid (Bf (W3.setCell ⟨w.heap.size, j + k1, none⟩ (.int .u64 x)) w.heap.size (k2 + k1) (put F' (j + k1) x) ∧ Below w.heap.size w (W3.setCell ⟨w.heap.size, j + k1, none⟩ (.int .u64 x)) ∧ (∀ i, j + 1 + k1 ≤ i → put F' (j + k1) x i = 0) ∧ S (put F' (j + k1) x) (j + 1 + k1) = S f2 (j + 1) * n1) := by
          refine ⟨hW.bf.put (by omega) hx2, BL3.out.setCell (p := ⟨w.heap.size, j + k1, none⟩) (Nat.le_refl _) _, fun i hi => ?_, ?_⟩
          · rw [put_ne (by omega), hW.out i (by omega)]; exact hR.out.2.2.1 i (by omega)
          · rw [show j + 1 + k1 = j + k1 + 1 by omega, S_put, HS.out, S_at F' j k1, bp_add]
            have e1 : S F' j = S F j := S_congr (fun i hi => hW.out i (.inl hi))
            have e2 := hR.out.2.2.2
            rw [S_at F j k1] at e2
            rw [e1]
            generalize S F j = A at *
            generalize S (from_ F' j) k1 = C at *
            generalize S (from_ F j) k1 = D at *
            generalize S f2 j = G at *
            generalize bp j = P at *
            generalize bp k1 = Q at *
            grind
        clear hBj hW hs HA
        go_wp2_with fail
        go_roundw
        case rel => exact ⟨j + 1, put F' (j + k1) x, by omega, by go_num, NX.out⟩
        case measure => simp [intOf]; omega
      · obtain rfl : j = k2 := by omega
        clear hlt
        have E : Hid (S F (j + k1) = n1 * n2) := by unfold Hid; rw [hR.out.2.2.2, S2.out, Nat.mul_comm]
        have BL2 := Lib.hid hR.out.2.1
        have BB := Lib.hid hR.out.1
        clear hR
        go_wp2_with fail
        refine (trim_c (some ⟨w.heap.size, 0, none⟩) (j + k1) (j + k1) F wr (BB.out.rl0 (Nat.le_refl _) (by omega)) (Nat.le_refl _) (by omega) (Pl.some_ _ _)).mono ?_
        rintro e w5 ⟨a', k', c', rfl, hN, b5⟩
        rw [E.out] at hN
        have R := Lib.hid (show NmPost (n1 * n2) w (.returned (.slice a' k' c')) w5 from ⟨a', k', c', rfl, hN, BL2.out.trans (b5.mono BL2.out.size)⟩)
        clear hN b5
        go_wp2
        go_ret
        exact R.out
  · have hmk := fun w => mk_limbsI ((k1 : Int) + k2) (k1 + k2) (by omega) (by omega) w
    have hlt : ¬ (k2 : Int) < (k1 : Int) := by omega
    go_enter Tryd.func40, Tryd.ntmps40
    go_wp2_with fail
    have B0 := Lib.hid (Bf.made w (k1 + k2) 59)
    have BL : Hid (Below w.heap.size w (w.alloc (.cells (madeCells #[.int .u64 0] (k1 + k2)) 59))) := bel_one _ _
    generalize hW1 : w.alloc (.cells (madeCells #[.int .u64 0] (k1 + k2)) 59) = W1 at *
    clear hW1 hmk hlt
    go_loopw [23] (fun i wr => ∃ (j : Nat) (F : Nat → Nat), j ≤ k1 ∧ i = .int .i64 j ∧ Hid (Bf wr w.heap.size (k1 + k2) F ∧ Below w.heap.size w wr ∧ (∀ i, j + k2 ≤ i → F i = 0) ∧ S F (j + k2) = S f1 j * n2)) (fun i _ => k1 - (intOf i).toNat)
    case atStart => exact ⟨0, fun _ => 0, Nat.zero_le _, rfl, B0.out, BL.out, fun _ _ => rfl, by rw [S_zero, S_zeros (fun _ _ => rfl)]; omega⟩
    case round =>
      clear B0 BL
      obtain ⟨j, F, hj, rfl, hR⟩ := hrel
      by_cases hlt : j < k1
      · have hlt' : (j : Int) < (k1 : Int) := by omega
        obtain ⟨b, off, rfl, hbl, hc1⟩ := (H1.out.below hR.out.2.1).at_ hlt
        have hx := H1.out.2.1 j hlt
        have HA := Lib.hid (addTimes_c w w.heap.size j k2 (k1 + k2 - j) (k1 + k2) c2 (f1 j) a2 F f2 wr H2.out hR.out.2.1 (Nat.le_refl _) hR.out.1 (by omega) (by omega) hx)
        have HS := Lib.hid (S_succ f1 j)
        generalize f1 j = t at *
        have hle : (j : Int) + (k2 : Int) ≤ (k1 : Int) + k2 := by omega
        go_wp2_with fail
        refine HA.out.mono ?_
        rintro e W3 ⟨x, F', rfl, hx2, hW, hs⟩
        rw [S2.out] at hs
        have hBj := hW.bf.2.2 (j + k2) (by omega)
        have hc2 := hBj.1
        have hf2 := hBj.2
        have BL3 := Lib.hid (bel_grown hR.out.2.1 (Nat.le_refl _) hW.grown)
        have NX : Hid (Bf (W3.setCell ⟨w.heap.size, j + k2, none⟩ (.int .u64 x)) w.heap.size (k1 + k2) (put F' (j + k2) x) ∧ Below w.heap.size w (W3.setCell ⟨w.heap.size, j + k2, none⟩ (.int .u64 x)) ∧ (∀ i, j + 1 + k2 ≤ i → put F' (j + k2) x i = 0) ∧ S (put F' (j + k2) x) (j + 1 + k2) = S f1 (j + 1) * n2) := by
          refine ⟨hW.bf.put (by omega) hx2, BL3.out.setCell (p := ⟨w.heap.size, j + k2, none⟩) (Nat.le_refl _) _, fun i hi => ?_, ?_⟩
          · rw [put_ne (by omega), hW.out i (by omega)]; exact hR.out.2.2.1 i (by omega)
          · rw [show j + 1 + k2 = j + k2 + 1 by omega, S_put, HS.out, S_at F' j k2, bp_add]
            have e1 : S F' j = S F j := S_congr (fun i hi => hW.out i (.inl hi))
            have e2 := hR.out.2.2.2
            rw [S_at F j k2] at e2
            rw [e1]
            generalize S F j = A at *
            generalize S (from_ F' j) k2 = C at *
            generalize S (from_ F j) k2 = D at *
            generalize S f1 j = G at *
            generalize bp j = P at *
            generalize bp k2 = Q at *
            grind
        clear hBj hW hs HA
        go_wp2_with fail
        go_roundw
        case rel => exact ⟨j + 1, put F' (j + k2) x, by omega, by go_num, NX.out⟩
        case measure => simp [intOf]; omega
      · obtain rfl : j = k1 := by omega
        clear hlt
        have E : Hid (S F (j + k2) = n1 * n2) := by unfold Hid; rw [hR.out.2.2.2, S1.out]
        have BL2 := Lib.hid hR.out.2.1
        have BB := Lib.hid hR.out.1
        clear hR
        go_wp2_with fail
        refine (trim_c (some ⟨w.heap.size, 0, none⟩) (j + k2) (j + k2) F wr (BB.out.rl0 (Nat.le_refl _) (by omega)) (Nat.le_refl _) (by omega) (Pl.some_ _ _)).mono ?_
        rintro e w5 ⟨a', k', c', rfl, hN, b5⟩
        rw [E.out] at hN
        have R := Lib.hid (show NmPost (n1 * n2) w (.returned (.slice a' k' c')) w5 from ⟨a', k', c', rfl, hN, BL2.out.trans (b5.mono BL2.out.size)⟩)
        clear hN b5
        go_wp2
        go_ret
        exact R.out
end Go.Proofs.YtfijhkaalpinhaaDoor
namespace Go.Proofs.YtfijhkaalpinhaaDoor

/-- One half of the quotient so far: not too small, and what is left of it. -/
def HalfInv (y yn1 un32 un1 q rhat : Nat) : Prop := q * yn1 + rhat = un32 ∧ un32 * 4294967296 + un1 < (q + 1) * y
theorem half_start {y yn0 yn1 un32 un1 : Nat} (hy : y = yn1 * 4294967296 + yn0) (h1 : un1 < 4294967296) (hp : 0 < yn1) :
    HalfInv y yn1 un32 un1 (un32 / yn1) (un32 - un32 / yn1 * yn1) := by
  refine ⟨?_, half_init hy rfl h1 hp⟩
  have := Nat.div_mul_le_self un32 yn1
  omega
theorem half_next {y yn0 yn1 un32 un1 q rhat : Nat} (hy : y = yn1 * 4294967296 + yn0) (h1 : un1 < 4294967296) (h32 : un32 < y) (hI : HalfInv y yn1 un32 un1 (q + 1) rhat)
    (ht : 4294967296 ≤ q + 1 ∨ 4294967296 * rhat + un1 < (q + 1) * yn0) : HalfInv y yn1 un32 un1 q (rhat + yn1) := by
  refine ⟨?_, half_step hy rfl h1 h32 hI.1 ht⟩
  have := hI.1
  rw [Nat.add_mul, Nat.one_mul] at this
  omega
theorem half_end {y yn0 yn1 un32 un1 q rhat : Nat} (hy : y = yn1 * 4294967296 + yn0) (h0 : yn0 < 4294967296) (h32 : un32 < y) (hI : HalfInv y yn1 un32 un1 q rhat)
    (ht : q * yn0 ≤ 4294967296 * rhat + un1 ∨ 4294967296 ≤ rhat) : q = (un32 * 4294967296 + un1) / y := by
  have hd : q * yn0 ≤ 4294967296 * rhat + un1 := by
    rcases ht with h | h
    · exact h
    · exact half_break hy h0 h32 hI.1 h
  have a := half_done hy rfl hI.1 hd
  have hy0 : 0 < y := by omega
  exact (Nat.div_eq_of_lt_le (by rw [Nat.mul_comm] at a; rw [Nat.mul_comm]; exact a) hI.2).symm
theorem half_qlt {y un32 un1 : Nat} (h1 : un1 < 4294967296) (h32 : un32 < y) : (un32 * 4294967296 + un1) / y < 4294967296 := by
  refine Nat.div_lt_of_lt_mul ?_
  have : (un32 + 1) * 4294967296 ≤ y * 4294967296 := Nat.mul_le_mul_right _ h32
  rw [Nat.add_mul, Nat.one_mul] at this
  omega
/-- Both halves are the whole quotient. -/
theorem halves0 {y u k un0 : Nat} (hy : 0 < y) :
    u / y * k + (u % y * k + un0) / y = (u * k + un0) / y ∧ (u % y * k + un0) % y = (u * k + un0) % y := by
  have hd := Nat.div_add_mod u y
  have e : u * k + un0 = (u % y * k + un0) + y * (u / y * k) := by
    have : u * k = (y * (u / y) + u % y) * k := by rw [hd]
    rw [this, Nat.add_mul, Nat.mul_assoc]
    omega
  rw [e, Nat.add_mul_div_left _ _ hy, Nat.add_mul_mod_self_left]
  omega
/-- A divisor whose highest bit is set: the two limbs, shifted. -/
theorem norm_hi {h l y s : Nat} (hs : s < 64) (hh : h < y) (hl : l < 18446744073709551616) (hY : y * 2 ^ s < 18446744073709551616) :
    h * 2 ^ s < 18446744073709551616 ∧ (h * 2 ^ s ||| l / 2 ^ (64 - s)) = h * 2 ^ s + l / 2 ^ (64 - s) ∧ h * 2 ^ s + l / 2 ^ (64 - s) < y * 2 ^ s ∧
    (h * 2 ^ s + l / 2 ^ (64 - s)) * 18446744073709551616 + l * 2 ^ s % 18446744073709551616 = (h * 18446744073709551616 + l) * 2 ^ s := by
  have hp : 0 < 2 ^ s := Nat.pow_pos (by decide)
  have e1 : l / 2 ^ (64 - s) = l * 2 ^ s / 18446744073709551616 := (shr_is hs).symm
  have e2 : l * 2 ^ s / 18446744073709551616 < 2 ^ s := shl_high hl
  have hm := Nat.div_add_mod (l * 2 ^ s) 18446744073709551616
  have a : (h + 1) * 2 ^ s ≤ y * 2 ^ s := Nat.mul_le_mul_right _ hh
  rw [Nat.add_mul, Nat.one_mul] at a
  rw [e1]
  refine ⟨by omega, ?_, by omega, ?_⟩
  · rw [Nat.or_comm, Nat.mul_comm h, or_add e2]; omega
  · rw [Nat.add_mul, Nat.add_mul]
    have : h * 18446744073709551616 * 2 ^ s = h * 2 ^ s * 18446744073709551616 := by rw [Nat.mul_assoc, Nat.mul_comm 18446744073709551616, Nat.mul_assoc]
    omega
theorem norm_out {N y s : Nat} : N * 2 ^ s / (y * 2 ^ s) = N / y ∧ N * 2 ^ s % (y * 2 ^ s) / 2 ^ s = N % y := by
  have hp : 0 < 2 ^ s := Nat.pow_pos (by decide)
  refine ⟨Nat.mul_div_mul_right _ _ hp, ?_⟩
  rw [Nat.mul_mod_mul_right, Nat.mul_div_cancel _ hp]
/-- The highest bit of a number that is shifted by the zeros ahead of it. -/
theorem lead {y b : Nat} (h1 : 2 ^ b ≤ y) (h2 : y < 2 ^ (b + 1)) (hb : b < 64) : 9223372036854775808 ≤ y * 2 ^ (63 - b) ∧ y * 2 ^ (63 - b) < 18446744073709551616 := by
  have hp : 0 < 2 ^ (63 - b) := Nat.pow_pos (by decide)
  have e1 : 2 ^ b * 2 ^ (63 - b) = 9223372036854775808 := by rw [← Nat.pow_add, show b + (63 - b) = 63 by omega]
  have e2 : 2 ^ (b + 1) * 2 ^ (63 - b) = 18446744073709551616 := by rw [← Nat.pow_add, show b + 1 + (63 - b) = 64 by omega]
  exact ⟨by rw [← e1]; exact Nat.mul_le_mul_right _ h1, by rw [← e2]; exact Nat.mul_lt_mul_of_pos_right h2 hp⟩
end Go.Proofs.YtfijhkaalpinhaaDoor
namespace Go.Proofs.YtfijhkaalpinhaaDoor
open Go.RowKit

theorem wrap_lt {x : Nat} (h : x < 18446744073709551616) : IntKind.u64.wrap (x : Int) = (x : Int) := by rw [IntKind.wrap_u64]; omega
theorem wrap_mod (x : Nat) : IntKind.u64.wrap (x : Int) = ((x % 18446744073709551616 : Nat) : Int) := by rw [IntKind.wrap_u64]; omega
theorem wrap_shl {x s y : Nat} (h : x * 2 ^ s % 18446744073709551616 = y) : IntKind.u64.wrap ((x : Int) * 2 ^ s) = (y : Int) := by
  have e : (x : Int) * 2 ^ s = ((x * 2 ^ s : Nat) : Int) := by rw [Int.natCast_mul, Int.natCast_pow]; rfl
  rw [e, wrap_mod, h]
theorem shr_cast {x s y : Nat} (h : x / 2 ^ s = y) : (x : Int) / 2 ^ s = (y : Int) := by
  have e : (2 : Int) ^ s = ((2 ^ s : Nat) : Int) := by rw [Int.natCast_pow]; rfl
  rw [e, ← Int.natCast_ediv, h]
theorem and_mask {x y : Nat} (hx : x < 18446744073709551616) (h : x % 4294967296 = y) : bits .and .u64 (x : Int) 4294967295 = (y : Int) := by
  have e : bits .and .u64 (x : Int) ((4294967295 : Nat) : Int) = (y : Int) := by
    rw [bits_and_u64_nat _ _ hx (by decide), show (4294967295 : Nat) = 2 ^ 32 - 1 from rfl, Nat.and_two_pow_sub_one_eq_mod, ← h]
  exact e
theorem or_cast {x y z : Nat} (hx : x < 18446744073709551616) (hy : y < 18446744073709551616) (h : x ||| y = z) : bits .or .u64 (x : Int) (y : Int) = (z : Int) := by
  rw [bits_or_u64_nat _ _ hx hy, h]
theorem div_cast {x y z : Nat} (h : x / y = z) : (x : Int) / (y : Int) = (z : Int) := by rw [← Int.natCast_ediv, h]
theorem mul_cast {x y z : Nat} (h : x * y = z) : (x : Int) * (y : Int) = (z : Int) := by rw [← Int.natCast_mul, h]
/-- Half a division ends: what is left. -/
theorem half_left {Y u v Q m : Nat} (hQ : u * 4294967296 + v = Q * Y + m) (hm : m < 18446744073709551616) :
    IntKind.u64.wrap (IntKind.u64.wrap (IntKind.u64.wrap ((u : Int) * 4294967296) + (v : Int)) - IntKind.u64.wrap ((Q : Int) * (Y : Int))) = (m : Int) := by
  have e : (Q : Int) * (Y : Int) = ((Q * Y : Nat) : Int) := by rw [Int.natCast_mul]
  rw [e]
  generalize Q * Y = z at *
  simp only [IntKind.wrap_u64]
  omega
theorem guess_gt {r u p y0 : Nat} (h : 4294967296 * r + u < (p + 1) * y0) (hr : r < 4294967296) (hu : u < 4294967296) (hp : p + 1 < 4294967296) (hy : y0 < 4294967296) : ∃ m k : Nat, ((p : Int) + 1) * (y0 : Int) = (m : Int) ∧ (4294967296 : Int) * (r : Int) = (k : Int) ∧ IntKind.u64.wrap (m : Int) = (m : Int) ∧ IntKind.u64.wrap (k : Int) = (k : Int) ∧ IntKind.u64.wrap ((k : Int) + (u : Int)) = (k : Int) + (u : Int) ∧ (k : Int) + (u : Int) < (m : Int) := by
  have : (p + 1) * y0 ≤ 4294967295 * 4294967295 := Nat.mul_le_mul (by omega) (by omega)
  have e1 : ((p : Int) + 1) * (y0 : Int) = (((p + 1) * y0 : Nat) : Int) := by rw [Int.natCast_mul]; rfl
  have e2 : (4294967296 : Int) * (r : Int) = ((4294967296 * r : Nat) : Int) := by rw [Int.natCast_mul]; rfl
  refine ⟨(p + 1) * y0, 4294967296 * r, e1, e2, wrap_lt (by omega), wrap_lt (by omega), ?_, by omega⟩
  have t := @wrap_lt (4294967296 * r + u) (by omega)
  rw [Int.natCast_add] at t
  exact t
theorem guess_le {r u q y0 : Nat} (h : q * y0 ≤ 4294967296 * r + u) (hr : r < 4294967296) (hu : u < 4294967296) (hq : q < 4294967296) (hy : y0 < 4294967296) : ∃ m k : Nat, (q : Int) * (y0 : Int) = (m : Int) ∧ (4294967296 : Int) * (r : Int) = (k : Int) ∧ IntKind.u64.wrap (m : Int) = (m : Int) ∧ IntKind.u64.wrap (k : Int) = (k : Int) ∧ IntKind.u64.wrap ((k : Int) + (u : Int)) = (k : Int) + (u : Int) ∧ ¬ (k : Int) + (u : Int) < (m : Int) := by
  have : q * y0 ≤ 4294967295 * 4294967295 := Nat.mul_le_mul (by omega) (by omega)
  have e2 : (4294967296 : Int) * (r : Int) = ((4294967296 * r : Nat) : Int) := by rw [Int.natCast_mul]; rfl
  refine ⟨q * y0, 4294967296 * r, by rw [Int.natCast_mul], e2, wrap_lt (by omega), wrap_lt (by omega), ?_, by omega⟩
  have t := @wrap_lt (4294967296 * r + u) (by omega)
  rw [Int.natCast_add] at t
  exact t
set_option maxRecDepth 100000 in
set_option maxHeartbeats 2000000 in
theorem div64_hi (h l y s Y yn1 yn0 hs ls u32 u10 u1 u0 Q1 U2 Q2 R0 R : Nat) (w : World) (h0 : 0 < h) (hh : h < y) (hs64 : s < 64)
    (e1 : IntKind.u64.wrap ((y : Int) * 2 ^ s) = (Y : Int)) (e2 : (Y : Int) / 4294967296 = (yn1 : Int)) (e3 : bits .and .u64 (Y : Int) 4294967295 = (yn0 : Int)) (e4 : IntKind.u64.wrap ((h : Int) * 2 ^ s) = (hs : Int))
    (e5 : IntKind.u64.wrap ((l : Int) * 2 ^ s) = (u10 : Int)) (e6 : (u10 : Int) / 4294967296 = (u1 : Int)) (e7 : bits .and .u64 (u10 : Int) 4294967295 = (u0 : Int)) (e8 : (l : Int) / 2 ^ (64 - s) = (ls : Int)) (e9 : bits .or .u64 (hs : Int) (ls : Int) = (u32 : Int))
    (hY : Y = yn1 * 4294967296 + yn0) (hYb : Y < 18446744073709551616) (hyn1 : 0 < yn1) (hyn0 : yn0 < 4294967296) (huu1 : u1 < 4294967296) (huu0 : u0 < 4294967296) (h32u32 : u32 < Y)
    (hQ1 : Q1 = (u32 * 4294967296 + u1) / Y) (hU2 : U2 = (u32 * 4294967296 + u1) % Y) (hQ2 : Q2 = (U2 * 4294967296 + u0) / Y) (hR0 : R0 = (U2 * 4294967296 + u0) % Y) (hR : R0 / 2 ^ s = R)
    (HZ : ∀ w, Calls Tryd.prog 66 #[.int .u64 y] w fun e w' => e = .returned (.int .i64 (s : Int)) ∧ w = w') :
    Calls Tryd.prog 53 #[.int .u64 h, .int .u64 l, .int .u64 y] w fun e w' => e = .returned (.tuple #[.int .u64 ((Q1 * 4294967296 + Q2 : Nat) : Int), .int .u64 (R : Int)]) ∧ w = w' := by
  have hz : ((y : Int) == 0) = false := by rw [beq_eq_false_iff_ne]; omega
  have hz2 : ((h : Int) == 0) = false := by rw [beq_eq_false_iff_ne]; omega
  have hz3 : decide ((y : Int) ≤ (h : Int)) = false := by rw [decide_eq_false_iff_not]; omega
  have HY := Lib.hid hY
  have HQQ1 := Lib.hid hQ1
  have HQQ2 := Lib.hid hQ2
  have HU2 := Lib.hid hU2
  have HR := Lib.hid hR
  have HR0 := Lib.hid hR0
  have HZ := Lib.hid HZ
  have h32U2 : U2 < Y := by rw [hU2]; exact Nat.mod_lt _ (by omega)
  clear hQ1 hQ2 hU2 hR hR0
  have hy1 : yn1 < 4294967296 := by omega
  clear hY
  obtain ⟨q1, hq1⟩ : ∃ q, q = u32 / yn1 := ⟨_, rfl⟩
  obtain ⟨p1, hp1⟩ : ∃ p, p = q1 * yn1 := ⟨_, rfl⟩
  have hp1le : p1 ≤ u32 := by rw [hp1, hq1]; exact Nat.div_mul_le_self _ _
  obtain ⟨r1, hr1⟩ : ∃ r, r = u32 - p1 := ⟨_, rfl⟩
  have e10 : (u32 : Int) / (yn1 : Int) = (q1 : Int) := div_cast hq1.symm
  have e11 : (q1 : Int) * (yn1 : Int) = (p1 : Int) := mul_cast hp1.symm
  have e12 : (u32 : Int) - (p1 : Int) = (r1 : Int) := by omega
  have e13 : (p1 : Int) ≤ (u32 : Int) := by omega
  have I1 : Hid (HalfInv Y yn1 u32 u1 q1 r1) := by unfold Hid; rw [hr1, hp1, hq1]; exact half_start HY.out huu1 hyn1
  have q1lt : q1 < 18446744073709551616 := by rw [hq1]; have := Nat.div_le_self u32 yn1; omega
  have r1lt : r1 < 4294967296 := by
    have := Nat.mod_lt u32 hyn1
    have := Nat.div_add_mod u32 yn1
    rw [← hq1, Nat.mul_comm, ← hp1] at this
    omega
  clear hq1 hp1 hr1 hp1le
  go_enter Tryd.func53, Tryd.ntmps53
  go_upto_block 0 with (go_at_call 66; refine (HZ.out _).mono ?_; rintro e w' ⟨rfl, rfl⟩)
  go_cut [15] from 67 to 85 (fun vq wx => vq = .int .u64 Q1 ∧ wx = w)
  case first =>
    go_wp2_with fail
    go_loop [15, 16] (fun vq vr => ∃ q r : Nat, vq = .int .u64 q ∧ vr = .int .u64 r ∧ q < 18446744073709551616 ∧ r < 4294967296 ∧ Hid (HalfInv Y yn1 u32 u1 q r)) (fun vq _ => (intOf vq).toNat)
    case atStart => exact ⟨_, _, rfl, rfl, q1lt, r1lt, I1.out⟩
    case round =>
      obtain ⟨q, r, rfl, rfl, hq, hr, hI⟩ := hrel
      by_cases ht : 4294967296 ≤ q ∨ 4294967296 * r + u1 < q * yn0
      · have hq0 : 0 < q := by
          rcases Nat.eq_zero_or_pos q with e | e
          · subst e
            rcases ht with ht | ht
            · omega
            · rw [Nat.zero_mul] at ht; omega
          · exact e
        obtain ⟨p, rfl⟩ : ∃ p, q = p + 1 := ⟨q - 1, by omega⟩
        have hN : Hid (HalfInv Y yn1 u32 u1 p (r + yn1)) := half_next HY.out huu1 h32u32 hI.out ht
        have d0 : ((p + 1 : Nat) : Int) = (p : Int) + 1 := by omega
        by_cases hb : 4294967296 ≤ r + yn1
        · have hE : Hid (p = Q1) := by unfold Hid; rw [HQQ1.out]; exact half_end HY.out hyn0 h32u32 hN.out (.inr hb)
          by_cases hc : 4294967296 ≤ p + 1
          · have hc' : (4294967296 : Int) ≤ (p : Int) + 1 := by omega
            have hb' : (4294967296 : Int) ≤ (r : Int) + (yn1 : Int) := by omega
            clear ht hb hI hN
            go_wp2
            go_meet
            case rel => exact ⟨by rw [← hE.out], rfl⟩
          · have hc' : ¬ (4294967296 : Int) ≤ (p : Int) + 1 := by omega
            have hb' : (4294967296 : Int) ≤ (r : Int) + (yn1 : Int) := by omega
            obtain ⟨m, k, hm, hk, hm1, hk1, hk2, hm2⟩ := guess_gt (show 4294967296 * r + u1 < (p + 1) * yn0 by omega) hr huu1 (show p + 1 < 4294967296 by omega) hyn0
            clear ht hb hI hN hc
            go_wp2
            go_meet
            case rel => exact ⟨by rw [← hE.out], rfl⟩
        · by_cases hc : 4294967296 ≤ p + 1
          · have hc' : (4294967296 : Int) ≤ (p : Int) + 1 := by omega
            have hb' : ¬ (4294967296 : Int) ≤ (r : Int) + (yn1 : Int) := by omega
            clear ht hI
            go_wp2
            go_round
            case rel => exact ⟨p, r + yn1, by go_num, by go_num, by omega, by omega, hN.out⟩
            case measure => simp [intOf]
          · have hc' : ¬ (4294967296 : Int) ≤ (p : Int) + 1 := by omega
            have hb' : ¬ (4294967296 : Int) ≤ (r : Int) + (yn1 : Int) := by omega
            obtain ⟨m, k, hm, hk, hm1, hk1, hk2, hm2⟩ := guess_gt (show 4294967296 * r + u1 < (p + 1) * yn0 by omega) hr huu1 (show p + 1 < 4294967296 by omega) hyn0
            clear ht hI hc
            go_wp2
            go_round
            case rel => exact ⟨p, r + yn1, by go_num, by go_num, by omega, by omega, hN.out⟩
            case measure => simp [intOf]
      · have hE : Hid (q = Q1) := by unfold Hid; rw [HQQ1.out]; exact half_end HY.out hyn0 h32u32 hI.out (.inl (by omega))
        obtain ⟨m, k, hm, hk, hm1, hk1, hk2, hm2⟩ := guess_le (show q * yn0 ≤ 4294967296 * r + u1 by omega) hr huu1 (show q < 4294967296 by omega) hyn0
        have hc' : ¬ (4294967296 : Int) ≤ (q : Int) := by omega
        clear ht hI
        go_wp2
        go_meet
        case rel => exact ⟨by rw [← hE.out], rfl⟩
  case rest =>
    obtain ⟨rfl, rfl⟩ := hcut
    have f0 : IntKind.u64.wrap (IntKind.u64.wrap (IntKind.u64.wrap ((u32 : Int) * 4294967296) + (u1 : Int)) - IntKind.u64.wrap ((Q1 : Int) * (Y : Int))) = (U2 : Int) := half_left (by rw [HQQ1.out, HU2.out]; exact (Nat.div_add_mod' _ _).symm) (by omega)
    clear e1 e2 e3 e4 e5 e6 e7 e8 e9 e10 e11 e12 e13
    obtain ⟨q2, hq2⟩ : ∃ q, q = U2 / yn1 := ⟨_, rfl⟩
    obtain ⟨p2, hp2⟩ : ∃ p, p = q2 * yn1 := ⟨_, rfl⟩
    have hp2le : p2 ≤ U2 := by rw [hp2, hq2]; exact Nat.div_mul_le_self _ _
    obtain ⟨r2, hr2⟩ : ∃ r, r = U2 - p2 := ⟨_, rfl⟩
    have e10 : (U2 : Int) / (yn1 : Int) = (q2 : Int) := div_cast hq2.symm
    have e11 : (q2 : Int) * (yn1 : Int) = (p2 : Int) := mul_cast hp2.symm
    have e12 : (U2 : Int) - (p2 : Int) = (r2 : Int) := by omega
    have e13 : (p2 : Int) ≤ (U2 : Int) := by omega
    have I2 : Hid (HalfInv Y yn1 U2 u0 q2 r2) := by unfold Hid; rw [hr2, hp2, hq2]; exact half_start HY.out huu0 hyn1
    have q2lt : q2 < 18446744073709551616 := by rw [hq2]; have := Nat.div_le_self U2 yn1; omega
    have r2lt : r2 < 4294967296 := by
      have := Nat.mod_lt U2 hyn1
      have := Nat.div_add_mod U2 yn1
      rw [← hq2, Nat.mul_comm, ← hp2] at this
      omega
    clear hq2 hp2 hr2 hp2le
    go_upto_block 2 with fail
    clear e10 e11 e12 e13 f0
    go_cut [18] from 102 to 120 (fun vq wx => vq = .int .u64 Q2 ∧ wx = wc)
    case first =>
      go_wp2_with fail
      go_loop [18, 16] (fun vq vr => ∃ q r : Nat, vq = .int .u64 q ∧ vr = .int .u64 r ∧ q < 18446744073709551616 ∧ r < 4294967296 ∧ Hid (HalfInv Y yn1 U2 u0 q r)) (fun vq _ => (intOf vq).toNat)
      case atStart => exact ⟨_, _, rfl, rfl, q2lt, r2lt, I2.out⟩
      case round =>
        obtain ⟨q, r, rfl, rfl, hq, hr, hI⟩ := hrel
        by_cases ht : 4294967296 ≤ q ∨ 4294967296 * r + u0 < q * yn0
        · have hq0 : 0 < q := by
            rcases Nat.eq_zero_or_pos q with e | e
            · subst e
              rcases ht with ht | ht
              · omega
              · rw [Nat.zero_mul] at ht; omega
            · exact e
          obtain ⟨p, rfl⟩ : ∃ p, q = p + 1 := ⟨q - 1, by omega⟩
          have hN : Hid (HalfInv Y yn1 U2 u0 p (r + yn1)) := half_next HY.out huu0 h32U2 hI.out ht
          have d0 : ((p + 1 : Nat) : Int) = (p : Int) + 1 := by omega
          by_cases hb : 4294967296 ≤ r + yn1
          · have hE : Hid (p = Q2) := by unfold Hid; rw [HQQ2.out]; exact half_end HY.out hyn0 h32U2 hN.out (.inr hb)
            by_cases hc : 4294967296 ≤ p + 1
            · have hc' : (4294967296 : Int) ≤ (p : Int) + 1 := by omega
              have hb' : (4294967296 : Int) ≤ (r : Int) + (yn1 : Int) := by omega
              clear ht hb hI hN
              go_wp2
              go_meet
              case rel => exact ⟨by rw [← hE.out], rfl⟩
            · have hc' : ¬ (4294967296 : Int) ≤ (p : Int) + 1 := by omega
              have hb' : (4294967296 : Int) ≤ (r : Int) + (yn1 : Int) := by omega
              obtain ⟨m, k, hm, hk, hm1, hk1, hk2, hm2⟩ := guess_gt (show 4294967296 * r + u0 < (p + 1) * yn0 by omega) hr huu0 (show p + 1 < 4294967296 by omega) hyn0
              clear ht hb hI hN hc
              go_wp2
              go_meet
              case rel => exact ⟨by rw [← hE.out], rfl⟩
          · by_cases hc : 4294967296 ≤ p + 1
            · have hc' : (4294967296 : Int) ≤ (p : Int) + 1 := by omega
              have hb' : ¬ (4294967296 : Int) ≤ (r : Int) + (yn1 : Int) := by omega
              clear ht hI
              go_wp2
              go_round
              case rel => exact ⟨p, r + yn1, by go_num, by go_num, by omega, by omega, hN.out⟩
              case measure => simp [intOf]
            · have hc' : ¬ (4294967296 : Int) ≤ (p : Int) + 1 := by omega
              have hb' : ¬ (4294967296 : Int) ≤ (r : Int) + (yn1 : Int) := by omega
              obtain ⟨m, k, hm, hk, hm1, hk1, hk2, hm2⟩ := guess_gt (show 4294967296 * r + u0 < (p + 1) * yn0 by omega) hr huu0 (show p + 1 < 4294967296 by omega) hyn0
              clear ht hI hc
              go_wp2
              go_round
              case rel => exact ⟨p, r + yn1, by go_num, by go_num, by omega, by omega, hN.out⟩
              case measure => simp [intOf]
        · have hE : Hid (q = Q2) := by unfold Hid; rw [HQQ2.out]; exact half_end HY.out hyn0 h32U2 hI.out (.inl (by omega))
          obtain ⟨m, k, hm, hk, hm1, hk1, hk2, hm2⟩ := guess_le (show q * yn0 ≤ 4294967296 * r + u0 by omega) hr huu0 (show q < 4294967296 by omega) hyn0
          have hc' : ¬ (4294967296 : Int) ≤ (q : Int) := by omega
          clear ht hI
          go_wp2
          go_meet
          case rel => exact ⟨by rw [← hE.out], rfl⟩
    case rest =>
      obtain ⟨rfl, rfl⟩ := hcut
      have f1 : IntKind.u64.wrap (IntKind.u64.wrap (IntKind.u64.wrap ((U2 : Int) * 4294967296) + (u0 : Int)) - IntKind.u64.wrap ((Q2 : Int) * (Y : Int))) = (R0 : Int) := half_left (by rw [HQQ2.out, HR0.out]; exact (Nat.div_add_mod' _ _).symm) (by have := Nat.mod_lt (U2 * 4294967296 + u0) (show 0 < Y by omega); rw [HR0.out]; omega)
      have f2 : (R0 : Int) / 2 ^ s = (R : Int) := shr_cast HR.out
      have q1b : Q1 < 4294967296 := by rw [HQQ1.out]; exact half_qlt huu1 h32u32
      have q2b : Q2 < 4294967296 := by rw [HQQ2.out]; exact half_qlt huu0 h32U2
      go_wp2_with fail
      go_ret2
      exact ⟨by rw [Int.natCast_add, Int.natCast_mul]; rfl, rfl⟩
end Go.Proofs.YtfijhkaalpinhaaDoor
