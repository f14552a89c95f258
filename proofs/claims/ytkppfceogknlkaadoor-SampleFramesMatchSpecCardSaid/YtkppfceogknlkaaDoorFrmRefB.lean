/-
  of, clusters, sizes and total of the reference.
-/
import Derived.Test.YtkppfceogknlkaaDoorFrmRef
namespace Go.Proofs.YtkppfceogknlkaaDoor
open Go.RowKit Go.WideMaps Go.Maps

theorem neqB {a b : ByteArray} (h : a ≠ b) : (a.toList == b.toList) = false := by
  rw [beq_eq_false_iff_ne]
  intro e
  rw [Lib.toList_data, Lib.toList_data] at e
  exact h (by rw [← bs_of a, ← bs_of b, e])
theorem ownU_hit {l : List Un} {x : List UInt8} {k : Nat} (h : k < l.length) (e : sk (un l k) = x) : ownU (l.take (k + 1)) x = ownU (l.take k) x ++ [un l k] := by
  unfold ownU
  rw [take_un l h, List.filter_append]
  simp [e]
theorem ownU_miss {l : List Un} {x : List UInt8} {k : Nat} (h : k < l.length) (e : sk (un l k) ≠ x) : ownU (l.take (k + 1)) x = ownU (l.take k) x := by
  unfold ownU
  rw [take_un l h, List.filter_append]
  simp [e]
theorem ownU_len (l : List Un) (x : List UInt8) : (ownU l x).length ≤ l.length := List.length_filter_le _ _
def urow (us : List Un) : List Value := us.flatMap ucells
theorem urow_snoc (us : List Un) (u : Un) : urow (us ++ [u]) = urow us ++ ucells u := by unfold urow; rw [List.flatMap_append]; simp
theorem urow_at : ∀ (us : List Un) (j : Nat), j < us.length → ∀ i, i < 4 → (urow us)[j * 4 + i]? = (ucells (un us j))[i]?
  | [], _, h, _, _ => by simp at h
  | u :: us, 0, _, i, hi => by
    show (ucells u ++ urow us)[0 * 4 + i]? = _
    rw [Nat.zero_mul, Nat.zero_add, List.getElem?_append_left (by simpa [ucells] using hi)]
    rfl
  | u :: us, j + 1, h, i, hi => by
    show (ucells u ++ urow us)[(j + 1) * 4 + i]? = _
    rw [List.getElem?_append_right (by simp only [ucells, List.length_cons, List.length_nil]; omega)]
    rw [show (j + 1) * 4 + i - (ucells u).length = j * 4 + i by simp only [ucells, List.length_cons, List.length_nil]; omega]
    rw [urow_at us j (by simpa using h) i hi]
    rfl
/-- A row of the call's own that holds units reads as them. -/
theorem rdU_own {W : World} {base : Nat} {v : Value} {us : List Un} (h : W.ownsRow base 47 4 v us.length (urow us)) (hn : us.length ≤ 5000) : ∃ a c, v = .slice a us.length c ∧ RdU W a us := by
  rcases h.2 with ⟨rfl, h0⟩ | ⟨g, cap, cur, rfl, hbase, hb, h1, h2, h3, h4⟩
  · exact ⟨none, 0, by rw [h0], by omega, fun h => by omega⟩
  · refine ⟨_, _, rfl, by omega, fun _ => ⟨g, 0, rfl, (Array.getElem?_eq_some_iff.1 hb).1, fun j hj => ?_⟩⟩
    have key : ∀ i, i < 4 → W.cell? ⟨g, j * 4 + i, none⟩ = (ucells (un us j))[i]? := fun i hi => by rw [h.cellAt _ (by omega), urow_at us j hj i hi]
    rw [Nat.zero_add]
    exact ⟨key 0 (by omega), key 1 (by omega), key 2 (by omega), key 3 (by omega)⟩
set_option maxHeartbeats 2000000 in
theorem of_c (a : Option Addr) (c : Nat) (l : List Un) (x : List UInt8) (w : World) (hl : RdU w a l) (h5 : l.length ≤ 5000) :
    Calls Tryd.prog 13 #[.slice a l.length c, .string (bs x)] w fun e w' => ∃ a' c', e = .returned (.slice a' (ownU l x).length c') ∧ RdU w' a' (ownU l x) ∧ Below w.heap.size w w' := by
  obtain ⟨i0, hi, hz0, hz1, hz2⟩ := info_parts infoU
  have HL := Lib.hid hl
  clear hl
  obtain ⟨kb, hkb⟩ : ∃ kb, bs x = kb := ⟨_, rfl⟩
  rw [hkb]
  have HK := Lib.hid hkb
  clear hkb
  go_enter Tryd.func13, Tryd.ntmps13
  go_wp2
  go_loopw [5, 10] (fun o i wr => ∃ k : Nat, k ≤ l.length ∧ i = .int .i64 k ∧ Hid (wr.ownsRow w.heap.size 47 4 o (ownU (l.take k) x).length (urow (ownU (l.take k) x)) ∧ Below w.heap.size w wr)) (fun _ i _ => l.length - (intOf i).toNat)
  case atStart => exact ⟨0, Nat.zero_le _, rfl, by simpa [ownU, urow] using World.ownsRow_nil _ _ _ _, Below.refl _ _⟩
  case round =>
    obtain ⟨k, hk, rfl, hR⟩ := hrel
    by_cases hlt : k < l.length
    · obtain ⟨b, off, rfl, u0, u1, u2, u3⟩ := (HL.out.below hR.out.2).at_ hlt
      have hlt' : (k : Int) < (l.length : Int) := by omega
      have HH := Lib.hid (ownU_hit (x := x) hlt)
      have HM := Lib.hid (ownU_miss (x := x) hlt)
      have hol : (ownU (l.take k) x).length ≤ 5000 := Nat.le_trans (ownU_len _ _) (by simp; omega)
      generalize un l k = uu at *
      obtain ⟨id, st, cl, sz⟩ := uu
      dsimp only at *
      obtain ⟨W1, hW1⟩ : ∃ W1, wr.alloc (.cells #[.int .i64 id, .string st, .int .i64 cl, .int .i64 sz] 47) = W1 := ⟨_, rfl⟩
      obtain ⟨q0, q1, v0, v1, v2, v3⟩ := ub_at wr ⟨id, st, cl, sz⟩ W1 hW1
      dsimp only at v0 v1 v2 v3
      have B1 := Lib.hid q0
      have Z1 := Lib.hid q1
      clear q0 q1
      have hO := Lib.hid (own_keep hR.out.1 B1.out)
      have hBB := Lib.hid (hR.out.2.trans (B1.out.mono hR.out.2.size))
      by_cases he : st = kb
      · have hsx : sk ⟨id, st, cl, sz⟩ = x := by unfold sk; rw [he, ← HK.out, bs_list]
        have HH2 := Lib.hid (HH.out hsx)
        subst he
        clear HH HM hsx
        go_wp2_with (at_builtin; refine wpList_append_own _ rfl _ _ 22 rfl w.heap.size 47 i0 (.agg #[.int .i64 0, .string ⟨#[]⟩, .int .i64 0, .int .i64 0]) 4 40 Tryd.underlying22 hi hz0 hz1 hz2 rfl (by decide) _ _ _ rfl (hO.out.alloc _) ⟨W1.heap.size, 0, none⟩ 1 1 [.int .i64 id, .string st, .int .i64 cl, .int .i64 sz] rfl rfl (cell_four_new _ _ _ _ _ _) (by simp [Value.oneCell']) ?c3 ?c4 ?c5 ?_)
        case c3 => unfold maxLen; omega
        case c4 => omega
        case c5 => have := hBB.out.size; simp; omega
        intro v' w4 hown' hgrow _
        have NX : Hid (w4.ownsRow w.heap.size 47 4 v' (ownU (l.take (k + 1)) x).length (urow (ownU (l.take (k + 1)) x)) ∧ Below w.heap.size w w4) := by
          refine ⟨by rw [HH2.out, List.length_append, urow_snoc]; exact hown', ?_⟩
          have hs := hBB.out.size
          exact (hBB.out.trans ((bel_one W1 _).mono hs)).grown hgrow (by simp; omega) (fun g hg => (hO.out.lt g hg).1)
        clear hown' hgrow hO hR
        go_wp2
        go_roundw
        case rel => exact ⟨k + 1, by omega, by go_num, NX.out⟩
        case measure => simp [intOf]; omega
      · have hsx : sk ⟨id, st, cl, sz⟩ ≠ x := fun h => he (by rw [← HK.out, ← h]; exact (bs_of st).symm)
        have HM2 := Lib.hid (HM.out hsx)
        have heq := neqB he
        clear HH HM hsx he
        have NX : Hid (W1.ownsRow w.heap.size 47 4 u5 (ownU (l.take (k + 1)) x).length (urow (ownU (l.take (k + 1)) x)) ∧ Below w.heap.size w W1) := ⟨by rw [HM2.out]; exact hO.out, hBB.out⟩
        clear hO hR
        go_wp2
        go_roundw
        case rel => exact ⟨k + 1, by omega, by go_num, NX.out⟩
        case measure => simp [intOf]; omega
    · obtain rfl : k = l.length := by omega
      have R := hR.out.1
      rw [List.take_length] at R
      obtain ⟨a', c', rfl, hr⟩ := rdU_own R (Nat.le_trans (ownU_len _ _) h5)
      have RR := Lib.hid hr
      have BB := Lib.hid hR.out.2
      clear R hr hR hlt
      go_wp2
      go_ret
      exact ⟨a', c', rfl, RR.out, BB.out⟩
set_option maxHeartbeats 2000000 in
theorem clusters_c (a : Option Addr) (c : Nat) (l : List Un) (w : World) (hl : RdU w a l) (h5 : l.length ≤ 5000) :
    Calls Tryd.prog 14 #[.slice a l.length c] w fun e w' => ∃ a' c', e = .returned (.slice a' (cluN l).length c') ∧ Below w.heap.size w w' := by
  obtain ⟨i0, hi, hz0, hz1, hz2⟩ := info_parts infoI
  have HL := Lib.hid hl
  clear hl
  go_enter Tryd.func14, Tryd.ntmps14
  go_wp2
  go_loopw [3, 8] (fun o i wr => ∃ k : Nat, k ≤ l.length ∧ i = .int .i64 k ∧ Hid (wr.ownsRow w.heap.size 3 1 o k (irow (·.cl) l k) ∧ Below w.heap.size w wr)) (fun _ i _ => l.length - (intOf i).toNat)
  case atStart => exact ⟨0, Nat.zero_le _, rfl, World.ownsRow_nil _ _ _ _, Below.refl _ _⟩
  case round =>
    obtain ⟨k, hk, rfl, hR⟩ := hrel
    by_cases hlt : k < l.length
    · obtain ⟨b, off, rfl, u0, u1, u2, u3⟩ := (HL.out.below hR.out.2).at_ hlt
      have hlt' : (k : Int) < (l.length : Int) := by omega
      have HN := Lib.hid (irow_succ (·.cl) l hlt)
      generalize un l k = uu at *
      obtain ⟨id, st, cl, sz⟩ := uu
      dsimp only at *
      obtain ⟨W1, hW1⟩ : ∃ W1, wr.alloc (.cells #[.int .i64 id, .string st, .int .i64 cl, .int .i64 sz] 47) = W1 := ⟨_, rfl⟩
      obtain ⟨q0, q1, v0, v1, v2, v3⟩ := ub_at wr ⟨id, st, cl, sz⟩ W1 hW1
      dsimp only at v0 v1 v2 v3
      have B1 := Lib.hid q0
      have Z1 := Lib.hid q1
      clear q0 q1
      have hO := Lib.hid (own_keep hR.out.1 B1.out)
      have hBB := Lib.hid (hR.out.2.trans (B1.out.mono hR.out.2.size))
      go_wp2_with (at_builtin; refine wpList_append_own _ rfl _ _ 34 rfl w.heap.size 3 i0 (.int .i64 0) 1 8 Tryd.underlying34 hi hz0 hz1 hz2 rfl (by decide) _ _ _ rfl (hO.out.alloc _) ⟨W1.heap.size, 0, none⟩ 1 1 [.int .i64 cl] rfl rfl (cell_one_new _ _ _) ?c2 ?c3 ?c4 ?c5 ?_)
      case c2 => intro u hu; simp at hu; subst hu; rfl
      case c3 => unfold maxLen; omega
      case c4 => omega
      case c5 => have := hBB.out.size; simp; omega
      intro v' w4 hown' hgrow _
      have NX : Hid (w4.ownsRow w.heap.size 3 1 v' (k + 1) (irow (·.cl) l (k + 1)) ∧ Below w.heap.size w w4) := by
        refine ⟨by rw [HN.out]; exact hown', ?_⟩
        have hs := hBB.out.size
        exact (hBB.out.trans ((bel_one W1 _).mono hs)).grown hgrow (by simp; omega) (fun g hg => (hO.out.lt g hg).1)
      clear hown' hgrow hO hR
      go_wp2
      go_roundw
      case rel => exact ⟨k + 1, by omega, by go_num, NX.out⟩
      case measure => simp [intOf]; omega
    · obtain rfl : k = l.length := by omega
      clear hlt
      have R0 : Hid (wr.ownsRow w.heap.size 3 1 u3 (l.map (·.cl)).length ((l.map (·.cl)).map (Value.int .i64))) := by
        have := hR.out.1
        unfold Hid
        unfold irow at this
        rw [List.take_length] at this
        simpa using this
      have hll : (l.map (·.cl)).length ≤ 5000 := by simpa using h5
      have BR := Lib.hid hR.out.2
      clear hR
      go_wp2_with fail
      refine (sortI_c w.heap.size u3 (l.map (·.cl)) wr R0.out hll).mono ?_
      rintro e w2 ⟨rfl, R1, G1⟩
      have B2 := Lib.hid (BR.out.grown G1 BR.out.size (fun g hg => (R0.out.lt g hg).1))
      have hlm : (l.map (·.cl)).length = ((l.map (·.cl)).mergeSort leN).length := by simp
      rw [hlm] at R1
      have R2 := Lib.hid R1
      have hll2 : ((l.map (·.cl)).mergeSort leN).length ≤ 5000 := by simpa using h5
      clear R1 G1 R0 BR
      go_wp2_with fail
      refine (compactI_c w.heap.size u3 _ w2 R2.out hll2 B2.out.size).mono ?_
      rintro e w3 ⟨a', c', rfl, b3⟩
      have R := Lib.hid (show Below w.heap.size w w3 from B2.out.trans b3)
      clear b3
      go_wp2
      go_ret
      exact ⟨a', c', rfl, R.out⟩
theorem rd_own {W : World} {base : Nat} {v : Value} {zs : List Int} (h : W.ownsRow base 3 1 v zs.length (zs.map (Value.int .i64))) (hn : zs.length ≤ 5000) : ∃ a c, v = .slice a zs.length c ∧ Rd W a zs := by
  rcases h.2 with ⟨rfl, h0⟩ | ⟨g, cap, cur, rfl, hbase, hb, h1, h2, h3, h4⟩
  · exact ⟨none, 0, by rw [h0], by omega, fun h => by omega⟩
  · refine ⟨_, _, rfl, by omega, fun _ => ⟨g, 0, rfl, (Array.getElem?_eq_some_iff.1 hb).1, fun j hj => ?_⟩⟩
    rw [Nat.zero_add, h.cellAt j (by omega)]
    unfold fn
    simp [List.getD, List.getElem?_eq_getElem hj]
set_option maxHeartbeats 2000000 in
theorem sizes_c (a : Option Addr) (c : Nat) (l : List Un) (w : World) (hl : RdU w a l) (h5 : l.length ≤ 5000) :
    Calls Tryd.prog 16 #[.slice a l.length c] w fun e w' => ∃ a' c', e = .returned (.slice a' l.length c') ∧ Rd w' a' (l.map (·.sz)) ∧ Below w.heap.size w w' := by
  obtain ⟨i0, hi, hz0, hz1, hz2⟩ := info_parts infoI
  have HL := Lib.hid hl
  clear hl
  go_enter Tryd.func16, Tryd.ntmps16
  go_wp2
  go_loopw [3, 8] (fun o i wr => ∃ k : Nat, k ≤ l.length ∧ i = .int .i64 k ∧ Hid (wr.ownsRow w.heap.size 3 1 o k (irow (·.sz) l k) ∧ Below w.heap.size w wr)) (fun _ i _ => l.length - (intOf i).toNat)
  case atStart => exact ⟨0, Nat.zero_le _, rfl, World.ownsRow_nil _ _ _ _, Below.refl _ _⟩
  case round =>
    obtain ⟨k, hk, rfl, hR⟩ := hrel
    by_cases hlt : k < l.length
    · obtain ⟨b, off, rfl, u0, u1, u2, u3⟩ := (HL.out.below hR.out.2).at_ hlt
      have hlt' : (k : Int) < (l.length : Int) := by omega
      have HN := Lib.hid (irow_succ (·.sz) l hlt)
      generalize un l k = uu at *
      obtain ⟨id, st, cl, sz⟩ := uu
      dsimp only at *
      obtain ⟨W1, hW1⟩ : ∃ W1, wr.alloc (.cells #[.int .i64 id, .string st, .int .i64 cl, .int .i64 sz] 47) = W1 := ⟨_, rfl⟩
      obtain ⟨q0, q1, v0, v1, v2, v3⟩ := ub_at wr ⟨id, st, cl, sz⟩ W1 hW1
      dsimp only at v0 v1 v2 v3
      have B1 := Lib.hid q0
      have Z1 := Lib.hid q1
      clear q0 q1
      have hO := Lib.hid (own_keep hR.out.1 B1.out)
      have hBB := Lib.hid (hR.out.2.trans (B1.out.mono hR.out.2.size))
      go_wp2_with (at_builtin; refine wpList_append_own _ rfl _ _ 34 rfl w.heap.size 3 i0 (.int .i64 0) 1 8 Tryd.underlying34 hi hz0 hz1 hz2 rfl (by decide) _ _ _ rfl (hO.out.alloc _) ⟨W1.heap.size, 0, none⟩ 1 1 [.int .i64 sz] rfl rfl (cell_one_new _ _ _) ?c2 ?c3 ?c4 ?c5 ?_)
      case c2 => intro u hu; simp at hu; subst hu; rfl
      case c3 => unfold maxLen; omega
      case c4 => omega
      case c5 => have := hBB.out.size; simp; omega
      intro v' w4 hown' hgrow _
      have NX : Hid (w4.ownsRow w.heap.size 3 1 v' (k + 1) (irow (·.sz) l (k + 1)) ∧ Below w.heap.size w w4) := by
        refine ⟨by rw [HN.out]; exact hown', ?_⟩
        have hs := hBB.out.size
        exact (hBB.out.trans ((bel_one W1 _).mono hs)).grown hgrow (by simp; omega) (fun g hg => (hO.out.lt g hg).1)
      clear hown' hgrow hO hR
      go_wp2
      go_roundw
      case rel => exact ⟨k + 1, by omega, by go_num, NX.out⟩
      case measure => simp [intOf]; omega
    · obtain rfl : k = l.length := by omega
      clear hlt
      have R0 : wr.ownsRow w.heap.size 3 1 u3 (l.map (·.sz)).length ((l.map (·.sz)).map (Value.int .i64)) := by
        have := hR.out.1
        unfold irow at this
        rw [List.take_length] at this
        simpa using this
      obtain ⟨a', c', rfl, hr⟩ := rd_own R0 (by simpa using h5)
      rw [List.length_map]
      have RR := Lib.hid hr
      have BR := Lib.hid hR.out.2
      clear hR R0 hr
      go_wp2
      go_ret
      exact ⟨a', c', rfl, RR.out, BR.out⟩
def psum (zs : List Int) (k : Nat) : Int := (zs.take k).sum
theorem psum_succ (zs : List Int) {k : Nat} (h : k < zs.length) : psum zs (k + 1) = psum zs k + fn zs k := by
  unfold psum fn
  rw [List.take_add_one, List.getElem?_eq_getElem h, List.sum_append]
  simp [List.getD, List.getElem?_eq_getElem h]
theorem psum_bd {zs : List Int} (hb : ∀ z, z ∈ zs → 0 ≤ z ∧ z ≤ 1000000) : ∀ k, k ≤ zs.length → 0 ≤ psum zs k ∧ psum zs k ≤ k * 1000000
  | 0, _ => by simp [psum]
  | k + 1, h => by
    have t := psum_bd hb k (by omega)
    have g := hb (fn zs k) (by unfold fn; rw [List.getD, List.getElem?_eq_getElem (show k < zs.length by omega)]; simp)
    rw [psum_succ zs (by omega)]
    omega
set_option maxHeartbeats 1000000 in
theorem total_c (a : Option Addr) (c n : Nat) (zs : List Int) (w : World) (hp : Rd w a zs) (hz : n = zs.length) (hb : ∀ z, z ∈ zs → 0 ≤ z ∧ z ≤ 1000000) (hn : zs.length ≤ 5000) :
    Calls Tryd.prog 15 #[.slice a n c] w fun e w' => e = .returned (.int .i64 zs.sum) ∧ w' = w := by
  subst hz
  have HP := Lib.hid hp
  have HB := Lib.hid (psum_bd hb)
  clear hp hb
  go_enter Tryd.func15, Tryd.ntmps15
  go_wp2
  go_loop [3, 8] (fun s i => ∃ k : Nat, k ≤ zs.length ∧ i = .int .i64 k ∧ s = .int .i64 (psum zs k)) (fun _ i => zs.length - (intOf i).toNat)
  case atStart => exact ⟨0, Nat.zero_le _, rfl, rfl⟩
  case round =>
    obtain ⟨k, hk, rfl, rfl⟩ := hrel
    by_cases hlt : k < zs.length
    · obtain ⟨b, off, rfl, hc⟩ := HP.out.at_ hlt
      have h1 := HB.out k hk
      have h2 := HB.out (k + 1) hlt
      have hN := Lib.hid (psum_succ zs hlt)
      rw [psum_succ zs hlt] at h2
      generalize fn zs k = z at *
      generalize psum zs k = s at *
      have hlt' : (k : Int) < (zs.length : Int) := by omega
      go_wp2
      go_round
      case rel => exact ⟨k + 1, by omega, by go_num, by rw [hN.out]⟩
      case measure => simp [intOf]; omega
    · obtain rfl : k = zs.length := by omega
      have e : Hid (psum zs zs.length = zs.sum) := by unfold Hid psum; rw [List.take_length]
      go_wp2
      go_ret
      exact ⟨by rw [e.out]; rfl, rfl⟩
end Go.Proofs.YtkppfceogknlkaaDoor
