/-
  EditPlansMatchSpec: setsText of package edit.
-/
import Derived.Test.YtpoaikbedcfgaaaDoorEdTm
import Derived.Deep.RegionHeld3
import Derived.Deep.AppendLies
namespace Go.Proofs.YtpoaikbedcfgaaaDoor
open Go.RowKit Go.WideMaps Go.Maps

def ceT (t : List UInt8) : Value := .string (bs t)
theorem lens_le2 (n : Nat) (xs : List (List UInt8)) (h : ∀ x ∈ xs, x.length ≤ n) : (Lib.join xs [59]).length ≤ xs.length + n * xs.length := by
  cases xs with
  | nil => simp [Lib.join_nil]
  | cons x r =>
    rw [Lib.join_length]
    have := lens_le n (x :: r) h
    simp only [List.length_cons, List.length_nil] at this ⊢
    omega
theorem join2_c (o : Value) (base : Nat) (xs : List (List UInt8)) (w : World) (hx : ∀ x ∈ xs, x.length ≤ 600) (hn : xs.length ≤ 12) (h : w.ownsRow base 9 1 o xs.length (xs.map ceT)) :
    Calls Tryd.prog 15 #[o, .string ⟨#[59]⟩] w (TP (Lib.join xs [59]) w) := by
  have hl := lens_le2 600 xs hx
  by_cases h0 : xs.length = 0
  · obtain rfl : xs = [] := List.eq_nil_of_length_eq_zero h0
    obtain ⟨_, ⟨e, _⟩ | ⟨g, cap, cur, e, _⟩⟩ := h
    · subst e
      exact (Tryd.strings_Join_none none 0 ⟨#[59]⟩ w).mono fun _ _ ⟨he, hw⟩ => tp_of he (by simp [Lib.join_nil]) (by rw [hw]; exact Below.refl _ _)
    · subst e
      exact (Tryd.strings_Join_none (some ⟨g, 0, none⟩) cap ⟨#[59]⟩ w).mono fun _ _ ⟨he, hw⟩ => tp_of he (by simp [Lib.join_nil]) (by rw [hw]; exact Below.refl _ _)
  · obtain ⟨g, cap, e, hcap, hg⟩ : ∃ g cap, o = .slice (some ⟨g, 0, none⟩) xs.length cap ∧ xs.length ≤ cap ∧ g < w.heap.size := by
      have hlt := fun k hk => (h.lt k hk).2
      obtain ⟨_, h | ⟨g, cap, cur, e, _, _, hnc, _⟩⟩ := h
      · omega
      · exact ⟨g, cap, e, hnc, hlt g (by rw [e]; rfl)⟩
    subst e
    have hm : (xs.map bs).map (·.data.toList) = xs := by
      rw [List.map_map]
      conv => rhs; rw [← List.map_id xs]
      exact List.map_congr_left fun x _ => bs_list x
    have J := Tryd.strings_Join g 0 cap (xs.map bs) ⟨#[59]⟩ w (fun j x hj => by
      rw [List.getElem?_map] at hj
      obtain ⟨y, hy, rfl⟩ := Option.map_eq_some_iff.1 hj
      have hj' : j < xs.length := (List.getElem?_eq_some_iff.1 hy).1
      have := h.cellAt j (by omega)
      rw [Nat.zero_add, this, List.getElem?_map, hy]; rfl) hg (by rw [List.length_map]; omega) (by rw [List.length_map]; omega) (by
        rw [hm]; show (Lib.join xs [59]).length ≤ _; omega)
    rw [hm, List.length_map] at J
    exact J.mono fun _ _ ⟨he, hb⟩ => tp_of he (by omega) hb
/-- The cells that a part's text is made of. -/
def SS (g : Nat) (nm : ByteArray) (b o : Nat) (a : Option Addr) (n c : Nat) (W : World) : Prop :=
  W.cell? ⟨g, 0, none⟩ = some (.string nm) ∧ W.cell? ⟨b, o, none⟩ = some (.slice a n c)
theorem pTs_len (l : List Fd) (L : List (List Int)) : ∀ k, (pTs l L k).length ≤ k
  | 0 => Nat.le_refl _
  | k + 1 => by
    have h := pTs_len l L k
    unfold pTs
    split
    · simp; omega
    · omega
theorem pTs_each {l : List Fd} {L : List (List Int)} : ∀ {k : Nat}, (∀ i, i < k → (fd l i).nm.size ≤ 16 ∧ Cod (st L i)) → ∀ x ∈ pTs l L k, x.length ≤ 600
  | 0, _, x, hx => by simp [pTs] at hx
  | k + 1, h, x, hx => by
    have h1 := pTs_each (k := k) (fun i hi => h i (by omega)) x
    unfold pTs at hx
    split at hx
    · rcases List.mem_append.1 hx with e | e
      · exact h1 e
      · simp at e
        subst e
        have h2 := h k (by omega)
        have h3 := h2.2.size
        have h4 := size_list (fd l k).nm
        unfold pT
        simp only [List.length_append, List.length_cons, List.length_nil]
        omega
    · exact h1 hx
set_option maxRecDepth 100000 in
set_option maxHeartbeats 4000000 in
theorem setsText_c (a : Option Addr) (c : Nat) (l : List Fd) (a2 : Option Addr) (c2 : Nat) (L : List (List Int)) (w : World) (hl : RdF w a l) (hL : RdL w a2 L) (hlen : L.length = l.length) (h12 : l.length ≤ 12) (hgood : ∀ i, i < l.length → (fd l i).nm.size ≤ 16 ∧ Cod (st L i)) (hPow : Pow w) :
    Calls Tryd.prog 11 #[.slice a l.length c, .slice a2 L.length c2] w (TP (sT l L) w) := by
  obtain ⟨i0, hi, hz0, hz1x, hz2x⟩ := info_parts infoS
  have h9 := hl.1
  have HL := Lib.hid hl
  have HLL := Lib.hid hL
  have HG := Lib.hid hgood
  have HW := Lib.hid hPow
  have H12 := Lib.hid h12
  have HLEN := Lib.hid hlen
  clear hl hL hgood hPow hlen h12
  go_enter Tryd.func11, Tryd.ntmps11
  go_wp2
  go_loopw [5, 10] (fun o i wr => ∃ k : Nat, k ≤ l.length ∧ i = .int .i64 k ∧ Hid (wr.ownsRow w.heap.size 9 1 o (pTs l L k).length ((pTs l L k).map ceT) ∧ Below w.heap.size w wr)) (fun _ i _ => l.length - (intOf i).toNat)
  case atStart => exact ⟨0, Nat.zero_le _, rfl, World.ownsRow_nil _ _ _ _, Below.refl _ _⟩
  case round =>
    obtain ⟨k, hk, rfl, hR⟩ := hrel
    by_cases hlt : k < l.length
    · obtain ⟨b, off, rfl, u0, ⟨a', c', u1, _⟩, u2⟩ := (HL.out.below hR.out.2).at_ hlt
      have hlL : k < L.length := by rw [HLEN.out]; exact hlt
      obtain ⟨b2, off2, a4, c4, rfl, u4, hst⟩ := (HLL.out.below hR.out.2).at_ hlL
      have HST := Lib.hid hst
      have h8 := hst.1
      have hb2 : Hid (b2 < wr.heap.size) := by
        obtain ⟨b', off', e, hb, _⟩ := (HLL.out.below hR.out.2).2 (by omega)
        injection e with e; injection e with e1 e2; subst e1; exact hb
      have HB2N : Hid (∀ g, u5.ownBlock = some g → w.heap.size ≤ g) := fun g hg => (hR.out.1.lt g hg).1
      have hb2w : Hid (b2 < w.heap.size) := by
        obtain ⟨b', off', e, hb, _⟩ := HLL.out.2 (by omega)
        injection e with e; injection e with e1 e2; subst e1; exact hb
      clear hst
      have hlt' : (k : Int) < (l.length : Int) := by omega
      have hlL' : (k : Int) < (L.length : Int) := by omega
      obtain ⟨W4, hW4⟩ : ∃ W4, wr.alloc (.cells #[.string (fd l k).nm, .slice a' (fd l k).cs.length c', .int .i64 (fd l k).wt] 37) = W4 := ⟨_, rfl⟩
      have B4 : Hid (Below wr.heap.size wr W4 ∧ W4.heap.size = wr.heap.size + 1 ∧ W4.cell? ⟨wr.heap.size, 0, none⟩ = some (.string (fd l k).nm) ∧ W4.cell? ⟨wr.heap.size, 1, none⟩ = some (.slice a' (fd l k).cs.length c')) := by
        unfold Hid
        rw [← hW4]
        exact ⟨bel_one _ _, by simp, by rw [World.cell?_alloc_at _ _ _ _ rfl]; rfl, by rw [World.cell?_alloc_at _ _ _ _ rfl]; rfl⟩
      have U4 : Hid (W4.cell? ⟨b2, off2 + k, none⟩ = some (.slice a4 (st L k).length c4)) := (B4.out.1.cell (p := ⟨b2, off2 + k, none⟩) hb2.out).trans u4
      have v1 := B4.out.2.2.2
      have v2 := U4.out
      by_cases hcd : (st L k).length < (fd l k).cs.length
      · have hI : ((st L k).length : Int) < ((fd l k).cs.length : Int) := by omega
        go_wp2_with fail
        go_quiet (fail)
        clear hW4 v1 v2 u0 u1 u2 u4 hI
        have D5 : Hid (Below W4.heap.size W4 (W4.drewN nq)) := by unfold Hid; first | exact below_drewN (Below.refl _ _) _ | exact below_drewN _ _ | exact Go.below_drewN (Below.refl _ _) _ | exact Go.Lib.below_drewN (Below.refl _ _) _
        generalize W4.drewN nq = W5 at D5 ⊢
        have BW5 : Hid (Below w.heap.size w W5) := hR.out.2.trans ((B4.out.1.trans (D5.out.mono B4.out.1.size)).mono hR.out.2.size)
        have GD := Lib.hid (HG.out k hlt)
        have hps : Hid (pTs l L (k + 1) = pTs l L k ++ [pT l L k]) := by unfold Hid; show (if _ then _ else _) = _; rw [if_pos hcd]
        have HSS : Hid (∀ V, Below W5.heap.size W5 V → SS wr.heap.size (fd l k).nm b2 (off2 + k) a4 (st L k).length c4 V) := fun V hb => by
          have hl : wr.heap.size < W5.heap.size := by have := B4.out.2.1; have := D5.out.size; omega
          have hl2 : b2 < W5.heap.size := by have := hb2.out; omega
          exact ⟨(hb.cell (p := ⟨wr.heap.size, 0, none⟩) hl).trans ((D5.out.cell (p := ⟨wr.heap.size, 0, none⟩) (by have := B4.out.2.1; show wr.heap.size < _; omega)).trans B4.out.2.2.1), (hb.cell (p := ⟨b2, off2 + k, none⟩) hl2).trans ((D5.out.cell (p := ⟨b2, off2 + k, none⟩) (by have := hb2.out; have := B4.out.2.1; show b2 < _; omega)).trans U4.out)⟩
        go_wp2_with fail
        clear hcd
        have hnm := GD.out.1
        obtain ⟨z1, hz1⟩ : ∃ z : ByteArray, (⟨#[32]⟩ : ByteArray) ++ (fd l k).nm = z := ⟨_, rfl⟩
        have s1 : z1.size = 1 + (fd l k).nm.size := by rw [← hz1, ByteArray.size_append]; rfl
        obtain ⟨z2, hz2⟩ : ∃ z : ByteArray, z1 ++ (⟨#[32]⟩ : ByteArray) = z := ⟨_, rfl⟩
        have s2 : z2.size = z1.size + 1 := by rw [← hz2, ByteArray.size_append]; rfl
        have HZ := Lib.hid (And.intro hz1 hz2)
        have HS2 : Hid (z2.size ≤ 18) := by unfold Hid; omega
        have q1 : ¬ 9223372036854775807 < 1 + (fd l k).nm.size := by omega
        have q2 : ¬ 9223372036854775807 < z1.size + 1 := by omega
        clear s1 s2 hnm
        refine wp_region_noPanic ?_
        refine wp_region_held_drew (S := SS wr.heap.size (fd l k).nm b2 (off2 + k) a4 (st L k).length c4) (by kernel_rfl) (HSS.out _ (Below.refl _ _).drew) (fun hS => ?_)
        obtain ⟨WD, hWD⟩ : ∃ W, W5.drew = W := ⟨_, rfl⟩
        have D0 : Hid (Below W5.heap.size W5 WD) := by unfold Hid; rw [← hWD]; exact (Below.refl _ _).drew
        rw [hWD] at hS ⊢
        clear hWD
        have BWD : Hid (Below w.heap.size w WD) := BW5.out.trans (D0.out.mono BW5.out.size)
        refine wpAnyH_take (i := 0) (v := ?v0z1) rfl (by kernel_rfl) (by kernel_rfl) (by kernel_rfl) (fun _ _ _ h => h) (Or.inl ⟨by rfl, ?hy0z1⟩) (by assumption) ?rest0z1
        case hy0z1 =>
          intro w hSw
          dsimp only [SS] at hSw
          go_simp
          try with_reducible rfl
        simp only [Act.put, List.getElem_toArray, List.getElem_cons_succ, List.getElem_cons_zero, List.setIfInBounds_toArray, List.set_cons_zero, List.set_cons_succ]
        refine wpAnyH_take (i := 1) (v := ?v1z2) rfl (by kernel_rfl) (by kernel_rfl) (by kernel_rfl) (fun _ _ _ h => h) (Or.inl ⟨by rfl, ?hy1z2⟩) (by assumption) ?rest1z2
        case hy1z2 =>
          intro w hSw
          dsimp only [SS] at hSw
          go_simp
          try with_reducible rfl
        simp only [Act.put, List.getElem_toArray, List.getElem_cons_succ, List.getElem_cons_zero, List.setIfInBounds_toArray, List.set_cons_zero, List.set_cons_succ]
        refine wpAnyH_take (i := 2) (v := ?v2z3) rfl (by kernel_rfl) (by kernel_rfl) (by kernel_rfl) (fun _ _ _ h => h) (Or.inl ⟨by rfl, ?hy2z3⟩) (by assumption) ?rest2z3
        case hy2z3 =>
          intro w hSw
          dsimp only [SS] at hSw
          go_simp
          try with_reducible rfl
        simp only [Act.put, List.getElem_toArray, List.getElem_cons_succ, List.getElem_cons_zero, List.setIfInBounds_toArray, List.set_cons_zero, List.set_cons_succ]
        refine wpAnyH_take (i := 3) (v := ?v3z4) rfl (by kernel_rfl) (by kernel_rfl) (by kernel_rfl) (fun _ _ _ h => h) (Or.inl ⟨by rfl, ?hy3z4⟩) (by assumption) ?rest3z4
        case hy3z4 =>
          intro w hSw
          dsimp only [SS] at hSw
          go_simp
          try with_reducible rfl
        simp only [Act.put, List.getElem_toArray, List.getElem_cons_succ, List.getElem_cons_zero, List.setIfInBounds_toArray, List.set_cons_zero, List.set_cons_succ]
        refine wpAnyH_take (i := 4) (v := ?v4z5) rfl (by kernel_rfl) (by kernel_rfl) (by kernel_rfl) (fun _ _ _ h => h) (Or.inl ⟨by rfl, ?hy4z5⟩) (by assumption) ?rest4z5
        case hy4z5 =>
          intro w hSw
          dsimp only [SS] at hSw
          go_simp
          try with_reducible rfl
        simp only [Act.put, List.getElem_toArray, List.getElem_cons_succ, List.getElem_cons_zero, List.setIfInBounds_toArray, List.set_cons_zero, List.set_cons_succ]
        refine wpAnyH_take (i := 5) (v := ?v5z6) rfl (by kernel_rfl) (by kernel_rfl) (by kernel_rfl) (fun _ _ _ h => h) (Or.inl ⟨by rfl, ?hy5z6⟩) (by assumption) ?rest5z6
        case hy5z6 =>
          intro w hSw
          dsimp only [SS] at hSw
          go_simp
          try with_reducible rfl
        simp only [Act.put, List.getElem_toArray, List.getElem_cons_succ, List.getElem_cons_zero, List.setIfInBounds_toArray, List.set_cons_zero, List.set_cons_succ]
        refine wpAnyH_take (i := 6) (v := ?v6z7) rfl (by kernel_rfl) (by kernel_rfl) (by kernel_rfl) (fun _ _ _ h => h) (Or.inl ⟨by rfl, ?hy6z7⟩) (by assumption) ?rest6z7
        case hy6z7 =>
          intro w hSw
          dsimp only [SS] at hSw
          go_simp
          try with_reducible rfl
        simp only [Act.put, List.getElem_toArray, List.getElem_cons_succ, List.getElem_cons_zero, List.setIfInBounds_toArray, List.set_cons_zero, List.set_cons_succ]
        refine wpAnyH_take (i := 7) (v := ?v7z8) rfl (by kernel_rfl) (by kernel_rfl) (by kernel_rfl) (fun _ _ _ h => h) (Or.inl ⟨by rfl, ?hy7z8⟩) (by assumption) ?rest7z8
        case hy7z8 =>
          intro w hSw
          dsimp only [SS] at hSw
          go_simp
          try with_reducible rfl
        simp only [Act.put, List.getElem_toArray, List.getElem_cons_succ, List.getElem_cons_zero, List.setIfInBounds_toArray, List.set_cons_zero, List.set_cons_succ]
        refine wpAnyH_take (i := 8) (v := ?v8z9) rfl (by kernel_rfl) (by kernel_rfl) (by kernel_rfl) (fun _ _ _ h => h) (Or.inl ⟨by rfl, ?hy8z9⟩) (by assumption) ?rest8z9
        case hy8z9 =>
          intro w hSw
          dsimp only [SS] at hSw
          go_simp
          try with_reducible rfl
        simp only [Act.put, List.getElem_toArray, List.getElem_cons_succ, List.getElem_cons_zero, List.setIfInBounds_toArray, List.set_cons_zero, List.set_cons_succ]
        refine wpAnyH_ready (rs := [9]) (by kernel_rfl) (by simp) ?_
        refine AllReadyH.cons rfl (fun K hK => ?_) AllReadyH.nil
        go_simp
        (refine (codesText_c a4 c4 (st L k) WD (HST.out.below (B4.out.1.trans ((D5.out.trans (D0.out.mono D5.out.size)).mono B4.out.1.size))) GD.out.2 (HW.out.below BWD.out)).mono ?_)
        rintro e V1 ⟨t1, rfl, _, ht1, bc⟩
        try go_simp
        have D1 : Hid (Below W5.heap.size W5 V1) := D0.out.trans (bc.out.mono D0.out.size)
        have TS1 : Hid (t1.size ≤ 500) := by have := GD.out.2.size; unfold Hid; rw [ht1.out, bs_size]; exact this
        have hT := HSS.out V1 D1.out
        refine hK.out _ _ hT (fun _ => ?_)
        clear hK K hS bc
        have hS := hT
        clear hT
        try simp only [Act.put, List.setIfInBounds_toArray, List.set_cons_zero, List.set_cons_succ]
        have w1 := TS1.out
        have w2 := HS2.out
        obtain ⟨z3, hz3⟩ : ∃ z : ByteArray, z2 ++ t1 = z := ⟨_, rfl⟩
        have HZ3 := Lib.hid hz3
        have q3 : ¬ 9223372036854775807 < z2.size + t1.size := by omega
        clear w1 w2
        refine wpAnyH_take (i := 10) (v := ?v10z10) rfl (by kernel_rfl) (by kernel_rfl) (by kernel_rfl) (fun _ _ _ h => h) (Or.inl ⟨by rfl, ?hy10z10⟩) (by assumption) ?rest10z10
        case hy10z10 =>
          intro w hSw
          dsimp only [SS] at hSw
          go_simp
          try with_reducible rfl
        simp only [Act.put, List.getElem_toArray, List.getElem_cons_succ, List.getElem_cons_zero, List.setIfInBounds_toArray, List.set_cons_zero, List.set_cons_succ]
        refine wpAnyH_ready (rs := [11]) (by kernel_rfl) (by simp) ?_
        refine AllReadyH.cons rfl (fun K hK => ?_) AllReadyH.nil
        go_simp
        have hT := HSS.out _ (D1.out.trans ((bel_one V1 (.cells #[.string z3] 9)).mono D1.out.size))
        refine hK.out _ _ hT (fun _ => ?_)
        clear hK K hS
        have hS := hT
        clear hT
        try simp only [Act.put, List.setIfInBounds_toArray, List.set_cons_zero, List.set_cons_succ]
        have R1 := own_keep hR.out.1 (B4.out.1.trans ((D5.out.trans (D1.out.mono D5.out.size)).mono B4.out.1.size))
        have BV1 : Hid (Below w.heap.size w V1) := BW5.out.trans (D1.out.mono BW5.out.size)
        have hpl := Nat.le_trans (pTs_len l L k) (Nat.le_trans hk H12.out)
        refine wpAnyH_ready (rs := [12]) (by kernel_rfl) (by simp) ?_
        refine AllReadyH.cons rfl (fun K hK => ?_) AllReadyH.nil
        have hx1 : ∀ u ∈ [Value.string z3], u.oneCell' = true := by intro u hu; simp at hu; subst hu; rfl
        have hx2 : (pTs l L k).length + 1 ≤ maxLen := by unfold maxLen; omega
        have hx3 : ((pTs l L k).length + 1) * 16 ≤ 140737488355328 := by omega
        have hx4 : w.heap.size ≤ (V1.alloc (.cells #[.string z3] 9)).heap.size := by have := BV1.out.size; simp; omega
        first
          | refine wp_append_lies _ _ _ 50 (by rfl) w.heap.size 9 i0 (.string ByteArray.empty) 1 16 Tryd.underlying50 hi hz0 hz1x hz2x rfl (by decide) _ _ _ (by rfl) (R1.alloc _) ⟨V1.heap.size, 0, none⟩ 1 1 [.string z3] (by rfl) rfl (cell_one_new _ _ _) hx1 (by decide) hx2 hx3 hx4 _ rfl ?_
          | refine step_append_lies _ rfl _ _ 50 (by rfl) w.heap.size 9 i0 (.string ByteArray.empty) 1 16 Tryd.underlying50 hi hz0 hz1x hz2x rfl (by decide) _ _ _ (by rfl) (R1.alloc _) ⟨V1.heap.size, 0, none⟩ 1 1 [.string z3] (by rfl) rfl (cell_one_new _ _ _) hx1 (by decide) hx2 hx3 hx4 _ rfl ?_
        intro g' cap' w4 hown' hgrow _ _
        have G4 : Hid (Below w.heap.size w w4) := (BV1.out.trans ((bel_one V1 _).mono BV1.out.size)).grown hgrow (by have := BV1.out.size; simp; omega) (fun g hg => HB2N.out g hg)
        have hT : SS wr.heap.size (fd l k).nm b2 (off2 + k) a4 (st L k).length c4 w4 := by
          have hlt1 := fun g hg => (hR.out.1.lt g hg).2
          have hbl : wr.heap.size < V1.heap.size := by have := B4.out.2.1; have := D5.out.size; have := D1.out.size; omega
          have hbl2 : b2 < V1.heap.size := by have := hb2.out; omega
          refine ⟨(World.cell?_of_block (hgrow.block wr.heap.size (by simp; omega) (fun e => by have := hlt1 _ e.symm; omega))).trans hS.1, (World.cell?_of_block (hgrow.block b2 (by simp; omega) (fun e => ?_))).trans hS.2⟩
          have := hlt1 _ e.symm
          have := HB2N.out _ e.symm; have := hb2w.out
          omega
        refine hK.out _ _ hT (fun _ => ?_)
        have NX : Hid (w4.ownsRow w.heap.size 9 1 (.slice (some ⟨g', 0, none⟩) ((pTs l L k).length + 1) cap') (pTs l L (k + 1)).length ((pTs l L (k + 1)).map ceT) ∧ Below w.heap.size w w4) := by
          refine ⟨?_, G4.out⟩
          have e : z3 = bs (pT l L k) := by
            rw [← HZ3.out, ← HZ.out.2, ← HZ.out.1, ht1.out]
            unfold pT
            apply ByteArray.ext
            simp [ByteArray.data_append, bs]
          rw [hps.out, List.length_append, List.map_append]
          rw [e] at hown'
          exact hown'
        clear hK K hS hT hown' hgrow hx1 hx2 hx3 hx4
        try simp only [Act.put, List.setIfInBounds_toArray, List.set_cons_zero, List.set_cons_succ]
        refine wpAnyH_take (i := 13) (v := ?v13z11) rfl (by kernel_rfl) (by kernel_rfl) (by kernel_rfl) (fun _ _ _ h => h) (Or.inl ⟨by rfl, ?hy13z11⟩) (by assumption) ?rest13z11
        case hy13z11 =>
          intro w hSw
          dsimp only [SS] at hSw
          go_simp
          try with_reducible rfl
        simp only [Act.put, List.getElem_toArray, List.getElem_cons_succ, List.getElem_cons_zero, List.setIfInBounds_toArray, List.set_cons_zero, List.set_cons_succ]
        refine wpAnyH_done (by kernel_rfl) ?_ _
        refine NoPanic.normal ?_
        clear q1 q2 q3 hz1 hz2 hz3
        go_wp2
        go_roundw
        case rel => exact ⟨k + 1, by omega, by go_num, NX.out⟩
        case measure => simp [intOf]; omega
      · have hI : ¬ ((st L k).length : Int) < ((fd l k).cs.length : Int) := by omega
        go_wp2_with fail
        go_quiet (fail)
        clear hW4 v1 v2 u0 u1 u2 u4 hI
        have D5 : Hid (Below W4.heap.size W4 (W4.drewN nq)) := by unfold Hid; first | exact below_drewN (Below.refl _ _) _ | exact below_drewN _ _ | exact Go.below_drewN (Below.refl _ _) _ | exact Go.Lib.below_drewN (Below.refl _ _) _
        generalize W4.drewN nq = W5 at D5 ⊢
        have BW5 : Hid (Below w.heap.size w W5) := hR.out.2.trans ((B4.out.1.trans (D5.out.mono B4.out.1.size)).mono hR.out.2.size)
        have hps : Hid (pTs l L (k + 1) = pTs l L k) := by unfold Hid; show (if _ then _ else _) = _; rw [if_neg hcd]
        have NX : Hid (W5.ownsRow w.heap.size 9 1 u5 (pTs l L (k + 1)).length ((pTs l L (k + 1)).map ceT) ∧ Below w.heap.size w W5) :=
          ⟨by rw [hps.out]; exact own_keep hR.out.1 (B4.out.1.trans (D5.out.mono B4.out.1.size)), BW5.out⟩
        clear hcd
        go_wp2
        go_roundw
        case rel => exact ⟨k + 1, by omega, by go_num, NX.out⟩
        case measure => simp [intOf]; omega
    · obtain rfl : k = l.length := by omega
      clear hlt
      have HJ := Lib.hid (join2_c u5 w.heap.size (pTs l L l.length) wr (pTs_each HG.out) (Nat.le_trans (pTs_len _ _ _) H12.out) hR.out.1)
      have HB := Lib.hid hR.out.2
      have HX : Hid ((sT l L).length ≤ 10000000) := by
        have h1 := lens_le2 600 (pTs l L l.length) (pTs_each HG.out)
        have h2 := pTs_len l L l.length
        have h3 := H12.out
        unfold Hid sT; omega
      clear hR
      go_wp2_with fail
      refine HJ.out.mono ?_
      rintro e w3 ⟨t, rfl, ht1, ht, HB2⟩
      go_wp2
      go_ret
      exact tp_ret ht.out HX.out (HB.out.trans (HB2.out.mono HB.out.size))
end Go.Proofs.YtpoaikbedcfgaaaDoor
