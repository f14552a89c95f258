/-
  Redundant and Clash of package edit.
  The reference's Least.
  The law of Least: its fields are enough, and no fields that weigh less are.
  The reference's Least with its errors; the law that compares both.
-/
import Derived.Test.YtadfmplafehjlaaDoorER18
import Derived.Test.YtadfmplafehjlaaDoorER16
import Derived.Test.YtadfmplafehjlaaDoorER15
namespace Go.Proofs.YtadfmplafehjlaaDoor
open Go.RowKit Go.WideMaps Go.Maps Go.Shelf

theorem lf_rest (l : List Fd) (E : List Ed) (h : E.length ≤ 60) : evS E &&& (18446744073709551615 - lfM (gpL l E) E.length E.length) = bz (fun j => !lfB (gpL l E) E.length E.length j) E.length := by
  refine nat_ext fun j => ?_
  have hm : lfM (gpL l E) E.length E.length < 18446744073709551616 := Nat.lt_of_lt_of_le (lf_lt _ _ _) (Nat.pow_le_pow_right (n := 2) (by omega) (show E.length ≤ 64 by omega))
  by_cases hj : j < 64
  · rcases andNot_bit (evS E) (lfM (gpL l E) E.length E.length) j hj with q | q
    · rw [q]
      unfold lfM evS
      rw [bz_bit, bz_bit, Nat.testBit_two_pow_sub_one]
      by_cases e : j < E.length <;> simp [e]
    · omega
  · rw [bz_bit, decide_eq_false (show ¬ j < E.length by omega), Bool.false_and]
    have h2 : (evS E).testBit j = false := by unfold evS; rw [Nat.testBit_two_pow_sub_one]; exact decide_eq_false (by omega)
    rw [Nat.testBit_and, h2]; rfl
theorem gp_zero {l : List Fd} {E : List Ed} : gpP l E 0 = true ↔ 0 ∈ gpL l E := by
  unfold gpP
  rw [List.any_eq_true]
  constructor
  · rintro ⟨F, hF, e⟩
    have e := of_decide_eq_true e
    have : F = 0 := by omega
    rw [← this]; exact hF
  · exact fun h => ⟨0, h, by simp⟩
section
open Go.ChangeMaps Go.MapKept
theorem MapB.look1 {w : World} {b n : Nat} {p : Int → Bool} (h : MapB w b n p) {t e : TypeId} (ht : Tryd.prog.underlying t = some (.map 54 e)) {s : Int} (hs : 0 ≤ s ∧ s ≤ 18446744073709551615) (hz : (zeroValue e).run Tryd.prog w = .ok (.bool false) w := by rfl) :
    (Instr.lookup t (.map (some b)) (.int .u64 s) false).run Tryd.prog w = .ok (.bool (p s)) w := by
  obtain ⟨D, h, hm, hf⟩ := h
  obtain ⟨v, ps, hrun, hv⟩ := h.lookup lawU ht hz (zd := .held (.bool false)) (zp := []) rfl (keyOf_int_mk Tryd.underlying54 (WalkArith.wf_u64 hs))
  rw [hrun]
  rw [(hf s).2 (.bool false)] at hv
  simp only [asIsK, Option.some.injEq, Prod.mk.injEq, DataW.held.injEq] at hv
  rw [hv.1]
  cases p s <;> rfl
end
set_option maxRecDepth 100000 in
set_option maxHeartbeats 4000000 in
theorem Redundant_c (a : Option Addr) (c : Nat) (l : List Fd) (a2 : Option Addr) (c2 : Nat) (E : List Ed) (w : World) (hl : RdF w a l) (hE : RdE w a2 E) (hst : ∀ u, u ∈ l → u.nm.size ≤ 9223372036854775807) (hst2 : ∀ u, u ∈ E → u.nm.size ≤ 9223372036854775807)
    (hT : TabAt 0 Lib.deBruijn64tab w) (ht : 0 < w.heap.size) :
    Calls Tryd.prog 18 #[.agg #[.slice a l.length c, .slice a2 E.length c2]] w (RedP l E w) := by
  have mixed : Tryd.prog.follows .mixedOrders = true := by kernel_rfl
  obtain ⟨W1, hW1⟩ : ∃ W, w.alloc (.cells #[.slice a l.length c, .slice a2 E.length c2] 25) = W := ⟨_, rfl⟩
  have b1 : Below w.heap.size w W1 := by rw [← hW1]; exact bel_one _ _
  have B1 := Lib.hid b1
  have C := Lib.hid (planOf_c a c l a2 c2 E W1 (hl.below b1) (hE.below b1) hst hst2 (tab_below hT ht b1) (Nat.lt_of_lt_of_le ht b1.size))
  have x0 : W1.cell? ⟨w.heap.size, 0, none⟩ = some (.slice a l.length c) := by rw [← hW1, World.cell?_alloc_new]; rfl
  have x1 : W1.cell? ⟨w.heap.size, 1, none⟩ = some (.slice a2 E.length c2) := by rw [← hW1, World.cell?_alloc_new]; rfl
  have C3 : Hid (∀ p V, PlR V p l E → Ok l E → Below w.heap.size w V → Calls Tryd.prog 46 #[.pointer (some ⟨p, 0, none⟩)] V (GroP l E V)) := fun p V h hok b =>
    groups_c p l E V h hok (tab_below hT ht b) (Nat.lt_of_lt_of_le ht b.size)
  have C5 : Hid (∀ p mp n V, PlR V p l E → Ok l E → MapB V mp n (gpP l E) → Calls Tryd.prog 45 #[.pointer (some ⟨p, 0, none⟩), .map (some mp)] V fun e w' => e = .returned (.int .u64 (lfM (gpL l E) E.length E.length : Nat)) ∧ Below V.heap.size V w') := fun p mp n V h hok hm =>
    needed_c p l E mp n V h hok hm
  have C6 : Hid (∀ q V, Ok l E → Below w.heap.size w V → Calls Tryd.prog 28 #[.int .u64 (bz q E.length : Nat)] V (NuP (toI (lst q E.length)) V)) := fun q V hok b =>
    numbers_c q E.length V (by have := hok.m60; omega) (tab_below hT ht b) (Nat.lt_of_lt_of_le ht b.size)
  unfold PoP at C
  unfold GroP at C3
  obtain ⟨f, hf⟩ : ∃ f, planS l E = f := ⟨_, rfl⟩
  rw [hf] at C
  have HF := Lib.hid hf
  obtain ⟨n, hn⟩ : ∃ n, l.length = n := ⟨_, rfl⟩
  obtain ⟨m, hm⟩ : ∃ n, E.length = n := ⟨_, rfl⟩
  have HM := Lib.hid hm
  rw [hn] at C x0 hW1 ⊢
  rw [hm] at C C5 C6 x1 hW1 ⊢
  clear hl hE hst hst2 hT b1 hf hn hm
  go_enter Tryd.func18, Tryd.ntmps18
  go_wp2_with fail
  refine C.out.mono ?_
  rintro e1 w2 ⟨b2, h2⟩
  have B3 : Hid (Below w.heap.size w w2) := B1.out.trans (b2.mono B1.out.size)
  clear b2 x0 x1 hW1
  rcases h2 with ⟨h0, rfl⟩ | ⟨h0, p, rfl, hp⟩
  · have g2 : (f != 0) = true := by simpa using h0
    have PP : Hid (RedP l E w (.returned (.tuple #[.slice none 0 0, .int .i64 f])) w2) := by
      refine ⟨B3.out, .inl ⟨?_, ?_⟩⟩
      · rw [HF.out]; exact h0
      · rw [HF.out]
    clear C C3 C5 C6 h0
    go_wp2_with fail
    go_ret2
    exact PP.out
  · have hok := plan_ok (HF.out.trans h0)
    have HOK := Lib.hid hok
    have HP := Lib.hid hp
    have C4 := Lib.hid (C3.out p w2 hp hok B3.out)
    have H0 := Lib.hid (HF.out.trans h0)
    subst h0
    have HS : Hid (∀ V, Below w2.heap.size w2 V → S1e ⟨p, 14, none⟩ (.int .u64 (evS E : Nat)) V) := fun V hV => (HP.out.below hV).ev
    have C4 : Hid (∀ V, Below w2.heap.size w2 V → _) := fun V hV => C3.out p V (HP.out.below hV) HOK.out (B3.out.trans (hV.mono B3.out.size))
    have C8 : Hid (∀ V, Below w2.heap.size w2 V → _) := fun V hV => C6.out (fun j => !lfB (gpL l E) E.length E.length j) V HOK.out (B3.out.trans (hV.mono B3.out.size))
    have m60 : E.length ≤ 60 := hok.m60
    have hev : evS E < 18446744073709551616 := by
      unfold evS
      have : 2 ^ E.length ≤ 2 ^ 60 := Nat.pow_le_pow_right (by omega) m60
      omega
    have hlf : lfM (gpL l E) E.length E.length < 18446744073709551616 := Nat.lt_of_lt_of_le (lf_lt _ _ _) (Nat.pow_le_pow_right (n := 2) (by omega) (show E.length ≤ 64 by omega))
    have hand : bits .andNot .u64 (evS E : Int) (lfM (gpL l E) E.length E.length : Int) = ((evS E &&& (18446744073709551615 - lfM (gpL l E) E.length E.length) : Nat) : Int) := Go.u64_andNot_nat _ _ hev hlf
    rw [lf_rest l E m60] at hand
    have HLEN := Lib.hid (lst_le (fun j => !lfB (gpL l E) E.length E.length j) E.length)
    have HM6 := Lib.hid m60
    obtain ⟨x, hx⟩ : ∃ x, bz (fun j => !lfB (gpL l E) E.length E.length j) E.length = x := ⟨_, rfl⟩
    obtain ⟨y, hy⟩ : ∃ x, lfM (gpL l E) E.length E.length = x := ⟨_, rfl⟩
    rw [hx, hy] at hand
    rw [HM.out] at hx hy C8
    rw [hx] at C8
    rw [hy] at C5
    clear hp hok C C3 hx hy hev hlf m60
    go_wp2_with fail
    refine wp_region_noPanic ?_
    refine wp_region_held_drew (S := (S1e ⟨p, 14, none⟩ (.int .u64 (evS E : Nat)))) (by kernel_rfl) (by exact HS.out _ (Below.refl _ _).drew) (fun hS => ?_)
    obtain ⟨WD, hWD⟩ : ∃ W, w2.drew = W := ⟨_, rfl⟩
    have D0 : Hid (Below w2.heap.size w2 WD) := by unfold Hid; rw [← hWD]; exact (Below.refl _ _).drew
    rw [hWD] at hS ⊢
    clear hWD
    refine wpAnyH_take (i := 0) (v := ?v0a0) rfl (by kernel_rfl) (by kernel_rfl) (by kernel_rfl) (fun _ _ _ h => h) (Or.inl ⟨by rfl, ?hy0a0⟩) (by assumption) ?rest0a0
    case hy0a0 =>
      intro w hSw
      dsimp only [S1e] at hSw
      go_simp
      try with_reducible rfl
    simp only [Act.put, List.getElem_toArray, List.getElem_cons_succ, List.getElem_cons_zero, List.setIfInBounds_toArray, List.set_cons_zero, List.set_cons_succ]
    refine wpAnyH_take (i := 1) (v := ?v1a1) rfl (by kernel_rfl) (by kernel_rfl) (by kernel_rfl) (fun _ _ _ h => h) (Or.inl ⟨by rfl, ?hy1a1⟩) (by assumption) ?rest1a1
    case hy1a1 =>
      intro w hSw
      dsimp only [S1e] at hSw
      go_simp
      try with_reducible rfl
    simp only [Act.put, List.getElem_toArray, List.getElem_cons_succ, List.getElem_cons_zero, List.setIfInBounds_toArray, List.set_cons_zero, List.set_cons_succ]
    refine wpAnyH_take (i := 2) (v := ?v2a2) rfl (by kernel_rfl) (by kernel_rfl) (by kernel_rfl) (fun _ _ _ h => h) (Or.inl ⟨by rfl, ?hy2a2⟩) (by assumption) ?rest2a2
    case hy2a2 =>
      intro w hSw
      dsimp only [S1e] at hSw
      go_simp
      try with_reducible rfl
    simp only [Act.put, List.getElem_toArray, List.getElem_cons_succ, List.getElem_cons_zero, List.setIfInBounds_toArray, List.set_cons_zero, List.set_cons_succ]
    refine wpAnyH_take (i := 3) (v := ?v3a3) rfl (by kernel_rfl) (by kernel_rfl) (by kernel_rfl) (fun _ _ _ h => h) (Or.inl ⟨by rfl, ?hy3a3⟩) (by assumption) ?rest3a3
    case hy3a3 =>
      intro w hSw
      dsimp only [S1e] at hSw
      go_simp
      try with_reducible rfl
    simp only [Act.put, List.getElem_toArray, List.getElem_cons_succ, List.getElem_cons_zero, List.setIfInBounds_toArray, List.set_cons_zero, List.set_cons_succ]
    refine wpAnyH_take (i := 4) (v := ?v4a4) rfl (by kernel_rfl) (by kernel_rfl) (by kernel_rfl) (fun _ _ _ h => h) (Or.inl ⟨by rfl, ?hy4a4⟩) (by assumption) ?rest4a4
    case hy4a4 =>
      intro w hSw
      dsimp only [S1e] at hSw
      go_simp
      try with_reducible rfl
    simp only [Act.put, List.getElem_toArray, List.getElem_cons_succ, List.getElem_cons_zero, List.setIfInBounds_toArray, List.set_cons_zero, List.set_cons_succ]
    refine wpAnyH_take (i := 5) (v := ?v5a5) rfl (by kernel_rfl) (by kernel_rfl) (by kernel_rfl) (fun _ _ _ h => h) (Or.inl ⟨by rfl, ?hy5a5⟩) (by assumption) ?rest5a5
    case hy5a5 =>
      intro w hSw
      dsimp only [S1e] at hSw
      go_simp
      try with_reducible rfl
    simp only [Act.put, List.getElem_toArray, List.getElem_cons_succ, List.getElem_cons_zero, List.setIfInBounds_toArray, List.set_cons_zero, List.set_cons_succ]
    refine wpAnyH_ready (rs := [6]) (by kernel_rfl) (by simp) ?_
    refine AllReadyH.cons rfl (fun K hK => ?_) AllReadyH.nil
    go_simp
    refine (C4.out WD D0.out).mono ?_
    rintro e1 w4 ⟨b4, mb, mn, rfl, hmb⟩
    try go_simp
    have B4 := Lib.hid (D0.out.trans (b4.mono D0.out.size))
    have P4 := Lib.hid (HP.out.below B4.out)
    have C7 := Lib.hid (C5.out p mb mn w4 P4.out HOK.out hmb)
    clear b4 hmb
    have hT := HS.out w4 B4.out
    refine hK _ _ hT (fun _ => ?_)
    clear hK K hT
    try simp only [Act.put, List.setIfInBounds_toArray, List.set_cons_zero, List.set_cons_succ]
    refine wpAnyH_ready (rs := [7]) (by kernel_rfl) (by simp) ?_
    refine AllReadyH.cons rfl (fun K hK => ?_) AllReadyH.nil
    go_simp
    refine (C7.out).mono ?_
    rintro e1 w5 ⟨rfl, b5⟩
    try go_simp
    have B5 := Lib.hid (B4.out.trans (b5.mono B4.out.size))
    clear b5
    have hT := HS.out w5 B5.out
    refine hK _ _ hT (fun _ => ?_)
    clear hK K hT
    try simp only [Act.put, List.setIfInBounds_toArray, List.set_cons_zero, List.set_cons_succ]
    refine wpAnyH_take (i := 8) (v := ?v8c8) rfl (by kernel_rfl) (by kernel_rfl) (by kernel_rfl) (fun _ _ _ h => h) (Or.inl ⟨by rfl, ?hy8c8⟩) (by assumption) ?rest8c8
    case hy8c8 =>
      intro w hSw
      dsimp only [S1e] at hSw
      go_simp
      try with_reducible rfl
    simp only [Act.put, List.getElem_toArray, List.getElem_cons_succ, List.getElem_cons_zero, List.setIfInBounds_toArray, List.set_cons_zero, List.set_cons_succ]
    refine wpAnyH_ready (rs := [9]) (by kernel_rfl) (by simp) ?_
    refine AllReadyH.cons rfl (fun K hK => ?_) AllReadyH.nil
    go_simp
    refine (C8.out w5 B5.out).mono ?_
    rintro e1 w6 ⟨v, rfl, hv, b6⟩
    try go_simp
    have B6 := Lib.hid (B5.out.trans (b6.mono B5.out.size))
    clear b6
    have hT := HS.out w6 B6.out
    refine hK _ _ hT (fun _ => ?_)
    clear hK K hT
    try simp only [Act.put, List.setIfInBounds_toArray, List.set_cons_zero, List.set_cons_succ]
    refine wpAnyH_take (i := 10) (v := ?v10d10) rfl (by kernel_rfl) (by kernel_rfl) (by kernel_rfl) (fun _ _ _ h => h) (Or.inl ⟨by rfl, ?hy10d10⟩) (by assumption) ?rest10d10
    case hy10d10 =>
      intro w hSw
      dsimp only [S1e] at hSw
      go_simp
      try with_reducible rfl
    simp only [Act.put, List.getElem_toArray, List.getElem_cons_succ, List.getElem_cons_zero, List.setIfInBounds_toArray, List.set_cons_zero, List.set_cons_succ]
    refine wpAnyH_take (i := 11) (v := ?v11d11) rfl (by kernel_rfl) (by kernel_rfl) (by kernel_rfl) (fun _ _ _ h => h) (Or.inl ⟨by rfl, ?hy11d11⟩) (by assumption) ?rest11d11
    case hy11d11 =>
      intro w hSw
      dsimp only [S1e] at hSw
      go_simp
      try with_reducible rfl
    simp only [Act.put, List.getElem_toArray, List.getElem_cons_succ, List.getElem_cons_zero, List.setIfInBounds_toArray, List.set_cons_zero, List.set_cons_succ]
    refine wpAnyH_done (by kernel_rfl) ?_ _
    refine NoPanic.normal ?_
    obtain ⟨av, cv, hve, hrd⟩ := rdI_own hv (by rw [toI_len]; have := HLEN.out; have := HM6.out; rw [HM.out] at *; omega)
    have PP : Hid (RedP l E w (.returned (.tuple #[v, .int .i64 0])) w6) := by
      refine ⟨B3.out.trans (B6.out.mono B3.out.size), .inr ⟨H0.out, av, cv, ?_, ?_⟩⟩
      · unfold rdL; rw [HM.out, hve]
      · unfold rdL; rw [HM.out]; exact hrd
    clear hv hve hrd hS C7 C8 C4
    go_wp2_with fail
    go_ret2
    exact PP.out
set_option maxRecDepth 100000 in
set_option maxHeartbeats 4000000 in
theorem Clash_c (a : Option Addr) (c : Nat) (l : List Fd) (a2 : Option Addr) (c2 : Nat) (E : List Ed) (w : World) (hl : RdF w a l) (hE : RdE w a2 E) (hst : ∀ u, u ∈ l → u.nm.size ≤ 9223372036854775807) (hst2 : ∀ u, u ∈ E → u.nm.size ≤ 9223372036854775807)
    (hT : TabAt 0 Lib.deBruijn64tab w) (ht : 0 < w.heap.size) :
    Calls Tryd.prog 20 #[.agg #[.slice a l.length c, .slice a2 E.length c2]] w (ClaP l E w) := by
  have mixed : Tryd.prog.follows .mixedOrders = true := by kernel_rfl
  obtain ⟨W1, hW1⟩ : ∃ W, w.alloc (.cells #[.slice a l.length c, .slice a2 E.length c2] 25) = W := ⟨_, rfl⟩
  have b1 : Below w.heap.size w W1 := by rw [← hW1]; exact bel_one _ _
  have B1 := Lib.hid b1
  have C := Lib.hid (planOf_c a c l a2 c2 E W1 (hl.below b1) (hE.below b1) hst hst2 (tab_below hT ht b1) (Nat.lt_of_lt_of_le ht b1.size))
  have x0 : W1.cell? ⟨w.heap.size, 0, none⟩ = some (.slice a l.length c) := by rw [← hW1, World.cell?_alloc_new]; rfl
  have x1 : W1.cell? ⟨w.heap.size, 1, none⟩ = some (.slice a2 E.length c2) := by rw [← hW1, World.cell?_alloc_new]; rfl
  have C3 : Hid (∀ p V, PlR V p l E → Ok l E → Below w.heap.size w V → Calls Tryd.prog 46 #[.pointer (some ⟨p, 0, none⟩)] V (GroP l E V)) := fun p V h hok b =>
    groups_c p l E V h hok (tab_below hT ht b) (Nat.lt_of_lt_of_le ht b.size)
  have C5 : Hid (∀ p mp n V, PlR V p l E → Ok l E → MapB V mp n (gpP l E) → Calls Tryd.prog 45 #[.pointer (some ⟨p, 0, none⟩), .map (some mp)] V fun e w' => e = .returned (.int .u64 (lfM (gpL l E) E.length E.length : Nat)) ∧ Below V.heap.size V w') := fun p mp n V h hok hm =>
    needed_c p l E mp n V h hok hm
  have C6 : Hid (∀ q V, Ok l E → Below w.heap.size w V → Calls Tryd.prog 28 #[.int .u64 (bz q E.length : Nat)] V (NuP (toI (lst q E.length)) V)) := fun q V hok b =>
    numbers_c q E.length V (by have := hok.m60; omega) (tab_below hT ht b) (Nat.lt_of_lt_of_le ht b.size)
  unfold PoP at C
  unfold GroP at C3
  obtain ⟨f, hf⟩ : ∃ f, planS l E = f := ⟨_, rfl⟩
  rw [hf] at C
  have HF := Lib.hid hf
  obtain ⟨n, hn⟩ : ∃ n, l.length = n := ⟨_, rfl⟩
  obtain ⟨m, hm⟩ : ∃ n, E.length = n := ⟨_, rfl⟩
  have HM := Lib.hid hm
  rw [hn] at C x0 hW1 ⊢
  rw [hm] at C C5 C6 x1 hW1 ⊢
  clear hl hE hst hst2 hT b1 hf hn hm
  go_enter Tryd.func20, Tryd.ntmps20
  go_wp2_with fail
  refine C.out.mono ?_
  rintro e1 w2 ⟨b2, h2⟩
  have B3 : Hid (Below w.heap.size w w2) := B1.out.trans (b2.mono B1.out.size)
  clear b2 x0 x1 hW1
  rcases h2 with ⟨h0, rfl⟩ | ⟨h0, p, rfl, hp⟩
  · have g2 : (f != 0) = true := by simpa using h0
    have PP : Hid (ClaP l E w (.returned (.tuple #[.slice none 0 0, .bool false, .int .i64 f])) w2) := by
      refine ⟨B3.out, .inl ⟨?_, ?_⟩⟩
      · rw [HF.out]; exact h0
      · rw [HF.out]
    clear C C3 C5 C6 h0
    go_wp2_with fail
    go_ret3
    exact PP.out
  · have hok := plan_ok (HF.out.trans h0)
    have HOK := Lib.hid hok
    have HP := Lib.hid hp
    have C4 := Lib.hid (C3.out p w2 hp hok B3.out)
    have H0 := Lib.hid (HF.out.trans h0)
    subst h0
    have HLEN := Lib.hid (lst_le (lfB (gpL l E) E.length E.length) E.length)
    have HM6 := Lib.hid hok.m60
    have C8 : Hid (∀ V, Below w.heap.size w V → Calls Tryd.prog 28 #[.int .u64 (lfM (gpL l E) m m : Nat)] V (NuP (toI (lst (lfB (gpL l E) m m) m)) V)) := fun V hV => C6.out (lfB (gpL l E) m m) V HOK.out hV
    obtain ⟨y, hy⟩ : ∃ x, lfM (gpL l E) m m = x := ⟨_, rfl⟩
    rw [hy] at C5 C8
    clear hp hok C C3 hy
    go_wp2_with fail
    refine C4.out.mono ?_
    rintro e1 w4 ⟨b4, mb, mn, rfl, hmb⟩
    have B4 := Lib.hid (B3.out.trans (b4.mono B3.out.size))
    have P4 := Lib.hid (HP.out.below b4)
    have C7 := Lib.hid (C5.out p mb mn w4 P4.out HOK.out hmb)
    have LK := hmb.look1 (t := 82) (e := 4) Tryd.underlying82 (s := 0) (by decide)
    obtain ⟨t, ht2⟩ : ∃ t, gpP l E 0 = t := ⟨_, rfl⟩
    have HT0 := Lib.hid ht2
    rw [ht2] at LK
    clear b4 hmb C4 ht2
    cases t with
    | true =>
      have PP : Hid (ClaP l E w (.returned (.tuple #[.slice none 0 0, .bool false, .int .i64 0])) w4) :=
        ⟨B4.out, .inr ⟨H0.out, .inl ⟨gp_zero.1 HT0.out, rfl⟩⟩⟩
      clear C5 C6 C7 C8
      go_wp2_with fail
      go_ret3
      exact PP.out
    | false =>
      clear C5 C6
      go_wp2_with fail
      refine C7.out.mono ?_
      rintro e1 w5 ⟨rfl, b5⟩
      have B5 := Lib.hid (B4.out.trans (b5.mono B4.out.size))
      have C9 := Lib.hid (C8.out w5 B5.out)
      clear b5 C7 C8 LK
      go_wp2_with fail
      refine C9.out.mono ?_
      rintro e1 w6 ⟨v, rfl, hv, b6⟩
      obtain ⟨av, cv, hve, hrd⟩ := rdI_own hv (by rw [toI_len]; have := HLEN.out; have := HM6.out; rw [HM.out] at *; omega)
      have PP : Hid (ClaP l E w (.returned (.tuple #[v, .bool true, .int .i64 0])) w6) := by
        refine ⟨B5.out.trans (b6.mono B5.out.size), .inr ⟨H0.out, .inr ⟨fun q => ?_, av, cv, ?_, ?_⟩⟩⟩
        · have := gp_zero.2 q
          rw [HT0.out] at this; cases this
        · unfold clL; rw [HM.out, hve]
        · unfold clL; rw [HM.out]; exact hrd
      clear hv hve hrd C9 b6
      go_wp2_with fail
      go_ret3
      exact PP.out
end Go.Proofs.YtadfmplafehjlaaDoor
namespace Go.Proofs.YtadfmplafehjlaaDoor
open Go.RowKit Go.WideMaps Go.Maps Go.Shelf

theorem csL_erase (l : List Fd) {x : Nat} : ∀ {g : List Nat}, x ∈ g → csL l g = csN l x + csL l (g.erase x)
  | [], h => by cases h
  | k :: g, h => by
    by_cases e : k = x
    · subst e; rw [List.erase_cons_head]; rfl
    · have hm : x ∈ g := by
        rcases List.mem_cons.1 h with q | q
        · exact absurd q.symm e
        · exact q
      rw [List.erase_cons_tail (by simpa using e)]
      show csN l k + csL l g = csN l x + (csN l k + csL l (g.erase x))
      rw [csL_erase l hm]; omega
theorem csL_le (l : List Fd) : ∀ (s g : List Nat), s.Nodup → (∀ x, x ∈ s → x ∈ g) → csL l s ≤ csL l g
  | [], _, _, _ => Nat.zero_le _
  | x :: s, g, hn, hs => by
    rw [List.nodup_cons] at hn
    have h1 := csL_le l s (g.erase x) hn.2 fun y hy => (List.mem_erase_of_ne (fun e => hn.1 (by rw [← e]; exact hy))).2 (hs y (by simp [hy]))
    rw [csL_erase l (hs x (by simp))]
    show csN l x + csL l s ≤ _
    omega
theorem lst_sbN (p : Nat → Bool) (n : Nat) : lst p n ∈ sbN n (2 ^ n) := by
  unfold sbN
  refine List.mem_map.2 ⟨bz p n, List.mem_range.2 (bz_lt p n), ?_⟩
  unfold lst
  refine List.filter_congr fun j hj => ?_
  show (bz p n).testBit j = p j
  rw [bz_bit]
  simp [List.mem_range.1 hj]
theorem min_ex {α : Type} (f : α → Nat) : ∀ (L : List α), L ≠ [] → ∃ x, x ∈ L ∧ ∀ y, y ∈ L → f x ≤ f y
  | [], h => absurd rfl h
  | [x], _ => ⟨x, by simp, fun y hy => by have : y = x := by simpa using hy
                                          rw [this]; exact Nat.le_refl _⟩
  | x :: y :: L, _ => by
    obtain ⟨m, hm, h⟩ := min_ex f (y :: L) (by simp)
    by_cases q : f x ≤ f m
    · refine ⟨x, by simp, fun z hz => ?_⟩
      rcases List.mem_cons.1 hz with e | e
      · rw [e]; exact Nat.le_refl _
      · exact Nat.le_trans q (h z e)
    · refine ⟨m, by simp [List.mem_cons.1 hm], fun z hz => ?_⟩
      rcases List.mem_cons.1 hz with e | e
      · rw [e]; omega
      · exact h z e
theorem lsC_ex {l : List Fd} {E : List Ed} {r : List Int} (h : pss l E ≠ []) : ∃ C, LsC l E r C := by
  obtain ⟨C, hC, h1⟩ := min_ex (fun C => smS (csN l) (chB l r C) l.length) (pss l E) h
  exact ⟨C, hC, h1⟩
/-- The fields of Least are one set. -/
theorem lsC_one {l : List Fd} {E : List Ed} (hok : Ok l E) {r : List Int} {C D : Nat → Nat} (hC : LsC l E r C) (hD : LsC l E r D) : lst (chB l r C) l.length = lst (chB l r D) l.length := by
  have h1 := hC.2 D hD.1
  have h2 := hD.2 C hC.1
  refine cs_inj (l := l) hok.n12 (sb_lst _ _) (sb_lst _ _) ?_
  rw [csL_lst, csL_lst]; omega
/-- The cheapest of all sets that are enough. -/
theorem ls_cheap {l : List Fd} {E : List Ed} (hok : Ok l E) {r : List Int} (hr : r.length = l.length) {g : List Nat} (hg : Sb l.length g) (h1 : fil l E g r ≠ none) (h2 : ∀ h, h ∈ sbN l.length (2 ^ l.length) → fil l E h r ≠ none → csL l g ≤ csL l h) : ∃ C, LsC l E r C ∧ g = lst (chB l r C) l.length := by
  cases e : fil l E g r with
  | none => exact absurd e h1
  | some x =>
    obtain ⟨D, hD, hs⟩ := fil_ls hok hr hg.1 e
    obtain ⟨C, hC⟩ := lsC_ex (r := r) (l := l) (E := E) (fun q => by rw [q] at hD; cases hD)
    refine ⟨C, hC, cs_inj (l := l) hok.n12 hg (sb_lst _ _) ?_⟩
    have q1 := h2 _ (lst_sbN (chB l r C) l.length) (ls_fil hok hr hC.1)
    have q2 := hC.2 D hD
    have q3 := csL_le l (lst (chB l r D) l.length) g (lst_nodup _ _) fun y hy => by
      have := mem_lst.1 hy
      exact hs y this.1 this.2
    rw [csL_lst] at q1 q3 ⊢
    omega
/-- What the reference's search over the sets gives. -/
def RlsP (l : List Fd) (E : List Ed) (r : List Int) (w : World) (e : Ending) (w' : World) : Prop :=
  Below w.heap.size w w' ∧ ((∃ C a c, LsC l E r C ∧ e = .returned (.tuple #[.slice a (toI (lst (chB l r C) l.length)).length c, .bool true]) ∧ Rd w' a (toI (lst (chB l r C) l.length))) ∨ (pss l E = [] ∧ e = .returned (.tuple #[.slice none 0 0, .bool false])))
set_option maxRecDepth 100000 in
set_option maxHeartbeats 8000000 in
theorem rleast_c (a : Option Addr) (c : Nat) (l : List Fd) (a2 : Option Addr) (c2 : Nat) (E : List Ed) (a3 : Option Addr) (c3 : Nat) (r : List Int) (w : World) (hl : RdF w a l) (hE : RdE w a2 E) (hr : Rd w a3 r) (hok : Ok l E) (hrl : r.length = l.length) :
    Calls Tryd.prog 51 #[.agg #[.slice a l.length c, .slice a2 E.length c2], .slice a3 r.length c3] w (RlsP l E r w) := by
  obtain ⟨W1, hW1⟩ : ∃ W, w.alloc (.cells #[.slice a l.length c, .slice a2 E.length c2] 25) = W := ⟨_, rfl⟩
  obtain ⟨z, hz⟩ : ∃ z, w.heap.size = z := ⟨_, rfl⟩
  have b1 : Below w.heap.size w W1 := by rw [← hW1]; exact bel_one _ _
  have B1 := Lib.hid b1
  have x0 : W1.cell? ⟨z, 0, none⟩ = some (.slice a l.length c) := by rw [← hW1, ← hz, World.cell?_alloc_new]; rfl
  have x1 : W1.cell? ⟨z, 1, none⟩ = some (.slice a2 E.length c2) := by rw [← hW1, ← hz, World.cell?_alloc_new]; rfl
  have X : Hid (∀ V, Below W1.heap.size W1 V → S2e ⟨z, 0, none⟩ ⟨z, 1, none⟩ (.slice a l.length c) (.slice a2 E.length c2) V) := fun V hV =>
    ⟨(hV.cell (p := ⟨z, 0, none⟩) (cellLt x0)).trans x0, (hV.cell (p := ⟨z, 1, none⟩) (cellLt x1)).trans x1⟩
  have C1 := Lib.hid (sets_c a c l E a2 E.length c2 W1 (hl.below b1) hok)
  have C2 : Hid (∀ V ga gc (g : List Nat), Below w.heap.size w V → Rd V ga (toI g) → (∀ x, x ∈ g → x < l.length) → Calls Tryd.prog 36 #[.agg #[.slice a l.length c, .slice a2 E.length c2], .slice a3 r.length c3, .slice ga g.length gc] V (FstO (fil l E g r) V)) := fun V ga gc g hV hg hb => by
    have := rfirst_c a c l a2 c2 E a3 c3 r ga gc g V (hl.below hV) (hE.below hV) (hr.below hV) hg hok hrl hb
    rw [toI_len] at this; exact this
  have HOK := Lib.hid hok
  have HRL := Lib.hid hrl
  obtain ⟨n, hn⟩ : ∃ n, l.length = n := ⟨_, rfl⟩
  obtain ⟨m, hm⟩ : ∃ n, E.length = n := ⟨_, rfl⟩
  obtain ⟨k, hk⟩ : ∃ n, r.length = n := ⟨_, rfl⟩
  have HN := Lib.hid hn
  have hP4 : 2 ^ n ≤ 4096 := Nat.le_trans (Nat.pow_le_pow_right (n := 2) (by omega) (by rw [← hn]; exact hok.n12)) (by decide)
  obtain ⟨P, hPP⟩ : ∃ P, 2 ^ n = P := ⟨_, rfl⟩
  have HPP := Lib.hid hPP
  unfold SetP at C1
  rw [hn] at C1 C2 x0 X hW1 ⊢
  rw [hm] at C1 C2 x1 X hW1 ⊢
  rw [hk] at C2 ⊢
  rw [hPP] at C1 hP4
  clear hl hE hr hok hrl hn hm hk hPP b1
  go_enter Tryd.func51, Tryd.ntmps51
  go_wp2_with fail
  refine C1.out.mono ?_
  rintro e1 w2 ⟨b2, sa, sc, I, rfl, hIl, hw, hi, hs, hall⟩
  have B2 := Lib.hid b2
  have BW2 : Hid (Below w.heap.size w w2) := B1.out.trans (b2.mono B1.out.size)
  have HI := Lib.hid hi
  have HS := Lib.hid hs
  have HA := Lib.hid hall
  have HWN := Lib.hid hw
  have HIL := Lib.hid hIl
  clear b2 hi hs hall hw hIl C1 hW1
  go_wp2_with fail
  go_loopw [7, 8, 9, 13] (fun _ _ _ iv wr => ∃ (j : Nat), iv = .int .i64 j ∧ Hid (j ≤ P ∧ (∀ q x, q < j → I[q]? = some x → fil l E x.2 r = none) ∧ Below w2.heap.size w2 wr)) (fun _ _ _ iv _ => P - (intOf iv).toNat)
  case atStart => exact ⟨0, rfl, Nat.zero_le _, fun q x hq => absurd hq (by omega), Below.refl _ _⟩
  case round =>
    obtain ⟨j, rfl, hS⟩ := hrel
    obtain ⟨hj, hno, hbl⟩ := hS.out
    have HNO := Lib.hid hno
    have HBL := Lib.hid hbl
    by_cases hlt : j < P
    · have hlt' : (j : Int) < (P : Int) := by omega
      have hjI : j < I.length := by rw [HIL.out]; exact hlt
      obtain ⟨x, hx⟩ : ∃ x, I[j]? = some x := ⟨I[j], List.getElem?_eq_getElem hjI⟩
      have HX := Lib.hid hx
      obtain ⟨sb, xa, xc, ex, hrx⟩ := HI.out x (List.mem_of_getElem? hx)
      obtain ⟨ib, io, rfl, hil, hic⟩ := HWN.out.2.2.2 (by unfold vls; rw [List.length_map]; omega)
      have c0 := hic j x.1 (by unfold vls; rw [List.getElem?_map, hx]; rfl)
      rw [ex] at c0
      have c1 := (hbl.cell (p := ⟨ib, io + j, none⟩) hil).trans c0
      have HSB := Lib.hid sb
      have HRX := Lib.hid (hrx.below hbl)
      obtain ⟨xv, g⟩ := x
      dsimp only at c1 HSB HRX
      have BWR : Hid (Below w.heap.size w wr) := BW2.out.trans (hbl.mono BW2.out.size)
      have C3 := Lib.hid (C2.out wr xa xc g BWR.out HRX.out HSB.out.1)
      obtain ⟨y0, y1⟩ := X.out wr (B2.out.trans (hbl.mono B2.out.size))
      unfold FstO at C3
      obtain ⟨o, ho⟩ : ∃ o, fil l E g r = o := ⟨_, rfl⟩
      rw [ho] at C3
      have HO := Lib.hid ho
      obtain ⟨gl, hgl⟩ : ∃ q, g.length = q := ⟨_, rfl⟩
      have HGL := Lib.hid hgl
      rw [hgl] at C3 c1
      clear hS hno hbl hx sb ex hrx hic hil c0 ho hgl hjI
      go_wp2_with fail
      refine C3.out.mono ?_
      rintro e1 w4 ⟨b4, ⟨r', ra, rc, he, rfl, hrd⟩ | ⟨he, rfl⟩⟩
      · have PP : Hid (RlsP l E r w (.returned (.tuple #[.slice xa gl xc, .bool true])) w4) := by
          have hn := HN.out
          have hg : Sb l.length g := by rw [hn]; exact HSB.out
          obtain ⟨C, hC, e⟩ := ls_cheap HOK.out HRL.out hg (by rw [HO.out, he]; simp) fun h hh hf => by
            obtain ⟨v, hv⟩ := HA.out h (by rw [← HPP.out, ← hn]; exact hh)
            obtain ⟨q, hq, hqe⟩ := List.getElem_of_mem hv
            have hq2 : I[q]? = some (v, h) := by rw [List.getElem?_eq_getElem hq, hqe]
            rcases Nat.lt_trichotomy q j with h1 | h1 | h1
            · exact absurd (HNO.out q _ h1 hq2) hf
            · subst h1
              have := HX.out
              rw [hq2] at this
              injection this with this
              injection this with _ this
              rw [this]; exact Nat.le_refl _
            · have hj' : j < I.length := by rw [HIL.out]; exact hlt
              have h2 := List.pairwise_iff_getElem.1 HS.out j q hj' hq h1
              have h3 : I[j] = (xv, g) := by
                have := HX.out
                rw [List.getElem?_eq_getElem hj'] at this
                injection this
              rw [h3, hqe] at h2
              exact h2
          refine ⟨BWR.out.trans (b4.mono BWR.out.size), .inl ⟨C, xa, xc, hC, ?_, ?_⟩⟩
          · rw [toI_len, ← e, HGL.out]
          · rw [← e]; exact HRX.out.below b4
        clear b4 he hrd C3 hlt
        go_wp2_with fail
        go_ret2
        exact PP.out
      · have NX : Hid (j + 1 ≤ P ∧ (∀ q x, q < j + 1 → I[q]? = some x → fil l E x.2 r = none) ∧ Below w2.heap.size w2 w4) := by
          refine ⟨hlt, fun q x hq hx => ?_, HBL.out.trans (b4.mono HBL.out.size)⟩
          by_cases e : q = j
          · subst e
            have := HX.out
            rw [hx] at this
            injection this with this
            rw [this]; exact HO.out.trans he
          · exact HNO.out q x (by omega) hx
        clear b4 he C3 hlt
        go_wp2_with fail
        go_roundw
        case rel => exact ⟨j + 1, by go_num, NX.out⟩
        case measure => simp [intOf]; omega
    · have hlt' : ¬ (j : Int) < (P : Int) := by omega
      have e : j = P := by omega
      have PP : Hid (RlsP l E r w (.returned (.tuple #[.slice none 0 0, .bool false])) wr) := by
        refine ⟨BW2.out.trans (hbl.mono BW2.out.size), .inr ⟨?_, rfl⟩⟩
        refine Classical.byContradiction fun q => ?_
        obtain ⟨C, hC⟩ := lsC_ex (r := r) q
        have h1 := ls_fil HOK.out HRL.out hC.1
        have h2 := lst_sbN (chB l r C) l.length
        rw [HN.out, HPP.out] at h2
        obtain ⟨v, hv⟩ := HA.out _ h2
        obtain ⟨i, hi, hie⟩ := List.getElem_of_mem hv
        have := hno i (v, lst (chB l r C) n) (by rw [e, ← HIL.out]; exact hi) (by rw [List.getElem?_eq_getElem hi, hie])
        rw [HN.out] at h1
        exact h1 this
      clear hS hno hbl hlt e
      go_wp2_with fail
      go_ret2
      exact PP.out
end Go.Proofs.YtadfmplafehjlaaDoor
namespace Go.Proofs.YtadfmplafehjlaaDoor
open Go.RowKit Go.WideMaps Go.Maps Go.Shelf

/-- What Least gives, with its fault. -/
def leE (l : List Fd) (E : List Ed) (r : List Int) : Int := if frS l E r ≠ 0 then frS l E r else if pss l E = [] then 9 else 0
theorem le_res {l : List Fd} {E : List Ed} {r : List Int} {w : World} {e : Ending} {w' : World} (h : LeaP l E r w e w') : Below w.heap.size w w' ∧ ((leE l E r ≠ 0 ∧ e = .returned (.tuple #[.slice none 0 0, .int .i64 (leE l E r)])) ∨
    (leE l E r = 0 ∧ frS l E r = 0 ∧ ∃ C a c, LsC l E r C ∧ e = .returned (.tuple #[.slice a (toI (lst (chB l r C) l.length)).length c, .int .i64 0]) ∧ Rd w' a (toI (lst (chB l r C) l.length)))) := by
  obtain ⟨hb, ⟨h0, he⟩ | ⟨h0, ⟨hp, he⟩ | ⟨C, a, c, hC, he, hr⟩⟩⟩ := h
  · refine ⟨hb, .inl ⟨?_, ?_⟩⟩
    · unfold leE; rw [if_pos h0]; exact h0
    · unfold leE; rw [if_pos h0]; exact he
  · have e : leE l E r = 9 := by unfold leE; rw [if_neg (by simpa using h0), if_pos hp]
    exact ⟨hb, .inl ⟨by rw [e]; decide, by rw [e]; exact he⟩⟩
  · have hne : pss l E ≠ [] := fun q => by have := hC.1; rw [q] at this; cases this
    have e : leE l E r = 0 := by unfold leE; rw [if_neg (by simpa using h0), if_neg hne]
    exact ⟨hb, .inr ⟨e, h0, C, a, c, hC, he, hr⟩⟩
/-- The fields of Least are those of a sound call of First, and a record that passes is found. -/
theorem ls_first {l : List Fd} {E : List Ed} {r : List Int} (h0 : frS l E r = 0) {C : Nat → Nat} (hC : LsC l E r C) : frfS l E r (toI (lst (chB l r C) l.length)) = 0 ∧ ∃ x, fil l E (natL (toI (lst (chB l r C) l.length))) r = some x ∧ frS l E x = 0 ∧ paB l E x = true := by
  obtain ⟨hok, hr⟩ := fr_ok h0
  refine ⟨?_, ?_⟩
  · unfold frfS
    rw [if_neg (by simpa using h0)]
    exact fre_ok (fun x hx => (mem_lst.1 hx).1) (lst_inc _ _)
  · rw [natL_toI]
    have h1 := ls_fil hok hr.1 hC.1
    cases e : fil l E (lst (chB l r C) l.length) r with
    | none => exact absurd e h1
    | some x =>
      obtain ⟨q1, q2, _⟩ := fil_some _ r x (fun i hi => by rw [hr.1]; exact (mem_lst.1 hi).1) e
      exact ⟨x, rfl, fr_some h0 (by rw [q1]; exact hr.1) q2, q2⟩
set_option maxRecDepth 100000 in
set_option maxHeartbeats 8000000 in
theorem law_leastis (a : Option Addr) (c : Nat) (l : List Fd) (a2 : Option Addr) (c2 : Nat) (E : List Ed) (a3 : Option Addr) (c3 : Nat) (r : List Int) (fa : Option Addr) (fc : Nat) (f : List Int) (w : World) (hl : RdF w a l) (hE : RdE w a2 E) (hr : Rd w a3 r) (hf : Rd w fa f) (hst : ∀ u, u ∈ l → u.nm.size ≤ 9223372036854775807) (hst2 : ∀ u, u ∈ E → u.nm.size ≤ 9223372036854775807)
    (hT : TabAt 0 Lib.deBruijn64tab w) (ht : 0 < w.heap.size) :
    Calls Tryd.prog 7 #[.agg #[.slice a l.length c, .slice a2 E.length c2], .slice a3 r.length c3, .slice fa f.length fc] w fun e w' => e = .returned (.bool true) ∧ Below w.heap.size w w' := by
  have mixed : Tryd.prog.follows .mixedOrders = true := by kernel_rfl
  obtain ⟨z, hzz⟩ : ∃ z, w.heap.size = z := ⟨_, rfl⟩
  obtain ⟨W1, hW1⟩ : ∃ W, w.alloc (.cells #[.slice a l.length c, .slice a2 E.length c2] 25) = W := ⟨_, rfl⟩
  have b1 : Below w.heap.size w W1 := by rw [← hW1]; exact bel_one _ _
  have B1 := Lib.hid b1
  have x0 : W1.cell? ⟨z, 0, none⟩ = some (.slice a l.length c) := by rw [← hW1, ← hzz, World.cell?_alloc_new]; rfl
  have x1 : W1.cell? ⟨z, 1, none⟩ = some (.slice a2 E.length c2) := by rw [← hW1, ← hzz, World.cell?_alloc_new]; rfl
  have X : Hid (∀ V, Below W1.heap.size W1 V → V.cell? ⟨z, 0, none⟩ = some (.slice a l.length c) ∧ V.cell? ⟨z, 1, none⟩ = some (.slice a2 E.length c2)) := fun V hV =>
    ⟨(hV.cell (p := ⟨z, 0, none⟩) (cellLt x0)).trans x0, (hV.cell (p := ⟨z, 1, none⟩) (cellLt x1)).trans x1⟩
  have lw : ∀ V, Below W1.heap.size W1 V → Below w.heap.size w V := fun V hV => b1.trans (hV.mono b1.size)
  have C1 : Hid (∀ V, Below W1.heap.size W1 V → Calls Tryd.prog 22 #[.agg #[.slice a l.length c, .slice a2 E.length c2], .slice a3 r.length c3] V fun e w' => Below V.heap.size V w' ∧ ((leE l E r ≠ 0 ∧ e = .returned (.tuple #[.slice none 0 0, .int .i64 (leE l E r)])) ∨
      (leE l E r = 0 ∧ frS l E r = 0 ∧ ∃ C a c, LsC l E r C ∧ e = .returned (.tuple #[.slice a (toI (lst (chB l r C) l.length)).length c, .int .i64 0]) ∧ Rd w' a (toI (lst (chB l r C) l.length))))) := fun V hV =>
    (Least_c a c l a2 c2 E a3 c3 r V (hl.below (lw V hV)) (hE.below (lw V hV)) (hr.below (lw V hV)) hst hst2 (tab_below hT ht (lw V hV)) (Nat.lt_of_lt_of_le ht (lw V hV).size)).mono fun e w' h => le_res h
  have C3 : Hid (∀ (ax : Option Addr) (cx : Nat) (x : List Int) V, Below W1.heap.size W1 V → Rd V ax x → Calls Tryd.prog 11 #[.agg #[.slice a l.length c, .slice a2 E.length c2], .slice ax x.length cx] V fun e w' => e = .returned (.tuple #[.bool (psB l E x), .int .i64 (frS l E x)]) ∧ Below V.heap.size V w') := fun ax cx x V hV hx =>
    (Passes_c a c l a2 c2 E ax cx x V (hl.below (lw V hV)) (hE.below (lw V hV)) hx hst hst2 (tab_below hT ht (lw V hV)) (Nat.lt_of_lt_of_le ht (lw V hV).size)).mono fun e w' h => ps_res h
  have C5 : Hid (∀ (ag : Option Addr) (cg : Nat) (g : List Int) V, Below W1.heap.size W1 V → Rd V ag g → Calls Tryd.prog 13 #[.agg #[.slice a l.length c, .slice a2 E.length c2], .slice a3 r.length c3, .slice ag g.length cg] V fun e w' => ∃ a c, e = .returned (.tuple #[.slice a (fiL l E r g).length c, .bool (fiB l E r g), .int .i64 (frfS l E r g)]) ∧ Rd w' a (fiL l E r g) ∧ Below V.heap.size V w') := fun ag cg g V hV hg =>
    (First_c a c l a2 c2 E a3 c3 r ag cg g V (hl.below (lw V hV)) (hE.below (lw V hV)) (hr.below (lw V hV)) hg hst hst2 (tab_below hT ht (lw V hV)) (Nat.lt_of_lt_of_le ht (lw V hV).size)).mono fun e w' h => fi_res h
  have C6 : Hid (∀ (ag : Option Addr) (cg : Nat) (g : List Nat) V, Ok l E → Below W1.heap.size W1 V → Rd V ag (toI g) → (∀ x, x ∈ g → x < l.length) → g.length ≤ 12 → Calls Tryd.prog 24 #[.slice ag (toI g).length cg, .pointer (some ⟨z, 0, none⟩)] V fun e w' => e = .returned (.int .i64 (wsL l g : Nat)) ∧ w' = V) := fun ag cg g V hok hV hg hgl hgn =>
    weight_c z a c l E ag cg g V (hl.below (lw V hV)) hok hg hgl hgn (X.out V hV).1
  have HFF := Lib.hid hf
  have LW := Lib.hid lw
  obtain ⟨f0, hf0⟩ : ∃ x, leE l E r = x := ⟨_, rfl⟩
  rw [hf0] at C1
  obtain ⟨n, hn⟩ : ∃ n, l.length = n := ⟨_, rfl⟩
  obtain ⟨m, hm⟩ : ∃ n, E.length = n := ⟨_, rfl⟩
  obtain ⟨k, hk⟩ : ∃ n, r.length = n := ⟨_, rfl⟩
  have HN := Lib.hid hn
  rw [hn] at C1 C3 C5 x0 X hW1
  rw [hm] at C1 C3 C5 x1 X hW1
  rw [hk] at C1 C5
  rw [hn, hm, hk]
  clear hl hE hr hf hst hst2 hT b1 lw hn hm hk hf0
  go_enter Tryd.func7, Tryd.ntmps7
  go_wp2_with fail
  clear hW1 x0 x1
  refine (C1.out W1 (Below.refl _ _)).mono ?_
  rintro e1 w2 ⟨b2, ⟨h0, rfl⟩ | ⟨h0, hfr, C, la, lc, hC, rfl, hrd⟩⟩
  · have S2 := Lib.hid b2
    have g1 : (f0 != 0) = true := by simpa using h0
    clear b2 h0 C1
    go_wp2_with fail
    go_ret
    exact ⟨rfl, LW.out w2 S2.out⟩
  · have S2 := Lib.hid b2
    have HFR := Lib.hid hfr
    have HC := Lib.hid hC
    have HOK := Lib.hid (fr_ok hfr)
    obtain ⟨hff, x, hfx, hxf, hxp⟩ := ls_first hfr hC
    obtain ⟨G, hG⟩ : ∃ G, lst (chB l r C) n = G := ⟨_, rfl⟩
    rw [HN.out, hG] at hff hfx
    rw [hG] at hrd
    have HGG := Lib.hid hG
    have F1 : Hid (fiL l E r (toI G) = x ∧ fiB l E r (toI G) = true) := by
      unfold Hid fiL fiB
      rw [if_neg (by simpa using hff), if_neg (by simpa using hff), hfx]
      exact ⟨rfl, rfl⟩
    have P1 : Hid (psB l E x = true) := by
      unfold Hid psB
      rw [if_neg (by simpa using hxf)]; exact hxp
    have C51 := Lib.hid (C5.out la lc (toI G) w2 S2.out hrd)
    have RG := Lib.hid hrd
    rw [F1.out.1, F1.out.2, hff] at C51
    rw [hG]
    have C3x := Lib.hid fun ax cx V h1 h2 => C3.out ax cx x V h1 h2
    rw [P1.out, hxf] at C3x
    obtain ⟨q, hq⟩ : ∃ q, x.length = q := ⟨_, rfl⟩
    rw [hq] at C51 C3x
    have HGL : Hid ((∀ i, i ∈ G → i < l.length) ∧ G.length ≤ 12) := by
      have h1 := lst_le (chB l r C) n
      have h2 := HOK.out.1.n12
      rw [HN.out] at h2
      refine ⟨fun i hi => ?_, by rw [← hG]; omega⟩
      rw [← hG] at hi
      rw [HN.out]; exact (mem_lst.1 hi).1
    obtain ⟨gl, hgl⟩ : ∃ q, (toI G).length = q := ⟨_, rfl⟩
    have C6G := Lib.hid fun V h1 h2 => C6.out la lc G V HOK.out.1 h1 h2 HGL.out.1 HGL.out.2
    rw [hgl] at C51 C6G ⊢
    clear b2 hfr hC hff hfx hxf hxp hG hrd hq hgl h0 C1 C3
    obtain ⟨v0, v1⟩ := X.out w2 S2.out
    go_wp2_with fail
    clear v0 v1
    refine C51.out.mono ?_
    rintro e1 w3 ⟨xa, xc, rfl, r3, b3⟩
    have S3 : Hid (Below W1.heap.size W1 w3) := S2.out.trans (b3.mono S2.out.size)
    have R3 := Lib.hid r3
    have RG3 := Lib.hid (RG.out.below b3)
    clear r3 b3 C51
    obtain ⟨v0, v1⟩ := X.out w3 S3.out
    go_wp2_with fail
    clear v0 v1
    refine (C3x.out xa xc w3 S3.out R3.out).mono ?_
    rintro e1 w4 ⟨rfl, b4⟩
    have S4 : Hid (Below W1.heap.size W1 w4) := S3.out.trans (b4.mono S3.out.size)
    have RG4 := Lib.hid (RG3.out.below b4)
    clear b4 C3x
    obtain ⟨v0, v1⟩ := X.out w4 S4.out
    go_wp2_with fail
    clear v0 v1
    refine (C5.out fa fc f w4 S4.out (HFF.out.below (LW.out w4 S4.out))).mono ?_
    rintro e1 w5 ⟨ya, yc, rfl, r5, b5⟩
    have S5 : Hid (Below W1.heap.size W1 w5) := S4.out.trans (b5.mono S4.out.size)
    have RG5 := Lib.hid (RG4.out.below b5)
    clear b5 r5
    by_cases hgs : frfS l E r f = 0
    · have HGS := Lib.hid hgs
      cases hib : fiB l E r f with
      | false =>
        rw [hgs]
        clear hgs hib C5 C6 C6G
        go_wp2_with fail
        go_ret
        exact ⟨rfl, LW.out w5 S5.out⟩
      | true =>
        have hfr2 : freS l.length f = 0 := by
          have := HGS.out
          unfold frfS at this
          rw [if_neg (by rw [HFR.out]; simp)] at this
          exact this
        obtain ⟨e1, e2, e3⟩ := nat_back hfr2
        obtain ⟨G2, hG2⟩ : ∃ G2, natL f = G2 := ⟨_, rfl⟩
        have hfl : ∃ y, fil l E G2 r = some y := by
          unfold fiB at hib
          rw [if_neg (by simpa using hgs), hG2] at hib
          exact Option.isSome_iff_exists.1 hib
        rw [hG2] at e1 e2 e3
        obtain ⟨y, hy⟩ := hfl
        have HWL : Hid (wsL l G ≤ wsL l G2) := by
          have := ls_weigh HOK.out.1 HOK.out.2.1 HC.out e2 hy
          rw [HN.out, HGG.out] at this
          exact this
        have HG2 : Hid ((∀ i, i ∈ G2 → i < l.length) ∧ G2.length ≤ 12) := by
          have h1 := inc_short l.length G2 e2 (List.Pairwise.imp (fun h => Nat.ne_of_lt h) e3)
          have h2 := HOK.out.1.n12
          exact ⟨e2, by omega⟩
        have C62 := Lib.hid (C6.out fa fc G2 w5 HOK.out.1 S5.out (by rw [e1]; exact HFF.out.below (LW.out w5 S5.out)) HG2.out.1 HG2.out.2)
        have C63 := Lib.hid (C6G.out w5 S5.out RG5.out)
        rw [e1] at C62
        obtain ⟨s1, hs1⟩ : ∃ s, wsL l G = s := ⟨_, rfl⟩
        obtain ⟨s2, hs2⟩ : ∃ s, wsL l G2 = s := ⟨_, rfl⟩
        rw [hs1] at C63 HWL
        rw [hs2] at C62 HWL
        have hle : (s1 : Int) ≤ (s2 : Int) := by have := HWL.out; omega
        rw [hgs]
        obtain ⟨fl, hfl⟩ : ∃ q, f.length = q := ⟨_, rfl⟩
        rw [hfl] at C62 ⊢
        clear hgs hib C5 C6 C6G hfr2 e1 e2 e3 hG2 hy hs1 hs2 hfl
        go_wp2_with fail
        refine C62.out.mono ?_
        rintro e1 w6 ⟨rfl, rfl⟩
        go_wp2_with fail
        refine C63.out.mono ?_
        rintro e1 w7 ⟨rfl, rfl⟩
        go_wp2_with fail
        go_ret
        exact ⟨rfl, LW.out _ S5.out⟩
    · obtain ⟨gs, hgs2⟩ : ∃ x, frfS l E r f = x := ⟨_, rfl⟩
      rw [hgs2] at hgs ⊢
      have g1 : (gs != 0) = true := by simpa using hgs
      clear hgs hgs2 C5 C6 C6G
      go_wp2_with fail
      go_ret
      exact ⟨rfl, LW.out w5 S5.out⟩
end Go.Proofs.YtadfmplafehjlaaDoor
namespace Go.Proofs.YtadfmplafehjlaaDoor
open Go.RowKit Go.WideMaps Go.Maps Go.Shelf

set_option maxRecDepth 100000 in
set_option maxHeartbeats 8000000 in
theorem rLeast_c (a : Option Addr) (c : Nat) (l : List Fd) (a2 : Option Addr) (c2 : Nat) (E : List Ed) (a3 : Option Addr) (c3 : Nat) (r : List Int) (w : World) (hl : RdF w a l) (hE : RdE w a2 E) (hr : Rd w a3 r) (hEnv : Env w) (hc1 : l.length ≤ c) (hc2 : E.length ≤ c2) :
    Calls Tryd.prog 23 #[.agg #[.slice a l.length c, .slice a2 E.length c2], .slice a3 r.length c3] w (LeaP l E r w) := by
  obtain ⟨W1, hW1⟩ : ∃ W, w.alloc (.cells #[.slice a l.length c, .slice a2 E.length c2] 25) = W := ⟨_, rfl⟩
  obtain ⟨z, hz⟩ : ∃ z, w.heap.size = z := ⟨_, rfl⟩
  have b1 : Below w.heap.size w W1 := by rw [← hW1]; exact bel_one _ _
  have B1 := Lib.hid b1
  have x0 : W1.cell? ⟨z, 0, none⟩ = some (.slice a l.length c) := by rw [← hW1, ← hz, World.cell?_alloc_new]; rfl
  have x1 : W1.cell? ⟨z, 1, none⟩ = some (.slice a2 E.length c2) := by rw [← hW1, ← hz, World.cell?_alloc_new]; rfl
  have X : Hid (∀ V, Below W1.heap.size W1 V → S2e ⟨z, 0, none⟩ ⟨z, 1, none⟩ (.slice a l.length c) (.slice a2 E.length c2) V) := fun V hV =>
    ⟨(hV.cell (p := ⟨z, 0, none⟩) (cellLt x0)).trans x0, (hV.cell (p := ⟨z, 1, none⟩) (cellLt x1)).trans x1⟩
  have C1 : Hid (Calls Tryd.prog 9 #[.agg #[.slice a l.length c, .slice a2 E.length c2], .slice a3 r.length c3] W1 fun e w' => ∃ a c, e = .returned (.tuple #[.slice a (faL l E r).length c, .int .i64 (frS l E r)]) ∧ Rd w' a (faL l E r) ∧ Below W1.heap.size W1 w') :=
    (rFails_c a c l a2 c2 E a3 c3 r W1 (hl.below b1) (hE.below b1) (hr.below b1) (hEnv.below b1) hc1 hc2).mono fun e w' h => fa_res h
  have C2 : Hid (∀ V, Below w.heap.size w V → frS l E r = 0 → Calls Tryd.prog 51 #[.agg #[.slice a l.length c, .slice a2 E.length c2], .slice a3 r.length c3] V (RlsP l E r V)) := fun V hV h0 =>
    rleast_c a c l a2 c2 E a3 c3 r V (hl.below hV) (hE.below hV) (hr.below hV) (fr_ok h0).1 (fr_ok h0).2.1
  obtain ⟨f, hf⟩ : ∃ f, frS l E r = f := ⟨_, rfl⟩
  rw [hf] at C1 C2
  have HF := Lib.hid hf
  obtain ⟨fl, hfl⟩ : ∃ f, (faL l E r).length = f := ⟨_, rfl⟩
  rw [hfl] at C1
  obtain ⟨n, hn⟩ : ∃ n, l.length = n := ⟨_, rfl⟩
  obtain ⟨m, hm⟩ : ∃ n, E.length = n := ⟨_, rfl⟩
  obtain ⟨k, hk⟩ : ∃ n, r.length = n := ⟨_, rfl⟩
  have HN := Lib.hid hn
  rw [hn] at C1 C2 x0 X hW1 ⊢
  rw [hm] at C1 C2 x1 X hW1 ⊢
  rw [hk] at C1 C2 ⊢
  clear hl hE hr hEnv hc1 hc2 hn hm hk b1 hf hfl
  go_enter Tryd.func23, Tryd.ntmps23
  go_wp2_with fail
  clear hW1
  refine C1.out.mono ?_
  rintro e1 w2 ⟨p1, k1, rfl, _, b2⟩
  have B2 := Lib.hid b2
  have BW2 : Hid (Below w.heap.size w w2) := B1.out.trans (b2.mono B1.out.size)
  clear b2 C1 x0 x1
  by_cases h0 : f = 0
  · subst h0
    have C3 := Lib.hid (C2.out w2 BW2.out rfl)
    obtain ⟨y0, y1⟩ := X.out w2 B2.out
    unfold RlsP at C3
    clear C2
    go_wp2_with fail
    refine C3.out.mono ?_
    rintro e1 w4 ⟨b4, ⟨C, ra, rc, hC, rfl, hrd⟩ | ⟨hp, rfl⟩⟩
    · have PP : Hid (∀ q, (toI (lst (chB l r C) l.length)).length = q → LeaP l E r w (.returned (.tuple #[.slice ra q rc, .int .i64 0])) w4) := fun q hq =>
        ⟨BW2.out.trans (b4.mono BW2.out.size), .inr ⟨HF.out, .inr ⟨C, ra, rc, hC, by rw [hq], hrd⟩⟩⟩
      obtain ⟨q, hq⟩ : ∃ q, (toI (lst (chB l r C) l.length)).length = q := ⟨_, rfl⟩
      have P2 := Lib.hid (PP.out q hq)
      rw [hq]
      clear b4 hC hrd PP hq C3
      go_wp2_with fail
      go_ret2
      exact P2.out
    · have PP : Hid (LeaP l E r w (.returned (.tuple #[.slice none 0 0, .int .i64 9])) w4) :=
        ⟨BW2.out.trans (b4.mono BW2.out.size), .inr ⟨HF.out, .inl ⟨hp, rfl⟩⟩⟩
      clear b4 hp C3
      go_wp2_with fail
      go_ret2
      exact PP.out
  · have g1 : (f != 0) = true := by simpa using h0
    have PP : Hid (LeaP l E r w (.returned (.tuple #[.slice none 0 0, .int .i64 f])) w2) := by
      refine ⟨BW2.out, .inl ⟨?_, ?_⟩⟩
      · rw [HF.out]; exact h0
      · rw [HF.out]
    clear h0 C2
    go_wp2_with fail
    go_ret2
    exact PP.out
/-- What Least gives. -/
noncomputable def leL (l : List Fd) (E : List Ed) (r : List Int) : List Int := if leE l E r ≠ 0 then [] else
  open Classical in if h : ∃ C, LsC l E r C then toI (lst (chB l r h.choose) l.length) else []
theorem le_res2 {l : List Fd} {E : List Ed} {r : List Int} {w : World} {e : Ending} {w' : World} (h : LeaP l E r w e w') : ∃ a c, e = .returned (.tuple #[.slice a (leL l E r).length c, .int .i64 (leE l E r)]) ∧ Rd w' a (leL l E r) ∧ Below w.heap.size w w' := by
  obtain ⟨hb, ⟨h0, he⟩ | ⟨h0, hfr, C, a, c, hC, he, hr⟩⟩ := le_res h
  · refine ⟨none, 0, ?_, ?_, hb⟩
    · unfold leL; rw [if_pos h0]; exact he
    · unfold leL; rw [if_pos h0]; exact ⟨by simp, fun h => by simp at h⟩
  · have e : leL l E r = toI (lst (chB l r C) l.length) := by
      unfold leL
      have hx : ∃ C, LsC l E r C := ⟨C, hC⟩
      rw [if_neg (by simpa using h0), dif_pos hx, lsC_one (fr_ok hfr).1 hx.choose_spec hC]
    refine ⟨a, c, ?_, ?_, hb⟩
    · rw [e, he, h0]
    · rw [e]; exact hr
set_option maxRecDepth 100000 in
set_option maxHeartbeats 8000000 in
theorem law_least (a : Option Addr) (c : Nat) (l : List Fd) (a2 : Option Addr) (c2 : Nat) (E : List Ed) (a3 : Option Addr) (c3 : Nat) (r : List Int) (w : World) (hl : RdF w a l) (hE : RdE w a2 E) (hr : Rd w a3 r) (hst : ∀ u, u ∈ l → u.nm.size ≤ 9223372036854775807) (hst2 : ∀ u, u ∈ E → u.nm.size ≤ 9223372036854775807)
    (hT : TabAt 0 Lib.deBruijn64tab w) (ht : 0 < w.heap.size) (hEnv : Env w) (hc1 : l.length ≤ c) (hc2 : E.length ≤ c2) :
    Calls Tryd.prog 6 #[.agg #[.slice a l.length c, .slice a2 E.length c2], .slice a3 r.length c3] w fun e w' => e = .returned (.bool true) ∧ Below w.heap.size w w' := by
  obtain ⟨z, hzz⟩ : ∃ z, w.heap.size = z := ⟨_, rfl⟩
  obtain ⟨W1, hW1⟩ : ∃ W, w.alloc (.cells #[.slice a l.length c, .slice a2 E.length c2] 25) = W := ⟨_, rfl⟩
  have b1 : Below w.heap.size w W1 := by rw [← hW1]; exact bel_one _ _
  have x0 : W1.cell? ⟨z, 0, none⟩ = some (.slice a l.length c) := by rw [← hW1, ← hzz, World.cell?_alloc_new]; rfl
  have x1 : W1.cell? ⟨z, 1, none⟩ = some (.slice a2 E.length c2) := by rw [← hW1, ← hzz, World.cell?_alloc_new]; rfl
  have X : Hid (∀ V, Below W1.heap.size W1 V → V.cell? ⟨z, 0, none⟩ = some (.slice a l.length c) ∧ V.cell? ⟨z, 1, none⟩ = some (.slice a2 E.length c2)) := fun V hV =>
    ⟨(hV.cell (p := ⟨z, 0, none⟩) (cellLt x0)).trans x0, (hV.cell (p := ⟨z, 1, none⟩) (cellLt x1)).trans x1⟩
  have lw : ∀ V, Below W1.heap.size W1 V → Below w.heap.size w V := fun V hV => b1.trans (hV.mono b1.size)
  have C1 : Hid (∀ V, Below W1.heap.size W1 V → Calls Tryd.prog 22 #[.agg #[.slice a l.length c, .slice a2 E.length c2], .slice a3 r.length c3] V fun e w' => ∃ a c, e = .returned (.tuple #[.slice a (leL l E r).length c, .int .i64 (leE l E r)]) ∧ Rd w' a (leL l E r) ∧ Below V.heap.size V w') := fun V hV =>
    (Least_c a c l a2 c2 E a3 c3 r V (hl.below (lw V hV)) (hE.below (lw V hV)) (hr.below (lw V hV)) hst hst2 (tab_below hT ht (lw V hV)) (Nat.lt_of_lt_of_le ht (lw V hV).size)).mono fun e w' h => le_res2 h
  have C2 : Hid (∀ V, Below W1.heap.size W1 V → Calls Tryd.prog 23 #[.agg #[.slice a l.length c, .slice a2 E.length c2], .slice a3 r.length c3] V fun e w' => ∃ a c, e = .returned (.tuple #[.slice a (leL l E r).length c, .int .i64 (leE l E r)]) ∧ Rd w' a (leL l E r) ∧ Below V.heap.size V w') := fun V hV =>
    (rLeast_c a c l a2 c2 E a3 c3 r V (hl.below (lw V hV)) (hE.below (lw V hV)) (hr.below (lw V hV)) (hEnv.below (lw V hV)) hc1 hc2).mono fun e w' h => le_res2 h
  obtain ⟨FL, hFL⟩ : ∃ L, leL l E r = L := ⟨_, rfl⟩
  obtain ⟨fs, hfs⟩ : ∃ L, leE l E r = L := ⟨_, rfl⟩
  rw [hFL, hfs] at C1 C2
  obtain ⟨n, hn⟩ : ∃ n, l.length = n := ⟨_, rfl⟩
  obtain ⟨m, hm⟩ : ∃ n, E.length = n := ⟨_, rfl⟩
  obtain ⟨k, hk⟩ : ∃ n, r.length = n := ⟨_, rfl⟩
  obtain ⟨fl, hfl⟩ : ∃ n, FL.length = n := ⟨_, rfl⟩
  have CE1 : Hid (∀ a1 c1 a2 c2 V, Rd V a1 FL → Rd V a2 FL → Calls Tryd.prog 10 #[.slice a1 fl c1, .slice a2 fl c2] V fun e w' => e = .returned (.bool true) ∧ Below V.heap.size V w') := fun a1 c1 a2 c2 V h1 h2 => by rw [← hfl]; exact equalI_c a1 a2 c1 c2 FL V h1 h2
  rw [hn] at C1 C2 x0 X hW1
  rw [hm] at C1 C2 x1 X hW1
  rw [hk] at C1 C2
  rw [hfl] at C1 C2
  rw [hn, hm, hk]
  have LW := Lib.hid lw
  clear hl hE hr hst hst2 hT hEnv hc1 hc2 b1 lw hFL hfs hn hm hk hfl
  go_enter Tryd.func6, Tryd.ntmps6
  go_wp2_with fail
  clear hW1 x0 x1
  refine (C1.out W1 (Below.refl _ _)).mono ?_
  rintro e1 w2 ⟨p1, k1, rfl, r1, b2⟩
  have S2 := Lib.hid b2
  have R1 := Lib.hid r1
  clear r1 b2
  obtain ⟨v0, v1⟩ := X.out w2 S2.out
  go_wp2_with fail
  clear v0 v1
  refine (C2.out w2 S2.out).mono ?_
  rintro e1 w3 ⟨p2, k2, rfl, r2, b3⟩
  have S3 : Hid (Below W1.heap.size W1 w3) := S2.out.trans (b3.mono S2.out.size)
  have CQ := Lib.hid (CE1.out p1 k1 p2 k2 w3 (R1.out.below b3) r2)
  clear r2 b3 R1 CE1
  have f1 : (fs == fs) = true := by simp
  go_wp2_with fail
  refine CQ.out.mono ?_
  rintro e1 w4 ⟨rfl, b4⟩
  have S4 : Hid (Below W1.heap.size W1 w4) := S3.out.trans (b4.mono S3.out.size)
  clear CQ b4
  go_wp2
  go_ret
  exact ⟨rfl, LW.out w4 S4.out⟩
end Go.Proofs.YtadfmplafehjlaaDoor
