/-
  Strata of the reference.
-/
import Derived.Test.YtkppfceogknlkaaDoorFrmRFrame
namespace Go.Proofs.YtkppfceogknlkaaDoor
open Go.RowKit Go.WideMaps Go.Maps

theorem stF_is (l : List Un) (x : List UInt8) : stF l x = [.string (bs x), .int .i64 (ownU l x).length, .int .i64 (cluN (ownU l x)).length, .int .i64 (sumZ (ownU l x))] := by
  have e0 := own_is l x
  have e1 := own_len l x
  have e2 := clu_is l (gp (fun z => sk (un l z.toNat)) (places l.length) x)
  have e3 := sum_is l (gp (fun z => sk (un l z.toNat)) (places l.length) x)
  rw [e0] at e2 e3
  unfold stF szs
  rw [List.take_length]
  show [Value.string (bs x), .int .i64 ((gp (fun z => sk (un l z.toNat)) (places l.length) x).length : Int), .int .i64 ((gk leN (fun z => (un l z.toNat).cl) (gp (fun z => sk (un l z.toNat)) (places l.length) x)).length : Int), .int .i64 ((gp (fun z => sk (un l z.toNat)) (places l.length) x).map fun z => (un l z.toNat).sz).sum] = _
  rw [e1, e2, e3]
theorem cluN_len (l : List Un) : (cluN l).length ≤ l.length := by
  have h := compact_len_le ((l.map (·.cl)).mergeSort leN)
  unfold cluN
  simpa using h
set_option maxRecDepth 100000 in
set_option maxHeartbeats 4000000 in
theorem RStrata_c (a : Option Addr) (c : Nat) (l : List Un) (w : World) (hl : RdU w a l) (hst : ∀ u, u ∈ l → u.st.size ≤ maxLen) (hE : Env w) :
    Calls Tryd.prog 5 #[.slice a l.length c] w (StP l w) := by
  have HC := Lib.hid (RFrame_c a c l w hl hE)
  have HL := Lib.hid hl
  have h9 := hl.1
  by_cases h0 : chkF l = 0
  · have hf := fine_of h0 hst
    have h5 := hf.len
    have HF := Lib.hid hf
    have H0 := Lib.hid h0
    obtain ⟨j0, hj, hy0, hy1, hy2⟩ := info_parts infoSt
    rw [h0] at HC
    clear hl hst hf hE
    go_enter Tryd.func5, Tryd.ntmps5
    go_wp2_with fail
    refine HC.out.mono ?_
    rintro e w1 ⟨rfl, b1⟩
    have B1 := Lib.hid b1
    clear b1 h0 HC
    go_wp2_with fail
    refine (names_c a c l w1 (HL.out.below B1.out) h5).mono ?_
    rintro e w2 ⟨na, nc, rfl, hN, b2⟩
    have B2 := Lib.hid (B1.out.trans (b2.mono B1.out.size))
    have HN := Lib.hid hN
    have hm5 : (strN l).length ≤ 5000 := hN.1
    clear b2 hN B1
    go_wp2_with fail
    go_loopw [5, 17] (fun o i wr => ∃ j : Nat, j ≤ (strN l).length ∧ i = .int .i64 j ∧ Hid (wr.ownsRow w2.heap.size 30 4 o j (rcells (fun i => stF l ((strN l).getD i [])) j) ∧ Below w2.heap.size w2 wr)) (fun _ i _ => (strN l).length - (intOf i).toNat)
    case atStart => exact ⟨0, Nat.zero_le _, rfl, World.ownsRow_nil _ _ _ _, Below.refl _ _⟩
    case round =>
      obtain ⟨j, hjm, rfl, hR⟩ := hrel
      by_cases hlt : j < (strN l).length
      · have hlt' : (j : Int) < ((strN l).length : Int) := by omega
        obtain ⟨ng, rfl, nc0⟩ := (HN.out.below hR.out.2).at_ hlt
        have HLR := Lib.hid (HL.out.below (B2.out.trans (hR.out.2.mono B2.out.size)))
        have hstF := Lib.hid (stF_is l ((strN l).getD j []))
        have hrc : Hid (rcells (fun i => stF l ((strN l).getD i [])) (j + 1) = rcells (fun i => stF l ((strN l).getD i [])) j ++ stF l ((strN l).getD j [])) := rfl
        obtain ⟨x, hx⟩ : ∃ x, (strN l).getD j [] = x := ⟨_, rfl⟩
        rw [hx] at nc0 hstF hrc
        obtain ⟨us, hus⟩ : ∃ us, ownU l x = us := ⟨_, rfl⟩
        rw [hus] at hstF
        have hul : us.length ≤ 5000 := by rw [← hus]; exact Nat.le_trans (ownU_len _ _) h5
        have hcl5 : (cluN us).length ≤ 5000 := Nat.le_trans (cluN_len us) hul
        have HUF : Hid (∀ z, z ∈ us.map (·.sz) → 0 ≤ z ∧ z ≤ 1000000) := fun z hz => by
          obtain ⟨u, hu, rfl⟩ := List.mem_map.1 hz
          rw [← hus] at hu
          exact HF.out.sz u (List.mem_filter.1 hu).1
        have hsl : (us.map (·.sz)).length ≤ 5000 := by simpa using hul
        have HO := Lib.hid (of_c a c l x wr HLR.out h5)
        rw [hus] at HO
        have HUS := Lib.hid hus
        obtain ⟨kb, hkb⟩ : ∃ kb : ByteArray, bs x = kb := ⟨_, rfl⟩
        rw [hkb] at nc0 hstF HO
        clear hkb hx hus
        go_wp2_with fail
        refine HO.out.mono ?_
        rintro e w3 ⟨ua, uc, rfl, hU, b3⟩
        have HU := Lib.hid hU
        have B3 := Lib.hid b3
        have hO3 := Lib.hid (own_keep hR.out.1 b3)
        have BB3 := Lib.hid (hR.out.2.trans (b3.mono hR.out.2.size))
        clear hU b3 nc0 HO hR
        go_wp2_with fail
        refine (clusters_c ua uc us w3 HU.out hul).mono ?_
        rintro e w4 ⟨ca, cc, rfl, b4⟩
        have HU4 := Lib.hid (HU.out.below b4)
        have hO4 := Lib.hid (own_keep hO3.out b4)
        have BB4 := Lib.hid (BB3.out.trans (b4.mono BB3.out.size))
        clear b4 HU hO3 BB3
        go_wp2_with fail
        refine (sizes_c ua uc us w4 HU4.out hul).mono ?_
        rintro e w5 ⟨sa, sc, rfl, hS, b5⟩
        have HS := Lib.hid hS
        have hO5 := Lib.hid (own_keep hO4.out b5)
        have BB5 := Lib.hid (BB4.out.trans (b5.mono BB4.out.size))
        clear b5 hS HU4 hO4 BB4
        go_wp2_with fail
        refine (total_c sa sc us.length (us.map (·.sz)) w5 HS.out (List.length_map _).symm HUF.out hsl).mono ?_
        rintro e w6 ⟨rfl, rfl⟩
        have hsum : (us.map (·.sz)).sum = sumZ us := rfl
        rw [hsum]
        go_wp2_with (at_builtin; refine wpList_append_own _ rfl _ _ 23 rfl w2.heap.size 30 j0 (.agg #[.string ⟨#[]⟩, .int .i64 0, .int .i64 0, .int .i64 0]) 4 40 Tryd.underlying23 hj hy0 hy1 hy2 rfl (by decide) _ _ _ rfl (hO5.out.alloc _) ⟨w6.heap.size, 0, none⟩ 1 1 [.string kb, .int .i64 us.length, .int .i64 (cluN us).length, .int .i64 (sumZ us)] rfl rfl (cell_four_new _ _ _ _ _ _) (by simp [Value.oneCell']) ?c3 ?c4 ?c5 ?_)
        case c3 => unfold maxLen; omega
        case c4 => omega
        case c5 => have := BB5.out.size; simp; omega
        intro v' w7 hown' hgrow _
        have NX : Hid (w7.ownsRow w2.heap.size 30 4 v' (j + 1) (rcells (fun i => stF l ((strN l).getD i [])) (j + 1)) ∧ Below w2.heap.size w2 w7) := by
          refine ⟨by rw [hrc.out, hstF.out]; exact hown', ?_⟩
          have hs := BB5.out.size
          exact (BB5.out.trans ((bel_one w6 _).mono hs)).grown hgrow (by simp; omega) (fun g hg => (hO5.out.lt g hg).1)
        clear hown' hgrow hO5 BB5
        go_wp2
        go_roundw
        case rel => exact ⟨j + 1, by omega, by go_num, NX.out⟩
        case measure => simp [intOf]; omega
      · obtain rfl : j = (strN l).length := by omega
        go_wp2
        go_ret2
        exact ⟨_, by rw [H0.out]; rfl, B2.out.trans (hR.out.2.mono B2.out.size), fun h => absurd H0.out h, fun _ => ⟨_, hR.out.1⟩⟩
  · have H0 := Lib.hid h0
    have hf' : (chkF l == 0) = false := by rw [beq_eq_false_iff_ne]; exact h0
    clear hl hst hE
    go_enter Tryd.func5, Tryd.ntmps5
    go_wp2_with fail
    refine HC.out.mono ?_
    rintro e w1 ⟨rfl, b1⟩
    have B1 := Lib.hid b1
    clear b1
    go_wp2
    go_ret2
    exact ⟨_, rfl, B1.out, fun _ => rfl, fun h => absurd h H0.out⟩
end Go.Proofs.YtkppfceogknlkaaDoor
