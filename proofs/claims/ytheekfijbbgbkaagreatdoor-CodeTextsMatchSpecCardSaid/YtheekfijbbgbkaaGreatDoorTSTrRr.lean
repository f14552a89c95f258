/-
  The reference of package code: a text is read.
-/
import Derived.Test.YtheekfijbbgbkaaGreatDoorTS16
import Derived.Test.YtheekfijbbgbkaaGreatDoorTS17
import Derived.Test.YtheekfijbbgbkaaGreatDoorTS07
import Derived.Deep.AppendLies
import Derived.Deep.RegionHeld3
namespace Go.Proofs.YtheekfijbbgbkaaGreatDoor
open Go.RowKit Go.WideMaps Go.Maps Go.Lib

structure RfI (V w : World) (T : List UInt8) (k : Nat) (vo vp : Value) (p : List Int) (t : Int) : Prop where
  bel : Below V.heap.size V w
  own : w.ownsRow V.heap.size 28 3 vo (ndU (outS T k)).length (nrow3 (ndU (outS T k)))
  path : w.ownsRow V.heap.size 3 1 vp p.length (p.map (Value.int .i64))
  st : stk (outS T k) (outS T k).length = 0 :: p
  pl : p.length = lvS T k
  tw : t = fe (rpE (outS T k)) (outS T k).length
  z : ∀ j, j < k → scE T j = 0
theorem RfI.keep {V w w' : World} {T : List UInt8} {k : Nat} {vo vp : Value} {p : List Int} {t : Int} (h : RfI V w T k vo vp p t) (hb : Below w.heap.size w w') : RfI V w' T k vo vp p t :=
  ⟨h.bel.trans (hb.mono h.bel.size), own_keep h.own hb, own_keep h.path hb, h.st, h.pl, h.tw, h.z⟩
theorem RfI.skip {V w : World} {T : List UInt8} {k : Nat} {vo vp : Value} {p : List Int} {t : Int} (h : RfI V w T k vo vp p t) (e : pce T k = []) : RfI V w T (k + 1) vo vp p t := by
  have e1 : outS T (k + 1) = outS T k := by show (if _ then _ else _) = _; rw [if_pos e]
  have e2 : lvS T (k + 1) = lvS T k := by show (if _ then _ else _) = _; rw [if_pos e]
  refine ⟨h.bel, by rw [e1]; exact h.own, h.path, by rw [e1]; exact h.st, by rw [e2]; exact h.pl, by rw [e1]; exact h.tw, fun j hj => ?_⟩
  rcases Nat.lt_or_ge j k with q | q
  · exact h.z j q
  · have : j = k := by omega
    subst this
    unfold scE; rw [if_pos e]
/-- The next line is one. -/
theorem RfI.next {V w w' : World} {T : List UInt8} {k q : Nat} {vo vp vo' vp' : Value} {p : List Int} {t t' pr cd : Int} {ti : ByteArray} (h : RfI V w T k vo vp p t) (e : pce T k ≠ []) (hb : lnB (pce T k) = true) (hq : blk (pce T k) / 2 = q) (hqp : q ≤ p.length)
    (hcd : codV (dgs (pce T k)) = cd) (hti : tiN (pce T k) = ti) (hpr : pr = (0 :: p).getD q 0) (ht : t' = if t = 0 then (if has (outS T k) cd (outS T k).length = true then ((k + 1 : Nat) : Int) else 0) else t)
    (hbel : Below V.heap.size V w') (hown : w'.ownsRow V.heap.size 28 3 vo' ((ndU (outS T k)).length + 1) (nrow3 (ndU (outS T k)) ++ ncell3 ⟨cd, pr, ti⟩)) (hpath : w'.ownsRow V.heap.size 3 1 vp' (q + 1) ((p.take q).map (Value.int .i64) ++ [.int .i64 cd])) :
    RfI V w' T (k + 1) vo' vp' (p.take q ++ [cd]) t' := by
  have e1 : outS T (k + 1) = outS T k ++ [lnOf T k] := by show (if _ then _ else _) = _; rw [if_neg e]
  have e2 : lvS T (k + 1) = q + 1 := by show (if _ then _ else lvN (pce T k)) = _; rw [if_neg e]; unfold lvN; rw [hq]
  have e3 : (lnOf T k).lv = q + 1 := by show lvN (pce T k) = _; unfold lvN; rw [hq]
  have e4 : (lnOf T k).cd = cd := hcd
  have e5 : (lnOf T k).ti = ti := hti
  have lq : (p.take q).length = q := by rw [List.length_take]; omega
  have hn : ndU (outS T (k + 1)) = ndU (outS T k) ++ [⟨cd, pr, ti⟩] := by rw [e1, ndU_snoc, h.st, e3, e4, e5, Nat.add_sub_cancel, ← hpr]
  refine ⟨hbel, ?_, ?_, ?_, ?_, ?_, fun j hj => ?_⟩
  · rw [hn, nrow3_snoc, List.length_append]; exact hown
  · rw [List.map_append, List.length_append, lq]; exact hpath
  · rw [e1, stk_snoc, h.st, e3, e4]; rfl
  · rw [e2, List.length_append, lq]; rfl
  · rw [e1, rp_snoc, ← h.tw, e4, ht]; rfl
  · rcases Nat.lt_or_ge j k with q' | q'
    · exact h.z j q'
    · have : j = k := by omega
      subst this
      unfold scE; rw [if_neg e, if_neg]
      rintro (h1 | h1)
      · rw [hb] at h1; cases h1
      · rw [← h.pl] at h1; unfold lvN at h1; omega
theorem clone_c (v : Value) (B : Nat) (zs : List Int) (w : World) (h : w.ownsRow B 3 1 v zs.length (zs.map (Value.int .i64))) (hz : zs.length ≤ 60001) :
    Calls Tryz.prog 16 #[v] w fun e w' => ∃ v', e = .returned v' ∧ w'.ownsRow w.heap.size 3 1 v' zs.length (zs.map (Value.int .i64)) ∧ Below w.heap.size w w' := by
  rcases h.2 with ⟨rfl, h0⟩ | ⟨g, cap, cur, rfl, hb, hg, hn, hm, hs, ht⟩
  · obtain rfl : zs = [] := List.eq_nil_of_length_eq_zero h0
    refine (Tryz.slices_Clone_int_nil 0 0 w).mono ?_
    rintro e w' ⟨rfl, rfl⟩
    exact ⟨_, rfl, ⟨rfl, .inl ⟨rfl, rfl⟩⟩, Below.refl _ _⟩
  · refine (Tryz.slices_Clone_int g 0 zs.length cap zs w (Nat.le_refl _) (by omega) (fun j hj => ?_)).mono ?_
    · have := h.cells (g := g) rfl j (.int .i64 (zs.getD j 0)) (by rw [List.getElem?_map, getD_is hj, List.getElem?_eq_getElem hj]; rfl)
      rw [add_at] at this; exact this
    · rintro e w' ⟨v', rfl, hown, _, hbel⟩
      rw [List.take_length] at hown
      exact ⟨v', rfl, hown, hbel⟩
theorem Bx3.one {W : World} {g : Nat} {x0 x1 x2 : Value} (h : Bx3 W g x0 x1 x2) (y : Value) : Bx3 (W.setCell ⟨g, 1, none⟩ y) g x0 y x2 :=
  ⟨(World.cell?_setCell_other _ _ _ _ (adr_ne (by decide))).trans h.c0, World.cell?_setCell_same _ _ _ h.c1, (World.cell?_setCell_other _ _ _ _ (adr_ne (by decide))).trans h.c2, fun o => by rw [World.frozen?_setCell]; exact h.fr o, by simpa using h.lt⟩
theorem one_at {w : World} {b : Nat} {x : Value} (h : w.cell? ⟨b, 0, none⟩ = some x) : ∀ j v, [x][j]? = some v → w.cell? ((⟨b, 0, none⟩ : Addr).add j) = some v := fun j v hj => by
  rw [add_at, Nat.zero_add]
  match j, hj with
  | 0, hj => rw [h]; exact hj
  | j + 1, hj => simp at hj
theorem own_mono {w : World} {base base' : Nat} {e : TypeId} {size : Nat} {v : Value} {n : Nat} {xs : List Value} (h : w.ownsRow base e size v n xs) (hb : base' ≤ base) : w.ownsRow base' e size v n xs :=
  ⟨h.1, h.2.imp id fun ⟨g, c, u, a, b, r⟩ => ⟨g, c, u, a, Nat.le_trans hb b, r⟩⟩
def S3b (z : Nat) (cd pr : Int) (ti : ByteArray) (w : World) : Prop := w.cell? ⟨z, 0, none⟩ = some (.int .i64 cd) ∧ w.cell? ⟨z, 1, none⟩ = some (.int .i64 pr) ∧ w.cell? ⟨z, 2, none⟩ = some (.string ti)
set_option maxRecDepth 100000 in
set_option maxHeartbeats 40000000 in
theorem rRead_c (s : ByteArray) (w : World) (mx : Int) (hm : w.cell? ⟨0, 0, none⟩ = some (.int .i64 mx)) (hs : s.size ≤ 9223372036854775807) : Calls Tryz.prog 6 #[.string s] w (RdP s.data.toList w) := by
  obtain ⟨T, hT⟩ : ∃ T, s.data.toList = T := ⟨_, rfl⟩
  have hsz : s.size = T.length := by rw [← hT]; exact Lib.size_eq s
  rw [hT]
  have HSZ := Lib.hid hsz
  by_cases h1 : 60000 < s.size
  · have h1' : (60000 : Int) < (s.size : Int) := by omega
    have R : Hid (60000 < T.length) := by unfold Hid; omega
    clear hsz hT hm h1
    go_enter Tryz.func6, Tryz.ntmps6
    go_wp2
    go_ret3
    exact ⟨Below.refl _ _, .inl ⟨R.out, rfl⟩⟩
  have h1' : ¬ (60000 : Int) < (s.size : Int) := by omega
  have hTl : Hid (T.length ≤ 60000) := by unfold Hid; omega
  have HM := Lib.hid (show Calls Tryz.prog 13 #[.string s, .string ⟨#[10]⟩] w fun e w' => e = .returned (.slice (some ⟨w.heap.size, 0, none⟩) (nls T + 1) (nls T + 1)) ∧ w' = w.alloc (.cells ((pcs T).map Value.string).toArray 9) by
    have h := Tryz.strings_Split s ⟨#[10]⟩ mx w (by omega) hm (by decide)
    rw [(split_lines hT).2, (split_lines hT).1] at h
    exact h)
  obtain ⟨n, hn⟩ : ∃ n, nls T = n := ⟨_, rfl⟩
  have hn6 : n ≤ 60000 := by rw [← hn]; exact Nat.le_trans (nls_le T) hTl.out
  have HN := Lib.hid hn
  rw [hn] at HM
  clear hT hsz hm h1 hn
  have mixed : Tryz.prog.follows .mixedOrders = true := by kernel_rfl
  obtain ⟨i0, hi, hz0, hz1, hz2⟩ := info_parts infoNd
  obtain ⟨j0, hj, hy0, hy1, hy2⟩ := info_parts (show (Tryz.prog.info? 3).map (fun i => (i.zero, i.size, i.bytes)) = some (some (.int .i64 0), 1, 8) by kernel_rfl)
  go_enter Tryz.func6, Tryz.ntmps6
  go_wp2_with fail
  refine HM.out.mono ?_
  rintro e V ⟨rfl, hV⟩
  have BV : Hid (Below w.heap.size w V) := by unfold Hid; rw [hV]; exact bel_one _ _
  have CV : Hid (∀ k, k ≤ n → V.cell? ⟨w.heap.size, k, none⟩ = some (.string (bsT (pce T k)))) := fun k hk => by rw [hV]; exact pcs_at (by rw [HN.out]; exact hk)
  have LV : Hid (w.heap.size < V.heap.size) := by unfold Hid; rw [hV]; simp
  clear hV HM
  have I0 : Hid (RfI V V T 0 (.slice none 0 0) (.slice none 0 0) [] 0) := ⟨Below.refl _ _, ⟨rfl, .inl ⟨rfl, rfl⟩⟩, ⟨rfl, .inl ⟨rfl, rfl⟩⟩, rfl, rfl, rfl, fun j hj => absurd hj (Nat.not_lt_zero j)⟩
  go_wp2_with fail
  go_loopw [5, 6, 7, 8, 9, 10, 11, 12, 20] (fun vo vp tw _ _ _ _ _ i wr => ∃ (k : Nat) (vo' vp' : Value) (p : List Int) (t : Int), vo' = vo ∧ vp' = vp ∧ k ≤ n + 1 ∧ tw = .int .i64 t ∧ i = .int .i64 k ∧ Hid (RfI V wr T k vo' vp' p t)) (fun _ _ _ _ _ _ _ _ i _ => n + 1 - (intOf i).toNat)
  case atStart => exact ⟨0, _, _, [], 0, rfl, rfl, Nat.zero_le _, rfl, rfl, I0.out⟩
  case round =>
    obtain ⟨k, vo, vp, p, t, rfl, rfl, hk, rfl, rfl, hS⟩ := hrel
    obtain ⟨w4, hw4⟩ : ∃ w4, w4 = wr := ⟨wr, rfl⟩
    subst hw4
    clear I0
    have ho := own_slice hS.out.own
    have hp := own_slice hS.out.path
    have hol : (ndU (outS T k)).length ≤ k := by rw [ndU_len]; exact outS_len T k
    have RO : Hid (∃ a c, vo = .slice a (ndU (outS T k)).length c ∧ RdN w4 a (ndU (outS T k))) := rdN_own3 hS.out.own (by omega)
    have BW : Hid (Below w.heap.size w w4) := BV.out.trans (hS.out.bel.mono (Nat.le_of_lt LV.out))
    by_cases hlt : k ≤ n
    · have hlt' : (k : Int) < (n : Int) + 1 := by omega
      obtain ⟨d, hd⟩ : ∃ d, bsT (pce T k) = d := ⟨_, rfl⟩
      have hdl : d.data.toList = pce T k := by rw [← hd]; exact bsT_list _
      have hds : d.size ≤ 60000 := by rw [← hd, bsT_size]; exact Nat.le_trans (pce_le T k) hTl.out
      have c0 : w4.cell? ⟨w.heap.size, k, none⟩ = some (.string d) := by rw [← hd]; exact (hS.out.bel.cell (p := ⟨w.heap.size, k, none⟩) LV.out).trans (CV.out k hlt)
      have HDL := Lib.hid hdl
      by_cases he : pce T k = []
      · have f1 : (d.toList == []) = true := by rw [Lib.toList_data, hdl, he]; rfl
        have f2 : d.toList.isEmpty = true := by rw [Lib.toList_data, hdl, he]; rfl
        have f3 : d.toList = [] := by rw [Lib.toList_data, hdl, he]
        have NX := Lib.hid (hS.out.skip he)
        clear hd hdl hS he ho hp RO
        go_wp2
        go_roundw
        case rel => exact ⟨k + 1, vo, vp, p, t, rfl, rfl, by omega, rfl, by go_num, NX.out⟩
        case measure => simp [intOf]; omega
      · have f1 : (d.toList == []) = false := by rw [beq_eq_false_iff_ne, Lib.toList_data, hdl]; exact he
        have f2 : d.toList.isEmpty = false := by rw [Lib.toList_data, hdl]; cases e : pce T k with | nil => exact absurd e he | cons _ _ => rfl
        have HE := Lib.hid he
        have HND := Lib.hid (nodeOf_c d w4 hds)
        rw [hdl] at HND
        obtain ⟨ap, cp, hvp⟩ := hp
        obtain ⟨m, hm⟩ : ∃ m, p.length = m := ⟨_, rfl⟩
        have HML := Lib.hid hm
        rw [hm] at hvp
        subst hvp
        clear hd hdl he ho hm
        obtain ⟨q, hq⟩ : ∃ q : Nat, blk (pce T k) / 2 = q := ⟨_, rfl⟩
        have HQ := Lib.hid hq
        obtain ⟨cd, hcd⟩ : ∃ cd, codV (dgs (pce T k)) = cd := ⟨_, rfl⟩
        have HCD := Lib.hid hcd
        obtain ⟨ti, hti⟩ : ∃ ti, tiN (pce T k) = ti := ⟨_, rfl⟩
        have HTI := Lib.hid hti
        have hq6 : q ≤ 60000 := by rw [← hq]; unfold blk; have := pce_le T k; have := hTl.out; omega
        have hm6 : m ≤ 60001 := by
          have h1 := hS.out.st
          have h2 := stk_le (outS T k) (outS T k).length
          have h3 := outS_len T k
          rw [h1] at h2
          simp only [List.length_cons] at h2
          have := HML.out; omega
        clear hq hcd hti
        by_cases hb : lnB (pce T k) = true
        · have HB := Lib.hid hb
          have HND2 : Hid (Calls Tryz.prog 14 #[.string d] w4 fun e w' => e = .returned (.tuple #[.agg #[.int .i64 cd, .int .i64 0, .string ti], .int .i64 (q : Nat), .bool true]) ∧ Below w4.heap.size w4 w') := by
            refine HND.out.mono ?_
            rintro e w' ⟨hbel, ⟨_, h⟩ | ⟨h, _⟩⟩
            · rw [HQ.out, HCD.out, HTI.out] at h; exact ⟨h, hbel⟩
            · rw [HB.out] at h; cases h
          clear hb HND
          by_cases hqm : q ≤ m
          · have hqm' : ¬ (m : Int) < (q : Int) := by omega
            obtain ⟨ao, co, rfl, hrd⟩ := RO.out
            have HRD := Lib.hid hrd
            have HPF : Hid ((ap = none ∧ m = 0 ∧ cp = 0) ∨ ∃ g, ap = some ⟨g, 0, none⟩ ∧ m ≤ cp) := by
              rcases hS.out.path.2 with ⟨e, h0⟩ | ⟨g, cap, cur, e, _, _, hnc, _⟩
              · injection e with e1 e2 e3
                exact .inl ⟨e1, e2, e3⟩
              · injection e with e1 e2 e3
                exact .inr ⟨g, e1, by rw [← HML.out, e3]; exact hnc⟩
            go_wp2_with fail
            refine HND2.out.mono ?_
            rintro e w2 ⟨rfl, b2⟩
            obtain ⟨W3, hW3⟩ : ∃ W3, w2.alloc (.cells #[.int .i64 cd, .int .i64 0, .string ti] 28) = W3 := ⟨_, rfl⟩
            obtain ⟨z, hz⟩ : ∃ z, w2.heap.size = z := ⟨_, rfl⟩
            have B3 : Hid (Below w4.heap.size w4 W3) := by unfold Hid; rw [← hW3]; exact b2.trans ((bel_one _ _).mono b2.size)
            have X3 : Hid (Bx3 W3 z (.int .i64 cd) (.int .i64 0) (.string ti)) := by unfold Hid; rw [← hW3, ← hz]; exact Bx3.made _ _ _ _ _
            have ZL : Hid (w4.heap.size ≤ z) := by rw [← hz]; exact b2.size
            have I3 := Lib.hid (hS.out.keep B3.out)
            have v0 := X3.out.c0
            have I4 := hS
            clear b2 RO hrd hS
            by_cases ht : t = 0
            · subst ht
              have FD := Lib.hid (rfind_c ao co (ndU (outS T k)) cd W3 (HRD.out.below B3.out))
              go_wp2_with fail
              refine FD.out.mono ?_
              rintro e w5 ⟨⟨r, rfl, hr⟩, b5⟩
              have FH := Lib.hid (fndL_has hr)
              have I5 := Lib.hid (I3.out.keep b5)
              have B5 : Hid (Below w4.heap.size w4 w5) := B3.out.trans (b5.mono B3.out.size)
              have X5 := Lib.hid (X3.out.keep b5)
              clear hW3 hz v0 b5 hr FD I3 X3 B3
              by_cases hr0 : 0 ≤ r
              · have TW : Hid (((k : Int) + 1) = if (0 : Int) = 0 then (if has (outS T k) cd (outS T k).length = true then ((k + 1 : Nat) : Int) else 0) else 0) := by unfold Hid; rw [if_pos rfl, if_pos (FH.out.1 hr0)]; rfl
                have hr1 : (0 : Int) ≤ r := hr0
                have hr2 : decide ((0 : Int) ≤ r) = true := decide_eq_true hr0
                clear hr0 FH
                rcases HPF.out with ⟨ha, hm0, hc0⟩ | ⟨g, ha, hmc⟩
                · subst ha hc0
                  obtain rfl : q = 0 := by omega
                  obtain rfl : m = 0 := hm0
                  have XBQ : Hid (Below w4.heap.size w4 w5 ∧ Bx3 w5 z (.int .i64 cd) (.int .i64 0) (.string ti)) := ⟨B5.out, X5.out⟩
                  have PQ0 : ∀ wq : World, Below w4.heap.size w4 wq → Hid (wq.ownsRow V.heap.size 3 1 (.slice none 0 0) 0 ((p.take 0).map (Value.int .i64))) := fun wq _ => ⟨rfl, .inl ⟨rfl, rfl⟩⟩
                  have HPQ := Lib.hid PQ0
                  clear PQ0
                  go_wp2_with fail
                  have PQ0 := HPQ.out
                  clear HPQ B5 X5 I5
                  try clear hW3 hz
                  have BQ : Hid (Below w4.heap.size w4 w5 ∧ Bx3 w5 z (.int .i64 cd) (.int .i64 (0)) (.string ti)) := XBQ
                  obtain ⟨wq, hwq⟩ : ∃ wq, w5 = wq := ⟨_, rfl⟩
                  rw [hwq] at BQ
                  rw [hwq]
                  clear hwq XBQ
                  have PQ : Hid (wq.ownsRow V.heap.size 3 1 (.slice none 0 0) (0) ((p.take (0)).map (Value.int .i64))) := PQ0 wq BQ.out.1
                  clear PQ0
                  refine wp_region_noPanic ?_
                  refine wp_region_held_drew (S := S3b z cd (0) ti) (by kernel_rfl) (by exact ⟨BQ.out.2.c0, BQ.out.2.c1, BQ.out.2.c2⟩) (fun hS => ?_)
                  obtain ⟨WD, hWD⟩ : ∃ W, wq.drew = W := ⟨_, rfl⟩
                  have D0 : Hid (Below wq.heap.size wq WD) := by unfold Hid; rw [← hWD]; exact (Below.refl _ _).drew
                  rw [hWD] at hS ⊢
                  clear hWD
                  have BD : Hid (Below w4.heap.size w4 WD) := BQ.out.1.trans (D0.out.mono BQ.out.1.size)
                  have XD := Lib.hid (BQ.out.2.keep D0.out)
                  have PD := Lib.hid (own_keep PQ.out D0.out)
                  have LQ : Hid ((p.take (0)).length = 0) := by unfold Hid; rw [List.length_take, HML.out]; omega
                  have CL : Hid (∀ W : World, W.ownsRow V.heap.size 3 1 (.slice none 0 0) (0) ((p.take (0)).map (Value.int .i64)) → Calls Tryz.prog 16 #[.slice none 0 0] W fun e w' => ∃ v', e = .returned v' ∧ w'.ownsRow W.heap.size 3 1 v' (0) ((p.take (0)).map (Value.int .i64)) ∧ Below W.heap.size W w') := fun W h => by
                    have hc := clone_c (.slice none 0 0) V.heap.size (p.take (0)) W (by rw [LQ.out]; exact h) (by rw [LQ.out]; omega)
                    rw [LQ.out] at hc
                    exact hc
                  clear BQ PQ D0
                  refine wpAnyH_take (i := 0) (v := ?v0z1) rfl (by kernel_rfl) (by kernel_rfl) (by kernel_rfl) (fun _ _ _ h => h) (Or.inl ⟨by rfl, ?hy0z1⟩) (by assumption) ?rest0z1
                  case hy0z1 =>
                    intro w hSw
                    dsimp only [S3b] at hSw
                    go_simp
                    try with_reducible rfl
                  simp only [Act.put, List.getElem_toArray, List.getElem_cons_succ, List.getElem_cons_zero, List.setIfInBounds_toArray, List.set_cons_zero, List.set_cons_succ]
                  refine wpAnyH_take (i := 2) (v := ?v2z2) rfl (by kernel_rfl) (by kernel_rfl) (by kernel_rfl) (fun _ _ _ h => h) (Or.inl ⟨by rfl, ?hy2z2⟩) (by assumption) ?rest2z2
                  case hy2z2 =>
                    intro w hSw
                    dsimp only [S3b] at hSw
                    go_simp
                    try with_reducible rfl
                  simp only [Act.put, List.getElem_toArray, List.getElem_cons_succ, List.getElem_cons_zero, List.setIfInBounds_toArray, List.set_cons_zero, List.set_cons_succ]
                  refine wpAnyH_take (i := 3) (v := ?v3z3) rfl (by kernel_rfl) (by kernel_rfl) (by kernel_rfl) (fun _ _ _ h => h) (Or.inl ⟨by rfl, ?hy3z3⟩) (by assumption) ?rest3z3
                  case hy3z3 =>
                    intro w hSw
                    dsimp only [S3b] at hSw
                    go_simp
                    try with_reducible rfl
                  simp only [Act.put, List.getElem_toArray, List.getElem_cons_succ, List.getElem_cons_zero, List.setIfInBounds_toArray, List.set_cons_zero, List.set_cons_succ]
                  refine wpAnyH_ready (rs := [1, 4]) (by kernel_rfl) (by simp) ?_
                  refine AllReadyH.cons rfl (fun K hK => ?_) (AllReadyH.cons rfl (fun K hK => ?_) AllReadyH.nil)
                  · go_simp
                    refine (CL.out _ PD.out).mono ?_
                    rintro e wc ⟨v6, rfl, hown, hBc⟩
                    try go_simp
                    have XX := Lib.hid (XD.out.keep hBc)
                    have hT : S3b z cd (0) ti wc := ⟨XX.out.c0, XX.out.c1, XX.out.c2⟩
                    refine hK _ _ hT (fun _ => ?_)
                    clear hK K hT
                    try simp only [Act.put, List.setIfInBounds_toArray, List.set_cons_zero, List.set_cons_succ]
                    refine wpAnyH_ready (rs := [4]) (by kernel_rfl) (by simp) ?_
                    refine AllReadyH.cons rfl (fun K hK => ?_) AllReadyH.nil
                    go_simp
                    have XX1 := Lib.hid (XX.out.keep (bel_one wc (.cells #[.int .i64 cd] 3)))
                    clear XX
                    have XX := XX1
                    clear XX1
                    have hT : S3b z cd (0) ti (wc.alloc (.cells #[.int .i64 cd] 3)) := ⟨XX.out.c0, XX.out.c1, XX.out.c2⟩
                    refine hK _ _ hT (fun _ => ?_)
                    clear hK K hT
                    try simp only [Act.put, List.setIfInBounds_toArray, List.set_cons_zero, List.set_cons_succ]
                    have OWN6 := Lib.hid (hown.alloc (.cells #[.int .i64 cd] 3))
                    have BWX : Hid (Below WD.heap.size WD (wc.alloc (.cells #[.int .i64 cd] 3))) := hBc.alloc hBc.size _
                    have HIT : Hid ((wc.alloc (.cells #[.int .i64 cd] 3)).cell? ⟨wc.heap.size, 0, none⟩ = some (.int .i64 cd)) := by unfold Hid; rw [World.cell?_alloc_at _ _ _ _ rfl]; rfl
                    clear hown hBc hS
                    obtain ⟨bb, hbb⟩ : ∃ bb, WD.heap.size = bb := ⟨_, rfl⟩
                    rw [hbb] at OWN6
                    have ZB : Hid (z < bb ∧ V.heap.size ≤ bb) := by unfold Hid; rw [← hbb]; exact ⟨XD.out.lt, Nat.le_trans I4.out.bel.size BD.out.size⟩
                    have BX : Hid (Below w4.heap.size w4 (wc.alloc (.cells #[.int .i64 cd] 3)) ∧ bb ≤ ((wc.alloc (.cells #[.int .i64 cd] 3))).heap.size) := by unfold Hid; rw [← hbb]; exact ⟨BD.out.trans (BWX.out.mono BD.out.size), BWX.out.size⟩
                    have OX := Lib.hid (own_keep I4.out.own BX.out.1)
                    have hit : ((wc.alloc (.cells #[.int .i64 cd] 3))).cell? ⟨wc.heap.size, 0, none⟩ = some (.int .i64 cd) := HIT.out
                    have hb5 : bb ≤ ((wc.alloc (.cells #[.int .i64 cd] 3))).heap.size := BX.out.2
                    clear hbb XD BD PD CL
                    refine wpAnyH_ready (rs := [5]) (by kernel_rfl) (by simp) ?_
                    refine AllReadyH.cons rfl (fun K hK => ?_) AllReadyH.nil
                    rw [if_pos (by rfl)]
                    refine wp_append_own _ _ _ 39 rfl bb 3 j0 (.int .i64 0) 1 8 Tryz.underlying39 hj hy0 hy1 hy2 rfl (by decide) _ _ _ rfl OWN6.out ⟨wc.heap.size, 0, none⟩ 1 1 [.int .i64 cd] rfl rfl ?c1a ?c2a ?c3a ?c4a hb5 ?_
                    case c1a => exact one_at hit
                    case c2a => intro u hu; simp at hu; subst hu; rfl
                    case c3a => unfold maxLen; omega
                    case c4a => omega
                    intro v7 w7 hown7 hgrow7 _
                    have NZ : some z ≠ v6.ownBlock := fun e => by have := (OWN6.out.lt z e.symm).1; have := ZB.out.1; omega
                    have X7 : Hid (S3b z cd (0) ti w7) := ⟨hgrow7.cell XX.out.c0 NZ, hgrow7.cell XX.out.c1 NZ, hgrow7.cell XX.out.c2 NZ⟩
                    have O7 : Hid (w7.ownsRow V.heap.size 28 3 (.slice ao (ndU (outS T k)).length co) (ndU (outS T k)).length (nrow3 (ndU (outS T k)))) := World.ownsRow.kept OX.out hgrow7 (rows_ne OX.out OWN6.out (by decide))
                    have B7 : Hid (Below V.heap.size V w7 ∧ V.heap.size ≤ w7.heap.size) := by
                      have b := (I4.out.bel.trans (BX.out.1.mono I4.out.bel.size)).grown hgrow7 (Nat.le_trans ZB.out.2 BX.out.2) (fun u e => Nat.le_trans ZB.out.2 (OWN6.out.lt u e).1)
                      exact ⟨b, b.size⟩
                    have P7 := Lib.hid (own_mono hown7 ZB.out.2)
                    have hT := X7.out
                    refine hK _ _ hT (fun _ => ?_)
                    clear hK K hT hown7 hgrow7 hit NZ OWN6 XX BX OX BWX HIT hb5 ZB
                    try simp only [Act.put, List.setIfInBounds_toArray, List.set_cons_zero, List.set_cons_succ]
                    refine wpAnyH_take (i := 6) (v := ?v6z4) rfl (by kernel_rfl) (by kernel_rfl) (by kernel_rfl) (fun _ _ _ h => h) (Or.inl ⟨by rfl, ?hy6z4⟩) (by assumption) ?rest6z4
                    case hy6z4 =>
                      intro w hSw
                      dsimp only [S3b] at hSw
                      go_simp
                      try with_reducible rfl
                    simp only [Act.put, List.getElem_toArray, List.getElem_cons_succ, List.getElem_cons_zero, List.setIfInBounds_toArray, List.set_cons_zero, List.set_cons_succ]
                    refine wpAnyH_done (by kernel_rfl) ?_ _
                    refine NoPanic.normal ?_
                    obtain ⟨y0, y1, y2⟩ := X7.out
                    have hd1 : (ndU (outS T k)).length + 1 ≤ maxLen := by unfold maxLen; omega
                    have hd2 : ((ndU (outS T k)).length + 1) * 32 ≤ 140737488355328 := by omega
                    have hd3 : V.heap.size ≤ (w7.alloc (.cells #[.int .i64 cd, .int .i64 (0), .string ti] 28)).heap.size := by have := B7.out.2; simp; omega
                    have hd4 : ∀ u ∈ [Value.int .i64 cd, .int .i64 (0), .string ti], u.oneCell' = true := by intro u hu; simp at hu; rcases hu with rfl | rfl | rfl <;> rfl
                    go_wp2_with (at_builtin; refine wpList_append_own _ rfl _ _ 22 rfl V.heap.size 28 i0 (.agg #[.int .i64 0, .int .i64 0, .string ByteArray.empty]) 3 32 Tryz.underlying22 hi hz0 hz1 hz2 rfl (by decide) _ _ _ rfl (O7.out.alloc _) ⟨w7.heap.size, 0, none⟩ 1 1 [.int .i64 cd, .int .i64 (0), .string ti] rfl rfl (cell_three_new _ _ _ _ _) hd4 hd1 hd2 hd3 ?_)
                    intro v8 w8 hown8 hgrow8 _
                    have NX : Hid (RfI V w8 T (k + 1) v8 v7 (p.take (0) ++ [cd]) ((k : Int) + 1)) := by
                      refine RfI.next I4.out HE.out HB.out HQ.out (by rw [HML.out]; omega) HCD.out HTI.out rfl TW.out ?_ hown8 ?_
                      · exact (B7.out.1.alloc B7.out.2 _).grown hgrow8 hd3 (fun u e => (O7.out.lt u e).1)
                      · exact World.ownsRow.kept (P7.out.alloc _) hgrow8 (rows_ne (P7.out.alloc _) (O7.out.alloc (.cells #[.int .i64 cd, .int .i64 (0), .string ti] 28)) (by decide))
                    clear hown8 hgrow8 O7 P7 X7 B7 y0 y1 y2 hd1 hd2 hd3 hd4
                    go_wp2
                    go_roundw
                    case rel => exact ⟨k + 1, v8, v7, p.take (0) ++ [cd], (k : Int) + 1, rfl, rfl, by omega, rfl, by go_num, NX.out⟩
                    case measure => simp [intOf]; omega
                  · go_simp
                    have XX := Lib.hid (XD.out.keep (bel_one WD (.cells #[.int .i64 cd] 3)))
                    have hT : S3b z cd (0) ti (WD.alloc (.cells #[.int .i64 cd] 3)) := ⟨XX.out.c0, XX.out.c1, XX.out.c2⟩
                    refine hK _ _ hT (fun _ => ?_)
                    clear hK K hT
                    try simp only [Act.put, List.setIfInBounds_toArray, List.set_cons_zero, List.set_cons_succ]
                    refine wpAnyH_ready (rs := [1]) (by kernel_rfl) (by simp) ?_
                    refine AllReadyH.cons rfl (fun K hK => ?_) AllReadyH.nil
                    go_simp
                    refine (CL.out _ (PD.out.alloc _)).mono ?_
                    rintro e wc ⟨v6, rfl, hown, hBc⟩
                    try go_simp
                    have XX1 := Lib.hid (XX.out.keep hBc)
                    clear XX
                    have XX := XX1
                    clear XX1
                    have hT : S3b z cd (0) ti wc := ⟨XX.out.c0, XX.out.c1, XX.out.c2⟩
                    refine hK _ _ hT (fun _ => ?_)
                    clear hK K hT
                    try simp only [Act.put, List.setIfInBounds_toArray, List.set_cons_zero, List.set_cons_succ]
                    have OWN6 := Lib.hid (own_mono hown (show WD.heap.size ≤ (WD.alloc (.cells #[.int .i64 cd] 3)).heap.size by simp))
                    have BWX : Hid (Below WD.heap.size WD wc) := (bel_one WD (.cells #[.int .i64 cd] 3)).trans (hBc.mono (by simp))
                    have HIT : Hid (wc.cell? ⟨WD.heap.size, 0, none⟩ = some (.int .i64 cd)) := (hBc.cell (p := ⟨WD.heap.size, 0, none⟩) (by simp)).trans (by rw [World.cell?_alloc_at _ _ _ _ rfl]; rfl)
                    clear hown hBc hS
                    obtain ⟨bb, hbb⟩ : ∃ bb, WD.heap.size = bb := ⟨_, rfl⟩
                    rw [hbb] at OWN6
                    have ZB : Hid (z < bb ∧ V.heap.size ≤ bb) := by unfold Hid; rw [← hbb]; exact ⟨XD.out.lt, Nat.le_trans I4.out.bel.size BD.out.size⟩
                    have BX : Hid (Below w4.heap.size w4 wc ∧ bb ≤ (wc).heap.size) := by unfold Hid; rw [← hbb]; exact ⟨BD.out.trans (BWX.out.mono BD.out.size), BWX.out.size⟩
                    have OX := Lib.hid (own_keep I4.out.own BX.out.1)
                    have hit : (wc).cell? ⟨WD.heap.size, 0, none⟩ = some (.int .i64 cd) := HIT.out
                    have hb5 : bb ≤ (wc).heap.size := BX.out.2
                    clear hbb XD BD PD CL
                    refine wpAnyH_ready (rs := [5]) (by kernel_rfl) (by simp) ?_
                    refine AllReadyH.cons rfl (fun K hK => ?_) AllReadyH.nil
                    rw [if_pos (by rfl)]
                    refine wp_append_own _ _ _ 39 rfl bb 3 j0 (.int .i64 0) 1 8 Tryz.underlying39 hj hy0 hy1 hy2 rfl (by decide) _ _ _ rfl OWN6.out ⟨WD.heap.size, 0, none⟩ 1 1 [.int .i64 cd] rfl rfl ?c1a ?c2a ?c3a ?c4a hb5 ?_
                    case c1a => exact one_at hit
                    case c2a => intro u hu; simp at hu; subst hu; rfl
                    case c3a => unfold maxLen; omega
                    case c4a => omega
                    intro v7 w7 hown7 hgrow7 _
                    have NZ : some z ≠ v6.ownBlock := fun e => by have := (OWN6.out.lt z e.symm).1; have := ZB.out.1; omega
                    have X7 : Hid (S3b z cd (0) ti w7) := ⟨hgrow7.cell XX.out.c0 NZ, hgrow7.cell XX.out.c1 NZ, hgrow7.cell XX.out.c2 NZ⟩
                    have O7 : Hid (w7.ownsRow V.heap.size 28 3 (.slice ao (ndU (outS T k)).length co) (ndU (outS T k)).length (nrow3 (ndU (outS T k)))) := World.ownsRow.kept OX.out hgrow7 (rows_ne OX.out OWN6.out (by decide))
                    have B7 : Hid (Below V.heap.size V w7 ∧ V.heap.size ≤ w7.heap.size) := by
                      have b := (I4.out.bel.trans (BX.out.1.mono I4.out.bel.size)).grown hgrow7 (Nat.le_trans ZB.out.2 BX.out.2) (fun u e => Nat.le_trans ZB.out.2 (OWN6.out.lt u e).1)
                      exact ⟨b, b.size⟩
                    have P7 := Lib.hid (own_mono hown7 ZB.out.2)
                    have hT := X7.out
                    refine hK _ _ hT (fun _ => ?_)
                    clear hK K hT hown7 hgrow7 hit NZ OWN6 XX BX OX BWX HIT hb5 ZB
                    try simp only [Act.put, List.setIfInBounds_toArray, List.set_cons_zero, List.set_cons_succ]
                    refine wpAnyH_take (i := 6) (v := ?v6z5) rfl (by kernel_rfl) (by kernel_rfl) (by kernel_rfl) (fun _ _ _ h => h) (Or.inl ⟨by rfl, ?hy6z5⟩) (by assumption) ?rest6z5
                    case hy6z5 =>
                      intro w hSw
                      dsimp only [S3b] at hSw
                      go_simp
                      try with_reducible rfl
                    simp only [Act.put, List.getElem_toArray, List.getElem_cons_succ, List.getElem_cons_zero, List.setIfInBounds_toArray, List.set_cons_zero, List.set_cons_succ]
                    refine wpAnyH_done (by kernel_rfl) ?_ _
                    refine NoPanic.normal ?_
                    obtain ⟨y0, y1, y2⟩ := X7.out
                    have hd1 : (ndU (outS T k)).length + 1 ≤ maxLen := by unfold maxLen; omega
                    have hd2 : ((ndU (outS T k)).length + 1) * 32 ≤ 140737488355328 := by omega
                    have hd3 : V.heap.size ≤ (w7.alloc (.cells #[.int .i64 cd, .int .i64 (0), .string ti] 28)).heap.size := by have := B7.out.2; simp; omega
                    have hd4 : ∀ u ∈ [Value.int .i64 cd, .int .i64 (0), .string ti], u.oneCell' = true := by intro u hu; simp at hu; rcases hu with rfl | rfl | rfl <;> rfl
                    go_wp2_with (at_builtin; refine wpList_append_own _ rfl _ _ 22 rfl V.heap.size 28 i0 (.agg #[.int .i64 0, .int .i64 0, .string ByteArray.empty]) 3 32 Tryz.underlying22 hi hz0 hz1 hz2 rfl (by decide) _ _ _ rfl (O7.out.alloc _) ⟨w7.heap.size, 0, none⟩ 1 1 [.int .i64 cd, .int .i64 (0), .string ti] rfl rfl (cell_three_new _ _ _ _ _) hd4 hd1 hd2 hd3 ?_)
                    intro v8 w8 hown8 hgrow8 _
                    have NX : Hid (RfI V w8 T (k + 1) v8 v7 (p.take (0) ++ [cd]) ((k : Int) + 1)) := by
                      refine RfI.next I4.out HE.out HB.out HQ.out (by rw [HML.out]; omega) HCD.out HTI.out rfl TW.out ?_ hown8 ?_
                      · exact (B7.out.1.alloc B7.out.2 _).grown hgrow8 hd3 (fun u e => (O7.out.lt u e).1)
                      · exact World.ownsRow.kept (P7.out.alloc _) hgrow8 (rows_ne (P7.out.alloc _) (O7.out.alloc (.cells #[.int .i64 cd, .int .i64 (0), .string ti] 28)) (by decide))
                    clear hown8 hgrow8 O7 P7 X7 B7 y0 y1 y2 hd1 hd2 hd3 hd4
                    go_wp2
                    go_roundw
                    case rel => exact ⟨k + 1, v8, v7, p.take (0) ++ [cd], (k : Int) + 1, rfl, rfl, by omega, rfl, by go_num, NX.out⟩
                    case measure => simp [intOf]; omega
                · subst ha
                  have PQ1 : Hid (∀ wq : World, Below w4.heap.size w4 wq → Hid (wq.ownsRow V.heap.size 3 1 (.slice (some ⟨g, 0, none⟩) q cp) q ((p.take q).map (Value.int .i64)))) := fun wq hb => by
                    have h := own_keep I4.out.path hb
                    rw [HML.out] at h
                    have h2 := own_cut h (k := q) hqm
                    rw [Nat.mul_one, ← List.map_take] at h2
                    exact h2
                  rcases Nat.eq_zero_or_pos q with rfl | hq0
                  · have XBQ : Hid (Below w4.heap.size w4 w5 ∧ Bx3 w5 z (.int .i64 cd) (.int .i64 0) (.string ti)) := ⟨B5.out, X5.out⟩
                    go_wp2_with fail
                    have PQ0 := PQ1.out
                    clear PQ1 B5 X5 I5
                    try clear hW3 hz
                    have BQ : Hid (Below w4.heap.size w4 w5 ∧ Bx3 w5 z (.int .i64 cd) (.int .i64 (0)) (.string ti)) := XBQ
                    obtain ⟨wq, hwq⟩ : ∃ wq, w5 = wq := ⟨_, rfl⟩
                    rw [hwq] at BQ
                    rw [hwq]
                    clear hwq XBQ
                    have PQ : Hid (wq.ownsRow V.heap.size 3 1 (.slice (some ⟨g, 0, none⟩) 0 cp) (0) ((p.take (0)).map (Value.int .i64))) := PQ0 wq BQ.out.1
                    clear PQ0
                    refine wp_region_noPanic ?_
                    refine wp_region_held_drew (S := S3b z cd (0) ti) (by kernel_rfl) (by exact ⟨BQ.out.2.c0, BQ.out.2.c1, BQ.out.2.c2⟩) (fun hS => ?_)
                    obtain ⟨WD, hWD⟩ : ∃ W, wq.drew = W := ⟨_, rfl⟩
                    have D0 : Hid (Below wq.heap.size wq WD) := by unfold Hid; rw [← hWD]; exact (Below.refl _ _).drew
                    rw [hWD] at hS ⊢
                    clear hWD
                    have BD : Hid (Below w4.heap.size w4 WD) := BQ.out.1.trans (D0.out.mono BQ.out.1.size)
                    have XD := Lib.hid (BQ.out.2.keep D0.out)
                    have PD := Lib.hid (own_keep PQ.out D0.out)
                    have LQ : Hid ((p.take (0)).length = 0) := by unfold Hid; rw [List.length_take, HML.out]; omega
                    have CL : Hid (∀ W : World, W.ownsRow V.heap.size 3 1 (.slice (some ⟨g, 0, none⟩) 0 cp) (0) ((p.take (0)).map (Value.int .i64)) → Calls Tryz.prog 16 #[.slice (some ⟨g, 0, none⟩) 0 cp] W fun e w' => ∃ v', e = .returned v' ∧ w'.ownsRow W.heap.size 3 1 v' (0) ((p.take (0)).map (Value.int .i64)) ∧ Below W.heap.size W w') := fun W h => by
                      have hc := clone_c (.slice (some ⟨g, 0, none⟩) 0 cp) V.heap.size (p.take (0)) W (by rw [LQ.out]; exact h) (by rw [LQ.out]; omega)
                      rw [LQ.out] at hc
                      exact hc
                    clear BQ PQ D0
                    refine wpAnyH_take (i := 0) (v := ?v0z6) rfl (by kernel_rfl) (by kernel_rfl) (by kernel_rfl) (fun _ _ _ h => h) (Or.inl ⟨by rfl, ?hy0z6⟩) (by assumption) ?rest0z6
                    case hy0z6 =>
                      intro w hSw
                      dsimp only [S3b] at hSw
                      go_simp
                      try with_reducible rfl
                    simp only [Act.put, List.getElem_toArray, List.getElem_cons_succ, List.getElem_cons_zero, List.setIfInBounds_toArray, List.set_cons_zero, List.set_cons_succ]
                    refine wpAnyH_take (i := 2) (v := ?v2z7) rfl (by kernel_rfl) (by kernel_rfl) (by kernel_rfl) (fun _ _ _ h => h) (Or.inl ⟨by rfl, ?hy2z7⟩) (by assumption) ?rest2z7
                    case hy2z7 =>
                      intro w hSw
                      dsimp only [S3b] at hSw
                      go_simp
                      try with_reducible rfl
                    simp only [Act.put, List.getElem_toArray, List.getElem_cons_succ, List.getElem_cons_zero, List.setIfInBounds_toArray, List.set_cons_zero, List.set_cons_succ]
                    refine wpAnyH_take (i := 3) (v := ?v3z8) rfl (by kernel_rfl) (by kernel_rfl) (by kernel_rfl) (fun _ _ _ h => h) (Or.inl ⟨by rfl, ?hy3z8⟩) (by assumption) ?rest3z8
                    case hy3z8 =>
                      intro w hSw
                      dsimp only [S3b] at hSw
                      go_simp
                      try with_reducible rfl
                    simp only [Act.put, List.getElem_toArray, List.getElem_cons_succ, List.getElem_cons_zero, List.setIfInBounds_toArray, List.set_cons_zero, List.set_cons_succ]
                    refine wpAnyH_ready (rs := [1, 4]) (by kernel_rfl) (by simp) ?_
                    refine AllReadyH.cons rfl (fun K hK => ?_) (AllReadyH.cons rfl (fun K hK => ?_) AllReadyH.nil)
                    · go_simp
                      refine (CL.out _ PD.out).mono ?_
                      rintro e wc ⟨v6, rfl, hown, hBc⟩
                      try go_simp
                      have XX := Lib.hid (XD.out.keep hBc)
                      have hT : S3b z cd (0) ti wc := ⟨XX.out.c0, XX.out.c1, XX.out.c2⟩
                      refine hK _ _ hT (fun _ => ?_)
                      clear hK K hT
                      try simp only [Act.put, List.setIfInBounds_toArray, List.set_cons_zero, List.set_cons_succ]
                      refine wpAnyH_ready (rs := [4]) (by kernel_rfl) (by simp) ?_
                      refine AllReadyH.cons rfl (fun K hK => ?_) AllReadyH.nil
                      go_simp
                      have XX1 := Lib.hid (XX.out.keep (bel_one wc (.cells #[.int .i64 cd] 3)))
                      clear XX
                      have XX := XX1
                      clear XX1
                      have hT : S3b z cd (0) ti (wc.alloc (.cells #[.int .i64 cd] 3)) := ⟨XX.out.c0, XX.out.c1, XX.out.c2⟩
                      refine hK _ _ hT (fun _ => ?_)
                      clear hK K hT
                      try simp only [Act.put, List.setIfInBounds_toArray, List.set_cons_zero, List.set_cons_succ]
                      have OWN6 := Lib.hid (hown.alloc (.cells #[.int .i64 cd] 3))
                      have BWX : Hid (Below WD.heap.size WD (wc.alloc (.cells #[.int .i64 cd] 3))) := hBc.alloc hBc.size _
                      have HIT : Hid ((wc.alloc (.cells #[.int .i64 cd] 3)).cell? ⟨wc.heap.size, 0, none⟩ = some (.int .i64 cd)) := by unfold Hid; rw [World.cell?_alloc_at _ _ _ _ rfl]; rfl
                      clear hown hBc hS
                      obtain ⟨bb, hbb⟩ : ∃ bb, WD.heap.size = bb := ⟨_, rfl⟩
                      rw [hbb] at OWN6
                      have ZB : Hid (z < bb ∧ V.heap.size ≤ bb) := by unfold Hid; rw [← hbb]; exact ⟨XD.out.lt, Nat.le_trans I4.out.bel.size BD.out.size⟩
                      have BX : Hid (Below w4.heap.size w4 (wc.alloc (.cells #[.int .i64 cd] 3)) ∧ bb ≤ ((wc.alloc (.cells #[.int .i64 cd] 3))).heap.size) := by unfold Hid; rw [← hbb]; exact ⟨BD.out.trans (BWX.out.mono BD.out.size), BWX.out.size⟩
                      have OX := Lib.hid (own_keep I4.out.own BX.out.1)
                      have hit : ((wc.alloc (.cells #[.int .i64 cd] 3))).cell? ⟨wc.heap.size, 0, none⟩ = some (.int .i64 cd) := HIT.out
                      have hb5 : bb ≤ ((wc.alloc (.cells #[.int .i64 cd] 3))).heap.size := BX.out.2
                      clear hbb XD BD PD CL
                      refine wpAnyH_ready (rs := [5]) (by kernel_rfl) (by simp) ?_
                      refine AllReadyH.cons rfl (fun K hK => ?_) AllReadyH.nil
                      rw [if_pos (by rfl)]
                      refine wp_append_own _ _ _ 39 rfl bb 3 j0 (.int .i64 0) 1 8 Tryz.underlying39 hj hy0 hy1 hy2 rfl (by decide) _ _ _ rfl OWN6.out ⟨wc.heap.size, 0, none⟩ 1 1 [.int .i64 cd] rfl rfl ?c1a ?c2a ?c3a ?c4a hb5 ?_
                      case c1a => exact one_at hit
                      case c2a => intro u hu; simp at hu; subst hu; rfl
                      case c3a => unfold maxLen; omega
                      case c4a => omega
                      intro v7 w7 hown7 hgrow7 _
                      have NZ : some z ≠ v6.ownBlock := fun e => by have := (OWN6.out.lt z e.symm).1; have := ZB.out.1; omega
                      have X7 : Hid (S3b z cd (0) ti w7) := ⟨hgrow7.cell XX.out.c0 NZ, hgrow7.cell XX.out.c1 NZ, hgrow7.cell XX.out.c2 NZ⟩
                      have O7 : Hid (w7.ownsRow V.heap.size 28 3 (.slice ao (ndU (outS T k)).length co) (ndU (outS T k)).length (nrow3 (ndU (outS T k)))) := World.ownsRow.kept OX.out hgrow7 (rows_ne OX.out OWN6.out (by decide))
                      have B7 : Hid (Below V.heap.size V w7 ∧ V.heap.size ≤ w7.heap.size) := by
                        have b := (I4.out.bel.trans (BX.out.1.mono I4.out.bel.size)).grown hgrow7 (Nat.le_trans ZB.out.2 BX.out.2) (fun u e => Nat.le_trans ZB.out.2 (OWN6.out.lt u e).1)
                        exact ⟨b, b.size⟩
                      have P7 := Lib.hid (own_mono hown7 ZB.out.2)
                      have hT := X7.out
                      refine hK _ _ hT (fun _ => ?_)
                      clear hK K hT hown7 hgrow7 hit NZ OWN6 XX BX OX BWX HIT hb5 ZB
                      try simp only [Act.put, List.setIfInBounds_toArray, List.set_cons_zero, List.set_cons_succ]
                      refine wpAnyH_take (i := 6) (v := ?v6z9) rfl (by kernel_rfl) (by kernel_rfl) (by kernel_rfl) (fun _ _ _ h => h) (Or.inl ⟨by rfl, ?hy6z9⟩) (by assumption) ?rest6z9
                      case hy6z9 =>
                        intro w hSw
                        dsimp only [S3b] at hSw
                        go_simp
                        try with_reducible rfl
                      simp only [Act.put, List.getElem_toArray, List.getElem_cons_succ, List.getElem_cons_zero, List.setIfInBounds_toArray, List.set_cons_zero, List.set_cons_succ]
                      refine wpAnyH_done (by kernel_rfl) ?_ _
                      refine NoPanic.normal ?_
                      obtain ⟨y0, y1, y2⟩ := X7.out
                      have hd1 : (ndU (outS T k)).length + 1 ≤ maxLen := by unfold maxLen; omega
                      have hd2 : ((ndU (outS T k)).length + 1) * 32 ≤ 140737488355328 := by omega
                      have hd3 : V.heap.size ≤ (w7.alloc (.cells #[.int .i64 cd, .int .i64 (0), .string ti] 28)).heap.size := by have := B7.out.2; simp; omega
                      have hd4 : ∀ u ∈ [Value.int .i64 cd, .int .i64 (0), .string ti], u.oneCell' = true := by intro u hu; simp at hu; rcases hu with rfl | rfl | rfl <;> rfl
                      go_wp2_with (at_builtin; refine wpList_append_own _ rfl _ _ 22 rfl V.heap.size 28 i0 (.agg #[.int .i64 0, .int .i64 0, .string ByteArray.empty]) 3 32 Tryz.underlying22 hi hz0 hz1 hz2 rfl (by decide) _ _ _ rfl (O7.out.alloc _) ⟨w7.heap.size, 0, none⟩ 1 1 [.int .i64 cd, .int .i64 (0), .string ti] rfl rfl (cell_three_new _ _ _ _ _) hd4 hd1 hd2 hd3 ?_)
                      intro v8 w8 hown8 hgrow8 _
                      have NX : Hid (RfI V w8 T (k + 1) v8 v7 (p.take (0) ++ [cd]) ((k : Int) + 1)) := by
                        refine RfI.next I4.out HE.out HB.out HQ.out (by rw [HML.out]; omega) HCD.out HTI.out rfl TW.out ?_ hown8 ?_
                        · exact (B7.out.1.alloc B7.out.2 _).grown hgrow8 hd3 (fun u e => (O7.out.lt u e).1)
                        · exact World.ownsRow.kept (P7.out.alloc _) hgrow8 (rows_ne (P7.out.alloc _) (O7.out.alloc (.cells #[.int .i64 cd, .int .i64 (0), .string ti] 28)) (by decide))
                      clear hown8 hgrow8 O7 P7 X7 B7 y0 y1 y2 hd1 hd2 hd3 hd4
                      go_wp2
                      go_roundw
                      case rel => exact ⟨k + 1, v8, v7, p.take (0) ++ [cd], (k : Int) + 1, rfl, rfl, by omega, rfl, by go_num, NX.out⟩
                      case measure => simp [intOf]; omega
                    · go_simp
                      have XX := Lib.hid (XD.out.keep (bel_one WD (.cells #[.int .i64 cd] 3)))
                      have hT : S3b z cd (0) ti (WD.alloc (.cells #[.int .i64 cd] 3)) := ⟨XX.out.c0, XX.out.c1, XX.out.c2⟩
                      refine hK _ _ hT (fun _ => ?_)
                      clear hK K hT
                      try simp only [Act.put, List.setIfInBounds_toArray, List.set_cons_zero, List.set_cons_succ]
                      refine wpAnyH_ready (rs := [1]) (by kernel_rfl) (by simp) ?_
                      refine AllReadyH.cons rfl (fun K hK => ?_) AllReadyH.nil
                      go_simp
                      refine (CL.out _ (PD.out.alloc _)).mono ?_
                      rintro e wc ⟨v6, rfl, hown, hBc⟩
                      try go_simp
                      have XX1 := Lib.hid (XX.out.keep hBc)
                      clear XX
                      have XX := XX1
                      clear XX1
                      have hT : S3b z cd (0) ti wc := ⟨XX.out.c0, XX.out.c1, XX.out.c2⟩
                      refine hK _ _ hT (fun _ => ?_)
                      clear hK K hT
                      try simp only [Act.put, List.setIfInBounds_toArray, List.set_cons_zero, List.set_cons_succ]
                      have OWN6 := Lib.hid (own_mono hown (show WD.heap.size ≤ (WD.alloc (.cells #[.int .i64 cd] 3)).heap.size by simp))
                      have BWX : Hid (Below WD.heap.size WD wc) := (bel_one WD (.cells #[.int .i64 cd] 3)).trans (hBc.mono (by simp))
                      have HIT : Hid (wc.cell? ⟨WD.heap.size, 0, none⟩ = some (.int .i64 cd)) := (hBc.cell (p := ⟨WD.heap.size, 0, none⟩) (by simp)).trans (by rw [World.cell?_alloc_at _ _ _ _ rfl]; rfl)
                      clear hown hBc hS
                      obtain ⟨bb, hbb⟩ : ∃ bb, WD.heap.size = bb := ⟨_, rfl⟩
                      rw [hbb] at OWN6
                      have ZB : Hid (z < bb ∧ V.heap.size ≤ bb) := by unfold Hid; rw [← hbb]; exact ⟨XD.out.lt, Nat.le_trans I4.out.bel.size BD.out.size⟩
                      have BX : Hid (Below w4.heap.size w4 wc ∧ bb ≤ (wc).heap.size) := by unfold Hid; rw [← hbb]; exact ⟨BD.out.trans (BWX.out.mono BD.out.size), BWX.out.size⟩
                      have OX := Lib.hid (own_keep I4.out.own BX.out.1)
                      have hit : (wc).cell? ⟨WD.heap.size, 0, none⟩ = some (.int .i64 cd) := HIT.out
                      have hb5 : bb ≤ (wc).heap.size := BX.out.2
                      clear hbb XD BD PD CL
                      refine wpAnyH_ready (rs := [5]) (by kernel_rfl) (by simp) ?_
                      refine AllReadyH.cons rfl (fun K hK => ?_) AllReadyH.nil
                      rw [if_pos (by rfl)]
                      refine wp_append_own _ _ _ 39 rfl bb 3 j0 (.int .i64 0) 1 8 Tryz.underlying39 hj hy0 hy1 hy2 rfl (by decide) _ _ _ rfl OWN6.out ⟨WD.heap.size, 0, none⟩ 1 1 [.int .i64 cd] rfl rfl ?c1a ?c2a ?c3a ?c4a hb5 ?_
                      case c1a => exact one_at hit
                      case c2a => intro u hu; simp at hu; subst hu; rfl
                      case c3a => unfold maxLen; omega
                      case c4a => omega
                      intro v7 w7 hown7 hgrow7 _
                      have NZ : some z ≠ v6.ownBlock := fun e => by have := (OWN6.out.lt z e.symm).1; have := ZB.out.1; omega
                      have X7 : Hid (S3b z cd (0) ti w7) := ⟨hgrow7.cell XX.out.c0 NZ, hgrow7.cell XX.out.c1 NZ, hgrow7.cell XX.out.c2 NZ⟩
                      have O7 : Hid (w7.ownsRow V.heap.size 28 3 (.slice ao (ndU (outS T k)).length co) (ndU (outS T k)).length (nrow3 (ndU (outS T k)))) := World.ownsRow.kept OX.out hgrow7 (rows_ne OX.out OWN6.out (by decide))
                      have B7 : Hid (Below V.heap.size V w7 ∧ V.heap.size ≤ w7.heap.size) := by
                        have b := (I4.out.bel.trans (BX.out.1.mono I4.out.bel.size)).grown hgrow7 (Nat.le_trans ZB.out.2 BX.out.2) (fun u e => Nat.le_trans ZB.out.2 (OWN6.out.lt u e).1)
                        exact ⟨b, b.size⟩
                      have P7 := Lib.hid (own_mono hown7 ZB.out.2)
                      have hT := X7.out
                      refine hK _ _ hT (fun _ => ?_)
                      clear hK K hT hown7 hgrow7 hit NZ OWN6 XX BX OX BWX HIT hb5 ZB
                      try simp only [Act.put, List.setIfInBounds_toArray, List.set_cons_zero, List.set_cons_succ]
                      refine wpAnyH_take (i := 6) (v := ?v6z10) rfl (by kernel_rfl) (by kernel_rfl) (by kernel_rfl) (fun _ _ _ h => h) (Or.inl ⟨by rfl, ?hy6z10⟩) (by assumption) ?rest6z10
                      case hy6z10 =>
                        intro w hSw
                        dsimp only [S3b] at hSw
                        go_simp
                        try with_reducible rfl
                      simp only [Act.put, List.getElem_toArray, List.getElem_cons_succ, List.getElem_cons_zero, List.setIfInBounds_toArray, List.set_cons_zero, List.set_cons_succ]
                      refine wpAnyH_done (by kernel_rfl) ?_ _
                      refine NoPanic.normal ?_
                      obtain ⟨y0, y1, y2⟩ := X7.out
                      have hd1 : (ndU (outS T k)).length + 1 ≤ maxLen := by unfold maxLen; omega
                      have hd2 : ((ndU (outS T k)).length + 1) * 32 ≤ 140737488355328 := by omega
                      have hd3 : V.heap.size ≤ (w7.alloc (.cells #[.int .i64 cd, .int .i64 (0), .string ti] 28)).heap.size := by have := B7.out.2; simp; omega
                      have hd4 : ∀ u ∈ [Value.int .i64 cd, .int .i64 (0), .string ti], u.oneCell' = true := by intro u hu; simp at hu; rcases hu with rfl | rfl | rfl <;> rfl
                      go_wp2_with (at_builtin; refine wpList_append_own _ rfl _ _ 22 rfl V.heap.size 28 i0 (.agg #[.int .i64 0, .int .i64 0, .string ByteArray.empty]) 3 32 Tryz.underlying22 hi hz0 hz1 hz2 rfl (by decide) _ _ _ rfl (O7.out.alloc _) ⟨w7.heap.size, 0, none⟩ 1 1 [.int .i64 cd, .int .i64 (0), .string ti] rfl rfl (cell_three_new _ _ _ _ _) hd4 hd1 hd2 hd3 ?_)
                      intro v8 w8 hown8 hgrow8 _
                      have NX : Hid (RfI V w8 T (k + 1) v8 v7 (p.take (0) ++ [cd]) ((k : Int) + 1)) := by
                        refine RfI.next I4.out HE.out HB.out HQ.out (by rw [HML.out]; omega) HCD.out HTI.out rfl TW.out ?_ hown8 ?_
                        · exact (B7.out.1.alloc B7.out.2 _).grown hgrow8 hd3 (fun u e => (O7.out.lt u e).1)
                        · exact World.ownsRow.kept (P7.out.alloc _) hgrow8 (rows_ne (P7.out.alloc _) (O7.out.alloc (.cells #[.int .i64 cd, .int .i64 (0), .string ti] 28)) (by decide))
                      clear hown8 hgrow8 O7 P7 X7 B7 y0 y1 y2 hd1 hd2 hd3 hd4
                      go_wp2
                      go_roundw
                      case rel => exact ⟨k + 1, v8, v7, p.take (0) ++ [cd], (k : Int) + 1, rfl, rfl, by omega, rfl, by go_num, NX.out⟩
                      case measure => simp [intOf]; omega
                  · obtain ⟨j, rfl⟩ : ∃ j, q = j + 1 := ⟨q - 1, by omega⟩
                    have hm1 : (j : Int) + 1 - 1 = (j : Int) := by omega
                    have hm2 : (j : Int) < (j : Int) + 1 := by omega
                    have hmw : IntKind.i64.wrap (j : Int) = (j : Int) := by rw [IntKind.wrap_i64]; omega
                    have hm0 : (0 : Int) ≤ (j : Int) := by omega
                    have hm3 : (0 : Int) ≤ (j : Int) + 1 := by omega
                    have hm4 : (j : Int) + 1 ≤ (cp : Int) := by omega
                    have hm5 : (0 : Int) < (j : Int) + 1 := by omega
                    obtain ⟨pr, hpr⟩ : ∃ pr, p.getD j 0 = pr := ⟨_, rfl⟩
                    have c1 : w5.cell? ⟨g, j, none⟩ = some (.int .i64 pr) := by
                      have hjl : j < p.length := by rw [HML.out]; omega
                      have := I5.out.path.cells (g := g) rfl j (.int .i64 pr) (by rw [List.getElem?_map, List.getElem?_eq_getElem hjl, ← hpr, getD_is hjl]; rfl)
                      rw [add_at, Nat.zero_add] at this
                      exact this
                    have HPR := Lib.hid hpr
                    clear hpr hq0
                    have XBQ : Hid (Below w4.heap.size w4 (w5.setCell ⟨z, 1, none⟩ (.int .i64 pr)) ∧ Bx3 (w5.setCell ⟨z, 1, none⟩ (.int .i64 pr)) z (.int .i64 cd) (.int .i64 pr) (.string ti)) := ⟨B5.out.setCell (p := ⟨z, 1, none⟩) ZL.out _, X5.out.one _⟩
                    obtain ⟨y0, y1, y2, yf, _⟩ := X5.out
                    go_wp2_with fail
                    have PQ0 := PQ1.out
                    try clear hW3 hz
                    clear PQ1 B5 X5 I5 y0 y1 y2 yf c1 hm1 hm2 hmw hm0 hm3 hm4 hm5
                    have BQ : Hid (Below w4.heap.size w4 (w5.setCell ⟨z, 1, none⟩ (.int .i64 pr)) ∧ Bx3 (w5.setCell ⟨z, 1, none⟩ (.int .i64 pr)) z (.int .i64 cd) (.int .i64 (pr)) (.string ti)) := XBQ
                    obtain ⟨wq, hwq⟩ : ∃ wq, (w5.setCell ⟨z, 1, none⟩ (.int .i64 pr)) = wq := ⟨_, rfl⟩
                    rw [hwq] at BQ
                    rw [hwq]
                    clear hwq XBQ
                    have PQ : Hid (wq.ownsRow V.heap.size 3 1 (.slice (some ⟨g, 0, none⟩) (j + 1) cp) (j + 1) ((p.take (j + 1)).map (Value.int .i64))) := PQ0 wq BQ.out.1
                    clear PQ0
                    refine wp_region_noPanic ?_
                    refine wp_region_held_drew (S := S3b z cd (pr) ti) (by kernel_rfl) (by exact ⟨BQ.out.2.c0, BQ.out.2.c1, BQ.out.2.c2⟩) (fun hS => ?_)
                    obtain ⟨WD, hWD⟩ : ∃ W, wq.drew = W := ⟨_, rfl⟩
                    have D0 : Hid (Below wq.heap.size wq WD) := by unfold Hid; rw [← hWD]; exact (Below.refl _ _).drew
                    rw [hWD] at hS ⊢
                    clear hWD
                    have BD : Hid (Below w4.heap.size w4 WD) := BQ.out.1.trans (D0.out.mono BQ.out.1.size)
                    have XD := Lib.hid (BQ.out.2.keep D0.out)
                    have PD := Lib.hid (own_keep PQ.out D0.out)
                    have LQ : Hid ((p.take (j + 1)).length = j + 1) := by unfold Hid; rw [List.length_take, HML.out]; omega
                    have CL : Hid (∀ W : World, W.ownsRow V.heap.size 3 1 (.slice (some ⟨g, 0, none⟩) (j + 1) cp) (j + 1) ((p.take (j + 1)).map (Value.int .i64)) → Calls Tryz.prog 16 #[.slice (some ⟨g, 0, none⟩) (j + 1) cp] W fun e w' => ∃ v', e = .returned v' ∧ w'.ownsRow W.heap.size 3 1 v' (j + 1) ((p.take (j + 1)).map (Value.int .i64)) ∧ Below W.heap.size W w') := fun W h => by
                      have hc := clone_c (.slice (some ⟨g, 0, none⟩) (j + 1) cp) V.heap.size (p.take (j + 1)) W (by rw [LQ.out]; exact h) (by rw [LQ.out]; omega)
                      rw [LQ.out] at hc
                      exact hc
                    clear BQ PQ D0
                    refine wpAnyH_take (i := 0) (v := ?v0z11) rfl (by kernel_rfl) (by kernel_rfl) (by kernel_rfl) (fun _ _ _ h => h) (Or.inl ⟨by rfl, ?hy0z11⟩) (by assumption) ?rest0z11
                    case hy0z11 =>
                      intro w hSw
                      dsimp only [S3b] at hSw
                      go_simp
                      try with_reducible rfl
                    simp only [Act.put, List.getElem_toArray, List.getElem_cons_succ, List.getElem_cons_zero, List.setIfInBounds_toArray, List.set_cons_zero, List.set_cons_succ]
                    refine wpAnyH_take (i := 2) (v := ?v2z12) rfl (by kernel_rfl) (by kernel_rfl) (by kernel_rfl) (fun _ _ _ h => h) (Or.inl ⟨by rfl, ?hy2z12⟩) (by assumption) ?rest2z12
                    case hy2z12 =>
                      intro w hSw
                      dsimp only [S3b] at hSw
                      go_simp
                      try with_reducible rfl
                    simp only [Act.put, List.getElem_toArray, List.getElem_cons_succ, List.getElem_cons_zero, List.setIfInBounds_toArray, List.set_cons_zero, List.set_cons_succ]
                    refine wpAnyH_take (i := 3) (v := ?v3z13) rfl (by kernel_rfl) (by kernel_rfl) (by kernel_rfl) (fun _ _ _ h => h) (Or.inl ⟨by rfl, ?hy3z13⟩) (by assumption) ?rest3z13
                    case hy3z13 =>
                      intro w hSw
                      dsimp only [S3b] at hSw
                      go_simp
                      try with_reducible rfl
                    simp only [Act.put, List.getElem_toArray, List.getElem_cons_succ, List.getElem_cons_zero, List.setIfInBounds_toArray, List.set_cons_zero, List.set_cons_succ]
                    refine wpAnyH_ready (rs := [1, 4]) (by kernel_rfl) (by simp) ?_
                    refine AllReadyH.cons rfl (fun K hK => ?_) (AllReadyH.cons rfl (fun K hK => ?_) AllReadyH.nil)
                    · go_simp
                      refine (CL.out _ PD.out).mono ?_
                      rintro e wc ⟨v6, rfl, hown, hBc⟩
                      try go_simp
                      have XX := Lib.hid (XD.out.keep hBc)
                      have hT : S3b z cd (pr) ti wc := ⟨XX.out.c0, XX.out.c1, XX.out.c2⟩
                      refine hK _ _ hT (fun _ => ?_)
                      clear hK K hT
                      try simp only [Act.put, List.setIfInBounds_toArray, List.set_cons_zero, List.set_cons_succ]
                      refine wpAnyH_ready (rs := [4]) (by kernel_rfl) (by simp) ?_
                      refine AllReadyH.cons rfl (fun K hK => ?_) AllReadyH.nil
                      go_simp
                      have XX1 := Lib.hid (XX.out.keep (bel_one wc (.cells #[.int .i64 cd] 3)))
                      clear XX
                      have XX := XX1
                      clear XX1
                      have hT : S3b z cd (pr) ti (wc.alloc (.cells #[.int .i64 cd] 3)) := ⟨XX.out.c0, XX.out.c1, XX.out.c2⟩
                      refine hK _ _ hT (fun _ => ?_)
                      clear hK K hT
                      try simp only [Act.put, List.setIfInBounds_toArray, List.set_cons_zero, List.set_cons_succ]
                      have OWN6 := Lib.hid (hown.alloc (.cells #[.int .i64 cd] 3))
                      have BWX : Hid (Below WD.heap.size WD (wc.alloc (.cells #[.int .i64 cd] 3))) := hBc.alloc hBc.size _
                      have HIT : Hid ((wc.alloc (.cells #[.int .i64 cd] 3)).cell? ⟨wc.heap.size, 0, none⟩ = some (.int .i64 cd)) := by unfold Hid; rw [World.cell?_alloc_at _ _ _ _ rfl]; rfl
                      clear hown hBc hS
                      obtain ⟨bb, hbb⟩ : ∃ bb, WD.heap.size = bb := ⟨_, rfl⟩
                      rw [hbb] at OWN6
                      have ZB : Hid (z < bb ∧ V.heap.size ≤ bb) := by unfold Hid; rw [← hbb]; exact ⟨XD.out.lt, Nat.le_trans I4.out.bel.size BD.out.size⟩
                      have BX : Hid (Below w4.heap.size w4 (wc.alloc (.cells #[.int .i64 cd] 3)) ∧ bb ≤ ((wc.alloc (.cells #[.int .i64 cd] 3))).heap.size) := by unfold Hid; rw [← hbb]; exact ⟨BD.out.trans (BWX.out.mono BD.out.size), BWX.out.size⟩
                      have OX := Lib.hid (own_keep I4.out.own BX.out.1)
                      have hit : ((wc.alloc (.cells #[.int .i64 cd] 3))).cell? ⟨wc.heap.size, 0, none⟩ = some (.int .i64 cd) := HIT.out
                      have hb5 : bb ≤ ((wc.alloc (.cells #[.int .i64 cd] 3))).heap.size := BX.out.2
                      clear hbb XD BD PD CL
                      refine wpAnyH_ready (rs := [5]) (by kernel_rfl) (by simp) ?_
                      refine AllReadyH.cons rfl (fun K hK => ?_) AllReadyH.nil
                      rw [if_pos (by rfl)]
                      refine wp_append_own _ _ _ 39 rfl bb 3 j0 (.int .i64 0) 1 8 Tryz.underlying39 hj hy0 hy1 hy2 rfl (by decide) _ _ _ rfl OWN6.out ⟨wc.heap.size, 0, none⟩ 1 1 [.int .i64 cd] rfl rfl ?c1a ?c2a ?c3a ?c4a hb5 ?_
                      case c1a => exact one_at hit
                      case c2a => intro u hu; simp at hu; subst hu; rfl
                      case c3a => unfold maxLen; omega
                      case c4a => omega
                      intro v7 w7 hown7 hgrow7 _
                      have NZ : some z ≠ v6.ownBlock := fun e => by have := (OWN6.out.lt z e.symm).1; have := ZB.out.1; omega
                      have X7 : Hid (S3b z cd (pr) ti w7) := ⟨hgrow7.cell XX.out.c0 NZ, hgrow7.cell XX.out.c1 NZ, hgrow7.cell XX.out.c2 NZ⟩
                      have O7 : Hid (w7.ownsRow V.heap.size 28 3 (.slice ao (ndU (outS T k)).length co) (ndU (outS T k)).length (nrow3 (ndU (outS T k)))) := World.ownsRow.kept OX.out hgrow7 (rows_ne OX.out OWN6.out (by decide))
                      have B7 : Hid (Below V.heap.size V w7 ∧ V.heap.size ≤ w7.heap.size) := by
                        have b := (I4.out.bel.trans (BX.out.1.mono I4.out.bel.size)).grown hgrow7 (Nat.le_trans ZB.out.2 BX.out.2) (fun u e => Nat.le_trans ZB.out.2 (OWN6.out.lt u e).1)
                        exact ⟨b, b.size⟩
                      have P7 := Lib.hid (own_mono hown7 ZB.out.2)
                      have hT := X7.out
                      refine hK _ _ hT (fun _ => ?_)
                      clear hK K hT hown7 hgrow7 hit NZ OWN6 XX BX OX BWX HIT hb5 ZB
                      try simp only [Act.put, List.setIfInBounds_toArray, List.set_cons_zero, List.set_cons_succ]
                      refine wpAnyH_take (i := 6) (v := ?v6z14) rfl (by kernel_rfl) (by kernel_rfl) (by kernel_rfl) (fun _ _ _ h => h) (Or.inl ⟨by rfl, ?hy6z14⟩) (by assumption) ?rest6z14
                      case hy6z14 =>
                        intro w hSw
                        dsimp only [S3b] at hSw
                        go_simp
                        try with_reducible rfl
                      simp only [Act.put, List.getElem_toArray, List.getElem_cons_succ, List.getElem_cons_zero, List.setIfInBounds_toArray, List.set_cons_zero, List.set_cons_succ]
                      refine wpAnyH_done (by kernel_rfl) ?_ _
                      refine NoPanic.normal ?_
                      obtain ⟨y0, y1, y2⟩ := X7.out
                      have hd1 : (ndU (outS T k)).length + 1 ≤ maxLen := by unfold maxLen; omega
                      have hd2 : ((ndU (outS T k)).length + 1) * 32 ≤ 140737488355328 := by omega
                      have hd3 : V.heap.size ≤ (w7.alloc (.cells #[.int .i64 cd, .int .i64 (pr), .string ti] 28)).heap.size := by have := B7.out.2; simp; omega
                      have hd4 : ∀ u ∈ [Value.int .i64 cd, .int .i64 (pr), .string ti], u.oneCell' = true := by intro u hu; simp at hu; rcases hu with rfl | rfl | rfl <;> rfl
                      go_wp2_with (at_builtin; refine wpList_append_own _ rfl _ _ 22 rfl V.heap.size 28 i0 (.agg #[.int .i64 0, .int .i64 0, .string ByteArray.empty]) 3 32 Tryz.underlying22 hi hz0 hz1 hz2 rfl (by decide) _ _ _ rfl (O7.out.alloc _) ⟨w7.heap.size, 0, none⟩ 1 1 [.int .i64 cd, .int .i64 (pr), .string ti] rfl rfl (cell_three_new _ _ _ _ _) hd4 hd1 hd2 hd3 ?_)
                      intro v8 w8 hown8 hgrow8 _
                      have NX : Hid (RfI V w8 T (k + 1) v8 v7 (p.take (j + 1) ++ [cd]) ((k : Int) + 1)) := by
                        refine RfI.next I4.out HE.out HB.out HQ.out (by rw [HML.out]; omega) HCD.out HTI.out HPR.out.symm TW.out ?_ hown8 ?_
                        · exact (B7.out.1.alloc B7.out.2 _).grown hgrow8 hd3 (fun u e => (O7.out.lt u e).1)
                        · exact World.ownsRow.kept (P7.out.alloc _) hgrow8 (rows_ne (P7.out.alloc _) (O7.out.alloc (.cells #[.int .i64 cd, .int .i64 (pr), .string ti] 28)) (by decide))
                      clear hown8 hgrow8 O7 P7 X7 B7 y0 y1 y2 hd1 hd2 hd3 hd4
                      go_wp2
                      go_roundw
                      case rel => exact ⟨k + 1, v8, v7, p.take (j + 1) ++ [cd], (k : Int) + 1, rfl, rfl, by omega, rfl, by go_num, NX.out⟩
                      case measure => simp [intOf]; omega
                    · go_simp
                      have XX := Lib.hid (XD.out.keep (bel_one WD (.cells #[.int .i64 cd] 3)))
                      have hT : S3b z cd (pr) ti (WD.alloc (.cells #[.int .i64 cd] 3)) := ⟨XX.out.c0, XX.out.c1, XX.out.c2⟩
                      refine hK _ _ hT (fun _ => ?_)
                      clear hK K hT
                      try simp only [Act.put, List.setIfInBounds_toArray, List.set_cons_zero, List.set_cons_succ]
                      refine wpAnyH_ready (rs := [1]) (by kernel_rfl) (by simp) ?_
                      refine AllReadyH.cons rfl (fun K hK => ?_) AllReadyH.nil
                      go_simp
                      refine (CL.out _ (PD.out.alloc _)).mono ?_
                      rintro e wc ⟨v6, rfl, hown, hBc⟩
                      try go_simp
                      have XX1 := Lib.hid (XX.out.keep hBc)
                      clear XX
                      have XX := XX1
                      clear XX1
                      have hT : S3b z cd (pr) ti wc := ⟨XX.out.c0, XX.out.c1, XX.out.c2⟩
                      refine hK _ _ hT (fun _ => ?_)
                      clear hK K hT
                      try simp only [Act.put, List.setIfInBounds_toArray, List.set_cons_zero, List.set_cons_succ]
                      have OWN6 := Lib.hid (own_mono hown (show WD.heap.size ≤ (WD.alloc (.cells #[.int .i64 cd] 3)).heap.size by simp))
                      have BWX : Hid (Below WD.heap.size WD wc) := (bel_one WD (.cells #[.int .i64 cd] 3)).trans (hBc.mono (by simp))
                      have HIT : Hid (wc.cell? ⟨WD.heap.size, 0, none⟩ = some (.int .i64 cd)) := (hBc.cell (p := ⟨WD.heap.size, 0, none⟩) (by simp)).trans (by rw [World.cell?_alloc_at _ _ _ _ rfl]; rfl)
                      clear hown hBc hS
                      obtain ⟨bb, hbb⟩ : ∃ bb, WD.heap.size = bb := ⟨_, rfl⟩
                      rw [hbb] at OWN6
                      have ZB : Hid (z < bb ∧ V.heap.size ≤ bb) := by unfold Hid; rw [← hbb]; exact ⟨XD.out.lt, Nat.le_trans I4.out.bel.size BD.out.size⟩
                      have BX : Hid (Below w4.heap.size w4 wc ∧ bb ≤ (wc).heap.size) := by unfold Hid; rw [← hbb]; exact ⟨BD.out.trans (BWX.out.mono BD.out.size), BWX.out.size⟩
                      have OX := Lib.hid (own_keep I4.out.own BX.out.1)
                      have hit : (wc).cell? ⟨WD.heap.size, 0, none⟩ = some (.int .i64 cd) := HIT.out
                      have hb5 : bb ≤ (wc).heap.size := BX.out.2
                      clear hbb XD BD PD CL
                      refine wpAnyH_ready (rs := [5]) (by kernel_rfl) (by simp) ?_
                      refine AllReadyH.cons rfl (fun K hK => ?_) AllReadyH.nil
                      rw [if_pos (by rfl)]
                      refine wp_append_own _ _ _ 39 rfl bb 3 j0 (.int .i64 0) 1 8 Tryz.underlying39 hj hy0 hy1 hy2 rfl (by decide) _ _ _ rfl OWN6.out ⟨WD.heap.size, 0, none⟩ 1 1 [.int .i64 cd] rfl rfl ?c1a ?c2a ?c3a ?c4a hb5 ?_
                      case c1a => exact one_at hit
                      case c2a => intro u hu; simp at hu; subst hu; rfl
                      case c3a => unfold maxLen; omega
                      case c4a => omega
                      intro v7 w7 hown7 hgrow7 _
                      have NZ : some z ≠ v6.ownBlock := fun e => by have := (OWN6.out.lt z e.symm).1; have := ZB.out.1; omega
                      have X7 : Hid (S3b z cd (pr) ti w7) := ⟨hgrow7.cell XX.out.c0 NZ, hgrow7.cell XX.out.c1 NZ, hgrow7.cell XX.out.c2 NZ⟩
                      have O7 : Hid (w7.ownsRow V.heap.size 28 3 (.slice ao (ndU (outS T k)).length co) (ndU (outS T k)).length (nrow3 (ndU (outS T k)))) := World.ownsRow.kept OX.out hgrow7 (rows_ne OX.out OWN6.out (by decide))
                      have B7 : Hid (Below V.heap.size V w7 ∧ V.heap.size ≤ w7.heap.size) := by
                        have b := (I4.out.bel.trans (BX.out.1.mono I4.out.bel.size)).grown hgrow7 (Nat.le_trans ZB.out.2 BX.out.2) (fun u e => Nat.le_trans ZB.out.2 (OWN6.out.lt u e).1)
                        exact ⟨b, b.size⟩
                      have P7 := Lib.hid (own_mono hown7 ZB.out.2)
                      have hT := X7.out
                      refine hK _ _ hT (fun _ => ?_)
                      clear hK K hT hown7 hgrow7 hit NZ OWN6 XX BX OX BWX HIT hb5 ZB
                      try simp only [Act.put, List.setIfInBounds_toArray, List.set_cons_zero, List.set_cons_succ]
                      refine wpAnyH_take (i := 6) (v := ?v6z15) rfl (by kernel_rfl) (by kernel_rfl) (by kernel_rfl) (fun _ _ _ h => h) (Or.inl ⟨by rfl, ?hy6z15⟩) (by assumption) ?rest6z15
                      case hy6z15 =>
                        intro w hSw
                        dsimp only [S3b] at hSw
                        go_simp
                        try with_reducible rfl
                      simp only [Act.put, List.getElem_toArray, List.getElem_cons_succ, List.getElem_cons_zero, List.setIfInBounds_toArray, List.set_cons_zero, List.set_cons_succ]
                      refine wpAnyH_done (by kernel_rfl) ?_ _
                      refine NoPanic.normal ?_
                      obtain ⟨y0, y1, y2⟩ := X7.out
                      have hd1 : (ndU (outS T k)).length + 1 ≤ maxLen := by unfold maxLen; omega
                      have hd2 : ((ndU (outS T k)).length + 1) * 32 ≤ 140737488355328 := by omega
                      have hd3 : V.heap.size ≤ (w7.alloc (.cells #[.int .i64 cd, .int .i64 (pr), .string ti] 28)).heap.size := by have := B7.out.2; simp; omega
                      have hd4 : ∀ u ∈ [Value.int .i64 cd, .int .i64 (pr), .string ti], u.oneCell' = true := by intro u hu; simp at hu; rcases hu with rfl | rfl | rfl <;> rfl
                      go_wp2_with (at_builtin; refine wpList_append_own _ rfl _ _ 22 rfl V.heap.size 28 i0 (.agg #[.int .i64 0, .int .i64 0, .string ByteArray.empty]) 3 32 Tryz.underlying22 hi hz0 hz1 hz2 rfl (by decide) _ _ _ rfl (O7.out.alloc _) ⟨w7.heap.size, 0, none⟩ 1 1 [.int .i64 cd, .int .i64 (pr), .string ti] rfl rfl (cell_three_new _ _ _ _ _) hd4 hd1 hd2 hd3 ?_)
                      intro v8 w8 hown8 hgrow8 _
                      have NX : Hid (RfI V w8 T (k + 1) v8 v7 (p.take (j + 1) ++ [cd]) ((k : Int) + 1)) := by
                        refine RfI.next I4.out HE.out HB.out HQ.out (by rw [HML.out]; omega) HCD.out HTI.out HPR.out.symm TW.out ?_ hown8 ?_
                        · exact (B7.out.1.alloc B7.out.2 _).grown hgrow8 hd3 (fun u e => (O7.out.lt u e).1)
                        · exact World.ownsRow.kept (P7.out.alloc _) hgrow8 (rows_ne (P7.out.alloc _) (O7.out.alloc (.cells #[.int .i64 cd, .int .i64 (pr), .string ti] 28)) (by decide))
                      clear hown8 hgrow8 O7 P7 X7 B7 y0 y1 y2 hd1 hd2 hd3 hd4
                      go_wp2
                      go_roundw
                      case rel => exact ⟨k + 1, v8, v7, p.take (j + 1) ++ [cd], (k : Int) + 1, rfl, rfl, by omega, rfl, by go_num, NX.out⟩
                      case measure => simp [intOf]; omega
              · have TW : Hid ((0 : Int) = if (0 : Int) = 0 then (if has (outS T k) cd (outS T k).length = true then ((k + 1 : Nat) : Int) else 0) else 0) := by unfold Hid; rw [if_pos rfl, if_neg (fun h => hr0 (FH.out.2 h))]
                have hr1 : ¬ (0 : Int) ≤ r := hr0
                have hr2 : decide ((0 : Int) ≤ r) = false := decide_eq_false hr0
                clear hr0 FH
                rcases HPF.out with ⟨ha, hm0, hc0⟩ | ⟨g, ha, hmc⟩
                · subst ha hc0
                  obtain rfl : q = 0 := by omega
                  obtain rfl : m = 0 := hm0
                  have XBQ : Hid (Below w4.heap.size w4 w5 ∧ Bx3 w5 z (.int .i64 cd) (.int .i64 0) (.string ti)) := ⟨B5.out, X5.out⟩
                  have PQ0 : ∀ wq : World, Below w4.heap.size w4 wq → Hid (wq.ownsRow V.heap.size 3 1 (.slice none 0 0) 0 ((p.take 0).map (Value.int .i64))) := fun wq _ => ⟨rfl, .inl ⟨rfl, rfl⟩⟩
                  have HPQ := Lib.hid PQ0
                  clear PQ0
                  go_wp2_with fail
                  have PQ0 := HPQ.out
                  clear HPQ B5 X5 I5
                  try clear hW3 hz
                  have BQ : Hid (Below w4.heap.size w4 w5 ∧ Bx3 w5 z (.int .i64 cd) (.int .i64 (0)) (.string ti)) := XBQ
                  obtain ⟨wq, hwq⟩ : ∃ wq, w5 = wq := ⟨_, rfl⟩
                  rw [hwq] at BQ
                  rw [hwq]
                  clear hwq XBQ
                  have PQ : Hid (wq.ownsRow V.heap.size 3 1 (.slice none 0 0) (0) ((p.take (0)).map (Value.int .i64))) := PQ0 wq BQ.out.1
                  clear PQ0
                  refine wp_region_noPanic ?_
                  refine wp_region_held_drew (S := S3b z cd (0) ti) (by kernel_rfl) (by exact ⟨BQ.out.2.c0, BQ.out.2.c1, BQ.out.2.c2⟩) (fun hS => ?_)
                  obtain ⟨WD, hWD⟩ : ∃ W, wq.drew = W := ⟨_, rfl⟩
                  have D0 : Hid (Below wq.heap.size wq WD) := by unfold Hid; rw [← hWD]; exact (Below.refl _ _).drew
                  rw [hWD] at hS ⊢
                  clear hWD
                  have BD : Hid (Below w4.heap.size w4 WD) := BQ.out.1.trans (D0.out.mono BQ.out.1.size)
                  have XD := Lib.hid (BQ.out.2.keep D0.out)
                  have PD := Lib.hid (own_keep PQ.out D0.out)
                  have LQ : Hid ((p.take (0)).length = 0) := by unfold Hid; rw [List.length_take, HML.out]; omega
                  have CL : Hid (∀ W : World, W.ownsRow V.heap.size 3 1 (.slice none 0 0) (0) ((p.take (0)).map (Value.int .i64)) → Calls Tryz.prog 16 #[.slice none 0 0] W fun e w' => ∃ v', e = .returned v' ∧ w'.ownsRow W.heap.size 3 1 v' (0) ((p.take (0)).map (Value.int .i64)) ∧ Below W.heap.size W w') := fun W h => by
                    have hc := clone_c (.slice none 0 0) V.heap.size (p.take (0)) W (by rw [LQ.out]; exact h) (by rw [LQ.out]; omega)
                    rw [LQ.out] at hc
                    exact hc
                  clear BQ PQ D0
                  refine wpAnyH_take (i := 0) (v := ?v0z16) rfl (by kernel_rfl) (by kernel_rfl) (by kernel_rfl) (fun _ _ _ h => h) (Or.inl ⟨by rfl, ?hy0z16⟩) (by assumption) ?rest0z16
                  case hy0z16 =>
                    intro w hSw
                    dsimp only [S3b] at hSw
                    go_simp
                    try with_reducible rfl
                  simp only [Act.put, List.getElem_toArray, List.getElem_cons_succ, List.getElem_cons_zero, List.setIfInBounds_toArray, List.set_cons_zero, List.set_cons_succ]
                  refine wpAnyH_take (i := 2) (v := ?v2z17) rfl (by kernel_rfl) (by kernel_rfl) (by kernel_rfl) (fun _ _ _ h => h) (Or.inl ⟨by rfl, ?hy2z17⟩) (by assumption) ?rest2z17
                  case hy2z17 =>
                    intro w hSw
                    dsimp only [S3b] at hSw
                    go_simp
                    try with_reducible rfl
                  simp only [Act.put, List.getElem_toArray, List.getElem_cons_succ, List.getElem_cons_zero, List.setIfInBounds_toArray, List.set_cons_zero, List.set_cons_succ]
                  refine wpAnyH_take (i := 3) (v := ?v3z18) rfl (by kernel_rfl) (by kernel_rfl) (by kernel_rfl) (fun _ _ _ h => h) (Or.inl ⟨by rfl, ?hy3z18⟩) (by assumption) ?rest3z18
                  case hy3z18 =>
                    intro w hSw
                    dsimp only [S3b] at hSw
                    go_simp
                    try with_reducible rfl
                  simp only [Act.put, List.getElem_toArray, List.getElem_cons_succ, List.getElem_cons_zero, List.setIfInBounds_toArray, List.set_cons_zero, List.set_cons_succ]
                  refine wpAnyH_ready (rs := [1, 4]) (by kernel_rfl) (by simp) ?_
                  refine AllReadyH.cons rfl (fun K hK => ?_) (AllReadyH.cons rfl (fun K hK => ?_) AllReadyH.nil)
                  · go_simp
                    refine (CL.out _ PD.out).mono ?_
                    rintro e wc ⟨v6, rfl, hown, hBc⟩
                    try go_simp
                    have XX := Lib.hid (XD.out.keep hBc)
                    have hT : S3b z cd (0) ti wc := ⟨XX.out.c0, XX.out.c1, XX.out.c2⟩
                    refine hK _ _ hT (fun _ => ?_)
                    clear hK K hT
                    try simp only [Act.put, List.setIfInBounds_toArray, List.set_cons_zero, List.set_cons_succ]
                    refine wpAnyH_ready (rs := [4]) (by kernel_rfl) (by simp) ?_
                    refine AllReadyH.cons rfl (fun K hK => ?_) AllReadyH.nil
                    go_simp
                    have XX1 := Lib.hid (XX.out.keep (bel_one wc (.cells #[.int .i64 cd] 3)))
                    clear XX
                    have XX := XX1
                    clear XX1
                    have hT : S3b z cd (0) ti (wc.alloc (.cells #[.int .i64 cd] 3)) := ⟨XX.out.c0, XX.out.c1, XX.out.c2⟩
                    refine hK _ _ hT (fun _ => ?_)
                    clear hK K hT
                    try simp only [Act.put, List.setIfInBounds_toArray, List.set_cons_zero, List.set_cons_succ]
                    have OWN6 := Lib.hid (hown.alloc (.cells #[.int .i64 cd] 3))
                    have BWX : Hid (Below WD.heap.size WD (wc.alloc (.cells #[.int .i64 cd] 3))) := hBc.alloc hBc.size _
                    have HIT : Hid ((wc.alloc (.cells #[.int .i64 cd] 3)).cell? ⟨wc.heap.size, 0, none⟩ = some (.int .i64 cd)) := by unfold Hid; rw [World.cell?_alloc_at _ _ _ _ rfl]; rfl
                    clear hown hBc hS
                    obtain ⟨bb, hbb⟩ : ∃ bb, WD.heap.size = bb := ⟨_, rfl⟩
                    rw [hbb] at OWN6
                    have ZB : Hid (z < bb ∧ V.heap.size ≤ bb) := by unfold Hid; rw [← hbb]; exact ⟨XD.out.lt, Nat.le_trans I4.out.bel.size BD.out.size⟩
                    have BX : Hid (Below w4.heap.size w4 (wc.alloc (.cells #[.int .i64 cd] 3)) ∧ bb ≤ ((wc.alloc (.cells #[.int .i64 cd] 3))).heap.size) := by unfold Hid; rw [← hbb]; exact ⟨BD.out.trans (BWX.out.mono BD.out.size), BWX.out.size⟩
                    have OX := Lib.hid (own_keep I4.out.own BX.out.1)
                    have hit : ((wc.alloc (.cells #[.int .i64 cd] 3))).cell? ⟨wc.heap.size, 0, none⟩ = some (.int .i64 cd) := HIT.out
                    have hb5 : bb ≤ ((wc.alloc (.cells #[.int .i64 cd] 3))).heap.size := BX.out.2
                    clear hbb XD BD PD CL
                    refine wpAnyH_ready (rs := [5]) (by kernel_rfl) (by simp) ?_
                    refine AllReadyH.cons rfl (fun K hK => ?_) AllReadyH.nil
                    rw [if_pos (by rfl)]
                    refine wp_append_own _ _ _ 39 rfl bb 3 j0 (.int .i64 0) 1 8 Tryz.underlying39 hj hy0 hy1 hy2 rfl (by decide) _ _ _ rfl OWN6.out ⟨wc.heap.size, 0, none⟩ 1 1 [.int .i64 cd] rfl rfl ?c1a ?c2a ?c3a ?c4a hb5 ?_
                    case c1a => exact one_at hit
                    case c2a => intro u hu; simp at hu; subst hu; rfl
                    case c3a => unfold maxLen; omega
                    case c4a => omega
                    intro v7 w7 hown7 hgrow7 _
                    have NZ : some z ≠ v6.ownBlock := fun e => by have := (OWN6.out.lt z e.symm).1; have := ZB.out.1; omega
                    have X7 : Hid (S3b z cd (0) ti w7) := ⟨hgrow7.cell XX.out.c0 NZ, hgrow7.cell XX.out.c1 NZ, hgrow7.cell XX.out.c2 NZ⟩
                    have O7 : Hid (w7.ownsRow V.heap.size 28 3 (.slice ao (ndU (outS T k)).length co) (ndU (outS T k)).length (nrow3 (ndU (outS T k)))) := World.ownsRow.kept OX.out hgrow7 (rows_ne OX.out OWN6.out (by decide))
                    have B7 : Hid (Below V.heap.size V w7 ∧ V.heap.size ≤ w7.heap.size) := by
                      have b := (I4.out.bel.trans (BX.out.1.mono I4.out.bel.size)).grown hgrow7 (Nat.le_trans ZB.out.2 BX.out.2) (fun u e => Nat.le_trans ZB.out.2 (OWN6.out.lt u e).1)
                      exact ⟨b, b.size⟩
                    have P7 := Lib.hid (own_mono hown7 ZB.out.2)
                    have hT := X7.out
                    refine hK _ _ hT (fun _ => ?_)
                    clear hK K hT hown7 hgrow7 hit NZ OWN6 XX BX OX BWX HIT hb5 ZB
                    try simp only [Act.put, List.setIfInBounds_toArray, List.set_cons_zero, List.set_cons_succ]
                    refine wpAnyH_take (i := 6) (v := ?v6z19) rfl (by kernel_rfl) (by kernel_rfl) (by kernel_rfl) (fun _ _ _ h => h) (Or.inl ⟨by rfl, ?hy6z19⟩) (by assumption) ?rest6z19
                    case hy6z19 =>
                      intro w hSw
                      dsimp only [S3b] at hSw
                      go_simp
                      try with_reducible rfl
                    simp only [Act.put, List.getElem_toArray, List.getElem_cons_succ, List.getElem_cons_zero, List.setIfInBounds_toArray, List.set_cons_zero, List.set_cons_succ]
                    refine wpAnyH_done (by kernel_rfl) ?_ _
                    refine NoPanic.normal ?_
                    obtain ⟨y0, y1, y2⟩ := X7.out
                    have hd1 : (ndU (outS T k)).length + 1 ≤ maxLen := by unfold maxLen; omega
                    have hd2 : ((ndU (outS T k)).length + 1) * 32 ≤ 140737488355328 := by omega
                    have hd3 : V.heap.size ≤ (w7.alloc (.cells #[.int .i64 cd, .int .i64 (0), .string ti] 28)).heap.size := by have := B7.out.2; simp; omega
                    have hd4 : ∀ u ∈ [Value.int .i64 cd, .int .i64 (0), .string ti], u.oneCell' = true := by intro u hu; simp at hu; rcases hu with rfl | rfl | rfl <;> rfl
                    go_wp2_with (at_builtin; refine wpList_append_own _ rfl _ _ 22 rfl V.heap.size 28 i0 (.agg #[.int .i64 0, .int .i64 0, .string ByteArray.empty]) 3 32 Tryz.underlying22 hi hz0 hz1 hz2 rfl (by decide) _ _ _ rfl (O7.out.alloc _) ⟨w7.heap.size, 0, none⟩ 1 1 [.int .i64 cd, .int .i64 (0), .string ti] rfl rfl (cell_three_new _ _ _ _ _) hd4 hd1 hd2 hd3 ?_)
                    intro v8 w8 hown8 hgrow8 _
                    have NX : Hid (RfI V w8 T (k + 1) v8 v7 (p.take (0) ++ [cd]) (0)) := by
                      refine RfI.next I4.out HE.out HB.out HQ.out (by rw [HML.out]; omega) HCD.out HTI.out rfl TW.out ?_ hown8 ?_
                      · exact (B7.out.1.alloc B7.out.2 _).grown hgrow8 hd3 (fun u e => (O7.out.lt u e).1)
                      · exact World.ownsRow.kept (P7.out.alloc _) hgrow8 (rows_ne (P7.out.alloc _) (O7.out.alloc (.cells #[.int .i64 cd, .int .i64 (0), .string ti] 28)) (by decide))
                    clear hown8 hgrow8 O7 P7 X7 B7 y0 y1 y2 hd1 hd2 hd3 hd4
                    go_wp2
                    go_roundw
                    case rel => exact ⟨k + 1, v8, v7, p.take (0) ++ [cd], 0, rfl, rfl, by omega, rfl, by go_num, NX.out⟩
                    case measure => simp [intOf]; omega
                  · go_simp
                    have XX := Lib.hid (XD.out.keep (bel_one WD (.cells #[.int .i64 cd] 3)))
                    have hT : S3b z cd (0) ti (WD.alloc (.cells #[.int .i64 cd] 3)) := ⟨XX.out.c0, XX.out.c1, XX.out.c2⟩
                    refine hK _ _ hT (fun _ => ?_)
                    clear hK K hT
                    try simp only [Act.put, List.setIfInBounds_toArray, List.set_cons_zero, List.set_cons_succ]
                    refine wpAnyH_ready (rs := [1]) (by kernel_rfl) (by simp) ?_
                    refine AllReadyH.cons rfl (fun K hK => ?_) AllReadyH.nil
                    go_simp
                    refine (CL.out _ (PD.out.alloc _)).mono ?_
                    rintro e wc ⟨v6, rfl, hown, hBc⟩
                    try go_simp
                    have XX1 := Lib.hid (XX.out.keep hBc)
                    clear XX
                    have XX := XX1
                    clear XX1
                    have hT : S3b z cd (0) ti wc := ⟨XX.out.c0, XX.out.c1, XX.out.c2⟩
                    refine hK _ _ hT (fun _ => ?_)
                    clear hK K hT
                    try simp only [Act.put, List.setIfInBounds_toArray, List.set_cons_zero, List.set_cons_succ]
                    have OWN6 := Lib.hid (own_mono hown (show WD.heap.size ≤ (WD.alloc (.cells #[.int .i64 cd] 3)).heap.size by simp))
                    have BWX : Hid (Below WD.heap.size WD wc) := (bel_one WD (.cells #[.int .i64 cd] 3)).trans (hBc.mono (by simp))
                    have HIT : Hid (wc.cell? ⟨WD.heap.size, 0, none⟩ = some (.int .i64 cd)) := (hBc.cell (p := ⟨WD.heap.size, 0, none⟩) (by simp)).trans (by rw [World.cell?_alloc_at _ _ _ _ rfl]; rfl)
                    clear hown hBc hS
                    obtain ⟨bb, hbb⟩ : ∃ bb, WD.heap.size = bb := ⟨_, rfl⟩
                    rw [hbb] at OWN6
                    have ZB : Hid (z < bb ∧ V.heap.size ≤ bb) := by unfold Hid; rw [← hbb]; exact ⟨XD.out.lt, Nat.le_trans I4.out.bel.size BD.out.size⟩
                    have BX : Hid (Below w4.heap.size w4 wc ∧ bb ≤ (wc).heap.size) := by unfold Hid; rw [← hbb]; exact ⟨BD.out.trans (BWX.out.mono BD.out.size), BWX.out.size⟩
                    have OX := Lib.hid (own_keep I4.out.own BX.out.1)
                    have hit : (wc).cell? ⟨WD.heap.size, 0, none⟩ = some (.int .i64 cd) := HIT.out
                    have hb5 : bb ≤ (wc).heap.size := BX.out.2
                    clear hbb XD BD PD CL
                    refine wpAnyH_ready (rs := [5]) (by kernel_rfl) (by simp) ?_
                    refine AllReadyH.cons rfl (fun K hK => ?_) AllReadyH.nil
                    rw [if_pos (by rfl)]
                    refine wp_append_own _ _ _ 39 rfl bb 3 j0 (.int .i64 0) 1 8 Tryz.underlying39 hj hy0 hy1 hy2 rfl (by decide) _ _ _ rfl OWN6.out ⟨WD.heap.size, 0, none⟩ 1 1 [.int .i64 cd] rfl rfl ?c1a ?c2a ?c3a ?c4a hb5 ?_
                    case c1a => exact one_at hit
                    case c2a => intro u hu; simp at hu; subst hu; rfl
                    case c3a => unfold maxLen; omega
                    case c4a => omega
                    intro v7 w7 hown7 hgrow7 _
                    have NZ : some z ≠ v6.ownBlock := fun e => by have := (OWN6.out.lt z e.symm).1; have := ZB.out.1; omega
                    have X7 : Hid (S3b z cd (0) ti w7) := ⟨hgrow7.cell XX.out.c0 NZ, hgrow7.cell XX.out.c1 NZ, hgrow7.cell XX.out.c2 NZ⟩
                    have O7 : Hid (w7.ownsRow V.heap.size 28 3 (.slice ao (ndU (outS T k)).length co) (ndU (outS T k)).length (nrow3 (ndU (outS T k)))) := World.ownsRow.kept OX.out hgrow7 (rows_ne OX.out OWN6.out (by decide))
                    have B7 : Hid (Below V.heap.size V w7 ∧ V.heap.size ≤ w7.heap.size) := by
                      have b := (I4.out.bel.trans (BX.out.1.mono I4.out.bel.size)).grown hgrow7 (Nat.le_trans ZB.out.2 BX.out.2) (fun u e => Nat.le_trans ZB.out.2 (OWN6.out.lt u e).1)
                      exact ⟨b, b.size⟩
                    have P7 := Lib.hid (own_mono hown7 ZB.out.2)
                    have hT := X7.out
                    refine hK _ _ hT (fun _ => ?_)
                    clear hK K hT hown7 hgrow7 hit NZ OWN6 XX BX OX BWX HIT hb5 ZB
                    try simp only [Act.put, List.setIfInBounds_toArray, List.set_cons_zero, List.set_cons_succ]
                    refine wpAnyH_take (i := 6) (v := ?v6z20) rfl (by kernel_rfl) (by kernel_rfl) (by kernel_rfl) (fun _ _ _ h => h) (Or.inl ⟨by rfl, ?hy6z20⟩) (by assumption) ?rest6z20
                    case hy6z20 =>
                      intro w hSw
                      dsimp only [S3b] at hSw
                      go_simp
                      try with_reducible rfl
                    simp only [Act.put, List.getElem_toArray, List.getElem_cons_succ, List.getElem_cons_zero, List.setIfInBounds_toArray, List.set_cons_zero, List.set_cons_succ]
                    refine wpAnyH_done (by kernel_rfl) ?_ _
                    refine NoPanic.normal ?_
                    obtain ⟨y0, y1, y2⟩ := X7.out
                    have hd1 : (ndU (outS T k)).length + 1 ≤ maxLen := by unfold maxLen; omega
                    have hd2 : ((ndU (outS T k)).length + 1) * 32 ≤ 140737488355328 := by omega
                    have hd3 : V.heap.size ≤ (w7.alloc (.cells #[.int .i64 cd, .int .i64 (0), .string ti] 28)).heap.size := by have := B7.out.2; simp; omega
                    have hd4 : ∀ u ∈ [Value.int .i64 cd, .int .i64 (0), .string ti], u.oneCell' = true := by intro u hu; simp at hu; rcases hu with rfl | rfl | rfl <;> rfl
                    go_wp2_with (at_builtin; refine wpList_append_own _ rfl _ _ 22 rfl V.heap.size 28 i0 (.agg #[.int .i64 0, .int .i64 0, .string ByteArray.empty]) 3 32 Tryz.underlying22 hi hz0 hz1 hz2 rfl (by decide) _ _ _ rfl (O7.out.alloc _) ⟨w7.heap.size, 0, none⟩ 1 1 [.int .i64 cd, .int .i64 (0), .string ti] rfl rfl (cell_three_new _ _ _ _ _) hd4 hd1 hd2 hd3 ?_)
                    intro v8 w8 hown8 hgrow8 _
                    have NX : Hid (RfI V w8 T (k + 1) v8 v7 (p.take (0) ++ [cd]) (0)) := by
                      refine RfI.next I4.out HE.out HB.out HQ.out (by rw [HML.out]; omega) HCD.out HTI.out rfl TW.out ?_ hown8 ?_
                      · exact (B7.out.1.alloc B7.out.2 _).grown hgrow8 hd3 (fun u e => (O7.out.lt u e).1)
                      · exact World.ownsRow.kept (P7.out.alloc _) hgrow8 (rows_ne (P7.out.alloc _) (O7.out.alloc (.cells #[.int .i64 cd, .int .i64 (0), .string ti] 28)) (by decide))
                    clear hown8 hgrow8 O7 P7 X7 B7 y0 y1 y2 hd1 hd2 hd3 hd4
                    go_wp2
                    go_roundw
                    case rel => exact ⟨k + 1, v8, v7, p.take (0) ++ [cd], 0, rfl, rfl, by omega, rfl, by go_num, NX.out⟩
                    case measure => simp [intOf]; omega
                · subst ha
                  have PQ1 : Hid (∀ wq : World, Below w4.heap.size w4 wq → Hid (wq.ownsRow V.heap.size 3 1 (.slice (some ⟨g, 0, none⟩) q cp) q ((p.take q).map (Value.int .i64)))) := fun wq hb => by
                    have h := own_keep I4.out.path hb
                    rw [HML.out] at h
                    have h2 := own_cut h (k := q) hqm
                    rw [Nat.mul_one, ← List.map_take] at h2
                    exact h2
                  rcases Nat.eq_zero_or_pos q with rfl | hq0
                  · have XBQ : Hid (Below w4.heap.size w4 w5 ∧ Bx3 w5 z (.int .i64 cd) (.int .i64 0) (.string ti)) := ⟨B5.out, X5.out⟩
                    go_wp2_with fail
                    have PQ0 := PQ1.out
                    clear PQ1 B5 X5 I5
                    try clear hW3 hz
                    have BQ : Hid (Below w4.heap.size w4 w5 ∧ Bx3 w5 z (.int .i64 cd) (.int .i64 (0)) (.string ti)) := XBQ
                    obtain ⟨wq, hwq⟩ : ∃ wq, w5 = wq := ⟨_, rfl⟩
                    rw [hwq] at BQ
                    rw [hwq]
                    clear hwq XBQ
                    have PQ : Hid (wq.ownsRow V.heap.size 3 1 (.slice (some ⟨g, 0, none⟩) 0 cp) (0) ((p.take (0)).map (Value.int .i64))) := PQ0 wq BQ.out.1
                    clear PQ0
                    refine wp_region_noPanic ?_
                    refine wp_region_held_drew (S := S3b z cd (0) ti) (by kernel_rfl) (by exact ⟨BQ.out.2.c0, BQ.out.2.c1, BQ.out.2.c2⟩) (fun hS => ?_)
                    obtain ⟨WD, hWD⟩ : ∃ W, wq.drew = W := ⟨_, rfl⟩
                    have D0 : Hid (Below wq.heap.size wq WD) := by unfold Hid; rw [← hWD]; exact (Below.refl _ _).drew
                    rw [hWD] at hS ⊢
                    clear hWD
                    have BD : Hid (Below w4.heap.size w4 WD) := BQ.out.1.trans (D0.out.mono BQ.out.1.size)
                    have XD := Lib.hid (BQ.out.2.keep D0.out)
                    have PD := Lib.hid (own_keep PQ.out D0.out)
                    have LQ : Hid ((p.take (0)).length = 0) := by unfold Hid; rw [List.length_take, HML.out]; omega
                    have CL : Hid (∀ W : World, W.ownsRow V.heap.size 3 1 (.slice (some ⟨g, 0, none⟩) 0 cp) (0) ((p.take (0)).map (Value.int .i64)) → Calls Tryz.prog 16 #[.slice (some ⟨g, 0, none⟩) 0 cp] W fun e w' => ∃ v', e = .returned v' ∧ w'.ownsRow W.heap.size 3 1 v' (0) ((p.take (0)).map (Value.int .i64)) ∧ Below W.heap.size W w') := fun W h => by
                      have hc := clone_c (.slice (some ⟨g, 0, none⟩) 0 cp) V.heap.size (p.take (0)) W (by rw [LQ.out]; exact h) (by rw [LQ.out]; omega)
                      rw [LQ.out] at hc
                      exact hc
                    clear BQ PQ D0
                    refine wpAnyH_take (i := 0) (v := ?v0z21) rfl (by kernel_rfl) (by kernel_rfl) (by kernel_rfl) (fun _ _ _ h => h) (Or.inl ⟨by rfl, ?hy0z21⟩) (by assumption) ?rest0z21
                    case hy0z21 =>
                      intro w hSw
                      dsimp only [S3b] at hSw
                      go_simp
                      try with_reducible rfl
                    simp only [Act.put, List.getElem_toArray, List.getElem_cons_succ, List.getElem_cons_zero, List.setIfInBounds_toArray, List.set_cons_zero, List.set_cons_succ]
                    refine wpAnyH_take (i := 2) (v := ?v2z22) rfl (by kernel_rfl) (by kernel_rfl) (by kernel_rfl) (fun _ _ _ h => h) (Or.inl ⟨by rfl, ?hy2z22⟩) (by assumption) ?rest2z22
                    case hy2z22 =>
                      intro w hSw
                      dsimp only [S3b] at hSw
                      go_simp
                      try with_reducible rfl
                    simp only [Act.put, List.getElem_toArray, List.getElem_cons_succ, List.getElem_cons_zero, List.setIfInBounds_toArray, List.set_cons_zero, List.set_cons_succ]
                    refine wpAnyH_take (i := 3) (v := ?v3z23) rfl (by kernel_rfl) (by kernel_rfl) (by kernel_rfl) (fun _ _ _ h => h) (Or.inl ⟨by rfl, ?hy3z23⟩) (by assumption) ?rest3z23
                    case hy3z23 =>
                      intro w hSw
                      dsimp only [S3b] at hSw
                      go_simp
                      try with_reducible rfl
                    simp only [Act.put, List.getElem_toArray, List.getElem_cons_succ, List.getElem_cons_zero, List.setIfInBounds_toArray, List.set_cons_zero, List.set_cons_succ]
                    refine wpAnyH_ready (rs := [1, 4]) (by kernel_rfl) (by simp) ?_
                    refine AllReadyH.cons rfl (fun K hK => ?_) (AllReadyH.cons rfl (fun K hK => ?_) AllReadyH.nil)
                    · go_simp
                      refine (CL.out _ PD.out).mono ?_
                      rintro e wc ⟨v6, rfl, hown, hBc⟩
                      try go_simp
                      have XX := Lib.hid (XD.out.keep hBc)
                      have hT : S3b z cd (0) ti wc := ⟨XX.out.c0, XX.out.c1, XX.out.c2⟩
                      refine hK _ _ hT (fun _ => ?_)
                      clear hK K hT
                      try simp only [Act.put, List.setIfInBounds_toArray, List.set_cons_zero, List.set_cons_succ]
                      refine wpAnyH_ready (rs := [4]) (by kernel_rfl) (by simp) ?_
                      refine AllReadyH.cons rfl (fun K hK => ?_) AllReadyH.nil
                      go_simp
                      have XX1 := Lib.hid (XX.out.keep (bel_one wc (.cells #[.int .i64 cd] 3)))
                      clear XX
                      have XX := XX1
                      clear XX1
                      have hT : S3b z cd (0) ti (wc.alloc (.cells #[.int .i64 cd] 3)) := ⟨XX.out.c0, XX.out.c1, XX.out.c2⟩
                      refine hK _ _ hT (fun _ => ?_)
                      clear hK K hT
                      try simp only [Act.put, List.setIfInBounds_toArray, List.set_cons_zero, List.set_cons_succ]
                      have OWN6 := Lib.hid (hown.alloc (.cells #[.int .i64 cd] 3))
                      have BWX : Hid (Below WD.heap.size WD (wc.alloc (.cells #[.int .i64 cd] 3))) := hBc.alloc hBc.size _
                      have HIT : Hid ((wc.alloc (.cells #[.int .i64 cd] 3)).cell? ⟨wc.heap.size, 0, none⟩ = some (.int .i64 cd)) := by unfold Hid; rw [World.cell?_alloc_at _ _ _ _ rfl]; rfl
                      clear hown hBc hS
                      obtain ⟨bb, hbb⟩ : ∃ bb, WD.heap.size = bb := ⟨_, rfl⟩
                      rw [hbb] at OWN6
                      have ZB : Hid (z < bb ∧ V.heap.size ≤ bb) := by unfold Hid; rw [← hbb]; exact ⟨XD.out.lt, Nat.le_trans I4.out.bel.size BD.out.size⟩
                      have BX : Hid (Below w4.heap.size w4 (wc.alloc (.cells #[.int .i64 cd] 3)) ∧ bb ≤ ((wc.alloc (.cells #[.int .i64 cd] 3))).heap.size) := by unfold Hid; rw [← hbb]; exact ⟨BD.out.trans (BWX.out.mono BD.out.size), BWX.out.size⟩
                      have OX := Lib.hid (own_keep I4.out.own BX.out.1)
                      have hit : ((wc.alloc (.cells #[.int .i64 cd] 3))).cell? ⟨wc.heap.size, 0, none⟩ = some (.int .i64 cd) := HIT.out
                      have hb5 : bb ≤ ((wc.alloc (.cells #[.int .i64 cd] 3))).heap.size := BX.out.2
                      clear hbb XD BD PD CL
                      refine wpAnyH_ready (rs := [5]) (by kernel_rfl) (by simp) ?_
                      refine AllReadyH.cons rfl (fun K hK => ?_) AllReadyH.nil
                      rw [if_pos (by rfl)]
                      refine wp_append_own _ _ _ 39 rfl bb 3 j0 (.int .i64 0) 1 8 Tryz.underlying39 hj hy0 hy1 hy2 rfl (by decide) _ _ _ rfl OWN6.out ⟨wc.heap.size, 0, none⟩ 1 1 [.int .i64 cd] rfl rfl ?c1a ?c2a ?c3a ?c4a hb5 ?_
                      case c1a => exact one_at hit
                      case c2a => intro u hu; simp at hu; subst hu; rfl
                      case c3a => unfold maxLen; omega
                      case c4a => omega
                      intro v7 w7 hown7 hgrow7 _
                      have NZ : some z ≠ v6.ownBlock := fun e => by have := (OWN6.out.lt z e.symm).1; have := ZB.out.1; omega
                      have X7 : Hid (S3b z cd (0) ti w7) := ⟨hgrow7.cell XX.out.c0 NZ, hgrow7.cell XX.out.c1 NZ, hgrow7.cell XX.out.c2 NZ⟩
                      have O7 : Hid (w7.ownsRow V.heap.size 28 3 (.slice ao (ndU (outS T k)).length co) (ndU (outS T k)).length (nrow3 (ndU (outS T k)))) := World.ownsRow.kept OX.out hgrow7 (rows_ne OX.out OWN6.out (by decide))
                      have B7 : Hid (Below V.heap.size V w7 ∧ V.heap.size ≤ w7.heap.size) := by
                        have b := (I4.out.bel.trans (BX.out.1.mono I4.out.bel.size)).grown hgrow7 (Nat.le_trans ZB.out.2 BX.out.2) (fun u e => Nat.le_trans ZB.out.2 (OWN6.out.lt u e).1)
                        exact ⟨b, b.size⟩
                      have P7 := Lib.hid (own_mono hown7 ZB.out.2)
                      have hT := X7.out
                      refine hK _ _ hT (fun _ => ?_)
                      clear hK K hT hown7 hgrow7 hit NZ OWN6 XX BX OX BWX HIT hb5 ZB
                      try simp only [Act.put, List.setIfInBounds_toArray, List.set_cons_zero, List.set_cons_succ]
                      refine wpAnyH_take (i := 6) (v := ?v6z24) rfl (by kernel_rfl) (by kernel_rfl) (by kernel_rfl) (fun _ _ _ h => h) (Or.inl ⟨by rfl, ?hy6z24⟩) (by assumption) ?rest6z24
                      case hy6z24 =>
                        intro w hSw
                        dsimp only [S3b] at hSw
                        go_simp
                        try with_reducible rfl
                      simp only [Act.put, List.getElem_toArray, List.getElem_cons_succ, List.getElem_cons_zero, List.setIfInBounds_toArray, List.set_cons_zero, List.set_cons_succ]
                      refine wpAnyH_done (by kernel_rfl) ?_ _
                      refine NoPanic.normal ?_
                      obtain ⟨y0, y1, y2⟩ := X7.out
                      have hd1 : (ndU (outS T k)).length + 1 ≤ maxLen := by unfold maxLen; omega
                      have hd2 : ((ndU (outS T k)).length + 1) * 32 ≤ 140737488355328 := by omega
                      have hd3 : V.heap.size ≤ (w7.alloc (.cells #[.int .i64 cd, .int .i64 (0), .string ti] 28)).heap.size := by have := B7.out.2; simp; omega
                      have hd4 : ∀ u ∈ [Value.int .i64 cd, .int .i64 (0), .string ti], u.oneCell' = true := by intro u hu; simp at hu; rcases hu with rfl | rfl | rfl <;> rfl
                      go_wp2_with (at_builtin; refine wpList_append_own _ rfl _ _ 22 rfl V.heap.size 28 i0 (.agg #[.int .i64 0, .int .i64 0, .string ByteArray.empty]) 3 32 Tryz.underlying22 hi hz0 hz1 hz2 rfl (by decide) _ _ _ rfl (O7.out.alloc _) ⟨w7.heap.size, 0, none⟩ 1 1 [.int .i64 cd, .int .i64 (0), .string ti] rfl rfl (cell_three_new _ _ _ _ _) hd4 hd1 hd2 hd3 ?_)
                      intro v8 w8 hown8 hgrow8 _
                      have NX : Hid (RfI V w8 T (k + 1) v8 v7 (p.take (0) ++ [cd]) (0)) := by
                        refine RfI.next I4.out HE.out HB.out HQ.out (by rw [HML.out]; omega) HCD.out HTI.out rfl TW.out ?_ hown8 ?_
                        · exact (B7.out.1.alloc B7.out.2 _).grown hgrow8 hd3 (fun u e => (O7.out.lt u e).1)
                        · exact World.ownsRow.kept (P7.out.alloc _) hgrow8 (rows_ne (P7.out.alloc _) (O7.out.alloc (.cells #[.int .i64 cd, .int .i64 (0), .string ti] 28)) (by decide))
                      clear hown8 hgrow8 O7 P7 X7 B7 y0 y1 y2 hd1 hd2 hd3 hd4
                      go_wp2
                      go_roundw
                      case rel => exact ⟨k + 1, v8, v7, p.take (0) ++ [cd], 0, rfl, rfl, by omega, rfl, by go_num, NX.out⟩
                      case measure => simp [intOf]; omega
                    · go_simp
                      have XX := Lib.hid (XD.out.keep (bel_one WD (.cells #[.int .i64 cd] 3)))
                      have hT : S3b z cd (0) ti (WD.alloc (.cells #[.int .i64 cd] 3)) := ⟨XX.out.c0, XX.out.c1, XX.out.c2⟩
                      refine hK _ _ hT (fun _ => ?_)
                      clear hK K hT
                      try simp only [Act.put, List.setIfInBounds_toArray, List.set_cons_zero, List.set_cons_succ]
                      refine wpAnyH_ready (rs := [1]) (by kernel_rfl) (by simp) ?_
                      refine AllReadyH.cons rfl (fun K hK => ?_) AllReadyH.nil
                      go_simp
                      refine (CL.out _ (PD.out.alloc _)).mono ?_
                      rintro e wc ⟨v6, rfl, hown, hBc⟩
                      try go_simp
                      have XX1 := Lib.hid (XX.out.keep hBc)
                      clear XX
                      have XX := XX1
                      clear XX1
                      have hT : S3b z cd (0) ti wc := ⟨XX.out.c0, XX.out.c1, XX.out.c2⟩
                      refine hK _ _ hT (fun _ => ?_)
                      clear hK K hT
                      try simp only [Act.put, List.setIfInBounds_toArray, List.set_cons_zero, List.set_cons_succ]
                      have OWN6 := Lib.hid (own_mono hown (show WD.heap.size ≤ (WD.alloc (.cells #[.int .i64 cd] 3)).heap.size by simp))
                      have BWX : Hid (Below WD.heap.size WD wc) := (bel_one WD (.cells #[.int .i64 cd] 3)).trans (hBc.mono (by simp))
                      have HIT : Hid (wc.cell? ⟨WD.heap.size, 0, none⟩ = some (.int .i64 cd)) := (hBc.cell (p := ⟨WD.heap.size, 0, none⟩) (by simp)).trans (by rw [World.cell?_alloc_at _ _ _ _ rfl]; rfl)
                      clear hown hBc hS
                      obtain ⟨bb, hbb⟩ : ∃ bb, WD.heap.size = bb := ⟨_, rfl⟩
                      rw [hbb] at OWN6
                      have ZB : Hid (z < bb ∧ V.heap.size ≤ bb) := by unfold Hid; rw [← hbb]; exact ⟨XD.out.lt, Nat.le_trans I4.out.bel.size BD.out.size⟩
                      have BX : Hid (Below w4.heap.size w4 wc ∧ bb ≤ (wc).heap.size) := by unfold Hid; rw [← hbb]; exact ⟨BD.out.trans (BWX.out.mono BD.out.size), BWX.out.size⟩
                      have OX := Lib.hid (own_keep I4.out.own BX.out.1)
                      have hit : (wc).cell? ⟨WD.heap.size, 0, none⟩ = some (.int .i64 cd) := HIT.out
                      have hb5 : bb ≤ (wc).heap.size := BX.out.2
                      clear hbb XD BD PD CL
                      refine wpAnyH_ready (rs := [5]) (by kernel_rfl) (by simp) ?_
                      refine AllReadyH.cons rfl (fun K hK => ?_) AllReadyH.nil
                      rw [if_pos (by rfl)]
                      refine wp_append_own _ _ _ 39 rfl bb 3 j0 (.int .i64 0) 1 8 Tryz.underlying39 hj hy0 hy1 hy2 rfl (by decide) _ _ _ rfl OWN6.out ⟨WD.heap.size, 0, none⟩ 1 1 [.int .i64 cd] rfl rfl ?c1a ?c2a ?c3a ?c4a hb5 ?_
                      case c1a => exact one_at hit
                      case c2a => intro u hu; simp at hu; subst hu; rfl
                      case c3a => unfold maxLen; omega
                      case c4a => omega
                      intro v7 w7 hown7 hgrow7 _
                      have NZ : some z ≠ v6.ownBlock := fun e => by have := (OWN6.out.lt z e.symm).1; have := ZB.out.1; omega
                      have X7 : Hid (S3b z cd (0) ti w7) := ⟨hgrow7.cell XX.out.c0 NZ, hgrow7.cell XX.out.c1 NZ, hgrow7.cell XX.out.c2 NZ⟩
                      have O7 : Hid (w7.ownsRow V.heap.size 28 3 (.slice ao (ndU (outS T k)).length co) (ndU (outS T k)).length (nrow3 (ndU (outS T k)))) := World.ownsRow.kept OX.out hgrow7 (rows_ne OX.out OWN6.out (by decide))
                      have B7 : Hid (Below V.heap.size V w7 ∧ V.heap.size ≤ w7.heap.size) := by
                        have b := (I4.out.bel.trans (BX.out.1.mono I4.out.bel.size)).grown hgrow7 (Nat.le_trans ZB.out.2 BX.out.2) (fun u e => Nat.le_trans ZB.out.2 (OWN6.out.lt u e).1)
                        exact ⟨b, b.size⟩
                      have P7 := Lib.hid (own_mono hown7 ZB.out.2)
                      have hT := X7.out
                      refine hK _ _ hT (fun _ => ?_)
                      clear hK K hT hown7 hgrow7 hit NZ OWN6 XX BX OX BWX HIT hb5 ZB
                      try simp only [Act.put, List.setIfInBounds_toArray, List.set_cons_zero, List.set_cons_succ]
                      refine wpAnyH_take (i := 6) (v := ?v6z25) rfl (by kernel_rfl) (by kernel_rfl) (by kernel_rfl) (fun _ _ _ h => h) (Or.inl ⟨by rfl, ?hy6z25⟩) (by assumption) ?rest6z25
                      case hy6z25 =>
                        intro w hSw
                        dsimp only [S3b] at hSw
                        go_simp
                        try with_reducible rfl
                      simp only [Act.put, List.getElem_toArray, List.getElem_cons_succ, List.getElem_cons_zero, List.setIfInBounds_toArray, List.set_cons_zero, List.set_cons_succ]
                      refine wpAnyH_done (by kernel_rfl) ?_ _
                      refine NoPanic.normal ?_
                      obtain ⟨y0, y1, y2⟩ := X7.out
                      have hd1 : (ndU (outS T k)).length + 1 ≤ maxLen := by unfold maxLen; omega
                      have hd2 : ((ndU (outS T k)).length + 1) * 32 ≤ 140737488355328 := by omega
                      have hd3 : V.heap.size ≤ (w7.alloc (.cells #[.int .i64 cd, .int .i64 (0), .string ti] 28)).heap.size := by have := B7.out.2; simp; omega
                      have hd4 : ∀ u ∈ [Value.int .i64 cd, .int .i64 (0), .string ti], u.oneCell' = true := by intro u hu; simp at hu; rcases hu with rfl | rfl | rfl <;> rfl
                      go_wp2_with (at_builtin; refine wpList_append_own _ rfl _ _ 22 rfl V.heap.size 28 i0 (.agg #[.int .i64 0, .int .i64 0, .string ByteArray.empty]) 3 32 Tryz.underlying22 hi hz0 hz1 hz2 rfl (by decide) _ _ _ rfl (O7.out.alloc _) ⟨w7.heap.size, 0, none⟩ 1 1 [.int .i64 cd, .int .i64 (0), .string ti] rfl rfl (cell_three_new _ _ _ _ _) hd4 hd1 hd2 hd3 ?_)
                      intro v8 w8 hown8 hgrow8 _
                      have NX : Hid (RfI V w8 T (k + 1) v8 v7 (p.take (0) ++ [cd]) (0)) := by
                        refine RfI.next I4.out HE.out HB.out HQ.out (by rw [HML.out]; omega) HCD.out HTI.out rfl TW.out ?_ hown8 ?_
                        · exact (B7.out.1.alloc B7.out.2 _).grown hgrow8 hd3 (fun u e => (O7.out.lt u e).1)
                        · exact World.ownsRow.kept (P7.out.alloc _) hgrow8 (rows_ne (P7.out.alloc _) (O7.out.alloc (.cells #[.int .i64 cd, .int .i64 (0), .string ti] 28)) (by decide))
                      clear hown8 hgrow8 O7 P7 X7 B7 y0 y1 y2 hd1 hd2 hd3 hd4
                      go_wp2
                      go_roundw
                      case rel => exact ⟨k + 1, v8, v7, p.take (0) ++ [cd], 0, rfl, rfl, by omega, rfl, by go_num, NX.out⟩
                      case measure => simp [intOf]; omega
                  · obtain ⟨j, rfl⟩ : ∃ j, q = j + 1 := ⟨q - 1, by omega⟩
                    have hm1 : (j : Int) + 1 - 1 = (j : Int) := by omega
                    have hm2 : (j : Int) < (j : Int) + 1 := by omega
                    have hmw : IntKind.i64.wrap (j : Int) = (j : Int) := by rw [IntKind.wrap_i64]; omega
                    have hm0 : (0 : Int) ≤ (j : Int) := by omega
                    have hm3 : (0 : Int) ≤ (j : Int) + 1 := by omega
                    have hm4 : (j : Int) + 1 ≤ (cp : Int) := by omega
                    have hm5 : (0 : Int) < (j : Int) + 1 := by omega
                    obtain ⟨pr, hpr⟩ : ∃ pr, p.getD j 0 = pr := ⟨_, rfl⟩
                    have c1 : w5.cell? ⟨g, j, none⟩ = some (.int .i64 pr) := by
                      have hjl : j < p.length := by rw [HML.out]; omega
                      have := I5.out.path.cells (g := g) rfl j (.int .i64 pr) (by rw [List.getElem?_map, List.getElem?_eq_getElem hjl, ← hpr, getD_is hjl]; rfl)
                      rw [add_at, Nat.zero_add] at this
                      exact this
                    have HPR := Lib.hid hpr
                    clear hpr hq0
                    have XBQ : Hid (Below w4.heap.size w4 (w5.setCell ⟨z, 1, none⟩ (.int .i64 pr)) ∧ Bx3 (w5.setCell ⟨z, 1, none⟩ (.int .i64 pr)) z (.int .i64 cd) (.int .i64 pr) (.string ti)) := ⟨B5.out.setCell (p := ⟨z, 1, none⟩) ZL.out _, X5.out.one _⟩
                    obtain ⟨y0, y1, y2, yf, _⟩ := X5.out
                    go_wp2_with fail
                    have PQ0 := PQ1.out
                    try clear hW3 hz
                    clear PQ1 B5 X5 I5 y0 y1 y2 yf c1 hm1 hm2 hmw hm0 hm3 hm4 hm5
                    have BQ : Hid (Below w4.heap.size w4 (w5.setCell ⟨z, 1, none⟩ (.int .i64 pr)) ∧ Bx3 (w5.setCell ⟨z, 1, none⟩ (.int .i64 pr)) z (.int .i64 cd) (.int .i64 (pr)) (.string ti)) := XBQ
                    obtain ⟨wq, hwq⟩ : ∃ wq, (w5.setCell ⟨z, 1, none⟩ (.int .i64 pr)) = wq := ⟨_, rfl⟩
                    rw [hwq] at BQ
                    rw [hwq]
                    clear hwq XBQ
                    have PQ : Hid (wq.ownsRow V.heap.size 3 1 (.slice (some ⟨g, 0, none⟩) (j + 1) cp) (j + 1) ((p.take (j + 1)).map (Value.int .i64))) := PQ0 wq BQ.out.1
                    clear PQ0
                    refine wp_region_noPanic ?_
                    refine wp_region_held_drew (S := S3b z cd (pr) ti) (by kernel_rfl) (by exact ⟨BQ.out.2.c0, BQ.out.2.c1, BQ.out.2.c2⟩) (fun hS => ?_)
                    obtain ⟨WD, hWD⟩ : ∃ W, wq.drew = W := ⟨_, rfl⟩
                    have D0 : Hid (Below wq.heap.size wq WD) := by unfold Hid; rw [← hWD]; exact (Below.refl _ _).drew
                    rw [hWD] at hS ⊢
                    clear hWD
                    have BD : Hid (Below w4.heap.size w4 WD) := BQ.out.1.trans (D0.out.mono BQ.out.1.size)
                    have XD := Lib.hid (BQ.out.2.keep D0.out)
                    have PD := Lib.hid (own_keep PQ.out D0.out)
                    have LQ : Hid ((p.take (j + 1)).length = j + 1) := by unfold Hid; rw [List.length_take, HML.out]; omega
                    have CL : Hid (∀ W : World, W.ownsRow V.heap.size 3 1 (.slice (some ⟨g, 0, none⟩) (j + 1) cp) (j + 1) ((p.take (j + 1)).map (Value.int .i64)) → Calls Tryz.prog 16 #[.slice (some ⟨g, 0, none⟩) (j + 1) cp] W fun e w' => ∃ v', e = .returned v' ∧ w'.ownsRow W.heap.size 3 1 v' (j + 1) ((p.take (j + 1)).map (Value.int .i64)) ∧ Below W.heap.size W w') := fun W h => by
                      have hc := clone_c (.slice (some ⟨g, 0, none⟩) (j + 1) cp) V.heap.size (p.take (j + 1)) W (by rw [LQ.out]; exact h) (by rw [LQ.out]; omega)
                      rw [LQ.out] at hc
                      exact hc
                    clear BQ PQ D0
                    refine wpAnyH_take (i := 0) (v := ?v0z26) rfl (by kernel_rfl) (by kernel_rfl) (by kernel_rfl) (fun _ _ _ h => h) (Or.inl ⟨by rfl, ?hy0z26⟩) (by assumption) ?rest0z26
                    case hy0z26 =>
                      intro w hSw
                      dsimp only [S3b] at hSw
                      go_simp
                      try with_reducible rfl
                    simp only [Act.put, List.getElem_toArray, List.getElem_cons_succ, List.getElem_cons_zero, List.setIfInBounds_toArray, List.set_cons_zero, List.set_cons_succ]
                    refine wpAnyH_take (i := 2) (v := ?v2z27) rfl (by kernel_rfl) (by kernel_rfl) (by kernel_rfl) (fun _ _ _ h => h) (Or.inl ⟨by rfl, ?hy2z27⟩) (by assumption) ?rest2z27
                    case hy2z27 =>
                      intro w hSw
                      dsimp only [S3b] at hSw
                      go_simp
                      try with_reducible rfl
                    simp only [Act.put, List.getElem_toArray, List.getElem_cons_succ, List.getElem_cons_zero, List.setIfInBounds_toArray, List.set_cons_zero, List.set_cons_succ]
                    refine wpAnyH_take (i := 3) (v := ?v3z28) rfl (by kernel_rfl) (by kernel_rfl) (by kernel_rfl) (fun _ _ _ h => h) (Or.inl ⟨by rfl, ?hy3z28⟩) (by assumption) ?rest3z28
                    case hy3z28 =>
                      intro w hSw
                      dsimp only [S3b] at hSw
                      go_simp
                      try with_reducible rfl
                    simp only [Act.put, List.getElem_toArray, List.getElem_cons_succ, List.getElem_cons_zero, List.setIfInBounds_toArray, List.set_cons_zero, List.set_cons_succ]
                    refine wpAnyH_ready (rs := [1, 4]) (by kernel_rfl) (by simp) ?_
                    refine AllReadyH.cons rfl (fun K hK => ?_) (AllReadyH.cons rfl (fun K hK => ?_) AllReadyH.nil)
                    · go_simp
                      refine (CL.out _ PD.out).mono ?_
                      rintro e wc ⟨v6, rfl, hown, hBc⟩
                      try go_simp
                      have XX := Lib.hid (XD.out.keep hBc)
                      have hT : S3b z cd (pr) ti wc := ⟨XX.out.c0, XX.out.c1, XX.out.c2⟩
                      refine hK _ _ hT (fun _ => ?_)
                      clear hK K hT
                      try simp only [Act.put, List.setIfInBounds_toArray, List.set_cons_zero, List.set_cons_succ]
                      refine wpAnyH_ready (rs := [4]) (by kernel_rfl) (by simp) ?_
                      refine AllReadyH.cons rfl (fun K hK => ?_) AllReadyH.nil
                      go_simp
                      have XX1 := Lib.hid (XX.out.keep (bel_one wc (.cells #[.int .i64 cd] 3)))
                      clear XX
                      have XX := XX1
                      clear XX1
                      have hT : S3b z cd (pr) ti (wc.alloc (.cells #[.int .i64 cd] 3)) := ⟨XX.out.c0, XX.out.c1, XX.out.c2⟩
                      refine hK _ _ hT (fun _ => ?_)
                      clear hK K hT
                      try simp only [Act.put, List.setIfInBounds_toArray, List.set_cons_zero, List.set_cons_succ]
                      have OWN6 := Lib.hid (hown.alloc (.cells #[.int .i64 cd] 3))
                      have BWX : Hid (Below WD.heap.size WD (wc.alloc (.cells #[.int .i64 cd] 3))) := hBc.alloc hBc.size _
                      have HIT : Hid ((wc.alloc (.cells #[.int .i64 cd] 3)).cell? ⟨wc.heap.size, 0, none⟩ = some (.int .i64 cd)) := by unfold Hid; rw [World.cell?_alloc_at _ _ _ _ rfl]; rfl
                      clear hown hBc hS
                      obtain ⟨bb, hbb⟩ : ∃ bb, WD.heap.size = bb := ⟨_, rfl⟩
                      rw [hbb] at OWN6
                      have ZB : Hid (z < bb ∧ V.heap.size ≤ bb) := by unfold Hid; rw [← hbb]; exact ⟨XD.out.lt, Nat.le_trans I4.out.bel.size BD.out.size⟩
                      have BX : Hid (Below w4.heap.size w4 (wc.alloc (.cells #[.int .i64 cd] 3)) ∧ bb ≤ ((wc.alloc (.cells #[.int .i64 cd] 3))).heap.size) := by unfold Hid; rw [← hbb]; exact ⟨BD.out.trans (BWX.out.mono BD.out.size), BWX.out.size⟩
                      have OX := Lib.hid (own_keep I4.out.own BX.out.1)
                      have hit : ((wc.alloc (.cells #[.int .i64 cd] 3))).cell? ⟨wc.heap.size, 0, none⟩ = some (.int .i64 cd) := HIT.out
                      have hb5 : bb ≤ ((wc.alloc (.cells #[.int .i64 cd] 3))).heap.size := BX.out.2
                      clear hbb XD BD PD CL
                      refine wpAnyH_ready (rs := [5]) (by kernel_rfl) (by simp) ?_
                      refine AllReadyH.cons rfl (fun K hK => ?_) AllReadyH.nil
                      rw [if_pos (by rfl)]
                      refine wp_append_own _ _ _ 39 rfl bb 3 j0 (.int .i64 0) 1 8 Tryz.underlying39 hj hy0 hy1 hy2 rfl (by decide) _ _ _ rfl OWN6.out ⟨wc.heap.size, 0, none⟩ 1 1 [.int .i64 cd] rfl rfl ?c1a ?c2a ?c3a ?c4a hb5 ?_
                      case c1a => exact one_at hit
                      case c2a => intro u hu; simp at hu; subst hu; rfl
                      case c3a => unfold maxLen; omega
                      case c4a => omega
                      intro v7 w7 hown7 hgrow7 _
                      have NZ : some z ≠ v6.ownBlock := fun e => by have := (OWN6.out.lt z e.symm).1; have := ZB.out.1; omega
                      have X7 : Hid (S3b z cd (pr) ti w7) := ⟨hgrow7.cell XX.out.c0 NZ, hgrow7.cell XX.out.c1 NZ, hgrow7.cell XX.out.c2 NZ⟩
                      have O7 : Hid (w7.ownsRow V.heap.size 28 3 (.slice ao (ndU (outS T k)).length co) (ndU (outS T k)).length (nrow3 (ndU (outS T k)))) := World.ownsRow.kept OX.out hgrow7 (rows_ne OX.out OWN6.out (by decide))
                      have B7 : Hid (Below V.heap.size V w7 ∧ V.heap.size ≤ w7.heap.size) := by
                        have b := (I4.out.bel.trans (BX.out.1.mono I4.out.bel.size)).grown hgrow7 (Nat.le_trans ZB.out.2 BX.out.2) (fun u e => Nat.le_trans ZB.out.2 (OWN6.out.lt u e).1)
                        exact ⟨b, b.size⟩
                      have P7 := Lib.hid (own_mono hown7 ZB.out.2)
                      have hT := X7.out
                      refine hK _ _ hT (fun _ => ?_)
                      clear hK K hT hown7 hgrow7 hit NZ OWN6 XX BX OX BWX HIT hb5 ZB
                      try simp only [Act.put, List.setIfInBounds_toArray, List.set_cons_zero, List.set_cons_succ]
                      refine wpAnyH_take (i := 6) (v := ?v6z29) rfl (by kernel_rfl) (by kernel_rfl) (by kernel_rfl) (fun _ _ _ h => h) (Or.inl ⟨by rfl, ?hy6z29⟩) (by assumption) ?rest6z29
                      case hy6z29 =>
                        intro w hSw
                        dsimp only [S3b] at hSw
                        go_simp
                        try with_reducible rfl
                      simp only [Act.put, List.getElem_toArray, List.getElem_cons_succ, List.getElem_cons_zero, List.setIfInBounds_toArray, List.set_cons_zero, List.set_cons_succ]
                      refine wpAnyH_done (by kernel_rfl) ?_ _
                      refine NoPanic.normal ?_
                      obtain ⟨y0, y1, y2⟩ := X7.out
                      have hd1 : (ndU (outS T k)).length + 1 ≤ maxLen := by unfold maxLen; omega
                      have hd2 : ((ndU (outS T k)).length + 1) * 32 ≤ 140737488355328 := by omega
                      have hd3 : V.heap.size ≤ (w7.alloc (.cells #[.int .i64 cd, .int .i64 (pr), .string ti] 28)).heap.size := by have := B7.out.2; simp; omega
                      have hd4 : ∀ u ∈ [Value.int .i64 cd, .int .i64 (pr), .string ti], u.oneCell' = true := by intro u hu; simp at hu; rcases hu with rfl | rfl | rfl <;> rfl
                      go_wp2_with (at_builtin; refine wpList_append_own _ rfl _ _ 22 rfl V.heap.size 28 i0 (.agg #[.int .i64 0, .int .i64 0, .string ByteArray.empty]) 3 32 Tryz.underlying22 hi hz0 hz1 hz2 rfl (by decide) _ _ _ rfl (O7.out.alloc _) ⟨w7.heap.size, 0, none⟩ 1 1 [.int .i64 cd, .int .i64 (pr), .string ti] rfl rfl (cell_three_new _ _ _ _ _) hd4 hd1 hd2 hd3 ?_)
                      intro v8 w8 hown8 hgrow8 _
                      have NX : Hid (RfI V w8 T (k + 1) v8 v7 (p.take (j + 1) ++ [cd]) (0)) := by
                        refine RfI.next I4.out HE.out HB.out HQ.out (by rw [HML.out]; omega) HCD.out HTI.out HPR.out.symm TW.out ?_ hown8 ?_
                        · exact (B7.out.1.alloc B7.out.2 _).grown hgrow8 hd3 (fun u e => (O7.out.lt u e).1)
                        · exact World.ownsRow.kept (P7.out.alloc _) hgrow8 (rows_ne (P7.out.alloc _) (O7.out.alloc (.cells #[.int .i64 cd, .int .i64 (pr), .string ti] 28)) (by decide))
                      clear hown8 hgrow8 O7 P7 X7 B7 y0 y1 y2 hd1 hd2 hd3 hd4
                      go_wp2
                      go_roundw
                      case rel => exact ⟨k + 1, v8, v7, p.take (j + 1) ++ [cd], 0, rfl, rfl, by omega, rfl, by go_num, NX.out⟩
                      case measure => simp [intOf]; omega
                    · go_simp
                      have XX := Lib.hid (XD.out.keep (bel_one WD (.cells #[.int .i64 cd] 3)))
                      have hT : S3b z cd (pr) ti (WD.alloc (.cells #[.int .i64 cd] 3)) := ⟨XX.out.c0, XX.out.c1, XX.out.c2⟩
                      refine hK _ _ hT (fun _ => ?_)
                      clear hK K hT
                      try simp only [Act.put, List.setIfInBounds_toArray, List.set_cons_zero, List.set_cons_succ]
                      refine wpAnyH_ready (rs := [1]) (by kernel_rfl) (by simp) ?_
                      refine AllReadyH.cons rfl (fun K hK => ?_) AllReadyH.nil
                      go_simp
                      refine (CL.out _ (PD.out.alloc _)).mono ?_
                      rintro e wc ⟨v6, rfl, hown, hBc⟩
                      try go_simp
                      have XX1 := Lib.hid (XX.out.keep hBc)
                      clear XX
                      have XX := XX1
                      clear XX1
                      have hT : S3b z cd (pr) ti wc := ⟨XX.out.c0, XX.out.c1, XX.out.c2⟩
                      refine hK _ _ hT (fun _ => ?_)
                      clear hK K hT
                      try simp only [Act.put, List.setIfInBounds_toArray, List.set_cons_zero, List.set_cons_succ]
                      have OWN6 := Lib.hid (own_mono hown (show WD.heap.size ≤ (WD.alloc (.cells #[.int .i64 cd] 3)).heap.size by simp))
                      have BWX : Hid (Below WD.heap.size WD wc) := (bel_one WD (.cells #[.int .i64 cd] 3)).trans (hBc.mono (by simp))
                      have HIT : Hid (wc.cell? ⟨WD.heap.size, 0, none⟩ = some (.int .i64 cd)) := (hBc.cell (p := ⟨WD.heap.size, 0, none⟩) (by simp)).trans (by rw [World.cell?_alloc_at _ _ _ _ rfl]; rfl)
                      clear hown hBc hS
                      obtain ⟨bb, hbb⟩ : ∃ bb, WD.heap.size = bb := ⟨_, rfl⟩
                      rw [hbb] at OWN6
                      have ZB : Hid (z < bb ∧ V.heap.size ≤ bb) := by unfold Hid; rw [← hbb]; exact ⟨XD.out.lt, Nat.le_trans I4.out.bel.size BD.out.size⟩
                      have BX : Hid (Below w4.heap.size w4 wc ∧ bb ≤ (wc).heap.size) := by unfold Hid; rw [← hbb]; exact ⟨BD.out.trans (BWX.out.mono BD.out.size), BWX.out.size⟩
                      have OX := Lib.hid (own_keep I4.out.own BX.out.1)
                      have hit : (wc).cell? ⟨WD.heap.size, 0, none⟩ = some (.int .i64 cd) := HIT.out
                      have hb5 : bb ≤ (wc).heap.size := BX.out.2
                      clear hbb XD BD PD CL
                      refine wpAnyH_ready (rs := [5]) (by kernel_rfl) (by simp) ?_
                      refine AllReadyH.cons rfl (fun K hK => ?_) AllReadyH.nil
                      rw [if_pos (by rfl)]
                      refine wp_append_own _ _ _ 39 rfl bb 3 j0 (.int .i64 0) 1 8 Tryz.underlying39 hj hy0 hy1 hy2 rfl (by decide) _ _ _ rfl OWN6.out ⟨WD.heap.size, 0, none⟩ 1 1 [.int .i64 cd] rfl rfl ?c1a ?c2a ?c3a ?c4a hb5 ?_
                      case c1a => exact one_at hit
                      case c2a => intro u hu; simp at hu; subst hu; rfl
                      case c3a => unfold maxLen; omega
                      case c4a => omega
                      intro v7 w7 hown7 hgrow7 _
                      have NZ : some z ≠ v6.ownBlock := fun e => by have := (OWN6.out.lt z e.symm).1; have := ZB.out.1; omega
                      have X7 : Hid (S3b z cd (pr) ti w7) := ⟨hgrow7.cell XX.out.c0 NZ, hgrow7.cell XX.out.c1 NZ, hgrow7.cell XX.out.c2 NZ⟩
                      have O7 : Hid (w7.ownsRow V.heap.size 28 3 (.slice ao (ndU (outS T k)).length co) (ndU (outS T k)).length (nrow3 (ndU (outS T k)))) := World.ownsRow.kept OX.out hgrow7 (rows_ne OX.out OWN6.out (by decide))
                      have B7 : Hid (Below V.heap.size V w7 ∧ V.heap.size ≤ w7.heap.size) := by
                        have b := (I4.out.bel.trans (BX.out.1.mono I4.out.bel.size)).grown hgrow7 (Nat.le_trans ZB.out.2 BX.out.2) (fun u e => Nat.le_trans ZB.out.2 (OWN6.out.lt u e).1)
                        exact ⟨b, b.size⟩
                      have P7 := Lib.hid (own_mono hown7 ZB.out.2)
                      have hT := X7.out
                      refine hK _ _ hT (fun _ => ?_)
                      clear hK K hT hown7 hgrow7 hit NZ OWN6 XX BX OX BWX HIT hb5 ZB
                      try simp only [Act.put, List.setIfInBounds_toArray, List.set_cons_zero, List.set_cons_succ]
                      refine wpAnyH_take (i := 6) (v := ?v6z30) rfl (by kernel_rfl) (by kernel_rfl) (by kernel_rfl) (fun _ _ _ h => h) (Or.inl ⟨by rfl, ?hy6z30⟩) (by assumption) ?rest6z30
                      case hy6z30 =>
                        intro w hSw
                        dsimp only [S3b] at hSw
                        go_simp
                        try with_reducible rfl
                      simp only [Act.put, List.getElem_toArray, List.getElem_cons_succ, List.getElem_cons_zero, List.setIfInBounds_toArray, List.set_cons_zero, List.set_cons_succ]
                      refine wpAnyH_done (by kernel_rfl) ?_ _
                      refine NoPanic.normal ?_
                      obtain ⟨y0, y1, y2⟩ := X7.out
                      have hd1 : (ndU (outS T k)).length + 1 ≤ maxLen := by unfold maxLen; omega
                      have hd2 : ((ndU (outS T k)).length + 1) * 32 ≤ 140737488355328 := by omega
                      have hd3 : V.heap.size ≤ (w7.alloc (.cells #[.int .i64 cd, .int .i64 (pr), .string ti] 28)).heap.size := by have := B7.out.2; simp; omega
                      have hd4 : ∀ u ∈ [Value.int .i64 cd, .int .i64 (pr), .string ti], u.oneCell' = true := by intro u hu; simp at hu; rcases hu with rfl | rfl | rfl <;> rfl
                      go_wp2_with (at_builtin; refine wpList_append_own _ rfl _ _ 22 rfl V.heap.size 28 i0 (.agg #[.int .i64 0, .int .i64 0, .string ByteArray.empty]) 3 32 Tryz.underlying22 hi hz0 hz1 hz2 rfl (by decide) _ _ _ rfl (O7.out.alloc _) ⟨w7.heap.size, 0, none⟩ 1 1 [.int .i64 cd, .int .i64 (pr), .string ti] rfl rfl (cell_three_new _ _ _ _ _) hd4 hd1 hd2 hd3 ?_)
                      intro v8 w8 hown8 hgrow8 _
                      have NX : Hid (RfI V w8 T (k + 1) v8 v7 (p.take (j + 1) ++ [cd]) (0)) := by
                        refine RfI.next I4.out HE.out HB.out HQ.out (by rw [HML.out]; omega) HCD.out HTI.out HPR.out.symm TW.out ?_ hown8 ?_
                        · exact (B7.out.1.alloc B7.out.2 _).grown hgrow8 hd3 (fun u e => (O7.out.lt u e).1)
                        · exact World.ownsRow.kept (P7.out.alloc _) hgrow8 (rows_ne (P7.out.alloc _) (O7.out.alloc (.cells #[.int .i64 cd, .int .i64 (pr), .string ti] 28)) (by decide))
                      clear hown8 hgrow8 O7 P7 X7 B7 y0 y1 y2 hd1 hd2 hd3 hd4
                      go_wp2
                      go_roundw
                      case rel => exact ⟨k + 1, v8, v7, p.take (j + 1) ++ [cd], 0, rfl, rfl, by omega, rfl, by go_num, NX.out⟩
                      case measure => simp [intOf]; omega
            · have ht' : (t == 0) = false := by rw [beq_eq_false_iff_ne]; exact ht
              have TW : Hid (t = if t = 0 then (if has (outS T k) cd (outS T k).length = true then ((k + 1 : Nat) : Int) else 0) else t) := by unfold Hid; rw [if_neg ht]
              have I5 := I3
              have X5 := X3
              have B5 := B3
              clear I3 X3 B3 ht
              rcases HPF.out with ⟨ha, hm0, hc0⟩ | ⟨g, ha, hmc⟩
              · subst ha hc0
                obtain rfl : q = 0 := by omega
                obtain rfl : m = 0 := hm0
                have XBQ : Hid (Below w4.heap.size w4 W3 ∧ Bx3 W3 z (.int .i64 cd) (.int .i64 0) (.string ti)) := ⟨B5.out, X5.out⟩
                have PQ0 : ∀ wq : World, Below w4.heap.size w4 wq → Hid (wq.ownsRow V.heap.size 3 1 (.slice none 0 0) 0 ((p.take 0).map (Value.int .i64))) := fun wq _ => ⟨rfl, .inl ⟨rfl, rfl⟩⟩
                have HPQ := Lib.hid PQ0
                clear PQ0
                go_wp2_with fail
                have PQ0 := HPQ.out
                clear HPQ B5 X5 I5
                try clear hW3 hz
                have BQ : Hid (Below w4.heap.size w4 W3 ∧ Bx3 W3 z (.int .i64 cd) (.int .i64 (0)) (.string ti)) := XBQ
                obtain ⟨wq, hwq⟩ : ∃ wq, W3 = wq := ⟨_, rfl⟩
                rw [hwq] at BQ
                rw [hwq]
                clear hwq XBQ
                have PQ : Hid (wq.ownsRow V.heap.size 3 1 (.slice none 0 0) (0) ((p.take (0)).map (Value.int .i64))) := PQ0 wq BQ.out.1
                clear PQ0
                refine wp_region_noPanic ?_
                refine wp_region_held_drew (S := S3b z cd (0) ti) (by kernel_rfl) (by exact ⟨BQ.out.2.c0, BQ.out.2.c1, BQ.out.2.c2⟩) (fun hS => ?_)
                obtain ⟨WD, hWD⟩ : ∃ W, wq.drew = W := ⟨_, rfl⟩
                have D0 : Hid (Below wq.heap.size wq WD) := by unfold Hid; rw [← hWD]; exact (Below.refl _ _).drew
                rw [hWD] at hS ⊢
                clear hWD
                have BD : Hid (Below w4.heap.size w4 WD) := BQ.out.1.trans (D0.out.mono BQ.out.1.size)
                have XD := Lib.hid (BQ.out.2.keep D0.out)
                have PD := Lib.hid (own_keep PQ.out D0.out)
                have LQ : Hid ((p.take (0)).length = 0) := by unfold Hid; rw [List.length_take, HML.out]; omega
                have CL : Hid (∀ W : World, W.ownsRow V.heap.size 3 1 (.slice none 0 0) (0) ((p.take (0)).map (Value.int .i64)) → Calls Tryz.prog 16 #[.slice none 0 0] W fun e w' => ∃ v', e = .returned v' ∧ w'.ownsRow W.heap.size 3 1 v' (0) ((p.take (0)).map (Value.int .i64)) ∧ Below W.heap.size W w') := fun W h => by
                  have hc := clone_c (.slice none 0 0) V.heap.size (p.take (0)) W (by rw [LQ.out]; exact h) (by rw [LQ.out]; omega)
                  rw [LQ.out] at hc
                  exact hc
                clear BQ PQ D0
                refine wpAnyH_take (i := 0) (v := ?v0z31) rfl (by kernel_rfl) (by kernel_rfl) (by kernel_rfl) (fun _ _ _ h => h) (Or.inl ⟨by rfl, ?hy0z31⟩) (by assumption) ?rest0z31
                case hy0z31 =>
                  intro w hSw
                  dsimp only [S3b] at hSw
                  go_simp
                  try with_reducible rfl
                simp only [Act.put, List.getElem_toArray, List.getElem_cons_succ, List.getElem_cons_zero, List.setIfInBounds_toArray, List.set_cons_zero, List.set_cons_succ]
                refine wpAnyH_take (i := 2) (v := ?v2z32) rfl (by kernel_rfl) (by kernel_rfl) (by kernel_rfl) (fun _ _ _ h => h) (Or.inl ⟨by rfl, ?hy2z32⟩) (by assumption) ?rest2z32
                case hy2z32 =>
                  intro w hSw
                  dsimp only [S3b] at hSw
                  go_simp
                  try with_reducible rfl
                simp only [Act.put, List.getElem_toArray, List.getElem_cons_succ, List.getElem_cons_zero, List.setIfInBounds_toArray, List.set_cons_zero, List.set_cons_succ]
                refine wpAnyH_take (i := 3) (v := ?v3z33) rfl (by kernel_rfl) (by kernel_rfl) (by kernel_rfl) (fun _ _ _ h => h) (Or.inl ⟨by rfl, ?hy3z33⟩) (by assumption) ?rest3z33
                case hy3z33 =>
                  intro w hSw
                  dsimp only [S3b] at hSw
                  go_simp
                  try with_reducible rfl
                simp only [Act.put, List.getElem_toArray, List.getElem_cons_succ, List.getElem_cons_zero, List.setIfInBounds_toArray, List.set_cons_zero, List.set_cons_succ]
                refine wpAnyH_ready (rs := [1, 4]) (by kernel_rfl) (by simp) ?_
                refine AllReadyH.cons rfl (fun K hK => ?_) (AllReadyH.cons rfl (fun K hK => ?_) AllReadyH.nil)
                · go_simp
                  refine (CL.out _ PD.out).mono ?_
                  rintro e wc ⟨v6, rfl, hown, hBc⟩
                  try go_simp
                  have XX := Lib.hid (XD.out.keep hBc)
                  have hT : S3b z cd (0) ti wc := ⟨XX.out.c0, XX.out.c1, XX.out.c2⟩
                  refine hK _ _ hT (fun _ => ?_)
                  clear hK K hT
                  try simp only [Act.put, List.setIfInBounds_toArray, List.set_cons_zero, List.set_cons_succ]
                  refine wpAnyH_ready (rs := [4]) (by kernel_rfl) (by simp) ?_
                  refine AllReadyH.cons rfl (fun K hK => ?_) AllReadyH.nil
                  go_simp
                  have XX1 := Lib.hid (XX.out.keep (bel_one wc (.cells #[.int .i64 cd] 3)))
                  clear XX
                  have XX := XX1
                  clear XX1
                  have hT : S3b z cd (0) ti (wc.alloc (.cells #[.int .i64 cd] 3)) := ⟨XX.out.c0, XX.out.c1, XX.out.c2⟩
                  refine hK _ _ hT (fun _ => ?_)
                  clear hK K hT
                  try simp only [Act.put, List.setIfInBounds_toArray, List.set_cons_zero, List.set_cons_succ]
                  have OWN6 := Lib.hid (hown.alloc (.cells #[.int .i64 cd] 3))
                  have BWX : Hid (Below WD.heap.size WD (wc.alloc (.cells #[.int .i64 cd] 3))) := hBc.alloc hBc.size _
                  have HIT : Hid ((wc.alloc (.cells #[.int .i64 cd] 3)).cell? ⟨wc.heap.size, 0, none⟩ = some (.int .i64 cd)) := by unfold Hid; rw [World.cell?_alloc_at _ _ _ _ rfl]; rfl
                  clear hown hBc hS
                  obtain ⟨bb, hbb⟩ : ∃ bb, WD.heap.size = bb := ⟨_, rfl⟩
                  rw [hbb] at OWN6
                  have ZB : Hid (z < bb ∧ V.heap.size ≤ bb) := by unfold Hid; rw [← hbb]; exact ⟨XD.out.lt, Nat.le_trans I4.out.bel.size BD.out.size⟩
                  have BX : Hid (Below w4.heap.size w4 (wc.alloc (.cells #[.int .i64 cd] 3)) ∧ bb ≤ ((wc.alloc (.cells #[.int .i64 cd] 3))).heap.size) := by unfold Hid; rw [← hbb]; exact ⟨BD.out.trans (BWX.out.mono BD.out.size), BWX.out.size⟩
                  have OX := Lib.hid (own_keep I4.out.own BX.out.1)
                  have hit : ((wc.alloc (.cells #[.int .i64 cd] 3))).cell? ⟨wc.heap.size, 0, none⟩ = some (.int .i64 cd) := HIT.out
                  have hb5 : bb ≤ ((wc.alloc (.cells #[.int .i64 cd] 3))).heap.size := BX.out.2
                  clear hbb XD BD PD CL
                  refine wpAnyH_ready (rs := [5]) (by kernel_rfl) (by simp) ?_
                  refine AllReadyH.cons rfl (fun K hK => ?_) AllReadyH.nil
                  rw [if_pos (by rfl)]
                  refine wp_append_own _ _ _ 39 rfl bb 3 j0 (.int .i64 0) 1 8 Tryz.underlying39 hj hy0 hy1 hy2 rfl (by decide) _ _ _ rfl OWN6.out ⟨wc.heap.size, 0, none⟩ 1 1 [.int .i64 cd] rfl rfl ?c1a ?c2a ?c3a ?c4a hb5 ?_
                  case c1a => exact one_at hit
                  case c2a => intro u hu; simp at hu; subst hu; rfl
                  case c3a => unfold maxLen; omega
                  case c4a => omega
                  intro v7 w7 hown7 hgrow7 _
                  have NZ : some z ≠ v6.ownBlock := fun e => by have := (OWN6.out.lt z e.symm).1; have := ZB.out.1; omega
                  have X7 : Hid (S3b z cd (0) ti w7) := ⟨hgrow7.cell XX.out.c0 NZ, hgrow7.cell XX.out.c1 NZ, hgrow7.cell XX.out.c2 NZ⟩
                  have O7 : Hid (w7.ownsRow V.heap.size 28 3 (.slice ao (ndU (outS T k)).length co) (ndU (outS T k)).length (nrow3 (ndU (outS T k)))) := World.ownsRow.kept OX.out hgrow7 (rows_ne OX.out OWN6.out (by decide))
                  have B7 : Hid (Below V.heap.size V w7 ∧ V.heap.size ≤ w7.heap.size) := by
                    have b := (I4.out.bel.trans (BX.out.1.mono I4.out.bel.size)).grown hgrow7 (Nat.le_trans ZB.out.2 BX.out.2) (fun u e => Nat.le_trans ZB.out.2 (OWN6.out.lt u e).1)
                    exact ⟨b, b.size⟩
                  have P7 := Lib.hid (own_mono hown7 ZB.out.2)
                  have hT := X7.out
                  refine hK _ _ hT (fun _ => ?_)
                  clear hK K hT hown7 hgrow7 hit NZ OWN6 XX BX OX BWX HIT hb5 ZB
                  try simp only [Act.put, List.setIfInBounds_toArray, List.set_cons_zero, List.set_cons_succ]
                  refine wpAnyH_take (i := 6) (v := ?v6z34) rfl (by kernel_rfl) (by kernel_rfl) (by kernel_rfl) (fun _ _ _ h => h) (Or.inl ⟨by rfl, ?hy6z34⟩) (by assumption) ?rest6z34
                  case hy6z34 =>
                    intro w hSw
                    dsimp only [S3b] at hSw
                    go_simp
                    try with_reducible rfl
                  simp only [Act.put, List.getElem_toArray, List.getElem_cons_succ, List.getElem_cons_zero, List.setIfInBounds_toArray, List.set_cons_zero, List.set_cons_succ]
                  refine wpAnyH_done (by kernel_rfl) ?_ _
                  refine NoPanic.normal ?_
                  obtain ⟨y0, y1, y2⟩ := X7.out
                  have hd1 : (ndU (outS T k)).length + 1 ≤ maxLen := by unfold maxLen; omega
                  have hd2 : ((ndU (outS T k)).length + 1) * 32 ≤ 140737488355328 := by omega
                  have hd3 : V.heap.size ≤ (w7.alloc (.cells #[.int .i64 cd, .int .i64 (0), .string ti] 28)).heap.size := by have := B7.out.2; simp; omega
                  have hd4 : ∀ u ∈ [Value.int .i64 cd, .int .i64 (0), .string ti], u.oneCell' = true := by intro u hu; simp at hu; rcases hu with rfl | rfl | rfl <;> rfl
                  go_wp2_with (at_builtin; refine wpList_append_own _ rfl _ _ 22 rfl V.heap.size 28 i0 (.agg #[.int .i64 0, .int .i64 0, .string ByteArray.empty]) 3 32 Tryz.underlying22 hi hz0 hz1 hz2 rfl (by decide) _ _ _ rfl (O7.out.alloc _) ⟨w7.heap.size, 0, none⟩ 1 1 [.int .i64 cd, .int .i64 (0), .string ti] rfl rfl (cell_three_new _ _ _ _ _) hd4 hd1 hd2 hd3 ?_)
                  intro v8 w8 hown8 hgrow8 _
                  have NX : Hid (RfI V w8 T (k + 1) v8 v7 (p.take (0) ++ [cd]) (t)) := by
                    refine RfI.next I4.out HE.out HB.out HQ.out (by rw [HML.out]; omega) HCD.out HTI.out rfl TW.out ?_ hown8 ?_
                    · exact (B7.out.1.alloc B7.out.2 _).grown hgrow8 hd3 (fun u e => (O7.out.lt u e).1)
                    · exact World.ownsRow.kept (P7.out.alloc _) hgrow8 (rows_ne (P7.out.alloc _) (O7.out.alloc (.cells #[.int .i64 cd, .int .i64 (0), .string ti] 28)) (by decide))
                  clear hown8 hgrow8 O7 P7 X7 B7 y0 y1 y2 hd1 hd2 hd3 hd4
                  go_wp2
                  go_roundw
                  case rel => exact ⟨k + 1, v8, v7, p.take (0) ++ [cd], t, rfl, rfl, by omega, rfl, by go_num, NX.out⟩
                  case measure => simp [intOf]; omega
                · go_simp
                  have XX := Lib.hid (XD.out.keep (bel_one WD (.cells #[.int .i64 cd] 3)))
                  have hT : S3b z cd (0) ti (WD.alloc (.cells #[.int .i64 cd] 3)) := ⟨XX.out.c0, XX.out.c1, XX.out.c2⟩
                  refine hK _ _ hT (fun _ => ?_)
                  clear hK K hT
                  try simp only [Act.put, List.setIfInBounds_toArray, List.set_cons_zero, List.set_cons_succ]
                  refine wpAnyH_ready (rs := [1]) (by kernel_rfl) (by simp) ?_
                  refine AllReadyH.cons rfl (fun K hK => ?_) AllReadyH.nil
                  go_simp
                  refine (CL.out _ (PD.out.alloc _)).mono ?_
                  rintro e wc ⟨v6, rfl, hown, hBc⟩
                  try go_simp
                  have XX1 := Lib.hid (XX.out.keep hBc)
                  clear XX
                  have XX := XX1
                  clear XX1
                  have hT : S3b z cd (0) ti wc := ⟨XX.out.c0, XX.out.c1, XX.out.c2⟩
                  refine hK _ _ hT (fun _ => ?_)
                  clear hK K hT
                  try simp only [Act.put, List.setIfInBounds_toArray, List.set_cons_zero, List.set_cons_succ]
                  have OWN6 := Lib.hid (own_mono hown (show WD.heap.size ≤ (WD.alloc (.cells #[.int .i64 cd] 3)).heap.size by simp))
                  have BWX : Hid (Below WD.heap.size WD wc) := (bel_one WD (.cells #[.int .i64 cd] 3)).trans (hBc.mono (by simp))
                  have HIT : Hid (wc.cell? ⟨WD.heap.size, 0, none⟩ = some (.int .i64 cd)) := (hBc.cell (p := ⟨WD.heap.size, 0, none⟩) (by simp)).trans (by rw [World.cell?_alloc_at _ _ _ _ rfl]; rfl)
                  clear hown hBc hS
                  obtain ⟨bb, hbb⟩ : ∃ bb, WD.heap.size = bb := ⟨_, rfl⟩
                  rw [hbb] at OWN6
                  have ZB : Hid (z < bb ∧ V.heap.size ≤ bb) := by unfold Hid; rw [← hbb]; exact ⟨XD.out.lt, Nat.le_trans I4.out.bel.size BD.out.size⟩
                  have BX : Hid (Below w4.heap.size w4 wc ∧ bb ≤ (wc).heap.size) := by unfold Hid; rw [← hbb]; exact ⟨BD.out.trans (BWX.out.mono BD.out.size), BWX.out.size⟩
                  have OX := Lib.hid (own_keep I4.out.own BX.out.1)
                  have hit : (wc).cell? ⟨WD.heap.size, 0, none⟩ = some (.int .i64 cd) := HIT.out
                  have hb5 : bb ≤ (wc).heap.size := BX.out.2
                  clear hbb XD BD PD CL
                  refine wpAnyH_ready (rs := [5]) (by kernel_rfl) (by simp) ?_
                  refine AllReadyH.cons rfl (fun K hK => ?_) AllReadyH.nil
                  rw [if_pos (by rfl)]
                  refine wp_append_own _ _ _ 39 rfl bb 3 j0 (.int .i64 0) 1 8 Tryz.underlying39 hj hy0 hy1 hy2 rfl (by decide) _ _ _ rfl OWN6.out ⟨WD.heap.size, 0, none⟩ 1 1 [.int .i64 cd] rfl rfl ?c1a ?c2a ?c3a ?c4a hb5 ?_
                  case c1a => exact one_at hit
                  case c2a => intro u hu; simp at hu; subst hu; rfl
                  case c3a => unfold maxLen; omega
                  case c4a => omega
                  intro v7 w7 hown7 hgrow7 _
                  have NZ : some z ≠ v6.ownBlock := fun e => by have := (OWN6.out.lt z e.symm).1; have := ZB.out.1; omega
                  have X7 : Hid (S3b z cd (0) ti w7) := ⟨hgrow7.cell XX.out.c0 NZ, hgrow7.cell XX.out.c1 NZ, hgrow7.cell XX.out.c2 NZ⟩
                  have O7 : Hid (w7.ownsRow V.heap.size 28 3 (.slice ao (ndU (outS T k)).length co) (ndU (outS T k)).length (nrow3 (ndU (outS T k)))) := World.ownsRow.kept OX.out hgrow7 (rows_ne OX.out OWN6.out (by decide))
                  have B7 : Hid (Below V.heap.size V w7 ∧ V.heap.size ≤ w7.heap.size) := by
                    have b := (I4.out.bel.trans (BX.out.1.mono I4.out.bel.size)).grown hgrow7 (Nat.le_trans ZB.out.2 BX.out.2) (fun u e => Nat.le_trans ZB.out.2 (OWN6.out.lt u e).1)
                    exact ⟨b, b.size⟩
                  have P7 := Lib.hid (own_mono hown7 ZB.out.2)
                  have hT := X7.out
                  refine hK _ _ hT (fun _ => ?_)
                  clear hK K hT hown7 hgrow7 hit NZ OWN6 XX BX OX BWX HIT hb5 ZB
                  try simp only [Act.put, List.setIfInBounds_toArray, List.set_cons_zero, List.set_cons_succ]
                  refine wpAnyH_take (i := 6) (v := ?v6z35) rfl (by kernel_rfl) (by kernel_rfl) (by kernel_rfl) (fun _ _ _ h => h) (Or.inl ⟨by rfl, ?hy6z35⟩) (by assumption) ?rest6z35
                  case hy6z35 =>
                    intro w hSw
                    dsimp only [S3b] at hSw
                    go_simp
                    try with_reducible rfl
                  simp only [Act.put, List.getElem_toArray, List.getElem_cons_succ, List.getElem_cons_zero, List.setIfInBounds_toArray, List.set_cons_zero, List.set_cons_succ]
                  refine wpAnyH_done (by kernel_rfl) ?_ _
                  refine NoPanic.normal ?_
                  obtain ⟨y0, y1, y2⟩ := X7.out
                  have hd1 : (ndU (outS T k)).length + 1 ≤ maxLen := by unfold maxLen; omega
                  have hd2 : ((ndU (outS T k)).length + 1) * 32 ≤ 140737488355328 := by omega
                  have hd3 : V.heap.size ≤ (w7.alloc (.cells #[.int .i64 cd, .int .i64 (0), .string ti] 28)).heap.size := by have := B7.out.2; simp; omega
                  have hd4 : ∀ u ∈ [Value.int .i64 cd, .int .i64 (0), .string ti], u.oneCell' = true := by intro u hu; simp at hu; rcases hu with rfl | rfl | rfl <;> rfl
                  go_wp2_with (at_builtin; refine wpList_append_own _ rfl _ _ 22 rfl V.heap.size 28 i0 (.agg #[.int .i64 0, .int .i64 0, .string ByteArray.empty]) 3 32 Tryz.underlying22 hi hz0 hz1 hz2 rfl (by decide) _ _ _ rfl (O7.out.alloc _) ⟨w7.heap.size, 0, none⟩ 1 1 [.int .i64 cd, .int .i64 (0), .string ti] rfl rfl (cell_three_new _ _ _ _ _) hd4 hd1 hd2 hd3 ?_)
                  intro v8 w8 hown8 hgrow8 _
                  have NX : Hid (RfI V w8 T (k + 1) v8 v7 (p.take (0) ++ [cd]) (t)) := by
                    refine RfI.next I4.out HE.out HB.out HQ.out (by rw [HML.out]; omega) HCD.out HTI.out rfl TW.out ?_ hown8 ?_
                    · exact (B7.out.1.alloc B7.out.2 _).grown hgrow8 hd3 (fun u e => (O7.out.lt u e).1)
                    · exact World.ownsRow.kept (P7.out.alloc _) hgrow8 (rows_ne (P7.out.alloc _) (O7.out.alloc (.cells #[.int .i64 cd, .int .i64 (0), .string ti] 28)) (by decide))
                  clear hown8 hgrow8 O7 P7 X7 B7 y0 y1 y2 hd1 hd2 hd3 hd4
                  go_wp2
                  go_roundw
                  case rel => exact ⟨k + 1, v8, v7, p.take (0) ++ [cd], t, rfl, rfl, by omega, rfl, by go_num, NX.out⟩
                  case measure => simp [intOf]; omega
              · subst ha
                have PQ1 : Hid (∀ wq : World, Below w4.heap.size w4 wq → Hid (wq.ownsRow V.heap.size 3 1 (.slice (some ⟨g, 0, none⟩) q cp) q ((p.take q).map (Value.int .i64)))) := fun wq hb => by
                  have h := own_keep I4.out.path hb
                  rw [HML.out] at h
                  have h2 := own_cut h (k := q) hqm
                  rw [Nat.mul_one, ← List.map_take] at h2
                  exact h2
                rcases Nat.eq_zero_or_pos q with rfl | hq0
                · have XBQ : Hid (Below w4.heap.size w4 W3 ∧ Bx3 W3 z (.int .i64 cd) (.int .i64 0) (.string ti)) := ⟨B5.out, X5.out⟩
                  go_wp2_with fail
                  have PQ0 := PQ1.out
                  clear PQ1 B5 X5 I5
                  try clear hW3 hz
                  have BQ : Hid (Below w4.heap.size w4 W3 ∧ Bx3 W3 z (.int .i64 cd) (.int .i64 (0)) (.string ti)) := XBQ
                  obtain ⟨wq, hwq⟩ : ∃ wq, W3 = wq := ⟨_, rfl⟩
                  rw [hwq] at BQ
                  rw [hwq]
                  clear hwq XBQ
                  have PQ : Hid (wq.ownsRow V.heap.size 3 1 (.slice (some ⟨g, 0, none⟩) 0 cp) (0) ((p.take (0)).map (Value.int .i64))) := PQ0 wq BQ.out.1
                  clear PQ0
                  refine wp_region_noPanic ?_
                  refine wp_region_held_drew (S := S3b z cd (0) ti) (by kernel_rfl) (by exact ⟨BQ.out.2.c0, BQ.out.2.c1, BQ.out.2.c2⟩) (fun hS => ?_)
                  obtain ⟨WD, hWD⟩ : ∃ W, wq.drew = W := ⟨_, rfl⟩
                  have D0 : Hid (Below wq.heap.size wq WD) := by unfold Hid; rw [← hWD]; exact (Below.refl _ _).drew
                  rw [hWD] at hS ⊢
                  clear hWD
                  have BD : Hid (Below w4.heap.size w4 WD) := BQ.out.1.trans (D0.out.mono BQ.out.1.size)
                  have XD := Lib.hid (BQ.out.2.keep D0.out)
                  have PD := Lib.hid (own_keep PQ.out D0.out)
                  have LQ : Hid ((p.take (0)).length = 0) := by unfold Hid; rw [List.length_take, HML.out]; omega
                  have CL : Hid (∀ W : World, W.ownsRow V.heap.size 3 1 (.slice (some ⟨g, 0, none⟩) 0 cp) (0) ((p.take (0)).map (Value.int .i64)) → Calls Tryz.prog 16 #[.slice (some ⟨g, 0, none⟩) 0 cp] W fun e w' => ∃ v', e = .returned v' ∧ w'.ownsRow W.heap.size 3 1 v' (0) ((p.take (0)).map (Value.int .i64)) ∧ Below W.heap.size W w') := fun W h => by
                    have hc := clone_c (.slice (some ⟨g, 0, none⟩) 0 cp) V.heap.size (p.take (0)) W (by rw [LQ.out]; exact h) (by rw [LQ.out]; omega)
                    rw [LQ.out] at hc
                    exact hc
                  clear BQ PQ D0
                  refine wpAnyH_take (i := 0) (v := ?v0z36) rfl (by kernel_rfl) (by kernel_rfl) (by kernel_rfl) (fun _ _ _ h => h) (Or.inl ⟨by rfl, ?hy0z36⟩) (by assumption) ?rest0z36
                  case hy0z36 =>
                    intro w hSw
                    dsimp only [S3b] at hSw
                    go_simp
                    try with_reducible rfl
                  simp only [Act.put, List.getElem_toArray, List.getElem_cons_succ, List.getElem_cons_zero, List.setIfInBounds_toArray, List.set_cons_zero, List.set_cons_succ]
                  refine wpAnyH_take (i := 2) (v := ?v2z37) rfl (by kernel_rfl) (by kernel_rfl) (by kernel_rfl) (fun _ _ _ h => h) (Or.inl ⟨by rfl, ?hy2z37⟩) (by assumption) ?rest2z37
                  case hy2z37 =>
                    intro w hSw
                    dsimp only [S3b] at hSw
                    go_simp
                    try with_reducible rfl
                  simp only [Act.put, List.getElem_toArray, List.getElem_cons_succ, List.getElem_cons_zero, List.setIfInBounds_toArray, List.set_cons_zero, List.set_cons_succ]
                  refine wpAnyH_take (i := 3) (v := ?v3z38) rfl (by kernel_rfl) (by kernel_rfl) (by kernel_rfl) (fun _ _ _ h => h) (Or.inl ⟨by rfl, ?hy3z38⟩) (by assumption) ?rest3z38
                  case hy3z38 =>
                    intro w hSw
                    dsimp only [S3b] at hSw
                    go_simp
                    try with_reducible rfl
                  simp only [Act.put, List.getElem_toArray, List.getElem_cons_succ, List.getElem_cons_zero, List.setIfInBounds_toArray, List.set_cons_zero, List.set_cons_succ]
                  refine wpAnyH_ready (rs := [1, 4]) (by kernel_rfl) (by simp) ?_
                  refine AllReadyH.cons rfl (fun K hK => ?_) (AllReadyH.cons rfl (fun K hK => ?_) AllReadyH.nil)
                  · go_simp
                    refine (CL.out _ PD.out).mono ?_
                    rintro e wc ⟨v6, rfl, hown, hBc⟩
                    try go_simp
                    have XX := Lib.hid (XD.out.keep hBc)
                    have hT : S3b z cd (0) ti wc := ⟨XX.out.c0, XX.out.c1, XX.out.c2⟩
                    refine hK _ _ hT (fun _ => ?_)
                    clear hK K hT
                    try simp only [Act.put, List.setIfInBounds_toArray, List.set_cons_zero, List.set_cons_succ]
                    refine wpAnyH_ready (rs := [4]) (by kernel_rfl) (by simp) ?_
                    refine AllReadyH.cons rfl (fun K hK => ?_) AllReadyH.nil
                    go_simp
                    have XX1 := Lib.hid (XX.out.keep (bel_one wc (.cells #[.int .i64 cd] 3)))
                    clear XX
                    have XX := XX1
                    clear XX1
                    have hT : S3b z cd (0) ti (wc.alloc (.cells #[.int .i64 cd] 3)) := ⟨XX.out.c0, XX.out.c1, XX.out.c2⟩
                    refine hK _ _ hT (fun _ => ?_)
                    clear hK K hT
                    try simp only [Act.put, List.setIfInBounds_toArray, List.set_cons_zero, List.set_cons_succ]
                    have OWN6 := Lib.hid (hown.alloc (.cells #[.int .i64 cd] 3))
                    have BWX : Hid (Below WD.heap.size WD (wc.alloc (.cells #[.int .i64 cd] 3))) := hBc.alloc hBc.size _
                    have HIT : Hid ((wc.alloc (.cells #[.int .i64 cd] 3)).cell? ⟨wc.heap.size, 0, none⟩ = some (.int .i64 cd)) := by unfold Hid; rw [World.cell?_alloc_at _ _ _ _ rfl]; rfl
                    clear hown hBc hS
                    obtain ⟨bb, hbb⟩ : ∃ bb, WD.heap.size = bb := ⟨_, rfl⟩
                    rw [hbb] at OWN6
                    have ZB : Hid (z < bb ∧ V.heap.size ≤ bb) := by unfold Hid; rw [← hbb]; exact ⟨XD.out.lt, Nat.le_trans I4.out.bel.size BD.out.size⟩
                    have BX : Hid (Below w4.heap.size w4 (wc.alloc (.cells #[.int .i64 cd] 3)) ∧ bb ≤ ((wc.alloc (.cells #[.int .i64 cd] 3))).heap.size) := by unfold Hid; rw [← hbb]; exact ⟨BD.out.trans (BWX.out.mono BD.out.size), BWX.out.size⟩
                    have OX := Lib.hid (own_keep I4.out.own BX.out.1)
                    have hit : ((wc.alloc (.cells #[.int .i64 cd] 3))).cell? ⟨wc.heap.size, 0, none⟩ = some (.int .i64 cd) := HIT.out
                    have hb5 : bb ≤ ((wc.alloc (.cells #[.int .i64 cd] 3))).heap.size := BX.out.2
                    clear hbb XD BD PD CL
                    refine wpAnyH_ready (rs := [5]) (by kernel_rfl) (by simp) ?_
                    refine AllReadyH.cons rfl (fun K hK => ?_) AllReadyH.nil
                    rw [if_pos (by rfl)]
                    refine wp_append_own _ _ _ 39 rfl bb 3 j0 (.int .i64 0) 1 8 Tryz.underlying39 hj hy0 hy1 hy2 rfl (by decide) _ _ _ rfl OWN6.out ⟨wc.heap.size, 0, none⟩ 1 1 [.int .i64 cd] rfl rfl ?c1a ?c2a ?c3a ?c4a hb5 ?_
                    case c1a => exact one_at hit
                    case c2a => intro u hu; simp at hu; subst hu; rfl
                    case c3a => unfold maxLen; omega
                    case c4a => omega
                    intro v7 w7 hown7 hgrow7 _
                    have NZ : some z ≠ v6.ownBlock := fun e => by have := (OWN6.out.lt z e.symm).1; have := ZB.out.1; omega
                    have X7 : Hid (S3b z cd (0) ti w7) := ⟨hgrow7.cell XX.out.c0 NZ, hgrow7.cell XX.out.c1 NZ, hgrow7.cell XX.out.c2 NZ⟩
                    have O7 : Hid (w7.ownsRow V.heap.size 28 3 (.slice ao (ndU (outS T k)).length co) (ndU (outS T k)).length (nrow3 (ndU (outS T k)))) := World.ownsRow.kept OX.out hgrow7 (rows_ne OX.out OWN6.out (by decide))
                    have B7 : Hid (Below V.heap.size V w7 ∧ V.heap.size ≤ w7.heap.size) := by
                      have b := (I4.out.bel.trans (BX.out.1.mono I4.out.bel.size)).grown hgrow7 (Nat.le_trans ZB.out.2 BX.out.2) (fun u e => Nat.le_trans ZB.out.2 (OWN6.out.lt u e).1)
                      exact ⟨b, b.size⟩
                    have P7 := Lib.hid (own_mono hown7 ZB.out.2)
                    have hT := X7.out
                    refine hK _ _ hT (fun _ => ?_)
                    clear hK K hT hown7 hgrow7 hit NZ OWN6 XX BX OX BWX HIT hb5 ZB
                    try simp only [Act.put, List.setIfInBounds_toArray, List.set_cons_zero, List.set_cons_succ]
                    refine wpAnyH_take (i := 6) (v := ?v6z39) rfl (by kernel_rfl) (by kernel_rfl) (by kernel_rfl) (fun _ _ _ h => h) (Or.inl ⟨by rfl, ?hy6z39⟩) (by assumption) ?rest6z39
                    case hy6z39 =>
                      intro w hSw
                      dsimp only [S3b] at hSw
                      go_simp
                      try with_reducible rfl
                    simp only [Act.put, List.getElem_toArray, List.getElem_cons_succ, List.getElem_cons_zero, List.setIfInBounds_toArray, List.set_cons_zero, List.set_cons_succ]
                    refine wpAnyH_done (by kernel_rfl) ?_ _
                    refine NoPanic.normal ?_
                    obtain ⟨y0, y1, y2⟩ := X7.out
                    have hd1 : (ndU (outS T k)).length + 1 ≤ maxLen := by unfold maxLen; omega
                    have hd2 : ((ndU (outS T k)).length + 1) * 32 ≤ 140737488355328 := by omega
                    have hd3 : V.heap.size ≤ (w7.alloc (.cells #[.int .i64 cd, .int .i64 (0), .string ti] 28)).heap.size := by have := B7.out.2; simp; omega
                    have hd4 : ∀ u ∈ [Value.int .i64 cd, .int .i64 (0), .string ti], u.oneCell' = true := by intro u hu; simp at hu; rcases hu with rfl | rfl | rfl <;> rfl
                    go_wp2_with (at_builtin; refine wpList_append_own _ rfl _ _ 22 rfl V.heap.size 28 i0 (.agg #[.int .i64 0, .int .i64 0, .string ByteArray.empty]) 3 32 Tryz.underlying22 hi hz0 hz1 hz2 rfl (by decide) _ _ _ rfl (O7.out.alloc _) ⟨w7.heap.size, 0, none⟩ 1 1 [.int .i64 cd, .int .i64 (0), .string ti] rfl rfl (cell_three_new _ _ _ _ _) hd4 hd1 hd2 hd3 ?_)
                    intro v8 w8 hown8 hgrow8 _
                    have NX : Hid (RfI V w8 T (k + 1) v8 v7 (p.take (0) ++ [cd]) (t)) := by
                      refine RfI.next I4.out HE.out HB.out HQ.out (by rw [HML.out]; omega) HCD.out HTI.out rfl TW.out ?_ hown8 ?_
                      · exact (B7.out.1.alloc B7.out.2 _).grown hgrow8 hd3 (fun u e => (O7.out.lt u e).1)
                      · exact World.ownsRow.kept (P7.out.alloc _) hgrow8 (rows_ne (P7.out.alloc _) (O7.out.alloc (.cells #[.int .i64 cd, .int .i64 (0), .string ti] 28)) (by decide))
                    clear hown8 hgrow8 O7 P7 X7 B7 y0 y1 y2 hd1 hd2 hd3 hd4
                    go_wp2
                    go_roundw
                    case rel => exact ⟨k + 1, v8, v7, p.take (0) ++ [cd], t, rfl, rfl, by omega, rfl, by go_num, NX.out⟩
                    case measure => simp [intOf]; omega
                  · go_simp
                    have XX := Lib.hid (XD.out.keep (bel_one WD (.cells #[.int .i64 cd] 3)))
                    have hT : S3b z cd (0) ti (WD.alloc (.cells #[.int .i64 cd] 3)) := ⟨XX.out.c0, XX.out.c1, XX.out.c2⟩
                    refine hK _ _ hT (fun _ => ?_)
                    clear hK K hT
                    try simp only [Act.put, List.setIfInBounds_toArray, List.set_cons_zero, List.set_cons_succ]
                    refine wpAnyH_ready (rs := [1]) (by kernel_rfl) (by simp) ?_
                    refine AllReadyH.cons rfl (fun K hK => ?_) AllReadyH.nil
                    go_simp
                    refine (CL.out _ (PD.out.alloc _)).mono ?_
                    rintro e wc ⟨v6, rfl, hown, hBc⟩
                    try go_simp
                    have XX1 := Lib.hid (XX.out.keep hBc)
                    clear XX
                    have XX := XX1
                    clear XX1
                    have hT : S3b z cd (0) ti wc := ⟨XX.out.c0, XX.out.c1, XX.out.c2⟩
                    refine hK _ _ hT (fun _ => ?_)
                    clear hK K hT
                    try simp only [Act.put, List.setIfInBounds_toArray, List.set_cons_zero, List.set_cons_succ]
                    have OWN6 := Lib.hid (own_mono hown (show WD.heap.size ≤ (WD.alloc (.cells #[.int .i64 cd] 3)).heap.size by simp))
                    have BWX : Hid (Below WD.heap.size WD wc) := (bel_one WD (.cells #[.int .i64 cd] 3)).trans (hBc.mono (by simp))
                    have HIT : Hid (wc.cell? ⟨WD.heap.size, 0, none⟩ = some (.int .i64 cd)) := (hBc.cell (p := ⟨WD.heap.size, 0, none⟩) (by simp)).trans (by rw [World.cell?_alloc_at _ _ _ _ rfl]; rfl)
                    clear hown hBc hS
                    obtain ⟨bb, hbb⟩ : ∃ bb, WD.heap.size = bb := ⟨_, rfl⟩
                    rw [hbb] at OWN6
                    have ZB : Hid (z < bb ∧ V.heap.size ≤ bb) := by unfold Hid; rw [← hbb]; exact ⟨XD.out.lt, Nat.le_trans I4.out.bel.size BD.out.size⟩
                    have BX : Hid (Below w4.heap.size w4 wc ∧ bb ≤ (wc).heap.size) := by unfold Hid; rw [← hbb]; exact ⟨BD.out.trans (BWX.out.mono BD.out.size), BWX.out.size⟩
                    have OX := Lib.hid (own_keep I4.out.own BX.out.1)
                    have hit : (wc).cell? ⟨WD.heap.size, 0, none⟩ = some (.int .i64 cd) := HIT.out
                    have hb5 : bb ≤ (wc).heap.size := BX.out.2
                    clear hbb XD BD PD CL
                    refine wpAnyH_ready (rs := [5]) (by kernel_rfl) (by simp) ?_
                    refine AllReadyH.cons rfl (fun K hK => ?_) AllReadyH.nil
                    rw [if_pos (by rfl)]
                    refine wp_append_own _ _ _ 39 rfl bb 3 j0 (.int .i64 0) 1 8 Tryz.underlying39 hj hy0 hy1 hy2 rfl (by decide) _ _ _ rfl OWN6.out ⟨WD.heap.size, 0, none⟩ 1 1 [.int .i64 cd] rfl rfl ?c1a ?c2a ?c3a ?c4a hb5 ?_
                    case c1a => exact one_at hit
                    case c2a => intro u hu; simp at hu; subst hu; rfl
                    case c3a => unfold maxLen; omega
                    case c4a => omega
                    intro v7 w7 hown7 hgrow7 _
                    have NZ : some z ≠ v6.ownBlock := fun e => by have := (OWN6.out.lt z e.symm).1; have := ZB.out.1; omega
                    have X7 : Hid (S3b z cd (0) ti w7) := ⟨hgrow7.cell XX.out.c0 NZ, hgrow7.cell XX.out.c1 NZ, hgrow7.cell XX.out.c2 NZ⟩
                    have O7 : Hid (w7.ownsRow V.heap.size 28 3 (.slice ao (ndU (outS T k)).length co) (ndU (outS T k)).length (nrow3 (ndU (outS T k)))) := World.ownsRow.kept OX.out hgrow7 (rows_ne OX.out OWN6.out (by decide))
                    have B7 : Hid (Below V.heap.size V w7 ∧ V.heap.size ≤ w7.heap.size) := by
                      have b := (I4.out.bel.trans (BX.out.1.mono I4.out.bel.size)).grown hgrow7 (Nat.le_trans ZB.out.2 BX.out.2) (fun u e => Nat.le_trans ZB.out.2 (OWN6.out.lt u e).1)
                      exact ⟨b, b.size⟩
                    have P7 := Lib.hid (own_mono hown7 ZB.out.2)
                    have hT := X7.out
                    refine hK _ _ hT (fun _ => ?_)
                    clear hK K hT hown7 hgrow7 hit NZ OWN6 XX BX OX BWX HIT hb5 ZB
                    try simp only [Act.put, List.setIfInBounds_toArray, List.set_cons_zero, List.set_cons_succ]
                    refine wpAnyH_take (i := 6) (v := ?v6z40) rfl (by kernel_rfl) (by kernel_rfl) (by kernel_rfl) (fun _ _ _ h => h) (Or.inl ⟨by rfl, ?hy6z40⟩) (by assumption) ?rest6z40
                    case hy6z40 =>
                      intro w hSw
                      dsimp only [S3b] at hSw
                      go_simp
                      try with_reducible rfl
                    simp only [Act.put, List.getElem_toArray, List.getElem_cons_succ, List.getElem_cons_zero, List.setIfInBounds_toArray, List.set_cons_zero, List.set_cons_succ]
                    refine wpAnyH_done (by kernel_rfl) ?_ _
                    refine NoPanic.normal ?_
                    obtain ⟨y0, y1, y2⟩ := X7.out
                    have hd1 : (ndU (outS T k)).length + 1 ≤ maxLen := by unfold maxLen; omega
                    have hd2 : ((ndU (outS T k)).length + 1) * 32 ≤ 140737488355328 := by omega
                    have hd3 : V.heap.size ≤ (w7.alloc (.cells #[.int .i64 cd, .int .i64 (0), .string ti] 28)).heap.size := by have := B7.out.2; simp; omega
                    have hd4 : ∀ u ∈ [Value.int .i64 cd, .int .i64 (0), .string ti], u.oneCell' = true := by intro u hu; simp at hu; rcases hu with rfl | rfl | rfl <;> rfl
                    go_wp2_with (at_builtin; refine wpList_append_own _ rfl _ _ 22 rfl V.heap.size 28 i0 (.agg #[.int .i64 0, .int .i64 0, .string ByteArray.empty]) 3 32 Tryz.underlying22 hi hz0 hz1 hz2 rfl (by decide) _ _ _ rfl (O7.out.alloc _) ⟨w7.heap.size, 0, none⟩ 1 1 [.int .i64 cd, .int .i64 (0), .string ti] rfl rfl (cell_three_new _ _ _ _ _) hd4 hd1 hd2 hd3 ?_)
                    intro v8 w8 hown8 hgrow8 _
                    have NX : Hid (RfI V w8 T (k + 1) v8 v7 (p.take (0) ++ [cd]) (t)) := by
                      refine RfI.next I4.out HE.out HB.out HQ.out (by rw [HML.out]; omega) HCD.out HTI.out rfl TW.out ?_ hown8 ?_
                      · exact (B7.out.1.alloc B7.out.2 _).grown hgrow8 hd3 (fun u e => (O7.out.lt u e).1)
                      · exact World.ownsRow.kept (P7.out.alloc _) hgrow8 (rows_ne (P7.out.alloc _) (O7.out.alloc (.cells #[.int .i64 cd, .int .i64 (0), .string ti] 28)) (by decide))
                    clear hown8 hgrow8 O7 P7 X7 B7 y0 y1 y2 hd1 hd2 hd3 hd4
                    go_wp2
                    go_roundw
                    case rel => exact ⟨k + 1, v8, v7, p.take (0) ++ [cd], t, rfl, rfl, by omega, rfl, by go_num, NX.out⟩
                    case measure => simp [intOf]; omega
                · obtain ⟨j, rfl⟩ : ∃ j, q = j + 1 := ⟨q - 1, by omega⟩
                  have hm1 : (j : Int) + 1 - 1 = (j : Int) := by omega
                  have hm2 : (j : Int) < (j : Int) + 1 := by omega
                  have hmw : IntKind.i64.wrap (j : Int) = (j : Int) := by rw [IntKind.wrap_i64]; omega
                  have hm0 : (0 : Int) ≤ (j : Int) := by omega
                  have hm3 : (0 : Int) ≤ (j : Int) + 1 := by omega
                  have hm4 : (j : Int) + 1 ≤ (cp : Int) := by omega
                  have hm5 : (0 : Int) < (j : Int) + 1 := by omega
                  obtain ⟨pr, hpr⟩ : ∃ pr, p.getD j 0 = pr := ⟨_, rfl⟩
                  have c1 : W3.cell? ⟨g, j, none⟩ = some (.int .i64 pr) := by
                    have hjl : j < p.length := by rw [HML.out]; omega
                    have := I5.out.path.cells (g := g) rfl j (.int .i64 pr) (by rw [List.getElem?_map, List.getElem?_eq_getElem hjl, ← hpr, getD_is hjl]; rfl)
                    rw [add_at, Nat.zero_add] at this
                    exact this
                  have HPR := Lib.hid hpr
                  clear hpr hq0
                  have XBQ : Hid (Below w4.heap.size w4 (W3.setCell ⟨z, 1, none⟩ (.int .i64 pr)) ∧ Bx3 (W3.setCell ⟨z, 1, none⟩ (.int .i64 pr)) z (.int .i64 cd) (.int .i64 pr) (.string ti)) := ⟨B5.out.setCell (p := ⟨z, 1, none⟩) ZL.out _, X5.out.one _⟩
                  obtain ⟨y0, y1, y2, yf, _⟩ := X5.out
                  go_wp2_with fail
                  have PQ0 := PQ1.out
                  try clear hW3 hz
                  clear PQ1 B5 X5 I5 y0 y1 y2 yf c1 hm1 hm2 hmw hm0 hm3 hm4 hm5
                  have BQ : Hid (Below w4.heap.size w4 (W3.setCell ⟨z, 1, none⟩ (.int .i64 pr)) ∧ Bx3 (W3.setCell ⟨z, 1, none⟩ (.int .i64 pr)) z (.int .i64 cd) (.int .i64 (pr)) (.string ti)) := XBQ
                  obtain ⟨wq, hwq⟩ : ∃ wq, (W3.setCell ⟨z, 1, none⟩ (.int .i64 pr)) = wq := ⟨_, rfl⟩
                  rw [hwq] at BQ
                  rw [hwq]
                  clear hwq XBQ
                  have PQ : Hid (wq.ownsRow V.heap.size 3 1 (.slice (some ⟨g, 0, none⟩) (j + 1) cp) (j + 1) ((p.take (j + 1)).map (Value.int .i64))) := PQ0 wq BQ.out.1
                  clear PQ0
                  refine wp_region_noPanic ?_
                  refine wp_region_held_drew (S := S3b z cd (pr) ti) (by kernel_rfl) (by exact ⟨BQ.out.2.c0, BQ.out.2.c1, BQ.out.2.c2⟩) (fun hS => ?_)
                  obtain ⟨WD, hWD⟩ : ∃ W, wq.drew = W := ⟨_, rfl⟩
                  have D0 : Hid (Below wq.heap.size wq WD) := by unfold Hid; rw [← hWD]; exact (Below.refl _ _).drew
                  rw [hWD] at hS ⊢
                  clear hWD
                  have BD : Hid (Below w4.heap.size w4 WD) := BQ.out.1.trans (D0.out.mono BQ.out.1.size)
                  have XD := Lib.hid (BQ.out.2.keep D0.out)
                  have PD := Lib.hid (own_keep PQ.out D0.out)
                  have LQ : Hid ((p.take (j + 1)).length = j + 1) := by unfold Hid; rw [List.length_take, HML.out]; omega
                  have CL : Hid (∀ W : World, W.ownsRow V.heap.size 3 1 (.slice (some ⟨g, 0, none⟩) (j + 1) cp) (j + 1) ((p.take (j + 1)).map (Value.int .i64)) → Calls Tryz.prog 16 #[.slice (some ⟨g, 0, none⟩) (j + 1) cp] W fun e w' => ∃ v', e = .returned v' ∧ w'.ownsRow W.heap.size 3 1 v' (j + 1) ((p.take (j + 1)).map (Value.int .i64)) ∧ Below W.heap.size W w') := fun W h => by
                    have hc := clone_c (.slice (some ⟨g, 0, none⟩) (j + 1) cp) V.heap.size (p.take (j + 1)) W (by rw [LQ.out]; exact h) (by rw [LQ.out]; omega)
                    rw [LQ.out] at hc
                    exact hc
                  clear BQ PQ D0
                  refine wpAnyH_take (i := 0) (v := ?v0z41) rfl (by kernel_rfl) (by kernel_rfl) (by kernel_rfl) (fun _ _ _ h => h) (Or.inl ⟨by rfl, ?hy0z41⟩) (by assumption) ?rest0z41
                  case hy0z41 =>
                    intro w hSw
                    dsimp only [S3b] at hSw
                    go_simp
                    try with_reducible rfl
                  simp only [Act.put, List.getElem_toArray, List.getElem_cons_succ, List.getElem_cons_zero, List.setIfInBounds_toArray, List.set_cons_zero, List.set_cons_succ]
                  refine wpAnyH_take (i := 2) (v := ?v2z42) rfl (by kernel_rfl) (by kernel_rfl) (by kernel_rfl) (fun _ _ _ h => h) (Or.inl ⟨by rfl, ?hy2z42⟩) (by assumption) ?rest2z42
                  case hy2z42 =>
                    intro w hSw
                    dsimp only [S3b] at hSw
                    go_simp
                    try with_reducible rfl
                  simp only [Act.put, List.getElem_toArray, List.getElem_cons_succ, List.getElem_cons_zero, List.setIfInBounds_toArray, List.set_cons_zero, List.set_cons_succ]
                  refine wpAnyH_take (i := 3) (v := ?v3z43) rfl (by kernel_rfl) (by kernel_rfl) (by kernel_rfl) (fun _ _ _ h => h) (Or.inl ⟨by rfl, ?hy3z43⟩) (by assumption) ?rest3z43
                  case hy3z43 =>
                    intro w hSw
                    dsimp only [S3b] at hSw
                    go_simp
                    try with_reducible rfl
                  simp only [Act.put, List.getElem_toArray, List.getElem_cons_succ, List.getElem_cons_zero, List.setIfInBounds_toArray, List.set_cons_zero, List.set_cons_succ]
                  refine wpAnyH_ready (rs := [1, 4]) (by kernel_rfl) (by simp) ?_
                  refine AllReadyH.cons rfl (fun K hK => ?_) (AllReadyH.cons rfl (fun K hK => ?_) AllReadyH.nil)
                  · go_simp
                    refine (CL.out _ PD.out).mono ?_
                    rintro e wc ⟨v6, rfl, hown, hBc⟩
                    try go_simp
                    have XX := Lib.hid (XD.out.keep hBc)
                    have hT : S3b z cd (pr) ti wc := ⟨XX.out.c0, XX.out.c1, XX.out.c2⟩
                    refine hK _ _ hT (fun _ => ?_)
                    clear hK K hT
                    try simp only [Act.put, List.setIfInBounds_toArray, List.set_cons_zero, List.set_cons_succ]
                    refine wpAnyH_ready (rs := [4]) (by kernel_rfl) (by simp) ?_
                    refine AllReadyH.cons rfl (fun K hK => ?_) AllReadyH.nil
                    go_simp
                    have XX1 := Lib.hid (XX.out.keep (bel_one wc (.cells #[.int .i64 cd] 3)))
                    clear XX
                    have XX := XX1
                    clear XX1
                    have hT : S3b z cd (pr) ti (wc.alloc (.cells #[.int .i64 cd] 3)) := ⟨XX.out.c0, XX.out.c1, XX.out.c2⟩
                    refine hK _ _ hT (fun _ => ?_)
                    clear hK K hT
                    try simp only [Act.put, List.setIfInBounds_toArray, List.set_cons_zero, List.set_cons_succ]
                    have OWN6 := Lib.hid (hown.alloc (.cells #[.int .i64 cd] 3))
                    have BWX : Hid (Below WD.heap.size WD (wc.alloc (.cells #[.int .i64 cd] 3))) := hBc.alloc hBc.size _
                    have HIT : Hid ((wc.alloc (.cells #[.int .i64 cd] 3)).cell? ⟨wc.heap.size, 0, none⟩ = some (.int .i64 cd)) := by unfold Hid; rw [World.cell?_alloc_at _ _ _ _ rfl]; rfl
                    clear hown hBc hS
                    obtain ⟨bb, hbb⟩ : ∃ bb, WD.heap.size = bb := ⟨_, rfl⟩
                    rw [hbb] at OWN6
                    have ZB : Hid (z < bb ∧ V.heap.size ≤ bb) := by unfold Hid; rw [← hbb]; exact ⟨XD.out.lt, Nat.le_trans I4.out.bel.size BD.out.size⟩
                    have BX : Hid (Below w4.heap.size w4 (wc.alloc (.cells #[.int .i64 cd] 3)) ∧ bb ≤ ((wc.alloc (.cells #[.int .i64 cd] 3))).heap.size) := by unfold Hid; rw [← hbb]; exact ⟨BD.out.trans (BWX.out.mono BD.out.size), BWX.out.size⟩
                    have OX := Lib.hid (own_keep I4.out.own BX.out.1)
                    have hit : ((wc.alloc (.cells #[.int .i64 cd] 3))).cell? ⟨wc.heap.size, 0, none⟩ = some (.int .i64 cd) := HIT.out
                    have hb5 : bb ≤ ((wc.alloc (.cells #[.int .i64 cd] 3))).heap.size := BX.out.2
                    clear hbb XD BD PD CL
                    refine wpAnyH_ready (rs := [5]) (by kernel_rfl) (by simp) ?_
                    refine AllReadyH.cons rfl (fun K hK => ?_) AllReadyH.nil
                    rw [if_pos (by rfl)]
                    refine wp_append_own _ _ _ 39 rfl bb 3 j0 (.int .i64 0) 1 8 Tryz.underlying39 hj hy0 hy1 hy2 rfl (by decide) _ _ _ rfl OWN6.out ⟨wc.heap.size, 0, none⟩ 1 1 [.int .i64 cd] rfl rfl ?c1a ?c2a ?c3a ?c4a hb5 ?_
                    case c1a => exact one_at hit
                    case c2a => intro u hu; simp at hu; subst hu; rfl
                    case c3a => unfold maxLen; omega
                    case c4a => omega
                    intro v7 w7 hown7 hgrow7 _
                    have NZ : some z ≠ v6.ownBlock := fun e => by have := (OWN6.out.lt z e.symm).1; have := ZB.out.1; omega
                    have X7 : Hid (S3b z cd (pr) ti w7) := ⟨hgrow7.cell XX.out.c0 NZ, hgrow7.cell XX.out.c1 NZ, hgrow7.cell XX.out.c2 NZ⟩
                    have O7 : Hid (w7.ownsRow V.heap.size 28 3 (.slice ao (ndU (outS T k)).length co) (ndU (outS T k)).length (nrow3 (ndU (outS T k)))) := World.ownsRow.kept OX.out hgrow7 (rows_ne OX.out OWN6.out (by decide))
                    have B7 : Hid (Below V.heap.size V w7 ∧ V.heap.size ≤ w7.heap.size) := by
                      have b := (I4.out.bel.trans (BX.out.1.mono I4.out.bel.size)).grown hgrow7 (Nat.le_trans ZB.out.2 BX.out.2) (fun u e => Nat.le_trans ZB.out.2 (OWN6.out.lt u e).1)
                      exact ⟨b, b.size⟩
                    have P7 := Lib.hid (own_mono hown7 ZB.out.2)
                    have hT := X7.out
                    refine hK _ _ hT (fun _ => ?_)
                    clear hK K hT hown7 hgrow7 hit NZ OWN6 XX BX OX BWX HIT hb5 ZB
                    try simp only [Act.put, List.setIfInBounds_toArray, List.set_cons_zero, List.set_cons_succ]
                    refine wpAnyH_take (i := 6) (v := ?v6z44) rfl (by kernel_rfl) (by kernel_rfl) (by kernel_rfl) (fun _ _ _ h => h) (Or.inl ⟨by rfl, ?hy6z44⟩) (by assumption) ?rest6z44
                    case hy6z44 =>
                      intro w hSw
                      dsimp only [S3b] at hSw
                      go_simp
                      try with_reducible rfl
                    simp only [Act.put, List.getElem_toArray, List.getElem_cons_succ, List.getElem_cons_zero, List.setIfInBounds_toArray, List.set_cons_zero, List.set_cons_succ]
                    refine wpAnyH_done (by kernel_rfl) ?_ _
                    refine NoPanic.normal ?_
                    obtain ⟨y0, y1, y2⟩ := X7.out
                    have hd1 : (ndU (outS T k)).length + 1 ≤ maxLen := by unfold maxLen; omega
                    have hd2 : ((ndU (outS T k)).length + 1) * 32 ≤ 140737488355328 := by omega
                    have hd3 : V.heap.size ≤ (w7.alloc (.cells #[.int .i64 cd, .int .i64 (pr), .string ti] 28)).heap.size := by have := B7.out.2; simp; omega
                    have hd4 : ∀ u ∈ [Value.int .i64 cd, .int .i64 (pr), .string ti], u.oneCell' = true := by intro u hu; simp at hu; rcases hu with rfl | rfl | rfl <;> rfl
                    go_wp2_with (at_builtin; refine wpList_append_own _ rfl _ _ 22 rfl V.heap.size 28 i0 (.agg #[.int .i64 0, .int .i64 0, .string ByteArray.empty]) 3 32 Tryz.underlying22 hi hz0 hz1 hz2 rfl (by decide) _ _ _ rfl (O7.out.alloc _) ⟨w7.heap.size, 0, none⟩ 1 1 [.int .i64 cd, .int .i64 (pr), .string ti] rfl rfl (cell_three_new _ _ _ _ _) hd4 hd1 hd2 hd3 ?_)
                    intro v8 w8 hown8 hgrow8 _
                    have NX : Hid (RfI V w8 T (k + 1) v8 v7 (p.take (j + 1) ++ [cd]) (t)) := by
                      refine RfI.next I4.out HE.out HB.out HQ.out (by rw [HML.out]; omega) HCD.out HTI.out HPR.out.symm TW.out ?_ hown8 ?_
                      · exact (B7.out.1.alloc B7.out.2 _).grown hgrow8 hd3 (fun u e => (O7.out.lt u e).1)
                      · exact World.ownsRow.kept (P7.out.alloc _) hgrow8 (rows_ne (P7.out.alloc _) (O7.out.alloc (.cells #[.int .i64 cd, .int .i64 (pr), .string ti] 28)) (by decide))
                    clear hown8 hgrow8 O7 P7 X7 B7 y0 y1 y2 hd1 hd2 hd3 hd4
                    go_wp2
                    go_roundw
                    case rel => exact ⟨k + 1, v8, v7, p.take (j + 1) ++ [cd], t, rfl, rfl, by omega, rfl, by go_num, NX.out⟩
                    case measure => simp [intOf]; omega
                  · go_simp
                    have XX := Lib.hid (XD.out.keep (bel_one WD (.cells #[.int .i64 cd] 3)))
                    have hT : S3b z cd (pr) ti (WD.alloc (.cells #[.int .i64 cd] 3)) := ⟨XX.out.c0, XX.out.c1, XX.out.c2⟩
                    refine hK _ _ hT (fun _ => ?_)
                    clear hK K hT
                    try simp only [Act.put, List.setIfInBounds_toArray, List.set_cons_zero, List.set_cons_succ]
                    refine wpAnyH_ready (rs := [1]) (by kernel_rfl) (by simp) ?_
                    refine AllReadyH.cons rfl (fun K hK => ?_) AllReadyH.nil
                    go_simp
                    refine (CL.out _ (PD.out.alloc _)).mono ?_
                    rintro e wc ⟨v6, rfl, hown, hBc⟩
                    try go_simp
                    have XX1 := Lib.hid (XX.out.keep hBc)
                    clear XX
                    have XX := XX1
                    clear XX1
                    have hT : S3b z cd (pr) ti wc := ⟨XX.out.c0, XX.out.c1, XX.out.c2⟩
                    refine hK _ _ hT (fun _ => ?_)
                    clear hK K hT
                    try simp only [Act.put, List.setIfInBounds_toArray, List.set_cons_zero, List.set_cons_succ]
                    have OWN6 := Lib.hid (own_mono hown (show WD.heap.size ≤ (WD.alloc (.cells #[.int .i64 cd] 3)).heap.size by simp))
                    have BWX : Hid (Below WD.heap.size WD wc) := (bel_one WD (.cells #[.int .i64 cd] 3)).trans (hBc.mono (by simp))
                    have HIT : Hid (wc.cell? ⟨WD.heap.size, 0, none⟩ = some (.int .i64 cd)) := (hBc.cell (p := ⟨WD.heap.size, 0, none⟩) (by simp)).trans (by rw [World.cell?_alloc_at _ _ _ _ rfl]; rfl)
                    clear hown hBc hS
                    obtain ⟨bb, hbb⟩ : ∃ bb, WD.heap.size = bb := ⟨_, rfl⟩
                    rw [hbb] at OWN6
                    have ZB : Hid (z < bb ∧ V.heap.size ≤ bb) := by unfold Hid; rw [← hbb]; exact ⟨XD.out.lt, Nat.le_trans I4.out.bel.size BD.out.size⟩
                    have BX : Hid (Below w4.heap.size w4 wc ∧ bb ≤ (wc).heap.size) := by unfold Hid; rw [← hbb]; exact ⟨BD.out.trans (BWX.out.mono BD.out.size), BWX.out.size⟩
                    have OX := Lib.hid (own_keep I4.out.own BX.out.1)
                    have hit : (wc).cell? ⟨WD.heap.size, 0, none⟩ = some (.int .i64 cd) := HIT.out
                    have hb5 : bb ≤ (wc).heap.size := BX.out.2
                    clear hbb XD BD PD CL
                    refine wpAnyH_ready (rs := [5]) (by kernel_rfl) (by simp) ?_
                    refine AllReadyH.cons rfl (fun K hK => ?_) AllReadyH.nil
                    rw [if_pos (by rfl)]
                    refine wp_append_own _ _ _ 39 rfl bb 3 j0 (.int .i64 0) 1 8 Tryz.underlying39 hj hy0 hy1 hy2 rfl (by decide) _ _ _ rfl OWN6.out ⟨WD.heap.size, 0, none⟩ 1 1 [.int .i64 cd] rfl rfl ?c1a ?c2a ?c3a ?c4a hb5 ?_
                    case c1a => exact one_at hit
                    case c2a => intro u hu; simp at hu; subst hu; rfl
                    case c3a => unfold maxLen; omega
                    case c4a => omega
                    intro v7 w7 hown7 hgrow7 _
                    have NZ : some z ≠ v6.ownBlock := fun e => by have := (OWN6.out.lt z e.symm).1; have := ZB.out.1; omega
                    have X7 : Hid (S3b z cd (pr) ti w7) := ⟨hgrow7.cell XX.out.c0 NZ, hgrow7.cell XX.out.c1 NZ, hgrow7.cell XX.out.c2 NZ⟩
                    have O7 : Hid (w7.ownsRow V.heap.size 28 3 (.slice ao (ndU (outS T k)).length co) (ndU (outS T k)).length (nrow3 (ndU (outS T k)))) := World.ownsRow.kept OX.out hgrow7 (rows_ne OX.out OWN6.out (by decide))
                    have B7 : Hid (Below V.heap.size V w7 ∧ V.heap.size ≤ w7.heap.size) := by
                      have b := (I4.out.bel.trans (BX.out.1.mono I4.out.bel.size)).grown hgrow7 (Nat.le_trans ZB.out.2 BX.out.2) (fun u e => Nat.le_trans ZB.out.2 (OWN6.out.lt u e).1)
                      exact ⟨b, b.size⟩
                    have P7 := Lib.hid (own_mono hown7 ZB.out.2)
                    have hT := X7.out
                    refine hK _ _ hT (fun _ => ?_)
                    clear hK K hT hown7 hgrow7 hit NZ OWN6 XX BX OX BWX HIT hb5 ZB
                    try simp only [Act.put, List.setIfInBounds_toArray, List.set_cons_zero, List.set_cons_succ]
                    refine wpAnyH_take (i := 6) (v := ?v6z45) rfl (by kernel_rfl) (by kernel_rfl) (by kernel_rfl) (fun _ _ _ h => h) (Or.inl ⟨by rfl, ?hy6z45⟩) (by assumption) ?rest6z45
                    case hy6z45 =>
                      intro w hSw
                      dsimp only [S3b] at hSw
                      go_simp
                      try with_reducible rfl
                    simp only [Act.put, List.getElem_toArray, List.getElem_cons_succ, List.getElem_cons_zero, List.setIfInBounds_toArray, List.set_cons_zero, List.set_cons_succ]
                    refine wpAnyH_done (by kernel_rfl) ?_ _
                    refine NoPanic.normal ?_
                    obtain ⟨y0, y1, y2⟩ := X7.out
                    have hd1 : (ndU (outS T k)).length + 1 ≤ maxLen := by unfold maxLen; omega
                    have hd2 : ((ndU (outS T k)).length + 1) * 32 ≤ 140737488355328 := by omega
                    have hd3 : V.heap.size ≤ (w7.alloc (.cells #[.int .i64 cd, .int .i64 (pr), .string ti] 28)).heap.size := by have := B7.out.2; simp; omega
                    have hd4 : ∀ u ∈ [Value.int .i64 cd, .int .i64 (pr), .string ti], u.oneCell' = true := by intro u hu; simp at hu; rcases hu with rfl | rfl | rfl <;> rfl
                    go_wp2_with (at_builtin; refine wpList_append_own _ rfl _ _ 22 rfl V.heap.size 28 i0 (.agg #[.int .i64 0, .int .i64 0, .string ByteArray.empty]) 3 32 Tryz.underlying22 hi hz0 hz1 hz2 rfl (by decide) _ _ _ rfl (O7.out.alloc _) ⟨w7.heap.size, 0, none⟩ 1 1 [.int .i64 cd, .int .i64 (pr), .string ti] rfl rfl (cell_three_new _ _ _ _ _) hd4 hd1 hd2 hd3 ?_)
                    intro v8 w8 hown8 hgrow8 _
                    have NX : Hid (RfI V w8 T (k + 1) v8 v7 (p.take (j + 1) ++ [cd]) (t)) := by
                      refine RfI.next I4.out HE.out HB.out HQ.out (by rw [HML.out]; omega) HCD.out HTI.out HPR.out.symm TW.out ?_ hown8 ?_
                      · exact (B7.out.1.alloc B7.out.2 _).grown hgrow8 hd3 (fun u e => (O7.out.lt u e).1)
                      · exact World.ownsRow.kept (P7.out.alloc _) hgrow8 (rows_ne (P7.out.alloc _) (O7.out.alloc (.cells #[.int .i64 cd, .int .i64 (pr), .string ti] 28)) (by decide))
                    clear hown8 hgrow8 O7 P7 X7 B7 y0 y1 y2 hd1 hd2 hd3 hd4
                    go_wp2
                    go_roundw
                    case rel => exact ⟨k + 1, v8, v7, p.take (j + 1) ++ [cd], t, rfl, rfl, by omega, rfl, by go_num, NX.out⟩
                    case measure => simp [intOf]; omega
          · have hqm' : (m : Int) < (q : Int) := by omega
            have hqmb : decide ((m : Int) < (q : Int)) = true := decide_eq_true hqm'
            have ES : Hid (eSc T = ((k + 1 : Nat) : Int) ∧ eSc T ≠ 0) := by
              have h1 : scE T k = ((k + 1 : Nat) : Int) := by
                unfold scE; rw [if_neg HE.out, if_pos (.inr (by rw [← hS.out.pl, HML.out]; unfold lvN; rw [HQ.out]; omega))]; rfl
              have h2 : eSc T = scE T k := by unfold eSc; rw [HN.out]; exact fe_at (by omega) (fe_all hS.out.z) (by rw [h1]; omega)
              exact ⟨h2.trans h1, by rw [h2, h1]; omega⟩
            clear hqm
            go_wp2_with fail
            refine HND2.out.mono ?_
            rintro e w2 ⟨rfl, b2⟩
            have RR : Hid (RdP T w (.returned (.tuple #[.slice none 0 0, .int .i64 ((k : Int) + 1), .int .i64 10])) (w2.alloc (.cells #[.int .i64 cd, .int .i64 0, .string ti] 28))) := by
              refine ⟨BW.out.trans ((b2.mono BW.out.size).trans ((bel_one _ _).mono (Nat.le_trans BW.out.size b2.size))), .inr (.inl ⟨hTl.out, ES.out.2, ?_⟩)⟩
              rw [ES.out.1]; rfl
            clear b2 hS RO
            go_wp2
            go_ret3
            exact RR.out
        · have hb' : lnB (pce T k) = false := by simpa using hb
          have ES : Hid (eSc T = ((k + 1 : Nat) : Int) ∧ eSc T ≠ 0) := by
            have h1 : scE T k = ((k + 1 : Nat) : Int) := by
              unfold scE; rw [if_neg HE.out, if_pos (.inl hb')]; rfl
            have h2 : eSc T = scE T k := by unfold eSc; rw [HN.out]; exact fe_at (by omega) (fe_all hS.out.z) (by rw [h1]; omega)
            exact ⟨h2.trans h1, by rw [h2, h1]; omega⟩
          have HND2 : Hid (Calls Tryz.prog 14 #[.string d] w4 fun e w' => e = .returned (.tuple #[.agg #[.int .i64 0, .int .i64 0, .string ⟨#[]⟩], .int .i64 0, .bool false]) ∧ Below w4.heap.size w4 w') := by
            refine HND.out.mono ?_
            rintro e w' ⟨hbel, ⟨h, _⟩ | ⟨_, h⟩⟩
            · rw [hb'] at h; cases h
            · exact ⟨h, hbel⟩
          clear hb hb' HND
          go_wp2_with fail
          refine HND2.out.mono ?_
          rintro e w2 ⟨rfl, b2⟩
          have RR : Hid (RdP T w (.returned (.tuple #[.slice none 0 0, .int .i64 ((k : Int) + 1), .int .i64 10])) (w2.alloc (.cells #[.int .i64 0, .int .i64 0, .string ⟨#[]⟩] 28))) := by
            refine ⟨BW.out.trans ((b2.mono BW.out.size).trans ((bel_one _ _).mono (Nat.le_trans BW.out.size b2.size))), .inr (.inl ⟨hTl.out, ES.out.2, ?_⟩)⟩
            rw [ES.out.1]; rfl
          clear b2 hS RO
          go_wp2
          go_ret3
          exact RR.out
    · have hkn : k = n + 1 := by omega
      subst hkn
      have hlt' : ¬ (((n + 1 : Nat) : Int)) < (n : Int) + 1 := by omega
      have ES : Hid (eSc T = 0) := by unfold Hid eSc; rw [HN.out]; exact fe_all hS.out.z
      have ER : Hid (eRp T = t) := by unfold Hid eRp lnS; rw [HN.out]; exact hS.out.tw.symm
      have EP := Lib.hid (eRp_pos T)
      have hol2 : (ndU (outS T (n + 1))).length ≤ 60001 := by omega
      obtain ⟨ao, co, rfl, hrd⟩ := RO.out
      have HLS : Hid (lnS T = outS T (n + 1)) := by unfold Hid lnS; rw [HN.out]
      have HRD := Lib.hid hrd
      by_cases ht : t = 0
      · subst ht
        have SC := Lib.hid (sorted_c ao co (ndU (outS T (n + 1))) w4 hrd hol2)
        have HG := Lib.hid (lnS_good ES.out)
        have E0 : Hid (fe (rpE (lnS T)) (lnS T).length = 0) := ER.out
        clear hrd RO hS ho hp hol hol2 hlt hk
        go_wp2_with fail
        refine SC.out.mono ?_
        rintro e w5 ⟨v5, K, rfl, hb5, hown5, hperm, hasc⟩
        have hkl : K.length ≤ 60001 := by rw [hperm.length_eq, ndU_len]; have := outS_len T (n + 1); omega
        obtain ⟨a5, c5, rfl, hrd5⟩ := rdN_own3 hown5 (by omega)
        have HK : Hid (IsK T K) := by
          have hp2 : K.Perm (ndU (lnS T)) := by rw [HLS.out]; exact hperm
          refine ⟨hp2, ?_⟩
          have hne := hp2.symm.pairwise (nd_nodup HG.out E0.out) (fun {a b} h => fun e => h e.symm)
          unfold Inc
          exact hasc.imp₂ (fun a b h1 h2 => by omega) hne
        have HF := Lib.hid (ndU_fits HG.out (out_ti hTl.out) HK.out.1)
        have B5 : Hid (Below w.heap.size w w5) := BW.out.trans (hb5.mono BW.out.size)
        have HC := Lib.hid (rCheckFrame_c a5 c5 K w5 hrd5 HF.out)
        have HR5 := Lib.hid hrd5
        clear hb5 hown5 hperm hasc hrd5 SC
        by_cases h4 : frS K = 0
        · have H4 := Lib.hid h4
          rw [h4] at HC
          clear h4
          go_wp2_with fail
          refine HC.out.mono ?_
          rintro e w6 ⟨rfl, b6⟩
          have RR : Hid (RdP T w (.returned (.tuple #[.slice a5 K.length c5, .int .i64 0, .int .i64 0])) w6) :=
            ⟨B5.out.trans (b6.mono B5.out.size), .inr (.inr (.inr ⟨hTl.out, ES.out, ER.out, K, HK.out, HF.out, .inr ⟨H4.out, a5, c5, rfl, HR5.out.below b6⟩⟩))⟩
          clear b6
          go_wp2
          go_ret3
          exact RR.out
        · have H4 := Lib.hid h4
          obtain ⟨f, hf⟩ : ∃ f, frS K = f := ⟨_, rfl⟩
          have HFF := Lib.hid hf
          have h4' : (f == 0) = false := by rw [beq_eq_false_iff_ne, ← hf]; exact h4
          have h4'' : (f != 0) = true := by rw [bne, h4']; rfl
          rw [hf] at HC
          clear h4 hf
          go_wp2_with fail
          refine HC.out.mono ?_
          rintro e w6 ⟨rfl, b6⟩
          have RR : Hid (RdP T w (.returned (.tuple #[.slice none 0 0, .int .i64 0, .int .i64 f])) w6) :=
            ⟨B5.out.trans (b6.mono B5.out.size), .inr (.inr (.inr ⟨hTl.out, ES.out, ER.out, K, HK.out, HF.out, .inl ⟨H4.out, by rw [HFF.out]⟩⟩))⟩
          clear b6
          go_wp2
          go_ret3
          exact RR.out
      · have ht0 : 0 < t := by have := EP.out; rw [ER.out] at this; omega
        have RR : Hid (RdP T w (.returned (.tuple #[.slice none 0 0, .int .i64 t, .int .i64 6])) w4) := ⟨BW.out, .inr (.inr (.inl ⟨hTl.out, ES.out, by rw [ER.out]; exact ht, by rw [ER.out]⟩))⟩
        clear hrd RO hS ho hp hol hol2 hlt hk ht
        go_wp2
        go_ret3
        exact RR.out
end Go.Proofs.YtheekfijbbgbkaaGreatDoor
