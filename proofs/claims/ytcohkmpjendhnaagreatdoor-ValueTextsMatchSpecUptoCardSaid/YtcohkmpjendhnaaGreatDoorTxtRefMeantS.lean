/-
  What Read of the reference makes of a text: sets.
-/
import Derived.Test.YtcohkmpjendhnaaGreatDoorTxtRefMeant
namespace Go.Proofs.YtcohkmpjendhnaaGreatDoor
open Go.RowKit

theorem ownsRow_bel {w w' : World} {base : Nat} {e : TypeId} {size : Nat} {v : Value} {n : Nat} {xs : List Value} (h : w.ownsRow base e size v n xs) (hb : Below w.heap.size w w') : w'.ownsRow base e size v n xs := by
  obtain ⟨hl, h | ⟨g, cap, cur, rfl, hg0, hg, hnc, hm, hs, ht⟩⟩ := h
  · exact ⟨hl, .inl h⟩
  · refine ⟨hl, .inr ⟨g, cap, cur, rfl, hg0, ?_, hnc, hm, hs, ht⟩⟩
    rw [hb.block g (lt_of_block hg)]; exact hg
theorem infoI_s : (Tryz.prog.info? 3).map (fun i => (i.zero, i.size, i.bytes)) = some (some (.int .i64 0), 1, 8) := by kernel_rfl

/-- The numbers of the first k pieces are gathered; b holds the pieces. -/
structure SetN (w : World) (b : Nat) (ps : List ByteArray) (k : Nat) (v : Value) (wr : World) : Prop where
  c0 : wr.cell? ⟨w.heap.size + 1, 0, none⟩ = some (.int .i64 5)
  c1 : wr.cell? ⟨w.heap.size + 1, 1, none⟩ = some (.int .i64 0)
  c2 : wr.cell? ⟨w.heap.size + 1, 2, none⟩ = some (.string ⟨#[]⟩)
  c3 : wr.cell? ⟨w.heap.size + 1, 3, none⟩ = some v
  fz : ∀ j, wr.frozen? ⟨w.heap.size + 1, j, none⟩ = false
  src : ∀ j, j < ps.length → wr.cell? ⟨b, j, none⟩ = some (.string (ps.getD j ⟨#[]⟩))
  row : wr.ownsRow (b + 1) 3 1 v (keepB (ps.take k)).length ((keepB (ps.take k)).map (Value.int .i64))
  bel : Below (w.heap.size + 1) (w.alloc (.cells #[.int .i64 0, .int .i64 0, .string ⟨#[]⟩, .slice none 0 0] 24)) wr
  lo : w.heap.size + 1 < b
  hi : b < wr.heap.size
theorem SetN.start (w w1 : World) (ps : List ByteArray)
    (hb : Below ((w.alloc (.cells #[.int .i64 0, .int .i64 0, .string ⟨#[]⟩, .slice none 0 0] 24)).alloc (.cells #[.int .i64 5, .int .i64 0, .string ⟨#[]⟩, .slice none 0 0] 24)).heap.size ((w.alloc (.cells #[.int .i64 0, .int .i64 0, .string ⟨#[]⟩, .slice none 0 0] 24)).alloc (.cells #[.int .i64 5, .int .i64 0, .string ⟨#[]⟩, .slice none 0 0] 24)) w1) :
    SetN w w1.heap.size ps 0 (.slice none 0 0) (w1.alloc (.cells (ps.map Value.string).toArray 9)) := by
  have hz := hb.size
  simp at hz
  have hA : Below w1.heap.size w1 (w1.alloc (.cells (ps.map Value.string).toArray 9)) := (Below.refl _ _).alloc (Nat.le_refl _) _
  have hC := hb.trans (hA.mono (by simp; omega))
  have hl : w.heap.size + 1 < ((w.alloc (.cells #[.int .i64 0, .int .i64 0, .string ⟨#[]⟩, .slice none 0 0] 24)).alloc (.cells #[.int .i64 5, .int .i64 0, .string ⟨#[]⟩, .slice none 0 0] 24)).heap.size := by simp
  have cc := fun (o : Nat) => hC.cell (p := ⟨w.heap.size + 1, o, none⟩) hl
  have ff := fun (o : Nat) => hC.frozen (p := ⟨w.heap.size + 1, o, none⟩) hl
  refine ⟨by rw [cc]; simp [go_sem], by rw [cc]; simp [go_sem], by rw [cc]; simp [go_sem], by rw [cc]; simp [go_sem], fun j => by rw [ff]; simp [go_sem], fun j hj => ?_, World.ownsRow_nil _ _ _ _, ?_, by omega, by simp⟩
  · rw [World.cell?_alloc_new]; simp [hj, List.getD_eq_getElem?_getD]
  · exact ((Below.refl _ _).alloc (by simp) _).trans (hC.mono (by simp))
theorem SetN.keep {w wr w1 : World} {b k : Nat} {ps : List ByteArray} {v : Value} (h : SetN w b ps k v wr) (hb : Below wr.heap.size wr w1) : SetN w b ps k v w1 := by
  have hl : w.heap.size + 1 < wr.heap.size := Nat.lt_trans h.lo h.hi
  have cc := fun (o : Nat) => hb.cell (p := ⟨w.heap.size + 1, o, none⟩) hl
  have ff := fun (o : Nat) => hb.frozen (p := ⟨w.heap.size + 1, o, none⟩) hl
  exact ⟨by rw [cc]; exact h.c0, by rw [cc]; exact h.c1, by rw [cc]; exact h.c2, by rw [cc]; exact h.c3, fun j => by rw [ff]; exact h.fz j, fun j hj => by rw [hb.cell (p := ⟨b, j, none⟩) h.hi]; exact h.src j hj, ownsRow_bel h.row hb, h.bel.trans (hb.mono (Nat.le_of_lt hl)), h.lo, Nat.lt_of_lt_of_le h.hi hb.size⟩
theorem SetN.skip {w wr : World} {b k : Nat} {ps : List ByteArray} {v : Value} (h : SetN w b ps k v wr) (hk : k < ps.length) (h0 : (ps.getD k ⟨#[]⟩).size = 0) : SetN w b ps (k + 1) v wr := by
  have e : keepB (ps.take (k + 1)) = keepB (ps.take k) := by rw [keepB_take ps k hk, if_pos h0, List.append_nil]
  exact ⟨h.c0, h.c1, h.c2, h.c3, h.fz, h.src, by rw [e]; exact h.row, h.bel, h.lo, h.hi⟩
/-- What is below the row's base stays, as the row grows. -/
theorem SetN.below {w wr w2 : World} {b k : Nat} {ps : List ByteArray} {v : Value} {o : Obj} (h : SetN w b ps k v wr) (hg : (wr.alloc o).grownBy w2 v.ownBlock) : Below (b + 1) wr w2 :=
  ((Below.refl _ _).alloc h.hi o).grown hg (Nat.le_trans h.hi (by simp)) (fun j hj => (h.row.lt j hj).1)
theorem SetN.next {w wr w2 : World} {b k : Nat} {ps : List ByteArray} {v v' : Value} {o : Obj} (h : SetN w b ps k v wr) (hk : k < ps.length) (h0 : (ps.getD k ⟨#[]⟩).size ≠ 0) (x : Int) (hx : x = atoiV (Lib.trimPrefix (ps.getD k ⟨#[]⟩).data.toList [35]))
    (hown : w2.ownsRow (b + 1) 3 1 v' ((keepB (ps.take k)).length + 1) ((keepB (ps.take k)).map (Value.int .i64) ++ [.int .i64 x])) (hg : (wr.alloc o).grownBy w2 v.ownBlock) :
    SetN w b ps (k + 1) v' (w2.setCell ⟨w.heap.size + 1, 3, none⟩ v') := by
  have e : keepB (ps.take (k + 1)) = keepB (ps.take k) ++ [x] := by rw [keepB_take ps k hk, if_neg h0, hx]
  have hb := h.below hg
  have hl : w.heap.size + 1 < b + 1 := Nat.lt_succ_of_lt h.lo
  have cc := fun (o : Nat) => hb.cell (p := ⟨w.heap.size + 1, o, none⟩) hl
  have ff := fun (o : Nat) => hb.frozen (p := ⟨w.heap.size + 1, o, none⟩) hl
  have lo := h.lo
  have nn : ∀ o : Nat, o ≠ 3 → (⟨w.heap.size + 1, 3, none⟩ : Addr) ≠ ⟨w.heap.size + 1, o, none⟩ := by
    intro o ho q; injection q with _ q2; exact ho (by omega)
  refine ⟨?_, ?_, ?_, ?_, fun j => ?_, fun j hj => ?_, ?_, ?_, h.lo, ?_⟩
  · rw [World.cell?_setCell_other _ _ _ _ (nn 0 (by decide)), cc]; exact h.c0
  · rw [World.cell?_setCell_other _ _ _ _ (nn 1 (by decide)), cc]; exact h.c1
  · rw [World.cell?_setCell_other _ _ _ _ (nn 2 (by decide)), cc]; exact h.c2
  · exact World.cell?_setCell_same' _ _ _ (by rw [cc, h.c3]; rfl)
  · rw [World.frozen?_setCell, ff]; exact h.fz j
  · rw [World.cell?_setCell_other _ _ _ _ (by intro q; injection q with q1; omega), hb.cell (p := ⟨b, j, none⟩) (Nat.lt_succ_self _)]; exact h.src j hj
  · rw [e, List.length_append, List.map_append]; exact ownsRow_setCell_below hown (by show w.heap.size + 1 < b + 1; exact hl) _
  · exact (h.bel.trans (hb.mono (by omega))).setCell (p := ⟨w.heap.size + 1, 3, none⟩) (Nat.le_refl _) _
  · have := hb.size; have := h.hi; simp; omega
theorem keepB_len (ps : List ByteArray) (k : Nat) : (keepB (ps.take k)).length ≤ ps.length := by
  unfold keepB
  rw [List.length_map]
  refine Nat.le_trans (List.length_filter_le _ _) ?_
  rw [List.length_take]; omega
theorem SetN.isL {w wr : World} {b k : Nat} {ps : List ByteArray} {v : Value} (h : SetN w b ps k v wr) (hl : ps.length ≤ 2000001) :
    ∃ a m c, v = .slice a m c ∧ IsL wr v (keepB (ps.take k)) ∧ (m = 0 ∨ ∃ g, a = some ⟨g, 0, none⟩ ∧ w.heap.size < g) := by
  have hk := keepB_len ps k
  have lo := h.lo
  obtain ⟨hlen, ⟨rfl, h0⟩ | ⟨g, cap, cur, rfl, hb, hg, hnc, hm, hs, ht⟩⟩ := h.row
  · exact ⟨_, _, _, rfl, .inl ⟨none, 0, rfl, List.length_eq_zero_iff.1 h0⟩, .inl rfl⟩
  · refine ⟨_, _, _, rfl, ?_, .inr ⟨g, rfl, by omega⟩⟩
    by_cases h0 : (keepB (ps.take k)).length = 0
    · exact .inl ⟨_, cap, by rw [h0], List.length_eq_zero_iff.1 h0⟩
    · refine .inr ⟨g, 0, cap, rfl, by omega, by omega, lt_of_block hg, fun j hj => ?_⟩
      generalize keepB (ps.take k) = l at hj ht
      have hj2 : cur[j]? = some (.int .i64 (l.getD j 0)) := by
        have e1 : (cur.toList.take (l.length * 1))[j]? = (l.map (Value.int .i64))[j]? := by rw [ht]
        rw [List.getElem?_take, if_pos (by omega)] at e1
        rw [← Array.getElem?_toList, e1, List.getElem?_map]
        simp [hj]
      simp [World.cell?, hg, hj2]

set_option maxRecDepth 100000 in
set_option maxHeartbeats 8000000 in
theorem rmeant_set (t : ByteArray) (r : List UInt8) (w : World) (hE : Env w) (hs : t.size ≤ 2000000) (ht : t.data.toList = 123 :: r) :
    Calls Tryz.prog 21 #[.string t] w (MeantPost t w) := by
  have hR := Lib.hid (fun n w => reason_c n w)
  have hr : ∀ i, 1 ≤ i → i ≤ 3 → t.data.toList ≠ reasonT i := by
    intro i h1 h2 e
    have hi : i = 1 ∨ i = 2 ∨ i = 3 := by omega
    rw [ht] at e
    rcases hi with rfl | rfl | rfl <;> (injection e with e1; exact absurd e1 (by decide))
  have n1 : (t.toList == (bs (reasonT 1)).toList) = false := beq_bs (hr 1 (by omega) (by omega))
  have n2 : (t.toList == (bs (reasonT 2)).toList) = false := beq_bs (hr 2 (by omega) (by omega))
  have n3 : (t.toList == (bs (reasonT 3)).toList) = false := beq_bs (hr 3 (by omega) (by omega))
  have q2 : (t.toList == [45]) = false := beq_ne (by rw [ht]; intro e; injection e with e1; exact absurd e1 (by decide))
  have q4 : (t.toList == [116, 114, 117, 101]) = false := beq_ne (by rw [ht]; intro e; injection e with e1; exact absurd e1 (by decide))
  have q5 : (t.toList == [102, 97, 108, 115, 101]) = false := beq_ne (by rw [ht]; intro e; injection e with e1; exact absurd e1 (by decide))
  have hp : 0 < t.size := by rw [Lib.size_eq, ht]; simp
  have c0 : t[0] = 123 := by
    obtain ⟨r', hr'⟩ := list_cons hp
    rw [ht] at hr'; injection hr' with e; exact e.symm
  have d1 : ((t[0].toNat : Int) == 39) = false := by rw [c0]; rfl
  have hpi : (0 : Int) < t.size := by omega
  have p35 := Lib.hid (pre_c t 35 false (by rw [ht]; rfl))
  have p123 := Lib.hid (pre_c t 123 true (by rw [ht]; rfl))
  have hM : Hid (Means t.data.toList 5 0 ⟨#[]⟩ (setR t.data.toList)) := by rw [ht]; exact means_setR r
  have hT := Lib.hid (fun w => trimB_c t w hp hs)
  obtain ⟨u, hu⟩ : ∃ u, u = bs (Lib.trimS t.data.toList [123, 125]) := ⟨_, rfl⟩
  have us : u.size ≤ 2000000 := by
    have := trimS_le t.data.toList [123, 125]
    rw [hu, bs_size]; rw [← Lib.size_eq] at this; omega
  have hS := Lib.hid (fun w hE => split_c u w hE us)
  have eS : Hid (setR t.data.toList = keepB (piecesB u)) := by unfold Hid; rw [hu]; exact setR_pieces _
  have hsm := Lib.hid (piecesB_small u 2000000 us)
  have hpl := piecesB_len u us
  rw [← hu] at hT
  have HE := Lib.hid hE
  have HB0 := Lib.hid (box_bel w (.cells #[.int .i64 0, .int .i64 0, .string ⟨#[]⟩, .slice none 0 0] 24))
  generalize piecesB u = ps at hS eS hsm hpl
  clear hr hE ht hu c0 us
  go_enter Tryz.func21, Tryz.ntmps21
  go_wp2
  go_loop [3] (fun i => i = .int .i64 1 ∨ i = .int .i64 2 ∨ i = .int .i64 3 ∨ i = .int .i64 4) (fun i => 4 - (intOf i).toNat)
  case atStart => exact .inl rfl
  case round =>
    rcases hrel with rfl | rfl | rfl | rfl
    · go_wp2_with fail
      refine (hR.out _ _).mono ?_
      rintro e w1 ⟨rfl, rfl⟩
      go_wp2
      go_round
      case rel => exact .inr (.inl rfl)
      case measure => simp [intOf]
    · go_wp2_with fail
      refine (hR.out _ _).mono ?_
      rintro e w1 ⟨rfl, rfl⟩
      go_wp2
      go_round
      case rel => exact .inr (.inr (.inl rfl))
      case measure => simp [intOf]
    · go_wp2_with fail
      refine (hR.out _ _).mono ?_
      rintro e w1 ⟨rfl, rfl⟩
      go_wp2
      go_round
      case rel => exact .inr (.inr (.inr rfl))
      case measure => simp [intOf]
    · clear n1 n2 n3 hR
      rcases (by omega : 1 < t.size ∨ ¬ 1 < t.size) with z1 | z1
      · have h1i : (1 : Int) < t.size := by omega
        clear z1
        go_wp2_with fail
        refine (p35.out _).mono ?_
        rintro e w1 ⟨rfl, rfl⟩
        go_wp2_with fail
        refine (p123.out _).mono ?_
        rintro e w1 ⟨rfl, rfl⟩
        go_wp2_with fail
        refine (hT.out _).mono ?_
        rintro e w1 ⟨rfl, hB⟩
        have HE1 := Lib.hid ((HE.out.below HB0.out).below (((Below.refl _ _).alloc (Nat.le_refl _) _).trans (hB.mono (by simp))))
        have hS0 := Lib.hid (SetN.start w w1 ps hB)
        clear hB
        go_wp2_with fail
        refine (hS.out _ HE1.out).mono ?_
        rintro e w2 ⟨rfl, rfl⟩
        go_wp2_with fail
        clear HE1 hS hT p35 p123
        generalize w1.alloc (.cells (ps.map Value.string).toArray 9) = wS at hS0
        generalize w1.heap.size = b at hS0
        go_loopw [8, 9, 10, 74] (fun _ _ _ i wr => ∃ (k : Nat) (v : Value), k ≤ ps.length ∧ i = .int .i64 k ∧ Hid (SetN w b ps k v wr)) (fun _ _ _ i _ => ps.length - (intOf i).toNat)
        case atStart => exact ⟨0, _, Nat.zero_le _, rfl, hS0.out⟩
        case round =>
          obtain ⟨k, v, hk, rfl, hR⟩ := hrel
          by_cases hlt : k < ps.length
          · have c1 := hR.out.src k hlt
            have hlt' : (k : Int) < (ps.length : Int) := by omega
            obtain ⟨x, hx⟩ : ∃ x, x = ps.getD k ⟨#[]⟩ := ⟨_, rfl⟩
            have xs : x.size ≤ 2000000 := hsm.out x (by rw [hx]; simp [List.getD_eq_getElem?_getD, hlt])
            rw [← hx] at c1
            have HX := Lib.hid hx; clear hx hS0
            by_cases x0 : x.size = 0
            · have hK := Lib.hid (hR.out.skip hlt (by rw [← HX.out]; exact x0))
              obtain rfl := empty_of x0
              clear x0 xs hR
              go_wp2
              go_roundw
              case rel => exact ⟨k + 1, v, by omega, by go_num, hK.out⟩
              case measure => simp [intOf]; omega
            · have xb : (x.toList == []) = false := by
                have := (text_some x0).1
                cases e : x.toList with
                | nil => exact absurd e this
                | cons a b => rfl
              have xb' : (x.toList != []) = true := by simp [bne, xb]
              have X0 := Lib.hid x0; clear x0
              go_wp2_with fail
              refine (trimPrefix_c x _).mono ?_
              rintro e w3 ⟨rfl, rfl⟩
              obtain ⟨y, hy⟩ : ∃ y, y = bs (Lib.trimPrefix x.data.toList [35]) := ⟨_, rfl⟩
              have yl : y.data.toList = Lib.trimPrefix x.data.toList [35] := by rw [hy, bs_list]
              have ys : y.size ≤ 2000000 := by
                rw [Lib.size_eq, yl]; have := Lib.trimPrefix_le x.data.toList [35]; rw [← Lib.size_eq] at this; omega
              have hY : Hid (atoiV y.data.toList = atoiV (Lib.trimPrefix (ps.getD k ⟨#[]⟩).data.toList [35])) := by unfold Hid; rw [← HX.out, yl]
              rw [← hy]
              clear hy yl
              go_wp2_with fail
              refine (ratoi_c y _ (HE.out.below (HB0.out.trans (hR.out.bel.mono (Nat.le_succ _)))) (by omega)).mono ?_
              rintro e w3 ⟨x1, rfl, _, hb⟩
              have hR2 := Lib.hid (hR.out.keep hb)
              clear hb hR c1
              have hO := Lib.hid hR2.out.row
              have cc := hR2.out.c3
              have ff := hR2.out.fz 3
              have hkl := keepB_len ps k
              have hsz : Hid (b + 1 ≤ w3.heap.size) := hR2.out.hi
              generalize atoiV y.data.toList = z at hY
              obtain ⟨i0, hi, hz0, hz1, hz2⟩ := info_parts infoI_s
              go_wp2_with (at_builtin; refine wpList_append_own _ rfl _ _ 22 rfl (b + 1) 3 i0 (.int .i64 0) 1 8 Tryz.underlying22 hi hz0 hz1 hz2 rfl (by decide) _ _ _ rfl (ownsRow_bel hO.out ((Below.refl _ _).alloc (Nat.le_refl _) _)) ⟨w3.heap.size, 0, none⟩ 1 1 [.int .i64 z] rfl rfl ?c1 ?c2 ?c3 ?c4 ?c5 ?_)
              case c1 =>
                intro j u hj
                match j, hj with
                | 0, hj => simp at hj; subst hj; simp [Addr.add]
              case c2 => intro u hu; simp at hu; subst hu; rfl
              case c3 => unfold maxLen; omega
              case c4 => omega
              case c5 => have := hsz.out; simp; omega
              intro v' w4 hown' hgrow _
              obtain ⟨g', cap', rfl⟩ : ∃ g cap, v' = .slice (some ⟨g, 0, none⟩) ((keepB (ps.take k)).length + 1) cap := by
                obtain ⟨_, h | ⟨g, cap, cur, e, _⟩⟩ := hown'
                · exact absurd h.2 (Nat.succ_ne_zero _)
                · exact ⟨g, cap, e⟩
              have hb4 := hR2.out.below hgrow
              have c4 : w4.cell? ⟨w.heap.size + 1, 3, none⟩ = some v := by rw [hb4.cell (p := ⟨w.heap.size + 1, 3, none⟩) (Nat.lt_succ_of_lt hR2.out.lo)]; exact cc
              have f4 : w4.frozen? ⟨w.heap.size + 1, 3, none⟩ = false := by rw [hb4.frozen (p := ⟨w.heap.size + 1, 3, none⟩) (Nat.lt_succ_of_lt hR2.out.lo)]; exact ff
              have hN := Lib.hid (hR2.out.next hlt (by rw [← HX.out]; exact X0.out) z hY.out hown' hgrow)
              clear hown' hgrow hR2 hO cc ff hb4
              go_wp2
              go_roundw
              case rel => exact ⟨k + 1, _, by omega, by go_num, hN.out⟩
              case measure => simp [intOf]; omega
          · obtain rfl : k = ps.length := by omega
            obtain ⟨a, m, c, rfl, hI, hf⟩ := hR.out.isL hpl
            have HI := Lib.hid hI; clear hI
            have HF := Lib.hid hf; clear hf
            have B0 : Hid (Below (w.alloc (.cells #[.int .i64 0, .int .i64 0, .string ⟨#[]⟩, .slice none 0 0] 24)).heap.size (w.alloc (.cells #[.int .i64 0, .int .i64 0, .string ⟨#[]⟩, .slice none 0 0] 24)) wr) := by
              have := hR.out.bel
              unfold Hid; simpa using this
            obtain ⟨bc, bf⟩ := bcell B0.out
            have g0 := hR.out.c0
            have g1 := hR.out.c1
            have g2 := hR.out.c2
            have g3 := hR.out.c3
            clear hR hS0
            go_wp2
            refine bodyPost_ret (v := .agg #[.int .i64 5, .int .i64 0, .string ⟨#[]⟩, .slice a m c]) (by simp [results, Tryz.results21, go_sem, bc]) rfl ?_
            have hf2 : m = 0 ∨ ∃ b, a = some ⟨b, 0, none⟩ ∧ w.heap.size ≠ b := by
              rcases HF.out with h | ⟨b, h1, h2⟩
              · exact .inl h
              · exact .inr ⟨b, h1, by omega⟩
            have hf3 : m = 0 ∨ ∃ b, a = some ⟨b, 0, none⟩ ∧ w.heap.size ≤ b := by
              rcases HF.out with h | ⟨b, h1, h2⟩
              · exact .inl h
              · exact .inr ⟨b, h1, by omega⟩
            have eK : keepB (ps.take ps.length) = setR t.data.toList := by rw [List.take_length, eS.out]
            refine ⟨5, 0, _, _, setR t.data.toList, rfl, by simp [ByteArray.size], ?_, hM.out, below4 (HB0.out.trans (B0.out.mono (by simp))) (Nat.le_refl _) _ _ _ _, _, _, _, rfl, hf3⟩
            rw [← eK]
            exact (((HI.out.other _ hf2).other _ hf2).other _ hf2).other _ hf2
      · have z1' : decide ((1 : Int) < t.size) = false := by simp; omega
        clear z1
        go_wp2_with fail
        refine (p35.out _).mono ?_
        rintro e w1 ⟨rfl, rfl⟩
        go_wp2_with fail
        refine (p123.out _).mono ?_
        rintro e w1 ⟨rfl, rfl⟩
        go_wp2_with fail
        refine (hT.out _).mono ?_
        rintro e w1 ⟨rfl, hB⟩
        have HE1 := Lib.hid ((HE.out.below HB0.out).below (((Below.refl _ _).alloc (Nat.le_refl _) _).trans (hB.mono (by simp))))
        have hS0 := Lib.hid (SetN.start w w1 ps hB)
        clear hB
        go_wp2_with fail
        refine (hS.out _ HE1.out).mono ?_
        rintro e w2 ⟨rfl, rfl⟩
        go_wp2_with fail
        clear HE1 hS hT p35 p123
        generalize w1.alloc (.cells (ps.map Value.string).toArray 9) = wS at hS0
        generalize w1.heap.size = b at hS0
        go_loopw [8, 9, 10, 74] (fun _ _ _ i wr => ∃ (k : Nat) (v : Value), k ≤ ps.length ∧ i = .int .i64 k ∧ Hid (SetN w b ps k v wr)) (fun _ _ _ i _ => ps.length - (intOf i).toNat)
        case atStart => exact ⟨0, _, Nat.zero_le _, rfl, hS0.out⟩
        case round =>
          obtain ⟨k, v, hk, rfl, hR⟩ := hrel
          by_cases hlt : k < ps.length
          · have c1 := hR.out.src k hlt
            have hlt' : (k : Int) < (ps.length : Int) := by omega
            obtain ⟨x, hx⟩ : ∃ x, x = ps.getD k ⟨#[]⟩ := ⟨_, rfl⟩
            have xs : x.size ≤ 2000000 := hsm.out x (by rw [hx]; simp [List.getD_eq_getElem?_getD, hlt])
            rw [← hx] at c1
            have HX := Lib.hid hx; clear hx hS0
            by_cases x0 : x.size = 0
            · have hK := Lib.hid (hR.out.skip hlt (by rw [← HX.out]; exact x0))
              obtain rfl := empty_of x0
              clear x0 xs hR
              go_wp2
              go_roundw
              case rel => exact ⟨k + 1, v, by omega, by go_num, hK.out⟩
              case measure => simp [intOf]; omega
            · have xb : (x.toList == []) = false := by
                have := (text_some x0).1
                cases e : x.toList with
                | nil => exact absurd e this
                | cons a b => rfl
              have xb' : (x.toList != []) = true := by simp [bne, xb]
              have X0 := Lib.hid x0; clear x0
              go_wp2_with fail
              refine (trimPrefix_c x _).mono ?_
              rintro e w3 ⟨rfl, rfl⟩
              obtain ⟨y, hy⟩ : ∃ y, y = bs (Lib.trimPrefix x.data.toList [35]) := ⟨_, rfl⟩
              have yl : y.data.toList = Lib.trimPrefix x.data.toList [35] := by rw [hy, bs_list]
              have ys : y.size ≤ 2000000 := by
                rw [Lib.size_eq, yl]; have := Lib.trimPrefix_le x.data.toList [35]; rw [← Lib.size_eq] at this; omega
              have hY : Hid (atoiV y.data.toList = atoiV (Lib.trimPrefix (ps.getD k ⟨#[]⟩).data.toList [35])) := by unfold Hid; rw [← HX.out, yl]
              rw [← hy]
              clear hy yl
              go_wp2_with fail
              refine (ratoi_c y _ (HE.out.below (HB0.out.trans (hR.out.bel.mono (Nat.le_succ _)))) (by omega)).mono ?_
              rintro e w3 ⟨x1, rfl, _, hb⟩
              have hR2 := Lib.hid (hR.out.keep hb)
              clear hb hR c1
              have hO := Lib.hid hR2.out.row
              have cc := hR2.out.c3
              have ff := hR2.out.fz 3
              have hkl := keepB_len ps k
              have hsz : Hid (b + 1 ≤ w3.heap.size) := hR2.out.hi
              generalize atoiV y.data.toList = z at hY
              obtain ⟨i0, hi, hz0, hz1, hz2⟩ := info_parts infoI_s
              go_wp2_with (at_builtin; refine wpList_append_own _ rfl _ _ 22 rfl (b + 1) 3 i0 (.int .i64 0) 1 8 Tryz.underlying22 hi hz0 hz1 hz2 rfl (by decide) _ _ _ rfl (ownsRow_bel hO.out ((Below.refl _ _).alloc (Nat.le_refl _) _)) ⟨w3.heap.size, 0, none⟩ 1 1 [.int .i64 z] rfl rfl ?c1 ?c2 ?c3 ?c4 ?c5 ?_)
              case c1 =>
                intro j u hj
                match j, hj with
                | 0, hj => simp at hj; subst hj; simp [Addr.add]
              case c2 => intro u hu; simp at hu; subst hu; rfl
              case c3 => unfold maxLen; omega
              case c4 => omega
              case c5 => have := hsz.out; simp; omega
              intro v' w4 hown' hgrow _
              obtain ⟨g', cap', rfl⟩ : ∃ g cap, v' = .slice (some ⟨g, 0, none⟩) ((keepB (ps.take k)).length + 1) cap := by
                obtain ⟨_, h | ⟨g, cap, cur, e, _⟩⟩ := hown'
                · exact absurd h.2 (Nat.succ_ne_zero _)
                · exact ⟨g, cap, e⟩
              have hb4 := hR2.out.below hgrow
              have c4 : w4.cell? ⟨w.heap.size + 1, 3, none⟩ = some v := by rw [hb4.cell (p := ⟨w.heap.size + 1, 3, none⟩) (Nat.lt_succ_of_lt hR2.out.lo)]; exact cc
              have f4 : w4.frozen? ⟨w.heap.size + 1, 3, none⟩ = false := by rw [hb4.frozen (p := ⟨w.heap.size + 1, 3, none⟩) (Nat.lt_succ_of_lt hR2.out.lo)]; exact ff
              have hN := Lib.hid (hR2.out.next hlt (by rw [← HX.out]; exact X0.out) z hY.out hown' hgrow)
              clear hown' hgrow hR2 hO cc ff hb4
              go_wp2
              go_roundw
              case rel => exact ⟨k + 1, _, by omega, by go_num, hN.out⟩
              case measure => simp [intOf]; omega
          · obtain rfl : k = ps.length := by omega
            obtain ⟨a, m, c, rfl, hI, hf⟩ := hR.out.isL hpl
            have HI := Lib.hid hI; clear hI
            have HF := Lib.hid hf; clear hf
            have B0 : Hid (Below (w.alloc (.cells #[.int .i64 0, .int .i64 0, .string ⟨#[]⟩, .slice none 0 0] 24)).heap.size (w.alloc (.cells #[.int .i64 0, .int .i64 0, .string ⟨#[]⟩, .slice none 0 0] 24)) wr) := by
              have := hR.out.bel
              unfold Hid; simpa using this
            obtain ⟨bc, bf⟩ := bcell B0.out
            have g0 := hR.out.c0
            have g1 := hR.out.c1
            have g2 := hR.out.c2
            have g3 := hR.out.c3
            clear hR hS0
            go_wp2
            refine bodyPost_ret (v := .agg #[.int .i64 5, .int .i64 0, .string ⟨#[]⟩, .slice a m c]) (by simp [results, Tryz.results21, go_sem, bc]) rfl ?_
            have hf2 : m = 0 ∨ ∃ b, a = some ⟨b, 0, none⟩ ∧ w.heap.size ≠ b := by
              rcases HF.out with h | ⟨b, h1, h2⟩
              · exact .inl h
              · exact .inr ⟨b, h1, by omega⟩
            have hf3 : m = 0 ∨ ∃ b, a = some ⟨b, 0, none⟩ ∧ w.heap.size ≤ b := by
              rcases HF.out with h | ⟨b, h1, h2⟩
              · exact .inl h
              · exact .inr ⟨b, h1, by omega⟩
            have eK : keepB (ps.take ps.length) = setR t.data.toList := by rw [List.take_length, eS.out]
            refine ⟨5, 0, _, _, setR t.data.toList, rfl, by simp [ByteArray.size], ?_, hM.out, below4 (HB0.out.trans (B0.out.mono (by simp))) (Nat.le_refl _) _ _ _ _, _, _, _, rfl, hf3⟩
            rw [← eK]
            exact (((HI.out.other _ hf2).other _ hf2).other _ hf2).other _ hf2
end Go.Proofs.YtcohkmpjendhnaaGreatDoor
