/-
  Numbers of the reference: needless zeros go; the order.
  Numbers of the reference: readNatural.
  A builder of strings that grows: WriteString.
  Numbers of the reference: their decimal texts.
-/
import Derived.Test.YtfijhkaalpinhaaGreatDoorRa11
import Derived.Test.YtfijhkaalpinhaaGreatDoorRa02
import Derived.Test.YtfijhkaalpinhaaGreatDoorRa09
import Derived.Lib.SmallJoins
import Derived.Lib.AppendStr
import Derived.Lib.AppendIntMem
import Derived.Lib.QuietBelow
namespace Go.Proofs.YtfijhkaalpinhaaGreatDoor
open Go.RowKit

def NtTrim (a : Option Addr) (c n : Nat) (w : World) (e : Ending) (w' : World) : Prop := ∃ m, e = .returned (.slice a m c) ∧ Nt w' a m c n ∧ w = w'
set_option maxHeartbeats 1000000 in
theorem ntrim_c (a : Option Addr) (k c : Nat) (f : Nat → Nat) (w : World) (h : Rj w a k f) (hk : k ≤ c) (hc : c ≤ 9223372036854775807) (ha : Pl a c) :
    Calls Tryz.prog 64 #[.slice a k c] w (NtTrim a c (Tn f k) w) := by
  have H := Lib.hid h
  have hk2 := h.1
  clear h
  go_enter Tryz.func64, Tryz.ntmps64
  go_wp2
  go_loop [3] (fun i => ∃ m : Nat, m ≤ k ∧ i = .int .i64 m ∧ Hid (Tn f m = Tn f k)) (fun i => (intOf i).toNat)
  case atStart => exact ⟨k, Nat.le_refl _, rfl, rfl⟩
  case round =>
    obtain ⟨m, hm, rfl, hS⟩ := hrel
    rcases Nat.eq_zero_or_pos m with e | e
    · subst e
      go_wp2
      go_ret
      exact ⟨0, rfl, by rw [← hS.out]; exact Nt.zero _ _ _ hc ha, rfl⟩
    · obtain ⟨p, rfl⟩ : ∃ p, m = p + 1 := ⟨m - 1, by omega⟩
      obtain ⟨b, off, rfl, hb, hcell⟩ := H.out.at_ (show p < k by omega)
      have e1 : ((p + 1 : Nat) : Int) - 1 = (p : Int) := by omega
      have hpk : (p : Int) < (k : Int) := by omega
      have HS := Lib.hid (Tn_succ f p)
      by_cases h0 : f p = 0
      · rw [h0] at hcell HS
        have HS2 : Hid (Tn f p = Tn f k) := by unfold Hid; rw [← hS.out, HS.out]; omega
        go_wp2
        go_round
        case rel => exact ⟨p, by omega, by go_num, HS2⟩
        case measure => simp [intOf]; try omega
      · have HT : Hid (Tod f (p + 1)) := .inr (by simpa using h0)
        have d : ((f p : Int) == 0) = false := by rw [beq_eq_false_iff_ne]; omega
        have d' : (f p == 0) = false := by rw [beq_eq_false_iff_ne]; exact h0
        generalize f p = x at *
        go_wp2
        go_ret
        exact ⟨p + 1, rfl, ⟨f, H.out.low hm, by omega, hc, HT.out, hS.out, ha⟩, rfl⟩
set_option maxRecDepth 100000 in
set_option maxHeartbeats 2000000 in
theorem norder_c (a1 a2 : Option Addr) (k1 k2 c1 c2 n1 n2 : Nat) (w : World) (h1 : Nt w a1 k1 c1 n1) (h2 : Nt w a2 k2 c2 n2) :
    Calls Tryz.prog 40 #[.slice a1 k1 c1, .slice a2 k2 c2] w fun e w' => e = .returned (.int .i64 (sgn n1 n2)) ∧ ∃ q, w' = w.drewN q := by
  obtain ⟨f, r1, _, _, t1, s1, _⟩ := h1
  obtain ⟨g, r2, _, _, t2, s2, _⟩ := h2
  have hk1 := r1.1
  have hk2 := r2.1
  by_cases hk : k1 = k2
  · subst hk
    have H1 := Lib.hid r1
    have H2 := Lib.hid r2
    have S1 := Lib.hid s1
    have S2 := Lib.hid s2
    clear r1 r2 t1 t2 s1 s2
    go_enter Tryz.func40, Tryz.ntmps40
    go_wp2
    go_loopw [5] (fun i wr => ∃ m : Nat, m ≤ k1 ∧ i = .int .i64 ((m : Int) - 1) ∧ Hid ((∀ j, m ≤ j → j < k1 → f j = g j) ∧ ∃ q, wr = w.drewN q)) (fun i _ => (intOf i + 1).toNat)
    case atStart => exact ⟨k1, Nat.le_refl _, rfl, fun j h1 h2 => by omega, 0, rfl⟩
    case round =>
      obtain ⟨m, hm, rfl, hR⟩ := hrel
      rcases Nat.eq_zero_or_pos m with e | e
      · subst e
        have E : Hid (n1 = n2) := by unfold Hid; rw [← S1.out, ← S2.out]; exact Tn_congr (fun j hj => hR.out.1 j (Nat.zero_le _) hj)
        go_wp2
        go_ret
        exact ⟨ret_int (by rw [E.out, sgn_eq]), hR.out.2⟩
      · obtain ⟨p, rfl⟩ : ∃ p, m = p + 1 := ⟨m - 1, by omega⟩
        obtain ⟨q, hq⟩ := hR.out.2
        have HB : Hid (Below w.heap.size w wr) := by unfold Hid; rw [hq]; exact bel_drewN _ _
        obtain ⟨b1, o1, rfl, _, g1⟩ := (H1.out.below HB.out).at_ (show p < k1 by omega)
        obtain ⟨b2, o2, rfl, _, g2⟩ := (H2.out.below HB.out).at_ (show p < k1 by omega)
        have hp : (p : Int) < (k1 : Int) := by omega
        have ei : ((p + 1 : Nat) : Int) - 1 = (p : Int) := by omega
        rw [ei]
        have HQ := Lib.hid hq
        clear hq
        by_cases hE : f p = g p
        · have NE : Hid (∀ j, p ≤ j → j < k1 → f j = g j) := fun j h1 h2 => by
            by_cases e : j = p
            · rw [e, hE]
            · exact hR.out.1 j (by omega) h2
          rw [← hE] at g2
          generalize f p = x at *
          go_wp2_with fail
          go_quiet (fail)
          have NX : Hid ((∀ j, p ≤ j → j < k1 → f j = g j) ∧ ∃ q, wr.drewN nq = w.drewN q) := ⟨NE.out, q + nq, by rw [HQ.out, drewN_drewN]⟩
          clear g1 g2
          go_wp2
          go_roundw
          case rel => exact ⟨p, by omega, by go_num, NX.out⟩
          case measure => simp [intOf]
        · have E : Hid (sgn n1 n2 = sgn (f p) (g p)) := by
            unfold Hid
            rw [← S1.out, ← S2.out]
            rcases Nat.lt_trichotomy (f p) (g p) with l | l | l
            · rw [sgn_lt l, sgn_lt (dcmp_lt H1.out.2.1 (by omega) l (fun j h1 h2 => hR.out.1 j (by omega) h2))]
            · exact absurd l hE
            · rw [sgn_gt l, sgn_gt (dcmp_lt H2.out.2.1 (by omega) l (fun j h1 h2 => (hR.out.1 j (by omega) h2).symm))]
          have hb : ((f p : Int) == (g p : Int)) = false := by rw [beq_eq_false_iff_ne]; omega
          have hb' : (f p == g p) = false := by rw [beq_eq_false_iff_ne]; exact hE
          generalize f p = x at *
          generalize g p = y at *
          rcases Nat.lt_or_ge x y with l | l
          · have l2 : (x : Int) < (y : Int) := by omega
            have F : Hid (sgn n1 n2 = -1) := by rw [E.out, sgn_lt l]; rfl
            clear hE l E
            go_wp2_with fail
            go_quiet (fail)
            go_wp2_with fail
            generalize hw1 : wr.drewN _ = w1
            have g1' : w1.cell? ⟨b1, o1 + p, none⟩ = some (.int .i64 x) := by rw [← hw1]; exact g1
            have g2' : w1.cell? ⟨b2, o2 + p, none⟩ = some (.int .i64 y) := by rw [← hw1]; exact g2
            have HW := Lib.hid hw1
            clear hw1 g1 g2
            go_quiet (fail)
            go_wp2
            go_ret
            exact ⟨ret_int F.out.symm, by rw [← HW.out, HQ.out]; exact ⟨_, by rw [drewN_drewN, drewN_drewN]⟩⟩
          · have l2 : ¬ (x : Int) < (y : Int) := by omega
            have F : Hid (sgn n1 n2 = 1) := by rw [E.out, sgn_gt (by omega)]; rfl
            clear hE l E
            go_wp2_with fail
            go_quiet (fail)
            go_wp2_with fail
            generalize hw1 : wr.drewN _ = w1
            have g1' : w1.cell? ⟨b1, o1 + p, none⟩ = some (.int .i64 x) := by rw [← hw1]; exact g1
            have g2' : w1.cell? ⟨b2, o2 + p, none⟩ = some (.int .i64 y) := by rw [← hw1]; exact g2
            have HW := Lib.hid hw1
            clear hw1 g1 g2
            go_quiet (fail)
            go_wp2
            go_ret
            exact ⟨ret_int F.out.symm, by rw [← HW.out, HQ.out]; exact ⟨_, by rw [drewN_drewN, drewN_drewN]⟩⟩
  · have hne : ((k1 : Int) == (k2 : Int)) = false := by rw [beq_eq_false_iff_ne]; omega
    have hne' : (k1 == k2) = false := by rw [beq_eq_false_iff_ne]; exact hk
    rcases Nat.lt_or_ge k1 k2 with l | l
    · have E : Hid (sgn n1 n2 = -1) := by unfold Hid; rw [← s1, ← s2]; exact sgn_lt (dlen_lt r1.2.1 t2 l)
      have l2 : (k1 : Int) < (k2 : Int) := by omega
      clear r1 r2 t1 t2 s1 s2 hk
      go_enter Tryz.func40, Tryz.ntmps40
      go_wp2
      go_ret
      exact ⟨ret_int E.out.symm, 0, rfl⟩
    · have E : Hid (sgn n1 n2 = 1) := by unfold Hid; rw [← s1, ← s2]; exact sgn_gt (dlen_lt r2.2.1 t1 (by omega))
      have l2 : ¬ (k1 : Int) < (k2 : Int) := by omega
      clear r1 r2 t1 t2 s1 s2 hk
      go_enter Tryz.func40, Tryz.ntmps40
      go_wp2
      go_ret
      exact ⟨ret_int E.out.symm, 0, rfl⟩
end Go.Proofs.YtfijhkaalpinhaaGreatDoor
namespace Go.Proofs.YtfijhkaalpinhaaGreatDoor
open Go.RowKit

theorem atoi_c (s : ByteArray) (v : Int) (w : World) (hs : s.size ≤ 100000) (h : Lib.atoiAll s.data.toList = .ok v) :
    Calls Tryz.prog 63 #[.string s] w fun e w' => e = .returned (.tuple #[.int .i64 v, .nilIface]) ∧ Below w.heap.size w w' :=
  (Tryz.strconv_Atoi_ok s (by omega) v h w).mono fun _ _ ⟨he, hw⟩ => ⟨he, by
    rcases hw with hw | ⟨t, hw⟩ <;> rw [hw]
    · exact Below.refl _ _
    · exact Go.Joins.below_bytesWorld _ _ _ _ (Nat.le_refl _)⟩
/-- What is read so far. -/
structure Nrd (w : World) (l : List UInt8) (j m : Nat) (x : ByteArray) (f : Nat → Nat) (v : Value) (W : World) : Prop where
  left : x.data.toList = l.take m
  sum : val (l.take m) * tp j + Tn f j = val l
  dig : Ld f j
  row : Dg w.heap.size w f j v W
theorem Dg.below {B : Nat} {w0 w w' : World} {f : Nat → Nat} {j : Nat} {v : Value} (h : Dg B w0 f j v w) (hb : Below w.heap.size w w') : Dg B w0 f j v w' :=
  ⟨own_keep h.row hb, h.bel.trans (hb.mono h.size), Nat.le_trans h.size hb.size⟩
set_option maxRecDepth 100000 in
set_option maxHeartbeats 1000000 in
theorem readNatural_c (t : ByteArray) (w : World) (hd : digs t.data.toList = true) (hl : t.size ≤ 90000) :
    Calls Tryz.prog 32 #[.string t] w (NtPost (val t.data.toList) w) := by
  obtain ⟨i0, hi, hz0, hz1, hz2⟩ := info_int
  obtain ⟨l, hL⟩ : ∃ l, t.data.toList = l := ⟨_, rfl⟩
  have hts : t.size = l.length := by rw [← hL]; simp
  rw [hL] at hd ⊢
  have H0 : Hid (Nrd w l 0 l.length t (fun _ => 0) (.slice none 0 0) w) := ⟨by rw [hL, List.take_length], by rw [List.take_length, tp_zero, Tn_zero]; omega, fun j hj => by omega, Dg.nil w _⟩
  have HD := Lib.hid hd
  have HLB : Hid (l.length ≤ 90000) := by unfold Hid; omega
  have HTS := Lib.hid hts
  clear hL hd hl hts
  go_enter Tryz.func32, Tryz.ntmps32
  go_wp2
  go_loopw [0, 3] (fun s v wr => ∃ (j m : Nat) (x : ByteArray) (f : Nat → Nat), s = .string x ∧ x.size = m ∧ j + m ≤ l.length ∧ Hid (Nrd w l j m x f v wr)) (fun s _ _ => match s with | .string x => x.size | _ => 0)
  case atStart => exact ⟨0, l.length, t, _, rfl, HTS.out, by omega, H0.out⟩
  case round =>
    clear H0
    obtain ⟨j, m, x, f, rfl, hxm, hjm, hR⟩ := hrel
    have hm9 : m ≤ 90000 := by have := HLB.out; omega
    rcases Nat.eq_zero_or_pos m with e | e
    · subst e
      have hx0 : ¬ (0 : Int) < (x.size : Int) := by omega
      obtain ⟨a, c, rfl, h1, h2, h3, h4⟩ := hR.out.row.reads (by have := HLB.out; omega) hR.out.dig
      have hs : Tn f j = val l := by
        have h := hR.out.sum
        rw [List.take_zero, val_nil] at h
        omega
      have HB := Lib.hid hR.out.row.bel
      have HT := Lib.hid (ntrim_c a j c f wr h1 h2 h3 h4)
      rw [hs] at HT
      clear hR h1 h2 h3 h4 hs
      go_wp2_with fail
      refine HT.out.mono ?_
      rintro e w' ⟨m', rfl, hn, rfl⟩
      have RR : Hid (NtPost (val l) w (.returned (.slice a m' c)) wr) := ⟨a, m', c, rfl, hn, HB.out⟩
      clear hn HT HB
      go_wp2
      go_ret
      exact RR.out
    · have hx0 : (0 : Int) < (x.size : Int) := by omega
      have hxs : (x.size : Int) = (m : Int) := by omega
      obtain ⟨q, hq⟩ : ∃ q, m - 9 = q := ⟨_, rfl⟩
      have hqm : q ≤ m := by omega
      have hqm' : (q : Int) ≤ (m : Int) := by omega
      have hmx : max ((m : Int) - 9) 0 = (q : Int) := by omega
      obtain ⟨y, hy⟩ : ∃ y, x.extract q m = y := ⟨_, rfl⟩
      obtain ⟨z, hz⟩ : ∃ z, x.extract 0 q = z := ⟨_, rfl⟩
      have hyl : y.data.toList = (l.take m).drop (m - 9) := by rw [← hy, extract_list, hR.out.left, hq, List.take_of_length_le (by rw [List.length_drop, List.length_take]; omega)]
      have hzl : z.data.toList = l.take q := by rw [← hz, extract_list, hR.out.left, List.drop_zero, Nat.sub_zero, List.take_take, Nat.min_eq_left hqm]
      have hys : y.size ≤ 9 := by rw [← hy, ByteArray.size_extract]; omega
      have hzs : z.size = q := by rw [← hz, ByteArray.size_extract]; omega
      have hdy : digs ((l.take m).drop (m - 9)) = true := digs_drop (digs_take HD.out m) _
      have hyn : (l.take m).drop (m - 9) ≠ [] := by
        intro h
        have := congrArg List.length h
        rw [List.length_drop, List.length_take, List.length_nil] at this
        omega
      obtain ⟨bs, bl⟩ := block_more HD.out (show m ≤ l.length by omega) e hR.out.sum
      have HAT := Lib.hid (fun w => atoi_c y (val ((l.take m).drop (m - 9)) : Nat) w (by omega) (by rw [hyl]; exact atoi_digs hdy hyn (by rw [List.length_drop, List.length_take]; omega)))
      generalize val ((l.take m).drop (m - 9)) = d at *
      rw [hq] at bs
      have HS := Lib.hid bs
      have HZL := Lib.hid hzl
      have HQ : Hid (q < m) := by unfold Hid; omega
      clear bs hyl hzl hyn hdy hq
      go_wp2_with fail
      refine (HAT.out _).mono ?_
      rintro e w4 ⟨rfl, b4⟩
      have hD := Lib.hid (hR.out.row.below b4)
      have HG := Lib.hid hR.out.dig
      clear hR b4 HAT
      go_wp2_with (at_builtin; refine wpList_append_own _ rfl _ _ 50 rfl w.heap.size 3 i0 (.int .i64 0) 1 8 Tryz.underlying50 hi hz0 hz1 hz2 rfl (by decide) _ _ _ rfl (hD.out.row.alloc _) ⟨w4.heap.size, 0, none⟩ 1 1 [.int .i64 (d : Int)] rfl rfl ?c1 ?c2 ?c3 ?c4 ?c5 ?_)
      case c1 =>
        intro i u hu
        match i, hu with
        | 0, hu => simp at hu; subst hu; simp [Addr.add]
      case c2 => intro u hu; simp at hu; subst hu; rfl
      case c3 => have := HLB.out; unfold maxLen; omega
      case c4 => have := HLB.out; omega
      case c5 => have := hD.out.size; simp; omega
      intro v' w1 hown' hgrow _
      have NX : Hid (Nrd w l (j + 1) q z (put f j d) v' w1) := ⟨HZL.out, by rw [Tn_put]; exact HS.out, fun i hi => by
        by_cases ei : i = j
        · subst ei; rw [put_same]; exact bl
        · rw [put_ne ei]; exact HG.out i (by omega), hD.out.more d hown' _ hgrow⟩
      clear hown' hgrow hD
      go_wp2
      go_roundw
      case rel => exact ⟨j + 1, q, z, _, rfl, hzs, by have := HQ.out; omega, NX.out⟩
      case measure => simp; have := HQ.out; omega
end Go.Proofs.YtfijhkaalpinhaaGreatDoor
namespace Go.Proofs.YtfijhkaalpinhaaGreatDoor
open Go.RowKit

theorem sizeBuilder : (Tryz.prog.info? 94).map (·.size) = some 2 := by kernel_rfl
abbrev IsB (g : Nat) (l : List UInt8) (W : World) : Prop := Lib.IsBuilder 94 5 g g (Lib.byteCells l) W
theorem strCells_is (s : ByteArray) : Lib.strCells s = Lib.byteCells s.data.toList := by simp [Lib.strCells, Lib.byteCells]
theorem byteCells_append (a b : List UInt8) : Lib.byteCells (a ++ b) = Lib.byteCells a ++ Lib.byteCells b := by simp [Lib.byteCells]
theorem byteCells_length (a : List UInt8) : (Lib.byteCells a).length = a.length := by simp [Lib.byteCells]
set_option maxHeartbeats 1000000 in
set_option maxRecDepth 100000 in
theorem check_fresh (b : Nat) (w : World) (h0 : w.cell? ⟨b, 0, none⟩ = some (.pointer none)) (hsh : w.shape? b = some (94, 2)) (hfz : w.frozen? ⟨b, 0, none⟩ = false) :
    Calls Tryz.prog 94 #[.pointer (some ⟨b, 0, none⟩)] w fun e w' => e = .returned (.tuple #[]) ∧ w' = w.setCell ⟨b, 0, none⟩ (.pointer (some ⟨b, 0, none⟩)) := by
  obtain ⟨j, hj, hjs⟩ := Option.map_eq_some_iff.1 sizeBuilder
  have hlies : liesAt Tryz.prog Tryz.prog.depth 94 (2 / Tryz.prog.cellsOf 94) 0 94 1 = true := by kernel_rfl
  have u1 := Lib.run_to_unsafe (P := Tryz.prog) w ⟨b, 0, none⟩ Tryz.underlying91 Tryz.underlying148 hj (by rw [hjs]; decide) hsh (Nat.zero_lt_succ 1)
  have u3 := Lib.run_from_unsafe (P := Tryz.prog) w ⟨b, 0, none⟩ Tryz.underlying148 Tryz.underlying91 hj hsh hlies
  clear hsh hlies hj hjs
  go_enter Tryz.func94, Tryz.ntmps94
  go_wp2
  rw [run_callFunc_extern Tryz.func122 (by kernel_rfl) (by kernel_rfl) (by kernel_rfl) (e := Extern.AbiNoEscape.same) (by kernel_rfl)]
  rw [Lib.run_noEscape]
  simp only [Result.andThen]
  rw [Oper.upon_value]
  go_wp2
  go_end0
  exact ⟨rfl, rfl⟩
set_option maxHeartbeats 1000000 in
set_option maxRecDepth 100000 in
theorem check_used (b : Nat) (w : World) (h0 : w.cell? ⟨b, 0, none⟩ = some (.pointer (some ⟨b, 0, none⟩))) :
    Calls Tryz.prog 94 #[.pointer (some ⟨b, 0, none⟩)] w fun e w' => e = .returned (.tuple #[]) ∧ w' = w := by
  obtain ⟨j, hj, _⟩ := Option.map_eq_some_iff.1 sizeBuilder
  go_enter Tryz.func94, Tryz.ntmps94
  go_wp2
  rw [Lib.run_neq_ptr_same w _ Tryz.underlying91 hj]
  go_wp2
  go_end0
  exact ⟨rfl, rfl⟩
theorem check_any (B b : Nat) (l : List Value) (w : World) (h : Lib.IsBuilder 94 5 B b l w) :
    Calls Tryz.prog 94 #[.pointer (some ⟨b, 0, none⟩)] w fun e w' => e = .returned (.tuple #[]) ∧ Lib.BuilderAt 94 5 B b (.pointer (some ⟨b, 0, none⟩)) l w' ∧ Below B w w' ∧ w.heap.size = w'.heap.size := by
  rcases h with h | h
  · refine (check_fresh b w h.cell0 h.shape h.frozen0).mono ?_
    rintro e w' ⟨rfl, rfl⟩
    exact ⟨rfl, h.used _, (Below.refl B w).setCell (p := ⟨b, 0, none⟩) h.1 _, by simp⟩
  · refine (check_used b w h.cell0).mono ?_
    rintro e w' ⟨rfl, rfl⟩
    exact ⟨rfl, h, Below.refl B _, rfl⟩
set_option maxHeartbeats 1000000 in
set_option maxRecDepth 100000 in
theorem put_c (g : Nat) (l : List UInt8) (s : ByteArray) (w : World) (h : IsB g l w) (hl : l.length + s.size ≤ 1000000) :
    Calls Tryz.prog 65 #[.pointer (some ⟨g, 0, none⟩), .string s] w fun e w' => e = .returned (.tuple #[.int .i64 s.size, .nilIface]) ∧ IsB g (l ++ s.data.toList) w' ∧ Below g w w' := by
  obtain ⟨i0, hi, hz0, hz1, hz2⟩ := info_byte
  have HC := Lib.hid (check_any g g (Lib.byteCells l) w h)
  have HL := Lib.hid hl
  clear h hl
  go_enter Tryz.func65, Tryz.ntmps65
  go_wp2_with fail
  refine HC.out.mono ?_
  rintro e w1 ⟨rfl, ⟨_, v, hbk, hown, hne⟩, b1, _⟩
  have S1 : Hid (g < w1.heap.size) := lt_of_block hbk
  have B1 := Lib.hid b1
  have HBk := Lib.hid hbk
  have HNE := Lib.hid hne
  have HOW := Lib.hid hown
  have c0 : w1.cell? ⟨g, 0, none⟩ = some (.pointer (some ⟨g, 0, none⟩)) := by rw [Lib.cell_of_heap hbk]; rfl
  have c1 : w1.cell? ⟨g, 1, none⟩ = some v := by rw [Lib.cell_of_heap hbk]; rfl
  clear hbk hne hown b1 HC
  go_wp2_with (at_builtin; refine Lib.wpList_append_own_string _ rfl _ _ 92 9 rfl g 5 i0 Tryz.underlying92 Tryz.underlying9 hi hz0 hz1 hz2 _ _ _ rfl HOW.out s rfl ?c3 ?c4 ?c5 ?_)
  case c3 => have := HL.out; have := byteCells_length l; unfold maxLen; omega
  case c4 => have := HL.out; have := byteCells_length l; omega
  case c5 => have := S1.out; omega
  intro v' w2 hown' hgrow _
  have hb2 : w2.heap[g]? = some (.cells #[.pointer (some ⟨g, 0, none⟩), v] 94 (0, 0)) := by
    rw [hgrow.block g S1.out (fun e => HNE.out e.symm)]
    exact HBk.out
  have d0 : w2.cell? ⟨g, 0, none⟩ = some (.pointer (some ⟨g, 0, none⟩)) := by rw [Lib.cell_of_heap hb2]; rfl
  have d1 : w2.cell? ⟨g, 1, none⟩ = some v := by rw [Lib.cell_of_heap hb2]; rfl
  have f1 : w2.frozen? ⟨g, 1, none⟩ = false := Lib.frozen_of_heap hb2 1
  obtain ⟨ao, n', cap, rfl⟩ : ∃ ao n' cap, v' = .slice ao n' cap := by
    rcases hown'.2 with ⟨hv, _⟩ | ⟨g, cap, cur, hv, _⟩
    · exact ⟨_, _, _, hv⟩
    · exact ⟨_, _, _, hv⟩
  have HO2 := Lib.hid hown'
  have HB2 := Lib.hid hb2
  have HG2 := Lib.hid hgrow
  clear hown' hb2 hgrow c0 c1 hi hz0 hz1 hz2
  go_wp2
  go_ret2
  have hh := HO2.out
  refine ⟨rfl, .inr (Lib.BuilderAt.put (T := 94) (e := 5) (Nat.le_refl _) HB2.out (bs' := Lib.byteCells (l ++ s.data.toList)) (by
    rw [byteCells_append, ← strCells_is, List.length_append, Lib.strCells_length]; simpa using hh) (by decide)), ?_⟩
  exact (B1.out.grown HG2.out (by have := S1.out; omega) (fun k hk => (HOW.out.lt k hk).1)).setCell (p := ⟨g, 1, none⟩) (Nat.le_refl _) _
end Go.Proofs.YtfijhkaalpinhaaGreatDoor
namespace Go.Proofs.YtfijhkaalpinhaaGreatDoor
open Go.RowKit

theorem gPow : Tryz.prog.globalNamed "internal/strconv.uint64pow10" = some 5 := by kernel_rfl
def Pow (w : World) : Prop := Lib.TabIs Tryz.prog w "internal/strconv.uint64pow10" .u64 Lib.pow10Tab
theorem Pow.below {w w' : World} (h : Pow w) (hb : Below w.heap.size w w') : Pow w' := Go.Joins.tab_stays gPow h hb (Nat.le_refl _)
theorem itoa_c (n : Nat) (w : World) (hE : Pow w) (hn : n ≤ 9223372036854775807) :
    Calls Tryz.prog 66 #[.int .i64 n] w fun e w' => e = .returned (.string (decB n)) ∧ Below w.heap.size w w' :=
  (Tryz.strconv_Itoa n (by omega) (by omega) w hE).mono fun _ _ ⟨he, k, os, hw⟩ => ⟨by rw [he, Lib.itoa_nonneg]; rfl, by rw [hw]; exact Go.Lib.below_grow _ _ (Nat.le_refl _) k os⟩
theorem repeat_c (c : Nat) (w : World) (hc : c ≤ 9) :
    Calls Tryz.prog 52 #[.string ⟨#[48]⟩, .int .i64 c] w fun e w' => e = .returned (.string ⟨(Lib.repeatL [48] c).toArray⟩) ∧ Below w.heap.size w w' :=
  Tryz.strings_Repeat ⟨#[48]⟩ c w (by omega) (by rw [show (⟨#[48]⟩ : ByteArray).size = 1 from rfl]; omega)
theorem rtext_zero (a : Option Addr) (c : Nat) (w : World) : Calls Tryz.prog 33 #[.slice a 0 c] w fun e w' => e = .returned (.string (decB 0)) ∧ Below w.heap.size w w' := by
  go_enter Tryz.func33, Tryz.ntmps33
  go_wp2
  go_ret
  exact ⟨by unfold decB; rw [Lib.decDigits_one (by decide)]; rfl, Below.refl _ _⟩
theorem isB_keep {g : Nat} {l : List UInt8} {w w' : World} (h : IsB g l w) (hb : Below w.heap.size w w') : IsB g l w' := by
  rcases h with ⟨h1, v, h2, h3, h4⟩ | ⟨h1, v, h2, h3, h4⟩
  · exact .inl ⟨h1, v, (hb.block g (lt_of_block h2)).trans h2, own_keep h3 hb, h4⟩
  · exact .inr ⟨h1, v, (hb.block g (lt_of_block h2)).trans h2, own_keep h3 hb, h4⟩
/-- The digits from p on are written. -/
structure Txd (w : World) (n p : Nat) (W : World) : Prop where
  bld : IsB w.heap.size (Lib.decDigits (n / tp p)) W
  bel : Below w.heap.size w W
  pos : 0 < n / tp p
set_option maxRecDepth 100000 in
set_option maxHeartbeats 2000000 in
theorem rtext_c (a : Option Addr) (k c n : Nat) (w : World) (h : Nt w a k c n) (hE : Pow w) : Calls Tryz.prog 33 #[.slice a k c] w fun e w' => e = .returned (.string (decB n)) ∧ Below w.heap.size w w' := by
  rcases Nat.eq_zero_or_pos k with e | e
  · subst e
    have hn : n = 0 := by have := h.lt; rw [tp_zero] at this; omega
    subst hn
    exact rtext_zero a c w
  · obtain ⟨f, r1, _, _, t1, s1, _⟩ := h
    obtain ⟨q, rfl⟩ : ∃ q, k = q + 1 := ⟨k - 1, by omega⟩
    have hk5 := r1.1
    have htop : 0 < f q := by
      rcases t1 with t | t
      · omega
      · rw [Nat.add_sub_cancel] at t; omega
    have hlast : n / tp q = f q := by rw [← s1]; exact Tn_last r1.2.1 e
    have HDB : Hid (∀ p, (Lib.decDigits (n / tp p)).length ≤ 900000) := fun p => by
      have h1 : n / tp p < tp (q + 1) := Nat.lt_of_le_of_lt (Nat.div_le_self _ _) (by rw [← s1]; exact Tn_lt r1.2.1)
      have := dec_short e h1
      omega
    have HNX : Hid (∀ p, p < q + 1 → 0 < n / tp (p + 1) → Lib.decDigits (n / tp p) = Lib.decDigits (n / tp (p + 1)) ++ Lib.repeatL [48] (9 - (Lib.decDigits (f p)).length) ++ Lib.decDigits (f p)) := fun p hp h0 => by
      rw [← s1] at h0 ⊢
      exact dec_next r1.2.1 hp h0
    have HPS : Hid (∀ p, 0 < n / tp (p + 1) → 0 < n / tp p) := fun p h0 => by
      rw [tp_succ, ← Nat.div_div_eq_div_mul] at h0
      omega
    have HF : Hid (∀ p, p < q + 1 → f p < 1000000000) := r1.2.1
    obtain ⟨bk, off, rfl, hb, hcell⟩ := r1.2.2 e
    have HCL := Lib.hid hcell
    have HBK := Lib.hid hb
    obtain ⟨W1, hW1⟩ : ∃ W1, w.alloc (.cells #[.pointer none, .slice none 0 0] 94) = W1 := ⟨_, rfl⟩
    have hIB : Hid (IsB w.heap.size [] W1) := by rw [← hW1]; exact Lib.fresh_isBuilder _ _ w
    have hB : Hid (Below w.heap.size w W1) := by rw [← hW1]; exact bel_one _ _
    have HE := Lib.hid hE
    have d1 := hcell q (Nat.lt_succ_self q)
    have g2 : W1.cell? ⟨bk, off + q, none⟩ = some (.int .i64 (f q)) := by rw [hB.out.cell (p := ⟨bk, off + q, none⟩) hb]; exact d1
    have e1 : ((q + 1 : Nat) : Int) - 1 = (q : Int) := by omega
    have e2 : ((q + 1 : Nat) : Int) - 2 = (q : Int) - 1 := by omega
    have hqk : (q : Int) < ((q + 1 : Nat) : Int) := by omega
    have hne : (((q + 1 : Nat) : Int) == 0) = false := by rw [beq_eq_false_iff_ne]; omega
    have hfq := r1.2.1 q (Nat.lt_succ_self q)
    have I0 : Hid (∀ W, IsB w.heap.size (Lib.decDigits (f q)) W → Below w.heap.size w W → Txd w n q W) := fun W h1 h2 => ⟨by rw [hlast]; exact h1, h2, by rw [hlast]; exact htop⟩
    have HIT := Lib.hid (fun W h => itoa_c (f q) W h (by omega))
    have hsz : Hid ((decB (f q)).size ≤ 9) := by unfold Hid; rw [decB_size]; exact dec_len 9 _ (by decide) hfq
    clear hb hcell d1 r1 t1 s1 htop hlast hE hfq
    generalize f q = x at *
    go_enter Tryz.func33, Tryz.ntmps33
    go_wp2_with fail
    clear hW1 g2 hne
    (with_reducible refine (HIT.out _ (HE.out.below hB.out)).mono ?_)
    rintro e w2 ⟨rfl, b2⟩
    have HI2 : Hid (IsB w.heap.size [] w2) := isB_keep hIB.out b2
    have B2 := Lib.hid (hB.out.trans (b2.mono hB.out.size))
    have HP := Lib.hid (put_c w.heap.size [] (decB x) w2 HI2.out (by have := hsz.out; simp; omega))
    clear b2 hIB hB
    go_wp2_with fail
    (with_reducible refine HP.out.mono ?_)
    rintro e w3 ⟨rfl, h3, b3⟩
    have J0 : Hid (Txd w n q w3) := I0.out _ (by rw [← decB_list]; exact h3) (B2.out.trans b3)
    clear h3 b3 HP HI2 B2
    go_wp2_with fail
    go_loopw [4] (fun i wr => ∃ p : Nat, p ≤ q ∧ i = .int .i64 ((p : Int) - 1) ∧ Hid (Txd w n p wr)) (fun i _ => (intOf i + 1).toNat)
    case atStart => exact ⟨q, Nat.le_refl _, by go_num, J0.out⟩
    case round =>
      clear J0 HIT I0 hsz
      obtain ⟨p, hpq, rfl, hT⟩ := hrel
      rcases Nat.eq_zero_or_pos p with e | e
      · subst e
        have hz0 : n / tp 0 = n := by rw [tp_zero, Nat.div_one]
        have HS := Lib.hid (Tryz.Builder_String w.heap.size w.heap.size (Lib.decDigits (n / tp 0)) wr hT.out.bld (decDigits_ne _))
        have HB := Lib.hid hT.out.bel
        rw [hz0] at HS
        clear hT hz0
        go_wp2_with fail
        refine HS.out.mono ?_
        rintro e w4 ⟨rfl, b4⟩
        have B4 := Lib.hid (HB.out.trans b4)
        clear b4 HS HB
        go_wp2
        go_ret
        exact ⟨rfl, B4.out⟩
      · obtain ⟨r, rfl⟩ : ∃ r, p = r + 1 := ⟨p - 1, by omega⟩
        have ei : ((r + 1 : Nat) : Int) - 1 = (r : Int) := by omega
        rw [ei]
        have hrk : (r : Int) < ((q + 1 : Nat) : Int) := by omega
        have hrk' : (r : Int) ≤ (q : Int) := by omega
        have g1 : wr.cell? ⟨bk, off + r, none⟩ = some (.int .i64 (f r)) := by rw [hT.out.bel.cell (p := ⟨bk, off + r, none⟩) HBK.out]; exact HCL.out r (by omega)
        have HNX' := Lib.hid (HNX.out r (by omega) hT.out.pos)
        have HPS' := Lib.hid (HPS.out r hT.out.pos)
        have HL1 := Lib.hid (HDB.out (r + 1))
        have hfr := HF.out r (by omega)
        have HE' := Lib.hid (fun W (h : Below w.heap.size w W) => HE.out.below h)
        generalize f r = d at *
        have hdl := dec_len 9 d (by decide) hfr
        have hds := decB_size d
        obtain ⟨z, hz⟩ : ∃ z, 9 - (Lib.decDigits d).length = z := ⟨_, rfl⟩
        have hz9 : z ≤ 9 := by omega
        have ez : (9 : Int) - ((decB d).size : Int) = (z : Int) := by omega
        rw [hz] at HNX'
        have HDS : Hid ((decB d).size ≤ 9) := by unfold Hid; omega
        obtain ⟨zs, hzs⟩ : ∃ zs : ByteArray, zs = ⟨(Lib.repeatL [48] z).toArray⟩ := ⟨_, rfl⟩
        have hzl : Hid (zs.data.toList = Lib.repeatL [48] z ∧ zs.size ≤ 9) := ⟨by rw [hzs], by rw [hzs, rep_zeros]; simp [ByteArray.size]; omega⟩
        have HT := Lib.hid hT.out.bld
        have HB := Lib.hid hT.out.bel
        have HIT := Lib.hid (fun W h => itoa_c d W h (by omega))
        have HZ9 := Lib.hid hz9
        have HRP : Hid (∀ W, Calls Tryz.prog 52 #[.string ⟨#[48]⟩, .int .i64 z] W fun e w' => e = .returned (.string zs) ∧ Below W.heap.size W w') := fun W => by rw [hzs]; exact repeat_c z W hz9
        clear hT hdl hz hfr hds hz9 hzs
        go_wp2_with fail
        (with_reducible refine (HIT.out _ (HE'.out _ HB.out)).mono ?_)
        rintro e w2 ⟨rfl, b2⟩
        have HT2 := Lib.hid (isB_keep HT.out b2)
        have HB2 := Lib.hid (HB.out.trans (b2.mono HB.out.size))
        clear b2 g1 HT HIT
        go_wp2_with fail
        (with_reducible refine (HRP.out _).mono ?_)
        rintro e w3 ⟨rfl, b3⟩
        have HT3 := Lib.hid (isB_keep HT2.out b3)
        have HB3 := Lib.hid (HB2.out.trans (b3.mono HB2.out.size))
        have HP := Lib.hid (put_c w.heap.size _ zs w3 HT3.out (by have := HL1.out; have := hzl.out.2; omega))
        clear b3 HT2 HB2 HRP
        go_wp2_with fail
        (with_reducible refine HP.out.mono ?_)
        rintro e w4 ⟨rfl, h4, b4⟩
        rw [hzl.out.1] at h4
        have HB4 := Lib.hid (HB3.out.trans b4)
        have HP2 := Lib.hid (put_c w.heap.size _ (decB d) w4 h4 (by have := HL1.out; have := hzl.out.2; have := HDS.out; have := congrArg List.length hzl.out.1; simp at *; omega))
        clear b4 h4 HT3 HB3 HP
        go_wp2_with fail
        (with_reducible refine HP2.out.mono ?_)
        rintro e w5 ⟨rfl, h5, b5⟩
        have NX : Hid (Txd w n r w5) := ⟨by rw [HNX'.out, ← decB_list d]; exact h5, HB4.out.trans b5, HPS'.out⟩
        clear h5 b5 HP2 HB4
        go_wp2_with fail
        go_roundw
        case rel => exact ⟨r, by omega, rfl, NX.out⟩
        case measure => simp [intOf]
end Go.Proofs.YtfijhkaalpinhaaGreatDoor
