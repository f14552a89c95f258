/-
  A builder of strings that is written once: fresh, WriteString, String.
  Numbers of one digit to the base 10^9 in the reference: small, trim, order, short.
  Numbers of one digit to the base 10^9 in the reference: trim, order, short.
  Numbers of one digit to the base 10^9 in the reference: divide, divisor.
-/
import Derived.Test.YtfldlcnlijljcaaGreatDoorPn11
import Derived.Lib.AppendStr
namespace Go.Proofs.YtfldlcnlijljcaaGreatDoor
open Go.RowKit

theorem sizeBuilder : (Tryz.prog.info? 74).map (·.size) = some 2 := by kernel_rfl
/-- A builder that is not written yet. -/
def Fresh (w : World) (b : Nat) : Prop := w.heap[b]? = some (.cells #[.pointer none, .slice none 0 0] 74 (0, 0))
theorem Fresh.c0 {w : World} {b : Nat} (h : Fresh w b) : w.cell? ⟨b, 0, none⟩ = some (.pointer none) := by rw [Lib.cell_of_heap h]; rfl
theorem Fresh.c1 {w : World} {b : Nat} (h : Fresh w b) : w.cell? ⟨b, 1, none⟩ = some (.slice none 0 0) := by rw [Lib.cell_of_heap h]; rfl
set_option maxHeartbeats 1000000 in
set_option maxRecDepth 100000 in
theorem check_c (b : Nat) (w : World) (h : Fresh w b) :
    Calls Tryz.prog 57 #[.pointer (some ⟨b, 0, none⟩)] w fun e w' => e = .returned (.tuple #[]) ∧ w' = w.setCell ⟨b, 0, none⟩ (.pointer (some ⟨b, 0, none⟩)) := by
  obtain ⟨j, hj, hjs⟩ := Option.map_eq_some_iff.1 sizeBuilder
  have h0 := h.c0
  have hfz : w.frozen? ⟨b, 0, none⟩ = false := Lib.frozen_of_heap h 0
  have hsh : w.shape? b = some (74, 2) := by simp [World.shape?, show w.heap[b]? = _ from h]
  have hlies : liesAt Tryz.prog Tryz.prog.depth 74 (2 / Tryz.prog.cellsOf 74) 0 74 1 = true := by kernel_rfl
  have u1 := Lib.run_to_unsafe (P := Tryz.prog) w ⟨b, 0, none⟩ Tryz.underlying71 Tryz.underlying107 hj (by rw [hjs]; decide) hsh (Nat.zero_lt_succ 1)
  have u3 := Lib.run_from_unsafe (P := Tryz.prog) w ⟨b, 0, none⟩ Tryz.underlying107 Tryz.underlying71 hj hsh hlies
  clear hsh hlies hj hjs
  go_enter Tryz.func57, Tryz.ntmps57
  go_wp2
  rw [run_callFunc_extern Tryz.func71 (by kernel_rfl) (by kernel_rfl) (by kernel_rfl) (e := Extern.AbiNoEscape.same) (by kernel_rfl)]
  rw [Lib.run_noEscape]
  simp only [Result.andThen]
  rw [Oper.upon_value]
  go_wp2
  go_end0
  exact ⟨rfl, rfl⟩
set_option maxHeartbeats 1000000 in
/-- One text, written into a fresh builder. -/
theorem write_c (B b : Nat) (s : ByteArray) (w : World) (h : Fresh w b) (hB : B ≤ b) (hs : s.size ≤ 4096) :
    Calls Tryz.prog 42 #[.pointer (some ⟨b, 0, none⟩), .string s] w fun e w' => e = .returned (.tuple #[.int .i64 s.size, .nilIface]) ∧ Lib.IsBuilder 74 5 B b (Lib.strCells s) w' ∧ Below B w w' := by
  obtain ⟨i0, hi, hz0, hz1, hz2⟩ := info_parts infoB
  have hlt : b < w.heap.size := lt_of_block h
  have HF := Lib.hid h
  have hu := (show Lib.BuilderAt 74 5 B b (.pointer none) [] w from ⟨hB, .slice none 0 0, h, World.ownsRow_nil _ _ _ _, by simp [Value.ownBlock]⟩).used (.pointer (some ⟨b, 0, none⟩))
  have HU := Lib.hid hu
  have HS := Lib.hid hs
  have HBB := Lib.hid hB
  have B1 : Hid (Below B w (w.setCell ⟨b, 0, none⟩ (.pointer (some ⟨b, 0, none⟩)))) := (Below.refl _ _).setCell (p := ⟨b, 0, none⟩) hB _
  have S1 : Hid (b < (w.setCell ⟨b, 0, none⟩ (.pointer (some ⟨b, 0, none⟩))).heap.size) := by unfold Hid; simpa using hlt
  clear h hu hs hlt hB
  go_enter Tryz.func42, Tryz.ntmps42
  go_wp2_with fail
  refine (check_c b w HF.out).mono ?_
  rintro e w1 ⟨rfl, rfl⟩
  generalize w.setCell ⟨b, 0, none⟩ (.pointer (some ⟨b, 0, none⟩)) = w1 at *
  obtain ⟨hB, v, hbk, hown, hne⟩ := HU.out
  have HBk := Lib.hid hbk
  have HNE := Lib.hid hne
  have HOW := Lib.hid hown
  have c0 : w1.cell? ⟨b, 0, none⟩ = some (.pointer (some ⟨b, 0, none⟩)) := by rw [Lib.cell_of_heap hbk]; rfl
  have c1 : w1.cell? ⟨b, 1, none⟩ = some v := by rw [Lib.cell_of_heap hbk]; rfl
  clear hbk hne hB hown HU
  go_wp2_with (at_builtin; refine Lib.wpList_append_own_string _ rfl _ _ 72 9 rfl B 5 i0 Tryz.underlying72 Tryz.underlying9 hi hz0 hz1 hz2 _ _ _ rfl HOW.out s rfl ?c3 ?c4 ?c5 ?_)
  case c3 => have := HS.out; unfold maxLen; simp; omega
  case c4 => have := HS.out; simp; omega
  case c5 => have := S1.out; have := HBB.out; omega
  intro v' w2 hown' hgrow _
  have hb2 : w2.heap[b]? = some (.cells #[.pointer (some ⟨b, 0, none⟩), v] 74 (0, 0)) := by
    rw [hgrow.block b S1.out (fun e => HNE.out e.symm)]
    exact HBk.out
  have d0 : w2.cell? ⟨b, 0, none⟩ = some (.pointer (some ⟨b, 0, none⟩)) := by rw [Lib.cell_of_heap hb2]; rfl
  have d1 : w2.cell? ⟨b, 1, none⟩ = some v := by rw [Lib.cell_of_heap hb2]; rfl
  have f1 : w2.frozen? ⟨b, 1, none⟩ = false := Lib.frozen_of_heap hb2 1
  obtain ⟨ao, n', cap, rfl⟩ : ∃ ao n' cap, v' = .slice ao n' cap := by
    rcases hown'.2 with ⟨hv, _⟩ | ⟨g, cap, cur, hv, _⟩
    · exact ⟨_, _, _, hv⟩
    · exact ⟨_, _, _, hv⟩
  have HO2 := Lib.hid hown'
  have HB2 := Lib.hid hb2
  have HG2 := Lib.hid hgrow
  clear hown' hb2 hgrow c0 c1 hi hz0 hz1 hz2
  go_wp2
  go_ret2
  have hh := HO2.out
  refine ⟨rfl, .inr (Lib.BuilderAt.put (T := 74) (e := 5) HBB.out HB2.out (bs' := Lib.strCells s) (by simpa [Lib.strCells_length] using hh) (by decide)), ?_⟩
  exact (B1.out.grown HG2.out (by have := S1.out; have := HBB.out; omega) (fun k hk => (HOW.out.lt k hk).1)).setCell (p := ⟨b, 1, none⟩) HBB.out _
end Go.Proofs.YtfldlcnlijljcaaGreatDoor
namespace Go.Proofs.YtfldlcnlijljcaaGreatDoor
open Go.RowKit

theorem infoI : (Tryz.prog.info? 3).map (fun i => (i.zero, i.size, i.bytes)) = some (some (.int .i64 0), 1, 8) := by kernel_rfl
/-- A row of digits that reads as a number of at most one digit. -/
def Sm (w : World) (a : Option Addr) (k n : Nat) : Prop :=
  (k = 0 ∧ n = 0) ∨ (k = 1 ∧ 0 < n ∧ n < 1000000000 ∧ ∃ b off, a = some ⟨b, off, none⟩ ∧ b < w.heap.size ∧ w.cell? ⟨b, off, none⟩ = some (.int .i64 n))
theorem Sm.below {w w' : World} {a : Option Addr} {k n : Nat} (h : Sm w a k n) (hb : Below w.heap.size w w') : Sm w' a k n := by
  rcases h with h | ⟨h1, h2, h3, b, off, e, hl, hc⟩
  · exact .inl h
  · exact .inr ⟨h1, h2, h3, b, off, e, Nat.lt_of_lt_of_le hl hb.size, by rw [hb.cell (p := ⟨b, off, none⟩) hl]; exact hc⟩
theorem Sm.zero (w : World) (a : Option Addr) : Sm w a 0 0 := .inl ⟨rfl, rfl⟩
theorem Sm.nul {w : World} {a : Option Addr} {k : Nat} (h : Sm w a k 0) : k = 0 := by
  rcases h with ⟨h, _⟩ | ⟨_, h, _⟩
  · exact h
  · omega
theorem Sm.pos {w : World} {a : Option Addr} {k n : Nat} (h : Sm w a k n) (hn : 0 < n) : k = 1 ∧ n < 1000000000 ∧ ∃ b off, a = some ⟨b, off, none⟩ ∧ b < w.heap.size ∧ w.cell? ⟨b, off, none⟩ = some (.int .i64 n) := by
  rcases h with ⟨_, h⟩ | ⟨h1, _, h3, h4⟩
  · omega
  · exact ⟨h1, h3, h4⟩
theorem Sm.lt {w : World} {a : Option Addr} {k n : Nat} (h : Sm w a k n) : n < 1000000000 := by
  rcases h with ⟨_, h⟩ | ⟨_, _, h, _⟩
  · omega
  · exact h
def SmPost (n : Nat) (w : World) (e : Ending) (w' : World) : Prop := ∃ a k c, e = .returned (.slice a k c) ∧ Sm w' a k n ∧ Below w.heap.size w w'
theorem small_zero (w : World) : Calls Tryz.prog 27 #[.int .i64 0] w (SmPost 0 w) := by
  go_enter Tryz.func27, Tryz.ntmps27
  go_wp2
  go_loop [0, 3] (fun n v => n = .int .i64 0 ∧ v = .slice none 0 0) (fun _ _ => 0)
  case atStart => exact ⟨rfl, rfl⟩
  case round =>
    obtain ⟨rfl, rfl⟩ := hrel
    go_wp2
    go_ret
    exact ⟨none, 0, 0, rfl, Sm.zero _ _, Below.refl _ _⟩
set_option maxRecDepth 100000 in
set_option maxHeartbeats 1000000 in
theorem small_pos (n : Nat) (w : World) (h0 : 0 < n) (hn : n < 1000000000) : Calls Tryz.prog 27 #[.int .i64 n] w (SmPost n w) := by
  obtain ⟨i0, hi, hz0, hz1, hz2⟩ := info_parts infoI
  have hp : (0 : Int) < (n : Int) := by omega
  have hq : (n : Int).tdiv 1000000000 = 0 := by rw [Int.tdiv_eq_ediv_of_nonneg (by omega)]; omega
  have hr : (n : Int).tmod 1000000000 = n := by rw [Int.tmod_eq_emod_of_nonneg (by omega)]; omega
  have HN := Lib.hid hn
  have H0 := Lib.hid h0
  clear hn h0
  go_enter Tryz.func27, Tryz.ntmps27
  go_wp2
  go_loopw [0, 3] (fun x v wr => (x = .int .i64 n ∧ v = .slice none 0 0 ∧ Hid (wr = w)) ∨ (x = .int .i64 0 ∧ ∃ a k c, v = .slice a k c ∧ Hid (Sm wr a k n ∧ Below w.heap.size w wr))) (fun x _ _ => (intOf x).toNat)
  case atStart => exact .inl ⟨rfl, rfl, rfl⟩
  case round =>
    rcases hrel with ⟨rfl, rfl, hw⟩ | ⟨rfl, a, k, c, rfl, hS⟩
    · obtain rfl := hw.out
      go_wp2_with (at_builtin; refine wpList_append_own _ rfl _ _ 43 rfl wr.heap.size 3 i0 (.int .i64 0) 1 8 Tryz.underlying43 hi hz0 hz1 hz2 rfl (by decide) _ _ _ rfl (World.ownsRow_nil _ _ _ _) ⟨wr.heap.size, 0, none⟩ 1 1 [.int .i64 n] rfl rfl ?c1 ?c2 ?c3 ?c4 ?c5 ?_)
      case c2 => first | (intro u hu; simp at hu; subst hu; rfl) | rfl | trivial
      case c3 => first | (unfold maxLen; omega) | decide
      intro v' w1 hown' hgrow _
      obtain ⟨g, cap, rfl, hgB, hgs, hcell⟩ := own_open hown' (by omega)
      have hS : Hid (Sm w1 (some ⟨g, 0, none⟩) 1 n ∧ Below wr.heap.size wr w1) := by
        refine ⟨.inr ⟨rfl, H0.out, HN.out, g, 0, rfl, hgs, hcell 0 _ rfl⟩, ?_⟩
        exact ((Below.refl _ _).alloc (Nat.le_refl _) (.cells #[.int .i64 n] 3)).grown hgrow (by simp) (fun b hb => by simp [Value.ownBlock] at hb)
      clear hown' hgrow hcell
      go_wp2
      go_roundw
      case rel => exact .inr ⟨by simp, _, _, _, rfl, hS⟩
      case measure => simp [intOf]; have := H0.out; omega
    · go_wp2
      go_ret
      exact ⟨a, k, c, rfl, hS.out.1, hS.out.2⟩
theorem small_c (n : Nat) (w : World) (hn : n < 1000000000) : Calls Tryz.prog 27 #[.int .i64 n] w (SmPost n w) := by
  rcases Nat.eq_zero_or_pos n with h | h
  · subst h; exact small_zero w
  · exact small_pos n w h hn
end Go.Proofs.YtfldlcnlijljcaaGreatDoor
namespace Go.Proofs.YtfldlcnlijljcaaGreatDoor
open Go.RowKit

/-- A row of one digit, that may be 0, before its zeros go. -/
theorem rtrim_c (b o c n : Nat) (w : World) (h1 : 1 ≤ c) (hc9 : c ≤ 9223372036854775807) (hn : n < 1000000000) (hb : b < w.heap.size) (hc : w.cell? ⟨b, o, none⟩ = some (.int .i64 n)) :
    Calls Tryz.prog 46 #[.slice (some ⟨b, o, none⟩) 1 c] w (SmPost n w) := by
  have HB := Lib.hid hb
  have HN := Lib.hid hn
  clear hb hn
  by_cases h0 : n = 0
  · subst h0
    go_enter Tryz.func46, Tryz.ntmps46
    go_wp2
    go_loop [3] (fun i => ∃ k : Nat, k ≤ 1 ∧ i = .int .i64 k) (fun i => (intOf i).toNat)
    case atStart => exact ⟨1, Nat.le_refl _, rfl⟩
    case round =>
      obtain ⟨k, hk, rfl⟩ := hrel
      rcases Nat.eq_zero_or_pos k with h | h
      · subst h
        go_wp2
        go_ret
        exact ⟨_, 0, c, rfl, Sm.zero _ _, Below.refl _ _⟩
      · obtain rfl : k = 1 := by omega
        go_wp2
        go_round
        case rel => exact ⟨0, by omega, rfl⟩
        case measure => simp [intOf]
  · have d : ((n : Int) == 0) = false := by rw [beq_eq_false_iff_ne]; omega
    have d' : (n == 0) = false := by rw [beq_eq_false_iff_ne]; omega
    have HP := Lib.hid (Nat.pos_of_ne_zero h0)
    have HC := Lib.hid hc
    clear h0
    go_enter Tryz.func46, Tryz.ntmps46
    go_wp2
    go_loop [3] (fun i => i = .int .i64 1) (fun _ => 0)
    case atStart => rfl
    case round =>
      obtain rfl := hrel
      go_wp2
      go_ret
      exact ⟨_, 1, c, rfl, .inr ⟨rfl, HP.out, HN.out, b, o, rfl, HB.out, HC.out⟩, Below.refl _ _⟩
theorem rtrim_zero (a : Option Addr) (c : Nat) (w : World) : Calls Tryz.prog 46 #[.slice a 0 c] w (SmPost 0 w) := by
  go_enter Tryz.func46, Tryz.ntmps46
  go_wp2
  go_loop [3] (fun i => i = .int .i64 0) (fun _ => 0)
  case atStart => rfl
  case round =>
    obtain rfl := hrel
    go_wp2
    go_ret
    exact ⟨_, 0, _, rfl, Sm.zero _ _, Below.refl _ _⟩
theorem rorder_c (a1 a2 : Option Addr) (c1 c2 k1 k2 n1 n2 : Nat) (w : World) (h1 : Sm w a1 k1 n1) (h2 : Sm w a2 k2 n2) :
    Calls Tryz.prog 33 #[.slice a1 k1 c1, .slice a2 k2 c2] w fun e w' => e = .returned (.int .i64 (sgn n1 n2)) ∧ ∃ q, w' = w.drewN q := by
  rcases h1 with ⟨rfl, rfl⟩ | ⟨rfl, p1, m1, b1, o1, rfl, _, g1⟩
  · rcases h2 with ⟨rfl, rfl⟩ | ⟨rfl, p2, m2, b2, o2, rfl, _, g2⟩
    · go_enter Tryz.func33, Tryz.ntmps33
      go_wp2
      go_loop [5] (fun i => i = .int .i64 (-1)) (fun _ => 0)
      case atStart => rfl
      case round =>
        obtain rfl := hrel
        go_wp2
        go_ret
        exact ⟨rfl, 0, rfl⟩
    · have e : sgn 0 n2 = -1 := by unfold sgn; rw [if_pos p2]
      rw [e]
      clear e
      go_enter Tryz.func33, Tryz.ntmps33
      go_wp2
      go_ret
      exact ⟨rfl, 0, rfl⟩
  · rcases h2 with ⟨rfl, rfl⟩ | ⟨rfl, p2, m2, b2, o2, rfl, _, g2⟩
    · have e : sgn n1 0 = 1 := by unfold sgn; rw [if_neg (by omega), if_pos p1]
      rw [e]
      clear e
      go_enter Tryz.func33, Tryz.ntmps33
      go_wp2
      go_ret
      exact ⟨rfl, 0, rfl⟩
    · rcases Nat.lt_trichotomy n1 n2 with h | h | h
      · have e : sgn n1 n2 = -1 := by unfold sgn; rw [if_pos h]
        have h2 : (n1 : Int) < (n2 : Int) := by omega
        have hb : ((n1 : Int) == (n2 : Int)) = false := by simp; omega
        have hb' : (n1 == n2) = false := by simp; omega
        rw [e]
        clear e m1 m2 p1 p2 h
        go_enter Tryz.func33, Tryz.ntmps33
        go_wp2
        go_loop [5] (fun i => i = .int .i64 0) (fun _ => 0)
        case atStart => rfl
        case round =>
          obtain rfl := hrel
          go_wp2
          go_quiet (fail)
          go_wp2
          go_quiet (fail)
          go_wp2
          go_ret
          exact ⟨rfl, _, drewN_drewN _ _ _⟩
      · subst h
        have e : sgn n1 n1 = 0 := by unfold sgn; rw [if_neg (by omega), if_neg (by omega)]
        rw [e]
        clear e m1 m2 p1 p2
        go_enter Tryz.func33, Tryz.ntmps33
        go_wp2
        go_loopw [5] (fun i wr => (i = .int .i64 0 ∧ wr = w) ∨ (i = .int .i64 (-1) ∧ ∃ q, wr = w.drewN q)) (fun i _ => (intOf i + 1).toNat)
        case atStart => exact .inl ⟨rfl, rfl⟩
        case round =>
          rcases hrel with ⟨rfl, rfl⟩ | ⟨rfl, hq⟩
          · go_wp2
            go_quiet (fail)
            go_wp2
            go_roundw
            case rel => exact .inr ⟨rfl, _, rfl⟩
            case measure => simp [intOf]
          · have HQ := Lib.hid hq
            clear hq
            go_wp2
            go_ret
            exact ⟨rfl, HQ.out⟩
      · have e : sgn n1 n2 = 1 := by unfold sgn; rw [if_neg (by omega), if_pos h]
        have h2 : ¬ (n1 : Int) < (n2 : Int) := by omega
        have hb : ((n1 : Int) == (n2 : Int)) = false := by simp; omega
        have hb' : (n1 == n2) = false := by simp; omega
        rw [e]
        clear e m1 m2 p1 p2 h
        go_enter Tryz.func33, Tryz.ntmps33
        go_wp2
        go_loop [5] (fun i => i = .int .i64 0) (fun _ => 0)
        case atStart => rfl
        case round =>
          obtain rfl := hrel
          go_wp2
          go_quiet (fail)
          go_wp2
          go_quiet (fail)
          go_wp2
          go_ret
          exact ⟨rfl, _, drewN_drewN _ _ _⟩
/-- A number of one digit, divided: the quotient's digits and the rest. -/
def ShPost (q r : Nat) (w : World) (e : Ending) (w' : World) : Prop := ∃ a k c, e = .returned (.tuple #[.slice a k c, .int .i64 r]) ∧ Sm w' a k q ∧ Below w.heap.size w w'
theorem rshort_zero (a : Option Addr) (c d : Nat) (w : World) (hd : 0 < d) :
    Calls Tryz.prog 52 #[.slice a 0 c, .int .i64 d] w (ShPost (0 / d) (0 % d) w) := by
  have hmk := run_make_row' (P := Tryz.prog) 43 3 (.int .i64 0) 8 Tryz.underlying43 infoI rfl .i64 .i64 0 (by omega) (by omega)
  have hmk' : ∀ w : World, (Instr.makeSlice 43 (.int .i64 0) (.int .i64 0)).run Tryz.prog w = .ok (.slice (some ⟨w.heap.size, 0, none⟩) 0 0) (w.alloc (.cells (madeCells #[.int .i64 0] 0) 3)) := fun w => by simpa using hmk w
  clear hmk hd
  go_enter Tryz.func52, Tryz.ntmps52
  go_wp2_with fail
  have hB := Lib.hid (show Below w.heap.size w (w.alloc (.cells (madeCells #[.int .i64 0] 0) 3)) from (Below.refl _ _).alloc (Nat.le_refl _) _)
  generalize w.alloc (.cells (madeCells #[.int .i64 0] 0) 3) = w1 at hB
  clear hmk'
  go_loop [7, 8] (fun r i => r = .int .i64 0 ∧ i = .int .i64 (-1)) (fun _ _ => 0)
  case atStart => exact ⟨rfl, rfl⟩
  case round =>
    obtain ⟨rfl, rfl⟩ := hrel
    go_wp2_with fail
    refine (rtrim_zero _ _ _).mono ?_
    rintro e w2 ⟨a2, k2, c2, rfl, hl, b2⟩
    have HL := Lib.hid hl
    have HB := Lib.hid (hB.out.trans (b2.mono hB.out.size))
    clear hl b2
    go_wp2
    go_ret2
    exact ⟨a2, k2, c2, by simp, by simpa using HL.out, HB.out⟩
set_option maxRecDepth 100000 in
set_option maxHeartbeats 1000000 in
theorem rshort_c (a : Option Addr) (k c n d : Nat) (w : World) (h : Sm w a k n) (hd : 0 < d) :
    Calls Tryz.prog 52 #[.slice a k c, .int .i64 d] w (ShPost (n / d) (n % d) w) := by
  rcases h with ⟨rfl, rfl⟩ | ⟨rfl, p1, m1, b1, o1, rfl, hb, g1⟩
  · exact rshort_zero a c d w hd
  · have hmk := run_make_row' (P := Tryz.prog) 43 3 (.int .i64 0) 8 Tryz.underlying43 infoI rfl .i64 .i64 1 (by omega) (by omega)
    have hmk' : ∀ w : World, (Instr.makeSlice 43 (.int .i64 1) (.int .i64 1)).run Tryz.prog w = .ok (.slice (some ⟨w.heap.size, 0, none⟩) 1 1) (w.alloc (.cells (madeCells #[.int .i64 0] 1) 3)) := fun w => by simpa using hmk w
    clear hmk
    have hn9 : Hid (n / d < 1000000000) := Nat.lt_of_le_of_lt (Nat.div_le_self n d) m1
    have hq : (n : Int).tdiv (d : Int) = ((n / d : Nat) : Int) := by rw [Int.tdiv_eq_ediv_of_nonneg (by omega)]; exact (Int.natCast_ediv n d).symm
    have hr : (n : Int).tmod (d : Int) = ((n % d : Nat) : Int) := by rw [Int.tmod_eq_emod_of_nonneg (by omega)]; exact (Int.natCast_emod n d).symm
    have hd' : (0 : Int) < (d : Int) := by omega
    have hm1 : (n : Int) < 1000000000 := by omega
    have HQ : Hid (n / d = n / d) := rfl
    have hqle : n / d ≤ n := Nat.div_le_self n d
    generalize hqq : n / d = q at *
    generalize hrr : n % d = r at *
    clear hqq hrr HQ
    go_enter Tryz.func52, Tryz.ntmps52
    go_wp2_with fail
    have hB := Lib.hid (show Below w.heap.size w (w.alloc (.cells (madeCells #[.int .i64 0] 1) 3)) from (Below.refl _ _).alloc (Nat.le_refl _) _)
    have hC : Hid ((w.alloc (.cells (madeCells #[.int .i64 0] 1) 3)).cell? ⟨w.heap.size, 0, none⟩ = some (.int .i64 0)) := by
      unfold Hid; rw [World.cell?_alloc_new]; rw [← Array.getElem?_toList, toList_madeCells_one]; simp
    have hF : Hid ((w.alloc (.cells (madeCells #[.int .i64 0] 1) 3)).frozen? ⟨w.heap.size, 0, none⟩ = false) := by unfold Hid; simp
    have hS : Hid (w.heap.size < (w.alloc (.cells (madeCells #[.int .i64 0] 1) 3)).heap.size) := by unfold Hid; simp
    have hg : Hid ((w.alloc (.cells (madeCells #[.int .i64 0] 1) 3)).cell? ⟨b1, o1, none⟩ = some (.int .i64 n)) := by unfold Hid; rw [World.cell?_alloc_lt _ _ _ hb]; exact g1
    generalize w.alloc (.cells (madeCells #[.int .i64 0] 1) 3) = w1 at *
    clear hmk' g1 hb
    go_loopw [7, 8] (fun x i wr => (x = .int .i64 0 ∧ i = .int .i64 0 ∧ Hid (wr = w1)) ∨ (x = .int .i64 r ∧ i = .int .i64 (-1) ∧ Hid (wr = w1.setCell ⟨w.heap.size, 0, none⟩ (.int .i64 q)))) (fun _ i _ => (intOf i + 1).toNat)
    case atStart => exact .inl ⟨rfl, rfl, rfl⟩
    case round =>
      rcases hrel with ⟨rfl, rfl, hw⟩ | ⟨rfl, rfl, hw⟩
      · have c1 : wr.cell? ⟨w.heap.size, 0, none⟩ = some (.int .i64 0) := by rw [hw.out]; exact hC.out
        have c2 : wr.cell? ⟨b1, o1, none⟩ = some (.int .i64 n) := by rw [hw.out]; exact hg.out
        have c3 : wr.frozen? ⟨w.heap.size, 0, none⟩ = false := by rw [hw.out]; exact hF.out
        go_wp2
        go_roundw
        case rel => exact .inr ⟨by first | rfl | simp, rfl, by rw [hw.out]; rfl⟩
        case measure => simp [intOf]
      · have hb2 : Hid (Below w.heap.size w wr) := by unfold Hid; rw [hw.out]; exact hB.out.setCell (p := ⟨w.heap.size, 0, none⟩) (Nat.le_refl _) _
        have hc2 : wr.cell? ⟨w.heap.size, 0, none⟩ = some (.int .i64 q) := by
          rw [hw.out]; exact World.cell?_setCell_same _ _ _ hC.out
        have hs2 : Hid (w.heap.size < wr.heap.size) := by unfold Hid; rw [hw.out]; simpa using hS.out
        have HC2 := Lib.hid hc2
        clear hc2 hw
        go_wp2_with fail
        refine (rtrim_c w.heap.size 0 1 q wr (Nat.le_refl _) (by omega) hn9.out hs2.out HC2.out).mono ?_
        rintro e w2 ⟨a2, k2, c2, rfl, hl, b2⟩
        have HL := Lib.hid hl
        have HB := Lib.hid (hb2.out.trans (b2.mono hb2.out.size))
        clear hl b2
        go_wp2
        go_ret2
        exact ⟨a2, k2, c2, rfl, HL.out, HB.out⟩
end Go.Proofs.YtfldlcnlijljcaaGreatDoor
namespace Go.Proofs.YtfldlcnlijljcaaGreatDoor
open Go.RowKit

def PqDvPost (q r : Nat) (w : World) (e : Ending) (w' : World) : Prop := ∃ a k c b m c2, e = .returned (.tuple #[.slice a k c, .slice b m c2]) ∧ Sm w' a k q ∧ Sm w' b m r ∧ Below w.heap.size w w'
set_option maxHeartbeats 1000000 in
theorem rdivide_c (a1 a2 : Option Addr) (c1 c2 k1 k2 n d : Nat) (w : World) (h1 : Sm w a1 k1 n) (h2 : Sm w a2 k2 d) (hd : 0 < d) :
    Calls Tryz.prog 41 #[.slice a1 k1 c1, .slice a2 k2 c2] w (PqDvPost (n / d) (n % d) w) := by
  have HO := Lib.hid (fun W (x : Sm W a1 k1 n) (y : Sm W a2 k2 d) => rorder_c a1 a2 c1 c2 k1 k2 n d W x y)
  have H1 := Lib.hid h1
  have H2 := Lib.hid h2
  by_cases hlt : n < d
  · have es : sgn n d = -1 := by unfold sgn; rw [if_pos hlt]
    rw [es] at HO
    have e1 : Hid (n / d = 0) := Nat.div_eq_of_lt hlt
    have e2 : Hid (n % d = n) := Nat.mod_eq_of_lt hlt
    clear h1 h2 hd hlt es
    go_enter Tryz.func41, Tryz.ntmps41
    go_wp2_with fail
    refine (HO.out _ H1.out H2.out).mono ?_
    rintro e w1 ⟨rfl, q, rfl⟩
    have HL := Lib.hid (H1.out.below (below_drew w q))
    have HB := Lib.hid (below_drew w q)
    rw [e1.out, e2.out]
    generalize w.drewN q = w2 at *
    go_wp2
    go_ret2
    exact ⟨none, 0, 0, a1, k1, c1, rfl, by first | exact Sm.zero _ _ | (rw [e1.out]; exact Sm.zero _ _), by first | exact HL.out | (rw [e2.out]; exact HL.out), HB.out⟩
  · have es : decide (sgn n d < 0) = false := by rw [sgn_ltd]; simp; omega
    obtain ⟨rfl, hd9, b2, o2, rfl, hb2, g2⟩ := h2.pos hd
    have HS := Lib.hid (fun W (x : Sm W a1 k1 n) => rshort_c a1 k1 c1 n d W x hd)
    have HSM := Lib.hid (fun W => small_c (n % d) W (Nat.lt_trans (Nat.mod_lt n hd) hd9))
    have HG := Lib.hid g2
    clear h1 h2 hd hlt hb2 hd9 g2
    generalize n % d = r at *
    generalize sgn n d = s at *
    go_enter Tryz.func41, Tryz.ntmps41
    go_wp2_with fail
    refine (HO.out _ H1.out H2.out).mono ?_
    rintro e w1 ⟨rfl, q, rfl⟩
    have HL := Lib.hid (H1.out.below (below_drew w q))
    have HB := Lib.hid (below_drew w q)
    have hg : (w.drewN q).cell? ⟨b2, o2, none⟩ = some (.int .i64 d) := HG.out
    generalize w.drewN q = w2 at *
    go_wp2_with fail
    clear hg
    refine (HS.out _ HL.out).mono ?_
    rintro e w3 ⟨a3, k3, c3, rfl, l3, b3⟩
    have L3 := Lib.hid l3
    have B3 := Lib.hid (HB.out.trans (b3.mono HB.out.size))
    clear l3 b3
    go_wp2_with fail
    refine (HSM.out _).mono ?_
    rintro e w4 ⟨a4, k4, c4, rfl, l4, b4⟩
    have L34 := Lib.hid (L3.out.below b4)
    have L4 := Lib.hid l4
    have B4 := Lib.hid (B3.out.trans (b4.mono B3.out.size))
    clear l4 b4
    go_wp2
    go_ret2
    exact ⟨a3, k3, c3, a4, k4, c4, rfl, L34.out, L4.out, B4.out⟩
/-- What a row of digits reads as. -/
def rdN (w : World) : Value → Nat
  | .slice (some p) 1 _ => match w.cell? p with | some (.int _ n) => n.toNat | _ => 0
  | _ => 0
theorem Sm.rdN {w : World} {a : Option Addr} {k n c : Nat} (h : Sm w a k n) : rdN w (.slice a k c) = n := by
  rcases h with ⟨rfl, rfl⟩ | ⟨rfl, _, _, b, off, rfl, _, hc⟩
  · simp [Go.Proofs.YtfldlcnlijljcaaGreatDoor.rdN]
  · simp [Go.Proofs.YtfldlcnlijljcaaGreatDoor.rdN, hc]
set_option maxHeartbeats 1000000 in
theorem divisor_c (a1 a2 : Option Addr) (c1 c2 k1 k2 n m : Nat) (w : World) (h1 : Sm w a1 k1 n) (h2 : Sm w a2 k2 m) :
    Calls Tryz.prog 40 #[.slice a1 k1 c1, .slice a2 k2 c2] w (SmPost (Nat.gcd n m) w) := by
  have H1 := Lib.hid h1
  have H2 := Lib.hid h2
  clear h1 h2
  go_enter Tryz.func40, Tryz.ntmps40
  go_wp2
  go_loopw [0, 1] (fun u v wr => ∃ a k c x b k2 c2 y, u = .slice a k c ∧ v = .slice b k2 c2 ∧ Hid (Sm wr a k x ∧ Sm wr b k2 y ∧ Nat.gcd x y = Nat.gcd n m ∧ Below w.heap.size w wr)) (fun _ v wr => rdN wr v)
  case atStart => exact ⟨_, _, _, n, _, _, _, m, rfl, rfl, H1.out, H2.out, rfl, Below.refl _ _⟩
  case round =>
    obtain ⟨a, k, c, x, b, k2, c2, y, rfl, rfl, hS⟩ := hrel
    rcases Nat.eq_zero_or_pos y with hy | hy
    · subst hy
      obtain rfl := hS.out.2.1.nul
      go_wp2
      go_ret
      exact ⟨a, k, c, rfl, by have h := hS.out.2.2.1; rw [Nat.gcd_zero_right] at h; rw [← h]; exact hS.out.1, hS.out.2.2.2⟩
    · have hk : k2 = 1 := (hS.out.2.1.pos hy).1
      subst hk
      have HY := Lib.hid hy
      clear hy
      go_wp2_with fail
      refine (rdivide_c a b c c2 k 1 x y wr hS.out.1 hS.out.2.1 HY.out).mono ?_
      rintro e w3 ⟨a3, k3, c3, a4, k4, c4, rfl, l3, l4, b3⟩
      have HF : Hid (Sm w3 b 1 y ∧ Sm w3 a4 k4 (x % y) ∧ Nat.gcd y (x % y) = Nat.gcd n m ∧ Below w.heap.size w w3) :=
        ⟨hS.out.2.1.below b3, l4, by rw [← hS.out.2.2.1, Nat.gcd_comm x y, Nat.gcd_rec y x, Nat.gcd_comm], hS.out.2.2.2.trans (b3.mono hS.out.2.2.2.size)⟩
      have HM : Hid (rdN w3 (.slice a4 k4 c4) < rdN wr (.slice b 1 c2)) := by
        unfold Hid
        rw [l4.rdN, hS.out.2.1.rdN]
        exact Nat.mod_lt x HY.out
      clear l3 l4 b3
      go_wp2
      exact ⟨⟨_, _, _, y, _, _, _, x % y, rfl, rfl, HF⟩, HM.out⟩
end Go.Proofs.YtfldlcnlijljcaaGreatDoor
