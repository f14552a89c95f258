/-
  The decimal text of a number of one limb: Text.
-/
import Derived.Test.YtecbkfmdpgkdiaaGreatDoorRatText
import Derived.Laws.IdiomStrings
namespace Go.Proofs.YtecbkfmdpgkdiaaGreatDoor
open Go.RowKit

theorem digit_toNat {d : Nat} (h : d < 10) : (UInt8.ofNat (48 + d)).toNat = 48 + d := by
  rw [UInt8.toNat_ofNat']; omega
theorem pads_padL (n : Nat) : pads n 19 = (padL 19 n).map fun x => Value.int .u8 x.toNat := by
  unfold pads padL
  rw [List.map_map]
  refine List.map_congr_left fun i hi => ?_
  have hi := List.mem_range.1 hi
  have e : 19 - 1 - i = 18 - i := by omega
  simp only [Function.comp]
  rw [e, pw_eq (by omega), digit_toNat (Nat.mod_lt _ (by decide))]
theorem padL_length (m n : Nat) : (padL m n).length = m := by simp [padL]
/-- An owned row of one-celled elements, as its cells. -/
theorem own_open {w : World} {B n : Nat} {e : TypeId} {v : Value} {xs : List Value} (h : w.ownsRow B e 1 v n xs) (hn : 0 < n) :
    ∃ g cap, v = .slice (some ⟨g, 0, none⟩) n cap ∧ B ≤ g ∧ g < w.heap.size ∧ ∀ j u, xs[j]? = some u → w.cell? ⟨g, j, none⟩ = some u := by
  have hc := fun (g : Nat) (hg : v.ownBlock = some g) => World.ownsRow.cells h hg
  obtain ⟨hl, h | ⟨g, cap, cur, rfl, hb, hg, hnc, hm, hs, ht⟩⟩ := h
  · omega
  · exact ⟨g, cap, rfl, hb, lt_of_block hg, fun j u hj => by have t := hc g rfl j u hj; by_cases h0 : j = 0 <;> simpa [Addr.add, h0] using t⟩
/-- The one chunk of Text. -/
structure One (B : Nat) (w0 : World) (n : Nat) (v : Value) (w : World) : Prop where
  row : w.ownsRow B 87 1 v 1 [.int .u64 n]
  bel : Below B w0 w
  size : B ≤ w.heap.size
def TextPost (n : Nat) (w : World) (e : Ending) (w' : World) : Prop := e = .returned (.string ⟨(Lib.decDigits n).toArray⟩) ∧ Below w.heap.size w w'
theorem Text_zero (a : Option Addr) (c : Nat) (w : World) : Calls Tryz.prog 47 #[.agg #[.bool false, .slice a 0 c]] w (TextPost 0 w) := by
  go_enter Tryz.func47, Tryz.ntmps47
  go_wp2
  go_ret
  exact ⟨by rw [Lib.decDigits_one (by decide)]; rfl, (Below.refl _ _).alloc (Nat.le_refl _) _⟩
set_option maxHeartbeats 2000000 in
theorem Text_c (a : Option Addr) (k c n : Nat) (w : World) (h : Lm w a k n) : Calls Tryz.prog 47 #[.agg #[.bool false, .slice a k c]] w (TextPost n w) := by
  rcases h with ⟨rfl, rfl⟩ | ⟨rfl, p1, m1, b1, o1, rfl, hb, g1⟩
  · exact Text_zero a c w
  · obtain ⟨i0, hi, hz0, hz1, hz2⟩ := info_parts infoU
    obtain ⟨j0, hj, hy0, hy1, hy2⟩ := info_parts infoB
    have HP := Lib.hid p1
    have HM := Lib.hid m1
    have HL : Hid (Lm w (some ⟨b1, o1, none⟩) 1 n) := .inr ⟨rfl, p1, m1, b1, o1, rfl, hb, g1⟩
    have HDQ : Hid (n / 10000000000000000000 = 0) := by unfold Hid; omega
    have HDR : Hid (n % 10000000000000000000 = n) := by unfold Hid; omega
    have HD := Lib.hid (fun W (hW : Lm W (some ⟨b1, o1, none⟩) 1 n) => divideShort_c (some ⟨b1, o1, none⟩) 1 c n 10000000000000000000 W hW (by decide))
    clear p1 m1 hb g1
    obtain ⟨W1, hW1⟩ : ∃ W1, w.alloc (.cells #[.bool false, .slice (some ⟨b1, o1, none⟩) 1 c] 63) = W1 := ⟨_, rfl⟩
    have D0 : W1.cell? ⟨w.heap.size, 0, none⟩ = some (.bool false) := by rw [← hW1, World.cell?_alloc_at _ _ _ _ rfl]; rfl
    have D1 : W1.cell? ⟨w.heap.size, 1, none⟩ = some (.slice (some ⟨b1, o1, none⟩) 1 c) := by rw [← hW1, World.cell?_alloc_at _ _ _ _ rfl]; rfl
    have B1 : Hid (Below w.heap.size w W1) := by rw [← hW1]; exact (Below.refl _ _).alloc (Nat.le_refl _) _
    have S1 : Hid (w.heap.size + 1 ≤ W1.heap.size) := by rw [← hW1]; simp [Hid]
    have L1 := Lib.hid (HL.out.below B1.out)
    clear HL
    go_enter Tryz.func47, Tryz.ntmps47
    go_wp2_with fail
    clear hW1
    have HD0 := Lib.hid D0
    clear D0 D1
    go_loopw [3, 4] (fun v l wr => (v = .slice none 0 0 ∧ l = .slice (some ⟨b1, o1, none⟩) 1 c ∧ Hid (wr = W1)) ∨ (∃ a' c', l = .slice a' 0 c' ∧ Hid (One (w.heap.size + 1) W1 n v wr))) (fun _ l _ => match l with | .slice _ k _ => k | _ => 0)
    case atStart => exact .inl ⟨rfl, rfl, rfl⟩
    case round =>
      rcases hrel with ⟨rfl, rfl, hw⟩ | ⟨a', c', rfl, hO⟩
      · obtain rfl := hw.out
        go_wp2_with fail
        refine (HD.out _ L1.out).mono ?_
        rintro e w2 ⟨a2, k2, c2, rfl, l2, b2⟩
        rw [HDQ.out] at l2
        obtain rfl := l2.nul
        rw [HDR.out]
        have HB2 := Lib.hid b2
        clear l2 b2
        go_wp2_with (at_builtin; refine wpList_append_own _ rfl _ _ 61 rfl (w.heap.size + 1) 87 i0 (.int .u64 0) 1 8 Tryz.underlying61 hi hz0 hz1 hz2 rfl (by decide) _ _ _ rfl (World.ownsRow_nil _ _ _ _) ⟨w2.heap.size, 0, none⟩ 1 1 [.int .u64 n] rfl rfl ?c1 ?c2 ?c3 ?c4 ?c5 ?_)
        case c1 =>
          intro j u hj
          match j, hj with
          | 0, hj => simp at hj; subst hj; simp [Addr.add]
        case c2 => intro u hu; simp at hu; subst hu; rfl
        case c3 => unfold maxLen; omega
        case c4 => omega
        case c5 => have := HB2.out.size; have := S1.out; simp; omega
        intro v' w3 hown' hgrow _
        have hO : Hid (One (w.heap.size + 1) wr n v' w3) := by
          have s2 := HB2.out.size
          have s1 := S1.out
          have hb := ((HB2.out.mono s1).alloc (by omega) (.cells #[.int .u64 n] 87)).grown hgrow (by simp; omega) (fun b hb => by simp [Value.ownBlock] at hb)
          exact ⟨by simpa using hown', hb, Nat.le_trans (by simp; omega) hgrow.size⟩
        clear hown' hgrow
        go_wp2
        go_roundw
        case rel => exact .inr ⟨_, _, rfl, hO⟩
        case measure => simp
      · obtain ⟨wp, rfl⟩ : ∃ wp, wp = wr := ⟨_, rfl⟩
        have HO := hO
        obtain ⟨g, cap, rfl, hgB, hgs, hcell⟩ := own_open hO.out.row (by decide)
        have hc0 : wp.cell? ⟨g, 0, none⟩ = some (.int .u64 n) := hcell 0 _ rfl
        have hx0 : wp.cell? ⟨w.heap.size, 0, none⟩ = some (.bool false) := by rw [hO.out.bel.cell (p := ⟨w.heap.size, 0, none⟩) (Nat.lt_succ_self _)]; exact HD0.out
        have HC0 := Lib.hid hc0
        have HX0 := Lib.hid hx0
        clear hc0 hx0 hcell hO
        go_wp2_with (at_make; refine wpList_make_own _ rfl _ _ 72 rfl wp.heap.size 5 j0 (.int .u8 0) 1 Tryz.underlying72 hj hy0 hy1 .i64 .i64 _ 19 rfl rfl (by first | rfl | omega | simp) (by rw [hy2]; omega) (by unfold maxLen; omega) (Nat.le_refl _) ?_; intro w0 hown0 hgrow0)
        have HO0 := Lib.hid hown0
        have HG0 := Lib.hid hgrow0
        have hc1 : w0.cell? ⟨g, 0, none⟩ = some (.int .u64 n) := HG0.out.cell HC0.out (by simp)
        have HC1 := Lib.hid hc1
        clear hc1 hown0 hgrow0
        go_loopw [6, 7] (fun d i wx => (d = .slice (some ⟨wp.heap.size, 0, none⟩) 0 19 ∧ i = .int .i64 0 ∧ Hid (wx = w0)) ∨ (i = .int .i64 (-1) ∧ Hid (Chunk wp.heap.size w0 n 19 d wx))) (fun _ i _ => (intOf i + 1).toNat)
        case atStart => exact .inl ⟨rfl, rfl, rfl⟩
        case round =>
          rcases hrel with ⟨rfl, rfl, hw⟩ | ⟨rfl, hC⟩
          · obtain rfl := hw.out
            have hc1 := HC1.out
            go_wp2_with fail
            refine (appendChunk_c _ n wp.heap.size _ HM.out HG0.out.size HO0.out).mono ?_
            rintro e w5 ⟨v5, rfl, h5⟩
            have H5 := Lib.hid h5
            clear h5 hc1
            go_wp2
            go_roundw
            case rel => exact .inr ⟨rfl, H5⟩
            case measure => simp [intOf]
          · have hrow := hC.out.row
            rw [pads_padL] at hrow
            obtain ⟨g5, cap5, rfl, hgB5, hgs5, hcell5⟩ := own_open hrow (by decide)
            have hcv := run_convert_bytes_back (P := Tryz.prog) wr 72 9 5 ⟨g5, 0, none⟩ cap5 (padL 19 n) Tryz.underlying72 Tryz.underlying5 Tryz.underlying9 (fun j hj => by
              have t := hcell5 j (.int .u8 (padL 19 n)[j].toNat) (by simp [List.getElem?_eq_getElem hj])
              by_cases h0 : j = 0 <;> simpa [Addr.add, h0] using t)
            rw [padL_length] at hcv
            go_wp2_with fail
            clear hcv hcell5 hrow
            have hT : Lib.trimLeftB (ByteArray.mk (padL 19 n).toArray).data.toList 48 = Lib.decDigits n := by
              show (padL 19 n).dropWhile (· == 48) = Lib.decDigits n
              exact trim_padL 19 n HP.out (Nat.lt_of_le_of_lt HM.out (by decide))
            have hx : wr.cell? ⟨w.heap.size, 0, none⟩ = some (.bool false) := by
              have s1 := S1.out
              have s2 := HO.out.bel.size
              have s3 := HG0.out.size
              rw [hC.out.bel.cell (p := ⟨w.heap.size, 0, none⟩) (show w.heap.size < _ by omega)]
              exact HG0.out.cell HX0.out (by simp)
            have HB : Hid (Below w.heap.size w wr) := by
              have s1 := S1.out
              have s2 := HO.out.bel.size
              have s3 := HG0.out.size
              have q1 := B1.out.trans (HO.out.bel.mono (Nat.le_succ _))
              have q2 := q1.grown HG0.out (by omega) (fun k hk => by simp at hk)
              exact q2.trans (hC.out.bel.mono (by omega))
            have HT := Lib.hid hT
            clear hT
            refine (Tryz.strings_TrimLeft_one ⟨(padL 19 n).toArray⟩ 48 (by decide) wr).mono ?_
            rintro e w9 ⟨rfl, rfl⟩
            rw [HT.out]
            go_wp2
            go_ret
            exact ⟨rfl, HB.out⟩
end Go.Proofs.YtecbkfmdpgkdiaaGreatDoor
