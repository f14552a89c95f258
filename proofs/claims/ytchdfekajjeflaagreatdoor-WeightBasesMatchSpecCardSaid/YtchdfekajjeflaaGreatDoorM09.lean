/-
  Decimal texts of numbers of any size: Text.
  Reading decimal texts of numbers of any size: readChunk.
  Reading decimal texts of numbers of any size: Read.
  Ratios of package value: the fraction that a ratio writes.
-/
import Derived.Test.YtchdfekajjeflaaGreatDoorM08
import Derived.Laws.IdiomStrings
import Derived.Maps.AppendAt
import Derived.Test.YtchdfekajjeflaaGreatDoorM01
import Derived.Lib.Bytealg
namespace Go.Proofs.YtchdfekajjeflaaGreatDoor
open Go.RowKit

/-- The text of a whole number. -/
def tz (z : Int) : List UInt8 := if z < 0 then 45 :: Lib.decDigits z.natAbs else Lib.decDigits z.natAbs
def tzB (z : Int) : ByteArray := ⟨(tz z).toArray⟩
def TzPost (z : Int) (w : World) (e : Ending) (w' : World) : Prop := e = .returned (.string (tzB z)) ∧ Below w.heap.size w w'
/-- An owned row of one-celled elements, as its cells. -/
theorem own_open {w : World} {B n : Nat} {e : TypeId} {v : Value} {xs : List Value} (h : w.ownsRow B e 1 v n xs) (hn : 0 < n) :
    ∃ g cap, v = .slice (some ⟨g, 0, none⟩) n cap ∧ B ≤ g ∧ g < w.heap.size ∧ ∀ j u, xs[j]? = some u → w.cell? ⟨g, j, none⟩ = some u := by
  have hc := fun (g : Nat) (hg : v.ownBlock = some g) => World.ownsRow.cells h hg
  obtain ⟨hl, h | ⟨g, cap, cur, rfl, hb, hg, hnc, hm, hs, ht⟩⟩ := h
  · omega
  · exact ⟨g, cap, rfl, hb, lt_of_block hg, fun j u hj => by have t := hc g rfl j u hj; by_cases h0 : j = 0 <;> simpa [Addr.add, h0] using t⟩
theorem own_keep {W W' : World} {base : Nat} {e : TypeId} {size : Nat} {v : Value} {n : Nat} {xs : List Value} (h : W.ownsRow base e size v n xs) (hb : Below W.heap.size W W') : W'.ownsRow base e size v n xs := by
  obtain ⟨hl, h | ⟨g, cap, cur, rfl, h1, hg, h2⟩⟩ := h
  · exact ⟨hl, .inl h⟩
  · exact ⟨hl, .inr ⟨g, cap, cur, rfl, h1, (hb.block g (lt_of_block hg)).trans hg, h2⟩⟩
def cvals (n m : Nat) : List Value := (List.range m).map fun i => Value.int .u64 (chunk n i : Int)
theorem cvals_succ (n m : Nat) : cvals n (m + 1) = cvals n m ++ [.int .u64 (chunk n m : Int)] := by unfold cvals; rw [List.range_succ, List.map_append]; rfl
theorem cvals_at {n m j : Nat} (h : j < m) : (cvals n m)[j]? = some (.int .u64 (chunk n j : Int)) := by unfold cvals; simp [h]
/-- The chunks so far, and what is left. -/
structure TxA (g0 : Nat) (W1 : World) (n j : Nat) (v : Value) (a : Option Addr) (k c : Nat) (w : World) : Prop where
  row : w.ownsRow g0 72 1 v j (cvals n j)
  lim : Nm w a k c (n / ch ^ j)
  bel : Below g0 W1 w
  size : g0 ≤ w.heap.size
  apart : ∀ b off, a = some ⟨b, off, none⟩ → some b ≠ v.ownBlock
  cnt : j ≤ 4000
set_option maxRecDepth 100000 in
theorem Text_zero (a : Option Addr) (c : Nat) (w : World) : Calls Tryz.prog 44 #[.agg #[.bool false, .slice a 0 c]] w (TzPost 0 w) := by
  go_enter Tryz.func44, Tryz.ntmps44
  go_wp2
  go_ret
  exact ⟨by
    have e : tzB 0 = ⟨#[48]⟩ := by unfold tzB tz; rw [if_neg (by decide), show (0 : Int).natAbs = 0 from rfl, Lib.decDigits_one (by decide)]; rfl
    rw [e]; rfl, bel_one _ _⟩
set_option maxRecDepth 100000 in
set_option maxHeartbeats 4000000 in
theorem Text_c (b : Bool) (a : Option Addr) (k c : Nat) (z : Int) (w : World) (h : Zn w b a k c z) (hz : z.natAbs < bp 2000) : Calls Tryz.prog 44 #[.agg #[.bool b, .slice a k c]] w (TzPost z w) := by
  rcases Nat.eq_zero_or_pos k with hk0 | hk0
  · subst hk0
    have hz0 := h.zero_len.1 rfl
    subst hz0
    obtain rfl : b = false := by rw [h.sign]; rfl
    exact Text_zero a c w
  · have hne : ((k : Int) == 0) = false := by rw [beq_eq_false_iff_ne]; omega
    have hne' : (k == 0) = false := by rw [beq_eq_false_iff_ne]; omega
    obtain ⟨i0, hi, hz0, hz1, hz2⟩ := info_limb
    obtain ⟨j0, hj, hy0, hy1, hy2⟩ := info_byte
    obtain ⟨n, hn⟩ : ∃ n, z.natAbs = n := ⟨_, rfl⟩
    have hN := h.nm
    rw [hn] at hN hz
    have hn0 : 0 < n := by
      have := hN.pos hk0
      have := bp_pos (k - 1)
      omega
    have HZ : Hid (∀ l, (if b then (45 : UInt8) :: l else l) = if z < 0 then 45 :: l else l) := by
      intro l
      have := h.sign
      by_cases e : z < 0
      · rw [this, if_pos e]; simp [e]
      · rw [this, if_neg e]; simp [e]
    have HN := Lib.hid hn
    have HBP := Lib.hid hz
    have HP := Lib.hid hn0
    obtain ⟨W1, hW1⟩ : ∃ W1, w.alloc (.cells #[.bool b, .slice a k c] 36) = W1 := ⟨_, rfl⟩
    have X1 : B2 W1 w.heap.size (.bool b) (.slice a k c) := by rw [← hW1]; exact B2.made _ _ _ _
    have B1 : Hid (Below w.heap.size w W1) := by rw [← hW1]; exact bel_one _ _
    have S1 : Hid (w.heap.size + 1 ≤ W1.heap.size) := by rw [← hW1]; simp [Hid]
    have A0 : Hid (TxA (w.heap.size + 1) W1 n 0 (.slice none 0 0) a k c W1) := ⟨World.ownsRow_nil _ _ _ _, by rw [Nat.pow_zero, Nat.div_one]; exact hN.below B1.out, Below.refl _ _, S1.out, (fun _ _ _ e => nomatch e), by omega⟩
    have D0 := Lib.hid X1.c0
    have d0 := X1.c0
    have d1 := X1.c1
    clear h hz hn hN hn0 X1 hk0
    go_enter Tryz.func44, Tryz.ntmps44
    go_wp2_with fail
    clear hW1 d0 d1 hne hne'
    go_loopw [3, 4] (fun v l wr => ∃ (j : Nat) (a' : Option Addr) (k' c' : Nat), l = .slice a' k' c' ∧ Hid (TxA (w.heap.size + 1) W1 n j v a' k' c' wr)) (fun _ l W => numAt W l)
    case atStart => exact ⟨0, a, k, c, rfl, A0.out⟩
    case round =>
      clear A0
      obtain ⟨j, a', k', c', rfl, hA⟩ := hrel
      rcases Nat.eq_zero_or_pos k' with e | e
      · subst e
        have hq0 : n / ch ^ j = 0 := by have h1 := hA.out.lim.lt; rw [bp_zero] at h1; exact Nat.lt_one_iff.1 h1
        have HTOP := Lib.hid (zero_next hq0)
        have hj0 : 0 < j := by
          rcases Nat.eq_zero_or_pos j with e | e
          · subst e; rw [Nat.pow_zero, Nat.div_one] at hq0; have := HP.out; omega
          · exact e
        have hjb := hA.out.cnt
        obtain ⟨g, cap, rfl, hgB, hgs, hcell⟩ := own_open hA.out.row hj0
        have HCELL : Hid (∀ p, p < j → wr.cell? ⟨g, p, none⟩ = some (.int .u64 (chunk n p : Int))) := fun p hp => hcell p _ (cvals_at hp)
        have HW := Lib.hid hA.out.bel
        have HSZ := Lib.hid hA.out.size
        have HGS := Lib.hid hgs
        have HLEN : Hid ((Lib.decDigits n).length ≤ 100000) := by
          unfold Hid
          rw [← trim_padL (19 * j) n HP.out HTOP.out]
          have h1 := (List.dropWhile_suffix (l := padL (19 * j) n) (· == (48 : UInt8))).length_le
          rw [padL_length] at h1
          omega
        clear hcell hq0 hA hgs
        obtain ⟨wp, rfl⟩ : ∃ wp, wp = wr := ⟨_, rfl⟩
        go_wp2_with (at_make; refine wpList_make_own _ rfl _ _ 88 rfl wp.heap.size 5 j0 (.int .u8 0) 1 Tryz.underlying88 hj hy0 hy1 .i64 .i64 _ (j * 19) rfl rfl (by first | rfl | omega | simp) (by rw [hy2]; omega) (by unfold maxLen; omega) (Nat.le_refl _) ?_; intro w0 hown0 hgrow0)
        have HG0 := Lib.hid hgrow0
        have HX0 : Hid (w0.cell? ⟨w.heap.size, 0, none⟩ = some (.bool b)) := by
          have e1 : wp.cell? ⟨w.heap.size, 0, none⟩ = some (.bool b) := by rw [HW.out.cell (p := ⟨w.heap.size, 0, none⟩) (Nat.lt_succ_self _)]; exact D0.out
          exact HG0.out.cell e1 (by simp)
        have HC0 : Hid (∀ p, p < j → w0.cell? ⟨g, p, none⟩ = some (.int .u64 (chunk n p : Int))) := fun p hp => HG0.out.cell (HCELL.out p hp) (by simp)
        have Y0 : Hid (Byt wp.heap.size w0 (padL (19 * (j - j)) (n / ch ^ j)) (.slice (some ⟨wp.heap.size, 0, none⟩) 0 (j * 19)) w0) := by
          rw [Nat.sub_self]
          exact ⟨hown0, Below.refl _ _, HG0.out.size⟩
        clear hown0 hgrow0 HCELL
        go_loopw [6, 7] (fun d i wx => ∃ t : Nat, t ≤ j ∧ i = .int .i64 ((t : Int) - 1) ∧ Hid (Byt wp.heap.size w0 (padL (19 * (j - t)) (n / ch ^ t)) d wx)) (fun _ i _ => (intOf i + 1).toNat)
        case atStart => exact ⟨j, Nat.le_refl _, rfl, Y0.out⟩
        case round =>
          clear Y0
          obtain ⟨t, ht, rfl, hY⟩ := hrel
          rcases Nat.eq_zero_or_pos t with et | et
          · subst et
            have hrow := hY.out.row
            rw [Nat.sub_zero, Nat.pow_zero, Nat.div_one, padL_length] at hrow
            obtain ⟨g5, cap5, rfl, hgB5, hgs5, hcell5⟩ := own_open hrow (by omega)
            have hcv := run_convert_bytes_back (P := Tryz.prog) wr 88 9 5 ⟨g5, 0, none⟩ cap5 (padL (19 * j) n) Tryz.underlying88 Tryz.underlying5 Tryz.underlying9 (fun i hi => by
              have t := hcell5 i (.int .u8 (padL (19 * j) n)[i].toNat) (by unfold bvals; simp [List.getElem?_eq_getElem hi])
              by_cases h0 : i = 0 <;> simpa [Addr.add, h0] using t)
            rw [padL_length] at hcv
            go_wp2_with fail
            clear hcv hcell5 hrow
            have HT : Hid (Lib.trimLeftB (ByteArray.mk (padL (19 * j) n).toArray).data.toList 48 = Lib.decDigits n) := trim_padL (19 * j) n HP.out HTOP.out
            have hx : wr.cell? ⟨w.heap.size, 0, none⟩ = some (.bool b) := by
              have s1 := S1.out
              have s2 := HW.out.size
              rw [hY.out.bel.cell (p := ⟨w.heap.size, 0, none⟩) (show w.heap.size < wp.heap.size by omega)]
              exact HX0.out
            have HB : Hid (Below w.heap.size w wr) := by
              have s1 := S1.out
              have s2 := HW.out.size
              have q1 := B1.out.trans (HW.out.mono (Nat.le_succ _))
              have q2 := q1.grown HG0.out (by omega) (fun k hk => by simp at hk)
              exact q2.trans (hY.out.bel.mono (by omega))
            refine (Tryz.strings_TrimLeft_one ⟨(padL (19 * j) n).toArray⟩ 48 (by decide) wr).mono ?_
            rintro e w9 ⟨rfl, rfl⟩
            rw [HT.out]
            have hsz : (⟨(Lib.decDigits n).toArray⟩ : ByteArray).size ≤ 100000 := by
              have := HLEN.out
              simpa [ByteArray.size] using this
            have HR : Hid (tz z = if b then 45 :: Lib.decDigits n else Lib.decDigits n) := by
              unfold Hid tz
              rw [HN.out, HZ.out]
            cases b
            · go_wp2
              have HE : Hid (tzB z = ⟨(Lib.decDigits n).toArray⟩) := by unfold Hid tzB; rw [HR.out]; rfl
              exact bodyPost_ret (v := .string ⟨(Lib.decDigits n).toArray⟩) (by simp [results, Tryz.results44, go_sem]) rfl ⟨by rw [HE.out], HB.out⟩
            · have hov : ¬ 9223372036854775807 < 1 + (Lib.decDigits n).length := by have := HLEN.out; omega
              have HE : Hid (tzB z = ⟨#[45]⟩ ++ ⟨(Lib.decDigits n).toArray⟩) := by
                unfold Hid tzB
                rw [HR.out, if_pos rfl]
                refine ByteArray.ext ?_
                rw [ByteArray.data_append]
                simp
              go_wp2
              exact bodyPost_ret (v := .string (⟨#[45]⟩ ++ ⟨(Lib.decDigits n).toArray⟩)) (by simp [results, Tryz.results44, go_sem]) rfl ⟨by rw [HE.out], HB.out⟩
          · obtain ⟨p, rfl⟩ : ∃ p, t = p + 1 := ⟨t - 1, by omega⟩
            have ei : ((p + 1 : Nat) : Int) - 1 = (p : Int) := by omega
            rw [ei]
            have hpj : p < j := by omega
            have hpj' : (p : Int) < (j : Int) := by omega
            have hc1 : wr.cell? ⟨g, p, none⟩ = some (.int .u64 (chunk n p : Int)) := by
              rw [hY.out.bel.cell (p := ⟨g, p, none⟩) HGS.out]; exact HC0.out p hpj
            have HPC := Lib.hid (padL_chunk n p (j - (p + 1)))
            have HAC := Lib.hid (fun d hy => appendChunk_c d (chunk n p) wp.heap.size (padL (19 * (j - (p + 1))) (n / ch ^ (p + 1))) w0 wr (chunk_lt n p) (by rw [padL_length]; omega) hy)
            generalize chunk n p = x at *
            go_wp2_with fail
            refine (HAC.out _ hY.out).mono ?_
            rintro e w5 ⟨v5, rfl, h5⟩
            have H5 : Hid (Byt wp.heap.size w0 (padL (19 * (j - p)) (n / ch ^ p)) v5 w5) := by
              rw [HPC.out, show j - (p + 1) + 1 = j - p by omega] at h5
              exact h5
            clear h5 hc1 hY HAC
            go_wp2
            go_roundw
            case rel => exact ⟨p, by omega, by go_num, H5.out⟩
            case measure => simp [intOf]
      · have ML := Lib.hid (numAt_is hA.out.lim)
        have hpos : Hid (0 < n / ch ^ j) := by
          have := hA.out.lim.pos e
          have := bp_pos (k' - 1)
          unfold Hid; omega
        have HJ : Hid (j < 4000) := chunks_few HBP.out hpos.out
        have HD : Hid (Calls Tryz.prog 67 #[.slice a' k' c', .int .u64 10000000000000000000] wr (ShortPost2 (n / ch ^ j) 10000000000000000000 wr)) := divideShort_f a' k' c' (n / ch ^ j) 10000000000000000000 wr hA.out.lim (by decide) (by decide)
        have hcl := chunk_lt n j
        have HCH : Hid (n / ch ^ j % 10000000000000000000 = chunk n j ∧ n / ch ^ j / 10000000000000000000 = n / ch ^ (j + 1)) := by
          rw [← ch_is]; exact ⟨rfl, chunk_next n j⟩
        have hk' : (0 : Int) < (k' : Int) := by omega
        go_wp2_with fail
        (with_reducible refine HD.out.mono ?_)
        rintro e w2 ⟨k2, c2, r, rfl, hr, l2, b2⟩
        rw [HCH.out.1] at hr
        subst hr
        rw [HCH.out.2] at l2
        have L2 := Lib.hid l2
        have R2 := Lib.hid (own_keep hA.out.row b2)
        have HOB := Lib.hid (World.ownsRow.lt hA.out.row)
        have HS3 := Lib.hid b2.size
        have HNEW : Hid (wr.heap.size < w2.heap.size ∨ k2 = 0) := by
          obtain ⟨f2, hr2, _⟩ := l2
          rcases Nat.eq_zero_or_pos k2 with e | e
          · exact .inr e
          · obtain ⟨b, off, e2, hl, _⟩ := hr2.2.2 e
            injection e2 with e2
            injection e2 with e2 _
            subst e2
            exact .inl hl
        have HB2 := Lib.hid (hA.out.bel.trans (b2.mono hA.out.size))
        have HS2 : Hid (w.heap.size + 1 ≤ w2.heap.size) := Nat.le_trans hA.out.size b2.size
        have HCV := Lib.hid (cvals_succ n j)
        clear l2 b2 hA HD
        generalize chunk n j = x at *
        go_wp2_with (at_builtin; refine wpList_append_own_at _ rfl _ _ 34 rfl (w.heap.size + 1) 72 i0 (.int .u64 0) 1 8 Tryz.underlying34 hi hz0 hz1 hz2 rfl (by decide) _ _ _ rfl (R2.out.alloc _) ⟨w2.heap.size, 0, none⟩ 1 1 [.int .u64 x] rfl rfl ?c1 ?c2 ?c3 ?c4 ?c5 ?_)
        case c1 =>
          intro j u hj
          match j, hj with
          | 0, hj => simp at hj; subst hj; simp [Addr.add]
        case c2 => intro u hu; simp at hu; subst hu; rfl
        case c3 => have := HJ.out; unfold maxLen; omega
        case c4 => have := HJ.out; omega
        case c5 => have := HS2.out; simp; omega
        intro v' w3 hown' hgrow _ hob
        have NX : Hid (TxA (w.heap.size + 1) W1 n (j + 1) v' (some ⟨wr.heap.size, 0, none⟩) k2 c2 w3) := by
          have s3 := HS3.out
          refine ⟨by rw [HCV.out]; exact hown', ?_, ?_, ?_, ?_, by have := HJ.out; omega⟩
          · refine (L2.out.below (bel_one w2 _)).grown hgrow (fun b off e hb => ?_)
            injection e with e
            injection e with e _
            subst e
            have := (HOB.out _ hb.symm).2
            omega
          · exact (HB2.out.alloc HS2.out (.cells #[.int .u64 x] 72)).grown hgrow (by simp; have := HS2.out; omega) (fun b hb => (HOB.out b hb).1)
          · exact Nat.le_trans (Nat.le_trans HS2.out (by simp)) hgrow.size
          · intro b off e hb
            injection e with e
            injection e with e _
            subst e
            rcases hob with h | h
            · rw [h] at hb
              have := (HOB.out _ hb.symm).2
              omega
            · rw [h] at hb
              injection hb with hb
              omega
        clear hown' hgrow
        go_wp2
        go_roundw
        case rel => exact ⟨j + 1, _, k2, c2, rfl, NX.out⟩
        case measure => rw [numAt_is NX.out.lim, ML.out, ← HCH.out.2]; exact Nat.div_lt_self hpos.out (by decide)
end Go.Proofs.YtchdfekajjeflaaGreatDoor
namespace Go.Proofs.YtchdfekajjeflaaGreatDoor
open Go.RowKit

theorem list_at (t : ByteArray) (j : Nat) (hj : j < t.size) : t.data.toList[j]? = some t[j] := by
  have h2 : j < t.data.size := hj
  simp only [Array.getElem?_toList, Array.getElem?_eq_getElem h2]
  rfl
set_option maxRecDepth 100000 in
set_option maxHeartbeats 1000000 in
theorem readChunk_c (t : ByteArray) (w : World) (hl : t.size ≤ 19) :
    Calls Tryz.prog 38 #[.string t] w fun e w' => ∃ v : Nat, e = .returned (.tuple #[.int .u64 (v : Int), .bool (digs t.data.toList)]) ∧ (digs t.data.toList = true → v = val t.data.toList) ∧ v < 18446744073709551616 ∧ w = w' := by
  obtain ⟨l, hL⟩ : ∃ l, t.data.toList = l := ⟨_, rfl⟩
  have hlen : l.length = t.size := by rw [← hL]; simp
  have HL := Lib.hid hL
  have HLEN := Lib.hid hlen
  rw [hL]
  clear hL hlen
  go_enter Tryz.func38, Tryz.ntmps38
  go_wp2
  go_loop [4, 8] (fun v i => ∃ (j m : Nat), j ≤ t.size ∧ i = .int .i64 j ∧ v = .int .u64 m ∧ m < 10000000000000000000 ∧ Hid (m = val (l.take j) ∧ digs (l.take j) = true)) (fun _ i => t.size - (intOf i).toNat)
  case atStart => exact ⟨0, 0, Nat.zero_le _, rfl, rfl, by omega, rfl, rfl⟩
  case round =>
    obtain ⟨j, m, hj, rfl, rfl, hm, hR⟩ := hrel
    by_cases hlt : j < t.size
    · have hlt' : (j : Int) < (t.size : Int) := by omega
      have hel := list_at t j hlt
      have hel2 : l[j]? = some t[j] := by rw [← HL.out]; exact hel
      have htk : l.take (j + 1) = l.take j ++ [t[j]] := by rw [List.take_add_one, hel2]; rfl
      have hmem : t[j] ∈ l := List.mem_of_getElem? hel2
      have hm18 : m < 1000000000000000000 := by
        have h1 := val_lt hR.out.2
        rw [← hR.out.1] at h1
        have h2 : (l.take j).length ≤ 18 := by rw [List.length_take]; omega
        have h3 : 10 ^ (l.take j).length ≤ 10 ^ 18 := Nat.pow_le_pow_right (by decide) h2
        omega
      by_cases hd : isDig t[j] = true
      · have hdi := isDig_iff.1 hd
        have NX : Hid (m * 10 + (t[j].toNat - 48) = val (l.take (j + 1)) ∧ digs (l.take (j + 1)) = true) := by
          refine ⟨by rw [htk, val_snoc, ← hR.out.1], ?_⟩
          rw [htk, digs_append, hR.out.2]
          simp [digs, hd]
        have x1 : (48 : Int) ≤ (t[j].toNat : Int) := by omega
        have x2 : (t[j].toNat : Int) ≤ 57 := by omega
        have x3 : ¬ (t[j].toNat : Int) < 48 := by omega
        have x4 : ¬ (57 : Int) < (t[j].toNat : Int) := by omega
        have hcast : ((m * 10 + (t[j].toNat - 48) : Nat) : Int) = (m : Int) * 10 + ((t[j].toNat : Int) - 48) := by omega
        have HCAST := Lib.hid hcast
        clear hel hel2 htk hmem hd hdi hcast hR
        go_wp2
        go_round
        case rel => exact ⟨j + 1, m * 10 + (t[j].toNat - 48), by omega, by go_num, by rw [HCAST.out], by omega, NX.out⟩
        case measure => simp [intOf]; omega
      · have E : Hid (digs l = false) := by
          unfold Hid digs
          rw [Bool.eq_false_iff]
          intro h
          exact hd (List.all_eq_true.1 h _ hmem)
        have hd2 : t[j].toNat < 48 ∨ 57 < t[j].toNat := by
          rcases Nat.lt_or_ge t[j].toNat 48 with h | h
          · exact .inl h
          · rcases Nat.lt_or_ge 57 t[j].toNat with h2 | h2
            · exact .inr h2
            · exact absurd (isDig_iff.2 ⟨h, h2⟩) hd
        clear hel hel2 htk hmem hd hR
        rcases hd2 with h | h
        · have x3 : (t[j].toNat : Int) < 48 := by omega
          go_wp2
          go_ret2
          exact ⟨0, by rw [E.out]; rfl, (fun h => absurd h (by rw [E.out]; decide)), by decide, rfl⟩
        · have x3 : ¬ (t[j].toNat : Int) < 48 := by omega
          have x4 : (57 : Int) < (t[j].toNat : Int) := by omega
          go_wp2
          go_ret2
          exact ⟨0, by rw [E.out]; rfl, (fun h => absurd h (by rw [E.out]; decide)), by decide, rfl⟩
    · obtain rfl : j = t.size := by omega
      have E : Hid (m = val l ∧ digs l = true) := by
        have h := hR.out
        rw [List.take_of_length_le (by rw [HLEN.out]; omega)] at h
        exact h
      clear hR hlt
      go_wp2
      go_ret2
      exact ⟨m, by rw [E.out.2]; rfl, (fun _ => E.out.1), by omega, rfl⟩
end Go.Proofs.YtchdfekajjeflaaGreatDoor
namespace Go.Proofs.YtchdfekajjeflaaGreatDoor
open Go.RowKit

def RdPost (l : List UInt8) (w : World) (e : Ending) (w' : World) : Prop :=
  (∃ z b a k c, zread l = some z ∧ e = .returned (.tuple #[.agg #[.bool b, .slice a k c], .bool true]) ∧ Zn w' b a k c z ∧ z.natAbs < bp 125 ∧ Below w.heap.size w w') ∨
  (zread l = none ∧ e = .returned (.tuple #[.agg #[.bool false, .slice none 0 0], .bool false]) ∧ Below w.heap.size w w')
/-- Where Read is: what was read, and what is left. -/
structure Rdg (w : World) (d : List UInt8) (p : Nat) (x : ByteArray) (a : Option Addr) (k c : Nat) (W : World) : Prop where
  left : x.data.toList = d.drop p
  lim : Nm W a k c (val (d.take p))
  dig : digs (d.take p) = true
  row : p = 0 ∨ (d.length - p) % 19 = 0
  box : B2 W w.heap.size (.bool false) (.slice none 0 0)
  bel : Below w.heap.size w W
theorem toNat48 {c : UInt8} : c = 48 ↔ c.toNat = 48 := by
  constructor
  · intro e; rw [e]; rfl
  · intro e; exact UInt8.toNat_inj.1 (by rw [e]; rfl)
theorem extract_list (x : ByteArray) (a b : Nat) : (x.extract a b).data.toList = (x.data.toList.drop a).take (b - a) := Lib.extract_data x a b
set_option maxRecDepth 100000 in
set_option maxHeartbeats 4000000 in
theorem Read_c (t : ByteArray) (w : World) (hds : (Lib.trimPrefix t.data.toList [45]).length ≤ 2000) :
    Calls Tryz.prog 21 #[.string t] w (RdPost t.data.toList w) := by
  obtain ⟨l, hL⟩ : ∃ l, t.data.toList = l := ⟨_, rfl⟩
  obtain ⟨d, hd⟩ : ∃ d, Lib.trimPrefix l [45] = d := ⟨_, rfl⟩
  obtain ⟨u, hu⟩ : ∃ u : ByteArray, u = ⟨d.toArray⟩ := ⟨_, rfl⟩
  have hul : u.data.toList = d := by rw [hu]
  have hus : u.size = d.length := by rw [hu]; simp [ByteArray.size]
  have hts : t.size = l.length := by rw [← hL]; simp
  have HTP : Hid (∀ w, Calls Tryz.prog 20 #[.string t, .string ⟨#[45]⟩] w fun e w' => e = .returned (.string u) ∧ w = w') := fun w => (Tryz.strings_TrimPrefix t ⟨#[45]⟩ w).mono fun e w' ⟨he, hw⟩ => ⟨by rw [he, hu, ← hd, ← hL], hw.symm⟩
  obtain ⟨neg, hneg⟩ : ∃ neg, decide (d.length < l.length) = neg := ⟨_, rfl⟩
  have hneg' : decide ((u.size : Int) < (t.size : Int)) = neg := by rw [← hneg, hus, hts]; apply decide_eq_decide.2; omega
  have hneg2 : decide (u.size < t.size) = neg := by rw [← hneg, hus, hts]
  have hov : t.size ≤ 9223372036854775807 := by
    have h1 : l.length ≤ d.length + 1 := by
      rw [← hd]
      unfold Lib.trimPrefix
      split
      · rw [List.length_drop]; simp; omega
      · omega
    rw [hL, hd] at hds
    omega
  have HLEN : Hid (d.length ≤ 2000) := by rw [hL, hd] at hds; exact hds
  have HZ : Hid (zread l = if d = [] ∨ (d.head? = some 48 ∧ (neg = true ∨ 1 < d.length)) ∨ digs d = false then none else some (if neg then -(val d : Int) else val d)) := by
    unfold Hid zread
    rw [hd]
    simp only [hneg]
  rw [hL]
  have HUL := Lib.hid hul
  have HUS := Lib.hid hus
  clear hL hd hu hul hts hneg hds hus
  obtain ⟨W1, hW1⟩ : ∃ W1, w.alloc (.cells #[.bool false, .slice none 0 0] 36) = W1 := ⟨_, rfl⟩
  have J1 : Hid (B2 W1 w.heap.size (.bool false) (.slice none 0 0) ∧ Below w.heap.size w W1) := by rw [← hW1]; exact ⟨B2.made _ _ _ _, bel_one _ _⟩
  cases d with
  | nil =>
    have hu0 : u = ⟨#[]⟩ := by
      have h := HUL.out
      cases u with
      | mk a => simp only [ByteArray.mk.injEq]; exact Array.toList_eq_nil_iff.1 h
    subst hu0
    have EZ : Hid (zread l = none) := by unfold Hid; rw [HZ.out, if_pos (.inl rfl)]
    clear HZ HUL
    go_enter Tryz.func21, Tryz.ntmps21
    obtain ⟨W9, hW9⟩ : ∃ W9, two W1 w.heap.size (.bool false) (.slice none 0 0) = W9 := ⟨_, rfl⟩
    have R9 : B2 W9 w.heap.size (.bool false) (.slice none 0 0) := by rw [← hW9]; exact J1.out.1.set _ _
    have PP : Hid (RdPost l w (.returned (.tuple #[.agg #[.bool false, .slice none 0 0], .bool false])) W9) := by
      rw [← hW9]
      exact .inr ⟨EZ.out, rfl, below_two J1.out.2 (Nat.le_refl _) _ _⟩
    have q0 := J1.out.1.c0
    have q1 := J1.out.1.c1
    have g0 := J1.out.1.fr 0
    have g1 := J1.out.1.fr 1
    obtain ⟨r0, r1, _, _⟩ := id R9
    unfold two at hW9
    clear R9
    go_wp2_with (go_at_call 20; refine (HTP.out _).mono ?_; rintro e w' ⟨rfl, rfl⟩)
    exact bodyPost_ret (v := .tuple #[.agg #[.bool false, .slice none 0 0], .bool false]) (by simp [results, Tryz.results21, go_sem, r0, r1]) rfl PP.out
  | cons c r =>
    have hup : 0 < u.size := by rw [HUS.out]; simp
    have hne0 : (u.toList == []) = false := by rw [Lib.toList_data, HUL.out]; rfl
    have hne1 : ¬ u.toList = [] := by rw [Lib.toList_data, HUL.out]; simp
    have hu00 : u[0] = c := by
      have h := list_at u 0 hup
      rw [HUL.out] at h
      injection h with h
      exact h.symm
    by_cases h48 : c.toNat = 48 ∧ (neg = true ∨ 1 < u.size)
    · have EZ : Hid (zread l = none) := by
        unfold Hid
        have h3 : neg = true ∨ 1 < (c :: r).length := by
          rcases h48.2 with h | h
          · exact .inl h
          · rw [HUS.out] at h; exact .inr h
        have h4 : (c :: r).head? = some 48 := by rw [toNat48.2 h48.1]; rfl
        rw [HZ.out, if_pos (.inr (.inl ⟨h4, h3⟩))]
      have hx : ((u[0].toNat : Int) == 48) = true := by rw [hu00, h48.1]; rfl
      have hx' : (u[0].toNat : Int) = 48 := by rw [hu00, h48.1]; rfl
      rcases h48.2 with h | h
      · subst h
        clear HZ HUL h48 hu00
        go_enter Tryz.func21, Tryz.ntmps21
        obtain ⟨W9, hW9⟩ : ∃ W9, two W1 w.heap.size (.bool false) (.slice none 0 0) = W9 := ⟨_, rfl⟩
        have R9 : B2 W9 w.heap.size (.bool false) (.slice none 0 0) := by rw [← hW9]; exact J1.out.1.set _ _
        have PP : Hid (RdPost l w (.returned (.tuple #[.agg #[.bool false, .slice none 0 0], .bool false])) W9) := by
          rw [← hW9]
          exact .inr ⟨EZ.out, rfl, below_two J1.out.2 (Nat.le_refl _) _ _⟩
        have q0 := J1.out.1.c0
        have q1 := J1.out.1.c1
        have g0 := J1.out.1.fr 0
        have g1 := J1.out.1.fr 1
        obtain ⟨r0, r1, _, _⟩ := id R9
        unfold two at hW9
        clear R9
        go_wp2_with (go_at_call 20; refine (HTP.out _).mono ?_; rintro e w' ⟨rfl, rfl⟩)
        exact bodyPost_ret (v := .tuple #[.agg #[.bool false, .slice none 0 0], .bool false]) (by simp [results, Tryz.results21, go_sem, r0, r1]) rfl PP.out
      · cases neg
        · have h' : (1 : Int) < (u.size : Int) := by omega
          clear HZ HUL h48 hu00
          go_enter Tryz.func21, Tryz.ntmps21
          obtain ⟨W9, hW9⟩ : ∃ W9, two W1 w.heap.size (.bool false) (.slice none 0 0) = W9 := ⟨_, rfl⟩
          have R9 : B2 W9 w.heap.size (.bool false) (.slice none 0 0) := by rw [← hW9]; exact J1.out.1.set _ _
          have PP : Hid (RdPost l w (.returned (.tuple #[.agg #[.bool false, .slice none 0 0], .bool false])) W9) := by
            rw [← hW9]
            exact .inr ⟨EZ.out, rfl, below_two J1.out.2 (Nat.le_refl _) _ _⟩
          have q0 := J1.out.1.c0
          have q1 := J1.out.1.c1
          have g0 := J1.out.1.fr 0
          have g1 := J1.out.1.fr 1
          obtain ⟨r0, r1, _, _⟩ := id R9
          unfold two at hW9
          clear R9
          go_wp2_with (go_at_call 20; refine (HTP.out _).mono ?_; rintro e w' ⟨rfl, rfl⟩)
          exact bodyPost_ret (v := .tuple #[.agg #[.bool false, .slice none 0 0], .bool false]) (by simp [results, Tryz.results21, go_sem, r0, r1]) rfl PP.out
        · clear HZ HUL h48 hu00
          go_enter Tryz.func21, Tryz.ntmps21
          obtain ⟨W9, hW9⟩ : ∃ W9, two W1 w.heap.size (.bool false) (.slice none 0 0) = W9 := ⟨_, rfl⟩
          have R9 : B2 W9 w.heap.size (.bool false) (.slice none 0 0) := by rw [← hW9]; exact J1.out.1.set _ _
          have PP : Hid (RdPost l w (.returned (.tuple #[.agg #[.bool false, .slice none 0 0], .bool false])) W9) := by
            rw [← hW9]
            exact .inr ⟨EZ.out, rfl, below_two J1.out.2 (Nat.le_refl _) _ _⟩
          have q0 := J1.out.1.c0
          have q1 := J1.out.1.c1
          have g0 := J1.out.1.fr 0
          have g1 := J1.out.1.fr 1
          obtain ⟨r0, r1, _, _⟩ := id R9
          unfold two at hW9
          clear R9
          go_wp2_with (go_at_call 20; refine (HTP.out _).mono ?_; rintro e w' ⟨rfl, rfl⟩)
          exact bodyPost_ret (v := .tuple #[.agg #[.bool false, .slice none 0 0], .bool false]) (by simp [results, Tryz.results21, go_sem, r0, r1]) rfl PP.out
    · have HZ2 : Hid (zread l = if digs (c :: r) = false then none else some (if neg then -(val (c :: r) : Int) else val (c :: r))) := by
        unfold Hid
        rw [HZ.out]
        by_cases e : digs (c :: r) = false
        · rw [if_pos (.inr (.inr e)), if_pos e]
        · rw [if_neg ?_, if_neg e]
          rintro (h1 | ⟨h1, h2⟩ | h1)
          · cases h1
          · refine h48 ⟨toNat48.1 (by simpa using h1), ?_⟩
            rw [HUS.out]
            exact h2
          · exact e h1
      have hfl : ((u[0].toNat : Int) == 48) = false ∨ (neg = false ∧ ¬ (1 : Int) < (u.size : Int) ∧ (u[0].toNat : Int) = 48) := by
        by_cases e : c.toNat = 48
        · right
          refine ⟨?_, ?_⟩
          · cases neg
            · rfl
            · exact absurd ⟨e, .inl rfl⟩ h48
          · refine ⟨fun h => h48 ⟨e, .inr (by omega)⟩, ?_⟩
            rw [hu00, e]; rfl
        · left
          rw [beq_eq_false_iff_ne, hu00]
          omega
      have K0 : Hid (Rdg w (c :: r) 0 u none 0 0 W1) := ⟨HUL.out, Nm.zero _ _ _ (by omega) Pl.none_, rfl, .inl rfl, J1.out.1, J1.out.2⟩
      have HUU := Lib.hid hu00
      clear HZ h48 hu00 J1
      generalize hdd : c :: r = d at *
      clear hdd
      rcases hfl with hx | ⟨hx, hy, hz⟩
      · have hx' : ¬ (u[0].toNat : Int) = 48 := by
          intro e
          rw [e] at hx
          cases hx
        go_enter Tryz.func21, Tryz.ntmps21
        go_wp2_with (go_at_call 20; refine (HTP.out _).mono ?_; rintro e w' ⟨rfl, rfl⟩)
        clear hW1
        go_loopw [4, 6] (fun s v wr => ∃ (x : ByteArray) (p : Nat) (a : Option Addr) (k c : Nat), s = .string x ∧ v = .slice a k c ∧ p ≤ d.length ∧ Hid (Rdg w d p x a k c wr)) (fun s _ _ => match s with | .string x => x.size | _ => 0)
        case atStart => exact ⟨u, 0, none, 0, 0, rfl, rfl, Nat.zero_le _, K0.out⟩
        case round =>
          clear K0
          obtain ⟨x, p, a, k, c', rfl, rfl, hp, hK⟩ := hrel
          have hxs : x.size = d.length - p := by
            have h := congrArg List.length hK.out.left
            rw [List.length_drop] at h
            simpa using h
          have HXS := Lib.hid hxs
          have hlenB := HLEN.out
          by_cases hx0 : 0 < x.size
          · have hx0' : (0 : Int) < (x.size : Int) := by omega
            obtain ⟨s0, hs0⟩ : ∃ s0, (x.size - 1) % 19 = s0 := ⟨_, rfl⟩
            have hs19 : s0 < 19 := by rw [← hs0]; exact Nat.mod_lt _ (by decide)
            have hsle : s0 + 1 ≤ x.size := by rw [← hs0]; have := Nat.mod_le (x.size - 1) 19; omega
            have e1 : ((x.size : Int) - 1) % 19 = (s0 : Int) := by omega
            have hsle' : (s0 : Int) + 1 ≤ (x.size : Int) := by omega
            have hrow : p = 0 ∨ s0 = 18 := by
              rcases hK.out.row with h | h
              · exact .inl h
              · right; omega
            obtain ⟨y, hy⟩ : ∃ y, x.extract 0 (s0 + 1) = y := ⟨_, rfl⟩
            obtain ⟨x2, hx2⟩ : ∃ x2, x.extract (s0 + 1) x.size = x2 := ⟨_, rfl⟩
            have hyl : y.data.toList = (d.drop p).take (s0 + 1) := by rw [← hy, extract_list, hK.out.left, List.drop_zero, Nat.sub_zero]
            have hx2l : x2.data.toList = d.drop (p + (s0 + 1)) := by
              have hxl : x.data.toList.length = x.size := by simp
              rw [← hx2, extract_list, List.take_of_length_le (by rw [List.length_drop, hxl]; omega), hK.out.left, List.drop_drop]
            have hys : y.size = s0 + 1 := by rw [← hy, ByteArray.size_extract]; omega
            have hx2s : x2.size = d.length - (p + (s0 + 1)) := by rw [← hx2, ByteArray.size_extract]; omega
            have htk : d.take (p + (s0 + 1)) = d.take p ++ (d.drop p).take (s0 + 1) := List.take_add
            have hylen : ((d.drop p).take (s0 + 1)).length = s0 + 1 := by rw [List.length_take, List.length_drop]; omega
            have HCK := Lib.hid (fun w => readChunk_c y w (by omega))
            rw [hyl] at HCK
            have HTK := Lib.hid htk
            have HX2L := Lib.hid hx2l
            have HX2S := Lib.hid hx2s
            have HYL := Lib.hid hylen
            have hpb : p + (s0 + 1) ≤ d.length := by omega
            have hx2000 : x.size ≤ 2000 := by omega
            have hx2000' : (x.size : Int) ≤ 2000 := by omega
            clear hs0 hyl hx2l hys hx2s htk hylen hxs
            by_cases hdg : digs ((d.drop p).take (s0 + 1)) = true
            · rw [hdg] at HCK
              go_wp2_with fail
              (with_reducible refine (HCK.out _).mono ?_)
              rintro e wq ⟨v, rfl, hv, hvb, rfl⟩
              have HV := Lib.hid (hv trivial)
              have HTS := Lib.hid (timesPlus_c a k c' (val (d.take p)) 10000000000000000000 v wr hK.out.lim (by decide) hvb (Nat.lt_of_lt_of_le (val_bp hK.out.dig (by rw [List.length_take]; omega)) (bp_mono (by decide))))
              clear hv HCK
              go_wp2_with fail
              (refine HTS.out.mono ?_)
              rintro e w4 ⟨a4, k4, c4, rfl, h4, b4⟩
              have NX : Hid (Rdg w d (p + (s0 + 1)) x2 a4 k4 c4 w4) := by
                refine ⟨HX2L.out, ?_, ?_, ?_, hK.out.box.keep b4, hK.out.bel.trans (b4.mono hK.out.bel.size)⟩
                · rw [HTK.out, val_append, HYL.out, ← HV.out]
                  have e : val (d.take p) * 10 ^ (s0 + 1) = val (d.take p) * 10000000000000000000 := by
                    rcases hrow with h | h
                    · subst h; simp [val]
                    · subst h; rfl
                  rw [e]; exact h4
                · rw [HTK.out, digs_append, hK.out.dig, hdg]; rfl
                · have h1 := HX2S.out
                  have h2 := HXS.out
                  rcases hK.out.row with h | h
                  · right; omega
                  · right; omega
              clear h4 b4 hK HTS
              go_wp2
              go_roundw
              case rel => exact ⟨x2, p + (s0 + 1), a4, k4, c4, rfl, rfl, hpb, NX.out⟩
              case measure => simp; have := HX2S.out; have := HXS.out; omega
            · have hdf : digs ((d.drop p).take (s0 + 1)) = false := by simpa using hdg
              have EZ : Hid (zread l = none) := by
                unfold Hid
                rw [HZ2.out, if_pos]
                have e : d = d.take (p + (s0 + 1)) ++ d.drop (p + (s0 + 1)) := (List.take_append_drop _ _).symm
                rw [e, digs_append, HTK.out, digs_append, hdf]
                simp
              rw [hdf] at HCK
              obtain ⟨W9, hW9⟩ : ∃ W9, two wr w.heap.size (.bool false) (.slice none 0 0) = W9 := ⟨_, rfl⟩
              have R9 : B2 W9 w.heap.size (.bool false) (.slice none 0 0) := by rw [← hW9]; exact hK.out.box.set _ _
              have PP : Hid (RdPost l w (.returned (.tuple #[.agg #[.bool false, .slice none 0 0], .bool false])) W9) := by
                rw [← hW9]
                exact .inr ⟨EZ.out, rfl, below_two hK.out.bel (Nat.le_refl _) _ _⟩
              have q0 := hK.out.box.c0
              have q1 := hK.out.box.c1
              have g0 := hK.out.box.fr 0
              have g1 := hK.out.box.fr 1
              obtain ⟨r0, r1, _, _⟩ := id R9
              unfold two at hW9
              clear R9 hK
              go_wp2_with fail
              (with_reducible refine (HCK.out _).mono ?_)
              rintro e wq ⟨v, rfl, hv, hvb, rfl⟩
              clear hv
              go_wp2_with fail
              exact bodyPost_ret (v := .tuple #[.agg #[.bool false, .slice none 0 0], .bool false]) (by simp [results, Tryz.results21, go_sem, r0, r1]) rfl PP.out
          · have hx0' : ¬ (0 : Int) < (x.size : Int) := by omega
            have hpe : p = d.length := by omega
            have hD : Hid (digs d = true ∧ Nm wr a k c' (val d)) := by
              have h1 := hK.out.dig
              have h2 := hK.out.lim
              rw [hpe, List.take_length] at h1 h2
              exact ⟨h1, h2⟩
            have HZ3 : Hid (zread l = some (zv neg (val d))) := by
              unfold Hid
              rw [HZ2.out, if_neg (by rw [hD.out.1]; simp)]
              rfl
            have JX := Lib.hid hK.out.box
            have JB := Lib.hid hK.out.bel
            have HBD : Hid (val d < bp 125) := val_bp hD.out.1 hlenB
            clear hK hpe hxs
            have HWS := Lib.hid (withSign_c neg a k c' (val d) wr hD.out.2)
            go_wp2_with fail
            (refine HWS.out.mono ?_)
            rintro e w4 ⟨b', rfl, h4, b4⟩
            have JX4 := Lib.hid (JX.out.keep b4)
            have JB4 := Lib.hid (JB.out.trans (b4.mono JB.out.size))
            have HZN := Lib.hid h4
            clear h4 b4 JX JB HWS
            obtain ⟨W9, hW9⟩ : ∃ W9, two w4 w.heap.size (.bool b') (.slice a k c') = W9 := ⟨_, rfl⟩
            have R9 : B2 W9 w.heap.size (.bool b') (.slice a k c') := by rw [← hW9]; exact JX4.out.set _ _
            have PP : Hid (RdPost l w (.returned (.tuple #[.agg #[.bool b', .slice a k c'], .bool true])) W9) := by
              rw [← hW9]
              exact .inl ⟨_, _, _, _, _, HZ3.out, rfl, HZN.out.set2 JX4.out _ _, by rw [zv_abs]; exact HBD.out, below_two JB4.out (Nat.le_refl _) _ _⟩
            have q0 := JX4.out.c0
            have q1 := JX4.out.c1
            have g0 := JX4.out.fr 0
            have g1 := JX4.out.fr 1
            obtain ⟨r0, r1, _, _⟩ := id R9
            unfold two at hW9
            clear R9
            go_wp2_with fail
            exact bodyPost_ret (v := .tuple #[.agg #[.bool b', .slice a k c'], .bool true]) (by simp [results, Tryz.results21, go_sem, r0, r1]) rfl PP.out
      · subst hx
        have hz' : ((u[0].toNat : Int) == 48) = true := by rw [hz]; rfl
        go_enter Tryz.func21, Tryz.ntmps21
        go_wp2_with (go_at_call 20; refine (HTP.out _).mono ?_; rintro e w' ⟨rfl, rfl⟩)
        clear hW1
        go_loopw [4, 6] (fun s v wr => ∃ (x : ByteArray) (p : Nat) (a : Option Addr) (k c : Nat), s = .string x ∧ v = .slice a k c ∧ p ≤ d.length ∧ Hid (Rdg w d p x a k c wr)) (fun s _ _ => match s with | .string x => x.size | _ => 0)
        case atStart => exact ⟨u, 0, none, 0, 0, rfl, rfl, Nat.zero_le _, K0.out⟩
        case round =>
          clear K0
          obtain ⟨x, p, a, k, c', rfl, rfl, hp, hK⟩ := hrel
          have hxs : x.size = d.length - p := by
            have h := congrArg List.length hK.out.left
            rw [List.length_drop] at h
            simpa using h
          have HXS := Lib.hid hxs
          have hlenB := HLEN.out
          by_cases hx0 : 0 < x.size
          · have hx0' : (0 : Int) < (x.size : Int) := by omega
            obtain ⟨s0, hs0⟩ : ∃ s0, (x.size - 1) % 19 = s0 := ⟨_, rfl⟩
            have hs19 : s0 < 19 := by rw [← hs0]; exact Nat.mod_lt _ (by decide)
            have hsle : s0 + 1 ≤ x.size := by rw [← hs0]; have := Nat.mod_le (x.size - 1) 19; omega
            have e1 : ((x.size : Int) - 1) % 19 = (s0 : Int) := by omega
            have hsle' : (s0 : Int) + 1 ≤ (x.size : Int) := by omega
            have hrow : p = 0 ∨ s0 = 18 := by
              rcases hK.out.row with h | h
              · exact .inl h
              · right; omega
            obtain ⟨y, hy⟩ : ∃ y, x.extract 0 (s0 + 1) = y := ⟨_, rfl⟩
            obtain ⟨x2, hx2⟩ : ∃ x2, x.extract (s0 + 1) x.size = x2 := ⟨_, rfl⟩
            have hyl : y.data.toList = (d.drop p).take (s0 + 1) := by rw [← hy, extract_list, hK.out.left, List.drop_zero, Nat.sub_zero]
            have hx2l : x2.data.toList = d.drop (p + (s0 + 1)) := by
              have hxl : x.data.toList.length = x.size := by simp
              rw [← hx2, extract_list, List.take_of_length_le (by rw [List.length_drop, hxl]; omega), hK.out.left, List.drop_drop]
            have hys : y.size = s0 + 1 := by rw [← hy, ByteArray.size_extract]; omega
            have hx2s : x2.size = d.length - (p + (s0 + 1)) := by rw [← hx2, ByteArray.size_extract]; omega
            have htk : d.take (p + (s0 + 1)) = d.take p ++ (d.drop p).take (s0 + 1) := List.take_add
            have hylen : ((d.drop p).take (s0 + 1)).length = s0 + 1 := by rw [List.length_take, List.length_drop]; omega
            have HCK := Lib.hid (fun w => readChunk_c y w (by omega))
            rw [hyl] at HCK
            have HTK := Lib.hid htk
            have HX2L := Lib.hid hx2l
            have HX2S := Lib.hid hx2s
            have HYL := Lib.hid hylen
            have hpb : p + (s0 + 1) ≤ d.length := by omega
            have hx2000 : x.size ≤ 2000 := by omega
            have hx2000' : (x.size : Int) ≤ 2000 := by omega
            clear hs0 hyl hx2l hys hx2s htk hylen hxs
            by_cases hdg : digs ((d.drop p).take (s0 + 1)) = true
            · rw [hdg] at HCK
              go_wp2_with fail
              (with_reducible refine (HCK.out _).mono ?_)
              rintro e wq ⟨v, rfl, hv, hvb, rfl⟩
              have HV := Lib.hid (hv trivial)
              have HTS := Lib.hid (timesPlus_c a k c' (val (d.take p)) 10000000000000000000 v wr hK.out.lim (by decide) hvb (Nat.lt_of_lt_of_le (val_bp hK.out.dig (by rw [List.length_take]; omega)) (bp_mono (by decide))))
              clear hv HCK
              go_wp2_with fail
              (refine HTS.out.mono ?_)
              rintro e w4 ⟨a4, k4, c4, rfl, h4, b4⟩
              have NX : Hid (Rdg w d (p + (s0 + 1)) x2 a4 k4 c4 w4) := by
                refine ⟨HX2L.out, ?_, ?_, ?_, hK.out.box.keep b4, hK.out.bel.trans (b4.mono hK.out.bel.size)⟩
                · rw [HTK.out, val_append, HYL.out, ← HV.out]
                  have e : val (d.take p) * 10 ^ (s0 + 1) = val (d.take p) * 10000000000000000000 := by
                    rcases hrow with h | h
                    · subst h; simp [val]
                    · subst h; rfl
                  rw [e]; exact h4
                · rw [HTK.out, digs_append, hK.out.dig, hdg]; rfl
                · have h1 := HX2S.out
                  have h2 := HXS.out
                  rcases hK.out.row with h | h
                  · right; omega
                  · right; omega
              clear h4 b4 hK HTS
              go_wp2
              go_roundw
              case rel => exact ⟨x2, p + (s0 + 1), a4, k4, c4, rfl, rfl, hpb, NX.out⟩
              case measure => simp; have := HX2S.out; have := HXS.out; omega
            · have hdf : digs ((d.drop p).take (s0 + 1)) = false := by simpa using hdg
              have EZ : Hid (zread l = none) := by
                unfold Hid
                rw [HZ2.out, if_pos]
                have e : d = d.take (p + (s0 + 1)) ++ d.drop (p + (s0 + 1)) := (List.take_append_drop _ _).symm
                rw [e, digs_append, HTK.out, digs_append, hdf]
                simp
              rw [hdf] at HCK
              obtain ⟨W9, hW9⟩ : ∃ W9, two wr w.heap.size (.bool false) (.slice none 0 0) = W9 := ⟨_, rfl⟩
              have R9 : B2 W9 w.heap.size (.bool false) (.slice none 0 0) := by rw [← hW9]; exact hK.out.box.set _ _
              have PP : Hid (RdPost l w (.returned (.tuple #[.agg #[.bool false, .slice none 0 0], .bool false])) W9) := by
                rw [← hW9]
                exact .inr ⟨EZ.out, rfl, below_two hK.out.bel (Nat.le_refl _) _ _⟩
              have q0 := hK.out.box.c0
              have q1 := hK.out.box.c1
              have g0 := hK.out.box.fr 0
              have g1 := hK.out.box.fr 1
              obtain ⟨r0, r1, _, _⟩ := id R9
              unfold two at hW9
              clear R9 hK
              go_wp2_with fail
              (with_reducible refine (HCK.out _).mono ?_)
              rintro e wq ⟨v, rfl, hv, hvb, rfl⟩
              clear hv
              go_wp2_with fail
              exact bodyPost_ret (v := .tuple #[.agg #[.bool false, .slice none 0 0], .bool false]) (by simp [results, Tryz.results21, go_sem, r0, r1]) rfl PP.out
          · have hx0' : ¬ (0 : Int) < (x.size : Int) := by omega
            have hpe : p = d.length := by omega
            have hD : Hid (digs d = true ∧ Nm wr a k c' (val d)) := by
              have h1 := hK.out.dig
              have h2 := hK.out.lim
              rw [hpe, List.take_length] at h1 h2
              exact ⟨h1, h2⟩
            have HZ3 : Hid (zread l = some (zv false (val d))) := by
              unfold Hid
              rw [HZ2.out, if_neg (by rw [hD.out.1]; simp)]
              rfl
            have JX := Lib.hid hK.out.box
            have JB := Lib.hid hK.out.bel
            have HBD : Hid (val d < bp 125) := val_bp hD.out.1 hlenB
            clear hK hpe hxs
            have HWS := Lib.hid (withSign_c false a k c' (val d) wr hD.out.2)
            go_wp2_with fail
            (refine HWS.out.mono ?_)
            rintro e w4 ⟨b', rfl, h4, b4⟩
            have JX4 := Lib.hid (JX.out.keep b4)
            have JB4 := Lib.hid (JB.out.trans (b4.mono JB.out.size))
            have HZN := Lib.hid h4
            clear h4 b4 JX JB HWS
            obtain ⟨W9, hW9⟩ : ∃ W9, two w4 w.heap.size (.bool b') (.slice a k c') = W9 := ⟨_, rfl⟩
            have R9 : B2 W9 w.heap.size (.bool b') (.slice a k c') := by rw [← hW9]; exact JX4.out.set _ _
            have PP : Hid (RdPost l w (.returned (.tuple #[.agg #[.bool b', .slice a k c'], .bool true])) W9) := by
              rw [← hW9]
              exact .inl ⟨_, _, _, _, _, HZ3.out, rfl, HZN.out.set2 JX4.out _ _, by rw [zv_abs]; exact HBD.out, below_two JB4.out (Nat.le_refl _) _ _⟩
            have q0 := JX4.out.c0
            have q1 := JX4.out.c1
            have g0 := JX4.out.fr 0
            have g1 := JX4.out.fr 1
            obtain ⟨r0, r1, _, _⟩ := id R9
            unfold two at hW9
            clear R9
            go_wp2_with fail
            exact bodyPost_ret (v := .tuple #[.agg #[.bool b', .slice a k c'], .bool true]) (by simp [results, Tryz.results21, go_sem, r0, r1]) rfl PP.out
end Go.Proofs.YtchdfekajjeflaaGreatDoor
namespace Go.Proofs.YtchdfekajjeflaaGreatDoor
open Go.RowKit

/-- The fraction that two texts write. -/
def large (n d : List UInt8) : Bool := decide (2000 < (Lib.trimPrefix n [45]).length) || decide (2000 < d.length)
def rread (n d : List UInt8) : Option (Int × Int) :=
  if large n d = true then none
  else match zread n, zread d with
    | some x, some y => if 0 < y ∧ Int.gcd x y = 1 then some (x, y) else none
    | _, _ => none
def rflt (n d : List UInt8) : Int := if large n d = true then 2 else 3
abbrev fz4 : Value := .agg #[.bool false, .slice none 0 0, .bool false, .slice none 0 0]
def FoPost (n d : List UInt8) (w : World) (e : Ending) (w' : World) : Prop :=
  (∃ x y b a k c b' a' k' c', rread n d = some (x, y) ∧ e = .returned (.tuple #[.agg #[.bool b, .slice a k c, .bool b', .slice a' k' c'], .int .i64 0]) ∧ Zn w' b a k c x ∧ Zn w' b' a' k' c' y ∧ x.natAbs < bp 125 ∧ y.natAbs < bp 125 ∧ 0 < y ∧ Int.gcd x y = 1 ∧ Below w.heap.size w w') ∨
  (rread n d = none ∧ e = .returned (.tuple #[fz4, .int .i64 (rflt n d)]) ∧ Below w.heap.size w w')
theorem B2.other4 {W : World} {g h : Nat} {x0 x1 : Value} (hb : B2 W g x0 x1) (hne : h ≠ g) (y0 y1 y2 y3 : Value) : B2 (four W h y0 y1 y2 y3) g x0 x1 :=
  ⟨(four_cell hne _ _ _ _ 0).trans hb.c0, (four_cell hne _ _ _ _ 1).trans hb.c1, fun o => by unfold four; simp only [World.frozen?_setCell]; exact hb.fr o, by rw [four_size]; exact hb.lt⟩
/-- Read's answer, sound or not. -/
def RdAny (l : List UInt8) (w : World) (e : Ending) (w' : World) : Prop :=
  ∃ b a k c ok, e = .returned (.tuple #[.agg #[.bool b, .slice a k c], .bool ok]) ∧ Below w.heap.size w w' ∧ (ok = true → ∃ z, zread l = some z ∧ Zn w' b a k c z ∧ z.natAbs < bp 125) ∧ (ok = false → zread l = none)
theorem Read_any (t : ByteArray) (w : World) (hds : (Lib.trimPrefix t.data.toList [45]).length ≤ 2000) : Calls Tryz.prog 21 #[.string t] w (RdAny t.data.toList w) :=
  (Read_c t w hds).mono fun e w' h => by
    rcases h with ⟨z, b, a, k, c, h1, h2, h3, h4, h5⟩ | ⟨h1, h2, h3⟩
    · exact ⟨b, a, k, c, true, h2, h5, (fun _ => ⟨z, h1, h3, h4⟩), (fun e => nomatch e)⟩
    · exact ⟨false, none, 0, 0, false, h2, h3, (fun e => nomatch e), (fun _ => h1)⟩
theorem trim_len (l p : List UInt8) : (Lib.trimPrefix l p).length ≤ l.length := by
  unfold Lib.trimPrefix
  split
  · rw [List.length_drop]; omega
  · exact Nat.le_refl _
/-- The boxes of fractionOf. -/
structure Fo (w : World) (gn gd : Nat) (s t : ByteArray) (b1 : Bool) (a1 : Option Addr) (k1 c1 : Nat) (b2 : Bool) (a2 : Option Addr) (k2 c2 : Nat) (W : World) : Prop where
  x : B2 W w.heap.size (.string s) (.string t)
  r : B4 W (w.heap.size + 1) (.bool false) (.slice none 0 0) (.bool false) (.slice none 0 0)
  n : B2 W gn (.bool b1) (.slice a1 k1 c1)
  d : B2 W gd (.bool b2) (.slice a2 k2 c2)
  hn : w.heap.size + 1 < gn
  hd : gn < gd
  bel : Below w.heap.size w W
theorem Fo.keep {w : World} {gn gd : Nat} {s t : ByteArray} {b1 : Bool} {a1 : Option Addr} {k1 c1 : Nat} {b2 : Bool} {a2 : Option Addr} {k2 c2 : Nat} {W W' : World} (h : Fo w gn gd s t b1 a1 k1 c1 b2 a2 k2 c2 W) (hb : Below W.heap.size W W') : Fo w gn gd s t b1 a1 k1 c1 b2 a2 k2 c2 W' :=
  ⟨h.x.keep hb, h.r.keep hb, h.n.keep hb, h.d.keep hb, h.hn, h.hd, h.bel.trans (hb.mono h.bel.size)⟩
set_option maxRecDepth 100000 in
set_option maxHeartbeats 4000000 in
theorem fractionOf_c (s t : ByteArray) (w : World) :
    Calls Tryz.prog 36 #[.agg #[.string s, .string t]] w (FoPost s.data.toList t.data.toList w) := by
  obtain ⟨u, hu⟩ : ∃ u : ByteArray, u = ⟨(Lib.trimPrefix s.data.toList [45]).toArray⟩ := ⟨_, rfl⟩
  have hus : u.size = (Lib.trimPrefix s.data.toList [45]).length := by rw [hu]; simp [ByteArray.size]
  have hts : t.size = t.data.toList.length := by simp
  have HTP : Hid (∀ w, Calls Tryz.prog 20 #[.string s, .string ⟨#[45]⟩] w fun e w' => e = .returned (.string u) ∧ w = w') := fun w => (Tryz.strings_TrimPrefix s ⟨#[45]⟩ w).mono fun e w' ⟨he, hw⟩ => ⟨by rw [he, hu], hw.symm⟩
  have HLG : Hid (large s.data.toList t.data.toList = (decide (2000 < u.size) || decide (2000 < t.size))) := by unfold Hid large; rw [hus, hts]
  have HUS := Lib.hid hus
  clear hu hus hts
  obtain ⟨W0, hW0⟩ : ∃ W0, (w.alloc (.cells #[.string s, .string t] 29)).alloc (.cells #[.bool false, .slice none 0 0, .bool false, .slice none 0 0] 38) = W0 := ⟨_, rfl⟩
  have s1 : (w.alloc (.cells #[.string s, .string t] 29)).heap.size = w.heap.size + 1 := by simp
  have X0 : B2 W0 w.heap.size (.string s) (.string t) := by rw [← hW0]; exact (B2.made w _ _ _).keep (bel_one _ _)
  have R0 : B4 W0 (w.heap.size + 1) (.bool false) (.slice none 0 0) (.bool false) (.slice none 0 0) := by rw [← hW0, ← s1]; exact B4.made _ _ _ _ _ _
  have B0 : Below w.heap.size w W0 := by rw [← hW0]; exact ((Below.refl _ _).alloc (Nat.le_refl _) _).alloc (by simp) _
  have S0 : w.heap.size + 1 < W0.heap.size := by rw [← hW0]; simp
  have HX := Lib.hid X0
  have HR := Lib.hid R0
  have HB := Lib.hid B0
  have HS := Lib.hid S0
  have x0 := X0.c0
  have x1 := X0.c1
  clear X0 R0 B0 S0 s1
  by_cases hl : large s.data.toList t.data.toList = true
  · have PF : Hid (rread s.data.toList t.data.toList = none ∧ rflt s.data.toList t.data.toList = 2) := ⟨by unfold rread; rw [if_pos hl], by unfold rflt; rw [if_pos hl]⟩
    have hl2 : 2000 < u.size ∨ (¬ 2000 < u.size ∧ 2000 < t.size) := by
      rw [HLG.out] at hl
      simp at hl
      omega
    clear HLG hl
    rcases hl2 with h | ⟨h, h'⟩
    · have hi : (2000 : Int) < (u.size : Int) := by omega
      go_enter Tryz.func36, Tryz.ntmps36
      obtain ⟨W9, hW9⟩ : ∃ W9, four W0 (w.heap.size + 1) (.bool false) (.slice none 0 0) (.bool false) (.slice none 0 0) = W9 := ⟨_, rfl⟩
      have R9 : B4 W9 (w.heap.size + 1) (.bool false) (.slice none 0 0) (.bool false) (.slice none 0 0) := by rw [← hW9]; exact HR.out.set _ _ _ _
      have PP : Hid (FoPost s.data.toList t.data.toList w (.returned (.tuple #[fz4, .int .i64 2])) W9) := by
        rw [← hW9]
        exact .inr ⟨PF.out.1, by rw [PF.out.2], below_four HB.out (Nat.le_succ _) _ _ _ _⟩
      have q0 := HR.out.c0
      have q1 := HR.out.c1
      have q2 := HR.out.c2
      have q3 := HR.out.c3
      have g0 := HR.out.fr 0
      have g1 := HR.out.fr 1
      have g2 := HR.out.fr 2
      have g3 := HR.out.fr 3
      obtain ⟨r0, r1, r2, r3, _, _⟩ := id R9
      unfold four at hW9
      clear R9
      go_wp2_with (go_at_call 20; refine (HTP.out _).mono ?_; rintro e w' ⟨rfl, rfl⟩)
      exact bodyPost_ret (v := .tuple #[fz4, .int .i64 2]) (by simp [results, Tryz.results36, go_sem, r0, r1, r2, r3]) rfl PP.out
    · have hi : ¬ (2000 : Int) < (u.size : Int) := by omega
      have hi' : (2000 : Int) < (t.size : Int) := by omega
      go_enter Tryz.func36, Tryz.ntmps36
      obtain ⟨W9, hW9⟩ : ∃ W9, four W0 (w.heap.size + 1) (.bool false) (.slice none 0 0) (.bool false) (.slice none 0 0) = W9 := ⟨_, rfl⟩
      have R9 : B4 W9 (w.heap.size + 1) (.bool false) (.slice none 0 0) (.bool false) (.slice none 0 0) := by rw [← hW9]; exact HR.out.set _ _ _ _
      have PP : Hid (FoPost s.data.toList t.data.toList w (.returned (.tuple #[fz4, .int .i64 2])) W9) := by
        rw [← hW9]
        exact .inr ⟨PF.out.1, by rw [PF.out.2], below_four HB.out (Nat.le_succ _) _ _ _ _⟩
      have q0 := HR.out.c0
      have q1 := HR.out.c1
      have q2 := HR.out.c2
      have q3 := HR.out.c3
      have g0 := HR.out.fr 0
      have g1 := HR.out.fr 1
      have g2 := HR.out.fr 2
      have g3 := HR.out.fr 3
      obtain ⟨r0, r1, r2, r3, _, _⟩ := id R9
      unfold four at hW9
      clear R9
      go_wp2_with (go_at_call 20; refine (HTP.out _).mono ?_; rintro e w' ⟨rfl, rfl⟩)
      exact bodyPost_ret (v := .tuple #[fz4, .int .i64 2]) (by simp [results, Tryz.results36, go_sem, r0, r1, r2, r3]) rfl PP.out
  · have hlf : large s.data.toList t.data.toList = false := by simpa using hl
    have hu2 : ¬ 2000 < u.size := by rw [HLG.out] at hlf; simp at hlf; omega
    have ht2 : ¬ 2000 < t.size := by rw [HLG.out] at hlf; simp at hlf; omega
    have hi : ¬ (2000 : Int) < (u.size : Int) := by omega
    have hi' : ¬ (2000 : Int) < (t.size : Int) := by omega
    have HFL : Hid (rflt s.data.toList t.data.toList = 3) := by unfold Hid rflt; rw [if_neg hl]
    have HRR : Hid (rread s.data.toList t.data.toList = match zread s.data.toList, zread t.data.toList with | some x, some y => if 0 < y ∧ Int.gcd x y = 1 then some (x, y) else none | _, _ => none) := by unfold Hid rread; rw [if_neg hl]
    have HR1 := Lib.hid (fun w => Read_any s w (by rw [← HUS.out]; omega))
    have HR2 := Lib.hid (fun w => Read_any t w (by have := trim_len t.data.toList [45]; simp at this ht2; omega))
    clear HLG hl hlf
    go_enter Tryz.func36, Tryz.ntmps36
    go_wp2_with (go_at_call 20; refine (HTP.out _).mono ?_; rintro e w' ⟨rfl, rfl⟩)
    refine (HR1.out _).mono ?_
    rintro e w1 ⟨b1, a1, k1, c1, ok1, rfl, bb1, hok1, hno1⟩
    clear hW0 x0 x1
    have O1 := Lib.hid hok1
    have N1 := Lib.hid hno1
    have HX1 := Lib.hid (HX.out.keep bb1)
    have HR1' := Lib.hid (HR.out.keep bb1)
    have HB1 := Lib.hid (HB.out.trans (bb1.mono HB.out.size))
    have HS1 : Hid (w.heap.size + 1 < w1.heap.size) := Nat.lt_of_lt_of_le HS.out bb1.size
    clear HX HR HB HS bb1 hok1 hno1 HR1
    obtain ⟨W2, hW2⟩ : ∃ W2, w1.alloc (.cells #[.bool false, .slice none 0 0] 36) = W2 := ⟨_, rfl⟩
    have D2 : B2 W2 w1.heap.size (.bool false) (.slice none 0 0) := by rw [← hW2]; exact B2.made _ _ _ _
    have BL2 : Below w1.heap.size w1 W2 := by rw [← hW2]; exact bel_one _ _
    obtain ⟨gn, hgn⟩ : ∃ gn, w1.heap.size = gn := ⟨_, rfl⟩
    have HGN : Hid (w.heap.size + 1 < gn) := by rw [← hgn]; exact HS1.out
    rw [hgn] at D2
    obtain ⟨W3, hW3⟩ : ∃ W3, two W2 gn (.bool b1) (.slice a1 k1 c1) = W3 := ⟨_, rfl⟩
    have gne := HGN.out
    have X3 : B2 W3 w.heap.size (.string s) (.string t) := by rw [← hW3]; exact (HX1.out.keep BL2).other (by omega) _ _
    have R3 : Hid (B4 W3 (w.heap.size + 1) (.bool false) (.slice none 0 0) (.bool false) (.slice none 0 0)) := by rw [← hW3]; exact (HR1'.out.keep BL2).other2 (by omega) _ _
    have NN3 : Hid (B2 W3 gn (.bool b1) (.slice a1 k1 c1)) := by rw [← hW3]; exact D2.set _ _
    have BB3 : Hid (Below w.heap.size w W3) := by rw [← hW3]; exact below_two (HB1.out.trans (BL2.mono HB1.out.size)) (by omega) _ _
    have GS3 : Hid (gn < W3.heap.size) := NN3.out.lt
    have ZZ3 : Hid (ok1 = true → ∃ z, zread s.data.toList = some z ∧ Zn W3 b1 a1 k1 c1 z ∧ z.natAbs < bp 125) := by
      intro h
      obtain ⟨z, e1, e2, e3⟩ := O1.out h
      exact ⟨z, e1, by rw [← hW3]; exact (e2.below BL2).set2 D2 _ _, e3⟩
    have d0 := D2.c0
    have d1 := D2.c1
    have f0 := D2.fr 0
    have f1 := D2.fr 1
    have x0 := X3.c0
    have x1 := X3.c1
    have HX3 := Lib.hid X3
    clear D2 BL2 X3 O1 HX1 HR1' HB1 HS1 gne
    unfold two at hW3
    go_wp2_with fail
    clear hW3 hW2 d0 d1 f0 f1 hgn
    refine (HR2.out _).mono ?_
    rintro e w4 ⟨b2, a2, k2, c2, ok2, rfl, bb4, hok2, hno2⟩
    have O2 := Lib.hid hok2
    have N2 := Lib.hid hno2
    have HX4 := Lib.hid (HX3.out.keep bb4)
    have HR4 := Lib.hid (R3.out.keep bb4)
    have HN4 := Lib.hid (NN3.out.keep bb4)
    have HB4 := Lib.hid (BB3.out.trans (bb4.mono BB3.out.size))
    have HS4 : Hid (gn < w4.heap.size) := Nat.lt_of_lt_of_le GS3.out bb4.size
    have ZZ4 : Hid (ok1 = true → ∃ z, zread s.data.toList = some z ∧ Zn w4 b1 a1 k1 c1 z ∧ z.natAbs < bp 125) := by
      intro h
      obtain ⟨z, e1, e2, e3⟩ := ZZ3.out h
      exact ⟨z, e1, e2.below bb4, e3⟩
    clear HX3 R3 NN3 BB3 GS3 ZZ3 bb4 hok2 hno2 HR2 x0 x1
    obtain ⟨W5, hW5⟩ : ∃ W5, w4.alloc (.cells #[.bool false, .slice none 0 0] 36) = W5 := ⟨_, rfl⟩
    have D5 : B2 W5 w4.heap.size (.bool false) (.slice none 0 0) := by rw [← hW5]; exact B2.made _ _ _ _
    have BL5 : Below w4.heap.size w4 W5 := by rw [← hW5]; exact bel_one _ _
    obtain ⟨gd, hgd⟩ : ∃ gd, w4.heap.size = gd := ⟨_, rfl⟩
    have HGD : Hid (gn < gd) := by rw [← hgd]; exact HS4.out
    rw [hgd] at D5
    obtain ⟨W6, hW6⟩ : ∃ W6, two W5 gd (.bool b2) (.slice a2 k2 c2) = W6 := ⟨_, rfl⟩
    have gne := HGN.out
    have gde := HGD.out
    have J6 : Hid (Fo w gn gd s t b1 a1 k1 c1 b2 a2 k2 c2 W6) := by
      rw [← hW6]
      exact ⟨(HX4.out.keep BL5).other (by omega) _ _, (HR4.out.keep BL5).other2 (by omega) _ _, (HN4.out.keep BL5).other (by omega) _ _, D5.set _ _, gne, gde, below_two (HB4.out.trans (BL5.mono HB4.out.size)) (by omega) _ _⟩
    have Z1 : Hid (ok1 = true → ∃ z, zread s.data.toList = some z ∧ Zn W6 b1 a1 k1 c1 z ∧ z.natAbs < bp 125) := by
      intro h
      obtain ⟨z, e1, e2, e3⟩ := ZZ4.out h
      exact ⟨z, e1, by rw [← hW6]; exact (e2.below BL5).set2 D5 _ _, e3⟩
    have Z2 : Hid (ok2 = true → ∃ z, zread t.data.toList = some z ∧ Zn W6 b2 a2 k2 c2 z ∧ z.natAbs < bp 125) := by
      intro h
      obtain ⟨z, e1, e2, e3⟩ := O2.out h
      exact ⟨z, e1, by rw [← hW6]; exact (e2.below BL5).set2 D5 _ _, e3⟩
    have d0 := D5.c0
    have d1 := D5.c1
    have f0 := D5.fr 0
    have f1 := D5.fr 1
    have n0 := J6.out.n.c0
    have n1 := J6.out.n.c1
    have p0 := J6.out.d.c0
    have p1 := J6.out.d.c1
    clear D5 BL5 O2 HX4 HR4 HN4 HB4 HS4 ZZ4 gne gde
    unfold two at hW6
    cases ok1
    · have PF : Hid (rread s.data.toList t.data.toList = none ∧ rflt s.data.toList t.data.toList = 3) := ⟨by rw [HRR.out, N1.out rfl], HFL.out⟩
      clear Z1 Z2 N1 N2 HRR HFL
      obtain ⟨W9, hW9⟩ : ∃ W9, four W6 (w.heap.size + 1) (.bool false) (.slice none 0 0) (.bool false) (.slice none 0 0) = W9 := ⟨_, rfl⟩
      have R9 : B4 W9 (w.heap.size + 1) (.bool false) (.slice none 0 0) (.bool false) (.slice none 0 0) := by rw [← hW9]; exact J6.out.r.set _ _ _ _
      have PP : Hid (FoPost s.data.toList t.data.toList w (.returned (.tuple #[fz4, .int .i64 3])) W9) := by
        rw [← hW9]
        exact .inr ⟨PF.out.1, by rw [PF.out.2], below_four J6.out.bel (Nat.le_succ _) _ _ _ _⟩
      have q0 := J6.out.r.c0
      have q1 := J6.out.r.c1
      have q2 := J6.out.r.c2
      have q3 := J6.out.r.c3
      have g0 := J6.out.r.fr 0
      have g1 := J6.out.r.fr 1
      have g2 := J6.out.r.fr 2
      have g3 := J6.out.r.fr 3
      obtain ⟨r0, r1, r2, r3, _, _⟩ := id R9
      unfold four at hW9
      clear R9
      go_wp2_with fail
      exact bodyPost_ret (v := .tuple #[fz4, .int .i64 3]) (by simp [results, Tryz.results36, go_sem, r0, r1, r2, r3]) rfl PP.out
    · cases ok2
      · have PF : Hid (rread s.data.toList t.data.toList = none ∧ rflt s.data.toList t.data.toList = 3) := ⟨by rw [HRR.out, N2.out rfl]; split <;> simp_all, HFL.out⟩
        clear Z1 Z2 N1 N2 HRR HFL
        obtain ⟨W9, hW9⟩ : ∃ W9, four W6 (w.heap.size + 1) (.bool false) (.slice none 0 0) (.bool false) (.slice none 0 0) = W9 := ⟨_, rfl⟩
        have R9 : B4 W9 (w.heap.size + 1) (.bool false) (.slice none 0 0) (.bool false) (.slice none 0 0) := by rw [← hW9]; exact J6.out.r.set _ _ _ _
        have PP : Hid (FoPost s.data.toList t.data.toList w (.returned (.tuple #[fz4, .int .i64 3])) W9) := by
          rw [← hW9]
          exact .inr ⟨PF.out.1, by rw [PF.out.2], below_four J6.out.bel (Nat.le_succ _) _ _ _ _⟩
        have q0 := J6.out.r.c0
        have q1 := J6.out.r.c1
        have q2 := J6.out.r.c2
        have q3 := J6.out.r.c3
        have g0 := J6.out.r.fr 0
        have g1 := J6.out.r.fr 1
        have g2 := J6.out.r.fr 2
        have g3 := J6.out.r.fr 3
        obtain ⟨r0, r1, r2, r3, _, _⟩ := id R9
        unfold four at hW9
        clear R9
        go_wp2_with fail
        exact bodyPost_ret (v := .tuple #[fz4, .int .i64 3]) (by simp [results, Tryz.results36, go_sem, r0, r1, r2, r3]) rfl PP.out
      · obtain ⟨x, ex, hx, hxb⟩ := Z1.out rfl
        obtain ⟨y, ey, hy, hyb⟩ := Z2.out rfl
        rw [ex, ey] at HRR
        have ZX := Lib.hid hx
        have ZY := Lib.hid hy
        have XB := Lib.hid hxb
        have YB := Lib.hid hyb
        clear Z1 Z2 N1 N2 ex ey hx hy hxb hyb
        have HSG := Lib.hid (Sign_c b2 a2 k2 c2 y W6 ZY.out)
        by_cases hpos : 0 < y
        · have hsg : decide (y.sign ≤ 0) = false := by rw [Int.sign_eq_one_of_pos hpos]; rfl
          have HP := Lib.hid hpos
          clear hpos
          generalize y.sign = sy at *
          go_wp2_with fail
          clear hW6 hW5 hgd d0 d1 f0 f1
          refine HSG.out.mono ?_
          rintro e w7 ⟨rfl, b7⟩
          have J7 := Lib.hid (J6.out.keep b7)
          have X7 := Lib.hid (ZX.out.below b7)
          have Y7 := Lib.hid (ZY.out.below b7)
          clear b7 J6 ZX ZY HSG n0 n1 p0 p1
          have n0 := J7.out.n.c0
          have n1 := J7.out.n.c1
          have p0 := J7.out.d.c0
          have p1 := J7.out.d.c1
          have HCM := Lib.hid (Common_c b1 b2 a1 a2 k1 k2 c1 c2 x y w7 X7.out Y7.out (Nat.lt_of_lt_of_le XB.out (bp_mono (by decide))) (Nat.lt_of_lt_of_le YB.out (bp_mono (by decide))))
          go_wp2_with fail
          clear n0 n1 p0 p1
          refine HCM.out.mono ?_
          rintro e w8 ⟨gb, ga, gk, gc, rfl, hg, b8⟩
          have J8 := Lib.hid (J7.out.keep b8)
          have X8 := Lib.hid (X7.out.below b8)
          have Y8 := Lib.hid (Y7.out.below b8)
          have G8 := Lib.hid hg
          clear hg b8 J7 X7 Y7 HCM
          go_wp2_with fail
          refine (Of_c 1 w8 (by decide) (by decide)).mono ?_
          rintro e w9 ⟨ob, oa, ok, oc, rfl, ho, b9⟩
          have J9 := Lib.hid (J8.out.keep b9)
          have X9 := Lib.hid (X8.out.below b9)
          have Y9 := Lib.hid (Y8.out.below b9)
          have HEQ := Lib.hid (Equal_c gb ob ga oa gk ok gc oc _ _ w9 (G8.out.below b9) ho)
          clear ho b9 J8 X8 Y8 G8
          by_cases hone : (Int.gcd x y : Int) = 1
          · rw [decide_eq_true hone] at HEQ
            go_wp2_with fail
            refine HEQ.out.mono ?_
            rintro e wA ⟨rfl, bA⟩
            have JA := Lib.hid (J9.out.keep bA)
            have XA := Lib.hid (X9.out.below bA)
            have YA := Lib.hid (Y9.out.below bA)
            have PF : Hid (rread s.data.toList t.data.toList = some (x, y) ∧ Int.gcd x y = 1) := by
              have h1 : Int.gcd x y = 1 := by omega
              refine ⟨?_, h1⟩
              rw [HRR.out]
              rw [if_pos ⟨HP.out, h1⟩]
            clear bA J9 X9 Y9 HEQ hone HRR HFL
            have n0 := JA.out.n.c0
            have n1 := JA.out.n.c1
            have p0 := JA.out.d.c0
            have p1 := JA.out.d.c1
            obtain ⟨W9, hW9⟩ : ∃ W9, four wA (w.heap.size + 1) (.bool b1) (.slice a1 k1 c1) (.bool b2) (.slice a2 k2 c2) = W9 := ⟨_, rfl⟩
            have R9 : B4 W9 (w.heap.size + 1) (.bool b1) (.slice a1 k1 c1) (.bool b2) (.slice a2 k2 c2) := by rw [← hW9]; exact JA.out.r.set _ _ _ _
            have PP : Hid (FoPost s.data.toList t.data.toList w (.returned (.tuple #[.agg #[.bool b1, .slice a1 k1 c1, .bool b2, .slice a2 k2 c2], .int .i64 0])) W9) := by
              rw [← hW9]
              exact .inl ⟨x, y, _, _, _, _, _, _, _, _, PF.out.1, rfl, XA.out.set4 JA.out.r (NL.b _) (NL.s _ _ _) (NL.b _) (NL.s _ _ _) _ _ _ _, YA.out.set4 JA.out.r (NL.b _) (NL.s _ _ _) (NL.b _) (NL.s _ _ _) _ _ _ _, XB.out, YB.out, HP.out, PF.out.2, below_four JA.out.bel (Nat.le_succ _) _ _ _ _⟩
            have q0 := JA.out.r.c0
            have q1 := JA.out.r.c1
            have q2 := JA.out.r.c2
            have q3 := JA.out.r.c3
            have g0 := JA.out.r.fr 0
            have g1 := JA.out.r.fr 1
            have g2 := JA.out.r.fr 2
            have g3 := JA.out.r.fr 3
            obtain ⟨r0, r1, r2, r3, _, _⟩ := id R9
            unfold four at hW9
            clear R9 JA XA YA
            go_wp2_with fail
            exact bodyPost_ret (v := .tuple #[.agg #[.bool b1, .slice a1 k1 c1, .bool b2, .slice a2 k2 c2], .int .i64 0]) (by simp [results, Tryz.results36, go_sem, r0, r1, r2, r3]) rfl PP.out
          · rw [decide_eq_false hone] at HEQ
            have PF : Hid (rread s.data.toList t.data.toList = none ∧ rflt s.data.toList t.data.toList = 3) := by
              refine ⟨?_, HFL.out⟩
              rw [HRR.out]
              rw [if_neg (fun h => hone (by omega))]
            clear hone HRR HFL X9 Y9
            go_wp2_with fail
            refine HEQ.out.mono ?_
            rintro e wA ⟨rfl, bA⟩
            have J6 := Lib.hid (J9.out.keep bA)
            clear bA J9 HEQ
            obtain ⟨W9, hW9⟩ : ∃ W9, four wA (w.heap.size + 1) (.bool false) (.slice none 0 0) (.bool false) (.slice none 0 0) = W9 := ⟨_, rfl⟩
            have R9 : B4 W9 (w.heap.size + 1) (.bool false) (.slice none 0 0) (.bool false) (.slice none 0 0) := by rw [← hW9]; exact J6.out.r.set _ _ _ _
            have PP : Hid (FoPost s.data.toList t.data.toList w (.returned (.tuple #[fz4, .int .i64 3])) W9) := by
              rw [← hW9]
              exact .inr ⟨PF.out.1, by rw [PF.out.2], below_four J6.out.bel (Nat.le_succ _) _ _ _ _⟩
            have q0 := J6.out.r.c0
            have q1 := J6.out.r.c1
            have q2 := J6.out.r.c2
            have q3 := J6.out.r.c3
            have g0 := J6.out.r.fr 0
            have g1 := J6.out.r.fr 1
            have g2 := J6.out.r.fr 2
            have g3 := J6.out.r.fr 3
            obtain ⟨r0, r1, r2, r3, _, _⟩ := id R9
            unfold four at hW9
            clear R9
            go_wp2_with fail
            exact bodyPost_ret (v := .tuple #[fz4, .int .i64 3]) (by simp [results, Tryz.results36, go_sem, r0, r1, r2, r3]) rfl PP.out
        · have hsg : decide (y.sign ≤ 0) = true := by
            rw [decide_eq_true_iff]
            rcases zsgn y with ⟨e, _⟩ | ⟨e, _⟩ | ⟨_, e⟩
            · rw [e]; decide
            · rw [e]; decide
            · exact absurd e hpos
          have PF : Hid (rread s.data.toList t.data.toList = none ∧ rflt s.data.toList t.data.toList = 3) := by
            refine ⟨?_, HFL.out⟩
            rw [HRR.out]
            show (if 0 < y ∧ Int.gcd x y = 1 then some (x, y) else none) = none
            rw [if_neg (fun h => hpos h.1)]
          clear hpos HRR HFL
          generalize y.sign = sy at *
          go_wp2_with fail
          clear hW6 hW5 hgd d0 d1 f0 f1 n0 n1 p0 p1
          refine HSG.out.mono ?_
          rintro e wA ⟨rfl, bA⟩
          have J7 := Lib.hid (J6.out.keep bA)
          clear bA J6 HSG ZX ZY
          have J6 := Lib.hid J7.out
          clear J7
          obtain ⟨W9, hW9⟩ : ∃ W9, four wA (w.heap.size + 1) (.bool false) (.slice none 0 0) (.bool false) (.slice none 0 0) = W9 := ⟨_, rfl⟩
          have R9 : B4 W9 (w.heap.size + 1) (.bool false) (.slice none 0 0) (.bool false) (.slice none 0 0) := by rw [← hW9]; exact J6.out.r.set _ _ _ _
          have PP : Hid (FoPost s.data.toList t.data.toList w (.returned (.tuple #[fz4, .int .i64 3])) W9) := by
            rw [← hW9]
            exact .inr ⟨PF.out.1, by rw [PF.out.2], below_four J6.out.bel (Nat.le_succ _) _ _ _ _⟩
          have q0 := J6.out.r.c0
          have q1 := J6.out.r.c1
          have q2 := J6.out.r.c2
          have q3 := J6.out.r.c3
          have g0 := J6.out.r.fr 0
          have g1 := J6.out.r.fr 1
          have g2 := J6.out.r.fr 2
          have g3 := J6.out.r.fr 3
          obtain ⟨r0, r1, r2, r3, _, _⟩ := id R9
          unfold four at hW9
          clear R9
          go_wp2_with fail
          exact bodyPost_ret (v := .tuple #[fz4, .int .i64 3]) (by simp [results, Tryz.results36, go_sem, r0, r1, r2, r3]) rfl PP.out
end Go.Proofs.YtchdfekajjeflaaGreatDoor
