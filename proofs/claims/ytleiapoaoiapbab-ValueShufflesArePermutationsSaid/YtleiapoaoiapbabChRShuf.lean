/-
  The reference's Shuffle.
-/
import Derived.Test.YtleiapoaoiapbabChShuf
namespace Go.Proofs.Ytleiapoaoiapbab
open Go.RowKit

theorem RShuffle_no (s : ByteArray) (n : Int) (w : World) (h : n < 0 ∨ 10000 < n) :
    Calls Try.prog 8 #[.string s, .int .i64 n] w fun e w' => e = .returned (.tuple #[.slice none 0 0, .int .i64 1]) ∧ w' = w := by
  have H := Lib.hid h; clear h
  go_enter Try.func8, Try.ntmps8
  go_wp2_with fail
  refine (RStream_no _ _ _ H.out).mono ?_
  rintro e w' ⟨rfl, rfl⟩
  go_wp2
  go_ret2
  exact ⟨rfl, rfl⟩

/-- A slice of words that reads as a list. -/
def IsK (k : IntKind) (w : World) (v : Value) (l : List Int) : Prop :=
  (∃ a c, v = .slice a 0 c ∧ l = []) ∨ ∃ b off cap, v = .slice (some ⟨b, off, none⟩) l.length cap ∧ 0 < l.length ∧ l.length ≤ 9223372036854775807 ∧ b < w.heap.size ∧ ∀ j, j < l.length → w.cell? ⟨b, off + j, none⟩ = some (.int k (l.getD j 0))
theorem IsK.below {k : IntKind} {w w' : World} {v : Value} {l : List Int} (h : IsK k w v l) (hb : Below w.heap.size w w') : IsK k w' v l := by
  rcases h with h | ⟨b, off, cap, h1, h2, h3, h4, h5⟩
  · exact .inl h
  · exact .inr ⟨b, off, cap, h1, h2, h3, Nat.lt_of_lt_of_le h4 hb.size, fun j hj => by rw [hb.cell (p := ⟨b, off + j, none⟩) h4]; exact h5 j hj⟩
/-- An owned row, as its cells. -/
theorem owned_cells {w : World} {base n : Nat} {e : TypeId} {k : IntKind} {v : Value} {l : List Int} (h : w.ownsRow base e 1 v n (l.map (Value.int k))) (hn : 0 < n) :
    ∃ g cap, v = .slice (some ⟨g, 0, none⟩) n cap ∧ base ≤ g ∧ g < w.heap.size ∧ l.length = n ∧ RowF w g n k (fun j => l.getD j 0) := by
  obtain ⟨hl, h | ⟨g, cap, cur, rfl, hb, hg, hnc, hm, hs, ht⟩⟩ := h
  · omega
  · have hlen : l.length = n := by simpa using hl
    have hlt : g < w.heap.size := lt_of_block hg
    refine ⟨g, cap, rfl, hb, hlt, hlen, fun j hj => ⟨?_, by simp [World.frozen?, hg]⟩⟩
    have hj2 : cur[j]? = some (.int k (l.getD j 0)) := by
      have e1 : (cur.toList.take (n * 1))[j]? = (l.map (Value.int k))[j]? := by rw [ht]
      rw [List.getElem?_take, if_pos (by omega)] at e1
      rw [← Array.getElem?_toList, e1, List.getElem?_map]
      have hj3 : j < l.length := by omega
      simp [hj3]
    simp [World.cell?, hg, hj2]
theorem Gathered.isK {w w' : World} {s0 : Int} {n : Nat} {v : Value} (h : Gathered w s0 n v w') (hn : n ≤ 10000) : IsK .u64 w' v (Ch.outs s0 n) := by
  by_cases h0 : n = 0
  · subst h0
    obtain ⟨_, ⟨rfl, _⟩ | ⟨g, cap, cur, rfl, _⟩⟩ := h.row
    · exact .inl ⟨none, 0, rfl, rfl⟩
    · exact .inl ⟨_, cap, rfl, rfl⟩
  · obtain ⟨g, cap, rfl, _, hlt, hl, hr⟩ := owned_cells h.row (by omega)
    refine .inr ⟨g, 0, cap, by rw [hl], by omega, by omega, hlt, fun j hj => ?_⟩
    rw [Nat.zero_add]
    exact (hr j (by omega)).1

/-- The list of the numbers from 0 on. -/
def nums (k : Nat) : List Int := (List.range k).map (fun j : Nat => (j : Int))
theorem nums_succ (k : Nat) : nums (k + 1) = nums k ++ [(k : Int)] := by simp [nums, List.range_succ]
theorem nums_at (n j : Nat) (h : j < n) : (nums n).getD j 0 = (j : Int) := by simp [nums, h]
structure Counting (w : World) (k : Nat) (v : Value) (wr : World) : Prop where
  row : wr.ownsRow w.heap.size 3 1 v k ((nums k).map (Value.int .i64))
  bel : Below w.heap.size w wr
theorem Counting.more {w wr w1 : World} {k : Nat} {v v' : Value} {o : Obj} (h : Counting w k v wr)
    (hown : w1.ownsRow w.heap.size 3 1 v' (k + 1) ((nums k).map (Value.int .i64) ++ [.int .i64 k])) (hg : (wr.alloc o).grownBy w1 v.ownBlock) : Counting w (k + 1) v' w1 where
  row := by rw [nums_succ, List.map_append]; exact hown
  bel := (h.bel.alloc h.bel.size o).grown hg (Nat.le_trans h.bel.size (by simp)) (fun b hb => (h.row.lt b hb).1)

/-- The order in block g behind k exchanges; all that was there ahead of the reference's own list stays. -/
structure InRef (w1 : World) (g : Nat) (s0 : Int) (n k : Nat) (wr : World) : Prop where
  row : RowF wr g n .i64 (Ch.pm s0 n k)
  bel : Below w1.heap.size w1 wr
  own : w1.heap.size ≤ g
theorem InRef.next {w1 wr : World} {g : Nat} {s0 : Int} {n m : Nat} (hm : m + 1 < n) (h : InRef w1 g s0 n (n - 1 - (m + 1)) wr) (d jn : Nat) (hj : jn = Ch.jx s0 n (m + 1)) :
    InRef w1 g s0 n (n - 1 - m) (((wr.drewN d).setCell ⟨g, m + 1, none⟩ (.int .i64 (Ch.pm s0 n (n - 1 - (m + 1)) jn))).setCell ⟨g, jn, none⟩ (.int .i64 (Ch.pm s0 n (n - 1 - (m + 1)) (m + 1)))) where
  row := by
    have r2 : RowF (wr.drewN d) g n .i64 (Ch.pm s0 n (n - 1 - (m + 1))) := fun j hj => h.row j hj
    refine ((r2.set (m + 1) _).set jn _).congr fun p _ => ?_
    rw [Ch.pm_next s0 n m hm, hj]
    rfl
  bel := ((below_drewN h.bel d).setCell (p := ⟨g, m + 1, none⟩) h.own _).setCell (p := ⟨g, jn, none⟩) h.own _
  own := h.own

/-- What the reference's Shuffle returns. -/
def RefPost (w : World) (s0 : Int) (n : Nat) (e : Ending) (w' : World) : Prop :=
  ∃ g cap, e = .returned (.tuple #[.slice (some ⟨g, 0, none⟩) n cap, .int .i64 0]) ∧ RowF w' g n .i64 (Ch.pm s0 n (n - 1)) ∧ Below w.heap.size w w'
set_option maxHeartbeats 8000000 in
theorem RShuffle_yes (s : ByteArray) (n : Nat) (w : World) (hs : s.size ≤ 9223372036854775807) (hn : n ≤ 10000) (h0 : 0 < n) :
    Calls Try.prog 8 #[.string s, .int .i64 n] w (RefPost w (Ch.seed s) n) := by
  obtain ⟨i0, hi, hz0, hz1, hz2⟩ := info_parts infoI
  obtain ⟨N, rfl⟩ : ∃ N, n = N + 1 := ⟨n - 1, by omega⟩
  go_enter Try.func8, Try.ntmps8
  go_wp2_with fail
  refine (RStream_yes s (N + 1) _ hs hn).mono ?_
  rintro e w1 ⟨l, rfl, hG⟩
  have hK := hG.isK hn
  have hB := Lib.hid hG.bel
  clear hG
  have HK := Lib.hid hK; clear hK
  go_wp2_with fail
  go_loopw [8, 9, 22] (fun v _ i wr => ∃ k : Nat, k ≤ N + 1 ∧ i = .int .i64 k ∧ Hid (Counting w1 k v wr)) (fun _ _ i _ => N + 1 - (intOf i).toNat)
  case atStart => exact ⟨0, Nat.zero_le _, rfl, World.ownsRow_nil _ _ _ _, Below.refl _ _⟩
  case round =>
    obtain ⟨k, hk, rfl, hC⟩ := hrel
    by_cases hlt : k < N + 1
    · have hkk : (k : Int) < (N : Int) + 1 := by omega
      have hO := Lib.hid hC.out.row
      go_wp2_with (at_builtin; refine wpList_append_own _ rfl _ _ 26 rfl w1.heap.size 3 i0 (.int .i64 0) 1 8 Try.underlying26 hi hz0 hz1 hz2 rfl (by decide) _ _ _ rfl (hO.out.alloc _) ⟨wr.heap.size, 0, none⟩ 1 1 [.int .i64 k] rfl rfl ?c1 ?c2 ?c3 ?c4 ?c5 ?_)
      case c1 =>
        intro j u hj
        match j, hj with
        | 0, hj => simp at hj; subst hj; simp [Addr.add]
      case c2 => intro u hu; simp at hu; subst hu; rfl
      case c3 => unfold maxLen; omega
      case c4 => omega
      case c5 => have := hC.out.bel.size; simp; omega
      intro v' w2 hown' hgrow _
      have hC' := Lib.hid (hC.out.more hown' hgrow)
      clear hown' hgrow hC hO
      go_wp2
      go_roundw
      case rel => exact ⟨k + 1, by omega, by go_num, hC'.out⟩
      case measure => simp [intOf]; omega
    · obtain rfl : k = N + 1 := by omega
      obtain ⟨g, cap, rfl, hbg, hglt, hlen, hrow⟩ := owned_cells hC.out.row (by omega)
      have hI : InRef w1 g (Ch.seed s) (N + 1) 0 wr := ⟨hrow.congr (fun j hj => nums_at _ _ hj), hC.out.bel, hbg⟩
      have HI := Lib.hid hI; clear hI hC hrow hlen
      rcases HK.out with ⟨_, _, _, hnil⟩ | ⟨b, off, cap', rfl, _, _, hb, hcells⟩
      · simp [Ch.outs] at hnil
      · rw [Ch.outs_len]
        rw [Ch.outs_len] at hcells
        have HL := Lib.hid hcells; clear hcells HK
        have HBL := Lib.hid hb; clear hb
        go_wp2_with fail
        go_loopw [10, 11] (fun i _ wr => ∃ q : Nat, q < N + 1 ∧ i = .int .i64 q ∧ Hid (InRef w1 g (Ch.seed s) (N + 1) (N + 1 - 1 - q) wr)) (fun i _ _ => (intOf i).toNat)
        case atStart => exact ⟨N, by omega, rfl, by rw [show N + 1 - 1 - N = 0 by omega]; exact HI.out⟩
        case round =>
          obtain ⟨q, hq, rfl, hR⟩ := hrel
          clear HI
          cases q with
          | zero =>
            go_wp2
            go_ret2
            exact ⟨g, cap, rfl, hR.out.row, hB.out.trans (hR.out.bel.mono hB.out.size)⟩
          | succ m =>
            have hJ := Ch.jx_lt (Ch.seed s) (N + 1) (m + 1)
            have hE := Ch.jx_cast (Ch.seed s) (N + 1) (m + 1)
            have ci := (hR.out.row (m + 1) hq).1
            have fi := (hR.out.row (m + 1) hq).2
            have cj := (hR.out.row (Ch.jx (Ch.seed s) (N + 1) (m + 1)) (by omega)).1
            have fj := (hR.out.row (Ch.jx (Ch.seed s) (N + 1) (m + 1)) (by omega)).2
            have hN := Lib.hid (fun d => hR.out.next (m := m) hq d _ rfl)
            obtain ⟨r, hr⟩ : ∃ r, r = N + 1 - 1 - (m + 1) := ⟨_, rfl⟩
            have cl : wr.cell? ⟨b, off + r, none⟩ = some (.int .u64 (Ch.outAt (Ch.seed s) r)) := by
              rw [hR.out.bel.cell (p := ⟨b, off + r, none⟩) HBL.out, HL.out r (by omega), Ch.outs_at _ _ _ (by omega)]
            rw [← hr] at hE ci cj hN
            obtain ⟨jn, hjn⟩ : ∃ jn, jn = Ch.jx (Ch.seed s) (N + 1) (m + 1) := ⟨_, rfl⟩
            rw [← hjn] at hJ hE cj fj hN
            clear hjn hR
            have hE' : Hid ((Ch.outAt (Ch.seed s) r).tmod ((m : Int) + 1 + 1) = (jn : Int)) := by unfold Hid; rw [hE]; exact Ch.tmod_ot _ _
            clear hE
            generalize Ch.outAt (Ch.seed s) r = z at cl hE'
            generalize Ch.pm (Ch.seed s) (N + 1) r (m + 1) = x at ci hN
            generalize Ch.pm (Ch.seed s) (N + 1) r jn = y at cj hN
            obtain rfl : N = m + 1 + r := by omega
            clear hr
            go_wp2_with fail
            have hwj : wrap64 (jn : Int) = (jn : Int) := by unfold wrap64; omega
            rw [hE'.out, hwj]
            clear hwj hE' cl
            have i1 : (m : Int) + 1 < (m : Int) + 1 + (r : Int) + 1 := by omega
            have i2 : (jn : Int) < (m : Int) + 1 + (r : Int) + 1 := by omega
            by_cases hne : jn = m + 1
            · subst hne
              obtain rfl : x = y := by have h := ci.symm.trans cj; simpa using h
              go_region
              go_wp2
              go_roundw
              case rel => exact ⟨m, by omega, by go_num, hN.out 1⟩
              case measure => simp [intOf]
            · obtain ⟨v', hy'⟩ := cell?_setCell_some (w := wr.drew) (p := ⟨g, m + 1, none⟩) (x := .int .i64 y) (q := ⟨g, jn, none⟩) (v := .int .i64 y) (by simpa using cj)
              go_region
              go_wp2
              go_roundw
              case rel => exact ⟨m, by omega, by go_num, hN.out 1⟩
              case measure => simp [intOf]
end Go.Proofs.Ytleiapoaoiapbab
