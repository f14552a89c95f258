/-
  inside and list of the reference, over contracts of write.
-/
import Derived.Test.YtcdifmnakppfkaaGreatDoorExJoin
import Derived.Test.YtcdifmnakppfkaaGreatDoorExRRow
import Derived.WalkSmall
namespace Go.Proofs.YtcdifmnakppfkaaGreatDoor
open Go.RowKit

def WriteC (w0 : World) (h : Hd) (a : Fo) : Prop := ∀ (v : Value) (w : World), IsX w0 h a v → Below w0.heap.size w0 w → Calls Tryz.prog 12 #[v] w (TE (bs (plainS h (txs a))) w)
def InsideC (w0 : World) (h : Hd) (a : Fo) : Prop := ∀ (v : Value) (r : Int) (w : World), r ≤ 7 → IsX w0 h a v → Below w0.heap.size w0 w → Calls Tryz.prog 26 #[v, .int .i64 r] w (TE (bs ((txOf h a).put r)) w)
set_option maxHeartbeats 1000000 in
theorem inside_of (w0 : World) (h : Hd) (a : Fo) (hP : WriteC w0 h a) (hk : h.k ≠ 4 ∨ (1 ≤ h.o ∧ h.o ≤ 39)) (hl : (plainS h (txs a)).length ≤ 4000000) : InsideC w0 h a := by
  intro v r w h7 hx hb
  have hx0 := hx
  obtain ⟨sv, av, n, c, rfl, hL, rfl, hs⟩ := hx
  obtain ⟨p, m, q, rfl⟩ := hL.form
  clear hL hs
  have hb1 := hb.alloc hb.size (.cells #[.int .i64 h.k, .int .i64 h.o, .string h.nm, .int .i64 h.vk, .int .i64 h.vn, .string h.vs, .slice p m q, .slice av a.len c] 27)
  have hbz := hb.size
  have HP := Lib.hid (fun W (hW : Below w0.heap.size w0 W) => hP _ W hx0 hW)
  have HB0 := Lib.hid hb1
  have HB1 := Lib.hid ((Below.refl w.heap.size w).alloc (Nat.le_refl _) (.cells #[.int .i64 h.k, .int .i64 h.o, .string h.nm, .int .i64 h.vk, .int .i64 h.vn, .string h.vs, .slice p m q, .slice av a.len c] 27))
  have HR := Lib.hid (fun w => rrow_c h.k h.o h.nm h.vk h.vn h.vs p m q av a.len c w hk)
  have eT : Hid ((txOf h a).put r = if rowS h.k h.o < r then paren (plainS h (txs a)) else plainS h (txs a)) := rfl
  have hlt := rrow_lt h.k h.o h.vk h.vn r h7
  clear hx0 hb hb1 hP hk h7
  generalize rrowS h.k h.o h.vk h.vn = x at HR hlt
  obtain ⟨t, ht⟩ : ∃ t, t = bs (plainS h (txs a)) := ⟨_, rfl⟩
  have hts : t.size ≤ 4000000 := by rw [ht, bs_size]; exact hl
  rw [← ht] at HP
  have HT := Lib.hid ht; clear ht hl
  by_cases hr : x < r
  · have e : Hid (bs ((txOf h a).put r) = bs [40] ++ t ++ bs [41]) := by
      unfold Hid; rw [eT.out, if_pos (hlt.1 hr), HT.out, bs_app, bs_app]; simp [paren]
    clear eT hlt
    go_enter Tryz.func26, Tryz.ntmps26
    go_wp2_with fail
    refine (HR.out _).mono ?_
    rintro e2 w2 ⟨rfl, hB⟩
    have HB2 := Lib.hid (HB1.out.trans (hB.mono HB1.out.size))
    have HB3 := Lib.hid (HB0.out.trans (hB.mono HB0.out.size))
    obtain ⟨bc, bf⟩ := bcell hB
    clear hB
    go_wp2_with fail
    refine (HP.out _ HB3.out).mono ?_
    rintro e1 w1 ⟨rfl, hB⟩
    have HB4 := Lib.hid (HB2.out.trans (hB.mono HB2.out.size)); clear hB bc bf
    go_wp2
    go_ret
    exact ⟨by rw [e.out]; rfl, HB4.out⟩
  · have hr' : decide (x < r) = false := by simpa using hr
    have e : Hid (bs ((txOf h a).put r) = t) := by unfold Hid; rw [eT.out, if_neg (fun hh => hr (hlt.2 hh)), HT.out]
    clear eT hr hlt
    go_enter Tryz.func26, Tryz.ntmps26
    go_wp2_with fail
    refine (HR.out _).mono ?_
    rintro e2 w2 ⟨rfl, hB⟩
    have HB2 := Lib.hid (HB1.out.trans (hB.mono HB1.out.size))
    have HB3 := Lib.hid (HB0.out.trans (hB.mono HB0.out.size))
    obtain ⟨bc, bf⟩ := bcell hB
    clear hB
    go_wp2_with fail
    refine (HP.out _ HB3.out).mono ?_
    rintro e1 w1 ⟨rfl, hB⟩
    have HB4 := Lib.hid (HB2.out.trans (hB.mono HB2.out.size)); clear hB bc bf
    go_wp2
    go_ret
    exact ⟨by rw [e.out]; rfl, HB4.out⟩

/-- The texts gathered so far lie in a row of the call's own. -/
structure GathT (w : World) (f : Nat → List UInt8) (k : Nat) (v : Value) (wr : World) : Prop where
  row : wr.ownsRow w.heap.size 9 1 v k ((List.range k).map fun j => Value.string (bs (f j)))
  bel : Below w.heap.size w wr
theorem GathT.more {w wr w1 w2 : World} {f : Nat → List UInt8} {k : Nat} {v v' : Value} {o : Obj} (h : GathT w f k v wr) (hb : Below wr.heap.size wr w1)
    (hown : w2.ownsRow w.heap.size 9 1 v' (k + 1) (((List.range k).map fun j => Value.string (bs (f j))) ++ [.string (bs (f k))])) (hg : (w1.alloc o).grownBy w2 v.ownBlock) : GathT w f (k + 1) v' w2 where
  row := by rw [List.range_succ, List.map_append]; exact hown
  bel := by
    have h1 := h.bel.trans (hb.mono h.bel.size)
    exact (h1.alloc h1.size o).grown hg (Nat.le_trans h1.size (by simp)) (fun b hb => (h.row.lt b hb).1)
theorem ownsRow_bel {w w' : World} {base : Nat} {e : TypeId} {size : Nat} {v : Value} {n : Nat} {xs : List Value} (h : w.ownsRow base e size v n xs) (hb : Below w.heap.size w w') : w'.ownsRow base e size v n xs := by
  obtain ⟨hl, h | ⟨g, cap, cur, rfl, hg0, hg, hnc, hm, hs, ht⟩⟩ := h
  · exact ⟨hl, .inl h⟩
  · refine ⟨hl, .inr ⟨g, cap, cur, rfl, hg0, ?_, hnc, hm, hs, ht⟩⟩
    rw [hb.block g (lt_of_block hg)]; exact hg
theorem infoStr : (Tryz.prog.info? 9).map (fun i => (i.zero, i.size, i.bytes)) = some (some (.string ByteArray.empty), 1, 16) := by kernel_rfl
set_option maxHeartbeats 4000000 in
theorem list_c (w0 : World) (xs : Fo) (a : Option Addr) (c : Nat) (r : Int) (sep : List UInt8) (h0 : 0 < xs.len) (hlen : xs.len ≤ 1000) (hr7 : r ≤ 7) (hsep : sep.length ≤ 10) (htot : total (txs xs) ≤ 4000000)
    (hs : xs.len = 0 ∨ ∃ b off, a = some ⟨b, off, none⟩ ∧ b < w0.heap.size ∧ IsF w0 b xs off) (ih : ∀ k h' a', xs.drop k = .cons h' a' (xs.drop (k + 1)) → InsideC w0 h' a')
    (w : World) (hb : Below w0.heap.size w0 w) :
    Calls Tryz.prog 25 #[.slice a xs.len c, .int .i64 r, .string (bs sep)] w (TE (bs (joinX (txs xs) r sep)) w) := by
  have hjl := joinX_len (txs xs) r sep hsep
  have hJ := Lib.hid (fun (w1 : World) (b c : Nat) (hc : xs.len ≤ c) hrow => joinG_c b xs.len c ((txs xs).map (·.put r)) sep w1 (by rw [List.length_map, txs_len]) h0 (by unfold joinX at hjl; omega) hlen hc hrow)
  have IH := Lib.hid ih; clear ih hjl htot
  have HR7 := Lib.hid hr7; clear hr7
  obtain ⟨b, off, rfl, hbl, hF⟩ : ∃ b off, a = some ⟨b, off, none⟩ ∧ b < w0.heap.size ∧ IsF w0 b xs off := by
    rcases hs with h | h
    · omega
    · exact h
  have HF := Lib.hid hF; clear hF
  have HB0 := Lib.hid hb; have hbs := hb.size; clear hb
  generalize hsp : bs sep = spt at *
  clear hsp
  obtain ⟨i0, hi, hz0, hz1, hz2⟩ := info_parts infoStr
  go_enter Tryz.func25, Tryz.ntmps25
  go_wp2_with fail
  go_loopw [7, 9, 12] (fun v _ i wr => ∃ (k : Nat) (vv : Value), k ≤ xs.len ∧ i = .int .i64 k ∧ vv = v ∧ Hid (GathT w (fun j => ((txs xs).getD j default).put r) k vv wr)) (fun _ _ i _ => xs.len - (intOf i).toNat)
  case atStart => exact ⟨0, _, Nat.zero_le _, rfl, rfl, World.ownsRow_nil _ _ _ _, Below.refl _ _⟩
  case round =>
    obtain ⟨k, vv, hk, rfl, rfl, hG⟩ := hrel
    by_cases hlt : k < xs.len
    · have hkk : (k : Int) < (xs.len : Int) := by omega
      obtain ⟨h', a', hd⟩ := Fo.drop_at k xs hlt
      obtain ⟨sp, sm, sq, p', n', c', g0, g1, g2, g3, g4, g5, g6, g7, hX⟩ := HF.out.cells hd
      have hBB := HB0.out.trans (hG.out.bel.mono hbs)
      have cc := fun (o : Nat) => hBB.cell (p := ⟨b, o, none⟩) hbl
      have k0 := (cc _).trans g0
      have k1 := (cc _).trans g1
      have k2 := (cc _).trans g2
      have k3 := (cc _).trans g3
      have k4 := (cc _).trans g4
      have k5 := (cc _).trans g5
      have k6 := (cc _).trans g6
      have k7 := (cc _).trans g7
      have HX := Lib.hid hX
      have HD := Lib.hid hd
      have HBB := Lib.hid hBB
      have eT := Lib.hid (txs_at hd)
      clear g0 g1 g2 g3 g4 g5 g6 g7 hX hd cc hBB
      go_wp2_with fail
      refine (IH.out k h' a' HD.out _ r _ HR7.out HX.out (HBB.out.alloc HBB.out.size _)).mono ?_
      rintro e w3 ⟨rfl, hB⟩
      have hB2 := (Below.refl wr.heap.size wr).alloc (Nat.le_refl _) (.cells #[.int .i64 h'.k, .int .i64 h'.o, .string h'.nm, .int .i64 h'.vk, .int .i64 h'.vn, .string h'.vs, .slice sp sm sq, .slice p' n' c'] 27)
      have hB3 := Lib.hid (hB2.trans (hB.mono hB2.size))
      have hO := Lib.hid (ownsRow_bel hG.out.row hB3.out)
      have hsz := Lib.hid (Nat.le_trans hG.out.bel.size hB3.out.size)
      clear hB hB2 k0 k1 k2 k3 k4 k5 k6 k7
      obtain ⟨tx, htx⟩ : ∃ tx, tx = bs ((txOf h' a').put r) := ⟨_, rfl⟩
      rw [← htx]
      have HTX := Lib.hid htx; clear htx
      go_wp2_with (at_builtin; refine wpList_append_own _ rfl _ _ 33 rfl w.heap.size 9 i0 (.string ByteArray.empty) 1 16 Tryz.underlying33 hi hz0 hz1 hz2 rfl (by decide) _ _ _ rfl (hO.out.alloc _) ⟨w3.heap.size, 0, none⟩ 1 1 [.string tx] rfl rfl ?c1 ?c2 ?c3 ?c4 ?c5 ?_)
      case c1 =>
        intro j u hj
        match j, hj with
        | 0, hj => simp at hj; subst hj; simp [Addr.add]
      case c2 => intro u hu; simp at hu; subst hu; rfl
      case c3 => unfold maxLen; omega
      case c4 => omega
      case c5 => have := hsz.out; simp; omega
      intro v' w4 hown' hgrow _
      have hG' := Lib.hid (hG.out.more hB3.out (v' := v') (by rw [eT.out, ← HTX.out]; exact hown') hgrow)
      clear hown' hgrow hG hO
      go_wp2
      go_roundw
      case rel => exact ⟨k + 1, _, by omega, by go_num, rfl, hG'.out⟩
      case measure => simp [intOf]; omega
    · obtain rfl : k = xs.len := by omega
      obtain ⟨g, cap, rfl, hcap⟩ : ∃ g cap, vv = .slice (some ⟨g, 0, none⟩) xs.len cap ∧ xs.len ≤ cap := by
        obtain ⟨_, h | ⟨g, cap, cur, e, _, _, hnc, _⟩⟩ := hG.out.row
        · omega
        · exact ⟨g, cap, e, hnc⟩
      go_wp2_with fail
      refine (hJ.out _ g cap hcap (fun j hj => by
        have := hG.out.row.cellAt j (by omega)
        rw [this]
        have hjl : j < (txs xs).length := by rw [txs_len]; exact hj
        simp [hjl, hj])).mono ?_
      rintro e w3 ⟨rfl, hB2⟩
      have hB := Lib.hid (hG.out.bel.trans (hB2.mono hG.out.bel.size)); clear hG hB2
      go_wp2
      go_ret
      exact ⟨rfl, hB.out⟩
end Go.Proofs.YtcdifmnakppfkaaGreatDoor
