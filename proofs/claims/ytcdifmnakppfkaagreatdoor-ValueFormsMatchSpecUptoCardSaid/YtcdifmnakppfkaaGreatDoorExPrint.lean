/-
  plain and Print of package value.
-/
import Derived.Test.YtcdifmnakppfkaaGreatDoorExJoin
import Derived.Test.YtcdifmnakppfkaaGreatDoorExPlainS
namespace Go.Proofs.YtcdifmnakppfkaaGreatDoor
open Go.RowKit

theorem row_cases (o : Nat) (h1 : 1 ≤ o) (h2 : o ≤ 39) : (rowS 4 o = 1 ∨ rowS 4 o = 2 ∨ rowS 4 o = 3 ∨ rowS 4 o = 4 ∨ rowS 4 o = 5 ∨ rowS 4 o = 6 ∨ rowS 4 o = 7 ∨ rowS 4 o = 8) ∧ 1 ≤ leastS o ∧ (rowS 4 o = 5 ∨ rowS 4 o = 6 → leastS o = 2) := by
  have := rowS_ge 4 o
  refine ⟨by omega, ?_, ?_⟩
  · unfold leastS; split
    · omega
    · split <;> omega
  · intro h
    unfold rowS at h
    unfold leastS
    rw [if_neg (by decide)] at h
    have : o = 15 ∨ o = 16 ∨ (17 ≤ o ∧ o ≤ 19) := by
      repeat (split at h <;> try omega)
    rw [if_neg (by omega), if_neg (by omega)]
/-- The cells of the first two expressions of a row, as the walk spells them. -/
theorem cells0 {w : World} {b off : Nat} {xs : Fo} {h : Hd} {a : Fo} (hF : IsF w b xs off) (hk : xs.drop 0 = .cons h a (xs.drop 1)) :
    ∃ sp sm sq p n c, w.cell? ⟨b, off, none⟩ = some (.int .i64 h.k) ∧ w.cell? ⟨b, off + 1, none⟩ = some (.int .i64 h.o) ∧ w.cell? ⟨b, off + 2, none⟩ = some (.string h.nm) ∧ w.cell? ⟨b, off + 3, none⟩ = some (.int .i64 h.vk) ∧ w.cell? ⟨b, off + 4, none⟩ = some (.int .i64 h.vn) ∧ w.cell? ⟨b, off + 5, none⟩ = some (.string h.vs) ∧ w.cell? ⟨b, off + 6, none⟩ = some (.slice sp sm sq) ∧ w.cell? ⟨b, off + 7, none⟩ = some (.slice p n c) ∧
      IsX w h a (.agg #[.int .i64 h.k, .int .i64 h.o, .string h.nm, .int .i64 h.vk, .int .i64 h.vn, .string h.vs, .slice sp sm sq, .slice p n c]) := by
  have := hF.cells (k := 0) hk
  simpa using this
theorem cells1 {w : World} {b off : Nat} {xs : Fo} {h : Hd} {a : Fo} (hF : IsF w b xs off) (hk : xs.drop 1 = .cons h a (xs.drop 2)) :
    ∃ sp sm sq p n c, w.cell? ⟨b, off + 8, none⟩ = some (.int .i64 h.k) ∧ w.cell? ⟨b, off + 8 + 1, none⟩ = some (.int .i64 h.o) ∧ w.cell? ⟨b, off + 8 + 2, none⟩ = some (.string h.nm) ∧ w.cell? ⟨b, off + 8 + 3, none⟩ = some (.int .i64 h.vk) ∧ w.cell? ⟨b, off + 8 + 4, none⟩ = some (.int .i64 h.vn) ∧ w.cell? ⟨b, off + 8 + 5, none⟩ = some (.string h.vs) ∧ w.cell? ⟨b, off + 8 + 6, none⟩ = some (.slice sp sm sq) ∧ w.cell? ⟨b, off + 8 + 7, none⟩ = some (.slice p n c) ∧
      IsX w h a (.agg #[.int .i64 h.k, .int .i64 h.o, .string h.nm, .int .i64 h.vk, .int .i64 h.vn, .string h.vs, .slice sp sm sq, .slice p n c]) := by
  have := hF.cells (k := 1) hk
  simpa using this
theorem ret_str {a b : ByteArray} (h : a = b) : Ending.returned (.string a) = .returned (.string b) := by rw [h]
theorem sep_eq (o : Nat) : bs (32 :: (opW o ++ [32])) = (⟨#[32]⟩ : ByteArray) ++ bs (opW o) ++ ⟨#[32]⟩ := by
  show _ = bs [32] ++ bs (opW o) ++ bs [32]
  rw [bs_app, bs_app]; simp
theorem opT_row {o : Nat} {r : Int} (xs : List Tx) (h : rowS 4 o = r) : opT o xs =
    if r = 1 ∨ r = 2 then joinX xs (r + 1) (32 :: (opW o ++ [32]))
    else if r = 3 then opW o ++ (32 :: (xs.getD 0 default).put 3)
    else if r = 4 then joinX xs 5 (32 :: (opW o ++ [32]))
    else if r = 5 ∨ r = 6 then (xs.getD 0 default).put r ++ (32 :: (opW o ++ (32 :: (xs.getD 1 default).put (r + 1))))
    else if r = 7 then opW o ++ (xs.getD 0 default).opp
    else opW o ++ (40 :: (joinX xs 1 [44, 32] ++ [41])) := by
  unfold opT; rw [h]

set_option maxHeartbeats 1000000 in
theorem plain_step (w0 : World) (hE : Env w0) (h : Hd) (a : Fo) (e : oneS h a = 0) (hp : a.parts ≤ 300) (ih : ∀ k h' a', a.drop k = .cons h' a' (a.drop (k + 1)) → PlainC w0 h' a') : PlainC w0 h a := by
  intro v w hx hb
  obtain ⟨e1, e2⟩ := one_ok e
  have hpr : ∀ k h' a', a.drop k = .cons h' a' (a.drop (k + 1)) → PrintedC w0 h' a' := fun k h' a' hd =>
    printed_of w0 h' a' (ih k h' a' hd) (op_known (one_ok (all_at hd e2)).1) (text_le (all_at hd e2) (by have := Fo.parts_sub hd; omega)).1
  have hlp : ∀ k h' a' r, a.drop k = .cons h' a' (a.drop (k + 1)) → (bs ((txOf h' a').put r)).size ≤ 4100000 := fun k h' a' r hd => by
    rw [bs_size]
    have h1 := put_len (txOf h' a') r
    have h2 := (text_le (all_at hd e2) (by have := Fo.parts_sub hd; omega)).1
    omega
  have htot : total (txs a) ≤ 4000000 := (text_le e hp).2
  have hEw := hE.below hb
  have hll := a.len_le_parts
  obtain ⟨k, o, nm, vk, vn, vs, vl⟩ := h
  obtain ⟨sv, av, n, c, rfl, hL, rfl, hs⟩ := hx
  have hL' := hL.below hb
  obtain ⟨p, m, q, rfl⟩ := hL.form
  have bz := hb.size
  rcases part_ok e1 with ⟨h1, hg⟩ | ⟨h1, hn⟩ | ⟨h1, hn⟩ | ⟨h1, o1, o2, l1, l2⟩ | ⟨h1, o1, o2, hl, hn⟩ <;> simp only at h1
  · subst h1
    exact (plain_1 o nm vk vn vs vl p m q av a.len c w hL' hEw hg).mono fun _ _ h => te_of h
  · subst h1
    exact (plain_2 o nm vk vn vs p m q av a.len c w hn).mono fun _ _ h => te_of h
  · subst h1
    exact (plain_3 o nm vk vn vs p m q av a.len c w hn).mono fun _ _ h => te_of h
  · subst h1
    simp only at o1 o2 l1 l2
    obtain ⟨o, rfl⟩ : ∃ u : Nat, o = u := ⟨o.toNat, by omega⟩
    have hrc := row_cases o (by omega) (by omega)
    have h0 : 0 < a.len := by have := hrc.2.1; omega
    have hT : plainS ⟨4, o, nm, vk, vn, vs, vl⟩ (txs a) = opT o (txs a) := by unfold plainS; simp
    have hJ : ∀ (r : Int) (sep : List UInt8), sep.length ≤ 10 → ∀ W, Below w.heap.size w W → Calls Tryz.prog 33 #[.slice av a.len c, .int .i64 r, .string (bs sep)] W (TE (bs (joinX (txs a) r sep)) W) :=
      fun r sep hsep W hW => joined_c w0 a av c r sep h0 (by omega) hsep htot hs hpr W (hb.trans (hW.mono bz))
    have hjs : ∀ r sep, sep.length ≤ 10 → (bs (joinX (txs a) r sep)).size ≤ 4100000 := fun r sep hsep => by
      rw [bs_size]; have := joinX_len (txs a) r sep hsep; omega
    have h8 := opW_len o
    have hsl : (32 :: (opW o ++ [32])).length ≤ 10 := by simp only [List.length_cons, List.length_append, List.length_nil]; omega
    obtain ⟨b, off, rfl, hbl, hF⟩ : ∃ b off, av = some ⟨b, off, none⟩ ∧ b < w0.heap.size ∧ IsF w0 b a off := by
      rcases hs with h | h
      · omega
      · exact h
    have hbl' := Nat.lt_of_lt_of_le hbl bz
    have cc := fun (o : Nat) => hb.cell (p := ⟨b, o, none⟩) hbl
    obtain ⟨h', a', hd⟩ := Fo.drop_at 0 a h0
    obtain ⟨sp, sm, sq, p', n', c', g0, g1, g2, g3, g4, g5, g6, g7, hX⟩ := cells0 hF hd
    have tx0 := txs_at hd
    rw [show plainS ⟨4, o, nm, vk, vn, vs, vl⟩ (txs a) = opT o (txs a) from hT]
    rcases hrc.1 with hr | hr | hr | hr | hr | hr | hr | hr
    · rw [opT_row (txs a) hr, if_pos (.inl rfl)]
      exact plain_j1 o nm vk vn vs p m q _ a.len c w (by omega) (by omega) hEw (bs (joinX (txs a) 2 (32 :: (opW o ++ [32])))) (hjs _ _ hsl) hr (fun W hW => by rw [← sep_eq]; exact hJ 2 _ hsl W hW)
    · rw [opT_row (txs a) hr, if_pos (.inr rfl)]
      exact plain_j2 o nm vk vn vs p m q _ a.len c w (by omega) (by omega) hEw (bs (joinX (txs a) 3 (32 :: (opW o ++ [32])))) (hjs _ _ hsl) hr (fun W hW => by rw [← sep_eq]; exact hJ 3 _ hsl W hW)
    · rw [opT_row (txs a) hr, if_neg (by omega), if_pos rfl, tx0]
      refine (plain_a3 o nm vk vn vs p m q b off a.len c w (by omega) (by omega) hEw (bs ((txOf h' a').put 3)) (hlp 0 h' a' 3 hd) hr h0 hbl' h' sp sm sq p' n' c' ((cc _).trans g0) ((cc _).trans g1) ((cc _).trans g2) ((cc _).trans g3) ((cc _).trans g4) ((cc _).trans g5) ((cc _).trans g6) ((cc _).trans g7) (fun W hW => hpr 0 h' a' hd _ 3 W hX (hb.trans (hW.mono bz)))).mono fun _ _ ⟨he, hB⟩ => ⟨?_, hB⟩
      rw [he]; exact ret_str (by show bs (opW o) ++ bs [32] ++ _ = _; rw [bs_app, bs_app]; simp)
    · rw [opT_row (txs a) hr, if_neg (by omega), if_neg (by omega), if_pos rfl]
      exact plain_j4 o nm vk vn vs p m q _ a.len c w (by omega) (by omega) hEw (bs (joinX (txs a) 5 (32 :: (opW o ++ [32])))) (hjs _ _ hsl) hr (fun W hW => by rw [← sep_eq]; exact hJ 5 _ hsl W hW)
    · have hl2 := hrc.2.2 (.inl hr)
      obtain ⟨h2', a2', hd2⟩ := Fo.drop_at 1 a (by omega)
      obtain ⟨sp2, sm2, sq2, p2', n2', c2', k0, k1, k2, k3, k4, k5, k6, k7, hX2⟩ := cells1 hF hd2
      rw [opT_row (txs a) hr, if_neg (by omega), if_neg (by omega), if_neg (by omega), if_pos (.inl rfl), tx0, txs_at hd2]
      refine (plain_s5 o nm vk vn vs p m q b off a.len c w (by omega) (by omega) hEw (bs ((txOf h' a').put 5)) (hlp 0 h' a' 5 hd) hr (by omega) hbl' (bs ((txOf h2' a2').put 6)) (hlp 1 h2' a2' 6 hd2) h' sp sm sq p' n' c' ((cc _).trans g0) ((cc _).trans g1) ((cc _).trans g2) ((cc _).trans g3) ((cc _).trans g4) ((cc _).trans g5) ((cc _).trans g6) ((cc _).trans g7) h2' sp2 sm2 sq2 p2' n2' c2' ((cc _).trans k0) ((cc _).trans k1) ((cc _).trans k2) ((cc _).trans k3) ((cc _).trans k4) ((cc _).trans k5) ((cc _).trans k6) ((cc _).trans k7) (fun W hW => hpr 0 h' a' hd _ 5 W hX (hb.trans (hW.mono bz))) (fun W hW => hpr 1 h2' a2' hd2 _ 6 W hX2 (hb.trans (hW.mono bz)))).mono fun _ _ ⟨he, hB⟩ => ⟨?_, hB⟩
      rw [he]; exact ret_str (by show bs _ ++ bs [32] ++ bs (opW o) ++ bs [32] ++ bs _ = _; rw [bs_app, bs_app, bs_app, bs_app]; simp)
    · have hl2 := hrc.2.2 (.inr hr)
      obtain ⟨h2', a2', hd2⟩ := Fo.drop_at 1 a (by omega)
      obtain ⟨sp2, sm2, sq2, p2', n2', c2', k0, k1, k2, k3, k4, k5, k6, k7, hX2⟩ := cells1 hF hd2
      rw [opT_row (txs a) hr, if_neg (by omega), if_neg (by omega), if_neg (by omega), if_pos (.inr rfl), tx0, txs_at hd2]
      refine (plain_s6 o nm vk vn vs p m q b off a.len c w (by omega) (by omega) hEw (bs ((txOf h' a').put 6)) (hlp 0 h' a' 6 hd) hr (by omega) hbl' (bs ((txOf h2' a2').put 7)) (hlp 1 h2' a2' 7 hd2) h' sp sm sq p' n' c' ((cc _).trans g0) ((cc _).trans g1) ((cc _).trans g2) ((cc _).trans g3) ((cc _).trans g4) ((cc _).trans g5) ((cc _).trans g6) ((cc _).trans g7) h2' sp2 sm2 sq2 p2' n2' c2' ((cc _).trans k0) ((cc _).trans k1) ((cc _).trans k2) ((cc _).trans k3) ((cc _).trans k4) ((cc _).trans k5) ((cc _).trans k6) ((cc _).trans k7) (fun W hW => hpr 0 h' a' hd _ 6 W hX (hb.trans (hW.mono bz))) (fun W hW => hpr 1 h2' a2' hd2 _ 7 W hX2 (hb.trans (hW.mono bz)))).mono fun _ _ ⟨he, hB⟩ => ⟨?_, hB⟩
      rw [he]; exact ret_str (by show bs _ ++ bs [32] ++ bs (opW o) ++ bs [32] ++ bs _ = _; rw [bs_app, bs_app, bs_app, bs_app]; simp)
    · rw [opT_row (txs a) hr, if_neg (by omega), if_neg (by omega), if_neg (by omega), if_neg (by omega), if_pos rfl, tx0]
      have hop : (bs (txOf h' a').opp).size ≤ 4100000 := by
        rw [bs_size]
        have h1 := opp_len (txOf h' a')
        have h2 := (text_le (all_at hd e2) (by have := Fo.parts_sub hd; omega)).1
        omega
      refine (plain_a7 o nm vk vn vs p m q b off a.len c w (by omega) (by omega) hEw (bs (txOf h' a').opp) hop hr h0 hbl' h' sp sm sq p' n' c' ((cc _).trans g0) ((cc _).trans g1) ((cc _).trans g2) ((cc _).trans g3) ((cc _).trans g4) ((cc _).trans g5) ((cc _).trans g6) ((cc _).trans g7) (fun W hW => opposite_of w0 h' a' (ih 0 h' a' hd) (hpr 0 h' a' hd) (text_le (all_at hd e2) (by have := Fo.parts_sub hd; omega)).1 _ W hX (hb.trans (hW.mono bz)))).mono fun _ _ ⟨he, hB⟩ => ⟨?_, hB⟩
      rw [he]; exact ret_str (by rw [bs_app])
    · rw [opT_row (txs a) hr, if_neg (by omega), if_neg (by omega), if_neg (by omega), if_neg (by omega), if_neg (by omega)]
      refine (plain_f8 o nm vk vn vs p m q _ a.len c w (by omega) (by omega) hEw (bs (joinX (txs a) 1 [44, 32])) (hjs _ _ (by decide)) hr (fun W hW => hJ 1 [44, 32] (by decide) W hW)).mono fun _ _ ⟨he, hB⟩ => ⟨?_, hB⟩
      rw [he]; exact ret_str (by show bs (opW o) ++ bs [40] ++ _ ++ bs [41] = _; rw [bs_app, bs_app, bs_app]; simp)
  · subst h1
    simp only at o1 o2 hl hn
    obtain ⟨o, rfl⟩ : ∃ u : Nat, o = u := ⟨o.toNat, by omega⟩
    have h0 : 0 < a.len := by omega
    have hT : plainS ⟨5, o, nm, vk, vn, vs, vl⟩ (txs a) = overT o nm.data.toList (txs a) := by unfold plainS; simp
    obtain ⟨b, off, rfl, hbl, hF⟩ : ∃ b off, av = some ⟨b, off, none⟩ ∧ b < w0.heap.size ∧ IsF w0 b a off := by
      rcases hs with h | h
      · omega
      · exact h
    have hbl' := Nat.lt_of_lt_of_le hbl bz
    have cc := fun (o : Nat) => hb.cell (p := ⟨b, o, none⟩) hbl
    obtain ⟨h', a', hd⟩ := Fo.drop_at 0 a h0
    obtain ⟨sp, sm, sq, p', n', c', g0, g1, g2, g3, g4, g5, g6, g7, hX⟩ := cells0 hF hd
    have tx0 := txs_at hd
    rw [show plainS ⟨5, o, nm, vk, vn, vs, vl⟩ (txs a) = overT o nm.data.toList (txs a) from hT]
    unfold overT
    rw [tx0]
    refine (plain_5 o nm vk vn vs p m q b off a.len c w h0 (by omega) (by omega) h' sp sm sq p' n' c' hbl' hEw hn (bs ((txOf h' a').put 1)) (Nat.le_trans (hlp 0 h' a' 1 hd) (by omega)) ((cc _).trans g0) ((cc _).trans g1) ((cc _).trans g2) ((cc _).trans g3) ((cc _).trans g4) ((cc _).trans g5) ((cc _).trans g6) ((cc _).trans g7) (fun W hW => hpr 0 h' a' hd _ 1 W hX (hb.trans (hW.mono bz)))).mono fun _ _ ⟨he, hB⟩ => ⟨?_, hB⟩
    rw [he]; exact ret_str (by rw [← bs_of nm, bs_app, bs_app, bs_app, bs_app, bs_app, bs_list]; simp)
theorem plain_c (w0 : World) (hE : Env w0) (h : Hd) (a : Fo) : oneS h a = 0 → a.parts ≤ 300 → PlainC w0 h a :=
  forest_ind (fun h a => oneS h a = 0 → a.parts ≤ 300 → PlainC w0 h a) (fun h a ih e hp => plain_step w0 hE h a e hp (fun k h' a' hd => ih k h' a' hd (all_at hd (one_ok e).2) (by have := Fo.parts_sub hd; omega))) h a

/-- What Print says. -/
noncomputable def printO (h : Hd) (a : Fo) : ByteArray := if exprS h a ≠ 0 then ⟨#[]⟩ else if 4000 < (txOf h a).t.length then ⟨#[]⟩ else bs (txOf h a).t
noncomputable def printF (h : Hd) (a : Fo) : Int := if exprS h a ≠ 0 then exprS h a else if 4000 < (txOf h a).t.length then 2 else 0
theorem put_one (h : Hd) (a : Fo) : (txOf h a).put 1 = (txOf h a).t := by
  unfold Tx.put
  have := (rowS_ge h.k h.o).1
  rw [if_neg (by show ¬ rowS h.k h.o < 1; omega)]
theorem expr_ok {h : Hd} {a : Fo} (e : exprS h a = 0) : oneS h a = 0 ∧ a.parts ≤ 300 := by
  unfold exprS at e
  split at e
  · omega
  · exact ⟨e, by omega⟩
set_option maxHeartbeats 2000000 in
theorem print_c (w0 : World) (hE : Env w0) (h : Hd) (xs : Fo) (v : Value) (w : World) (hp : xs.parts ≤ 1048576) (hz : h.vs.size ≤ 9223372036854775807) (hf : xs.fine) (hx : IsX w0 h xs v) (hb : Below w0.heap.size w0 w) :
    Calls Tryz.prog 4 #[v] w fun e w' => e = .returned (.tuple #[.string (printO h xs), .int .i64 (printF h xs)]) ∧ Below w0.heap.size w0 w' := by
  have hx0 := hx
  obtain ⟨sv, a, n, c, rfl, hL, rfl, hs⟩ := hx
  obtain ⟨p, m, q, rfl⟩ := hL.form
  clear hL hs
  have hb1 := hb.alloc hb.size (.cells #[.int .i64 h.k, .int .i64 h.o, .string h.nm, .int .i64 h.vk, .int .i64 h.vn, .string h.vs, .slice p m q, .slice a xs.len c] 27)
  have hC0 := checkExpr_c _ h xs _ _ hp hz hf (hx0.below hb1) (Below.refl _ _)
  have HB1 := Lib.hid hb1
  clear hb hp hz hf
  by_cases h0 : exprS h xs = 0
  · obtain ⟨h1, h2⟩ := expr_ok h0
    have hP := printed_of w0 h xs (plain_c w0 hE h xs h1 h2) (op_known (one_ok h1).1) (text_le h1 h2).1
    have hlen := (text_le h1 h2).1
    obtain ⟨t, ht⟩ : ∃ t, t = bs (txOf h xs).t := ⟨_, rfl⟩
    have HP := Lib.hid (fun w (hb : Below w0.heap.size w0 w) => by have := hP _ 1 w hx0 hb; rw [put_one, ← ht] at this; exact this)
    have hts : t.size ≤ 4000000 := by rw [ht, bs_size]; exact hlen
    have htl : t.size = (txOf h xs).t.length := by rw [ht, bs_size]
    have HC := Lib.hid (by rw [h0] at hC0; exact hC0)
    have eO : Hid (printO h xs = if 4000 < t.size then ⟨#[]⟩ else t) := by unfold Hid printO; rw [if_neg (by simp [h0]), htl, ht]
    have eF : Hid (printF h xs = if 4000 < t.size then 2 else 0) := by unfold Hid printF; rw [if_neg (by simp [h0]), htl]
    clear hC0 h0 h1 h2 hP hlen ht htl hx0 hb1
    by_cases hl : 4000 < t.size
    · have e1 : Hid (printO h xs = ⟨#[]⟩) := by unfold Hid; rw [eO.out, if_pos hl]
      have e2 : Hid (printF h xs = 2) := by unfold Hid; rw [eF.out, if_pos hl]
      have hl' : (4000 : Int) < (t.size : Int) := by omega
      clear eO eF hl
      go_enter Tryz.func4, Tryz.ntmps4
      go_wp2_with fail
      refine HC.out.mono ?_
      rintro e w1 ⟨rfl, hB⟩
      have B1 := Lib.hid (HB1.out.trans (hB.mono HB1.out.size))
      obtain ⟨bc, bf⟩ := bcell hB
      clear hB
      go_wp2_with fail
      refine (HP.out _ B1.out).mono ?_
      rintro e w2 ⟨rfl, hB⟩
      have B2 := Lib.hid (B1.out.trans (hB.mono B1.out.size)); clear hB bc bf
      go_wp2
      go_ret2
      exact ⟨by rw [e1.out, e2.out]; rfl, B2.out⟩
    · have e1 : Hid (printO h xs = t) := by unfold Hid; rw [eO.out, if_neg hl]
      have e2 : Hid (printF h xs = 0) := by unfold Hid; rw [eF.out, if_neg hl]
      have hl' : decide ((4000 : Int) < (t.size : Int)) = false := by simp; omega
      clear eO eF hl
      go_enter Tryz.func4, Tryz.ntmps4
      go_wp2_with fail
      refine HC.out.mono ?_
      rintro e w1 ⟨rfl, hB⟩
      have B1 := Lib.hid (HB1.out.trans (hB.mono HB1.out.size))
      obtain ⟨bc, bf⟩ := bcell hB
      clear hB
      go_wp2_with fail
      refine (HP.out _ B1.out).mono ?_
      rintro e w2 ⟨rfl, hB⟩
      have B2 := Lib.hid (B1.out.trans (hB.mono B1.out.size)); clear hB bc bf
      go_wp2
      go_ret2
      exact ⟨by rw [e1.out, e2.out]; rfl, B2.out⟩
  · have e1 : Hid (printO h xs = ⟨#[]⟩) := by unfold Hid printO; rw [if_pos h0]
    have e2 : Hid (printF h xs = exprS h xs) := by unfold Hid printF; rw [if_pos h0]
    obtain ⟨x, hx⟩ : ∃ x, x = exprS h xs := ⟨_, rfl⟩
    rw [← hx] at hC0 h0 e2
    have HC := Lib.hid hC0
    have x1 : (x != 0) = true := by simpa using h0
    clear hC0 hx h0 hx0 hb1
    go_enter Tryz.func4, Tryz.ntmps4
    go_wp2_with fail
    refine HC.out.mono ?_
    rintro e w1 ⟨rfl, hB⟩
    have B1 := Lib.hid (HB1.out.trans (hB.mono HB1.out.size)); clear hB
    go_wp2
    go_ret2
    exact ⟨by rw [e1.out, e2.out]; rfl, B1.out⟩
end Go.Proofs.YtcdifmnakppfkaaGreatDoor
