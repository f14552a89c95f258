/-
  write and Print of the reference.
-/
import Derived.Test.YtcdifmnakppfkaaGreatDoorExRWa
import Derived.Test.YtcdifmnakppfkaaGreatDoorExRWb
import Derived.Test.YtcdifmnakppfkaaGreatDoorExRWd
import Derived.Test.YtcdifmnakppfkaaGreatDoorExPrint
import Derived.Test.YtcdifmnakppfkaaGreatDoorExRPart
namespace Go.Proofs.YtcdifmnakppfkaaGreatDoor
open Go.RowKit

theorem part_const' {h : Hd} {a : Fo} (e : partS h a = 0) (hk : h.k = 1) : cChk h.vk h.vn h.vs h.vl = 0 := by
  unfold partS at e
  by_cases h1 : knownS h.k h.o = false
  · rw [if_pos h1] at e; omega
  rw [if_neg h1] at e
  by_cases h2 : formS h.k h.o h.nm h.vk h.vn h.vs h.vl.length a.len = false
  · rw [if_pos h2] at e; omega
  rw [if_neg h2, if_pos hk] at e
  by_cases h3 : h.vk = 0 ∨ h.vk = 1
  · rw [if_pos h3] at e; omega
  rw [if_neg h3] at e
  exact e
theorem rows_of {o : Nat} {r : Int} (hr : rowS 4 o = r) (h : r = 4 ∨ r = 5 ∨ r = 6) (_ : r ≤ 8) : Hid ((4 ≤ o ∧ o ≤ 11) ∨ (15 ≤ o ∧ o ≤ 19)) := by
  unfold Hid
  unfold rowS at hr
  rw [if_neg (by decide)] at hr
  repeat (split at hr <;> try omega)
theorem row_o {o : Nat} {r : Int} (hr : rowS 4 o = r) : (r = 1 → o = 3) ∧ (r = 2 → o = 2) ∧ (r = 3 → o = 1) ∧ (r = 7 → o = 20) := by
  unfold rowS at hr
  rw [if_neg (by decide)] at hr
  repeat (split at hr <;> try omega)
theorem row_8 {o : Nat} (hr : rowS 4 o = 8) (h1 : 1 ≤ o) : 12 ≤ o := by
  unfold rowS at hr
  rw [if_neg (by decide)] at hr
  repeat (split at hr <;> try omega)
theorem txs_two {xs : Fo} (h : xs.len = 2) : txs xs = [(txs xs).getD 0 default, (txs xs).getD 1 default] := by
  have hl := txs_len xs
  rw [h] at hl
  match hx : txs xs, hl with
  | [x, y], _ => rfl
theorem len_two {o : Nat} {n : Nat} (h1 : leastS o ≤ (n : Int)) (h2 : (n : Int) ≤ mostS o) (ho : 4 ≤ o ∧ o ≤ 11 ∨ 15 ≤ o ∧ o ≤ 19) : n = 2 := by
  have e : leastS o = 2 := by unfold leastS; rw [if_neg (by omega), if_neg (by omega)]
  unfold mostS at h2
  rw [if_neg (by omega), e] at h2
  omega

set_option maxHeartbeats 2000000 in
theorem write_step (w0 : World) (hE : Env w0) (h : Hd) (a : Fo) (e : oneS h a = 0) (hz : h.vs.size ≤ 9223372036854775807) (hp : a.parts ≤ 300) (ih : ∀ k h' a', a.drop k = .cons h' a' (a.drop (k + 1)) → WriteC w0 h' a') : WriteC w0 h a := by
  intro v w hx hb
  obtain ⟨e1, e2⟩ := one_ok e
  have hpr : ∀ k h' a', a.drop k = .cons h' a' (a.drop (k + 1)) → InsideC w0 h' a' := fun k h' a' hd =>
    inside_of w0 h' a' (ih k h' a' hd) (op_known (one_ok (all_at hd e2)).1) (text_le (all_at hd e2) (by have := Fo.parts_sub hd; omega)).1
  have hlp : ∀ k h' a' r, a.drop k = .cons h' a' (a.drop (k + 1)) → (bs ((txOf h' a').put r)).size ≤ 4100000 := fun k h' a' r hd => by
    rw [bs_size]
    have h1 := put_len (txOf h' a') r
    have h2 := (text_le (all_at hd e2) (by have := Fo.parts_sub hd; omega)).1
    omega
  have htot : total (txs a) ≤ 4000000 := (text_le e hp).2
  have hEw := hE.below hb
  have hll := a.len_le_parts
  obtain ⟨k, o, nm, vk, vn, vs, vl⟩ := h
  obtain ⟨sv, av, n, c, rfl, hL, rfl, hs⟩ := hx
  have hL' := hL.below hb
  obtain ⟨p, m, q, rfl⟩ := hL.form
  have bz := hb.size
  have hcc := part_const' e1
  rcases part_ok e1 with ⟨h1, hg⟩ | ⟨h1, hn⟩ | ⟨h1, hn⟩ | ⟨h1, o1, o2, l1, l2⟩ | ⟨h1, o1, o2, hl, hn⟩ <;> simp only at h1
  · subst h1
    exact rw_1 o nm vk vn vs vl p m q av a.len c w hL' hEw hz (hcc rfl)
  · subst h1
    exact (rw_2 o nm vk vn vs p m q av a.len c w hn).mono fun _ _ h => te_of h
  · subst h1
    exact (rw_3 o nm vk vn vs p m q av a.len c w hn).mono fun _ _ h => te_of h
  · subst h1
    simp only at o1 o2 l1 l2
    obtain ⟨o, rfl⟩ : ∃ u : Nat, o = u := ⟨o.toNat, by omega⟩
    have hrc := row_cases o (by omega) (by omega)
    have h0 : 0 < a.len := by have := hrc.2.1; omega
    have hT : plainS ⟨4, o, nm, vk, vn, vs, vl⟩ (txs a) = opT o (txs a) := by unfold plainS; simp
    have hJ : ∀ (r : Int) (sep : List UInt8), r ≤ 7 → sep.length ≤ 10 → ∀ W, Below w.heap.size w W → Calls Tryz.prog 25 #[.slice av a.len c, .int .i64 r, .string (bs sep)] W (TE (bs (joinX (txs a) r sep)) W) :=
      fun r sep hr hsep W hW => list_c w0 a av c r sep h0 (by omega) hr hsep htot hs hpr W (hb.trans (hW.mono bz))
    have hjs : ∀ r sep, sep.length ≤ 10 → (bs (joinX (txs a) r sep)).size ≤ 4100000 := fun r sep hsep => by
      rw [bs_size]; have := joinX_len (txs a) r sep hsep; omega
    obtain ⟨b, off, rfl, hbl, hF⟩ : ∃ b off, av = some ⟨b, off, none⟩ ∧ b < w0.heap.size ∧ IsF w0 b a off := by
      rcases hs with h | h
      · omega
      · exact h
    have hbl' : Hid (b < w.heap.size) := Nat.lt_of_lt_of_le hbl bz
    have cc := fun (o : Nat) => hb.cell (p := ⟨b, o, none⟩) hbl
    obtain ⟨h', a', hd⟩ := Fo.drop_at 0 a h0
    obtain ⟨sp, sm, sq, p', n', c', g0, g1, g2, g3, g4, g5, g6, g7, hX⟩ := cells0 hF hd
    have tx0 := txs_at hd
    rw [show plainS ⟨4, o, nm, vk, vn, vs, vl⟩ (txs a) = opT o (txs a) from hT]
    have hro := row_o (o := o) rfl
    rcases hrc.1 with hr | hr | hr | hr | hr | hr | hr | hr
    · obtain rfl := hro.1 hr
      rw [opT_row (txs a) hr, if_pos (.inl rfl)]
      exact rw_j1 nm vk vn vs p m q b off a.len c w h0 hbl' h' sp sm sq p' n' c' ((cc _).trans g0) ((cc _).trans g1) ((cc _).trans g2) ((cc _).trans g3) ((cc _).trans g4) ((cc _).trans g5) ((cc _).trans g6) ((cc _).trans g7) (bs (joinX (txs a) 2 [32, 111, 114, 32])) (hjs _ _ (by decide)) (fun W hW => hJ 2 [32, 111, 114, 32] (by decide) (by decide) W hW)
    · obtain rfl := hro.2.1 hr
      rw [opT_row (txs a) hr, if_pos (.inr rfl)]
      exact rw_j2 nm vk vn vs p m q b off a.len c w h0 hbl' h' sp sm sq p' n' c' ((cc _).trans g0) ((cc _).trans g1) ((cc _).trans g2) ((cc _).trans g3) ((cc _).trans g4) ((cc _).trans g5) ((cc _).trans g6) ((cc _).trans g7) (bs (joinX (txs a) 3 [32, 97, 110, 100, 32])) (hjs _ _ (by decide)) (fun W hW => hJ 3 [32, 97, 110, 100, 32] (by decide) (by decide) W hW)
    · obtain rfl := hro.2.2.1 hr
      rw [opT_row (txs a) hr, if_neg (by omega), if_pos rfl, tx0]
      refine (rw_a3 nm vk vn vs p m q b off a.len c w h0 hbl' h' sp sm sq p' n' c' ((cc _).trans g0) ((cc _).trans g1) ((cc _).trans g2) ((cc _).trans g3) ((cc _).trans g4) ((cc _).trans g5) ((cc _).trans g6) ((cc _).trans g7) (bs ((txOf h' a').put 3)) (hlp 0 h' a' 3 hd) (fun W hW => hpr 0 h' a' hd _ 3 W (by decide) hX (hb.trans (hW.mono bz)))).mono fun _ _ ⟨he, hB⟩ => ⟨?_, hB⟩
      rw [he]; exact ret_str (by show bs [110, 111, 116, 32] ++ bs _ = _; rw [bs_app]; rfl)
    · have hro4 := rows_of hr (by omega) (by omega)
      have hl2 := len_two l1 l2 hro4.out
      obtain ⟨h2', a2', hd2⟩ := Fo.drop_at 1 a (by omega)
      obtain ⟨sp2, sm2, sq2, p2', n2', c2', k0, k1, k2, k3, k4, k5, k6, k7, hX2⟩ := cells1 hF hd2
      rw [opT_row (txs a) hr, if_neg (by omega), if_neg (by omega), if_pos rfl]
      unfold joinX
      rw [txs_two hl2, tx0, txs_at hd2]
      refine (rw_s4 o nm vk vn vs p m q b off a.len c w h0 hbl' h' sp sm sq p' n' c' ((cc _).trans g0) ((cc _).trans g1) ((cc _).trans g2) ((cc _).trans g3) ((cc _).trans g4) ((cc _).trans g5) ((cc _).trans g6) ((cc _).trans g7) hr hro4 (by omega) (bs ((txOf h' a').put 5)) (hlp 0 h' a' 5 hd) (bs ((txOf h2' a2').put 5)) (hlp 1 h2' a2' 5 hd2) h2' sp2 sm2 sq2 p2' n2' c2' ((cc _).trans k0) ((cc _).trans k1) ((cc _).trans k2) ((cc _).trans k3) ((cc _).trans k4) ((cc _).trans k5) ((cc _).trans k6) ((cc _).trans k7) (fun W hW => hpr 0 h' a' hd _ 5 W (by decide) hX (hb.trans (hW.mono bz))) (fun W hW => hpr 1 h2' a2' hd2 _ 5 W (by decide) hX2 (hb.trans (hW.mono bz)))).mono fun _ _ ⟨he, hB⟩ => ⟨?_, hB⟩
      rw [he]; exact ret_str (by show bs _ ++ bs [32] ++ bs (opW o) ++ bs [32] ++ bs _ = _; rw [bs_app, bs_app, bs_app, bs_app]; simp [Lib.join_cons, Lib.joinTail])
    · have hl2 := hrc.2.2 (.inl hr)
      obtain ⟨h2', a2', hd2⟩ := Fo.drop_at 1 a (by omega)
      obtain ⟨sp2, sm2, sq2, p2', n2', c2', k0, k1, k2, k3, k4, k5, k6, k7, hX2⟩ := cells1 hF hd2
      rw [opT_row (txs a) hr, if_neg (by omega), if_neg (by omega), if_neg (by omega), if_pos (.inl rfl), tx0, txs_at hd2]
      refine (rw_s5 o nm vk vn vs p m q b off a.len c w h0 hbl' h' sp sm sq p' n' c' ((cc _).trans g0) ((cc _).trans g1) ((cc _).trans g2) ((cc _).trans g3) ((cc _).trans g4) ((cc _).trans g5) ((cc _).trans g6) ((cc _).trans g7) hr (rows_of hr (by omega) (by omega)) (by omega) (bs ((txOf h' a').put 5)) (hlp 0 h' a' 5 hd) (bs ((txOf h2' a2').put 6)) (hlp 1 h2' a2' 6 hd2) h2' sp2 sm2 sq2 p2' n2' c2' ((cc _).trans k0) ((cc _).trans k1) ((cc _).trans k2) ((cc _).trans k3) ((cc _).trans k4) ((cc _).trans k5) ((cc _).trans k6) ((cc _).trans k7) (fun W hW => hpr 0 h' a' hd _ 5 W (by decide) hX (hb.trans (hW.mono bz))) (fun W hW => hpr 1 h2' a2' hd2 _ 6 W (by decide) hX2 (hb.trans (hW.mono bz)))).mono fun _ _ ⟨he, hB⟩ => ⟨?_, hB⟩
      rw [he]; exact ret_str (by show bs _ ++ bs [32] ++ bs (opW o) ++ bs [32] ++ bs _ = _; rw [bs_app, bs_app, bs_app, bs_app]; simp)
    · have hl2 := hrc.2.2 (.inr hr)
      obtain ⟨h2', a2', hd2⟩ := Fo.drop_at 1 a (by omega)
      obtain ⟨sp2, sm2, sq2, p2', n2', c2', k0, k1, k2, k3, k4, k5, k6, k7, hX2⟩ := cells1 hF hd2
      rw [opT_row (txs a) hr, if_neg (by omega), if_neg (by omega), if_neg (by omega), if_pos (.inr rfl), tx0, txs_at hd2]
      refine (rw_s6 o nm vk vn vs p m q b off a.len c w h0 hbl' h' sp sm sq p' n' c' ((cc _).trans g0) ((cc _).trans g1) ((cc _).trans g2) ((cc _).trans g3) ((cc _).trans g4) ((cc _).trans g5) ((cc _).trans g6) ((cc _).trans g7) hr (rows_of hr (by omega) (by omega)) (by omega) (bs ((txOf h' a').put 6)) (hlp 0 h' a' 6 hd) (bs ((txOf h2' a2').put 7)) (hlp 1 h2' a2' 7 hd2) h2' sp2 sm2 sq2 p2' n2' c2' ((cc _).trans k0) ((cc _).trans k1) ((cc _).trans k2) ((cc _).trans k3) ((cc _).trans k4) ((cc _).trans k5) ((cc _).trans k6) ((cc _).trans k7) (fun W hW => hpr 0 h' a' hd _ 6 W (by decide) hX (hb.trans (hW.mono bz))) (fun W hW => hpr 1 h2' a2' hd2 _ 7 W (by decide) hX2 (hb.trans (hW.mono bz)))).mono fun _ _ ⟨he, hB⟩ => ⟨?_, hB⟩
      rw [he]; exact ret_str (by show bs _ ++ bs [32] ++ bs (opW o) ++ bs [32] ++ bs _ = _; rw [bs_app, bs_app, bs_app, bs_app]; simp)
    · obtain rfl := hro.2.2.2 hr
      rw [opT_row (txs a) hr, if_neg (by omega), if_neg (by omega), if_neg (by omega), if_neg (by omega), if_pos rfl, tx0]
      have hop : (txOf h' a').opp = if posS h' = true then paren (plainS h' (txs a')) else (txOf h' a').put 7 := rfl
      have hpl : (bs (plainS h' (txs a'))).size ≤ 4100000 := by
        rw [bs_size]
        have h2 := (text_le (all_at hd e2) (by have := Fo.parts_sub hd; omega)).1
        have h3 : (txOf h' a').t.length = (plainS h' (txs a')).length := rfl
        omega
      by_cases q1 : h'.k = 1
      · by_cases q2 : h'.vk = 2
        · by_cases q3 : 0 ≤ h'.vn
          · rw [hop, if_pos (by unfold posS; simp [q1, q2, q3])]
            refine (rw_a7p nm vk vn vs p m q b off a.len c w h0 hbl' h' sp sm sq p' n' c' ((cc _).trans g0) ((cc _).trans g1) ((cc _).trans g2) ((cc _).trans g3) ((cc _).trans g4) ((cc _).trans g5) ((cc _).trans g6) ((cc _).trans g7) (bs (plainS h' (txs a'))) hpl q1 q2 q3 (fun W hW => ih 0 h' a' hd _ W hX (hb.trans (hW.mono bz)))).mono fun _ _ ⟨he, hB⟩ => ⟨?_, hB⟩
            rw [he]; exact ret_str (by show bs [45, 40] ++ bs _ ++ bs [41] = _; rw [bs_app, bs_app]; rfl)
          · rw [hop, if_neg (by unfold posS; simp [q3])]
            refine (rw_a7n nm vk vn vs p m q b off a.len c w h0 hbl' h' sp sm sq p' n' c' ((cc _).trans g0) ((cc _).trans g1) ((cc _).trans g2) ((cc _).trans g3) ((cc _).trans g4) ((cc _).trans g5) ((cc _).trans g6) ((cc _).trans g7) (bs ((txOf h' a').put 7)) (hlp 0 h' a' 7 hd) q1 q2 q3 (fun W hW => hpr 0 h' a' hd _ 7 W (by decide) hX (hb.trans (hW.mono bz)))).mono fun _ _ ⟨he, hB⟩ => ⟨?_, hB⟩
            rw [he]; exact ret_str (by show bs [45] ++ bs _ = _; rw [bs_app]; rfl)
        · rw [hop, if_neg (by unfold posS; simp [q2])]
          refine (rw_a7v nm vk vn vs p m q b off a.len c w h0 hbl' h' sp sm sq p' n' c' ((cc _).trans g0) ((cc _).trans g1) ((cc _).trans g2) ((cc _).trans g3) ((cc _).trans g4) ((cc _).trans g5) ((cc _).trans g6) ((cc _).trans g7) (bs ((txOf h' a').put 7)) (hlp 0 h' a' 7 hd) q1 q2 (fun W hW => hpr 0 h' a' hd _ 7 W (by decide) hX (hb.trans (hW.mono bz)))).mono fun _ _ ⟨he, hB⟩ => ⟨?_, hB⟩
          rw [he]; exact ret_str (by show bs [45] ++ bs _ = _; rw [bs_app]; rfl)
      · rw [hop, if_neg (by unfold posS; simp [q1])]
        refine (rw_a7k nm vk vn vs p m q b off a.len c w h0 hbl' h' sp sm sq p' n' c' ((cc _).trans g0) ((cc _).trans g1) ((cc _).trans g2) ((cc _).trans g3) ((cc _).trans g4) ((cc _).trans g5) ((cc _).trans g6) ((cc _).trans g7) (bs ((txOf h' a').put 7)) (hlp 0 h' a' 7 hd) q1 (fun W hW => hpr 0 h' a' hd _ 7 W (by decide) hX (hb.trans (hW.mono bz)))).mono fun _ _ ⟨he, hB⟩ => ⟨?_, hB⟩
        rw [he]; exact ret_str (by show bs [45] ++ bs _ = _; rw [bs_app]; rfl)
    · have h12 := row_8 hr (by omega)
      obtain ⟨u, rfl⟩ : ∃ u, o = u + 12 := ⟨o - 12, by omega⟩
      have hr' : rowS 4 ((u : Int) + 12) = 8 := by have := hr; rwa [show ((u + 12 : Nat) : Int) = (u : Int) + 12 by omega] at this
      rw [opT_row (txs a) hr, if_neg (by omega), if_neg (by omega), if_neg (by omega), if_neg (by omega), if_neg (by omega), show ((u + 12 : Nat) : Int) = (u : Int) + 12 by omega]
      refine (rw_f8 u nm vk vn vs p m q b off a.len c w h0 hbl' h' sp sm sq p' n' c' ((cc _).trans g0) ((cc _).trans g1) ((cc _).trans g2) ((cc _).trans g3) ((cc _).trans g4) ((cc _).trans g5) ((cc _).trans g6) ((cc _).trans g7) hr' (by omega) hEw (bs (joinX (txs a) 1 [44, 32])) (hjs _ _ (by decide)) (fun W hW => hJ 1 [44, 32] (by decide) (by decide) W hW)).mono fun _ _ ⟨he, hB⟩ => ⟨?_, hB⟩
      rw [he]; exact ret_str (by show bs (opW (u + 12)) ++ bs [40] ++ _ ++ bs [41] = _; rw [bs_app, bs_app, bs_app]; simp)
  · subst h1
    simp only at o1 o2 hl hn
    obtain ⟨u, rfl⟩ : ∃ u : Nat, o = (u : Int) + 1 := ⟨(o - 1).toNat, by omega⟩
    have h0 : 0 < a.len := by omega
    have hT : plainS ⟨5, (u : Int) + 1, nm, vk, vn, vs, vl⟩ (txs a) = overT (u + 1) nm.data.toList (txs a) := by
      unfold plainS
      simp only [show ¬ ((5 : Int) = 1) by decide, show ¬ ((5 : Int) = 2) by decide, show ¬ ((5 : Int) = 3) by decide, if_false, if_true]
      rw [show ((u : Int) + 1).toNat = u + 1 by omega]
    obtain ⟨b, off, rfl, hbl, hF⟩ : ∃ b off, av = some ⟨b, off, none⟩ ∧ b < w0.heap.size ∧ IsF w0 b a off := by
      rcases hs with h | h
      · omega
      · exact h
    have hbl' := Nat.lt_of_lt_of_le hbl bz
    have cc := fun (o : Nat) => hb.cell (p := ⟨b, o, none⟩) hbl
    obtain ⟨h', a', hd⟩ := Fo.drop_at 0 a h0
    obtain ⟨sp, sm, sq, p', n', c', g0, g1, g2, g3, g4, g5, g6, g7, hX⟩ := cells0 hF hd
    have tx0 := txs_at hd
    rw [show plainS ⟨5, (u : Int) + 1, nm, vk, vn, vs, vl⟩ (txs a) = overT (u + 1) nm.data.toList (txs a) from hT]
    unfold overT
    rw [tx0, put_one]
    refine (rw_5 u nm vk vn vs p m q b off a.len c h' sp sm sq p' n' c' w h0 (by omega) hEw hbl' hn (bs (txOf h' a').t) (by have := hlp 0 h' a' 1 hd; rwa [put_one] at this) ((cc _).trans g0) ((cc _).trans g1) ((cc _).trans g2) ((cc _).trans g3) ((cc _).trans g4) ((cc _).trans g5) ((cc _).trans g6) ((cc _).trans g7) (fun W hW => ih 0 h' a' hd _ W hX (hb.trans (hW.mono bz)))).mono fun _ _ ⟨he, hB⟩ => ⟨?_, hB⟩
    rw [he]; exact ret_str (by show bs (overW (u + 1)) ++ bs [40] ++ nm ++ bs [58, 32] ++ bs _ ++ bs [41] = _; rw [← bs_of nm, bs_app, bs_app, bs_app, bs_app, bs_app, bs_list]; simp)
theorem write_c (w0 : World) (hE : Env w0) (h : Hd) (a : Fo) : oneS h a = 0 → h.vs.size ≤ 9223372036854775807 → a.fine → a.parts ≤ 300 → WriteC w0 h a :=
  forest_ind (fun h a => oneS h a = 0 → h.vs.size ≤ 9223372036854775807 → a.fine → a.parts ≤ 300 → WriteC w0 h a) (fun h a ih e hz hf hp => write_step w0 hE h a e hz hp (fun k h' a' hd => ih k h' a' hd (all_at hd (one_ok e).2) (Fo.fine_at hf hd).1 (Fo.fine_at hf hd).2 (by have := Fo.parts_sub hd; omega))) h a
set_option maxHeartbeats 2000000 in
theorem rPrint_c (w0 : World) (hE : Env w0) (h : Hd) (xs : Fo) (v : Value) (w : World) (hp : xs.parts ≤ 1048576) (hz : h.vs.size ≤ 9223372036854775807) (hf : xs.fine) (hx : IsX w0 h xs v) (hb : Below w0.heap.size w0 w) :
    Calls Tryz.prog 5 #[v] w fun e w' => e = .returned (.tuple #[.string (printO h xs), .int .i64 (printF h xs)]) ∧ Below w0.heap.size w0 w' := by
  have hx0 := hx
  obtain ⟨sv, a, n, c, rfl, hL, rfl, hs⟩ := hx
  obtain ⟨p, m, q, rfl⟩ := hL.form
  clear hL hs
  have hb1 := hb.alloc hb.size (.cells #[.int .i64 h.k, .int .i64 h.o, .string h.nm, .int .i64 h.vk, .int .i64 h.vn, .string h.vs, .slice p m q, .slice a xs.len c] 27)
  have hC0 := rCheckExpr_c _ (hE.below hb1) h xs _ _ hp hz hf (hx0.below hb1) (Below.refl _ _)
  have HB1 := Lib.hid hb1
  clear hb hp
  by_cases h0 : exprS h xs = 0
  · obtain ⟨h1, h2⟩ := expr_ok h0
    have hP := write_c w0 hE h xs h1 hz hf h2
    have hlen := (text_le h1 h2).1
    obtain ⟨t, ht⟩ : ∃ t, t = bs (txOf h xs).t := ⟨_, rfl⟩
    have ht' : t = bs (plainS h (txs xs)) := ht
    have HP := Lib.hid (fun w (hb : Below w0.heap.size w0 w) => by have := hP _ w hx0 hb; rw [← ht'] at this; exact this)
    have hts : t.size ≤ 4000000 := by rw [ht, bs_size]; exact hlen
    have htl : t.size = (txOf h xs).t.length := by rw [ht, bs_size]
    have HC := Lib.hid (by rw [h0] at hC0; exact hC0)
    have eO : Hid (printO h xs = if 4000 < t.size then ⟨#[]⟩ else t) := by unfold Hid printO; rw [if_neg (by simp [h0]), htl, ht]
    have eF : Hid (printF h xs = if 4000 < t.size then 2 else 0) := by unfold Hid printF; rw [if_neg (by simp [h0]), htl]
    clear hC0 h0 h1 h2 hP hlen ht ht' htl hx0 hb1 hz hf
    by_cases hl : 4000 < t.size
    · have e1 : Hid (printO h xs = ⟨#[]⟩) := by unfold Hid; rw [eO.out, if_pos hl]
      have e2 : Hid (printF h xs = 2) := by unfold Hid; rw [eF.out, if_pos hl]
      have hl' : (4000 : Int) < (t.size : Int) := by omega
      clear eO eF hl
      go_enter Tryz.func5, Tryz.ntmps5
      go_wp2_with fail
      refine HC.out.mono ?_
      rintro e w1 ⟨rfl, hB⟩
      have B1 := Lib.hid (HB1.out.trans (hB.mono HB1.out.size))
      obtain ⟨bc, bf⟩ := bcell hB
      clear hB
      go_wp2_with fail
      refine (HP.out _ B1.out).mono ?_
      rintro e w2 ⟨rfl, hB⟩
      have B2 := Lib.hid (B1.out.trans (hB.mono B1.out.size)); clear hB bc bf
      go_wp2
      go_ret2
      exact ⟨by rw [e1.out, e2.out]; rfl, B2.out⟩
    · have e1 : Hid (printO h xs = t) := by unfold Hid; rw [eO.out, if_neg hl]
      have e2 : Hid (printF h xs = 0) := by unfold Hid; rw [eF.out, if_neg hl]
      have hl' : decide ((4000 : Int) < (t.size : Int)) = false := by simp; omega
      clear eO eF hl
      go_enter Tryz.func5, Tryz.ntmps5
      go_wp2_with fail
      refine HC.out.mono ?_
      rintro e w1 ⟨rfl, hB⟩
      have B1 := Lib.hid (HB1.out.trans (hB.mono HB1.out.size))
      obtain ⟨bc, bf⟩ := bcell hB
      clear hB
      go_wp2_with fail
      refine (HP.out _ B1.out).mono ?_
      rintro e w2 ⟨rfl, hB⟩
      have B2 := Lib.hid (B1.out.trans (hB.mono B1.out.size)); clear hB bc bf
      go_wp2
      go_ret2
      exact ⟨by rw [e1.out, e2.out]; rfl, B2.out⟩
  · have e1 : Hid (printO h xs = ⟨#[]⟩) := by unfold Hid printO; rw [if_pos h0]
    have e2 : Hid (printF h xs = exprS h xs) := by unfold Hid printF; rw [if_pos h0]
    obtain ⟨x, hx⟩ : ∃ x, x = exprS h xs := ⟨_, rfl⟩
    rw [← hx] at hC0 h0 e2
    have HC := Lib.hid hC0
    have x1 : (x != 0) = true := by simpa using h0
    clear hC0 hx h0 hx0 hb1 hz hf
    go_enter Tryz.func5, Tryz.ntmps5
    go_wp2_with fail
    refine HC.out.mono ?_
    rintro e w1 ⟨rfl, hB⟩
    have B1 := Lib.hid (HB1.out.trans (hB.mono HB1.out.size)); clear hB
    go_wp2
    go_ret2
    exact ⟨by rw [e1.out, e2.out]; rfl, B1.out⟩
end Go.Proofs.YtcdifmnakppfkaaGreatDoor
