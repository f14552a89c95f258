/-
  Package code: the closure of Text writes the nodes below a code, with all below them.
  Package code: Text.
  Package code: Above, Within.
-/
import Derived.Test.YtgfjbilhgblbeaaDoorMf14
import Derived.Deep.RegionHeld3
import Derived.Test.YtgfjbilhgblbeaaDoorMf13
namespace Go.Proofs.YtgfjbilhgblbeaaDoor
open Go.RowKit Go.WideMaps Go.Maps

theorem rep_succ (v : Nat) : Lib.repeatL [32, 32] v ++ [32, 32] = Lib.repeatL [32, 32] (v + 1) := by
  rw [Lib.repeatL_add, Lib.repeatL_one]
theorem rdN_at {w : World} {B : Nat} {a : Option Addr} {c : Nat} {C : List Nd} (h : w.ownsRow B 56 3 (.slice a C.length c) C.length (nrow C)) (hn : C.length ≤ 9223372036854775807) : RdN w a C := by
  obtain ⟨a', c', e, hr⟩ := rdN_own h hn
  injection e with e1 _ _
  subst e1
  exact hr
theorem nd_take {K : List Nd} {k : Nat} (h : k < K.length) : K.take (k + 1) = K.take k ++ [nd K k] := by
  rw [List.take_add_one, List.getElem?_eq_getElem h]
  simp [nd, List.getD, List.getElem?_eq_getElem h]
theorem flat_le {K : List Nd} {f : Nd → List UInt8} (k : Nat) : ((K.take k).flatMap f).length ≤ (K.flatMap f).length := by
  conv => rhs; rw [← List.take_append_drop k K, List.flatMap_append, List.length_append]
  omega
set_option maxRecDepth 100000 in
set_option maxHeartbeats 8000000 in
theorem write_c (l : List Nd) (F : Fr l) (hT : Short l) (w0 : World) (mb x g b : Nat) (V : Int → Value) (hP : Pow w0) : ∀ (n p v : Nat), v + n = 9 → In (Has l) p → lev l p = v → ∀ (W : World) (acc : List UInt8) (t : ByteArray), t = bs (Lib.repeatL [32, 32] v) → TxS w0 mb x g b l V W acc → acc.length + (txN l n p v).length ≤ 100000 →
    Calls Tryd.prog 29 #[.int .i64 (p : Nat), .string t, .pointer (some ⟨x, 0, none⟩), .pointer (some ⟨g, 0, none⟩), .pointer (some ⟨b, 0, none⟩)] W (fun e W' => e = .returned (.tuple #[]) ∧ TxS w0 mb x g b l V W' (acc ++ txN l n p v))
  | 0, p, v, h, hp, hlv, _, _, _, _, _, _ => by
    have : lev l p ≤ 8 := by
      rcases hp with rfl | hp
      · rw [F.tree.zero]; omega
      · exact (F.lev hp).2.2.1
    omega
  | n + 1, p, v, h, hp, hlv, W, acc, t, ht, hS, hacc => by
    have IH := Lib.hid (fun d hd hdl => write_c l F hT w0 mb x g b V hP n d (v + 1) (by omega) hd hdl)
    obtain ⟨K, hK⟩ : ∃ K, kdK l (p : Int) l.length = K := ⟨_, rfl⟩
    have hK6 : K.length ≤ 600 := by rw [← hK]; exact Nat.le_trans (kdK_len _ _ _) F.le
    have TX : txN l (n + 1) p v = K.flatMap (ndT l n v) := by rw [txN_is, tcat_kdK, hK]
    rw [TX] at hacc ⊢
    have HKM : Hid (∀ u, u ∈ K → ∃ j, j < l.length ∧ (nd l j).pr = (p : Int) ∧ nd l j = u) := fun u hu => kdK_mem (by rw [hK]; exact hu)
    have row := hS.gr.row (p : Int)
    rw [hK] at row
    have ROW : Hid (∀ W acc, TxS w0 mb x g b l V W acc → W.ownsRow (mb + 2) 56 3 (V (p : Int)) K.length (nrow K)) := fun W acc h => by have := h.gr.row (p : Int); rw [hK] at this; exact this
    obtain ⟨av, cv, hV, _⟩ := rdN_own row (by omega)
    rw [hV] at ROW
    have hpb : p ≤ 999 := by
      rcases hp with rfl | hp
      · omega
      · obtain ⟨q, hq, e⟩ := hp
        have := F.ord.rng q hq
        omega
    have hlk := hS.gr.look (s := (p : Int)) (by omega)
    rw [hV] at hlk
    have hbx := hS.box
    have HPP := Lib.hid hP
    have HF := Lib.hid (And.intro F hT)
    have HIN := Lib.hid (And.intro hp hlv)
    have HS := Lib.hid hS
    have HT := Lib.hid ht
    have HA := Lib.hid hacc
    have hv9 : v ≤ 8 := by omega
    have TSZ : Hid (t.size ≤ 16) := by unfold Hid; rw [ht, bs_size, Lib.repeatL_length]; simp; omega
    clear hS hP hp hlv F hT ht hacc row TX hK hV
    go_enter Tryd.func29, Tryd.ntmps29
    go_wp2
    clear hlk hbx
    go_loopw [13] (fun i wr => ∃ k : Nat, k ≤ K.length ∧ i = .int .i64 k ∧ Hid (TxS w0 mb x g b l V wr (acc ++ (K.take k).flatMap (ndT l n v)))) (fun i _ => K.length - (intOf i).toNat)
    case atStart => exact ⟨0, Nat.zero_le _, rfl, by unfold Hid; simpa using HS.out⟩
    case round =>
      obtain ⟨k, hk, rfl, hS⟩ := hrel
      by_cases hlt : k < K.length
      · have RK := rdN_at (ROW.out _ _ hS.out) (by omega)
        obtain ⟨b', off, rfl, u0, u1, u2⟩ := RK.at_ hlt
        obtain ⟨u, hu⟩ : ∃ u, nd K k = u := ⟨_, rfl⟩
        have TK : Hid ((K.take (k + 1)).flatMap (ndT l n v) = (K.take k).flatMap (ndT l n v) ++ ndT l n v u) := by unfold Hid; rw [nd_take hlt, List.flatMap_append, hu]; simp
        have HAK : Hid (acc.length + ((K.take k).flatMap (ndT l n v)).length ≤ 100000) := by have := HA.out; have := flat_le (K := K) (f := ndT l n v) k; unfold Hid; omega
        have HAN : Hid (acc.length + ((K.take (k + 1)).flatMap (ndT l n v)).length ≤ 100000) := by have := HA.out; have := flat_le (K := K) (f := ndT l n v) (k + 1); unfold Hid; omega
        have hum : u ∈ K := by rw [← hu]; unfold nd; rw [List.getD, List.getElem?_eq_getElem hlt]; simp
        obtain ⟨j, hj, hpr, hju⟩ := HKM.out u hum
        rw [hu] at u0 u1 u2
        have hrg := HF.out.1.ord.rng j hj
        have hti := HF.out.2 j hj
        rw [hju] at hrg hti
        have hlt' : (k : Int) < (K.length : Int) := by omega
        obtain ⟨W4, hW4⟩ : ∃ W, wr.alloc (.cells #[.int .i64 u.cd, .int .i64 u.pr, .string u.ti] 56) = W := ⟨_, rfl⟩
        have N4 : Hid (NodeB wr W4 u) := by unfold Hid; rw [← hW4]; exact node_b _ _
        obtain ⟨z, hz⟩ : ∃ z, wr.heap.size = z := ⟨_, rfl⟩
        have SZ : Hid (S9 z u W4 ∧ z < W4.heap.size) := by rw [← hz]; exact ⟨N4.out.2.2, by have := N4.out.2.1; omega⟩
        have TS4 := Lib.hid (hS.out.keep N4.out.1)
        have ZG : Hid (z ≠ g) := by have := hS.out.ord; unfold Hid; omega
        have NBZ : Hid (∀ v, W4.cell? ⟨g, 1, none⟩ = some v → v.ownBlock ≠ some z) := fun v hv e => by
          rw [N4.out.1.cell (p := ⟨g, 1, none⟩) (by have := hS.out.ord; show g < _; omega)] at hv
          have := buf_lt hS.out.bd v hv z e
          omega
        have HPW : Hid (∀ V, Below W4.heap.size W4 V → Pow V) := fun V hb => HPP.out.below (TS4.out.gr.bel.trans (hb.mono TS4.out.gr.bel.size))
        have HSS : Hid (∀ V, Below W4.heap.size W4 V → S9 z u V) := fun V hb => ⟨(hb.cell (p := ⟨z, 0, none⟩) SZ.out.2).trans SZ.out.1.1, (hb.cell (p := ⟨z, 1, none⟩) SZ.out.2).trans SZ.out.1.2.1, (hb.cell (p := ⟨z, 2, none⟩) SZ.out.2).trans SZ.out.1.2.2⟩
        have IHC : Hid (∀ W3 t3, t3 = bs (Lib.repeatL [32, 32] (v + 1)) → TxS w0 mb x g b l V W3 (acc ++ (K.take k).flatMap (ndT l n v) ++ lnT v u) → Calls Tryd.prog 29 #[.int .i64 u.cd, .string t3, .pointer (some ⟨x, 0, none⟩), .pointer (some ⟨g, 0, none⟩), .pointer (some ⟨b, 0, none⟩)] W3 (fun e W' => e = .returned (.tuple #[]) ∧ TxS w0 mb x g b l V W' (acc ++ (K.take k).flatMap (ndT l n v) ++ lnT v u ++ txN l n u.cd.toNat (v + 1)))) := fun W3 t3 ht3 hT3 => by
          obtain ⟨d, hd, hh⟩ := nd_has HF.out.1 hj
          rw [hju] at hd
          have hlv : lev l d = v + 1 := by
            have e1 : par l d = p := by
              rw [par_at HF.out.1.ord hj (by rw [hju]; exact hd), hpr, Int.toNat_natCast]
            have := (HF.out.1.tree.pos d hh).2.1
            rw [e1, HIN.out.2] at this
            exact this
          have := IH.out d (.inr hh) hlv W3 _ t3 ht3 hT3 (by
            have h1 := HAN.out
            rw [TK.out] at h1
            simp only [ndT, List.length_append, hd, Int.toNat_natCast] at h1 ⊢
            omega)
          rw [hd, Int.toNat_natCast]
          exact this
        clear IH hum hju hpr hj hS hu RK
        go_wp2_with fail
        refine wp_region_noPanic ?_
        refine wp_region_held_drew (S := S9 z u) (by kernel_rfl) (HSS.out _ (Below.refl _ _).drew) (fun hS => ?_)
        obtain ⟨WD, hWD⟩ : ∃ W, W4.drew = W := ⟨_, rfl⟩
        have D0 : Hid (Below W4.heap.size W4 WD) := by unfold Hid; rw [← hWD]; exact (Below.refl _ _).drew
        rw [hWD] at hS ⊢
        clear hWD
        refine wpAnyH_take (i := 0) (v := ?v0z1) rfl (by kernel_rfl) (by kernel_rfl) (by kernel_rfl) (fun _ _ _ h => h) (Or.inl ⟨by rfl, ?hy0z1⟩) (by assumption) ?rest0z1
        case hy0z1 =>
          intro w hSw
          dsimp only [S9] at hSw
          go_simp
          try with_reducible rfl
        simp only [Act.put, List.getElem_toArray, List.getElem_cons_succ, List.getElem_cons_zero, List.setIfInBounds_toArray, List.set_cons_zero, List.set_cons_succ]
        refine wpAnyH_take (i := 1) (v := ?v1z2) rfl (by kernel_rfl) (by kernel_rfl) (by kernel_rfl) (fun _ _ _ h => h) (Or.inl ⟨by rfl, ?hy1z2⟩) (by assumption) ?rest1z2
        case hy1z2 =>
          intro w hSw
          dsimp only [S9] at hSw
          go_simp
          try with_reducible rfl
        simp only [Act.put, List.getElem_toArray, List.getElem_cons_succ, List.getElem_cons_zero, List.setIfInBounds_toArray, List.set_cons_zero, List.set_cons_succ]
        refine wpAnyH_take (i := 2) (v := ?v2z3) rfl (by kernel_rfl) (by kernel_rfl) (by kernel_rfl) (fun _ _ _ h => h) (Or.inl ⟨by rfl, ?hy2z3⟩) (by assumption) ?rest2z3
        case hy2z3 =>
          intro w hSw
          dsimp only [S9] at hSw
          go_simp
          try with_reducible rfl
        simp only [Act.put, List.getElem_toArray, List.getElem_cons_succ, List.getElem_cons_zero, List.setIfInBounds_toArray, List.set_cons_zero, List.set_cons_succ]
        refine wpAnyH_take (i := 6) (v := ?v6z4) rfl (by kernel_rfl) (by kernel_rfl) (by kernel_rfl) (fun _ _ _ h => h) (Or.inl ⟨by rfl, ?hy6z4⟩) (by assumption) ?rest6z4
        case hy6z4 =>
          intro w hSw
          dsimp only [S9] at hSw
          go_simp
          try with_reducible rfl
        simp only [Act.put, List.getElem_toArray, List.getElem_cons_succ, List.getElem_cons_zero, List.setIfInBounds_toArray, List.set_cons_zero, List.set_cons_succ]
        refine wpAnyH_take (i := 7) (v := ?v7z5) rfl (by kernel_rfl) (by kernel_rfl) (by kernel_rfl) (fun _ _ _ h => h) (Or.inl ⟨by rfl, ?hy7z5⟩) (by assumption) ?rest7z5
        case hy7z5 =>
          intro w hSw
          dsimp only [S9] at hSw
          go_simp
          try with_reducible rfl
        simp only [Act.put, List.getElem_toArray, List.getElem_cons_succ, List.getElem_cons_zero, List.setIfInBounds_toArray, List.set_cons_zero, List.set_cons_succ]
        refine wpAnyH_ready (rs := [3]) (by kernel_rfl) (by simp) ?_
        refine AllReadyH.cons rfl (fun K_ hK => ?_) AllReadyH.nil
        go_simp
        (refine (itoa_c u.cd WD (HPW.out WD D0.out) (by omega) (by omega)).mono ?_)
        rintro e V2 ⟨t2, rfl, _, ht2, bc2⟩
        try go_simp
        have D2 : Hid (Below W4.heap.size W4 V2) := D0.out.trans (bc2.out.mono D0.out.size)
        have T2 : Hid (t2.size ≤ 21) := by unfold Hid; rw [ht2.out, bs_size]; exact Lib.itoa_length_le u.cd (by omega) (by omega)
        have hT := HSS.out V2 D2.out
        refine hK.out _ _ hT (fun _ => ?_)
        clear hK K_ hS
        have hS := hT
        clear hT
        try simp only [Act.put, List.setIfInBounds_toArray, List.set_cons_zero, List.set_cons_succ]
        obtain ⟨x1, hx1⟩ : ∃ x : ByteArray, t ++ t2 = x := ⟨_, rfl⟩
        obtain ⟨x2, hx2⟩ : ∃ x : ByteArray, x1 ++ (⟨#[32]⟩ : ByteArray) = x := ⟨_, rfl⟩
        obtain ⟨x3, hx3⟩ : ∃ x : ByteArray, x2 ++ u.ti = x := ⟨_, rfl⟩
        obtain ⟨x4, hx4⟩ : ∃ x : ByteArray, x3 ++ (⟨#[10]⟩ : ByteArray) = x := ⟨_, rfl⟩
        have s1 : x1.size = t.size + t2.size := by rw [← hx1, ByteArray.size_append]
        have s2 : x2.size = x1.size + 1 := by rw [← hx2, ByteArray.size_append]; rfl
        have s3 : x3.size = x2.size + u.ti.size := by rw [← hx3, ByteArray.size_append]
        have s4 : x4.size = x3.size + 1 := by rw [← hx4, ByteArray.size_append]; rfl
        have q1 : ¬ 9223372036854775807 < t.size + t2.size := by have := TSZ.out; have := T2.out; omega
        have q2 : ¬ 9223372036854775807 < x1.size + 1 := by have := TSZ.out; have := T2.out; omega
        have q3 : ¬ 9223372036854775807 < x2.size + u.ti.size := by have := TSZ.out; have := T2.out; omega
        have q4 : ¬ 9223372036854775807 < x3.size + 1 := by have := TSZ.out; have := T2.out; omega
        have HX : Hid (x4 = bs (lnT v u) ∧ x4.size ≤ 200) := by
          refine ⟨?_, by have := TSZ.out; have := T2.out; omega⟩
          rw [← hx4, ← hx3, ← hx2, ← hx1, HT.out, ht2.out]
          unfold lnT
          apply ByteArray.ext
          simp [ByteArray.data_append, bs, bts]
        clear s1 s2 s3 s4
        refine wpAnyH_take (i := 4) (v := ?v4z6) rfl (by kernel_rfl) (by kernel_rfl) (by kernel_rfl) (fun _ _ _ h => h) (Or.inl ⟨by rfl, ?hy4z6⟩) (by assumption) ?rest4z6
        case hy4z6 =>
          intro w hSw
          dsimp only [S9] at hSw
          go_simp
          try with_reducible rfl
        simp only [Act.put, List.getElem_toArray, List.getElem_cons_succ, List.getElem_cons_zero, List.setIfInBounds_toArray, List.set_cons_zero, List.set_cons_succ]
        refine wpAnyH_take (i := 5) (v := ?v5z7) rfl (by kernel_rfl) (by kernel_rfl) (by kernel_rfl) (fun _ _ _ h => h) (Or.inl ⟨by rfl, ?hy5z7⟩) (by assumption) ?rest5z7
        case hy5z7 =>
          intro w hSw
          dsimp only [S9] at hSw
          go_simp
          try with_reducible rfl
        simp only [Act.put, List.getElem_toArray, List.getElem_cons_succ, List.getElem_cons_zero, List.setIfInBounds_toArray, List.set_cons_zero, List.set_cons_succ]
        refine wpAnyH_take (i := 8) (v := ?v8z8) rfl (by kernel_rfl) (by kernel_rfl) (by kernel_rfl) (fun _ _ _ h => h) (Or.inl ⟨by rfl, ?hy8z8⟩) (by assumption) ?rest8z8
        case hy8z8 =>
          intro w hSw
          dsimp only [S9] at hSw
          go_simp
          try with_reducible rfl
        simp only [Act.put, List.getElem_toArray, List.getElem_cons_succ, List.getElem_cons_zero, List.setIfInBounds_toArray, List.set_cons_zero, List.set_cons_succ]
        refine wpAnyH_take (i := 9) (v := ?v9z9) rfl (by kernel_rfl) (by kernel_rfl) (by kernel_rfl) (fun _ _ _ h => h) (Or.inl ⟨by rfl, ?hy9z9⟩) (by assumption) ?rest9z9
        case hy9z9 =>
          intro w hSw
          dsimp only [S9] at hSw
          go_simp
          try with_reducible rfl
        simp only [Act.put, List.getElem_toArray, List.getElem_cons_succ, List.getElem_cons_zero, List.setIfInBounds_toArray, List.set_cons_zero, List.set_cons_succ]
        refine wpAnyH_ready (rs := [10]) (by kernel_rfl) (by simp) ?_
        refine AllReadyH.cons rfl (fun K_ hK => ?_) AllReadyH.nil
        go_simp
        (refine (put_c g (acc ++ (K.take k).flatMap (ndT l n v)) x4 V2 ((TS4.out.keep D2.out).bd) (by have := HX.out.2; have := HAK.out; rw [List.length_append]; omega)).mono ?_)
        rintro e V3 ⟨rfl, ib3, bg3, ot3⟩
        try go_simp
        have TS3 : Hid (TxS w0 mb x g b l V V3 (acc ++ (K.take k).flatMap (ndT l n v) ++ lnT v u)) := by
          have e4 : x4.data.toList = lnT v u := by rw [HX.out.1]; simp [bs]
          rw [e4] at ib3
          have TT := TS4.out.keep D2.out
          exact TT.write (by unfold lnT; simp) bg3 ib3 bg3.size (ot3 ⟨b, 0, none⟩ TT.ord.2.2.2.1 (by have := TT.ord.2.2.1; show b ≠ g; omega) TT.nob)
        have hT : S9 z u V3 := by
          have zl : z < V2.heap.size := Nat.lt_of_lt_of_le SZ.out.2 D2.out.size
          have nb : ∀ v, V2.cell? ⟨g, 1, none⟩ = some v → v.ownBlock ≠ some z := fun v hv => NBZ.out v (by rw [← D2.out.cell (p := ⟨g, 1, none⟩) (by have := TS4.out.ord; show g < _; omega)]; exact hv)
          have zg : z ≠ g := ZG.out
          have hS2 := HSS.out V2 D2.out
          exact ⟨(ot3 ⟨z, 0, none⟩ zl zg nb).trans hS2.1, (ot3 ⟨z, 1, none⟩ zl zg nb).trans hS2.2.1, (ot3 ⟨z, 2, none⟩ zl zg nb).trans hS2.2.2⟩
        have SV3 : Hid (V3.cell? ⟨z, 0, none⟩ = some (.int .i64 u.cd)) := hT.1
        refine hK.out _ _ hT (fun _ => ?_)
        clear hK K_ hS hT ib3 bg3 ot3 hx1 hx2 hx3 hx4 q1 q2 q3 q4
        try simp only [Act.put, List.setIfInBounds_toArray, List.set_cons_zero, List.set_cons_succ]
        refine wpAnyH_done (by kernel_rfl) ?_ _
        refine NoPanic.normal ?_
        have c0 := SV3.out
        have c1 := TS3.out.fnc
        obtain ⟨t5, ht5⟩ : ∃ y : ByteArray, t ++ (⟨#[32, 32]⟩ : ByteArray) = y := ⟨_, rfl⟩
        have q5 : ¬ 9223372036854775807 < t.size + 2 := by have := TSZ.out; omega
        have HI := Lib.hid (IHC.out V3 t5 (by rw [← ht5, HT.out, ← rep_succ, ← bs_app]; rfl) TS3.out)
        go_wp2_with fail
        (with_reducible refine HI.out.mono ?_)
        rintro e V4 ⟨rfl, hT4⟩
        have NX : Hid (TxS w0 mb x g b l V V4 (acc ++ (K.take (k + 1)).flatMap (ndT l n v))) := by
          unfold Hid
          rw [TK.out]
          simpa [ndT, List.append_assoc] using hT4
        clear hT4 HI TS3 SV3 c0 c1 q5 ht5
        go_wp2
        go_roundw
        case rel => exact ⟨k + 1, by omega, by go_num, NX.out⟩
        case measure => simp [intOf]; omega
      · obtain rfl : k = K.length := by omega
        have R : Hid (TxS w0 mb x g b l V wr (acc ++ K.flatMap (ndT l n v))) := by have := hS.out; rw [List.take_length] at this; exact this
        clear hlt hS
        go_wp2
        go_end0
        exact ⟨rfl, R.out⟩
end Go.Proofs.YtgfjbilhgblbeaaDoor
namespace Go.Proofs.YtgfjbilhgblbeaaDoor
open Go.RowKit Go.WideMaps Go.Maps

/-- What the loads of a round read. -/
def S8 (z x mb : Nat) (u : Nd) (V : World) : Prop := S9 z u V ∧ V.cell? ⟨x, 0, none⟩ = some (.map (some mb))
theorem fits_nd {l : List Nd} (h : Fits l) {k : Nat} (hk : k < l.length) : -9223372036854775808 ≤ (nd l k).pr ∧ (nd l k).pr ≤ 9223372036854775807 := (h _ (nd_mem hk)).2.1
set_option maxRecDepth 100000 in
set_option maxHeartbeats 8000000 in
theorem Text_c (sa : Option Addr) (c : Nat) (l : List Nd) (w : World) (hl : RdN w sa l) (hf : Fits l) (hP : Pow w) :
    Calls Tryd.prog 8 #[.slice sa l.length c] w (TxtP l w) := by
  have HK := Lib.hid (CheckFrame_c sa c l w hl hf)
  by_cases hz : frS l = 0
  · have hmm := @run_makeMap Tryd.prog
    obtain ⟨j0, hj, hy0, hy1, hy2⟩ := info_parts infoN
    have HZ := Lib.hid hz
    have F := fr_of hz
    have hT := short_of hz
    have WR : Hid (∀ mb x g b V W, TxS w mb x g b l V W [] → Calls Tryd.prog 29 #[.int .i64 0, .string ⟨#[]⟩, .pointer (some ⟨x, 0, none⟩), .pointer (some ⟨g, 0, none⟩), .pointer (some ⟨b, 0, none⟩)] W (fun e W' => e = .returned (.tuple #[]) ∧ TxS w mb x g b l V W' (txN l 9 0 0))) := fun mb x g b V W h => by
      have h1 := txN_len F hT 9 0 0 (by omega)
      have h2 := dsc_le l 0
      have h3 : l.length ≤ 600 := F.le
      have := write_c l F hT w mb x g b V hP 9 0 0 rfl (.inl rfl) F.tree.zero W [] ⟨#[]⟩ rfl h (by simp only [List.length_nil]; omega)
      simpa using this
    have LN : Hid ((txN l 9 0 0).length ≤ 59400 ∧ l.length ≤ 600) := by
      have h1 := txN_len F hT 9 0 0 (by omega)
      have h2 := dsc_le l 0
      have h3 : l.length ≤ 600 := F.le
      unfold Hid; omega
    have HL := Lib.hid hl
    have HF := Lib.hid hf
    have h9 := hl.1
    rw [hz] at HK
    clear hl hf hP hz F hT
    go_enter Tryd.func8, Tryd.ntmps8
    go_wp2_with fail
    (with_reducible refine HK.out.mono ?_)
    rintro e W1 ⟨rfl, b1⟩
    obtain ⟨W2, hW2⟩ : ∃ W, W1.alloc (.map #[] 0) = W := ⟨_, rfl⟩
    have G2 : Hid (GrIs w W2 W1.heap.size l 0 (fun _ => .slice none 0 0)) := by unfold Hid; rw [← hW2]; exact GrIs.start w W1 l b1
    have s2 : W2.heap.size = W1.heap.size + 1 := by rw [← hW2]; simp
    obtain ⟨mb, hmb⟩ : ∃ m, W1.heap.size = m := ⟨_, rfl⟩
    rw [hmb] at G2 s2
    obtain ⟨W3, hW3⟩ : ∃ W, W2.alloc (.cells #[.map (some mb)] 54) = W := ⟨_, rfl⟩
    obtain ⟨x, hx⟩ : ∃ x, W2.heap.size = x := ⟨_, rfl⟩
    have XM : Hid (x = mb + 1) := by unfold Hid; omega
    have G3 : Hid (GrIs w W3 mb l 0 (fun _ => .slice none 0 0) ∧ W3.cell? ⟨x, 0, none⟩ = some (.map (some mb)) ∧ x < W3.heap.size) := by
      unfold Hid
      rw [← hW3, ← hx]
      exact ⟨G2.out.keep (bel_one _ _), by rw [World.cell?_alloc_at _ _ _ _ rfl]; rfl, by simp⟩
    clear b1 HK G2 s2
    go_wp2
    clear hW2 hW3 hmm
    go_loopw [18] (fun i wr => ∃ (k : Nat) (V : Int → Value), k ≤ l.length ∧ i = .int .i64 k ∧ Hid (GrIs w wr mb l k V ∧ wr.cell? ⟨x, 0, none⟩ = some (.map (some mb)) ∧ x < wr.heap.size)) (fun i _ => l.length - (intOf i).toNat)
    case atStart => exact ⟨0, _, Nat.zero_le _, rfl, G3.out⟩
    case round =>
      obtain ⟨k, V, hk, rfl, hS⟩ := hrel
      clear G3
      by_cases hlt : k < l.length
      · obtain ⟨b', off, rfl, u0, u1, u2⟩ := (HL.out.below hS.out.1.bel).at_ hlt
        have UB : Hid (-9223372036854775808 ≤ (nd l k).pr ∧ (nd l k).pr ≤ 9223372036854775807) := fits_nd HF.out hlt
        obtain ⟨u, hu⟩ : ∃ u, nd l k = u := ⟨_, rfl⟩
        have HU := Lib.hid hu
        rw [hu] at u0 u1 u2 UB
        have hlt' : (k : Int) < (l.length : Int) := by omega
        obtain ⟨W4, hW4⟩ : ∃ W, wr.alloc (.cells #[.int .i64 u.cd, .int .i64 u.pr, .string u.ti] 56) = W := ⟨_, rfl⟩
        have N4 : Hid (NodeB wr W4 u) := by unfold Hid; rw [← hW4]; exact node_b _ _
        obtain ⟨z, hz⟩ : ∃ z, wr.heap.size = z := ⟨_, rfl⟩
        have SZ : Hid (S8 z x mb u W4 ∧ x < z ∧ z < W4.heap.size) := by rw [← hz]; exact ⟨⟨N4.out.2.2, (N4.out.1.cell (p := ⟨x, 0, none⟩) hS.out.2.2).trans hS.out.2.1⟩, hS.out.2.2, by have := N4.out.2.1; omega⟩
        have G4 := Lib.hid (hS.out.1.keep N4.out.1)
        have ZX : Hid (x = mb + 1 ∧ x < z) := ⟨XM.out, SZ.out.2.1⟩
        have KL : Hid ((kdK l u.pr k).length ≤ k ∧ k ≤ 600) := ⟨kdK_len _ _ _, by have := LN.out.2; omega⟩
        have OWB : Hid (∀ q, (V u.pr).ownBlock = some q → mb + 2 ≤ q ∧ q < z) := fun q hq => by have := (hS.out.1.row u.pr).lt q hq; omega
        have HSS : Hid (∀ V, Below W4.heap.size W4 V → S8 z x mb u V) := fun V hb => by
          have zl := SZ.out.2.2
          have s := SZ.out.1
          exact ⟨⟨(hb.cell (p := ⟨z, 0, none⟩) zl).trans s.1.1, (hb.cell (p := ⟨z, 1, none⟩) zl).trans s.1.2.1, (hb.cell (p := ⟨z, 2, none⟩) zl).trans s.1.2.2⟩, (hb.cell (p := ⟨x, 0, none⟩) (Nat.lt_trans SZ.out.2.1 zl)).trans s.2⟩
        clear hS hu N4
        go_wp2_with fail
        refine wp_region_noPanic ?_
        refine wp_region_held_drew (S := S8 z x mb u) (by kernel_rfl) (HSS.out _ (Below.refl _ _).drew) (fun hS => ?_)
        obtain ⟨WD, hWD⟩ : ∃ W, W4.drew = W := ⟨_, rfl⟩
        have D0 : Hid (Below W4.heap.size W4 WD) := by unfold Hid; rw [← hWD]; exact (Below.refl _ _).drew
        rw [hWD] at hS ⊢
        clear hWD
        have GD := Lib.hid (G4.out.keep D0.out)
        have ZLD : Hid (z < WD.heap.size) := Nat.lt_of_lt_of_le SZ.out.2.2 D0.out.size
        have HSD : Hid (∀ V, Below WD.heap.size WD V → S8 z x mb u V) := fun V hb => HSS.out V (D0.out.trans (hb.mono D0.out.size))
        have HLK : Hid (∀ W, Below WD.heap.size WD W → (Instr.lookup 54 (.map (some mb)) (.int .i64 u.pr) false).run Tryd.prog W = .ok (V u.pr) W) := fun W hb => (GD.out.keep hb).look UB.out
        refine wpAnyH_take (i := 0) (v := ?v0z1) rfl (by kernel_rfl) (by kernel_rfl) (by kernel_rfl) (fun _ _ _ h => h) (Or.inl ⟨by rfl, ?hy0z1⟩) (by assumption) ?rest0z1
        case hy0z1 =>
          intro w hSw
          dsimp only [S8, S9] at hSw
          go_simp
          try with_reducible rfl
        simp only [Act.put, List.getElem_toArray, List.getElem_cons_succ, List.getElem_cons_zero, List.setIfInBounds_toArray, List.set_cons_zero, List.set_cons_succ]
        refine wpAnyH_take (i := 1) (v := ?v1z2) rfl (by kernel_rfl) (by kernel_rfl) (by kernel_rfl) (fun _ _ _ h => h) (Or.inl ⟨by rfl, ?hy1z2⟩) (by assumption) ?rest1z2
        case hy1z2 =>
          intro w hSw
          dsimp only [S8, S9] at hSw
          go_simp
          try with_reducible rfl
        simp only [Act.put, List.getElem_toArray, List.getElem_cons_succ, List.getElem_cons_zero, List.setIfInBounds_toArray, List.set_cons_zero, List.set_cons_succ]
        refine wpAnyH_take (i := 2) (v := ?v2z3) rfl (by kernel_rfl) (by kernel_rfl) (by kernel_rfl) (fun _ _ _ h => h) (Or.inl ⟨by rfl, ?hy2z3⟩) (by assumption) ?rest2z3
        case hy2z3 =>
          intro w hSw
          dsimp only [S8, S9] at hSw
          go_simp
          try with_reducible rfl
        simp only [Act.put, List.getElem_toArray, List.getElem_cons_succ, List.getElem_cons_zero, List.setIfInBounds_toArray, List.set_cons_zero, List.set_cons_succ]
        refine wpAnyH_take (i := 3) (v := ?v3z4) rfl (by kernel_rfl) (by kernel_rfl) (by kernel_rfl) (fun _ _ _ h => h) (Or.inl ⟨by rfl, ?hy3z4⟩) (by assumption) ?rest3z4
        case hy3z4 =>
          intro w hSw
          dsimp only [S8, S9] at hSw
          go_simp
          try with_reducible rfl
        simp only [Act.put, List.getElem_toArray, List.getElem_cons_succ, List.getElem_cons_zero, List.setIfInBounds_toArray, List.set_cons_zero, List.set_cons_succ]
        refine wpAnyH_take (i := 4) (v := ?v4z5) rfl (by kernel_rfl) (by kernel_rfl) (by kernel_rfl) (fun _ _ _ h => h) (Or.inl ⟨by rfl, ?hy4z5⟩) (by assumption) ?rest4z5
        case hy4z5 =>
          intro w hSw
          dsimp only [S8, S9] at hSw
          go_simp
          try with_reducible rfl
        simp only [Act.put, List.getElem_toArray, List.getElem_cons_succ, List.getElem_cons_zero, List.setIfInBounds_toArray, List.set_cons_zero, List.set_cons_succ]
        refine wpAnyH_take (i := 5) (v := ?v5z6) rfl (by kernel_rfl) (by kernel_rfl) (by kernel_rfl) (fun _ _ _ h => h) (Or.inl ⟨by rfl, ?hy5z6⟩) (by assumption) ?rest5z6
        case hy5z6 =>
          intro w hSw
          dsimp only [S8, S9] at hSw
          go_simp
          try with_reducible rfl
        simp only [Act.put, List.getElem_toArray, List.getElem_cons_succ, List.getElem_cons_zero, List.setIfInBounds_toArray, List.set_cons_zero, List.set_cons_succ]
        refine wpAnyH_take (i := 7) (v := ?v7z7) rfl (by kernel_rfl) (by kernel_rfl) (by kernel_rfl) (fun _ _ _ h => h) (Or.inl ⟨by rfl, ?hy7z7⟩) (by assumption) ?rest7z7
        case hy7z7 =>
          intro w hSw
          dsimp only [S8, S9] at hSw
          go_simp
          try with_reducible rfl
        simp only [Act.put, List.getElem_toArray, List.getElem_cons_succ, List.getElem_cons_zero, List.setIfInBounds_toArray, List.set_cons_zero, List.set_cons_succ]
        refine wpAnyH_ready (rs := [6, 8]) (by kernel_rfl) (by simp) ?_
        refine AllReadyH.cons rfl (fun K_ hK => ?_) (AllReadyH.cons rfl (fun K_ hK => ?_) AllReadyH.nil)
        · have hlk := HLK.out WD (Below.refl _ _)
          go_simp
          refine hK.out _ _ hS (fun _ => ?_)
          clear hK K_ hlk
          try simp only [Act.put, List.setIfInBounds_toArray, List.set_cons_zero, List.set_cons_succ]
          refine wpAnyH_ready (rs := [8]) (by kernel_rfl) (by simp) ?_
          refine AllReadyH.cons rfl (fun K_ hK => ?_) AllReadyH.nil
          go_simp
          have hT : S8 z x mb u (WD.alloc (.cells #[.int .i64 u.cd, .int .i64 u.pr, .string u.ti] 56)) := HSD.out _ (bel_one WD _)
          refine hK.out _ _ hT (fun _ => ?_)
          clear hK K_ hS
          have hS := hT
          clear hT
          try simp only [Act.put, List.setIfInBounds_toArray, List.set_cons_zero, List.set_cons_succ]
          have hx1 : ∀ q ∈ [Value.int .i64 u.cd, .int .i64 u.pr, .string u.ti], q.oneCell' = true := by intro q hq; simp at hq; rcases hq with rfl | rfl | rfl <;> rfl
          have hx2 : (kdK l u.pr k).length + 1 ≤ maxLen := by have := KL.out; unfold maxLen; omega
          have hx3 : ((kdK l u.pr k).length + 1) * 32 ≤ 140737488355328 := by have := KL.out; omega
          have hx4 : mb + 2 ≤ (WD.alloc (.cells #[.int .i64 u.cd, .int .i64 u.pr, .string u.ti] 56)).heap.size := by have := ZX.out; have := ZLD.out; simp; omega
          refine wpAnyH_ready (rs := [9]) (by kernel_rfl) (by simp) ?_
          refine AllReadyH.cons rfl (fun K_ hK => ?_) AllReadyH.nil
          first
            | refine wp_append_lies _ _ _ 22 (by rfl) (mb + 2) 56 j0 (.agg #[.int .i64 0, .int .i64 0, .string ByteArray.empty]) 3 32 Tryd.underlying22 hj hy0 hy1 hy2 rfl (by decide) _ _ _ (by rfl) ((GD.out.row u.pr).alloc _) ⟨WD.heap.size, 0, none⟩ 1 1 [.int .i64 u.cd, .int .i64 u.pr, .string u.ti] (by rfl) rfl (cell_three_new _ _ _ _ _) hx1 (by decide) hx2 hx3 hx4 (WD.heap.size + 1) (by simp) ?_
            | refine step_append_lies _ rfl _ _ 22 (by rfl) (mb + 2) 56 j0 (.agg #[.int .i64 0, .int .i64 0, .string ByteArray.empty]) 3 32 Tryd.underlying22 hj hy0 hy1 hy2 rfl (by decide) _ _ _ (by rfl) ((GD.out.row u.pr).alloc _) ⟨WD.heap.size, 0, none⟩ 1 1 [.int .i64 u.cd, .int .i64 u.pr, .string u.ti] (by rfl) rfl (cell_three_new _ _ _ _ _) hx1 (by decide) hx2 hx3 hx4 (WD.heap.size + 1) (by simp) ?_
          intro g' cap' w9 hown9 hgrow9 hloc9 _
          obtain ⟨w5, hup, G5, g5⟩ : ∃ w5, (Instr.mapUpdate 54 (.map (some mb)) (.int .i64 u.pr) (.slice (some ⟨g', 0, none⟩) ((kdK l u.pr k).length + 1) cap')).run Tryd.prog w9 = .ok () w5 ∧ GrIs w w5 mb l (k + 1) (fun s => if s = u.pr then (.slice (some ⟨g', 0, none⟩) ((kdK l u.pr k).length + 1) cap') else V s) ∧ w9.grownBy w5 (some mb) := by
            have := GD.out.store (w4 := w9) (v' := .slice (some ⟨g', 0, none⟩) ((kdK l u.pr k).length + 1) cap') (by have := KL.out; unfold maxLen; omega) (by rw [HU.out]; exact UB.out) (by rw [HU.out]; exact hown9) (by rw [HU.out]; exact hgrow9) (by rw [HU.out]; rcases hloc9 with h | h; exact .inl h; exact .inr (by rw [h]; rfl))
            rw [HU.out] at this
            exact this
          have hT : S8 z x mb u w9 := by
            have t := HSD.out _ (bel_one WD (.cells #[.int .i64 u.cd, .int .i64 u.pr, .string u.ti] 56))
            have ne : ∀ q : Nat, (q = z ∨ q = x) → some q ≠ (V u.pr).ownBlock := fun q hq e => by
              have h1 := OWB.out q e.symm
              have := ZX.out
              rcases hq with rfl | rfl <;> omega
            exact ⟨⟨hgrow9.cell t.1.1 (ne _ (.inl rfl)), hgrow9.cell t.1.2.1 (ne _ (.inl rfl)), hgrow9.cell t.1.2.2 (ne _ (.inl rfl))⟩, hgrow9.cell t.2 (ne _ (.inr rfl))⟩
          have HT9 := Lib.hid hT
          refine hK.out _ _ hT (fun _ => ?_)
          clear hK K_ hS hT hown9 hgrow9 hloc9 hx1 hx2 hx3 hx4
          try simp only [Act.put, List.setIfInBounds_toArray, List.set_cons_zero, List.set_cons_succ]
          refine wpAnyH_ready (rs := [10]) (by kernel_rfl) (by simp) ?_
          refine AllReadyH.cons rfl (fun K_ hK => ?_) AllReadyH.nil
          go_simp
          have hT : S8 z x mb u w5 := by
            have ne : ∀ q : Nat, (q = z ∨ q = x) → some q ≠ some mb := fun q hq e => by
              have := ZX.out
              injection e with e
              rcases hq with rfl | rfl <;> omega
            have t := HT9.out
            exact ⟨⟨g5.cell t.1.1 (ne _ (.inl rfl)), g5.cell t.1.2.1 (ne _ (.inl rfl)), g5.cell t.1.2.2 (ne _ (.inl rfl))⟩, g5.cell t.2 (ne _ (.inr rfl))⟩
          have NX : Hid (GrIs w w5 mb l (k + 1) (fun s => if s = u.pr then (.slice (some ⟨g', 0, none⟩) ((kdK l u.pr k).length + 1) cap') else V s) ∧ w5.cell? ⟨x, 0, none⟩ = some (.map (some mb)) ∧ x < w5.heap.size) :=
            ⟨G5, hT.2, World.block_lt_of_cell? w5 ⟨x, 0, none⟩ hT.2⟩
          refine hK.out _ _ hT (fun _ => ?_)
          clear hK K_ hT hup G5 g5
          try simp only [Act.put, List.setIfInBounds_toArray, List.set_cons_zero, List.set_cons_succ]
          refine wpAnyH_done (by kernel_rfl) ?_ _
          refine NoPanic.normal ?_
          go_wp2
          go_roundw
          case rel => exact ⟨k + 1, _, by omega, by go_num, NX.out⟩
          case measure => simp [intOf]; omega
        · go_simp
          have hT : S8 z x mb u (WD.alloc (.cells #[.int .i64 u.cd, .int .i64 u.pr, .string u.ti] 56)) := HSD.out _ (bel_one WD _)
          refine hK.out _ _ hT (fun _ => ?_)
          clear hK K_ hS
          have hS := hT
          clear hT
          try simp only [Act.put, List.setIfInBounds_toArray, List.set_cons_zero, List.set_cons_succ]
          refine wpAnyH_ready (rs := [6]) (by kernel_rfl) (by simp) ?_
          refine AllReadyH.cons rfl (fun K_ hK => ?_) AllReadyH.nil
          have hlk := HLK.out _ (bel_one WD (.cells #[.int .i64 u.cd, .int .i64 u.pr, .string u.ti] 56))
          go_simp
          refine hK.out _ _ hS (fun _ => ?_)
          clear hK K_ hlk
          try simp only [Act.put, List.setIfInBounds_toArray, List.set_cons_zero, List.set_cons_succ]
          have hx1 : ∀ q ∈ [Value.int .i64 u.cd, .int .i64 u.pr, .string u.ti], q.oneCell' = true := by intro q hq; simp at hq; rcases hq with rfl | rfl | rfl <;> rfl
          have hx2 : (kdK l u.pr k).length + 1 ≤ maxLen := by have := KL.out; unfold maxLen; omega
          have hx3 : ((kdK l u.pr k).length + 1) * 32 ≤ 140737488355328 := by have := KL.out; omega
          have hx4 : mb + 2 ≤ (WD.alloc (.cells #[.int .i64 u.cd, .int .i64 u.pr, .string u.ti] 56)).heap.size := by have := ZX.out; have := ZLD.out; simp; omega
          refine wpAnyH_ready (rs := [9]) (by kernel_rfl) (by simp) ?_
          refine AllReadyH.cons rfl (fun K_ hK => ?_) AllReadyH.nil
          first
            | refine wp_append_lies _ _ _ 22 (by rfl) (mb + 2) 56 j0 (.agg #[.int .i64 0, .int .i64 0, .string ByteArray.empty]) 3 32 Tryd.underlying22 hj hy0 hy1 hy2 rfl (by decide) _ _ _ (by rfl) ((GD.out.row u.pr).alloc _) ⟨WD.heap.size, 0, none⟩ 1 1 [.int .i64 u.cd, .int .i64 u.pr, .string u.ti] (by rfl) rfl (cell_three_new _ _ _ _ _) hx1 (by decide) hx2 hx3 hx4 (WD.heap.size + 1) (by simp) ?_
            | refine step_append_lies _ rfl _ _ 22 (by rfl) (mb + 2) 56 j0 (.agg #[.int .i64 0, .int .i64 0, .string ByteArray.empty]) 3 32 Tryd.underlying22 hj hy0 hy1 hy2 rfl (by decide) _ _ _ (by rfl) ((GD.out.row u.pr).alloc _) ⟨WD.heap.size, 0, none⟩ 1 1 [.int .i64 u.cd, .int .i64 u.pr, .string u.ti] (by rfl) rfl (cell_three_new _ _ _ _ _) hx1 (by decide) hx2 hx3 hx4 (WD.heap.size + 1) (by simp) ?_
          intro g' cap' w9 hown9 hgrow9 hloc9 _
          obtain ⟨w5, hup, G5, g5⟩ : ∃ w5, (Instr.mapUpdate 54 (.map (some mb)) (.int .i64 u.pr) (.slice (some ⟨g', 0, none⟩) ((kdK l u.pr k).length + 1) cap')).run Tryd.prog w9 = .ok () w5 ∧ GrIs w w5 mb l (k + 1) (fun s => if s = u.pr then (.slice (some ⟨g', 0, none⟩) ((kdK l u.pr k).length + 1) cap') else V s) ∧ w9.grownBy w5 (some mb) := by
            have := GD.out.store (w4 := w9) (v' := .slice (some ⟨g', 0, none⟩) ((kdK l u.pr k).length + 1) cap') (by have := KL.out; unfold maxLen; omega) (by rw [HU.out]; exact UB.out) (by rw [HU.out]; exact hown9) (by rw [HU.out]; exact hgrow9) (by rw [HU.out]; rcases hloc9 with h | h; exact .inl h; exact .inr (by rw [h]; rfl))
            rw [HU.out] at this
            exact this
          have hT : S8 z x mb u w9 := by
            have t := HSD.out _ (bel_one WD (.cells #[.int .i64 u.cd, .int .i64 u.pr, .string u.ti] 56))
            have ne : ∀ q : Nat, (q = z ∨ q = x) → some q ≠ (V u.pr).ownBlock := fun q hq e => by
              have h1 := OWB.out q e.symm
              have := ZX.out
              rcases hq with rfl | rfl <;> omega
            exact ⟨⟨hgrow9.cell t.1.1 (ne _ (.inl rfl)), hgrow9.cell t.1.2.1 (ne _ (.inl rfl)), hgrow9.cell t.1.2.2 (ne _ (.inl rfl))⟩, hgrow9.cell t.2 (ne _ (.inr rfl))⟩
          have HT9 := Lib.hid hT
          refine hK.out _ _ hT (fun _ => ?_)
          clear hK K_ hS hT hown9 hgrow9 hloc9 hx1 hx2 hx3 hx4
          try simp only [Act.put, List.setIfInBounds_toArray, List.set_cons_zero, List.set_cons_succ]
          refine wpAnyH_ready (rs := [10]) (by kernel_rfl) (by simp) ?_
          refine AllReadyH.cons rfl (fun K_ hK => ?_) AllReadyH.nil
          go_simp
          have hT : S8 z x mb u w5 := by
            have ne : ∀ q : Nat, (q = z ∨ q = x) → some q ≠ some mb := fun q hq e => by
              have := ZX.out
              injection e with e
              rcases hq with rfl | rfl <;> omega
            have t := HT9.out
            exact ⟨⟨g5.cell t.1.1 (ne _ (.inl rfl)), g5.cell t.1.2.1 (ne _ (.inl rfl)), g5.cell t.1.2.2 (ne _ (.inl rfl))⟩, g5.cell t.2 (ne _ (.inr rfl))⟩
          have NX : Hid (GrIs w w5 mb l (k + 1) (fun s => if s = u.pr then (.slice (some ⟨g', 0, none⟩) ((kdK l u.pr k).length + 1) cap') else V s) ∧ w5.cell? ⟨x, 0, none⟩ = some (.map (some mb)) ∧ x < w5.heap.size) :=
            ⟨G5, hT.2, World.block_lt_of_cell? w5 ⟨x, 0, none⟩ hT.2⟩
          refine hK.out _ _ hT (fun _ => ?_)
          clear hK K_ hT hup G5 g5
          try simp only [Act.put, List.setIfInBounds_toArray, List.set_cons_zero, List.set_cons_succ]
          refine wpAnyH_done (by kernel_rfl) ?_ _
          refine NoPanic.normal ?_
          go_wp2
          go_roundw
          case rel => exact ⟨k + 1, _, by omega, by go_num, NX.out⟩
          case measure => simp [intOf]; omega
      · obtain rfl : k = l.length := by omega
        obtain ⟨g, hg⟩ : ∃ g, wr.heap.size = g := ⟨_, rfl⟩
        obtain ⟨W5, hW5⟩ : ∃ W, wr.alloc (.cells #[.pointer none, .slice none 0 0] 60) = W := ⟨_, rfl⟩
        have s5 : W5.heap.size = g + 1 := by rw [← hW5]; simp [hg]
        have I5 : Hid (IsB g [] W5 ∧ Below wr.heap.size wr W5 ∧ W5.cell? ⟨g, 1, none⟩ = some (.slice none 0 0)) := by
          unfold Hid
          rw [← hW5, ← hg]
          exact ⟨Lib.fresh_isBuilder _ _ wr, bel_one _ _, by rw [World.cell?_alloc_at _ _ _ _ rfl]; rfl⟩
        obtain ⟨W6, hW6⟩ : ∃ W, W5.alloc (.cells #[FV x g (g + 1)] 61) = W := ⟨_, rfl⟩
        have TS : Hid (TxS w mb x g (g + 1) l V W6 []) := by
          have b6 := bel_one W5 (.cells #[FV x g (g + 1)] 61)
          rw [hW6] at b6
          have G := hS.out
          have G5 := G.1.keep I5.out.2.1
          have hm := G.1.lt
          have hw := G.1.bel.size
          have h6 : W6.heap.size = g + 1 + 1 := by rw [← hW6]; simp [s5]
          have hx9 := G.2.2
          refine ⟨G5.keep b6, (b6.cell (p := ⟨x, 0, none⟩) (by show x < _; omega)).trans ((I5.out.2.1.cell (p := ⟨x, 0, none⟩) G.2.2).trans G.2.1), isB_keep I5.out.1 b6, ?_, fun v hv => ?_, ⟨by omega, by omega, by omega, by omega, by omega⟩, fun s q hq => by have := ((G.1.row s).lt q hq).2; omega⟩
          · rw [← s5, ← hW6, World.cell?_alloc_at _ _ _ _ rfl, s5]; rfl
          · rw [b6.cell (p := ⟨g, 1, none⟩) (by show g < _; omega), I5.out.2.2] at hv
            injection hv with hv
            subst hv
            simp [Value.ownBlock]
        have c1 := TS.out.fnc
        clear I5 hS XM
        go_wp2_with fail
        clear hW5 hW6 s5 c1
        (with_reducible refine (WR.out _ _ _ _ _ _ TS.out).mono ?_)
        rintro e W7 ⟨rfl, hT7⟩
        have T7 := Lib.hid hT7
        have HLN : Hid (Calls Tryd.prog 32 #[.pointer (some ⟨g, 0, none⟩)] W7 fun e w' => e = .returned (.int .i64 (txN l 9 0 0).length) ∧ w' = W7) := by
          have h := Tryd.Builder_Len g g (Lib.byteCells (txN l 9 0 0)) W7 hT7.bd
          rw [byteCells_length] at h
          exact h
        have HST2 : Hid (Calls Tryd.prog 33 #[.pointer (some ⟨g, 0, none⟩)] W7 fun e w' => e = .returned (.string (bs (txN l 9 0 0))) ∧ Below g W7 w') := Tryd.Builder_String_any g g (txN l 9 0 0) W7 hT7.bd (by have := hT7.ord; omega)
        have hbig : ¬ (60000 : Int) < ((txN l 9 0 0).length : Int) := by have := LN.out.1; omega
        clear hT7 TS WR
        go_wp2_with fail
        refine HLN.out.mono ?_
        rintro e w9 ⟨rfl, rfl⟩
        go_wp2_with fail
        refine HST2.out.mono ?_
        rintro e W9 ⟨rfl, b9⟩
        have R : Hid (TxtP l w (.returned (.tuple #[.string (bs (txN l 9 0 0)), .int .i64 0])) W9) := Or.inl ⟨HZ.out, rfl, T7.out.gr.bel.trans (b9.mono T7.out.ord.2.2.2.2)⟩
        clear b9
        go_wp2
        go_ret2
        exact R.out
  · have HZ := Lib.hid hz
    obtain ⟨f, hfl⟩ : ∃ f, frS l = f := ⟨_, rfl⟩
    have HP := Lib.hid hfl
    rw [hfl] at hz HK
    have f1 : (f == 0) = false := by rw [beq_eq_false_iff_ne]; exact hz
    have f2 : (f != 0) = true := by rw [bne, f1]; rfl
    clear hl hf hP hfl hz
    go_enter Tryd.func8, Tryd.ntmps8
    go_wp2_with fail
    (with_reducible refine HK.out.mono ?_)
    rintro e W1 ⟨rfl, b1⟩
    have R : Hid (TxtP l w (.returned (.tuple #[.string ⟨#[]⟩, .int .i64 f])) W1) := Or.inr ⟨HZ.out, by rw [HP.out], b1⟩
    clear b1 HK
    go_wp2
    go_ret2
    exact R.out
end Go.Proofs.YtgfjbilhgblbeaaDoor
namespace Go.Proofs.YtgfjbilhgblbeaaDoor
open Go.RowKit Go.WideMaps Go.Maps

/-- The codes within a code, of the first k nodes. -/
def winK (l : List Nd) (s : Int) : Nat → List Int
  | 0 => []
  | k + 1 => winK l s k ++ if wiP l s k = true then [(nd l k).cd] else []
def WinP (l : List Nd) (a : Int) (w : World) (e : Ending) (w' : World) : Prop :=
  (withS l [a] = 0 ∧ ∃ s c, e = .returned (.tuple #[.slice s (winK l a l.length).length c, .int .i64 0]) ∧ Rd w' s (winK l a l.length) ∧ Below w.heap.size w w') ∨
  (withS l [a] ≠ 0 ∧ e = .returned (.tuple #[.slice none 0 0, .int .i64 (withS l [a])]) ∧ Below w.heap.size w w')
theorem winK_len (l : List Nd) (s : Int) : ∀ k, (winK l s k).length ≤ k
  | 0 => Nat.le_refl _
  | k + 1 => by
    have := winK_len l s k
    unfold winK
    rw [List.length_append]
    split <;> simp <;> omega
theorem winK_hit {l : List Nd} {s : Int} {k : Nat} (h : wiP l s k = true) : winK l s (k + 1) = winK l s k ++ [(nd l k).cd] := by rw [winK, if_pos h]
theorem winK_miss {l : List Nd} {s : Int} {k : Nat} (h : wiP l s k = false) : winK l s (k + 1) = winK l s k := by rw [winK, if_neg (by rw [h]; simp), List.append_nil]
set_option maxRecDepth 100000 in
set_option maxHeartbeats 4000000 in
theorem Above_c (sa : Option Addr) (c : Nat) (l : List Nd) (a : Int) (w : World) (hl : RdN w sa l) (hf : Fits l) :
    Calls Tryd.prog 12 #[.slice sa l.length c, .int .i64 a] w (AvP l a w) := by
  obtain ⟨W1, hW1⟩ : ∃ W1, w.alloc (.cells #[.int .i64 a] 3) = W1 := ⟨_, rfl⟩
  have B1 : Hid (Below w.heap.size w W1) := by rw [← hW1]; exact bel_one _ _
  have R1 : Rd W1 (some ⟨w.heap.size, 0, none⟩) [a] := by rw [← hW1]; exact rd_one w a _
  have HK : Hid (Calls Tryd.prog 41 #[.slice sa l.length c, .slice (some ⟨w.heap.size, 0, none⟩) 1 1] W1 (FwP l (withS l [a]) W1)) := Lib.hid (frameWith_c sa c l (some ⟨w.heap.size, 0, none⟩) 1 [a] W1 (hl.below B1.out) hf R1)
  clear hl hf R1
  by_cases hz : withS l [a] = 0
  · have HZ := Lib.hid hz
    obtain ⟨h0, k, rfl, hk⟩ := with_one hz
    have F := Lib.hid (fr_of h0)
    have HH := Lib.hid hk
    have hv := F.out.lev hk
    rw [hz] at HK
    clear hz h0 hk
    go_enter Tryd.func12, Tryd.ntmps12
    go_wp2_with fail
    (with_reducible refine HK.out.mono ?_)
    intro e W2 he
    obtain ⟨_, x, y, rfl, hx, hy, b2, _, _⟩ | ⟨h, _⟩ := he
    rotate_left
    · exact absurd rfl h
    obtain ⟨W3, hW3⟩ : ∃ W3, W2.alloc (.cells #[row x, row y] 71) = W3 := ⟨_, rfl⟩
    have b3 : Below W2.heap.size W2 W3 := by rw [← hW3]; exact bel_one _ _
    have D3 : Hid (B2 W3 W2.heap.size (row x) (row y)) := by rw [← hW3]; exact B2.made _ _ _ _
    have d0 := D3.out.c0
    have d1 := D3.out.c1
    have BW3 := Lib.hid ((B1.out.trans (b2.mono B1.out.size)).trans (b3.mono (B1.out.trans (b2.mono B1.out.size)).size))
    have KP := Lib.hid (path_c x y (par l) (lev l) (Has l) F.out.tree k W3 (hx.below b3) (.inr HH.out) (fun c h => (has_pos F.out.ord h).2) hv.2.2.1)
    clear hx hy b2 b3 hW1 HK
    go_wp2_with fail
    (with_reducible refine KP.out.mono ?_)
    rintro e W4 ⟨v, rfl, hown, b4⟩
    have BW4 := Lib.hid (BW3.out.trans (b4.mono BW3.out.size))
    obtain ⟨t, ht⟩ : ∃ t, lev l k = t + 1 := ⟨lev l k - 1, by omega⟩
    rw [ht] at hown
    have HT := Lib.hid ht
    have ht9 : t ≤ 8 := by omega
    rcases hown.2 with ⟨_, h⟩ | ⟨g, cap, cur, rfl, _, hb, hcap, hmax, _⟩
    · omega
    have RR : Hid (∀ j, j < t → W4.cell? ⟨g, 1 + j, none⟩ = some (.int .i64 ((it (par l) (j + 1) k : Nat) : Int))) := fun j hj => by
      have := hown.cells (g := g) rfl (j + 1) (.int .i64 ((it (par l) (j + 1) k : Nat) : Int)) (by rw [List.getElem?_map]; unfold pth; rw [List.getElem?_map, List.getElem?_range (by omega)]; rfl)
      rw [add_at, Nat.zero_add] at this
      rw [Nat.add_comm 1 j]
      exact this
    have GL : Hid (g < W4.heap.size) := (hown.lt g rfl).2
    clear hown b4 KP d0 d1 hW3 hb ht hv
    have hmax' : cap ≤ 9223372036854775807 := by unfold maxLen at hmax; omega
    have h1c : 1 ≤ cap := by omega
    have RD : Hid (∀ s, (0 < t → s = some ⟨g, 1, none⟩) → Rd W4 s (abL (par l) k t)) := fun s hs => by
      refine ⟨by rw [abL_len]; omega, fun h0 => ?_⟩
      rw [abL_len] at h0
      refine ⟨g, 1, hs h0, GL.out, fun j hj => ?_⟩
      rw [abL_len] at hj
      rw [RR.out j hj]
      have : fn (abL (par l) k t) j = ((it (par l) (j + 1) k : Nat) : Int) := by
        unfold fn abL
        rw [List.getD, List.getElem?_map, List.getElem?_range hj]
        rfl
      rw [this]
    have FIN : Hid (∀ s c', (0 < t → s = some ⟨g, 1, none⟩) → AvP l (k : Nat) w (.returned (.tuple #[.slice s t c', .int .i64 0])) W4) := fun s c' hs => by
      have e : lev l ((k : Nat) : Int).toNat - 1 = t := by rw [Int.toNat_natCast, HT.out, Nat.add_sub_cancel]
      refine Or.inl ⟨HZ.out, s, c', by rw [e], ?_, BW4.out⟩
      rw [e, Int.toNat_natCast]
      exact RD.out s hs
    by_cases hc1 : cap = 1
    · subst hc1
      obtain rfl : t = 0 := by omega
      go_wp2_with fail
      go_ret2
      exact FIN.out _ _ (fun h => by omega)
    · go_wp2_with fail
      go_ret2
      exact FIN.out _ _ (fun _ => rfl)
  · obtain ⟨f, hfl⟩ : ∃ f, withS l [a] = f := ⟨_, rfl⟩
    have HP := Lib.hid hfl
    have HZ := Lib.hid hz
    rw [hfl] at hz HK
    have f1 : (f == 0) = false := by rw [beq_eq_false_iff_ne]; exact hz
    have f2 : (f != 0) = true := by rw [bne, f1]; rfl
    have HZ2 := Lib.hid hz
    clear hfl hz
    go_enter Tryd.func12, Tryd.ntmps12
    go_wp2_with fail
    (with_reducible refine HK.out.mono ?_)
    intro e W2 he
    obtain ⟨h, _⟩ | ⟨_, rfl, b2⟩ := he
    · exact absurd h HZ2.out
    have BW2 := (B1.out.trans (b2.mono B1.out.size)).trans ((bel_one W2 (.cells #[.slice none 0 0, .slice none 0 0] 71)).mono (B1.out.trans (b2.mono B1.out.size)).size)
    have R : Hid (AvP l a w (.returned (.tuple #[.slice none 0 0, .int .i64 f])) (W2.alloc (.cells #[.slice none 0 0, .slice none 0 0] 71))) := Or.inr ⟨HZ.out, by rw [HP.out], BW2⟩
    clear b2 hW1 HK BW2
    go_wp2_with fail
    go_ret2
    exact R.out
end Go.Proofs.YtgfjbilhgblbeaaDoor
