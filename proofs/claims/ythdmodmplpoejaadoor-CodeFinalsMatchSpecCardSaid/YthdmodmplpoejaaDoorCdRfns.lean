/-
  The reference of package code: Finals; CheckCodings; Equal of finals.
-/
import Derived.Test.YthdmodmplpoejaaDoorCdRfw
import Derived.Test.YthdmodmplpoejaaDoorCdRcs
import Derived.Test.YthdmodmplpoejaaDoorCdRchkC
import Derived.Test.YthdmodmplpoejaaDoorCdLifts
namespace Go.Proofs.YthdmodmplpoejaaDoor
open Go.RowKit Go.WideMaps Go.Maps

theorem for_fr {l : List Nd} {C : List Cg} (h : forS l C = 0) : frS l = 0 := by
  unfold forS at h
  by_cases h1 : frS l ≠ 0
  · rw [if_pos h1] at h; exact absurd h h1
  · omega
set_option maxRecDepth 100000 in
set_option maxHeartbeats 4000000 in
theorem rFinals_c (sa : Option Addr) (c : Nat) (l : List Nd) (a2 : Option Addr) (c2 : Nat) (C : List Cg) (w : World) (hl : RdN w sa l) (hf : Fits l) (hC : RdC w a2 C) :
    Calls Tryd.prog 20 #[.slice sa l.length c, .slice a2 C.length c2] w (FnP l C w) := by
  obtain ⟨i0, hi, hz0, hz1, hz2⟩ := info_parts infoFn
  have HC := Lib.hid (rCheckCodings_c sa c l a2 c2 C w hl hf hC)
  have HCC := Lib.hid hC
  have HL := Lib.hid (And.intro hl hf)
  have h9 := hC.1
  clear hl hf hC
  by_cases hz : forS l C ≠ 0
  · obtain ⟨f, hfl⟩ : ∃ f, forS l C = f := ⟨_, rfl⟩
    have HP := Lib.hid hfl
    have HZ := Lib.hid hz
    rw [hfl] at hz HC
    have f1 : (f == 0) = false := by rw [beq_eq_false_iff_ne]; exact hz
    have f2 : (f != 0) = true := by rw [bne, f1]; rfl
    clear hfl hz
    go_enter Tryd.func20, Tryd.ntmps20
    go_wp2_with fail
    (with_reducible refine HC.out.mono ?_)
    rintro e W2 ⟨rfl, b2⟩
    have R : Hid (FnP l C w (.returned (.tuple #[.slice none 0 0, .int .i64 f])) W2) := Or.inr ⟨HZ.out, by rw [HP.out], b2⟩
    clear b2
    go_wp2_with fail
    go_ret2
    exact R.out
  have hz : forS l C = 0 := by omega
  obtain ⟨F, _, hn, hcs⟩ := for_ok hz
  have HF := Lib.hid (And.intro F (for_fr hz))
  have HCS := Lib.hid hcs
  have HZ := Lib.hid hz
  have KC := Lib.hid (fun W (hb : Below w.heap.size w W) => rcases_c a2 c2 C W (HCC.out.below hb) hn)
  have HLEN := Lib.hid (cases_len C)
  rw [hz] at HC
  clear hz F hcs
  go_enter Tryd.func20, Tryd.ntmps20
  go_wp2_with fail
  (with_reducible refine HC.out.mono ?_)
  rintro e W3 ⟨rfl, b3⟩
  have BW3 := Lib.hid b3
  have K := Lib.hid (KC.out W3 BW3.out)
  clear b3
  go_wp2_with fail
  (with_reducible refine K.out.mono ?_)
  rintro e W4 ⟨a5, c5, rfl, hrs, b4⟩
  have T4 := Lib.hid hrs
  have BW4 := Lib.hid (BW3.out.trans (b4.mono BW3.out.size))
  clear b4 hrs K HC
  obtain ⟨N, hN⟩ : ∃ N, (cases_ C).length = N := ⟨_, rfl⟩
  have HN := Lib.hid hN
  rw [hN] at HLEN ⊢
  have hN9 : N ≤ 20000 := by have := HLEN.out; omega
  clear hN
  go_wp2_with fail
  go_loopw [7, 19] (fun v i wr => ∃ k : Nat, k ≤ N ∧ i = .int .i64 k ∧ Hid (∃ R : List Cg, R.length = k ∧ InFn W4 wr v l C R)) (fun _ i _ => N - (intOf i).toNat)
  case atStart => exact ⟨0, Nat.zero_le _, rfl, [], rfl, World.ownsRow_nil _ _ _ _, fun j h => by simp at h, Below.refl _ _⟩
  case round =>
    obtain ⟨k, hk, rfl, R, rfl, hS⟩ := hrel
    by_cases hlt : R.length < N
    · have hlt' : (R.length : Int) < (N : Int) := by omega
      obtain ⟨g, a', c', rfl, _, q0, hD0⟩ := T4.out R.length (by rw [HN.out]; exact hlt)
      obtain ⟨h1, h2, h3⟩ := case_has HCS.out (j := R.length) (by rw [HN.out]; exact hlt)
      have q1 : wr.cell? ⟨g, R.length, none⟩ = some (.slice a' (rn (cases_ C) R.length).length c') := (hS.bel.cell (p := ⟨g, R.length, none⟩) (by assumption)).trans q0
      obtain ⟨D, hDD⟩ : ∃ D, rn (cases_ C) R.length = D := ⟨_, rfl⟩
      rw [hDD] at hD0 h1 h2 h3 q1
      have HD := Lib.hid (And.intro hDD h3)
      have HDC := Lib.hid (hD0.below hS.bel)
      have BWR := Lib.hid (BW4.out.trans (hS.bel.mono BW4.out.size))
      have KF := Lib.hid (rfinal_c sa c l a' c' D wr (HL.out.1.below BWR.out) HL.out.2 HF.out.2 HDC.out h3 h1 (by omega))
      have HS := Lib.hid hS
      clear hDD h3 hD0 hS q0
      go_wp2_with fail
      (with_reducible refine KF.out.mono ?_)
      rintro e W6 ⟨fc, fy, rfl, hfin, b6⟩
      have S6 := Lib.hid (HS.out.keep b6)
      have hfin := Lib.hid hfin
      have h1' : (0 : Int) < (D.length : Int) := by omega
      clear b6 HS KF q1
      go_wp2_with (at_builtin; refine wpList_append_own_at _ rfl _ _ 36 rfl W4.heap.size 42 i0 (.agg #[.int .i64 0, .int .i64 0, .int .i64 0]) 3 24 Tryd.underlying36 hi hz0 hz1 hz2 rfl (by decide) _ _ _ rfl (S6.out.own.alloc _) ⟨W6.heap.size, 0, none⟩ 1 1 [.int .i64 (cg D 0).ca, .int .i64 fc, .int .i64 fy] rfl rfl (cell_three_new _ _ _ _ _) (by simp [Value.oneCell']) ?c3 ?c4 ?c5 ?_)
      case c3 => unfold maxLen; omega
      case c4 => omega
      case c5 => have := S6.out.bel.size; simp; omega
      intro v' w4 hown hgrow _ _
      have NX : Hid (∃ R' : List Cg, R'.length = R.length + 1 ∧ InFn W4 w4 v' l C R') :=
        ⟨R ++ [⟨(cg D 0).ca, fc, fy⟩], by simp, S6.out.snoc (u := ⟨(cg D 0).ca, fc, fy⟩) (by rw [HD.out.1]) (by rw [HD.out.1]; exact hfin.out) hown hgrow⟩
      clear hown hgrow S6
      go_wp2
      go_roundw
      case rel => exact ⟨R.length + 1, by omega, by go_num, NX.out⟩
      case measure => simp [intOf]; omega
    · obtain rfl : R.length = N := by omega
      have RR : Hid (∃ a c, u7 = .slice a R.length c ∧ RdC wr a R) := rdT_own hS.own (by omega)
      obtain ⟨a, c, rfl, hr⟩ := RR.out
      have RS : Hid (FnP l C w (.returned (.tuple #[.slice a R.length c, .int .i64 0])) wr) := Or.inl ⟨HZ.out, a, c, R, by rw [HN.out], HN.out.symm, hS.res, hr, BW4.out.trans (hS.bel.mono BW4.out.size)⟩
      clear hS hlt hr RR
      go_wp2
      go_ret2
      exact RS.out
set_option maxHeartbeats 1000000 in
theorem eqF_c (a1 a2 : Option Addr) (c1 c2 : Nat) (C : List Cg) (w : World) (h1 : RdC w a1 C) (h2 : RdC w a2 C) :
    Calls Tryd.prog 23 #[.slice a1 C.length c1, .slice a2 C.length c2] w fun e w' => e = .returned (.bool true) ∧ Below w.heap.size w w' := by
  have H1 := Lib.hid h1
  have H2 := Lib.hid h2
  have h9 := h1.1
  clear h1 h2
  go_enter Tryd.func23, Tryd.ntmps23
  go_wp2
  go_loopw [5, 13] (fun _ i wr => ∃ k : Nat, k ≤ C.length ∧ i = .int .i64 k ∧ Hid (Below w.heap.size w wr)) (fun _ i _ => C.length - (intOf i).toNat)
  case atStart => exact ⟨0, Nat.zero_le _, rfl, Below.refl _ _⟩
  case round =>
    obtain ⟨k, hk, rfl, hR⟩ := hrel
    by_cases hlt : k < C.length
    · have hlt' : (k : Int) < (C.length : Int) := by omega
      obtain ⟨b1, o1, rfl, p0, p1, p2⟩ := (H1.out.below hR.out).at_ hlt
      obtain ⟨b2, o2, rfl, q0, q1, q2⟩ := (H2.out.below hR.out).at_ hlt
      generalize (cg C k).ca = x0 at *
      generalize (cg C k).co = x1 at *
      generalize (cg C k).cd = x2 at *
      go_wp2_with fail
      go_quiet (fail)
      have NX : Hid (Below w.heap.size w (wr.drewN nq)) := hR.out.trans ((bel_drewN _ _).mono hR.out.size)
      clear p0 p1 p2 q0 q1 q2
      go_wp2
      go_roundw
      case rel => exact ⟨k + 1, by omega, by go_num, NX.out⟩
      case measure => simp [intOf]; omega
    · obtain rfl : k = C.length := by omega
      go_wp2
      go_ret
      exact ⟨rfl, hR.out⟩

theorem CheckCodings_c (sa : Option Addr) (c : Nat) (l : List Nd) (a2 : Option Addr) (c2 : Nat) (C : List Cg) (w : World) (hl : RdN w sa l) (hf : Fits l) (hC : RdC w a2 C) :
    Calls Tryd.prog 21 #[.slice sa l.length c, .slice a2 C.length c2] w (IntP (forS l C) w) := by
  have HC := Lib.hid (frameFor_c sa c l a2 c2 C w hl hf hC)
  clear hl hf hC
  obtain ⟨f, hfl⟩ : ∃ f, forS l C = f := ⟨_, rfl⟩
  have HP := Lib.hid hfl
  rw [hfl] at HC ⊢
  clear hfl
  go_enter Tryd.func21, Tryd.ntmps21
  go_wp2_with fail
  (with_reducible refine HC.out.mono ?_)
  intro e W2 he
  obtain ⟨rfl, x, y, rfl, _, _, b2, _, _⟩ | ⟨_, rfl, b2⟩ := he
  · have B := Lib.hid (b2.trans ((bel_one W2 (.cells #[row x, row y] 71)).mono b2.size))
    clear b2
    go_wp2
    go_ret
    exact ⟨rfl, B.out⟩
  · have B := Lib.hid (b2.trans ((bel_one W2 (.cells #[.slice none 0 0, .slice none 0 0] 71)).mono b2.size))
    clear b2
    go_wp2
    go_ret
    exact ⟨rfl, B.out⟩
end Go.Proofs.YthdmodmplpoejaaDoor
