/-
  Allocate of package sample.
-/
import Derived.Test.YtaiiobojlipbeaaSmpChk
namespace Go.Proofs.Ytaiiobojlipbeaa
open Go.RowKit

theorem tab_fn (l : List Int) : tab (fn l) l.length = l := by
  apply List.ext_getElem
  · rw [tab_len]
  · intro i h1 h2
    simp [tab, fn, h2]
theorem bst_congr {W N M W' N' M' : Nat → Int} (k : Nat) (hW : ∀ j, j < k → W j = W' j) (hN : ∀ j, j < k → N j = N' j) (hM : ∀ j, j < k → M j = M' j) : Sm.bst W N M k = Sm.bst W' N' M' k := by
  induction k with
  | zero => rfl
  | succ k ih =>
    have e := ih (fun j hj => hW j (by omega)) (fun j hj => hN j (by omega)) (fun j hj => hM j (by omega))
    have lo := Sm.bst_lo W' N' M' k
    unfold Sm.bst
    rw [e, hN k (by omega), hM k (by omega), hW k (by omega)]
    by_cases h : Sm.bst W' N' M' k < 0
    · simp only [h, true_or]
    · rw [hN (Sm.bst W' N' M' k).toNat (by omega), hW (Sm.bst W' N' M' k).toNat (by omega)]
theorem nextPart_f (a1 a2 a3 : Option Addr) (c1 c2 c3 n : Nat) (W N M : Nat → Int) (w : World) (h1 : Rd w a1 (tab W n)) (h2 : Rd w a2 (tab N n)) (h3 : Rd w a3 (tab M n))
    (hW : ∀ j, j < n → 0 ≤ W j ∧ W j ≤ 1000000000) (hN : ∀ j, j < n → 0 ≤ N j ∧ N j ≤ 5000) :
    Calls Try.prog 22 #[.slice a1 n c1, .slice a2 n c2, .slice a3 n c3] w (QuietInt (Sm.bst W N M n) w) := by
  have h := nextPart_c a1 a2 a3 c1 c2 c3 (tab W n) (tab N n) (tab M n) w h1 h2 h3 (by simp [tab_len]) (by simp [tab_len])
    (fun j hj => by rw [tab_len] at hj; rw [tab_at _ _ _ hj]; exact hW j hj) (fun j hj => by rw [tab_len] at hj; rw [tab_at _ _ _ hj]; exact hN j hj)
  simp only [tab_len] at h
  rw [bst_congr n (fun j hj => tab_at W n j hj) (fun j hj => tab_at N n j hj) (fun j hj => tab_at M n j hj)] at h
  exact h

/-- The two functions answer with an error alone. -/
def QuietFault (n : Int) (w : World) (e : Ending) (w' : World) : Prop := e = .returned (.tuple #[.slice none 0 0, .int .i64 n]) ∧ ∃ m, w' = w.drewN m
/-- They answer with a list. -/
def ListPost (l : List Int) (w : World) (e : Ending) (w' : World) : Prop := ∃ a c, e = .returned (.tuple #[.slice a l.length c, .int .i64 0]) ∧ Rd w' a l ∧ Below w.heap.size w w'
theorem QuietInt.at_ {n : Int} {w : World} {e : Ending} {w' : World} (h : QuietInt n w e w') : e = .returned (.int .i64 n) ∧ ∃ m, w' = w.drewN m := h

set_option maxHeartbeats 1000000 in
theorem Allocate_chk (a1 a2 a3 : Option Addr) (c1 c2 c3 n1 n2 n3 : Nat) (T f : Int) (w : World) (hf : f = 1 ∨ f = 2 ∨ f = 3)
    (hc : Calls Try.prog 19 #[.slice a1 n1 c1, .slice a2 n2 c2, .slice a3 n3 c3] w (QuietInt f w)) :
    Calls Try.prog 8 #[.slice a1 n1 c1, .slice a2 n2 c2, .slice a3 n3 c3, .int .i64 T] w (QuietFault f w) := by
  rcases hf with rfl | rfl | rfl
  all_goals
    have HC := Lib.hid hc
    clear hc
    go_enter Try.func8, Try.ntmps8
    go_wp2_with fail
    refine HC.out.mono ?_
    rintro e w' ⟨rfl, m, rfl⟩
    go_wp2
    go_ret2
    exact ⟨rfl, m, rfl⟩

set_option maxHeartbeats 1000000 in
theorem Allocate_few (a1 a2 a3 : Option Addr) (c1 c2 c3 : Nat) (l1 l2 l3 : List Int) (T : Int) (w : World) (h1 : Rd w a1 l1) (h2 : Rd w a2 l2) (h3 : Rd w a3 l3) (e2 : l1.length = l2.length) (e3 : l1.length = l3.length) (hn : l1.length ≤ 40)
    (hgood : ∀ j, j < l1.length → good (fn l1) (fn l2) (fn l3) j) (hs2 : Sums l2) (hT : T < Sm.pre (fn l2) l2.length) :
    Calls Try.prog 8 #[.slice a1 l1.length c1, .slice a2 l2.length c2, .slice a3 l3.length c3, .int .i64 T] w (QuietFault 1 w) := by
  have HC := Lib.hid (checkParts_ok a1 a2 a3 c1 c2 c3 l1 l2 l3 w h1 h2 h3 e2 e3 hn hgood)
  have H2 := Lib.hid h2
  have HS := Lib.hid hs2
  clear h1 h2 h3 e2 e3 hgood hs2
  go_enter Try.func8, Try.ntmps8
  go_wp2_with fail
  refine HC.out.mono ?_
  rintro e w' ⟨rfl, m, rfl⟩
  go_wp2_with fail
  refine (sumOf_c a2 c2 l2 _ (H2.out.drewN m) HS.out).mono ?_
  rintro e w' ⟨rfl, rfl⟩
  go_wp2
  go_ret2
  exact ⟨rfl, m, rfl⟩
set_option maxHeartbeats 1000000 in
theorem Allocate_many (a1 a2 a3 : Option Addr) (c1 c2 c3 : Nat) (l1 l2 l3 : List Int) (T : Int) (w : World) (h1 : Rd w a1 l1) (h2 : Rd w a2 l2) (h3 : Rd w a3 l3) (e2 : l1.length = l2.length) (e3 : l1.length = l3.length) (hn : l1.length ≤ 40)
    (hgood : ∀ j, j < l1.length → good (fn l1) (fn l2) (fn l3) j) (hs2 : Sums l2) (hs3 : Sums l3) (hT : Sm.pre (fn l2) l2.length ≤ T) (hT2 : Sm.pre (fn l3) l3.length < T) :
    Calls Try.prog 8 #[.slice a1 l1.length c1, .slice a2 l2.length c2, .slice a3 l3.length c3, .int .i64 T] w (QuietFault 15 w) := by
  have HC := Lib.hid (checkParts_ok a1 a2 a3 c1 c2 c3 l1 l2 l3 w h1 h2 h3 e2 e3 hn hgood)
  have H2 := Lib.hid h2
  have H3 := Lib.hid h3
  have HS := Lib.hid hs2
  have HS3 := Lib.hid hs3
  have d : decide (T < Sm.pre (fn l2) l2.length) = false := by simp; omega
  clear h1 h2 h3 e2 e3 hgood hs2 hs3
  go_enter Try.func8, Try.ntmps8
  go_wp2_with fail
  refine HC.out.mono ?_
  rintro e w' ⟨rfl, m, rfl⟩
  go_wp2_with fail
  refine (sumOf_c a2 c2 l2 _ (H2.out.drewN m) HS.out).mono ?_
  rintro e w' ⟨rfl, rfl⟩
  go_wp2_with fail
  refine (sumOf_c a3 c3 l3 _ (H3.out.drewN m) HS3.out).mono ?_
  rintro e w' ⟨rfl, rfl⟩
  go_wp2
  go_ret2
  exact ⟨rfl, m, rfl⟩

/-- The numbers of the call's own behind r rounds. -/
structure InA (w : World) (a : Option Addr) (n : Nat) (f : Nat → Int) (wr : World) : Prop where
  bel : Below w.heap.size w wr
  row : 0 < n → ∃ g, a = some ⟨g, 0, none⟩ ∧ w.heap.size ≤ g ∧ g < wr.heap.size ∧ RowF wr g n f
theorem InA.rd {w wr : World} {a : Option Addr} {n : Nat} {f : Nat → Int} (h : InA w a n f wr) (hn : n ≤ 5000) : Rd wr a (tab f n) := by
  by_cases h0 : n = 0
  · subst h0; exact rd_zero _ _ _
  · obtain ⟨g, rfl, _, h2, h3⟩ := h.row (by omega)
    exact h3.rd (by omega) h2
set_option maxHeartbeats 2000000 in
theorem Allocate_yes (a1 a2 a3 : Option Addr) (c1 c2 c3 : Nat) (l1 l2 l3 : List Int) (T : Int) (w : World) (h1 : Rd w a1 l1) (h2 : Rd w a2 l2) (h3 : Rd w a3 l3) (e2 : l1.length = l2.length) (e3 : l1.length = l3.length) (hn : l1.length ≤ 40)
    (hgood : ∀ j, j < l1.length → good (fn l1) (fn l2) (fn l3) j) (hs2 : Sums l2) (hs3 : Sums l3) (hT : Sm.pre (fn l2) l2.length ≤ T) (hT2 : T ≤ Sm.pre (fn l3) l3.length) :
    Calls Try.prog 8 #[.slice a1 l1.length c1, .slice a2 l2.length c2, .slice a3 l3.length c3, .int .i64 T] w (ListPost (tab (Sm.alc (fn l1) (fn l2) (fn l3) l1.length (T - Sm.pre (fn l2) l2.length).toNat) l1.length) w) := by
  have HC := Lib.hid (checkParts_ok a1 a2 a3 c1 c2 c3 l1 l2 l3 w h1 h2 h3 e2 e3 hn hgood)
  have H1 := Lib.hid h1
  have H2 := Lib.hid h2
  have H3 := Lib.hid h3
  have HS := Lib.hid hs2
  have HS3 := Lib.hid hs3
  have HG := Lib.hid hgood
  have E2 := Lib.hid e2
  have E3 := Lib.hid e3
  have S0 := hs2 l2.length (Nat.le_refl _)
  have S3 := hs3 l3.length (Nat.le_refl _)
  have d : decide (T < Sm.pre (fn l2) l2.length) = false := by simp; omega
  have d2 : decide (Sm.pre (fn l3) l3.length < T) = false := by simp; omega
  clear h1 h2 h3 e2 e3 hgood hs2 hs3
  go_enter Try.func8, Try.ntmps8
  go_wp2_with fail
  refine HC.out.mono ?_
  rintro e w' ⟨rfl, m, rfl⟩
  go_wp2_with fail
  refine (sumOf_c a2 c2 l2 _ (H2.out.drewN m) HS.out).mono ?_
  rintro e w' ⟨rfl, rfl⟩
  go_wp2_with fail
  refine (sumOf_c a3 c3 l3 _ (H3.out.drewN m) HS3.out).mono ?_
  rintro e w' ⟨rfl, rfl⟩
  go_wp2_with fail
  refine (clone_c a2 c2 l2 _ (H2.out.drewN m) (by rw [← E2.out]; omega)).mono ?_
  rintro e w1 ⟨a4, c4, rfl, hb, hrow⟩
  have HB : Hid (Below w.heap.size w w1) := (below_drew w m).trans hb
  have HR : Hid (0 < l1.length → ∃ g, a4 = some ⟨g, 0, none⟩ ∧ w.heap.size ≤ g ∧ g < w1.heap.size ∧ RowF w1 g l1.length (fn l2)) := fun h => by
    have h := hrow (by rw [← E2.out]; exact h)
    rw [← E2.out] at h
    exact h
  have R2 := Lib.hid (H2.out.below HB.out)
  clear hb hrow HC d d2
  go_wp2_with fail
  refine (sumOf_c a2 c2 l2 _ R2.out HS.out).mono ?_
  rintro e w' ⟨rfl, rfl⟩
  go_wp2_with fail
  generalize hS : Sm.pre (fn l2) l2.length = S at *
  have HSS := Lib.hid hS
  generalize hP : Sm.pre (fn l3) l3.length = P at *
  have HPP := Lib.hid hP
  clear hS hP
  rw [← E2.out, ← E3.out]
  go_loopw [33] (fun i wr => ∃ r : Nat, (r : Int) ≤ T - S ∧ i = .int .i64 r ∧ Hid (InA w a4 l1.length (Sm.alc (fn l1) (fn l2) (fn l3) l1.length r) wr)) (fun i _ => (T - S - intOf i).toNat)
  case atStart => exact ⟨0, by omega, rfl, HB.out, HR.out⟩
  case round =>
    obtain ⟨r, hr, rfl, hI⟩ := hrel
    by_cases hlt : (r : Int) < T - S
    · have hsum : Sm.pre (fn l2) l1.length + r < Sm.pre (fn l3) l1.length := by
        have e1 := HSS.out
        have e2 := HPP.out
        rw [← E2.out] at e1
        rw [← E3.out] at e2
        omega
      have hn0 : 0 < l1.length := by
        rcases Nat.eq_zero_or_pos l1.length with h | h
        · rw [h] at hsum; simp [Sm.pre] at hsum; omega
        · exact h
      obtain ⟨hfair, hpre⟩ := Sm.alc_ok (fn l1) (fn l2) (fn l3) l1.length (fun j hj => (HG.out j hj).1) (fun j hj => (HG.out j hj).2.2.1) (fun j hj => (HG.out j hj).2.2.2.1) r (by omega)
      have hbst := Sm.bst_there (W := fn l1) hfair.hi (by omega)
      have hlo := Sm.bst_lo (fn l1) (Sm.alc (fn l1) (fn l2) (fn l3) l1.length r) (fn l3) l1.length
      have hroom := Sm.bst_room (fn l1) (Sm.alc (fn l1) (fn l2) (fn l3) l1.length r) (fn l3) l1.length hbst
      have hNB : ∀ j, j < l1.length → 0 ≤ Sm.alc (fn l1) (fn l2) (fn l3) l1.length r j ∧ Sm.alc (fn l1) (fn l2) (fn l3) l1.length r j ≤ 5000 := fun j hj => by
        have a := HG.out j hj
        unfold good at a
        have b := hfair.lo j hj
        have c := hfair.hi j hj
        omega
      have hcall := nextPart_f a1 a4 a3 c1 c4 c3 l1.length (fn l1) (Sm.alc (fn l1) (fn l2) (fn l3) l1.length r) (fn l3) wr
        (by rw [tab_fn]; exact H1.out.below hI.out.bel) (hI.out.rd (by omega)) (by rw [E3.out, tab_fn]; exact H3.out.below hI.out.bel) (fun j hj => ⟨(HG.out j hj).1, (HG.out j hj).2.1⟩) hNB
      obtain ⟨jb, hjb⟩ : ∃ jb : Nat, Sm.bst (fn l1) (Sm.alc (fn l1) (fn l2) (fn l3) l1.length r) (fn l3) l1.length = (jb : Int) := ⟨_, (Int.toNat_of_nonneg hbst).symm⟩
      rw [hjb] at hcall
      have HCALL := Lib.hid hcall
      obtain ⟨g, rfl, g1, g2, hrow⟩ := hI.out.row hn0
      have hjl : jb < l1.length := by omega
      have q1 := (hrow jb hjl).1
      have q2 := (hrow jb hjl).2
      have b1 := hNB jb hjl
      have hN : Hid (∀ m, InA w (some ⟨g, 0, none⟩) l1.length (Sm.alc (fn l1) (fn l2) (fn l3) l1.length (r + 1)) ((wr.drewN m).setCell ⟨g, jb, none⟩ (.int .i64 (Sm.alc (fn l1) (fn l2) (fn l3) l1.length r jb + 1)))) := fun m =>
        ⟨(below_drewN hI.out.bel m).setCell (p := ⟨g, jb, none⟩) g1 _, fun _ => ⟨g, rfl, g1, by simpa using g2, ((hrow.drewN m).set jb _).congr fun j hj => by show _ = ite _ _ _; rw [hjb]; simp⟩⟩
      generalize Sm.alc (fn l1) (fn l2) (fn l3) l1.length r jb = p at q1 b1 hN
      clear hcall hI hrow hfair hpre hbst hlo hroom hNB hjb hsum HR HB H1 H2 H3 R2 HG
      have hjl' : (jb : Int) < (l1.length : Int) := by omega
      go_wp2_with fail
      refine HCALL.out.mono ?_
      rintro e w' ⟨rfl, m, rfl⟩
      go_wp2
      go_roundw
      case rel => exact ⟨r + 1, by omega, by go_num, hN.out m⟩
      case measure => simp [intOf]; omega
    · have hd : decide ((r : Int) < T - S) = false := by simp; omega
      go_wp2
      go_ret2
      refine ⟨a4, c4, ?_, ?_, hI.out.bel⟩
      · rw [tab_len]; rfl
      · have h := hI.out.rd (by omega)
        rw [show (T - S).toNat = r by omega]
        exact h
end Go.Proofs.Ytaiiobojlipbeaa
