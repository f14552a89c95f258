/-
  The law of the rules: Redundant and Clash answer as their reference.
-/
import Derived.Test.YtadfmplafehjlaaDoorER19
namespace Go.Proofs.YtadfmplafehjlaaDoor
open Go.RowKit Go.WideMaps Go.Maps Go.Shelf

open Classical in
noncomputable def ruL (l : List Fd) (E : List Ed) : List Int := if planS l E ≠ 0 then [] else rdL l E
open Classical in
noncomputable def clT (l : List Fd) (E : List Ed) : List Int := if planS l E = 0 ∧ 0 ∉ gpL l E then clL l E else []
open Classical in
noncomputable def clB (l : List Fd) (E : List Ed) : Bool := decide (planS l E = 0 ∧ 0 ∉ gpL l E)
def RuP (L : List Int) (f : Int) (w : World) (e : Ending) (w' : World) : Prop := ∃ a c, e = .returned (.tuple #[.slice a L.length c, .int .i64 f]) ∧ Rd w' a L ∧ Below w.heap.size w w'
def CuP (L : List Int) (b : Bool) (f : Int) (w : World) (e : Ending) (w' : World) : Prop := ∃ a c, e = .returned (.tuple #[.slice a L.length c, .bool b, .int .i64 f]) ∧ Rd w' a L ∧ Below w.heap.size w w'
theorem ru_res {l : List Fd} {E : List Ed} {w : World} {e : Ending} {w' : World} (h : RedP l E w e w') : RuP (ruL l E) (planS l E) w e w' := by
  obtain ⟨hb, ⟨h0, he⟩ | ⟨h0, a, c, he, hr⟩⟩ := h
  · refine ⟨none, 0, ?_, ?_, hb⟩
    · unfold ruL; rw [if_pos h0]; exact he
    · unfold ruL; rw [if_pos h0]; exact ⟨by simp, fun h => by simp at h⟩
  · have e1 : ruL l E = rdL l E := by unfold ruL; rw [if_neg (by simpa using h0)]
    refine ⟨a, c, ?_, ?_, hb⟩
    · rw [e1, h0]; exact he
    · rw [e1]; exact hr
theorem cu_res {l : List Fd} {E : List Ed} {w : World} {e : Ending} {w' : World} (h : ClaP l E w e w') : CuP (clT l E) (clB l E) (planS l E) w e w' := by
  obtain ⟨hb, ⟨h0, he⟩ | ⟨h0, ⟨hg, he⟩ | ⟨hg, a, c, he, hr⟩⟩⟩ := h
  · refine ⟨none, 0, ?_, ?_, hb⟩
    · unfold clT clB; rw [if_neg (fun h => h0 h.1), decide_eq_false (fun h => h0 h.1)]; exact he
    · unfold clT; rw [if_neg (fun h => h0 h.1)]; exact ⟨by simp, fun h => by simp at h⟩
  · refine ⟨none, 0, ?_, ?_, hb⟩
    · unfold clT clB; rw [if_neg (fun h => h.2 hg), decide_eq_false (fun h => h.2 hg), h0]; exact he
    · unfold clT; rw [if_neg (fun h => h.2 hg)]; exact ⟨by simp, fun h => by simp at h⟩
  · refine ⟨a, c, ?_, ?_, hb⟩
    · unfold clT clB; rw [if_pos ⟨h0, hg⟩, decide_eq_true ⟨h0, hg⟩, h0]; exact he
    · unfold clT; rw [if_pos ⟨h0, hg⟩]; exact hr
set_option maxRecDepth 100000 in
set_option maxHeartbeats 8000000 in
theorem law_rules (a : Option Addr) (c : Nat) (l : List Fd) (a2 : Option Addr) (c2 : Nat) (E : List Ed) (w : World) (hl : RdF w a l) (hE : RdE w a2 E) (hst : ∀ u, u ∈ l → u.nm.size ≤ 9223372036854775807) (hst2 : ∀ u, u ∈ E → u.nm.size ≤ 9223372036854775807)
    (hT : TabAt 0 Lib.deBruijn64tab w) (ht : 0 < w.heap.size) (hEnv : Env w) (hc1 : l.length ≤ c) (hc2 : E.length ≤ c2) :
    Calls Tryd.prog 5 #[.agg #[.slice a l.length c, .slice a2 E.length c2]] w fun e w' => e = .returned (.bool true) ∧ Below w.heap.size w w' := by
  obtain ⟨z, hzz⟩ : ∃ z, w.heap.size = z := ⟨_, rfl⟩
  obtain ⟨W1, hW1⟩ : ∃ W, w.alloc (.cells #[.slice a l.length c, .slice a2 E.length c2] 25) = W := ⟨_, rfl⟩
  have b1 : Below w.heap.size w W1 := by rw [← hW1]; exact bel_one _ _
  have x0 : W1.cell? ⟨z, 0, none⟩ = some (.slice a l.length c) := by rw [← hW1, ← hzz, World.cell?_alloc_new]; rfl
  have x1 : W1.cell? ⟨z, 1, none⟩ = some (.slice a2 E.length c2) := by rw [← hW1, ← hzz, World.cell?_alloc_new]; rfl
  have X : Hid (∀ V, Below W1.heap.size W1 V → V.cell? ⟨z, 0, none⟩ = some (.slice a l.length c) ∧ V.cell? ⟨z, 1, none⟩ = some (.slice a2 E.length c2)) := fun V hV =>
    ⟨(hV.cell (p := ⟨z, 0, none⟩) (cellLt x0)).trans x0, (hV.cell (p := ⟨z, 1, none⟩) (cellLt x1)).trans x1⟩
  have lw : ∀ V, Below W1.heap.size W1 V → Below w.heap.size w V := fun V hV => b1.trans (hV.mono b1.size)
  have C1 : Hid (∀ V, Below W1.heap.size W1 V → Calls Tryd.prog 18 #[.agg #[.slice a l.length c, .slice a2 E.length c2]] V (RuP (ruL l E) (planS l E) V)) := fun V hV =>
    (Redundant_c a c l a2 c2 E V (hl.below (lw V hV)) (hE.below (lw V hV)) hst hst2 (tab_below hT ht (lw V hV)) (Nat.lt_of_lt_of_le ht (lw V hV).size)).mono fun e w' h => ru_res h
  have C2 : Hid (∀ V, Below W1.heap.size W1 V → Calls Tryd.prog 19 #[.agg #[.slice a l.length c, .slice a2 E.length c2]] V (RuP (ruL l E) (planS l E) V)) := fun V hV =>
    (rRedundant_c a c l a2 c2 E V (hl.below (lw V hV)) (hE.below (lw V hV)) (hEnv.below (lw V hV)) hc1 hc2).mono fun e w' h => ru_res h
  have C3 : Hid (∀ V, Below W1.heap.size W1 V → Calls Tryd.prog 20 #[.agg #[.slice a l.length c, .slice a2 E.length c2]] V (CuP (clT l E) (clB l E) (planS l E) V)) := fun V hV =>
    (Clash_c a c l a2 c2 E V (hl.below (lw V hV)) (hE.below (lw V hV)) hst hst2 (tab_below hT ht (lw V hV)) (Nat.lt_of_lt_of_le ht (lw V hV).size)).mono fun e w' h => cu_res h
  have C4 : Hid (∀ V, Below W1.heap.size W1 V → Calls Tryd.prog 21 #[.agg #[.slice a l.length c, .slice a2 E.length c2]] V (CuP (clT l E) (clB l E) (planS l E) V)) := fun V hV =>
    (rClash_c a c l a2 c2 E V (hl.below (lw V hV)) (hE.below (lw V hV)) (hEnv.below (lw V hV)) hc1 hc2).mono fun e w' h => cu_res h
  obtain ⟨FL, hFL⟩ : ∃ L, ruL l E = L := ⟨_, rfl⟩
  obtain ⟨GL, hGL⟩ : ∃ L, clT l E = L := ⟨_, rfl⟩
  obtain ⟨fs, hfs⟩ : ∃ L, planS l E = L := ⟨_, rfl⟩
  obtain ⟨cb, hcb⟩ : ∃ L, clB l E = L := ⟨_, rfl⟩
  rw [hFL, hfs] at C1 C2
  rw [hGL, hcb, hfs] at C3 C4
  obtain ⟨n, hn⟩ : ∃ n, l.length = n := ⟨_, rfl⟩
  obtain ⟨m, hm⟩ : ∃ n, E.length = n := ⟨_, rfl⟩
  obtain ⟨fl, hfl⟩ : ∃ n, FL.length = n := ⟨_, rfl⟩
  obtain ⟨gl, hgl⟩ : ∃ n, GL.length = n := ⟨_, rfl⟩
  have CE1 : Hid (∀ a1 c1 a2 c2 V, Rd V a1 FL → Rd V a2 FL → Calls Tryd.prog 10 #[.slice a1 fl c1, .slice a2 fl c2] V fun e w' => e = .returned (.bool true) ∧ Below V.heap.size V w') := fun a1 c1 a2 c2 V h1 h2 => by rw [← hfl]; exact equalI_c a1 a2 c1 c2 FL V h1 h2
  have CE2 : Hid (∀ a1 c1 a2 c2 V, Rd V a1 GL → Rd V a2 GL → Calls Tryd.prog 10 #[.slice a1 gl c1, .slice a2 gl c2] V fun e w' => e = .returned (.bool true) ∧ Below V.heap.size V w') := fun a1 c1 a2 c2 V h1 h2 => by rw [← hgl]; exact equalI_c a1 a2 c1 c2 GL V h1 h2
  rw [hn] at C1 C2 C3 C4 x0 X hW1
  rw [hm] at C1 C2 C3 C4 x1 X hW1
  unfold RuP at C1 C2
  unfold CuP at C3 C4
  rw [hfl] at C1 C2
  rw [hgl] at C3 C4
  rw [hn, hm]
  have LW := Lib.hid lw
  clear hl hE hst hst2 hT hEnv hc1 hc2 b1 lw hFL hfs hn hm hfl hGL hcb hgl
  go_enter Tryd.func5, Tryd.ntmps5
  go_wp2_with fail
  clear hW1 x0 x1
  refine (C1.out W1 (Below.refl _ _)).mono ?_
  rintro e1 w2 ⟨p1, k1, rfl, r1, b2⟩
  have S2 := Lib.hid b2
  have R1 := Lib.hid r1
  clear r1 b2 C1
  obtain ⟨v0, v1⟩ := X.out w2 S2.out
  go_wp2_with fail
  clear v0 v1
  refine (C2.out w2 S2.out).mono ?_
  rintro e1 w3 ⟨p2, k2, rfl, r2, b3⟩
  have S3 : Hid (Below W1.heap.size W1 w3) := S2.out.trans (b3.mono S2.out.size)
  have CQ := Lib.hid (CE1.out p1 k1 p2 k2 w3 (R1.out.below b3) r2)
  clear r2 b3 R1 CE1 C2
  have f1 : (fs != fs) = false := by simp
  have f2 : (fs == fs) = true := by simp
  go_wp2_with fail
  refine CQ.out.mono ?_
  rintro e1 w4 ⟨rfl, b4⟩
  have S4 : Hid (Below W1.heap.size W1 w4) := S3.out.trans (b4.mono S3.out.size)
  clear CQ b4
  obtain ⟨v0, v1⟩ := X.out w4 S4.out
  go_wp2_with fail
  clear v0 v1
  refine (C3.out w4 S4.out).mono ?_
  rintro e1 w5 ⟨p3, k3, rfl, r3, b5⟩
  have S5 : Hid (Below W1.heap.size W1 w5) := S4.out.trans (b5.mono S4.out.size)
  have R3 := Lib.hid r3
  clear r3 b5 C3
  obtain ⟨v0, v1⟩ := X.out w5 S5.out
  go_wp2_with fail
  clear v0 v1
  refine (C4.out w5 S5.out).mono ?_
  rintro e1 w6 ⟨p4, k4, rfl, r4, b6⟩
  have S6 : Hid (Below W1.heap.size W1 w6) := S5.out.trans (b6.mono S5.out.size)
  have CR := Lib.hid (CE2.out p3 k3 p4 k4 w6 (R3.out.below b6) r4)
  clear r4 b6 R3 CE2 C4
  have f3 : (cb == cb) = true := by simp
  go_wp2_with fail
  refine CR.out.mono ?_
  rintro e1 w7 ⟨rfl, b7⟩
  have S7 : Hid (Below W1.heap.size W1 w7) := S6.out.trans (b7.mono S6.out.size)
  clear CR b7
  go_wp2
  go_ret
  exact ⟨rfl, LW.out w7 S7.out⟩
end Go.Proofs.YtadfmplafehjlaaDoor
