/-
  The law ValueRatiosMatchSpec, walked.
-/
import Derived.Test.YtdkphfafcmogmaaGreatDoorMr21
import Derived.Test.YtdkphfafcmogmaaGreatDoorMrRnProd
import Derived.Test.YtdkphfafcmogmaaGreatDoorMrRnSum
import Derived.Test.YtdkphfafcmogmaaGreatDoorMrRnOrd
namespace Go.Proofs.YtdkphfafcmogmaaGreatDoor
open Go.RowKit

abbrev Rp := ByteArray × ByteArray
abbrev pv (a : Rp) : Value := .agg #[.string a.1, .string a.2]
/-- The boxes of the law. -/
structure Lw (w : World) (a1 a2 b1 b2 : ByteArray) (g h : Nat) (x0 x1 y0 y1 : ByteArray) (W : World) : Prop where
  a : B2 W w.heap.size (.string a1) (.string a2)
  b : B2 W (w.heap.size + 1) (.string b1) (.string b2)
  r : B2 W g (.string x0) (.string x1)
  s : B2 W h (.string y0) (.string y1)
  lg : w.heap.size + 1 < g
  gh : g < h
  bel : Below w.heap.size w W
theorem Lw.keep {w : World} {a1 a2 b1 b2 : ByteArray} {g h : Nat} {x0 x1 y0 y1 : ByteArray} {W W' : World} (l : Lw w a1 a2 b1 b2 g h x0 x1 y0 y1 W) (hb : Below W.heap.size W W') : Lw w a1 a2 b1 b2 g h x0 x1 y0 y1 W' :=
  ⟨l.a.keep hb, l.b.keep hb, l.r.keep hb, l.s.keep hb, l.lg, l.gh, l.bel.trans (hb.mono l.bel.size)⟩
theorem Lw.setr {w : World} {a1 a2 b1 b2 : ByteArray} {g h : Nat} {x0 x1 y0 y1 : ByteArray} {W : World} (l : Lw w a1 a2 b1 b2 g h x0 x1 y0 y1 W) (z0 z1 : ByteArray) : Lw w a1 a2 b1 b2 g h z0 z1 y0 y1 (two W g (.string z0) (.string z1)) :=
  have h1 := l.lg; have h2 := l.gh
  ⟨l.a.other (by omega) _ _, l.b.other (by omega) _ _, l.r.set _ _, l.s.other (by omega) _ _, h1, h2, below_two l.bel (by omega) _ _⟩
theorem Lw.sets {w : World} {a1 a2 b1 b2 : ByteArray} {g h : Nat} {x0 x1 y0 y1 : ByteArray} {W : World} (l : Lw w a1 a2 b1 b2 g h x0 x1 y0 y1 W) (z0 z1 : ByteArray) : Lw w a1 a2 b1 b2 g h x0 x1 z0 z1 (two W h (.string z0) (.string z1)) :=
  have h1 := l.lg; have h2 := l.gh
  ⟨l.a.other (by omega) _ _, l.b.other (by omega) _ _, l.r.other (by omega) _ _, l.s.set _ _, h1, h2, below_two l.bel (by omega) _ _⟩
/-- What region 3 reads. -/
def S6 (u g h : Nat) (a1 a2 x0 x1 y0 y1 : ByteArray) (W : World) : Prop :=
  W.cell? ⟨u, 0, none⟩ = some (.string a1) ∧ W.cell? ⟨u, 1, none⟩ = some (.string a2) ∧ W.cell? ⟨g, 0, none⟩ = some (.string x0) ∧ W.cell? ⟨g, 1, none⟩ = some (.string x1) ∧ W.cell? ⟨h, 0, none⟩ = some (.string y0) ∧ W.cell? ⟨h, 1, none⟩ = some (.string y1)
theorem Lw.s6 {w : World} {a1 a2 b1 b2 : ByteArray} {g h : Nat} {x0 x1 y0 y1 : ByteArray} {W : World} (l : Lw w a1 a2 b1 b2 g h x0 x1 y0 y1 W) : S6 w.heap.size g h a1 a2 x0 x1 y0 y1 W := ⟨l.a.c0, l.a.c1, l.r.c0, l.r.c1, l.s.c0, l.s.c1⟩
set_option maxRecDepth 100000 in
set_option maxHeartbeats 4000000 in
theorem law_ratios (a1 a2 b1 b2 : ByteArray) (n d : Int) (w : World) (n0 : -9223372036854775808 ≤ n) (n1 : n ≤ 9223372036854775807) (d0 : -9223372036854775808 ≤ d) (d1 : d ≤ 9223372036854775807) (hE : Pow w) :
    Calls Tryz.prog 3 #[.agg #[.string a1, .string a2], .agg #[.string b1, .string b2], .int .i64 n, .int .i64 d] w fun e w' => e = .returned (.bool true) ∧ Below w.heap.size w w' := by
  obtain ⟨ro, hro⟩ : ∃ r, roS n d = r := ⟨_, rfl⟩
  obtain ⟨ckv, hck⟩ : ∃ r, ck a1.data.toList a2.data.toList = r := ⟨_, rfl⟩
  obtain ⟨su, hsu⟩ : ∃ r, opS fSum a1.data.toList a2.data.toList b1.data.toList b2.data.toList = r := ⟨_, rfl⟩
  obtain ⟨mu, hmu⟩ : ∃ r, opS fMul a1.data.toList a2.data.toList b1.data.toList b2.data.toList = r := ⟨_, rfl⟩
  obtain ⟨iv, hiv⟩ : ∃ r, ivS a1.data.toList a2.data.toList = r := ⟨_, rfl⟩
  obtain ⟨orr, hor⟩ : ∃ r, orS a1.data.toList a2.data.toList b1.data.toList b2.data.toList = r := ⟨_, rfl⟩
  have K1 := fun W => RatioOf_c n d W n0 n1 d0 d1
  have K2 := fun W (h : Below w.heap.size w W) => rRatioOf_c n d W n0 n1 d0 d1 (hE.below h)
  have K3 := fun W => CheckRatio_c a1 a2 W
  have K4 := fun W (h : Below w.heap.size w W) => rCheckRatio_c a1 a2 W (hE.below h)
  have K5 := fun W => Sum_c a1 a2 b1 b2 W
  have K6 := fun W (h : Below w.heap.size w W) => rSum_c a1 a2 b1 b2 W (hE.below h)
  have K7 := fun W => Product_c a1 a2 b1 b2 W
  have K8 := fun W (h : Below w.heap.size w W) => rProduct_c a1 a2 b1 b2 W (hE.below h)
  have K9 := fun W => Inverse_c a1 a2 W
  have K10 := fun W (h : Below w.heap.size w W) => rInverse_c a1 a2 W (hE.below h)
  have K11 := fun W => Order_c a1 a2 b1 b2 W
  have K12 := fun W (h : Below w.heap.size w W) => rOrder_c a1 a2 b1 b2 W (hE.below h)
  unfold CkPost at K3 K4
  unfold OrPost at K12
  unfold OpPost at K1 K2 K5 K6 K7 K8 K9 K10
  rw [hro] at K1 K2
  rw [hck] at K3 K4
  rw [hsu] at K5 K6
  rw [hmu] at K7 K8
  rw [hiv] at K9 K10
  rw [hor] at K11 K12
  clear hro hck hsu hmu hiv hor n0 n1 d0 d1 hE
  obtain ⟨o1, o2, f1⟩ := ro
  obtain ⟨p1, p2, f2⟩ := su
  obtain ⟨q1, q2, f3⟩ := mu
  obtain ⟨i1, i2, f4⟩ := iv
  obtain ⟨z, f5⟩ := orr
  have C1 : Hid (∀ W, Calls Tryz.prog 5 #[.int .i64 n, .int .i64 d] W fun e w' => e = .returned (.tuple #[.agg #[.string o1, .string o2], .int .i64 f1]) ∧ Below W.heap.size W w') := K1
  have C2 : Hid (∀ W, Below w.heap.size w W → Calls Tryz.prog 6 #[.int .i64 n, .int .i64 d] W fun e w' => e = .returned (.tuple #[.agg #[.string o1, .string o2], .int .i64 f1]) ∧ Below W.heap.size W w') := K2
  have C3 : Hid (∀ W, Calls Tryz.prog 7 #[.agg #[.string a1, .string a2]] W fun e w' => e = .returned (.int .i64 ckv) ∧ Below W.heap.size W w') := K3
  have C4 : Hid (∀ W, Below w.heap.size w W → Calls Tryz.prog 8 #[.agg #[.string a1, .string a2]] W fun e w' => e = .returned (.int .i64 ckv) ∧ Below W.heap.size W w') := K4
  have C5 : Hid (∀ W, Calls Tryz.prog 9 #[.agg #[.string a1, .string a2], .agg #[.string b1, .string b2]] W fun e w' => e = .returned (.tuple #[.agg #[.string p1, .string p2], .int .i64 f2]) ∧ Below W.heap.size W w') := K5
  have C6 : Hid (∀ W, Below w.heap.size w W → Calls Tryz.prog 10 #[.agg #[.string a1, .string a2], .agg #[.string b1, .string b2]] W fun e w' => e = .returned (.tuple #[.agg #[.string p1, .string p2], .int .i64 f2]) ∧ Below W.heap.size W w') := K6
  have C7 : Hid (∀ W, Calls Tryz.prog 11 #[.agg #[.string a1, .string a2], .agg #[.string b1, .string b2]] W fun e w' => e = .returned (.tuple #[.agg #[.string q1, .string q2], .int .i64 f3]) ∧ Below W.heap.size W w') := K7
  have C8 : Hid (∀ W, Below w.heap.size w W → Calls Tryz.prog 12 #[.agg #[.string a1, .string a2], .agg #[.string b1, .string b2]] W fun e w' => e = .returned (.tuple #[.agg #[.string q1, .string q2], .int .i64 f3]) ∧ Below W.heap.size W w') := K8
  have C9 : Hid (∀ W, Calls Tryz.prog 13 #[.agg #[.string a1, .string a2]] W fun e w' => e = .returned (.tuple #[.agg #[.string i1, .string i2], .int .i64 f4]) ∧ Below W.heap.size W w') := K9
  have C10 : Hid (∀ W, Below w.heap.size w W → Calls Tryz.prog 14 #[.agg #[.string a1, .string a2]] W fun e w' => e = .returned (.tuple #[.agg #[.string i1, .string i2], .int .i64 f4]) ∧ Below W.heap.size W w') := K10
  have C11 : Hid (∀ W, Calls Tryz.prog 15 #[.agg #[.string a1, .string a2], .agg #[.string b1, .string b2]] W fun e w' => e = .returned (.tuple #[.int .i64 z, .int .i64 f5]) ∧ Below W.heap.size W w') := K11
  have C12 : Hid (∀ W, Below w.heap.size w W → Calls Tryz.prog 16 #[.agg #[.string a1, .string a2], .agg #[.string b1, .string b2]] W fun e w' => e = .returned (.tuple #[.int .i64 z, .int .i64 f5]) ∧ Below W.heap.size W w') := K12
  clear K1 K2 K3 K4 K5 K6 K7 K8 K9 K10 K11 K12
  obtain ⟨W0, hW0⟩ : ∃ W, (w.alloc (.cells #[.string a1, .string a2] 23)).alloc (.cells #[.string b1, .string b2] 23) = W := ⟨_, rfl⟩
  have J0 : Hid (Two w a1 a2 b1 b2 W0) := by rw [← hW0]; exact Two.made _ _ _ _ _ _ _
  go_enter Tryz.func3, Tryz.ntmps3
  go_wp2_with fail
  clear hW0
  (with_reducible refine (C1.out _).mono ?_)
  rintro e w1 ⟨rfl, b1'⟩
  have J1 := J0.out.keep b1'
  obtain ⟨WA, hWA⟩ : ∃ W, w1.alloc (.cells #[.string ⟨#[]⟩, .string ⟨#[]⟩] 23) = W := ⟨_, rfl⟩
  have D1 : B2 WA w1.heap.size (.string ⟨#[]⟩) (.string ⟨#[]⟩) := by rw [← hWA]; exact B2.made _ _ _ _
  obtain ⟨WB, hWB⟩ : ∃ W, two WA w1.heap.size (.string o1) (.string o2) = W := ⟨_, rfl⟩
  have hb : Below w1.heap.size w1 WB := by rw [← hWB]; exact below_two (by rw [← hWA]; exact bel_one _ _) (Nat.le_refl _) _ _
  have J2 := Lib.hid (J1.keep hb)
  have LG : Hid (w.heap.size + 1 < w1.heap.size) := J1.lo
  have R2 : Hid (B2 WB w1.heap.size (.string o1) (.string o2)) := by rw [← hWB]; exact D1.set _ _
  have a0 := D1.c0
  have a1' := D1.c1
  have af0 := D1.fr 0
  have af1 := D1.fr 1
  unfold two at hWB
  clear D1 hb b1' J1 J0
  go_wp2_with fail
  clear hWA hWB a0 a1' af0 af1
  generalize w1.heap.size = g at *
  (with_reducible refine (C2.out _ J2.out.bel).mono ?_)
  rintro e w2 ⟨rfl, b2'⟩
  have J3 := J2.out.keep b2'
  have R3 := R2.out.keep b2'
  obtain ⟨WA, hWA⟩ : ∃ W, w2.alloc (.cells #[.string ⟨#[]⟩, .string ⟨#[]⟩] 23) = W := ⟨_, rfl⟩
  have D1 : B2 WA w2.heap.size (.string ⟨#[]⟩) (.string ⟨#[]⟩) := by rw [← hWA]; exact B2.made _ _ _ _
  obtain ⟨WB2, hWB⟩ : ∃ W, two WA w2.heap.size (.string o1) (.string o2) = W := ⟨_, rfl⟩
  have hb : Below w2.heap.size w2 WB2 := by rw [← hWB]; exact below_two (by rw [← hWA]; exact bel_one _ _) (Nat.le_refl _) _ _
  have J4 := J3.keep hb
  have S4 : B2 WB2 w2.heap.size (.string o1) (.string o2) := by rw [← hWB]; exact D1.set _ _
  have L0 : Hid (Lw w a1 a2 b1 b2 g w2.heap.size o1 o2 o1 o2 WB2) := ⟨J4.x, J4.y, R3.keep hb, S4, LG.out, R3.lt, J4.bel⟩
  have a0 := D1.c0
  have a1' := D1.c1
  have af0 := D1.fr 0
  have af1 := D1.fr 1
  unfold two at hWB
  clear D1 hb b2' J3 J4 R3 S4 J2 R2 LG
  go_wp2_with fail
  clear hWA hWB a0 a1' af0 af1
  generalize w2.heap.size = h at *
  refine wp_region_noPanic ?_
  refine wp_region_held_drew (S := S6 w.heap.size g h a1 a2 o1 o2 o1 o2) (by kernel_rfl) (L0.out.keep (Below.refl _ _).drew).s6 (fun hS => ?_)
  have L1 := Lib.hid (L0.out.keep (Below.refl _ _).drew)
  clear L0
  refine wpAnyH_take (i := 0) (v := ?v0z29) rfl (by kernel_rfl) (by kernel_rfl) (by kernel_rfl) (fun _ _ _ h => h) (Or.inl ⟨by rfl, ?hy0z29⟩) (by assumption) ?rest0z29
  case hy0z29 =>
    intro w hSw
    dsimp only [S6] at hSw
    go_simp
    try with_reducible rfl
  simp only [Act.put, List.getElem_toArray, List.getElem_cons_succ, List.getElem_cons_zero, List.setIfInBounds_toArray, List.set_cons_zero, List.set_cons_succ]
  refine wpAnyH_take (i := 1) (v := ?v1z30) rfl (by kernel_rfl) (by kernel_rfl) (by kernel_rfl) (fun _ _ _ h => h) (Or.inl ⟨by rfl, ?hy1z30⟩) (by assumption) ?rest1z30
  case hy1z30 =>
    intro w hSw
    dsimp only [S6] at hSw
    go_simp
    try with_reducible rfl
  simp only [Act.put, List.getElem_toArray, List.getElem_cons_succ, List.getElem_cons_zero, List.setIfInBounds_toArray, List.set_cons_zero, List.set_cons_succ]
  refine wpAnyH_take (i := 2) (v := ?v2z31) rfl (by kernel_rfl) (by kernel_rfl) (by kernel_rfl) (fun _ _ _ h => h) (Or.inl ⟨by rfl, ?hy2z31⟩) (by assumption) ?rest2z31
  case hy2z31 =>
    intro w hSw
    dsimp only [S6] at hSw
    go_simp
    try with_reducible rfl
  simp only [Act.put, List.getElem_toArray, List.getElem_cons_succ, List.getElem_cons_zero, List.setIfInBounds_toArray, List.set_cons_zero, List.set_cons_succ]
  refine wpAnyH_take (i := 3) (v := ?v3z32) rfl (by kernel_rfl) (by kernel_rfl) (by kernel_rfl) (fun _ _ _ h => h) (Or.inl ⟨by rfl, ?hy3z32⟩) (by assumption) ?rest3z32
  case hy3z32 =>
    intro w hSw
    dsimp only [S6] at hSw
    go_simp
    try with_reducible rfl
  simp only [Act.put, List.getElem_toArray, List.getElem_cons_succ, List.getElem_cons_zero, List.setIfInBounds_toArray, List.set_cons_zero, List.set_cons_succ]
  refine wpAnyH_take (i := 4) (v := ?v4z33) rfl (by kernel_rfl) (by kernel_rfl) (by kernel_rfl) (fun _ _ _ h => h) (Or.inl ⟨by rfl, ?hy4z33⟩) (by assumption) ?rest4z33
  case hy4z33 =>
    intro w hSw
    dsimp only [S6] at hSw
    go_simp
    try with_reducible rfl
  simp only [Act.put, List.getElem_toArray, List.getElem_cons_succ, List.getElem_cons_zero, List.setIfInBounds_toArray, List.set_cons_zero, List.set_cons_succ]
  refine wpAnyH_take (i := 5) (v := ?v5z34) rfl (by kernel_rfl) (by kernel_rfl) (by kernel_rfl) (fun _ _ _ h => h) (Or.inl ⟨by rfl, ?hy5z34⟩) (by assumption) ?rest5z34
  case hy5z34 =>
    intro w hSw
    dsimp only [S6] at hSw
    go_simp
    try with_reducible rfl
  simp only [Act.put, List.getElem_toArray, List.getElem_cons_succ, List.getElem_cons_zero, List.setIfInBounds_toArray, List.set_cons_zero, List.set_cons_succ]
  refine wpAnyH_take (i := 6) (v := ?v6z35) rfl (by kernel_rfl) (by kernel_rfl) (by kernel_rfl) (fun _ _ _ h => h) (Or.inl ⟨by rfl, ?hy6z35⟩) (by assumption) ?rest6z35
  case hy6z35 =>
    intro w hSw
    dsimp only [S6] at hSw
    go_simp
    try with_reducible rfl
  simp only [Act.put, List.getElem_toArray, List.getElem_cons_succ, List.getElem_cons_zero, List.setIfInBounds_toArray, List.set_cons_zero, List.set_cons_succ]
  refine wpAnyH_take (i := 7) (v := ?v7z36) rfl (by kernel_rfl) (by kernel_rfl) (by kernel_rfl) (fun _ _ _ h => h) (Or.inl ⟨by rfl, ?hy7z36⟩) (by assumption) ?rest7z36
  case hy7z36 =>
    intro w hSw
    dsimp only [S6] at hSw
    go_simp
    try with_reducible rfl
  simp only [Act.put, List.getElem_toArray, List.getElem_cons_succ, List.getElem_cons_zero, List.setIfInBounds_toArray, List.set_cons_zero, List.set_cons_succ]
  refine wpAnyH_take (i := 8) (v := ?v8z37) rfl (by kernel_rfl) (by kernel_rfl) (by kernel_rfl) (fun _ _ _ h => h) (Or.inl ⟨by rfl, ?hy8z37⟩) (by assumption) ?rest8z37
  case hy8z37 =>
    intro w hSw
    dsimp only [S6] at hSw
    go_simp
    try with_reducible rfl
  simp only [Act.put, List.getElem_toArray, List.getElem_cons_succ, List.getElem_cons_zero, List.setIfInBounds_toArray, List.set_cons_zero, List.set_cons_succ]
  refine wpAnyH_take (i := 9) (v := ?v9z38) rfl (by kernel_rfl) (by kernel_rfl) (by kernel_rfl) (fun _ _ _ h => h) (Or.inl ⟨by rfl, ?hy9z38⟩) (by assumption) ?rest9z38
  case hy9z38 =>
    intro w hSw
    dsimp only [S6] at hSw
    go_simp
    try with_reducible rfl
  simp only [Act.put, List.getElem_toArray, List.getElem_cons_succ, List.getElem_cons_zero, List.setIfInBounds_toArray, List.set_cons_zero, List.set_cons_succ]
  refine wpAnyH_take (i := 11) (v := ?v11z39) rfl (by kernel_rfl) (by kernel_rfl) (by kernel_rfl) (fun _ _ _ h => h) (Or.inl ⟨by rfl, ?hy11z39⟩) (by assumption) ?rest11z39
  case hy11z39 =>
    intro w hSw
    dsimp only [S6] at hSw
    go_simp
    try with_reducible rfl
  simp only [Act.put, List.getElem_toArray, List.getElem_cons_succ, List.getElem_cons_zero, List.setIfInBounds_toArray, List.set_cons_zero, List.set_cons_succ]
  refine wpAnyH_ready (rs := [10]) (by kernel_rfl) (by simp) ?_
  refine AllReadyH.cons rfl (fun K hK => ?_) AllReadyH.nil
  go_simp
  (refine (C3.out _).mono ?_)
  rintro e V1 ⟨rfl, bc⟩
  try go_simp
  have L2 := Lib.hid (L1.out.keep bc)
  have hT := L2.out.s6
  refine hK.out _ _ hT (fun _ => ?_)
  clear hK K hS bc L1
  have hS := hT
  clear hT
  try simp only [Act.put, List.setIfInBounds_toArray, List.set_cons_zero, List.set_cons_succ]
  refine wpAnyH_ready (rs := [12]) (by kernel_rfl) (by simp) ?_
  refine AllReadyH.cons rfl (fun K hK => ?_) AllReadyH.nil
  go_simp
  (refine (C4.out _ L2.out.bel).mono ?_)
  rintro e V2 ⟨rfl, bc⟩
  try go_simp
  have L3 := Lib.hid (L2.out.keep bc)
  have hT := L3.out.s6
  refine hK.out _ _ hT (fun _ => ?_)
  clear hK K hS bc L2
  have hS := hT
  clear hT
  try simp only [Act.put, List.setIfInBounds_toArray, List.set_cons_zero, List.set_cons_succ]
  refine wpAnyH_take (i := 13) (v := ?v13z40) rfl (by kernel_rfl) (by kernel_rfl) (by kernel_rfl) (fun _ _ _ h => h) (Or.inl ⟨by rfl, ?hy13z40⟩) (by assumption) ?rest13z40
  case hy13z40 =>
    intro w hSw
    dsimp only [S6] at hSw
    go_simp
    try with_reducible rfl
  simp only [Act.put, List.getElem_toArray, List.getElem_cons_succ, List.getElem_cons_zero, List.setIfInBounds_toArray, List.set_cons_zero, List.set_cons_succ]
  refine wpAnyH_take (i := 14) (v := ?v14z41) rfl (by kernel_rfl) (by kernel_rfl) (by kernel_rfl) (fun _ _ _ h => h) (Or.inl ⟨by rfl, ?hy14z41⟩) (by assumption) ?rest14z41
  case hy14z41 =>
    intro w hSw
    dsimp only [S6] at hSw
    go_simp
    try with_reducible rfl
  simp only [Act.put, List.getElem_toArray, List.getElem_cons_succ, List.getElem_cons_zero, List.setIfInBounds_toArray, List.set_cons_zero, List.set_cons_succ]
  refine wpAnyH_done (by kernel_rfl) ?_ _
  refine NoPanic.normal ?_
  clear hS
  have la0 := L3.out.a.c0
  have la1 := L3.out.a.c1
  have lb0 := L3.out.b.c0
  have lb1 := L3.out.b.c1
  go_wp2_with fail
  clear la0 la1 lb0 lb1
  (with_reducible refine (C5.out _).mono ?_)
  rintro e v3 ⟨rfl, bc⟩
  have LK := L3.out.keep bc
  obtain ⟨WB, hWB⟩ : ∃ W, two v3 g (.string p1) (.string p2) = W := ⟨_, rfl⟩
  have L4 : Hid (Lw w a1 a2 b1 b2 g h p1 p2 o1 o2 WB) := by rw [← hWB]; exact LK.setr _ _
  have k0 := LK.r.c0
  have k1 := LK.r.c1
  have kf0 := LK.r.fr 0
  have kf1 := LK.r.fr 1
  unfold two at hWB
  clear LK bc L3
  have la0 := L4.out.a.c0
  have la1 := L4.out.a.c1
  have lb0 := L4.out.b.c0
  have lb1 := L4.out.b.c1
  go_wp2_with fail
  clear la0 la1 lb0 lb1
  clear hWB k0 k1 kf0 kf1
  (with_reducible refine (C6.out _ L4.out.bel).mono ?_)
  rintro e v4 ⟨rfl, bc⟩
  have LK := L4.out.keep bc
  obtain ⟨WC, hWB⟩ : ∃ W, two v4 h (.string p1) (.string p2) = W := ⟨_, rfl⟩
  have L5 : Hid (Lw w a1 a2 b1 b2 g h p1 p2 p1 p2 WC) := by rw [← hWB]; exact LK.sets _ _
  have k0 := LK.s.c0
  have k1 := LK.s.c1
  have kf0 := LK.s.fr 0
  have kf1 := LK.s.fr 1
  unfold two at hWB
  clear LK bc L4
  have r0 := L5.out.r.c0
  have r1 := L5.out.r.c1
  have s0 := L5.out.s.c0
  have s1 := L5.out.s.c1
  have la0 := L5.out.a.c0
  have la1 := L5.out.a.c1
  have lb0 := L5.out.b.c0
  have lb1 := L5.out.b.c1
  go_wp2_with fail
  clear la0 la1 lb0 lb1 hWB k0 k1 kf0 kf1 r0 r1 s0 s1
  (with_reducible refine (C7.out _).mono ?_)
  rintro e v5 ⟨rfl, bc⟩
  have LK := L5.out.keep bc
  obtain ⟨WB, hWB⟩ : ∃ W, two v5 g (.string q1) (.string q2) = W := ⟨_, rfl⟩
  have L6 : Hid (Lw w a1 a2 b1 b2 g h q1 q2 p1 p2 WB) := by rw [← hWB]; exact LK.setr _ _
  have k0 := LK.r.c0
  have k1 := LK.r.c1
  have kf0 := LK.r.fr 0
  have kf1 := LK.r.fr 1
  unfold two at hWB
  clear LK bc L5
  have la0 := L6.out.a.c0
  have la1 := L6.out.a.c1
  have lb0 := L6.out.b.c0
  have lb1 := L6.out.b.c1
  go_wp2_with fail
  clear la0 la1 lb0 lb1
  clear hWB k0 k1 kf0 kf1
  (with_reducible refine (C8.out _ L6.out.bel).mono ?_)
  rintro e v6 ⟨rfl, bc⟩
  have LK := L6.out.keep bc
  obtain ⟨WC, hWB⟩ : ∃ W, two v6 h (.string q1) (.string q2) = W := ⟨_, rfl⟩
  have L7 : Hid (Lw w a1 a2 b1 b2 g h q1 q2 q1 q2 WC) := by rw [← hWB]; exact LK.sets _ _
  have k0 := LK.s.c0
  have k1 := LK.s.c1
  have kf0 := LK.s.fr 0
  have kf1 := LK.s.fr 1
  unfold two at hWB
  clear LK bc L6
  have r0 := L7.out.r.c0
  have r1 := L7.out.r.c1
  have s0 := L7.out.s.c0
  have s1 := L7.out.s.c1
  have la0 := L7.out.a.c0
  have la1 := L7.out.a.c1
  go_wp2_with fail
  clear la0 la1 hWB k0 k1 kf0 kf1 r0 r1 s0 s1
  (with_reducible refine (C9.out _).mono ?_)
  rintro e v7 ⟨rfl, bc⟩
  have LK := L7.out.keep bc
  obtain ⟨WB, hWB⟩ : ∃ W, two v7 g (.string i1) (.string i2) = W := ⟨_, rfl⟩
  have L8 : Hid (Lw w a1 a2 b1 b2 g h i1 i2 q1 q2 WB) := by rw [← hWB]; exact LK.setr _ _
  have k0 := LK.r.c0
  have k1 := LK.r.c1
  have kf0 := LK.r.fr 0
  have kf1 := LK.r.fr 1
  unfold two at hWB
  clear LK bc L7
  have la0 := L8.out.a.c0
  have la1 := L8.out.a.c1
  go_wp2_with fail
  clear la0 la1
  clear hWB k0 k1 kf0 kf1
  (with_reducible refine (C10.out _ L8.out.bel).mono ?_)
  rintro e v8 ⟨rfl, bc⟩
  have LK := L8.out.keep bc
  obtain ⟨WC, hWB⟩ : ∃ W, two v8 h (.string i1) (.string i2) = W := ⟨_, rfl⟩
  have L9 : Hid (Lw w a1 a2 b1 b2 g h i1 i2 i1 i2 WC) := by rw [← hWB]; exact LK.sets _ _
  have k0 := LK.s.c0
  have k1 := LK.s.c1
  have kf0 := LK.s.fr 0
  have kf1 := LK.s.fr 1
  unfold two at hWB
  clear LK bc L8
  have r0 := L9.out.r.c0
  have r1 := L9.out.r.c1
  have s0 := L9.out.s.c0
  have s1 := L9.out.s.c1
  have la0 := L9.out.a.c0
  have la1 := L9.out.a.c1
  have lb0 := L9.out.b.c0
  have lb1 := L9.out.b.c1
  go_wp2_with fail
  clear la0 la1 lb0 lb1 hWB k0 k1 kf0 kf1 r0 r1 s0 s1
  (with_reducible refine (C11.out _).mono ?_)
  rintro e v20 ⟨rfl, bc⟩
  have L20 := Lib.hid (L9.out.keep bc)
  clear bc L9
  have la0 := L20.out.a.c0
  have la1 := L20.out.a.c1
  have lb0 := L20.out.b.c0
  have lb1 := L20.out.b.c1
  go_wp2_with fail
  clear la0 la1 lb0 lb1
  (with_reducible refine (C12.out _ L20.out.bel).mono ?_)
  rintro e v21 ⟨rfl, bc⟩
  have LB := Lib.hid (L20.out.bel.trans (bc.mono L20.out.bel.size))
  clear bc L20
  go_wp2_with fail
  go_ret
  exact ⟨rfl, LB.out⟩
end Go.Proofs.YtdkphfafcmogmaaGreatDoor
