/-
  CodeAgreementIsSymmetric: Kappa; the law.
  Package code: arguments opened: the lists that they read as.
-/
import Derived.Test.YtpdpgfnplmjihaaDoorAG20
import Derived.Test.YtpdpgfnplmjihaaDoorAG01
import Derived.ProofKit
import Derived.OpenShut
import Derived.ShutString
import Derived.ChangeOld
import Derived.Deep.DeepHandedRow
import Derived.Lib.SmallJoins
namespace Go.Proofs.YtpdpgfnplmjihaaDoor
open Go.RowKit Go.WideMaps Go.Maps

/-- Kappa's answer. -/
def kapS (l : List Nd) (C : List Cg) (a b : Int) : ByteArray × ByteArray × Int :=
  if coS l C a b ≠ 0 then (⟨#[]⟩, ⟨#[]⟩, coS l C a b) else if (prs a b (cases_ C)).length = 0 then (⟨#[]⟩, ⟨#[]⟩, 9) else kaS (prs a b (cases_ C))
theorem coS_swap (l : List Nd) (C : List Cg) (a b : Int) : coS l C b a = coS l C a b := by
  unfold coS
  by_cases h : forS l C ≠ 0
  · rw [if_pos h, if_pos h]
  · rw [if_neg h, if_neg h]
    by_cases h2 : isCo a = true ∧ isCo b = true
    · rw [if_pos h2, if_pos h2.symm]
    · rw [if_neg h2, if_neg (fun k => h2 k.symm)]
theorem kaS_swap (P : List (Int × Int)) : kaS (P.map Prod.swap) = kaS P := by
  unfold kaS kaN
  rw [chN_swap, nE_swap, List.length_map]
theorem kapS_swap (l : List Nd) (C : List Cg) (a b : Int) : kapS l C b a = kapS l C a b := by
  unfold kapS
  rw [coS_swap, prs_swap a b, kaS_swap, List.length_map]
theorem raR_one : raR 1 1 = (⟨#[49]⟩, ⟨#[49]⟩, 0) := by
  have e : red 1 1 = (1, 1) := by decide
  have d1 : Lib.decDigits 1 = [49] := by rw [Lib.decDigits, dif_pos (by omega)]; rfl
  unfold raR
  rw [e]
  simp [ra, fits, tzB, tz, d1]
theorem roS_same {d : Int} (h : d ≠ 0) : roS d d = (⟨#[49]⟩, ⟨#[49]⟩, 0) := by
  unfold roS
  rw [if_neg h, raR_eq (n := d) (d := d) (n' := 1) (d' := 1) h (by decide) (by omega), raR_one]
theorem kapS_same (l : List Nd) (C : List Cg) (a : Int) : (kapS l C a a).2.2 ≠ 0 ∨ kapS l C a a = (⟨#[49]⟩, ⟨#[49]⟩, 0) := by
  unfold kapS
  by_cases h : coS l C a a ≠ 0
  · rw [if_pos h]; exact .inl h
  rw [if_neg h]
  by_cases h2 : (prs a a (cases_ C)).length = 0
  · rw [if_pos h2]; exact .inl (by decide)
  rw [if_neg h2]
  right
  unfold kaS kaN
  by_cases h3 : chN (prs a a (cases_ C)) = (prs a a (cases_ C)).length * (prs a a (cases_ C)).length
  · rw [if_pos h3]; exact roS_same (by decide)
  · rw [if_neg h3, nE_same (prs_same a _)]
    refine roS_same ?_
    have := chN_le (prs a a (cases_ C))
    dsimp only
    omega
set_option maxRecDepth 100000 in
set_option maxHeartbeats 4000000 in
theorem Kappa_c (sa : Option Addr) (c : Nat) (l : List Nd) (a2 : Option Addr) (c2 : Nat) (C : List Cg) (a b : Int) (w : World) (hl : RdN w sa l) (hf : Fits l) (hC : RdC w a2 C) (hcap : C.length ≤ c2) :
    Calls Tryd.prog 4 #[.slice sa l.length c, .slice a2 C.length c2, .int .i64 a, .int .i64 b] w (OpPost (kapS l C a b) w) := by
  obtain ⟨W1, hW1⟩ : ∃ W1, w.alloc (.cells #[.string ⟨#[]⟩, .string ⟨#[]⟩] 25) = W1 := ⟨_, rfl⟩
  have JR1 : Hid (B2 W1 w.heap.size (.string ⟨#[]⟩) (.string ⟨#[]⟩)) := by rw [← hW1]; exact B2.made _ _ _ _
  have JB1 : Hid (Below w.heap.size w W1) := by rw [← hW1]; exact bel_one _ _
  have HC := Lib.hid (commonOf_c sa c l a2 c2 C a b W1 (hl.below JB1.out) hf (hC.below JB1.out) hcap)
  have HCC := Lib.hid (fun (e : coS l C a b = 0) => (by
    have e2 : forS l C = 0 := by
      unfold coS at e
      by_cases h : forS l C ≠ 0
      · rw [if_pos h] at e; exact absurd e h
      · omega
    exact And.intro (prs_small (for_cgs e2) a b) (Nat.le_trans (Nat.le_trans (prs_len a b (cases_ C)) (cases_len C)) (cgs_ok (for_cgs e2)).1) : SmP (prs a b (cases_ C)) ∧ (prs a b (cases_ C)).length ≤ 20000))
  have h9 := hC.1
  clear hl hf hC
  go_enter Tryd.func4, Tryd.ntmps4
  go_wp2_with fail
  (with_reducible refine HC.out.mono ?_)
  intro e W2 he
  obtain ⟨hz, s, cs, rfl, hP, b2⟩ | ⟨hz, rfl, b2⟩ := he
  · have J2 := Lib.hid (JR1.out.keep b2)
    have BW2 := Lib.hid (JB1.out.trans (b2.mono JB1.out.size))
    have HH := Lib.hid (HCC.out hz)
    have KS : Hid (kapS l C a b = if (prs a b (cases_ C)).length = 0 then (⟨#[]⟩, ⟨#[]⟩, 9) else kaS (prs a b (cases_ C))) := by unfold Hid kapS; rw [if_neg (by simpa using hz)]
    clear b2 hz HCC HC
    obtain ⟨P, hPP⟩ : ∃ P, prs a b (cases_ C) = P := ⟨_, rfl⟩
    rw [hPP] at hP HH KS ⊢
    clear hPP
    by_cases h0 : P.length = 0
    · have KR : kapS l C a b = (⟨#[]⟩, ⟨#[]⟩, 9) := by rw [KS.out, if_pos h0]
      have h0' : (P.length : Int) = 0 := by omega
      clear KS HH h0
      obtain ⟨W9, hW9⟩ : ∃ W9, two W2 w.heap.size (.string ⟨#[]⟩) (.string ⟨#[]⟩) = W9 := ⟨_, rfl⟩
      have R9 : B2 W9 w.heap.size (.string ⟨#[]⟩) (.string ⟨#[]⟩) := by rw [← hW9]; exact J2.out.set _ _
      have PP : Hid (OpPost (kapS l C a b) w (.returned (.tuple #[.agg #[.string ⟨#[]⟩, .string ⟨#[]⟩], .int .i64 9])) W9) := by
        rw [← hW9, KR]
        exact ⟨rfl, below_two BW2.out (Nat.le_refl _) _ _⟩
      have q0 := J2.out.c0
      have q1 := J2.out.c1
      have g0 := J2.out.fr 0
      have g1 := J2.out.fr 1
      obtain ⟨r0, r1, _, _⟩ := id R9
      unfold two at hW9
      clear R9
      go_wp2_with fail
      exact bodyPost_ret (v := .tuple #[.agg #[.string ⟨#[]⟩, .string ⟨#[]⟩], .int .i64 9]) (by simp [results, Tryd.results4, go_sem, r0, r1]) rfl PP.out
    · have KR : Hid (kapS l C a b = kaS P) := by unfold Hid; rw [KS.out, if_neg h0]
      have h0' : ((P.length : Int) == 0) = false := by rw [beq_eq_false_iff_ne]; omega
      have h1 := hP.1
      have HK := Lib.hid (kappaOf_c s cs P W2 hP HH.out.1 HH.out.2)
      obtain ⟨r, hr⟩ : ∃ r, kaS P = r := ⟨_, rfl⟩
      rw [hr] at HK KR
      clear KS HH h0 hP hr
      go_wp2_with fail
      (with_reducible refine HK.out.mono ?_)
      rintro e W5 ⟨rfl, b5⟩
      have J5 := Lib.hid (J2.out.keep b5)
      have BW5 := Lib.hid (BW2.out.trans (b5.mono BW2.out.size))
      clear b5 HK
      obtain ⟨W9, hW9⟩ : ∃ W9, two W5 w.heap.size (.string r.1) (.string r.2.1) = W9 := ⟨_, rfl⟩
      have R9 : B2 W9 w.heap.size (.string r.1) (.string r.2.1) := by rw [← hW9]; exact J5.out.set _ _
      have PP : Hid (OpPost (kapS l C a b) w (.returned (.tuple #[.agg #[.string r.1, .string r.2.1], .int .i64 r.2.2])) W9) := by
        rw [← hW9, KR.out]
        exact ⟨rfl, below_two BW5.out (Nat.le_refl _) _ _⟩
      have q0 := J5.out.c0
      have q1 := J5.out.c1
      have g0 := J5.out.fr 0
      have g1 := J5.out.fr 1
      obtain ⟨r0, r1, _, _⟩ := id R9
      unfold two at hW9
      clear R9
      go_wp2_with fail
      exact bodyPost_ret (v := .tuple #[.agg #[.string r.1, .string r.2.1], .int .i64 r.2.2]) (by simp [results, Tryd.results4, go_sem, r0, r1]) rfl PP.out
  · have J2 := Lib.hid (JR1.out.keep b2)
    have BW2 := Lib.hid (JB1.out.trans (b2.mono JB1.out.size))
    have KR : kapS l C a b = (⟨#[]⟩, ⟨#[]⟩, coS l C a b) := by unfold kapS; rw [if_pos hz]
    obtain ⟨f, hf⟩ : ∃ f, coS l C a b = f := ⟨_, rfl⟩
    rw [hf] at KR hz ⊢
    have f1 : (f == 0) = false := by rw [beq_eq_false_iff_ne]; exact hz
    have f2 : (f != 0) = true := by rw [bne, f1]; rfl
    clear b2 hf hz HCC HC
    obtain ⟨W9, hW9⟩ : ∃ W9, two W2 w.heap.size (.string ⟨#[]⟩) (.string ⟨#[]⟩) = W9 := ⟨_, rfl⟩
    have R9 : B2 W9 w.heap.size (.string ⟨#[]⟩) (.string ⟨#[]⟩) := by rw [← hW9]; exact J2.out.set _ _
    have PP : Hid (OpPost (kapS l C a b) w (.returned (.tuple #[.agg #[.string ⟨#[]⟩, .string ⟨#[]⟩], .int .i64 f])) W9) := by
      rw [← hW9, KR]
      exact ⟨rfl, below_two BW2.out (Nat.le_refl _) _ _⟩
    have q0 := J2.out.c0
    have q1 := J2.out.c1
    have g0 := J2.out.fr 0
    have g1 := J2.out.fr 1
    obtain ⟨r0, r1, _, _⟩ := id R9
    unfold two at hW9
    clear R9
    go_wp2_with fail
    exact bodyPost_ret (v := .tuple #[.agg #[.string ⟨#[]⟩, .string ⟨#[]⟩], .int .i64 f]) (by simp [results, Tryd.results4, go_sem, r0, r1]) rfl PP.out
set_option maxRecDepth 100000 in
set_option maxHeartbeats 4000000 in
theorem law_symmetric (sa : Option Addr) (c : Nat) (l : List Nd) (a2 : Option Addr) (c2 : Nat) (C : List Cg) (a b : Int) (w : World) (hl : RdN w sa l) (hf : Fits l) (hC : RdC w a2 C) (hcap : C.length ≤ c2) :
    Calls Tryd.prog 3 #[.slice sa l.length c, .slice a2 C.length c2, .int .i64 a, .int .i64 b] w fun e w' => e = .returned (.bool true) ∧ Below w.heap.size w w' := by
  have KK := Lib.hid (fun W (hb : Below w.heap.size w W) x y => Kappa_c sa c l a2 c2 C x y W (hl.below hb) hf (hC.below hb) hcap)
  have h9 := hC.1
  have h8 := hl.1
  have K1 := Lib.hid (KK.out w (Below.refl _ _) a b)
  obtain ⟨r, hr⟩ : ∃ r, kapS l C a b = r := ⟨_, rfl⟩
  have hr2 : kapS l C b a = r := by rw [kapS_swap, hr]
  obtain ⟨q, hq⟩ : ∃ q, kapS l C a a = q := ⟨_, rfl⟩
  have SM := kapS_same l C a
  rw [hq] at SM
  rw [hr] at K1
  have HR2 := Lib.hid hr2
  have HQ := Lib.hid hq
  clear hl hf hC hr hr2 hq
  go_enter Tryd.func3, Tryd.ntmps3
  go_wp2_with fail
  (with_reducible refine K1.out.mono ?_)
  rintro e W1 ⟨rfl, b1⟩
  have B1 := Lib.hid b1
  clear b1 K1
  obtain ⟨W2, hW2⟩ : ∃ W2, W1.alloc (.cells #[.string r.1, .string r.2.1] 25) = W2 := ⟨_, rfl⟩
  have J2 : Hid (B2 W2 W1.heap.size (.string r.1) (.string r.2.1)) := by rw [← hW2]; exact B2.made _ _ _ _
  have BW2 : Hid (Below w.heap.size w W2) := by rw [← hW2]; exact B1.out.trans ((bel_one _ _).mono B1.out.size)
  have K2 := KK.out W2 BW2.out b a
  rw [HR2.out] at K2
  have K2 := Lib.hid K2
  go_wp2_with fail
  (with_reducible refine K2.out.mono ?_)
  rintro e W3 ⟨rfl, b3⟩
  have J3 := Lib.hid (J2.out.keep b3)
  have BW3 := Lib.hid (BW2.out.trans (b3.mono BW2.out.size))
  clear b3 K2 J2 BW2 B1
  obtain ⟨W4, hW4⟩ : ∃ W4, W3.alloc (.cells #[.string r.1, .string r.2.1] 25) = W4 := ⟨_, rfl⟩
  have b4 : Below W3.heap.size W3 W4 := by rw [← hW4]; exact bel_one _ _
  have J4 : Hid (B2 W4 W3.heap.size (.string r.1) (.string r.2.1)) := by rw [← hW4]; exact B2.made _ _ _ _
  have I4 := Lib.hid (J3.out.keep b4)
  have BW4 := Lib.hid (BW3.out.trans (b4.mono BW3.out.size))
  have x0 := I4.out.c0
  have x1 := I4.out.c1
  have y0 := J4.out.c0
  have y1 := J4.out.c1
  clear b4 J3 BW3
  have K5 := KK.out W4 BW4.out a a
  rw [HQ.out] at K5
  have K5 := Lib.hid K5
  go_wp2_with fail
  (with_reducible refine K5.out.mono ?_)
  rintro e W6 ⟨rfl, b6⟩
  have BW6 := Lib.hid (BW4.out.trans (b6.mono BW4.out.size))
  clear b6 K5 BW4 x0 x1 y0 y1 J4 I4 hW4
  obtain ⟨W7, hW7⟩ : ∃ W7, W6.alloc (.cells #[.string q.1, .string q.2.1] 25) = W7 := ⟨_, rfl⟩
  have J7 : Hid (B2 W7 W6.heap.size (.string q.1) (.string q.2.1)) := by rw [← hW7]; exact B2.made _ _ _ _
  have BW7 : Hid (Below w.heap.size w W7) := by rw [← hW7]; exact BW6.out.trans ((bel_one _ _).mono BW6.out.size)
  have z0 := J7.out.c0
  have z1 := J7.out.c1
  clear J7 BW6
  by_cases hz : q.2.2 = 0
  · have e : q = (⟨#[49]⟩, ⟨#[49]⟩, 0) := by rcases SM with h | h; exact absurd hz h; exact h
    subst e
    clear SM hz
    go_wp2_with fail
    go_ret
    exact ⟨rfl, BW7.out⟩
  · have f1 : (q.2.2 == 0) = false := by rw [beq_eq_false_iff_ne]; exact hz
    have f2 : (q.2.2 != 0) = true := by rw [bne, f1]; rfl
    clear SM hz
    go_wp2_with fail
    go_ret
    exact ⟨rfl, BW7.out⟩
end Go.Proofs.YtpdpgfnplmjihaaDoor
namespace Go.Proofs.YtpdpgfnplmjihaaDoor
open Go.ChangeShapes Go.WideShapes Go.ChangeAt Go.RowKit Go.Joins

theorem laidOut : laidOutB Tryd.prog = true := by kernel_rfl
theorem own : ownKnob Tryd.prog.godebug = none := by kernel_rfl
theorem block_lt {W : World} {b o : Nat} {v : Value} (h : W.cell? ⟨b, o, none⟩ = some v) : b < W.heap.size := by
  rcases Nat.lt_or_ge b W.heap.size with l | l
  · exact l
  · simp [World.cell?, Array.getElem?_eq_none l] at h
theorem add_none (b off i : Nat) : (Addr.mk b off none).add i = ⟨b, off + i, none⟩ := by
  unfold Addr.add
  split
  · rename_i h; subst h; simp
  · rfl
theorem cellsI : Tryd.prog.cellsOf 3 = 1 := by kernel_rfl
theorem cellsTx : Tryd.prog.cellsOf 9 = 1 := by kernel_rfl
theorem cellsNd : Tryd.prog.cellsOf 73 = 3 := by kernel_rfl
theorem cellsCg : Tryd.prog.cellsOf 49 = 3 := by kernel_rfl
theorem wf_in {n : Int} (h : (Lit.int .i64 n).wf = true) : in64 n := by
  unfold in64
  simp [Lit.wf, IntKind.min, IntKind.max, IntKind.signed, IntKind.bits] at h
  omega
section
variable {H : Type} {enc : TypeId × Value → H} {W : World}
theorem bulk_all_cons {d : DataW H} {r : List (DataW H)} : Rows.uptoBulkAll (d :: r) = Rows.uptoBulk d + Rows.uptoBulkAll r := by simp only [Rows.uptoBulkAll]
/-- A slice, opened element by element. -/
theorem open_row {α : Type} {tS tE : TypeId} {m : Nat} (hS : Tryd.prog.underlying tS = some (.slice tE)) (hm : Tryd.prog.cellsOf tE = m) (h0 : 0 < m) (El : α → List Value → Prop) (size : α → Nat)
    (hEl : ∀ fuel cs y, DataW.trod enc Tryd.prog W 0 (fun _ => true) true fuel tE cs = some y → ∃ c, El c cs ∧ size c ≤ Rows.uptoBulk y.1)
    {fuel : Nat} {cs : List Value} {x : DataW H × List MemPlace} (h : DataW.trod enc Tryd.prog W 0 (fun _ => true) true fuel tS cs = some x) :
    ∃ (l : List α) (a : Option Addr) (cap : Nat), cs = [.slice a l.length cap] ∧ (l = [] ∨ ∃ b off, a = some ⟨b, off, none⟩ ∧ b < W.heap.size ∧ (l.length ≤ cap ∧ cap ≤ 9223372036854775807) ∧
      ∀ (j : Nat) (c : α), l[j]? = some c → ∃ cs', El c cs' ∧ ∀ i, i < m → W.cell? ⟨b, off + j * m + i, none⟩ = cs'[i]?) ∧ (l.map size).sum + 1 ≤ Rows.uptoBulk x.1 ∧ l.length + 1 ≤ Rows.uptoBulk x.1 := by
  have pos : ∀ d : DataW H, 1 ≤ Rows.uptoBulk d := fun d => by
    cases d with
    | lit v => cases v <;> simp only [Rows.uptoBulk] <;> omega
    | _ => simp only [Rows.uptoBulk]; omega
  rcases DataW.trod_slice hS h with ⟨e7, e8⟩ | ⟨a, len, cap, elems, rest, n, hn, e7, e8, _, hlc, hcm, hel, hat, _, _⟩
  · exact ⟨[], none, 0, e7, .inl rfl, by rw [e8]; simp [Rows.uptoBulk], by rw [e8]; simp [Rows.uptoBulk]⟩
  · have hel1 : Rows.uptoBulkAll (elems.map (·.1)) + 1 ≤ Rows.uptoBulk x.1 := by
      rw [e8]; simp only [Rows.uptoBulk]; omega
    unfold maxLen at hcm
    by_cases hl0 : len = 0
    · subst hl0
      exact ⟨[], some a, cap, e7, .inl rfl, by simp; omega, by simp; omega⟩
    rw [hm] at hat
    have each : ∀ i, i < len → ∃ cs' y, elems[i]? = some y ∧ W.cells? 0 (a.add (i * m)) m = some cs' ∧ DataW.trod enc Tryd.prog W 0 (fun _ => true) true n tE cs' = some y := by
      intro i hi
      have h5 := hat i hi
      have h6 : elems[i]? = some (elems[i]'(by omega)) := List.getElem?_eq_getElem (by omega)
      rw [h6] at h5
      obtain ⟨cs', h7, h8⟩ := Option.bind_eq_some_iff.1 h5
      exact ⟨cs', _, h6, h7, h8⟩
    obtain ⟨b, off, spot⟩ := a
    obtain ⟨hspot, hblk⟩ : spot = none ∧ b < W.heap.size := by
      obtain ⟨cs', y, _, h7, h8⟩ := each 0 (by omega)
      obtain ⟨hlen, _, hc⟩ := World.cells?_some h7
      have hc0 := hc 0 (by omega)
      have hx : ∃ v, cs'[0]? = some v := ⟨cs'[0]'(by omega), List.getElem?_eq_getElem (by omega)⟩
      obtain ⟨v, hv⟩ := hx
      rw [hv] at hc0
      have hs0 : spot = none := by
        simpa [Addr.add] using World.cell?_spot hc0
      subst hs0
      rw [add_none, add_none] at hc0
      exact ⟨rfl, block_lt hc0⟩
    subst hspot
    have row : ∀ j, j ≤ len → ∃ l : List α, l.length = j ∧ (l.map size).sum ≤ Rows.uptoBulkAll ((elems.drop (len - j)).map (·.1)) ∧ l.length ≤ Rows.uptoBulkAll ((elems.drop (len - j)).map (·.1)) ∧
        ∀ (i : Nat) (c : α), l[i]? = some c → ∃ cs', El c cs' ∧ ∀ q, q < m → W.cell? ⟨b, off + (len - j + i) * m + q, none⟩ = cs'[q]? := by
      intro j
      induction j with
      | zero => intro _; exact ⟨[], rfl, by simp, by simp, fun i c hi => by simp at hi⟩
      | succ j ihj =>
        intro hj
        obtain ⟨l, hx1, hx2, hx3, hx4⟩ := ihj (by omega)
        obtain ⟨cs', y, h6, h7, h8⟩ := each (len - (j + 1)) (by omega)
        obtain ⟨c, g1, g2⟩ := hEl _ _ _ h8
        obtain ⟨_, _, hc⟩ := World.cells?_some h7
        rw [add_none] at hc
        have cc : ∀ i, i < m → W.cell? ⟨b, off + (len - (j + 1)) * m + i, none⟩ = cs'[i]? := fun i hi => by
          rw [← add_none]; exact hc i hi
        have hdrop : elems.drop (len - (j + 1)) = y :: elems.drop (len - j) := by
          obtain ⟨hlt, he⟩ := List.getElem?_eq_some_iff.1 h6
          rw [List.drop_eq_getElem_cons hlt, he, show len - (j + 1) + 1 = len - j by omega]
        have hp := pos y.1
        refine ⟨c :: l, by simp [hx1], ?_, ?_, ?_⟩
        · rw [hdrop, List.map_cons, List.map_cons, List.sum_cons, bulk_all_cons]; omega
        · rw [hdrop, List.map_cons, List.length_cons, bulk_all_cons]; omega
        · intro i c' hi
          cases i with
          | zero =>
            simp only [List.getElem?_cons_zero, Option.some.injEq] at hi
            subst hi
            exact ⟨cs', g1, cc⟩
          | succ i =>
            obtain ⟨cs2, g3, g4⟩ := hx4 i c' (by simpa using hi)
            refine ⟨cs2, g3, fun q hq => ?_⟩
            rw [show len - (j + 1) + (i + 1) = len - j + i by omega]
            exact g4 q hq
    obtain ⟨l, hx1, hx2, hx3, hx4⟩ := row len (Nat.le_refl _)
    rw [Nat.sub_self, List.drop_zero] at hx2 hx3
    simp only [Nat.sub_self, Nat.zero_add] at hx4
    exact ⟨l, some ⟨b, off, none⟩, cap, by rw [e7, hx1], .inr ⟨b, off, rfl, hblk, ⟨by omega, by omega⟩, hx4⟩, by omega, by omega⟩


set_option maxRecDepth 100000 in
theorem open_nd (fuel : Nat) (cs : List Value) (y : DataW H × List MemPlace) (h : DataW.trod enc Tryd.prog W 0 (fun _ => true) true fuel 73 cs = some y) :
    ∃ u : Nd, (cs = [.int .i64 u.cd, .int .i64 u.pr, .string u.ti] ∧ ((-9223372036854775808 ≤ u.cd ∧ u.cd ≤ 9223372036854775807) ∧ (-9223372036854775808 ≤ u.pr ∧ u.pr ≤ 9223372036854775807) ∧ u.ti.size ≤ 9223372036854775807)) ∧ 0 ≤ Rows.uptoBulk y.1 := by
  obtain ⟨ys, n, _, rfl, hl, hlen, hf⟩ := DataW.trod_struct Tryd.underlying73 h
  rw [cellsNd] at hl
  obtain ⟨c0, c1, c2, rfl⟩ : ∃ c0 c1 c2, cs = [c0, c1, c2] := by
    match cs, hl with
    | [a0, a1, a2], _ => exact ⟨a0, a1, a2, rfl⟩
  obtain ⟨y0, y1, y2, rfl⟩ : ∃ y0 y1 y2, ys = [y0, y1, y2] := by
    match ys, hlen with
    | [a0, a1, a2], _ => exact ⟨a0, a1, a2, rfl⟩
  have h0 : DataW.trod enc Tryd.prog W 0 (fun _ => true) true n 3 (([c0, c1, c2].drop 0).take (Tryd.prog.cellsOf 3)) = some y0 := hf 0 _ rfl
  have h1 : DataW.trod enc Tryd.prog W 0 (fun _ => true) true n 3 (([c0, c1, c2].drop 1).take (Tryd.prog.cellsOf 3)) = some y1 := hf 1 _ rfl
  have h2 : DataW.trod enc Tryd.prog W 0 (fun _ => true) true n 9 (([c0, c1, c2].drop 2).take (Tryd.prog.cellsOf 9)) = some y2 := hf 2 _ rfl
  simp only [cellsI, cellsTx, List.drop_zero, List.drop_succ_cons, List.take_succ_cons, List.take_zero] at h0 h1 h2
  obtain ⟨v0, e0, _, w0⟩ := DataW.trod_int Tryd.underlying3 h0
  obtain ⟨v1, e1, _, w1⟩ := DataW.trod_int Tryd.underlying3 h1
  obtain ⟨v2, e2, _, w2⟩ := DataW.trod_string Tryd.underlying9 h2
  simp only [List.cons.injEq, and_true] at e0 e1 e2
  subst e0 e1 e2
  unfold maxLen at w2
  exact ⟨⟨v0, v1, v2⟩, ⟨rfl, wf_in w0, wf_in w1, w2⟩, Nat.zero_le _⟩
set_option maxRecDepth 100000 in
theorem open_cg (fuel : Nat) (cs : List Value) (y : DataW H × List MemPlace) (h : DataW.trod enc Tryd.prog W 0 (fun _ => true) true fuel 49 cs = some y) :
    ∃ u : Cg, (cs = [.int .i64 u.ca, .int .i64 u.co, .int .i64 u.cd] ∧ (in64 u.ca ∧ in64 u.co ∧ in64 u.cd)) ∧ 0 ≤ Rows.uptoBulk y.1 := by
  obtain ⟨ys, n, _, rfl, hl, hlen, hf⟩ := DataW.trod_struct Tryd.underlying49 h
  rw [cellsCg] at hl
  obtain ⟨c0, c1, c2, rfl⟩ : ∃ c0 c1 c2, cs = [c0, c1, c2] := by
    match cs, hl with
    | [a0, a1, a2], _ => exact ⟨a0, a1, a2, rfl⟩
  obtain ⟨y0, y1, y2, rfl⟩ : ∃ y0 y1 y2, ys = [y0, y1, y2] := by
    match ys, hlen with
    | [a0, a1, a2], _ => exact ⟨a0, a1, a2, rfl⟩
  have h0 : DataW.trod enc Tryd.prog W 0 (fun _ => true) true n 3 (([c0, c1, c2].drop 0).take (Tryd.prog.cellsOf 3)) = some y0 := hf 0 _ rfl
  have h1 : DataW.trod enc Tryd.prog W 0 (fun _ => true) true n 3 (([c0, c1, c2].drop 1).take (Tryd.prog.cellsOf 3)) = some y1 := hf 1 _ rfl
  have h2 : DataW.trod enc Tryd.prog W 0 (fun _ => true) true n 3 (([c0, c1, c2].drop 2).take (Tryd.prog.cellsOf 3)) = some y2 := hf 2 _ rfl
  simp only [cellsI, cellsTx, List.drop_zero, List.drop_succ_cons, List.take_succ_cons, List.take_zero] at h0 h1 h2
  obtain ⟨v0, e0, _, w0⟩ := DataW.trod_int Tryd.underlying3 h0
  obtain ⟨v1, e1, _, w1⟩ := DataW.trod_int Tryd.underlying3 h1
  obtain ⟨v2, e2, _, w2⟩ := DataW.trod_int Tryd.underlying3 h2
  simp only [List.cons.injEq, and_true] at e0 e1 e2
  subst e0 e1 e2
  skip
  exact ⟨⟨v0, v1, v2⟩, ⟨rfl, wf_in w0, wf_in w1, wf_in w2⟩, Nat.zero_le _⟩
set_option maxRecDepth 100000 in
theorem open_N {b0 : Nat} {v : Value} {d : DataW H} {p : List MemPlace} (hv : Value.okWide Tryd.prog W .any b0 22 v) (h : DataW.Trod enc Tryd.prog W 0 (fun _ => true) true 22 v d p) :
    ∃ a l c, v = .slice a (List.length l) c ∧ RdN W a l ∧ Fits l ∧ List.length l ≤ c := by
  obtain ⟨a0, len, cap, rfl⟩ := okWide_slice Tryd.underlying22 hv
  obtain ⟨m, h⟩ := h
  obtain ⟨l, a, cap', e, hr, _, _⟩ := open_row (α := Nd) Tryd.underlying22 cellsNd (by decide) (fun u cs => cs = [.int .i64 u.cd, .int .i64 u.pr, .string u.ti] ∧ ((-9223372036854775808 ≤ u.cd ∧ u.cd ≤ 9223372036854775807) ∧ (-9223372036854775808 ≤ u.pr ∧ u.pr ≤ 9223372036854775807) ∧ u.ti.size ≤ 9223372036854775807)) (fun _ => 0) open_nd h
  simp [Value.cells] at e
  obtain ⟨rfl, rfl, rfl⟩ := e
  refine ⟨_, l, _, rfl, ?_⟩
  rcases hr with rfl | ⟨b, off, rfl, hb, hc, hr⟩
  · exact ⟨⟨by simp, fun h => by simp at h⟩, (fun u hu => by cases hu), by simp⟩
  · refine ⟨⟨by omega, fun _ => ⟨b, off, rfl, hb, fun j hj => ?_⟩⟩, fun u hu => ?_, hc.1⟩
    · obtain ⟨cs', hcs, hq⟩ := hr j (nd l j) (by unfold nd; rw [List.getD, List.getElem?_eq_getElem hj]; simp)
      obtain ⟨rfl, _⟩ := hcs
      exact ⟨hq 0 (by omega), hq 1 (by omega), hq 2 (by omega)⟩
    · obtain ⟨j, hj, rfl⟩ := List.mem_iff_getElem.1 hu
      obtain ⟨cs', ⟨_, hs⟩, _⟩ := hr j l[j] (List.getElem?_eq_getElem hj)
      exact hs
set_option maxRecDepth 100000 in
theorem open_C {b0 : Nat} {v : Value} {d : DataW H} {p : List MemPlace} (hv : Value.okWide Tryd.prog W .any b0 23 v) (h : DataW.Trod enc Tryd.prog W 0 (fun _ => true) true 23 v d p) :
    ∃ a l c, v = .slice a (List.length l) c ∧ RdC W a l ∧ FitsC l ∧ List.length l ≤ c := by
  obtain ⟨a0, len, cap, rfl⟩ := okWide_slice Tryd.underlying23 hv
  obtain ⟨m, h⟩ := h
  obtain ⟨l, a, cap', e, hr, _, _⟩ := open_row (α := Cg) Tryd.underlying23 cellsCg (by decide) (fun u cs => cs = [.int .i64 u.ca, .int .i64 u.co, .int .i64 u.cd] ∧ (in64 u.ca ∧ in64 u.co ∧ in64 u.cd)) (fun _ => 0) open_cg h
  simp [Value.cells] at e
  obtain ⟨rfl, rfl, rfl⟩ := e
  refine ⟨_, l, _, rfl, ?_⟩
  rcases hr with rfl | ⟨b, off, rfl, hb, hc, hr⟩
  · exact ⟨⟨by simp, fun h => by simp at h⟩, (fun u hu => by cases hu), by simp⟩
  · refine ⟨⟨by omega, fun _ => ⟨b, off, rfl, hb, fun j hj => ?_⟩⟩, fun u hu => ?_, hc.1⟩
    · obtain ⟨cs', hcs, hq⟩ := hr j (cg l j) (by unfold cg; rw [List.getD, List.getElem?_eq_getElem hj]; simp)
      obtain ⟨rfl, _⟩ := hcs
      exact ⟨hq 0 (by omega), hq 1 (by omega), hq 2 (by omega)⟩
    · obtain ⟨j, hj, rfl⟩ := List.mem_iff_getElem.1 hu
      obtain ⟨cs', ⟨_, hs⟩, _⟩ := hr j l[j] (List.getElem?_eq_getElem hj)
      exact hs
end
end Go.Proofs.YtpdpgfnplmjihaaDoor
