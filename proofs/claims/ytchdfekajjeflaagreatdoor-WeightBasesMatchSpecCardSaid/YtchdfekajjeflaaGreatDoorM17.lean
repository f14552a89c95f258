/-
  The reference's exact fractions: divisor, lowest, reduced, at numbers of any size.
  The reference's exact fractions: what the operations share; Times, Over.
  The reference's exact fractions: Plus.
  The reference's exact fractions: Opposite, Minus, Zero, Whole, Part, Order.
-/
import Derived.Test.YtchdfekajjeflaaGreatDoorM16
import Derived.Test.YtchdfekajjeflaaGreatDoorM07
namespace Go.Proofs.YtchdfekajjeflaaGreatDoor
open Go.RowKit

/-- The digits of a row, as far as memory has them. -/
def dgAt (W : World) (p : Addr) : Nat := match W.cell? p with
  | some (.int _ n) => n.toNat
  | _ => 0
def nmAt (W : World) (v : Value) : Nat := match v with
  | .slice (some ⟨b, off, _⟩) k _ => Tn (fun j => dgAt W ⟨b, off + j, none⟩) k
  | _ => 0
theorem Nt.nmAt {W : World} {a : Option Addr} {k c n : Nat} (h : Nt W a k c n) : nmAt W (.slice a k c) = n := by
  obtain ⟨f, h1, _, _, _, hs, hp⟩ := h
  rcases Nat.eq_zero_or_pos k with e | e
  · subst e
    rw [Tn_zero] at hs
    subst hs
    rcases hp with ⟨rfl, _⟩ | ⟨b, off, rfl⟩
    · rfl
    · rfl
  · obtain ⟨b, off, rfl, _, hc⟩ := h1.2.2 e
    show Tn (fun j => dgAt W ⟨b, off + j, none⟩) k = n
    rw [← hs]
    exact Tn_congr fun j hj => by unfold dgAt; rw [hc j hj]; simp
set_option maxHeartbeats 2000000 in
theorem divisor_c (a1 a2 : Option Addr) (c1 c2 k1 k2 n m : Nat) (w : World) (h1 : Nt w a1 k1 c1 n) (h2 : Nt w a2 k2 c2 m) (hk1 : n < tp 90000) (hk2 : m < tp 90000) :
    Calls Tryz.prog 52 #[.slice a1 k1 c1, .slice a2 k2 c2] w (NtPost (Nat.gcd n m) w) := by
  have H1 := Lib.hid h1
  have H2 := Lib.hid h2
  have K1 := Lib.hid hk1
  have K2 := Lib.hid hk2
  clear h1 h2 hk1 hk2
  go_enter Tryz.func52, Tryz.ntmps52
  go_wp2
  go_loopw [0, 1] (fun u v wr => ∃ a k c x b k2 c2 y, u = .slice a k c ∧ v = .slice b k2 c2 ∧ Hid (Nt wr a k c x ∧ Nt wr b k2 c2 y ∧ Nat.gcd x y = Nat.gcd n m ∧ Below w.heap.size w wr ∧ x < tp 90000 ∧ y < tp 90000)) (fun _ v wr => nmAt wr v)
  case atStart => exact ⟨_, _, _, n, _, _, _, m, rfl, rfl, H1.out, H2.out, rfl, Below.refl _ _, K1.out, K2.out⟩
  case round =>
    obtain ⟨a, k, c, x, b, k2, c2, y, rfl, rfl, hS⟩ := hrel
    rcases Nat.eq_zero_or_pos y with hy | hy
    · subst hy
      obtain rfl := hS.out.2.1.nul
      go_wp2
      go_ret
      exact ⟨a, k, c, rfl, by have h := hS.out.2.2.1; rw [Nat.gcd_zero_right] at h; rw [← h]; exact hS.out.1, hS.out.2.2.2.1⟩
    · have hk := hS.out.2.1.one hy
      have hk' : (0 : Int) < (k2 : Int) := by omega
      have hkx : k ≤ 90000 := hS.out.1.len hS.out.2.2.2.2.1
      have HDV := Lib.hid (rdivide_c a b k k2 c c2 x y wr hS.out.1 hS.out.2.1 hy hkx)
      have HY := Lib.hid hy
      have MO := Lib.hid (hS.out.2.1.nmAt)
      clear hy hk
      go_wp2_with fail
      refine HDV.out.mono ?_
      rintro e w3 ⟨a3, k3, c3, a4, k4, c4, rfl, l3, l4, b3⟩
      have HF : Hid (Nt w3 b k2 c2 y ∧ Nt w3 a4 k4 c4 (x % y) ∧ Nat.gcd y (x % y) = Nat.gcd n m ∧ Below w.heap.size w w3 ∧ y < tp 90000 ∧ x % y < tp 90000) :=
        ⟨hS.out.2.1.below b3, l4, by rw [← hS.out.2.2.1, Nat.gcd_comm x y, Nat.gcd_rec y x, Nat.gcd_comm], hS.out.2.2.2.1.trans (b3.mono hS.out.2.2.2.1.size), hS.out.2.2.2.2.2, Nat.lt_trans (Nat.mod_lt x HY.out) hS.out.2.2.2.2.2⟩
      have HM : Hid (nmAt w3 (.slice a4 k4 c4) < nmAt wr (.slice b k2 c2)) := by
        unfold Hid
        rw [l4.nmAt, MO.out]
        exact Nat.mod_lt x HY.out
      clear l3 l4 b3 HDV
      go_wp2
      exact ⟨⟨_, _, _, y, _, _, _, x % y, rfl, rfl, HF⟩, HM.out⟩
theorem Nt.setx {W : World} {a : Option Addr} {k c n : Nat} (h : Nt W a k c n) {p : Addr} {u : Value} (hu : W.cell? p = some u) (hne : ∀ m, u ≠ .int .i64 m) (x : Value) : Nt (W.setCell p x) a k c n := by
  obtain ⟨f, h1, h2⟩ := h
  refine ⟨f, ⟨h1.1, h1.2.1, fun h0 => ?_⟩, h2⟩
  obtain ⟨b, off, e, hl, hc⟩ := h1.2.2 h0
  refine ⟨b, off, e, by simpa using hl, fun j hj => ?_⟩
  rw [World.cell?_setCell_other _ _ _ _ (by intro e; subst e; rw [hc j hj] at hu; injection hu with hu; exact hne _ hu.symm)]
  exact hc j hj
/-- A box of three cells: a fraction. -/
structure Q3 (W : World) (g : Nat) (x0 x1 x2 : Value) : Prop where
  c0 : W.cell? ⟨g, 0, none⟩ = some x0
  c1 : W.cell? ⟨g, 1, none⟩ = some x1
  c2 : W.cell? ⟨g, 2, none⟩ = some x2
  fr : ∀ o, W.frozen? ⟨g, o, none⟩ = false
  lt : g < W.heap.size
theorem Q3.keep {W W' : World} {g : Nat} {x0 x1 x2 : Value} (h : Q3 W g x0 x1 x2) (hb : Below W.heap.size W W') : Q3 W' g x0 x1 x2 := by
  have c := fun (o : Nat) => hb.cell (p := ⟨g, o, none⟩) h.lt
  exact ⟨(c 0).trans h.c0, (c 1).trans h.c1, (c 2).trans h.c2, fun o => (hb.frozen (p := ⟨g, o, none⟩) h.lt).trans (h.fr o), Nat.lt_of_lt_of_le h.lt hb.size⟩
theorem Q3.made (W : World) (x0 x1 x2 : Value) (T : TypeId) : Q3 (W.alloc (.cells #[x0, x1, x2] T)) W.heap.size x0 x1 x2 := by
  refine ⟨?_, ?_, ?_, fun o => by simp, by simp⟩
  all_goals (rw [World.cell?_alloc_new]; rfl)
/-- All three cells are stored. -/
def trio (W : World) (g : Nat) (y0 y1 y2 : Value) : World := ((W.setCell ⟨g, 0, none⟩ y0).setCell ⟨g, 1, none⟩ y1).setCell ⟨g, 2, none⟩ y2
theorem qne {g i j : Nat} (h : i ≠ j) : (⟨g, i, none⟩ : Addr) ≠ ⟨g, j, none⟩ := fun e => by injection e with _ e2; exact h e2
theorem Q3.set {W : World} {g : Nat} {x0 x1 x2 : Value} (h : Q3 W g x0 x1 x2) (y0 y1 y2 : Value) : Q3 (trio W g y0 y1 y2) g y0 y1 y2 := by
  unfold trio
  refine ⟨?_, ?_, ?_, fun o => by simp only [World.frozen?_setCell]; exact h.fr o, by simpa using h.lt⟩
  · rw [World.cell?_setCell_other _ _ _ _ (qne (by decide)), World.cell?_setCell_other _ _ _ _ (qne (by decide)), World.cell?_setCell_same _ _ _ h.c0]
  · rw [World.cell?_setCell_other _ _ _ _ (qne (by decide)), World.cell?_setCell_same _ _ _ (u := x1) (by rw [World.cell?_setCell_other _ _ _ _ (qne (by decide))]; exact h.c1)]
  · rw [World.cell?_setCell_same _ _ _ (u := x2) (by rw [World.cell?_setCell_other _ _ _ _ (qne (by decide)), World.cell?_setCell_other _ _ _ _ (qne (by decide))]; exact h.c2)]
def NI (u : Value) : Prop := ∀ m, u ≠ .int .i64 m
theorem NI.b (s : Bool) : NI (.bool s) := fun m e => by cases e
theorem NI.s (a : Option Addr) (k c : Nat) : NI (.slice a k c) := fun m e => by cases e
theorem Nt.trio {W : World} {a : Option Addr} {k c n : Nat} (h : Nt W a k c n) {g : Nat} {x0 x1 x2 : Value} (hb : Q3 W g x0 x1 x2) (l0 : NI x0) (l1 : NI x1) (l2 : NI x2) (y0 y1 y2 : Value) : Nt (trio W g y0 y1 y2) a k c n := by
  unfold Go.Proofs.YtchdfekajjeflaaGreatDoor.trio
  refine ((h.setx hb.c0 l0 y0).setx (u := x1) ?_ l1 y1).setx (u := x2) ?_ l2 y2
  · rw [World.cell?_setCell_other _ _ _ _ (qne (by decide))]; exact hb.c1
  · rw [World.cell?_setCell_other _ _ _ _ (qne (by decide)), World.cell?_setCell_other _ _ _ _ (qne (by decide))]; exact hb.c2
theorem below_trio {B : Nat} {W0 W : World} {g : Nat} (h : Below B W0 W) (hg : B ≤ g) (y0 y1 y2 : Value) : Below B W0 (trio W g y0 y1 y2) :=
  ((h.setCell (p := ⟨g, 0, none⟩) hg y0).setCell (p := ⟨g, 1, none⟩) hg y1).setCell (p := ⟨g, 2, none⟩) hg y2
/-- A fraction comes back. -/
def FqP (b : Bool) (n d : Nat) (w : World) (e : Ending) (w' : World) : Prop :=
  ∃ a k c a' k' c', e = .returned (.agg #[.bool b, .slice a k c, .slice a' k' c']) ∧ Nt w' a k c n ∧ Nt w' a' k' c' d ∧ Below w.heap.size w w'
/-- The two boxes of lowest: the argument's, the result's. -/
structure Lo (w : World) (b : Bool) (a1 : Option Addr) (k1 c1 : Nat) (a2 : Option Addr) (k2 c2 : Nat) (W : World) : Prop where
  x : Q3 W w.heap.size (.bool b) (.slice a1 k1 c1) (.slice a2 k2 c2)
  r : Q3 W (w.heap.size + 1) (.bool false) (.slice none 0 0) (.slice none 0 0)
  bel : Below w.heap.size w W
theorem Lo.keep {w : World} {b : Bool} {a1 : Option Addr} {k1 c1 : Nat} {a2 : Option Addr} {k2 c2 : Nat} {W W' : World} (h : Lo w b a1 k1 c1 a2 k2 c2 W) (hb : Below W.heap.size W W') : Lo w b a1 k1 c1 a2 k2 c2 W' :=
  ⟨h.x.keep hb, h.r.keep hb, h.bel.trans (hb.mono h.bel.size)⟩
theorem Lo.made (w : World) (b : Bool) (a1 : Option Addr) (k1 c1 : Nat) (a2 : Option Addr) (k2 c2 : Nat) (T1 T2 : TypeId) :
    Lo w b a1 k1 c1 a2 k2 c2 ((w.alloc (.cells #[.bool b, .slice a1 k1 c1, .slice a2 k2 c2] T1)).alloc (.cells #[.bool false, .slice none 0 0, .slice none 0 0] T2)) := by
  have s1 : (w.alloc (.cells #[.bool b, .slice a1 k1 c1, .slice a2 k2 c2] T1)).heap.size = w.heap.size + 1 := by simp
  refine ⟨(Q3.made w _ _ _ T1).keep (bel_one _ _), ?_, ((Below.refl _ _).alloc (Nat.le_refl _) _).alloc (by simp) _⟩
  rw [← s1]; exact Q3.made _ _ _ _ T2
set_option maxRecDepth 100000 in
set_option maxHeartbeats 4000000 in
theorem lowest_c (b : Bool) (a1 a2 : Option Addr) (c1 c2 k1 k2 n d : Nat) (w : World) (h1 : Nt w a1 k1 c1 n) (h2 : Nt w a2 k2 c2 d) (hd : 0 < d) (hn9 : n < tp 90000) (hd9 : d < tp 90000) :
    Calls Tryz.prog 34 #[.agg #[.bool b, .slice a1 k1 c1, .slice a2 k2 c2]] w (FqP (b && decide (0 < n)) (n / Nat.gcd n d) (d / Nat.gcd n d) w) := by
  have HG : Hid (0 < Nat.gcd n d) := Nat.gcd_pos_of_pos_right _ hd
  have HN : Hid (decide (0 < n) = decide (0 < n / Nat.gcd n d)) := by
    apply decide_eq_decide.2
    constructor
    · intro h; exact Nat.div_pos (Nat.le_of_dvd h (Nat.gcd_dvd_left _ _)) HG.out
    · intro h
      rcases Nat.eq_zero_or_pos n with e | e
      · subst e; rw [Nat.zero_div] at h; omega
      · exact e
  obtain ⟨sb, hsb0⟩ : ∃ sb, (b && decide (0 < n)) = sb := ⟨_, rfl⟩
  rw [hsb0]
  have HSB : Hid ((b && decide (0 < n / Nat.gcd n d)) = sb) := by unfold Hid; rw [← HN.out, hsb0]
  clear hsb0
  obtain ⟨W0, hW0⟩ : ∃ W0, (w.alloc (.cells #[.bool b, .slice a1 k1 c1, .slice a2 k2 c2] 50)).alloc (.cells #[.bool false, .slice none 0 0, .slice none 0 0] 50) = W0 := ⟨_, rfl⟩
  have J0 : Hid (Lo w b a1 k1 c1 a2 k2 c2 W0) := by rw [← hW0]; exact Lo.made _ _ _ _ _ _ _ _ _ _
  have L1 := Lib.hid (h1.below J0.out.bel)
  have L2 := Lib.hid (h2.below J0.out.bel)
  have KN : Hid (k1 ≤ 90000 ∧ k2 ≤ 90000) := ⟨h1.len hn9, h2.len hd9⟩
  have DV := Lib.hid (divisor_c a2 a1 c2 c1 k2 k1 d n W0 L2.out L1.out hd9 hn9)
  have x0 := J0.out.x.c0
  have x1 := J0.out.x.c1
  have x2 := J0.out.x.c2
  clear h1 h2 hd hn9 hd9 HN
  go_enter Tryz.func34, Tryz.ntmps34
  go_wp2_with fail
  clear hW0 x0 x1 x2
  refine DV.out.mono ?_
  rintro e w2 ⟨ga, gk, gc, rfl, lg, b2⟩
  rw [Nat.gcd_comm d n] at lg
  have J2 := Lib.hid (J0.out.keep b2)
  have LG := Lib.hid lg
  have L12 := Lib.hid (L1.out.below b2)
  have L22 := Lib.hid (L2.out.below b2)
  clear lg b2 J0 L1 L2 DV
  generalize Nat.gcd n d = gg at *
  have x0 := J2.out.x.c0
  have x1 := J2.out.x.c1
  have x2 := J2.out.x.c2
  go_wp2_with fail
  clear x0 x1 x2
  refine (rdivide_c a1 ga k1 gk c1 gc n gg w2 L12.out LG.out HG.out KN.out.1).mono ?_
  rintro e w4 ⟨qa, qk, qc, ra, rk, rc, rfl, l4, _, b4⟩
  have J4 := Lib.hid (J2.out.keep b4)
  have L4 := Lib.hid l4
  have LG4 := Lib.hid (LG.out.below b4)
  have L24 := Lib.hid (L22.out.below b4)
  clear LG L12 L22 J2 l4 b4
  have x0 := J4.out.x.c0
  have x1 := J4.out.x.c1
  have x2 := J4.out.x.c2
  go_wp2_with fail
  clear x0 x1 x2
  refine (rdivide_c a2 ga k2 gk c2 gc d gg w4 L24.out LG4.out HG.out KN.out.2).mono ?_
  rintro e w6 ⟨pa, pk, pc, sa, sk, sc, rfl, l6, _, b6⟩
  have J6 := Lib.hid (J4.out.keep b6)
  have L6 := Lib.hid l6
  have L46 := Lib.hid (L4.out.below b6)
  clear LG4 L24 J4 l6 b6 L4
  have hqk : decide (0 < n / gg) = decide (0 < qk) := by
    apply decide_eq_decide.2
    constructor
    · intro h; exact L46.out.one h
    · intro h
      rcases Nat.eq_zero_or_pos (n / gg) with e | e
      · have h2 := L46.out
        rw [e] at h2
        have := h2.nul
        omega
      · exact e
  have hsb : (b && decide (0 < qk)) = sb := by rw [← hqk]; exact HSB.out
  obtain ⟨WX, hWX⟩ : ∃ WX, trio w6 (w.heap.size + 1) (.bool sb) (.slice qa qk qc) (.slice pa pk pc) = WX := ⟨_, rfl⟩
  have RX : Q3 WX (w.heap.size + 1) (.bool sb) (.slice qa qk qc) (.slice pa pk pc) := by rw [← hWX]; exact J6.out.r.set _ _ _
  have PP : Hid (FqP sb (n / gg) (d / gg) w (.returned (.agg #[.bool sb, .slice qa qk qc, .slice pa pk pc])) WX) := by
    rw [← hWX]
    exact ⟨_, _, _, _, _, _, rfl, L46.out.trio J6.out.r (NI.b _) (NI.s _ _ _) (NI.s _ _ _) _ _ _, L6.out.trio J6.out.r (NI.b _) (NI.s _ _ _) (NI.s _ _ _) _ _ _, below_trio J6.out.bel (Nat.le_succ _) _ _ _⟩
  have x0 := J6.out.x.c0
  obtain ⟨r0, r1, r2, rf, _⟩ := J6.out.r
  have rf0 := rf 0
  have rf1 := rf 1
  have rf2 := rf 2
  obtain ⟨t0, t1, t2, _, _⟩ := id RX
  clear RX rf hqk
  unfold trio at hWX
  cases b
  · obtain rfl : sb = false := by rw [← hsb]; rfl
    clear hsb
    go_wp2_with fail
    exact bodyPost_ret (v := .agg #[.bool false, .slice qa qk qc, .slice pa pk pc]) (by simp [results, Tryz.results34, go_sem, t0, t1, t2]) rfl PP.out
  · obtain rfl : sb = decide (0 < qk) := by rw [← hsb]; rfl
    clear hsb
    go_wp2_with fail
    exact bodyPost_ret (v := .agg #[.bool (decide (0 < qk)), .slice qa qk qc, .slice pa pk pc]) (by simp [results, Tryz.results34, go_sem, t0, t1, t2]) rfl PP.out
/-- A number with its sign. -/
def sg (b : Bool) (n : Nat) : Int := if b then -(n : Int) else (n : Int)
/-- A fraction whose value is x / y comes back; if it is long, it is in lowest terms. -/
def FvP (x : Int) (y : Nat) (w : World) (e : Ending) (w' : World) : Prop :=
  ∃ b n d, FqP b n d w e w' ∧ 0 < d ∧ sg b n * (y : Int) = x * (d : Int) ∧ ((n < tp 12 ∧ d < tp 12) ∨ Nat.gcd n d = 1)
theorem sg_low (b : Bool) {n d : Nat} (hd : 0 < d) : sg (b && decide (0 < n)) (n / Nat.gcd n d) * (d : Int) = sg b n * ((d / Nat.gcd n d : Nat) : Int) ∧ 0 < d / Nat.gcd n d ∧ Nat.gcd (n / Nat.gcd n d) (d / Nat.gcd n d) = 1 := by
  have hg : 0 < Nat.gcd n d := Nat.gcd_pos_of_pos_right _ hd
  refine ⟨?_, Nat.div_pos (Nat.le_of_dvd hd (Nat.gcd_dvd_right _ _)) hg, Nat.coprime_div_gcd_div_gcd hg⟩
  have key : n / Nat.gcd n d * d = n * (d / Nat.gcd n d) := by
    obtain ⟨p, hp⟩ := Nat.gcd_dvd_left n d
    obtain ⟨q, hq⟩ := Nat.gcd_dvd_right n d
    generalize Nat.gcd n d = g at *
    subst hp hq
    rw [Nat.mul_div_cancel_left p hg, Nat.mul_div_cancel_left q hg, Nat.mul_left_comm, Nat.mul_comm g, Nat.mul_assoc, Nat.mul_comm g p, Nat.mul_assoc]
    first | rfl | (congr 1; exact Nat.mul_comm _ _) | (rw [Nat.mul_left_comm]) | grind
  have keyI : ((n / Nat.gcd n d : Nat) : Int) * (d : Int) = (n : Int) * ((d / Nat.gcd n d : Nat) : Int) := by
    rw [← Int.natCast_mul, ← Int.natCast_mul, key]
  cases b
  · simpa [sg] using keyI
  · rcases Nat.eq_zero_or_pos n with e | e
    · subst e; simp [sg]
    · simp only [sg, Bool.true_and, decide_eq_true e, if_true, Int.neg_mul, keyI]
theorem low_c (b : Bool) (a1 a2 : Option Addr) (c1 c2 k1 k2 n d : Nat) (w : World) (h1 : Nt w a1 k1 c1 n) (h2 : Nt w a2 k2 c2 d) (hd : 0 < d) (hn9 : n < tp 90000) (hd9 : d < tp 90000) :
    Calls Tryz.prog 34 #[.agg #[.bool b, .slice a1 k1 c1, .slice a2 k2 c2]] w (FvP (sg b n) d w) :=
  (lowest_c b a1 a2 c1 c2 k1 k2 n d w h1 h2 hd hn9 hd9).mono fun e w' h => ⟨_, _, _, h, (sg_low b hd).2.1, (sg_low b hd).1, .inr (sg_low b hd).2.2⟩
set_option maxRecDepth 100000 in
set_option maxHeartbeats 4000000 in
theorem reduced_c (b : Bool) (a1 a2 : Option Addr) (c1 c2 k1 k2 n d : Nat) (w : World) (h1 : Nt w a1 k1 c1 n) (h2 : Nt w a2 k2 c2 d) (hd : 0 < d) (hn9 : n < tp 90000) (hd9 : d < tp 90000) :
    Calls Tryz.prog 33 #[.agg #[.bool b, .slice a1 k1 c1, .slice a2 k2 c2]] w (FvP (sg b n) d w) := by
  obtain ⟨W0, hW0⟩ : ∃ W0, (w.alloc (.cells #[.bool b, .slice a1 k1 c1, .slice a2 k2 c2] 50)).alloc (.cells #[.bool false, .slice none 0 0, .slice none 0 0] 50) = W0 := ⟨_, rfl⟩
  have J0 : Hid (Lo w b a1 k1 c1 a2 k2 c2 W0) := by rw [← hW0]; exact Lo.made _ _ _ _ _ _ _ _ _ _
  have L1 := Lib.hid (h1.below J0.out.bel)
  have L2 := Lib.hid (h2.below J0.out.bel)
  have KB : k1 ≤ 90000 ∧ k2 ≤ 90000 := ⟨h1.len hn9, h2.len hd9⟩
  have HL := Lib.hid (low_c b a1 a2 c1 c2 k1 k2 n d W0 L1.out L2.out hd hn9 hd9)
  have x0 := J0.out.x.c0
  have x1 := J0.out.x.c1
  have x2 := J0.out.x.c2
  by_cases hk : k1 + k2 < 12
  · have hkI : (k1 : Int) + (k2 : Int) < 12 := by omega
    have SZ : Hid (n < tp 12 ∧ d < tp 12) := ⟨Nat.lt_of_lt_of_le h1.lt (tp_mono (by omega)), Nat.lt_of_lt_of_le h2.lt (tp_mono (by omega))⟩
    obtain ⟨WX, hWX⟩ : ∃ WX, trio W0 (w.heap.size + 1) (.bool b) (.slice a1 k1 c1) (.slice a2 k2 c2) = WX := ⟨_, rfl⟩
    have RX : Q3 WX (w.heap.size + 1) (.bool b) (.slice a1 k1 c1) (.slice a2 k2 c2) := by rw [← hWX]; exact J0.out.r.set _ _ _
    have PP : Hid (FvP (sg b n) d w (.returned (.agg #[.bool b, .slice a1 k1 c1, .slice a2 k2 c2])) WX) := by
      rw [← hWX]
      exact ⟨b, n, d, ⟨_, _, _, _, _, _, rfl, L1.out.trio J0.out.r (NI.b _) (NI.s _ _ _) (NI.s _ _ _) _ _ _, L2.out.trio J0.out.r (NI.b _) (NI.s _ _ _) (NI.s _ _ _) _ _ _, below_trio J0.out.bel (Nat.le_succ _) _ _ _⟩, hd, rfl, .inl SZ.out⟩
    obtain ⟨r0, r1, r2, rf, _⟩ := J0.out.r
    have rf0 := rf 0
    have rf1 := rf 1
    have rf2 := rf 2
    obtain ⟨t0, t1, t2, _, _⟩ := id RX
    clear RX rf h1 h2 hd hn9 hd9 HL hk
    unfold trio at hWX
    go_enter Tryz.func33, Tryz.ntmps33
    go_wp2_with fail
    exact bodyPost_ret (v := .agg #[.bool b, .slice a1 k1 c1, .slice a2 k2 c2]) (by simp [results, Tryz.results33, go_sem, t0, t1, t2]) rfl PP.out
  · have hkI : ¬ (k1 : Int) + (k2 : Int) < 12 := by omega
    clear h1 h2 hd hn9 hd9 L1 L2
    go_enter Tryz.func33, Tryz.ntmps33
    go_wp2_with fail
    clear hW0 x0 x1 x2
    refine HL.out.mono ?_
    rintro e w2 ⟨sb, n', d', ⟨qa, qk, qc, pa, pk, pc, rfl, l1, l2, b2⟩, hd', hv, hsz⟩
    have J2 := J0.out.keep b2
    obtain ⟨WX, hWX⟩ : ∃ WX, trio w2 (w.heap.size + 1) (.bool sb) (.slice qa qk qc) (.slice pa pk pc) = WX := ⟨_, rfl⟩
    have RX : Q3 WX (w.heap.size + 1) (.bool sb) (.slice qa qk qc) (.slice pa pk pc) := by rw [← hWX]; exact J2.r.set _ _ _
    have PP : Hid (FvP (sg b n) d w (.returned (.agg #[.bool sb, .slice qa qk qc, .slice pa pk pc])) WX) := by
      rw [← hWX]
      exact ⟨sb, n', d', ⟨_, _, _, _, _, _, rfl, l1.trio J2.r (NI.b _) (NI.s _ _ _) (NI.s _ _ _) _ _ _, l2.trio J2.r (NI.b _) (NI.s _ _ _) (NI.s _ _ _) _ _ _, below_trio J2.bel (Nat.le_succ _) _ _ _⟩, hd', hv, hsz⟩
    obtain ⟨r0, r1, r2, rf, _⟩ := J2.r
    have rf0 := rf 0
    have rf1 := rf 1
    have rf2 := rf 2
    obtain ⟨t0, t1, t2, _, _⟩ := id RX
    clear RX rf J2 l1 l2 b2 hd' hv hsz HL J0
    unfold trio at hWX
    go_wp2_with fail
    exact bodyPost_ret (v := .agg #[.bool sb, .slice qa qk qc, .slice pa pk pc]) (by simp [results, Tryz.results33, go_sem, t0, t1, t2]) rfl PP.out
end Go.Proofs.YtchdfekajjeflaaGreatDoor
namespace Go.Proofs.YtchdfekajjeflaaGreatDoor
open Go.RowKit

/-- A fraction as a value. -/
structure Fa where
  b : Bool
  a : Option Addr
  k : Nat
  c : Nat
  a' : Option Addr
  k' : Nat
  c' : Nat
/-- It reads as x / y. -/
structure Fn (W : World) (f : Fa) (x y : Nat) : Prop where
  n : Nt W f.a f.k f.c x
  d : Nt W f.a' f.k' f.c' y
  pos : 0 < y
  ln : x < tp 40000
  ld : y < tp 40000
theorem Fn.below {W W' : World} {f : Fa} {n d : Nat} (h : Fn W f n d) (hb : Below W.heap.size W W') : Fn W' f n d := ⟨h.n.below hb, h.d.below hb, h.pos, h.ln, h.ld⟩
theorem Fn.kn {W : World} {f : Fa} {n d : Nat} (h : Fn W f n d) : f.k ≤ 40000 := h.n.len h.ln
theorem Fn.kd {W : World} {f : Fa} {n d : Nat} (h : Fn W f n d) : f.k' ≤ 40000 := h.d.len h.ld
theorem tp_prod {a b : Nat} (ha : a < tp 40000) (hb : b < tp 40000) : a * b < tp 80000 := by
  have e : tp 80000 = tp 40000 * tp 40000 := tp_add 40000 40000
  rw [e]
  exact Nat.mul_lt_mul_of_lt_of_le ha (Nat.le_of_lt hb) (tp_pos _)
/-- The three boxes of an operation of two fractions. -/
structure Ar (w : World) (f q : Fa) (W : World) : Prop where
  x : Q3 W w.heap.size (.bool f.b) (.slice f.a f.k f.c) (.slice f.a' f.k' f.c')
  y : Q3 W (w.heap.size + 1) (.bool q.b) (.slice q.a q.k q.c) (.slice q.a' q.k' q.c')
  r : Q3 W (w.heap.size + 1 + 1) (.bool false) (.slice none 0 0) (.slice none 0 0)
  bel : Below w.heap.size w W
theorem Ar.keep {w : World} {f q : Fa} {W W' : World} (h : Ar w f q W) (hb : Below W.heap.size W W') : Ar w f q W' :=
  ⟨h.x.keep hb, h.y.keep hb, h.r.keep hb, h.bel.trans (hb.mono h.bel.size)⟩
theorem Ar.made (w : World) (f q : Fa) (T1 T2 T3 : TypeId) :
    Ar w f q (((w.alloc (.cells #[.bool f.b, .slice f.a f.k f.c, .slice f.a' f.k' f.c'] T1)).alloc (.cells #[.bool q.b, .slice q.a q.k q.c, .slice q.a' q.k' q.c'] T2)).alloc (.cells #[.bool false, .slice none 0 0, .slice none 0 0] T3)) := by
  have s1 : (w.alloc (.cells #[.bool f.b, .slice f.a f.k f.c, .slice f.a' f.k' f.c'] T1)).heap.size = w.heap.size + 1 := by simp
  have s2 : ((w.alloc (.cells #[.bool f.b, .slice f.a f.k f.c, .slice f.a' f.k' f.c'] T1)).alloc (.cells #[.bool q.b, .slice q.a q.k q.c, .slice q.a' q.k' q.c'] T2)).heap.size = w.heap.size + 1 + 1 := by simp
  refine ⟨((Q3.made w _ _ _ T1).keep (bel_one _ _)).keep (bel_one _ _), ?_, ?_, (((Below.refl _ _).alloc (Nat.le_refl _) _).alloc (by simp) _).alloc (by simp; omega) _⟩
  · rw [← s1]; exact (Q3.made _ _ _ _ T2).keep (bel_one _ _)
  · rw [← s2]; exact Q3.made _ _ _ _ T3
/-- The cells of both arguments. -/
def S6f (g : Nat) (f q : Fa) (W : World) : Prop :=
  W.cell? ⟨g, 0, none⟩ = some (.bool f.b) ∧ W.cell? ⟨g, 1, none⟩ = some (.slice f.a f.k f.c) ∧ W.cell? ⟨g, 2, none⟩ = some (.slice f.a' f.k' f.c') ∧
  W.cell? ⟨g + 1, 0, none⟩ = some (.bool q.b) ∧ W.cell? ⟨g + 1, 1, none⟩ = some (.slice q.a q.k q.c) ∧ W.cell? ⟨g + 1, 2, none⟩ = some (.slice q.a' q.k' q.c')
theorem Ar.s6 {w : World} {f q : Fa} {W : World} (h : Ar w f q W) : S6f w.heap.size f q W := ⟨h.x.c0, h.x.c1, h.x.c2, h.y.c0, h.y.c1, h.y.c2⟩
theorem trio_other {W : World} {g h : Nat} (hne : h ≠ g) (y0 y1 y2 : Value) (o : Nat) : (trio W h y0 y1 y2).cell? ⟨g, o, none⟩ = W.cell? ⟨g, o, none⟩ := by
  unfold trio
  have e : ∀ i, (⟨g, o, none⟩ : Addr) ≠ ⟨h, i, none⟩ := fun i e => by injection e with e1 _; exact hne e1.symm
  rw [World.cell?_setCell_other _ _ _ _ (by first | exact e _ | exact (e _).symm), World.cell?_setCell_other _ _ _ _ (by first | exact e _ | exact (e _).symm), World.cell?_setCell_other _ _ _ _ (by first | exact e _ | exact (e _).symm)]
theorem Ar.done {w : World} {f q : Fa} {W : World} (h : Ar w f q W) (y0 y1 y2 : Value) : S6f w.heap.size f q (trio W (w.heap.size + 1 + 1) y0 y1 y2) := by
  obtain ⟨c0, c1, c2, d0, d1, d2⟩ := h.s6
  exact ⟨(trio_other (by omega) _ _ _ _).trans c0, (trio_other (by omega) _ _ _ _).trans c1, (trio_other (by omega) _ _ _ _).trans c2, (trio_other (by omega) _ _ _ _).trans d0, (trio_other (by omega) _ _ _ _).trans d1, (trio_other (by omega) _ _ _ _).trans d2⟩
set_option maxRecDepth 100000 in
set_option maxHeartbeats 4000000 in
theorem over_c (f q : Fa) (n1 d1 n2 d2 : Nat) (w : World) (h1 : Fn w f n1 d1) (h2 : Fn w q n2 d2) (hp : 0 < n2) :
    Calls Tryz.prog 17 #[.agg #[.bool f.b, .slice f.a f.k f.c, .slice f.a' f.k' f.c'], .agg #[.bool q.b, .slice q.a q.k q.c, .slice q.a' q.k' q.c']] w (FvP (sg (f.b != q.b) (n1 * d2)) (d1 * n2) w) := by
  obtain ⟨W0, hW0⟩ : ∃ W0, ((w.alloc (.cells #[.bool f.b, .slice f.a f.k f.c, .slice f.a' f.k' f.c'] 50)).alloc (.cells #[.bool q.b, .slice q.a q.k q.c, .slice q.a' q.k' q.c'] 50)).alloc (.cells #[.bool false, .slice none 0 0, .slice none 0 0] 50) = W0 := ⟨_, rfl⟩
  have J0 : Hid (Ar w f q W0) := by rw [← hW0]; exact Ar.made _ _ _ _ _ _
  have L1 := Lib.hid (h1.below J0.out.bel)
  have L2 := Lib.hid (h2.below J0.out.bel)
  have BN : Hid (n1 * d2 < tp 80000 ∧ d1 * n2 < tp 80000 ∧ 0 < d1 * n2) := ⟨tp_prod h1.ln h2.ld, tp_prod h1.ld h2.ln, Nat.mul_pos h1.pos hp⟩
  clear h1 h2 hp
  go_enter Tryz.func17, Tryz.ntmps17
  go_wp2_with fail
  clear hW0
  refine wp_region_noPanic ?_
  refine wp_region_held_drew (S := S6f w.heap.size f q) (by kernel_rfl) (J0.out.keep (Below.refl _ _).drew).s6 (fun hS => ?_)
  have J1 := Lib.hid (J0.out.keep (Below.refl _ _).drew)
  have M1 := Lib.hid (L1.out.below (Below.refl _ _).drew)
  have M2 := Lib.hid (L2.out.below (Below.refl _ _).drew)
  clear J0 L1 L2
  refine wpAnyH_take (i := 0) (v := ?v0z15) rfl (by kernel_rfl) (by kernel_rfl) (by kernel_rfl) (fun _ _ _ h => h) (Or.inl ⟨by rfl, ?hy0z15⟩) (by assumption) ?rest0z15
  case hy0z15 =>
    intro w hSw
    dsimp only [S6f] at hSw
    go_simp
    try with_reducible rfl
  simp only [Act.put, List.getElem_toArray, List.getElem_cons_succ, List.getElem_cons_zero, List.setIfInBounds_toArray, List.set_cons_zero, List.set_cons_succ]
  refine wpAnyH_take (i := 1) (v := ?v1z16) rfl (by kernel_rfl) (by kernel_rfl) (by kernel_rfl) (fun _ _ _ h => h) (Or.inl ⟨by rfl, ?hy1z16⟩) (by assumption) ?rest1z16
  case hy1z16 =>
    intro w hSw
    dsimp only [S6f] at hSw
    go_simp
    try with_reducible rfl
  simp only [Act.put, List.getElem_toArray, List.getElem_cons_succ, List.getElem_cons_zero, List.setIfInBounds_toArray, List.set_cons_zero, List.set_cons_succ]
  refine wpAnyH_take (i := 2) (v := ?v2z17) rfl (by kernel_rfl) (by kernel_rfl) (by kernel_rfl) (fun _ _ _ h => h) (Or.inl ⟨by rfl, ?hy2z17⟩) (by assumption) ?rest2z17
  case hy2z17 =>
    intro w hSw
    dsimp only [S6f] at hSw
    go_simp
    try with_reducible rfl
  simp only [Act.put, List.getElem_toArray, List.getElem_cons_succ, List.getElem_cons_zero, List.setIfInBounds_toArray, List.set_cons_zero, List.set_cons_succ]
  refine wpAnyH_take (i := 3) (v := ?v3z18) rfl (by kernel_rfl) (by kernel_rfl) (by kernel_rfl) (fun _ _ _ h => h) (Or.inl ⟨by rfl, ?hy3z18⟩) (by assumption) ?rest3z18
  case hy3z18 =>
    intro w hSw
    dsimp only [S6f] at hSw
    go_simp
    try with_reducible rfl
  simp only [Act.put, List.getElem_toArray, List.getElem_cons_succ, List.getElem_cons_zero, List.setIfInBounds_toArray, List.set_cons_zero, List.set_cons_succ]
  refine wpAnyH_take (i := 4) (v := ?v4z19) rfl (by kernel_rfl) (by kernel_rfl) (by kernel_rfl) (fun _ _ _ h => h) (Or.inl ⟨by rfl, ?hy4z19⟩) (by assumption) ?rest4z19
  case hy4z19 =>
    intro w hSw
    dsimp only [S6f] at hSw
    go_simp
    try with_reducible rfl
  simp only [Act.put, List.getElem_toArray, List.getElem_cons_succ, List.getElem_cons_zero, List.setIfInBounds_toArray, List.set_cons_zero, List.set_cons_succ]
  refine wpAnyH_take (i := 5) (v := ?v5z20) rfl (by kernel_rfl) (by kernel_rfl) (by kernel_rfl) (fun _ _ _ h => h) (Or.inl ⟨by rfl, ?hy5z20⟩) (by assumption) ?rest5z20
  case hy5z20 =>
    intro w hSw
    dsimp only [S6f] at hSw
    go_simp
    try with_reducible rfl
  simp only [Act.put, List.getElem_toArray, List.getElem_cons_succ, List.getElem_cons_zero, List.setIfInBounds_toArray, List.set_cons_zero, List.set_cons_succ]
  refine wpAnyH_take (i := 6) (v := ?v6z21) rfl (by kernel_rfl) (by kernel_rfl) (by kernel_rfl) (fun _ _ _ h => h) (Or.inl ⟨by rfl, ?hy6z21⟩) (by assumption) ?rest6z21
  case hy6z21 =>
    intro w hSw
    dsimp only [S6f] at hSw
    go_simp
    try with_reducible rfl
  simp only [Act.put, List.getElem_toArray, List.getElem_cons_succ, List.getElem_cons_zero, List.setIfInBounds_toArray, List.set_cons_zero, List.set_cons_succ]
  refine wpAnyH_take (i := 7) (v := ?v7z22) rfl (by kernel_rfl) (by kernel_rfl) (by kernel_rfl) (fun _ _ _ h => h) (Or.inl ⟨by rfl, ?hy7z22⟩) (by assumption) ?rest7z22
  case hy7z22 =>
    intro w hSw
    dsimp only [S6f] at hSw
    go_simp
    try with_reducible rfl
  simp only [Act.put, List.getElem_toArray, List.getElem_cons_succ, List.getElem_cons_zero, List.setIfInBounds_toArray, List.set_cons_zero, List.set_cons_succ]
  refine wpAnyH_take (i := 8) (v := ?v8z23) rfl (by kernel_rfl) (by kernel_rfl) (by kernel_rfl) (fun _ _ _ h => h) (Or.inl ⟨by rfl, ?hy8z23⟩) (by assumption) ?rest8z23
  case hy8z23 =>
    intro w hSw
    dsimp only [S6f] at hSw
    go_simp
    try with_reducible rfl
  simp only [Act.put, List.getElem_toArray, List.getElem_cons_succ, List.getElem_cons_zero, List.setIfInBounds_toArray, List.set_cons_zero, List.set_cons_succ]
  refine wpAnyH_take (i := 10) (v := ?v10z24) rfl (by kernel_rfl) (by kernel_rfl) (by kernel_rfl) (fun _ _ _ h => h) (Or.inl ⟨by rfl, ?hy10z24⟩) (by assumption) ?rest10z24
  case hy10z24 =>
    intro w hSw
    dsimp only [S6f] at hSw
    go_simp
    try with_reducible rfl
  simp only [Act.put, List.getElem_toArray, List.getElem_cons_succ, List.getElem_cons_zero, List.setIfInBounds_toArray, List.set_cons_zero, List.set_cons_succ]
  refine wpAnyH_take (i := 11) (v := ?v11z25) rfl (by kernel_rfl) (by kernel_rfl) (by kernel_rfl) (fun _ _ _ h => h) (Or.inl ⟨by rfl, ?hy11z25⟩) (by assumption) ?rest11z25
  case hy11z25 =>
    intro w hSw
    dsimp only [S6f] at hSw
    go_simp
    try with_reducible rfl
  simp only [Act.put, List.getElem_toArray, List.getElem_cons_succ, List.getElem_cons_zero, List.setIfInBounds_toArray, List.set_cons_zero, List.set_cons_succ]
  refine wpAnyH_take (i := 12) (v := ?v12z26) rfl (by kernel_rfl) (by kernel_rfl) (by kernel_rfl) (fun _ _ _ h => h) (Or.inl ⟨by rfl, ?hy12z26⟩) (by assumption) ?rest12z26
  case hy12z26 =>
    intro w hSw
    dsimp only [S6f] at hSw
    go_simp
    try with_reducible rfl
  simp only [Act.put, List.getElem_toArray, List.getElem_cons_succ, List.getElem_cons_zero, List.setIfInBounds_toArray, List.set_cons_zero, List.set_cons_succ]
  refine wpAnyH_take (i := 13) (v := ?v13z27) rfl (by kernel_rfl) (by kernel_rfl) (by kernel_rfl) (fun _ _ _ h => h) (Or.inl ⟨by rfl, ?hy13z27⟩) (by assumption) ?rest13z27
  case hy13z27 =>
    intro w hSw
    dsimp only [S6f] at hSw
    go_simp
    try with_reducible rfl
  simp only [Act.put, List.getElem_toArray, List.getElem_cons_succ, List.getElem_cons_zero, List.setIfInBounds_toArray, List.set_cons_zero, List.set_cons_succ]
  refine wpAnyH_ready (rs := [9]) (by kernel_rfl) (by simp) ?_
  refine AllReadyH.cons rfl (fun K hK => ?_) AllReadyH.nil
  go_simp
  (refine (ntimes_c f.a q.a' f.k q.k' f.c q.c' _ _ _ M1.out.n M2.out.d (by have := M1.out.kn; have := M2.out.kd; omega)).mono ?_)
  rintro e V9J2 ⟨na, nk, nc, rfl, hn, bc⟩
  try go_simp
  have J2 := Lib.hid (J1.out.keep bc)
  have A1 := Lib.hid (M1.out.below bc)
  have A2 := Lib.hid (M2.out.below bc)
  have N2 := Lib.hid hn
  have hT := J2.out.s6
  refine hK.out _ _ hT (fun _ => ?_)
  clear hK K hS bc J1 M1 M2 hn
  have hS := hT
  clear hT
  try simp only [Act.put, List.setIfInBounds_toArray, List.set_cons_zero, List.set_cons_succ]
  refine wpAnyH_ready (rs := [14]) (by kernel_rfl) (by simp) ?_
  refine AllReadyH.cons rfl (fun K hK => ?_) AllReadyH.nil
  go_simp
  (refine (ntimes_c f.a' q.a f.k' q.k f.c' q.c _ _ _ A1.out.d A2.out.n (by have := A1.out.kd; have := A2.out.kn; omega)).mono ?_)
  rintro e V14J3 ⟨da, dk, dc, rfl, hd, bc⟩
  try go_simp
  have J3 := Lib.hid (J2.out.keep bc)
  have N3 := Lib.hid (N2.out.below bc)
  have D3 := Lib.hid hd
  have hT := J3.out.s6
  refine hK.out _ _ hT (fun _ => ?_)
  clear hK K hS bc J2 N2 hd
  have hS := hT
  clear hT
  try simp only [Act.put, List.setIfInBounds_toArray, List.set_cons_zero, List.set_cons_succ]
  clear A1 A2
  refine wpAnyH_take (i := 15) (v := ?v15z28) rfl (by kernel_rfl) (by kernel_rfl) (by kernel_rfl) (fun _ _ _ h => h) (Or.inl ⟨by rfl, ?hy15z28⟩) (by assumption) ?rest15z28
  case hy15z28 =>
    intro w hSw
    dsimp only [S6f] at hSw
    go_simp
    try with_reducible rfl
  simp only [Act.put, List.getElem_toArray, List.getElem_cons_succ, List.getElem_cons_zero, List.setIfInBounds_toArray, List.set_cons_zero, List.set_cons_succ]
  refine wpAnyH_ready (rs := [16]) (by kernel_rfl) (by simp) ?_
  refine AllReadyH.cons rfl (fun K hK => ?_) AllReadyH.nil
  go_simp
  (refine (reduced_c (f.b != q.b) na da nc dc nk dk (n1 * d2) (d1 * n2) _ N3.out D3.out BN.out.2.2 (Nat.lt_of_lt_of_le BN.out.1 (tp_mono (by omega))) (Nat.lt_of_lt_of_le BN.out.2.1 (tp_mono (by omega)))).mono ?_)
  rintro e V16J4 ⟨sb, n', d', ⟨qa, qk, qc, pa, pk, pc, rfl, rn, rd, bc⟩, hd', hv, hsz⟩
  try go_simp
  have J4 := Lib.hid (J3.out.keep bc)
  have RN := Lib.hid rn
  have RD := Lib.hid rd
  have RV := Lib.hid (And.intro hd' (And.intro hv hsz))
  have hT := J4.out.s6
  refine hK.out _ _ hT (fun _ => ?_)
  clear hK K hS bc J3  rn rd
  have hS := hT
  clear hT
  try simp only [Act.put, List.setIfInBounds_toArray, List.set_cons_zero, List.set_cons_succ]
  clear N3 D3
  refine wpAnyH_ready (rs := [17]) (by kernel_rfl) (by simp) ?_
  refine AllReadyH.cons rfl (fun K hK => ?_) AllReadyH.nil
  have q0 := J4.out.r.c0
  have q1 := J4.out.r.c1
  have q2 := J4.out.r.c2
  have g0 := J4.out.r.fr 0
  have g1 := J4.out.r.fr 1
  have g2 := J4.out.r.fr 2
  go_simp
  clear q0 q1 q2 g0 g1 g2
  have hT := J4.out.done (.bool sb) (.slice qa qk qc) (.slice pa pk pc)
  have R9 := J4.out.r.set (.bool sb) (.slice qa qk qc) (.slice pa pk pc)
  have PP : Hid (FvP (sg (f.b != q.b) (n1 * d2)) (d1 * n2) w (.returned (.agg #[.bool sb, .slice qa qk qc, .slice pa pk pc])) (trio _ (w.heap.size + 1 + 1) (.bool sb) (.slice qa qk qc) (.slice pa pk pc))) :=
    ⟨sb, n', d', ⟨_, _, _, _, _, _, rfl, RN.out.trio J4.out.r (NI.b _) (NI.s _ _ _) (NI.s _ _ _) _ _ _, RD.out.trio J4.out.r (NI.b _) (NI.s _ _ _) (NI.s _ _ _) _ _ _, below_trio J4.out.bel (by omega) _ _ _⟩, RV.out.1, RV.out.2.1, RV.out.2.2⟩
  clear RN RD RV
  unfold trio at hT R9 PP
  refine hK.out _ _ hT (fun _ => ?_)
  clear hK K hS
  try simp only [Act.put, List.setIfInBounds_toArray, List.set_cons_zero, List.set_cons_succ]
  refine wpAnyH_done (by kernel_rfl) ?_ _
  refine NoPanic.normal ?_
  obtain ⟨r0, r1, r2, _, _⟩ := id R9
  clear hT R9
  go_wp2_with fail
  exact bodyPost_ret (v := .agg #[.bool sb, .slice qa qk qc, .slice pa pk pc]) (by simp [results, Tryz.results17, go_sem, r0, r1, r2]) rfl PP.out
end Go.Proofs.YtchdfekajjeflaaGreatDoor
namespace Go.Proofs.YtchdfekajjeflaaGreatDoor
open Go.RowKit

theorem sg_same (b : Bool) (n1 n2 : Nat) : sg b (n1 + n2) = sg b n1 + sg b n2 := by
  cases b
  · simp [sg]
  · simp only [sg, if_true]; omega
theorem sg_diff {b1 b2 : Bool} (h : b1 ≠ b2) {n1 n2 : Nat} (hle : n2 ≤ n1) : sg b1 (n1 - n2) = sg b1 n1 + sg b2 n2 := by
  cases b1 <;> cases b2 <;> first | exact absurd rfl h | (simp [sg]; omega)
theorem tp_sumX {a b i : Nat} (ha : a < tp i) (hb : b < tp i) : a + b < tp (i + 1) := by
  rw [tp_succ]
  omega
set_option maxRecDepth 100000 in
set_option maxHeartbeats 4000000 in
theorem plus_c (f q : Fa) (n1 d1 n2 d2 : Nat) (w : World) (h1 : Fn w f n1 d1) (h2 : Fn w q n2 d2) :
    Calls Tryz.prog 49 #[.agg #[.bool f.b, .slice f.a f.k f.c, .slice f.a' f.k' f.c'], .agg #[.bool q.b, .slice q.a q.k q.c, .slice q.a' q.k' q.c']] w (FvP (sg f.b (n1 * d2) + sg q.b (n2 * d1)) (d1 * d2) w) := by
  obtain ⟨W0, hW0⟩ : ∃ W0, ((w.alloc (.cells #[.bool f.b, .slice f.a f.k f.c, .slice f.a' f.k' f.c'] 50)).alloc (.cells #[.bool q.b, .slice q.a q.k q.c, .slice q.a' q.k' q.c'] 50)).alloc (.cells #[.bool false, .slice none 0 0, .slice none 0 0] 50) = W0 := ⟨_, rfl⟩
  have J0 : Hid (Ar w f q W0) := by rw [← hW0]; exact Ar.made _ _ _ _ _ _
  have L1 := Lib.hid (h1.below J0.out.bel)
  have L2 := Lib.hid (h2.below J0.out.bel)
  have lp : Hid (n1 * d2 < tp 80000) := tp_prod h1.ln h2.ld
  have lq : Hid (n2 * d1 < tp 80000) := tp_prod h2.ln h1.ld
  have ld : Hid (d1 * d2 < tp 80000 ∧ 0 < d1 * d2) := ⟨tp_prod h1.ld h2.ld, Nat.mul_pos h1.pos h2.pos⟩
  clear h1 h2
  go_enter Tryz.func49, Tryz.ntmps49
  go_wp2_with fail
  clear hW0
  refine wp_region_noPanic ?_
  refine wp_region_held_drew (S := S6f w.heap.size f q) (by kernel_rfl) (J0.out.keep (Below.refl _ _).drew).s6 (fun hS => ?_)
  have J1 := Lib.hid (J0.out.keep (Below.refl _ _).drew)
  have M1 := Lib.hid (L1.out.below (Below.refl _ _).drew)
  have M2 := Lib.hid (L2.out.below (Below.refl _ _).drew)
  clear J0 L1 L2
  refine wpAnyH_take (i := 0) (v := ?v0z29) rfl (by kernel_rfl) (by kernel_rfl) (by kernel_rfl) (fun _ _ _ h => h) (Or.inl ⟨by rfl, ?hy0z29⟩) (by assumption) ?rest0z29
  case hy0z29 =>
    intro w hSw
    dsimp only [S6f] at hSw
    go_simp
    try with_reducible rfl
  simp only [Act.put, List.getElem_toArray, List.getElem_cons_succ, List.getElem_cons_zero, List.setIfInBounds_toArray, List.set_cons_zero, List.set_cons_succ]
  refine wpAnyH_take (i := 1) (v := ?v1z30) rfl (by kernel_rfl) (by kernel_rfl) (by kernel_rfl) (fun _ _ _ h => h) (Or.inl ⟨by rfl, ?hy1z30⟩) (by assumption) ?rest1z30
  case hy1z30 =>
    intro w hSw
    dsimp only [S6f] at hSw
    go_simp
    try with_reducible rfl
  simp only [Act.put, List.getElem_toArray, List.getElem_cons_succ, List.getElem_cons_zero, List.setIfInBounds_toArray, List.set_cons_zero, List.set_cons_succ]
  refine wpAnyH_take (i := 2) (v := ?v2z31) rfl (by kernel_rfl) (by kernel_rfl) (by kernel_rfl) (fun _ _ _ h => h) (Or.inl ⟨by rfl, ?hy2z31⟩) (by assumption) ?rest2z31
  case hy2z31 =>
    intro w hSw
    dsimp only [S6f] at hSw
    go_simp
    try with_reducible rfl
  simp only [Act.put, List.getElem_toArray, List.getElem_cons_succ, List.getElem_cons_zero, List.setIfInBounds_toArray, List.set_cons_zero, List.set_cons_succ]
  refine wpAnyH_take (i := 3) (v := ?v3z32) rfl (by kernel_rfl) (by kernel_rfl) (by kernel_rfl) (fun _ _ _ h => h) (Or.inl ⟨by rfl, ?hy3z32⟩) (by assumption) ?rest3z32
  case hy3z32 =>
    intro w hSw
    dsimp only [S6f] at hSw
    go_simp
    try with_reducible rfl
  simp only [Act.put, List.getElem_toArray, List.getElem_cons_succ, List.getElem_cons_zero, List.setIfInBounds_toArray, List.set_cons_zero, List.set_cons_succ]
  refine wpAnyH_take (i := 5) (v := ?v5z33) rfl (by kernel_rfl) (by kernel_rfl) (by kernel_rfl) (fun _ _ _ h => h) (Or.inl ⟨by rfl, ?hy5z33⟩) (by assumption) ?rest5z33
  case hy5z33 =>
    intro w hSw
    dsimp only [S6f] at hSw
    go_simp
    try with_reducible rfl
  simp only [Act.put, List.getElem_toArray, List.getElem_cons_succ, List.getElem_cons_zero, List.setIfInBounds_toArray, List.set_cons_zero, List.set_cons_succ]
  refine wpAnyH_take (i := 6) (v := ?v6z34) rfl (by kernel_rfl) (by kernel_rfl) (by kernel_rfl) (fun _ _ _ h => h) (Or.inl ⟨by rfl, ?hy6z34⟩) (by assumption) ?rest6z34
  case hy6z34 =>
    intro w hSw
    dsimp only [S6f] at hSw
    go_simp
    try with_reducible rfl
  simp only [Act.put, List.getElem_toArray, List.getElem_cons_succ, List.getElem_cons_zero, List.setIfInBounds_toArray, List.set_cons_zero, List.set_cons_succ]
  refine wpAnyH_take (i := 7) (v := ?v7z35) rfl (by kernel_rfl) (by kernel_rfl) (by kernel_rfl) (fun _ _ _ h => h) (Or.inl ⟨by rfl, ?hy7z35⟩) (by assumption) ?rest7z35
  case hy7z35 =>
    intro w hSw
    dsimp only [S6f] at hSw
    go_simp
    try with_reducible rfl
  simp only [Act.put, List.getElem_toArray, List.getElem_cons_succ, List.getElem_cons_zero, List.setIfInBounds_toArray, List.set_cons_zero, List.set_cons_succ]
  refine wpAnyH_take (i := 8) (v := ?v8z36) rfl (by kernel_rfl) (by kernel_rfl) (by kernel_rfl) (fun _ _ _ h => h) (Or.inl ⟨by rfl, ?hy8z36⟩) (by assumption) ?rest8z36
  case hy8z36 =>
    intro w hSw
    dsimp only [S6f] at hSw
    go_simp
    try with_reducible rfl
  simp only [Act.put, List.getElem_toArray, List.getElem_cons_succ, List.getElem_cons_zero, List.setIfInBounds_toArray, List.set_cons_zero, List.set_cons_succ]
  refine wpAnyH_ready (rs := [4]) (by kernel_rfl) (by simp) ?_
  refine AllReadyH.cons rfl (fun K hK => ?_) AllReadyH.nil
  go_simp
  (refine (ntimes_c f.a q.a' f.k q.k' f.c q.c' _ _ _ M1.out.n M2.out.d (by have := M1.out.kn; have := M2.out.kd; omega)).mono ?_)
  rintro e V4J2 ⟨pa, pk, pc, rfl, hp, bc⟩
  try go_simp
  have J2 := Lib.hid (J1.out.keep bc)
  have A1 := Lib.hid (M1.out.below bc)
  have A2 := Lib.hid (M2.out.below bc)
  have P2 := Lib.hid hp
  have hT := J2.out.s6
  refine hK.out _ _ hT (fun _ => ?_)
  clear hK K hS bc J1 M1 M2 hp
  have hS := hT
  clear hT
  try simp only [Act.put, List.setIfInBounds_toArray, List.set_cons_zero, List.set_cons_succ]
  refine wpAnyH_ready (rs := [9]) (by kernel_rfl) (by simp) ?_
  refine AllReadyH.cons rfl (fun K hK => ?_) AllReadyH.nil
  go_simp
  (refine (ntimes_c q.a f.a' q.k f.k' q.c f.c' _ _ _ A2.out.n A1.out.d (by have := A2.out.kn; have := A1.out.kd; omega)).mono ?_)
  rintro e V9J3 ⟨qa, qk, qc, rfl, hq, bc⟩
  try go_simp
  have J3 := Lib.hid (J2.out.keep bc)
  have E1 := Lib.hid (A1.out.below bc)
  have E2 := Lib.hid (A2.out.below bc)
  have P3 := Lib.hid (P2.out.below bc)
  have Q3_ := Lib.hid hq
  have hT := J3.out.s6
  refine hK.out _ _ hT (fun _ => ?_)
  clear hK K hS bc J2 A1 A2 P2 hq
  have hS := hT
  clear hT
  try simp only [Act.put, List.setIfInBounds_toArray, List.set_cons_zero, List.set_cons_succ]
  refine wpAnyH_take (i := 10) (v := ?v10z37) rfl (by kernel_rfl) (by kernel_rfl) (by kernel_rfl) (fun _ _ _ h => h) (Or.inl ⟨by rfl, ?hy10z37⟩) (by assumption) ?rest10z37
  case hy10z37 =>
    intro w hSw
    dsimp only [S6f] at hSw
    go_simp
    try with_reducible rfl
  simp only [Act.put, List.getElem_toArray, List.getElem_cons_succ, List.getElem_cons_zero, List.setIfInBounds_toArray, List.set_cons_zero, List.set_cons_succ]
  refine wpAnyH_take (i := 11) (v := ?v11z38) rfl (by kernel_rfl) (by kernel_rfl) (by kernel_rfl) (fun _ _ _ h => h) (Or.inl ⟨by rfl, ?hy11z38⟩) (by assumption) ?rest11z38
  case hy11z38 =>
    intro w hSw
    dsimp only [S6f] at hSw
    go_simp
    try with_reducible rfl
  simp only [Act.put, List.getElem_toArray, List.getElem_cons_succ, List.getElem_cons_zero, List.setIfInBounds_toArray, List.set_cons_zero, List.set_cons_succ]
  refine wpAnyH_done (by kernel_rfl) ?_ _
  refine NoPanic.normal ?_
  clear hS
  have HD := Lib.hid (ntimes_c f.a' q.a' f.k' q.k' f.c' q.c' _ _ _ E1.out.d E2.out.d (by have := E1.out.kd; have := E2.out.kd; omega))
  have x2 := J3.out.x.c2
  have y2 := J3.out.y.c2
  go_wp2_with fail
  clear x2 y2
  (with_reducible refine HD.out.mono ?_)
  rintro e w6 ⟨da, dk, dc, rfl, hd, b6⟩
  have J6 := Lib.hid (J3.out.keep b6)
  have P6 := Lib.hid (P3.out.below b6)
  have Q6 := Lib.hid (Q3_.out.below b6)
  have D6 := Lib.hid hd
  clear hd b6 HD J3 P3 Q3_ E1 E2
  have c0 := J6.out.x.c0
  have d0 := J6.out.y.c0
  by_cases hb : f.b = q.b
  · have hbq : (f.b == q.b) = true := by rw [hb]; simp
    have HB := Lib.hid hb
    clear hb
    go_wp2_with fail
    clear hbq c0 d0
    refine wp_region_noPanic ?_
    refine wp_region_held_drew (S := S6f w.heap.size f q) (by kernel_rfl) (J6.out.keep (Below.refl _ _).drew).s6 (fun hS => ?_)
    have J_0 := Lib.hid (J6.out.keep (Below.refl _ _).drew)
    have D_0 := Lib.hid (D6.out.below (Below.refl _ _).drew)
    have P_0 := Lib.hid (P6.out.below (Below.refl _ _).drew)
    have Q_0 := Lib.hid (Q6.out.below (Below.refl _ _).drew)
    clear J6 D6 P6 Q6
    refine wpAnyH_take (i := 0) (v := ?v0z39) rfl (by kernel_rfl) (by kernel_rfl) (by kernel_rfl) (fun _ _ _ h => h) (Or.inl ⟨by rfl, ?hy0z39⟩) (by assumption) ?rest0z39
    case hy0z39 =>
      intro w hSw
      dsimp only [S6f] at hSw
      go_simp
      try with_reducible rfl
    simp only [Act.put, List.getElem_toArray, List.getElem_cons_succ, List.getElem_cons_zero, List.setIfInBounds_toArray, List.set_cons_zero, List.set_cons_succ]
    refine wpAnyH_take (i := 1) (v := ?v1z40) rfl (by kernel_rfl) (by kernel_rfl) (by kernel_rfl) (fun _ _ _ h => h) (Or.inl ⟨by rfl, ?hy1z40⟩) (by assumption) ?rest1z40
    case hy1z40 =>
      intro w hSw
      dsimp only [S6f] at hSw
      go_simp
      try with_reducible rfl
    simp only [Act.put, List.getElem_toArray, List.getElem_cons_succ, List.getElem_cons_zero, List.setIfInBounds_toArray, List.set_cons_zero, List.set_cons_succ]
    refine wpAnyH_take (i := 2) (v := ?v2z41) rfl (by kernel_rfl) (by kernel_rfl) (by kernel_rfl) (fun _ _ _ h => h) (Or.inl ⟨by rfl, ?hy2z41⟩) (by assumption) ?rest2z41
    case hy2z41 =>
      intro w hSw
      dsimp only [S6f] at hSw
      go_simp
      try with_reducible rfl
    simp only [Act.put, List.getElem_toArray, List.getElem_cons_succ, List.getElem_cons_zero, List.setIfInBounds_toArray, List.set_cons_zero, List.set_cons_succ]
    refine wpAnyH_take (i := 3) (v := ?v3z42) rfl (by kernel_rfl) (by kernel_rfl) (by kernel_rfl) (fun _ _ _ h => h) (Or.inl ⟨by rfl, ?hy3z42⟩) (by assumption) ?rest3z42
    case hy3z42 =>
      intro w hSw
      dsimp only [S6f] at hSw
      go_simp
      try with_reducible rfl
    simp only [Act.put, List.getElem_toArray, List.getElem_cons_succ, List.getElem_cons_zero, List.setIfInBounds_toArray, List.set_cons_zero, List.set_cons_succ]
    refine wpAnyH_take (i := 5) (v := ?v5z43) rfl (by kernel_rfl) (by kernel_rfl) (by kernel_rfl) (fun _ _ _ h => h) (Or.inl ⟨by rfl, ?hy5z43⟩) (by assumption) ?rest5z43
    case hy5z43 =>
      intro w hSw
      dsimp only [S6f] at hSw
      go_simp
      try with_reducible rfl
    simp only [Act.put, List.getElem_toArray, List.getElem_cons_succ, List.getElem_cons_zero, List.setIfInBounds_toArray, List.set_cons_zero, List.set_cons_succ]
    refine wpAnyH_ready (rs := [4]) (by kernel_rfl) (by simp) ?_
    refine AllReadyH.cons rfl (fun K hK => ?_) AllReadyH.nil
    go_simp
    (refine (nplus_c pa qa pk qk pc qc _ _ _ P_0.out Q_0.out (by have := P_0.out.len lp.out; omega) (by have := Q_0.out.len lq.out; omega)).mono ?_)
    rintro e V4J_1 ⟨na, nk, nc, rfl, hn, bc⟩
    try go_simp
    have J_1 := Lib.hid (J_0.out.keep bc)
    have D_1 := Lib.hid (D_0.out.below bc)
    have N_1 := Lib.hid hn
    have hT := J_1.out.s6
    refine hK.out _ _ hT (fun _ => ?_)
    clear hK K hS bc J_0 D_0 hn
    have hS := hT
    clear hT
    try simp only [Act.put, List.setIfInBounds_toArray, List.set_cons_zero, List.set_cons_succ]
    clear P_0 Q_0
    refine wpAnyH_take (i := 6) (v := ?v6z44) rfl (by kernel_rfl) (by kernel_rfl) (by kernel_rfl) (fun _ _ _ h => h) (Or.inl ⟨by rfl, ?hy6z44⟩) (by assumption) ?rest6z44
    case hy6z44 =>
      intro w hSw
      dsimp only [S6f] at hSw
      go_simp
      try with_reducible rfl
    simp only [Act.put, List.getElem_toArray, List.getElem_cons_succ, List.getElem_cons_zero, List.setIfInBounds_toArray, List.set_cons_zero, List.set_cons_succ]
    have HR := fun W (x1 : Nt W na nk nc (n1 * d2 + n2 * d1)) (x2 : Nt W da dk dc (d1 * d2)) => reduced_c f.b na da nc dc nk dk (n1 * d2 + n2 * d1) (d1 * d2) W x1 x2 ld.out.2 (Nat.lt_of_lt_of_le (tp_sumX lp.out lq.out) (tp_mono (by omega))) (Nat.lt_of_lt_of_le ld.out.1 (tp_mono (by omega)))
    have ev : sg f.b (n1 * d2 + n2 * d1) = sg f.b (n1 * d2) + sg q.b (n2 * d1) := by rw [sg_same, HB.out]
    rw [ev] at HR
    have HR := Lib.hid HR
    clear ev
    refine wpAnyH_ready (rs := [7]) (by kernel_rfl) (by simp) ?_
    refine AllReadyH.cons rfl (fun K hK => ?_) AllReadyH.nil
    go_simp
    (refine (HR.out _ N_1.out D_1.out).mono ?_)
    rintro e V7J_2 ⟨sb, n', d', ⟨qa, qk, qc, pa, pk, pc, rfl, rn, rd, bc⟩, hd', hv, hsz⟩
    try go_simp
    have J_2 := Lib.hid (J_1.out.keep bc)
    have RN := Lib.hid rn
    have RD := Lib.hid rd
    have RV := Lib.hid (And.intro hd' (And.intro hv hsz))
    have hT := J_2.out.s6
    refine hK.out _ _ hT (fun _ => ?_)
    clear hK K hS bc J_1  rn rd
    have hS := hT
    clear hT
    try simp only [Act.put, List.setIfInBounds_toArray, List.set_cons_zero, List.set_cons_succ]
    clear N_1 D_1 HR
    refine wpAnyH_ready (rs := [8]) (by kernel_rfl) (by simp) ?_
    refine AllReadyH.cons rfl (fun K hK => ?_) AllReadyH.nil
    have q0 := J_2.out.r.c0
    have q1 := J_2.out.r.c1
    have q2 := J_2.out.r.c2
    have g0 := J_2.out.r.fr 0
    have g1 := J_2.out.r.fr 1
    have g2 := J_2.out.r.fr 2
    go_simp
    clear q0 q1 q2 g0 g1 g2
    have hT := J_2.out.done (.bool sb) (.slice qa qk qc) (.slice pa pk pc)
    have R9 := J_2.out.r.set (.bool sb) (.slice qa qk qc) (.slice pa pk pc)
    have PP : Hid (FvP (sg f.b (n1 * d2) + sg q.b (n2 * d1)) (d1 * d2) w (.returned (.agg #[.bool sb, .slice qa qk qc, .slice pa pk pc])) (trio _ (w.heap.size + 1 + 1) (.bool sb) (.slice qa qk qc) (.slice pa pk pc))) :=
      ⟨sb, n', d', ⟨_, _, _, _, _, _, rfl, RN.out.trio J_2.out.r (NI.b _) (NI.s _ _ _) (NI.s _ _ _) _ _ _, RD.out.trio J_2.out.r (NI.b _) (NI.s _ _ _) (NI.s _ _ _) _ _ _, below_trio J_2.out.bel (by omega) _ _ _⟩, RV.out.1, RV.out.2.1, RV.out.2.2⟩
    clear RN RD RV
    unfold trio at hT R9 PP
    refine hK.out _ _ hT (fun _ => ?_)
    clear hK K hS
    try simp only [Act.put, List.setIfInBounds_toArray, List.set_cons_zero, List.set_cons_succ]
    refine wpAnyH_done (by kernel_rfl) ?_ _
    refine NoPanic.normal ?_
    obtain ⟨r0, r1, r2, _, _⟩ := id R9
    clear hT R9
    go_wp2_with fail
    exact bodyPost_ret (v := .agg #[.bool sb, .slice qa qk qc, .slice pa pk pc]) (by simp [results, Tryz.results49, go_sem, r0, r1, r2]) rfl PP.out
  · have hbq : (f.b == q.b) = false := by rw [beq_eq_false_iff_ne]; exact hb
    have HB := Lib.hid hb
    clear hb
    have HO := Lib.hid (norder_c pa qa pk qk pc qc _ _ w6 P6.out Q6.out)
    by_cases hle : n2 * d1 ≤ n1 * d2
    · have HLE := Lib.hid hle
      obtain ⟨so, hso⟩ : ∃ so, sgn (n1 * d2) (n2 * d1) = so := ⟨_, rfl⟩
      have hs0 : 0 ≤ so := by rw [← hso]; unfold sgn; split <;> (try split) <;> omega
      rw [hso] at HO
      clear hso hle
      go_wp2_with fail
      clear hbq c0 d0
      (with_reducible refine HO.out.mono ?_)
      rintro e w8 ⟨rfl, m, rfl⟩
      have b8 := bel_drewN w6 m
      have J7 := Lib.hid (J6.out.keep b8)
      have D7 := Lib.hid (D6.out.below b8)
      have P7 := Lib.hid (P6.out.below b8)
      have Q7 := Lib.hid (Q6.out.below b8)
      clear J6 D6 P6 Q6 b8 HO
      generalize w6.drewN m = W7 at *
      go_wp2_with fail
      clear hs0
      refine wp_region_noPanic ?_
      refine wp_region_held_drew (S := S6f w.heap.size f q) (by kernel_rfl) (J7.out.keep (Below.refl _ _).drew).s6 (fun hS => ?_)
      have J_0 := Lib.hid (J7.out.keep (Below.refl _ _).drew)
      have D_0 := Lib.hid (D7.out.below (Below.refl _ _).drew)
      have P_0 := Lib.hid (P7.out.below (Below.refl _ _).drew)
      have Q_0 := Lib.hid (Q7.out.below (Below.refl _ _).drew)
      clear J7 D7 P7 Q7
      refine wpAnyH_take (i := 0) (v := ?v0z45) rfl (by kernel_rfl) (by kernel_rfl) (by kernel_rfl) (fun _ _ _ h => h) (Or.inl ⟨by rfl, ?hy0z45⟩) (by assumption) ?rest0z45
      case hy0z45 =>
        intro w hSw
        dsimp only [S6f] at hSw
        go_simp
        try with_reducible rfl
      simp only [Act.put, List.getElem_toArray, List.getElem_cons_succ, List.getElem_cons_zero, List.setIfInBounds_toArray, List.set_cons_zero, List.set_cons_succ]
      refine wpAnyH_take (i := 1) (v := ?v1z46) rfl (by kernel_rfl) (by kernel_rfl) (by kernel_rfl) (fun _ _ _ h => h) (Or.inl ⟨by rfl, ?hy1z46⟩) (by assumption) ?rest1z46
      case hy1z46 =>
        intro w hSw
        dsimp only [S6f] at hSw
        go_simp
        try with_reducible rfl
      simp only [Act.put, List.getElem_toArray, List.getElem_cons_succ, List.getElem_cons_zero, List.setIfInBounds_toArray, List.set_cons_zero, List.set_cons_succ]
      refine wpAnyH_take (i := 2) (v := ?v2z47) rfl (by kernel_rfl) (by kernel_rfl) (by kernel_rfl) (fun _ _ _ h => h) (Or.inl ⟨by rfl, ?hy2z47⟩) (by assumption) ?rest2z47
      case hy2z47 =>
        intro w hSw
        dsimp only [S6f] at hSw
        go_simp
        try with_reducible rfl
      simp only [Act.put, List.getElem_toArray, List.getElem_cons_succ, List.getElem_cons_zero, List.setIfInBounds_toArray, List.set_cons_zero, List.set_cons_succ]
      refine wpAnyH_take (i := 3) (v := ?v3z48) rfl (by kernel_rfl) (by kernel_rfl) (by kernel_rfl) (fun _ _ _ h => h) (Or.inl ⟨by rfl, ?hy3z48⟩) (by assumption) ?rest3z48
      case hy3z48 =>
        intro w hSw
        dsimp only [S6f] at hSw
        go_simp
        try with_reducible rfl
      simp only [Act.put, List.getElem_toArray, List.getElem_cons_succ, List.getElem_cons_zero, List.setIfInBounds_toArray, List.set_cons_zero, List.set_cons_succ]
      refine wpAnyH_take (i := 5) (v := ?v5z49) rfl (by kernel_rfl) (by kernel_rfl) (by kernel_rfl) (fun _ _ _ h => h) (Or.inl ⟨by rfl, ?hy5z49⟩) (by assumption) ?rest5z49
      case hy5z49 =>
        intro w hSw
        dsimp only [S6f] at hSw
        go_simp
        try with_reducible rfl
      simp only [Act.put, List.getElem_toArray, List.getElem_cons_succ, List.getElem_cons_zero, List.setIfInBounds_toArray, List.set_cons_zero, List.set_cons_succ]
      refine wpAnyH_ready (rs := [4]) (by kernel_rfl) (by simp) ?_
      refine AllReadyH.cons rfl (fun K hK => ?_) AllReadyH.nil
      go_simp
      (refine (nminus_c pa qa pk qk pc qc _ _ _ P_0.out Q_0.out HLE.out (by have := P_0.out.len lp.out; omega)).mono ?_)
      rintro e V4J_1 ⟨na, nk, nc, rfl, hn, bc⟩
      try go_simp
      have J_1 := Lib.hid (J_0.out.keep bc)
      have D_1 := Lib.hid (D_0.out.below bc)
      have N_1 := Lib.hid hn
      have hT := J_1.out.s6
      refine hK.out _ _ hT (fun _ => ?_)
      clear hK K hS bc J_0 D_0 hn
      have hS := hT
      clear hT
      try simp only [Act.put, List.setIfInBounds_toArray, List.set_cons_zero, List.set_cons_succ]
      clear P_0 Q_0
      refine wpAnyH_take (i := 6) (v := ?v6z50) rfl (by kernel_rfl) (by kernel_rfl) (by kernel_rfl) (fun _ _ _ h => h) (Or.inl ⟨by rfl, ?hy6z50⟩) (by assumption) ?rest6z50
      case hy6z50 =>
        intro w hSw
        dsimp only [S6f] at hSw
        go_simp
        try with_reducible rfl
      simp only [Act.put, List.getElem_toArray, List.getElem_cons_succ, List.getElem_cons_zero, List.setIfInBounds_toArray, List.set_cons_zero, List.set_cons_succ]
      have HR := fun W (x1 : Nt W na nk nc (n1 * d2 - n2 * d1)) (x2 : Nt W da dk dc (d1 * d2)) => reduced_c f.b na da nc dc nk dk (n1 * d2 - n2 * d1) (d1 * d2) W x1 x2 ld.out.2 (Nat.lt_of_lt_of_le (Nat.lt_of_le_of_lt (Nat.sub_le _ _) lp.out) (tp_mono (by omega))) (Nat.lt_of_lt_of_le ld.out.1 (tp_mono (by omega)))
      have ev : sg f.b (n1 * d2 - n2 * d1) = sg f.b (n1 * d2) + sg q.b (n2 * d1) := by rw [sg_diff HB.out HLE.out]
      rw [ev] at HR
      have HR := Lib.hid HR
      clear ev
      refine wpAnyH_ready (rs := [7]) (by kernel_rfl) (by simp) ?_
      refine AllReadyH.cons rfl (fun K hK => ?_) AllReadyH.nil
      go_simp
      (refine (HR.out _ N_1.out D_1.out).mono ?_)
      rintro e V7J_2 ⟨sb, n', d', ⟨qa, qk, qc, pa, pk, pc, rfl, rn, rd, bc⟩, hd', hv, hsz⟩
      try go_simp
      have J_2 := Lib.hid (J_1.out.keep bc)
      have RN := Lib.hid rn
      have RD := Lib.hid rd
      have RV := Lib.hid (And.intro hd' (And.intro hv hsz))
      have hT := J_2.out.s6
      refine hK.out _ _ hT (fun _ => ?_)
      clear hK K hS bc J_1  rn rd
      have hS := hT
      clear hT
      try simp only [Act.put, List.setIfInBounds_toArray, List.set_cons_zero, List.set_cons_succ]
      clear N_1 D_1 HR
      refine wpAnyH_ready (rs := [8]) (by kernel_rfl) (by simp) ?_
      refine AllReadyH.cons rfl (fun K hK => ?_) AllReadyH.nil
      have q0 := J_2.out.r.c0
      have q1 := J_2.out.r.c1
      have q2 := J_2.out.r.c2
      have g0 := J_2.out.r.fr 0
      have g1 := J_2.out.r.fr 1
      have g2 := J_2.out.r.fr 2
      go_simp
      clear q0 q1 q2 g0 g1 g2
      have hT := J_2.out.done (.bool sb) (.slice qa qk qc) (.slice pa pk pc)
      have R9 := J_2.out.r.set (.bool sb) (.slice qa qk qc) (.slice pa pk pc)
      have PP : Hid (FvP (sg f.b (n1 * d2) + sg q.b (n2 * d1)) (d1 * d2) w (.returned (.agg #[.bool sb, .slice qa qk qc, .slice pa pk pc])) (trio _ (w.heap.size + 1 + 1) (.bool sb) (.slice qa qk qc) (.slice pa pk pc))) :=
        ⟨sb, n', d', ⟨_, _, _, _, _, _, rfl, RN.out.trio J_2.out.r (NI.b _) (NI.s _ _ _) (NI.s _ _ _) _ _ _, RD.out.trio J_2.out.r (NI.b _) (NI.s _ _ _) (NI.s _ _ _) _ _ _, below_trio J_2.out.bel (by omega) _ _ _⟩, RV.out.1, RV.out.2.1, RV.out.2.2⟩
      clear RN RD RV
      unfold trio at hT R9 PP
      refine hK.out _ _ hT (fun _ => ?_)
      clear hK K hS
      try simp only [Act.put, List.setIfInBounds_toArray, List.set_cons_zero, List.set_cons_succ]
      refine wpAnyH_done (by kernel_rfl) ?_ _
      refine NoPanic.normal ?_
      obtain ⟨r0, r1, r2, _, _⟩ := id R9
      clear hT R9
      go_wp2_with fail
      exact bodyPost_ret (v := .agg #[.bool sb, .slice qa qk qc, .slice pa pk pc]) (by simp [results, Tryz.results49, go_sem, r0, r1, r2]) rfl PP.out
    · have HLE : Hid (n1 * d2 ≤ n2 * d1) := by unfold Hid; omega
      obtain ⟨so, hso⟩ : ∃ so, sgn (n1 * d2) (n2 * d1) = so := ⟨_, rfl⟩
      have hs0 : ¬ 0 ≤ so := by rw [← hso]; rw [sgn_lt (by omega)]; decide
      rw [hso] at HO
      clear hso hle
      go_wp2_with fail
      clear hbq c0 d0
      (with_reducible refine HO.out.mono ?_)
      rintro e w8 ⟨rfl, m, rfl⟩
      have b8 := bel_drewN w6 m
      have J7 := Lib.hid (J6.out.keep b8)
      have D7 := Lib.hid (D6.out.below b8)
      have P7 := Lib.hid (P6.out.below b8)
      have Q7 := Lib.hid (Q6.out.below b8)
      clear J6 D6 P6 Q6 b8 HO
      generalize w6.drewN m = W7 at *
      go_wp2_with fail
      clear hs0
      refine wp_region_noPanic ?_
      refine wp_region_held_drew (S := S6f w.heap.size f q) (by kernel_rfl) (J7.out.keep (Below.refl _ _).drew).s6 (fun hS => ?_)
      have J_0 := Lib.hid (J7.out.keep (Below.refl _ _).drew)
      have D_0 := Lib.hid (D7.out.below (Below.refl _ _).drew)
      have P_0 := Lib.hid (P7.out.below (Below.refl _ _).drew)
      have Q_0 := Lib.hid (Q7.out.below (Below.refl _ _).drew)
      clear J7 D7 P7 Q7
      refine wpAnyH_take (i := 0) (v := ?v0z51) rfl (by kernel_rfl) (by kernel_rfl) (by kernel_rfl) (fun _ _ _ h => h) (Or.inl ⟨by rfl, ?hy0z51⟩) (by assumption) ?rest0z51
      case hy0z51 =>
        intro w hSw
        dsimp only [S6f] at hSw
        go_simp
        try with_reducible rfl
      simp only [Act.put, List.getElem_toArray, List.getElem_cons_succ, List.getElem_cons_zero, List.setIfInBounds_toArray, List.set_cons_zero, List.set_cons_succ]
      refine wpAnyH_take (i := 1) (v := ?v1z52) rfl (by kernel_rfl) (by kernel_rfl) (by kernel_rfl) (fun _ _ _ h => h) (Or.inl ⟨by rfl, ?hy1z52⟩) (by assumption) ?rest1z52
      case hy1z52 =>
        intro w hSw
        dsimp only [S6f] at hSw
        go_simp
        try with_reducible rfl
      simp only [Act.put, List.getElem_toArray, List.getElem_cons_succ, List.getElem_cons_zero, List.setIfInBounds_toArray, List.set_cons_zero, List.set_cons_succ]
      refine wpAnyH_take (i := 2) (v := ?v2z53) rfl (by kernel_rfl) (by kernel_rfl) (by kernel_rfl) (fun _ _ _ h => h) (Or.inl ⟨by rfl, ?hy2z53⟩) (by assumption) ?rest2z53
      case hy2z53 =>
        intro w hSw
        dsimp only [S6f] at hSw
        go_simp
        try with_reducible rfl
      simp only [Act.put, List.getElem_toArray, List.getElem_cons_succ, List.getElem_cons_zero, List.setIfInBounds_toArray, List.set_cons_zero, List.set_cons_succ]
      refine wpAnyH_take (i := 3) (v := ?v3z54) rfl (by kernel_rfl) (by kernel_rfl) (by kernel_rfl) (fun _ _ _ h => h) (Or.inl ⟨by rfl, ?hy3z54⟩) (by assumption) ?rest3z54
      case hy3z54 =>
        intro w hSw
        dsimp only [S6f] at hSw
        go_simp
        try with_reducible rfl
      simp only [Act.put, List.getElem_toArray, List.getElem_cons_succ, List.getElem_cons_zero, List.setIfInBounds_toArray, List.set_cons_zero, List.set_cons_succ]
      refine wpAnyH_take (i := 5) (v := ?v5z55) rfl (by kernel_rfl) (by kernel_rfl) (by kernel_rfl) (fun _ _ _ h => h) (Or.inl ⟨by rfl, ?hy5z55⟩) (by assumption) ?rest5z55
      case hy5z55 =>
        intro w hSw
        dsimp only [S6f] at hSw
        go_simp
        try with_reducible rfl
      simp only [Act.put, List.getElem_toArray, List.getElem_cons_succ, List.getElem_cons_zero, List.setIfInBounds_toArray, List.set_cons_zero, List.set_cons_succ]
      refine wpAnyH_ready (rs := [4]) (by kernel_rfl) (by simp) ?_
      refine AllReadyH.cons rfl (fun K hK => ?_) AllReadyH.nil
      go_simp
      (refine (nminus_c qa pa qk pk qc pc _ _ _ Q_0.out P_0.out HLE.out (by have := Q_0.out.len lq.out; omega)).mono ?_)
      rintro e V4J_1 ⟨na, nk, nc, rfl, hn, bc⟩
      try go_simp
      have J_1 := Lib.hid (J_0.out.keep bc)
      have D_1 := Lib.hid (D_0.out.below bc)
      have N_1 := Lib.hid hn
      have hT := J_1.out.s6
      refine hK.out _ _ hT (fun _ => ?_)
      clear hK K hS bc J_0 D_0 hn
      have hS := hT
      clear hT
      try simp only [Act.put, List.setIfInBounds_toArray, List.set_cons_zero, List.set_cons_succ]
      clear P_0 Q_0
      refine wpAnyH_take (i := 6) (v := ?v6z56) rfl (by kernel_rfl) (by kernel_rfl) (by kernel_rfl) (fun _ _ _ h => h) (Or.inl ⟨by rfl, ?hy6z56⟩) (by assumption) ?rest6z56
      case hy6z56 =>
        intro w hSw
        dsimp only [S6f] at hSw
        go_simp
        try with_reducible rfl
      simp only [Act.put, List.getElem_toArray, List.getElem_cons_succ, List.getElem_cons_zero, List.setIfInBounds_toArray, List.set_cons_zero, List.set_cons_succ]
      have HR := fun W (x1 : Nt W na nk nc (n2 * d1 - n1 * d2)) (x2 : Nt W da dk dc (d1 * d2)) => reduced_c q.b na da nc dc nk dk (n2 * d1 - n1 * d2) (d1 * d2) W x1 x2 ld.out.2 (Nat.lt_of_lt_of_le (Nat.lt_of_le_of_lt (Nat.sub_le _ _) lq.out) (tp_mono (by omega))) (Nat.lt_of_lt_of_le ld.out.1 (tp_mono (by omega)))
      have ev : sg q.b (n2 * d1 - n1 * d2) = sg f.b (n1 * d2) + sg q.b (n2 * d1) := by rw [sg_diff (Ne.symm HB.out) HLE.out, Int.add_comm]
      rw [ev] at HR
      have HR := Lib.hid HR
      clear ev
      refine wpAnyH_ready (rs := [7]) (by kernel_rfl) (by simp) ?_
      refine AllReadyH.cons rfl (fun K hK => ?_) AllReadyH.nil
      go_simp
      (refine (HR.out _ N_1.out D_1.out).mono ?_)
      rintro e V7J_2 ⟨sb, n', d', ⟨qa, qk, qc, pa, pk, pc, rfl, rn, rd, bc⟩, hd', hv, hsz⟩
      try go_simp
      have J_2 := Lib.hid (J_1.out.keep bc)
      have RN := Lib.hid rn
      have RD := Lib.hid rd
      have RV := Lib.hid (And.intro hd' (And.intro hv hsz))
      have hT := J_2.out.s6
      refine hK.out _ _ hT (fun _ => ?_)
      clear hK K hS bc J_1  rn rd
      have hS := hT
      clear hT
      try simp only [Act.put, List.setIfInBounds_toArray, List.set_cons_zero, List.set_cons_succ]
      clear N_1 D_1 HR
      refine wpAnyH_ready (rs := [8]) (by kernel_rfl) (by simp) ?_
      refine AllReadyH.cons rfl (fun K hK => ?_) AllReadyH.nil
      have q0 := J_2.out.r.c0
      have q1 := J_2.out.r.c1
      have q2 := J_2.out.r.c2
      have g0 := J_2.out.r.fr 0
      have g1 := J_2.out.r.fr 1
      have g2 := J_2.out.r.fr 2
      go_simp
      clear q0 q1 q2 g0 g1 g2
      have hT := J_2.out.done (.bool sb) (.slice qa qk qc) (.slice pa pk pc)
      have R9 := J_2.out.r.set (.bool sb) (.slice qa qk qc) (.slice pa pk pc)
      have PP : Hid (FvP (sg f.b (n1 * d2) + sg q.b (n2 * d1)) (d1 * d2) w (.returned (.agg #[.bool sb, .slice qa qk qc, .slice pa pk pc])) (trio _ (w.heap.size + 1 + 1) (.bool sb) (.slice qa qk qc) (.slice pa pk pc))) :=
        ⟨sb, n', d', ⟨_, _, _, _, _, _, rfl, RN.out.trio J_2.out.r (NI.b _) (NI.s _ _ _) (NI.s _ _ _) _ _ _, RD.out.trio J_2.out.r (NI.b _) (NI.s _ _ _) (NI.s _ _ _) _ _ _, below_trio J_2.out.bel (by omega) _ _ _⟩, RV.out.1, RV.out.2.1, RV.out.2.2⟩
      clear RN RD RV
      unfold trio at hT R9 PP
      refine hK.out _ _ hT (fun _ => ?_)
      clear hK K hS
      try simp only [Act.put, List.setIfInBounds_toArray, List.set_cons_zero, List.set_cons_succ]
      refine wpAnyH_done (by kernel_rfl) ?_ _
      refine NoPanic.normal ?_
      obtain ⟨r0, r1, r2, _, _⟩ := id R9
      clear hT R9
      go_wp2_with fail
      exact bodyPost_ret (v := .agg #[.bool sb, .slice qa qk qc, .slice pa pk pc]) (by simp [results, Tryz.results49, go_sem, r0, r1, r2]) rfl PP.out
end Go.Proofs.YtchdfekajjeflaaGreatDoor
namespace Go.Proofs.YtchdfekajjeflaaGreatDoor
open Go.RowKit

theorem sg_not (b : Bool) (n : Nat) : sg (!b) n = -(sg b n) := by cases b <;> simp [sg]
set_option maxRecDepth 100000 in
set_option maxHeartbeats 4000000 in
theorem opposite_c (b : Bool) (a a2 : Option Addr) (k k2 c c2 : Nat) (w : World) :
    Calls Tryz.prog 50 #[.agg #[.bool b, .slice a k c, .slice a2 k2 c2]] w fun e w' => e = .returned (.agg #[.bool (!b), .slice a k c, .slice a2 k2 c2]) ∧ Below w.heap.size w w' := by
  obtain ⟨W0, hW0⟩ : ∃ W0, (w.alloc (.cells #[.bool b, .slice a k c, .slice a2 k2 c2] 50)).alloc (.cells #[.bool false, .slice none 0 0, .slice none 0 0] 50) = W0 := ⟨_, rfl⟩
  have J0 : Hid (Lo w b a k c a2 k2 c2 W0) := by rw [← hW0]; exact Lo.made _ _ _ _ _ _ _ _ _ _
  obtain ⟨WX, hWX⟩ : ∃ WX, trio W0 (w.heap.size + 1) (.bool (!b)) (.slice a k c) (.slice a2 k2 c2) = WX := ⟨_, rfl⟩
  have RX : Q3 WX (w.heap.size + 1) (.bool (!b)) (.slice a k c) (.slice a2 k2 c2) := by rw [← hWX]; exact J0.out.r.set _ _ _
  have BX : Hid (Below w.heap.size w WX) := by rw [← hWX]; exact below_trio J0.out.bel (Nat.le_succ _) _ _ _
  have x0 := J0.out.x.c0
  have x1 := J0.out.x.c1
  have x2 := J0.out.x.c2
  obtain ⟨r0, r1, r2, rf, _⟩ := J0.out.r
  have rf0 := rf 0
  have rf1 := rf 1
  have rf2 := rf 2
  obtain ⟨t0, t1, t2, _, _⟩ := id RX
  clear RX rf J0
  unfold trio at hWX
  go_enter Tryz.func50, Tryz.ntmps50
  go_wp2_with fail
  exact bodyPost_ret (v := .agg #[.bool (!b), .slice a k c, .slice a2 k2 c2]) (by simp [results, Tryz.results50, go_sem, t0, t1, t2]) rfl ⟨rfl, BX.out⟩
set_option maxRecDepth 100000 in
set_option maxHeartbeats 4000000 in
theorem minus_c (f q : Fa) (n1 d1 n2 d2 : Nat) (w : World) (h1 : Fn w f n1 d1) (h2 : Fn w q n2 d2) :
    Calls Tryz.prog 29 #[.agg #[.bool f.b, .slice f.a f.k f.c, .slice f.a' f.k' f.c'], .agg #[.bool q.b, .slice q.a q.k q.c, .slice q.a' q.k' q.c']] w (FvP (sg f.b (n1 * d2) - sg q.b (n2 * d1)) (d1 * d2) w) := by
  obtain ⟨W0, hW0⟩ : ∃ W0, ((w.alloc (.cells #[.bool f.b, .slice f.a f.k f.c, .slice f.a' f.k' f.c'] 50)).alloc (.cells #[.bool q.b, .slice q.a q.k q.c, .slice q.a' q.k' q.c'] 50)).alloc (.cells #[.bool false, .slice none 0 0, .slice none 0 0] 50) = W0 := ⟨_, rfl⟩
  have J0 : Hid (Ar w f q W0) := by rw [← hW0]; exact Ar.made _ _ _ _ _ _
  have L1 := Lib.hid (h1.below J0.out.bel)
  have L2 := Lib.hid (h2.below J0.out.bel)
  have HP : Hid (∀ W, Fn W f n1 d1 → Fn W q n2 d2 → Calls Tryz.prog 49 #[.agg #[.bool f.b, .slice f.a f.k f.c, .slice f.a' f.k' f.c'], .agg #[.bool (!q.b), .slice q.a q.k q.c, .slice q.a' q.k' q.c']] W (FvP (sg f.b (n1 * d2) - sg q.b (n2 * d1)) (d1 * d2) W)) := fun W u v => by
    have h := plus_c f ⟨!q.b, q.a, q.k, q.c, q.a', q.k', q.c'⟩ n1 d1 n2 d2 W u ⟨v.n, v.d, v.pos, v.ln, v.ld⟩
    have e : sg f.b (n1 * d2) + sg (!q.b) (n2 * d1) = sg f.b (n1 * d2) - sg q.b (n2 * d1) := by rw [sg_not, Int.sub_eq_add_neg]
    rw [← e]
    exact h
  clear h1 h2
  go_enter Tryz.func29, Tryz.ntmps29
  go_wp2_with fail
  clear hW0
  refine wp_region_noPanic ?_
  refine wp_region_held_drew (S := S6f w.heap.size f q) (by kernel_rfl) (J0.out.keep (Below.refl _ _).drew).s6 (fun hS => ?_)
  have J1 := Lib.hid (J0.out.keep (Below.refl _ _).drew)
  have M1 := Lib.hid (L1.out.below (Below.refl _ _).drew)
  have M2 := Lib.hid (L2.out.below (Below.refl _ _).drew)
  clear J0 L1 L2
  refine wpAnyH_take (i := 0) (v := ?v0z1) rfl (by kernel_rfl) (by kernel_rfl) (by kernel_rfl) (fun _ _ _ h => h) (Or.inl ⟨by rfl, ?hy0z1⟩) (by assumption) ?rest0z1
  case hy0z1 =>
    intro w hSw
    dsimp only [S6f] at hSw
    go_simp
    try with_reducible rfl
  simp only [Act.put, List.getElem_toArray, List.getElem_cons_succ, List.getElem_cons_zero, List.setIfInBounds_toArray, List.set_cons_zero, List.set_cons_succ]
  refine wpAnyH_take (i := 1) (v := ?v1z2) rfl (by kernel_rfl) (by kernel_rfl) (by kernel_rfl) (fun _ _ _ h => h) (Or.inl ⟨by rfl, ?hy1z2⟩) (by assumption) ?rest1z2
  case hy1z2 =>
    intro w hSw
    dsimp only [S6f] at hSw
    go_simp
    try with_reducible rfl
  simp only [Act.put, List.getElem_toArray, List.getElem_cons_succ, List.getElem_cons_zero, List.setIfInBounds_toArray, List.set_cons_zero, List.set_cons_succ]
  refine wpAnyH_ready (rs := [2]) (by kernel_rfl) (by simp) ?_
  refine AllReadyH.cons rfl (fun K hK => ?_) AllReadyH.nil
  go_simp
  (refine (opposite_c q.b q.a q.a' q.k q.k' q.c q.c' _).mono ?_)
  rintro e V2J2 ⟨rfl, bc⟩
  try go_simp
  have J2 := Lib.hid (J1.out.keep bc)
  have A1 := Lib.hid (M1.out.below bc)
  have A2 := Lib.hid (M2.out.below bc)
  have hT := J2.out.s6
  refine hK.out _ _ hT (fun _ => ?_)
  clear hK K hS bc J1 M1 M2 
  have hS := hT
  clear hT
  try simp only [Act.put, List.setIfInBounds_toArray, List.set_cons_zero, List.set_cons_succ]
  refine wpAnyH_ready (rs := [3]) (by kernel_rfl) (by simp) ?_
  refine AllReadyH.cons rfl (fun K hK => ?_) AllReadyH.nil
  go_simp
  (refine (HP.out _ A1.out A2.out).mono ?_)
  rintro e V3J4 ⟨sb, n', d', ⟨qa, qk, qc, pa, pk, pc, rfl, rn, rd, bc⟩, hd', hv, hsz⟩
  try go_simp
  have J4 := Lib.hid (J2.out.keep bc)
  have RN := Lib.hid rn
  have RD := Lib.hid rd
  have RV := Lib.hid (And.intro hd' (And.intro hv hsz))
  have hT := J4.out.s6
  refine hK.out _ _ hT (fun _ => ?_)
  clear hK K hS bc J2  rn rd
  have hS := hT
  clear hT
  try simp only [Act.put, List.setIfInBounds_toArray, List.set_cons_zero, List.set_cons_succ]
  clear A1 A2 HP
  refine wpAnyH_ready (rs := [4]) (by kernel_rfl) (by simp) ?_
  refine AllReadyH.cons rfl (fun K hK => ?_) AllReadyH.nil
  have q0 := J4.out.r.c0
  have q1 := J4.out.r.c1
  have q2 := J4.out.r.c2
  have g0 := J4.out.r.fr 0
  have g1 := J4.out.r.fr 1
  have g2 := J4.out.r.fr 2
  go_simp
  clear q0 q1 q2 g0 g1 g2
  have hT := J4.out.done (.bool sb) (.slice qa qk qc) (.slice pa pk pc)
  have R9 := J4.out.r.set (.bool sb) (.slice qa qk qc) (.slice pa pk pc)
  have PP : Hid (FvP (sg f.b (n1 * d2) - sg q.b (n2 * d1)) (d1 * d2) w (.returned (.agg #[.bool sb, .slice qa qk qc, .slice pa pk pc])) (trio _ (w.heap.size + 1 + 1) (.bool sb) (.slice qa qk qc) (.slice pa pk pc))) :=
    ⟨sb, n', d', ⟨_, _, _, _, _, _, rfl, RN.out.trio J4.out.r (NI.b _) (NI.s _ _ _) (NI.s _ _ _) _ _ _, RD.out.trio J4.out.r (NI.b _) (NI.s _ _ _) (NI.s _ _ _) _ _ _, below_trio J4.out.bel (by omega) _ _ _⟩, RV.out.1, RV.out.2.1, RV.out.2.2⟩
  clear RN RD RV
  unfold trio at hT R9 PP
  refine hK.out _ _ hT (fun _ => ?_)
  clear hK K hS
  try simp only [Act.put, List.setIfInBounds_toArray, List.set_cons_zero, List.set_cons_succ]
  refine wpAnyH_done (by kernel_rfl) ?_ _
  refine NoPanic.normal ?_
  obtain ⟨r0, r1, r2, _, _⟩ := id R9
  clear hT R9
  go_wp2_with fail
  exact bodyPost_ret (v := .agg #[.bool sb, .slice qa qk qc, .slice pa pk pc]) (by simp [results, Tryz.results29, go_sem, r0, r1, r2]) rfl PP.out
set_option maxRecDepth 100000 in
set_option maxHeartbeats 4000000 in
theorem zero_c (b : Bool) (a a2 : Option Addr) (k k2 c c2 : Nat) (n : Nat) (w : World) (h : Nt w a k c n) :
    Calls Tryz.prog 30 #[.agg #[.bool b, .slice a k c, .slice a2 k2 c2]] w fun e w' => e = .returned (.bool (decide (n = 0))) ∧ Below w.heap.size w w' := by
  obtain ⟨W0, hW0⟩ : ∃ W0, w.alloc (.cells #[.bool b, .slice a k c, .slice a2 k2 c2] 50) = W0 := ⟨_, rfl⟩
  have J0 : Q3 W0 w.heap.size (.bool b) (.slice a k c) (.slice a2 k2 c2) := by rw [← hW0]; exact Q3.made _ _ _ _ _
  have BX : Hid (Below w.heap.size w W0) := by rw [← hW0]; exact bel_one _ _
  have x1 := J0.c1
  by_cases hn : n = 0
  · subst hn
    obtain rfl := h.nul
    clear h J0
    go_enter Tryz.func30, Tryz.ntmps30
    go_wp2_with fail
    exact bodyPost_ret (v := .bool true) (by simp [results, Tryz.results30, go_sem]) rfl ⟨rfl, BX.out⟩
  · have hk : 0 < k := h.one (by omega)
    have hkI : ¬ (k : Int) = 0 := by omega
    have hkN : ¬ k = 0 := by omega
    have e : decide (n = 0) = false := decide_eq_false hn
    rw [e]
    clear h J0 e hn
    go_enter Tryz.func30, Tryz.ntmps30
    go_wp2_with fail
    exact bodyPost_ret (v := .bool false) (by simp [results, Tryz.results30, go_sem, hkN]) rfl ⟨rfl, BX.out⟩
set_option maxRecDepth 100000 in
set_option maxHeartbeats 4000000 in
theorem whole_pos (x : Nat) (w : World) (hx : x < 9223372036854775808) :
    Calls Tryz.prog 16 #[.int .i64 x] w (FqP false x 1 w) := by
  obtain ⟨W0, hW0⟩ : ∃ W0, w.alloc (.cells #[.bool false, .slice none 0 0, .slice none 0 0] 50) = W0 := ⟨_, rfl⟩
  have J0 : Hid (Q3 W0 w.heap.size (.bool false) (.slice none 0 0) (.slice none 0 0)) := by rw [← hW0]; exact Q3.made _ _ _ _ _
  have B0 : Hid (Below w.heap.size w W0) := by rw [← hW0]; exact bel_one _ _
  have hxI : ¬ (x : Int) < 0 := by omega
  have H1 := Lib.hid (fun W => nsmall_c (x) W hx)
  have H2 := Lib.hid (fun W => nsmall_c (1) W (by decide))
  go_enter Tryz.func16, Tryz.ntmps16
  go_wp2_with fail
  clear hW0
  refine (H1.out _).mono ?_
  rintro e w1 ⟨qa, qk, qc, rfl, l1, b1⟩
  have J1 := Lib.hid (J0.out.keep b1)
  have B1 := Lib.hid (B0.out.trans (b1.mono B0.out.size))
  have L1 := Lib.hid l1
  clear J0 B0 l1 b1 H1
  go_wp2_with fail
  refine (H2.out _).mono ?_
  rintro e w2 ⟨pa, pk, pc, rfl, l2, b2⟩
  have J2 := Lib.hid (J1.out.keep b2)
  have B2 := Lib.hid (B1.out.trans (b2.mono B1.out.size))
  have L12 := Lib.hid (L1.out.below b2)
  have L2 := Lib.hid l2
  clear J1 B1 L1 l2 b2 H2
  obtain ⟨WX, hWX⟩ : ∃ WX, trio w2 w.heap.size (.bool false) (.slice qa qk qc) (.slice pa pk pc) = WX := ⟨_, rfl⟩
  have RX : Q3 WX w.heap.size (.bool false) (.slice qa qk qc) (.slice pa pk pc) := by rw [← hWX]; exact J2.out.set _ _ _
  have PP : Hid (FqP false (x) (1) w (.returned (.agg #[.bool false, .slice qa qk qc, .slice pa pk pc])) WX) := by
    rw [← hWX]
    exact ⟨_, _, _, _, _, _, rfl, L12.out.trio J2.out (NI.b _) (NI.s _ _ _) (NI.s _ _ _) _ _ _, L2.out.trio J2.out (NI.b _) (NI.s _ _ _) (NI.s _ _ _) _ _ _, below_trio B2.out (Nat.le_refl _) _ _ _⟩
  obtain ⟨r0, r1, r2, rf, _⟩ := J2.out
  have rf0 := rf 0
  have rf1 := rf 1
  have rf2 := rf 2
  obtain ⟨t0, t1, t2, _, _⟩ := id RX
  clear RX rf J2 L12 L2 B2
  unfold trio at hWX
  go_wp2_with fail
  exact bodyPost_ret (v := .agg #[.bool false, .slice qa qk qc, .slice pa pk pc]) (by simp [results, Tryz.results16, go_sem, t0, t1, t2]) rfl PP.out
set_option maxRecDepth 100000 in
set_option maxHeartbeats 4000000 in
theorem whole_neg (x : Nat) (w : World) (hx : x < 9223372036854775808) (h0 : 0 < x) :
    Calls Tryz.prog 16 #[.int .i64 (-(x : Int))] w (FqP true x 1 w) := by
  obtain ⟨W0, hW0⟩ : ∃ W0, w.alloc (.cells #[.bool false, .slice none 0 0, .slice none 0 0] 50) = W0 := ⟨_, rfl⟩
  have J0 : Hid (Q3 W0 w.heap.size (.bool false) (.slice none 0 0) (.slice none 0 0)) := by rw [← hW0]; exact Q3.made _ _ _ _ _
  have B0 : Hid (Below w.heap.size w W0) := by rw [← hW0]; exact bel_one _ _
  have hxI : -(x : Int) < 0 := by omega
  have hneg : IntKind.i64.wrap (-(-(x : Int))) = (x : Int) := by rw [Int.neg_neg, IntKind.wrap_i64] <;> omega
  have H1 := Lib.hid (fun W => nsmall_c (x) W hx)
  have H2 := Lib.hid (fun W => nsmall_c (1) W (by decide))
  go_enter Tryz.func16, Tryz.ntmps16
  go_wp2_with fail
  clear hW0
  refine (H1.out _).mono ?_
  rintro e w1 ⟨qa, qk, qc, rfl, l1, b1⟩
  have J1 := Lib.hid (J0.out.keep b1)
  have B1 := Lib.hid (B0.out.trans (b1.mono B0.out.size))
  have L1 := Lib.hid l1
  clear J0 B0 l1 b1 H1
  go_wp2_with fail
  refine (H2.out _).mono ?_
  rintro e w2 ⟨pa, pk, pc, rfl, l2, b2⟩
  have J2 := Lib.hid (J1.out.keep b2)
  have B2 := Lib.hid (B1.out.trans (b2.mono B1.out.size))
  have L12 := Lib.hid (L1.out.below b2)
  have L2 := Lib.hid l2
  clear J1 B1 L1 l2 b2 H2
  obtain ⟨WX, hWX⟩ : ∃ WX, trio w2 w.heap.size (.bool true) (.slice qa qk qc) (.slice pa pk pc) = WX := ⟨_, rfl⟩
  have RX : Q3 WX w.heap.size (.bool true) (.slice qa qk qc) (.slice pa pk pc) := by rw [← hWX]; exact J2.out.set _ _ _
  have PP : Hid (FqP true (x) (1) w (.returned (.agg #[.bool true, .slice qa qk qc, .slice pa pk pc])) WX) := by
    rw [← hWX]
    exact ⟨_, _, _, _, _, _, rfl, L12.out.trio J2.out (NI.b _) (NI.s _ _ _) (NI.s _ _ _) _ _ _, L2.out.trio J2.out (NI.b _) (NI.s _ _ _) (NI.s _ _ _) _ _ _, below_trio B2.out (Nat.le_refl _) _ _ _⟩
  obtain ⟨r0, r1, r2, rf, _⟩ := J2.out
  have rf0 := rf 0
  have rf1 := rf 1
  have rf2 := rf 2
  obtain ⟨t0, t1, t2, _, _⟩ := id RX
  clear RX rf J2 L12 L2 B2
  unfold trio at hWX
  go_wp2_with fail
  exact bodyPost_ret (v := .agg #[.bool true, .slice qa qk qc, .slice pa pk pc]) (by simp [results, Tryz.results16, go_sem, t0, t1, t2]) rfl PP.out
theorem pos_of_mul {x d : Int} (h : 0 < x * d) (hd : 0 < d) : 0 < x := by
  rcases Int.lt_or_le 0 x with l | l
  · exact l
  · have := Int.mul_le_mul_of_nonneg_right l (Int.le_of_lt hd)
    rw [Int.zero_mul] at this
    omega
/-- The sign of a difference, as a comparison answers it. -/
def xcmp (x : Int) : Int := if x = 0 then 0 else if x < 0 then -1 else 1
theorem xcmp_of {sb : Bool} {n d : Nat} {x : Int} {y : Nat} (hy : 0 < y) (hd : 0 < d) (hv : sg sb n * (y : Int) = x * (d : Int)) : xcmp x = if n = 0 then 0 else if sb then -1 else 1 := by
  have hyI : (0 : Int) < (y : Int) := by omega
  have hdI : (0 : Int) < (d : Int) := by omega
  unfold xcmp
  by_cases hn : n = 0
  · subst hn
    have e : sg sb 0 = 0 := by cases sb <;> rfl
    rw [e, Int.zero_mul] at hv
    have hx : x = 0 := by
      rcases Int.mul_eq_zero.1 hv.symm with h | h
      · exact h
      · omega
    rw [if_pos hx, if_pos rfl]
  · rw [if_neg hn]
    have hnI : (0 : Int) < (n : Int) := by omega
    cases sb
    · have e : sg false n = (n : Int) := rfl
      rw [e] at hv
      have hp : 0 < x * (d : Int) := by rw [← hv]; exact Int.mul_pos hnI hyI
      have hx : 0 < x := pos_of_mul hp hdI
      rw [if_neg (by omega), if_neg (by omega)]; rfl
    · have e : sg true n = -(n : Int) := rfl
      rw [e, Int.neg_mul] at hv
      have hp : 0 < (-x) * (d : Int) := by rw [Int.neg_mul, ← hv, Int.neg_neg]; exact Int.mul_pos hnI hyI
      have hx : 0 < -x := pos_of_mul hp hdI
      rw [if_neg (by omega), if_pos (by omega)]; rfl
set_option maxRecDepth 100000 in
set_option maxHeartbeats 4000000 in
theorem order_c (f q : Fa) (n1 d1 n2 d2 : Nat) (w : World) (h1 : Fn w f n1 d1) (h2 : Fn w q n2 d2) :
    Calls Tryz.prog 15 #[.agg #[.bool f.b, .slice f.a f.k f.c, .slice f.a' f.k' f.c'], .agg #[.bool q.b, .slice q.a q.k q.c, .slice q.a' q.k' q.c']] w fun e w' => e = .returned (.int .i64 (xcmp (sg f.b (n1 * d2) - sg q.b (n2 * d1)))) ∧ Below w.heap.size w w' := by
  obtain ⟨W0, hW0⟩ : ∃ W0, (w.alloc (.cells #[.bool f.b, .slice f.a f.k f.c, .slice f.a' f.k' f.c'] 50)).alloc (.cells #[.bool q.b, .slice q.a q.k q.c, .slice q.a' q.k' q.c'] 50) = W0 := ⟨_, rfl⟩
  have s1 : (w.alloc (.cells #[.bool f.b, .slice f.a f.k f.c, .slice f.a' f.k' f.c'] 50)).heap.size = w.heap.size + 1 := by simp
  have JX : Q3 W0 w.heap.size (.bool f.b) (.slice f.a f.k f.c) (.slice f.a' f.k' f.c') := by rw [← hW0]; exact (Q3.made w _ _ _ _).keep (bel_one _ _)
  have JY : Q3 W0 (w.heap.size + 1) (.bool q.b) (.slice q.a q.k q.c) (.slice q.a' q.k' q.c') := by rw [← hW0, ← s1]; exact Q3.made _ _ _ _ _
  have B0 : Hid (Below w.heap.size w W0) := by rw [← hW0]; exact ((Below.refl _ _).alloc (Nat.le_refl _) _).alloc (by simp) _
  have HM := Lib.hid (minus_c f q n1 d1 n2 d2 W0 (h1.below B0.out) (h2.below B0.out))
  have PD : Hid (0 < d1 * d2) := Nat.mul_pos h1.pos h2.pos
  have x0 := JX.c0
  have x1 := JX.c1
  have x2 := JX.c2
  have y0 := JY.c0
  have y1 := JY.c1
  have y2 := JY.c2
  clear h1 h2 JX JY s1
  go_enter Tryz.func15, Tryz.ntmps15
  go_wp2_with fail
  clear hW0 x0 x1 x2 y0 y1 y2
  refine HM.out.mono ?_
  rintro e w2 ⟨sb, n, d, ⟨qa, qk, qc, pa, pk, pc, rfl, l1, l2, b2⟩, hd, hv, hsz⟩
  have XC := Lib.hid (xcmp_of PD.out hd hv)
  have B2 := Lib.hid (B0.out.trans (b2.mono B0.out.size))
  have L1 := Lib.hid l1
  clear HM B0 PD l1 l2 b2 hd hv hsz
  obtain ⟨W3, hW3⟩ : ∃ W3, w2.alloc (.cells #[.bool false, .slice none 0 0, .slice none 0 0] 50) = W3 := ⟨_, rfl⟩
  have J3 : Q3 W3 w2.heap.size (.bool false) (.slice none 0 0) (.slice none 0 0) := by rw [← hW3]; exact Q3.made _ _ _ _ _
  have S3 : Hid (w.heap.size ≤ w2.heap.size) := B2.out.size
  have B3 : Hid (Below w.heap.size w W3) := by rw [← hW3]; exact B2.out.alloc S3.out _
  obtain ⟨WX, hWX⟩ : ∃ WX, trio W3 w2.heap.size (.bool sb) (.slice qa qk qc) (.slice pa pk pc) = WX := ⟨_, rfl⟩
  have RX : Q3 WX w2.heap.size (.bool sb) (.slice qa qk qc) (.slice pa pk pc) := by rw [← hWX]; exact J3.set _ _ _
  have BX : Hid (Below w.heap.size w WX) := by rw [← hWX]; exact below_trio B3.out S3.out _ _ _
  have LX : Hid (Nt WX qa qk qc n) := by
    rw [← hWX]
    refine Nt.trio ?_ J3 (NI.b _) (NI.s _ _ _) (NI.s _ _ _) _ _ _
    rw [← hW3]
    exact L1.out.below (bel_one _ _)
  have HZ := Lib.hid (zero_c sb qa pa qk pk qc pc n WX LX.out)
  obtain ⟨r0, r1, r2, rf, _⟩ := J3
  have rf0 := rf 0
  have rf1 := rf 1
  have rf2 := rf 2
  have RXH := Lib.hid RX
  obtain ⟨t0, t1, t2, _, _⟩ := id RX
  clear RX rf L1 LX B2 B3 S3
  unfold trio at hWX
  go_wp2_with fail
  clear hWX hW3 t0 t1 t2 r0 r1 r2 rf0 rf1 rf2
  refine HZ.out.mono ?_
  rintro e w6 ⟨rfl, b6⟩
  have R6 := RXH.out.keep b6
  have B6 := Lib.hid (BX.out.trans (b6.mono BX.out.size))
  have z0 := R6.c0
  clear RXH R6 BX b6 HZ
  by_cases hn : n = 0
  · have hd0 : decide (n = 0) = true := decide_eq_true hn
    have XD : Hid (xcmp (sg f.b (n1 * d2) - sg q.b (n2 * d1)) = 0) := by unfold Hid; rw [XC.out, if_pos hn]
    clear hn XC
    go_wp2_with fail
    exact bodyPost_ret (v := .int .i64 (0)) (by simp [results, Tryz.results15, go_sem]) rfl ⟨by rw [XD.out], B6.out⟩
  · have hd0 : decide (n = 0) = false := decide_eq_false hn
    cases sb
    · have XD : Hid (xcmp (sg f.b (n1 * d2) - sg q.b (n2 * d1)) = 1) := by unfold Hid; rw [XC.out, if_neg hn]; rfl
      clear hn XC
      go_wp2_with fail
      exact bodyPost_ret (v := .int .i64 (1)) (by simp [results, Tryz.results15, go_sem]) rfl ⟨by rw [XD.out], B6.out⟩
    · have XD : Hid (xcmp (sg f.b (n1 * d2) - sg q.b (n2 * d1)) = -1) := by unfold Hid; rw [XC.out, if_neg hn]; rfl
      clear hn XC
      go_wp2_with fail
      exact bodyPost_ret (v := .int .i64 (-1)) (by simp [results, Tryz.results15, go_sem]) rfl ⟨by rw [XD.out], B6.out⟩
end Go.Proofs.YtchdfekajjeflaaGreatDoor
