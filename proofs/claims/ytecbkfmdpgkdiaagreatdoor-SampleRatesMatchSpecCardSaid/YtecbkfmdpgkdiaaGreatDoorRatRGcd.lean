/-
  Numbers of one digit to the base 10^9 in the reference: divide, divisor.
-/
import Derived.Test.YtecbkfmdpgkdiaaGreatDoorRatRDiv
namespace Go.Proofs.YtecbkfmdpgkdiaaGreatDoor
open Go.RowKit

def DvPost (q r : Nat) (w : World) (e : Ending) (w' : World) : Prop := ∃ a k c b m c2, e = .returned (.tuple #[.slice a k c, .slice b m c2]) ∧ Sm w' a k q ∧ Sm w' b m r ∧ Below w.heap.size w w'
set_option maxHeartbeats 1000000 in
theorem rdivide_c (a1 a2 : Option Addr) (c1 c2 k1 k2 n d : Nat) (w : World) (h1 : Sm w a1 k1 n) (h2 : Sm w a2 k2 d) (hd : 0 < d) :
    Calls Tryz.prog 41 #[.slice a1 k1 c1, .slice a2 k2 c2] w (DvPost (n / d) (n % d) w) := by
  have HO := Lib.hid (fun W (x : Sm W a1 k1 n) (y : Sm W a2 k2 d) => rorder_c a1 a2 c1 c2 k1 k2 n d W x y)
  have H1 := Lib.hid h1
  have H2 := Lib.hid h2
  by_cases hlt : n < d
  · have es : sgn n d = -1 := by unfold sgn; rw [if_pos hlt]
    rw [es] at HO
    have e1 : Hid (n / d = 0) := Nat.div_eq_of_lt hlt
    have e2 : Hid (n % d = n) := Nat.mod_eq_of_lt hlt
    clear h1 h2 hd hlt es
    go_enter Tryz.func41, Tryz.ntmps41
    go_wp2_with fail
    refine (HO.out _ H1.out H2.out).mono ?_
    rintro e w1 ⟨rfl, q, rfl⟩
    have HL := Lib.hid (H1.out.below (below_drew w q))
    have HB := Lib.hid (below_drew w q)
    rw [e1.out, e2.out]
    generalize w.drewN q = w2 at *
    go_wp2
    go_ret2
    exact ⟨none, 0, 0, a1, k1, c1, rfl, by first | exact Sm.zero _ _ | (rw [e1.out]; exact Sm.zero _ _), by first | exact HL.out | (rw [e2.out]; exact HL.out), HB.out⟩
  · have es : decide (sgn n d < 0) = false := by rw [sgn_lt]; simp; omega
    obtain ⟨rfl, hd9, b2, o2, rfl, hb2, g2⟩ := h2.pos hd
    have HS := Lib.hid (fun W (x : Sm W a1 k1 n) => rshort_c a1 k1 c1 n d W x hd)
    have HSM := Lib.hid (fun W => small_c (n % d) W (Nat.lt_trans (Nat.mod_lt n hd) hd9))
    have HG := Lib.hid g2
    clear h1 h2 hd hlt hb2 hd9 g2
    generalize n % d = r at *
    generalize sgn n d = s at *
    go_enter Tryz.func41, Tryz.ntmps41
    go_wp2_with fail
    refine (HO.out _ H1.out H2.out).mono ?_
    rintro e w1 ⟨rfl, q, rfl⟩
    have HL := Lib.hid (H1.out.below (below_drew w q))
    have HB := Lib.hid (below_drew w q)
    have hg : (w.drewN q).cell? ⟨b2, o2, none⟩ = some (.int .i64 d) := HG.out
    generalize w.drewN q = w2 at *
    go_wp2_with fail
    clear hg
    refine (HS.out _ HL.out).mono ?_
    rintro e w3 ⟨a3, k3, c3, rfl, l3, b3⟩
    have L3 := Lib.hid l3
    have B3 := Lib.hid (HB.out.trans (b3.mono HB.out.size))
    clear l3 b3
    go_wp2_with fail
    refine (HSM.out _).mono ?_
    rintro e w4 ⟨a4, k4, c4, rfl, l4, b4⟩
    have L34 := Lib.hid (L3.out.below b4)
    have L4 := Lib.hid l4
    have B4 := Lib.hid (B3.out.trans (b4.mono B3.out.size))
    clear l4 b4
    go_wp2
    go_ret2
    exact ⟨a3, k3, c3, a4, k4, c4, rfl, L34.out, L4.out, B4.out⟩
/-- What a row of digits reads as. -/
def rdN (w : World) : Value → Nat
  | .slice (some p) 1 _ => match w.cell? p with | some (.int _ n) => n.toNat | _ => 0
  | _ => 0
theorem Sm.rdN {w : World} {a : Option Addr} {k n c : Nat} (h : Sm w a k n) : rdN w (.slice a k c) = n := by
  rcases h with ⟨rfl, rfl⟩ | ⟨rfl, _, _, b, off, rfl, _, hc⟩
  · simp [Go.Proofs.YtecbkfmdpgkdiaaGreatDoor.rdN]
  · simp [Go.Proofs.YtecbkfmdpgkdiaaGreatDoor.rdN, hc]
set_option maxHeartbeats 1000000 in
theorem divisor_c (a1 a2 : Option Addr) (c1 c2 k1 k2 n m : Nat) (w : World) (h1 : Sm w a1 k1 n) (h2 : Sm w a2 k2 m) :
    Calls Tryz.prog 40 #[.slice a1 k1 c1, .slice a2 k2 c2] w (SmPost (Nat.gcd n m) w) := by
  have H1 := Lib.hid h1
  have H2 := Lib.hid h2
  clear h1 h2
  go_enter Tryz.func40, Tryz.ntmps40
  go_wp2
  go_loopw [0, 1] (fun u v wr => ∃ a k c x b k2 c2 y, u = .slice a k c ∧ v = .slice b k2 c2 ∧ Hid (Sm wr a k x ∧ Sm wr b k2 y ∧ Nat.gcd x y = Nat.gcd n m ∧ Below w.heap.size w wr)) (fun _ v wr => rdN wr v)
  case atStart => exact ⟨_, _, _, n, _, _, _, m, rfl, rfl, H1.out, H2.out, rfl, Below.refl _ _⟩
  case round =>
    obtain ⟨a, k, c, x, b, k2, c2, y, rfl, rfl, hS⟩ := hrel
    rcases Nat.eq_zero_or_pos y with hy | hy
    · subst hy
      obtain rfl := hS.out.2.1.nul
      go_wp2
      go_ret
      exact ⟨a, k, c, rfl, by have h := hS.out.2.2.1; rw [Nat.gcd_zero_right] at h; rw [← h]; exact hS.out.1, hS.out.2.2.2⟩
    · have hk : k2 = 1 := (hS.out.2.1.pos hy).1
      subst hk
      have HY := Lib.hid hy
      clear hy
      go_wp2_with fail
      refine (rdivide_c a b c c2 k 1 x y wr hS.out.1 hS.out.2.1 HY.out).mono ?_
      rintro e w3 ⟨a3, k3, c3, a4, k4, c4, rfl, l3, l4, b3⟩
      have HF : Hid (Sm w3 b 1 y ∧ Sm w3 a4 k4 (x % y) ∧ Nat.gcd y (x % y) = Nat.gcd n m ∧ Below w.heap.size w w3) :=
        ⟨hS.out.2.1.below b3, l4, by rw [← hS.out.2.2.1, Nat.gcd_comm x y, Nat.gcd_rec y x, Nat.gcd_comm], hS.out.2.2.2.trans (b3.mono hS.out.2.2.2.size)⟩
      have HM : Hid (rdN w3 (.slice a4 k4 c4) < rdN wr (.slice b 1 c2)) := by
        unfold Hid
        rw [l4.rdN, hS.out.2.1.rdN]
        exact Nat.mod_lt x HY.out
      clear l3 l4 b3
      go_wp2
      exact ⟨⟨_, _, _, y, _, _, _, x % y, rfl, rfl, HF⟩, HM.out⟩
end Go.Proofs.YtecbkfmdpgkdiaaGreatDoor
