/-
  The decimal text of a number of one digit to the base 10^9, in the reference.
-/
import Derived.Test.YtecbkfmdpgkdiaaGreatDoorRatRGcd
import Derived.Lib.AppendIntMem
import Derived.Lib.QuietBelow
import Derived.Lib.SmallJoins
namespace Go.Proofs.YtecbkfmdpgkdiaaGreatDoor
open Go.RowKit

theorem gPow : Tryz.prog.globalNamed "internal/strconv.uint64pow10" = some 2 := by kernel_rfl
def Pow (w : World) : Prop := Lib.TabIs Tryz.prog w "internal/strconv.uint64pow10" .u64 Lib.pow10Tab
theorem Pow.below {w w' : World} (h : Pow w) (hb : Below w.heap.size w w') : Pow w' := Go.Joins.tab_stays gPow h hb (Nat.le_refl _)
theorem itoa_c (n : Nat) (w : World) (hE : Pow w) (hn : n ≤ 9223372036854775807) :
    Calls Tryz.prog 43 #[.int .i64 n] w fun e w' => e = .returned (.string (decB n)) ∧ Below w.heap.size w w' :=
  (Tryz.strconv_Itoa n (by omega) (by omega) w hE).mono fun _ _ ⟨he, k, os, hw⟩ => ⟨by rw [he, Lib.itoa_nonneg]; rfl, by rw [hw]; exact Go.Lib.below_grow _ _ (Nat.le_refl _) k os⟩
theorem strCells_dec (n : Nat) : Lib.strCells (decB n) = Lib.byteCells (Lib.decDigits n) := by simp [Lib.strCells, Lib.byteCells, decB]
theorem rtext_zero (a : Option Addr) (c : Nat) (w : World) : Calls Tryz.prog 29 #[.slice a 0 c] w (TextPost 0 w) := by
  go_enter Tryz.func29, Tryz.ntmps29
  go_wp2
  go_ret
  exact ⟨by rw [Lib.decDigits_one (by decide)]; rfl, Below.refl _ _⟩
set_option maxHeartbeats 1000000 in
theorem rtext_c (a : Option Addr) (k c n : Nat) (w : World) (h : Sm w a k n) (hE : Pow w) : Calls Tryz.prog 29 #[.slice a k c] w (TextPost n w) := by
  rcases h with ⟨rfl, rfl⟩ | ⟨rfl, p1, m1, b1, o1, rfl, hb, g1⟩
  · exact rtext_zero a c w
  · have HM := Lib.hid m1
    have HP := Lib.hid p1
    obtain ⟨W1, hW1⟩ : ∃ W1, w.alloc (.cells #[.pointer none, .slice none 0 0] 74) = W1 := ⟨_, rfl⟩
    have hF : Hid (Fresh W1 w.heap.size) := by unfold Hid Fresh; rw [← hW1]; (show (w.heap.push _)[w.heap.size]? = _); simp
    have hB : Hid (Below w.heap.size w W1) := by rw [← hW1]; exact (Below.refl _ _).alloc (Nat.le_refl _) _
    have hS : Hid (W1.heap.size = w.heap.size + 1) := by unfold Hid; rw [← hW1]; simp
    have g2 : W1.cell? ⟨b1, o1, none⟩ = some (.int .i64 n) := by rw [hB.out.cell (p := ⟨b1, o1, none⟩) hb]; exact g1
    have HE := Lib.hid (hE.below hB.out)
    clear p1 m1 g1 hb hE
    go_enter Tryz.func29, Tryz.ntmps29
    go_wp2_with fail
    refine (itoa_c n W1 HE.out (Nat.le_of_lt (Nat.lt_trans HM.out (by decide)))).mono ?_
    rintro e w2 ⟨rfl, b2⟩
    have hF2 : Hid (Fresh w2 w.heap.size) := by
      have s := hS.out
      unfold Hid Fresh
      rw [b2.block w.heap.size (by omega)]
      exact hF.out
    have B2 := Lib.hid (hB.out.trans (b2.mono hB.out.size))
    have S2 : Hid (w.heap.size < w2.heap.size) := by have s := hS.out; have := b2.size; unfold Hid; omega
    clear b2 hW1 g2
    go_wp2_with fail
    refine (write_c w.heap.size w.heap.size (decB n) w2 hF2.out (Nat.le_refl _) (Nat.le_trans (decB_size n (Nat.le_of_lt (Nat.lt_trans HM.out (by decide)))) (by decide))).mono ?_
    rintro e w3 ⟨rfl, h3, b3⟩
    rw [strCells_dec] at h3
    have H3 := Lib.hid h3
    have B3 := Lib.hid (B2.out.trans b3)
    have S3 : Hid (w.heap.size ≤ w3.heap.size) := by have := b3.size; have := S2.out; unfold Hid; omega
    clear h3 b3
    go_wp2_with fail
    go_loop [4] (fun i => i = .int .i64 (-1)) (fun _ => 0)
    case atStart => rfl
    case round =>
      obtain rfl := hrel
      go_wp2_with fail
      refine (Tryz.Builder_String w.heap.size w.heap.size (Lib.decDigits n) w3 H3.out (decDigits_ne n)).mono ?_
      rintro e w4 ⟨rfl, b4⟩
      have B4 := Lib.hid (B3.out.trans b4)
      clear b4
      go_wp2
      go_ret
      exact ⟨rfl, B4.out⟩
end Go.Proofs.YtecbkfmdpgkdiaaGreatDoor
