/-
  RatioOf of package value and ratio of package sample, at numbers from 0 on.
-/
import Derived.Test.YtecbkfmdpgkdiaaGreatDoorRatNum
import Derived.Lib.ItoaLen
import Derived.Deep.RegionHeld3
namespace Go.Proofs.YtecbkfmdpgkdiaaGreatDoor
open Go.RowKit

def decB (n : Nat) : ByteArray := ⟨(Lib.decDigits n).toArray⟩
theorem dec_len (n : Nat) (hn : n ≤ 9223372036854775807) : (Lib.decDigits n).length ≤ 21 := by
  have h := Lib.itoa_length_le (n : Int) (by omega) (by omega)
  rw [Lib.itoa_nonneg] at h
  exact h
theorem decB_size (n : Nat) (hn : n ≤ 9223372036854775807) : (decB n).size ≤ 21 := dec_len n hn
theorem prefix_size (l p : List UInt8) : (ByteArray.mk (Lib.trimPrefix l p).toArray).size ≤ l.length := by
  show (Lib.trimPrefix l p).length ≤ l.length
  unfold Lib.trimPrefix
  split
  · simp
  · exact Nat.le_refl _
/-- A ratio's two texts. -/
def RatPost (n d : Nat) (w : World) (e : Ending) (w' : World) : Prop := e = .returned (.tuple #[.agg #[.string (decB n), .string (decB d)], .int .i64 0]) ∧ Below w.heap.size w w'
/-- The box of ratioOf's argument. -/
def RoH (w : World) (g : Nat) (a b : Option Addr) (k c m c2 n d : Nat) (W : World) : Prop :=
  W.cell? ⟨g, 0, none⟩ = some (.bool false) ∧ W.cell? ⟨g, 1, none⟩ = some (.slice a k c) ∧ W.cell? ⟨g, 2, none⟩ = some (.bool false) ∧ W.cell? ⟨g, 3, none⟩ = some (.slice b m c2) ∧ W.cell? ⟨g + 1, 0, none⟩ = some (.string ⟨#[]⟩) ∧ W.cell? ⟨g + 1, 1, none⟩ = some (.string ⟨#[]⟩) ∧ W.frozen? ⟨g + 1, 0, none⟩ = false ∧ W.frozen? ⟨g + 1, 1, none⟩ = false ∧ Hid (Lm W a k n ∧ Lm W b m d ∧ Below g w W ∧ g + 1 < W.heap.size)
theorem RoH.keep {w : World} {g : Nat} {a b : Option Addr} {k c m c2 n d : Nat} {W W' : World} (h : RoH w g a b k c m c2 n d W) (hb : Below W.heap.size W W') : RoH w g a b k c m c2 n d W' := by
  obtain ⟨a0, a1, a2, a3, r0, r1, f0, f1, x⟩ := h
  obtain ⟨l1, l2, bl, hg⟩ := x.out
  have f := fun (b o : Nat) (hb2 : b < W.heap.size) => hb.cell (p := ⟨b, o, none⟩) hb2
  have z := fun (b o : Nat) (hb2 : b < W.heap.size) => hb.frozen (p := ⟨b, o, none⟩) hb2
  have hg' : g < W.heap.size := by omega
  exact ⟨(f _ _ hg').trans a0, (f _ _ hg').trans a1, (f _ _ hg').trans a2, (f _ _ hg').trans a3, (f _ _ hg).trans r0, (f _ _ hg).trans r1, (z _ _ hg).trans f0, (z _ _ hg).trans f1, l1.below hb, l2.below hb, bl.trans (hb.mono (by omega)), Nat.lt_of_lt_of_le hg hb.size⟩
theorem ro_num (w : World) (g : Nat) (a b : Option Addr) (k c m c2 n d : Nat) (W : World) (h : RoH w g a b k c m c2 n d W) :
    Calls Tryz.prog 47 #[.agg #[.bool false, .slice a k c]] W fun e w' => e = .returned (.string (decB n)) ∧ RoH w g a b k c m c2 n d w' :=
  (Text_c a k c n W h.2.2.2.2.2.2.2.2.out.1).mono fun e w' ⟨he, hb⟩ => ⟨he, h.keep hb⟩
theorem ro_den (w : World) (g : Nat) (a b : Option Addr) (k c m c2 n d : Nat) (W : World) (h : RoH w g a b k c m c2 n d W) :
    Calls Tryz.prog 47 #[.agg #[.bool false, .slice b m c2]] W fun e w' => e = .returned (.string (decB d)) ∧ RoH w g a b k c m c2 n d w' :=
  (Text_c b m c2 d W h.2.2.2.2.2.2.2.2.out.2.1).mono fun e w' ⟨he, hb⟩ => ⟨he, h.keep hb⟩
set_option maxHeartbeats 1000000 in
theorem ratioOf_c (a b : Option Addr) (k c m c2 n d : Nat) (w : World) (h1 : Lm w a k n) (h2 : Lm w b m d) (hn : n ≤ 9223372036854775807) (hd : d ≤ 9223372036854775807) :
    Calls Tryz.prog 37 #[.agg #[.bool false, .slice a k c, .bool false, .slice b m c2]] w (RatPost n d w) := by
  have s1 := decB_size n hn
  have s2 := decB_size d hd
  have s3 : (Lib.trimPrefix (decB n).data.toList [45]).length ≤ 21 := Nat.le_trans (prefix_size _ _) (dec_len n hn)
  obtain ⟨W0, hW0⟩ : ∃ W0, (w.alloc (.cells #[.bool false, .slice a k c, .bool false, .slice b m c2] 65)).alloc (.cells #[.string ⟨#[]⟩, .string ⟨#[]⟩] 31) = W0 := ⟨_, rfl⟩
  have R0 : RoH w w.heap.size a b k c m c2 n d W0 := by
    rw [← hW0]
    have hb : Below w.heap.size w ((w.alloc (.cells #[.bool false, .slice a k c, .bool false, .slice b m c2] 65)).alloc (.cells #[.string ⟨#[]⟩, .string ⟨#[]⟩] 31)) := ((Below.refl _ _).alloc (Nat.le_refl _) _).alloc (by simp) _
    refine ⟨?_, ?_, ?_, ?_, ?_, ?_, ?_, ?_, h1.below hb, h2.below hb, hb, by simp⟩
    all_goals simp [go_sem, World.cell?_alloc_past]
  have HR := Lib.hid R0
  clear h1 h2 R0 hn hd
  have S1 := Lib.hid s1
  have S2 := Lib.hid s2
  have S3 := Lib.hid s3
  clear s1 s2 s3
  go_enter Tryz.func37, Tryz.ntmps37
  go_wp2_with fail
  clear hW0
  have R0 := HR.out
  clear HR
  go_region_held3 (fun W => W.cell? ⟨w.heap.size, 0, none⟩ = some (.bool false) ∧ W.cell? ⟨w.heap.size, 1, none⟩ = some (.slice a k c) ∧ W.cell? ⟨w.heap.size, 2, none⟩ = some (.bool false) ∧ W.cell? ⟨w.heap.size, 3, none⟩ = some (.slice b m c2) ∧ W.cell? ⟨w.heap.size + 1, 0, none⟩ = some (.string ⟨#[]⟩) ∧ W.cell? ⟨w.heap.size + 1, 1, none⟩ = some (.string ⟨#[]⟩) ∧ W.frozen? ⟨w.heap.size + 1, 0, none⟩ = false ∧ W.frozen? ⟨w.heap.size + 1, 1, none⟩ = false ∧ Hid (Lm W a k n ∧ Lm W b m d ∧ Below w.heap.size w W ∧ w.heap.size + 1 < W.heap.size)) (first | exact R0.keep (Below.refl _ _).drew | assumption)
    (first | (go_at_call 47; (with_reducible refine (ro_num w w.heap.size a b k c m c2 n d _ ?_).mono ?_); assumption; rintro e w' ⟨rfl, hbx⟩) | (go_at_call 47; (with_reducible refine (ro_den w w.heap.size a b k c m c2 n d _ ?_).mono ?_); assumption; rintro e w' ⟨rfl, hbx⟩))
  have HX := Lib.hid hbx
  clear hbx R0
  have hs3 := S3.out
  have hs2 := S2.out
  have e := HX.out
  dsimp only [RoH] at e
  go_wp2_with (go_at_call 48; refine (Tryz.strings_TrimPrefix (decB n) ⟨#[45]⟩ _).mono ?_; rintro e w' ⟨rfl, rfl⟩)
  have e0 := two_cells (x := .string (decB n)) (y := .string (decB d)) e.2.2.2.2.1 e.2.2.2.2.2.1
  have hB : Below w.heap.size w ((w'.setCell ⟨w.heap.size + 1, 0, none⟩ (.string (decB n))).setCell ⟨w.heap.size + 1, 1, none⟩ (.string (decB d))) :=
    (HX.out.2.2.2.2.2.2.2.2.out.2.2.1.setCell (p := ⟨w.heap.size + 1, 0, none⟩) (Nat.le_succ _) _).setCell (p := ⟨w.heap.size + 1, 1, none⟩) (Nat.le_succ _) _
  obtain ⟨e0, e1⟩ := e0
  exact bodyPost_ret (v := .tuple #[.agg #[.string (decB n), .string (decB d)], .int .i64 0]) (by simp [results, Tryz.results37, go_sem, e0, e1]) rfl ⟨rfl, hB⟩
end Go.Proofs.YtecbkfmdpgkdiaaGreatDoor
