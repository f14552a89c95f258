/-
  What the walks of texts need of memory; and the library's functions that they call, each by a contract of one form.
-/
import Derived.Test.YtcdifmnakppfkaaGreatDoorTxtDays
import Derived.Test.YtcdifmnakppfkaaGreatDoorTxtChkV
import Derived.Test.YtcdifmnakppfkaaGreatDoorTxtMath
import Derived.Test.YtcdifmnakppfkaaGreatDoorShelf
import Derived.Test.YtcdifmnakppfkaaGreatDoorExText
import Derived.Lib.AppendIntMem
import Derived.Lib.QuietBelow
import Derived.Lib.ItoaLen
namespace Go.Proofs.YtcdifmnakppfkaaGreatDoor
open Go.RowKit

/-- A text of bytes. -/
def bs (l : List UInt8) : ByteArray := ⟨l.toArray⟩
theorem bs_size (l : List UInt8) : (bs l).size = l.length := by simp [bs, ByteArray.size]
theorem bs_list (l : List UInt8) : (bs l).data.toList = l := by simp [bs]
theorem bs_of (s : ByteArray) : bs s.data.toList = s := by cases s; simp [bs]
theorem bs_app (a b : List UInt8) : bs a ++ bs b = bs (a ++ b) := by
  apply ByteArray.ext; simp [bs, ByteArray.data_append]

theorem gSpace : Tryz.prog.globalNamed "strings.asciiSpace" = some 2 := by kernel_rfl
theorem gPow : Tryz.prog.globalNamed "internal/strconv.uint64pow10" = some 9 := by kernel_rfl

/-- What the package-level variables hold. -/
structure Env (w : World) : Prop where
  tab : Tab w
  pow : Lib.TabIs Tryz.prog w "internal/strconv.uint64pow10" .u64 Lib.pow10Tab
  ops : ∀ o : Nat, 1 ≤ o → o ≤ 39 → w.cell? ⟨1, o, none⟩ = some (.string (bs (opW o)))
  ovs : ∀ o : Nat, 1 ≤ o → o ≤ 6 → w.cell? ⟨0, o, none⟩ = some (.string (bs (overW o)))
  asp : Lib.TabIs Tryz.prog w "strings.asciiSpace" .u8 Lib.asciiSpaceTab
  mx : ∃ m, w.cell? ⟨6, 0, none⟩ = some (.int .i64 m)
  r0 : w.cell? ⟨3, 0, none⟩ = some (.string ⟨#[100, 111, 110, 116, 107, 110, 111, 119]⟩)
  r1 : w.cell? ⟨3, 1, none⟩ = some (.string ⟨#[114, 101, 102, 117, 115, 101, 100]⟩)
  r2 : w.cell? ⟨3, 2, none⟩ = some (.string ⟨#[110, 111, 97, 110, 115, 119, 101, 114]⟩)
  big : 10 ≤ w.heap.size
theorem Env.below {w w' : World} (h : Env w) (hb : Below w.heap.size w w') : Env w' := by
  have hs := hb.size
  have hg := h.big
  have c := fun (b o : Nat) (hl : b < 10) => hb.cell (p := ⟨b, o, none⟩) (by show b < _; omega)
  obtain ⟨m, e3⟩ := h.mx
  exact ⟨h.tab.below hb, Go.Joins.tab_stays gPow h.pow hb (Nat.le_refl _), fun o h1 h2 => by rw [c _ _ (by omega)]; exact h.ops o h1 h2, fun o h1 h2 => by rw [c _ _ (by omega)]; exact h.ovs o h1 h2, Go.Joins.tab_stays gSpace h.asp hb (Nat.le_refl _), ⟨m, by rw [c _ _ (by omega)]; exact e3⟩, by rw [c _ _ (by omega)]; exact h.r0, by rw [c _ _ (by omega)]; exact h.r1, by rw [c _ _ (by omega)]; exact h.r2, by omega⟩
theorem Env.alloc {w : World} (h : Env w) (o : Obj) : Env (w.alloc o) := h.below ((Below.refl _ _).alloc (Nat.le_refl _) o)

/-- A text, not too long, comes back. -/
def TP (l : List UInt8) (w : World) (e : Ending) (w' : World) : Prop :=
  ∃ t : ByteArray, e = .returned (.string t) ∧ t.size ≤ 10000000 ∧ Hid (t = bs l) ∧ Hid (Below w.heap.size w w')
theorem tp_of {l : List UInt8} {w w' : World} {e : Ending} (he : e = .returned (.string (bs l))) (hl : l.length ≤ 10000000) (hb : Below w.heap.size w w') : TP l w e w' :=
  ⟨bs l, he, by rw [bs_size]; exact hl, rfl, hb⟩
theorem tp_ret {l : List UInt8} {w w' : World} {t : ByteArray} (ht : t = bs l) (hl : l.length ≤ 10000000) (hb : Below w.heap.size w w') : TP l w (.returned (.string t)) w' :=
  tp_of (by rw [ht]) hl hb
theorem itoa_len (n : Int) (h0 : -9223372036854775808 ≤ n) (h1 : n ≤ 9223372036854775807) : (Lib.itoa n).length ≤ 10000000 := by
  have := Lib.itoa_length_le n h0 h1; omega

theorem itoa_c (n : Int) (w : World) (hE : Env w) (h0 : -9223372036854775808 ≤ n) (h1 : n ≤ 9223372036854775807) :
    Calls Tryz.prog 39 #[.int .i64 n] w (TP (Lib.itoa n) w) :=
  (Tryz.strconv_Itoa n h0 h1 w hE.pow).mono fun _ _ ⟨he, k, os, hw⟩ => tp_of he (itoa_len n h0 h1) (by rw [hw]; exact Go.Lib.below_grow _ _ (Nat.le_refl _) k os)
theorem replaceAll_c (s old new : ByteArray) (w : World) (hE : Env w) (hs : s.size ≤ 3000000) (h1 : 1 ≤ old.size) (h2 : new.size ≤ 2) (h3 : (Lib.replaceAll s.data.toList old.data.toList new.data.toList).length ≤ 10000000) :
    Calls Tryz.prog 38 #[.string s, .string old, .string new] w (TP (Lib.replaceAll s.data.toList old.data.toList new.data.toList) w) := by
  obtain ⟨m, hm⟩ := hE.mx
  have hc := Lib.countB_le old h1 s.size s (Nat.le_refl _)
  have hmul : Lib.countB s old * new.size ≤ s.size * 2 := Nat.mul_le_mul hc h2
  exact (Tryz.strings_ReplaceAll s old new m w (by omega) hm h1 (by omega)).mono fun _ _ ⟨he, hb⟩ => tp_of he h3 hb
theorem repeat_c (s : ByteArray) (c : Nat) (w : World) (hs : s.size ≤ 1) (hc : c ≤ 100) :
    Calls Tryz.prog 75 #[.string s, .int .i64 c] w (TP (Lib.repeatL s.data.toList c) w) :=
  (Tryz.strings_Repeat s c w (by omega) (by have := Nat.mul_le_mul hs hc; omega)).mono fun _ _ ⟨he, hb⟩ => tp_of he (by
    rw [Lib.repeatL_length, ← Lib.size_eq]
    have := Nat.mul_le_mul hc hs; omega) hb

end Go.Proofs.YtcdifmnakppfkaaGreatDoor
