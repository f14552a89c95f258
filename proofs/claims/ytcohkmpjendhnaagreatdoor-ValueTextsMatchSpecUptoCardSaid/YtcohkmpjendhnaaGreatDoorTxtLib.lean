/-
  What the walks of texts need of memory; and the library's functions that they call, each by a contract of one form.
-/
import Derived.Test.YtcohkmpjendhnaaGreatDoorTxtDays
import Derived.Test.YtcohkmpjendhnaaGreatDoorTxtChkV
import Derived.Test.YtcohkmpjendhnaaGreatDoorTxtMath
import Derived.Test.YtcohkmpjendhnaaGreatDoorShelf
import Derived.Lib.AppendIntMem
import Derived.Lib.QuietBelow
import Derived.Lib.ItoaLen
namespace Go.Proofs.YtcohkmpjendhnaaGreatDoor
open Go.RowKit

/-- A text of bytes. -/
def bs (l : List UInt8) : ByteArray := ⟨l.toArray⟩
theorem bs_size (l : List UInt8) : (bs l).size = l.length := by simp [bs, ByteArray.size]
theorem bs_list (l : List UInt8) : (bs l).data.toList = l := by simp [bs]
theorem bs_of (s : ByteArray) : bs s.data.toList = s := by cases s; simp [bs]
theorem bs_app (a b : List UInt8) : bs a ++ bs b = bs (a ++ b) := by
  apply ByteArray.ext; simp [bs, ByteArray.data_append]

theorem gPow : Tryz.prog.globalNamed "internal/strconv.uint64pow10" = some 5 := by kernel_rfl

/-- What the package-level variables hold. -/
structure Env (w : World) : Prop where
  tab : Tab w
  pow : Lib.TabIs Tryz.prog w "internal/strconv.uint64pow10" .u64 Lib.pow10Tab
  syn : ∃ t p, w.cell? ⟨6, 0, none⟩ = some (.iface t p)
  rng : ∃ t p, w.cell? ⟨7, 0, none⟩ = some (.iface t p)
  mx : ∃ m, w.cell? ⟨2, 0, none⟩ = some (.int .i64 m)
  r0 : w.cell? ⟨0, 0, none⟩ = some (.string ⟨#[100, 111, 110, 116, 107, 110, 111, 119]⟩)
  r1 : w.cell? ⟨0, 1, none⟩ = some (.string ⟨#[114, 101, 102, 117, 115, 101, 100]⟩)
  r2 : w.cell? ⟨0, 2, none⟩ = some (.string ⟨#[110, 111, 97, 110, 115, 119, 101, 114]⟩)
  big : 10 ≤ w.heap.size
theorem Env.below {w w' : World} (h : Env w) (hb : Below w.heap.size w w') : Env w' := by
  have hs := hb.size
  have hg := h.big
  have c := fun (b o : Nat) (hl : b < 10) => hb.cell (p := ⟨b, o, none⟩) (by show b < _; omega)
  obtain ⟨t1, p1, e1⟩ := h.syn
  obtain ⟨t2, p2, e2⟩ := h.rng
  obtain ⟨m, e3⟩ := h.mx
  exact ⟨h.tab.below hb, Go.Joins.tab_stays gPow h.pow hb (Nat.le_refl _), ⟨t1, p1, by rw [c _ _ (by omega)]; exact e1⟩, ⟨t2, p2, by rw [c _ _ (by omega)]; exact e2⟩, ⟨m, by rw [c _ _ (by omega)]; exact e3⟩, by rw [c _ _ (by omega)]; exact h.r0, by rw [c _ _ (by omega)]; exact h.r1, by rw [c _ _ (by omega)]; exact h.r2, by omega⟩
theorem Env.alloc {w : World} (h : Env w) (o : Obj) : Env (w.alloc o) := h.below ((Below.refl _ _).alloc (Nat.le_refl _) o)

/-- A text, not too long, comes back. -/
def TP (l : List UInt8) (w : World) (e : Ending) (w' : World) : Prop :=
  ∃ t : ByteArray, e = .returned (.string t) ∧ t.size ≤ 10000000 ∧ Hid (t = bs l) ∧ Hid (Below w.heap.size w w')
theorem tp_of {l : List UInt8} {w w' : World} {e : Ending} (he : e = .returned (.string (bs l))) (hl : l.length ≤ 10000000) (hb : Below w.heap.size w w') : TP l w e w' :=
  ⟨bs l, he, by rw [bs_size]; exact hl, rfl, hb⟩
theorem tp_ret {l : List UInt8} {w w' : World} {t : ByteArray} (ht : t = bs l) (hl : l.length ≤ 10000000) (hb : Below w.heap.size w w') : TP l w (.returned (.string t)) w' :=
  tp_of (by rw [ht]) hl hb
theorem itoa_len (n : Int) (h0 : -9223372036854775808 ≤ n) (h1 : n ≤ 9223372036854775807) : (Lib.itoa n).length ≤ 10000000 := by
  have := Lib.itoa_length_le n h0 h1; omega

theorem itoa_c (n : Int) (w : World) (hE : Env w) (h0 : -9223372036854775808 ≤ n) (h1 : n ≤ 9223372036854775807) :
    Calls Tryz.prog 16 #[.int .i64 n] w (TP (Lib.itoa n) w) :=
  (Tryz.strconv_Itoa n h0 h1 w hE.pow).mono fun _ _ ⟨he, k, os, hw⟩ => tp_of he (itoa_len n h0 h1) (by rw [hw]; exact Go.Lib.below_grow _ _ (Nat.le_refl _) k os)
theorem replaceAll_c (s old new : ByteArray) (w : World) (hE : Env w) (hs : s.size ≤ 3000000) (h1 : 1 ≤ old.size) (h2 : new.size ≤ 2) (h3 : (Lib.replaceAll s.data.toList old.data.toList new.data.toList).length ≤ 10000000) :
    Calls Tryz.prog 15 #[.string s, .string old, .string new] w (TP (Lib.replaceAll s.data.toList old.data.toList new.data.toList) w) := by
  obtain ⟨m, hm⟩ := hE.mx
  have hc := Lib.countB_le old h1 s.size s (Nat.le_refl _)
  have hmul : Lib.countB s old * new.size ≤ s.size * 2 := Nat.mul_le_mul hc h2
  exact (Tryz.strings_ReplaceAll s old new m w (by omega) hm h1 (by omega)).mono fun _ _ ⟨he, hb⟩ => tp_of he h3 hb
theorem repeat_c (s : ByteArray) (c : Nat) (w : World) (hs : s.size ≤ 1) (hc : c ≤ 100) :
    Calls Tryz.prog 36 #[.string s, .int .i64 c] w (TP (Lib.repeatL s.data.toList c) w) :=
  (Tryz.strings_Repeat s c w (by omega) (by have := Nat.mul_le_mul hs hc; omega)).mono fun _ _ ⟨he, hb⟩ => tp_of he (by
    rw [Lib.repeatL_length, ← Lib.size_eq]
    have := Nat.mul_le_mul hc hs; omega) hb

/-- Atoi: a number, or an error. -/
def AtoiPost (w : World) (e : Ending) (w' : World) : Prop :=
  ∃ (v : Int) (t : TypeId) (p : Value), e = .returned (.tuple #[.int .i64 v, .iface t p]) ∧ Below w.heap.size w w'
theorem atoi_ok (s : ByteArray) (v : Int) (w : World) (hs : s.size ≤ 281474976710656) (h : Lib.atoiAll s.data.toList = .ok v) :
    Calls Tryz.prog 45 #[.string s] w fun e w' => e = .returned (.tuple #[.int .i64 v, .nilIface]) ∧ Below w.heap.size w w' :=
  (Tryz.strconv_Atoi_ok s (by omega) v h w).mono fun _ _ ⟨he, hw⟩ => ⟨he, by
    rcases hw with hw | ⟨t, hw⟩ <;> rw [hw]
    · exact Below.refl _ _
    · exact Go.Joins.below_bytesWorld _ _ _ _ (Nat.le_refl _)⟩
theorem atoi_err (s : ByteArray) (w : World) (hE : Env w) (hs : s.size ≤ 281474976710656) (h : ∀ v, Lib.atoiAll s.data.toList ≠ .ok v) :
    Calls Tryz.prog 45 #[.string s] w (AtoiPost w) := by
  obtain ⟨t1, p1, e1⟩ := hE.syn
  obtain ⟨t2, p2, e2⟩ := hE.rng
  rcases e : Lib.atoiAll s.data.toList with v | _ | _
  · exact absurd e (h v)
  · exact (Any.strconv_Atoi_syntax Tryz.laysC172 s hs e _ w e1 (.inr ⟨_, _, rfl⟩)).mono fun _ _ ⟨N, he, _, _, hb⟩ => ⟨_, _, _, he, hb⟩
  · exact (Any.strconv_Atoi_range Tryz.laysC172 s hs e _ w e2 (.inr ⟨_, _, rfl⟩)).mono fun _ _ ⟨N, he, _, _, hb⟩ => ⟨_, _, _, he, hb⟩

theorem natural_c (s : ByteArray) (w : World) (hE : Env w) (hs : s.size ≤ 281474976710656) :
    Calls Tryz.prog 40 #[.string s] w fun e w' => e = .returned (.int .i64 (Txt.natF s.data.toList)) ∧ Below w.heap.size w w' := by
  by_cases h : ∃ v, Lib.atoiAll s.data.toList = .ok v
  · obtain ⟨v, hv⟩ := h
    have e : Hid (Txt.natF s.data.toList = if v < 0 then -1 else v) := by unfold Hid Txt.natF; rw [hv]
    have hA := Lib.hid (fun w : World => atoi_ok s v w hs hv)
    clear hv
    by_cases h0 : v < 0
    · have e2 : Hid (Txt.natF s.data.toList = -1) := by unfold Hid; rw [e.out, if_pos h0]
      clear e
      go_enter Tryz.func40, Tryz.ntmps40
      go_wp2_with fail
      refine (hA.out _).mono ?_
      rintro e w' ⟨rfl, hb⟩
      have HB := Lib.hid hb; clear hb
      go_wp2
      go_ret
      exact ⟨by rw [e2.out]; rfl, HB.out⟩
    · have e2 : Hid (Txt.natF s.data.toList = v) := by unfold Hid; rw [e.out, if_neg h0]
      have h0' : decide (v < 0) = false := by simpa using h0
      clear e h0
      go_enter Tryz.func40, Tryz.ntmps40
      go_wp2_with fail
      refine (hA.out _).mono ?_
      rintro e w' ⟨rfl, hb⟩
      have HB := Lib.hid hb; clear hb
      go_wp2
      go_ret
      exact ⟨by rw [e2.out]; rfl, HB.out⟩
  · have e2 : Hid (Txt.natF s.data.toList = -1) := by
      unfold Hid Txt.natF
      rcases e : Lib.atoiAll s.data.toList with v | _ | _
      · exact absurd ⟨v, e⟩ h
      · rfl
      · rfl
    have hA := Lib.hid (atoi_err s w hE hs (fun v hv => h ⟨v, hv⟩))
    clear h
    go_enter Tryz.func40, Tryz.ntmps40
    go_wp2_with fail
    refine hA.out.mono ?_
    rintro e w' ⟨v, t, p, rfl, hb⟩
    have HB := Lib.hid hb; clear hb
    go_wp2
    go_ret
    exact ⟨by rw [e2.out]; rfl, HB.out⟩
end Go.Proofs.YtcohkmpjendhnaaGreatDoor
