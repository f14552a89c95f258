/-
  What Read of package value makes of a text; and Read.
-/
import Derived.Test.YtcohkmpjendhnaaGreatDoorTxtMeantB
import Derived.Test.YtcohkmpjendhnaaGreatDoorTxtMeantC
namespace Go.Proofs.YtcohkmpjendhnaaGreatDoor
open Go.RowKit

/-- A value comes back, which is every sound value with the text, if there is one. -/
def MeantPost (t : ByteArray) (w : World) (e : Ending) (w' : World) : Prop :=
  ∃ k n s v l, e = .returned (.agg #[.int .i64 k, .int .i64 n, .string s, v]) ∧ s.size ≤ 10000000 ∧ Hid (IsL w' v l) ∧ Hid (Means t.data.toList k n s l) ∧ Hid (Below w.heap.size w w') ∧ ∃ a m c, v = .slice a m c ∧ (m = 0 ∨ ∃ b, a = some ⟨b, 0, none⟩ ∧ w.heap.size ≤ b)
theorem meant_kn {t : ByteArray} {k n : Int} {w w' : World} {e : Ending} (he : e = .returned (kn k n)) (hm : Means t.data.toList k n ⟨#[]⟩ []) (hb : Below w.heap.size w w') : MeantPost t w e w' :=
  ⟨k, n, ⟨#[]⟩, .slice none 0 0, [], he, by simp [ByteArray.size], .inl ⟨none, 0, rfl, rfl⟩, hm, hb, _, _, _, rfl, .inl rfl⟩
theorem bytes_eq {t : ByteArray} {l : List UInt8} (h : t.data.toList = l) : t = bs l := by rw [← h, bs_of]
theorem beq_ne {t : ByteArray} {l : List UInt8} (h : t.data.toList ≠ l) : (t.toList == l) = false := by
  rw [Lib.toList_data]; simpa using h

set_option maxHeartbeats 1000000 in
theorem meant_reason (i : Int) (w : World) (hE : Env w) (h1 : 1 ≤ i) (h2 : i ≤ 3) :
    Calls Tryz.prog 20 #[.string (bs (reasonT i))] w (MeantPost (bs (reasonT i)) w) := by
  have hc0 : ∀ o, (w.alloc o).cell? ⟨0, 0, none⟩ = some (.string ⟨#[100, 111, 110, 116, 107, 110, 111, 119]⟩) := fun o => (hE.alloc o).r0
  have hc1 : ∀ o, (w.alloc o).cell? ⟨0, 1, none⟩ = some (.string ⟨#[114, 101, 102, 117, 115, 101, 100]⟩) := fun o => (hE.alloc o).r1
  have hc2 : ∀ o, (w.alloc o).cell? ⟨0, 2, none⟩ = some (.string ⟨#[110, 111, 97, 110, 115, 119, 101, 114]⟩) := fun o => (hE.alloc o).r2
  have i0 : ∀ w, (Instr.index 46 (.agg #[.string ⟨#[100, 111, 110, 116, 107, 110, 111, 119]⟩, .string ⟨#[114, 101, 102, 117, 115, 101, 100]⟩, .string ⟨#[110, 111, 97, 110, 115, 119, 101, 114]⟩]) (.int .i64 0)).run Tryz.prog w = .ok (.string ⟨#[100, 111, 110, 116, 107, 110, 111, 119]⟩) w := fun _ => by kernel_rfl
  have i1 : ∀ w, (Instr.index 46 (.agg #[.string ⟨#[100, 111, 110, 116, 107, 110, 111, 119]⟩, .string ⟨#[114, 101, 102, 117, 115, 101, 100]⟩, .string ⟨#[110, 111, 97, 110, 115, 119, 101, 114]⟩]) (.int .i64 1)).run Tryz.prog w = .ok (.string ⟨#[114, 101, 102, 117, 115, 101, 100]⟩) w := fun _ => by kernel_rfl
  have i2 : ∀ w, (Instr.index 46 (.agg #[.string ⟨#[100, 111, 110, 116, 107, 110, 111, 119]⟩, .string ⟨#[114, 101, 102, 117, 115, 101, 100]⟩, .string ⟨#[110, 111, 97, 110, 115, 119, 101, 114]⟩]) (.int .i64 2)).run Tryz.prog w = .ok (.string ⟨#[110, 111, 97, 110, 115, 119, 101, 114]⟩) w := fun _ => by kernel_rfl
  have hM := Lib.hid (means_reason i h1 h2)
  have hi : i = 1 ∨ i = 2 ∨ i = 3 := by omega
  clear h1 h2 hE
  rcases hi with rfl | rfl | rfl
  · have et : bs (reasonT 1) = ⟨#[100, 111, 110, 116, 107, 110, 111, 119]⟩ := by decide +kernel
    rw [et]
    have hM2 : Hid (Means (⟨#[100, 111, 110, 116, 107, 110, 111, 119]⟩ : ByteArray).data.toList 1 1 ⟨#[]⟩ []) := by rw [← et, bs_list]; exact hM.out
    clear hM et
    go_enter Tryz.func20, Tryz.ntmps20
    go_wp2
    go_loop [3, 4, 6] (fun _ _ i => i = .int .i64 0) (fun _ _ _ => 0)
    case atStart => rfl
    case round =>
      obtain rfl := hrel
      go_wp2
      refine bodyPost_ret (v := kn 1 1) (by simp [results, Tryz.results20, go_sem]) rfl ?_
      exact meant_kn rfl hM2.out ((Below.refl _ _).alloc (Nat.le_refl _) _)
  · have et : bs (reasonT 2) = ⟨#[114, 101, 102, 117, 115, 101, 100]⟩ := by decide +kernel
    rw [et]
    have hM2 : Hid (Means (⟨#[114, 101, 102, 117, 115, 101, 100]⟩ : ByteArray).data.toList 1 2 ⟨#[]⟩ []) := by rw [← et, bs_list]; exact hM.out
    clear hM et
    go_enter Tryz.func20, Tryz.ntmps20
    go_wp2
    go_loop [3, 4, 6] (fun _ _ i => i = .int .i64 0 ∨ i = .int .i64 1) (fun _ _ i => 1 - (intOf i).toNat)
    case atStart => exact .inl rfl
    case round =>
      rcases hrel with rfl | rfl
      · go_wp2
        go_round
        case rel => exact .inr rfl
        case measure => simp [intOf]
      · go_wp2
        refine bodyPost_ret (v := kn 1 2) (by simp [results, Tryz.results20, go_sem]) rfl ?_
        exact meant_kn rfl hM2.out ((Below.refl _ _).alloc (Nat.le_refl _) _)
  · have et : bs (reasonT 3) = ⟨#[110, 111, 97, 110, 115, 119, 101, 114]⟩ := by decide +kernel
    rw [et]
    have hM2 : Hid (Means (⟨#[110, 111, 97, 110, 115, 119, 101, 114]⟩ : ByteArray).data.toList 1 3 ⟨#[]⟩ []) := by rw [← et, bs_list]; exact hM.out
    clear hM et
    go_enter Tryz.func20, Tryz.ntmps20
    go_wp2
    go_loop [3, 4, 6] (fun _ _ i => i = .int .i64 0 ∨ i = .int .i64 1 ∨ i = .int .i64 2) (fun _ _ i => 2 - (intOf i).toNat)
    case atStart => exact .inl rfl
    case round =>
      rcases hrel with rfl | rfl | rfl
      · go_wp2
        go_round
        case rel => exact .inr (.inl rfl)
        case measure => simp [intOf]
      · go_wp2
        go_round
        case rel => exact .inr (.inr rfl)
        case measure => simp [intOf]
      · go_wp2
        refine bodyPost_ret (v := kn 1 3) (by simp [results, Tryz.results20, go_sem]) rfl ?_
        exact meant_kn rfl hM2.out ((Below.refl _ _).alloc (Nat.le_refl _) _)

/-- The texts that begin with a byte. -/
theorem list_cons {t : ByteArray} (h : 0 < t.size) : ∃ r, t.data.toList = t[0] :: r := by
  have hl : 0 < t.data.toList.length := by rw [← Lib.size_eq]; exact h
  cases e : t.data.toList with
  | nil => rw [e] at hl; simp at hl
  | cons c r =>
    refine ⟨r, ?_⟩
    have : t[0] = c := by
      have h1 : t.data.toList[0]? = some c := by rw [e]; rfl
      have h2 : t.data.toList[0]? = some t[0] := by
        rw [List.getElem?_eq_getElem hl]; rfl
      rw [h2] at h1; exact Option.some.inj h1
    rw [this]

set_option maxHeartbeats 8000000 in
theorem meant_other (t : ByteArray) (w : World) (hE : Env w) (hs : t.size ≤ 2000000) (hr : ∀ i, 1 ≤ i → i ≤ 3 → t.data.toList ≠ reasonT i) :
    Calls Tryz.prog 20 #[.string t] w (MeantPost t w) := by
  have hc0 : ∀ o, (w.alloc o).cell? ⟨0, 0, none⟩ = some (.string ⟨#[100, 111, 110, 116, 107, 110, 111, 119]⟩) := fun o => (hE.alloc o).r0
  have hc1 : ∀ o, (w.alloc o).cell? ⟨0, 1, none⟩ = some (.string ⟨#[114, 101, 102, 117, 115, 101, 100]⟩) := fun o => (hE.alloc o).r1
  have hc2 : ∀ o, (w.alloc o).cell? ⟨0, 2, none⟩ = some (.string ⟨#[110, 111, 97, 110, 115, 119, 101, 114]⟩) := fun o => (hE.alloc o).r2
  have i0 : ∀ w, (Instr.index 46 (.agg #[.string ⟨#[100, 111, 110, 116, 107, 110, 111, 119]⟩, .string ⟨#[114, 101, 102, 117, 115, 101, 100]⟩, .string ⟨#[110, 111, 97, 110, 115, 119, 101, 114]⟩]) (.int .i64 0)).run Tryz.prog w = .ok (.string ⟨#[100, 111, 110, 116, 107, 110, 111, 119]⟩) w := fun _ => by kernel_rfl
  have i1 : ∀ w, (Instr.index 46 (.agg #[.string ⟨#[100, 111, 110, 116, 107, 110, 111, 119]⟩, .string ⟨#[114, 101, 102, 117, 115, 101, 100]⟩, .string ⟨#[110, 111, 97, 110, 115, 119, 101, 114]⟩]) (.int .i64 1)).run Tryz.prog w = .ok (.string ⟨#[114, 101, 102, 117, 115, 101, 100]⟩) w := fun _ => by kernel_rfl
  have i2 : ∀ w, (Instr.index 46 (.agg #[.string ⟨#[100, 111, 110, 116, 107, 110, 111, 119]⟩, .string ⟨#[114, 101, 102, 117, 115, 101, 100]⟩, .string ⟨#[110, 111, 97, 110, 115, 119, 101, 114]⟩]) (.int .i64 2)).run Tryz.prog w = .ok (.string ⟨#[110, 111, 97, 110, 115, 119, 101, 114]⟩) w := fun _ => by kernel_rfl
  have n1 : (t.toList == [100, 111, 110, 116, 107, 110, 111, 119]) = false := beq_ne (hr 1 (by omega) (by omega))
  have n2 : (t.toList == [114, 101, 102, 117, 115, 101, 100]) = false := beq_ne (hr 2 (by omega) (by omega))
  have n3 : (t.toList == [110, 111, 97, 110, 115, 119, 101, 114]) = false := beq_ne (hr 3 (by omega) (by omega))
  have HR := Lib.hid hr
  have HE := Lib.hid hE
  have HB0 := Lib.hid (box_bel w (.cells #[.int .i64 0, .int .i64 0, .string ⟨#[]⟩, .slice none 0 0] 24))
  clear hr hE
  go_enter Tryz.func20, Tryz.ntmps20
  go_wp2
  go_loop [3, 4, 6] (fun _ _ i => i = .int .i64 0 ∨ i = .int .i64 1 ∨ i = .int .i64 2 ∨ i = .int .i64 3) (fun _ _ i => 3 - (intOf i).toNat)
  case atStart => exact .inl rfl
  case round =>
    rcases hrel with rfl | rfl | rfl | rfl
    · go_wp2
      go_round
      case rel => exact .inr (.inl rfl)
      case measure => simp [intOf]
    · go_wp2
      go_round
      case rel => exact .inr (.inr (.inl rfl))
      case measure => simp [intOf]
    · go_wp2
      go_round
      case rel => exact .inr (.inr (.inr rfl))
      case measure => simp [intOf]
    · clear i0 i1 i2 n1 n2 n3 hc0 hc1 hc2
      by_cases z0 : t.size = 0
      · obtain rfl := empty_of z0
        clear z0
        go_wp2
        refine bodyPost_ret (v := kn 0 0) (by simp [results, Tryz.results20, go_sem]) rfl ?_
        exact meant_kn rfl (means_nil _ _ _ _) HB0.out
      · have hp : 0 < t.size := by omega
        obtain ⟨p1, p2⟩ := text_some z0
        have p3 : (t.toList == []) = false := by
          cases e : t.toList with
          | nil => exact absurd e p1
          | cons a b => rfl
        clear z0 p1
        by_cases q1 : t.data.toList = [45]
        · obtain rfl := bytes_eq q1
          have hM := Lib.hid (means_none)
          have q2 : ((bs [45]).toList == [45]) = true := by decide +kernel
          clear q1
          go_wp2
          refine bodyPost_ret (v := kn 0 0) (by simp [results, Tryz.results20, go_sem]) rfl ?_
          exact meant_kn rfl (by rw [bs_list]; exact hM.out) HB0.out
        · have q2 := beq_ne q1
          have Q1 := Lib.hid q1; clear q1
          by_cases q3 : ∃ b, t.data.toList = boolT b
          · obtain ⟨b, q3⟩ := q3
            obtain rfl := bytes_eq q3
            have hM := Lib.hid (means_bool b)
            clear q3
            have hbb := Lib.hid (fun w => boolean_c b w)
            cases b
            · have q4 : ((bs (boolT false)).toList == [116, 114, 117, 101]) = false := by decide +kernel
              have q5 : ((bs (boolT false)).toList == [102, 97, 108, 115, 101]) = true := by decide +kernel
              go_wp2_with fail
              refine (hbb.out _).mono ?_
              rintro e w1 ⟨rfl, hB⟩
              obtain ⟨bc, bf⟩ := bcell hB
              have HB := Lib.hid hB; clear hB
              go_wp2
              refine bodyPost_ret (v := kn 7 0) (by simp [results, Tryz.results20, go_sem, bc]) rfl ?_
              exact meant_kn rfl (by rw [bs_list]; exact hM.out) (below4 (HB0.out.trans (HB.out.mono (by simp))) (Nat.le_refl _) _ _ _ _)
            · have q4 : ((bs (boolT true)).toList == [116, 114, 117, 101]) = true := by decide +kernel
              go_wp2_with fail
              refine (hbb.out _).mono ?_
              rintro e w1 ⟨rfl, hB⟩
              obtain ⟨bc, bf⟩ := bcell hB
              have HB := Lib.hid hB; clear hB
              go_wp2
              refine bodyPost_ret (v := kn 7 1) (by simp [results, Tryz.results20, go_sem, bc]) rfl ?_
              exact meant_kn rfl (by rw [bs_list]; exact hM.out) (below4 (HB0.out.trans (HB.out.mono (by simp))) (Nat.le_refl _) _ _ _ _)
          · have q4 : (t.toList == [116, 114, 117, 101]) = false := beq_ne (fun h => q3 ⟨true, h⟩)
            have q5 : (t.toList == [102, 97, 108, 115, 101]) = false := beq_ne (fun h => q3 ⟨false, h⟩)
            have Q3 : Hid (∀ b, t.data.toList ≠ boolT b) := fun b h => q3 ⟨b, h⟩
            clear q3
            have hpi : (0 : Int) < t.size := by omega
            obtain ⟨r, hr⟩ := list_cons hp
            have H1 := Lib.hid hr; clear hr
            by_cases c1 : t[0] = 39
            · have d1 : ((t[0].toNat : Int) == 39) = true := by rw [c1]; rfl
              have hT : Hid (t.data.toList = 39 :: r) := by unfold Hid; rw [H1.out, c1]
              clear c1
              have hI := Lib.hid (fun w => inside_c t w hp hs)
              go_wp2_with fail
              refine (hI.out _).mono ?_
              rintro e w1 ⟨u, rfl, us, hu, B1⟩
              have ul : u.data.toList = insideT t.data.toList := by rw [hu.out, bs_list]
              have uz : u.size ≤ 2000000 := by
                have := inside_le t.data.toList
                rw [← ul, ← Lib.size_eq, ← Lib.size_eq] at this; omega
              have rl := Txt.replaceAll_le u.data.toList [39, 39] [39] (by simp) (by simp) (by decide)
              rw [← Lib.size_eq] at rl
              have hRA := Lib.hid (fun w (hE : Env w) => replaceAll_c u ⟨#[39, 39]⟩ ⟨#[39]⟩ w hE (by omega) (by decide) (by decide) (Nat.le_trans rl (by omega)))
              have UL := Lib.hid ul
              clear ul hu rl
              go_wp2_with fail
              refine (hRA.out _ (HE.out.below (HB0.out.trans (B1.out.mono (by simp))))).mono ?_
              rintro e w2 ⟨x, rfl, xs, hx, B2⟩
              have hB := B1.out.trans (B2.out.mono B1.out.size)
              obtain ⟨bc, bf⟩ := bcell hB
              have HB := Lib.hid hB; clear hB
              go_wp2
              refine bodyPost_ret (v := .agg #[.int .i64 3, .int .i64 0, .string x, .slice none 0 0]) (by simp [results, Tryz.results20, go_sem, bc]) rfl ?_
              refine ⟨3, 0, x, _, [], rfl, xs, .inl ⟨none, 0, rfl, rfl⟩, ?_, below4 (HB0.out.trans (HB.out.mono (by simp))) (Nat.le_refl _) _ _ _ _, _, _, _, rfl, .inl rfl⟩
              rw [hx.out, hT.out]
              show Means _ 3 0 (bs (Lib.replaceAll u.data.toList [39, 39] [39])) []
              rw [UL.out, hT.out]
              exact means_text r
            · have d1 : ((t[0].toNat : Int) == 39) = false := by
                rw [beq_eq_false_iff_ne]; intro e; apply c1; apply UInt8.toNat_inj.1; simp; omega
              have D1 : Hid (t[0] ≠ 39) := c1
              clear c1
              by_cases c2 : t[0] = 35
              · have d2 : ((t[0].toNat : Int) == 35) = true := by rw [c2]; rfl
                have hT : Hid (t.data.toList = 35 :: r) := by unfold Hid; rw [H1.out, c2]
                clear c2
                have xl : Hid ((t.extract 1 t.size).data.toList = r) := by
                  unfold Hid; rw [extract_end, bs_list, hT.out]; rfl
                have hN : Hid (∀ w, Env w → Calls Tryz.prog 40 #[.string (t.extract 1 t.size)] w fun e w' => e = .returned (.int .i64 (Txt.natF r)) ∧ Below w.heap.size w w') := fun w hE => by
                  have := natural_c (t.extract 1 t.size) w hE (by rw [ByteArray.size_extract]; omega)
                  rw [xl.out] at this; exact this
                have h1i : (1 : Int) ≤ t.size := by omega
                go_wp2_with fail
                refine (hN.out _ (HE.out.below HB0.out)).mono ?_
                rintro e w1 ⟨rfl, hB⟩
                obtain ⟨bc, bf⟩ := bcell hB
                have HB := Lib.hid hB; clear hB
                go_wp2
                refine bodyPost_ret (v := kn 4 (Txt.natF r)) (by simp [results, Tryz.results20, go_sem, bc]) rfl ?_
                exact meant_kn rfl (by rw [hT.out]; exact means_choice r) (below4 (HB0.out.trans (HB.out.mono (by simp))) (Nat.le_refl _) _ _ _ _)
              · have d2 : ((t[0].toNat : Int) == 35) = false := by
                  rw [beq_eq_false_iff_ne]; intro e; apply c2; apply UInt8.toNat_inj.1; simp; omega
                have D2 : Hid (t[0] ≠ 35) := c2
                clear c2
                by_cases c3 : t[0] = 123
                · have d3 : ((t[0].toNat : Int) == 123) = true := by rw [c3]; rfl
                  have hT : Hid (t.data.toList = 123 :: r) := by unfold Hid; rw [H1.out, c3]
                  clear c3
                  have hI := Lib.hid (fun w => inside_c t w hp hs)
                  go_wp2_with fail
                  refine (hI.out _).mono ?_
                  rintro e w1 ⟨u, rfl, us, hu, B1⟩
                  have ul : u.data.toList = insideT t.data.toList := by rw [hu.out, bs_list]
                  have uz : u.size ≤ 2000000 := by
                    have := inside_le t.data.toList
                    rw [← ul, ← Lib.size_eq, ← Lib.size_eq] at this; omega
                  have UL := Lib.hid ul
                  clear ul hu
                  go_wp2_with fail
                  refine (meantSet_c u _ (HE.out.below (HB0.out.trans (B1.out.mono (by simp)))) uz).mono ?_
                  rintro e w2 ⟨v, rfl, hI2, B2, a, m, c, rfl, hf⟩
                  have HF := Lib.hid hf; clear hf
                  have hB := B1.out.trans (B2.out.mono B1.out.size)
                  obtain ⟨bc, bf⟩ := bcell hB
                  have HB := Lib.hid hB; clear hB
                  go_wp2
                  refine bodyPost_ret (v := .agg #[.int .i64 5, .int .i64 0, .string ⟨#[]⟩, .slice a m c]) (by simp [results, Tryz.results20, go_sem, bc]) rfl ?_
                  have hf2 : m = 0 ∨ ∃ b, a = some ⟨b, 0, none⟩ ∧ w.heap.size ≠ b := by
                    rcases HF.out with h | ⟨b, h1, h2⟩
                    · exact .inl h
                    · exact .inr ⟨b, h1, by have := B1.out.size; simp at this; omega⟩
                  have hf3 : m = 0 ∨ ∃ b, a = some ⟨b, 0, none⟩ ∧ w.heap.size ≤ b := by
                    rcases HF.out with h | ⟨b, h1, h2⟩
                    · exact .inl h
                    · exact .inr ⟨b, h1, by have := B1.out.size; simp at this; omega⟩
                  refine ⟨5, 0, _, _, setM (insideT t.data.toList), rfl, by simp [ByteArray.size], ?_, ?_, below4 (HB0.out.trans (HB.out.mono (by simp))) (Nat.le_refl _) _ _ _ _, _, _, _, rfl, hf3⟩
                  · rw [← UL.out]
                    exact (((hI2.out.other _ hf2).other _ hf2).other _ hf2).other _ hf2
                  · rw [hT.out]; exact means_set r
                · have d3 : ((t[0].toNat : Int) == 123) = false := by
                    rw [beq_eq_false_iff_ne]; intro e; apply c3; apply UInt8.toNat_inj.1; simp; omega
                  have D3 : Hid (t[0] ≠ 123) := c3
                  clear c3
                  by_cases c4 : t[0] = 64
                  · have d4 : ((t[0].toNat : Int) == 64) = true := by rw [c4]; rfl
                    have hT : Hid (t.data.toList = 64 :: r) := by unfold Hid; rw [H1.out, c4]
                    clear c4
                    have xl : Hid ((t.extract 1 t.size).data.toList = r) := by
                      unfold Hid; rw [extract_end, bs_list, hT.out]; rfl
                    have hN : Hid (∀ w, Env w → Calls Tryz.prog 42 #[.string (t.extract 1 t.size)] w (KN (dayK r) (dayN r) w)) := fun w hE => by
                      have := meantDay_c (t.extract 1 t.size) w hE (by rw [ByteArray.size_extract]; omega)
                      rw [xl.out] at this; exact this
                    have h1i : (1 : Int) ≤ t.size := by omega
                    go_wp2_with fail
                    refine (hN.out _ (HE.out.below HB0.out)).mono ?_
                    rintro e w1 ⟨rfl, hB⟩
                    obtain ⟨bc, bf⟩ := bcell hB
                    have HB := Lib.hid hB; clear hB
                    go_wp2
                    refine bodyPost_ret (v := kn (dayK r) (dayN r)) (by simp [results, Tryz.results20, go_sem, bc]) rfl ?_
                    exact meant_kn rfl (by rw [hT.out]; exact means_day r) (below4 (HB0.out.trans (HB.out.mono (by simp))) (Nat.le_refl _) _ _ _ _)
                  · have d4 : ((t[0].toNat : Int) == 64) = false := by
                      rw [beq_eq_false_iff_ne]; intro e; apply c4; apply UInt8.toNat_inj.1; simp; omega
                    have hM : Hid (Means t.data.toList (numK t.data.toList) (numN t.data.toList) ⟨#[]⟩ []) :=
                      means_number _ Q1.out HR.out Q3.out (by rw [H1.out]; intro e; exact D1.out (Option.some.inj e)) (by rw [H1.out]; intro e; exact D2.out (Option.some.inj e)) (by rw [H1.out]; intro e; exact D3.out (Option.some.inj e)) (by rw [H1.out]; intro e; exact c4 (Option.some.inj e))
                    clear c4
                    go_wp2_with fail
                    refine (meantNumber_c t _ (HE.out.below HB0.out) hs).mono ?_
                    rintro e w1 ⟨rfl, hB⟩
                    obtain ⟨bc, bf⟩ := bcell hB
                    have HB := Lib.hid hB; clear hB
                    go_wp2
                    refine bodyPost_ret (v := kn (numK t.data.toList) (numN t.data.toList)) (by simp [results, Tryz.results20, go_sem, bc]) rfl ?_
                    exact meant_kn rfl hM.out (below4 (HB0.out.trans (HB.out.mono (by simp))) (Nat.le_refl _) _ _ _ _)

theorem meant_c (t : ByteArray) (w : World) (hE : Env w) (hs : t.size ≤ 2000000) :
    Calls Tryz.prog 20 #[.string t] w (MeantPost t w) := by
  by_cases h : ∃ i, 1 ≤ i ∧ i ≤ 3 ∧ t.data.toList = reasonT i
  · obtain ⟨i, h1, h2, h3⟩ := h
    rw [bytes_eq h3]
    exact meant_reason i w hE h1 h2
  · exact meant_other t w hE hs fun i h1 h2 h3 => h ⟨i, h1, h2, h3⟩
end Go.Proofs.YtcohkmpjendhnaaGreatDoor
