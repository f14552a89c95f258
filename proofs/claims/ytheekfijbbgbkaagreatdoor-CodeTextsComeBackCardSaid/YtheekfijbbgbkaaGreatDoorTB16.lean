/-
  CodeTextsComeBack: the law.
  Package code: arguments opened: the lists that they read as.
-/
import Derived.Test.YtheekfijbbgbkaaGreatDoorTB14
import Derived.Test.YtheekfijbbgbkaaGreatDoorTB15
import Derived.Test.YtheekfijbbgbkaaGreatDoorTB02
import Derived.ProofKit
import Derived.OpenShut
import Derived.ShutString
import Derived.ChangeOld
import Derived.Deep.DeepHandedRow
import Derived.Lib.SmallJoins
namespace Go.Proofs.YtheekfijbbgbkaaGreatDoor
open Go.RowKit Go.WideMaps Go.Maps

set_option maxRecDepth 100000 in
theorem eqN_c (a1 a2 : Option Addr) (c1 c2 : Nat) (C : List Nd) (w : World) (h1 : RdN w a1 C) (h2 : RdN w a2 C) :
    Calls Tryz.prog 7 #[.slice a1 C.length c1, .slice a2 C.length c2] w fun e w' => e = .returned (.bool true) ∧ Below w.heap.size w w' := by
  have H1 := Lib.hid h1
  have H2 := Lib.hid h2
  have h9 := h1.1
  clear h1 h2
  go_enter Tryz.func7, Tryz.ntmps7
  go_wp2
  go_loopw [5, 13] (fun _ i wr => ∃ k : Nat, k ≤ C.length ∧ i = .int .i64 k ∧ Hid (Below w.heap.size w wr)) (fun _ i _ => C.length - (intOf i).toNat)
  case atStart => exact ⟨0, Nat.zero_le _, rfl, Below.refl _ _⟩
  case round =>
    obtain ⟨k, hk, rfl, hR⟩ := hrel
    by_cases hlt : k < C.length
    · have hlt' : (k : Int) < (C.length : Int) := by omega
      obtain ⟨b1, o1, rfl, p0, p1, p2⟩ := (H1.out.below hR.out).at_ hlt
      obtain ⟨b2, o2, rfl, q0, q1, q2⟩ := (H2.out.below hR.out).at_ hlt
      generalize (nd C k).cd = x0 at *
      generalize (nd C k).pr = x1 at *
      generalize (nd C k).ti = x2 at *
      go_wp2_with fail
      go_quiet (fail)
      have NX : Hid (Below w.heap.size w (wr.drewN nq)) := hR.out.trans ((bel_drewN _ _).mono hR.out.size)
      clear p0 p1 p2 q0 q1 q2
      go_wp2
      go_roundw
      case rel => exact ⟨k + 1, by omega, by go_num, NX.out⟩
      case measure => simp [intOf]; omega
    · obtain rfl : k = C.length := by omega
      go_wp2
      go_ret
      exact ⟨rfl, hR.out⟩
/-- What Read gives, in short. -/
def RdA (w : World) (e : Ending) (w' : World) : Prop :=
  Below w.heap.size w w' ∧ ((∃ (n f : Int), f ≠ 0 ∧ e = .returned (.tuple #[.slice none 0 0, .int .i64 n, .int .i64 f])) ∨
    ∃ (K : List Nd) (a : Option Addr) (c : Nat), frS K = 0 ∧ Fits K ∧ e = .returned (.tuple #[.slice a K.length c, .int .i64 0, .int .i64 0]) ∧ RdN w' a K)
theorem readAny_c (s : ByteArray) (w : World) (hE : Ev w) (hs : s.size ≤ 9223372036854775807) : Calls Tryz.prog 5 #[.string s] w (RdA w) :=
  (Read_c s w hE hs).mono fun e w' ⟨hb, h⟩ => ⟨hb, by
    rcases h with ⟨_, rfl⟩ | ⟨_, h1, rfl⟩ | ⟨_, _, h1, rfl⟩ | ⟨_, _, _, K, _, hF, ⟨h1, rfl⟩ | ⟨h1, a, c, rfl, hr⟩⟩
    · exact .inl ⟨_, _, by decide, rfl⟩
    · exact .inl ⟨_, _, by decide, rfl⟩
    · exact .inl ⟨_, _, by decide, rfl⟩
    · exact .inl ⟨_, _, h1, rfl⟩
    · exact .inr ⟨K, a, c, h1, hF, rfl, hr⟩⟩
def RdK (l : List Nd) (w : World) (e : Ending) (w' : World) : Prop :=
  ∃ a c, e = .returned (.tuple #[.slice a l.length c, .int .i64 0, .int .i64 0]) ∧ RdN w' a l ∧ Below w.heap.size w w'
theorem readBack_c (l : List Nd) (w : World) (hE : Ev w) (hz : frS l = 0) : Calls Tryz.prog 5 #[.string (bs (txN l 9 0 0))] w (RdK l w) := by
  have F := fr_of hz
  have hl : (txN l 9 0 0).length ≤ 60000 := by
    have h1 := txN_len F (short_of hz) 9 0 0 (by omega)
    have h2 := dsc_le l 0
    have h3 : l.length ≤ 600 := F.le
    omega
  have he : (bs (txN l 9 0 0)).data.toList = txN l 9 0 0 := bsT_list _
  refine (Read_c (bs (txN l 9 0 0)) w hE (by rw [bs_size]; omega)).mono fun e w' ⟨hb, h⟩ => ?_
  rw [he] at h
  rcases h with ⟨h1, _⟩ | ⟨_, h1, _⟩ | ⟨_, _, h1, _⟩ | ⟨_, _, _, K, hK, _, h⟩
  · omega
  · exact absurd (T_sc F) h1
  · exact absurd (T_rp F) h1
  · obtain rfl := hK.one (T_k F)
    rcases h with ⟨h1, _⟩ | ⟨_, a, c, rfl, hr⟩
    · exact absurd hz h1
    · exact ⟨a, c, rfl, hr, hb⟩
set_option maxRecDepth 100000 in
set_option maxHeartbeats 4000000 in
theorem law_back (sa : Option Addr) (c : Nat) (l : List Nd) (t : ByteArray) (w : World) (hl : RdN w sa l) (hf : Fits l) (ht : t.size ≤ 9223372036854775807) (hE : Ev w) :
    Calls Tryz.prog 4 #[.slice sa l.length c, .string t] w fun e w' => e = .returned (.bool true) ∧ Below w.heap.size w w' := by
  have HT := Lib.hid (Text_c sa c l w hl hf hE.pow)
  have HL := Lib.hid hl
  have HE := Lib.hid hE
  have HR := Lib.hid (fun V (hb : Below w.heap.size w V) => readAny_c t V (hE.below hb) ht)
  clear hl hf hE ht
  by_cases hz : frS l = 0
  · have HZ := Lib.hid hz
    obtain ⟨s1, hs1⟩ : ∃ s, bs (txN l 9 0 0) = s := ⟨_, rfl⟩
    have HRB := Lib.hid (fun V (hb : Below w.heap.size w V) => readBack_c l V (HE.out.below hb) hz)
    have HS1 := Lib.hid hs1
    rw [hs1] at HRB
    clear hz hs1
    go_enter Tryz.func4, Tryz.ntmps4
    go_wp2_with fail
    (with_reducible refine HT.out.mono ?_)
    rintro e W1 (⟨_, rfl, b1⟩ | ⟨hx, _⟩)
    · rw [HS1.out]
      have B1 := Lib.hid b1
      clear b1
      go_wp2_with fail
      (with_reducible refine (HRB.out W1 B1.out).mono ?_)
      rintro e W2 ⟨a2, d2, rfl, hr2, b2⟩
      have B2 : Hid (Below w.heap.size w W2) := B1.out.trans (b2.mono B1.out.size)
      have HQ1 := Lib.hid (eqN_c a2 sa d2 c l W2 hr2 (HL.out.below B2.out))
      clear hr2 b2
      go_wp2_with fail
      (with_reducible refine HQ1.out.mono ?_)
      rintro e W3 ⟨rfl, b3⟩
      have B3 : Hid (Below w.heap.size w W3) := B2.out.trans (b3.mono B2.out.size)
      clear b3
      go_wp2_with fail
      (with_reducible refine (HR.out W3 B3.out).mono ?_)
      rintro e V1 ⟨c1, ⟨n, f, hf0, rfl⟩ | ⟨K, a3, d3, hz3, hF3, rfl, hr3⟩⟩
      · have BB : Hid (Below w.heap.size w V1) := B3.out.trans (c1.mono B3.out.size)
        have f1 : (f == 0) = false := by rw [beq_eq_false_iff_ne]; exact hf0
        have f2 : (f != 0) = true := by rw [bne, f1]; rfl
        clear c1 hf0
        go_wp2
        go_ret
        exact ⟨rfl, BB.out⟩
      · have C1 : Hid (Below w.heap.size w V1) := B3.out.trans (c1.mono B3.out.size)
        have HX := Lib.hid (Text_c a3 d3 K V1 hr3 hF3 (HE.out.pow.below C1.out))
        have H3 := Lib.hid hr3
        have HZ3 := Lib.hid hz3
        obtain ⟨s2, hs2⟩ : ∃ s, bs (txN K 9 0 0) = s := ⟨_, rfl⟩
        have HRK := Lib.hid (fun V (hb : Below w.heap.size w V) => readBack_c K V (HE.out.below hb) hz3)
        have HS2 := Lib.hid hs2
        rw [hs2] at HRK
        clear c1 hz3 hF3 hr3 hs2
        go_wp2_with fail
        (with_reducible refine HX.out.mono ?_)
        rintro e V2 (⟨_, rfl, c2⟩ | ⟨hx, _⟩)
        · rw [HS2.out]
          have C2 : Hid (Below w.heap.size w V2) := C1.out.trans (c2.mono C1.out.size)
          have R2 : Hid (RdN V2 a3 K) := H3.out.below c2
          clear c2
          go_wp2_with fail
          (with_reducible refine (HRK.out V2 C2.out).mono ?_)
          rintro e V3 ⟨a4, d4, rfl, hr4, c3⟩
          have C3 : Hid (Below w.heap.size w V3) := C2.out.trans (c3.mono C2.out.size)
          have HQ := Lib.hid (eqN_c a4 a3 d4 d3 K V3 hr4 (R2.out.below c3))
          clear hr4 c3
          go_wp2_with fail
          (with_reducible refine HQ.out.mono ?_)
          rintro e V4 ⟨rfl, c4⟩
          have C4 : Hid (Below w.heap.size w V4) := C3.out.trans (c4.mono C3.out.size)
          clear c4
          go_wp2
          go_ret
          exact ⟨rfl, C4.out⟩
        · exact absurd HZ3.out hx
    · exact absurd HZ.out hx
  · have HZ := Lib.hid hz
    obtain ⟨g, hg⟩ : ∃ g, frS l = g := ⟨_, rfl⟩
    have HG := Lib.hid hg
    have g1 : (g == 0) = false := by rw [beq_eq_false_iff_ne, ← hg]; exact hz
    have g2 : (g != 0) = true := by rw [bne, g1]; rfl
    clear hz hg
    go_enter Tryz.func4, Tryz.ntmps4
    go_wp2_with fail
    (with_reducible refine HT.out.mono ?_)
    rintro e W1 (⟨hx, _⟩ | ⟨_, rfl, b1⟩)
    · exact absurd hx HZ.out
    · rw [HG.out]
      have B1 := Lib.hid b1
      clear b1
      go_wp2_with fail
      (with_reducible refine (HR.out W1 B1.out).mono ?_)
      rintro e V1 ⟨c1, ⟨n, f, hf0, rfl⟩ | ⟨K, a3, d3, hz3, hF3, rfl, hr3⟩⟩
      · have BB : Hid (Below w.heap.size w V1) := B1.out.trans (c1.mono B1.out.size)
        have f1 : (f == 0) = false := by rw [beq_eq_false_iff_ne]; exact hf0
        have f2 : (f != 0) = true := by rw [bne, f1]; rfl
        clear c1 hf0
        go_wp2
        go_ret
        exact ⟨rfl, BB.out⟩
      · have C1 : Hid (Below w.heap.size w V1) := B1.out.trans (c1.mono B1.out.size)
        have HX := Lib.hid (Text_c a3 d3 K V1 hr3 hF3 (HE.out.pow.below C1.out))
        have H3 := Lib.hid hr3
        have HZ3 := Lib.hid hz3
        obtain ⟨s2, hs2⟩ : ∃ s, bs (txN K 9 0 0) = s := ⟨_, rfl⟩
        have HRK := Lib.hid (fun V (hb : Below w.heap.size w V) => readBack_c K V (HE.out.below hb) hz3)
        have HS2 := Lib.hid hs2
        rw [hs2] at HRK
        clear c1 hz3 hF3 hr3 hs2
        go_wp2_with fail
        (with_reducible refine HX.out.mono ?_)
        rintro e V2 (⟨_, rfl, c2⟩ | ⟨hx, _⟩)
        · rw [HS2.out]
          have C2 : Hid (Below w.heap.size w V2) := C1.out.trans (c2.mono C1.out.size)
          have R2 : Hid (RdN V2 a3 K) := H3.out.below c2
          clear c2
          go_wp2_with fail
          (with_reducible refine (HRK.out V2 C2.out).mono ?_)
          rintro e V3 ⟨a4, d4, rfl, hr4, c3⟩
          have C3 : Hid (Below w.heap.size w V3) := C2.out.trans (c3.mono C2.out.size)
          have HQ := Lib.hid (eqN_c a4 a3 d4 d3 K V3 hr4 (R2.out.below c3))
          clear hr4 c3
          go_wp2_with fail
          (with_reducible refine HQ.out.mono ?_)
          rintro e V4 ⟨rfl, c4⟩
          have C4 : Hid (Below w.heap.size w V4) := C3.out.trans (c4.mono C3.out.size)
          clear c4
          go_wp2
          go_ret
          exact ⟨rfl, C4.out⟩
        · exact absurd HZ3.out hx
end Go.Proofs.YtheekfijbbgbkaaGreatDoor
namespace Go.Proofs.YtheekfijbbgbkaaGreatDoor
open Go.ChangeShapes Go.WideShapes Go.ChangeAt Go.RowKit Go.Joins

theorem laidOut : laidOutB Tryz.prog = true := by kernel_rfl
theorem own : ownKnob Tryz.prog.godebug = none := by kernel_rfl
theorem block_lt {W : World} {b o : Nat} {v : Value} (h : W.cell? ⟨b, o, none⟩ = some v) : b < W.heap.size := by
  rcases Nat.lt_or_ge b W.heap.size with l | l
  · exact l
  · simp [World.cell?, Array.getElem?_eq_none l] at h
theorem add_none (b off i : Nat) : (Addr.mk b off none).add i = ⟨b, off + i, none⟩ := by
  unfold Addr.add
  split
  · rename_i h; subst h; simp
  · rfl
theorem cellsI : Tryz.prog.cellsOf 3 = 1 := by kernel_rfl
theorem cellsTx : Tryz.prog.cellsOf 9 = 1 := by kernel_rfl
theorem cellsNd : Tryz.prog.cellsOf 28 = 3 := by kernel_rfl
theorem wf_in {n : Int} (h : (Lit.int .i64 n).wf = true) : in64 n := by
  unfold in64
  simp [Lit.wf, IntKind.min, IntKind.max, IntKind.signed, IntKind.bits] at h
  omega
section
variable {H : Type} {enc : TypeId × Value → H} {W : World}
theorem bulk_all_cons {d : DataW H} {r : List (DataW H)} : Rows.uptoBulkAll (d :: r) = Rows.uptoBulk d + Rows.uptoBulkAll r := by simp only [Rows.uptoBulkAll]
/-- A slice, opened element by element. -/
theorem open_row {α : Type} {tS tE : TypeId} {m : Nat} (hS : Tryz.prog.underlying tS = some (.slice tE)) (hm : Tryz.prog.cellsOf tE = m) (h0 : 0 < m) (El : α → List Value → Prop) (size : α → Nat)
    (hEl : ∀ fuel cs y, DataW.trod enc Tryz.prog W 0 (fun _ => true) true fuel tE cs = some y → ∃ c, El c cs ∧ size c ≤ Rows.uptoBulk y.1)
    {fuel : Nat} {cs : List Value} {x : DataW H × List MemPlace} (h : DataW.trod enc Tryz.prog W 0 (fun _ => true) true fuel tS cs = some x) :
    ∃ (l : List α) (a : Option Addr) (cap : Nat), cs = [.slice a l.length cap] ∧ (l = [] ∨ ∃ b off, a = some ⟨b, off, none⟩ ∧ b < W.heap.size ∧ (l.length ≤ cap ∧ cap ≤ 9223372036854775807) ∧
      ∀ (j : Nat) (c : α), l[j]? = some c → ∃ cs', El c cs' ∧ ∀ i, i < m → W.cell? ⟨b, off + j * m + i, none⟩ = cs'[i]?) ∧ (l.map size).sum + 1 ≤ Rows.uptoBulk x.1 ∧ l.length + 1 ≤ Rows.uptoBulk x.1 := by
  have pos : ∀ d : DataW H, 1 ≤ Rows.uptoBulk d := fun d => by
    cases d with
    | lit v => cases v <;> simp only [Rows.uptoBulk] <;> omega
    | _ => simp only [Rows.uptoBulk]; omega
  rcases DataW.trod_slice hS h with ⟨e7, e8⟩ | ⟨a, len, cap, elems, rest, n, hn, e7, e8, _, hlc, hcm, hel, hat, _, _⟩
  · exact ⟨[], none, 0, e7, .inl rfl, by rw [e8]; simp [Rows.uptoBulk], by rw [e8]; simp [Rows.uptoBulk]⟩
  · have hel1 : Rows.uptoBulkAll (elems.map (·.1)) + 1 ≤ Rows.uptoBulk x.1 := by
      rw [e8]; simp only [Rows.uptoBulk]; omega
    unfold maxLen at hcm
    by_cases hl0 : len = 0
    · subst hl0
      exact ⟨[], some a, cap, e7, .inl rfl, by simp; omega, by simp; omega⟩
    rw [hm] at hat
    have each : ∀ i, i < len → ∃ cs' y, elems[i]? = some y ∧ W.cells? 0 (a.add (i * m)) m = some cs' ∧ DataW.trod enc Tryz.prog W 0 (fun _ => true) true n tE cs' = some y := by
      intro i hi
      have h5 := hat i hi
      have h6 : elems[i]? = some (elems[i]'(by omega)) := List.getElem?_eq_getElem (by omega)
      rw [h6] at h5
      obtain ⟨cs', h7, h8⟩ := Option.bind_eq_some_iff.1 h5
      exact ⟨cs', _, h6, h7, h8⟩
    obtain ⟨b, off, spot⟩ := a
    obtain ⟨hspot, hblk⟩ : spot = none ∧ b < W.heap.size := by
      obtain ⟨cs', y, _, h7, h8⟩ := each 0 (by omega)
      obtain ⟨hlen, _, hc⟩ := World.cells?_some h7
      have hc0 := hc 0 (by omega)
      have hx : ∃ v, cs'[0]? = some v := ⟨cs'[0]'(by omega), List.getElem?_eq_getElem (by omega)⟩
      obtain ⟨v, hv⟩ := hx
      rw [hv] at hc0
      have hs0 : spot = none := by
        simpa [Addr.add] using World.cell?_spot hc0
      subst hs0
      rw [add_none, add_none] at hc0
      exact ⟨rfl, block_lt hc0⟩
    subst hspot
    have row : ∀ j, j ≤ len → ∃ l : List α, l.length = j ∧ (l.map size).sum ≤ Rows.uptoBulkAll ((elems.drop (len - j)).map (·.1)) ∧ l.length ≤ Rows.uptoBulkAll ((elems.drop (len - j)).map (·.1)) ∧
        ∀ (i : Nat) (c : α), l[i]? = some c → ∃ cs', El c cs' ∧ ∀ q, q < m → W.cell? ⟨b, off + (len - j + i) * m + q, none⟩ = cs'[q]? := by
      intro j
      induction j with
      | zero => intro _; exact ⟨[], rfl, by simp, by simp, fun i c hi => by simp at hi⟩
      | succ j ihj =>
        intro hj
        obtain ⟨l, hx1, hx2, hx3, hx4⟩ := ihj (by omega)
        obtain ⟨cs', y, h6, h7, h8⟩ := each (len - (j + 1)) (by omega)
        obtain ⟨c, g1, g2⟩ := hEl _ _ _ h8
        obtain ⟨_, _, hc⟩ := World.cells?_some h7
        rw [add_none] at hc
        have cc : ∀ i, i < m → W.cell? ⟨b, off + (len - (j + 1)) * m + i, none⟩ = cs'[i]? := fun i hi => by
          rw [← add_none]; exact hc i hi
        have hdrop : elems.drop (len - (j + 1)) = y :: elems.drop (len - j) := by
          obtain ⟨hlt, he⟩ := List.getElem?_eq_some_iff.1 h6
          rw [List.drop_eq_getElem_cons hlt, he, show len - (j + 1) + 1 = len - j by omega]
        have hp := pos y.1
        refine ⟨c :: l, by simp [hx1], ?_, ?_, ?_⟩
        · rw [hdrop, List.map_cons, List.map_cons, List.sum_cons, bulk_all_cons]; omega
        · rw [hdrop, List.map_cons, List.length_cons, bulk_all_cons]; omega
        · intro i c' hi
          cases i with
          | zero =>
            simp only [List.getElem?_cons_zero, Option.some.injEq] at hi
            subst hi
            exact ⟨cs', g1, cc⟩
          | succ i =>
            obtain ⟨cs2, g3, g4⟩ := hx4 i c' (by simpa using hi)
            refine ⟨cs2, g3, fun q hq => ?_⟩
            rw [show len - (j + 1) + (i + 1) = len - j + i by omega]
            exact g4 q hq
    obtain ⟨l, hx1, hx2, hx3, hx4⟩ := row len (Nat.le_refl _)
    rw [Nat.sub_self, List.drop_zero] at hx2 hx3
    simp only [Nat.sub_self, Nat.zero_add] at hx4
    exact ⟨l, some ⟨b, off, none⟩, cap, by rw [e7, hx1], .inr ⟨b, off, rfl, hblk, ⟨by omega, by omega⟩, hx4⟩, by omega, by omega⟩


set_option maxRecDepth 100000 in
theorem open_nd (fuel : Nat) (cs : List Value) (y : DataW H × List MemPlace) (h : DataW.trod enc Tryz.prog W 0 (fun _ => true) true fuel 28 cs = some y) :
    ∃ u : Nd, (cs = [.int .i64 u.cd, .int .i64 u.pr, .string u.ti] ∧ ((-9223372036854775808 ≤ u.cd ∧ u.cd ≤ 9223372036854775807) ∧ (-9223372036854775808 ≤ u.pr ∧ u.pr ≤ 9223372036854775807) ∧ u.ti.size ≤ 9223372036854775807)) ∧ 0 ≤ Rows.uptoBulk y.1 := by
  obtain ⟨ys, n, _, rfl, hl, hlen, hf⟩ := DataW.trod_struct Tryz.underlying28 h
  rw [cellsNd] at hl
  obtain ⟨c0, c1, c2, rfl⟩ : ∃ c0 c1 c2, cs = [c0, c1, c2] := by
    match cs, hl with
    | [a0, a1, a2], _ => exact ⟨a0, a1, a2, rfl⟩
  obtain ⟨y0, y1, y2, rfl⟩ : ∃ y0 y1 y2, ys = [y0, y1, y2] := by
    match ys, hlen with
    | [a0, a1, a2], _ => exact ⟨a0, a1, a2, rfl⟩
  have h0 : DataW.trod enc Tryz.prog W 0 (fun _ => true) true n 3 (([c0, c1, c2].drop 0).take (Tryz.prog.cellsOf 3)) = some y0 := hf 0 _ rfl
  have h1 : DataW.trod enc Tryz.prog W 0 (fun _ => true) true n 3 (([c0, c1, c2].drop 1).take (Tryz.prog.cellsOf 3)) = some y1 := hf 1 _ rfl
  have h2 : DataW.trod enc Tryz.prog W 0 (fun _ => true) true n 9 (([c0, c1, c2].drop 2).take (Tryz.prog.cellsOf 9)) = some y2 := hf 2 _ rfl
  simp only [cellsI, cellsTx, List.drop_zero, List.drop_succ_cons, List.take_succ_cons, List.take_zero] at h0 h1 h2
  obtain ⟨v0, e0, _, w0⟩ := DataW.trod_int Tryz.underlying3 h0
  obtain ⟨v1, e1, _, w1⟩ := DataW.trod_int Tryz.underlying3 h1
  obtain ⟨v2, e2, _, w2⟩ := DataW.trod_string Tryz.underlying9 h2
  simp only [List.cons.injEq, and_true] at e0 e1 e2
  subst e0 e1 e2
  unfold maxLen at w2
  exact ⟨⟨v0, v1, v2⟩, ⟨rfl, wf_in w0, wf_in w1, w2⟩, Nat.zero_le _⟩
set_option maxRecDepth 100000 in
theorem open_N {b0 : Nat} {v : Value} {d : DataW H} {p : List MemPlace} (hv : Value.okWide Tryz.prog W .any b0 22 v) (h : DataW.Trod enc Tryz.prog W 0 (fun _ => true) true 22 v d p) :
    ∃ a l c, v = .slice a (List.length l) c ∧ RdN W a l ∧ Fits l ∧ List.length l ≤ c := by
  obtain ⟨a0, len, cap, rfl⟩ := okWide_slice Tryz.underlying22 hv
  obtain ⟨m, h⟩ := h
  obtain ⟨l, a, cap', e, hr, _, _⟩ := open_row (α := Nd) Tryz.underlying22 cellsNd (by decide) (fun u cs => cs = [.int .i64 u.cd, .int .i64 u.pr, .string u.ti] ∧ ((-9223372036854775808 ≤ u.cd ∧ u.cd ≤ 9223372036854775807) ∧ (-9223372036854775808 ≤ u.pr ∧ u.pr ≤ 9223372036854775807) ∧ u.ti.size ≤ 9223372036854775807)) (fun _ => 0) open_nd h
  simp [Value.cells] at e
  obtain ⟨rfl, rfl, rfl⟩ := e
  refine ⟨_, l, _, rfl, ?_⟩
  rcases hr with rfl | ⟨b, off, rfl, hb, hc, hr⟩
  · exact ⟨⟨by simp, fun h => by simp at h⟩, (fun u hu => by cases hu), by simp⟩
  · refine ⟨⟨by omega, fun _ => ⟨b, off, rfl, hb, fun j hj => ?_⟩⟩, fun u hu => ?_, hc.1⟩
    · obtain ⟨cs', hcs, hq⟩ := hr j (nd l j) (by unfold nd; rw [List.getD, List.getElem?_eq_getElem hj]; simp)
      obtain ⟨rfl, _⟩ := hcs
      exact ⟨hq 0 (by omega), hq 1 (by omega), hq 2 (by omega)⟩
    · obtain ⟨j, hj, rfl⟩ := List.mem_iff_getElem.1 hu
      obtain ⟨cs', ⟨_, hs⟩, _⟩ := hr j l[j] (List.getElem?_eq_getElem hj)
      exact hs
end
end Go.Proofs.YtheekfijbbgbkaaGreatDoor
