/-
  The law CodeTextsMatchSpec: Read answers as its reference.
  Package code: arguments opened: the lists that they read as.
-/
import Derived.Test.YtheekfijbbgbkaaGreatDoorTS16
import Derived.Test.YtheekfijbbgbkaaGreatDoorTSTrRr
import Derived.Test.YtheekfijbbgbkaaGreatDoorTS02
import Derived.ProofKit
import Derived.OpenShut
import Derived.ShutString
import Derived.ChangeOld
import Derived.Deep.DeepHandedRow
import Derived.Lib.SmallJoins
namespace Go.Proofs.YtheekfijbbgbkaaGreatDoor
open Go.RowKit Go.WideMaps Go.Maps

/-- What a text reads as. -/
def RdRes (T : List UInt8) (l : List Nd) (ln f : Int) : Prop :=
  (60000 < T.length ∧ l = [] ∧ ln = 0 ∧ f = 2) ∨ (T.length ≤ 60000 ∧ eSc T ≠ 0 ∧ l = [] ∧ ln = eSc T ∧ f = 10) ∨ (T.length ≤ 60000 ∧ eSc T = 0 ∧ eRp T ≠ 0 ∧ l = [] ∧ ln = eRp T ∧ f = 6) ∨
    (T.length ≤ 60000 ∧ eSc T = 0 ∧ eRp T = 0 ∧ ∃ K, IsK T K ∧ ((frS K ≠ 0 ∧ l = [] ∧ ln = 0 ∧ f = frS K) ∨ (frS K = 0 ∧ l = K ∧ ln = 0 ∧ f = 0)))
theorem RdRes.one {T : List UInt8} {l m : List Nd} {a b f g : Int} (h : RdRes T l a f) (k : RdRes T m b g) : l = m ∧ a = b ∧ f = g := by
  rcases h with ⟨h1, rfl, rfl, rfl⟩ | ⟨h1, h2, rfl, rfl, rfl⟩ | ⟨h1, h2, h3, rfl, rfl, rfl⟩ | ⟨h1, h2, h3, K, hK, h4⟩ <;>
    rcases k with ⟨k1, rfl, rfl, rfl⟩ | ⟨k1, k2, rfl, rfl, rfl⟩ | ⟨k1, k2, k3, rfl, rfl, rfl⟩ | ⟨k1, k2, k3, M, hM, k4⟩ <;> first | exact ⟨rfl, rfl, rfl⟩ | (exfalso; omega) | skip
  obtain rfl := hK.one hM
  rcases h4 with ⟨h4, rfl, rfl, rfl⟩ | ⟨h4, rfl, rfl, rfl⟩ <;> rcases k4 with ⟨k4, rfl, rfl, rfl⟩ | ⟨k4, rfl, rfl, rfl⟩ <;> first | exact ⟨rfl, rfl, rfl⟩ | (exfalso; omega)
theorem rd_res {T : List UInt8} {w w' : World} {e : Ending} (h : RdP T w e w') : Below w.heap.size w w' ∧ ∃ a c l ln f, e = .returned (.tuple #[.slice a (l : List Nd).length c, .int .i64 ln, .int .i64 f]) ∧ RdN w' a l ∧ RdRes T l ln f := by
  have nil : RdN w' none [] := ⟨by simp, fun h => absurd h (Nat.lt_irrefl 0)⟩
  obtain ⟨hb, h⟩ := h
  refine ⟨hb, ?_⟩
  rcases h with ⟨h1, rfl⟩ | ⟨h1, h2, rfl⟩ | ⟨h1, h2, h3, rfl⟩ | ⟨h1, h2, h3, K, hK, _, ⟨h4, rfl⟩ | ⟨h4, a, c, rfl, hr⟩⟩
  · exact ⟨none, 0, [], 0, 2, rfl, nil, .inl ⟨h1, rfl, rfl, rfl⟩⟩
  · exact ⟨none, 0, [], eSc T, 10, rfl, nil, .inr (.inl ⟨h1, h2, rfl, rfl, rfl⟩)⟩
  · exact ⟨none, 0, [], eRp T, 6, rfl, nil, .inr (.inr (.inl ⟨h1, h2, h3, rfl, rfl, rfl⟩))⟩
  · exact ⟨none, 0, [], 0, frS K, rfl, nil, .inr (.inr (.inr ⟨h1, h2, h3, K, hK, .inl ⟨h4, rfl, rfl, rfl⟩⟩))⟩
  · exact ⟨a, c, K, 0, 0, rfl, hr, .inr (.inr (.inr ⟨h1, h2, h3, K, hK, .inr ⟨h4, rfl, rfl, rfl⟩⟩))⟩
set_option maxHeartbeats 4000000 in
theorem law_spec (s : ByteArray) (w : World) (hs : s.size ≤ 9223372036854775807) (hE : Ev w) (hm : ∃ m, w.cell? ⟨0, 0, none⟩ = some (.int .i64 m)) :
    Calls Tryz.prog 3 #[.string s] w fun e w' => e = .returned (.bool true) ∧ Below w.heap.size w w' := by
  obtain ⟨m, hm⟩ := hm
  have H1 := Lib.hid (Read_c s w hE hs)
  have H2 := Lib.hid (fun V (hb : Below w.heap.size w V) => rRead_c s V m ((hb.cell (p := ⟨0, 0, none⟩) (block_lt_of_cell hm)).trans hm) hs)
  clear hE hm
  go_enter Tryz.func3, Tryz.ntmps3
  go_wp2_with fail
  (with_reducible refine H1.out.mono ?_)
  intro e W1 h
  obtain ⟨b1, a1, c1, l, ln, f, rfl, r1, q1⟩ := rd_res h
  have B1 := Lib.hid b1
  have R1 := Lib.hid r1
  have Q1 := Lib.hid q1
  clear h b1 r1 q1
  go_wp2_with fail
  (with_reducible refine (H2.out W1 B1.out).mono ?_)
  intro e W2 h
  obtain ⟨b2, a2, c2, l2, ln2, f2, rfl, r2, q2⟩ := rd_res h
  obtain ⟨rfl, rfl, rfl⟩ := Q1.out.one q2
  have B2 : Hid (Below w.heap.size w W2) := B1.out.trans (b2.mono B1.out.size)
  have HQ := Lib.hid (eqN_c a1 a2 c1 c2 l W2 (R1.out.below b2) r2)
  clear h b2 r2 q2
  go_wp2_with fail
  (with_reducible refine HQ.out.mono ?_)
  rintro e W3 ⟨rfl, b3⟩
  have B3 : Hid (Below w.heap.size w W3) := B2.out.trans (b3.mono B2.out.size)
  clear b3
  go_wp2
  go_ret
  exact ⟨rfl, B3.out⟩
end Go.Proofs.YtheekfijbbgbkaaGreatDoor
namespace Go.Proofs.YtheekfijbbgbkaaGreatDoor
open Go.ChangeShapes Go.WideShapes Go.ChangeAt Go.RowKit Go.Joins

theorem laidOut : laidOutB Tryz.prog = true := by kernel_rfl
theorem own : ownKnob Tryz.prog.godebug = none := by kernel_rfl
theorem block_lt {W : World} {b o : Nat} {v : Value} (h : W.cell? ⟨b, o, none⟩ = some v) : b < W.heap.size := by
  rcases Nat.lt_or_ge b W.heap.size with l | l
  · exact l
  · simp [World.cell?, Array.getElem?_eq_none l] at h
theorem add_none (b off i : Nat) : (Addr.mk b off none).add i = ⟨b, off + i, none⟩ := by
  unfold Addr.add
  split
  · rename_i h; subst h; simp
  · rfl
theorem cellsI : Tryz.prog.cellsOf 3 = 1 := by kernel_rfl
theorem cellsTx : Tryz.prog.cellsOf 9 = 1 := by kernel_rfl
theorem cellsNd : Tryz.prog.cellsOf 28 = 3 := by kernel_rfl
theorem wf_in {n : Int} (h : (Lit.int .i64 n).wf = true) : in64 n := by
  unfold in64
  simp [Lit.wf, IntKind.min, IntKind.max, IntKind.signed, IntKind.bits] at h
  omega
section
variable {H : Type} {enc : TypeId × Value → H} {W : World}
theorem bulk_all_cons {d : DataW H} {r : List (DataW H)} : Rows.uptoBulkAll (d :: r) = Rows.uptoBulk d + Rows.uptoBulkAll r := by simp only [Rows.uptoBulkAll]
/-- A slice, opened element by element. -/
theorem open_row {α : Type} {tS tE : TypeId} {m : Nat} (hS : Tryz.prog.underlying tS = some (.slice tE)) (hm : Tryz.prog.cellsOf tE = m) (h0 : 0 < m) (El : α → List Value → Prop) (size : α → Nat)
    (hEl : ∀ fuel cs y, DataW.trod enc Tryz.prog W 0 (fun _ => true) true fuel tE cs = some y → ∃ c, El c cs ∧ size c ≤ Rows.uptoBulk y.1)
    {fuel : Nat} {cs : List Value} {x : DataW H × List MemPlace} (h : DataW.trod enc Tryz.prog W 0 (fun _ => true) true fuel tS cs = some x) :
    ∃ (l : List α) (a : Option Addr) (cap : Nat), cs = [.slice a l.length cap] ∧ (l = [] ∨ ∃ b off, a = some ⟨b, off, none⟩ ∧ b < W.heap.size ∧ (l.length ≤ cap ∧ cap ≤ 9223372036854775807) ∧
      ∀ (j : Nat) (c : α), l[j]? = some c → ∃ cs', El c cs' ∧ ∀ i, i < m → W.cell? ⟨b, off + j * m + i, none⟩ = cs'[i]?) ∧ (l.map size).sum + 1 ≤ Rows.uptoBulk x.1 ∧ l.length + 1 ≤ Rows.uptoBulk x.1 := by
  have pos : ∀ d : DataW H, 1 ≤ Rows.uptoBulk d := fun d => by
    cases d with
    | lit v => cases v <;> simp only [Rows.uptoBulk] <;> omega
    | _ => simp only [Rows.uptoBulk]; omega
  rcases DataW.trod_slice hS h with ⟨e7, e8⟩ | ⟨a, len, cap, elems, rest, n, hn, e7, e8, _, hlc, hcm, hel, hat, _, _⟩
  · exact ⟨[], none, 0, e7, .inl rfl, by rw [e8]; simp [Rows.uptoBulk], by rw [e8]; simp [Rows.uptoBulk]⟩
  · have hel1 : Rows.uptoBulkAll (elems.map (·.1)) + 1 ≤ Rows.uptoBulk x.1 := by
      rw [e8]; simp only [Rows.uptoBulk]; omega
    unfold maxLen at hcm
    by_cases hl0 : len = 0
    · subst hl0
      exact ⟨[], some a, cap, e7, .inl rfl, by simp; omega, by simp; omega⟩
    rw [hm] at hat
    have each : ∀ i, i < len → ∃ cs' y, elems[i]? = some y ∧ W.cells? 0 (a.add (i * m)) m = some cs' ∧ DataW.trod enc Tryz.prog W 0 (fun _ => true) true n tE cs' = some y := by
      intro i hi
      have h5 := hat i hi
      have h6 : elems[i]? = some (elems[i]'(by omega)) := List.getElem?_eq_getElem (by omega)
      rw [h6] at h5
      obtain ⟨cs', h7, h8⟩ := Option.bind_eq_some_iff.1 h5
      exact ⟨cs', _, h6, h7, h8⟩
    obtain ⟨b, off, spot⟩ := a
    obtain ⟨hspot, hblk⟩ : spot = none ∧ b < W.heap.size := by
      obtain ⟨cs', y, _, h7, h8⟩ := each 0 (by omega)
      obtain ⟨hlen, _, hc⟩ := World.cells?_some h7
      have hc0 := hc 0 (by omega)
      have hx : ∃ v, cs'[0]? = some v := ⟨cs'[0]'(by omega), List.getElem?_eq_getElem (by omega)⟩
      obtain ⟨v, hv⟩ := hx
      rw [hv] at hc0
      have hs0 : spot = none := by
        simpa [Addr.add] using World.cell?_spot hc0
      subst hs0
      rw [add_none, add_none] at hc0
      exact ⟨rfl, block_lt hc0⟩
    subst hspot
    have row : ∀ j, j ≤ len → ∃ l : List α, l.length = j ∧ (l.map size).sum ≤ Rows.uptoBulkAll ((elems.drop (len - j)).map (·.1)) ∧ l.length ≤ Rows.uptoBulkAll ((elems.drop (len - j)).map (·.1)) ∧
        ∀ (i : Nat) (c : α), l[i]? = some c → ∃ cs', El c cs' ∧ ∀ q, q < m → W.cell? ⟨b, off + (len - j + i) * m + q, none⟩ = cs'[q]? := by
      intro j
      induction j with
      | zero => intro _; exact ⟨[], rfl, by simp, by simp, fun i c hi => by simp at hi⟩
      | succ j ihj =>
        intro hj
        obtain ⟨l, hx1, hx2, hx3, hx4⟩ := ihj (by omega)
        obtain ⟨cs', y, h6, h7, h8⟩ := each (len - (j + 1)) (by omega)
        obtain ⟨c, g1, g2⟩ := hEl _ _ _ h8
        obtain ⟨_, _, hc⟩ := World.cells?_some h7
        rw [add_none] at hc
        have cc : ∀ i, i < m → W.cell? ⟨b, off + (len - (j + 1)) * m + i, none⟩ = cs'[i]? := fun i hi => by
          rw [← add_none]; exact hc i hi
        have hdrop : elems.drop (len - (j + 1)) = y :: elems.drop (len - j) := by
          obtain ⟨hlt, he⟩ := List.getElem?_eq_some_iff.1 h6
          rw [List.drop_eq_getElem_cons hlt, he, show len - (j + 1) + 1 = len - j by omega]
        have hp := pos y.1
        refine ⟨c :: l, by simp [hx1], ?_, ?_, ?_⟩
        · rw [hdrop, List.map_cons, List.map_cons, List.sum_cons, bulk_all_cons]; omega
        · rw [hdrop, List.map_cons, List.length_cons, bulk_all_cons]; omega
        · intro i c' hi
          cases i with
          | zero =>
            simp only [List.getElem?_cons_zero, Option.some.injEq] at hi
            subst hi
            exact ⟨cs', g1, cc⟩
          | succ i =>
            obtain ⟨cs2, g3, g4⟩ := hx4 i c' (by simpa using hi)
            refine ⟨cs2, g3, fun q hq => ?_⟩
            rw [show len - (j + 1) + (i + 1) = len - j + i by omega]
            exact g4 q hq
    obtain ⟨l, hx1, hx2, hx3, hx4⟩ := row len (Nat.le_refl _)
    rw [Nat.sub_self, List.drop_zero] at hx2 hx3
    simp only [Nat.sub_self, Nat.zero_add] at hx4
    exact ⟨l, some ⟨b, off, none⟩, cap, by rw [e7, hx1], .inr ⟨b, off, rfl, hblk, ⟨by omega, by omega⟩, hx4⟩, by omega, by omega⟩


set_option maxRecDepth 100000 in
theorem open_nd (fuel : Nat) (cs : List Value) (y : DataW H × List MemPlace) (h : DataW.trod enc Tryz.prog W 0 (fun _ => true) true fuel 28 cs = some y) :
    ∃ u : Nd, (cs = [.int .i64 u.cd, .int .i64 u.pr, .string u.ti] ∧ ((-9223372036854775808 ≤ u.cd ∧ u.cd ≤ 9223372036854775807) ∧ (-9223372036854775808 ≤ u.pr ∧ u.pr ≤ 9223372036854775807) ∧ u.ti.size ≤ 9223372036854775807)) ∧ 0 ≤ Rows.uptoBulk y.1 := by
  obtain ⟨ys, n, _, rfl, hl, hlen, hf⟩ := DataW.trod_struct Tryz.underlying28 h
  rw [cellsNd] at hl
  obtain ⟨c0, c1, c2, rfl⟩ : ∃ c0 c1 c2, cs = [c0, c1, c2] := by
    match cs, hl with
    | [a0, a1, a2], _ => exact ⟨a0, a1, a2, rfl⟩
  obtain ⟨y0, y1, y2, rfl⟩ : ∃ y0 y1 y2, ys = [y0, y1, y2] := by
    match ys, hlen with
    | [a0, a1, a2], _ => exact ⟨a0, a1, a2, rfl⟩
  have h0 : DataW.trod enc Tryz.prog W 0 (fun _ => true) true n 3 (([c0, c1, c2].drop 0).take (Tryz.prog.cellsOf 3)) = some y0 := hf 0 _ rfl
  have h1 : DataW.trod enc Tryz.prog W 0 (fun _ => true) true n 3 (([c0, c1, c2].drop 1).take (Tryz.prog.cellsOf 3)) = some y1 := hf 1 _ rfl
  have h2 : DataW.trod enc Tryz.prog W 0 (fun _ => true) true n 9 (([c0, c1, c2].drop 2).take (Tryz.prog.cellsOf 9)) = some y2 := hf 2 _ rfl
  simp only [cellsI, cellsTx, List.drop_zero, List.drop_succ_cons, List.take_succ_cons, List.take_zero] at h0 h1 h2
  obtain ⟨v0, e0, _, w0⟩ := DataW.trod_int Tryz.underlying3 h0
  obtain ⟨v1, e1, _, w1⟩ := DataW.trod_int Tryz.underlying3 h1
  obtain ⟨v2, e2, _, w2⟩ := DataW.trod_string Tryz.underlying9 h2
  simp only [List.cons.injEq, and_true] at e0 e1 e2
  subst e0 e1 e2
  unfold maxLen at w2
  exact ⟨⟨v0, v1, v2⟩, ⟨rfl, wf_in w0, wf_in w1, w2⟩, Nat.zero_le _⟩
set_option maxRecDepth 100000 in
theorem open_N {b0 : Nat} {v : Value} {d : DataW H} {p : List MemPlace} (hv : Value.okWide Tryz.prog W .any b0 22 v) (h : DataW.Trod enc Tryz.prog W 0 (fun _ => true) true 22 v d p) :
    ∃ a l c, v = .slice a (List.length l) c ∧ RdN W a l ∧ Fits l ∧ List.length l ≤ c := by
  obtain ⟨a0, len, cap, rfl⟩ := okWide_slice Tryz.underlying22 hv
  obtain ⟨m, h⟩ := h
  obtain ⟨l, a, cap', e, hr, _, _⟩ := open_row (α := Nd) Tryz.underlying22 cellsNd (by decide) (fun u cs => cs = [.int .i64 u.cd, .int .i64 u.pr, .string u.ti] ∧ ((-9223372036854775808 ≤ u.cd ∧ u.cd ≤ 9223372036854775807) ∧ (-9223372036854775808 ≤ u.pr ∧ u.pr ≤ 9223372036854775807) ∧ u.ti.size ≤ 9223372036854775807)) (fun _ => 0) open_nd h
  simp [Value.cells] at e
  obtain ⟨rfl, rfl, rfl⟩ := e
  refine ⟨_, l, _, rfl, ?_⟩
  rcases hr with rfl | ⟨b, off, rfl, hb, hc, hr⟩
  · exact ⟨⟨by simp, fun h => by simp at h⟩, (fun u hu => by cases hu), by simp⟩
  · refine ⟨⟨by omega, fun _ => ⟨b, off, rfl, hb, fun j hj => ?_⟩⟩, fun u hu => ?_, hc.1⟩
    · obtain ⟨cs', hcs, hq⟩ := hr j (nd l j) (by unfold nd; rw [List.getD, List.getElem?_eq_getElem hj]; simp)
      obtain ⟨rfl, _⟩ := hcs
      exact ⟨hq 0 (by omega), hq 1 (by omega), hq 2 (by omega)⟩
    · obtain ⟨j, hj, rfl⟩ := List.mem_iff_getElem.1 hu
      obtain ⟨cs', ⟨_, hs⟩, _⟩ := hr j l[j] (List.getElem?_eq_getElem hj)
      exact hs
end
end Go.Proofs.YtheekfijbbgbkaaGreatDoor
