/-
  CodeTextsComeBack: the law.
  Package code: the lines of a text, one after another.
  Package code: which digits are a code.
  The reference of package code: a line.
-/
import Derived.Test.YtheekfijbbgbkaaGreatDoorTS14
import Derived.Test.YtheekfijbbgbkaaGreatDoorTS15
import Derived.Lib.SplitLaws
import Derived.Test.YtheekfijbbgbkaaGreatDoorTS06
import Derived.Test.YtheekfijbbgbkaaGreatDoorTS12
import Derived.Test.YtheekfijbbgbkaaGreatDoorTS13
namespace Go.Proofs.YtheekfijbbgbkaaGreatDoor
open Go.RowKit Go.WideMaps Go.Maps

set_option maxRecDepth 100000 in
theorem eqN_c (a1 a2 : Option Addr) (c1 c2 : Nat) (C : List Nd) (w : World) (h1 : RdN w a1 C) (h2 : RdN w a2 C) :
    Calls Tryz.prog 7 #[.slice a1 C.length c1, .slice a2 C.length c2] w fun e w' => e = .returned (.bool true) ∧ Below w.heap.size w w' := by
  have H1 := Lib.hid h1
  have H2 := Lib.hid h2
  have h9 := h1.1
  clear h1 h2
  go_enter Tryz.func7, Tryz.ntmps7
  go_wp2
  go_loopw [5, 13] (fun _ i wr => ∃ k : Nat, k ≤ C.length ∧ i = .int .i64 k ∧ Hid (Below w.heap.size w wr)) (fun _ i _ => C.length - (intOf i).toNat)
  case atStart => exact ⟨0, Nat.zero_le _, rfl, Below.refl _ _⟩
  case round =>
    obtain ⟨k, hk, rfl, hR⟩ := hrel
    by_cases hlt : k < C.length
    · have hlt' : (k : Int) < (C.length : Int) := by omega
      obtain ⟨b1, o1, rfl, p0, p1, p2⟩ := (H1.out.below hR.out).at_ hlt
      obtain ⟨b2, o2, rfl, q0, q1, q2⟩ := (H2.out.below hR.out).at_ hlt
      generalize (nd C k).cd = x0 at *
      generalize (nd C k).pr = x1 at *
      generalize (nd C k).ti = x2 at *
      go_wp2_with fail
      go_quiet (fail)
      have NX : Hid (Below w.heap.size w (wr.drewN nq)) := hR.out.trans ((bel_drewN _ _).mono hR.out.size)
      clear p0 p1 p2 q0 q1 q2
      go_wp2
      go_roundw
      case rel => exact ⟨k + 1, by omega, by go_num, NX.out⟩
      case measure => simp [intOf]; omega
    · obtain rfl : k = C.length := by omega
      go_wp2
      go_ret
      exact ⟨rfl, hR.out⟩
/-- What Read gives, in short. -/
def RdA (w : World) (e : Ending) (w' : World) : Prop :=
  Below w.heap.size w w' ∧ ((∃ (n f : Int), f ≠ 0 ∧ e = .returned (.tuple #[.slice none 0 0, .int .i64 n, .int .i64 f])) ∨
    ∃ (K : List Nd) (a : Option Addr) (c : Nat), frS K = 0 ∧ Fits K ∧ e = .returned (.tuple #[.slice a K.length c, .int .i64 0, .int .i64 0]) ∧ RdN w' a K)
theorem readAny_c (s : ByteArray) (w : World) (hE : Ev w) (hs : s.size ≤ 9223372036854775807) : Calls Tryz.prog 5 #[.string s] w (RdA w) :=
  (Read_c s w hE hs).mono fun e w' ⟨hb, h⟩ => ⟨hb, by
    rcases h with ⟨_, rfl⟩ | ⟨_, h1, rfl⟩ | ⟨_, _, h1, rfl⟩ | ⟨_, _, _, K, _, hF, ⟨h1, rfl⟩ | ⟨h1, a, c, rfl, hr⟩⟩
    · exact .inl ⟨_, _, by decide, rfl⟩
    · exact .inl ⟨_, _, by decide, rfl⟩
    · exact .inl ⟨_, _, by decide, rfl⟩
    · exact .inl ⟨_, _, h1, rfl⟩
    · exact .inr ⟨K, a, c, h1, hF, rfl, hr⟩⟩
def RdK (l : List Nd) (w : World) (e : Ending) (w' : World) : Prop :=
  ∃ a c, e = .returned (.tuple #[.slice a l.length c, .int .i64 0, .int .i64 0]) ∧ RdN w' a l ∧ Below w.heap.size w w'
theorem readBack_c (l : List Nd) (w : World) (hE : Ev w) (hz : frS l = 0) : Calls Tryz.prog 5 #[.string (bs (txN l 9 0 0))] w (RdK l w) := by
  have F := fr_of hz
  have hl : (txN l 9 0 0).length ≤ 60000 := by
    have h1 := txN_len F (short_of hz) 9 0 0 (by omega)
    have h2 := dsc_le l 0
    have h3 : l.length ≤ 600 := F.le
    omega
  have he : (bs (txN l 9 0 0)).data.toList = txN l 9 0 0 := bsT_list _
  refine (Read_c (bs (txN l 9 0 0)) w hE (by rw [bs_size]; omega)).mono fun e w' ⟨hb, h⟩ => ?_
  rw [he] at h
  rcases h with ⟨h1, _⟩ | ⟨_, h1, _⟩ | ⟨_, _, h1, _⟩ | ⟨_, _, _, K, hK, _, h⟩
  · omega
  · exact absurd (T_sc F) h1
  · exact absurd (T_rp F) h1
  · obtain rfl := hK.one (T_k F)
    rcases h with ⟨h1, _⟩ | ⟨_, a, c, rfl, hr⟩
    · exact absurd hz h1
    · exact ⟨a, c, rfl, hr, hb⟩
set_option maxRecDepth 100000 in
set_option maxHeartbeats 4000000 in
theorem law_back (sa : Option Addr) (c : Nat) (l : List Nd) (t : ByteArray) (w : World) (hl : RdN w sa l) (hf : Fits l) (ht : t.size ≤ 9223372036854775807) (hE : Ev w) :
    Calls Tryz.prog 4 #[.slice sa l.length c, .string t] w fun e w' => e = .returned (.bool true) ∧ Below w.heap.size w w' := by
  have HT := Lib.hid (Text_c sa c l w hl hf hE.pow)
  have HL := Lib.hid hl
  have HE := Lib.hid hE
  have HR := Lib.hid (fun V (hb : Below w.heap.size w V) => readAny_c t V (hE.below hb) ht)
  clear hl hf hE ht
  by_cases hz : frS l = 0
  · have HZ := Lib.hid hz
    obtain ⟨s1, hs1⟩ : ∃ s, bs (txN l 9 0 0) = s := ⟨_, rfl⟩
    have HRB := Lib.hid (fun V (hb : Below w.heap.size w V) => readBack_c l V (HE.out.below hb) hz)
    have HS1 := Lib.hid hs1
    rw [hs1] at HRB
    clear hz hs1
    go_enter Tryz.func4, Tryz.ntmps4
    go_wp2_with fail
    (with_reducible refine HT.out.mono ?_)
    rintro e W1 (⟨_, rfl, b1⟩ | ⟨hx, _⟩)
    · rw [HS1.out]
      have B1 := Lib.hid b1
      clear b1
      go_wp2_with fail
      (with_reducible refine (HRB.out W1 B1.out).mono ?_)
      rintro e W2 ⟨a2, d2, rfl, hr2, b2⟩
      have B2 : Hid (Below w.heap.size w W2) := B1.out.trans (b2.mono B1.out.size)
      have HQ1 := Lib.hid (eqN_c a2 sa d2 c l W2 hr2 (HL.out.below B2.out))
      clear hr2 b2
      go_wp2_with fail
      (with_reducible refine HQ1.out.mono ?_)
      rintro e W3 ⟨rfl, b3⟩
      have B3 : Hid (Below w.heap.size w W3) := B2.out.trans (b3.mono B2.out.size)
      clear b3
      go_wp2_with fail
      (with_reducible refine (HR.out W3 B3.out).mono ?_)
      rintro e V1 ⟨c1, ⟨n, f, hf0, rfl⟩ | ⟨K, a3, d3, hz3, hF3, rfl, hr3⟩⟩
      · have BB : Hid (Below w.heap.size w V1) := B3.out.trans (c1.mono B3.out.size)
        have f1 : (f == 0) = false := by rw [beq_eq_false_iff_ne]; exact hf0
        have f2 : (f != 0) = true := by rw [bne, f1]; rfl
        clear c1 hf0
        go_wp2
        go_ret
        exact ⟨rfl, BB.out⟩
      · have C1 : Hid (Below w.heap.size w V1) := B3.out.trans (c1.mono B3.out.size)
        have HX := Lib.hid (Text_c a3 d3 K V1 hr3 hF3 (HE.out.pow.below C1.out))
        have H3 := Lib.hid hr3
        have HZ3 := Lib.hid hz3
        obtain ⟨s2, hs2⟩ : ∃ s, bs (txN K 9 0 0) = s := ⟨_, rfl⟩
        have HRK := Lib.hid (fun V (hb : Below w.heap.size w V) => readBack_c K V (HE.out.below hb) hz3)
        have HS2 := Lib.hid hs2
        rw [hs2] at HRK
        clear c1 hz3 hF3 hr3 hs2
        go_wp2_with fail
        (with_reducible refine HX.out.mono ?_)
        rintro e V2 (⟨_, rfl, c2⟩ | ⟨hx, _⟩)
        · rw [HS2.out]
          have C2 : Hid (Below w.heap.size w V2) := C1.out.trans (c2.mono C1.out.size)
          have R2 : Hid (RdN V2 a3 K) := H3.out.below c2
          clear c2
          go_wp2_with fail
          (with_reducible refine (HRK.out V2 C2.out).mono ?_)
          rintro e V3 ⟨a4, d4, rfl, hr4, c3⟩
          have C3 : Hid (Below w.heap.size w V3) := C2.out.trans (c3.mono C2.out.size)
          have HQ := Lib.hid (eqN_c a4 a3 d4 d3 K V3 hr4 (R2.out.below c3))
          clear hr4 c3
          go_wp2_with fail
          (with_reducible refine HQ.out.mono ?_)
          rintro e V4 ⟨rfl, c4⟩
          have C4 : Hid (Below w.heap.size w V4) := C3.out.trans (c4.mono C3.out.size)
          clear c4
          go_wp2
          go_ret
          exact ⟨rfl, C4.out⟩
        · exact absurd HZ3.out hx
    · exact absurd HZ.out hx
  · have HZ := Lib.hid hz
    obtain ⟨g, hg⟩ : ∃ g, frS l = g := ⟨_, rfl⟩
    have HG := Lib.hid hg
    have g1 : (g == 0) = false := by rw [beq_eq_false_iff_ne, ← hg]; exact hz
    have g2 : (g != 0) = true := by rw [bne, g1]; rfl
    clear hz hg
    go_enter Tryz.func4, Tryz.ntmps4
    go_wp2_with fail
    (with_reducible refine HT.out.mono ?_)
    rintro e W1 (⟨hx, _⟩ | ⟨_, rfl, b1⟩)
    · exact absurd hx HZ.out
    · rw [HG.out]
      have B1 := Lib.hid b1
      clear b1
      go_wp2_with fail
      (with_reducible refine (HR.out W1 B1.out).mono ?_)
      rintro e V1 ⟨c1, ⟨n, f, hf0, rfl⟩ | ⟨K, a3, d3, hz3, hF3, rfl, hr3⟩⟩
      · have BB : Hid (Below w.heap.size w V1) := B1.out.trans (c1.mono B1.out.size)
        have f1 : (f == 0) = false := by rw [beq_eq_false_iff_ne]; exact hf0
        have f2 : (f != 0) = true := by rw [bne, f1]; rfl
        clear c1 hf0
        go_wp2
        go_ret
        exact ⟨rfl, BB.out⟩
      · have C1 : Hid (Below w.heap.size w V1) := B1.out.trans (c1.mono B1.out.size)
        have HX := Lib.hid (Text_c a3 d3 K V1 hr3 hF3 (HE.out.pow.below C1.out))
        have H3 := Lib.hid hr3
        have HZ3 := Lib.hid hz3
        obtain ⟨s2, hs2⟩ : ∃ s, bs (txN K 9 0 0) = s := ⟨_, rfl⟩
        have HRK := Lib.hid (fun V (hb : Below w.heap.size w V) => readBack_c K V (HE.out.below hb) hz3)
        have HS2 := Lib.hid hs2
        rw [hs2] at HRK
        clear c1 hz3 hF3 hr3 hs2
        go_wp2_with fail
        (with_reducible refine HX.out.mono ?_)
        rintro e V2 (⟨_, rfl, c2⟩ | ⟨hx, _⟩)
        · rw [HS2.out]
          have C2 : Hid (Below w.heap.size w V2) := C1.out.trans (c2.mono C1.out.size)
          have R2 : Hid (RdN V2 a3 K) := H3.out.below c2
          clear c2
          go_wp2_with fail
          (with_reducible refine (HRK.out V2 C2.out).mono ?_)
          rintro e V3 ⟨a4, d4, rfl, hr4, c3⟩
          have C3 : Hid (Below w.heap.size w V3) := C2.out.trans (c3.mono C2.out.size)
          have HQ := Lib.hid (eqN_c a4 a3 d4 d3 K V3 hr4 (R2.out.below c3))
          clear hr4 c3
          go_wp2_with fail
          (with_reducible refine HQ.out.mono ?_)
          rintro e V4 ⟨rfl, c4⟩
          have C4 : Hid (Below w.heap.size w V4) := C3.out.trans (c4.mono C3.out.size)
          clear c4
          go_wp2
          go_ret
          exact ⟨rfl, C4.out⟩
        · exact absurd HZ3.out hx
end Go.Proofs.YtheekfijbbgbkaaGreatDoor
namespace Go.Proofs.YtheekfijbbgbkaaGreatDoor

theorem rst_shift (T : List UInt8) : ∀ k, rst T (k + 1) = rst (drw 10 T) k
  | 0 => rfl
  | k + 1 => by show drw 10 (rst T (k + 1)) = drw 10 (rst (drw 10 T) k); rw [rst_shift T k]
theorem pce_shift (T : List UInt8) (k : Nat) : pce T (k + 1) = pce (drw 10 T) k := by unfold pce; rw [rst_shift]
theorem splitK_lines : ∀ (n : Nat) (T : List UInt8), nls T = n → Lib.splitK [10] 0 n T = (List.range (n + 1)).map (pce T)
  | 0, T, h => by
    have hn : (10 : UInt8) ∉ T := List.count_eq_zero.1 h
    show [T] = [tkw 10 T]
    rw [tkw_none hn]
  | n + 1, T, h => by
    have hm : (10 : UInt8) ∈ T := List.count_pos_iff.1 (by unfold nls at h; omega)
    rcases ix_cases 10 T with ⟨_, h2, _⟩ | ⟨i, e, hi, ht, hd, _⟩
    · exact absurd hm h2
    · have hc : nls (drw 10 T) = n := by unfold nls; rw [drw_count]; unfold nls at h; omega
      have ih := splitK_lines n (drw 10 T) hc
      rw [List.range_succ_eq_map, List.map_cons, List.map_map]
      show (if Lib.index T [10] == -1 then [T] else T.take ((Lib.index T [10]).toNat + 0) :: Lib.splitK [10] 0 n (T.drop ((Lib.index T [10]).toNat + 1))) = _
      rw [e, if_neg (by rw [beq_iff_eq]; omega), Int.toNat_natCast, Nat.add_zero, ← ht, ← hd, ih]
      congr 1
      exact List.map_congr_left fun k _ => (pce_shift T k).symm
theorem has_app {L : List Ln} {x : Ln} {c : Int} : ∀ {k : Nat}, k ≤ L.length → has (L ++ [x]) c k = has L c k
  | 0, _ => rfl
  | k + 1, h => by
    show (has (L ++ [x]) c k || decide ((lne (L ++ [x]) k).cd = c)) = (has L c k || decide ((lne L k).cd = c))
    rw [has_app (k := k) (by omega), lne_app_l (by omega)]
theorem rpE_app {L : List Ln} {x : Ln} {k : Nat} (h : k < L.length) : rpE (L ++ [x]) k = rpE L k := by
  unfold rpE; rw [lne_app_l h, has_app (by omega)]
theorem fe_congr {s t : Nat → Int} : ∀ {n : Nat}, (∀ k, k < n → s k = t k) → fe s n = fe t n
  | 0, _ => rfl
  | n + 1, h => by
    show (if fe s n = 0 then s n else fe s n) = (if fe t n = 0 then t n else fe t n)
    rw [fe_congr (n := n) (fun k hk => h k (by omega)), h n (by omega)]
theorem rp_snoc (L : List Ln) (x : Ln) : fe (rpE (L ++ [x])) (L ++ [x]).length = if fe (rpE L) L.length = 0 then (if has L x.cd L.length = true then (x.nu : Int) else 0) else fe (rpE L) L.length := by
  rw [List.length_append]
  show (if fe (rpE (L ++ [x])) L.length = 0 then rpE (L ++ [x]) L.length else fe (rpE (L ++ [x])) L.length) = _
  rw [fe_congr (t := rpE L) (fun k hk => rpE_app hk), show rpE (L ++ [x]) L.length = (if has L x.cd L.length = true then (x.nu : Int) else 0) by unfold rpE; rw [lne_app_r, has_app (Nat.le_refl _)]]
theorem stk_app {L : List Ln} {x : Ln} : ∀ {k : Nat}, k ≤ L.length → stk (L ++ [x]) k = stk L k
  | 0, _ => rfl
  | k + 1, h => by
    show (stk (L ++ [x]) k).take (lne (L ++ [x]) k).lv ++ [(lne (L ++ [x]) k).cd] = (stk L k).take (lne L k).lv ++ [(lne L k).cd]
    rw [stk_app (k := k) (by omega), lne_app_l (by omega)]
theorem stk_snoc (L : List Ln) (x : Ln) : stk (L ++ [x]) (L ++ [x]).length = (stk L L.length).take x.lv ++ [x.cd] := by
  rw [List.length_append]
  show (stk (L ++ [x]) L.length).take (lne (L ++ [x]) L.length).lv ++ [(lne (L ++ [x]) L.length).cd] = _
  rw [stk_app (Nat.le_refl _), lne_app_r]
theorem ndU_snoc (L : List Ln) (x : Ln) : ndU (L ++ [x]) = ndU L ++ [⟨x.cd, (stk L L.length).getD (x.lv - 1) 0, x.ti⟩] := by
  unfold ndU
  rw [List.length_append, List.length_singleton, List.range_succ, List.map_append]
  congr 1
  · apply List.map_congr_left
    intro k hk
    rw [List.mem_range] at hk
    unfold ndL parS
    rw [lne_app_l hk, stk_app (by omega)]
  · simp only [List.map_cons, List.map_nil]
    unfold ndL parS
    rw [lne_app_r, stk_app (Nat.le_refl _)]
theorem fndL_has {L : List Ln} {c r : Int} (h : FndP (ndU L) c r) : (0 ≤ r ↔ has L c L.length = true) := by
  rw [has_iff]
  rcases h with ⟨rfl, h⟩ | ⟨j, hj, rfl, e⟩
  · constructor
    · intro h2; omega
    · rintro ⟨j, hj, e⟩
      exact absurd (by rw [nd_U hj]; exact e) (h j (by rw [ndU_len]; exact hj))
  · rw [ndU_len] at hj
    rw [nd_U hj] at e
    exact ⟨fun _ => ⟨j, hj, e⟩, fun _ => by omega⟩
theorem pth_of (T : List UInt8) {k : Nat} (h : ∀ j, j < k → scE T j = 0) : ∃ p : List Int, stk (outS T k) (outS T k).length = 0 :: p ∧ p.length = lvS T k := by
  have hG := good_ h
  obtain ⟨L, hL⟩ : ∃ L, outS T k = L := ⟨_, rfl⟩
  rw [hL] at hG ⊢
  have hd : ∀ j, j ≤ L.length → ∃ p, stk L j = 0 :: p := fun j => by
    induction j with
    | zero => exact fun _ => ⟨[], rfl⟩
    | succ j ih =>
      intro hj
      obtain ⟨p, e⟩ := ih (by omega)
      have := (hG.step j (by omega)).1
      refine ⟨p.take ((lne L j).lv - 1) ++ [(lne L j).cd], ?_⟩
      show (stk L j).take (lne L j).lv ++ [(lne L j).cd] = _
      obtain ⟨m, hm⟩ : ∃ m, (lne L j).lv = m + 1 := ⟨(lne L j).lv - 1, by omega⟩
      rw [e, hm]; rfl
  obtain ⟨p, e⟩ := hd L.length (Nat.le_refl _)
  have hl := stk_len hG L.length (Nat.le_refl _)
  rw [e] at hl
  refine ⟨p, e, ?_⟩
  simp only [List.length_cons] at hl
  by_cases h0 : L = []
  · have := hG.one h0
    subst h0
    simp at hl
    simp [hl, this]
  · have := hG.last h0
    have hn : ¬ L.length = 0 := fun e => h0 (List.eq_nil_of_length_eq_zero e)
    rw [if_neg hn] at hl
    omega
/-- The pieces of a text. -/
def pcs (T : List UInt8) : List ByteArray := (List.range (nls T + 1)).map fun k => bsT (pce T k)
theorem split_lines {s : ByteArray} {T : List UInt8} (h : s.data.toList = T) : Lib.countB s ⟨#[10]⟩ = nls T ∧ Lib.splitB ⟨#[10]⟩ 0 (Lib.countB s ⟨#[10]⟩) s = pcs T := by
  have hc : Lib.countB s ⟨#[10]⟩ = nls T := by
    have : Lib.countB s ⟨#[10]⟩ = Lib.count s.data.toList [10] := rfl
    rw [this, h, Lib.count_one]; rfl
  refine ⟨hc, ?_⟩
  rw [hc]
  have h1 := Lib.splitB_data ⟨#[10]⟩ 0 (nls T) s
  rw [h] at h1
  have h2 : (Lib.splitB ⟨#[10]⟩ 0 (nls T) s).map (·.data.toList) = (List.range (nls T + 1)).map (pce T) := h1.trans (splitK_lines (nls T) T rfl)
  have h3 := congrArg (List.map bsT) h2
  rw [List.map_map, List.map_map] at h3
  have h4 : (bsT ∘ fun x : ByteArray => x.data.toList) = id := by
    funext x
    show bsT x.data.toList = x
    unfold bsT; cases x; simp
  rw [h4, List.map_id] at h3
  exact h3
theorem pcs_at {T : List UInt8} {w : World} {t : TypeId} {k : Nat} (h : k ≤ nls T) : (w.alloc (.cells ((pcs T).map Value.string).toArray t)).cell? ⟨w.heap.size, k, none⟩ = some (.string (bsT (pce T k))) := by
  rw [World.cell?_alloc_at _ _ _ _ rfl]
  unfold pcs
  simp [show k < nls T + 1 by omega]
end Go.Proofs.YtheekfijbbgbkaaGreatDoor
namespace Go.Proofs.YtheekfijbbgbkaaGreatDoor

/-- The number that digits spell. -/
def vl (d : List UInt8) : Nat := d.foldl (fun a b => a * 10 + (b.toNat - 48)) 0
theorem vl_snoc (d : List UInt8) (c : UInt8) : vl (d ++ [c]) = vl d * 10 + (c.toNat - 48) := by unfold vl; rw [List.foldl_append]; rfl
theorem dg_back {c : UInt8} (h : dgB c = true) : UInt8.ofNat (48 + (c.toNat - 48)) = c := by
  have h := of_decide_eq_true h
  apply UInt8.toNat_inj.1
  rw [dgt_nat (by omega)]; omega
theorem dec_vl_rev : ∀ (r : List UInt8), r.reverse.all dgB = true → r ≠ [] → r.reverse.head? ≠ some 48 → Lib.decDigits (vl r.reverse) = r.reverse ∧ 1 ≤ vl r.reverse
  | [], _, h, _ => absurd rfl h
  | c :: r, ha, _, hh => by
    rw [List.reverse_cons] at ha hh ⊢
    rw [List.all_append, Bool.and_eq_true] at ha
    have hc : dgB c = true := by simpa using ha.2
    have hcr := of_decide_eq_true hc
    rw [vl_snoc]
    by_cases e : r = []
    · subst e
      have h48 : c.toNat ≠ 48 := fun e => hh (by
        have : c = 48 := UInt8.toNat_inj.1 e
        rw [this]; rfl)
      have hv : vl ([] : List UInt8).reverse = 0 := rfl
      rw [hv, Nat.zero_mul, Nat.zero_add, Lib.decDigits, dif_pos (by omega), dg_back hc]
      exact ⟨rfl, by omega⟩
    · have hh2 : r.reverse.head? ≠ some 48 := by
        cases e2 : r.reverse with
        | nil => exact absurd (by simpa using e2) e
        | cons x y => rw [e2] at hh; simpa using hh
      obtain ⟨h1, h2⟩ := dec_vl_rev r ha.1 e hh2
      have q1 : (vl r.reverse * 10 + (c.toNat - 48)) / 10 = vl r.reverse := by omega
      have q2 : (vl r.reverse * 10 + (c.toNat - 48)) % 10 = c.toNat - 48 := by omega
      rw [Lib.decDigits, dif_neg (by omega), q1, q2, h1, dg_back hc]
      exact ⟨rfl, by omega⟩
theorem dec_vl {d : List UInt8} (ha : d.all dgB = true) (h0 : d ≠ []) (h1 : d.head? ≠ some 48) : Lib.decDigits (vl d) = d ∧ 1 ≤ vl d := by
  have := dec_vl_rev d.reverse
  rw [List.reverse_reverse] at this
  exact this ha (by simpa using h0) h1
theorem codB_form (d : List UInt8) : codB d = (decide (d.length ≤ 3) && (decide (d ≠ []) && (decide (d.head? ≠ some 48) && d.all dgB))) := by
  rw [Bool.eq_iff_iff]
  simp only [Bool.and_eq_true, decide_eq_true_eq]
  constructor
  · intro h
    have h1 := codV_in h
    obtain ⟨v, _, _, h3, _⟩ := (codB_iff d).1 h
    have e := h1.2.2
    rw [itoa_dec (by omega)] at e
    refine ⟨h3, ?_, ?_, ?_⟩
    · rw [← e]; exact dec_ne _
    · rw [← e]; exact dec_head _ (by omega)
    · rw [← e]; exact dec_all _
  · rintro ⟨h1, h2, h3, h4⟩
    obtain ⟨e, hv⟩ := dec_vl h4 h2 h3
    have hn : vl d ≤ 999 := nDig_le (by rw [← Lib.decDigits_length, e]; exact h1)
    have := codB_itoa (n := (vl d : Int)) (by omega) (by omega)
    rw [itoa_dec (by omega), Int.toNat_natCast, e] at this
    exact this.1
theorem codB_of {d : List UInt8} (h1 : d.length ≤ 3) (h2 : d ≠ []) (h3 : d.head? ≠ some 48) (h4 : d.all dgB = true) : codB d = true := by
  rw [codB_form, decide_eq_true h1, decide_eq_true h2, decide_eq_true h3, h4]; rfl
end Go.Proofs.YtheekfijbbgbkaaGreatDoor
namespace Go.Proofs.YtheekfijbbgbkaaGreatDoor
open Go.RowKit Go.WideMaps Go.Maps

def NodP (l : List UInt8) (w : World) (e : Ending) (w' : World) : Prop :=
  Below w.heap.size w w' ∧ ((lnB l = true ∧ e = .returned (.tuple #[.agg #[.int .i64 (codV (dgs l)), .int .i64 0, .string (tiN l)], .int .i64 (blk l / 2 : Nat), .bool true])) ∨
    (lnB l = false ∧ e = .returned (.tuple #[.agg #[.int .i64 0, .int .i64 0, .string ⟨#[]⟩], .int .i64 0, .bool false])))
theorem getD_is {α : Type} {l : List α} {k : Nat} {d : α} (h : k < l.length) : l.getD k d = l[k] := by rw [List.getD_eq_getElem?_getD, List.getElem?_eq_getElem h]; rfl
set_option maxRecDepth 100000 in
set_option maxHeartbeats 4000000 in
theorem nodeOf_c (s : ByteArray) (w : World) (hs : s.size ≤ 60000) : Calls Tryz.prog 14 #[.string s] w (NodP s.data.toList w) := by
  obtain ⟨l, hl⟩ : ∃ l, s.data.toList = l := ⟨_, rfl⟩
  have hsl : s.size = l.length := by rw [← hl]; exact Lib.size_eq s
  have HT := Lib.hid (fun V => trim_c s V)
  rw [hl] at HT
  have hwl := wds_le l
  obtain ⟨u, hu⟩ : ∃ u, bsT (wds l) = u := ⟨_, rfl⟩
  have hul : u.data.toList = wds l := by rw [← hu]; exact bsT_list _
  have hus : u.size = (wds l).length := by rw [← hu]; exact bsT_size _
  have HC := Lib.hid (fun V => cut_c u V (by omega))
  rw [hul] at HC
  obtain ⟨d, hd⟩ : ∃ d, bsT (tkw 32 (wds l)) = d := ⟨_, rfl⟩
  have hdl : d.data.toList = dgs l := by rw [← hd]; exact bsT_list _
  have hds : d.size ≤ 60000 := by rw [← hd, bsT_size]; have := tkw_le 32 (wds l); omega
  obtain ⟨t, ht⟩ : ∃ t, bsT (drw 32 (wds l)) = t := ⟨_, rfl⟩
  have htl : tiN l = t := ht
  have hts : t.size ≤ 60000 := by rw [← ht, bsT_size]; have := drw_le 32 (wds l); omega
  have HI := Lib.hid (fun V : World => (rtitled_c t V (by omega)).mono (R' := fun e w' => e = .returned (.bool (titS t)) ∧ V = w') fun _ _ h => ⟨h.1, h.2.symm⟩)
  obtain ⟨b, hb⟩ : ∃ b, blk l = b := ⟨_, rfl⟩
  have hbs : (s.size : Int) - (u.size : Int) = (b : Int) := by rw [← hb]; unfold blk; omega
  have hb6 : b ≤ 60000 := by rw [← hb]; unfold blk; omega
  obtain ⟨q, hq⟩ : ∃ q : Nat, b / 2 = q := ⟨_, rfl⟩
  have hqi : (b : Int) / 2 = (q : Int) := by omega
  have hq3 : q ≤ 30000 := by omega
  have HQ : Hid (blk l / 2 = q) := by unfold Hid; rw [hb, hq]
  have hB : Hid (lnB l = (decide (b % 2 = 0) && (spB (wds l) && (codB d.data.toList && titS t)))) := by unfold Hid lnB spB; rw [hb, htl, hdl]
  have HDL := Lib.hid hdl
  have hsz := Lib.size_eq d
  have HF := Lib.hid (codB_form d.data.toList)
  rw [hl]
  unfold CutP at HC
  rw [hu] at HT
  rw [hd, ht] at HC
  have HTL := Lib.hid htl
  have HSZ := Lib.hid hsz
  clear hl hsl hwl hu hul hus hd hdl ht htl hts hb hq hsz
  obtain ⟨W1, hW1⟩ : ∃ W1, w.alloc (.cells #[.int .i64 0, .int .i64 0, .string ⟨#[]⟩] 28) = W1 := ⟨_, rfl⟩
  have B1 : Hid (Below w.heap.size w W1 ∧ Bx3 W1 w.heap.size (.int .i64 0) (.int .i64 0) (.string ⟨#[]⟩)) := by unfold Hid; rw [← hW1]; exact ⟨bel_one _ _, Bx3.made _ _ _ _ _⟩
  cases h2 : spB (wds l) with
  | false =>
    rw [h2] at HC hB
    have HBZ : Hid (lnB l = false) := by unfold Hid; rw [hB.out]; simp
    clear hB h2
    go_enter Tryz.func14, Tryz.ntmps14
    go_wp2_with fail
    refine (HT.out _).mono ?_
    rintro e w2 ⟨rfl, rfl⟩
    go_wp2_with fail
    refine (HC.out _).mono ?_
    rintro e w2 ⟨rfl, b2⟩
    have B2 := Lib.hid b2
    clear b2
    have Z := B1.out.2.keep B2.out
    obtain ⟨z0, z1, z2, zf, _⟩ := Z
    obtain ⟨W9, hW9⟩ : ∃ W9, thr3 w2 w.heap.size (.int .i64 0) (.int .i64 0) (.string ⟨#[]⟩) = W9 := ⟨_, rfl⟩
    have R9 : Bx3 W9 w.heap.size (.int .i64 0) (.int .i64 0) (.string ⟨#[]⟩) := by rw [← hW9]; exact (B1.out.2.keep B2.out).set _ _ _
    have D9 : Hid (Below w.heap.size w W9) := by unfold Hid; rw [← hW9]; exact below_thr3 (B1.out.1.trans (B2.out.mono B1.out.1.size)) (Nat.le_refl _) _ _ _
    obtain ⟨y0, y1, y2, yf, _⟩ := R9
    unfold thr3 at hW9
    clear hW1
    go_wp2
    have RR : Hid (NodP l w (.returned (.tuple #[.agg #[.int .i64 0, .int .i64 0, .string ⟨#[]⟩], .int .i64 0, .bool false])) W9) := ⟨D9.out, .inr ⟨HBZ.out, rfl⟩⟩
    refine bodyPost_ret (v := .tuple #[.agg #[.int .i64 0, .int .i64 0, .string ⟨#[]⟩], .int .i64 0, .bool false]) (by simp [results, Tryz.results14, go_sem, y0, y1, y2]) rfl ?_
    exact RR.out
  | true =>
    rw [h2] at HC hB
    clear h2
    cases h3 : titS t with
    | false =>
      rw [h3] at HI hB
      have HBZ : Hid (lnB l = false) := by unfold Hid; rw [hB.out]; simp
      clear hB h3
      go_enter Tryz.func14, Tryz.ntmps14
      go_wp2_with fail
      refine (HT.out _).mono ?_
      rintro e w2 ⟨rfl, rfl⟩
      go_wp2_with fail
      refine (HC.out _).mono ?_
      rintro e w2 ⟨rfl, b2⟩
      have B2 := Lib.hid b2
      clear b2
      go_wp2_with fail
      refine (HI.out _).mono ?_
      rintro e w3 ⟨rfl, rfl⟩
      have Z := B1.out.2.keep B2.out
      obtain ⟨z0, z1, z2, zf, _⟩ := Z
      obtain ⟨W9, hW9⟩ : ∃ W9, thr3 w2 w.heap.size (.int .i64 0) (.int .i64 0) (.string ⟨#[]⟩) = W9 := ⟨_, rfl⟩
      have R9 : Bx3 W9 w.heap.size (.int .i64 0) (.int .i64 0) (.string ⟨#[]⟩) := by rw [← hW9]; exact (B1.out.2.keep B2.out).set _ _ _
      have D9 : Hid (Below w.heap.size w W9) := by unfold Hid; rw [← hW9]; exact below_thr3 (B1.out.1.trans (B2.out.mono B1.out.1.size)) (Nat.le_refl _) _ _ _
      obtain ⟨y0, y1, y2, yf, _⟩ := R9
      unfold thr3 at hW9
      clear hW1
      go_wp2
      have RR : Hid (NodP l w (.returned (.tuple #[.agg #[.int .i64 0, .int .i64 0, .string ⟨#[]⟩], .int .i64 0, .bool false])) W9) := ⟨D9.out, .inr ⟨HBZ.out, rfl⟩⟩
      refine bodyPost_ret (v := .tuple #[.agg #[.int .i64 0, .int .i64 0, .string ⟨#[]⟩], .int .i64 0, .bool false]) (by simp [results, Tryz.results14, go_sem, y0, y1, y2]) rfl ?_
      exact RR.out
    | true =>
      rw [h3] at HI hB
      clear h3
      by_cases h4 : 3 < d.size
      · have h4' : (3 : Int) < (d.size : Int) := by omega
        have HBZ : Hid (lnB l = false) := by
          unfold Hid
          rw [hB.out, HF.out, decide_eq_false (p := d.data.toList.length ≤ 3) (by rw [← HSZ.out]; omega)]; simp
        clear hB h4
        go_enter Tryz.func14, Tryz.ntmps14
        go_wp2_with fail
        refine (HT.out _).mono ?_
        rintro e w2 ⟨rfl, rfl⟩
        go_wp2_with fail
        refine (HC.out _).mono ?_
        rintro e w2 ⟨rfl, b2⟩
        have B2 := Lib.hid b2
        clear b2
        go_wp2_with fail
        refine (HI.out _).mono ?_
        rintro e w3 ⟨rfl, rfl⟩
        have Z := B1.out.2.keep B2.out
        obtain ⟨z0, z1, z2, zf, _⟩ := Z
        obtain ⟨W9, hW9⟩ : ∃ W9, thr3 w2 w.heap.size (.int .i64 0) (.int .i64 0) (.string ⟨#[]⟩) = W9 := ⟨_, rfl⟩
        have R9 : Bx3 W9 w.heap.size (.int .i64 0) (.int .i64 0) (.string ⟨#[]⟩) := by rw [← hW9]; exact (B1.out.2.keep B2.out).set _ _ _
        have D9 : Hid (Below w.heap.size w W9) := by unfold Hid; rw [← hW9]; exact below_thr3 (B1.out.1.trans (B2.out.mono B1.out.1.size)) (Nat.le_refl _) _ _ _
        obtain ⟨y0, y1, y2, yf, _⟩ := R9
        unfold thr3 at hW9
        clear hW1
        go_wp2
        have RR : Hid (NodP l w (.returned (.tuple #[.agg #[.int .i64 0, .int .i64 0, .string ⟨#[]⟩], .int .i64 0, .bool false])) W9) := ⟨D9.out, .inr ⟨HBZ.out, rfl⟩⟩
        refine bodyPost_ret (v := .tuple #[.agg #[.int .i64 0, .int .i64 0, .string ⟨#[]⟩], .int .i64 0, .bool false]) (by simp [results, Tryz.results14, go_sem, y0, y1, y2]) rfl ?_
        exact RR.out
      have h4' : ¬ (3 : Int) < (d.size : Int) := by omega
      by_cases h5 : d.size = 0
      · have hdn : d.data.toList = [] := List.eq_nil_of_length_eq_zero (by rw [← HSZ.out]; exact h5)
        have f1 : (d.toList == []) = true := by rw [Lib.toList_data, hdn]; rfl
        have f2 : d.toList.isEmpty = true := by rw [Lib.toList_data, hdn]; rfl
        have f3 : d.toList = [] := by rw [Lib.toList_data, hdn]
        have HBZ : Hid (lnB l = false) := by
          unfold Hid
          rw [hB.out, HF.out, decide_eq_false (p := d.data.toList ≠ []) (by simp [hdn])]; simp
        clear hB h4 h5 hdn
        go_enter Tryz.func14, Tryz.ntmps14
        go_wp2_with fail
        refine (HT.out _).mono ?_
        rintro e w2 ⟨rfl, rfl⟩
        go_wp2_with fail
        refine (HC.out _).mono ?_
        rintro e w2 ⟨rfl, b2⟩
        have B2 := Lib.hid b2
        clear b2
        go_wp2_with fail
        refine (HI.out _).mono ?_
        rintro e w3 ⟨rfl, rfl⟩
        have Z := B1.out.2.keep B2.out
        obtain ⟨z0, z1, z2, zf, _⟩ := Z
        obtain ⟨W9, hW9⟩ : ∃ W9, thr3 w2 w.heap.size (.int .i64 0) (.int .i64 0) (.string ⟨#[]⟩) = W9 := ⟨_, rfl⟩
        have R9 : Bx3 W9 w.heap.size (.int .i64 0) (.int .i64 0) (.string ⟨#[]⟩) := by rw [← hW9]; exact (B1.out.2.keep B2.out).set _ _ _
        have D9 : Hid (Below w.heap.size w W9) := by unfold Hid; rw [← hW9]; exact below_thr3 (B1.out.1.trans (B2.out.mono B1.out.1.size)) (Nat.le_refl _) _ _ _
        obtain ⟨y0, y1, y2, yf, _⟩ := R9
        unfold thr3 at hW9
        clear hW1
        go_wp2
        have RR : Hid (NodP l w (.returned (.tuple #[.agg #[.int .i64 0, .int .i64 0, .string ⟨#[]⟩], .int .i64 0, .bool false])) W9) := ⟨D9.out, .inr ⟨HBZ.out, rfl⟩⟩
        refine bodyPost_ret (v := .tuple #[.agg #[.int .i64 0, .int .i64 0, .string ⟨#[]⟩], .int .i64 0, .bool false]) (by simp [results, Tryz.results14, go_sem, y0, y1, y2]) rfl ?_
        exact RR.out
      have hpos : 0 < d.size := by omega
      have hdn : d.data.toList ≠ [] := fun e => by have := HSZ.out; rw [e] at this; simp only [List.length_nil] at this; omega
      have f1 : (d.toList == []) = false := by rw [beq_eq_false_iff_ne, Lib.toList_data]; exact hdn
      have f2 : d.toList.isEmpty = false := by rw [Lib.toList_data]; cases e : d.data.toList with | nil => exact absurd e hdn | cons _ _ => rfl
      have hhd : d.data.toList.head? = some (d[0]'hpos) := by
        cases e : d.data.toList with
        | nil => exact absurd e hdn
        | cons x r =>
          have : d.data.toList[0]'(by rw [e]; simp) = d[0]'hpos := Array.getElem_toList _
          simp only [e, List.getElem_cons_zero] at this
          rw [← this]; rfl
      have HHD := Lib.hid hhd
      have HDN := Lib.hid hdn
      clear hdn hhd
      by_cases h6 : (d[0]'hpos).toNat = 48
      · have h6' : (((d[0]'hpos).toNat : Int) == 48) = true := by rw [h6]; rfl
        have h6b : ((d[0]'hpos).toNat : Int) = 48 := by rw [h6]; rfl
        have HBZ : Hid (lnB l = false) := by
          have e48 : d[0]'hpos = 48 := UInt8.toNat_inj.1 h6
          unfold Hid
          rw [hB.out, HF.out, decide_eq_false (p := d.data.toList.head? ≠ some 48) (by rw [HHD.out, e48]; simp)]; simp
        clear hB h4 h5 h6
        go_enter Tryz.func14, Tryz.ntmps14
        go_wp2_with fail
        refine (HT.out _).mono ?_
        rintro e w2 ⟨rfl, rfl⟩
        go_wp2_with fail
        refine (HC.out _).mono ?_
        rintro e w2 ⟨rfl, b2⟩
        have B2 := Lib.hid b2
        clear b2
        go_wp2_with fail
        refine (HI.out _).mono ?_
        rintro e w3 ⟨rfl, rfl⟩
        have Z := B1.out.2.keep B2.out
        obtain ⟨z0, z1, z2, zf, _⟩ := Z
        obtain ⟨W9, hW9⟩ : ∃ W9, thr3 w2 w.heap.size (.int .i64 0) (.int .i64 0) (.string ⟨#[]⟩) = W9 := ⟨_, rfl⟩
        have R9 : Bx3 W9 w.heap.size (.int .i64 0) (.int .i64 0) (.string ⟨#[]⟩) := by rw [← hW9]; exact (B1.out.2.keep B2.out).set _ _ _
        have D9 : Hid (Below w.heap.size w W9) := by unfold Hid; rw [← hW9]; exact below_thr3 (B1.out.1.trans (B2.out.mono B1.out.1.size)) (Nat.le_refl _) _ _ _
        obtain ⟨y0, y1, y2, yf, _⟩ := R9
        unfold thr3 at hW9
        clear hW1
        go_wp2
        have RR : Hid (NodP l w (.returned (.tuple #[.agg #[.int .i64 0, .int .i64 0, .string ⟨#[]⟩], .int .i64 0, .bool false])) W9) := ⟨D9.out, .inr ⟨HBZ.out, rfl⟩⟩
        refine bodyPost_ret (v := .tuple #[.agg #[.int .i64 0, .int .i64 0, .string ⟨#[]⟩], .int .i64 0, .bool false]) (by simp [results, Tryz.results14, go_sem, y0, y1, y2]) rfl ?_
        exact RR.out
      have h6' : (((d[0]'hpos).toNat : Int) == 48) = false := by rw [beq_eq_false_iff_ne]; omega
      have h6b : ¬ ((d[0]'hpos).toNat : Int) = 48 := by omega
      have H48 : Hid (d.data.toList.head? ≠ some 48) := by
        intro e
        rw [HHD.out] at e
        have e := Option.some.inj e
        exact h6 (by rw [e]; rfl)
      by_cases h7 : b % 2 = 0
      · have h7' : (b : Int) % 2 = 0 := by omega
        have HLE : Hid (d.data.toList.length ≤ 3) := by unfold Hid; rw [← HSZ.out]; omega
        have hB2 : Hid (lnB l = d.data.toList.all dgB) := by
          unfold Hid
          rw [hB.out, decide_eq_true h7, HF.out, decide_eq_true HLE.out, decide_eq_true HDN.out, decide_eq_true H48.out]; simp
        clear hB h4 h5 h6 h7 HF
        go_enter Tryz.func14, Tryz.ntmps14
        go_wp2_with fail
        refine (HT.out _).mono ?_
        rintro e w2 ⟨rfl, rfl⟩
        go_wp2_with fail
        refine (HC.out _).mono ?_
        rintro e w2 ⟨rfl, b2⟩
        have B2 := Lib.hid b2
        clear b2
        go_wp2_with fail
        refine (HI.out _).mono ?_
        rintro e w3 ⟨rfl, rfl⟩
        go_wp2_with fail
        clear f1 f2 h6' h6b h7'
        go_loop [10, 55] (fun _ i => ∃ k : Nat, k ≤ d.size ∧ i = .int .i64 k ∧ Hid (∀ j, j < k → dgB (d.data.toList.getD j 0) = true)) (fun _ i => d.size - (intOf i).toNat)
        case atStart => exact ⟨0, Nat.zero_le _, rfl, fun j h => absurd h (Nat.not_lt_zero j)⟩
        case round =>
          obtain ⟨k, hk, rfl, hE⟩ := hrel
          by_cases hlt : k < d.size
          · have hkk : (k : Int) < (d.size : Int) := by omega
            have hg : Hid (d.data.toList.getD k 0 = d[k]'hlt) := by
              unfold Hid
              rw [getD_is (by rw [← HSZ.out]; exact hlt)]; exact Array.getElem_toList _
            cases hx : dgB (d[k]'hlt) with
            | true =>
              have hy := of_decide_eq_true hx
              have p1 : ¬ ((d[k]'hlt).toNat : Int) < 48 := by omega
              have p2 : ¬ (57 : Int) < ((d[k]'hlt).toNat : Int) := by omega
              have hG : Hid (∀ j, j < k + 1 → dgB (d.data.toList.getD j 0) = true) := by
                intro j hjk
                rcases Nat.lt_or_ge j k with q | q
                · exact hE.out j q
                · obtain rfl : j = k := by omega
                  rw [hg.out]; exact hx
              clear hx hy hE hg
              go_wp2
              go_round
              case rel => exact ⟨k + 1, by omega, by go_num, hG⟩
              case measure => simp [intOf]; omega
            | false =>
              have HBZ : Hid (lnB l = false) := by
                unfold Hid
                rw [hB2.out, List.all_eq_false]
                exact ⟨d[k]'hlt, by rw [← hg.out, getD_is (by rw [← HSZ.out]; exact hlt)]; exact List.getElem_mem _, by rw [hx]; simp⟩
              have hy := of_decide_eq_false hx
              clear hx hg hB2 hE
              by_cases hz : (d[k]'hlt).toNat < 48
              · have p1 : ((d[k]'hlt).toNat : Int) < 48 := by omega
                clear hy hz
                have Z := B1.out.2.keep B2.out
                obtain ⟨z0, z1, z2, zf, _⟩ := Z
                obtain ⟨W9, hW9⟩ : ∃ W9, thr3 w2 w.heap.size (.int .i64 0) (.int .i64 0) (.string ⟨#[]⟩) = W9 := ⟨_, rfl⟩
                have R9 : Bx3 W9 w.heap.size (.int .i64 0) (.int .i64 0) (.string ⟨#[]⟩) := by rw [← hW9]; exact (B1.out.2.keep B2.out).set _ _ _
                have D9 : Hid (Below w.heap.size w W9) := by unfold Hid; rw [← hW9]; exact below_thr3 (B1.out.1.trans (B2.out.mono B1.out.1.size)) (Nat.le_refl _) _ _ _
                obtain ⟨y0, y1, y2, yf, _⟩ := R9
                unfold thr3 at hW9
                clear hW1
                go_wp2
                have RR : Hid (NodP l w (.returned (.tuple #[.agg #[.int .i64 0, .int .i64 0, .string ⟨#[]⟩], .int .i64 0, .bool false])) W9) := ⟨D9.out, .inr ⟨HBZ.out, rfl⟩⟩
                refine bodyPost_ret (v := .tuple #[.agg #[.int .i64 0, .int .i64 0, .string ⟨#[]⟩], .int .i64 0, .bool false]) (by simp [results, Tryz.results14, go_sem, y0, y1, y2]) rfl ?_
                exact RR.out
              · have p1 : ¬ ((d[k]'hlt).toNat : Int) < 48 := by omega
                have p2 : (57 : Int) < ((d[k]'hlt).toNat : Int) := by omega
                clear hy hz
                have Z := B1.out.2.keep B2.out
                obtain ⟨z0, z1, z2, zf, _⟩ := Z
                obtain ⟨W9, hW9⟩ : ∃ W9, thr3 w2 w.heap.size (.int .i64 0) (.int .i64 0) (.string ⟨#[]⟩) = W9 := ⟨_, rfl⟩
                have R9 : Bx3 W9 w.heap.size (.int .i64 0) (.int .i64 0) (.string ⟨#[]⟩) := by rw [← hW9]; exact (B1.out.2.keep B2.out).set _ _ _
                have D9 : Hid (Below w.heap.size w W9) := by unfold Hid; rw [← hW9]; exact below_thr3 (B1.out.1.trans (B2.out.mono B1.out.1.size)) (Nat.le_refl _) _ _ _
                obtain ⟨y0, y1, y2, yf, _⟩ := R9
                unfold thr3 at hW9
                clear hW1
                go_wp2
                have RR : Hid (NodP l w (.returned (.tuple #[.agg #[.int .i64 0, .int .i64 0, .string ⟨#[]⟩], .int .i64 0, .bool false])) W9) := ⟨D9.out, .inr ⟨HBZ.out, rfl⟩⟩
                refine bodyPost_ret (v := .tuple #[.agg #[.int .i64 0, .int .i64 0, .string ⟨#[]⟩], .int .i64 0, .bool false]) (by simp [results, Tryz.results14, go_sem, y0, y1, y2]) rfl ?_
                exact RR.out
          · have hkk : ¬ (k : Int) < (d.size : Int) := by omega
            have hall : d.data.toList.all dgB = true := by
              rw [List.all_eq_true]
              intro x hx
              obtain ⟨j, hj, e⟩ := List.getElem_of_mem hx
              have := hE.out j (by rw [← HSZ.out] at hj; omega)
              rw [getD_is hj, e] at this
              exact this
            have hcb := codB_of HLE.out HDN.out H48.out hall
            have HBT : Hid (lnB l = true) := by unfold Hid; rw [hB2.out, hall]
            obtain ⟨v, hv, _⟩ := (codB_iff d.data.toList).1 hcb
            have hcv := codV_of hv
            have hin := (codV_in hcb).1
            have hin2 := (codV_in hcb).2.1
            rw [hcv] at hin hin2
            have HCV : Hid (codV (dgs l) = v) := by unfold Hid; rw [← HDL.out]; exact hcv
            have HA := Lib.hid (fun V => atoi_ok d v V hds hv)
            clear hall hcb hv hcv hE hB2
            go_wp2_with fail
            refine (HA.out _).mono ?_
            rintro e w3 ⟨rfl, b3⟩
            have B3 := Lib.hid (B2.out.trans (b3.mono B2.out.size))
            clear b3
            have Z := B1.out.2.keep B3.out
            obtain ⟨z0, z1, z2, zf, _⟩ := Z
            obtain ⟨W9, hW9⟩ : ∃ W9, thr3 w3 w.heap.size (.int .i64 v) (.int .i64 0) (.string t) = W9 := ⟨_, rfl⟩
            have R9 : Bx3 W9 w.heap.size (.int .i64 v) (.int .i64 0) (.string t) := by rw [← hW9]; exact (B1.out.2.keep B3.out).set _ _ _
            have D9 : Hid (Below w.heap.size w W9) := by unfold Hid; rw [← hW9]; exact below_thr3 (B1.out.1.trans (B3.out.mono B1.out.1.size)) (Nat.le_refl _) _ _ _
            obtain ⟨y0, y1, y2, yf, _⟩ := R9
            unfold thr3 at hW9
            clear hW1
            go_wp2
            have RR : Hid (NodP l w (.returned (.tuple #[.agg #[.int .i64 v, .int .i64 0, .string t], .int .i64 q, .bool true])) W9) := ⟨D9.out, .inl ⟨HBT.out, by rw [HCV.out, HTL.out, HQ.out]⟩⟩
            refine bodyPost_ret (v := .tuple #[.agg #[.int .i64 v, .int .i64 0, .string t], .int .i64 q, .bool true]) (by simp [results, Tryz.results14, go_sem, y0, y1, y2]) rfl ?_
            exact RR.out
      · have h7' : (b : Int) % 2 = 1 := by omega
        have HBZ : Hid (lnB l = false) := by unfold Hid; rw [hB.out, decide_eq_false h7]; rfl
        clear hB h4 h5 h6 h7
        go_enter Tryz.func14, Tryz.ntmps14
        go_wp2_with fail
        refine (HT.out _).mono ?_
        rintro e w2 ⟨rfl, rfl⟩
        go_wp2_with fail
        refine (HC.out _).mono ?_
        rintro e w2 ⟨rfl, b2⟩
        have B2 := Lib.hid b2
        clear b2
        go_wp2_with fail
        refine (HI.out _).mono ?_
        rintro e w3 ⟨rfl, rfl⟩
        have Z := B1.out.2.keep B2.out
        obtain ⟨z0, z1, z2, zf, _⟩ := Z
        obtain ⟨W9, hW9⟩ : ∃ W9, thr3 w2 w.heap.size (.int .i64 0) (.int .i64 0) (.string ⟨#[]⟩) = W9 := ⟨_, rfl⟩
        have R9 : Bx3 W9 w.heap.size (.int .i64 0) (.int .i64 0) (.string ⟨#[]⟩) := by rw [← hW9]; exact (B1.out.2.keep B2.out).set _ _ _
        have D9 : Hid (Below w.heap.size w W9) := by unfold Hid; rw [← hW9]; exact below_thr3 (B1.out.1.trans (B2.out.mono B1.out.1.size)) (Nat.le_refl _) _ _ _
        obtain ⟨y0, y1, y2, yf, _⟩ := R9
        unfold thr3 at hW9
        clear hW1
        go_wp2
        have RR : Hid (NodP l w (.returned (.tuple #[.agg #[.int .i64 0, .int .i64 0, .string ⟨#[]⟩], .int .i64 0, .bool false])) W9) := ⟨D9.out, .inr ⟨HBZ.out, rfl⟩⟩
        refine bodyPost_ret (v := .tuple #[.agg #[.int .i64 0, .int .i64 0, .string ⟨#[]⟩], .int .i64 0, .bool false]) (by simp [results, Tryz.results14, go_sem, y0, y1, y2]) rfl ?_
        exact RR.out
end Go.Proofs.YtheekfijbbgbkaaGreatDoor
