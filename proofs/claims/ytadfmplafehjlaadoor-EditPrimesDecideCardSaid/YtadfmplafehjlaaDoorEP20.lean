/-
  The law of the prime boxes: whether a box holds the values of a record.
  The law of the prime boxes: a record can be completed in some fields just if no prime box bars it.
-/
import Derived.Test.YtadfmplafehjlaaDoorEP19
import Derived.Test.YtadfmplafehjlaaDoorEP12
namespace Go.Proofs.YtadfmplafehjlaaDoor
open Go.RowKit Go.WideMaps Go.Maps Go.Shelf

attribute [local go_sem] Oper.semAt_some

def iQ (l : List Fd) (r f : List Int) (P : Nat → Nat) (k : Nat) : Bool := if inC f k = true then decide ((fd l k).cs.length ≤ (plL l P k).length) else inC ((plL l P k).map (fn (fd l k).cs)) (fn r k)
theorem inC_toI {g : List Nat} {k : Nat} : inC (toI g) (k : Int) = true ↔ k ∈ g := by
  rw [inC_mem]
  unfold toI
  rw [List.mem_map]
  constructor
  · rintro ⟨x, hx, e⟩
    have : x = k := by omega
    rw [← this]; exact hx
  · exact fun h => ⟨k, h, rfl⟩
theorem iQ_iB {l : List Fd} {r : List Int} {g : List Nat} {P : Nat → Nat} : al (iQ l r (toI g) P) l.length = inB l r g P := by
  unfold inB
  refine al_ext fun k _ => ?_
  unfold iQ iB
  by_cases h : k ∈ g
  · rw [if_pos h, if_pos (inC_toI.2 h)]
  · rw [if_neg h, if_neg (fun q => h (inC_toI.1 q))]
set_option maxRecDepth 100000 in
set_option maxHeartbeats 8000000 in
theorem in_c (a : Option Addr) (c : Nat) (l : List Fd) (a2 : Option Addr) (c2 m : Nat) (E : List Ed) (en : ByteArray) (xa : Option Addr) (xc : Nat) (B : Nat → Nat) (ra : Option Addr) (rc : Nat) (r : List Int) (fa : Option Addr) (fc : Nat) (f : List Int) (w : World)
    (hl : RdF w a l) (hok : Ok l E) (hx : RdL w xa (stB l B)) (hr : Rd w ra r) (hrl : r.length = l.length) (hf : Rd w fa f) :
    Calls Tryd.prog 17 #[.agg #[.slice a l.length c, .slice a2 m c2], .agg #[.string en, .slice xa (stB l B).length xc], .slice ra r.length rc, .slice fa f.length fc] w fun e w' => e = .returned (.bool (al (iQ l r f B) l.length)) ∧ Below w.heap.size w w' := by
  have mixed : Tryd.prog.follows .mixedOrders = true := by kernel_rfl
  rw [stB_len, hrl]
  obtain ⟨n, hn⟩ : ∃ n, l.length = n := ⟨_, rfl⟩
  obtain ⟨q, hq⟩ : ∃ n, f.length = n := ⟨_, rfl⟩
  have HN := Lib.hid hn
  rw [hn, hq]
  have n12 : n ≤ 12 := by rw [← hn]; exact hok.n12
  obtain ⟨W1, hW1⟩ : ∃ W, (w.alloc (.cells #[.slice a n c, .slice a2 m c2] 25)) = W := ⟨_, rfl⟩
  obtain ⟨W2, hW2⟩ : ∃ W, (W1.alloc (.cells #[.string en, .slice xa n xc] 43)) = W := ⟨_, rfl⟩
  obtain ⟨z0, hz0⟩ : ∃ z, w.heap.size = z := ⟨_, rfl⟩
  obtain ⟨z1, hz1⟩ : ∃ z, W1.heap.size = z := ⟨_, rfl⟩
  have b1 : Below w.heap.size w W1 := by rw [← hW1]; exact bel_one _ _
  have b2 : Below W1.heap.size W1 W2 := by rw [← hW2]; exact bel_one _ _
  have y0 : W1.cell? ⟨z0, 0, none⟩ = some (.slice a n c) := by rw [← hW1, ← hz0, World.cell?_alloc_new]; rfl
  have x1 : W2.cell? ⟨z1, 1, none⟩ = some (.slice xa n xc) := by rw [← hW2, ← hz1, World.cell?_alloc_new]; rfl
  have x0 := (b2.cell (p := ⟨z0, 0, none⟩) (cellLt y0)).trans y0
  have B2 : Hid (Below w.heap.size w W2) := b1.trans (b2.mono b1.size)
  have HL := Lib.hid (hl.below B2.out)
  have HX := Lib.hid (hx.below B2.out)
  have HR := Lib.hid (hr.below B2.out)
  have CF : Hid (∀ (k : Int) V, Below W2.heap.size W2 V → Calls Tryd.prog 16 #[.slice fa q fc, .int .i64 k] V fun e w' => e = .returned (.bool (inC f k)) ∧ w' = V) := fun k V hV => by
    rw [← hq]; exact contains_c fa fc f k V ((hf.below B2.out).below hV)
  have X0 := Lib.hid x0
  clear hl hok hx hr hf b1 b2 y0 hn hq
  go_enter Tryd.func17, Tryd.ntmps17
  go_wp2_with fail
  clear hW1 hW2 x0 x1
  go_loopw [9, 10, 14] (fun _ _ iv wr => ∃ k : Nat, iv = .int .i64 k ∧ Hid (k ≤ n ∧ al (iQ l r f B) k = true ∧ Below W2.heap.size W2 wr)) (fun _ _ iv _ => n - (intOf iv).toNat)
  case atStart => exact ⟨0, rfl, Nat.zero_le _, rfl, Below.refl _ _⟩
  case round =>
    obtain ⟨k, rfl, hS⟩ := hrel
    obtain ⟨hk, hall, hb⟩ := hS.out
    have HALL := Lib.hid hall
    have BR : Hid (Below w.heap.size w wr) := B2.out.trans (hb.mono B2.out.size)
    have HB := Lib.hid hb
    by_cases hlt : k < n
    · have hlt' : (k : Int) < (n : Int) := by omega
      have hk0 : (0 : Int) ≤ (k : Int) := by omega
      have hkl : k < l.length := by rw [HN.out]; exact hlt
      obtain ⟨xb, xo, exa, _, hxc⟩ := (HX.out.below hb).2 (by rw [stB_len]; omega)
      subst exa
      obtain ⟨sa, sc, c0, hrs⟩ := hxc k (by rw [stB_len]; exact hkl)
      rw [stB_at hkl, List.length_map] at c0
      rw [stB_at hkl] at hrs
      obtain ⟨fb, fo, efa, _, hfc⟩ := (HL.out.below hb).2 (by omega)
      subst efa
      obtain ⟨_, ⟨ga, gc, c1, _⟩, _⟩ := hfc k hkl
      obtain ⟨rb, ro, era, _, hrc⟩ := (HR.out.below hb).2 (by omega)
      subst era
      have c2' := hrc k (by omega)
      have C1 := Lib.hid (CF.out k wr hb)
      have CS : Hid (∀ (x : Int), Calls Tryd.prog 16 #[.slice sa (plL l B k).length sc, .int .i64 x] wr fun e w' => e = .returned (.bool (inC ((plL l B k).map (fn (fd l k).cs)) x)) ∧ w' = wr) := fun x => by
        have := contains_c sa sc ((plL l B k).map (fn (fd l k).cs)) x wr hrs
        rw [List.length_map] at this; exact this
      have y0 := (hb.cell (p := ⟨z0, 0, none⟩) (cellLt X0.out)).trans X0.out
      have ST : Hid (iQ l r f B k = if inC f k = true then decide ((fd l k).cs.length ≤ (plL l B k).length) else inC ((plL l B k).map (fn (fd l k).cs)) (fn r k)) := rfl
      obtain ⟨x, hx⟩ : ∃ x, fn r k = x := ⟨_, rfl⟩
      rw [hx] at c2' ST
      have CS2 := Lib.hid (CS.out x)
      obtain ⟨s, hs⟩ : ∃ s, inC ((plL l B k).map (fn (fd l k).cs)) x = s := ⟨_, rfl⟩
      rw [hs] at CS2 ST
      obtain ⟨pl, hpl⟩ : ∃ s, (plL l B k).length = s := ⟨_, rfl⟩
      rw [hpl] at CS2 ST c0
      obtain ⟨cl, hcl⟩ : ∃ s, (fd l k).cs.length = s := ⟨_, rfl⟩
      rw [hcl] at ST c1
      obtain ⟨t, ht⟩ : ∃ t, inC f k = t := ⟨_, rfl⟩
      rw [ht] at C1 ST
      clear hS hk hall hb hxc hrs hfc hrc CS hx hs hpl hcl ht
      go_wp2_with fail
      refine C1.out.mono ?_
      rintro e1 w4 ⟨rfl, rfl⟩
      clear C1
      cases t with
      | true =>
        rw [if_pos rfl] at ST
        by_cases hc : pl < cl
        · have hc' : (pl : Int) < (cl : Int) := by omega
          have RR : Hid (al (iQ l r f B) n = false) := al_stop hlt (by rw [ST.out]; exact decide_eq_false (by omega))
          clear hc CS2
          go_wp2_with fail
          go_ret
          exact ⟨by rw [RR.out]; rfl, BR.out⟩
        · have hc' : ¬ (pl : Int) < (cl : Int) := by omega
          have NX : Hid (k + 1 ≤ n ∧ al (iQ l r f B) (k + 1) = true ∧ Below W2.heap.size W2 w4) := ⟨hlt, al_step HALL.out (by rw [ST.out]; exact decide_eq_true (by omega)), HB.out⟩
          clear hc CS2
          go_wp2_with fail
          go_roundw
          case rel => exact ⟨k + 1, by go_num, NX.out⟩
          case measure => simp [intOf]; omega
      | false =>
        rw [if_neg (by simp)] at ST
        cases s with
        | true =>
          have NX : Hid (k + 1 ≤ n ∧ al (iQ l r f B) (k + 1) = true ∧ Below W2.heap.size W2 w4) := ⟨hlt, al_step HALL.out ST.out, HB.out⟩
          go_wp2_with fail
          refine CS2.out.mono ?_
          rintro e1 w5 ⟨rfl, rfl⟩
          go_wp2_with fail
          go_roundw
          case rel => exact ⟨k + 1, by go_num, NX.out⟩
          case measure => simp [intOf]; omega
        | false =>
          have RR : Hid (al (iQ l r f B) n = false) := al_stop hlt ST.out
          go_wp2_with fail
          refine CS2.out.mono ?_
          rintro e1 w5 ⟨rfl, rfl⟩
          go_wp2_with fail
          go_ret
          exact ⟨by rw [RR.out]; rfl, BR.out⟩
    · have hlt' : ¬ (k : Int) < (n : Int) := by omega
      have RR : Hid (al (iQ l r f B) n = true) := by unfold Hid; rw [← (show k = n by omega)]; exact hall
      clear hS hk hall hb hlt
      go_wp2_with fail
      go_ret
      exact ⟨by rw [RR.out]; rfl, by have := BR.out; rw [hz0] at this; exact this⟩
end Go.Proofs.YtadfmplafehjlaaDoor
namespace Go.Proofs.YtadfmplafehjlaaDoor
open Go.RowKit Go.WideMaps Go.Maps Go.Shelf

attribute [local go_sem] Oper.semAt_some

/-- Field number k is free, or has a valid value. -/
def okF (l : List Fd) (r f : List Int) (k : Nat) : Bool := inC f k || inC (fd l k).cs (fn r k)
def elB (K : List El) (j : Nat) : Nat → Nat := ((K[j]?).map (·.B)).getD fun _ => 0
/-- None of the first boxes bars the record. -/
def nbB (l : List Fd) (r f : List Int) (K : List El) (j : Nat) : Bool := !(al (iQ l r f (elB K j)) l.length)
theorem dec_law {l : List Fd} {E : List Ed} (hok : Ok l E) {L : List (Nat → Nat)} {K : List El} (hK : (K.map (·.B)).Perm L) (hL : PrmL l E L) {r f : List Int} (hr : r.length = l.length) (h0 : freS l.length f = 0) :
    (fil l E (natL f) r).isSome = (al (okF l r f) l.length && al (nbB l r f K) K.length) := by
  obtain ⟨e, hg, _⟩ := nat_back h0
  have hd := decide_iff hok hL.1 hL.2.2.1 hL.2.2.2 hr hg
  have h1 : al (okF l r f) l.length = false ↔ ∃ k, k < l.length ∧ k ∉ natL f ∧ inC (fd l k).cs (fn r k) = false := by
    constructor
    · intro q
      refine Classical.byContradiction fun x => ?_
      have : al (okF l r f) l.length = true := al_iff.2 fun k hk => by
        unfold okF
        cases e1 : inC f k with
        | true => rfl
        | false =>
          cases e2 : inC (fd l k).cs (fn r k) with
          | true => rfl
          | false =>
            refine absurd ⟨k, hk, fun hm => ?_, e2⟩ x
            rw [← inC_toI, e, e1] at hm; cases hm
      rw [q] at this; cases this
    · rintro ⟨k, hk, hkg, e2⟩
      refine al_stop hk ?_
      unfold okF
      rw [e2, Bool.or_false]
      cases e1 : inC f k with
      | false => rfl
      | true =>
        rw [← e] at e1
        exact absurd (inC_toI.1 e1) hkg
  have h2 : al (nbB l r f K) K.length = false ↔ ∃ P, P ∈ L ∧ inB l r (natL f) P = true := by
    have hi : ∀ P, al (iQ l r f P) l.length = inB l r (natL f) P := fun P => by
      have := iQ_iB (l := l) (r := r) (g := natL f) (P := P)
      rw [e] at this; exact this
    constructor
    · intro q
      refine Classical.byContradiction fun x => ?_
      have : al (nbB l r f K) K.length = true := al_iff.2 fun j hj => by
        unfold nbB
        rw [hi]
        cases e1 : inB l r (natL f) (elB K j) with
        | false => rfl
        | true =>
          refine absurd ⟨_, hK.mem_iff.1 ?_, e1⟩ x
          unfold elB
          rw [List.getElem?_eq_getElem hj]
          exact List.mem_map.2 ⟨K[j], List.getElem_mem hj, rfl⟩
      rw [q] at this; cases this
    · rintro ⟨P, hP, e1⟩
      obtain ⟨y, hy, e2⟩ := List.mem_map.1 (hK.mem_iff.2 hP)
      obtain ⟨j, hj, e3⟩ := List.getElem_of_mem hy
      refine al_stop hj ?_
      unfold nbB
      rw [hi]
      have : elB K j = P := by unfold elB; rw [List.getElem?_eq_getElem hj, e3]; exact e2
      rw [this, e1]; rfl
  cases q : fil l E (natL f) r with
  | none =>
    rcases hd.1 q with x | x
    · rw [h1.2 x]; rfl
    · rw [h2.2 x, Bool.and_false]; rfl
  | some y =>
    cases a1 : al (okF l r f) l.length with
    | false => rw [hd.2 (.inl (h1.1 a1))] at q; cases q
    | true =>
      cases a2 : al (nbB l r f K) K.length with
      | false => rw [hd.2 (.inr (h2.1 a2))] at q; cases q
      | true => rfl
set_option maxRecDepth 100000 in
set_option maxHeartbeats 16000000 in
theorem law_primes (a : Option Addr) (c : Nat) (l : List Fd) (a2 : Option Addr) (c2 : Nat) (E : List Ed) (a3 : Option Addr) (c3 : Nat) (r : List Int) (fa : Option Addr) (fc : Nat) (f : List Int) (w : World) (hl : RdF w a l) (hE : RdE w a2 E) (hr : Rd w a3 r) (hf : Rd w fa f) (hst : ∀ u, u ∈ l → u.nm.size ≤ 9223372036854775807) (hst2 : ∀ u, u ∈ E → u.nm.size ≤ 9223372036854775807)
    (hT : TabAt 0 Lib.deBruijn64tab w) (ht : 0 < w.heap.size) :
    Calls Tryd.prog 4 #[.agg #[.slice a l.length c, .slice a2 E.length c2], .slice a3 r.length c3, .slice fa f.length fc] w fun e w' => e = .returned (.bool true) ∧ Below w.heap.size w w' := by
  have mixed : Tryd.prog.follows .mixedOrders = true := by kernel_rfl
  obtain ⟨z, hzz⟩ : ∃ z, w.heap.size = z := ⟨_, rfl⟩
  obtain ⟨W1, hW1⟩ : ∃ W, w.alloc (.cells #[.slice a l.length c, .slice a2 E.length c2] 25) = W := ⟨_, rfl⟩
  have b1 : Below w.heap.size w W1 := by rw [← hW1]; exact bel_one _ _
  have x0 : W1.cell? ⟨z, 0, none⟩ = some (.slice a l.length c) := by rw [← hW1, ← hzz, World.cell?_alloc_new]; rfl
  have x1 : W1.cell? ⟨z, 1, none⟩ = some (.slice a2 E.length c2) := by rw [← hW1, ← hzz, World.cell?_alloc_new]; rfl
  have lw : ∀ V, Below W1.heap.size W1 V → Below w.heap.size w V := fun V hV => b1.trans (hV.mono b1.size)
  have C1 := Lib.hid (Primes_c a c l a2 c2 E W1 (hl.below b1) (hE.below b1) hst hst2 (tab_below hT ht b1) (Nat.lt_of_lt_of_le ht b1.size))
  have C2 : Hid (∀ V, Below W1.heap.size W1 V → Calls Tryd.prog 13 #[.agg #[.slice a l.length c, .slice a2 E.length c2], .slice a3 r.length c3, .slice fa f.length fc] V fun e w' => ∃ a c, e = .returned (.tuple #[.slice a (fiL l E r f).length c, .bool (fiB l E r f), .int .i64 (frfS l E r f)]) ∧ Rd w' a (fiL l E r f) ∧ Below V.heap.size V w') := fun V hV =>
    (First_c a c l a2 c2 E a3 c3 r fa fc f V (hl.below (lw V hV)) (hE.below (lw V hV)) (hr.below (lw V hV)) (hf.below (lw V hV)) hst hst2 (tab_below hT ht (lw V hV)) (Nat.lt_of_lt_of_le ht (lw V hV).size)).mono fun e w' h => fi_res h
  have LW := Lib.hid lw
  have HLf : Hid (∀ V, Below W1.heap.size W1 V → RdF V a l) := fun V hV => hl.below (lw V hV)
  have HRr : Hid (∀ V, Below W1.heap.size W1 V → Rd V a3 r) := fun V hV => hr.below (lw V hV)
  have HFf : Hid (∀ V, Below W1.heap.size W1 V → Rd V fa f) := fun V hV => hf.below (lw V hV)
  obtain ⟨n, hn⟩ : ∃ n, l.length = n := ⟨_, rfl⟩
  obtain ⟨m, hm⟩ : ∃ n, E.length = n := ⟨_, rfl⟩
  obtain ⟨rl, hrl⟩ : ∃ n, r.length = n := ⟨_, rfl⟩
  obtain ⟨q, hq⟩ : ∃ n, f.length = n := ⟨_, rfl⟩
  obtain ⟨fs, hfs⟩ : ∃ n, frfS l E r f = n := ⟨_, rfl⟩
  obtain ⟨fb, hfb⟩ : ∃ n, fiB l E r f = n := ⟨_, rfl⟩
  obtain ⟨fl, hfl⟩ : ∃ n, fiL l E r f = n := ⟨_, rfl⟩
  have HN := Lib.hid hn
  have HRL := Lib.hid hrl
  have HQ := Lib.hid hq
  have HFS := Lib.hid hfs
  have HFB := Lib.hid hfb
  unfold PriP at C1
  rw [hn] at C1 C2 x0 hW1
  rw [hm] at C1 C2 x1 hW1
  rw [hrl, hq] at C2
  rw [hfs, hfb, hfl] at C2
  rw [hn, hm, hrl, hq]
  have X : Hid (∀ V, Below W1.heap.size W1 V → V.cell? ⟨z, 0, none⟩ = some (.slice a n c) ∧ V.cell? ⟨z, 1, none⟩ = some (.slice a2 m c2)) := fun V hV =>
    ⟨(hV.cell (p := ⟨z, 0, none⟩) (cellLt x0)).trans x0, (hV.cell (p := ⟨z, 1, none⟩) (cellLt x1)).trans x1⟩
  clear hl hE hr hf hst hst2 hT b1 lw hn hm hrl hq hfs hfb hfl
  go_enter Tryd.func4, Tryd.ntmps4
  go_wp2_with fail
  clear hW1 x0 x1
  refine C1.out.mono ?_
  rintro e1 w2 ⟨b2, h2⟩
  have S2 := Lib.hid b2
  clear b2 C1
  rcases h2 with ⟨f0, hf0, rfl⟩ | ⟨hpl, L, K, ka, kc, rfl, hrk, hperm, hprm, _⟩
  · have g2 : (f0 != 0) = true := by simpa using hf0
    clear C2
    go_wp2_with fail
    go_ret
    exact ⟨rfl, LW.out w2 S2.out⟩
  · have HOK := Lib.hid (plan_ok hpl)
    have HRK := Lib.hid hrk
    have HPM := Lib.hid hperm
    have HPR := Lib.hid hprm
    have HPL := Lib.hid hpl
    have K40 : K.length ≤ 40 := by
      have := hperm.length_eq
      rw [List.length_map] at this
      have := hprm.2.1
      omega
    obtain ⟨kn, hkn⟩ : ∃ n, K.length = n := ⟨_, rfl⟩
    have HKN := Lib.hid hkn
    rw [hkn] at K40 ⊢
    obtain ⟨v0, v1⟩ := X.out w2 S2.out
    have n12 : n ≤ 12 := by rw [← HN.out]; exact HOK.out.n12
    clear hrk hperm hprm hpl hkn
    go_wp2_with fail
    clear v0 v1
    refine (C2.out w2 S2.out).mono ?_
    rintro e1 w3 ⟨p1, k1, rfl, _, b3⟩
    have S3 : Hid (Below W1.heap.size W1 w3) := S2.out.trans (b3.mono S2.out.size)
    have RK3 := Lib.hid (HRK.out.below b3)
    clear b3 C2
    by_cases hfs0 : fs = 0
    · subst hfs0
      have HR0 : Hid (r.length = l.length ∧ freS l.length f = 0) := by
        have h := HFS.out
        unfold frfS at h
        by_cases h1 : frS l E r = 0
        · rw [if_neg (by simpa using h1)] at h
          exact ⟨(fr_ok h1).2.1, h⟩
        · rw [if_pos h1] at h; exact absurd h h1
      have DL := Lib.hid (dec_law HOK.out HPM.out HPR.out HR0.out.1 HR0.out.2)
      have FB : Hid (fb = (fil l E (natL f) r).isSome) := by
        unfold Hid
        rw [← HFB.out]
        unfold fiB
        rw [HFS.out]
        simp
      obtain ⟨v0, _⟩ := X.out w3 S3.out
      go_wp2_with fail
      clear v0
      go_loopw [11, 12, 13, 39] (fun ov _ _ iv wr => ∃ (k : Nat) (o : Bool), iv = .int .i64 k ∧ ov = .bool o ∧ Hid (k ≤ n ∧ o = !(al (okF l r f) k) ∧ Below w3.heap.size w3 wr)) (fun _ _ _ iv _ => n - (intOf iv).toNat)
      case atStart => exact ⟨0, false, rfl, rfl, Nat.zero_le _, rfl, Below.refl _ _⟩
      case round =>
        obtain ⟨k, o, rfl, rfl, hS⟩ := hrel
        obtain ⟨hk, ho, hb⟩ := hS.out
        have HO := Lib.hid ho
        have HB := Lib.hid hb
        have SR : Hid (Below W1.heap.size W1 wr) := S3.out.trans (hb.mono S3.out.size)
        by_cases hlt : k < n
        · have hlt' : (k : Int) < (n : Int) := by omega
          have hk0 : (0 : Int) ≤ (k : Int) := by omega
          have hkl : k < l.length := by rw [HN.out]; exact hlt
          have hkr : (k : Int) < (rl : Int) := by rw [← HRL.out, HR0.out.1]; omega
          obtain ⟨gb, go, ea, _, hfc⟩ := (HLf.out wr SR.out).2 (by omega)
          subst ea
          obtain ⟨c0, ⟨ga, gc, c1, hcs⟩, c2'⟩ := hfc k hkl
          obtain ⟨rb, ro, era, _, hrc⟩ := (HRr.out wr SR.out).2 (by rw [HR0.out.1]; omega)
          subst era
          have r0 := hrc k (by rw [HR0.out.1]; exact hkl)
          have ST : Hid (okF l r f k = (inC f k || inC (fd l k).cs (fn r k))) := rfl
          obtain ⟨nm, hnm⟩ : ∃ s, (fd l k).nm = s := ⟨_, rfl⟩
          obtain ⟨wt, hwt⟩ : ∃ s, (fd l k).wt = s := ⟨_, rfl⟩
          obtain ⟨cs, hcse⟩ : ∃ s, (fd l k).cs = s := ⟨_, rfl⟩
          obtain ⟨cl, hcl⟩ : ∃ s, cs.length = s := ⟨_, rfl⟩
          obtain ⟨x, hx⟩ : ∃ s, fn r k = s := ⟨_, rfl⟩
          rw [hnm] at c0
          rw [hwt] at c2'
          rw [hcse] at c1 hcs ST
          rw [hcl] at c1
          rw [hx] at r0 ST
          obtain ⟨z7, hz7⟩ : ∃ s, wr.heap.size = s := ⟨_, rfl⟩
          obtain ⟨W4, hW4⟩ : ∃ V, wr.alloc (.cells #[.string nm, .slice ga cl gc, .int .i64 wt] 39) = V := ⟨_, rfl⟩
          have B4 : Hid (Below wr.heap.size wr W4) := by unfold Hid; rw [← hW4]; exact bel_one _ _
          have y1 : W4.cell? ⟨z7, 1, none⟩ = some (.slice ga cl gc) := by rw [← hW4, ← hz7, World.cell?_alloc_new]; rfl
          have HSS : Hid (∀ V, Below W4.heap.size W4 V → S2e ⟨z7, 1, none⟩ ⟨rb, ro + k, none⟩ (.slice ga cl gc) (.int .i64 x) V) := fun V hV =>
            ⟨(hV.cell (p := ⟨z7, 1, none⟩) (cellLt y1)).trans y1, ((B4.out.trans (hV.mono B4.out.size)).cell (p := ⟨rb, ro + k, none⟩) (cellLt r0)).trans r0⟩
          have S4 : Hid (∀ V, Below W4.heap.size W4 V → Below W1.heap.size W1 V ∧ Below w3.heap.size w3 V) := fun V hV =>
            have h := B4.out.trans (hV.mono B4.out.size)
            ⟨SR.out.trans (h.mono SR.out.size), HB.out.trans (h.mono HB.out.size)⟩
          have CF : Hid (∀ (k : Int) V, Below W4.heap.size W4 V → Calls Tryd.prog 16 #[.slice fa q fc, .int .i64 k] V fun e w' => e = .returned (.bool (inC f k)) ∧ w' = V) := fun k V hV => by
            rw [← HQ.out]; exact contains_c fa fc f k V (HFf.out V (S4.out V hV).1)
          have CG : Hid (∀ V, Below W4.heap.size W4 V → Calls Tryd.prog 16 #[.slice ga cl gc, .int .i64 x] V fun e w' => e = .returned (.bool (inC cs x)) ∧ w' = V) := fun V hV => by
            rw [← hcl]; exact contains_c ga gc cs x V (hcs.below (B4.out.trans (hV.mono B4.out.size)))
          obtain ⟨t, htt⟩ : ∃ t, inC f k = t := ⟨_, rfl⟩
          obtain ⟨s, hss⟩ : ∃ t, inC cs x = t := ⟨_, rfl⟩
          rw [htt, hss] at ST
          rw [hss] at CG
          have CF := Lib.hid (fun V hV => by have := CF.out (k : Int) V hV; rw [htt] at this; exact this)
          have ALS : Hid (al (okF l r f) (k + 1) = (al (okF l r f) k && okF l r f k)) := rfl
          clear hS hk ho hb hfc hrc hcs hnm hwt hcse hcl hx htt hss r0
          go_wp2_with fail
          clear hW4 c0 c1 c2' y1 hz7
          cases o with
          | true =>
            have NX : Hid (∀ V, Below W4.heap.size W4 V → Hid (k + 1 ≤ n ∧ true = !(al (okF l r f) (k + 1)) ∧ Below w3.heap.size w3 V)) := fun V hV => by
              refine ⟨hlt, ?_, (S4.out V hV).2⟩
              have h := HO.out
              rw [ALS.out]
              cases e : al (okF l r f) k with
              | false => rfl
              | true => rw [e] at h; cases h
            refine wp_region_noPanic ?_
            refine wp_region_held_drew (S := (S2e ⟨z7, 1, none⟩ ⟨rb, ro + k, none⟩ (.slice ga cl gc) (.int .i64 x))) (by kernel_rfl) (by exact HSS.out _ (Below.refl _ _).drew) (fun hS => ?_)
            obtain ⟨WD, hWD⟩ : ∃ W, W4.drew = W := ⟨_, rfl⟩
            have D0 : Hid (Below W4.heap.size W4 WD) := by unfold Hid; rw [← hWD]; exact (Below.refl _ _).drew
            rw [hWD] at hS ⊢
            clear hWD
            refine wpAnyH_take (i := 0) (v := ?v0m1) rfl (by kernel_rfl) (by kernel_rfl) (by kernel_rfl) (fun _ _ _ h => h) (Or.inl ⟨by rfl, ?hy0m1⟩) (by assumption) ?rest0m1
            case hy0m1 =>
              intro w hSw
              dsimp only [S2e] at hSw
              go_simp
              try with_reducible rfl
            simp only [Act.put, List.getElem_toArray, List.getElem_cons_succ, List.getElem_cons_zero, List.setIfInBounds_toArray, List.set_cons_zero, List.set_cons_succ]
            refine wpAnyH_take (i := 1) (v := ?v1m2) rfl (by kernel_rfl) (by kernel_rfl) (by kernel_rfl) (fun _ _ _ h => h) (Or.inl ⟨by rfl, ?hy1m2⟩) (by assumption) ?rest1m2
            case hy1m2 =>
              intro w hSw
              dsimp only [S2e] at hSw
              go_simp
              try with_reducible rfl
            simp only [Act.put, List.getElem_toArray, List.getElem_cons_succ, List.getElem_cons_zero, List.setIfInBounds_toArray, List.set_cons_zero, List.set_cons_succ]
            refine wpAnyH_take (i := 2) (v := undef) rfl (by kernel_rfl) (by kernel_rfl) (by kernel_rfl) (fun _ _ _ h => h) (Or.inr ⟨by rfl, rfl⟩) (by assumption) ?rest2m3
            simp only [Act.put, List.getElem_toArray, List.getElem_cons_succ, List.getElem_cons_zero, List.setIfInBounds_toArray, List.set_cons_zero, List.set_cons_succ]
            refine wpAnyH_take (i := 3) (v := undef) rfl (by kernel_rfl) (by kernel_rfl) (by kernel_rfl) (fun _ _ _ h => h) (Or.inr ⟨by rfl, rfl⟩) (by assumption) ?rest3m4
            simp only [Act.put, List.getElem_toArray, List.getElem_cons_succ, List.getElem_cons_zero, List.setIfInBounds_toArray, List.set_cons_zero, List.set_cons_succ]
            refine wpAnyH_take (i := 4) (v := undef) rfl (by kernel_rfl) (by kernel_rfl) (by kernel_rfl) (fun _ _ _ h => h) (Or.inr ⟨by rfl, rfl⟩) (by assumption) ?rest4m5
            simp only [Act.put, List.getElem_toArray, List.getElem_cons_succ, List.getElem_cons_zero, List.setIfInBounds_toArray, List.set_cons_zero, List.set_cons_succ]
            refine wpAnyH_take (i := 5) (v := undef) rfl (by kernel_rfl) (by kernel_rfl) (by kernel_rfl) (fun _ _ _ h => h) (Or.inr ⟨by rfl, rfl⟩) (by assumption) ?rest5m6
            simp only [Act.put, List.getElem_toArray, List.getElem_cons_succ, List.getElem_cons_zero, List.setIfInBounds_toArray, List.set_cons_zero, List.set_cons_succ]
            refine wpAnyH_take (i := 6) (v := undef) rfl (by kernel_rfl) (by kernel_rfl) (by kernel_rfl) (fun _ _ _ h => h) (Or.inr ⟨by rfl, rfl⟩) (by assumption) ?rest6m7
            simp only [Act.put, List.getElem_toArray, List.getElem_cons_succ, List.getElem_cons_zero, List.setIfInBounds_toArray, List.set_cons_zero, List.set_cons_succ]
            refine wpAnyH_take (i := 7) (v := undef) rfl (by kernel_rfl) (by kernel_rfl) (by kernel_rfl) (fun _ _ _ h => h) (Or.inr ⟨by rfl, rfl⟩) (by assumption) ?rest7m8
            simp only [Act.put, List.getElem_toArray, List.getElem_cons_succ, List.getElem_cons_zero, List.setIfInBounds_toArray, List.set_cons_zero, List.set_cons_succ]
            refine wpAnyH_take (i := 8) (v := undef) rfl (by kernel_rfl) (by kernel_rfl) (by kernel_rfl) (fun _ _ _ h => h) (Or.inr ⟨by rfl, rfl⟩) (by assumption) ?rest8m9
            simp only [Act.put, List.getElem_toArray, List.getElem_cons_succ, List.getElem_cons_zero, List.setIfInBounds_toArray, List.set_cons_zero, List.set_cons_succ]
            refine wpAnyH_take (i := 9) (v := undef) rfl (by kernel_rfl) (by kernel_rfl) (by kernel_rfl) (fun _ _ _ h => h) (Or.inr ⟨by rfl, rfl⟩) (by assumption) ?rest9m10
            simp only [Act.put, List.getElem_toArray, List.getElem_cons_succ, List.getElem_cons_zero, List.setIfInBounds_toArray, List.set_cons_zero, List.set_cons_succ]
            refine wpAnyH_take (i := 10) (v := undef) rfl (by kernel_rfl) (by kernel_rfl) (by kernel_rfl) (fun _ _ _ h => h) (Or.inr ⟨by rfl, rfl⟩) (by assumption) ?rest10m11
            simp only [Act.put, List.getElem_toArray, List.getElem_cons_succ, List.getElem_cons_zero, List.setIfInBounds_toArray, List.set_cons_zero, List.set_cons_succ]
            refine wpAnyH_take (i := 11) (v := undef) rfl (by kernel_rfl) (by kernel_rfl) (by kernel_rfl) (fun _ _ _ h => h) (Or.inr ⟨by rfl, rfl⟩) (by assumption) ?rest11m12
            simp only [Act.put, List.getElem_toArray, List.getElem_cons_succ, List.getElem_cons_zero, List.setIfInBounds_toArray, List.set_cons_zero, List.set_cons_succ]
            refine wpAnyH_take (i := 12) (v := undef) rfl (by kernel_rfl) (by kernel_rfl) (by kernel_rfl) (fun _ _ _ h => h) (Or.inr ⟨by rfl, rfl⟩) (by assumption) ?rest12m13
            simp only [Act.put, List.getElem_toArray, List.getElem_cons_succ, List.getElem_cons_zero, List.setIfInBounds_toArray, List.set_cons_zero, List.set_cons_succ]
            refine wpAnyH_take (i := 13) (v := undef) rfl (by kernel_rfl) (by kernel_rfl) (by kernel_rfl) (fun _ _ _ h => h) (Or.inr ⟨by rfl, rfl⟩) (by assumption) ?rest13m14
            simp only [Act.put, List.getElem_toArray, List.getElem_cons_succ, List.getElem_cons_zero, List.setIfInBounds_toArray, List.set_cons_zero, List.set_cons_succ]
            refine wpAnyH_take (i := 14) (v := undef) rfl (by kernel_rfl) (by kernel_rfl) (by kernel_rfl) (fun _ _ _ h => h) (Or.inr ⟨by rfl, rfl⟩) (by assumption) ?rest14m15
            simp only [Act.put, List.getElem_toArray, List.getElem_cons_succ, List.getElem_cons_zero, List.setIfInBounds_toArray, List.set_cons_zero, List.set_cons_succ]
            refine wpAnyH_take (i := 15) (v := undef) rfl (by kernel_rfl) (by kernel_rfl) (by kernel_rfl) (fun _ _ _ h => h) (Or.inr ⟨by rfl, rfl⟩) (by assumption) ?rest15m16
            simp only [Act.put, List.getElem_toArray, List.getElem_cons_succ, List.getElem_cons_zero, List.setIfInBounds_toArray, List.set_cons_zero, List.set_cons_succ]
            refine wpAnyH_take (i := 16) (v := ?v16m17) rfl (by kernel_rfl) (by kernel_rfl) (by kernel_rfl) (fun _ _ _ h => h) (Or.inl ⟨by rfl, ?hy16m17⟩) (by assumption) ?rest16m17
            case hy16m17 =>
              intro w hSw
              dsimp only [S2e] at hSw
              go_simp
              try with_reducible rfl
            simp only [Act.put, List.getElem_toArray, List.getElem_cons_succ, List.getElem_cons_zero, List.setIfInBounds_toArray, List.set_cons_zero, List.set_cons_succ]
            refine wpAnyH_take (i := 17) (v := ?v17m18) rfl (by kernel_rfl) (by kernel_rfl) (by kernel_rfl) (fun _ _ _ h => h) (Or.inl ⟨by rfl, ?hy17m18⟩) (by assumption) ?rest17m18
            case hy17m18 =>
              intro w hSw
              dsimp only [S2e] at hSw
              go_simp
              try with_reducible rfl
            simp only [Act.put, List.getElem_toArray, List.getElem_cons_succ, List.getElem_cons_zero, List.setIfInBounds_toArray, List.set_cons_zero, List.set_cons_succ]
            refine wpAnyH_done (by kernel_rfl) ?_ _
            refine NoPanic.normal ?_
            clear hS HSS CF CG
            go_wp2_with fail
            go_roundw
            case rel => exact ⟨k + 1, true, by go_num, rfl, NX.out _ D0.out⟩
            case measure => simp [intOf]; omega
          | false =>
            have HO2 : Hid (al (okF l r f) k = true) := by
              have h := HO.out
              unfold Hid
              cases e : al (okF l r f) k with
              | true => rfl
              | false => rw [e] at h; cases h
            cases t with
            | true =>
              have NX : Hid (∀ V, Below W4.heap.size W4 V → Hid (k + 1 ≤ n ∧ false = !(al (okF l r f) (k + 1)) ∧ Below w3.heap.size w3 V)) := fun V hV => by
                refine ⟨hlt, ?_, (S4.out V hV).2⟩
                rw [ALS.out, HO2.out, ST.out]; rfl
              refine wp_region_noPanic ?_
              refine wp_region_held_drew (S := (S2e ⟨z7, 1, none⟩ ⟨rb, ro + k, none⟩ (.slice ga cl gc) (.int .i64 x))) (by kernel_rfl) (by exact HSS.out _ (Below.refl _ _).drew) (fun hS => ?_)
              obtain ⟨WD, hWD⟩ : ∃ W, W4.drew = W := ⟨_, rfl⟩
              have D0 : Hid (Below W4.heap.size W4 WD) := by unfold Hid; rw [← hWD]; exact (Below.refl _ _).drew
              rw [hWD] at hS ⊢
              clear hWD
              refine wpAnyH_take (i := 0) (v := ?v0m19) rfl (by kernel_rfl) (by kernel_rfl) (by kernel_rfl) (fun _ _ _ h => h) (Or.inl ⟨by rfl, ?hy0m19⟩) (by assumption) ?rest0m19
              case hy0m19 =>
                intro w hSw
                dsimp only [S2e] at hSw
                go_simp
                try with_reducible rfl
              simp only [Act.put, List.getElem_toArray, List.getElem_cons_succ, List.getElem_cons_zero, List.setIfInBounds_toArray, List.set_cons_zero, List.set_cons_succ]
              refine wpAnyH_take (i := 1) (v := ?v1m20) rfl (by kernel_rfl) (by kernel_rfl) (by kernel_rfl) (fun _ _ _ h => h) (Or.inl ⟨by rfl, ?hy1m20⟩) (by assumption) ?rest1m20
              case hy1m20 =>
                intro w hSw
                dsimp only [S2e] at hSw
                go_simp
                try with_reducible rfl
              simp only [Act.put, List.getElem_toArray, List.getElem_cons_succ, List.getElem_cons_zero, List.setIfInBounds_toArray, List.set_cons_zero, List.set_cons_succ]
              refine wpAnyH_take (i := 2) (v := ?v2m21) rfl (by kernel_rfl) (by kernel_rfl) (by kernel_rfl) (fun _ _ _ h => h) (Or.inl ⟨by rfl, ?hy2m21⟩) (by assumption) ?rest2m21
              case hy2m21 =>
                intro w hSw
                dsimp only [S2e] at hSw
                go_simp
                try with_reducible rfl
              simp only [Act.put, List.getElem_toArray, List.getElem_cons_succ, List.getElem_cons_zero, List.setIfInBounds_toArray, List.set_cons_zero, List.set_cons_succ]
              refine wpAnyH_take (i := 3) (v := ?v3m22) rfl (by kernel_rfl) (by kernel_rfl) (by kernel_rfl) (fun _ _ _ h => h) (Or.inl ⟨by rfl, ?hy3m22⟩) (by assumption) ?rest3m22
              case hy3m22 =>
                intro w hSw
                dsimp only [S2e] at hSw
                go_simp
                try with_reducible rfl
              simp only [Act.put, List.getElem_toArray, List.getElem_cons_succ, List.getElem_cons_zero, List.setIfInBounds_toArray, List.set_cons_zero, List.set_cons_succ]
              refine wpAnyH_ready (rs := [4]) (by kernel_rfl) (by simp) ?_
              refine AllReadyH.cons rfl (fun K hK => ?_) AllReadyH.nil
              go_simp
              refine (CF.out WD D0.out).mono ?_
              rintro e1 w5 ⟨rfl, hw5⟩
              try go_simp
              subst hw5
              have hT := hS
              refine hK _ _ hT (fun _ => ?_)
              clear hK K hT
              try simp only [Act.put, List.setIfInBounds_toArray, List.set_cons_zero, List.set_cons_succ]
              refine wpAnyH_take (i := 5) (v := ?v5m23) rfl (by kernel_rfl) (by kernel_rfl) (by kernel_rfl) (fun _ _ _ h => h) (Or.inl ⟨by rfl, ?hy5m23⟩) (by assumption) ?rest5m23
              case hy5m23 =>
                intro w hSw
                dsimp only [S2e] at hSw
                go_simp
                try with_reducible rfl
              simp only [Act.put, List.getElem_toArray, List.getElem_cons_succ, List.getElem_cons_zero, List.setIfInBounds_toArray, List.set_cons_zero, List.set_cons_succ]
              refine wpAnyH_take (i := 6) (v := ?v6m24) rfl (by kernel_rfl) (by kernel_rfl) (by kernel_rfl) (fun _ _ _ h => h) (Or.inl ⟨by rfl, ?hy6m24⟩) (by assumption) ?rest6m24
              case hy6m24 =>
                intro w hSw
                dsimp only [S2e] at hSw
                go_simp
                try with_reducible rfl
              simp only [Act.put, List.getElem_toArray, List.getElem_cons_succ, List.getElem_cons_zero, List.setIfInBounds_toArray, List.set_cons_zero, List.set_cons_succ]
              refine wpAnyH_take (i := 7) (v := undef) rfl (by kernel_rfl) (by kernel_rfl) (by kernel_rfl) (fun _ _ _ h => h) (Or.inr ⟨by rfl, rfl⟩) (by assumption) ?rest7m25
              simp only [Act.put, List.getElem_toArray, List.getElem_cons_succ, List.getElem_cons_zero, List.setIfInBounds_toArray, List.set_cons_zero, List.set_cons_succ]
              refine wpAnyH_take (i := 8) (v := undef) rfl (by kernel_rfl) (by kernel_rfl) (by kernel_rfl) (fun _ _ _ h => h) (Or.inr ⟨by rfl, rfl⟩) (by assumption) ?rest8m26
              simp only [Act.put, List.getElem_toArray, List.getElem_cons_succ, List.getElem_cons_zero, List.setIfInBounds_toArray, List.set_cons_zero, List.set_cons_succ]
              refine wpAnyH_take (i := 9) (v := undef) rfl (by kernel_rfl) (by kernel_rfl) (by kernel_rfl) (fun _ _ _ h => h) (Or.inr ⟨by rfl, rfl⟩) (by assumption) ?rest9m27
              simp only [Act.put, List.getElem_toArray, List.getElem_cons_succ, List.getElem_cons_zero, List.setIfInBounds_toArray, List.set_cons_zero, List.set_cons_succ]
              refine wpAnyH_take (i := 10) (v := undef) rfl (by kernel_rfl) (by kernel_rfl) (by kernel_rfl) (fun _ _ _ h => h) (Or.inr ⟨by rfl, rfl⟩) (by assumption) ?rest10m28
              simp only [Act.put, List.getElem_toArray, List.getElem_cons_succ, List.getElem_cons_zero, List.setIfInBounds_toArray, List.set_cons_zero, List.set_cons_succ]
              refine wpAnyH_take (i := 11) (v := undef) rfl (by kernel_rfl) (by kernel_rfl) (by kernel_rfl) (fun _ _ _ h => h) (Or.inr ⟨by rfl, rfl⟩) (by assumption) ?rest11m29
              simp only [Act.put, List.getElem_toArray, List.getElem_cons_succ, List.getElem_cons_zero, List.setIfInBounds_toArray, List.set_cons_zero, List.set_cons_succ]
              refine wpAnyH_take (i := 12) (v := undef) rfl (by kernel_rfl) (by kernel_rfl) (by kernel_rfl) (fun _ _ _ h => h) (Or.inr ⟨by rfl, rfl⟩) (by assumption) ?rest12m30
              simp only [Act.put, List.getElem_toArray, List.getElem_cons_succ, List.getElem_cons_zero, List.setIfInBounds_toArray, List.set_cons_zero, List.set_cons_succ]
              refine wpAnyH_take (i := 13) (v := undef) rfl (by kernel_rfl) (by kernel_rfl) (by kernel_rfl) (fun _ _ _ h => h) (Or.inr ⟨by rfl, rfl⟩) (by assumption) ?rest13m31
              simp only [Act.put, List.getElem_toArray, List.getElem_cons_succ, List.getElem_cons_zero, List.setIfInBounds_toArray, List.set_cons_zero, List.set_cons_succ]
              refine wpAnyH_take (i := 14) (v := undef) rfl (by kernel_rfl) (by kernel_rfl) (by kernel_rfl) (fun _ _ _ h => h) (Or.inr ⟨by rfl, rfl⟩) (by assumption) ?rest14m32
              simp only [Act.put, List.getElem_toArray, List.getElem_cons_succ, List.getElem_cons_zero, List.setIfInBounds_toArray, List.set_cons_zero, List.set_cons_succ]
              refine wpAnyH_take (i := 15) (v := ?v15m33) rfl (by kernel_rfl) (by kernel_rfl) (by kernel_rfl) (fun _ _ _ h => h) (Or.inl ⟨by rfl, ?hy15m33⟩) (by assumption) ?rest15m33
              case hy15m33 =>
                intro w hSw
                dsimp only [S2e] at hSw
                go_simp
                try with_reducible rfl
              simp only [Act.put, List.getElem_toArray, List.getElem_cons_succ, List.getElem_cons_zero, List.setIfInBounds_toArray, List.set_cons_zero, List.set_cons_succ]
              refine wpAnyH_take (i := 16) (v := ?v16m34) rfl (by kernel_rfl) (by kernel_rfl) (by kernel_rfl) (fun _ _ _ h => h) (Or.inl ⟨by rfl, ?hy16m34⟩) (by assumption) ?rest16m34
              case hy16m34 =>
                intro w hSw
                dsimp only [S2e] at hSw
                go_simp
                try with_reducible rfl
              simp only [Act.put, List.getElem_toArray, List.getElem_cons_succ, List.getElem_cons_zero, List.setIfInBounds_toArray, List.set_cons_zero, List.set_cons_succ]
              refine wpAnyH_take (i := 17) (v := ?v17m35) rfl (by kernel_rfl) (by kernel_rfl) (by kernel_rfl) (fun _ _ _ h => h) (Or.inl ⟨by rfl, ?hy17m35⟩) (by assumption) ?rest17m35
              case hy17m35 =>
                intro w hSw
                dsimp only [S2e] at hSw
                go_simp
                try with_reducible rfl
              simp only [Act.put, List.getElem_toArray, List.getElem_cons_succ, List.getElem_cons_zero, List.setIfInBounds_toArray, List.set_cons_zero, List.set_cons_succ]
              refine wpAnyH_done (by kernel_rfl) ?_ _
              refine NoPanic.normal ?_
              clear hS HSS CF CG
              go_wp2_with fail
              go_roundw
              case rel => exact ⟨k + 1, false, by go_num, rfl, NX.out _ D0.out⟩
              case measure => simp [intOf]; omega
            | false =>
              have NX : Hid (∀ V, Below W4.heap.size W4 V → Hid (k + 1 ≤ n ∧ (!s) = !(al (okF l r f) (k + 1)) ∧ Below w3.heap.size w3 V)) := fun V hV => by
                refine ⟨hlt, ?_, (S4.out V hV).2⟩
                rw [ALS.out, HO2.out, ST.out]; rfl
              refine wp_region_noPanic ?_
              refine wp_region_held_drew (S := (S2e ⟨z7, 1, none⟩ ⟨rb, ro + k, none⟩ (.slice ga cl gc) (.int .i64 x))) (by kernel_rfl) (by exact HSS.out _ (Below.refl _ _).drew) (fun hS => ?_)
              obtain ⟨WD, hWD⟩ : ∃ W, W4.drew = W := ⟨_, rfl⟩
              have D0 : Hid (Below W4.heap.size W4 WD) := by unfold Hid; rw [← hWD]; exact (Below.refl _ _).drew
              rw [hWD] at hS ⊢
              clear hWD
              refine wpAnyH_take (i := 0) (v := ?v0m36) rfl (by kernel_rfl) (by kernel_rfl) (by kernel_rfl) (fun _ _ _ h => h) (Or.inl ⟨by rfl, ?hy0m36⟩) (by assumption) ?rest0m36
              case hy0m36 =>
                intro w hSw
                dsimp only [S2e] at hSw
                go_simp
                try with_reducible rfl
              simp only [Act.put, List.getElem_toArray, List.getElem_cons_succ, List.getElem_cons_zero, List.setIfInBounds_toArray, List.set_cons_zero, List.set_cons_succ]
              refine wpAnyH_take (i := 1) (v := ?v1m37) rfl (by kernel_rfl) (by kernel_rfl) (by kernel_rfl) (fun _ _ _ h => h) (Or.inl ⟨by rfl, ?hy1m37⟩) (by assumption) ?rest1m37
              case hy1m37 =>
                intro w hSw
                dsimp only [S2e] at hSw
                go_simp
                try with_reducible rfl
              simp only [Act.put, List.getElem_toArray, List.getElem_cons_succ, List.getElem_cons_zero, List.setIfInBounds_toArray, List.set_cons_zero, List.set_cons_succ]
              refine wpAnyH_take (i := 2) (v := ?v2m38) rfl (by kernel_rfl) (by kernel_rfl) (by kernel_rfl) (fun _ _ _ h => h) (Or.inl ⟨by rfl, ?hy2m38⟩) (by assumption) ?rest2m38
              case hy2m38 =>
                intro w hSw
                dsimp only [S2e] at hSw
                go_simp
                try with_reducible rfl
              simp only [Act.put, List.getElem_toArray, List.getElem_cons_succ, List.getElem_cons_zero, List.setIfInBounds_toArray, List.set_cons_zero, List.set_cons_succ]
              refine wpAnyH_take (i := 3) (v := ?v3m39) rfl (by kernel_rfl) (by kernel_rfl) (by kernel_rfl) (fun _ _ _ h => h) (Or.inl ⟨by rfl, ?hy3m39⟩) (by assumption) ?rest3m39
              case hy3m39 =>
                intro w hSw
                dsimp only [S2e] at hSw
                go_simp
                try with_reducible rfl
              simp only [Act.put, List.getElem_toArray, List.getElem_cons_succ, List.getElem_cons_zero, List.setIfInBounds_toArray, List.set_cons_zero, List.set_cons_succ]
              refine wpAnyH_ready (rs := [4]) (by kernel_rfl) (by simp) ?_
              refine AllReadyH.cons rfl (fun K hK => ?_) AllReadyH.nil
              go_simp
              refine (CF.out WD D0.out).mono ?_
              rintro e1 w5 ⟨rfl, hw5⟩
              try go_simp
              subst hw5
              have hT := hS
              refine hK _ _ hT (fun _ => ?_)
              clear hK K hT
              try simp only [Act.put, List.setIfInBounds_toArray, List.set_cons_zero, List.set_cons_succ]
              refine wpAnyH_take (i := 5) (v := ?v5m40) rfl (by kernel_rfl) (by kernel_rfl) (by kernel_rfl) (fun _ _ _ h => h) (Or.inl ⟨by rfl, ?hy5m40⟩) (by assumption) ?rest5m40
              case hy5m40 =>
                intro w hSw
                dsimp only [S2e] at hSw
                go_simp
                try with_reducible rfl
              simp only [Act.put, List.getElem_toArray, List.getElem_cons_succ, List.getElem_cons_zero, List.setIfInBounds_toArray, List.set_cons_zero, List.set_cons_succ]
              refine wpAnyH_take (i := 6) (v := ?v6m41) rfl (by kernel_rfl) (by kernel_rfl) (by kernel_rfl) (fun _ _ _ h => h) (Or.inl ⟨by rfl, ?hy6m41⟩) (by assumption) ?rest6m41
              case hy6m41 =>
                intro w hSw
                dsimp only [S2e] at hSw
                go_simp
                try with_reducible rfl
              simp only [Act.put, List.getElem_toArray, List.getElem_cons_succ, List.getElem_cons_zero, List.setIfInBounds_toArray, List.set_cons_zero, List.set_cons_succ]
              refine wpAnyH_take (i := 7) (v := ?v7m42) rfl (by kernel_rfl) (by kernel_rfl) (by kernel_rfl) (fun _ _ _ h => h) (Or.inl ⟨by rfl, ?hy7m42⟩) (by assumption) ?rest7m42
              case hy7m42 =>
                intro w hSw
                dsimp only [S2e] at hSw
                go_simp
                try with_reducible rfl
              simp only [Act.put, List.getElem_toArray, List.getElem_cons_succ, List.getElem_cons_zero, List.setIfInBounds_toArray, List.set_cons_zero, List.set_cons_succ]
              refine wpAnyH_take (i := 8) (v := ?v8m43) rfl (by kernel_rfl) (by kernel_rfl) (by kernel_rfl) (fun _ _ _ h => h) (Or.inl ⟨by rfl, ?hy8m43⟩) (by assumption) ?rest8m43
              case hy8m43 =>
                intro w hSw
                dsimp only [S2e] at hSw
                go_simp
                try with_reducible rfl
              simp only [Act.put, List.getElem_toArray, List.getElem_cons_succ, List.getElem_cons_zero, List.setIfInBounds_toArray, List.set_cons_zero, List.set_cons_succ]
              refine wpAnyH_take (i := 9) (v := ?v9m44) rfl (by kernel_rfl) (by kernel_rfl) (by kernel_rfl) (fun _ _ _ h => h) (Or.inl ⟨by rfl, ?hy9m44⟩) (by assumption) ?rest9m44
              case hy9m44 =>
                intro w hSw
                dsimp only [S2e] at hSw
                go_simp
                try with_reducible rfl
              simp only [Act.put, List.getElem_toArray, List.getElem_cons_succ, List.getElem_cons_zero, List.setIfInBounds_toArray, List.set_cons_zero, List.set_cons_succ]
              refine wpAnyH_take (i := 10) (v := ?v10m45) rfl (by kernel_rfl) (by kernel_rfl) (by kernel_rfl) (fun _ _ _ h => h) (Or.inl ⟨by rfl, ?hy10m45⟩) (by assumption) ?rest10m45
              case hy10m45 =>
                intro w hSw
                dsimp only [S2e] at hSw
                go_simp
                try with_reducible rfl
              simp only [Act.put, List.getElem_toArray, List.getElem_cons_succ, List.getElem_cons_zero, List.setIfInBounds_toArray, List.set_cons_zero, List.set_cons_succ]
              refine wpAnyH_take (i := 11) (v := ?v11m46) rfl (by kernel_rfl) (by kernel_rfl) (by kernel_rfl) (fun _ _ _ h => h) (Or.inl ⟨by rfl, ?hy11m46⟩) (by assumption) ?rest11m46
              case hy11m46 =>
                intro w hSw
                dsimp only [S2e] at hSw
                go_simp
                try with_reducible rfl
              simp only [Act.put, List.getElem_toArray, List.getElem_cons_succ, List.getElem_cons_zero, List.setIfInBounds_toArray, List.set_cons_zero, List.set_cons_succ]
              refine wpAnyH_take (i := 12) (v := ?v12m47) rfl (by kernel_rfl) (by kernel_rfl) (by kernel_rfl) (fun _ _ _ h => h) (Or.inl ⟨by rfl, ?hy12m47⟩) (by assumption) ?rest12m47
              case hy12m47 =>
                intro w hSw
                dsimp only [S2e] at hSw
                go_simp
                try with_reducible rfl
              simp only [Act.put, List.getElem_toArray, List.getElem_cons_succ, List.getElem_cons_zero, List.setIfInBounds_toArray, List.set_cons_zero, List.set_cons_succ]
              refine wpAnyH_ready (rs := [13]) (by kernel_rfl) (by simp) ?_
              refine AllReadyH.cons rfl (fun K hK => ?_) AllReadyH.nil
              go_simp
              refine (CG.out _ D0.out).mono ?_
              rintro e1 w5 ⟨rfl, hw5⟩
              try go_simp
              subst hw5
              have hT := hS
              refine hK _ _ hT (fun _ => ?_)
              clear hK K hT
              try simp only [Act.put, List.setIfInBounds_toArray, List.set_cons_zero, List.set_cons_succ]
              refine wpAnyH_take (i := 14) (v := ?v14m48) rfl (by kernel_rfl) (by kernel_rfl) (by kernel_rfl) (fun _ _ _ h => h) (Or.inl ⟨by rfl, ?hy14m48⟩) (by assumption) ?rest14m48
              case hy14m48 =>
                intro w hSw
                dsimp only [S2e] at hSw
                go_simp
                try with_reducible rfl
              simp only [Act.put, List.getElem_toArray, List.getElem_cons_succ, List.getElem_cons_zero, List.setIfInBounds_toArray, List.set_cons_zero, List.set_cons_succ]
              refine wpAnyH_take (i := 15) (v := ?v15m49) rfl (by kernel_rfl) (by kernel_rfl) (by kernel_rfl) (fun _ _ _ h => h) (Or.inl ⟨by rfl, ?hy15m49⟩) (by assumption) ?rest15m49
              case hy15m49 =>
                intro w hSw
                dsimp only [S2e] at hSw
                go_simp
                try with_reducible rfl
              simp only [Act.put, List.getElem_toArray, List.getElem_cons_succ, List.getElem_cons_zero, List.setIfInBounds_toArray, List.set_cons_zero, List.set_cons_succ]
              refine wpAnyH_take (i := 16) (v := ?v16m50) rfl (by kernel_rfl) (by kernel_rfl) (by kernel_rfl) (fun _ _ _ h => h) (Or.inl ⟨by rfl, ?hy16m50⟩) (by assumption) ?rest16m50
              case hy16m50 =>
                intro w hSw
                dsimp only [S2e] at hSw
                go_simp
                try with_reducible rfl
              simp only [Act.put, List.getElem_toArray, List.getElem_cons_succ, List.getElem_cons_zero, List.setIfInBounds_toArray, List.set_cons_zero, List.set_cons_succ]
              refine wpAnyH_take (i := 17) (v := ?v17m51) rfl (by kernel_rfl) (by kernel_rfl) (by kernel_rfl) (fun _ _ _ h => h) (Or.inl ⟨by rfl, ?hy17m51⟩) (by assumption) ?rest17m51
              case hy17m51 =>
                intro w hSw
                dsimp only [S2e] at hSw
                go_simp
                try with_reducible rfl
              simp only [Act.put, List.getElem_toArray, List.getElem_cons_succ, List.getElem_cons_zero, List.setIfInBounds_toArray, List.set_cons_zero, List.set_cons_succ]
              refine wpAnyH_done (by kernel_rfl) ?_ _
              refine NoPanic.normal ?_
              clear hS HSS CF CG
              go_wp2_with fail
              go_roundw
              case rel => exact ⟨k + 1, !s, by go_num, rfl, NX.out _ D0.out⟩
              case measure => simp [intOf]; omega
        · have hlt' : ¬ (k : Int) < (n : Int) := by omega
          have e : k = n := by omega
          subst e
          obtain ⟨wq, hwq⟩ : ∃ V : World, V = wr := ⟨_, rfl⟩
          subst hwq
          have RKq := Lib.hid (RK3.out.below hb)
          obtain ⟨ob, hob⟩ : ∃ o, al (okF l r f) k = o := ⟨_, rfl⟩
          have HOB := Lib.hid hob
          rw [hob] at ho
          subst ho
          clear hS hk hb hlt HO hob
          go_wp2_with fail
          go_loopw [11, 15, 64] (fun ov _ iv wr => ∃ (j : Nat) (o : Bool), iv = .int .i64 j ∧ ov = .bool o ∧ Hid (j ≤ kn ∧ o = !(ob && al (nbB l r f K) j) ∧ Below wq.heap.size wq wr)) (fun _ _ iv _ => kn - (intOf iv).toNat)
          case atStart => exact ⟨0, _, rfl, rfl, Nat.zero_le _, by simp [al], Below.refl _ _⟩
          case round =>
            obtain ⟨j, o, rfl, rfl, hS⟩ := hrel
            obtain ⟨hj, ho, hb⟩ := hS.out
            have HO := Lib.hid ho
            have HBB := Lib.hid hb
            have SJ : Hid (Below W1.heap.size W1 wr) := SR.out.trans (hb.mono SR.out.size)
            by_cases hlt : j < kn
            · have hlt' : (j : Int) < (kn : Int) := by omega
              have hj0 : (0 : Int) ≤ (j : Int) := by omega
              have hjK : j < K.length := by rw [HKN.out]; exact hlt
              obtain ⟨kb, ea, _, hkc⟩ := (RKq.out.below hb) (by omega)
              subst ea
              obtain ⟨x, hx⟩ : ∃ x, K[j]? = some x := ⟨K[j], List.getElem?_eq_getElem hjK⟩
              obtain ⟨c0, c1, hrx⟩ := hkc j x hx
              rw [stB_len, HN.out] at c1
              have HEL : Hid (elB K j = x.B) := by unfold Hid elB; rw [hx]; rfl
              obtain ⟨W4, hW4⟩ : ∃ V, wr.alloc (.cells #[.string ByteArray.empty, .slice x.a k x.c] 43) = V := ⟨_, rfl⟩
              have B4 : Hid (Below wr.heap.size wr W4) := by unfold Hid; rw [← hW4]; exact bel_one _ _
              have S4 : Hid (Below W1.heap.size W1 W4) := SJ.out.trans (B4.out.mono SJ.out.size)
              obtain ⟨z7, hz7⟩ : ∃ s, wr.heap.size = s := ⟨_, rfl⟩
              have y0 : W4.cell? ⟨z7, 0, none⟩ = some (.string ByteArray.empty) := by rw [← hW4, ← hz7, World.cell?_alloc_new]; rfl
              have y1 : W4.cell? ⟨z7, 1, none⟩ = some (.slice x.a k x.c) := by rw [← hW4, ← hz7, World.cell?_alloc_new]; rfl
              obtain ⟨v0, v1⟩ := X.out W4 S4.out
              have CI := in_c a c l a2 c2 m E ByteArray.empty x.a x.c x.B a3 c3 r fa fc f W4 (HLf.out W4 S4.out) HOK.out (hrx.below B4.out) (HRr.out W4 S4.out) HR0.out.1 (HFf.out W4 S4.out)
              rw [stB_len, HN.out, HRL.out, HQ.out] at CI
              have CI := Lib.hid CI
              have NB : Hid (nbB l r f K j = !(al (iQ l r f x.B) k)) := by unfold Hid nbB; rw [HEL.out, HN.out]
              obtain ⟨s, hs⟩ : ∃ s, al (iQ l r f x.B) k = s := ⟨_, rfl⟩
              rw [hs] at CI NB
              have ALS : Hid (al (nbB l r f K) (j + 1) = (al (nbB l r f K) j && nbB l r f K j)) := rfl
              obtain ⟨xa, hxa⟩ : ∃ v, x.a = v := ⟨_, rfl⟩
              obtain ⟨xc, hxc⟩ : ∃ v, x.c = v := ⟨_, rfl⟩
              rw [hxa, hxc] at CI c1 y1 hW4
              clear hS hj ho hb hkc hrx hx hs hxa hxc
              cases o with
              | true =>
                have NX : Hid (j + 1 ≤ kn ∧ true = !(ob && al (nbB l r f K) (j + 1)) ∧ Below wq.heap.size wq W4) := by
                  refine ⟨hlt, ?_, HBB.out.trans (B4.out.mono HBB.out.size)⟩
                  have h := HO.out
                  rw [ALS.out]
                  revert h
                  generalize al (nbB l r f K) j = A1
                  generalize nbB l r f K j = A2
                  cases ob <;> cases A1 <;> cases A2 <;> first | (intro _; rfl) | (intro h; cases h)
                clear CI
                go_wp2_with fail
                go_roundw
                case rel => exact ⟨j + 1, true, by go_num, rfl, NX.out⟩
                case measure => simp [intOf]; omega
              | false =>
                go_wp2_with fail
                refine CI.out.mono ?_
                rintro e1 w5 ⟨rfl, b5⟩
                have NX : Hid (j + 1 ≤ kn ∧ s = !(ob && al (nbB l r f K) (j + 1)) ∧ Below wq.heap.size wq w5) := by
                  have hb4 := HBB.out.trans (B4.out.mono HBB.out.size)
                  refine ⟨hlt, ?_, hb4.trans (b5.mono hb4.size)⟩
                  have h := HO.out
                  rw [ALS.out, NB.out]
                  revert h
                  generalize al (nbB l r f K) j = A1
                  cases ob <;> cases A1 <;> cases s <;> first | (intro _; rfl) | (intro h; cases h)
                clear CI b5
                go_wp2_with fail
                go_roundw
                case rel => exact ⟨j + 1, s, by go_num, rfl, NX.out⟩
                case measure => simp [intOf]; omega
            · have hlt' : ¬ (j : Int) < (kn : Int) := by omega
              have e : j = kn := by omega
              subst e
              have hres : Hid (o = !fb) := by
                unfold Hid
                rw [ho, FB.out, DL.out, HN.out, HOB.out, HKN.out]
              have hne : (fb != o) = true := by rw [hres.out]; cases fb <;> rfl
              have BF : Hid (Below w.heap.size w wr) := LW.out wr SJ.out
              clear hS hj ho hb hlt hres
              go_wp2_with fail
              go_ret
              exact ⟨by first | rfl | (simp; simpa using hne), by have := BF.out; rw [hzz] at this; exact this⟩
    · have g2 : (fs != 0) = true := by simpa using hfs0
      clear hfs0
      go_wp2_with fail
      go_ret
      exact ⟨rfl, LW.out w3 S3.out⟩
end Go.Proofs.YtadfmplafehjlaaDoor
