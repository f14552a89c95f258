/-
  Decimal texts of numbers of any size: appendChunk.
-/
import Derived.Test.YtaibpppobblnoaaDoorWhTextM
import Derived.Test.YtaibpppobblnoaaDoorWhFrac
import Derived.OwnWalk
namespace Go.Proofs.YtaibpppobblnoaaDoor
open Go.RowKit

def bvals (l : List UInt8) : List Value := l.map fun x => Value.int .u8 (x.toNat : Int)
theorem bvals_append (a b : List UInt8) : bvals (a ++ b) = bvals a ++ bvals b := by unfold bvals; rw [List.map_append]
theorem bvals_length (a : List UInt8) : (bvals a).length = a.length := by unfold bvals; simp
/-- The first digits of a chunk. -/
def cdig (n k : Nat) : List UInt8 := (List.range k).map fun i => UInt8.ofNat (48 + n / pw i % 10)
theorem cdig_succ (n k : Nat) : cdig n (k + 1) = cdig n k ++ [UInt8.ofNat (48 + n / pw k % 10)] := by unfold cdig; rw [List.range_succ, List.map_append]; rfl
theorem cdig_length (n k : Nat) : (cdig n k).length = k := by simp [cdig]
theorem cdig_padL (n : Nat) : cdig n 19 = padL 19 n := by
  unfold cdig padL
  refine List.map_congr_left fun i hi => ?_
  have hi := List.mem_range.1 hi
  rw [pw_eq (by omega), show 19 - 1 - i = 18 - i by omega]
/-- A row of bytes of the call's own. -/
structure Byt (B : Nat) (w0 : World) (l : List UInt8) (v : Value) (w : World) : Prop where
  row : w.ownsRow B 5 1 v l.length (bvals l)
  bel : Below B w0 w
  size : B ≤ w.heap.size
theorem Byt.more {B : Nat} {w0 w w' : World} {l : List UInt8} {v v' : Value} (h : Byt B w0 l v w) (x : UInt8) (hown : w'.ownsRow B 5 1 v' (l.length + 1) (bvals l ++ [.int .u8 (x.toNat : Int)])) (o : Obj) (hg : (w.alloc o).grownBy w' v.ownBlock) : Byt B w0 (l ++ [x]) v' w' := by
  have hb := (h.bel.alloc h.size o).grown hg (by simp; have := h.size; omega) (fun b hb => (World.ownsRow.lt (h.row.alloc o) b hb).1)
  refine ⟨?_, hb, Nat.le_trans (Nat.le_trans h.size (by simp)) hg.size⟩
  rw [bvals_append, List.length_append]
  exact hown
theorem infoB : (Tryd.prog.info? 5).map (fun i => (i.zero, i.size, i.bytes)) = some (some (.int .u8 0), 1, 1) := by kernel_rfl
theorem info_byte : ∃ i, Tryd.prog.info? 5 = some i ∧ i.zero = some (.int .u8 0) ∧ i.size = 1 ∧ i.bytes = 1 := by
  have h := infoB
  cases e : Tryd.prog.info? 5 with
  | none => rw [e] at h; cases h
  | some i => rw [e] at h; simp at h; exact ⟨i, rfl, h⟩
set_option maxRecDepth 100000 in
set_option maxHeartbeats 1000000 in
theorem appendChunk_c (v : Value) (n B : Nat) (l : List UInt8) (w0 w : World) (hn : n < 10000000000000000000) (hl : l.length ≤ 200000) (hv : Byt B w0 l v w) :
    Calls Tryd.prog 37 #[v, .int .u64 n] w fun e w' => ∃ v', e = .returned v' ∧ Byt B w0 (l ++ padL 19 n) v' w' := by
  obtain ⟨i0, hi, hz0, hz1, hz2⟩ := info_byte
  have HN := Lib.hid hn
  have H0 : Hid (Byt B w0 (l ++ cdig n 0) v w) := by
    have e : l ++ cdig n 0 = l := by simp [cdig]
    unfold Hid; rw [e]; exact hv
  have HL := Lib.hid hl
  clear hn hv hl
  go_enter Tryd.func37, Tryd.ntmps37
  go_wp2
  go_loopw [0, 5] (fun v p wr => ∃ i : Nat, i ≤ 19 ∧ p = .int .u64 (pw i) ∧ Hid (Byt B w0 (l ++ cdig n i) v wr)) (fun _ p _ => (intOf p).toNat)
  case atStart => exact ⟨0, by omega, rfl, H0⟩
  case round =>
    obtain ⟨i, hi19, rfl, hC⟩ := hrel
    by_cases hlt : i < 19
    · have hp : 0 < pw i := by rw [pw_eq (by omega)]; exact Nat.pow_pos (by decide)
      have hp' : (0 : Int) < (pw i : Int) := by omega
      have hpb := pw_le i
      have hs := Lib.hid (pw_succ i)
      have hps := Lib.hid (cdig_succ n i)
      have hdt := Lib.hid (digit_toNat (d := n / pw i % 10) (Nat.mod_lt _ (by decide)))
      obtain ⟨q, hq⟩ : ∃ q, n / pw i = q := ⟨_, rfl⟩
      obtain ⟨p2, hp2⟩ : ∃ p, pw i / 10 = p := ⟨_, rfl⟩
      have hqb : q < 18446744073709551616 := by rw [← hq]; have := Nat.div_le_self n (pw i); have := HN.out; omega
      have e1 : (n : Int) / (pw i : Int) = (q : Int) := div_cast hq
      have w1 : IntKind.u64.wrap (q : Int) = (q : Int) := wrap_lt hqb
      have e2 : (pw i : Int) / 10 = (p2 : Int) := by rw [← hp2, Int.natCast_ediv]; rfl
      have w2 : IntKind.u64.wrap (p2 : Int) = (p2 : Int) := wrap_lt (by omega)
      have HP2 : Hid (p2 < pw i) := by unfold Hid; rw [← hp2]; exact Nat.div_lt_self hp (by decide)
      rw [hq] at hps hdt
      rw [hp2] at hs
      obtain ⟨d, hd⟩ : ∃ d, q % 10 = d := ⟨_, rfl⟩
      have hd10 : d < 10 := by rw [← hd]; exact Nat.mod_lt _ (by decide)
      have e3 : (q : Int) % 10 = (d : Int) := by rw [← hd, Int.natCast_emod]; rfl
      rw [hd] at hps hdt
      clear hq hp2 hd
      have hlen : (l ++ cdig n i).length = l.length + i := by rw [List.length_append, cdig_length]
      have HLEN := Lib.hid hlen
      clear hlen
      generalize pw i = p at *
      go_wp2_with (at_builtin; refine wpList_append_own _ rfl _ _ 68 rfl B 5 i0 (.int .u8 0) 1 1 Tryd.underlying68 hi hz0 hz1 hz2 rfl (by decide) _ _ _ rfl (hC.out.row.alloc _) ⟨wr.heap.size, 0, none⟩ 1 1 [.int .u8 (48 + (d : Int))] rfl rfl ?c1 ?c2 ?c3 ?c4 ?c5 ?_)
      case c1 =>
        intro j u hj
        match j, hj with
        | 0, hj => simp at hj; subst hj; simp [Addr.add]
      case c2 => intro u hu; simp at hu; subst hu; rfl
      case c3 => have := HLEN.out; have := HL.out; unfold maxLen; omega
      case c4 => have := HLEN.out; have := HL.out; omega
      case c5 => have := hC.out.size; simp; omega
      intro v' w1 hown' hgrow _
      have hC' : Hid (Byt B w0 (l ++ cdig n (i + 1)) v' w1) := by
        unfold Hid
        rw [hps.out, ← List.append_assoc]
        refine hC.out.more _ ?_ _ hgrow
        rw [hdt.out, show ((48 + d : Nat) : Int) = 48 + (d : Int) by omega, List.length_append]
        exact hown'
      clear hown' hgrow hC
      go_wp2
      go_roundw
      case rel => exact ⟨i + 1, by omega, by rw [hs.out], hC'.out⟩
      case measure => simp [intOf]; have := HP2.out; omega
    · obtain rfl : i = 19 := by omega
      rw [pw_end]
      go_wp2
      go_ret
      exact ⟨_, rfl, by rw [← cdig_padL]; exact hC.out⟩
end Go.Proofs.YtaibpppobblnoaaDoor
