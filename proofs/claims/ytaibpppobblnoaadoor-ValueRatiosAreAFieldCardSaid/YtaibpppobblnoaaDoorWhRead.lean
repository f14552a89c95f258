/-
  Reading decimal texts of numbers of any size: readChunk.
-/
import Derived.Test.YtaibpppobblnoaaDoorWhReadM
import Derived.Test.YtaibpppobblnoaaDoorWhTextB
import Derived.Lib.Bytealg
namespace Go.Proofs.YtaibpppobblnoaaDoor
open Go.RowKit

theorem list_at (t : ByteArray) (j : Nat) (hj : j < t.size) : t.data.toList[j]? = some t[j] := by
  have h2 : j < t.data.size := hj
  simp only [Array.getElem?_toList, Array.getElem?_eq_getElem h2]
  rfl
set_option maxRecDepth 100000 in
set_option maxHeartbeats 1000000 in
theorem readChunk_c (t : ByteArray) (w : World) (hl : t.size ≤ 19) :
    Calls Tryd.prog 31 #[.string t] w fun e w' => ∃ v : Nat, e = .returned (.tuple #[.int .u64 (v : Int), .bool (digs t.data.toList)]) ∧ (digs t.data.toList = true → v = val t.data.toList) ∧ v < 18446744073709551616 ∧ w = w' := by
  obtain ⟨l, hL⟩ : ∃ l, t.data.toList = l := ⟨_, rfl⟩
  have hlen : l.length = t.size := by rw [← hL]; simp
  have HL := Lib.hid hL
  have HLEN := Lib.hid hlen
  rw [hL]
  clear hL hlen
  go_enter Tryd.func31, Tryd.ntmps31
  go_wp2
  go_loop [4, 8] (fun v i => ∃ (j m : Nat), j ≤ t.size ∧ i = .int .i64 j ∧ v = .int .u64 m ∧ m < 10000000000000000000 ∧ Hid (m = val (l.take j) ∧ digs (l.take j) = true)) (fun _ i => t.size - (intOf i).toNat)
  case atStart => exact ⟨0, 0, Nat.zero_le _, rfl, rfl, by omega, rfl, rfl⟩
  case round =>
    obtain ⟨j, m, hj, rfl, rfl, hm, hR⟩ := hrel
    by_cases hlt : j < t.size
    · have hlt' : (j : Int) < (t.size : Int) := by omega
      have hel := list_at t j hlt
      have hel2 : l[j]? = some t[j] := by rw [← HL.out]; exact hel
      have htk : l.take (j + 1) = l.take j ++ [t[j]] := by rw [List.take_add_one, hel2]; rfl
      have hmem : t[j] ∈ l := List.mem_of_getElem? hel2
      have hm18 : m < 1000000000000000000 := by
        have h1 := val_lt hR.out.2
        rw [← hR.out.1] at h1
        have h2 : (l.take j).length ≤ 18 := by rw [List.length_take]; omega
        have h3 : 10 ^ (l.take j).length ≤ 10 ^ 18 := Nat.pow_le_pow_right (by decide) h2
        omega
      by_cases hd : isDig t[j] = true
      · have hdi := isDig_iff.1 hd
        have NX : Hid (m * 10 + (t[j].toNat - 48) = val (l.take (j + 1)) ∧ digs (l.take (j + 1)) = true) := by
          refine ⟨by rw [htk, val_snoc, ← hR.out.1], ?_⟩
          rw [htk, digs_append, hR.out.2]
          simp [digs, hd]
        have x1 : (48 : Int) ≤ (t[j].toNat : Int) := by omega
        have x2 : (t[j].toNat : Int) ≤ 57 := by omega
        have x3 : ¬ (t[j].toNat : Int) < 48 := by omega
        have x4 : ¬ (57 : Int) < (t[j].toNat : Int) := by omega
        have hcast : ((m * 10 + (t[j].toNat - 48) : Nat) : Int) = (m : Int) * 10 + ((t[j].toNat : Int) - 48) := by omega
        have HCAST := Lib.hid hcast
        clear hel hel2 htk hmem hd hdi hcast hR
        go_wp2
        go_round
        case rel => exact ⟨j + 1, m * 10 + (t[j].toNat - 48), by omega, by go_num, by rw [HCAST.out], by omega, NX.out⟩
        case measure => simp [intOf]; omega
      · have E : Hid (digs l = false) := by
          unfold Hid digs
          rw [Bool.eq_false_iff]
          intro h
          exact hd (List.all_eq_true.1 h _ hmem)
        have hd2 : t[j].toNat < 48 ∨ 57 < t[j].toNat := by
          rcases Nat.lt_or_ge t[j].toNat 48 with h | h
          · exact .inl h
          · rcases Nat.lt_or_ge 57 t[j].toNat with h2 | h2
            · exact .inr h2
            · exact absurd (isDig_iff.2 ⟨h, h2⟩) hd
        clear hel hel2 htk hmem hd hR
        rcases hd2 with h | h
        · have x3 : (t[j].toNat : Int) < 48 := by omega
          go_wp2
          go_ret2
          exact ⟨0, by rw [E.out]; rfl, (fun h => absurd h (by rw [E.out]; decide)), by decide, rfl⟩
        · have x3 : ¬ (t[j].toNat : Int) < 48 := by omega
          have x4 : (57 : Int) < (t[j].toNat : Int) := by omega
          go_wp2
          go_ret2
          exact ⟨0, by rw [E.out]; rfl, (fun h => absurd h (by rw [E.out]; decide)), by decide, rfl⟩
    · obtain rfl : j = t.size := by omega
      have E : Hid (m = val l ∧ digs l = true) := by
        have h := hR.out
        rw [List.take_of_length_le (by rw [HLEN.out]; omega)] at h
        exact h
      clear hR hlt
      go_wp2
      go_ret2
      exact ⟨m, by rw [E.out.2]; rfl, (fun _ => E.out.1), by omega, rfl⟩
end Go.Proofs.YtaibpppobblnoaaDoor
