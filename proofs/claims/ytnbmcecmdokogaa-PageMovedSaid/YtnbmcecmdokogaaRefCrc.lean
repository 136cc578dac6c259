/-
  The document's own sum of bytes (stanchionref02), by contract.
-/
import Derived.Test.YtnbmcecmdokogaaCrcP
namespace Go.Proofs.Ytnbmcecmdokogaa
open Go.RowKit
theorem crcRefXor_round (a b m s j : Nat) (hm : m = a ^^^ b) (hlt : a ^^^ b < 4294967296) (hs : s = m / 2 ^ (j + 1)) :
    2 * (s : Int) % 4294967296 + ((a : Int) / 2 ^ j + (b : Int) / 2 ^ j) % 2 = ((m / 2 ^ j : Nat) : Int) := by
  have h := xorBit a b j
  rw [← hm] at h hlt
  have h2 : s ≤ m / 2 := by rw [hs, Nat.pow_succ, Nat.mul_comm, ← Nat.div_div_eq_div_mul]; exact Nat.div_le_self _ _
  rw [← hs] at h
  have e1 : (a : Int) / 2 ^ j = ((a / 2 ^ j : Nat) : Int) := by simp
  have e2 : (b : Int) / 2 ^ j = ((b / 2 ^ j : Nat) : Int) := by simp
  rw [e1, e2]
  omega
set_option maxHeartbeats 400000 in
theorem crcRefXor_any (a b : Nat) (w : World) (ha : a < 4294967296) (hb : b < 4294967296) :
    Calls Try.prog 33 #[.int .u32 a, .int .u32 b] w fun e w' => e = .returned (.int .u32 (a ^^^ b : Nat)) ∧ w = w' := by
  have hab : a ^^^ b < 4294967296 := Nat.xor_lt_two_pow (n := 32) ha hb
  have Ha := Kept.mk ha
  have Hb := Kept.mk hb
  have Hab := Kept.mk hab
  clear ha hb hab
  obtain ⟨m, hm⟩ : ∃ m, m = a ^^^ b := ⟨_, rfl⟩
  have Hm := Lib.hid hm
  rw [← hm]
  clear hm
  go_enter Try.func33, Try.ntmps33
  go_wp2_with fail
  go_loop [5, 6] (fun x i => ∃ k s : Nat, k ≤ 32 ∧ i = .int .i64 ((k : Int) - 1) ∧ x = .int .u32 (s : Int) ∧ s = m / 2 ^ k) (fun _ i => (intOf i + 1).toNat)
  case atStart => exact ⟨32, 0, by omega, rfl, rfl, by rw [Hm.out]; exact (Nat.div_eq_of_lt Hab.out).symm⟩
  case round =>
    obtain ⟨k, s, hk, rfl, rfl, hs⟩ := hrel
    have Hs := Lib.hid hs
    clear hs
    by_cases hk0 : 0 < k
    · obtain ⟨j, rfl⟩ : ∃ j, k = j + 1 := ⟨k - 1, by omega⟩
      go_wp2_with fail
      go_round
      case rel =>
        refine ⟨j, m / 2 ^ j, by omega, rfl, ?_, rfl⟩
        rw [crcRefXor_round a b m s j Hm.out Hab.out Hs.out]
      case measure => simp [intOf]
    · have : k = 0 := by omega
      subst this
      have e := Hs.out
      rw [Nat.pow_zero, Nat.div_one] at e
      subst e
      go_wp2_with fail
      go_ret
      exact ⟨rfl, rfl⟩

theorem crcRefXor_low (s : Nat) (x : UInt8) (w : World) : ∃ q : Nat, q < 256 ∧ s - s % 256 + q = s ^^^ x.toNat ∧
    Calls Try.prog 33 #[.int .u32 ((s : Int) % 256), .int .u32 (x.toNat : Int)] w fun e w' => e = .returned (.int .u32 (q : Int)) ∧ w = w' := by
  have hx := x.toNat_lt
  refine ⟨s % 256 ^^^ x.toNat, Nat.xor_lt_two_pow (n := 8) (by omega) (by omega), crcLow s x.toNat (by omega), ?_⟩
  rw [show (s : Int) % 256 = ((s % 256 : Nat) : Int) by omega]
  exact crcRefXor_any _ _ w (by omega) (by omega)
theorem crcRefXor_half (s : Nat) (hs : s < 4294967296) (ho : s % 2 = 1) (w : World) :
    Calls Try.prog 33 #[.int .u32 ((s : Int) / 2), .int .u32 2197175160] w fun e w' => e = .returned (.int .u32 (crcStep s : Nat)) ∧ w = w' := by
  rw [show (s : Int) / 2 = ((s / 2 : Nat) : Int) by omega, show (2197175160 : Int) = ((2197175160 : Nat) : Int) from rfl]
  have h := crcRefXor_any (s / 2) 2197175160 w (by omega) (by omega)
  unfold crcStep
  rw [if_pos ho]
  exact h
set_option maxHeartbeats 400000 in
theorem crcRefSum_any (A : Option Addr) (c : Nat) (l : List UInt8) (w : World) (B : Nat) (hr : Rd w B (.slice A l.length c) (cellsB l)) :
    Calls Try.prog 27 #[.slice A l.length c] w fun e w' => e = .returned (.int .u32 (crcOf l : Nat)) ∧ w = w' := by
  obtain ⟨_, _, e, g1, g2, _⟩ := hr.bytes
  injection e with e1 e2 e3
  subst e3
  clear e1 e2
  go_enter Try.func27, Try.ntmps27
  go_wp2_with fail
  go_loop [3, 4] (fun nv i => ∃ j s : Nat, j ≤ l.length ∧ i = .int .i64 j ∧ nv = .int .u32 (s : Int) ∧ s = crcFold 4294967295 (l.take j)) (fun _ i => l.length - (intOf i).toNat)
  case atStart => exact ⟨0, 4294967295, Nat.zero_le _, rfl, rfl, rfl⟩
  case round =>
    obtain ⟨j, s, hj, rfl, rfl, hs⟩ := hrel
    have hlt : s < 4294967296 := by rw [hs]; exact crcFold_lt _ _ (by omega)
    have Hs := Lib.hid hs
    have Hlt := Kept.mk hlt
    clear hs
    by_cases hjl : j < l.length
    · obtain ⟨b2, o2, rfl, hb2, hc2⟩ := hr.addr (by omega)
      have hcell := hc2 j hjl
      obtain ⟨x, hx⟩ : ∃ x, x = l[j] := ⟨_, rfl⟩
      have hsn : l.take (j + 1) = l.take j ++ [x] := by rw [hx]; exact List.take_succ_eq_append_getElem hjl
      rw [← hx] at hcell
      have Hsn := Lib.hid hsn
      clear hx hsn hc2
      have hx1 : (x.toNat : Int) < 256 := by have := x.toNat_lt; omega
      obtain ⟨q, hq, hqe, hlow⟩ := crcRefXor_low s x w
      have Hlow := Lib.hid hlow
      have Hqe := Lib.hid hqe
      clear hlow hqe
      go_wp2_with (go_at_call 33; refine Hlow.out.mono ?_; rintro e w' ⟨rfl, rfl⟩)
      have hm := crcXor_lt s x Hlt.out
      obtain ⟨m, em⟩ : ∃ m, m = s ^^^ x.toNat := ⟨_, rfl⟩
      have e0 : (s : Int) - (s : Int) % 256 + q = (m : Int) := by have := Hqe.out; omega
      rw [← em] at hm
      have Hm := Kept.mk hm
      have Em := Lib.hid em
      have E0 := Lib.hid e0
      clear hm em e0 hx1 hq
      go_loop [3, 5] (fun nv i => ∃ k t : Nat, k ≤ 8 ∧ i = .int .i64 k ∧ nv = .int .u32 (t : Int) ∧ t = crcSteps k m) (fun _ i => 8 - (intOf i).toNat)
      case atStart => exact ⟨0, m, Nat.zero_le _, rfl, by rw [E0.out], rfl⟩
      case round =>
        obtain ⟨k, t, hk, rfl, rfl, ht⟩ := hrel
        have htl : t < 4294967296 := by rw [ht]; exact crcSteps_lt k m Hm.out
        have Ht := Lib.hid ht
        clear ht hlt
        by_cases hk8 : k < 8
        · rcases Nat.mod_two_eq_zero_or_one t with ho | ho
          · have hstep := Lib.hid (crcStep_even t ho)
            have hb : (t : Int) % 2 = 0 := by omega
            clear ho
            go_wp2_with fail
            go_round
            case rel => exact ⟨k + 1, crcStep t, by omega, by go_num, by rw [hstep.out], by rw [crcSteps_succ, ← Ht.out]⟩
            case measure => simp [intOf]; omega
          · have hcall := Lib.hid (crcRefXor_half t htl ho w)
            have hb : (t : Int) % 2 = 1 := by omega
            clear ho
            go_wp2_with (go_at_call 33; refine hcall.out.mono ?_; rintro e w' ⟨rfl, rfl⟩)
            go_round
            case rel => exact ⟨k + 1, crcStep t, by omega, by go_num, rfl, by rw [crcSteps_succ, ← Ht.out]⟩
            case measure => simp [intOf]; omega
        · have : k = 8 := by omega
          subst this
          go_wp2_with fail
          go_round
          case rel => exact ⟨j + 1, t, by omega, by go_num, rfl, by rw [Hsn.out, crcFold_snoc, ← Hs.out, Ht.out, Em.out]; rfl⟩
          case measure => simp [intOf]; omega
    · have : j = l.length := by omega
      subst this
      clear hlt
      go_wp2_with fail
      go_ret
      refine ⟨?_, rfl⟩
      have e := Hs.out
      rw [List.take_length] at e
      have h := Hlt.out
      show Ending.returned (.int .u32 ((4294967295 - (s : Int)) % 4294967296)) = _
      rw [show (4294967295 - (s : Int)) % 4294967296 = ((4294967295 - s : Nat) : Int) by omega]
      unfold crcOf
      rw [← e]
end Go.Proofs.Ytnbmcecmdokogaa
