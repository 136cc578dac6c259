/-
  The document's xor of 64 bits (stanchionref18), by contract. 
-/
import Derived.Test.YtcandokefhbneaaHaMath
import Derived.Test.YtcandokefhbneaaBase
namespace Go.Proofs.Ytcandokefhbneaa
open Go.RowKit
theorem haXorLow (a b : Nat) : (a ^^^ b) % 2 = (a + b) % 2 := by
  have h := Nat.xor_mod_two_pow (a := a) (b := b) (n := 1)
  rw [Nat.pow_one] at h
  rw [h]
  have h1 : a % 2 = 0 ∨ a % 2 = 1 := by omega
  have h2 : b % 2 = 0 ∨ b % 2 = 1 := by omega
  rcases h1 with e | e <;> rcases h2 with f | f <;> rw [e, f] <;> simp <;> omega
theorem haXorBit (a b i : Nat) : 2 * ((a ^^^ b) / 2 ^ (i + 1)) + (a / 2 ^ i + b / 2 ^ i) % 2 = (a ^^^ b) / 2 ^ i := by
  have e : (a ^^^ b) / 2 ^ (i + 1) = (a ^^^ b) / 2 ^ i / 2 := by rw [Nat.pow_succ, Nat.div_div_eq_div_mul]
  have e2 : (a ^^^ b) / 2 ^ i = (a / 2 ^ i) ^^^ (b / 2 ^ i) := by
    have := @Nat.shiftRight_xor_distrib i a b
    simpa only [Nat.shiftRight_eq_div_pow] using this
  have := haXorLow (a / 2 ^ i) (b / 2 ^ i)
  rw [e, e2]
  omega
theorem haXor_round (a b m s j : Nat) (hm : m = a ^^^ b) (hlt : a ^^^ b < 18446744073709551616) (hs : s = m / 2 ^ (j + 1)) :
    IntKind.u64.wrap (IntKind.u64.wrap (2 * (s : Int)) + (IntKind.u64.wrap (((a : Int) / 2 ^ j).tmod 2 + ((b : Int) / 2 ^ j).tmod 2)).tmod 2) = ((m / 2 ^ j : Nat) : Int) := by
  have h := haXorBit a b j
  rw [← hm] at h hlt
  have h2 : s ≤ m / 2 := by rw [hs, Nat.pow_succ, Nat.mul_comm, ← Nat.div_div_eq_div_mul]; exact Nat.div_le_self _ _
  rw [← hs] at h
  have e1 : ((a : Int) / 2 ^ j).tmod 2 = ((a / 2 ^ j % 2 : Nat) : Int) := by
    rw [show (a : Int) / 2 ^ j = ((a / 2 ^ j : Nat) : Int) by simp]
    rfl
  have e2 : ((b : Int) / 2 ^ j).tmod 2 = ((b / 2 ^ j % 2 : Nat) : Int) := by
    rw [show (b : Int) / 2 ^ j = ((b / 2 ^ j : Nat) : Int) by simp]
    rfl
  rw [e1, e2]
  generalize a / 2 ^ j = p at *
  generalize b / 2 ^ j = q at *
  have hb1 : p % 2 < 2 := Nat.mod_lt _ (by decide)
  have hb2 : q % 2 < 2 := Nat.mod_lt _ (by decide)
  have hx : (p % 2 + q % 2) % 2 = (p + q) % 2 := by omega
  have e3 : IntKind.u64.wrap (((p % 2 : Nat) : Int) + ((q % 2 : Nat) : Int)) = ((p % 2 + q % 2 : Nat) : Int) := by
    rw [IntWalk.u64_in _ ⟨by omega, by omega⟩]; omega
  rw [e3, show (((p % 2 + q % 2 : Nat) : Int)).tmod 2 = (((p % 2 + q % 2) % 2 : Nat) : Int) from rfl, hx]
  have e4 : IntKind.u64.wrap (2 * (s : Int)) = ((2 * s : Nat) : Int) := by
    rw [IntWalk.u64_in _ ⟨by omega, by omega⟩]; omega
  have hmj : m / 2 ^ j ≤ m := Nat.div_le_self _ _
  have hy : (p + q) % 2 < 2 := Nat.mod_lt _ (by decide)
  rw [e4, IntWalk.u64_in _ ⟨by omega, by omega⟩]
  omega
set_option maxRecDepth 100000 in
set_option maxHeartbeats 1000000 in
theorem haXor_any (a b : Nat) (w : World) (ha : a < 18446744073709551616) (hb : b < 18446744073709551616) :
    Calls Try.prog 16 #[.int .u64 a, .int .u64 b] w fun e w' => e = .returned (.int .u64 (a ^^^ b : Nat)) ∧ w = w' := by
  have hab : a ^^^ b < 18446744073709551616 := xor_lt ha hb
  have Ha := Kept.mk ha
  have Hb := Kept.mk hb
  have Hab := Kept.mk hab
  clear ha hb hab
  obtain ⟨m, hm⟩ : ∃ m, m = a ^^^ b := ⟨_, rfl⟩
  have Hm := Lib.hid hm
  rw [← hm]
  clear hm
  go_enter Try.func16, Try.ntmps16
  go_wp2_with fail
  go_loop [5, 6] (fun x i => ∃ k s : Nat, k ≤ 64 ∧ i = .int .i64 ((k : Int) - 1) ∧ x = .int .u64 (s : Int) ∧ s = m / 2 ^ k) (fun _ i => (intOf i + 1).toNat)
  case atStart => exact ⟨64, 0, by omega, rfl, rfl, by rw [Hm.out]; exact (Nat.div_eq_of_lt Hab.out).symm⟩
  case round =>
    obtain ⟨k, s, hk, rfl, rfl, hs⟩ := hrel
    have Hs := Lib.hid hs
    clear hs
    by_cases hk0 : 0 < k
    · obtain ⟨j, rfl⟩ : ∃ j, k = j + 1 := ⟨k - 1, by omega⟩
      go_wp2_with fail
      go_round
      case rel =>
        refine ⟨j, m / 2 ^ j, by omega, rfl, ?_, rfl⟩
        rw [haXor_round a b m s j Hm.out Hab.out Hs.out]
      case measure => simp [intOf]
    · have : k = 0 := by omega
      subst this
      have e := Hs.out
      rw [Nat.pow_zero, Nat.div_one] at e
      subst e
      go_wp2_with fail
      go_ret
      exact ⟨rfl, rfl⟩

end Go.Proofs.Ytcandokefhbneaa
