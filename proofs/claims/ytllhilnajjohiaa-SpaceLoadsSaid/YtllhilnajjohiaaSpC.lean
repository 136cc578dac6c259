/-
  A set of pages: what is behind the greatest, how many: contracts.
-/
import Derived.Test.YtllhilnajjohiaaSpB
namespace Go.Proofs.Ytllhilnajjohiaa
open Go.RowKit
set_option maxRecDepth 100000 in
theorem setreach_any {w : World} {g o : Nat} {f : Nat → Bool} (h : SetAt w g o f) (h0 : ∀ i, 1600 ≤ i → f i = false) :
    Calls Try.prog 39 #[ptrAt g o] w fun e w' => ∃ m : Nat, e = .returned (.int .i64 (m : Int)) ∧ m ≤ 1600 ∧ ReachTo f m ∧ w = w' := by
  have H0 := Lib.hid h0
  clear h0
  go_enter Try.func39, Try.ntmps39
  go_wp2_with fail
  go_loop [3] (fun i => ∃ k : Nat, k ≤ 200 ∧ i = .int .i64 ((k : Int) - 1) ∧ Hid (∀ i, 8 * k ≤ i → f i = false)) (fun i => (intOf i + 1).toNat)
  case atStart => exact ⟨200, by omega, rfl, Lib.hid H0.out⟩
  case round =>
    obtain ⟨k, hk, rfl, ha⟩ := hrel
    rcases k with _ | k
    · have e1 : decide ((0 : Int) ≤ ((0 : Nat) : Int) - 1) = false := by decide
      go_wp2_with fail
      go_ret
      exact ⟨0, rfl, by omega, ⟨fun i _ => ha.out i (by omega), fun h => absurd rfl h⟩, rfl⟩
    · have hc := h k (by omega)
      have hx := byteN_lt f k
      have hl := fun e => reach_byte (k := k) ha.out e
      have hm := fun e => empty_byte (f := f) (k := k) e
      obtain ⟨x, hxe⟩ : ∃ x, x = byteN f k := ⟨_, rfl⟩
      rw [← hxe] at hc hx hl hm
      have e0 : ((k + 1 : Nat) : Int) - 1 = (k : Int) := by omega
      rw [e0]
      have e5 : (0 : Int) ≤ (k : Int) := by omega
      have e6 : (k : Int) < 200 := by omega
      have e7 : (k : Int).toNat = k := by simp
      clear e0
      by_cases hz : x = 0
      · subst hz
        have Hm := Lib.hid (hm rfl)
        clear hm hl hx hxe
        go_wp2_with fail
        go_round
        case rel => exact ⟨k, by omega, by go_num, Lib.hid fun i hi => by
          by_cases h8 : 8 * (k + 1) ≤ i
          · exact ha.out i h8
          · have := Hm.out (i - 8 * k) (by omega)
            rwa [show 8 * k + (i - 8 * k) = i by omega] at this⟩
        case measure => simp [intOf]
      · obtain ⟨hl1, hl2⟩ := hl hz
        have hn0 : (x : Int) ≤ 255 := by omega
        have e8 : decide ((x : Int) = 0) = false := by simp; omega
        obtain ⟨z, hz⟩ : ∃ z, z = Lib.bitLen x := ⟨_, rfl⟩
        have e9 : (Lib.bitLen (x : Int).toNat : Int) = (z : Int) := by rw [hz]; rfl
        rw [← hz] at hl1 hl2
        have Hl2 := Lib.hid hl2
        clear hm hl hxe hl2 hz
        go_wp2_with (go_at_call 43; refine (len8_any x _ (by omega) hn0).mono ?_; rintro e w' ⟨rfl, rfl⟩; rw [e9])
        go_ret
        exact ⟨8 * k + z, by simp, by omega, Hl2.out, rfl⟩
theorem setcount_any {w : World} {g o : Nat} {f : Nat → Bool} (h : SetAt w g o f) :
    Calls Try.prog 41 #[ptrAt g o] w fun e w' => e = .returned (.int .i64 (cnt f 1600 : Nat)) ∧ w = w' := by
  go_enter Try.func41, Try.ntmps41
  go_wp2_with fail
  go_loop [3, 7] (fun s i => ∃ (k n : Nat), k ≤ 200 ∧ i = .int .i64 (k : Int) ∧ s = .int .i64 (n : Int) ∧ n ≤ 8 * k ∧ n = cnt f (8 * k)) (fun _ i => 200 - (intOf i).toNat)
  case atStart => exact ⟨0, 0, by omega, rfl, rfl, by omega, rfl⟩
  case round =>
    obtain ⟨k, n, hk, rfl, rfl, hn, hc⟩ := hrel
    have Hc := Lib.hid hc
    clear hc
    by_cases hk2 : k < 200
    · have hc := h k hk2
      have hx := byteN_lt f k
      have hp := pop_byte f k
      obtain ⟨x, hxe⟩ : ∃ x, x = byteN f k := ⟨_, rfl⟩
      rw [← hxe] at hc hx hp
      have hn0 : (x : Int) ≤ 255 := by omega
      have e5 : (0 : Int) ≤ (k : Int) := by omega
      have e6 : (k : Int) < 200 := by omega
      have e7 : (k : Int).toNat = k := by simp
      have hz8 : Lib.onesCount x ≤ 8 := Lib.onesCount_le8 ⟨x, hx⟩
      obtain ⟨z, hz⟩ : ∃ z, z = Lib.onesCount x := ⟨_, rfl⟩
      have e9 : (Lib.onesCount (x : Int).toNat : Int) = (z : Int) := by rw [hz]; rfl
      rw [← hz] at hp hz8
      have Hp := Lib.hid hp
      clear hxe hz hp
      go_wp2_with (go_at_call 44; refine (pop8_any x _ (by omega) hn0).mono ?_; rintro e w' ⟨rfl, rfl⟩; rw [e9])
      go_round
      case rel => exact ⟨k + 1, n + z, by omega, by go_num, by simp, by omega, by rw [Hp.out, ← Hc.out]⟩
      case measure => simp [intOf]; omega
    · have : k = 200 := by omega
      subst this
      go_wp2_with fail
      go_ret
      have hr : cnt f (8 * 200) = cnt f 1600 := rfl
      rw [← hr, ← Hc.out]
      exact ⟨rfl, rfl⟩
end Go.Proofs.Ytllhilnajjohiaa
