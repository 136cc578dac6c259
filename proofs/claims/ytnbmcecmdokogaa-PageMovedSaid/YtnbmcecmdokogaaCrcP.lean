/-
  The functions next and Parts of package crc, by contracts: what each returns, and that they leave all as it was.
-/
import Derived.Test.YtnbmcecmdokogaaBase
import Derived.Test.YtnbmcecmdokogaaCrcMath
import Derived.Laws.BitsAllLaws
namespace Go.Proofs.Ytnbmcecmdokogaa
open Go.RowKit
theorem crcStep_odd (s : Nat) (h : s < 4294967296) (ho : s % 2 = 1) : bits .xor .u32 ((s : Int) / 2) 2197175160 = (crcStep s : Nat) := by
  have e : (s : Int) / 2 = ((s / 2 : Nat) : Int) := by omega
  rw [e, show (2197175160 : Int) = ((2197175160 : Nat) : Int) from rfl, u32_xor_nat _ _ (by omega) (by omega)]
  unfold crcStep
  rw [if_pos ho]
theorem crcStep_even (s : Nat) (ho : s % 2 = 0) : (s : Int) / 2 = (crcStep s : Nat) := by
  unfold crcStep
  rw [if_neg (by omega)]
  omega
theorem crcLow_bit (s : Nat) (h : s < 4294967296) : bits .and .u32 (s : Int) 1 = ((s % 2 : Nat) : Int) := by
  rw [show (1 : Int) = ((1 : Nat) : Int) from rfl, u32_and_nat _ _ h (by omega), nat_mask1]
set_option maxHeartbeats 400000 in
theorem crcNext_any (n : Nat) (x : UInt8) (w : World) (hn : n < 4294967296) :
    Calls Try.prog 32 #[.int .u32 n, .int .u8 (x.toNat : Int)] w fun e w' => e = .returned (.int .u32 (crcNext n x : Nat)) ∧ w = w' := by
  have hx := x.toNat_lt
  have hx1 : (x.toNat : Int) < 256 := by omega
  have hm := crcXor_lt n x hn
  have e0 := u32_xor_nat n x.toNat hn (by omega)
  obtain ⟨m, em⟩ : ∃ m, m = n ^^^ x.toNat := ⟨_, rfl⟩
  rw [← em] at hm e0
  have Em := Lib.hid em
  have E0 := Lib.hid e0
  clear em e0 hx
  have Hm := Kept.mk hm
  clear hm
  go_enter Try.func32, Try.ntmps32
  go_wp2_with fail
  go_loop [0, 10] (fun sv i => ∃ k s : Nat, k ≤ 8 ∧ i = .int .i64 k ∧ sv = .int .u32 (s : Int) ∧ s = crcSteps k m) (fun _ i => 8 - (intOf i).toNat)
  case atStart => exact ⟨0, m, Nat.zero_le _, rfl, by rw [E0.out], rfl⟩
  case round =>
    obtain ⟨k, s, hk, rfl, rfl, hs⟩ := hrel
    clear hx1
    have hlt : s < 4294967296 := by rw [hs]; exact crcSteps_lt k m Hm.out
    have Hs := Lib.hid hs
    have hb := crcLow_bit s hlt
    clear hs
    by_cases hk8 : k < 8
    · rcases Nat.mod_two_eq_zero_or_one s with ho | ho
      · have hstep := Lib.hid (crcStep_even s ho)
        rw [ho] at hb
        have Hlt := Kept.mk hlt
        clear ho hlt
        go_wp2_with fail
        go_round
        case rel => exact ⟨k + 1, crcStep s, by omega, by go_num, by rw [hstep.out], by rw [crcSteps_succ, ← Hs.out]⟩
        case measure => simp [intOf]; omega
      · have hstep := Lib.hid (crcStep_odd s hlt ho)
        rw [ho] at hb
        have Hlt := Kept.mk hlt
        clear ho hlt
        go_wp2_with fail
        go_round
        case rel => exact ⟨k + 1, crcStep s, by omega, by go_num, by rw [hstep.out], by rw [crcSteps_succ, ← Hs.out]⟩
        case measure => simp [intOf]; omega
    · have : k = 8 := by omega
      subst this
      go_wp2_with fail
      go_ret
      refine ⟨?_, rfl⟩
      rw [Hs.out, Em.out]
      rfl

theorem crcNot_all (s : Nat) (h : s < 4294967296) : 4294967295 ^^^ s = 4294967295 - s := by
  have e : BitVec.allOnes 32 ^^^ BitVec.ofNat 32 s = ~~~ BitVec.ofNat 32 s := BitVec.allOnes_xor
  have e2 := congrArg BitVec.toNat e
  rw [BitVec.toNat_xor, BitVec.toNat_not, BitVec.toNat_ofNat, Nat.mod_eq_of_lt h] at e2
  simpa using e2
theorem crcTurned_all (s : Nat) (h : s < 4294967296) : bits .xor .u32 IntKind.u32.max (s : Int) = ((4294967295 - s : Nat) : Int) := by
  rw [show IntKind.u32.max = ((4294967295 : Nat) : Int) from rfl, u32_xor_nat _ _ (by omega) h, crcNot_all s h]
set_option maxHeartbeats 400000 in
theorem crcParts_any (A : Option Addr) (n c : Nat) (ls : List (List UInt8)) (w : World) (B : Nat) (hr : RdAll w B (.slice A n c) ls) :
    Calls Try.prog 26 #[.slice A n c] w fun e w' => e = .returned (.int .u32 (crcOf ls.flatten : Nat)) ∧ w = w' := by
  obtain ⟨hl, hnc, hcm⟩ := hr.len
  have Hl := Lib.hid hl
  clear hl
  go_enter Try.func26, Try.ntmps26
  go_wp2_with fail
  go_loop [3, 10] (fun sv i => ∃ k s : Nat, k ≤ n ∧ i = .int .i64 k ∧ sv = .int .u32 (s : Int) ∧ s = crcFold 4294967295 (upTo ls k)) (fun _ i => n - (intOf i).toNat)
  case atStart => exact ⟨0, 4294967295, Nat.zero_le _, rfl, rfl, by rw [upTo_zero]; rfl⟩
  case round =>
    obtain ⟨k, s, hk, rfl, rfl, hs⟩ := hrel
    have hlt : s < 4294967296 := by rw [hs]; exact crcFold_lt _ _ (by omega)
    have Hs := Lib.hid hs
    clear hs
    have Hlt := Kept.mk hlt
    clear hlt
    by_cases hkn : k < n
    · obtain ⟨b, o, A', c', hkl, rfl, hb, hc, hp⟩ := hr.at_ hkn
      obtain ⟨l, el⟩ : ∃ l, l = ls[k] := ⟨_, rfl⟩
      have hsucc := upTo_succ ls k hkl
      rw [← el] at hc hp hsucc
      have El := Lib.hid el
      have Hsucc := Lib.hid hsucc
      clear el hsucc
      obtain ⟨_, _, e, g1, g2, _⟩ := hp.bytes
      injection e with e1 e2 e3
      subst e3
      clear e1 e2
      go_wp2_with fail
      go_loop [3, 16] (fun sv i => ∃ j t : Nat, j ≤ l.length ∧ i = .int .i64 j ∧ sv = .int .u32 (t : Int) ∧ t = crcFold s (l.take j)) (fun _ i => l.length - (intOf i).toNat)
      case atStart => exact ⟨0, s, Nat.zero_le _, rfl, rfl, rfl⟩
      case round =>
        obtain ⟨j, t, hj, rfl, rfl, ht⟩ := hrel
        have htl : t < 4294967296 := by rw [ht]; exact crcFold_lt _ _ Hlt.out
        have Ht := Lib.hid ht
        have Htl := Kept.mk htl
        clear ht htl
        by_cases hjl : j < l.length
        · obtain ⟨b2, o2, rfl, hb2, hc2⟩ := hp.addr (by omega)
          have hcell := hc2 j hjl
          obtain ⟨x, hx⟩ : ∃ x, x = l[j] := ⟨_, rfl⟩
          have hsn : l.take (j + 1) = l.take j ++ [x] := by rw [hx]; exact List.take_succ_eq_append_getElem hjl
          rw [← hx] at hcell
          have Hsn := Lib.hid hsn
          clear hx hsn hc2
          go_wp2_with (go_at_call 32; refine (crcNext_any t x _ Htl.out).mono ?_; rintro e w' ⟨rfl, rfl⟩)
          go_round
          case rel => exact ⟨j + 1, crcNext t x, by omega, by go_num, rfl, by rw [Hsn.out, crcFold_snoc, ← Ht.out]⟩
          case measure => simp [intOf]; omega
        · have : j = l.length := by omega
          subst this
          go_wp2_with fail
          go_round
          case rel => exact ⟨k + 1, t, by omega, by go_num, rfl, by rw [Hsucc.out, crcFold_append, ← Hs.out, Ht.out, List.take_length]⟩
          case measure => simp [intOf]; omega
    · have : k = n := by omega
      subst this
      go_wp2_with fail
      go_ret
      refine ⟨?_, rfl⟩
      show Ending.returned (.int .u32 (bits .xor .u32 IntKind.u32.max (s : Int))) = _
      rw [crcTurned_all s Hlt.out, Hs.out]
      have e := upTo_all ls
      rw [← Hl.out] at e
      rw [e]
      rfl

end Go.Proofs.Ytnbmcecmdokogaa
