/-
  The functions of package inet and the document's own (ref11), by contracts.
  Sum, Good and Change of package inet, by contracts.
-/
import Derived.Test.YtejppekcniehpaaBase
import Derived.Test.YtejppekcniehpaaInetMath
import Derived.Laws.BitsAllLaws
namespace Go.Proofs.Ytejppekcniehpaa
open Go.RowKit
theorem low16 (s : Nat) (h : s < 18446744073709551616) : bits .and .u64 (s : Int) 65535 = ((s % 65536 : Nat) : Int) := by
  rw [show (65535 : Int) = ((65535 : Nat) : Int) from rfl, u64_and_nat _ _ h (by omega)]
  exact congrArg _ (Nat.and_two_pow_sub_one_eq_mod s 16)
theorem not16 (s : Nat) (h : s < 65536) : bits .xor .u16 IntKind.u16.max (s : Int) = ((65535 - s : Nat) : Int) := by
  have e : BitVec.allOnes 16 ^^^ BitVec.ofNat 16 s = ~~~ BitVec.ofNat 16 s := BitVec.allOnes_xor
  have e2 := congrArg BitVec.toNat e
  rw [BitVec.toNat_xor, BitVec.toNat_not, BitVec.toNat_ofNat, Nat.mod_eq_of_lt h] at e2
  rw [show IntKind.u16.max = ((65535 : Nat) : Int) from rfl, u16_xor_nat _ _ (by omega) h]
  exact congrArg _ (by simpa using e2)
set_option maxRecDepth 100000 in
set_option maxHeartbeats 400000 in
theorem inFold_any (n : Nat) (w : World) (hn : n < 18446744073709551616) : Calls Try.prog 58 #[.int .u64 n] w fun e w' => e = .returned (.int .u16 (fo n : Nat)) ∧ w = w' := by
  have Hn := Kept.mk hn
  clear hn
  go_enter Try.func58, Try.ntmps58
  go_wp2_with fail
  go_loop [0] (fun sv => ∃ s : Nat, sv = .int .u64 (s : Int) ∧ s < 18446744073709551616 ∧ fo s = fo n) (fun sv => (intOf sv).toNat)
  case atStart => exact ⟨n, rfl, Hn.out, rfl⟩
  case round =>
    obtain ⟨s, rfl, hs, hf⟩ := hrel
    have Hf := Lib.hid hf
    clear hf
    by_cases hk : 65535 < s
    · have hb := low16 s hs
      have hd : (s : Int) / 65536 = ((s / 65536 : Nat) : Int) := by omega
      obtain ⟨a, ha⟩ : ∃ a, a = s / 65536 := ⟨_, rfl⟩
      obtain ⟨b, hb2⟩ : ∃ b, b = s % 65536 := ⟨_, rfl⟩
      have hlt : a + b < s := by omega
      have hlt2 : a + b < 18446744073709551616 := by omega
      have hw : IntKind.u64.wrap ((a : Int) + (b : Int)) = ((a + b : Nat) : Int) := by rw [IntWalk.u64_in _ (by omega)]; omega
      rw [← ha] at hd
      rw [← hb2] at hb
      have hst := fo_step s
      rw [← ha, ← hb2] at hst
      have Hst := Lib.hid hst
      have Hlt := Lib.hid hlt
      have Hs := Kept.mk hs
      have Hlt2 := Kept.mk hlt2
      have k1 : decide ((s : Int) > 65535) = true := by simp; omega
      clear hst hlt ha hb2 hs hlt2 hk
      go_wp2_with fail
      go_round
      case rel => exact ⟨a + b, rfl, Hlt2.out, by rw [Hst.out]; exact Hf.out⟩
      case measure => simp [intOf]; have := Hlt.out; omega
    · have h2 : s ≤ 65535 := by omega
      have he := fo_small s h2
      have kw : IntKind.u16.wrap (s : Int) = (s : Int) := by rw [IntKind.wrap_u16]; omega
      clear hs hk
      go_wp2_with fail
      go_ret
      exact ⟨by rw [← Hf.out, he]; rfl, rfl⟩
set_option maxRecDepth 100000 in
set_option maxHeartbeats 1000000 in
theorem inTotal_any (A : Option Addr) (n c : Nat) (ls : List (List UInt8)) (w : World) (B : Nat) (hr : RdAll w B (.slice A n c) ls) (hfl : ls.flatten.length ≤ 1000000) :
    Calls Try.prog 59 #[.slice A n c] w fun e w' => e = .returned (.int .u64 (tot ls.flatten : Nat)) ∧ w = w' := by
  obtain ⟨hl, hnc, hcm⟩ := hr.len
  have hup : ∀ k, k ≤ ls.length → (upTo ls k).length ≤ 1000000 := fun k _ => by
    have e : ls.flatten = upTo ls k ++ (ls.drop k).flatten := by unfold upTo; rw [← List.flatten_append, List.take_append_drop]
    rw [e, List.length_append] at hfl
    omega
  have Hup := Lib.hid hup
  have Hl := Lib.hid hl
  clear hl hup
  have Hfl := Lib.hid hfl
  clear hfl
  go_enter Try.func59, Try.ntmps59
  go_wp2_with fail
  go_loop [3, 4, 11] (fun sv u i => ∃ k s q : Nat, k ≤ n ∧ i = .int .i64 k ∧ sv = .int .u64 (s : Int) ∧ u = .int .i64 (q : Int) ∧ s = tot (upTo ls k) ∧ q = 8 - 8 * ((upTo ls k).length % 2)) (fun _ _ i => n - (intOf i).toNat)
  case atStart => exact ⟨0, 0, 8, Nat.zero_le _, rfl, rfl, rfl, by rw [upTo_zero]; rfl, by rw [upTo_zero]; rfl⟩
  case round =>
    obtain ⟨k, s, q, hk, rfl, rfl, rfl, hs, hq⟩ := hrel
    have Hs := Lib.hid hs
    have Hq := Lib.hid hq
    clear hs hq
    by_cases hkn : k < n
    · obtain ⟨b, o, A', c', hkl, rfl, hb, hc, hp⟩ := hr.at_ hkn
      obtain ⟨l, el⟩ : ∃ l, l = ls[k] := ⟨_, rfl⟩
      have hsucc := upTo_succ ls k hkl
      rw [← el] at hc hp hsucc
      have El := Lib.hid el
      have Hsucc := Lib.hid hsucc
      have hkl1 := Hup.out (k + 1) (by omega)
      rw [hsucc] at hkl1
      have Hkl1 := Lib.hid hkl1
      clear el hsucc hkl1
      obtain ⟨_, _, e, g1, g2, _⟩ := hp.bytes
      injection e with e1 e2 e3
      subst e3
      clear e1 e2
      go_wp2_with fail
      go_loop [3, 4, 17] (fun sv u i => ∃ j t q : Nat, j ≤ l.length ∧ i = .int .i64 j ∧ sv = .int .u64 (t : Int) ∧ u = .int .i64 (q : Int) ∧ t = tot (upTo ls k ++ l.take j) ∧ q = 8 - 8 * ((upTo ls k ++ l.take j).length % 2)) (fun _ _ i => l.length - (intOf i).toNat)
      case atStart => exact ⟨0, s, q, Nat.zero_le _, rfl, rfl, rfl, by rw [Hs.out]; simp, by rw [Hq.out]; simp⟩
      case round =>
        obtain ⟨j, t, q, hj, rfl, rfl, rfl, ht, hq⟩ := hrel
        have htl := tot_le (upTo ls k ++ l.take j)
        have hjl2 : (upTo ls k ++ l.take j).length ≤ 1000000 := by
          have := Hkl1.out
          simp only [List.length_append, List.length_take] at this ⊢
          omega
        rw [← ht] at htl
        have htb : t ≤ 65535000000 := by omega
        clear htl
        by_cases hjl : j < l.length
        · obtain ⟨b2, o2, rfl, hb2, hc2⟩ := hp.addr (by omega)
          have hcell := hc2 j hjl
          obtain ⟨x, hx⟩ : ∃ x, x = l[j] := ⟨_, rfl⟩
          have hsn : upTo ls k ++ l.take (j + 1) = (upTo ls k ++ l.take j) ++ [x] := by rw [hx, List.append_assoc]; exact congrArg _ (List.take_succ_eq_append_getElem hjl)
          rw [← hx] at hcell
          have hxl := x.toNat_lt
          have hcv : IntKind.u64.wrap (x.toNat : Int) = (x.toNat : Int) := IntWalk.u64_in _ (by omega)
          have hn := tot_snoc (upTo ls k ++ l.take j) x
          rw [← ht] at hn
          have hlen2 : (upTo ls k ++ l.take (j + 1)).length = (upTo ls k ++ l.take j).length + 1 := by rw [hsn, List.length_append, List.length_singleton]
          have Hsn := Lib.hid hsn
          have hq8 : q ≤ 8 := by omega
          obtain ⟨p, hp⟩ : ∃ p, p = 8 - q := ⟨_, rfl⟩
          obtain ⟨y, hy⟩ : ∃ y, y = x.toNat * 2 ^ q := ⟨_, rfl⟩
          have hn : tot ((upTo ls k ++ l.take j) ++ [x]) = t + y := by rw [hn, hy, hq]
          have h2q : 2 ^ q ≤ 2 ^ 8 := Nat.pow_le_pow_right (by omega) hq8
          have hyl : y ≤ 255 * 2 ^ 8 := by rw [hy]; exact Nat.mul_le_mul (by omega) h2q
          have hw1 : IntKind.u64.wrap ((x.toNat : Int) * 2 ^ q) = (y : Int) := by
            have : (x.toNat : Int) * 2 ^ q = (y : Int) := by rw [hy]; simp
            rw [this, IntWalk.u64_in _ (by omega)]
          have hw2 : IntKind.u64.wrap ((t : Int) + (y : Int)) = ((t + y : Nat) : Int) := by rw [IntWalk.u64_in _ (by omega)]; omega
          have hw3 : (8 : Int) - (q : Int) = (p : Int) := by omega
          have hq2 : p = 8 - 8 * ((upTo ls k ++ l.take (j + 1)).length % 2) := by rw [hlen2]; omega
          have hp8 : p ≤ 8 := by omega
          have Hn := Lib.hid hn
          have Hq2 := Lib.hid hq2
          clear hx hsn hc2 hlen2 ht hn hy htb hjl2 hxl hq hp h2q hyl hq2
          go_wp2_with fail
          go_round
          case rel => exact ⟨j + 1, t + y, p, by omega, by go_num, rfl, rfl, by rw [Hsn.out, Hn.out], Hq2.out⟩
          case measure => simp [intOf]; omega
        · have : j = l.length := by omega
          subst this
          have Ht := Lib.hid ht
          have Hq := Lib.hid hq
          clear ht hq htb hjl2
          go_wp2_with fail
          go_round
          case rel => exact ⟨k + 1, t, q, by omega, by go_num, rfl, rfl, by rw [Hsucc.out, Ht.out, List.take_length], by rw [Hsucc.out, Hq.out, List.take_length]⟩
          case measure => simp [intOf]; omega
    · have : k = n := by omega
      subst this
      go_wp2_with fail
      go_ret
      refine ⟨?_, rfl⟩
      have e := upTo_all ls
      rw [← Hl.out] at e
      show Ending.returned (.int .u64 (s : Int)) = _
      rw [Hs.out, e]
section
variable {A : Option Addr} {n c : Nat} {ls : List (List UInt8)} {w : World} {B : Nat}
set_option maxRecDepth 100000 in
set_option maxHeartbeats 1000000 in
theorem inSum_any (hr : RdAll w B (.slice A n c) ls) (hfl : ls.flatten.length ≤ 1000000) :
    Calls Try.prog 47 #[.slice A n c] w fun e w' => e = .returned (.int .u16 (sumOf ls.flatten : Nat)) ∧ w = w' := by
  have ht := inTotal_any A n c ls w B hr hfl
  have htl := tot_le ls.flatten
  obtain ⟨s, hs⟩ : ∃ s, s = tot ls.flatten := ⟨_, rfl⟩
  rw [← hs] at ht htl
  have hf := inFold_any s w (by omega)
  obtain ⟨f, hff⟩ : ∃ f, f = fo s := ⟨_, rfl⟩
  have hfl2 := fo_le s
  rw [← hff] at hf hfl2
  have hn := not16 f (by omega)
  have Ht := Lib.hid ht
  have Hf := Lib.hid hf
  have Hff := Lib.hid hff
  have Hs := Lib.hid hs
  clear ht hf htl hff hfl2 hs hfl
  go_enter Try.func47, Try.ntmps47
  go_wp2_with (first
    | (go_at_call 59; refine Ht.out.mono ?_; rintro e w1 ⟨rfl, rfl⟩)
    | (go_at_call 58; refine Hf.out.mono ?_; rintro e w2 ⟨rfl, rfl⟩))
  go_ret
  exact ⟨by rw [Hff.out, Hs.out]; rfl, rfl⟩
set_option maxRecDepth 100000 in
set_option maxHeartbeats 1000000 in
theorem inGood_any (hr : RdAll w B (.slice A n c) ls) (hfl : ls.flatten.length ≤ 1000000) :
    Calls Try.prog 70 #[.slice A n c] w fun e w' => e = .returned (.bool (decide (sumOf ls.flatten = 0))) ∧ w = w' := by
  have Hs := Lib.hid (inSum_any hr hfl)
  obtain ⟨s, hs⟩ : ∃ s, s = sumOf ls.flatten := ⟨_, rfl⟩
  rw [← hs] at Hs ⊢
  clear hs hfl
  go_enter Try.func70, Try.ntmps70
  go_wp2_with (first
    | (go_at_call 47; refine Hs.out.mono ?_; rintro e w1 ⟨rfl, rfl⟩))
  go_ret
  refine ⟨?_, rfl⟩
  show Ending.returned (.bool ((s : Int) == 0)) = _
  by_cases h : s = 0
  · subst h; rfl
  · have : ((s : Int) == 0) = false := by simp; omega
    rw [this, decide_eq_false h]
end
section
variable {w : World} {A1 A2 : Option Addr} {c1 c2 : Nat} {a b : List UInt8} {s : Nat}
end
end Go.Proofs.Ytejppekcniehpaa
