/-
  The number of a seed and bytes: the program's (hash.Sum, of parts) and the document's (stanchionref18.Sum), by contracts: what each returns, and that they leave all as it was.
-/
import Derived.Test.YtcandokefhbneaaHaX
import Derived.Laws.BitsAllLaws
namespace Go.Proofs.Ytcandokefhbneaa
open Go.RowKit
theorem haMix_low (n : Nat) (hn : n < 18446744073709551616) : bits .xor .u64 (n : Int) ((n : Int) / 8589934592) = ((haMix n : Nat) : Int) := by
  have e : (n : Int) / 8589934592 = ((n / 8589934592 : Nat) : Int) := by omega
  rw [e, u64_xor_nat _ _ hn (by omega)]
  rfl
set_option maxRecDepth 100000 in
set_option maxHeartbeats 400000 in
theorem haLower_any (n : Nat) (w : World) (hn : n < 18446744073709551616) :
    Calls Try.prog 15 #[.int .u64 n] w fun e w' => e = .returned (.int .u64 (haMix n : Nat)) ∧ w = w' := by
  have H := Lib.hid (haMix_low n hn)
  have Hn := Kept.mk hn
  clear hn
  go_enter Try.func15, Try.ntmps15
  go_wp2_with fail
  go_ret
  refine ⟨?_, rfl⟩
  show Ending.returned (.int .u64 (bits .xor .u64 (n : Int) ((n : Int) / 8589934592))) = _
  rw [H.out]
theorem haWrap (n : Nat) : IntKind.u64.wrap (n : Int) = ((n % 18446744073709551616 : Nat) : Int) := by
  show (n : Int) % 18446744073709551616 = _
  omega
theorem haStep_spell (n : Nat) (x : UInt8) (hn : n < 18446744073709551616) : IntKind.u64.wrap (bits .xor .u64 (n : Int) (x.toNat : Int) * 1099511628211) = (haStep n x : Nat) := by
  rw [u64_xor_nat _ _ hn (byte_lt x), show (1099511628211 : Int) = ((1099511628211 : Nat) : Int) from rfl, ← Int.natCast_mul, haWrap]
  unfold haStep
  rfl
theorem haLast_spell (n : Nat) : IntKind.u64.wrap ((n : Int) * 18397679294719823053) = ((n * 18397679294719823053 % 18446744073709551616 : Nat) : Int) := by
  rw [show (18397679294719823053 : Int) = ((18397679294719823053 : Nat) : Int) from rfl, ← Int.natCast_mul, haWrap]
theorem haStart_spell (seed : Nat) (hs : seed < 18446744073709551616) : bits .xor .u64 14695981039346656037 (seed : Int) = ((14695981039346656037 ^^^ seed : Nat) : Int) := by
  rw [show (14695981039346656037 : Int) = ((14695981039346656037 : Nat) : Int) from rfl, u64_xor_nat _ _ (by omega) hs]
theorem haFold_flat (n : Nat) (l m : List UInt8) : haFold (haFold n l) m = haFold n (l ++ m) := (haFold_append n l m).symm
set_option maxRecDepth 100000 in
set_option maxHeartbeats 400000 in
theorem haParts_any (seed : Nat) (A : Option Addr) (n c : Nat) (ls : List (List UInt8)) (w : World) (B : Nat) (hs : seed < 18446744073709551616) (hr : RdAll w B (.slice A n c) ls) :
    Calls Try.prog 8 #[.int .u64 seed, .slice A n c] w fun e w' => e = .returned (.int .u64 (haSum seed ls.flatten : Nat)) ∧ w = w' := by
  obtain ⟨hl, hnc, hcm⟩ := hr.len
  have Hl := Lib.hid hl
  clear hl
  obtain ⟨m, hm⟩ : ∃ m, m = 14695981039346656037 ^^^ seed := ⟨_, rfl⟩
  have hml : m < 18446744073709551616 := by rw [hm]; exact xor_lt (by omega) hs
  have h0 := haStart_spell seed hs
  rw [← hm] at h0
  have Hm := Lib.hid hm
  have Hml := Kept.mk hml
  have Hs := Kept.mk hs
  clear hm hml hs
  go_enter Try.func8, Try.ntmps8
  go_wp2_with fail
  go_loop [5, 14] (fun sv i => ∃ k s : Nat, k ≤ n ∧ i = .int .i64 k ∧ sv = .int .u64 (s : Int) ∧ s = haFold m (upTo ls k)) (fun _ i => n - (intOf i).toNat)
  case atStart => exact ⟨0, m, Nat.zero_le _, rfl, rfl, by rw [upTo_zero]; rfl⟩
  case round =>
    clear h0
    obtain ⟨k, s, hk, rfl, rfl, hs⟩ := hrel
    have hlt : s < 18446744073709551616 := by rw [hs]; exact haFold_lt Hml.out _
    have Hs := Lib.hid hs
    clear hs
    have Hlt := Kept.mk hlt
    clear hlt
    by_cases hkn : k < n
    · obtain ⟨b, o, A', c', hkl, rfl, hb, hc, hp⟩ := hr.at_ hkn
      obtain ⟨l, el⟩ : ∃ l, l = ls[k] := ⟨_, rfl⟩
      have hsucc := upTo_succ ls k hkl
      rw [← el] at hc hp hsucc
      have El := Lib.hid el
      have Hsucc := Lib.hid hsucc
      clear el hsucc
      obtain ⟨_, _, e, g1, g2, _⟩ := hp.bytes
      injection e with e1 e2 e3
      subst e3
      clear e1 e2
      go_wp2_with fail
      go_loop [5, 20] (fun sv i => ∃ j t : Nat, j ≤ l.length ∧ i = .int .i64 j ∧ sv = .int .u64 (t : Int) ∧ t = haFold s (l.take j)) (fun _ i => l.length - (intOf i).toNat)
      case atStart => exact ⟨0, s, Nat.zero_le _, rfl, rfl, rfl⟩
      case round =>
        obtain ⟨j, t, hj, rfl, rfl, ht⟩ := hrel
        have htl : t < 18446744073709551616 := by rw [ht]; exact haFold_lt Hlt.out _
        have Ht := Lib.hid ht
        have Htl := Kept.mk htl
        clear ht htl
        by_cases hjl : j < l.length
        · obtain ⟨b2, o2, rfl, hb2, hc2⟩ := hp.addr (by omega)
          have hcell := hc2 j hjl
          obtain ⟨x, hx⟩ : ∃ x, x = l[j] := ⟨_, rfl⟩
          have hsn : l.take (j + 1) = l.take j ++ [x] := by rw [hx]; exact List.take_succ_eq_append_getElem hjl
          rw [← hx] at hcell
          have Hsn := Lib.hid hsn
          have Hst := Lib.hid (haStep_spell t x Htl.out)
          have hx1 : IntKind.u64.wrap (x.toNat : Int) = (x.toNat : Int) := IntWalk.u64_in _ ⟨by omega, by have := x.toNat_lt; omega⟩
          clear hx hsn hc2
          go_wp2_with fail
          go_round
          case rel => exact ⟨j + 1, haStep t x, by omega, by go_num, by rw [← Hst.out], by rw [Hsn.out, haFold_snoc, ← Ht.out]⟩
          case measure => simp [intOf]; omega
        · have : j = l.length := by omega
          subst this
          go_wp2_with fail
          go_round
          case rel => exact ⟨k + 1, t, by omega, by go_num, rfl, by rw [Hsucc.out, haFold_append, ← Hs.out, Ht.out, List.take_length]⟩
          case measure => simp [intOf]; omega
    · have : k = n := by omega
      subst this
      have hE := Lib.hid (haLast_spell (haMix s))
      obtain ⟨z, hz⟩ : ∃ z, z = haMix s * 18397679294719823053 % 18446744073709551616 := ⟨_, rfl⟩
      rw [← hz] at hE
      have hzl : z < 18446744073709551616 := by rw [hz]; exact mod_lt64 _
      have HZ := Lib.hid hz
      have Hzl := Kept.mk hzl
      clear hz hzl
      have he := hE.out
      go_wp2_with (go_at_call 15; (first | (have h := Hlt; clear Hlt; refine (haLower_any s _ h.out).mono ?_; rintro e w' ⟨rfl, rfl⟩) | (refine (haLower_any z _ Hzl.out).mono ?_; rintro e w' ⟨rfl, rfl⟩)))
      go_ret
      refine ⟨?_, rfl⟩
      rw [HZ.out, Hs.out]
      have e := upTo_all ls
      rw [← Hl.out] at e
      rw [e, Hm.out]
      rfl
end Go.Proofs.Ytcandokefhbneaa
