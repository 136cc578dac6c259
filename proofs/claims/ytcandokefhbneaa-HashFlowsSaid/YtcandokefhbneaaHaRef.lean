/-
  The document's own number of a seed and bytes (stanchionref18.Sum), by contract; and that both sides' lives is true.
-/
import Derived.Test.YtcandokefhbneaaHaSum
namespace Go.Proofs.Ytcandokefhbneaa
open Go.RowKit
theorem haDown (n : Nat) : ((n : Int) / 8589934592) = ((n / 8589934592 : Nat) : Int) := by omega
theorem haXorTo (a b m : Nat) (w : World) (ha : a < 18446744073709551616) (hb : b < 18446744073709551616) (hm : m = a ^^^ b) :
    Calls Try.prog 16 #[.int .u64 a, .int .u64 b] w fun e w' => e = .returned (.int .u64 (m : Int)) ∧ w = w' := by
  rw [hm]; exact haXor_any a b w ha hb
theorem haXorDown (a m : Nat) (w : World) (ha : a < 18446744073709551616) (hm : m = haMix a) :
    Calls Try.prog 16 #[.int .u64 a, .int .u64 (IntKind.u64.wrap ((a : Int) / 8589934592))] w fun e w' => e = .returned (.int .u64 (m : Int)) ∧ w = w' := by
  rw [haDown, IntWalk.u64_in _ ⟨by omega, by omega⟩]
  exact haXorTo a _ m w ha (by omega) hm
theorem haEach_spell (n : Nat) : IntKind.u64.wrap ((n : Int) * 1099511628211) = ((n * 1099511628211 % 18446744073709551616 : Nat) : Int) := by
  rw [show (1099511628211 : Int) = ((1099511628211 : Nat) : Int) from rfl, ← Int.natCast_mul, haWrap]
set_option maxRecDepth 100000 in
set_option maxHeartbeats 400000 in
theorem haRefSum_any (seed : Nat) (A : Option Addr) (c : Nat) (l : List UInt8) (w : World) (B : Nat) (hs : seed < 18446744073709551616) (hr : Rd w B (.slice A l.length c) (cellsB l)) :
    Calls Try.prog 9 #[.int .u64 seed, .slice A l.length c] w fun e w' => e = .returned (.int .u64 (haSum seed l : Nat)) ∧ w = w' := by
  obtain ⟨_, _, e, g1, g2, _⟩ := hr.bytes
  injection e with e1 e2 e3
  subst e3
  clear e1 e2
  obtain ⟨m, hm⟩ : ∃ m, m = 14695981039346656037 ^^^ seed := ⟨_, rfl⟩
  have hml : m < 18446744073709551616 := by rw [hm]; exact xor_lt (by omega) hs
  have H0 := Lib.hid (haXorTo 14695981039346656037 seed m w (by omega) hs hm)
  have Hm := Lib.hid hm
  have Hml := Kept.mk hml
  clear hm hml hs
  go_enter Try.func9, Try.ntmps9
  go_wp2_with (go_at_call 16; refine H0.out.mono ?_; rintro e w' ⟨rfl, rfl⟩)
  clear H0
  go_loop [5, 6] (fun nv i => ∃ j s : Nat, j ≤ l.length ∧ i = .int .i64 j ∧ nv = .int .u64 (s : Int) ∧ s = haFold m (l.take j)) (fun _ i => l.length - (intOf i).toNat)
  case atStart => exact ⟨0, m, Nat.zero_le _, rfl, rfl, rfl⟩
  case round =>
    obtain ⟨j, s, hj, rfl, rfl, hs⟩ := hrel
    have hlt : s < 18446744073709551616 := by rw [hs]; exact haFold_lt Hml.out _
    have Hs := Lib.hid hs
    have Hlt := Kept.mk hlt
    clear hs hlt
    by_cases hjl : j < l.length
    · obtain ⟨b2, o2, rfl, hb2, hc2⟩ := hr.addr (by omega)
      have hcell := hc2 j hjl
      obtain ⟨x, hx⟩ : ∃ x, x = l[j] := ⟨_, rfl⟩
      have hsn : l.take (j + 1) = l.take j ++ [x] := by rw [hx]; exact List.take_succ_eq_append_getElem hjl
      rw [← hx] at hcell
      have Hsn := Lib.hid hsn
      have hx1 : IntKind.u64.wrap (x.toNat : Int) = (x.toNat : Int) := IntWalk.u64_in _ ⟨by omega, by have := x.toNat_lt; omega⟩
      obtain ⟨y, hy⟩ : ∃ y, y = s ^^^ x.toNat := ⟨_, rfl⟩
      have HX := Lib.hid (haXorTo s x.toNat y w Hlt.out (byte_lt x) hy)
      have hst : IntKind.u64.wrap ((y : Int) * 1099511628211) = (haStep s x : Nat) := by rw [haEach_spell, hy]; rfl
      have Hst := Lib.hid hst
      clear hx hsn hc2 hy hst
      go_wp2_with (go_at_call 16; refine HX.out.mono ?_; rintro e w' ⟨rfl, rfl⟩)
      go_round
      case rel => exact ⟨j + 1, haStep s x, by omega, by go_num, by rw [← Hst.out], by rw [Hsn.out, haFold_snoc, ← Hs.out]⟩
      case measure => simp [intOf]; omega
    · have : j = l.length := by omega
      subst this
      obtain ⟨y, hy⟩ : ∃ y, y = haMix s := ⟨_, rfl⟩
      have HX := Lib.hid (haXorDown s y w Hlt.out hy)
      obtain ⟨z, hz⟩ : ∃ z, z = y * 18397679294719823053 % 18446744073709551616 := ⟨_, rfl⟩
      have he := haLast_spell y
      rw [← hz] at he
      have hzl : z < 18446744073709551616 := by rw [hz]; exact mod_lt64 _
      obtain ⟨u, hu⟩ : ∃ u, u = haMix z := ⟨_, rfl⟩
      have HY := Lib.hid (haXorDown z u w hzl hu)
      have HE : Hid (u = haEnd s) := Lib.hid (by rw [hu, hz, hy]; rfl)
      clear hy hz hzl hu
      go_wp2_with (go_at_call 16; (first | (have h := HX; clear HX; refine h.out.mono ?_; rintro e w' ⟨rfl, rfl⟩) | (refine HY.out.mono ?_; rintro e w' ⟨rfl, rfl⟩)))
      go_ret
      refine ⟨?_, rfl⟩
      have e := Hs.out
      rw [List.take_length] at e
      rw [HE.out, e, Hm.out]
      rfl
end Go.Proofs.Ytcandokefhbneaa
