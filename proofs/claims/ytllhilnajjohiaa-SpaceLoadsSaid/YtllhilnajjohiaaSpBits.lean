/-
  The library's three functions on a byte's bits: contracts.
-/
import Derived.Test.YtllhilnajjohiaaBase
import Derived.Test.YtllhilnajjohiaaSpMath
import Derived.Test.YtllhilnajjohiaaDevA
namespace Go.Proofs.Ytllhilnajjohiaa
open Go.RowKit
theorem wrap64_lit (n : Int) : wrap64 n = (n + 9223372036854775808) % 18446744073709551616 - 9223372036854775808 := by
  unfold wrap64
  rfl
set_option maxRecDepth 100000 in
theorem ntz8_any (x : Int) (w : World) (h0 : 0 ≤ x) (h1 : x ≤ 255) :
    Calls Try.prog 42 #[.int .u8 x] w fun e w' => e = .returned (.int .i64 (Lib.trailingZeros8 x.toNat : Nat)) ∧ w = w' := by
  have hr : wrap64 (Lib.ntz8 x) = (Lib.trailingZeros8 x.toNat : Int) := by
    rw [wrap64_lit]
    exact Lib.ntz8_int x h0 h1
  go_enter Try.func42, Try.ntmps42
  go_wp2
  go_ret
  exact ⟨by rw [← hr]; rfl, rfl⟩
set_option maxRecDepth 100000 in
theorem len8_any (x : Int) (w : World) (h0 : 0 ≤ x) (h1 : x ≤ 255) :
    Calls Try.prog 43 #[.int .u8 x] w fun e w' => e = .returned (.int .i64 (Lib.bitLen x.toNat)) ∧ w = w' := by
  have hr : wrap64 (Lib.len8 x) = (Lib.bitLen x.toNat : Int) := by
    rw [wrap64_lit]
    exact Lib.len8_int x h0 h1
  go_enter Try.func43, Try.ntmps43
  go_wp2
  go_ret
  exact ⟨by rw [← hr]; rfl, rfl⟩
set_option maxRecDepth 100000 in
theorem pop8_any (x : Int) (w : World) (h0 : 0 ≤ x) (h1 : x ≤ 255) :
    Calls Try.prog 44 #[.int .u8 x] w fun e w' => e = .returned (.int .i64 (Lib.onesCount x.toNat)) ∧ w = w' := by
  have hr : wrap64 (Lib.pop8 x) = (Lib.onesCount x.toNat : Int) := by
    rw [wrap64_lit]
    exact Lib.pop8_int x h0 h1
  go_enter Try.func44, Try.ntmps44
  go_wp2
  go_ret
  exact ⟨by rw [← hr]; rfl, rfl⟩
end Go.Proofs.Ytllhilnajjohiaa
