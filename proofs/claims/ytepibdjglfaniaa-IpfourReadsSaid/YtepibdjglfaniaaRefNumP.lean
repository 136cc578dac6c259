/-
  The document's own numbers as bytes (Num, Put of stanchionref01), by contracts.
-/
import Derived.Test.YtepibdjglfaniaaNumB
namespace Go.Proofs.Ytepibdjglfaniaa
open Go.RowKit

theorem quo_step (n k q : Nat) (hn : n < 18446744073709551616) (hq : q = n / 256 ^ k) : Value.int .u64 (IntKind.u64.wrap ((q : Int) / 256)) = Value.int .u64 ((q / 256 : Nat) : Int) := by
  have h : q ≤ n := by rw [hq]; exact Nat.div_le_self _ _
  rw [IntWalk.u64_in _ (by omega)]; simp
theorem be_cons_cells (k n q : Nat) (hq : q = n / 256 ^ k) : (#[Value.int .u8 ((q : Int) % 256)] : Array Value).toList ++ cellsB (be k n) = cellsB (be (k + 1) n) := by
  rw [be_cons, ← hq, byte_mod]; rfl
end Go.Proofs.Ytepibdjglfaniaa
