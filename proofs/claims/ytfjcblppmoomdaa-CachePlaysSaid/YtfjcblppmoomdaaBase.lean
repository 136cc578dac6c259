/-
  What the statements of many layers share: what a slice of bytes' elements are, and 'Few' of layer 1, by contract.
-/
import Derived.Test.YtfjcblppmoomdaaRows
import Derived.Test.YtfjcblppmoomdaaWords
import Derived.WalkLawsBesides
import Derived.Lib.Hide
namespace Go.Proofs.Ytfjcblppmoomdaa
open Go.RowKit

theorem info_u8 : (Try.prog.info? 5).map (fun i => (i.zero, i.size, i.bytes)) = some (some (.int .u8 0), 1, 1) := by kernel_rfl
theorem i64_of_wf {n : Int} (h : (Lit.int .i64 n).wf = true) : -9223372036854775808 ≤ n ∧ n ≤ 9223372036854775807 := by
  simpa [Lit.wf, IntKind.min, IntKind.max, IntKind.bits, IntKind.signed] using h

/-- The bytes of a constant text, as '[]byte("..")' lays them. -/
theorem rd_const (w : World) (e : TypeId) (m : Nat × Nat) (l : List UInt8) (h : l.length ≤ maxLen) :
    Rd (w.alloc (.cells (cellsB l).toArray e m)) (w.heap.size + 1) (.slice (some ⟨w.heap.size, 0, none⟩) l.length l.length) (cellsB l) := by
  refine ⟨some ⟨w.heap.size, 0, none⟩, l.length, by rw [cellsB_length], by rw [cellsB_length]; exact Nat.le_refl _, h, (fun h => by cases h), fun _ => ⟨w.heap.size, 0, rfl, Nat.lt_succ_self _, fun j u hu => ?_⟩⟩
  rw [Nat.zero_add, World.cell?_alloc_mark]
  simpa using hu
end Go.Proofs.Ytfjcblppmoomdaa
