/-
  Small functions of package addr and of the document's own.
-/
import Derived.Test.YtpgggeihhdbedaaAdFour
namespace Go.Proofs.Ytpgggeihhdbedaa
open Go.RowKit
/-- Arrays of 16 bytes, compared. -/
theorem eql16 (xs ys : List UInt8) (hx : xs.length = 16) (hy : ys.length = 16) (w : World) : (binOp .eql 22 (.agg (cellsB xs).toArray) (.agg (cellsB ys).toArray)).run Try.prog w = .ok (.bool (xs == ys)) w :=
  run_eql_bytes w 22 5 16 Try.underlying22 Try.underlying5 Try.sizeOf5 xs ys hx hy
theorem adC_range {a : Ad} {w : World} {g : Nat} (hg : w.heap[g]? = some (.cells (adC a).toArray 24 (0, 0))) : w.rangeAt g 1 (cellsB a.b) := rangeAt_block hg fun j u hu => by
  rw [Nat.add_comm]
  exact hu
theorem adC_six {a : Ad} {w : World} {g : Nat} (hg : w.heap[g]? = some (.cells (adC a).toArray 24 (0, 0))) : w.cell? ⟨g, 0, none⟩ = some (.bool a.six) := by
  rw [cell_of_row w g 0 _ _ _ hg]; rfl
theorem adC_at {a : Ad} {w : World} {g i : Nat} (hg : w.heap[g]? = some (.cells (adC a).toArray 24 (0, 0))) (h : i < a.b.length) : w.cell? ⟨g, 1 + i, none⟩ = some (.int .u8 ((a.b[i]).toNat : Int)) :=
  adC_range hg i _ (cellsB_at _ _ h)
/-- An address's bytes, out of its value. -/
theorem field_bytes (x : Ad) (hx : x.Wide) (W : World) : (Instr.field 24 (adV x) 1).run Try.prog W = .ok (.agg (cellsB x.b).toArray) W := by
  have hl : (cellsB x.b).length = 16 := by rw [cellsB_length]; exact hx
  simp [Instr.field, part, run_underlying Try.underlying24, asAgg, isAgg, run_underlying Try.underlying22, go_sem]
  simp [adC, List.take_of_length_le, hl]
theorem info16 (l : List UInt8) (h : l.length = 16) : (Try.prog.info? 22).map (·.size) = some (cellsB l).length := by rw [cellsB_length, h]; kernel_rfl
end Go.Proofs.Ytpgggeihhdbedaa
