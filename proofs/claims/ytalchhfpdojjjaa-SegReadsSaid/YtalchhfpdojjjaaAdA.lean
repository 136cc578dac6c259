/-
  Small functions of package addr and of the document's own.
-/
import Derived.Test.YtalchhfpdojjjaaAdFour
namespace Go.Proofs.Ytalchhfpdojjjaa
open Go.RowKit
/-- Arrays of 16 bytes, compared. -/
theorem eql16 (xs ys : List UInt8) (hx : xs.length = 16) (hy : ys.length = 16) (w : World) : (binOp .eql 22 (.agg (cellsB xs).toArray) (.agg (cellsB ys).toArray)).run Try.prog w = .ok (.bool (xs == ys)) w :=
  run_eql_bytes w 22 5 16 Try.underlying22 Try.underlying5 Try.sizeOf5 xs ys hx hy
theorem adC_range {a : Ad} {w : World} {g : Nat} (hg : w.heap[g]? = some (.cells (adC a).toArray 24 (0, 0))) : w.rangeAt g 1 (cellsB a.b) := rangeAt_block hg fun j u hu => by
  rw [Nat.add_comm]
  exact hu
theorem adC_six {a : Ad} {w : World} {g : Nat} (hg : w.heap[g]? = some (.cells (adC a).toArray 24 (0, 0))) : w.cell? ⟨g, 0, none⟩ = some (.bool a.six) := by
  rw [cell_of_row w g 0 _ _ _ hg]; rfl
theorem adC_at {a : Ad} {w : World} {g i : Nat} (hg : w.heap[g]? = some (.cells (adC a).toArray 24 (0, 0))) (h : i < a.b.length) : w.cell? ⟨g, 1 + i, none⟩ = some (.int .u8 ((a.b[i]).toNat : Int)) :=
  adC_range hg i _ (cellsB_at _ _ h)
/-- An address's bytes, out of its value. -/
theorem field_bytes (x : Ad) (hx : x.Wide) (W : World) : (Instr.field 24 (adV x) 1).run Try.prog W = .ok (.agg (cellsB x.b).toArray) W := by
  have hl : (cellsB x.b).length = 16 := by rw [cellsB_length]; exact hx
  simp [Instr.field, part, run_underlying Try.underlying24, asAgg, isAgg, run_underlying Try.underlying22, go_sem]
  simp [adC, List.take_of_length_le, hl]
theorem info16 (l : List UInt8) (h : l.length = 16) : (Try.prog.info? 22).map (·.size) = some (cellsB l).length := by rw [cellsB_length, h]; kernel_rfl
set_option maxRecDepth 100000 in
theorem adGood_any (a : Ad) (w : World) (ha : a.Wide) : Calls Try.prog 33 #[adV a] w fun e w' => e = .returned (.bool a.good) ∧ Below w.heap.size w w' := by
  obtain ⟨s, B⟩ := a
  have hB : B.length = 16 := ha
  have hw := heap_alloc_last w (.cells (adC ⟨s, B⟩).toArray 24)
  have h0 := adC_six hw
  have hr := adC_range hw
  have c1 := adC_at hw (show 12 < B.length by omega)
  have c2 := adC_at hw (show 13 < B.length by omega)
  have c3 := adC_at hw (show 14 < B.length by omega)
  have c4 := adC_at hw (show 15 < B.length by omega)
  have hi := info16 B hB
  have hgood : (B == (four B[12] B[13] B[14] B[15]).b) = (Ad.mk false B).good := by
    obtain ⟨a, b, c, d, e, f, g, i, j, k, m, n, o, p, q, r, rfl⟩ := list16 hB
    rw [Bool.eq_iff_iff]
    simp [four, Ad.good]
  dsimp only at c1 c2 c3 c4 hr h0
  generalize B[12] = o at c1 hgood
  generalize B[13] = p at c2 hgood
  generalize B[14] = q at c3 hgood
  generalize B[15] = r at c4 hgood
  have heq := eql16 B (four o p q r).b hB rfl
  have hf := fun w => adFour_any o p q r w
  obtain ⟨x, hx⟩ : ∃ x, x = four o p q r := ⟨_, rfl⟩
  rw [← hx] at heq hf hgood
  have hfield : ∀ W, (Instr.field 24 (adV x) 1).run Try.prog W = .ok (.agg (cellsB x.b).toArray) W := fun W => field_bytes x (by rw [hx]; rfl) W
  have h1 : adC ⟨s, B⟩ = .bool s :: cellsB B := rfl
  obtain ⟨C, hC⟩ : ∃ C, C = adC ⟨s, B⟩ := ⟨_, rfl⟩
  rw [← hC] at hw h0 hr c1 c2 c3 c4
  rw [adV, ← hC]
  have Hf := Lib.hid hf
  have HC := Lib.hid hgood
  have u22 := Try.underlying22
  clear hf hC h1 hx ha hB hgood
  cases s
  · go_enter Try.func33, Try.ntmps33
    go_wp2_with fail
    go_region_held3 (fun w' => w'.cell? ⟨w.heap.size, 0, none⟩ = some (.bool false) ∧ w'.rangeAt w.heap.size 1 (cellsB B) ∧ w'.cell? ⟨w.heap.size, 1 + 12, none⟩ = some (.int .u8 (o.toNat : Int)) ∧ w'.cell? ⟨w.heap.size, 1 + 13, none⟩ = some (.int .u8 (p.toNat : Int)) ∧ w'.cell? ⟨w.heap.size, 1 + 14, none⟩ = some (.int .u8 (q.toNat : Int)) ∧ w'.cell? ⟨w.heap.size, 1 + 15, none⟩ = some (.int .u8 (r.toNat : Int)))
      (first | exact ⟨h0, hr, c1, c2, c3, c4⟩ | exact ⟨(hk _).trans h0, fun j v hj => (hk _).trans (hr j v hj), (hk _).trans c1, (hk _).trans c2, (hk _).trans c3, (hk _).trans c4⟩)
      (first | (go_at_call 40; refine (Hf.out _).mono ?_; rintro _ w1 ⟨rfl, hb⟩; have hk : ∀ o, w1.cell? ⟨w.heap.size, o, none⟩ = (w.alloc (.cells C.toArray 24)).cell? ⟨w.heap.size, o, none⟩ := fun o => hb.cell (by simp)))
    go_wp2_with fail
    go_ret
    exact ⟨congrArg _ (congrArg _ HC.out), up (up_drew (up_alloc (Below.refl _ _) _)) hb⟩
  · go_enter Try.func33, Try.ntmps33
    go_wp2_with fail
    go_region
    go_wp2_with fail
    go_ret
    exact ⟨rfl, up_drew (up_alloc (Below.refl _ _) _)⟩
end Go.Proofs.Ytalchhfpdojjjaa
