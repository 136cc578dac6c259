/-
  Slices of slices as run equations, in whatever world: for regions that draw.
-/
import Derived.Test.YtpgggeihhdbedaaWords
namespace Go.Proofs.Ytpgggeihhdbedaa
open Go.RowKit
section
variable {P : Program} {t e : TypeId} {i : TypeInfo}
theorem elem_of (ht : P.underlying t = some (.slice e)) : P.elem t = e := by simp [Program.elem, ht]
theorem cut_lh (ht : P.underlying t = some (.slice e)) (hi : P.info? e = some i) (hs : i.size = 1) (A : Option Addr) (n c lo hi' : Nat) (h1 : lo ≤ hi') (h2 : hi' ≤ c) (l h : Int) (hl : l = (lo : Int)) (hh : h = (hi' : Int)) :
    ∃ A', (A' = if c = lo then A else A.map (·.add lo)) ∧ ∀ w : World, (Instr.sliceAt t (.slice A n c) (some (.int .i64 l)) (some (.int .i64 h)) none).run P w = .ok (.slice A' (hi' - lo) (c - lo)) w := by
  refine ⟨_, rfl, fun w => ?_⟩
  subst hl hh
  have he := elem_of ht
  rw [run_sliceAt_slice w t _ _ _ _ (by rw [he]; exact ht), run_slice_lh w t A n c (by rw [he]; exact ht) .i64 .i64 _ _ (by omega) (by omega) (by omega), he]
  simp [sizeOf, typeInfo, hi, hs, sliced]
theorem cut_h (ht : P.underlying t = some (.slice e)) (hi : P.info? e = some i) (hs : i.size = 1) (A : Option Addr) (n c hi' : Nat) (h2 : hi' ≤ c) (h : Int) (hh : h = (hi' : Int)) :
    ∀ w : World, (Instr.sliceAt t (.slice A n c) none (some (.int .i64 h)) none).run P w = .ok (.slice A hi' c) w := fun w => by
  subst hh
  have he := elem_of ht
  rw [run_sliceAt_slice w t _ _ _ _ (by rw [he]; exact ht), run_slice_h w t A n c (by rw [he]; exact ht) .i64 _ (by omega) (by omega), he]
  simp [sizeOf, typeInfo, hi, hs, sliced]
  cases A <;> simp [Addr.add]
theorem cut_l (ht : P.underlying t = some (.slice e)) (hi : P.info? e = some i) (hs : i.size = 1) (A : Option Addr) (n c lo : Nat) (h1 : lo ≤ n) (l : Int) (hl : l = (lo : Int)) :
    ∃ A', (A' = if c = lo then A else A.map (·.add lo)) ∧ ∀ w : World, (Instr.sliceAt t (.slice A n c) (some (.int .i64 l)) none none).run P w = .ok (.slice A' (n - lo) (c - lo)) w := by
  refine ⟨_, rfl, fun w => ?_⟩
  subst hl
  have he := elem_of ht
  rw [run_sliceAt_slice w t _ _ _ _ (by rw [he]; exact ht), run_slice_l w t A n c (by rw [he]; exact ht) .i64 _ (by omega) (by omega), he]
  simp [sizeOf, typeInfo, hi, hs, sliced]
end
end Go.Proofs.Ytpgggeihhdbedaa
