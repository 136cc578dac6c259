/-
  A slice of a slice at work in a region; copied, as slices.
-/
import Derived.Test.YtceefoopehoalaaNdCopied
namespace Go.Proofs.Ytceefoopehoalaa
open Go.RowKit
theorem exec_cut {P : Program} {w w' : World} {o : Oper} {ρ : Operand → Value} {t : TypeId} {x : Operand} {lo hi : Option Operand} (ho : o.op = .slice t x lo hi none) {v r : Value} {l h : Option Value} (hx : ρ x = v) (hl : lo.map ρ = l) (hh : hi.map ρ = h) (hrun : (Instr.sliceAt t v l h none).run P w = .ok r w') : (execOp ρ o).run P w = .ok (.value r) w' := by
  unfold execOp
  simp only [ho, hx, hl, hh, Option.map_none, Sem.run_bind, hrun, Result.andThen_ok, Sem.run_pure]
theorem copied_as {n : Nd} {lf : Bool} {K V D : Value} {w : World} (hr : NdIs w w.heap.size K V D n) (hlf : n.leaf = lf) (hsh : n.Short 1000000) (hsm : n.Small) :
    Calls Try.prog 41 #[ndVal lf K V D] w fun e w' => ∃ A1 n1 c1 A2 n2 c2 A3 n3 c3, e = .returned (ndVal lf (.slice A1 n1 c1) (.slice A2 n2 c2) (.slice A3 n3 c3)) ∧ NdNew w' w.heap.size (.slice A1 n1 c1) (.slice A2 n2 c2) (.slice A3 n3 c3) n ∧ Below w.heap.size w w' := by
  subst hlf
  refine (copied_any hr hsh hsm).mono ?_
  rintro e w' ⟨K', V', D', rfl, hn, hb⟩
  obtain ⟨A1, n1, c1, A2, n2, c2, A3, n3, c3, rfl, rfl, rfl⟩ := hn.is.slices
  exact ⟨_, _, _, _, _, _, _, _, _, rfl, hn, hb⟩
end Go.Proofs.Ytceefoopehoalaa
