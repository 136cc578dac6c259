/-
  The address of bytes: a contract.
-/
import Derived.Test.YtalchhfpdojjjaaAdB
import Derived.Laws.CopyOwn
namespace Go.Proofs.Ytalchhfpdojjjaa
open Go.RowKit
theorem grown_below {w w1 w2 : World} {g : Nat} (h : Below w.heap.size w w1) (hg : w1.grownBy w2 (some g)) (hgw : w.heap.size ≤ g) : Below w.heap.size w w2 :=
  h.trans ((Only.grown (F := fun k => w.heap.size ≤ k) hg (fun k hk => by cases hk; exact hgw)).below h.size)
/-- An address that lies in a block, and a bool: returned. -/
theorem ret_ad {fn : Func} {p q : Tmp} (h : fn.results = #[.cell p 24, .tmp q]) {tmps : Array Value} {w : World} {g : Nat} {a : Ad} {b : Bool} (hp : tmps.getD p undef = .pointer (some ⟨g, 0, none⟩)) (hg : AdAt w g a) (ha : a.Wide) (hq : tmps.getD q undef = .bool b) :
    (results fn tmps).run Try.prog w = .ok (.tuple #[adV a, .bool b]) w := by
  rw [← hq]
  exact results_cell_tmp h tmps w g 24 (adC a).toArray (0, 0) _ hp hg Try.underlying24 rfl (info_adA ha)
end Go.Proofs.Ytalchhfpdojjjaa
