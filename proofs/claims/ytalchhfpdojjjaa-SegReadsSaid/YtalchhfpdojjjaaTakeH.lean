/-
  An operation of a region that holds S, taken first, said shortly.
-/
import Derived.Test.YtalchhfpdojjjaaWords
import Derived.Deep.RegionHeld3
namespace Go.Proofs.Ytalchhfpdojjjaa
open Go.RowKit
section
variable {P : Program} {ops : Array Oper} {Q : Exit → Act → World → Prop} {md : Region.Mode} {S : World → Prop}
theorem th (i : Nat) {d : Option Tmp} {op : Op} {ty : TypeId} {po : String} {af : Array Edge} {gd : Option (Nat × Bool)} {v : Value} {f : Nat} {listed : Array Bool} {a : Act} {w : World}
    (h : wpAnyH P md ops Q S f (listed.setIfInBounds i true) (a.put d v) w)
    (hi : ops[i]? = some ⟨d, op, ty, po, af, gd⟩ := by exact rfl) (hs : Region.noSelect ops = true := by kernel_rfl) (hf : Region.free md ops listed i = true := by kernel_rfl) (hr : (Region.ready md ops listed).contains i = true := by kernel_rfl)
    (hQ : ∀ c a w, Q (.panic c) (a.put d v) w → Q (.panic c) a w := by exact fun _ _ _ h => h) (hw : Region.wanted ⟨d, op, ty, po, af, gd⟩ (yielded ops a.tmps) = true := by kernel_rfl) (hy : ∀ w, S w → (execOp a.eval ⟨d, op, ty, po, af, gd⟩).run P w = .ok (.value v) w := by (intro w hSw; (try dsimp only at hSw); go_simp <;> with_reducible rfl)) (hS : S w := by assumption) :
    wpAnyH P md ops Q S (f + 1) listed a w := wpAnyH_take hi hs hf hr hQ (.inl ⟨hw, hy⟩) hS h
/-- One that its guard lets by. -/
theorem thn (i : Nat) {d : Option Tmp} {op : Op} {ty : TypeId} {po : String} {af : Array Edge} {gd : Option (Nat × Bool)} {f : Nat} {listed : Array Bool} {a : Act} {w : World}
    (h : wpAnyH P md ops Q S f (listed.setIfInBounds i true) (a.put d undef) w)
    (hi : ops[i]? = some ⟨d, op, ty, po, af, gd⟩ := by exact rfl) (hs : Region.noSelect ops = true := by kernel_rfl) (hf : Region.free md ops listed i = true := by kernel_rfl) (hr : (Region.ready md ops listed).contains i = true := by kernel_rfl)
    (hQ : ∀ c a w, Q (.panic c) (a.put d undef) w → Q (.panic c) a w := by exact fun _ _ _ h => h) (hw : Region.wanted ⟨d, op, ty, po, af, gd⟩ (yielded ops a.tmps) = false := by kernel_rfl) (hS : S w := by assumption) :
    wpAnyH P md ops Q S (f + 1) listed a w := wpAnyH_take hi hs hf hr hQ (.inr ⟨hw, rfl⟩) hS h
end
theorem drew_self (X : World) : Below X.heap.size X X.drew := (Below.refl _ _).drew
theorem drew_start {X w1 : World} (h : Below X.drew.heap.size X.drew w1) : Below X.heap.size X w1 := (drew_self X).trans h
end Go.Proofs.Ytalchhfpdojjjaa
