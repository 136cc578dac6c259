/-
  An operation of a region that holds S, taken first, said shortly.
  Slices of slices as run equations, in whatever world: for regions that draw.
-/
import Derived.Test.YtcandokefhbneaaWords
import Derived.Deep.RegionHeld3
namespace Go.Proofs.Ytcandokefhbneaa
open Go.RowKit
section
variable {P : Program} {ops : Array Oper} {Q : Exit → Act → World → Prop} {md : Region.Mode} {S : World → Prop}
theorem th (i : Nat) {d : Option Tmp} {op : Op} {ty : TypeId} {po : String} {af : Array Edge} {gd : Option (Nat × Bool)} {v : Value} {f : Nat} {listed : Array Bool} {a : Act} {w : World}
    (h : wpAnyH P md ops Q S f (listed.setIfInBounds i true) (a.put d v) w)
    (hi : ops[i]? = some ⟨d, op, ty, po, af, gd⟩ := by exact rfl) (hs : Region.noSelect ops = true := by kernel_rfl) (hf : Region.free md ops listed i = true := by kernel_rfl) (hr : (Region.ready md ops listed).contains i = true := by kernel_rfl)
    (hQ : ∀ c a w, Q (.panic c) (a.put d v) w → Q (.panic c) a w := by exact fun _ _ _ h => h) (hw : Region.wanted ⟨d, op, ty, po, af, gd⟩ (yielded ops a.tmps) = true := by kernel_rfl) (hy : ∀ w, S w → (execOp a.eval ⟨d, op, ty, po, af, gd⟩).run P w = .ok (.value v) w := by (intro w hSw; (try dsimp only at hSw); go_simp <;> with_reducible rfl)) (hS : S w := by assumption) :
    wpAnyH P md ops Q S (f + 1) listed a w := wpAnyH_take hi hs hf hr hQ (.inl ⟨hw, hy⟩) hS h
/-- One that its guard lets by. -/
theorem thn (i : Nat) {d : Option Tmp} {op : Op} {ty : TypeId} {po : String} {af : Array Edge} {gd : Option (Nat × Bool)} {f : Nat} {listed : Array Bool} {a : Act} {w : World}
    (h : wpAnyH P md ops Q S f (listed.setIfInBounds i true) (a.put d undef) w)
    (hi : ops[i]? = some ⟨d, op, ty, po, af, gd⟩ := by exact rfl) (hs : Region.noSelect ops = true := by kernel_rfl) (hf : Region.free md ops listed i = true := by kernel_rfl) (hr : (Region.ready md ops listed).contains i = true := by kernel_rfl)
    (hQ : ∀ c a w, Q (.panic c) (a.put d undef) w → Q (.panic c) a w := by exact fun _ _ _ h => h) (hw : Region.wanted ⟨d, op, ty, po, af, gd⟩ (yielded ops a.tmps) = false := by kernel_rfl) (hS : S w := by assumption) :
    wpAnyH P md ops Q S (f + 1) listed a w := wpAnyH_take hi hs hf hr hQ (.inr ⟨hw, rfl⟩) hS h
end
theorem drew_self (X : World) : Below X.heap.size X X.drew := (Below.refl _ _).drew
theorem drew_start {X w1 : World} (h : Below X.drew.heap.size X.drew w1) : Below X.heap.size X w1 := (drew_self X).trans h
section
variable {P : Program} {t e : TypeId} {i : TypeInfo}
theorem elem_of (ht : P.underlying t = some (.slice e)) : P.elem t = e := by simp [Program.elem, ht]
theorem cut_lh (ht : P.underlying t = some (.slice e)) (hi : P.info? e = some i) (hs : i.size = 1) (A : Option Addr) (n c lo hi' : Nat) (h1 : lo ≤ hi') (h2 : hi' ≤ c) (l h : Int) (hl : l = (lo : Int)) (hh : h = (hi' : Int)) :
    ∃ A', (A' = if c = lo then A else A.map (·.add lo)) ∧ ∀ w : World, (Instr.sliceAt t (.slice A n c) (some (.int .i64 l)) (some (.int .i64 h)) none).run P w = .ok (.slice A' (hi' - lo) (c - lo)) w := by
  refine ⟨_, rfl, fun w => ?_⟩
  subst hl hh
  have he := elem_of ht
  rw [run_sliceAt_slice w t _ _ _ _ (by rw [he]; exact ht), run_slice_lh w t A n c (by rw [he]; exact ht) .i64 .i64 _ _ (by omega) (by omega) (by omega), he]
  simp [sizeOf, typeInfo, hi, hs, sliced]
theorem cut_h (ht : P.underlying t = some (.slice e)) (hi : P.info? e = some i) (hs : i.size = 1) (A : Option Addr) (n c hi' : Nat) (h2 : hi' ≤ c) (h : Int) (hh : h = (hi' : Int)) :
    ∀ w : World, (Instr.sliceAt t (.slice A n c) none (some (.int .i64 h)) none).run P w = .ok (.slice A hi' c) w := fun w => by
  subst hh
  have he := elem_of ht
  rw [run_sliceAt_slice w t _ _ _ _ (by rw [he]; exact ht), run_slice_h w t A n c (by rw [he]; exact ht) .i64 _ (by omega) (by omega), he]
  simp [sizeOf, typeInfo, hi, hs, sliced]
  cases A <;> simp [Addr.add]
theorem cut_l (ht : P.underlying t = some (.slice e)) (hi : P.info? e = some i) (hs : i.size = 1) (A : Option Addr) (n c lo : Nat) (h1 : lo ≤ n) (l : Int) (hl : l = (lo : Int)) :
    ∃ A', (A' = if c = lo then A else A.map (·.add lo)) ∧ ∀ w : World, (Instr.sliceAt t (.slice A n c) (some (.int .i64 l)) none none).run P w = .ok (.slice A' (n - lo) (c - lo)) w := by
  refine ⟨_, rfl, fun w => ?_⟩
  subst hl
  have he := elem_of ht
  rw [run_sliceAt_slice w t _ _ _ _ (by rw [he]; exact ht), run_slice_l w t A n c (by rw [he]; exact ht) .i64 _ (by omega) (by omega), he]
  simp [sizeOf, typeInfo, hi, hs, sliced]
end
end Go.Proofs.Ytcandokefhbneaa
