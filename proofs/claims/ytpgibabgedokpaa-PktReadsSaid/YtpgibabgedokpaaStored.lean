/-
  Cells in a row, stored as one value; an array by value, indexed: laws.
-/
import Derived.Test.YtpgibabgedokpaaDevA
namespace Go.Proofs.Ytpgibabgedokpaa
open Go.RowKit
/-- Cells in a row, stored as one value. -/
theorem store_agg {P : Program} {w : World} {g : Nat} {t : TypeId} {cs : List Value} (hg : w.heap[g]? = some (.cells cs.toArray t (0, 0))) {ys : List Value} (h1 : ∀ u ∈ ys, u.oneCell' = true) {o : Nat} (ho : o + ys.length ≤ cs.length) {ty : TypeId} (hz : (P.info? ty).map (·.size) = some ys.length) :
    ∃ w', (Instr.storeAt ty (.pointer (some ⟨g, o, none⟩)) (.agg ys.toArray)).run P w = .ok () w' ∧ w'.heap[g]? = some (.cells (cs.take o ++ ys ++ cs.drop (o + ys.length)).toArray t (0, 0)) ∧ w.grownBy w' (some g) ∧ w'.heap.size = w.heap.size := by
  have h := run_storeCells_at P g o t ys 0 cs.toArray w hg (by simp; omega) h1
  cases hq : P.info? ty with
  | none => simp [hq] at hz
  | some i =>
    have hs : i.size = ys.length := by simpa [hq] using hz
    simp only [Nat.add_zero] at h
    refine ⟨w.setRow g (cs.take o ++ ys ++ cs.drop (o + ys.length)).toArray, ?_, setRow_heap w g cs.toArray _ t (0, 0) hg, ⟨rfl, rfl, rfl, by simp, fun k hk hne => setRow_other w g k _ (fun e => hne (by rw [e]))⟩, by simp⟩
    simp only [Instr.storeAt, Instr.sureAddr, Sem.run_bind, Sem.run_pure, Result.andThen_ok, storeVar, sizeOf, typeInfo]
    simp [hq, Value.cells, hs, h]
/-- A store whose run is known. -/
theorem wpList_stored {P : Program} {w : World} {ops : Array Oper} {rest : List Oper} {o : Oper} {a : Act} {Q : Exit → Act → World → Prop} (hgd : o.guard = none) (t : TypeId) (x y : Operand) (ho : o.op = .store t x y) (vx vy : Value) (hx : a.eval x = vx) (hy : a.eval y = vy) (w' : World)
    (hrun : (Instr.storeAt t vx vy).run P w = .ok () w') (h : wpList P ops Q rest (a.put o.dst undef) w') : wpList P ops Q (o :: rest) a w := by
  refine wpList_plain hgd fun K hK => ?_
  unfold Oper.wp
  rw [exec_store ho hx hy hrun]
  exact hK _ _ h
theorem exec_build0 {ρ : Operand → Value} {o : Oper} {t : TypeId} (ho : o.op = .build t #[]) {v : Value} {P : Program} {w : World} (hrun : (Instr.build t #[]).run P w = .ok v w) : (execOp ρ o).run P w = .ok (.value v) w := by
  unfold execOp
  simp only [ho, List.map_toArray, List.map_nil, Sem.run_bind, hrun, Result.andThen_ok, Sem.run_pure]
theorem exec_index {P : Program} {w : World} {ρ : Operand → Value} {o : Oper} {t : TypeId} {x y : Operand} (ho : o.op = .index t x y) {vx vy v : Value} (hx : ρ x = vx) (hy : ρ y = vy) {w' : World} (hrun : (Instr.index t vx vy).run P w = .ok v w') : (execOp ρ o).run P w = .ok (.value v) w' := by
  unfold execOp
  simp only [ho, hx, hy, Sem.run_bind, hrun, Result.andThen_ok, Sem.run_pure]
/-- An array of one-cell elements by value, indexed. -/
theorem run_index_one {P : Program} {w : World} {t e : TypeId} {n : Nat} {d : TypeDesc} (h : P.underlying t = some (.array n e)) (he : P.underlying e = some d) (hd : d.isRow = false) (hs : (P.info? e).map (·.size) = some 1) (cs : Array Value) (k : IntKind) {i : Nat} (hi : i < n) {v : Value} (hv : cs[i]? = some v) :
    (Instr.index t (.agg cs) (.int k (i : Int))).run P w = .ok v w := by
  cases hq : P.info? e with
  | none => simp [hq] at hs
  | some q =>
    have hs1 : q.size = 1 := by simpa [hq] using hs
    have ha : (isAgg e).run P w = .ok false w := by
      unfold isAgg
      cases d <;> simp_all [TypeDesc.isRow, underlying]
    have h1 : (0 : Int) ≤ (i : Int) ∧ (i : Int) < (n : Int) := by omega
    simp [Instr.index, run_underlying h, asIntOf, part, ha, sizeOf, typeInfo, hq, hs1, hi, hv]
end Go.Proofs.Ytpgibabgedokpaa
