/-
  Prefixes in memory.
-/
import Derived.Test.YtcandokefhbneaaAdC
namespace Go.Proofs.Ytcandokefhbneaa
open Go.RowKit
/-- A prefix in a block of its own. -/
def PfAt (w : World) (g : Nat) (p : Pf) : Prop := w.heap[g]? = some (.cells (pfC p).toArray 38 (0, 0))
theorem PfAt.lt {w : World} {g : Nat} {p : Pf} (h : PfAt w g p) : g < w.heap.size := (Array.getElem?_eq_some_iff.1 h).1
theorem PfAt.below {w w' : World} {g B : Nat} {p : Pf} (h : PfAt w g p) (hb : Below B w w') (hB : g < B) : PfAt w' g p := (hb.block g hB).trans h
theorem zero_pf (w : World) : (zeroValue 38).run Try.prog w = .ok (pfV Pf.zero) w := by
  rw [Try.zeroValue38]
  simp [pfC, Pf.zero, adC, Ad.zero, cellsB]
theorem info_pf {p : Pf} (h : p.a.Wide) : (Try.prog.info? 38).map (·.size) = some (pfC p).length := by rw [pfC_length h]; kernel_rfl
theorem info_pfA {p : Pf} (h : p.a.Wide) : (Try.prog.info? 38).map (·.size) = some (pfC p).toArray.size := by rw [List.size_toArray]; exact info_pf h
theorem store_pf {w : World} {g : Nat} {a b : Pf} (hg : PfAt w g a) (ha : a.a.Wide) (hb : b.a.Wide) : ∃ w', (Instr.storeAt 38 (.pointer (some ⟨g, 0, none⟩)) (pfV b)).run Try.prog w = .ok () w' ∧ (storeCells ⟨g, 0, none⟩ (pfC b)).run Try.prog w = .ok () w' ∧ PfAt w' g b ∧ w.grownBy w' (some g) ∧ w'.heap.size = w.heap.size := by
  have h := run_storeCells_at Try.prog g 0 38 (pfC b) 0 (pfC a).toArray w hg (by simp [pfC_length ha, pfC_length hb]) (pfC_one b)
  have e : (pfC a).take 0 ++ pfC b ++ (pfC a).drop (0 + (pfC b).length) = pfC b := by simp [pfC_length ha, pfC_length hb]
  simp only [Nat.add_zero] at h
  rw [e] at h
  have hs : (Try.prog.info? 38).map (·.size) = some 18 := by kernel_rfl
  cases hq : Try.prog.info? 38 with
  | none => simp [hq] at hs
  | some i =>
    have hi : i.size = 18 := by simpa [hq] using hs
    refine ⟨_, ?_, h, ?_, ⟨rfl, rfl, rfl, by simp, fun k hk hne => setRow_other w g k _ (fun e => hne (by rw [e]))⟩, by simp⟩
    · simp only [Instr.storeAt, Instr.sureAddr, Sem.run_bind, Sem.run_pure, Result.andThen_ok, storeVar, sizeOf, typeInfo]
      simp [hq, Value.cells, hi, h, pfC_length hb]
    · exact setRow_heap w g (pfC a).toArray (pfC b).toArray _ (0, 0) hg
theorem ret_pf {fn : Func} {p q : Tmp} (h : fn.results = #[.cell p 38, .tmp q]) {tmps : Array Value} {w : World} {g : Nat} {a : Pf} {b : Bool} (hp : tmps.getD p undef = .pointer (some ⟨g, 0, none⟩)) (hg : PfAt w g a) (ha : a.a.Wide) (hq : tmps.getD q undef = .bool b) :
    (results fn tmps).run Try.prog w = .ok (.tuple #[pfV a, .bool b]) w := by
  rw [← hq]
  exact results_cell_tmp h tmps w g 38 (pfC a).toArray (0, 0) _ hp hg Try.underlying38 rfl (info_pfA ha)
end Go.Proofs.Ytcandokefhbneaa
