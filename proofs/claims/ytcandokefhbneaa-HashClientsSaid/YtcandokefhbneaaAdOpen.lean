/-
  A prefix as an argument, by value, opened.
-/
import Derived.Test.YtcandokefhbneaaAdPfx
import Derived.Test.YtcandokefhbneaaAdOpenA
import Derived.ChangeSame
namespace Go.Proofs.Ytcandokefhbneaa
open Go.ChangeShapes Go.WideShapes Go.ChangeAt Go.RowKit Go.Deep
section
variable {H : Type} {enc : TypeId × Value → H} {w : World} {base : Nat} {held : Bool}
theorem cells_pf {m : Nat} {cs : List Value} {y : DataW H × List MemPlace} (h : DataW.trod enc Try.prog w base (fun _ => true) held m 38 cs = some y) : ∃ p : Pf, p.a.Wide ∧ cs = pfC p ∧ -9223372036854775808 ≤ p.bits ∧ p.bits ≤ 9223372036854775807 := by
  obtain ⟨y0, y1, n, _, hl, h0, h1⟩ := trod_struct2 Try.underlying38 h
  dsimp only at h0 h1
  rw [show Try.prog.cellsOf 38 = 18 by kernel_rfl] at hl
  rw [show Try.prog.cellsOf 31 = 17 by kernel_rfl, List.drop_zero] at h0
  rw [show Try.prog.cellsOf 3 = 1 by kernel_rfl, List.take_of_length_le (by rw [List.length_drop]; omega)] at h1
  obtain ⟨a, ha, k1⟩ := cells_ad h0
  obtain ⟨k, k2, _, kw⟩ := DataW.trod_int Try.underlying3 h1
  have hb : -9223372036854775808 ≤ k ∧ k ≤ 9223372036854775807 := by simpa [Lit.wf, IntKind.min, IntKind.max, IntKind.bits, IntKind.signed] using kw
  refine ⟨⟨a, k⟩, ha, ?_, hb⟩
  rw [← List.take_append_drop 17 cs, k1, k2]
  rfl
set_option maxRecDepth 10000 in
theorem open_prefix {r : Reach} {b0 : Nat} {v : Value} {d : DataW H} {p : List MemPlace} (hv : Value.okWide Try.prog w r b0 38 v) (h : DataW.Trod enc Try.prog w base (fun _ => true) held 38 v d p) : ∃ q : Pf, v = pfV q ∧ q.a.Wide ∧ -9223372036854775808 ≤ q.bits ∧ q.bits ≤ 9223372036854775807 := by
  simp only [Value.okWide, Try.underlying38] at hv
  obtain ⟨cs, rfl, _⟩ := hv
  obtain ⟨m, hm⟩ := h
  obtain ⟨a, ha, e, hb⟩ := cells_pf hm
  refine ⟨a, ?_, ha, hb⟩
  rw [pfV, ← e]
  rfl
end
end Go.Proofs.Ytcandokefhbneaa
