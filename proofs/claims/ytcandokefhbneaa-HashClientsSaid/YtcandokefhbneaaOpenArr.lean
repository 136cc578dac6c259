/-
  An array that came in by value, opened: its cells; of bytes: its bytes.
-/
import Derived.Test.YtcandokefhbneaaOpen
namespace Go.Proofs.Ytcandokefhbneaa
open Go.ChangeShapes Go.WideShapes Go.ChangeAt Go.RowKit Go.Deep
section
variable {H : Type} {enc : TypeId × Value → H} {P : Program} {w : World} {base : Nat} {held : Bool}
/-- An array of one-cell elements, by value: its cells, and that each reads. -/
theorem open_arr {r : Reach} {b0 : Nat} {t e : TypeId} {n : Nat} {v : Value} {d : DataW H} {p : List MemPlace} (ht : P.underlying t = some (.array n e)) (ce : P.cellsOf e = 1) (ct : P.cellsOf t = n)
    (hv : Value.okWide P w r b0 t v) (h : DataW.Trod enc P w base (fun _ => true) held t v d p) :
    ∃ vs : List Value, v = .agg vs.toArray ∧ vs.length = n ∧ ∀ u ∈ vs, ∃ m y, DataW.trod enc P w base (fun _ => true) held m e [u] = some y := by
  simp only [Value.okWide, ht] at hv
  obtain ⟨cs, rfl, h2, _⟩ := hv
  rw [ct] at h2
  obtain ⟨fuel, hf⟩ := h
  obtain ⟨vs⟩ := cs
  have hl : vs.length = n := h2
  refine ⟨vs, rfl, hl, fun u hu => ?_⟩
  cases fuel with
  | zero => simp [DataW.trod] at hf
  | succ m =>
    unfold DataW.trod at hf
    rw [ht] at hf
    simp only [Value.cells, ct, ce] at hf
    rw [if_pos hl] at hf
    rw [Option.map_eq_some_iff] at hf
    obtain ⟨ys, hy, _⟩ := hf
    obtain ⟨k, hk, rfl⟩ := List.mem_iff_getElem.1 hu
    have hlen := mapM_some_length hy
    have hget := mapM_some_get hy k k (by rw [List.getElem?_range (by omega)])
    have hk2 : k < ys.length := by rw [hlen, List.length_range]; omega
    rw [List.getElem?_eq_getElem hk2] at hget
    refine ⟨m, ys[k], ?_⟩
    rw [← hget]
    congr 1
    simp [List.take_one, List.head?_drop, hk]
/-- The same of bytes. -/
theorem open_bytesN {r : Reach} {b0 : Nat} {t e : TypeId} {n : Nat} {v : Value} {d : DataW H} {p : List MemPlace} (ht : P.underlying t = some (.array n e)) (he : P.underlying e = some (.int .u8)) (ce : P.cellsOf e = 1) (ct : P.cellsOf t = n)
    (hv : Value.okWide P w r b0 t v) (h : DataW.Trod enc P w base (fun _ => true) held t v d p) :
    ∃ l : List UInt8, v = .agg (cellsB l).toArray ∧ l.length = n := by
  obtain ⟨vs, rfl, hl, hr⟩ := open_arr ht ce ct hv h
  obtain ⟨l, rfl⟩ := open_cellsB he vs hr
  exact ⟨l, rfl, by rw [← hl, cellsB_length]⟩
end
end Go.Proofs.Ytcandokefhbneaa
