/-
  A node as an argument, by value, opened.
-/
import Derived.Test.YtceefoopehoalaaOpen
import Derived.Test.YtceefoopehoalaaNdC
import Derived.Lib.SmallJoins
import Derived.Deep.Fields
import Derived.ChangeSame
namespace Go.Proofs.Ytceefoopehoalaa
open Go.Joins Go.ChangeShapes Go.WideShapes Go.ChangeAt Go.RowKit Go.Deep
section
variable {H : Type} {enc : TypeId × Value → H} {P : Program} {w : World} {base : Nat} {held : Bool}
theorem open_cellsI {q : TypeId} (hq : P.underlying q = some (.int .i64)) : ∀ vs : List Value, (∀ v ∈ vs, ∃ n y, DataW.trod enc P w base (fun _ => true) held n q [v] = some y) → ∃ l, vs = cellsI l
  | [], _ => ⟨[], rfl⟩
  | v :: vs, h => by
    obtain ⟨l, hl⟩ := open_cellsI hq vs fun u hu => h u (List.mem_cons_of_mem _ hu)
    obtain ⟨n, y, hy⟩ := h v (List.mem_cons_self ..)
    obtain ⟨k, e1, _, _⟩ := DataW.trod_int hq hy
    injection e1 with e1
    exact ⟨k :: l, by rw [e1, hl]; rfl⟩
theorem open_node {r : Reach} {b0 : Nat} {t tb tt ti te tu tn : TypeId} {f0 f1 f2 f3 : Field} {v : Value} {d : DataW H} {p : List MemPlace} (hs : P.underlying t = some (.struct #[f0, f1, f2, f3])) (hone : oneCellFields P #[f0, f1, f2, f3] = true) (hC : P.cellsOf t = 4)
    (e0 : f0.type = tb) (e1 : f1.type = tt) (e2 : f2.type = tt) (e3 : f3.type = ti) (hb : P.underlying tb = some .bool) (htt : P.underlying tt = some (.slice te)) (hte : P.underlying te = some (.slice tu)) (htu : P.underlying tu = some (.int .u8)) (ce : P.cellsOf te = 1) (cu : P.cellsOf tu = 1)
    (hti : P.underlying ti = some (.slice tn)) (htn : P.underlying tn = some (.int .i64)) (cn : P.cellsOf tn = 1)
    (hv : Value.okWide P w r b0 t v) (h : DataW.Trod enc P w base (fun _ => true) held t v d p) :
    ∃ (n : Nd) (K V D : Value), v = ndVal n.leaf K V D ∧ NdIs w w.heap.size K V D n := by
  obtain ⟨v0, v1, v2, v3, y0, y1, y2, y3, n, rfl, _, _, h0, h1, h2, h3⟩ := open_agg4 hs hone hC hv h
  rw [e0] at h0
  rw [e1] at h1
  rw [e2] at h2
  rw [e3] at h3
  obtain ⟨b, k1, _⟩ := DataW.trod_bool hb h0
  injection k1 with k1
  subst k1
  obtain ⟨ks, hks⟩ := open_texts htt hte htu ce cu h1
  obtain ⟨vs, hvs⟩ := open_texts htt hte htu ce cu h2
  obtain ⟨ds, hds, hd2⟩ := open_rd hti cn h3
  obtain ⟨l, rfl⟩ := open_cellsI htn ds hd2
  exact ⟨⟨b, ks, vs, l⟩, v1, v2, v3, rfl, hks, hvs, hds⟩
end
end Go.Proofs.Ytceefoopehoalaa
