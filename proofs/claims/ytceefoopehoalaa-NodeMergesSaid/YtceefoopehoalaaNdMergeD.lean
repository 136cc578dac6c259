/-
  What NodeMerges' law has: two nodes and a key, cut, in their blocks.
-/
import Derived.Test.YtceefoopehoalaaNdMergeC
import Derived.Test.YtceefoopehoalaaNdLaw
namespace Go.Proofs.Ytceefoopehoalaa
open Go.RowKit
/-- Two nodes' blocks. -/
structure Tops (w0 w : World) (la : Bool) (K V D : Value) (lb : Bool) (K' V' D' : Value) : Prop where
  ta : w.heap[w0.heap.size]? = some (.cells #[.bool la, K, V, D] 27 (0, 0))
  tb : w.heap[w0.heap.size + 1]? = some (.cells #[.bool lb, K', V', D'] 27 (0, 0))
  below : Below w0.heap.size w0 w
section
variable {w0 w w' : World} {la lb l2 : Bool} {K V D K' V' D' K2 V2 D2 kv : Value} {a b : Nd} {key : List UInt8} {B : Nat}
theorem Tops.lt (h : Tops w0 w la K V D lb K' V' D') : w0.heap.size + 1 < w.heap.size := (Array.getElem?_eq_some_iff.1 h.tb).1
theorem Tops.kept (h : Tops w0 w la K V D lb K' V' D') (hb : Below w.heap.size w w') : Tops w0 w' la K V D lb K' V' D' :=
  ⟨(hb.block _ (by have := h.lt; omega)).trans h.ta, (hb.block _ h.lt).trans h.tb, up h.below hb⟩
theorem Tops.drew (h : Tops w0 w la K V D lb K' V' D') : Tops w0 w.drew la K V D lb K' V' D' := h.kept (Below.refl _ _).drew
theorem Tops.cells (h : Tops w0 w la K V D lb K' V' D') : w.cell? ⟨w0.heap.size, 0, none⟩ = some (.bool la) ∧ w.cell? ⟨w0.heap.size, 1, none⟩ = some K ∧ w.cell? ⟨w0.heap.size, 2, none⟩ = some V ∧ w.cell? ⟨w0.heap.size, 3, none⟩ = some D ∧
    w.cell? ⟨w0.heap.size + 1, 0, none⟩ = some (.bool lb) ∧ w.cell? ⟨w0.heap.size + 1, 1, none⟩ = some K' ∧ w.cell? ⟨w0.heap.size + 1, 2, none⟩ = some V' ∧ w.cell? ⟨w0.heap.size + 1, 3, none⟩ = some D' := by
  obtain ⟨a0, a1, a2, a3⟩ := box_of_top h.ta
  obtain ⟨b0, b1, b2, b3⟩ := box_of_top h.tb
  exact ⟨a0, a1, a2, a3, b0, b1, b2, b3⟩
theorem Tops.start : Tops w0 ((w0.alloc (.cells #[.bool la, K, V, D] 27)).alloc (.cells #[.bool lb, K', V', D'] 27)) la K V D lb K' V' D' := by
  obtain ⟨wa, ha⟩ : ∃ x, x = w0.alloc (.cells #[.bool la, K, V, D] 27) := ⟨_, rfl⟩
  have e1 : wa.heap.size = w0.heap.size + 1 := by rw [ha]; simp
  have ta : wa.heap[w0.heap.size]? = some (.cells #[.bool la, K, V, D] 27 (0, 0)) := by rw [ha]; exact heap_alloc_last _ _
  have l0 : Below w0.heap.size w0 wa := by rw [ha]; exact (Below.refl _ _).alloc (Nat.le_refl _) _
  rw [← ha]
  have l1 := (Below.refl wa.heap.size wa).alloc (Nat.le_refl _) (.cells #[.bool lb, K', V', D'] 27)
  exact ⟨(l1.block _ (by omega)).trans ta, by rw [← e1]; exact heap_alloc_last _ _, up l0 l1⟩
theorem Tops.storeA (h : Tops w0 w la K V D lb K' V' D') : Tops w0 (store4 w w0.heap.size l2 K2 V2 D2) l2 K2 V2 D2 lb K' V' D' :=
  ⟨store4_top h.ta, (store4_other (by omega)).trans h.tb, h.below.trans (store4_below (Nat.le_refl _))⟩
theorem Tops.storeB (h : Tops w0 w la K V D lb K' V' D') : Tops w0 (store4 w (w0.heap.size + 1) l2 K2 V2 D2) la K V D l2 K2 V2 D2 :=
  ⟨(store4_other (by omega)).trans h.ta, store4_top h.tb, h.below.trans (store4_below (by omega))⟩
/-- The law's nodes and key. -/
structure Law2 (w0 w : World) (B : Nat) (K V D K' V' D' kv : Value) (a b : Nd) (key : List UInt8) : Prop where
  t : Tops w0 w a.leaf K V D b.leaf K' V' D'
  ia : NdIs w B K V D a
  ib : NdIs w B K' V' D' b
  ik : Rd w B kv (cellsB key)
  lt : w0.heap.size + 1 < B
  le : B ≤ w.heap.size
theorem Law2.kept (h : Law2 w0 w B K V D K' V' D' kv a b key) (hb : Below B w w') : Law2 w0 w' B K V D K' V' D' kv a b key :=
  ⟨⟨(hb.block _ (by have := h.lt; omega)).trans h.t.ta, (hb.block _ h.lt).trans h.t.tb, h.t.below.trans (hb.mono (by have := h.lt; omega))⟩, h.ia.below hb, h.ib.below hb, h.ik.below hb, h.lt, Nat.le_trans h.le hb.size⟩
theorem Law2.drew (h : Law2 w0 w B K V D K' V' D' kv a b key) : Law2 w0 w.drew B K V D K' V' D' kv a b key := h.kept (Below.refl _ _).drew
end
end Go.Proofs.Ytceefoopehoalaa
