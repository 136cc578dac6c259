/-
  What the laws of layer 7 share: a node that was cut off, in its block; calls on it.
-/
import Derived.Test.YtceefoopehoalaaNdCopied
import Derived.Test.YtceefoopehoalaaNdRefB
import Derived.Test.YtceefoopehoalaaNdSame
namespace Go.Proofs.Ytceefoopehoalaa
open Go.RowKit
theorem cutNd_short (n : Nd) : (cutNd n).keys.length ≤ 40 ∧ (cutNd n).vals.length ≤ 40 ∧ (cutNd n).kids.length ≤ 41 := ⟨cutL_len _, cutL_len _, by simp [cutNd]; omega⟩
theorem getD_mem {α : Type} (l : List α) (d : α) {j : Nat} (h : j < l.length) : l.getD j d ∈ l := by
  simp [List.getD, h]
theorem cutNd_key (n : Nd) : ∀ j, j < (cutNd n).keys.length → ((cutNd n).keys.getD j []).length ≤ 26 := fun _ h => cutL_each _ _ (getD_mem _ _ h)
theorem cutNd_val (n : Nd) : ∀ j, j < (cutNd n).vals.length → ((cutNd n).vals.getD j []).length ≤ 26 := fun _ h => cutL_each _ _ (getD_mem _ _ h)
/-- A node as the laws have it. -/
structure Nd.Cut (m : Nd) : Prop where
  k : m.keys.length ≤ 40
  v : m.vals.length ≤ 40
  d : m.kids.length ≤ 41
  key : ∀ j, j < m.keys.length → (m.keys.getD j []).length ≤ 26
  val : ∀ j, j < m.vals.length → (m.vals.getD j []).length ≤ 26
  same : cutNd m = m
theorem cutL_again (ls : List (List UInt8)) : cutL (cutL ls) = cutL ls := cutL_same (cutL_len ls) (cutL_each ls)
theorem cutNd_cut (n : Nd) : (cutNd n).Cut := by
  obtain ⟨h1, h2, h3⟩ := cutNd_short n
  refine ⟨h1, h2, h3, cutNd_key n, cutNd_val n, ?_⟩
  refine Nd.ext' rfl (cutL_again _) (cutL_again _) ?_
  show (n.kids.take 41).take 41 = n.kids.take 41
  rw [List.take_take, Nat.min_self]
theorem Nd.Cut.short {m : Nd} (h : m.Cut) : m.Short 1000000 := ⟨by have := h.k; omega, by have := h.v; omega, by have := h.d; omega⟩
theorem Nd.Cut.small {m : Nd} (h : m.Cut) : m.Small := ⟨fun j hj => by have := h.key j hj; omega, fun j hj => by have := h.val j hj; omega⟩
/-- The law's node in its block. -/
structure LawN (w0 w : World) (K V D : Value) (m : Nd) : Prop where
  top : w.heap[w0.heap.size]? = some (.cells #[.bool m.leaf, K, V, D] 27 (0, 0))
  is : NdIs w w.heap.size K V D m
  below : Below w0.heap.size w0 w
section
variable {w0 w w' : World} {K V D K' V' D' : Value} {m : Nd} {lf : Bool}
theorem LawN.lt (h : LawN w0 w K V D m) : w0.heap.size < w.heap.size := (Array.getElem?_eq_some_iff.1 h.top).1
theorem LawN.kept (h : LawN w0 w K V D m) (hb : Below w.heap.size w w') : LawN w0 w' K V D m := ⟨(hb.block _ h.lt).trans h.top, (h.is.below hb).more hb.size, up h.below hb⟩
theorem LawN.box (h : LawN w0 w K V D m) : NdBox w w0.heap.size m.leaf K V D := box_of_top h.top
/-- 'n = Few(n)', behind the store. -/
theorem LawN.start {b1 : Nat} {a0 a1 a2 a3 : Value} (ht : w.heap[w0.heap.size]? = some (.cells #[a0, a1, a2, a3] 27 (0, 0))) (hn : NdNew w b1 K V D m) (hb1 : w0.heap.size < b1) (hb : Below w0.heap.size w0 w) :
    LawN w0 (store4 w w0.heap.size m.leaf K V D) K V D m := by
  refine ⟨store4_top ht, ?_, hb.trans (store4_below (Nat.le_refl _))⟩
  exact (hn.store4 hb1).is
theorem LawN.few (h : LawN w0 w K V D m) (hc : m.Cut) : Calls Try.prog 14 #[ndVal m.leaf K V D] w fun e w' => ∃ K' V' D', e = .returned (ndVal m.leaf K' V' D') ∧ NdIs w' w'.heap.size K' V' D' m ∧ LawN w0 w' K V D m ∧ Below w.heap.size w w' := by
  refine (fewNd_any h.is).mono ?_
  rintro e w' ⟨K', V', D', rfl, hn, hb⟩
  rw [hc.same] at hn
  exact ⟨K', V', D', rfl, hn.is, h.kept hb, hb⟩
theorem LawN.sound (h : LawN w0 w K V D m) (hc : m.Cut) : Calls Try.prog 15 #[ndVal m.leaf K V D] w fun e w' => e = .returned (.bool (sndB m)) ∧ LawN w0 w' K V D m ∧ Below w.heap.size w w' :=
  (rsound_any h.is (Nat.le_refl _) hc.short hc.small.1).mono (by rintro e w' ⟨rfl, hb⟩; exact ⟨rfl, h.kept hb, hb⟩)
theorem LawN.lives (h : LawN w0 w K V D m) : Calls Try.prog 13 #[] w fun e w' => e = .returned (.bool true) ∧ Below w0.heap.size w0 w' :=
  (lives07_any w).mono (by rintro e w' ⟨rfl, hb⟩; exact ⟨rfl, up h.below hb⟩)
end
end Go.Proofs.Ytceefoopehoalaa
