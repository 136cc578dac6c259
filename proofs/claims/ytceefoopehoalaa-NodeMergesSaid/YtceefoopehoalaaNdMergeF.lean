/-
  NodeMerges' law: the node that it makes itself, in its block.
-/
import Derived.Test.YtceefoopehoalaaNdMergeE
namespace Go.Proofs.Ytceefoopehoalaa
open Go.RowKit
/-- All that stands when the law makes its node: both nodes, the key, and what Merge handed back. -/
structure LawM (w0 w : World) (B0 : Nat) (K V D K' V' D' kv : Value) (a b : Nd) (key : List UInt8) (p : Nat) (Kr Vr Dr : Value) (r : Nd) : Prop where
  law : Law2 w0 w B0 K V D K' V' D' kv a b key
  tp : w.heap[p]? = some (.cells #[.bool r.leaf, Kr, Vr, Dr] 27 (0, 0))
  ri : NdIs w B0 Kr Vr Dr r
  pl : p < B0
/-- The law's own node x, in its block q. -/
structure NdMx (w : World) (B0 q : Nat) (lf : Bool) (tK tV tD uK : Value) (ks vs : List (List UInt8)) (ds : List Int) : Prop where
  top : w.heap[q]? = some (.cells #[.bool lf, tK, tV, tD] 27 (0, 0))
  rK : OwnT w B0 B0 uK ks
  rV : OwnT w B0 B0 tV vs
  rD : Mine w B0 3 tD (cellsI ds)
  nK : uK.ownBlock ≠ some q
  nV : tV.ownBlock ≠ some q
  nD : tD.ownBlock ≠ some q
  lo : B0 ≤ q
section
variable {w0 w w' : World} {K V D K' V' D' kv v y Kr Vr Dr tK tV tD uK x : Value} {a b r : Nd} {key : List UInt8} {B B0 base p q : Nat} {lf : Bool} {ls ks vs ms : List (List UInt8)} {ds es : List Int}
theorem Law2.more (h : Law2 w0 w B K V D K' V' D' kv a b key) (h1 : B ≤ B0) (h2 : B0 ≤ w.heap.size) : Law2 w0 w B0 K V D K' V' D' kv a b key :=
  ⟨h.t, h.ia.more h1, h.ib.more h1, h.ik.more h1, Nat.lt_of_lt_of_le h.lt h1, h2⟩
theorem LawM.kept (h : LawM w0 w B0 K V D K' V' D' kv a b key p Kr Vr Dr r) (hb : Below B0 w w') : LawM w0 w' B0 K V D K' V' D' kv a b key p Kr Vr Dr r :=
  ⟨h.law.kept hb, (hb.block _ h.pl).trans h.tp, h.ri.below hb, h.pl⟩
theorem LawM.drew (h : LawM w0 w B0 K V D K' V' D' kv a b key p Kr Vr Dr r) : LawM w0 w.drew B0 K V D K' V' D' kv a b key p Kr Vr Dr r := h.kept (Below.refl _ _).drew
theorem LawM.le (h : LawM w0 w B0 K V D K' V' D' kv a b key p Kr Vr Dr r) : B0 ≤ w.heap.size := h.law.le
theorem OwnT.empty (w : World) (B0 base : Nat) (h : base ≤ w.heap.size) : OwnT (w.alloc (.cells #[] 22)) B0 base (.slice (some ⟨w.heap.size, 0, none⟩) 0 0) [] :=
  ⟨[], Mine.empty w base _ h, rfl, fun k u l h => by simp at h⟩
/-- One cell of a node's block is set: rows stay. -/
theorem Fr.node (j : Nat) (u : Value) : Fr B0 base (some q) w (w.setCell ⟨q, j, none⟩ u) :=
  ⟨by simp, fun k _ _ hn => heap_setCell_other w _ _ u (fun e => hn (by rw [e]))⟩
theorem RowB.node (ht : w.heap[q]? = some (.cells #[.bool lf, tK, tV, tD] 27 (0, 0))) (hq : base ≤ q) : RowB w base (some q) := fun k e => by
  injection e with e
  subst e
  exact ⟨hq, _, _, _, ht, by decide⟩
theorem NdMx.kept (h : NdMx w B0 q lf tK tV tD uK ks vs ds) (hb : Below w.heap.size w w') : NdMx w' B0 q lf tK tV tD uK ks vs ds :=
  ⟨(hb.block _ (Array.getElem?_eq_some_iff.1 h.top).1).trans h.top, h.rK.keep (Fr.below hb) (RowB.none _ _) (Nat.le_refl _) (fun _ _ e => by cases e), h.rV.keep (Fr.below hb) (RowB.none _ _) (Nat.le_refl _) (fun _ _ e => by cases e), h.rD.frK (B0 := B0) (Fr.below hb) (fun _ _ e => by cases e), h.nK, h.nV, h.nD, h.lo⟩
theorem NdMx.drew (h : NdMx w B0 q lf tK tV tD uK ks vs ds) : NdMx w.drew B0 q lf tK tV tD uK ks vs ds := h.kept (Below.refl _ _).drew
theorem NdMx.lt (h : NdMx w B0 q lf tK tV tD uK ks vs ds) : q < w.heap.size := (Array.getElem?_eq_some_iff.1 h.top).1
theorem NdMx.box (h : NdMx w B0 q lf tK tV tD uK ks vs ds) : NdBox w q lf tK tV tD := box_of_top h.top
/-- The first row's store: 'x := api.Node{Leaf: .., Keys: ..}'. -/
theorem NdMx.made (ht : w.heap[q]? = some (.cells #[.bool false, .slice none 0 0, .slice none 0 0, .slice none 0 0] 27 (0, 0))) (hy : OwnT w B0 B0 y ls) (hn : y.ownBlock ≠ some q) (hq : B0 ≤ q) : NdMx (store4 w q lf y (.slice none 0 0) (.slice none 0 0)) B0 q lf y (.slice none 0 0) (.slice none 0 0) y ls [] [] := by
  have hf : Fr B0 B0 (some q) w (store4 w q lf y (.slice none 0 0) (.slice none 0 0)) := ⟨Nat.le_of_eq store4_size.symm, fun k _ _ hn => store4_other (fun e => hn (by rw [e]))⟩
  exact ⟨store4_top ht, hy.keep hf (RowB.node ht hq) (Nat.le_refl _) (fun k h1 h2 => hn (h1.trans h2.symm)), OwnT.nil _ _ _, Mine.nil _ _ _, hn, (fun h => by cases h), (fun h => by cases h), hq⟩
theorem NdMx.appK (h : NdMx w B0 q lf tK (.slice none 0 0) (.slice none 0 0) uK ks [] []) (hx : RdT w B0 B0 x ms) (hs : ks.length + ms.length ≤ 1000000) (hB : B0 ≤ w.heap.size) :
    ∃ A n c w', (Builtin.append_ #[24, 24] 24 #[uK, x]).run Try.prog w = .ok (.slice A n c) w' ∧ NdMx w' B0 q lf tK (.slice none 0 0) (.slice none 0 0) (.slice A n c) (ks ++ ms) [] [] ∧ Below B0 w w' := by
  obtain ⟨A, n, c, w', hrun, ho, hg, hb, hv⟩ := h.rK.append hx (by omega) hB (Nat.le_refl _)
  have hq : w'.heap[q]? = w.heap[q]? := hg.block q h.lt (fun e => h.nK e.symm)
  refine ⟨A, n, c, w', hrun, ⟨hq.trans h.top, ho, OwnT.nil _ _ _, Mine.nil _ _ _, ?_, (fun h => by cases h), (fun h => by cases h), h.lo⟩, hb⟩
  rcases hv with e | e
  · rw [e]; exact h.nK
  · rw [e]; intro e2; injection e2 with e2; have := h.lt; omega
theorem NdMx.setK (h : NdMx w B0 q lf tK tV tD uK ks vs ds) : NdMx (w.setCell ⟨q, 1, none⟩ uK) B0 q lf uK tV tD uK ks vs ds := by
  have hf : Fr B0 B0 (some q) w (w.setCell ⟨q, 1, none⟩ uK) := Fr.node 1 uK
  have hr := RowB.node h.top h.lo
  exact ⟨heap_setCell_same w q 1 _ _ uK h.top, h.rK.keep hf hr (Nat.le_refl _) (fun k h1 h2 => h.nK (h1.trans h2.symm)), h.rV.keep hf hr (Nat.le_refl _) (fun k h1 h2 => h.nV (h1.trans h2.symm)), h.rD.frK hf (fun k h1 h2 => h.nD (h1.trans h2.symm)), h.nK, h.nV, h.nD, h.lo⟩
theorem NdMx.putV (h : NdMx w B0 q lf tK tV tD uK ks vs ds) (hy : OwnT w B0 base y ls) (hb : q < base) : NdMx (w.setCell ⟨q, 2, none⟩ y) B0 q lf tK y tD uK ks ls ds := by
  have hf : Fr B0 B0 (some q) w (w.setCell ⟨q, 2, none⟩ y) := Fr.node 2 y
  have hr := RowB.node h.top h.lo
  have hy' := hy.weaken (b1 := B0) (by have := h.lo; omega)
  have hn : y.ownBlock ≠ some q := fun e => by have := (hy.block _ e).1; omega
  exact ⟨heap_setCell_same w q 2 _ _ y h.top, h.rK.keep hf hr (Nat.le_refl _) (fun k h1 h2 => h.nK (h1.trans h2.symm)), hy'.keep hf hr (Nat.le_refl _) (fun k h1 h2 => hn (h1.trans h2.symm)), h.rD.frK hf (fun k h1 h2 => h.nD (h1.trans h2.symm)), h.nK, hn, h.nD, h.lo⟩
theorem NdMx.putD (h : NdMx w B0 q lf tK tV tD uK ks vs ds) (hy : Mine w base 3 y (cellsI es)) (hb : q < base) : NdMx (w.setCell ⟨q, 3, none⟩ y) B0 q lf tK tV y uK ks vs es := by
  have hf : Fr B0 B0 (some q) w (w.setCell ⟨q, 3, none⟩ y) := Fr.node 3 y
  have hr := RowB.node h.top h.lo
  have hy' := hy.weaken (base' := B0) (by have := h.lo; omega)
  have hn : y.ownBlock ≠ some q := fun e => by have := (hy.block _ e).1; omega
  exact ⟨heap_setCell_same w q 3 _ _ y h.top, h.rK.keep hf hr (Nat.le_refl _) (fun k h1 h2 => h.nK (h1.trans h2.symm)), h.rV.keep hf hr (Nat.le_refl _) (fun k h1 h2 => h.nV (h1.trans h2.symm)), hy'.frK hf (fun k h1 h2 => hn (h1.trans h2.symm)), h.nK, h.nV, hn, h.lo⟩
theorem NdMx.is (h : NdMx w B0 q lf tK tV tD tK ks vs ds) : NdIs w w.heap.size tK tV tD ⟨lf, ks, vs, ds⟩ := ⟨h.rK.rd, h.rV.rd, h.rD.rd⟩
theorem LawM.set (h : LawM w0 w B0 K V D K' V' D' kv a b key p Kr Vr Dr r) (hq : B0 ≤ q) (j : Nat) : LawM w0 (w.setCell ⟨q, j, none⟩ v) B0 K V D K' V' D' kv a b key p Kr Vr Dr r :=
  h.kept ((Below.refl _ _).setCell (p := ⟨q, j, none⟩) hq v)
end
end Go.Proofs.Ytceefoopehoalaa
