/-
  Merge of package node at work.
-/
import Derived.Test.YtceefoopehoalaaNdCopied
namespace Go.Proofs.Ytceefoopehoalaa
open Go.RowKit
/-- Two nodes in their blocks, and where the answer comes. -/
structure MgS (w0 w : World) (la : Bool) (K V D : Value) (lb : Bool) (K' V' D' : Value) : Prop where
  boxA : NdBox w w0.heap.size la K V D
  boxB : NdBox w (w0.heap.size + 1) lb K' V' D'
  out : w.heap[w0.heap.size + 1 + 1]? = some (.cells #[.bool false, .slice none 0 0, .slice none 0 0, .slice none 0 0] 27 (0, 0))
  below : Below w0.heap.size w0 w
/-- The node that comes of them, in its block N. -/
structure MgW (w0 w : World) (N : Nat) (la : Bool) (K V D : Value) (lb : Bool) (K' V' D' : Value) (tK tV tD : Value) (ks vs : List (List UInt8)) (ds : List Int) : Prop where
  s : MgS w0 w la K V D lb K' V' D'
  top : w.heap[N]? = some (.cells #[.bool la, tK, tV, tD] 27 (0, 0))
  lo : w0.heap.size + 1 + 1 < N
  rK : OwnT w w0.heap.size (N + 1) tK ks
  rV : OwnT w w0.heap.size (N + 1) tV vs
  rD : Mine w (N + 1) 3 tD (cellsI ds)
section
variable {w0 w w' : World} {N : Nat} {la lb : Bool} {K V D K' V' D' tK tV tD v kv : Value} {ks vs ls : List (List UInt8)} {ds es : List Int} {n m : Nd} {key : List UInt8}
theorem MgS.lt (h : MgS w0 w la K V D lb K' V' D') : w0.heap.size + 1 + 1 < w.heap.size := (Array.getElem?_eq_some_iff.1 h.out).1
theorem MgS.kept (h : MgS w0 w la K V D lb K' V' D') (hb : Below w.heap.size w w') : MgS w0 w' la K V D lb K' V' D' :=
  ⟨h.boxA.later h.boxA.lt hb, h.boxB.later h.boxB.lt hb, (hb.block _ h.lt).trans h.out, up h.below hb⟩
theorem MgS.start : MgS w0 (((w0.alloc (.cells #[.bool la, K, V, D] 27)).alloc (.cells #[.bool lb, K', V', D'] 27)).alloc (.cells #[.bool false, .slice none 0 0, .slice none 0 0, .slice none 0 0] 27)) la K V D lb K' V' D' := by
  obtain ⟨wa, ha⟩ : ∃ x, x = w0.alloc (.cells #[.bool la, K, V, D] 27) := ⟨_, rfl⟩
  have e1 : wa.heap.size = w0.heap.size + 1 := by rw [ha]; simp
  have ba := NdBox.made w0 la K V D
  rw [← ha] at ba ⊢
  obtain ⟨wb, hb⟩ : ∃ x, x = wa.alloc (.cells #[.bool lb, K', V', D'] 27) := ⟨_, rfl⟩
  have e2 : wb.heap.size = wa.heap.size + 1 := by rw [hb]; simp
  have bb := NdBox.made wa lb K' V' D'
  have l1 : Below wa.heap.size wa wb := by rw [hb]; exact (Below.refl _ _).alloc (Nat.le_refl _) _
  have l0 : Below w0.heap.size w0 wa := by rw [ha]; exact (Below.refl _ _).alloc (Nat.le_refl _) _
  rw [← hb] at bb ⊢
  have l2 := (Below.refl wb.heap.size wb).alloc (Nat.le_refl _) (.cells #[.bool false, .slice none 0 0, .slice none 0 0, .slice none 0 0] 27)
  refine ⟨(ba.later ba.lt l1).later (by omega) l2, ?_, ?_, up (up l0 l1) l2⟩
  · rw [← e1]; exact bb.later bb.lt l2
  · rw [← e1, ← e2]; exact heap_alloc_last _ _
theorem MgW.start (h : MgS w0 w la K V D lb K' V' D') : MgW w0 (w.alloc (.cells #[.bool la, .slice none 0 0, .slice none 0 0, .slice none 0 0] 27)) w.heap.size la K V D lb K' V' D' (.slice none 0 0) (.slice none 0 0) (.slice none 0 0) [] [] [] :=
  ⟨h.kept ((Below.refl _ _).alloc (Nat.le_refl _) _), heap_alloc_last _ _, h.lt, OwnT.nil _ _ _, OwnT.nil _ _ _, Mine.nil _ _ _⟩
theorem MgW.lt (h : MgW w0 w N la K V D lb K' V' D' tK tV tD ks vs ds) : N < w.heap.size := (Array.getElem?_eq_some_iff.1 h.top).1
theorem MgW.leB (h : MgW w0 w N la K V D lb K' V' D' tK tV tD ks vs ds) : w0.heap.size ≤ N + 1 := by have := h.lo; omega
theorem MgW.keep (h : MgW w0 w N la K V D lb K' V' D' tK tV tD ks vs ds) (hf : Fr w0.heap.size (N + 1) none w w') (hs : MgS w0 w' la K V D lb K' V' D') (ht : w'.heap[N]? = some (.cells #[.bool la, tK, tV, tD] 27 (0, 0))) : MgW w0 w' N la K V D lb K' V' D' tK tV tD ks vs ds :=
  ⟨hs, ht, h.lo, h.rK.keep hf (RowB.none _ _) h.leB (fun _ _ e => by cases e), h.rV.keep hf (RowB.none _ _) h.leB (fun _ _ e => by cases e), h.rD.frK hf (fun _ _ e => by cases e)⟩
theorem MgW.kept (h : MgW w0 w N la K V D lb K' V' D' tK tV tD ks vs ds) (hb : Below w.heap.size w w') : MgW w0 w' N la K V D lb K' V' D' tK tV tD ks vs ds :=
  h.keep (Fr.below hb) (h.s.kept hb) ((hb.block _ h.lt).trans h.top)
theorem MgW.box (h : MgW w0 w N la K V D lb K' V' D' tK tV tD ks vs ds) : NdBox w N la tK tV tD := box_of_top h.top
theorem MgS.set (h : MgS w0 w la K V D lb K' V' D') (hN : w0.heap.size + 1 + 1 < N) (j : Nat) : MgS w0 (w.setCell ⟨N, j, none⟩ v) la K V D lb K' V' D' := by
  have hb : Below N w (w.setCell ⟨N, j, none⟩ v) := (Below.refl _ _).setCell (p := ⟨N, j, none⟩) (Nat.le_refl _) v
  exact ⟨h.boxA.later (by omega) hb, h.boxB.later (by omega) hb, (hb.block _ hN).trans h.out, h.below.trans (hb.mono (by omega))⟩
theorem MgW.putK (h : MgW w0 w N la K V D lb K' V' D' tK tV tD ks vs ds) (hv : OwnT w w0.heap.size (N + 1) v ls) : MgW w0 (w.setCell ⟨N, 1, none⟩ v) N la K V D lb K' V' D' v tV tD ls vs ds := by
  have hf : Fr w0.heap.size (N + 1) none w (w.setCell ⟨N, 1, none⟩ v) := Fr.set (by have := h.lo; omega) (by omega) 1 v
  exact ⟨h.s.set h.lo 1, heap_setCell_same w N 1 _ _ v h.top, h.lo, hv.keep hf (RowB.none _ _) h.leB (fun _ _ e => by cases e), h.rV.keep hf (RowB.none _ _) h.leB (fun _ _ e => by cases e), h.rD.frK hf (fun _ _ e => by cases e)⟩
theorem MgW.putV (h : MgW w0 w N la K V D lb K' V' D' tK tV tD ks vs ds) (hv : OwnT w w0.heap.size (N + 1) v ls) : MgW w0 (w.setCell ⟨N, 2, none⟩ v) N la K V D lb K' V' D' tK v tD ks ls ds := by
  have hf : Fr w0.heap.size (N + 1) none w (w.setCell ⟨N, 2, none⟩ v) := Fr.set (by have := h.lo; omega) (by omega) 2 v
  exact ⟨h.s.set h.lo 2, heap_setCell_same w N 2 _ _ v h.top, h.lo, h.rK.keep hf (RowB.none _ _) h.leB (fun _ _ e => by cases e), hv.keep hf (RowB.none _ _) h.leB (fun _ _ e => by cases e), h.rD.frK hf (fun _ _ e => by cases e)⟩
theorem MgW.putD (h : MgW w0 w N la K V D lb K' V' D' tK tV tD ks vs ds) (hv : Mine w (N + 1) 3 v (cellsI es)) : MgW w0 (w.setCell ⟨N, 3, none⟩ v) N la K V D lb K' V' D' tK tV v ks vs es := by
  have hf : Fr w0.heap.size (N + 1) none w (w.setCell ⟨N, 3, none⟩ v) := Fr.set (by have := h.lo; omega) (by omega) 3 v
  exact ⟨h.s.set h.lo 3, heap_setCell_same w N 3 _ _ v h.top, h.lo, h.rK.keep hf (RowB.none _ _) h.leB (fun _ _ e => by cases e), h.rV.keep hf (RowB.none _ _) h.leB (fun _ _ e => by cases e), hv.frK hf (fun _ _ e => by cases e)⟩
theorem MgW.is (h : MgW w0 w N la K V D lb K' V' D' tK tV tD ks vs ds) : NdIs w w.heap.size tK tV tD ⟨la, ks, vs, ds⟩ := ⟨h.rK.rd, h.rV.rd, h.rD.rd⟩
/-- Two rows, one behind the other. -/
theorem MgW.cat (h : MgW w0 w N la K V D lb K' V' D' tK tV tD ks vs ds) {a b : Value} {l r : List (List UInt8)} (ha : RdAll w0 w0.heap.size a l) (hb : RdAll w0 w0.heap.size b r) (hs : l.length + r.length ≤ 1000000) {M : Nat} (hM : w.heap.size = M) :
    Calls Try.prog 40 #[.slice (some ⟨M, 0, none⟩) 2 2] (w.alloc (.cells #[a, b] 24)) fun e w' => ∃ A n c, e = .returned (.slice A n c) ∧ MgW w0 w' N la K V D lb K' V' D' tK tV tD ks vs ds ∧ OwnT w' w0.heap.size (N + 1) (.slice A n c) (l ++ r) := by
  subst hM
  have hB := h.leB
  have hsz := h.s.below.size
  have hr := RdRowsT.lit2 hB w 24 ((ha.below h.s.below).rdT (base := N + 1) (Nat.le_refl _) hsz) ((hb.below h.s.below).rdT (base := N + 1) (Nat.le_refl _) hsz)
  refine (concatT_any _ 2 2 _ _ _ _ hr (by have := h.lt; simp; omega) hB (by omega) (by simpa using hs)).mono ?_
  rintro e w' ⟨v, rfl, ho, hb⟩
  rw [show [l, r].flatten = l ++ r by simp] at ho
  obtain ⟨ws, hm, _⟩ := id ho
  obtain ⟨A, c, rfl⟩ := hm.form
  exact ⟨A, _, c, rfl, (h.kept ((Below.refl _ _).alloc (Nat.le_refl _) _)).kept hb, ho⟩
/-- Two rows, a key between them. -/
theorem MgW.catKey (h : MgW w0 w N la K V D lb K' V' D' tK tV tD ks vs ds) {a b : Value} {l r : List (List UInt8)} (ha : RdAll w0 w0.heap.size a l) (hk : Rd w0 w0.heap.size kv (cellsB key)) (hb : RdAll w0 w0.heap.size b r) (hs : l.length + r.length ≤ 100000) {M : Nat} (hM : w.heap.size = M) :
    Calls Try.prog 40 #[.slice (some ⟨M + 1, 0, none⟩) 3 3] ((w.alloc (.cells #[kv] 22)).alloc (.cells #[a, .slice (some ⟨M, 0, none⟩) 1 1, b] 24)) fun e w' => ∃ A n c, e = .returned (.slice A n c) ∧ MgW w0 w' N la K V D lb K' V' D' tK tV tD ks vs ds ∧ OwnT w' w0.heap.size (N + 1) (.slice A n c) (l ++ key :: r) := by
  subst hM
  have hB := h.leB
  have hlt := h.lt
  have hl := RdT.lit1 ((hk.below h.s.below).txt (base := N + 1) (Nat.le_refl _) h.s.below.size) hB 22
  obtain ⟨w1, hw1⟩ : ∃ x, x = w.alloc (.cells #[kv] 22) := ⟨_, rfl⟩
  have hb1 : Below w.heap.size w w1 := by rw [hw1]; exact (Below.refl _ _).alloc (Nat.le_refl _) _
  have e1 : w1.heap.size = w.heap.size + 1 := by rw [hw1]; simp
  have h1 := h.kept hb1
  rw [← hw1] at hl ⊢
  rw [← e1]
  have hsz := h1.s.below.size
  have hr := RdRowsT.lit3 hB w1 24 ((ha.below h1.s.below).rdT (base := N + 1) (Nat.le_refl _) hsz) hl ((hb.below h1.s.below).rdT (base := N + 1) (Nat.le_refl _) hsz)
  refine (concatT_any _ 3 3 _ _ _ _ hr (by simp; omega) hB (by omega) (by simp; omega)).mono ?_
  rintro e w' ⟨v, rfl, ho, hb⟩
  rw [show [l, [key], r].flatten = l ++ key :: r by simp] at ho
  obtain ⟨ws, hm, _⟩ := id ho
  obtain ⟨A, c, rfl⟩ := hm.form
  exact ⟨A, _, c, rfl, (h1.kept ((Below.refl _ _).alloc (Nat.le_refl _) _)).kept hb, ho⟩
/-- Two lists of numbers, one behind the other. -/
theorem MgW.catI (h : MgW w0 w N la K V D lb K' V' D' tK tV tD ks vs ds) {a b : Value} {l r : List Int} (ha : Rd w0 w0.heap.size a (cellsI l)) (hb : Rd w0 w0.heap.size b (cellsI r)) (hs : l.length + r.length ≤ 1000000) {M : Nat} (hM : w.heap.size = M) :
    Calls Try.prog 45 #[.slice (some ⟨M, 0, none⟩) 2 2] (w.alloc (.cells #[a, b] 25)) fun e w' => ∃ A n c, e = .returned (.slice A n c) ∧ MgW w0 w' N la K V D lb K' V' D' tK tV tD ks vs ds ∧ Mine w' (N + 1) 3 (.slice A n c) (cellsI (l ++ r)) := by
  subst hM
  have hsz := h.s.below.size
  have hr := RdRowsI.lit2 w 25 (a := a) (b := b) (la := l) (lb := r) ((ha.below h.s.below).more hsz) ((hb.below h.s.below).more hsz)
  refine (concatI_any _ 2 2 _ _ _ hr (by simp) (by omega) (by simpa using hs)).mono ?_
  rintro e w' ⟨v, rfl, ho, hb⟩
  rw [show [l, r].flatten = l ++ r by simp] at ho
  obtain ⟨A, c, rfl⟩ := ho.form
  exact ⟨A, _, c, rfl, (h.kept ((Below.refl _ _).alloc (Nat.le_refl _) _)).kept hb, ho.weaken (by have := h.lt; simp; omega)⟩
end
end Go.Proofs.Ytceefoopehoalaa
