/-
  Parts of a node's rows, as slices.
-/
import Derived.Test.YtceefoopehoalaaNdSplitM
import Derived.Test.YtceefoopehoalaaCuts
namespace Go.Proofs.Ytceefoopehoalaa
open Go.RowKit
section
variable {w : World} {B n c k n1 c1 n2 c2 n3 c3 : Nat} {A A1 A2 A3 : Option Addr} {ls : List (List UInt8)} {ds : List Int} {x : Nd}
theorem RdAll.behind (h : RdAll w B (.slice A n c) ls) (hk : k ≤ n) : RdAll w B (.slice (if c = k then A else A.map (·.add k)) (n - k) (c - k)) (ls.drop k) := by
  obtain ⟨vs, h1, hl, hel⟩ := h
  have hn : n = vs.length := by obtain ⟨A', c', e, _⟩ := h1; injection e
  have h2 := h1.cut (lo := k) (hi := n) hk (Nat.le_refl _)
  rw [hn, List.take_length] at h2
  rw [hn]
  refine ⟨vs.drop k, h2, by simp [hl], fun j u l a b => ?_⟩
  rw [List.getElem?_drop] at a b
  exact hel _ u l a b
theorem cellsI_take (l : List Int) (k : Nat) : (cellsI l).take k = cellsI (l.take k) := by simp [cellsI]
theorem cellsI_drop (l : List Int) (k : Nat) : (cellsI l).drop k = cellsI (l.drop k) := by simp [cellsI]
theorem Rd.uptoI (h : Rd w B (.slice A n c) (cellsI ds)) (hk : k ≤ n) : Rd w B (.slice A k c) (cellsI (ds.take k)) := by
  rw [← cellsI_take]; exact h.upto hk
theorem Rd.behindI (h : Rd w B (.slice A n c) (cellsI ds)) (hk : k ≤ n) : Rd w B (.slice (if c = k then A else A.map (·.add k)) (n - k) (c - k)) (cellsI (ds.drop k)) := by
  have hn : n = (cellsI ds).length := by obtain ⟨A', c', e, _⟩ := h; injection e
  have h2 := h.cut (lo := k) (hi := n) hk (Nat.le_refl _)
  rw [hn, List.take_length, ← hn, cellsI_drop] at h2
  exact h2
theorem NdIs.lowerLeaf (h : NdIs w B (.slice A1 n1 c1) (.slice A2 n2 c2) (.slice A3 n3 c3) x) (hl : x.leaf = true) (h1 : k ≤ n1) (h2 : k ≤ n2) : NdIs w B (.slice A1 k c1) (.slice A2 k c2) (.slice none 0 0) (x.lower k) := by
  rw [show x.lower k = ⟨true, x.keys.take k, x.vals.take k, []⟩ by unfold Nd.lower; rw [if_pos hl]]
  exact ⟨h.keys.upto h1, h.vals.upto h2, Rd.nil _ _⟩
theorem NdIs.upperLeaf (h : NdIs w B (.slice A1 n1 c1) (.slice A2 n2 c2) (.slice A3 n3 c3) x) (hl : x.leaf = true) (h1 : k ≤ n1) (h2 : k ≤ n2) : NdIs w B (.slice (if c1 = k then A1 else A1.map (·.add k)) (n1 - k) (c1 - k)) (.slice (if c2 = k then A2 else A2.map (·.add k)) (n2 - k) (c2 - k)) (.slice none 0 0) (x.upper k) := by
  rw [show x.upper k = ⟨true, x.keys.drop k, x.vals.drop k, []⟩ by unfold Nd.upper; rw [if_pos hl]]
  exact ⟨h.keys.behind h1, h.vals.behind h2, Rd.nil _ _⟩
theorem NdIs.lowerNot (h : NdIs w B (.slice A1 n1 c1) (.slice A2 n2 c2) (.slice A3 n3 c3) x) (hl : x.leaf = false) (h1 : k ≤ n1) (h3 : k + 1 ≤ n3) : NdIs w B (.slice A1 k c1) (.slice none 0 0) (.slice A3 (k + 1) c3) (x.lower k) := by
  rw [show x.lower k = ⟨false, x.keys.take k, [], x.kids.take (k + 1)⟩ by unfold Nd.lower; rw [hl]; rfl]
  exact ⟨h.keys.upto h1, ⟨[], Rd.nil _ _, rfl, fun _ _ _ a => by simp at a⟩, h.kids.uptoI h3⟩
theorem NdIs.upperNot (h : NdIs w B (.slice A1 n1 c1) (.slice A2 n2 c2) (.slice A3 n3 c3) x) (hl : x.leaf = false) (h1 : k + 1 ≤ n1) (h3 : k + 1 ≤ n3) : NdIs w B (.slice (if c1 = k + 1 then A1 else A1.map (·.add (k + 1))) (n1 - (k + 1)) (c1 - (k + 1))) (.slice none 0 0) (.slice (if c3 = k + 1 then A3 else A3.map (·.add (k + 1))) (n3 - (k + 1)) (c3 - (k + 1))) (x.upper k) := by
  rw [show x.upper k = ⟨false, x.keys.drop (k + 1), [], x.kids.drop (k + 1)⟩ by unfold Nd.upper; rw [hl]; rfl]
  exact ⟨h.keys.behind h1, ⟨[], Rd.nil _ _, rfl, fun _ _ _ a => by simp at a⟩, h.kids.behindI h3⟩
end
end Go.Proofs.Ytceefoopehoalaa
