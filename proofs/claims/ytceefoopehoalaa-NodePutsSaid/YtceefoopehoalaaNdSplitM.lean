/-
  Both halves of a node, as plain lists.
-/
import Derived.Test.YtceefoopehoalaaNdE
namespace Go.Proofs.Ytceefoopehoalaa
def Nd.lower (n : Nd) (h : Nat) : Nd := if n.leaf then ⟨true, n.keys.take h, n.vals.take h, []⟩ else ⟨false, n.keys.take h, [], n.kids.take (h + 1)⟩
def Nd.upper (n : Nd) (h : Nat) : Nd := if n.leaf then ⟨true, n.keys.drop h, n.vals.drop h, []⟩ else ⟨false, n.keys.drop (h + 1), [], n.kids.drop (h + 1)⟩
theorem getD_takes {α : Type} (l : List α) (d : α) {k j : Nat} (h : j < k) : (l.take k).getD j d = l.getD j d := by
  simp only [List.getD_eq_getElem?_getD, List.getElem?_take, if_pos h]
theorem getD_drops {α : Type} (l : List α) (d : α) (k j : Nat) : (l.drop k).getD j d = l.getD (k + j) d := by
  simp only [List.getD_eq_getElem?_getD, List.getElem?_drop]
theorem KeysOk.take {ks : List (List UInt8)} (h : KeysOk ks) (k : Nat) : KeysOk (ks.take k) := fun j hj => by
  rw [List.length_take] at hj
  have := h j (by omega)
  refine ⟨?_, fun h0 => ?_⟩
  · rw [getD_takes ks [] (by omega)]; exact this.1
  · rw [getD_takes ks [] (by omega), getD_takes ks [] (by omega)]; exact this.2 h0
theorem KeysOk.drop {ks : List (List UInt8)} (h : KeysOk ks) (k : Nat) : KeysOk (ks.drop k) := fun j hj => by
  rw [List.length_drop] at hj
  have := h (k + j) (by omega)
  refine ⟨?_, fun h0 => ?_⟩
  · rw [getD_drops]; exact this.1
  · rw [getD_drops, getD_drops, show k + (j - 1) = k + j - 1 by omega]; exact this.2 (by omega)
theorem ValsOk.take {ks : List (List UInt8)} (h : ValsOk ks) (k : Nat) : ValsOk (ks.take k) := fun j hj => by
  rw [List.length_take] at hj
  rw [getD_takes ks [] (by omega)]; exact h j (by omega)
theorem ValsOk.drop {ks : List (List UInt8)} (h : ValsOk ks) (k : Nat) : ValsOk (ks.drop k) := fun j hj => by
  rw [List.length_drop] at hj
  rw [getD_drops]; exact h (k + j) (by omega)
theorem KidsOk.take {ks : List Int} (h : KidsOk ks) (k : Nat) : KidsOk (ks.take k) := fun j hj => by
  rw [List.length_take] at hj
  rw [getD_takes ks 0 (by omega)]; exact h j (by omega)
theorem KidsOk.drop {ks : List Int} (h : KidsOk ks) (k : Nat) : KidsOk (ks.drop k) := fun j hj => by
  rw [List.length_drop] at hj
  rw [getD_drops]; exact h (k + j) (by omega)
theorem Nd.Snd.lower {n : Nd} (h : n.Snd) {k : Nat} (h1 : 1 ≤ k) (h2 : k < n.keys.length) : (n.lower k).Snd := by
  unfold Nd.lower
  cases hl : n.leaf
  · obtain ⟨g1, g2, g3⟩ := h.ofNot hl
    exact ⟨h.keys.take k, fun j hj => absurd hj (Nat.not_lt_zero _), h.kids.take (k + 1), (fun e => by cases e), fun _ => ⟨rfl, by simp; omega, by simp; omega⟩⟩
  · obtain ⟨g1, g2⟩ := h.ofLeaf hl
    exact ⟨h.keys.take k, h.vals.take k, fun j hj => absurd hj (Nat.not_lt_zero _), fun _ => ⟨rfl, by simp; omega⟩, (fun e => by cases e)⟩
theorem Nd.Snd.upper {n : Nd} (h : n.Snd) {k : Nat} (h2 : k + (if n.leaf then 0 else 1) < n.keys.length) : (n.upper k).Snd := by
  unfold Nd.upper
  cases hl : n.leaf
  · rw [hl] at h2
    obtain ⟨g1, g2, g3⟩ := h.ofNot hl
    simp at h2
    exact ⟨h.keys.drop (k + 1), fun j hj => absurd hj (Nat.not_lt_zero _), h.kids.drop (k + 1), (fun e => by cases e), fun _ => ⟨rfl, by simp; omega, by simp; omega⟩⟩
  · obtain ⟨g1, g2⟩ := h.ofLeaf hl
    exact ⟨h.keys.drop k, h.vals.drop k, fun j hj => absurd hj (Nat.not_lt_zero _), fun _ => ⟨rfl, by simp; omega⟩, (fun e => by cases e)⟩
end Go.Proofs.Ytceefoopehoalaa
