/-
  Both halves of a node, joined, are it; how many bytes they have.
-/
import Derived.Test.YtceefoopehoalaaNdSplitM
import Derived.Test.YtceefoopehoalaaNdMergeB
import Derived.Test.YtceefoopehoalaaNdU
namespace Go.Proofs.Ytceefoopehoalaa
theorem Nd.halves_joined {n : Nd} (h : n.Snd) {k : Nat} (hk : k < n.keys.length) : (n.lower k).joined (n.keys.getD k []) (n.upper k) = n := by
  unfold Nd.lower Nd.upper Nd.joined
  cases hl : n.leaf
  · obtain ⟨g1, g2, g3⟩ := h.ofNot hl
    have e1 := List.eq_nil_of_length_eq_zero g1
    refine Nd.ext' (by simp [hl]) ?_ (by simp [e1]) (by simp)
    have : n.keys.drop k = n.keys.getD k [] :: n.keys.drop (k + 1) := by
      rw [List.drop_eq_getElem_cons hk]
      simp [List.getD, hk]
    simp only [Bool.false_eq_true, if_false]
    rw [← this, List.take_append_drop]
  · obtain ⟨g1, g2⟩ := h.ofLeaf hl
    have e1 := List.eq_nil_of_length_eq_zero g1
    exact Nd.ext' (by simp [hl]) (by simp) (by simp) (by simp [e1])
theorem Nd.lower_cells (n : Nd) (k : Nat) : ∀ j, j ≤ k → (n.lower k).cells j = n.cells j
  | 0, _ => rfl
  | j + 1, hj => by
    have ih := Nd.lower_cells n k j (by omega)
    show (n.lower k).cells j + (n.lower k).cell j = n.cells j + n.cell j
    rw [ih]
    unfold Nd.cell Nd.lower
    cases hl : n.leaf
    · simp only [Bool.false_eq_true, if_false]; rw [getD_takes n.keys [] (by omega)]
    · simp only [if_true]; rw [getD_takes n.keys [] (by omega), getD_takes n.vals [] (by omega)]
theorem Nd.upper_cells (n : Nd) (k : Nat) : ∀ j, n.cells (k + (if n.leaf then 0 else 1)) + (n.upper k).cells j = n.cells (k + (if n.leaf then 0 else 1) + j)
  | 0 => rfl
  | j + 1 => by
    have ih := Nd.upper_cells n k j
    show n.cells (k + (if n.leaf then 0 else 1)) + ((n.upper k).cells j + (n.upper k).cell j) = n.cells (k + (if n.leaf then 0 else 1) + j) + n.cell (k + (if n.leaf then 0 else 1) + j)
    rw [← Nat.add_assoc, ih]
    congr 1
    unfold Nd.cell Nd.upper
    cases hl : n.leaf
    · simp only [Bool.false_eq_true, if_false]; rw [getD_drops]
    · simp only [if_true, Nat.add_zero]; rw [getD_drops, getD_drops]
/-- Both halves of a node of at most 282 bytes fit. -/
theorem Nd.halves_fit {n : Nd} (h : n.Snd) (hlen : n.keys.length ≤ 255) {most k : Nat} (hm : most + (if n.leaf then 1 else 2) = n.keys.length) (hh : n.Half most k) (hs : n.size ≤ 282) : (n.lower k).Fit ∧ (n.upper k).Fit := by
  have h1 := hh.lo
  have h2 := hh.hi
  have hk : k < n.keys.length := by split at hm <;> omega
  have hc : ∀ i, i < n.keys.length → n.cell i ≤ 50 := fun i hi => n.cell_le h hi
  have hlo : n.cells k ≤ 190 ∧ n.cells n.keys.length ≤ 281 := by
    have e0 : n.cells n.keys.length ≤ 281 := by unfold Nd.size at hs; split at hs <;> omega
    refine ⟨?_, e0⟩
    have e1 : n.cells k = n.cells (k - 1) + n.cell (k - 1) := by
      have : k = k - 1 + 1 := by omega
      rw [this]; rfl
    have e2 := hc (k - 1) (by omega)
    by_cases e : k = 1
    · have : n.cells (k - 1) = 0 := by rw [e]; rfl
      omega
    · have := hh.least (k - 1) (by omega) (by omega)
      omega
  have hup := n.upper_cells k (n.keys.length - (k + (if n.leaf then 0 else 1)))
  have hup2 : n.cells (k + (if n.leaf then 0 else 1)) + (n.upper k).cells (n.keys.length - (k + (if n.leaf then 0 else 1))) = n.cells n.keys.length := by
    rw [hup]
    congr 1
    split at hm <;> simp_all <;> omega
  have hrest : (n.upper k).cells (n.keys.length - (k + (if n.leaf then 0 else 1))) ≤ 190 := by
    have emono : n.cells k ≤ n.cells (k + (if n.leaf then 0 else 1)) := by
      split
      · exact Nat.le_refl _
      · show n.cells k ≤ n.cells k + n.cell k; omega
    by_cases e : k < most
    · have := hh.enough e; omega
    · have ek : k = most := by omega
      have e3 : n.keys.length = k + (if n.leaf then 0 else 1) + 1 := by split at hm <;> simp_all <;> omega
      have e4 : n.cells n.keys.length = n.cells (k + (if n.leaf then 0 else 1)) + n.cell (k + (if n.leaf then 0 else 1)) := by rw [e3]; rfl
      have e5 := hc (k + (if n.leaf then 0 else 1)) (by omega)
      omega
  have hll : (n.lower k).keys.length = k := by unfold Nd.lower; split <;> simp <;> omega
  have hul : (n.upper k).keys.length = n.keys.length - (k + (if n.leaf then 0 else 1)) := by unfold Nd.upper; split <;> simp_all
  refine ⟨⟨h.lower h1 hk, by omega, ?_⟩, ⟨h.upper (by split at hm <;> simp_all <;> omega), by omega, ?_⟩⟩
  · unfold Nd.size
    rw [hll, n.lower_cells k k (Nat.le_refl _)]
    split <;> omega
  · unfold Nd.size
    rw [hul]
    split <;> omega
end Go.Proofs.Ytceefoopehoalaa
