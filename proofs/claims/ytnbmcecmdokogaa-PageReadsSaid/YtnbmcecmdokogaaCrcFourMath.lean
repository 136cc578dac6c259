/-
  A text of which up to four bytes in a row had others added to them, and its sum. No program is spoken of here.
-/
import Derived.Test.YtnbmcecmdokogaaCrcMath
namespace Go.Proofs.Ytnbmcecmdokogaa
/-- The text l with the first i of the bytes d added from place k on. -/
def bump (l d : List UInt8) (k i : Nat) : List UInt8 := l.mapIdx fun j x => if k ≤ j ∧ j < k + i then x + d.getD (j - k) 0 else x
theorem bump_length (l d : List UInt8) (k i : Nat) : (bump l d k i).length = l.length := by simp [bump]
theorem bump_zero (l d : List UInt8) (k : Nat) : bump l d k 0 = l := by
  apply List.ext_getElem
  · simp [bump]
  · intro j h1 h2
    simp [bump]
    intro h3 h4
    omega
theorem bump_at (l d : List UInt8) (k i : Nat) (h : k + i < l.length) : (bump l d k i)[k + i]'(by rw [bump_length]; exact h) = l[k + i] := by simp [bump]
theorem bump_succ (l d : List UInt8) (k i : Nat) (h : k + i < l.length) : (bump l d k i).set (k + i) (l[k + i] + d.getD i 0) = bump l d k (i + 1) := by
  apply List.ext_getElem
  · simp [bump]
  · intro j h1 h2
    rw [List.getElem_set]
    simp [bump]
    by_cases e : k + i = j
    · subst e
      simp
    · by_cases h3 : k ≤ j ∧ j < k + i
      · rw [if_neg e, if_pos h3, if_pos (by omega)]
      · rw [if_neg e, if_neg h3, if_neg (by omega)]
/-- Whether one of the first i is other than 0. -/
def someOf (d : List UInt8) : Nat → Bool
  | 0 => false
  | i + 1 => someOf d i || (d.getD i 0 != 0)
theorem someOf_false (d : List UInt8) : ∀ n : Nat, someOf d n = false → ∀ j < n, d.getD j 0 = 0
  | 0, _, j, h => by omega
  | n + 1, hs, j, h => by
    simp only [someOf, Bool.or_eq_false_iff] at hs
    by_cases e : j = n
    · subst e; simpa using hs.2
    · exact someOf_false d n hs.1 j (by omega)
theorem someOf_true (d : List UInt8) : ∀ n : Nat, someOf d n = true → ∃ j < n, d.getD j 0 ≠ 0
  | 0, h => by cases h
  | n + 1, hs => by
    simp only [someOf, Bool.or_eq_true] at hs
    rcases hs with h | h
    · obtain ⟨j, h1, h2⟩ := someOf_true d n h; exact ⟨j, by omega, h2⟩
    · exact ⟨n, by omega, by simpa using h⟩
theorem bump_same (l d : List UInt8) (k n : Nat) (h : someOf d n = false) : bump l d k n = l := by
  have h0 := someOf_false d n h
  apply List.ext_getElem
  · simp [bump]
  · intro j h1 h2
    simp only [bump, List.getElem_mapIdx]
    split
    · rw [h0 _ (by omega)]; simp
    · rfl
theorem bump_head (l d : List UInt8) (k n : Nat) : (bump l d k n).take k = l.take k := by
  apply List.ext_getElem
  · simp [bump]
  · intro j h1 h2
    simp at h2
    simp only [bump, List.getElem_take, List.getElem_mapIdx]
    rw [if_neg (by omega)]
theorem bump_tail (l d : List UInt8) (k n : Nat) : (bump l d k n).drop (k + n) = l.drop (k + n) := by
  apply List.ext_getElem
  · simp [bump]
  · intro j h1 h2
    simp only [bump, List.getElem_drop, List.getElem_mapIdx]
    rw [if_neg (by omega)]
theorem three_parts (l : List UInt8) (k n : Nat) : l = l.take k ++ (l.drop k).take n ++ l.drop (k + n) := by
  rw [List.append_assoc, ← List.drop_drop, List.take_append_drop, List.take_append_drop]
theorem bump_parts (l d : List UInt8) (k n : Nat) : bump l d k n = l.take k ++ ((bump l d k n).drop k).take n ++ l.drop (k + n) := by
  conv => lhs; rw [three_parts (bump l d k n) k n]
  rw [bump_head, bump_tail]
theorem bump_unlike (l d : List UInt8) (k n : Nat) (h : k + n ≤ l.length) (hn : n ≤ 4) (hs : someOf d n = true) : crcOf l ≠ crcOf (bump l d k n) := by
  obtain ⟨j, h1, h2⟩ := someOf_true d n hs
  have e1 := three_parts l k n
  rw [bump_parts l d k n]
  conv => lhs; rw [e1]
  refine crcOf_unlike _ _ _ _ (by simp [bump]) (by simp; omega) fun e => ?_
  have e2 := congrArg (fun m : List UInt8 => m[j]?) e
  simp only [List.getElem?_take, List.getElem?_drop, if_pos h1] at e2
  rw [List.getElem?_eq_getElem (by omega), List.getElem?_eq_getElem (by rw [bump_length]; omega)] at e2
  injection e2 with e2
  simp only [bump, List.getElem_mapIdx] at e2
  rw [if_pos (by omega), show k + j - k = j by omega] at e2
  apply h2
  have e3 := congrArg UInt8.toNat e2
  rw [UInt8.toNat_add] at e3
  have := l[k + j].toNat_lt
  have := (d.getD j 0).toNat_lt
  apply UInt8.toNat_inj.1
  show _ = 0
  omega
end Go.Proofs.Ytnbmcecmdokogaa
