/-
  The document's text of an address: its mathematics.
-/
import Derived.Test.YtepibdjglfaniaaDoorAdV
namespace Go.Proofs.YtepibdjglfaniaaDoor
open Go.RowKit
/-- Texts with a mark behind each of the first k. -/
def trail (c : UInt8) (ls : List (List UInt8)) (k : Nat) : List UInt8 := (ls.take k).flatMap (· ++ [c])
theorem trail_succ {c : UInt8} {ls : List (List UInt8)} {k : Nat} {x : List UInt8} (h : ls[k]? = some x) : trail c ls (k + 1) = trail c ls k ++ x ++ [c] := by
  rw [trail, List.take_add_one, h, Option.toList_some, List.flatMap_append, trail]
  simp
theorem trail_join {c : UInt8} : ∀ (ls : List (List UInt8)) (k : Nat) (x : List UInt8), ls.length = k + 1 → ls[k]? = some x → trail c ls k ++ x = Lib.join ls [c]
  | [], k, x, h, _ => by simp at h
  | [y], k, x, h, hx => by
    obtain rfl : k = 0 := by simpa using h
    obtain rfl : y = x := by simpa using hx
    simp [trail, Lib.join]
  | y :: z :: r, k, x, h, hx => by
    cases k with
    | zero => simp at h
    | succ k =>
      have ih := trail_join (c := c) (z :: r) k x (by simpa using h) (by simpa using hx)
      rw [join_more, ← ih]
      simp [trail]
def showT (a : Ad) : List (List UInt8) := (nums a.six a.own).map (digs (bas a.six))
theorem showT_length {a : Ad} (h : a.Wide) : (showT a).length = if a.six then 8 else 4 := by rw [showT, List.length_map, Ad.own_nums h]
theorem showT_four {a : Ad} (h : a.Wide) (hs : a.six = false) {k : Nat} (hk : k < 4) : ∃ x : UInt8, a.b[12 + k]? = some x ∧ (showT a)[k]? = some (digs 10 x.toNat) := by
  have hl : a.b.length = 16 := h
  refine ⟨a.b[12 + k]'(by omega), List.getElem?_eq_getElem _, ?_⟩
  have ho : a.own = a.b.drop 12 := by rw [Ad.own, Ad.from, hs]; rfl
  rw [showT, List.getElem?_map, nums, List.getElem?_map, List.getElem?_range (by rw [ho, hs, siz]; simp; omega), Option.map_some, Option.map_some, ho, hs]
  simp only [siz, bas, if_false, Bool.false_eq_true, Nat.mul_one]
  rw [List.drop_drop, show List.take 1 (List.drop (12 + k) a.b) = [a.b[12 + k]'(by omega)] by rw [List.drop_eq_getElem_cons (by omega), List.take_succ_cons, List.take_zero]]
  simp only [ofBe, Nat.zero_mul, Nat.zero_add]
theorem showT_six {a : Ad} (h : a.Wide) (hs : a.six = true) {k : Nat} (hk : k < 8) : ∃ x y : UInt8, a.b[2 * k]? = some x ∧ a.b[2 * k + 1]? = some y ∧ (showT a)[k]? = some (digs 16 (256 * x.toNat + y.toNat)) := by
  have hl : a.b.length = 16 := h
  refine ⟨a.b[2 * k]'(by omega), a.b[2 * k + 1]'(by omega), List.getElem?_eq_getElem _, List.getElem?_eq_getElem _, ?_⟩
  have ho : a.own = a.b := by rw [Ad.own, Ad.from, hs]; rfl
  rw [showT, List.getElem?_map, nums, List.getElem?_map, List.getElem?_range (by rw [ho, hs, siz]; simp; omega), Option.map_some, Option.map_some, ho, hs]
  simp only [siz, bas, if_true]
  rw [Nat.mul_comm k 2, show List.take 2 (List.drop (2 * k) a.b) = [a.b[2 * k]'(by omega), a.b[2 * k + 1]'(by omega)] by rw [List.drop_eq_getElem_cons (by omega), List.drop_eq_getElem_cons (by omega), List.take_succ_cons, List.take_succ_cons, List.take_zero]]
  simp only [ofBe, Nat.zero_mul, Nat.zero_add, Nat.mul_comm 256]
theorem showT_join (a : Ad) : Lib.join (showT a) [mrk a.six] = shown a.six a.own := rfl
end Go.Proofs.YtepibdjglfaniaaDoor
