/-
  num.Bytes of three and of four parts; bytes that a literal makes; small words.
-/
import Derived.Test.YtcandokefhbneaaNumB
namespace Go.Proofs.Ytcandokefhbneaa
open Go.RowKit
theorem beq_zero {n : Nat} (h : n ≠ 0) : ((n : Int) == 0) = false := by simp; omega
theorem bne_zero {n : Nat} (h : n ≠ 0) : ((n : Int) != 0) = true := by simp; omega
section
variable {w : World} {B : Nat}
theorem bytes_three (a b c : Value) (l m n : List UInt8) (e : TypeId) (hr : Rd w w.heap.size a (cellsB l)) (hr2 : Rd w w.heap.size b (cellsB m)) (hr3 : Rd w w.heap.size c (cellsB n)) (hl : l.length + (m.length + n.length) ≤ 1000000000) :
    Calls Try.prog 22 #[.slice (some ⟨w.heap.size, 0, none⟩) 3 3] (w.alloc (.cells #[a, b, c] e)) fun e w' => ∃ v', e = .returned v' ∧ Mine w' w.heap.size 5 v' (cellsB (l ++ (m ++ n))) ∧ Below w.heap.size w w' := by
  have hra : RdAll (w.alloc (.cells #[a, b, c] e)) (w.heap.size + 1) (.slice (some ⟨w.heap.size, 0, none⟩) 3 3) [l, m, n] := by
    refine RdAll.lit w e [a, b, c] [l, m, n] rfl (by unfold maxLen; simp) fun k u x hu hm => ?_
    match k, hu, hm with
    | 0, hu, hm => simp at hu hm; subst hu hm; exact hr
    | 1, hu, hm => simp at hu hm; subst hu hm; exact hr2
    | 2, hu, hm => simp at hu hm; subst hu hm; exact hr3
  refine (bytes_any _ 3 3 [l, m, n] _ (w.heap.size + 1) hra (by simp) (by simpa using hl)).mono ?_
  rintro e w' ⟨v', rfl, h1, h2⟩
  refine ⟨v', rfl, ?_, ((Below.refl _ _).alloc (Nat.le_refl _) _).trans (h2.mono (by simp))⟩
  have := h1.weaken (base' := w.heap.size) (by simp)
  simpa using this
theorem bytes_four (a b c d : Value) (l m n p : List UInt8) (e : TypeId) (hr : Rd w w.heap.size a (cellsB l)) (hr2 : Rd w w.heap.size b (cellsB m)) (hr3 : Rd w w.heap.size c (cellsB n)) (hr4 : Rd w w.heap.size d (cellsB p)) (hl : l.length + (m.length + (n.length + p.length)) ≤ 1000000000) :
    Calls Try.prog 22 #[.slice (some ⟨w.heap.size, 0, none⟩) 4 4] (w.alloc (.cells #[a, b, c, d] e)) fun e w' => ∃ v', e = .returned v' ∧ Mine w' w.heap.size 5 v' (cellsB (l ++ (m ++ (n ++ p)))) ∧ Below w.heap.size w w' := by
  have hra : RdAll (w.alloc (.cells #[a, b, c, d] e)) (w.heap.size + 1) (.slice (some ⟨w.heap.size, 0, none⟩) 4 4) [l, m, n, p] := by
    refine RdAll.lit w e [a, b, c, d] [l, m, n, p] rfl (by unfold maxLen; simp) fun k u x hu hm => ?_
    match k, hu, hm with
    | 0, hu, hm => simp at hu hm; subst hu hm; exact hr
    | 1, hu, hm => simp at hu hm; subst hu hm; exact hr2
    | 2, hu, hm => simp at hu hm; subst hu hm; exact hr3
    | 3, hu, hm => simp at hu hm; subst hu hm; exact hr4
  refine (bytes_any _ 4 4 [l, m, n, p] _ (w.heap.size + 1) hra (by simp) (by simpa using hl)).mono ?_
  rintro e w' ⟨v', rfl, h1, h2⟩
  refine ⟨v', rfl, ?_, ((Below.refl _ _).alloc (Nat.le_refl _) _).trans (h2.mono (by simp))⟩
  have := h1.weaken (base' := w.heap.size) (by simp)
  simpa using this
end
set_option maxRecDepth 100000 in
theorem rd_lit (W : World) (T : TypeId) (l : List UInt8) (h : l.length ≤ 1000) : Rd (W.alloc (.cells (cellsB l).toArray T)) (W.heap.size + 1) (.slice (some ⟨W.heap.size, 0, none⟩) l.length l.length) (cellsB l) := by
  have := (Mine.lit W W.heap.size T (cellsB l).toArray l.length (Nat.le_refl _) (by simp [cellsB_length]) (by unfold maxLen; omega)).rd
  simpa using this
theorem mine_slice {w w' : World} {b : Nat} {v : Value} {l : List UInt8} {n : Nat} (h : Mine w' b 5 v (cellsB l)) (hl : l.length = n) : ∃ A c, v = .slice A n c ∧ Rd w' w'.heap.size (.slice A n c) (cellsB l) := by
  obtain ⟨A, c, e, _, _, hr⟩ := h.rd.bytes
  rw [hl] at e hr
  exact ⟨A, c, e, hr⟩
end Go.Proofs.Ytcandokefhbneaa
