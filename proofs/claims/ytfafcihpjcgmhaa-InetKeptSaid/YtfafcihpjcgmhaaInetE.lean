/-
  That a sum is told, by contract; three parts in one list.
-/
import Derived.Test.YtfafcihpjcgmhaaInetD
namespace Go.Proofs.Ytfafcihpjcgmhaa
open Go.RowKit
theorem RdAll.in3 (w : World) (e : TypeId) (a b c : Value) (l m n : List UInt8) (h : Rd w w.heap.size a (cellsB l)) (h2 : Rd w w.heap.size b (cellsB m)) (h3 : Rd w w.heap.size c (cellsB n)) :
    RdAll (w.alloc (.cells #[a, b, c] e)) (w.heap.size + 1) (.slice (some ⟨w.heap.size, 0, none⟩) 3 3) [l, m, n] := by
  refine RdAll.lit w e [a, b, c] [l, m, n] rfl (by unfold maxLen; simp) fun k u x hu hm => ?_
  match k, hu, hm with
  | 0, hu, hm => simp at hu hm; subst hu hm; exact h
  | 1, hu, hm => simp at hu hm; subst hu hm; exact h2
  | 2, hu, hm => simp at hu hm; subst hu hm; exact h3
theorem RdAll.in0 (w : World) : RdAll w w.heap.size (.slice none 0 0) [] := ⟨[], Rd.nil w _, rfl, fun k u l a _ => by simp at a⟩
theorem inSum_none (w : World) : Calls Try.prog 8 #[.slice none 0 0] w fun e w' => e = .returned (.int .u16 65535) ∧ w = w' := by
  have h := inSum_any (RdAll.in0 w) (by simp)
  rw [show ([] : List (List UInt8)).flatten = [] from rfl, show sumOf [] = 65535 from rfl] at h
  exact h
theorem inSum_one {w : World} {a : Value} {l : List UInt8} (h : Rd w w.heap.size a (cellsB l)) (hl : l.length ≤ 1000000) :
    Calls Try.prog 8 #[.slice (some ⟨w.heap.size, 0, none⟩) 1 1] (w.alloc (.cells #[a] 22)) fun e w' => e = .returned (.int .u16 (sumOf l : Nat)) ∧ w.alloc (.cells #[a] 22) = w' := by
  have h2 := inSum_any (RdAll.lit1 w 22 a l h) (by simp; omega)
  rw [show [l].flatten = l by simp] at h2
  exact h2
theorem inGood_one {w : World} {a : Value} {l : List UInt8} (h : Rd w w.heap.size a (cellsB l)) (hl : l.length ≤ 1000000) :
    Calls Try.prog 10 #[.slice (some ⟨w.heap.size, 0, none⟩) 1 1] (w.alloc (.cells #[a] 22)) fun e w' => e = .returned (.bool (decide (sumOf l = 0))) ∧ w.alloc (.cells #[a] 22) = w' := by
  have h2 := inGood_any (RdAll.lit1 w 22 a l h) (by simp; omega)
  rw [show [l].flatten = l by simp] at h2
  exact h2
set_option maxRecDepth 100000 in
set_option maxHeartbeats 1000000 in
theorem lives11_any (w : World) : Calls Try.prog 11 #[] w fun e w' => e = .returned (.bool true) ∧ Below w.heap.size w w' := by
  have h1 := inSum_one (w := w.alloc (.cells #[.int .u8 69, .int .u8 0, .int .u8 0, .int .u8 28] 5)) ((rd_const w 5 (0, 0) [69, 0, 0, 28] (by unfold maxLen; simp)).more (by simp)) (by simp)
  rw [show sumOf [69, 0, 0, 28] = 47843 from rfl, show (w.alloc (.cells #[.int .u8 69, .int .u8 0, .int .u8 0, .int .u8 28] 5)).heap.size = w.heap.size + 1 by simp] at h1
  have H1 := Lib.hid h1
  clear h1
  go_enter Try.func11, Try.ntmps11
  go_wp2_with fail
  refine H1.out.mono ?_
  rintro e w1 ⟨rfl, hw1⟩
  have hb1 : Below w.heap.size w w1 := by rw [← hw1]; exact up_alloc (up_alloc (Below.refl _ _) _) _
  have h2 := inGood_one (w := w1.alloc (.cells #[.int .u8 255, .int .u8 255] 5)) ((rd_const w1 5 (0, 0) [255, 255] (by unfold maxLen; simp)).more (by simp)) (by simp)
  rw [show decide (sumOf [255, 255] = 0) = true from rfl, show (w1.alloc (.cells #[.int .u8 255, .int .u8 255] 5)).heap.size = w1.heap.size + 1 by simp] at h2
  have H2 := Lib.hid h2
  have HB1 := Lib.hid hb1
  clear h2 hb1 hw1
  go_wp2_with fail
  refine H2.out.mono ?_
  rintro e w2 ⟨rfl, hw2⟩
  have HW2 := Lib.hid hw2
  clear hw2
  go_wp2_with fail
  go_ret
  refine ⟨rfl, ?_⟩
  rw [← HW2.out]
  exact up_alloc (up_alloc HB1.out _) _
end Go.Proofs.Ytfafcihpjcgmhaa
