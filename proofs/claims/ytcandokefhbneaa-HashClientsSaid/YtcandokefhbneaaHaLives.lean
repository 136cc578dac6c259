/-
  The program's number of no part, of one, of two; and that a number is told, by contracts.
-/
import Derived.Test.YtcandokefhbneaaHaRef
namespace Go.Proofs.Ytcandokefhbneaa
open Go.RowKit
theorem RdAll.ha0 (w : World) : RdAll w w.heap.size (.slice none 0 0) [] := ⟨[], Rd.nil w _, rfl, fun k u l a _ => by simp at a⟩
theorem haNone (seed : Nat) (w : World) (hs : seed < 18446744073709551616) : Calls Try.prog 8 #[.int .u64 seed, .slice none 0 0] w fun e w' => e = .returned (.int .u64 (haSum seed [] : Nat)) ∧ w = w' :=
  haParts_any seed _ _ _ [] w _ hs (RdAll.ha0 w)
theorem haOne (seed : Nat) {w : World} {a : Value} {l : List UInt8} (hs : seed < 18446744073709551616) (h : Rd w w.heap.size a (cellsB l)) :
    Calls Try.prog 8 #[.int .u64 seed, .slice (some ⟨w.heap.size, 0, none⟩) 1 1] (w.alloc (.cells #[a] 23)) fun e w' => e = .returned (.int .u64 (haSum seed l : Nat)) ∧ w.alloc (.cells #[a] 23) = w' := by
  have h2 := haParts_any seed _ _ _ _ _ _ hs (RdAll.lit1 w 23 a l h)
  rw [show [l].flatten = l by simp] at h2
  exact h2
theorem haTwo (seed : Nat) {w : World} {a b : Value} {l m k : List UInt8} (hs : seed < 18446744073709551616) (h : Rd w w.heap.size a (cellsB l)) (h2 : Rd w w.heap.size b (cellsB m)) (hk : k = l ++ m) :
    Calls Try.prog 8 #[.int .u64 seed, .slice (some ⟨w.heap.size, 0, none⟩) 2 2] (w.alloc (.cells #[a, b] 23)) fun e w' => e = .returned (.int .u64 (haSum seed k : Nat)) ∧ w.alloc (.cells #[a, b] 23) = w' := by
  have h3 := haParts_any seed _ _ _ _ _ _ hs (RdAll.lit2 w 23 a b l m h h2)
  rw [show [l, m].flatten = k by simp [hk]] at h3
  exact h3
set_option maxRecDepth 100000 in
set_option maxHeartbeats 1000000 in
theorem lives18_any (w : World) : Calls Try.prog 10 #[] w fun e w' => e = .returned (.bool true) ∧ Below w.heap.size w w' := by
  have h1 : Calls Try.prog 8 #[.int .u64 0, .slice none 0 0] w fun e w' => e = .returned (.int .u64 (haSum 0 [] : Nat)) ∧ w = w' := haNone 0 w (by omega)
  have h2 : Calls Try.prog 9 #[.int .u64 0, .slice (some ⟨w.heap.size, 0, none⟩) 0 0] (w.alloc (.cells #[] 5)) fun e w' => e = .returned (.int .u64 (haSum 0 [] : Nat)) ∧ w.alloc (.cells #[] 5) = w' := haRefSum_any 0 _ 0 [] _ _ (by omega) (Mine.empty w _ 5 (Nat.le_refl _)).rd
  have H1 := Lib.hid h1
  have H2 := Lib.hid h2
  obtain ⟨s, hs⟩ : ∃ s, s = haSum 0 [] := ⟨_, rfl⟩
  rw [← hs] at H1 H2
  clear h1 h2 hs
  go_enter Try.func10, Try.ntmps10
  go_wp2_with fail
  refine H1.out.mono ?_
  rintro e w1 ⟨rfl, rfl⟩
  go_wp2_with fail
  refine H2.out.mono ?_
  rintro e w2 ⟨rfl, hw2⟩
  have HW2 := Lib.hid hw2
  clear hw2
  go_wp2_with fail
  go_ret
  refine ⟨rfl, ?_⟩
  rw [← HW2.out]
  exact up_alloc (Below.refl _ _) _
end Go.Proofs.Ytcandokefhbneaa
