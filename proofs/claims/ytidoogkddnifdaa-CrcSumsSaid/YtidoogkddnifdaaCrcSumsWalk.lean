/-
  The walk of CrcSums.
-/
import Derived.Test.YtidoogkddnifdaaLaw02
namespace Go.Proofs.Ytidoogkddnifdaa
open Go.RowKit
set_option maxHeartbeats 1000000 in
theorem crcSums_walk (v : Value) (l : List UInt8) (w : World) (h : Rd w w.heap.size v (cellsB l)) :
    Calls Try.prog 3 #[v] w fun e w' => e = .returned (.bool true) ∧ Below w.heap.size w w' := by
  obtain ⟨i, hi, hz0, hz1, hz2⟩ := info_parts info_u8
  obtain ⟨A, c, rfl, _, _, h⟩ := h.bytes
  obtain ⟨m, hm, hfew⟩ := few_cut 300 _ l w _ h (Nat.le_refl _) (by omega)
  have Hfew := Lib.hid hfew
  clear hfew
  go_enter Try.func3, Try.ntmps3
  go_wp2_with (first
    | (go_at_call 6; refine Hfew.out.mono ?_; rintro e w1 ⟨A1, c1, rfl, g1, hr1, hbel1⟩)
    | (at_builtin; refine wpList_append_rd rfl _ _ 22 rfl w1.heap.size 5 i _ 1 Try.underlying22 hi hz0 hz1 hz2 rfl _ [] rfl (Mine.empty w1 _ 5 (Nat.le_refl _)) _ _ _ rfl (hr1.alloc (Nat.le_refl _) _) (cellsB_one _) (by rw [cellsB_length]; simp; omega) (by unfold maxLen; rw [cellsB_length]; simp; omega) (by simp) ?_; intro v2 w2 hown2 hbel2 _ _; obtain ⟨A2, c2, rfl, _, _, hr2⟩ := hown2.rd.bytes)
    | (go_at_call 7; refine (crcSum_any A2 c2 m _ _ hr2 (Nat.le_refl _)).mono ?_; rintro e w3 ⟨rfl, hbel3⟩)
    | (go_at_call 8; refine (crcRefSum_any _ _ m _ w1.heap.size (hr1.below (up (((Below.refl _ _).alloc (Nat.le_refl _) _).trans hbel2) hbel3))).mono ?_; rintro e w4 ⟨rfl, rfl⟩)
    | (go_at_call 9; refine (lives02_any _).mono ?_; rintro e w5 ⟨rfl, hbel5⟩))
  go_ret
  exact ⟨rfl, up (up (up hbel1 (((Below.refl _ _).alloc (Nat.le_refl _) _).trans hbel2)) hbel3) hbel5⟩
end Go.Proofs.Ytidoogkddnifdaa
