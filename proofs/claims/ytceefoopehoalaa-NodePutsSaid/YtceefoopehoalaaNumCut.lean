/-
  num.Cut, by contract.
-/
import Derived.Test.YtceefoopehoalaaNumB
namespace Go.Proofs.Ytceefoopehoalaa
open Go.RowKit
set_option maxHeartbeats 400000 in
theorem cut_yes (A : Option Addr) (c : Nat) (l : List UInt8) (a n : Nat) (w : World) (B : Nat) (hr : Rd w B (.slice A l.length c) (cellsB l)) (hB : B ≤ w.heap.size) (hl : l.length ≤ 100000000) (h3 : a + n ≤ l.length) :
    Calls Try.prog 63 #[.slice A l.length c, .int .i64 (a : Int), .int .i64 (n : Int)] w fun e w' => ∃ v', e = .returned (.tuple #[v', .bool true]) ∧ Mine w' w.heap.size 5 v' (cellsB ((l.drop a).take n)) ∧ Below w.heap.size w w' := by
  obtain ⟨_, _, e, g1, g2, _⟩ := hr.bytes
  injection e with e1 e2 e3
  subst e3
  clear e1 e2
  have r := hr.cut (lo := a) (hi := a + n) (by omega) h3
  have em : ((cellsB l).take (a + n)).drop a = cellsB ((l.drop a).take n) := by rw [cellsB_take, cellsB_drop, List.drop_take, Nat.add_sub_cancel_left]
  rw [em, Nat.add_sub_cancel_left] at r
  have hml : ((l.drop a).take n).length ≤ 100000000 := by simp; omega
  obtain ⟨m, hm⟩ : ∃ m, m = (l.drop a).take n := ⟨_, rfl⟩
  rw [← hm] at r hml ⊢
  clear hm em
  by_cases hca : c = a
  · rw [if_pos hca] at r
    subst hca
    rw [Nat.sub_self] at r
    have R := Lib.hid r
    clear r
    go_enter Try.func63, Try.ntmps63
    go_wp2_with (first | (go_at_call 65; refine (within_yes _ _ _ _ _ _ (by omega) (by omega) (by omega) (by omega)).mono ?_; rintro e w' ⟨rfl, rfl⟩) | (go_at_call 43; refine (bytes_one _ m _ w B R.out hB (by omega)).mono ?_; rintro e w' ⟨v', rfl, hown, hbel⟩))
    go_ret2
    exact ⟨v', rfl, hown, hbel⟩
  · rw [if_neg hca] at r
    have R := Lib.hid r
    clear r
    go_enter Try.func63, Try.ntmps63
    go_wp2_with (first | (go_at_call 65; refine (within_yes _ _ _ _ _ _ (by omega) (by omega) (by omega) (by omega)).mono ?_; rintro e w' ⟨rfl, rfl⟩) | (go_at_call 43; refine (bytes_one _ m _ w B R.out hB (by omega)).mono ?_; rintro e w' ⟨v', rfl, hown, hbel⟩))
    go_ret2
    exact ⟨v', rfl, hown, hbel⟩
set_option maxHeartbeats 400000 in
theorem cut_no (A : Option Addr) (n c : Nat) (a s : Int) (w : World) (hn : n ≤ 9223372036854775807) (hat : a ≤ 9223372036854775807) (h : a < 0 ∨ s < 0 ∨ (n : Int) < a + s) :
    Calls Try.prog 63 #[.slice A n c, .int .i64 a, .int .i64 s] w fun e w' => e = .returned (.tuple #[.slice none 0 0, .bool false]) ∧ w = w' := by
  have hw := fun W => within_no A n c a s W hn hat h
  have Hw := Lib.hid hw
  clear hw h
  go_enter Try.func63, Try.ntmps63
  go_wp2_with (go_at_call 65; refine (Hw.out _).mono ?_; rintro e w' ⟨rfl, rfl⟩)
  go_ret2
  exact ⟨rfl, rfl⟩
end Go.Proofs.Ytceefoopehoalaa
