/-
  The small functions of package page, by contracts: which numbers and kinds may be, a field read, the sum, a field laid.
-/
import Derived.Test.YtnbmcecmdokogaaPageMath
import Derived.Test.YtnbmcecmdokogaaCrcP
import Derived.StillTailTactics
import Derived.Laws.CopyOwn
namespace Go.Proofs.Ytnbmcecmdokogaa
open Go.RowKit

set_option maxHeartbeats 400000 in
theorem pgNum_yes (n : Int) (w : World) (h1 : 0 ≤ n) (h2 : n ≤ 1599) : Calls Try.prog 15 #[.int .i64 n] w fun e w' => e = .returned (.bool true) ∧ w = w' := by
  have hb : n < 1600 := by omega
  go_enter Try.func15, Try.ntmps15
  go_wp2
  go_ret
  exact ⟨rfl, rfl⟩
set_option maxHeartbeats 400000 in
theorem pgNum_no (n : Int) (w : World) (h : n < 0 ∨ 1599 < n) : Calls Try.prog 15 #[.int .i64 n] w fun e w' => e = .returned (.bool false) ∧ w = w' := by
  rcases h with h | h
  · have hb : decide (0 ≤ n) = false := by simp; omega
    go_enter Try.func15, Try.ntmps15
    go_wp2
    go_ret
    exact ⟨rfl, rfl⟩
  · have hb : decide (n < 1600) = false := by simp; omega
    go_enter Try.func15, Try.ntmps15
    go_wp2
    go_ret
    exact ⟨rfl, rfl⟩
set_option maxHeartbeats 400000 in
theorem pgKind_yes (n : Int) (w : World) (h1 : 1 ≤ n) (h2 : n ≤ 4) : Calls Try.prog 16 #[.int .i64 n] w fun e w' => e = .returned (.bool true) ∧ w = w' := by
  go_enter Try.func16, Try.ntmps16
  go_wp2
  go_ret
  exact ⟨rfl, rfl⟩
set_option maxHeartbeats 400000 in
theorem pgKind_no (n : Int) (w : World) (h : n < 1 ∨ 4 < n) : Calls Try.prog 16 #[.int .i64 n] w fun e w' => e = .returned (.bool false) ∧ w = w' := by
  rcases h with h | h
  · have hb : decide (1 ≤ n) = false := by simp; omega
    go_enter Try.func16, Try.ntmps16
    go_wp2
    go_ret
    exact ⟨rfl, rfl⟩
  · have hb : decide (n ≤ 4) = false := by simp; omega
    go_enter Try.func16, Try.ntmps16
    go_wp2
    go_ret
    exact ⟨rfl, rfl⟩

set_option maxHeartbeats 400000 in
theorem pgGet_any (A : Option Addr) (c : Nat) (l : List UInt8) (a s : Nat) (w : World) (B : Nat) (hr : Rd w B (.slice A l.length c) (cellsB l)) (h1 : 1 ≤ s) (h2 : s ≤ 8) (h3 : a + s ≤ l.length) :
    Calls Try.prog 22 #[.slice A l.length c, .int .i64 (a : Int), .int .i64 (s : Int)] w fun e w' => e = .returned (.int .u64 (fieldAt l a s : Nat)) ∧ w = w' := by
  go_enter Try.func22, Try.ntmps22
  go_wp2_with (go_at_call 28; refine (get_yes A c l a s _ B hr h1 h2 h3).mono ?_; rintro e w' ⟨rfl, rfl⟩)
  go_ret
  exact ⟨rfl, rfl⟩

set_option maxHeartbeats 1000000 in
theorem pgSum_any (A : Option Addr) (c : Nat) (l : List UInt8) (w : World) (B : Nat) (hr : Rd w B (.slice A l.length c) (cellsB l)) (hB : B ≤ w.heap.size) (hl : l.length = 256) :
    Calls Try.prog 18 #[.slice A l.length c] w fun e w' => e = .returned (.int .u64 (pgSum l : Nat)) ∧ Below w.heap.size w w' := by
  obtain ⟨_, _, e, g1, g2, _⟩ := hr.bytes
  injection e with e1 e2 e3
  subst e3
  clear e1 e2
  have h20 : 20 ≤ l.length := by omega
  have h24 : 24 ≤ l.length := by omega
  have h24' : (24 : Int) ≤ (l.length : Int) := by omega
  have h20' : (20 : Int) ≤ (c : Int) := by omega
  have hc24 : ¬ c = 24 := by omega
  have r1 := hr.upto h20
  have r2 := hr.cut h24 (Nat.le_refl _)
  rw [if_neg hc24] at r2
  have ls1 : (l.take 20).length = 20 := by simp; omega
  have ls2 : (l.drop 24).length = l.length - 24 := by simp
  have ex2 : ((cellsB l).take l.length).drop 24 = cellsB (l.drop 24) := by rw [← cellsB_length l, List.take_length, cellsB_drop]
  rw [ex2] at r2
  rw [cellsB_take] at r1
  obtain ⟨m1, em1⟩ : ∃ m, m = l.take 20 := ⟨_, rfl⟩
  obtain ⟨m2, em2⟩ : ∃ m, m = l.drop 24 := ⟨_, rfl⟩
  rw [← em1] at r1 ls1
  rw [← em2] at r2 ls2
  have es : pgSum l = crcOf (m1 ++ m2) := by rw [em1, em2]; rfl
  rw [es]
  have hp := fun (w1 : World) (e : TypeId) (a b : Value) (h1 : Rd w1 w1.heap.size a (cellsB m1)) (h2 : Rd w1 w1.heap.size b (cellsB m2)) => crcParts_any _ _ _ _ _ _ (RdAll.lit2 w1 e a b m1 m2 h1 h2)
  have ef : [m1, m2].flatten = m1 ++ m2 := by simp
  rw [ef] at hp
  have Hp := Lib.hid hp
  have Hr1 := Lib.hid (r1.more hB)
  have Hr2 := Lib.hid (r2.more hB)
  clear hp r1 r2 em1 em2 ls1 ls2 es ef ex2 hl
  go_enter Try.func18, Try.ntmps18
  go_wp2
  go_still_tail 4, (by kernel_rfl)
  change wpList _ _ _ _ _ w.drew
  have hlt := crcOf_lt (m1 ++ m2)
  have hlt' : ((crcOf (m1 ++ m2) : Nat) : Int) < 4294967296 := by omega
  go_wp2_with (go_at_call 26; refine (Hp.out w.drew _ _ _ Hr1.out Hr2.out).mono ?_; rintro e w' ⟨rfl, rfl⟩)
  go_ret
  exact ⟨rfl, ((Below.refl _ _).drew).alloc (Nat.le_refl _) _⟩
end Go.Proofs.Ytnbmcecmdokogaa
