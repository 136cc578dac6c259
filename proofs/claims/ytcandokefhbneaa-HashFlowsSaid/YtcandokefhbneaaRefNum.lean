/-
  The document's own numbers as bytes (Num, Put of stanchionref01), by contracts.
  The document's own Get of stanchionref01, by contract (Num, Put: RefNumP).
-/
import Derived.Test.YtcandokefhbneaaNumB
namespace Go.Proofs.Ytcandokefhbneaa
open Go.RowKit

theorem quo_step (n k q : Nat) (hn : n < 18446744073709551616) (hq : q = n / 256 ^ k) : Value.int .u64 (IntKind.u64.wrap ((q : Int) / 256)) = Value.int .u64 ((q / 256 : Nat) : Int) := by
  have h : q ≤ n := by rw [hq]; exact Nat.div_le_self _ _
  rw [IntWalk.u64_in _ (by omega)]; simp
theorem be_cons_cells (k n q : Nat) (hq : q = n / 256 ^ k) : (#[Value.int .u8 ((q : Int) % 256)] : Array Value).toList ++ cellsB (be k n) = cellsB (be (k + 1) n) := by
  rw [be_cons, ← hq, byte_mod]; rfl
set_option maxRecDepth 100000 in
set_option maxHeartbeats 400000 in
theorem refNum_any (n s : Nat) (w : World) (hn : n < 18446744073709551616) (h1 : 1 ≤ s) (h2 : s ≤ 8) : Calls Try.prog 25 #[.int .u64 n, .int .i64 s] w fun e w' => ∃ v', e = .returned v' ∧ Mine w' w.heap.size 5 v' (cellsB (be s n)) ∧ Below w.heap.size w w' := by
  obtain ⟨i, hi, hz0, hz1, hz2⟩ := info_parts info_u8
  have Hn := Kept.mk hn
  clear hn
  have hs1 : decide ((s : Int) ≤ 8) = true := by simp; omega
  go_enter Try.func25, Try.ntmps25
  go_wp2_with fail
  go_loopw [0, 5, 6] (fun nv ov iv wr => ∃ k q : Nat, k ≤ s ∧ iv = .int .i64 k ∧ nv = .int .u64 (q : Int) ∧ q = n / 256 ^ k ∧ Mine wr w.heap.size 5 ov (cellsB (be k n)) ∧ Below w.heap.size w wr) (fun _ _ i _ => s - (intOf i).toNat)
  case atStart => exact ⟨0, n, Nat.zero_le _, rfl, rfl, by simp, Mine.empty w _ 5 (Nat.le_refl _), (Below.refl _ _).alloc (Nat.le_refl _) _⟩
  case round =>
    obtain ⟨k, q, hk, rfl, rfl, hq, hown, hbel⟩ := hrel
    have Hq := Lib.hid hq
    clear hq
    have hsz := hbel.size
    by_cases hlt : k < s
    · go_wp2_with (at_builtin; refine wpList_append_rd rfl _ _ 23 rfl w.heap.size 5 i _ 1 Try.underlying23 hi hz0 hz1 hz2 rfl _ _ rfl (Mine.lit wr w.heap.size 5 _ 1 hsz rfl (by unfold maxLen; omega)) wr.heap.size _ _ rfl (hown.rd.alloc (Nat.le_refl _) _) (cellsB_one _) (by rw [cellsB_length, be_length]; simp; omega) (by unfold maxLen; rw [cellsB_length, be_length]; simp; omega) (by simp; omega) ?_; intro v' w2 hown2 hbel2 _ _)
      go_roundw
      case rel => 
        refine ⟨k + 1, q / 256, by omega, by go_num, quo_step n k q Hn.out Hq.out, ?_, ?_, ?_⟩
        · rw [Hq.out, Nat.div_div_eq_div_mul, Nat.pow_succ]
        · rw [← be_cons_cells k n q Hq.out]
          exact hown2
        · exact (hbel.alloc hsz _).trans hbel2
      case measure => simp [intOf]; omega
    · have : k = s := by omega
      subst this
      have hf : decide ((k : Int) < k) = false := by simp
      go_wp2_with fail
      go_ret
      exact ⟨_, rfl, hown, hbel⟩
set_option maxRecDepth 100000 in
set_option maxHeartbeats 400000 in
theorem refPut_any (A : Option Addr) (c : Nat) (l : List UInt8) (n s : Nat) (w : World) (B : Nat) (hr : Rd w B (.slice A l.length c) (cellsB l)) (hB : B ≤ w.heap.size) (hl : l.length ≤ 100000000)
   (hn : n < 18446744073709551616) (h1 : 1 ≤ s) (h2 : s ≤ 8) :
    Calls Try.prog 20 #[.slice A l.length c, .int .u64 n, .int .i64 s] w fun e w' => ∃ v', e = .returned v' ∧ Mine w' w.heap.size 5 v' (cellsB (l ++ be s n)) ∧ Below w.heap.size w w' := by
  obtain ⟨i, hi, hz0, hz1, hz2⟩ := info_parts info_u8
  have Hn := Kept.mk hn
  clear hn
  go_enter Try.func20, Try.ntmps20
  go_wp2_with (first 
    | (go_at_call 25; refine (refNum_any n s _ Hn.out h1 h2).mono ?_; rintro e w3 ⟨v3, rfl, hown3, hbel3⟩)
    | (at_builtin; refine wpList_append_rd rfl (.tmp 7) _ 23 rfl w.heap.size 5 i _ 1 Try.underlying23 hi hz0 hz1 hz2 rfl _ [] rfl (Mine.empty w _ 5 (Nat.le_refl _)) B _ _ rfl (hr.alloc hB _) (cellsB_one _) (by rw [cellsB_length]; simp; omega) (by unfold maxLen; rw [cellsB_length]; simp; omega) (by simp) ?_; intro v1 w1 hown1 hbel1 _ _)
    | (at_builtin; refine wpList_append_rd rfl (.tmp 9) _ 23 rfl w.heap.size 5 i _ 1 Try.underlying23 hi hz0 hz1 hz2 rfl _ _ rfl (hown1.kept hbel3) _ _ _ rfl hown3.rd (cellsB_one _) (by rw [List.nil_append, cellsB_length, cellsB_length, be_length]; omega) (by unfold maxLen; rw [List.nil_append, cellsB_length, cellsB_length, be_length]; omega) (by have := hbel1.size; have := hbel3.size; simp at *; omega) ?_; intro v4 w4 hown4 hbel4 _ _))
  go_ret
  rw [List.nil_append, ← cellsB_append] at hown4
  refine ⟨_, rfl, hown4, ((((Below.refl _ _).alloc (Nat.le_refl _) _).trans hbel1).trans (hbel3.mono ?_)).trans hbel4⟩
  have := hbel1.size; simp at this; omega

end Go.Proofs.Ytcandokefhbneaa
