/-
  What the statements of many layers share: what a slice of bytes' elements are, and 'Few' of layer 1, by contract.
-/
import Derived.Test.YtcandokefhbneaaRows
import Derived.Test.YtcandokefhbneaaWords
import Derived.WalkLawsBesides
import Derived.Lib.Hide
namespace Go.Proofs.Ytcandokefhbneaa
open Go.RowKit

theorem info_u8 : (Try.prog.info? 5).map (fun i => (i.zero, i.size, i.bytes)) = some (some (.int .u8 0), 1, 1) := by kernel_rfl
theorem i64_of_wf {n : Int} (h : (Lit.int .i64 n).wf = true) : -9223372036854775808 ≤ n ∧ n ≤ 9223372036854775807 := by
  simpa [Lit.wf, IntKind.min, IntKind.max, IntKind.bits, IntKind.signed] using h

set_option maxRecDepth 100000 in
set_option maxHeartbeats 400000 in
theorem few_any (v : Value) (l : List UInt8) (most : Nat) (w : World) (B : Nat) (hr : Rd w B v (cellsB l)) (hB : B ≤ w.heap.size) (hm : most ≤ 1000000) :
    Calls Try.prog 7 #[v, .int .i64 (most : Int)] w fun e w' => ∃ v', e = .returned v' ∧ Mine w' w.heap.size 5 v' (cellsB (l.take most)) ∧ Below w.heap.size w w' := by
  obtain ⟨i, hi, hz0, hz1, hz2⟩ := info_parts info_u8
  obtain ⟨A, c, rfl, g1, g2, hr⟩ := hr.bytes
  have hle : (cellsB (l.take most)).length ≤ most := by rw [cellsB_length]; simp; omega
  by_cases hlt : most < l.length
  · have hcut := (hr.upto (hi := most) (by omega)).alloc hB (.cells #[] 5)
    rw [cellsB_take] at hcut
    go_enter Try.func7, Try.ntmps7
    go_wp2_with (at_builtin; refine wpList_append_rd rfl _ _ 23 rfl w.heap.size 5 i _ 1 Try.underlying23 hi hz0 hz1 hz2 rfl _ [] rfl (Mine.empty w _ 5 (Nat.le_refl _)) B _ _ rfl hcut (cellsB_one _) (by simp; omega) (by unfold maxLen; simp; omega) (by simp) ?_; intro v' w' hown hbel _ _)
    go_ret
    exact ⟨_, rfl, hown, ((Below.refl _ _).alloc (Nat.le_refl _) _).trans hbel⟩
  · have hcut := hr.alloc hB (.cells #[] 5)
    have ht : l.take most = l := List.take_of_length_le (by omega)
    rw [ht] at hle ⊢
    clear ht
    go_enter Try.func7, Try.ntmps7
    go_wp2_with (at_builtin; refine wpList_append_rd rfl _ _ 23 rfl w.heap.size 5 i _ 1 Try.underlying23 hi hz0 hz1 hz2 rfl _ [] rfl (Mine.empty w _ 5 (Nat.le_refl _)) B _ _ rfl hcut (cellsB_one _) (by simp; omega) (by unfold maxLen; simp; omega) (by simp) ?_; intro v' w' hown hbel _ _)
    go_ret
    exact ⟨_, rfl, hown, ((Below.refl _ _).alloc (Nat.le_refl _) _).trans hbel⟩

/-- Few, the memory behind it. -/
theorem few_cut (most : Nat) (v : Value) (l : List UInt8) (w : World) (B : Nat) (hr : Rd w B v (cellsB l)) (hB : B ≤ w.heap.size) (hm : most ≤ 1000000) : ∃ m : List UInt8, m.length ≤ most ∧
    Calls Try.prog 7 #[v, .int .i64 (most : Int)] w fun e w' => ∃ A c, e = .returned (.slice A m.length c) ∧ m.length ≤ c ∧ Rd w' w'.heap.size (.slice A m.length c) (cellsB m) ∧ Below w.heap.size w w' := by
  refine ⟨l.take most, by simp; omega, (few_any v l most w B hr hB hm).mono ?_⟩
  rintro e w' ⟨v', rfl, h1, h2⟩
  obtain ⟨A, c, rfl, g1, _, g2⟩ := h1.rd.bytes
  exact ⟨A, c, rfl, g1, g2, h2⟩
/-- The bytes of a constant text, as '[]byte("..")' lays them. -/
theorem rd_const (w : World) (e : TypeId) (m : Nat × Nat) (l : List UInt8) (h : l.length ≤ maxLen) :
    Rd (w.alloc (.cells (cellsB l).toArray e m)) (w.heap.size + 1) (.slice (some ⟨w.heap.size, 0, none⟩) l.length l.length) (cellsB l) := by
  refine ⟨some ⟨w.heap.size, 0, none⟩, l.length, by rw [cellsB_length], by rw [cellsB_length]; exact Nat.le_refl _, h, (fun h => by cases h), fun _ => ⟨w.heap.size, 0, rfl, Nat.lt_succ_self _, fun j u hu => ?_⟩⟩
  rw [Nat.zero_add, World.cell?_alloc_mark]
  simpa using hu
end Go.Proofs.Ytcandokefhbneaa
