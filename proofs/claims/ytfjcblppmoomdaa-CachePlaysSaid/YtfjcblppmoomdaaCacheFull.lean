/-
  A sector of one byte, as the laws of layer 5 make it: its contract.
-/
import Derived.Test.YtfjcblppmoomdaaCacheJ
namespace Go.Proofs.Ytfjcblppmoomdaa
open Go.RowKit
theorem cinfo_u8 : (Try.prog.info? 5).map (fun i => (i.zero, i.size, i.bytes)) = some (some (.int .u8 0), 1, 1) := by kernel_rfl
set_option maxRecDepth 100000 in
set_option maxHeartbeats 400000 in
theorem cfull_any (b : UInt8) (w : World) : Calls Try.prog 23 #[.int .u8 (b.toNat : Int)] w fun e w' => ∃ g, e = .returned (.slice (some ⟨g, 0, none⟩) 256 256) ∧ w.heap.size ≤ g ∧ w'.heap[g]? = some (.cells (cellsB (List.replicate 256 b)).toArray 5 (0, 0)) ∧ Below w.heap.size w w' := by
  obtain ⟨i, hi, hz0, hz1, hz2⟩ := info_parts cinfo_u8
  have hmk := run_makeSlice (P := Try.prog) w 51 5 i _ Try.underlying51 hi hz0 .i64 .i64 256 256 (by omega) (by omega) (by rw [hz1]; decide) (by rw [hz2]; decide) (by omega)
  rw [hz1] at hmk
  have hcl : (Value.int .u8 0).cells = Array.replicate 1 (Value.int .u8 0) := rfl
  have h256 : (256 : Int).toNat = 256 := rfl
  rw [hcl, madeCells_all _ (.int .u8 0) 1 _ (by omega) rfl, h256] at hmk
  have hrep : List.replicate (256 * 1) (Value.int .u8 0) = cellsB (upTo256 b 0) := by
    rw [Nat.mul_one]
    unfold upTo256
    rw [List.replicate_zero, List.nil_append, cellsB_replicate]
    rfl
  rw [hrep] at hmk
  have hall := upTo256_all b
  have hset := upTo256_set b
  have hlen := upTo256_length b
  obtain ⟨u, hu⟩ : ∃ u, u = upTo256 b := ⟨_, rfl⟩
  rw [← hu] at hmk hall hset hlen
  have Hall := Lib.hid hall
  have Hset := Lib.hid hset
  have Hlen := Lib.hid hlen
  have Hmk := Lib.hid hmk
  rw [← hall]
  clear hall hset hlen hmk hrep hcl h256 hu hz0 hz1 hz2 hi
  go_enter Try.func23, Try.ntmps23
  go_wp2_with ((with_reducible refine wpList_run (o := ⟨some 5, .makeSlice 51 (.const (.int .i64 256)) (.const (.int .i64 256)), _, _, _, none⟩) rfl (.slice (some ⟨w.heap.size, 0, none⟩) 256 256) (w.alloc (.cells (cellsB (u 0)).toArray 5)) ?_ ?_); exact exec_makeSlice (t := 51) (x := .const (.int .i64 256)) (y := .const (.int .i64 256)) rfl (u := .int .i64 256) rfl (v := .int .i64 256) rfl Hmk.out)
  go_loopw [4] (fun iv wr => ∃ k : Nat, k ≤ 256 ∧ iv = .int .i64 (k : Int) ∧ wr.heap[w.heap.size]? = some (.cells (cellsB (u k)).toArray 5 (0, 0)) ∧ Below w.heap.size w wr) (fun iv _ => 256 - (intOf iv).toNat)
  case atStart => exact ⟨0, by omega, rfl, heap_alloc_last _ _, (Below.refl _ _).alloc (Nat.le_refl _) _⟩
  case round =>
    obtain ⟨k, hk, rfl, hg, hb⟩ := hrel
    by_cases hlt : k < 256
    · have hlen := Hlen.out k hk
      obtain ⟨x, hcell⟩ : ∃ x, wr.cell? ⟨w.heap.size, k, none⟩ = some x := by
        refine ⟨.int .u8 (((u k)[k]'(by omega)).toNat : Int), ?_⟩
        rw [cell_of_row wr w.heap.size k _ 5 (0, 0) hg, List.getElem?_toArray]
        exact cellsB_at _ _ (by omega)
      have hfr : wr.frozen? ⟨w.heap.size, k, none⟩ = false := frozen_of_row wr w.heap.size k _ 5 hg
      have t1 : decide ((k : Int) < 256) = true := by simp; omega
      have hg2 : (wr.setCell ⟨w.heap.size, k, none⟩ (.int .u8 (b.toNat : Int))).heap[w.heap.size]? = some (.cells (cellsB (u (k + 1))).toArray 5 (0, 0)) := by
        rw [← Hset.out k hlt]
        have := heap_setCell_same wr w.heap.size k _ 5 (.int .u8 (b.toNat : Int)) hg
        simpa using this
      have Hg2 := Lib.hid hg2
      have Hk := Kept.mk hk
      have Hlt := Kept.mk hlt
      clear hg hg2 hlen hk
      go_wp2_with fail
      go_roundw
      case rel => exact ⟨k + 1, Hlt.out, by go_num, Hg2.out, hb.setCell (p := ⟨w.heap.size, k, none⟩) (Nat.le_refl _) _⟩
      case measure => simp [intOf]; have := Hlt.out; omega
    · have : k = 256 := by omega
      subst this
      go_wp2_with fail
      go_ret
      rw [Hall.out] at hg ⊢
      exact ⟨_, rfl, Nat.le_refl _, hg, hb⟩
end Go.Proofs.Ytfjcblppmoomdaa
