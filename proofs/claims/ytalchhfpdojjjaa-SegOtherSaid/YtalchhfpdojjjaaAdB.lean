/-
  An address's bytes, and the address of bytes: contracts, the program's and the document's.
-/
import Derived.Test.YtalchhfpdojjjaaAdA
namespace Go.Proofs.Ytalchhfpdojjjaa
open Go.RowKit
theorem own_slice (a : Ad) (g : Nat) (W : World) : (Instr.sliceAt 22 (.pointer (some ⟨g, 1, none⟩)) (some (.int .i64 ((a.from : Nat) : Int))) none none).run Try.prog W = .ok (.slice (some ⟨g, 1 + a.from, none⟩) (16 - a.from) (16 - a.from)) W := by
  have hal : Try.prog.arrayLen 22 = 16 := by simp [Program.arrayLen, Try.underlying22]
  have hel : Try.prog.elem 22 = 5 := by simp [Program.elem, Try.underlying22]
  have hf : a.from ≤ 12 := by unfold Ad.from; split <;> omega
  rw [run_sliceAt_array_l W 22 _ (by rw [hal, hel]; exact Try.underlying22) .i64 _ (by omega) (by rw [hal]; omega), hel, Try.sizeOf5, hal]
  simp only [Result.andThen_ok, slicedAt, Int.toNat_natCast, Nat.mul_one]
  rw [if_neg (by omega)]
  simp [Addr.add]
theorem own_rd {a : Ad} {w : World} {g : Nat} (ha : a.Wide) (hg : w.heap[g]? = some (.cells (adC a).toArray 24 (0, 0))) : Rd w (g + 1) (.slice (some ⟨g, 1 + a.from, none⟩) (16 - a.from) (16 - a.from)) (cellsB a.own) := by
  have hl : (cellsB a.own).length = 16 - a.from := by rw [cellsB_length, Ad.own, List.length_drop, ha]
  refine ⟨_, 16 - a.from, by rw [hl], by rw [hl]; exact Nat.le_refl _, by unfold maxLen; omega, (fun h => by cases h), fun _ => ⟨g, 1 + a.from, rfl, Nat.lt_succ_self _, fun j u hu => ?_⟩⟩
  rw [Nat.add_assoc]
  refine adC_range hg (a.from + j) u ?_
  rw [Ad.own, ← cellsB_drop, List.getElem?_drop] at hu
  exact hu
set_option maxRecDepth 100000 in
theorem adBytes_any (a : Ad) (w : World) (ha : a.Wide) : Calls Try.prog 15 #[adV a] w fun e w' => ∃ v, e = .returned v ∧ Mine w' w.heap.size 5 v (cellsB a.own) ∧ Below w.heap.size w w' := by
  have hw := heap_alloc_last w (.cells (adC a).toArray 24)
  have hfirst := fun w => adFirst_any a w
  have hsl := own_slice a w.heap.size
  have hsz : (Try.prog.info? 24).map (·.size) = some (adC a).toArray.size := by rw [List.size_toArray, adC_length ha]; kernel_rfl
  rw [adV] at hfirst ⊢
  have hrd := own_rd ha hw
  have hlen : a.own.length ≤ 1000000000 := by rw [Ad.own, List.length_drop, ha]; omega
  have Hf := Lib.hid hfirst
  have Hrd := Lib.hid hrd
  have Hlen := Lib.hid hlen
  obtain ⟨C, hC⟩ : ∃ C, C = (adC a).toArray := ⟨_, rfl⟩
  rw [← hC] at hw Hf Hrd hsz ⊢
  obtain ⟨f, hf⟩ : ∃ f, f = a.from := ⟨_, rfl⟩
  rw [← hf] at hsl Hf Hrd
  obtain ⟨m, hm⟩ : ∃ m, m = 16 - f := ⟨_, rfl⟩
  rw [← hm] at hsl Hrd
  clear hfirst hrd hlen hC hf hm ha
  go_enter Try.func15, Try.ntmps15
  go_wp2_with (first
    | ((with_reducible refine wpList_load_row (o := ⟨some 4, .load 24 (.tmp 1), _, _, _, _⟩) rfl 24 (.tmp 1) rfl w.heap.size ?_ 24 C (0, 0) _ hw Try.underlying24 rfl hsz ?_); exact rfl)
    | (go_at_call 26; refine (Hf.out _).mono ?_; rintro _ w1 ⟨rfl, hb⟩)
    | (go_at_call 14; refine (bytes_one _ a.own 27 w1 _ (Hrd.out.below (hb.mono (by simp))) (by have := hb.size; simp at this; omega) Hlen.out).mono ?_; rintro _ w2 ⟨v, rfl, hv, hb2⟩))
  go_ret
  have hb1 := up (up_alloc (Below.refl _ w) (.cells C 24)) hb
  exact ⟨_, rfl, hv.weaken hb1.size, hb1.trans (hb2.mono hb1.size)⟩
end Go.Proofs.Ytalchhfpdojjjaa
