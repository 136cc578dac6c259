/-
  A space: what may not be given (held), Alloc, Room: contracts.
-/
import Derived.Test.YtllhilnajjohiaaSpE
namespace Go.Proofs.Ytllhilnajjohiaa
open Go.RowKit
/-- The first 8 k pages of both, behind them those of the first alone. -/
def upBoth (f g : Nat → Bool) (k : Nat) : Nat → Bool := fun i => f i || (decide (i < 8 * k) && g i)
theorem upBoth_zero (f g : Nat → Bool) : upBoth f g 0 = f := by
  funext i
  simp [upBoth]
theorem upBoth_all (f g : Nat → Bool) : setC (upBoth f g 200) = setC (both f g) := by
  unfold setC
  rw [setB_congr (f := upBoth f g 200) (g := both f g) (m := 200) fun i hi => by simp [upBoth, both, hi]]
theorem upBoth_byte (f g : Nat → Bool) {k j : Nat} (hj : k ≤ j) : byteN (upBoth f g k) j = byteN f j := byteN_congr fun i hi => by
  simp [upBoth]
  intro h
  omega
theorem upBoth_step (f g : Nat → Bool) {k : Nat} (hk : k < 200) : (setC (upBoth f g k)).set k (.int .u8 (byteN (both f g) k : Int)) = setC (upBoth f g (k + 1)) := by
  apply List.ext_getElem?
  intro j
  by_cases hj : j < 200
  · by_cases h : j = k
    · subst h
      rw [List.getElem?_set_self (by rw [setC_length]; exact hk), setC_get _ hk]
      congr 3
      refine byteN_congr fun i hi => ?_
      simp only [upBoth, both]
      rw [show decide (8 * j + i < 8 * (j + 1)) = true by simp; omega, Bool.true_and]
    · rw [List.getElem?_set_ne (by omega), setC_get _ hj, setC_get _ hj]
      congr 3
      refine byteN_congr fun i hi => ?_
      simp only [upBoth]
      rcases Nat.lt_or_gt_of_ne h with h2 | h2
      · rw [show decide (8 * j + i < 8 * k) = true by simp; omega, show decide (8 * j + i < 8 * (k + 1)) = true by simp; omega]
      · rw [show decide (8 * j + i < 8 * k) = false by simp; omega, show decide (8 * j + i < 8 * (k + 1)) = false by simp; omega]
  · rw [List.getElem?_eq_none (by simp [setC_length]; omega), List.getElem?_eq_none (by simp [setC_length]; omega)]
section
variable {w w' : World} {a : Nat} {x : Spc}
set_option maxHeartbeats 1000000 in
set_option maxRecDepth 100000 in
theorem held_any (h : SpcIs w a x) : Calls Try.prog 29 #[spAt a] w fun e w' => e = .returned (.agg (setC (both x.now x.sure)).toArray) ∧ Below w.heap.size w w' := by
  obtain ⟨Z, hZ, hz⟩ := zero_set
  have hi := info_setC x.now
  have hi2 := info_setA x.now
  have hi3 := info_setC x.sure
  have hx : Z.toArray.size = (setC x.now).toArray.size := by simp [hZ, setC_length]
  have hone : (setC x.now).toArray.all (·.oneCell') = true := all_oneCell_toArray (setC_one _)
  have hr := World.rangeAt_alloc h.rNow (.cells Z.toArray 49)
  have hr2 := World.rangeAt_alloc (World.rangeAt_alloc h.rSure (.cells Z.toArray 49)) (.cells (setC x.now).toArray 49)
  have hlt := h.lt
  have hb0 := (Below.refl w.heap.size w).alloc (Nat.le_refl _) (.cells Z.toArray 49)
  have hb := hb0.alloc (by simp) (.cells (setC x.now).toArray 49)
  have hg := heap_alloc_last (w.alloc (.cells Z.toArray 49)) (.cells (setC x.now).toArray 49)
  have hg0 := (heap_alloc_old (w.alloc (.cells Z.toArray 49)) (.cells (setC x.now).toArray 49) (show w.heap.size < (w.alloc (.cells Z.toArray 49)).heap.size by simp)).trans (heap_alloc_last w _)
  obtain ⟨f, hf⟩ : ∃ f, f = x.now := ⟨_, rfl⟩
  obtain ⟨g, hgg⟩ : ∃ g, g = x.sure := ⟨_, rfl⟩
  rw [← hf] at hi hi2 hx hone hr hr2 hb hg hg0 ⊢
  rw [← hgg] at hr2 hi3 ⊢
  have Hb := Lib.hid hb
  have Hg := Lib.hid hg
  have Hg0 := Lib.hid hg0
  clear h hb0 hb hg hg0 hf hgg
  go_enter Try.func29, Try.ntmps29
  go_wp2_with (first
    | (with_reducible refine wpList_alloc_zero (o := ⟨some 2, .alloc 49, _, _, _, _⟩) rfl 49 rfl Z.toArray hz ?_)
    | (with_reducible refine wpList_alloc_zero (o := ⟨some 3, .alloc 49, _, _, _, _⟩) rfl 49 rfl Z.toArray hz ?_)
    | ((with_reducible refine wpList_load_mid (op := ⟨some 9, .load 49 (.tmp 8), _, _, _, _⟩) rfl 49 (.tmp 8) rfl a 1 ?_ (setC f) (.array 200 5) hr Try.underlying49 rfl hi ?_); exact rfl)
    | ((with_reducible refine wpList_store_new (o := ⟨none, .store 49 (.tmp 3) (.tmp 9), _, _, _, _⟩) rfl 49 (.tmp 3) (.tmp 9) rfl Z.toArray (setC f).toArray ?_ ?_ hi2 hx hone ?_); exact rfl; exact rfl)
    | ((with_reducible refine wpList_load_mid (op := ⟨some 13, .load 49 (.tmp 12), _, _, _, _⟩) rfl 49 (.tmp 12) rfl a 201 ?_ (setC g) (.array 200 5) hr2 Try.underlying49 rfl hi3 ?_); exact rfl))
  have hg' := Hg.out
  rw [show (w.alloc (.cells Z.toArray 49)).heap.size = w.heap.size + 1 by simp] at hg'
  have Hg' := Lib.hid hg'
  have hsz : w.heap.size + 1 < ((w.alloc (.cells Z.toArray 49)).alloc (.cells (setC f).toArray 49)).heap.size := by simp
  have Hsz := Lib.hid hsz
  generalize hw0 : (w.alloc (.cells Z.toArray 49)).alloc (.cells (setC f).toArray 49) = w0 at Hb Hg0 Hg' Hsz hr2 ⊢
  clear Hg hr hg' hsz hw0 hr2
  go_loopw [14] (fun iv wr => ∃ k : Nat, k ≤ 200 ∧ iv = .int .i64 (k : Int) ∧ Hid (wr.heap[w.heap.size + 1]? = some (.cells (setC (upBoth f g k)).toArray 49 (0, 0)) ∧ wr.heap[w.heap.size]? = some (.cells Z.toArray 49 (0, 0)) ∧ Below w.heap.size w wr)) (fun iv _ => 200 - (intOf iv).toNat)
  case atStart => exact ⟨0, by omega, rfl, Lib.hid ⟨by rw [upBoth_zero]; exact Hg'.out, Hg0.out, Hb.out⟩⟩
  case round =>
    obtain ⟨k, hk, rfl, HI⟩ := hrel
    obtain ⟨h1, h0, hb⟩ := HI.out
    by_cases hk2 : k < 200
    · have hc : wr.cell? ⟨w.heap.size + 1, k, none⟩ = some (.int .u8 (byteN f k : Int)) := by
        rw [cell_of_row wr _ k _ _ (0, 0) h1, List.getElem?_toArray, setC_get _ hk2, upBoth_byte f g (Nat.le_refl _)]
      have hfz : wr.frozen? ⟨w.heap.size + 1, k, none⟩ = false := frozen_of_row wr _ k _ _ h1
      have hix := run_index_one (P := Try.prog) (w := wr) Try.underlying49 Try.underlying5 rfl (by kernel_rfl) (setC g).toArray .i64 hk2 (v := .int .u8 (byteN g k : Int)) (by rw [List.getElem?_toArray]; exact setC_get g hk2)
      have hbo := bit_both f g k
      have hnew : Hid (∀ y : Nat, y = byteN (both f g) k → (wr.setCell ⟨w.heap.size + 1, k, none⟩ (.int .u8 (y : Int))).heap[w.heap.size + 1]? = some (.cells (setC (upBoth f g (k + 1))).toArray 49 (0, 0)) ∧ (wr.setCell ⟨w.heap.size + 1, k, none⟩ (.int .u8 (y : Int))).heap[w.heap.size]? = some (.cells Z.toArray 49 (0, 0)) ∧ Below w.heap.size w (wr.setCell ⟨w.heap.size + 1, k, none⟩ (.int .u8 (y : Int)))) := by
        refine Lib.hid ?_
        intro y hy
        subst hy
        refine ⟨?_, ?_, hb.setCell (by simp) _⟩
        · rw [heap_setCell_same wr _ k _ _ _ h1, List.setIfInBounds_toArray, upBoth_step f g hk2]
        · rw [heap_setCell_other wr _ _ _ (by simp)]
          exact h0
      obtain ⟨p, hp⟩ : ∃ p, p = byteN f k := ⟨_, rfl⟩
      obtain ⟨q, hq⟩ : ∃ q, q = byteN g k := ⟨_, rfl⟩
      obtain ⟨y, hy⟩ : ∃ y, y = byteN (both f g) k := ⟨_, rfl⟩
      rw [← hp] at hc hbo
      rw [← hq] at hix hbo
      rw [← hy] at hbo
      have e5 : (0 : Int) ≤ (k : Int) := by omega
      have e6 : (k : Int) < 200 := by omega
      have e7 : (k : Int).toNat = k := by simp
      have Hn := Lib.hid (hnew.out y hy)
      clear hp hq hy hnew h1 h0 hb HI
      go_wp2_with ((with_reducible refine wpList_run (o := ⟨some 17, .index 49 (.tmp 13) (.tmp 14), _, _, _, none⟩) rfl (.int .u8 (q : Int)) wr ?_ ?_); exact exec_index rfl rfl rfl hix)
      go_roundw
      case rel => exact ⟨k + 1, by omega, by go_num, Hn⟩
      case measure => simp [intOf]; omega
    · have : k = 200 := by omega
      subst this
      rw [upBoth_all] at h1
      have hr : wr.rangeAt (w.heap.size + 1) 0 (setC (both f g)) := rangeAt_block h1 fun j u hu => by rw [Nat.zero_add]; exact hu
      have hi4 := info_setC (both f g)
      obtain ⟨w1, hrun, e1, e2, e3⟩ := store_agg (P := Try.prog) h0 (setC_one (both f g)) (o := 0) (by rw [hZ, setC_length]; omega) hi4
      rw [Nat.zero_add, List.take_zero, List.nil_append, List.drop_of_length_le (by rw [hZ, setC_length]; omega), List.append_nil] at e1
      have hfin : Below w.heap.size w w1 := hb.grown e2 hb.size fun g hg => by injection hg with hg; omega
      have Hf := Lib.hid hfin
      have He1 := Lib.hid e1
      obtain ⟨Y, hY⟩ : ∃ Y, Y = setC (both f g) := ⟨_, rfl⟩
      rw [← hY] at hr hi4 hrun He1
      have HY := Lib.hid hY
      have hsz2 : Y.toArray.size = 200 := by rw [hY, List.size_toArray, setC_length]
      clear hfin e1 e2 e3 h1 h0 hb HI hY
      go_wp2_with (first
        | ((with_reducible refine wpList_load_mid (op := ⟨some 25, .load 49 (.tmp 3), _, _, _, _⟩) rfl 49 (.tmp 3) rfl (w.heap.size + 1) 0 ?_ Y (.array 200 5) hr Try.underlying49 rfl hi4 ?_); exact rfl)
        | ((with_reducible refine wpList_stored (o := ⟨none, .store 49 (.tmp 2) (.tmp 25), _, _, _, none⟩) rfl 49 (.tmp 2) (.tmp 25) rfl (.pointer (some ⟨w.heap.size, 0, none⟩)) (.agg Y.toArray) ?_ ?_ w1 hrun ?_); exact rfl; exact rfl))
      refine bodyPost_ret (v := .agg Y.toArray) ?_ rfl ⟨by rw [HY.out], Hf.out⟩
      exact results_cell_row (p := 2) (ty := 49) (by kernel_rfl) _ _ w.heap.size 49 Y.toArray (0, 0) (.array 200 5) rfl He1.out Try.underlying49 rfl (by rw [info_set, hsz2])
end
end Go.Proofs.Ytllhilnajjohiaa
