/-
  Mask: contracts.
-/
import Derived.Test.YtepibdjglfaniaaDoorAdD
namespace Go.Proofs.YtepibdjglfaniaaDoor
open Go.RowKit
set_option maxRecDepth 100000 in
theorem adMask_bad (a : Ad) (bits : Int) (w : World) (ha : a.Wide) (h0 : -9223372036854775808 ≤ bits) (h1 : bits ≤ 9223372036854775807) (h : maskOf a bits = none) :
    Calls Tryd.prog 71 #[adV a, .int .i64 bits] w fun e w' => e = .returned (.tuple #[pfV Pf.zero, .bool false]) ∧ Below w.heap.size w w' := by
  have hz : ∀ w, (zeroValue 37).run Tryd.prog w = .ok (.agg (pfC Pf.zero).toArray) w := zero_pf
  have hfirst := fun w => adFirst_any a w
  have hgood := fun w => adGood_any a w ha
  have hsl := own_slice a w.heap.size
  have hsz := info_adA ha
  have hln := pfC_length (p := Pf.zero) rfl
  have hm : ∃ m, m = 16 - a.from ∧ a.own.length = m := ⟨_, rfl, Ad.own_size ha⟩
  obtain ⟨m, hm, hm2⟩ := hm
  rw [← hm] at hsl
  have hmle : m ≤ 16 := by omega
  have hwm : IntKind.i64.wrap (8 * (m : Int)) = 8 * (m : Int) := IntWalk.i64_in _ (by omega)
  have hw0 := heap_alloc_last w (.cells (adC a).toArray 24)
  have hw1 := heap_alloc_last (w.alloc (.cells (adC a).toArray 24)) (.cells (pfC Pf.zero).toArray 37)
  have hw01 := (heap_alloc_old (w.alloc (.cells (adC a).toArray 24)) (.cells (pfC Pf.zero).toArray 37) (show w.heap.size < _ by simp)).trans hw0
  rw [show (w.alloc (.cells (adC a).toArray 24)).heap.size = w.heap.size + 1 by simp] at hw1
  have hbz := up_alloc (up_alloc (Below.refl w.heap.size w) (.cells (adC a).toArray 24)) (.cells (pfC Pf.zero).toArray 37)
  -- what each of the calls leaves
  have hA : Hid (∀ w1, Below ((w.alloc (.cells (adC a).toArray 24)).alloc (.cells (pfC Pf.zero).toArray 37)).heap.size ((w.alloc (.cells (adC a).toArray 24)).alloc (.cells (pfC Pf.zero).toArray 37)) w1 → w1.heap[w.heap.size]? = some (.cells (adC a).toArray 24 (0, 0))) := Lib.hid fun w1 hb => (hb.block _ (by simp; omega)).trans hw01
  have hB : Hid (∀ w2, Below ((w.alloc (.cells (adC a).toArray 24)).alloc (.cells (pfC Pf.zero).toArray 37)).heap.size ((w.alloc (.cells (adC a).toArray 24)).alloc (.cells (pfC Pf.zero).toArray 37)) w2 →
      ∃ w3, (storeCells ⟨w.heap.size + 1, 0, none⟩ (pfC Pf.zero)).run Tryd.prog w2 = .ok () w3 ∧ PfAt w3 (w.heap.size + 1) Pf.zero ∧ Below w.heap.size w w3) := Lib.hid fun w2 hb => by
    obtain ⟨w3, _, hsc, hat, hgr, _⟩ := store_pf (w := w2) (g := w.heap.size + 1) (a := Pf.zero) (b := Pf.zero) ((hb.block _ (by simp)).trans hw1) rfl rfl
    exact ⟨w3, hsc, hat, grown_below (up hbz hb) hgr (Nat.le_succ _)⟩
  have hbad : a.good = false ∨ (a.good = true ∧ bits < 0) ∨ (a.good = true ∧ 0 ≤ bits ∧ 8 * (m : Int) < bits) := by
    rw [maskOf, hm2] at h
    cases hg : a.good
    · exact Or.inl rfl
    · rw [hg] at h
      split at h
      · cases h
      · rename_i hn
        simp only [true_and] at hn
        rcases Int.lt_or_le bits 0 with hb | hb
        · exact Or.inr (Or.inl ⟨rfl, hb⟩)
        · exact Or.inr (Or.inr ⟨rfl, hb, by omega⟩)
  have Hf := Lib.hid hfirst
  have Hg := Lib.hid hgood
  clear hfirst hgood hw0 hw1 hw01 hbz h hm hm2
  rw [adV] at Hf Hg ⊢
  generalize hC : adC a = C at *
  generalize hZ : pfC Pf.zero = Z at *
  generalize a.good = gd at *
  generalize a.from = fr at *
  clear ha hC hZ
  rcases hbad with rfl | ⟨rfl, hb⟩ | ⟨rfl, hb, hb2⟩
  all_goals
    go_enter Tryd.func71, Tryd.ntmps71
    go_wp2_with (first
      | (with_reducible refine wpList_alloc_zero (o := ⟨some 4, .alloc 37, _, _, _, _⟩) rfl 37 rfl Z.toArray hz ?_)
      | ((with_reducible refine wpList_load_row (o := ⟨some 10, .load 24 (.tmp 2), _, _, _, _⟩) rfl 24 (.tmp 2) rfl w.heap.size ?_ 24 C.toArray (0, 0) _ (hA.out _ (Below.refl _ _)) Tryd.underlying24 rfl hsz ?_); exact rfl)
      | (go_at_call 19; refine (Hf.out _).mono ?_; rintro _ w1 ⟨rfl, hb1⟩; have hw1 := hA.out _ hb1)
      | ((with_reducible refine wpList_load_row (o := ⟨some 13, .load 24 (.tmp 2), _, _, _, _⟩) rfl 24 (.tmp 2) rfl w.heap.size ?_ 24 C.toArray (0, 0) _ hw1 Tryd.underlying24 rfl hsz ?_); exact rfl)
      | (go_at_call 11; refine (Hg.out _).mono ?_; rintro _ w2 ⟨rfl, hb2⟩; obtain ⟨w3, hsc, hat, hbel⟩ := hB.out _ (up hb1 hb2); have HE := Lib.hid (And.intro hat hbel); clear hat hbel))
  all_goals exact bodyPost_ret (ret_pf (p := 4) (q := 5) (by kernel_rfl) rfl HE.out.1 rfl rfl) rfl ⟨rfl, HE.out.2⟩
end Go.Proofs.YtepibdjglfaniaaDoor
