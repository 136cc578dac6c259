/-
  Which addresses are in which prefixes: the law's walk.
-/
import Derived.Test.YtobbjgbojdoigaaDoorAdQ
import Derived.Test.YtobbjgbojdoigaaDoorAdT
import Derived.Test.YtobbjgbojdoigaaDoorAdU
namespace Go.Proofs.YtobbjgbojdoigaaDoor
open Go.RowKit
set_option maxRecDepth 100000 in
theorem addrIn_walk (a : Ad) (p : Pf) (w : World) (ha : a.Wide) (hp : p.a.Wide) (h0 : -9223372036854775808 ≤ p.bits) (h1 : p.bits ≤ 9223372036854775807) (hV : Vars w) :
    Calls Tryd.prog 5 #[adV a, pfV p] w fun e w' => e = .returned (.bool true) ∧ Below w.heap.size w w' := by
  have hz : ∀ w, (zeroValue 36).run Tryd.prog w = .ok (.agg (pfC Pf.zero).toArray) w := zero_pf
  have hmask := fun w => rfMask_any a p.bits w ha h0 h1
  have hin := fun w => adIn_any a p w ha hp h0 h1
  obtain ⟨w1, hw1⟩ : ∃ w1, w1 = (w.alloc (.cells (adC a).toArray 24)).alloc (.cells (pfC p).toArray 36) := ⟨_, rfl⟩
  have hA0 : w1.heap[w.heap.size]? = some (.cells (adC a).toArray 24 (0, 0)) := by
    rw [hw1]; exact (heap_alloc_old _ _ (by simp)).trans (heap_alloc_last w _)
  have hP0 : w1.heap[w.heap.size + 1]? = some (.cells (pfC p).toArray 36 (0, 0)) := by
    rw [hw1]
    have := heap_alloc_last (w.alloc (.cells (adC a).toArray 24)) (.cells (pfC p).toArray 36)
    rwa [show (w.alloc (.cells (adC a).toArray 24)).heap.size = w.heap.size + 1 by simp] at this
  have hs1 : w1.heap.size = w.heap.size + 2 := by rw [hw1]; simp
  have hb1 : Below w.heap.size w w1 := by rw [hw1]; exact up_alloc (up_alloc (Below.refl _ w) _) _
  have HW : Hid (∀ wr, Below w1.heap.size w1 wr → wr.heap[w.heap.size]? = some (.cells (adC a).toArray 24 (0, 0)) ∧ wr.heap[w.heap.size + 1]? = some (.cells (pfC p).toArray 36 (0, 0)) ∧ wr.cell? ⟨w.heap.size + 1, 17, none⟩ = some (.int .i64 p.bits) ∧ wr.rangeAt (w.heap.size + 1) 0 (pfC p)) := Lib.hid fun wr hb => by
    have h2 := (hb.block (w.heap.size + 1) (by omega)).trans hP0
    exact ⟨(hb.block w.heap.size (by omega)).trans hA0, h2, pfC_bits hp h2, rangeAt_block h2 fun j u hu => by rw [Nat.zero_add]; exact hu⟩
  have HU : Hid (∀ wr, Below w1.heap.size w1 wr → Below w.heap.size w wr) := Lib.hid fun wr hb => up hb1 hb
  have HLv : Hid (∀ wr, Below w1.heap.size w1 wr → Calls Tryd.prog 15 #[] wr fun e w' => e = .returned (.bool true) ∧ Below wr.heap.size wr w') := Lib.hid fun wr hb => lives_any wr (hV.up (up hb1 hb))
  have hsz := info_adA ha
  have hsp := info_pfA hp
  have hil := info_pf hp
  obtain ⟨hw10, hw11, hbits, _⟩ := HW.out w1 (Below.refl _ _)
  cases hm : maskOf a p.bits with
  | none =>
    rw [hm] at hmask
    rw [inP_none hm] at hin
    have hi0 := info_pfA (p := Pf.zero) rfl
    have hza := all_oneCell_toArray (pfC_one Pf.zero)
    simp only [Option.getD_none, Option.isSome_none] at hmask
    have Hm := Lib.hid hmask
    have Hin := Lib.hid hin
    clear hmask hm hin hA0 hP0 hs1 hb1 ha hp hV
    subst hw1
    simp only [pfV, adV] at Hm Hin ⊢
    generalize adC a = C at *
    generalize pfC p = D at *
    generalize pfC Pf.zero = Z at *
    go_enter Tryd.func5, Tryd.ntmps5
    go_wp2_with (first
      | ((with_reducible refine wpList_load_row (o := ⟨some 8, .load 24 (.tmp 2), _, _, _, _⟩) rfl 24 (.tmp 2) rfl w.heap.size ?_ 24 C.toArray (0, 0) _ hw10 Tryd.underlying24 rfl hsz ?_); exact rfl)
      | (go_at_call 17; refine (Hm.out _).mono ?_; rintro _ w2 ⟨rfl, hb2⟩; have hb3 := up_alloc hb2 (.cells Z.toArray 36); obtain ⟨hw20, hw21, _, _⟩ := HW.out _ hb3)
      | (with_reducible refine wpList_alloc_zero (o := ⟨some 5, .alloc 36, _, _, _, _⟩) rfl 36 rfl Z.toArray hz ?_)
      | ((with_reducible refine wpList_store_new (o := ⟨none, .store 36 (.tmp 5) (.tmp 12), _, _, _, _⟩) rfl 36 (.tmp 5) (.tmp 12) rfl Z.toArray Z.toArray ?_ ?_ hi0 rfl hza ?_); exact rfl; exact rfl)
      | ((with_reducible refine wpList_load_row (o := ⟨some 14, .load 24 (.tmp 2), _, _, _, _⟩) rfl 24 (.tmp 2) rfl w.heap.size ?_ 24 C.toArray (0, 0) _ hw20 Tryd.underlying24 rfl hsz ?_); exact rfl)
      | ((with_reducible refine wpList_load_row (o := ⟨some 15, .load 36 (.tmp 3), _, _, _, _⟩) rfl 36 (.tmp 3) rfl (w.heap.size + 1) ?_ 36 D.toArray (0, 0) _ hw21 Tryd.underlying36 rfl hsp ?_); exact rfl)
      | (go_at_call 18; refine (Hin.out _).mono ?_; rintro _ w4 ⟨rfl, hb4⟩)
      | (go_at_call 15; refine (HLv.out _ (up hb3 hb4)).mono ?_; rintro _ w5 ⟨rfl, hb5⟩))
    go_ret
    exact ⟨rfl, HU.out _ (up (up hb3 hb4) hb5)⟩
  | some q =>
    have hqw : q.a.Wide := by
      obtain ⟨_, _, _, rfl⟩ := maskOf_some hm
      exact maskA_wide ha _
    rw [hm] at hmask
    have hinq : inP a p = decide (q = p) := by
      rw [inP, hm, Bool.eq_iff_iff]
      simp
    rw [hinq] at hin
    have heq := eql_pf q p hqw hp
    have hi0 := info_pfA hqw
    have hiq := info_pf hqw
    have hzq : (pfC Pf.zero).toArray.size = (pfC q).toArray.size := by rw [List.size_toArray, List.size_toArray, pfC_length hqw]; rfl
    have hza := all_oneCell_toArray (pfC_one q)
    have HQ : Hid (∀ w2 wr : World, Below (w2.alloc (.cells (pfC q).toArray 36)).heap.size (w2.alloc (.cells (pfC q).toArray 36)) wr → wr.rangeAt w2.heap.size 0 (pfC q)) := Lib.hid fun w2 wr hb => rangeAt_block ((hb.block w2.heap.size (by simp)).trans (heap_alloc_last w2 _)) fun j u hu => by rw [Nat.zero_add]; exact hu
    simp only [Option.getD_some, Option.isSome_some] at hmask
    have Hm := Lib.hid hmask
    have Hin := Lib.hid hin
    clear hmask hm hin hA0 hP0 hs1 hb1 ha hp hV hqw hinq
    subst hw1
    simp only [pfV, adV] at Hm Hin heq ⊢
    generalize decide (q = p) = b at *
    generalize adC a = C at *
    generalize pfC p = D at *
    generalize pfC q = E at *
    generalize pfC Pf.zero = Z at *
    cases b
    all_goals
      go_enter Tryd.func5, Tryd.ntmps5
      go_wp2_with (first
        | ((with_reducible refine wpList_load_row (o := ⟨some 8, .load 24 (.tmp 2), _, _, _, _⟩) rfl 24 (.tmp 2) rfl w.heap.size ?_ 24 C.toArray (0, 0) _ hw10 Tryd.underlying24 rfl hsz ?_); exact rfl)
        | (go_at_call 17; refine (Hm.out _).mono ?_; rintro _ w2 ⟨rfl, hb2⟩; have hb3 := up_alloc hb2 (.cells E.toArray 36); obtain ⟨hw20, hw21, _, _⟩ := HW.out _ hb3)
        | (with_reducible refine wpList_alloc_zero (o := ⟨some 5, .alloc 36, _, _, _, _⟩) rfl 36 rfl Z.toArray hz ?_)
        | ((with_reducible refine wpList_store_new (o := ⟨none, .store 36 (.tmp 5) (.tmp 12), _, _, _, _⟩) rfl 36 (.tmp 5) (.tmp 12) rfl Z.toArray E.toArray ?_ ?_ hi0 hzq hza ?_); exact rfl; exact rfl)
        | ((with_reducible refine wpList_load_row (o := ⟨some 14, .load 24 (.tmp 2), _, _, _, _⟩) rfl 24 (.tmp 2) rfl w.heap.size ?_ 24 C.toArray (0, 0) _ hw20 Tryd.underlying24 rfl hsz ?_); exact rfl)
        | ((with_reducible refine wpList_load_row (o := ⟨some 15, .load 36 (.tmp 3), _, _, _, _⟩) rfl 36 (.tmp 3) rfl (w.heap.size + 1) ?_ 36 D.toArray (0, 0) _ hw21 Tryd.underlying36 rfl hsp ?_); exact rfl)
        | (go_at_call 18; refine (Hin.out _).mono ?_; rintro _ w4 ⟨rfl, hb4⟩; have k3 := (HW.out _ (up hb3 hb4)).2.2.2; have k4 := HQ.out w2 w4 hb4)
        | ((with_reducible refine wpList_load_mid_g (op := ⟨some 19, .load 36 (.tmp 5), _, _, _, _⟩) ?_ 36 (.tmp 5) rfl w2.heap.size 0 ?_ E _ k4 Tryd.underlying36 rfl hiq ?_); rfl; exact rfl)
        | ((with_reducible refine wpList_load_mid_g (op := ⟨some 20, .load 36 (.tmp 3), _, _, _, _⟩) ?_ 36 (.tmp 3) rfl (w.heap.size + 1) 0 ?_ D _ k3 Tryd.underlying36 rfl hil ?_); rfl; exact rfl)
        | (go_at_call 15; refine (HLv.out _ (up hb3 hb4)).mono ?_; rintro _ w5 ⟨rfl, hb5⟩))
      go_ret
      exact ⟨rfl, HU.out _ (up (up hb3 hb4) hb5)⟩
end Go.Proofs.YtobbjgbojdoigaaDoor
