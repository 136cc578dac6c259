/-
  Prefixes of any number of bits: the law's walk.
-/
import Derived.Test.YtobbjgbojdoigaaDoorAdQ
import Derived.Test.YtobbjgbojdoigaaDoorAdT
import Derived.Test.YtobbjgbojdoigaaDoorAdU
namespace Go.Proofs.YtobbjgbojdoigaaDoor
open Go.RowKit
/-- What a prefix in a new block reads as, for as long as the block stays. -/
theorem PfAt.new (x : Pf) (w2 wr : World) (hb : Below (w2.alloc (.cells (pfC x).toArray 36)).heap.size (w2.alloc (.cells (pfC x).toArray 36)) wr) : wr.heap[w2.heap.size]? = some (.cells (pfC x).toArray 36 (0, 0)) ∧ wr.rangeAt w2.heap.size 0 (pfC x) ∧ wr.rangeAt w2.heap.size 0 (adC x.a) := by
  have h := (hb.block w2.heap.size (by simp)).trans (heap_alloc_last w2 (.cells (pfC x).toArray 36))
  exact ⟨h, rangeAt_block h fun j u hu => by rw [Nat.zero_add]; exact hu, pfC_range0 h⟩
set_option maxRecDepth 100000 in
set_option maxHeartbeats 400000 in
theorem addrMasks_none (a : Ad) (bits fewer : Int) (w : World) (ha : a.Wide) (h0 : -9223372036854775808 ≤ bits) (h1 : bits ≤ 9223372036854775807) (hV : Vars w) (hm : maskOf a bits = none) :
    Calls Tryd.prog 4 #[adV a, .int .i64 bits, .int .i64 fewer] w fun e w' => e = .returned (.bool true) ∧ Below w.heap.size w w' := by
  have hz : ∀ w, (zeroValue 36).run Tryd.prog w = .ok (.agg (pfC Pf.zero).toArray) w := zero_pf
  have hmask := fun w => adMask_any a bits w ha h0 h1
  have hmref := fun w => rfMask_any a bits w ha h0 h1
  have hin := fun w => adIn_any a ⟨a, bits⟩ w ha ha h0 h1
  rw [hm] at hmask hmref
  rw [inP_none (p := ⟨a, bits⟩) hm] at hin
  simp only [Option.getD_none, Option.isSome_none] at hmask hmref
  have hat : (w.alloc (.cells (adC a).toArray 24)).heap[w.heap.size]? = some (.cells (adC a).toArray 24 (0, 0)) := heap_alloc_last w _
  have hb1 : Below w.heap.size w (w.alloc (.cells (adC a).toArray 24)) := up_alloc (Below.refl _ w) _
  have HA : Hid (∀ wr, Below (w.alloc (.cells (adC a).toArray 24)).heap.size (w.alloc (.cells (adC a).toArray 24)) wr → wr.heap[w.heap.size]? = some (.cells (adC a).toArray 24 (0, 0))) := Lib.hid fun wr hb => (hb.block w.heap.size (by simp)).trans hat
  have HU : Hid (∀ wr, Below (w.alloc (.cells (adC a).toArray 24)).heap.size (w.alloc (.cells (adC a).toArray 24)) wr → Below w.heap.size w wr) := Lib.hid fun wr hb => up hb1 hb
  have HLv : Hid (∀ wr, Below (w.alloc (.cells (adC a).toArray 24)).heap.size (w.alloc (.cells (adC a).toArray 24)) wr → Calls Tryd.prog 15 #[] wr fun e w' => e = .returned (.bool true) ∧ Below wr.heap.size wr w') := Lib.hid fun wr hb => lives_any wr (hV.up (up hb1 hb))
  have HN : Hid (∀ w2 wr : World, Below (w2.alloc (.cells (pfC Pf.zero).toArray 36)).heap.size (w2.alloc (.cells (pfC Pf.zero).toArray 36)) wr → wr.heap[w2.heap.size]? = some (.cells (pfC Pf.zero).toArray 36 (0, 0)) ∧ wr.rangeAt w2.heap.size 0 (pfC Pf.zero) ∧ wr.rangeAt w2.heap.size 0 (adC Pf.zero.a)) := Lib.hid (PfAt.new Pf.zero)
  have hne := neq_pf Pf.zero Pf.zero rfl rfl
  simp only [decide_true, Bool.not_true] at hne
  have hsz := info_adA ha
  have hi0 := info_pfA (p := Pf.zero) rfl
  have hza := all_oneCell_toArray (pfC_one Pf.zero)
  have hbu := build_pf a ha bits
  have Hm := Lib.hid hmask
  have Hr := Lib.hid hmref
  have Hin := Lib.hid hin
  clear hmask hmref hm hin hb1 ha hV
  simp only [pfV, adV] at Hm Hr Hin hne hbu ⊢
  generalize pfC ⟨a, bits⟩ = D at *
  generalize pfC Pf.zero = Z at *
  generalize adC a = C at *
  have hA2 := hat
  go_enter Tryd.func4, Tryd.ntmps4
  go_wp2_with (first
    | ((with_reducible refine wpList_load_row (o := ⟨some 14, .load 24 (.tmp 3), _, _, _, _⟩) rfl 24 (.tmp 3) rfl w.heap.size ?_ 24 C.toArray (0, 0) _ hat Tryd.underlying24 rfl hsz ?_); exact rfl)
    | (go_at_call 16; refine (Hm.out _).mono ?_; rintro _ w2 ⟨rfl, hb2⟩; have hb3 := up_alloc hb2 (.cells Z.toArray 36); have hA3 := HA.out _ hb3)
    | (with_reducible refine wpList_alloc_zero (o := ⟨some 7, .alloc 36, _, _, _, _⟩) rfl 36 rfl Z.toArray hz ?_)
    | ((with_reducible refine wpList_store_new (o := ⟨none, .store 36 (.tmp 7) (.tmp 17), _, _, _, _⟩) rfl 36 (.tmp 7) (.tmp 17) rfl Z.toArray Z.toArray ?_ ?_ hi0 rfl hza ?_); exact rfl; exact rfl)
    | ((with_reducible refine wpList_load_row (o := ⟨some 20, .load 24 (.tmp 3), _, _, _, _⟩) rfl 24 (.tmp 3) rfl w.heap.size ?_ 24 C.toArray (0, 0) _ hA3 Tryd.underlying24 rfl hsz ?_); exact rfl)
    | (go_at_call 17; refine (Hr.out _).mono ?_; rintro _ w4 ⟨rfl, hb4⟩; have hb5 := up_alloc (up hb3 hb4) (.cells Z.toArray 36); have hA5 := HA.out _ hb5; have hP7 := (HN.out w2 _ (up_alloc hb4 (.cells Z.toArray 36))).1; have hP9 := (HN.out w4 _ (Below.refl _ _)).1)
    | (with_reducible refine wpList_alloc_zero (o := ⟨some 9, .alloc 36, _, _, _, _⟩) rfl 36 rfl Z.toArray hz ?_)
    | ((with_reducible refine wpList_store_new (o := ⟨none, .store 36 (.tmp 9) (.tmp 23), _, _, _, _⟩) rfl 36 (.tmp 9) (.tmp 23) rfl Z.toArray Z.toArray ?_ ?_ hi0 rfl hza ?_); exact rfl; exact rfl)
    | ((with_reducible refine wpList_load_row (o := ⟨some 25, .load 36 (.tmp 7), _, _, _, _⟩) rfl 36 (.tmp 7) rfl w2.heap.size ?_ 36 Z.toArray (0, 0) _ hP7 Tryd.underlying36 rfl hi0 ?_); exact rfl)
    | ((with_reducible refine wpList_load_row (o := ⟨some 26, .load 36 (.tmp 9), _, _, _, _⟩) rfl 36 (.tmp 9) rfl w4.heap.size ?_ 36 Z.toArray (0, 0) _ hP9 Tryd.underlying36 rfl hi0 ?_); exact rfl)
    | ((with_reducible refine wpList_load_row (o := ⟨some 35, .load 24 (.tmp 3), _, _, _, _⟩) rfl 24 (.tmp 3) rfl w.heap.size ?_ 24 C.toArray (0, 0) _ hA5 Tryd.underlying24 rfl hsz ?_); exact rfl)
    | ((with_reducible refine wpList_load_row (o := ⟨some 36, .load 24 (.tmp 3), _, _, _, _⟩) rfl 24 (.tmp 3) rfl w.heap.size ?_ 24 C.toArray (0, 0) _ hA5 Tryd.underlying24 rfl hsz ?_); exact rfl)
    | ((with_reducible refine wpList_run (o := ⟨some 38, .build 36 #[(0, .tmp 36), (1, .tmp 37)], _, _, _, none⟩) rfl (.agg D.toArray) (w4.alloc (.cells Z.toArray 36)) ?_ ?_); exact exec_bld2 (k := 0) (k2 := 1) (a := .tmp 36) (a2 := .tmp 37) rfl (u := .agg C.toArray) (u2 := .int .i64 bits) rfl rfl (hbu (w4.alloc (.cells Z.toArray 36))))
    | (go_at_call 18; refine (Hin.out _).mono ?_; rintro _ w6 ⟨rfl, hb6⟩)
    | (go_at_call 15; refine (HLv.out _ (up hb5 hb6)).mono ?_; rintro _ w7 ⟨rfl, hb7⟩))
  go_ret
  exact ⟨rfl, HU.out _ (up (up hb5 hb6) hb7)⟩
end Go.Proofs.YtobbjgbojdoigaaDoor
