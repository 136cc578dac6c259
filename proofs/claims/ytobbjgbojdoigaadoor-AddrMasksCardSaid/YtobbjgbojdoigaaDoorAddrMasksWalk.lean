/-
  Prefixes of any number of bits, where there is one: the law's walk.
-/
import Derived.Test.YtobbjgbojdoigaaDoorAddrMasksA
namespace Go.Proofs.YtobbjgbojdoigaaDoor
open Go.RowKit
set_option maxRecDepth 100000 in
set_option maxHeartbeats 1000000 in
theorem addrMasks_some (a : Ad) (bits fewer : Int) (p R : Pf) (was : Bool) (w : World) (ha : a.Wide) (h0 : -9223372036854775808 ≤ bits) (h1 : bits ≤ 9223372036854775807) (h2 : -9223372036854775808 ≤ fewer) (h3 : fewer ≤ 9223372036854775807) (hV : Vars w) (hm : maskOf a bits = some p)
    (hR : (maskOf a fewer).getD Pf.zero = R) (hwas : (maskOf a fewer).isSome = was) (hcase : fewer < 0 ∨ (0 ≤ fewer ∧ bits < fewer) ∨ (0 ≤ fewer ∧ fewer ≤ bits ∧ was = true ∧ inP p.a R = true ∧ R.bits = fewer)) :
    Calls Tryd.prog 4 #[adV a, .int .i64 bits, .int .i64 fewer] w fun e w' => e = .returned (.bool true) ∧ Below w.heap.size w w' := by
  have hz : ∀ w, (zeroValue 36).run Tryd.prog w = .ok (.agg (pfC Pf.zero).toArray) w := zero_pf
  have hpw : p.a.Wide := by
    obtain ⟨_, _, _, rfl⟩ := maskOf_some hm
    exact maskA_wide ha _
  have hpb : p.bits = bits := by
    obtain ⟨_, _, _, rfl⟩ := maskOf_some hm
    rfl
  have hRw : R.a.Wide := by
    rw [← hR]
    cases hq : maskOf a fewer with
    | none => rfl
    | some r =>
      obtain ⟨_, _, _, rfl⟩ := maskOf_some hq
      exact maskA_wide ha _
  have hmask := fun w => adMask_any a bits w ha h0 h1
  have hmref := fun w => rfMask_any a bits w ha h0 h1
  have hmfew := fun w => adMask_any a fewer w ha h2 h3
  have hin := fun w => adIn_any a p w ha hpw (by rw [hpb]; exact h0) (by rw [hpb]; exact h1)
  have hin2 : R.bits = fewer → ∀ w, Calls Tryd.prog 18 #[adV p.a, pfV R] w fun e w' => e = .returned (.bool (inP p.a R)) ∧ Below w.heap.size w w' := fun e w => adIn_any p.a R w hpw hRw (by rw [e]; exact h2) (by rw [e]; exact h3)
  rw [hm] at hmask hmref
  rw [hR, hwas] at hmfew
  rw [show inP a p = true by rw [inP, hpb, hm]; simp] at hin
  simp only [Option.getD_some, Option.isSome_some] at hmask hmref
  have hat : (w.alloc (.cells (adC a).toArray 24)).heap[w.heap.size]? = some (.cells (adC a).toArray 24 (0, 0)) := heap_alloc_last w _
  have hb1 : Below w.heap.size w (w.alloc (.cells (adC a).toArray 24)) := up_alloc (Below.refl _ w) _
  have HA : Hid (∀ wr, Below (w.alloc (.cells (adC a).toArray 24)).heap.size (w.alloc (.cells (adC a).toArray 24)) wr → wr.heap[w.heap.size]? = some (.cells (adC a).toArray 24 (0, 0))) := Lib.hid fun wr hb => (hb.block w.heap.size (by simp)).trans hat
  have HU : Hid (∀ wr, Below (w.alloc (.cells (adC a).toArray 24)).heap.size (w.alloc (.cells (adC a).toArray 24)) wr → Below w.heap.size w wr) := Lib.hid fun wr hb => up hb1 hb
  have HLv : Hid (∀ wr, Below (w.alloc (.cells (adC a).toArray 24)).heap.size (w.alloc (.cells (adC a).toArray 24)) wr → Calls Tryd.prog 15 #[] wr fun e w' => e = .returned (.bool true) ∧ Below wr.heap.size wr w') := Lib.hid fun wr hb => lives_any wr (hV.up (up hb1 hb))
  have HN : Hid (∀ w2 wr : World, Below (w2.alloc (.cells (pfC p).toArray 36)).heap.size (w2.alloc (.cells (pfC p).toArray 36)) wr → wr.heap[w2.heap.size]? = some (.cells (pfC p).toArray 36 (0, 0)) ∧ wr.rangeAt w2.heap.size 0 (pfC p) ∧ wr.rangeAt w2.heap.size 0 (adC p.a)) := Lib.hid (PfAt.new p)
  have HM : Hid (∀ w2 wr : World, Below (w2.alloc (.cells (pfC R).toArray 36)).heap.size (w2.alloc (.cells (pfC R).toArray 36)) wr → wr.heap[w2.heap.size]? = some (.cells (pfC R).toArray 36 (0, 0)) ∧ wr.rangeAt w2.heap.size 0 (pfC R) ∧ wr.rangeAt w2.heap.size 0 (adC R.a)) := Lib.hid (PfAt.new R)
  have hne := neq_pf p p hpw hpw
  simp only [decide_true, Bool.not_true] at hne
  have hsz := info_adA ha
  have hip := info_pfA hpw
  have hiR := info_pfA hRw
  have hlR := info_pf hRw
  have hlpa := info_ad hpw
  have hzs : (pfC Pf.zero).toArray.size = (pfC p).toArray.size := by rw [List.size_toArray, List.size_toArray, pfC_length (p := Pf.zero) rfl, pfC_length hpw]
  have hzR : (pfC Pf.zero).toArray.size = (pfC R).toArray.size := by rw [List.size_toArray, List.size_toArray, pfC_length (p := Pf.zero) rfl, pfC_length hRw]
  have hza := all_oneCell_toArray (pfC_one p)
  have hzaR := all_oneCell_toArray (pfC_one R)
  have Hm := Lib.hid hmask
  have Hr := Lib.hid hmref
  have Hf := Lib.hid hmfew
  have Hin := Lib.hid hin
  clear hmask hmref hmfew hm hin hb1 ha hV hpw hRw hpb hwas hR h0 h1 h2 h3
  simp only [pfV, adV] at Hm Hr Hf Hin hin2 hne ⊢
  generalize inP p.a R = isin at *
  generalize pfC p = D at *
  generalize pfC R = E at *
  generalize pfC Pf.zero = Z at *
  generalize adC a = C at *
  generalize adC p.a = F at *
  rcases hcase with hc | ⟨hc, hc2⟩ | ⟨hc, hc2, rfl, rfl, hc3⟩
  · clear hin2
    go_enter Tryd.func4, Tryd.ntmps4
    go_wp2_with (first
      | (go_at_call 16; refine (Hm.out _).mono ?_; rintro _ w2 ⟨rfl, hb2⟩; have hb3 := up_alloc hb2 (.cells D.toArray 36); have hA3 := HA.out _ hb3; clear Hm)
      | (go_at_call 16; refine (Hf.out _).mono ?_; rintro _ w7 ⟨rfl, hb7⟩; have hb8 := up_alloc (up hb5 hb7) (.cells E.toArray 36); have hA8 := HA.out _ hb8; have hP8 := (HN.out w2 _ (up_alloc (up (up_alloc hb4 (.cells D.toArray 36)) hb7) (.cells E.toArray 36))).1)
      | ((with_reducible refine wpList_load_row (o := ⟨some 14, .load 24 (.tmp 3), _, _, _, _⟩) rfl 24 (.tmp 3) rfl w.heap.size ?_ 24 C.toArray (0, 0) _ hat Tryd.underlying24 rfl hsz ?_); exact rfl)
      | (with_reducible refine wpList_alloc_zero (o := ⟨some 7, .alloc 36, _, _, _, _⟩) rfl 36 rfl Z.toArray hz ?_)
      | ((with_reducible refine wpList_store_new (o := ⟨none, .store 36 (.tmp 7) (.tmp 17), _, _, _, _⟩) rfl 36 (.tmp 7) (.tmp 17) rfl Z.toArray D.toArray ?_ ?_ hip hzs hza ?_); exact rfl; exact rfl)
      | ((with_reducible refine wpList_load_row (o := ⟨some 20, .load 24 (.tmp 3), _, _, _, _⟩) rfl 24 (.tmp 3) rfl w.heap.size ?_ 24 C.toArray (0, 0) _ hA3 Tryd.underlying24 rfl hsz ?_); exact rfl)
      | (go_at_call 17; refine (Hr.out _).mono ?_; rintro _ w4 ⟨rfl, hb4⟩; have hb5 := up_alloc (up hb3 hb4) (.cells D.toArray 36); have hA5 := HA.out _ hb5; have hP7 := (HN.out w2 _ (up_alloc hb4 (.cells D.toArray 36))).1; have hP9 := (HN.out w4 _ (Below.refl _ _)).1)
      | (with_reducible refine wpList_alloc_zero (o := ⟨some 9, .alloc 36, _, _, _, _⟩) rfl 36 rfl Z.toArray hz ?_)
      | ((with_reducible refine wpList_store_new (o := ⟨none, .store 36 (.tmp 9) (.tmp 23), _, _, _, _⟩) rfl 36 (.tmp 9) (.tmp 23) rfl Z.toArray D.toArray ?_ ?_ hip hzs hza ?_); exact rfl; exact rfl)
      | ((with_reducible refine wpList_load_row (o := ⟨some 25, .load 36 (.tmp 7), _, _, _, _⟩) rfl 36 (.tmp 7) rfl w2.heap.size ?_ 36 D.toArray (0, 0) _ hP7 Tryd.underlying36 rfl hip ?_); exact rfl)
      | ((with_reducible refine wpList_load_row (o := ⟨some 26, .load 36 (.tmp 9), _, _, _, _⟩) rfl 36 (.tmp 9) rfl w4.heap.size ?_ 36 D.toArray (0, 0) _ hP9 Tryd.underlying36 rfl hip ?_); exact rfl)
      | ((with_reducible refine wpList_load_row (o := ⟨some 45, .load 24 (.tmp 3), _, _, _, _⟩) rfl 24 (.tmp 3) rfl w.heap.size ?_ 24 C.toArray (0, 0) _ hA5 Tryd.underlying24 rfl hsz ?_); exact rfl)
      | (with_reducible refine wpList_alloc_zero (o := ⟨some 11, .alloc 36, _, _, _, _⟩) rfl 36 rfl Z.toArray hz ?_)
      | ((with_reducible refine wpList_store_new (o := ⟨none, .store 36 (.tmp 11) (.tmp 48), _, _, _, _⟩) rfl 36 (.tmp 11) (.tmp 48) rfl Z.toArray E.toArray ?_ ?_ hiR hzR hzaR ?_); exact rfl; exact rfl)
      | ((with_reducible refine wpList_load_row (o := ⟨some 50, .load 24 (.tmp 3), _, _, _, _⟩) rfl 24 (.tmp 3) rfl w.heap.size ?_ 24 C.toArray (0, 0) _ hA8 Tryd.underlying24 rfl hsz ?_); exact rfl)
      | ((with_reducible refine wpList_load_row (o := ⟨some 51, .load 36 (.tmp 7), _, _, _, _⟩) rfl 36 (.tmp 7) rfl w2.heap.size ?_ 36 D.toArray (0, 0) _ hP8 Tryd.underlying36 rfl hip ?_); exact rfl)
      | (go_at_call 18; refine (Hin.out _).mono ?_; rintro _ w9 ⟨rfl, hb9'⟩; have hb9 := up hb8 hb9')
      | (go_at_call 15; refine (HLv.out _ hb9).mono ?_; rintro _ w10 ⟨rfl, hb10⟩))
    go_ret
    exact ⟨rfl, HU.out _ (up hb9 hb10)⟩
  · clear hin2
    have hc' : ¬ fewer < 0 := by omega
    go_enter Tryd.func4, Tryd.ntmps4
    go_wp2_with (first
      | (go_at_call 16; refine (Hm.out _).mono ?_; rintro _ w2 ⟨rfl, hb2⟩; have hb3 := up_alloc hb2 (.cells D.toArray 36); have hA3 := HA.out _ hb3; clear Hm)
      | (go_at_call 16; refine (Hf.out _).mono ?_; rintro _ w7 ⟨rfl, hb7⟩; have hb8 := up_alloc (up hb5 hb7) (.cells E.toArray 36); have hA8 := HA.out _ hb8; have hP8 := (HN.out w2 _ (up_alloc (up (up_alloc hb4 (.cells D.toArray 36)) hb7) (.cells E.toArray 36))).1)
      | ((with_reducible refine wpList_load_row (o := ⟨some 14, .load 24 (.tmp 3), _, _, _, _⟩) rfl 24 (.tmp 3) rfl w.heap.size ?_ 24 C.toArray (0, 0) _ hat Tryd.underlying24 rfl hsz ?_); exact rfl)
      | (with_reducible refine wpList_alloc_zero (o := ⟨some 7, .alloc 36, _, _, _, _⟩) rfl 36 rfl Z.toArray hz ?_)
      | ((with_reducible refine wpList_store_new (o := ⟨none, .store 36 (.tmp 7) (.tmp 17), _, _, _, _⟩) rfl 36 (.tmp 7) (.tmp 17) rfl Z.toArray D.toArray ?_ ?_ hip hzs hza ?_); exact rfl; exact rfl)
      | ((with_reducible refine wpList_load_row (o := ⟨some 20, .load 24 (.tmp 3), _, _, _, _⟩) rfl 24 (.tmp 3) rfl w.heap.size ?_ 24 C.toArray (0, 0) _ hA3 Tryd.underlying24 rfl hsz ?_); exact rfl)
      | (go_at_call 17; refine (Hr.out _).mono ?_; rintro _ w4 ⟨rfl, hb4⟩; have hb5 := up_alloc (up hb3 hb4) (.cells D.toArray 36); have hA5 := HA.out _ hb5; have hP7 := (HN.out w2 _ (up_alloc hb4 (.cells D.toArray 36))).1; have hP9 := (HN.out w4 _ (Below.refl _ _)).1)
      | (with_reducible refine wpList_alloc_zero (o := ⟨some 9, .alloc 36, _, _, _, _⟩) rfl 36 rfl Z.toArray hz ?_)
      | ((with_reducible refine wpList_store_new (o := ⟨none, .store 36 (.tmp 9) (.tmp 23), _, _, _, _⟩) rfl 36 (.tmp 9) (.tmp 23) rfl Z.toArray D.toArray ?_ ?_ hip hzs hza ?_); exact rfl; exact rfl)
      | ((with_reducible refine wpList_load_row (o := ⟨some 25, .load 36 (.tmp 7), _, _, _, _⟩) rfl 36 (.tmp 7) rfl w2.heap.size ?_ 36 D.toArray (0, 0) _ hP7 Tryd.underlying36 rfl hip ?_); exact rfl)
      | ((with_reducible refine wpList_load_row (o := ⟨some 26, .load 36 (.tmp 9), _, _, _, _⟩) rfl 36 (.tmp 9) rfl w4.heap.size ?_ 36 D.toArray (0, 0) _ hP9 Tryd.underlying36 rfl hip ?_); exact rfl)
      | ((with_reducible refine wpList_load_row (o := ⟨some 45, .load 24 (.tmp 3), _, _, _, _⟩) rfl 24 (.tmp 3) rfl w.heap.size ?_ 24 C.toArray (0, 0) _ hA5 Tryd.underlying24 rfl hsz ?_); exact rfl)
      | (with_reducible refine wpList_alloc_zero (o := ⟨some 11, .alloc 36, _, _, _, _⟩) rfl 36 rfl Z.toArray hz ?_)
      | ((with_reducible refine wpList_store_new (o := ⟨none, .store 36 (.tmp 11) (.tmp 48), _, _, _, _⟩) rfl 36 (.tmp 11) (.tmp 48) rfl Z.toArray E.toArray ?_ ?_ hiR hzR hzaR ?_); exact rfl; exact rfl)
      | ((with_reducible refine wpList_load_row (o := ⟨some 50, .load 24 (.tmp 3), _, _, _, _⟩) rfl 24 (.tmp 3) rfl w.heap.size ?_ 24 C.toArray (0, 0) _ hA8 Tryd.underlying24 rfl hsz ?_); exact rfl)
      | ((with_reducible refine wpList_load_row (o := ⟨some 51, .load 36 (.tmp 7), _, _, _, _⟩) rfl 36 (.tmp 7) rfl w2.heap.size ?_ 36 D.toArray (0, 0) _ hP8 Tryd.underlying36 rfl hip ?_); exact rfl)
      | (go_at_call 18; refine (Hin.out _).mono ?_; rintro _ w9 ⟨rfl, hb9'⟩; have hb9 := up hb8 hb9')
      | (go_at_call 15; refine (HLv.out _ hb9).mono ?_; rintro _ w10 ⟨rfl, hb10⟩))
    go_ret
    exact ⟨rfl, HU.out _ (up hb9 hb10)⟩
  · have Hin2 := Lib.hid (hin2 hc3)
    clear hin2 hc3
    have hc' : ¬ fewer < 0 := by omega
    have hc2' : ¬ bits < fewer := by omega
    go_enter Tryd.func4, Tryd.ntmps4
    go_wp2_with (first
      | (go_at_call 16; refine (Hm.out _).mono ?_; rintro _ w2 ⟨rfl, hb2⟩; have hb3 := up_alloc hb2 (.cells D.toArray 36); have hA3 := HA.out _ hb3; clear Hm)
      | (go_at_call 16; refine (Hf.out _).mono ?_; rintro _ w7 ⟨rfl, hb7⟩; have hb8 := up_alloc (up hb5 hb7) (.cells E.toArray 36); have hA8 := HA.out _ hb8; have hP8 := (HN.out w2 _ (up_alloc (up (up_alloc hb4 (.cells D.toArray 36)) hb7) (.cells E.toArray 36))).1)
      | ((with_reducible refine wpList_load_row (o := ⟨some 14, .load 24 (.tmp 3), _, _, _, _⟩) rfl 24 (.tmp 3) rfl w.heap.size ?_ 24 C.toArray (0, 0) _ hat Tryd.underlying24 rfl hsz ?_); exact rfl)
      | (with_reducible refine wpList_alloc_zero (o := ⟨some 7, .alloc 36, _, _, _, _⟩) rfl 36 rfl Z.toArray hz ?_)
      | ((with_reducible refine wpList_store_new (o := ⟨none, .store 36 (.tmp 7) (.tmp 17), _, _, _, _⟩) rfl 36 (.tmp 7) (.tmp 17) rfl Z.toArray D.toArray ?_ ?_ hip hzs hza ?_); exact rfl; exact rfl)
      | ((with_reducible refine wpList_load_row (o := ⟨some 20, .load 24 (.tmp 3), _, _, _, _⟩) rfl 24 (.tmp 3) rfl w.heap.size ?_ 24 C.toArray (0, 0) _ hA3 Tryd.underlying24 rfl hsz ?_); exact rfl)
      | (go_at_call 17; refine (Hr.out _).mono ?_; rintro _ w4 ⟨rfl, hb4⟩; have hb5 := up_alloc (up hb3 hb4) (.cells D.toArray 36); have hA5 := HA.out _ hb5; have hP7 := (HN.out w2 _ (up_alloc hb4 (.cells D.toArray 36))).1; have hP9 := (HN.out w4 _ (Below.refl _ _)).1)
      | (with_reducible refine wpList_alloc_zero (o := ⟨some 9, .alloc 36, _, _, _, _⟩) rfl 36 rfl Z.toArray hz ?_)
      | ((with_reducible refine wpList_store_new (o := ⟨none, .store 36 (.tmp 9) (.tmp 23), _, _, _, _⟩) rfl 36 (.tmp 9) (.tmp 23) rfl Z.toArray D.toArray ?_ ?_ hip hzs hza ?_); exact rfl; exact rfl)
      | ((with_reducible refine wpList_load_row (o := ⟨some 25, .load 36 (.tmp 7), _, _, _, _⟩) rfl 36 (.tmp 7) rfl w2.heap.size ?_ 36 D.toArray (0, 0) _ hP7 Tryd.underlying36 rfl hip ?_); exact rfl)
      | ((with_reducible refine wpList_load_row (o := ⟨some 26, .load 36 (.tmp 9), _, _, _, _⟩) rfl 36 (.tmp 9) rfl w4.heap.size ?_ 36 D.toArray (0, 0) _ hP9 Tryd.underlying36 rfl hip ?_); exact rfl)
      | ((with_reducible refine wpList_load_row (o := ⟨some 45, .load 24 (.tmp 3), _, _, _, _⟩) rfl 24 (.tmp 3) rfl w.heap.size ?_ 24 C.toArray (0, 0) _ hA5 Tryd.underlying24 rfl hsz ?_); exact rfl)
      | (with_reducible refine wpList_alloc_zero (o := ⟨some 11, .alloc 36, _, _, _, _⟩) rfl 36 rfl Z.toArray hz ?_)
      | ((with_reducible refine wpList_store_new (o := ⟨none, .store 36 (.tmp 11) (.tmp 48), _, _, _, _⟩) rfl 36 (.tmp 11) (.tmp 48) rfl Z.toArray E.toArray ?_ ?_ hiR hzR hzaR ?_); exact rfl; exact rfl)
      | ((with_reducible refine wpList_load_row (o := ⟨some 50, .load 24 (.tmp 3), _, _, _, _⟩) rfl 24 (.tmp 3) rfl w.heap.size ?_ 24 C.toArray (0, 0) _ hA8 Tryd.underlying24 rfl hsz ?_); exact rfl)
      | ((with_reducible refine wpList_load_row (o := ⟨some 51, .load 36 (.tmp 7), _, _, _, _⟩) rfl 36 (.tmp 7) rfl w2.heap.size ?_ 36 D.toArray (0, 0) _ hP8 Tryd.underlying36 rfl hip ?_); exact rfl)
      | (go_at_call 18; refine (Hin.out _).mono ?_; rintro _ w9 ⟨rfl, hb9'⟩; have hb9 := up hb8 hb9'; have hM9 := (HM.out w7 _ hb9').2.1; have hP9b := (HN.out w2 _ (up (up_alloc (up (up_alloc hb4 (.cells D.toArray 36)) hb7) (.cells E.toArray 36)) hb9')).2.2; clear Hin)
      | (go_at_call 18; have _ := hb9; refine (Hin2.out _).mono ?_; rintro _ w11 ⟨rfl, hb11⟩)
      | ((with_reducible refine wpList_load_mid_g (op := ⟨some 65, .load 24 (.tmp 64), _, _, _, _⟩) ?_ 24 (.tmp 64) rfl w2.heap.size 0 ?_ F _ hP9b Tryd.underlying24 rfl hlpa ?_); rfl; exact rfl)
      | ((with_reducible refine wpList_load_mid_g (op := ⟨some 66, .load 36 (.tmp 11), _, _, _, _⟩) ?_ 36 (.tmp 11) rfl w7.heap.size 0 ?_ E _ hM9 Tryd.underlying36 rfl hlR ?_); rfl; exact rfl)
      | (go_at_call 15; refine (HLv.out _ (up hb9 hb11)).mono ?_; rintro _ w12 ⟨rfl, hb12⟩))
    go_ret
    exact ⟨rfl, HU.out _ (up (up hb9 hb11) hb12)⟩
theorem addrMasks_walk (a : Ad) (bits fewer : Int) (w : World) (ha : a.Wide) (hb : (Lit.int .i64 bits).wf = true) (hf : (Lit.int .i64 fewer).wf = true) (hV : Vars w) :
    Calls Tryd.prog 4 #[adV a, .int .i64 bits, .int .i64 fewer] w fun e w' => e = .returned (.bool true) ∧ Below w.heap.size w w' := by
  have h01 : -9223372036854775808 ≤ bits ∧ bits ≤ 9223372036854775807 := by simpa [Lit.wf, IntKind.min, IntKind.max, IntKind.bits, IntKind.signed] using hb
  have h23 : -9223372036854775808 ≤ fewer ∧ fewer ≤ 9223372036854775807 := by simpa [Lit.wf, IntKind.min, IntKind.max, IntKind.bits, IntKind.signed] using hf
  cases hm : maskOf a bits with
  | none => exact addrMasks_none a bits fewer w ha h01.1 h01.2 hV hm
  | some p =>
    refine addrMasks_some a bits fewer p _ _ w ha h01.1 h01.2 h23.1 h23.2 hV hm rfl rfl ?_
    rcases Int.lt_or_le fewer 0 with h | h
    · exact Or.inl h
    · rcases Int.lt_or_le bits fewer with h' | h'
      · exact Or.inr (Or.inl ⟨h, h'⟩)
      · obtain ⟨r, hr1, hr2⟩ := maskOf_in ha hm h h'
        have hrb : r.bits = fewer := by
          obtain ⟨_, _, _, e⟩ := maskOf_some hr1
          rw [e]
        rw [hr1]
        exact Or.inr (Or.inr ⟨h, h', rfl, by rw [inP, Option.getD_some, hrb, hr2]; simp, hrb⟩)
end Go.Proofs.YtobbjgbojdoigaaDoor
