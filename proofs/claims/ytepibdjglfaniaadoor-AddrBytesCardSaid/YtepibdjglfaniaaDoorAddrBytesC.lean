/-
  The walk of AddrBytes, case by case.
-/
import Derived.Test.YtepibdjglfaniaaDoorAddrBytesA
namespace Go.Proofs.YtepibdjglfaniaaDoor
open Go.RowKit
set_option maxRecDepth 100000 in
set_option maxHeartbeats 4000000 in
theorem addrBytes_noneF (a : Ad) (v : Value) (l : List UInt8) (cs : List UInt8) (w : World) (ha : a.Wide) (hr : Rd w w.heap.size v (cellsB l)) (hcs : cs.length = 4) (hV : Vars w) (hnone : adBytes (l.take 20) = none) (hn4 : (l.take 20).length ≠ 4) (hn16 : (l.take 20).length ≠ 16) (hg : a.good = false) :
    Calls Tryd.prog 3 #[adV a, v, .agg (cellsB cs).toArray] w fun e w' => e = .returned (.bool true) ∧ Below w.heap.size w w' := by
  obtain ⟨A0, c0, rfl, _, _, hr⟩ := hr.bytes
  obtain ⟨e0, e1, e2, e3, he⟩ := list4' hcs
  have hX0 : ((w.alloc (.cells (adC a).toArray 24)).alloc (.cells (cellsB cs).toArray 26)).heap.size = w.heap.size + 1 + 1 := by simp
  have h1 := heap_alloc_last (w.alloc (.cells (adC a).toArray 24)) (.cells (cellsB cs).toArray 26)
  have h0 := (heap_alloc_old (w.alloc (.cells (adC a).toArray 24)) (.cells (cellsB cs).toArray 26) (show w.heap.size < _ by simp)).trans (heap_alloc_last w _)
  rw [show (w.alloc (.cells (adC a).toArray 24)).heap.size = w.heap.size + 1 by simp] at h1
  have hb0 := up_alloc (up_alloc (Below.refl w.heap.size w) (.cells (adC a).toArray 24)) (.cells (cellsB cs).toArray 26)
  obtain ⟨X0, hX⟩ : ∃ X, X = (w.alloc (.cells (adC a).toArray 24)).alloc (.cells (cellsB cs).toArray 26) := ⟨_, rfl⟩
  rw [← hX] at hX0 h0 h1 hb0
  have HX : Hid (∀ W, Below X0.heap.size X0 W → (W.heap[w.heap.size]? = some (.cells (adC a).toArray 24 (0, 0)) ∧ W.rangeAt w.heap.size 0 (adC a)) ∧ (W.cell? ⟨w.heap.size + 1, 0, none⟩ = some (.int .u8 (e0.toNat : Int)) ∧ W.cell? ⟨w.heap.size + 1, 1, none⟩ = some (.int .u8 (e1.toNat : Int)) ∧ W.cell? ⟨w.heap.size + 1, 2, none⟩ = some (.int .u8 (e2.toNat : Int)) ∧ W.cell? ⟨w.heap.size + 1, 3, none⟩ = some (.int .u8 (e3.toNat : Int))) ∧
      Rd W (w.heap.size + 2) (.slice (some ⟨w.heap.size + 1, 0, none⟩) 4 4) (cellsB cs) ∧ Below w.heap.size w W) := Lib.hid fun W hW => by
    have g0 := keepAd h0 (by omega) hW
    have g1 := (hW.block (w.heap.size + 1) (by omega)).trans h1
    refine ⟨⟨g0.1, g0.2.1⟩, ⟨?_, ?_, ?_, ?_⟩, ?_, up hb0 hW⟩
    · rw [cell_of_row W _ 0 _ _ _ g1, he]; rfl
    · rw [cell_of_row W _ 1 _ _ _ g1, he]; rfl
    · rw [cell_of_row W _ 2 _ _ _ g1, he]; rfl
    · rw [cell_of_row W _ 3 _ _ _ g1, he]; rfl
    · refine ⟨_, 4, by rw [cellsB_length, hcs], by rw [cellsB_length, hcs]; exact Nat.le_refl _, by unfold maxLen; omega, (fun h => by cases h), fun _ => ⟨w.heap.size + 1, 0, rfl, by omega, fun j u hu => ?_⟩⟩
      rw [Nat.zero_add, cell_of_row W _ j _ _ _ g1, List.getElem?_toArray]
      exact hu
  obtain ⟨d, hd⟩ : ∃ d, d = l.take 20 := ⟨_, rfl⟩
  have hdl : d.length ≤ 20 := by rw [hd, List.length_take]; omega
  obtain ⟨m, hm⟩ : ∃ m, m = d.length := ⟨_, rfl⟩
  have HFew : Hid (Calls Tryd.prog 5 #[.slice A0 l.length c0, .int .i64 20] X0 fun e w' => ∃ A c, e = .returned (.slice A m c) ∧ Rd w' w'.heap.size (.slice A m c) (cellsB d) ∧ Below X0.heap.size X0 w') := Lib.hid <| by
    refine (few_any _ l 20 _ _ ((hr.below hb0).more (B' := X0.heap.size) (by omega)) (Nat.le_refl _) (by omega)).mono ?_
    rintro e w' ⟨v, rfl, hv, hb⟩
    rw [← hd] at hv
    obtain ⟨A, c, rfl, hr'⟩ := mine_slice' (w := w) hv hm.symm
    exact ⟨A, c, rfl, hr', hb⟩
  obtain ⟨q, hq⟩ : ∃ q, q = l.length := ⟨_, rfl⟩
  rw [← hq] at HFew ⊢
  have hxw : ((adBytes d).getD Ad.zero).Wide := by
    cases h : adBytes d with
    | none => exact rfl
    | some x => exact (adBytes_wide h).1
  have HOf1 : Hid (∀ W v, Rd W W.heap.size v (cellsB d) → Calls Tryd.prog 6 #[v] W fun e w' => e = .returned (.tuple #[.agg (adC ((adBytes d).getD Ad.zero)).toArray, .bool (adBytes d).isSome]) ∧ Below W.heap.size W w') := Lib.hid fun W v hr => by
    obtain ⟨A, c, rfl, _, _, hr⟩ := hr.bytes
    exact adOf_any A c d W W.heap.size hr (Nat.le_refl _)
  have HKx : Hid (∀ (W3 W : World), Below (W3.alloc (.cells (adC ((adBytes d).getD Ad.zero)).toArray 24)).heap.size (W3.alloc (.cells (adC ((adBytes d).getD Ad.zero)).toArray 24)) W → W.rangeAt W3.heap.size 0 (adC ((adBytes d).getD Ad.zero)) ∧ W.cell? ⟨W3.heap.size, 0, none⟩ = some (.bool ((adBytes d).getD Ad.zero).six)) := Lib.hid fun W3 W hW => (keepAd (heap_alloc_last W3 _) (by simp) hW).2
  have HGx : Hid (∀ W, Calls Tryd.prog 7 #[.agg (adC ((adBytes d).getD Ad.zero)).toArray] W fun e w' => e = .returned (.bool ((adBytes d).getD Ad.zero).good) ∧ Below W.heap.size W w') := Lib.hid fun W => rfGood_any _ W hxw
  obtain ⟨SC, hSC⟩ : ∃ s : ByteArray, s = ⟨cs.toArray⟩ := ⟨_, rfl⟩
  obtain ⟨SA, hSA⟩ : ∃ s : ByteArray, s = ⟨a.own.toArray⟩ := ⟨_, rfl⟩
  obtain ⟨SD, hSD⟩ : ∃ s : ByteArray, s = ⟨d.toArray⟩ := ⟨_, rfl⟩
  have HSC : Hid (∀ (W : World) B v, Rd W B v (cellsB cs) → (convert 25 9 v).run Tryd.prog W = .ok (.string SC) W) := Lib.hid fun W B v hr => by rw [hSC]; exact run_string_rd 25 9 5 Tryd.underlying25 Tryd.underlying5 Tryd.underlying9 hr
  have HSD : Hid (∀ (W : World) B v, Rd W B v (cellsB d) → (convert 25 9 v).run Tryd.prog W = .ok (.string SD) W) := Lib.hid fun W B v hr => by rw [hSD]; exact run_string_rd 25 9 5 Tryd.underlying25 Tryd.underlying5 Tryd.underlying9 hr
  -- the address of four bytes
  have HF4 : Hid (∀ W, Calls Tryd.prog 9 #[.int .u8 (e0.toNat : Int), .int .u8 (e1.toNat : Int), .int .u8 (e2.toNat : Int), .int .u8 (e3.toNat : Int)] W fun e w' => e = .returned (.agg (adC (four e0 e1 e2 e3)).toArray) ∧ Below W.heap.size W w') := Lib.hid fun W => adFour_any e0 e1 e2 e3 W
  have HKf : Hid (∀ (W3 W : World), Below (W3.alloc (.cells (adC (four e0 e1 e2 e3)).toArray 24)).heap.size (W3.alloc (.cells (adC (four e0 e1 e2 e3)).toArray 24)) W → W.rangeAt W3.heap.size 0 (adC (four e0 e1 e2 e3)) ∧ W.cell? ⟨W3.heap.size, 0, none⟩ = some (.bool false)) := Lib.hid fun W3 W hW => (keepAd (heap_alloc_last W3 _) (by simp) hW).2
  have HGf : Hid (∀ W, Calls Tryd.prog 7 #[.agg (adC (four e0 e1 e2 e3)).toArray] W fun e w' => e = .returned (.bool true) ∧ Below W.heap.size W w') := Lib.hid fun W => by
    have := rfGood_any _ W (four_wide e0 e1 e2 e3)
    rw [four_good] at this
    exact this
  have HBf := Lib.hid (fun W => refBytes_txt _ (four_wide e0 e1 e2 e3) ((four_own e0 e1 e2 e3).trans he.symm) (n := 4) hcs hSC W)
  -- the address itself
  obtain ⟨na, hna⟩ : ∃ n, n = a.own.length := ⟨_, rfl⟩
  have HBa := Lib.hid (fun W => adBytes_txt a ha rfl hna.symm hSA W)
  have HBr := Lib.hid (fun W => refBytes_txt a ha rfl hna.symm hSA W)
  have HGa : Hid (∀ W, Calls Tryd.prog 11 #[.agg (adC a).toArray] W fun e w' => e = .returned (.bool a.good) ∧ Below W.heap.size W w') := Lib.hid fun W => adGood_any a W ha
  have HGr : Hid (∀ W, Calls Tryd.prog 7 #[.agg (adC a).toArray] W fun e w' => e = .returned (.bool a.good) ∧ Below W.heap.size W w') := Lib.hid fun W => rfGood_any a W ha
  have hyw : ((adBytes a.own).getD Ad.zero).Wide := by
    cases h : adBytes a.own with
    | none => exact rfl
    | some x => exact (adBytes_wide h).1
  have HOf2 : Hid (∀ W A c, Rd W W.heap.size (.slice A na c) (cellsB a.own) → Calls Tryd.prog 6 #[.slice A na c] W fun e w' => e = .returned (.tuple #[.agg (adC ((adBytes a.own).getD Ad.zero)).toArray, .bool (adBytes a.own).isSome]) ∧ Below W.heap.size W w') := Lib.hid fun W A c hr => by
    rw [hna] at hr ⊢
    exact adOf_any A c a.own W W.heap.size hr (Nat.le_refl _)
  have HKy : Hid (∀ (W3 W : World), Below (W3.alloc (.cells (adC ((adBytes a.own).getD Ad.zero)).toArray 24)).heap.size (W3.alloc (.cells (adC ((adBytes a.own).getD Ad.zero)).toArray 24)) W → W.rangeAt W3.heap.size 0 (adC ((adBytes a.own).getD Ad.zero))) := Lib.hid fun W3 W hW => (keepAd (heap_alloc_last W3 _) (by simp) hW).2.1
  have HLv : Hid (∀ W, Below w.heap.size w W → Calls Tryd.prog 12 #[] W fun e w' => e = .returned (.bool true) ∧ Below W.heap.size W w') := Lib.hid fun W hW => lives_any W (hV.up hW)
  -- sizes
  have hz : ∀ w, (zeroValue 24).run Tryd.prog w = .ok (.agg (adC Ad.zero).toArray) w := zero_ad
  have iZ := info_ad (a := Ad.zero) rfl
  have ix := info_ad hxw
  have ixA := info_adA hxw
  have lx := adC_length hxw
  have ox := all_oneCell_toArray (adC_one ((adBytes d).getD Ad.zero))
  have hfA := info_adA (four_wide e0 e1 e2 e3)
  have iff_ := info_ad (four_wide e0 e1 e2 e3)
  have lf := adC_length (four_wide e0 e1 e2 e3)
  have of_ := all_oneCell_toArray (adC_one (four e0 e1 e2 e3))
  have iy := info_ad hyw
  have iyA := info_adA hyw
  have ly := adC_length hyw
  have oy := all_oneCell_toArray (adC_one ((adBytes a.own).getD Ad.zero))
  have ia := info_ad ha
  have iaA := info_adA ha
  have lz : (adC Ad.zero).length = 17 := rfl
  have zx : (adC Ad.zero).toArray.size = (adC ((adBytes d).getD Ad.zero)).toArray.size := by rw [List.size_toArray, List.size_toArray, lx, lz]
  have zf : (adC Ad.zero).toArray.size = (adC (four e0 e1 e2 e3)).toArray.size := by rw [List.size_toArray, List.size_toArray, lf, lz]
  have zy : (adC Ad.zero).toArray.size = (adC ((adBytes a.own).getD Ad.zero)).toArray.size := by rw [List.size_toArray, List.size_toArray, ly, lz]
  obtain ⟨i, hi8, hz0, hz1, hz2⟩ := info_parts info_u8
  have hDL := Lib.hid hdl
  -- what the address comes back as
  have hgood : a.good = true → adBytes a.own = some a := fun h => Ad.bytes_own ha h
  have heq := eql_ad a a ha ha
  rw [decide_eq_true rfl] at heq
  have hnz := neq_ad Ad.zero Ad.zero rfl rfl
  rw [decide_eq_true rfl] at hnz
  have hbz : ∀ W, (Instr.build 24 #[]).run Tryd.prog W = .ok (.agg (adC Ad.zero).toArray) W := fun W => by simp [Instr.build, hz, go_sem]
  rw [adV] at heq hnz ⊢
  have hd2 := hd
  rw [← hd] at hnone hn4 hn16
  simp only [hnone, Option.getD_none, Option.isSome_none] at HOf1 HKx HGx hxw ix ixA lx ox zx
  rw [← hm] at hn4 hn16
  clear HGx hnone HSD hd2
  have b4 : ((m : Int) != 4) = true := by simp; omega
  have b16 : ((m : Int) != 16) = true := by simp; omega
  rw [hg] at HGa HGr
  clear hg hgood hyw hxw hr hcs ha hV h0 h1 hb0 hX0 hd hdl hm hq hna hSC hSA hSD he lx lf ly lz
  generalize (adBytes a.own).isSome = oky at *
  generalize adC ((adBytes a.own).getD Ad.zero) = Cy at *
  generalize adC a = Ca at *
  generalize adC (four e0 e1 e2 e3) = Cf at *
  generalize adC Ad.zero = Z at *
  subst hX
  go_enter Tryd.func3, Tryd.ntmps3
  go_wp2_with (first
      | (go_at_call 5; refine HFew.out.mono ?_; rintro _ w1 ⟨A1, c1, rfl, hr1, hb1⟩; have HR1 := Lib.hid hr1; have HB1 := Lib.hid hb1; have HM := Mine.empty w1 w1.heap.size 5 (Nat.le_refl _); clear hr1 hb1)
      | (at_builtin; refine wpList_append_rd rfl (.tmp 15) (.tmp 16) 25 rfl w1.heap.size 5 i _ 1 Tryd.underlying25 hi8 hz0 hz1 hz2 rfl _ [] rfl HM _ _ (cellsB d) rfl (HR1.out.alloc (Nat.le_refl _) _) (cellsB_one _) (by have := hDL.out; rw [cellsB_length]; simp; omega) (by have := hDL.out; rw [cellsB_length]; unfold maxLen; simp; omega) (by simp) ?_; intro v2 w2 hown2 hb2 _ _; have HB12 := Lib.hid ((up_alloc (Below.refl w1.heap.size w1) (.cells #[] 5)).trans hb2); have HR2 := Lib.hid hown2.rd; clear hown2 hb2 HM)
      | (go_at_call 6; refine (HOf1.out _ _ HR2.out).mono ?_; rintro _ w3 ⟨rfl, hb3⟩; have HB14 := Lib.hid (up_alloc (up HB12.out hb3) (.cells Z.toArray 24)); have HB4 := Lib.hid (up HB1.out HB14.out); obtain ⟨r7, s7⟩ := HKx.out w3 _ (Below.refl _ _); obtain ⟨_, ⟨k0, k1, k2, k3⟩, _, _⟩ := HX.out _ HB4.out; clear hb3)
      | (with_reducible refine wpList_alloc_zero (o := ⟨some 7, .alloc 24, _, _, _, _⟩) rfl 24 rfl Z.toArray hz ?_)
      | ((with_reducible refine wpList_store_new (o := ⟨none, .store 24 (.tmp 7) (.tmp 19), _, _, _, _⟩) rfl 24 (.tmp 7) (.tmp 19) rfl Z.toArray Z.toArray ?_ ?_ ixA rfl ox ?_); exact rfl; exact rfl)
      | ((with_reducible refine wpList_load_mid_g (op := ⟨some 31, .load 24 (.tmp 7), _, _, _, _⟩) ?_ 24 (.tmp 7) rfl w3.heap.size 0 ?_ Z _ r7 Tryd.underlying24 rfl iZ ?_); rfl; exact rfl)
      | ((with_reducible refine wpList_run_h (o := ⟨some 32, .build 24 #[], _, _, _, _⟩) ?_ (.agg Z.toArray) (w3.alloc (.cells Z.toArray 24)) ?_ ?_); rfl; exact exec_build0 rfl (hbz _)))
  go_wp2_with (first
    | (go_at_call 9; refine (HF4.out _).mono ?_; rintro _ w9 ⟨rfl, hb9⟩; have HB9 := Lib.hid (up_alloc (up HB4.out hb9) (.cells Cf.toArray 24)); obtain ⟨r9, s9⟩ := HKf.out w9 _ (Below.refl _ _); clear hb9 k0 k1 k2 k3)
    | (with_reducible refine wpList_alloc_zero (o := ⟨some 9, .alloc 24, _, _, _, _⟩) rfl 24 rfl Z.toArray hz ?_)
    | ((with_reducible refine wpList_store_new (o := ⟨none, .store 24 (.tmp 9) (.tmp 66), _, _, _, _⟩) rfl 24 (.tmp 9) (.tmp 66) rfl Z.toArray Cf.toArray ?_ ?_ hfA zf of_ ?_); exact rfl; exact rfl))
  refine wp_region_held_drew (S := fun w' => w'.rangeAt w9.heap.size 0 Cf ∧ w'.cell? ⟨w9.heap.size, 0, none⟩ = some (.bool false) ∧ Rd w' (w.heap.size + 2) (.slice (some ⟨w.heap.size + 1, 0, none⟩) 4 4) (cellsB cs)) (by kernel_rfl) ⟨r9, s9, (HX.out _ (up_drew HB9.out)).2.2.1⟩ (fun hHeld => ?_)
  refine th 0 ?_
  go_frame
  refine th 1 (v := .bool false) ?_ (hy := fun wy hSw => by (obtain ⟨_, s6, _⟩ := hSw; go_simp <;> with_reducible rfl))
  go_frame
  refine th 2 (v := .bool false) ?_ (hy := fun wy hSw => by (go_simp <;> with_reducible rfl))
  go_frame
  refine th 3 (v := .agg Cf.toArray) ?_ (hy := fun wy hSw => by exact exec_load (t := 24) (x := .tmp 9) rfl (pv := .pointer (some ⟨w9.heap.size, 0, none⟩)) rfl (run_loadAt_mid wy w9.heap.size 0 24 Cf _ hSw.1 Tryd.underlying24 rfl iff_))
  go_frame
  refine wpAnyH_ready (rs := [4]) (by kernel_rfl) (by simp) (AllReadyH.cons (o := ⟨some 71, .call { callee := .value (.func 7), args := #[.tmp 70], argTypes := #[24] }, _, _, _, some (2, false)⟩) rfl (fun K hK => ?_) AllReadyH.nil)
  rw [if_pos (by kernel_rfl)]
  go_simp
  refine (HGf.out _).mono ?_
  rintro _ wc ⟨rfl, hbc⟩
  have HBc := Lib.hid (drew_start hbc)
  clear hbc
  dsimp only
  refine hK.out _ _ (⟨(HKf.out w9 _ HBc.out).1, (HKf.out w9 _ HBc.out).2, (HX.out _ (up HB9.out HBc.out)).2.2.1⟩) (fun _ => ?_)
  clear hK K
  try go_frame
  refine th 5 (v := .bool false) ?_ (hy := fun wy hSw => by (go_simp <;> with_reducible rfl))
  go_frame
  refine th 6 (v := .bool false) ?_ (hy := fun wy hSw => by (go_simp <;> with_reducible rfl))
  go_frame
  refine th 7 (v := .bool false) ?_ (hy := fun wy hSw => by (go_simp <;> with_reducible rfl))
  go_frame
  refine th 8 (v := .agg Cf.toArray) ?_ (hy := fun wy hSw => by exact exec_load (t := 24) (x := .tmp 9) rfl (pv := .pointer (some ⟨w9.heap.size, 0, none⟩)) rfl (run_loadAt_mid wy w9.heap.size 0 24 Cf _ hSw.1 Tryd.underlying24 rfl iff_))
  go_frame
  refine th 11 (v := .slice (some ⟨w.heap.size + 1, 0, none⟩) 4 4) ?_ (hy := fun wy hSw => by exact exec_sliceAll (t := 26) (x := .tmp 5) rfl (u := .pointer (some ⟨w.heap.size + 1, 0, none⟩)) rfl (whole4 _ wy))
  go_frame
  refine th 12 (v := .string SC) ?_ (hy := fun wy hSw => by exact exec_conv2 (s := 25) (t := 9) (x := .tmp 78) rfl (v := .slice (some ⟨w.heap.size + 1, 0, none⟩) 4 4) rfl (HSC.out _ _ _ hSw.2.2))
  go_frame
  refine wpAnyH_ready (rs := [9]) (by kernel_rfl) (by simp) (AllReadyH.cons (o := ⟨some 76, .call { callee := .value (.func 8), args := #[.tmp 75], argTypes := #[24] }, _, _, _, some (7, false)⟩) rfl (fun K hK => ?_) AllReadyH.nil)
  rw [if_pos (by kernel_rfl)]
  go_simp
  refine (HBf.out _).mono ?_
  rintro _ wd ⟨A9, c9, rfl, hs9, hbd⟩
  have HBd := Lib.hid (up HBc.out hbd)
  have HT9 := Lib.hid hs9
  clear hbd hs9
  dsimp only
  refine hK.out _ _ (⟨(HKf.out w9 _ HBd.out).1, (HKf.out w9 _ HBd.out).2, (HX.out _ (up HB9.out HBd.out)).2.2.1⟩) (fun _ => ?_)
  clear hK K
  try go_frame
  refine wpAnyH_ready (rs := [10]) (by kernel_rfl) (by simp) (AllReadyH.cons (o := ⟨some 77, .convert 25 9 (.tmp 76), _, _, _, some (7, false)⟩) rfl (fun K hK => ?_) AllReadyH.nil)
  rw [if_pos (by kernel_rfl)]
  refine wp_run (.string SC) wd (exec_conv2 (s := 25) (t := 9) (x := .tmp 76) rfl (v := .slice A9 4 c9) rfl (HT9.out.2 _ (Below.refl _ _))) ?_
  refine hK.out _ _ (⟨(HKf.out w9 _ HBd.out).1, (HKf.out w9 _ HBd.out).2, (HX.out _ (up HB9.out HBd.out)).2.2.1⟩) (fun _ => ?_)
  clear hK K
  try go_frame
  refine th 13 (v := .bool false) ?_ (hy := fun wy hSw => by (go_simp <;> with_reducible rfl))
  go_frame
  refine th 14 (v := .bool false) ?_ (hy := fun wy hSw => by (go_simp <;> with_reducible rfl))
  go_frame
  refine wpAnyH_done (by kernel_rfl) ?_ _
  have HB11 := Lib.hid (up HB9.out HBd.out)
  have hat11 := (HX.out _ HB11.out).1.1
  go_wp2_with (first
    | ((with_reducible refine wpList_load_row (o := ⟨some 83, .load 24 (.tmp 3), _, _, _, _⟩) rfl 24 (.tmp 3) rfl w.heap.size ?_ 24 Ca.toArray (0, 0) _ hat11 Tryd.underlying24 rfl iaA ?_); exact rfl)
    | (go_at_call 10; refine (HBa.out _).mono ?_; rintro _ w11 ⟨A11, c11, rfl, hs11, hb11⟩; have HB11b := Lib.hid (up HB11.out hb11); have HT11 := Lib.hid hs11; clear hs11 hb11)
    | (go_at_call 6; refine (HOf2.out _ _ _ HT11.out.1).mono ?_; rintro _ w12 ⟨rfl, hb12⟩; have HB12b := Lib.hid (up_alloc (up HB11b.out hb12) (.cells Cy.toArray 24)); have r12 := HKy.out w12 _ (Below.refl _ _); have HBw := Lib.hid (HX.out _ HB12b.out).2.2.2; clear hb12)
    | (with_reducible refine wpList_alloc_zero (o := ⟨some 10, .alloc 24, _, _, _, _⟩) rfl 24 rfl Z.toArray hz ?_)
    | ((with_reducible refine wpList_store_new (o := ⟨none, .store 24 (.tmp 10) (.tmp 86), _, _, _, _⟩) rfl 24 (.tmp 10) (.tmp 86) rfl Z.toArray Cy.toArray ?_ ?_ iyA zy oy ?_); exact rfl; exact rfl))
  refine wp_region_held_drew (S := fun w' => w'.rangeAt w.heap.size 0 Ca ∧ w'.rangeAt w12.heap.size 0 Cy) (by kernel_rfl) ⟨(HX.out _ (up_drew HB12b.out)).1.2, r12⟩ (fun hHeld => ?_)
  refine th 0 (v := .agg Ca.toArray) ?_ (hy := fun wy hSw => by exact exec_load (t := 24) (x := .tmp 3) rfl (pv := .pointer (some ⟨w.heap.size, 0, none⟩)) rfl (run_loadAt_mid wy w.heap.size 0 24 Ca _ hSw.1 Tryd.underlying24 rfl ia))
  go_frame
  refine th 2 (v := .agg Ca.toArray) ?_ (hy := fun wy hSw => by exact exec_load (t := 24) (x := .tmp 3) rfl (pv := .pointer (some ⟨w.heap.size, 0, none⟩)) rfl (run_loadAt_mid wy w.heap.size 0 24 Ca _ hSw.1 Tryd.underlying24 rfl ia))
  go_frame
  refine wpAnyH_ready (rs := [1]) (by kernel_rfl) (by simp) (AllReadyH.cons (o := ⟨some 89, .call { callee := .value (.func 11), args := #[.tmp 88], argTypes := #[24] }, _, _, _, none⟩) rfl (fun K hK => ?_) AllReadyH.nil)
  rw [if_pos (by kernel_rfl)]
  go_simp
  refine (HGa.out _).mono ?_
  rintro _ wf ⟨rfl, hb⟩
  have HC_wf := Lib.hid (drew_start hb)
  clear hb
  dsimp only
  refine hK.out _ _ (⟨(HX.out _ (up HB12b.out HC_wf.out)).1.2, HKy.out w12 _ HC_wf.out⟩) (fun _ => ?_)
  clear hK K
  try go_frame
  refine wpAnyH_ready (rs := [3]) (by kernel_rfl) (by simp) (AllReadyH.cons (o := ⟨some 91, .call { callee := .value (.func 7), args := #[.tmp 90], argTypes := #[24] }, _, _, _, none⟩) rfl (fun K hK => ?_) AllReadyH.nil)
  rw [if_pos (by kernel_rfl)]
  go_simp
  refine (HGr.out _).mono ?_
  rintro _ wg ⟨rfl, hb⟩
  have HC_wg := Lib.hid (up HC_wf.out hb)
  clear hb
  dsimp only
  refine hK.out _ _ (⟨(HX.out _ (up HB12b.out HC_wg.out)).1.2, HKy.out w12 _ HC_wg.out⟩) (fun _ => ?_)
  clear hK K
  try go_frame
  refine th 4 (v := .bool true) ?_ (hy := fun wy hSw => by (go_simp <;> with_reducible rfl))
  go_frame
  refine th 5 (v := .bool true) ?_ (hy := fun wy hSw => by (go_simp <;> with_reducible rfl))
  go_frame
  refine th 6 (v := .agg Ca.toArray) ?_ (hy := fun wy hSw => by exact exec_load (t := 24) (x := .tmp 3) rfl (pv := .pointer (some ⟨w.heap.size, 0, none⟩)) rfl (run_loadAt_mid wy w.heap.size 0 24 Ca _ hSw.1 Tryd.underlying24 rfl ia))
  go_frame
  refine th 9 (v := .agg Ca.toArray) ?_ (hy := fun wy hSw => by exact exec_load (t := 24) (x := .tmp 3) rfl (pv := .pointer (some ⟨w.heap.size, 0, none⟩)) rfl (run_loadAt_mid wy w.heap.size 0 24 Ca _ hSw.1 Tryd.underlying24 rfl ia))
  go_frame
  refine wpAnyH_ready (rs := [7]) (by kernel_rfl) (by simp) (AllReadyH.cons (o := ⟨some 95, .call { callee := .value (.func 10), args := #[.tmp 94], argTypes := #[24] }, _, _, _, some (5, true)⟩) rfl (fun K hK => ?_) AllReadyH.nil)
  rw [if_pos (by kernel_rfl)]
  go_simp
  refine (HBa.out _).mono ?_
  rintro _ wh ⟨A7, c7, rfl, hs, hb⟩
  have HT7 := Lib.hid hs
  have HC_wh := Lib.hid (up HC_wg.out hb)
  clear hb
  clear hs
  dsimp only
  refine hK.out _ _ (⟨(HX.out _ (up HB12b.out HC_wh.out)).1.2, HKy.out w12 _ HC_wh.out⟩) (fun _ => ?_)
  clear hK K
  try go_frame
  refine wpAnyH_ready (rs := [8, 10]) (by kernel_rfl) (by simp) (AllReadyH.cons (o := ⟨some 96, .convert 25 9 (.tmp 95), _, _, _, some (5, true)⟩) rfl (fun K hK => ?_) (AllReadyH.cons (o := ⟨some 98, .call { callee := .value (.func 8), args := #[.tmp 97], argTypes := #[24] }, _, _, _, some (5, true)⟩) rfl (fun K hK => ?_) AllReadyH.nil))
  · rw [if_pos (by kernel_rfl)]
    refine wp_run (.string SA) wh (exec_conv2 (s := 25) (t := 9) (x := .tmp 95) rfl (v := .slice A7 na c7) rfl (HT7.out.2 _ (Below.refl _ _))) ?_
    refine hK.out _ _ (⟨(HX.out _ (up HB12b.out HC_wh.out)).1.2, HKy.out w12 _ HC_wh.out⟩) (fun _ => ?_)
    clear hK K
    try go_frame
    refine wpAnyH_ready (rs := [10]) (by kernel_rfl) (by simp) (AllReadyH.cons (o := ⟨some 98, .call { callee := .value (.func 8), args := #[.tmp 97], argTypes := #[24] }, _, _, _, some (5, true)⟩) rfl (fun K hK => ?_) AllReadyH.nil)
    rw [if_pos (by kernel_rfl)]
    go_simp
    refine (HBr.out _).mono ?_
    rintro _ wi ⟨A10, c10, rfl, hs, hb⟩
    have HT10 := Lib.hid hs
    have HHI := Lib.hid hb
    have HC_wi := Lib.hid (up HC_wh.out hb)
    clear hb
    clear hs
    dsimp only
    refine hK.out _ _ (⟨(HX.out _ (up HB12b.out HC_wi.out)).1.2, HKy.out w12 _ HC_wi.out⟩) (fun _ => ?_)
    clear hK K
    try go_frame
    refine wpAnyH_ready (rs := [11]) (by kernel_rfl) (by simp) (AllReadyH.cons (o := ⟨some 99, .convert 25 9 (.tmp 98), _, _, _, some (5, true)⟩) rfl (fun K hK => ?_) AllReadyH.nil)
    rw [if_pos (by kernel_rfl)]
    refine wp_run (.string SA) wi (exec_conv2 (s := 25) (t := 9) (x := .tmp 98) rfl (v := .slice A10 na c10) rfl (HT10.out.2 _ (Below.refl _ _))) ?_
    refine hK.out _ _ (⟨(HX.out _ (up HB12b.out HC_wi.out)).1.2, HKy.out w12 _ HC_wi.out⟩) (fun _ => ?_)
    clear hK K
    try go_frame
    refine th 12 (v := .bool true) ?_ (hy := fun wy hSw => by (go_simp <;> with_reducible rfl))
    go_frame
    refine th 13 (v := .bool true) ?_ (hy := fun wy hSw => by (go_simp <;> with_reducible rfl))
    go_frame
    refine th 14 (v := .bool true) ?_ (hy := fun wy hSw => by (go_simp <;> with_reducible rfl))
    go_frame
    refine th 15 (v := .agg Ca.toArray) ?_ (hy := fun wy hSw => by exact exec_load (t := 24) (x := .tmp 3) rfl (pv := .pointer (some ⟨w.heap.size, 0, none⟩)) rfl (run_loadAt_mid wy w.heap.size 0 24 Ca _ hSw.1 Tryd.underlying24 rfl ia))
    go_frame
    refine wpAnyH_ready (rs := [16]) (by kernel_rfl) (by simp) (AllReadyH.cons (o := ⟨some 104, .call { callee := .value (.func 7), args := #[.tmp 103], argTypes := #[24] }, _, _, _, some (14, true)⟩) rfl (fun K hK => ?_) AllReadyH.nil)
    rw [if_pos (by kernel_rfl)]
    go_simp
    refine (HGr.out _).mono ?_
    rintro _ wj ⟨rfl, hb⟩
    have HC_wj := Lib.hid (up HC_wi.out hb)
    clear hb
    dsimp only
    refine hK.out _ _ (⟨(HX.out _ (up HB12b.out HC_wj.out)).1.2, HKy.out w12 _ HC_wj.out⟩) (fun _ => ?_)
    clear hK K
    try go_frame
    refine th 17 (v := .bool true) ?_ (hy := fun wy hSw => by (go_simp <;> with_reducible rfl))
    go_frame
    refine th 18 (v := .bool true) ?_ (hy := fun wy hSw => by (go_simp <;> with_reducible rfl))
    go_frame
    refine thn 19 ?_
    go_frame
    refine thn 20 ?_
    go_frame
    refine thn 21 ?_
    go_frame
    refine thn 22 ?_
    go_frame
    refine thn 23 ?_
    go_frame
    refine thn 24 ?_
    go_frame
    refine th 25 (v := .bool true) ?_ (hy := fun wy hSw => by (go_simp <;> with_reducible rfl))
    go_frame
    refine th 26 (v := .bool true) ?_ (hy := fun wy hSw => by (go_simp <;> with_reducible rfl))
    go_frame
    refine th 27 (v := .bool true) ?_ (hy := fun wy hSw => by (go_simp <;> with_reducible rfl))
    go_frame
    refine wpAnyH_ready (rs := [28]) (by kernel_rfl) (by simp) (AllReadyH.cons (o := ⟨some 116, .call { callee := .value (.func 12), args := #[], argTypes := #[] }, _, _, _, some (27, true)⟩) rfl (fun K hK => ?_) AllReadyH.nil)
    rw [if_pos (by kernel_rfl)]
    go_simp
    refine (HLv.out _ (up HBw.out HC_wj.out)).mono ?_
    rintro _ wk ⟨rfl, hb⟩
    have HC_wk := Lib.hid (up HC_wj.out hb)
    clear hb
    dsimp only
    refine hK.out _ _ (⟨(HX.out _ (up HB12b.out HC_wk.out)).1.2, HKy.out w12 _ HC_wk.out⟩) (fun _ => ?_)
    clear hK K
    try go_frame
    refine th 29 (v := .bool true) ?_ (hy := fun wy hSw => by (go_simp <;> with_reducible rfl))
    go_frame
    refine th 30 ?_
    go_frame
    refine wpAnyH_done (by kernel_rfl) ?_ _
    go_wp2_with fail
    go_ret
    exact ⟨by kernel_rfl, up HBw.out HC_wk.out⟩
  · rw [if_pos (by kernel_rfl)]
    go_simp
    refine (HBr.out _).mono ?_
    rintro _ wi ⟨A10, c10, rfl, hs, hb⟩
    have HT10 := Lib.hid hs
    have HHI := Lib.hid hb
    have HC_wi := Lib.hid (up HC_wh.out hb)
    clear hb
    clear hs
    dsimp only
    refine hK.out _ _ (⟨(HX.out _ (up HB12b.out HC_wi.out)).1.2, HKy.out w12 _ HC_wi.out⟩) (fun _ => ?_)
    clear hK K
    try go_frame
    refine wpAnyH_ready (rs := [8, 11]) (by kernel_rfl) (by simp) (AllReadyH.cons (o := ⟨some 96, .convert 25 9 (.tmp 95), _, _, _, some (5, true)⟩) rfl (fun K hK => ?_) (AllReadyH.cons (o := ⟨some 99, .convert 25 9 (.tmp 98), _, _, _, some (5, true)⟩) rfl (fun K hK => ?_) AllReadyH.nil))
    · rw [if_pos (by kernel_rfl)]
      refine wp_run (.string SA) wi (exec_conv2 (s := 25) (t := 9) (x := .tmp 95) rfl (v := .slice A7 na c7) rfl (HT7.out.2 _ HHI.out)) ?_
      refine hK.out _ _ (⟨(HX.out _ (up HB12b.out HC_wi.out)).1.2, HKy.out w12 _ HC_wi.out⟩) (fun _ => ?_)
      clear hK K
      try go_frame
      refine wpAnyH_ready (rs := [11]) (by kernel_rfl) (by simp) (AllReadyH.cons (o := ⟨some 99, .convert 25 9 (.tmp 98), _, _, _, some (5, true)⟩) rfl (fun K hK => ?_) AllReadyH.nil)
      rw [if_pos (by kernel_rfl)]
      refine wp_run (.string SA) wi (exec_conv2 (s := 25) (t := 9) (x := .tmp 98) rfl (v := .slice A10 na c10) rfl (HT10.out.2 _ (Below.refl _ _))) ?_
      refine hK.out _ _ (⟨(HX.out _ (up HB12b.out HC_wi.out)).1.2, HKy.out w12 _ HC_wi.out⟩) (fun _ => ?_)
      clear hK K
      try go_frame
      refine th 12 (v := .bool true) ?_ (hy := fun wy hSw => by (go_simp <;> with_reducible rfl))
      go_frame
      refine th 13 (v := .bool true) ?_ (hy := fun wy hSw => by (go_simp <;> with_reducible rfl))
      go_frame
      refine th 14 (v := .bool true) ?_ (hy := fun wy hSw => by (go_simp <;> with_reducible rfl))
      go_frame
      refine th 15 (v := .agg Ca.toArray) ?_ (hy := fun wy hSw => by exact exec_load (t := 24) (x := .tmp 3) rfl (pv := .pointer (some ⟨w.heap.size, 0, none⟩)) rfl (run_loadAt_mid wy w.heap.size 0 24 Ca _ hSw.1 Tryd.underlying24 rfl ia))
      go_frame
      refine wpAnyH_ready (rs := [16]) (by kernel_rfl) (by simp) (AllReadyH.cons (o := ⟨some 104, .call { callee := .value (.func 7), args := #[.tmp 103], argTypes := #[24] }, _, _, _, some (14, true)⟩) rfl (fun K hK => ?_) AllReadyH.nil)
      rw [if_pos (by kernel_rfl)]
      go_simp
      refine (HGr.out _).mono ?_
      rintro _ wj ⟨rfl, hb⟩
      have HC_wj := Lib.hid (up HC_wi.out hb)
      clear hb
      dsimp only
      refine hK.out _ _ (⟨(HX.out _ (up HB12b.out HC_wj.out)).1.2, HKy.out w12 _ HC_wj.out⟩) (fun _ => ?_)
      clear hK K
      try go_frame
      refine th 17 (v := .bool true) ?_ (hy := fun wy hSw => by (go_simp <;> with_reducible rfl))
      go_frame
      refine th 18 (v := .bool true) ?_ (hy := fun wy hSw => by (go_simp <;> with_reducible rfl))
      go_frame
      refine thn 19 ?_
      go_frame
      refine thn 20 ?_
      go_frame
      refine thn 21 ?_
      go_frame
      refine thn 22 ?_
      go_frame
      refine thn 23 ?_
      go_frame
      refine thn 24 ?_
      go_frame
      refine th 25 (v := .bool true) ?_ (hy := fun wy hSw => by (go_simp <;> with_reducible rfl))
      go_frame
      refine th 26 (v := .bool true) ?_ (hy := fun wy hSw => by (go_simp <;> with_reducible rfl))
      go_frame
      refine th 27 (v := .bool true) ?_ (hy := fun wy hSw => by (go_simp <;> with_reducible rfl))
      go_frame
      refine wpAnyH_ready (rs := [28]) (by kernel_rfl) (by simp) (AllReadyH.cons (o := ⟨some 116, .call { callee := .value (.func 12), args := #[], argTypes := #[] }, _, _, _, some (27, true)⟩) rfl (fun K hK => ?_) AllReadyH.nil)
      rw [if_pos (by kernel_rfl)]
      go_simp
      refine (HLv.out _ (up HBw.out HC_wj.out)).mono ?_
      rintro _ wk ⟨rfl, hb⟩
      have HC_wk := Lib.hid (up HC_wj.out hb)
      clear hb
      dsimp only
      refine hK.out _ _ (⟨(HX.out _ (up HB12b.out HC_wk.out)).1.2, HKy.out w12 _ HC_wk.out⟩) (fun _ => ?_)
      clear hK K
      try go_frame
      refine th 29 (v := .bool true) ?_ (hy := fun wy hSw => by (go_simp <;> with_reducible rfl))
      go_frame
      refine th 30 ?_
      go_frame
      refine wpAnyH_done (by kernel_rfl) ?_ _
      go_wp2_with fail
      go_ret
      exact ⟨by kernel_rfl, up HBw.out HC_wk.out⟩
    · rw [if_pos (by kernel_rfl)]
      refine wp_run (.string SA) wi (exec_conv2 (s := 25) (t := 9) (x := .tmp 98) rfl (v := .slice A10 na c10) rfl (HT10.out.2 _ (Below.refl _ _))) ?_
      refine hK.out _ _ (⟨(HX.out _ (up HB12b.out HC_wi.out)).1.2, HKy.out w12 _ HC_wi.out⟩) (fun _ => ?_)
      clear hK K
      try go_frame
      refine wpAnyH_ready (rs := [8]) (by kernel_rfl) (by simp) (AllReadyH.cons (o := ⟨some 96, .convert 25 9 (.tmp 95), _, _, _, some (5, true)⟩) rfl (fun K hK => ?_) AllReadyH.nil)
      rw [if_pos (by kernel_rfl)]
      refine wp_run (.string SA) wi (exec_conv2 (s := 25) (t := 9) (x := .tmp 95) rfl (v := .slice A7 na c7) rfl (HT7.out.2 _ HHI.out)) ?_
      refine hK.out _ _ (⟨(HX.out _ (up HB12b.out HC_wi.out)).1.2, HKy.out w12 _ HC_wi.out⟩) (fun _ => ?_)
      clear hK K
      try go_frame
      refine th 12 (v := .bool true) ?_ (hy := fun wy hSw => by (go_simp <;> with_reducible rfl))
      go_frame
      refine th 13 (v := .bool true) ?_ (hy := fun wy hSw => by (go_simp <;> with_reducible rfl))
      go_frame
      refine th 14 (v := .bool true) ?_ (hy := fun wy hSw => by (go_simp <;> with_reducible rfl))
      go_frame
      refine th 15 (v := .agg Ca.toArray) ?_ (hy := fun wy hSw => by exact exec_load (t := 24) (x := .tmp 3) rfl (pv := .pointer (some ⟨w.heap.size, 0, none⟩)) rfl (run_loadAt_mid wy w.heap.size 0 24 Ca _ hSw.1 Tryd.underlying24 rfl ia))
      go_frame
      refine wpAnyH_ready (rs := [16]) (by kernel_rfl) (by simp) (AllReadyH.cons (o := ⟨some 104, .call { callee := .value (.func 7), args := #[.tmp 103], argTypes := #[24] }, _, _, _, some (14, true)⟩) rfl (fun K hK => ?_) AllReadyH.nil)
      rw [if_pos (by kernel_rfl)]
      go_simp
      refine (HGr.out _).mono ?_
      rintro _ wj ⟨rfl, hb⟩
      have HC_wj := Lib.hid (up HC_wi.out hb)
      clear hb
      dsimp only
      refine hK.out _ _ (⟨(HX.out _ (up HB12b.out HC_wj.out)).1.2, HKy.out w12 _ HC_wj.out⟩) (fun _ => ?_)
      clear hK K
      try go_frame
      refine th 17 (v := .bool true) ?_ (hy := fun wy hSw => by (go_simp <;> with_reducible rfl))
      go_frame
      refine th 18 (v := .bool true) ?_ (hy := fun wy hSw => by (go_simp <;> with_reducible rfl))
      go_frame
      refine thn 19 ?_
      go_frame
      refine thn 20 ?_
      go_frame
      refine thn 21 ?_
      go_frame
      refine thn 22 ?_
      go_frame
      refine thn 23 ?_
      go_frame
      refine thn 24 ?_
      go_frame
      refine th 25 (v := .bool true) ?_ (hy := fun wy hSw => by (go_simp <;> with_reducible rfl))
      go_frame
      refine th 26 (v := .bool true) ?_ (hy := fun wy hSw => by (go_simp <;> with_reducible rfl))
      go_frame
      refine th 27 (v := .bool true) ?_ (hy := fun wy hSw => by (go_simp <;> with_reducible rfl))
      go_frame
      refine wpAnyH_ready (rs := [28]) (by kernel_rfl) (by simp) (AllReadyH.cons (o := ⟨some 116, .call { callee := .value (.func 12), args := #[], argTypes := #[] }, _, _, _, some (27, true)⟩) rfl (fun K hK => ?_) AllReadyH.nil)
      rw [if_pos (by kernel_rfl)]
      go_simp
      refine (HLv.out _ (up HBw.out HC_wj.out)).mono ?_
      rintro _ wk ⟨rfl, hb⟩
      have HC_wk := Lib.hid (up HC_wj.out hb)
      clear hb
      dsimp only
      refine hK.out _ _ (⟨(HX.out _ (up HB12b.out HC_wk.out)).1.2, HKy.out w12 _ HC_wk.out⟩) (fun _ => ?_)
      clear hK K
      try go_frame
      refine th 29 (v := .bool true) ?_ (hy := fun wy hSw => by (go_simp <;> with_reducible rfl))
      go_frame
      refine th 30 ?_
      go_frame
      refine wpAnyH_done (by kernel_rfl) ?_ _
      go_wp2_with fail
      go_ret
      exact ⟨by kernel_rfl, up HBw.out HC_wk.out⟩
end Go.Proofs.YtepibdjglfaniaaDoor
