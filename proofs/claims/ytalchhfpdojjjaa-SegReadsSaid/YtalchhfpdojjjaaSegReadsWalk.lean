/-
  The walk of SegReads.
-/
import Derived.Test.YtalchhfpdojjjaaSgN
import Derived.Test.YtalchhfpdojjjaaSgI
namespace Go.Proofs.Ytalchhfpdojjjaa
open Go.RowKit
theorem exec_allocS {ρ : Operand → Value} {P : Program} {o : Oper} {t : TypeId} (ho : o.op = .alloc t) {Z : Array Value} (hz : ∀ w, (zeroValue t).run P w = .ok (.agg Z) w) (w : World) : (execOp ρ o).run P w = .ok (.value (.pointer (some ⟨w.heap.size, 0, none⟩))) (w.alloc (.cells Z t)) := by
  unfold execOp
  simp only [ho, Instr.alloc, Sem.run_bind, hz, Result.andThen_ok]
  rfl
set_option maxRecDepth 100000 in
set_option maxHeartbeats 2000000 in
theorem segReads_walk (h : Hd) (v0 : Value) (l : List UInt8) (w : World) (hh : h.Wide ∧ -9223372036854775808 ≤ h.pos ∧ h.pos ≤ 9223372036854775807) (hv0 : Rd w w.heap.size v0 (cellsB l)) :
    Calls Try.prog 4 #[hdV h, v0] w fun e w' => e = .returned (.bool true) ∧ Below w.heap.size w w' := by
  obtain ⟨i, hi8, hz0, hz1, hz2⟩ := info_parts info_u8
  have hw := hh.1
  clear hh
  have hat : HdAt (w.alloc (.cells (hdC h).toArray 26)) w.heap.size h := heap_alloc_last w (.cells (hdC h).toArray 26)
  have hb0 := up_alloc (Below.refl w.heap.size w) (.cells (hdC h).toArray 26)
  have hi := info_hd hw
  have hiA := info_hdA hw
  have hlv := Lib.hid sgLives_any
  obtain ⟨d, hd⟩ : ∃ d, d = l.take 2000 := ⟨_, rfl⟩
  have hdl : d.length ≤ 2000 := by rw [hd, List.length_take]; omega
  have hdl' := Lib.hid hdl
  obtain ⟨Y, hY⟩ : ∃ Y, Y = sgRead h d := ⟨_, rfl⟩
  obtain ⟨er, her⟩ : ∃ er, er = sgErr h d := ⟨_, rfl⟩
  have hfew : Hid (Calls Try.prog 10 #[v0, .int .i64 2000] (w.alloc (.cells (hdC h).toArray 26)) fun e w' => ∃ A m c, e = .returned (.slice A m c) ∧ Rd w' w'.heap.size (.slice A m c) (cellsB d) ∧ HdAt w' w.heap.size h ∧ Below w.heap.size w w') := Lib.hid <| by
    refine (few_any v0 l 2000 _ _ (hv0.alloc (Nat.le_refl _) (.cells (hdC h).toArray 26)) (by simp) (by omega)).mono fun e w' hx => ?_
    rw [← hd] at hx
    obtain ⟨A, m, c, e1, e2, e3⟩ := rd_of hx
    exact ⟨A, m, c, e1, e2, hat.below e3 (by simp), up hb0 e3⟩
  have hrd : Hid (∀ W v, Rd W W.heap.size v (cellsB d) → Calls Try.prog 11 #[.agg (hdC h).toArray, v] W fun e w' => e = .returned (.tuple #[.agg (sgC Y).toArray, .int .i64 (er : Int)]) ∧ Below W.heap.size W w') := Lib.hid fun W v hv => by
    obtain ⟨A, c, rfl, _, _, hv⟩ := hv.bytes
    have := sgRead_any h hw hv (by omega)
    rw [← hY, ← her] at this
    exact this
  have hrr : Hid (∀ W v, Rd W W.heap.size v (cellsB d) → Calls Try.prog 12 #[.agg (hdC h).toArray, v] W fun e w' => e = .returned (.tuple #[.agg (sgC Y).toArray, .int .i64 (er : Int)]) ∧ Below W.heap.size W w') := Lib.hid fun W v hv => by
    obtain ⟨A, c, rfl, _, _, hv⟩ := hv.bytes
    have := rsRead_any h hw hv (by omega)
    rw [← hY, ← her] at this
    exact this
  have hF : Hid (∀ X W, HdAt X w.heap.size h → w.heap.size < X.heap.size → Below X.heap.size X W → W.rangeAt w.heap.size 0 (hdC h) ∧ W.heap[w.heap.size]? = some (.cells (hdC h).toArray 26 (0, 0))) := Lib.hid fun X W h1 hlt hW => by
    have h2 := h1.below hW hlt
    exact ⟨rangeAt_block h2 fun j u hu => by rw [Nat.zero_add]; exact hu, h2⟩
  have hS9 : Hid (∀ (W : World) (g : Nat), SgAt W g Sg.none → ∃ W', (Instr.storeAt 34 (.pointer (some ⟨g, 0, none⟩)) (.agg (sgC Y).toArray)).run Try.prog W = .ok () W' ∧ SgAt W' g Y ∧ W.grownBy W' (some g)) := Lib.hid fun W g hg => by
    obtain ⟨W', h1, h2, h3, _⟩ := store_sg (b := Y) hg
    exact ⟨W', h1, h2, h3⟩
  have hS7 : Hid (∀ W : World, ∃ W', (storeCells ⟨W.heap.size, 0, none⟩ (sgC Y)).run Try.prog (W.alloc (.cells (sgC Sg.none).toArray 34)) = .ok () W' ∧ SgAt W' W.heap.size Y ∧ Below W.heap.size W W') := Lib.hid fun W => by
    obtain ⟨W', _, hat, hgr, _, hsc⟩ := store_sg (w := W.alloc (.cells (sgC Sg.none).toArray 34)) (g := W.heap.size) (a := Sg.none) (b := Y) (heap_alloc_last W _)
    exact ⟨W', hsc, hat, grown_below (up_alloc (Below.refl _ _) _) hgr (Nat.le_refl _)⟩
  have hzs : ∀ w, (zeroValue 34).run Try.prog w = .ok (.agg (sgC Sg.none).toArray) w := zero_sg
  have hsi := info_sgA Y
  have heq := eql_sg Y Y
  rw [decide_eq_true rfl, sgV] at heq
  have hYl : (sgC Y).length = 6 := rfl
  have hZn : Hid (∀ W : World, SgAt (W.alloc (.cells (sgC Sg.none).toArray 34)) W.heap.size Sg.none) := Lib.hid fun W => heap_alloc_last W _
  have hRow : Hid (∀ W g, SgAt W g Y → W.heap[g]? = some (.cells (sgC Y).toArray 34 (0, 0))) := Lib.hid fun W g h => h
  clear hat hb0 hd hdl hv0 hY her hw
  generalize hZ : sgC Sg.none = ZS at *
  generalize hYC : sgC Y = YC at *
  generalize hCH : hdC h = CH at *
  unfold hdV
  rw [hCH]
  clear hZ hYC hCH
  go_enter Try.func4, Try.ntmps4
  go_wp2_with (first
    | (go_at_call 10; refine hfew.out.mono ?_; rintro _ X ⟨A1, m1, c1, rfl, hr1, hat1, hb1⟩; have HX := Lib.hid hb1; have hlt := hat1.lt; have hFx := Lib.hid (fun W hW => hF.out X W hat1 hlt hW); have hRb := Lib.hid (fun W (hW : Below X.heap.size X W) => ((hr1.below hW).more hW.size)); have hxd : Hid (Below X.heap.size X X.drew) := Lib.hid (Below.refl _ _).drew; have hXw : Hid (w.heap.size ≤ X.heap.size) := Lib.hid hb1.size; clear hb1 hr1 hat1 hlt hF))
  refine wp_region_held_drew (S := fun w' => w'.rangeAt w.heap.size 0 CH) (by kernel_rfl) (hFx.out _ hxd.out).1 (fun hHeld => ?_)
  refine th 0 (v := .agg CH.toArray) ?_ (hy := fun wy hSw => by exact exec_load (t := 26) (x := .tmp 2) rfl (pv := .pointer (some ⟨w.heap.size, 0, none⟩)) rfl (run_loadAt_mid wy w.heap.size 0 26 CH _ hSw Try.underlying26 rfl hi))
  go_frame
  refine th 2 ?_
  go_frame
  refine wpAnyH_ready (rs := [1, 8]) (by kernel_rfl) (by simp) (AllReadyH.cons (o := ⟨some 13, .buildSlice 27 0 #[], _, _, _, none⟩) rfl (fun K hK => ?_) (AllReadyH.cons (o := ⟨some 5, .alloc 34, _, _, _, none⟩) rfl (fun K hK => ?_) AllReadyH.nil))
  · rw [if_pos (by kernel_rfl)]
    go_simp
    rw [show (X.alloc (.cells #[] 5)).drew = X.drew.alloc (.cells #[] 5) from rfl]
    have hb := up_alloc (Below.refl X.drew.heap.size X.drew) (.cells #[] 5)
    have hm := Mine.empty X.drew X.heap.size 5 hxd.out.size
    generalize X.drew.alloc (.cells #[] 5) = wr1 at hb hm ⊢
    have HE := Lib.hid hm
    have HBL := Lib.hid (up hxd.out hb)
    clear hb hm
    refine hK.out _ _ ((hFx.out _ HBL.out).1) (fun _ => ?_)
    clear hK K
    try go_frame
    refine wpAnyH_ready (rs := [3, 8]) (by kernel_rfl) (by simp) (AllReadyH.cons (o := ⟨some 15, .call { callee := .builtin .append, args := #[.tmp 13, .tmp 14], argTypes := #[27, 27] }, _, _, _, none⟩) rfl (fun K hK => ?_) (AllReadyH.cons (o := ⟨some 5, .alloc 34, _, _, _, none⟩) rfl (fun K hK => ?_) AllReadyH.nil))
    · rw [if_pos (by kernel_rfl)]
      refine op_append_sg rfl (.tmp 13) (.tmp 14) 27 (by rfl) X.heap.size 5 i _ 1 Try.underlying27 hi8 hz0 hz1 hz2 rfl _ [] (by rfl) HE.out _ _ (cellsB d) (by rfl) (hRb.out _ HBL.out) (cellsB_one _) (by have := hdl'.out; simp [cellsB_length]; omega) (by have := hdl'.out; unfold maxLen; simp [cellsB_length]; omega) HBL.out.size ?_
      intro vC wr2 hown hbX hgw _
      have HC := Lib.hid hown.rd
      replace HBL := Lib.hid (HBL.out.trans hbX)
      clear hown hbX hgw
      refine hK.out _ _ ((hFx.out _ HBL.out).1) (fun _ => ?_)
      clear hK K
      try go_frame
      refine wpAnyH_ready (rs := [4, 8]) (by kernel_rfl) (by simp) (AllReadyH.cons (o := ⟨some 16, .call { callee := .value (.func 11), args := #[.tmp 12, .tmp 15], argTypes := #[26, 27] }, _, _, _, none⟩) rfl (fun K hK => ?_) (AllReadyH.cons (o := ⟨some 5, .alloc 34, _, _, _, none⟩) rfl (fun K hK => ?_) AllReadyH.nil))
      · rw [if_pos (by kernel_rfl)]
        go_simp
        refine (hrd.out _ _ HC.out).mono ?_
        rintro _ wr3 ⟨rfl, hb⟩
        replace HC := Lib.hid ((HC.out.below hb).more hb.size)
        replace HBL := Lib.hid (up HBL.out hb)
        clear hb
        dsimp only
        refine hK.out _ _ ((hFx.out _ HBL.out).1) (fun _ => ?_)
        clear hK K
        try go_frame
        refine th 5 ?_
        go_frame
        refine th 6 ?_
        go_frame
        refine th 7 ?_
        go_frame
        refine wpAnyH_ready (rs := [8]) (by kernel_rfl) (by simp) (AllReadyH.cons (o := ⟨some 5, .alloc 34, _, _, _, none⟩) rfl (fun K hK => ?_) AllReadyH.nil)
        rw [if_pos (by kernel_rfl)]
        refine wp_run (.pointer (some ⟨wr3.heap.size, 0, none⟩)) (wr3.alloc (.cells ZS.toArray 34)) (exec_allocS rfl hzs _) ?_
        have hb := up_alloc (Below.refl wr3.heap.size wr3) (.cells ZS.toArray 34)
        have hm : SgAt (wr3.alloc (.cells ZS.toArray 34)) wr3.heap.size Sg.none := hZn.out wr3
        have hlt : wr3.heap.size < (wr3.alloc (.cells ZS.toArray 34)).heap.size := by simp
        generalize wr3.alloc (.cells ZS.toArray 34) = wr4 at hb hm hlt ⊢
        have HZ := Lib.hid hm
        have hg8 := Lib.hid hlt
        have hgX : Hid (X.heap.size ≤ wr3.heap.size) := Lib.hid HBL.out.size
        replace HBL := Lib.hid (up HBL.out hb)
        clear hb hm hlt
        refine hK.out _ _ ((hFx.out _ HBL.out).1) (fun _ => ?_)
        clear hK K
        try go_frame
        refine wpAnyH_ready (rs := [9]) (by kernel_rfl) (by simp) (AllReadyH.cons (o := ⟨none, .store 34 (.tmp 5) (.tmp 17), _, _, _, none⟩) rfl (fun K hK => ?_) AllReadyH.nil)
        rw [if_pos (by kernel_rfl)]
        obtain ⟨w9, hst, hat9, hgr9⟩ := hS9.out _ _ HZ.out
        refine wp_skip w9 (exec_store rfl (vx := .pointer (some ⟨wr3.heap.size, 0, none⟩)) rfl (vy := .agg YC.toArray) rfl hst) ?_
        have HB9 := Lib.hid (grown_below HBL.out hgr9 hgX.out)
        have H5 := Lib.hid hat9
        have hlt5 := Lib.hid (Array.getElem?_eq_some_iff.1 hat9).1
        clear hat9 hgr9 hst
        refine hK.out _ _ ((hFx.out _ HB9.out).1) (fun _ => ?_)
        clear hK K
        try go_frame
        refine th 10 ?_
        go_frame
        refine wpAnyH_done (by kernel_rfl) ?_ _
        obtain ⟨_, hat20⟩ := hFx.out _ HB9.out
        go_wp2_with (first
          | ((with_reducible refine wpList_load_row (o := ⟨some 20, .load 26 (.tmp 2), _, _, _, _⟩) rfl 26 (.tmp 2) rfl w.heap.size ?_ 26 CH.toArray (0, 0) _ hat20 Try.underlying26 rfl hiA ?_); exact rfl)
          | (go_at_call 12; refine (hrr.out _ _ (hRb.out _ HB9.out)).mono ?_; rintro _ wa ⟨rfl, hba⟩; obtain ⟨wb, hstb, hat7, hbb⟩ := hS7.out wa; have HBB := Lib.hid (HX.out.trans ((HB9.out.trans ((up hba hbb).mono HB9.out.size)).mono hXw.out)); have h25 := hRow.out _ _ (H5.out.below (up hba hbb) hlt5.out); have h26 := hRow.out _ _ hat7; clear hba hbb hat7)
          | (with_reducible refine wpList_alloc_zero (o := ⟨some 7, .alloc 34, _, _, _, _⟩) rfl 34 rfl ZS.toArray hzs ?_)
          | ((with_reducible refine wpList_load_row (o := ⟨some 25, .load 34 (.tmp 5), _, _, _, _⟩) rfl 34 (.tmp 5) rfl (wr3.heap.size) ?_ 34 YC.toArray (0, 0) _ h25 Try.underlying34 rfl hsi ?_); exact rfl)
          | ((with_reducible refine wpList_load_row (o := ⟨some 26, .load 34 (.tmp 7), _, _, _, _⟩) rfl 34 (.tmp 7) rfl wa.heap.size ?_ 34 YC.toArray (0, 0) _ h26 Try.underlying34 rfl hsi ?_); exact rfl)
          | (go_at_call 9; refine (hlv.out _).mono ?_; rintro _ wc ⟨rfl, hbc⟩))
        go_ret
        exact ⟨rfl, up HBB.out hbc⟩
      · rw [if_pos (by kernel_rfl)]
        refine wp_run (.pointer (some ⟨wr2.heap.size, 0, none⟩)) (wr2.alloc (.cells ZS.toArray 34)) (exec_allocS rfl hzs _) ?_
        have hb := up_alloc (Below.refl wr2.heap.size wr2) (.cells ZS.toArray 34)
        have hm : SgAt (wr2.alloc (.cells ZS.toArray 34)) wr2.heap.size Sg.none := hZn.out wr2
        have hlt : wr2.heap.size < (wr2.alloc (.cells ZS.toArray 34)).heap.size := by simp
        generalize wr2.alloc (.cells ZS.toArray 34) = wr3 at hb hm hlt ⊢
        replace HC := Lib.hid ((HC.out.below hb).more hb.size)
        have HZ := Lib.hid hm
        have hg8 := Lib.hid hlt
        have hgX : Hid (X.heap.size ≤ wr2.heap.size) := Lib.hid HBL.out.size
        replace HBL := Lib.hid (up HBL.out hb)
        clear hb hm hlt
        refine hK.out _ _ ((hFx.out _ HBL.out).1) (fun _ => ?_)
        clear hK K
        try go_frame
        refine wpAnyH_ready (rs := [4]) (by kernel_rfl) (by simp) (AllReadyH.cons (o := ⟨some 16, .call { callee := .value (.func 11), args := #[.tmp 12, .tmp 15], argTypes := #[26, 27] }, _, _, _, none⟩) rfl (fun K hK => ?_) AllReadyH.nil)
        rw [if_pos (by kernel_rfl)]
        go_simp
        refine (hrd.out _ _ HC.out).mono ?_
        rintro _ wr4 ⟨rfl, hb⟩
        replace HC := Lib.hid ((HC.out.below hb).more hb.size)
        replace HZ := Lib.hid (HZ.out.below hb hg8.out)
        replace hg8 := Lib.hid (Nat.lt_of_lt_of_le hg8.out hb.size)
        replace HBL := Lib.hid (up HBL.out hb)
        clear hb
        dsimp only
        refine hK.out _ _ ((hFx.out _ HBL.out).1) (fun _ => ?_)
        clear hK K
        try go_frame
        refine th 5 ?_
        go_frame
        refine th 6 ?_
        go_frame
        refine th 7 ?_
        go_frame
        refine wpAnyH_ready (rs := [9]) (by kernel_rfl) (by simp) (AllReadyH.cons (o := ⟨none, .store 34 (.tmp 5) (.tmp 17), _, _, _, none⟩) rfl (fun K hK => ?_) AllReadyH.nil)
        rw [if_pos (by kernel_rfl)]
        obtain ⟨w9, hst, hat9, hgr9⟩ := hS9.out _ _ HZ.out
        refine wp_skip w9 (exec_store rfl (vx := .pointer (some ⟨wr2.heap.size, 0, none⟩)) rfl (vy := .agg YC.toArray) rfl hst) ?_
        have HB9 := Lib.hid (grown_below HBL.out hgr9 hgX.out)
        have H5 := Lib.hid hat9
        have hlt5 := Lib.hid (Array.getElem?_eq_some_iff.1 hat9).1
        clear hat9 hgr9 hst
        refine hK.out _ _ ((hFx.out _ HB9.out).1) (fun _ => ?_)
        clear hK K
        try go_frame
        refine th 10 ?_
        go_frame
        refine wpAnyH_done (by kernel_rfl) ?_ _
        obtain ⟨_, hat20⟩ := hFx.out _ HB9.out
        go_wp2_with (first
          | ((with_reducible refine wpList_load_row (o := ⟨some 20, .load 26 (.tmp 2), _, _, _, _⟩) rfl 26 (.tmp 2) rfl w.heap.size ?_ 26 CH.toArray (0, 0) _ hat20 Try.underlying26 rfl hiA ?_); exact rfl)
          | (go_at_call 12; refine (hrr.out _ _ (hRb.out _ HB9.out)).mono ?_; rintro _ wa ⟨rfl, hba⟩; obtain ⟨wb, hstb, hat7, hbb⟩ := hS7.out wa; have HBB := Lib.hid (HX.out.trans ((HB9.out.trans ((up hba hbb).mono HB9.out.size)).mono hXw.out)); have h25 := hRow.out _ _ (H5.out.below (up hba hbb) hlt5.out); have h26 := hRow.out _ _ hat7; clear hba hbb hat7)
          | (with_reducible refine wpList_alloc_zero (o := ⟨some 7, .alloc 34, _, _, _, _⟩) rfl 34 rfl ZS.toArray hzs ?_)
          | ((with_reducible refine wpList_load_row (o := ⟨some 25, .load 34 (.tmp 5), _, _, _, _⟩) rfl 34 (.tmp 5) rfl (wr2.heap.size) ?_ 34 YC.toArray (0, 0) _ h25 Try.underlying34 rfl hsi ?_); exact rfl)
          | ((with_reducible refine wpList_load_row (o := ⟨some 26, .load 34 (.tmp 7), _, _, _, _⟩) rfl 34 (.tmp 7) rfl wa.heap.size ?_ 34 YC.toArray (0, 0) _ h26 Try.underlying34 rfl hsi ?_); exact rfl)
          | (go_at_call 9; refine (hlv.out _).mono ?_; rintro _ wc ⟨rfl, hbc⟩))
        go_ret
        exact ⟨rfl, up HBB.out hbc⟩
    · rw [if_pos (by kernel_rfl)]
      refine wp_run (.pointer (some ⟨wr1.heap.size, 0, none⟩)) (wr1.alloc (.cells ZS.toArray 34)) (exec_allocS rfl hzs _) ?_
      have hE8 := HE.out.lt.2
      have hb := up_alloc (Below.refl wr1.heap.size wr1) (.cells ZS.toArray 34)
      have hm : SgAt (wr1.alloc (.cells ZS.toArray 34)) wr1.heap.size Sg.none := hZn.out wr1
      have hlt : wr1.heap.size < (wr1.alloc (.cells ZS.toArray 34)).heap.size := by simp
      generalize wr1.alloc (.cells ZS.toArray 34) = wr2 at hb hm hlt ⊢
      replace HE := Lib.hid (HE.out.kept hb)
      have HZ := Lib.hid hm
      have hsep : Hid (X.drew.heap.size < wr1.heap.size) := Lib.hid hE8
      have hg8 := Lib.hid hlt
      have hgX : Hid (X.heap.size ≤ wr1.heap.size) := Lib.hid HBL.out.size
      replace HBL := Lib.hid (up HBL.out hb)
      clear hb hm hlt
      refine hK.out _ _ ((hFx.out _ HBL.out).1) (fun _ => ?_)
      clear hK K
      try go_frame
      refine wpAnyH_ready (rs := [3]) (by kernel_rfl) (by simp) (AllReadyH.cons (o := ⟨some 15, .call { callee := .builtin .append, args := #[.tmp 13, .tmp 14], argTypes := #[27, 27] }, _, _, _, none⟩) rfl (fun K hK => ?_) AllReadyH.nil)
      rw [if_pos (by kernel_rfl)]
      refine op_append_sg rfl (.tmp 13) (.tmp 14) 27 (by rfl) X.heap.size 5 i _ 1 Try.underlying27 hi8 hz0 hz1 hz2 rfl _ [] (by rfl) HE.out _ _ (cellsB d) (by rfl) (hRb.out _ HBL.out) (cellsB_one _) (by have := hdl'.out; simp [cellsB_length]; omega) (by have := hdl'.out; unfold maxLen; simp [cellsB_length]; omega) HBL.out.size ?_
      intro vC wr3 hown hbX hgw _
      replace HZ : Hid (SgAt wr3 (wr1.heap.size) Sg.none) := Lib.hid ((hgw.block _ hg8.out (by intro e; have h1 : (some wr1.heap.size : Option Nat) = some X.drew.heap.size := e; injection h1 with h1; have := hsep.out; omega)).trans HZ.out)
      replace hg8 := Lib.hid (Nat.lt_of_lt_of_le hg8.out hgw.size)
      have HC := Lib.hid hown.rd
      replace HBL := Lib.hid (HBL.out.trans hbX)
      clear hown hbX hgw
      refine hK.out _ _ ((hFx.out _ HBL.out).1) (fun _ => ?_)
      clear hK K
      try go_frame
      refine wpAnyH_ready (rs := [4]) (by kernel_rfl) (by simp) (AllReadyH.cons (o := ⟨some 16, .call { callee := .value (.func 11), args := #[.tmp 12, .tmp 15], argTypes := #[26, 27] }, _, _, _, none⟩) rfl (fun K hK => ?_) AllReadyH.nil)
      rw [if_pos (by kernel_rfl)]
      go_simp
      refine (hrd.out _ _ HC.out).mono ?_
      rintro _ wr4 ⟨rfl, hb⟩
      replace HC := Lib.hid ((HC.out.below hb).more hb.size)
      replace HZ := Lib.hid (HZ.out.below hb hg8.out)
      replace hg8 := Lib.hid (Nat.lt_of_lt_of_le hg8.out hb.size)
      replace HBL := Lib.hid (up HBL.out hb)
      clear hb
      dsimp only
      refine hK.out _ _ ((hFx.out _ HBL.out).1) (fun _ => ?_)
      clear hK K
      try go_frame
      refine th 5 ?_
      go_frame
      refine th 6 ?_
      go_frame
      refine th 7 ?_
      go_frame
      refine wpAnyH_ready (rs := [9]) (by kernel_rfl) (by simp) (AllReadyH.cons (o := ⟨none, .store 34 (.tmp 5) (.tmp 17), _, _, _, none⟩) rfl (fun K hK => ?_) AllReadyH.nil)
      rw [if_pos (by kernel_rfl)]
      obtain ⟨w9, hst, hat9, hgr9⟩ := hS9.out _ _ HZ.out
      refine wp_skip w9 (exec_store rfl (vx := .pointer (some ⟨wr1.heap.size, 0, none⟩)) rfl (vy := .agg YC.toArray) rfl hst) ?_
      have HB9 := Lib.hid (grown_below HBL.out hgr9 hgX.out)
      have H5 := Lib.hid hat9
      have hlt5 := Lib.hid (Array.getElem?_eq_some_iff.1 hat9).1
      clear hat9 hgr9 hst
      refine hK.out _ _ ((hFx.out _ HB9.out).1) (fun _ => ?_)
      clear hK K
      try go_frame
      refine th 10 ?_
      go_frame
      refine wpAnyH_done (by kernel_rfl) ?_ _
      obtain ⟨_, hat20⟩ := hFx.out _ HB9.out
      go_wp2_with (first
        | ((with_reducible refine wpList_load_row (o := ⟨some 20, .load 26 (.tmp 2), _, _, _, _⟩) rfl 26 (.tmp 2) rfl w.heap.size ?_ 26 CH.toArray (0, 0) _ hat20 Try.underlying26 rfl hiA ?_); exact rfl)
        | (go_at_call 12; refine (hrr.out _ _ (hRb.out _ HB9.out)).mono ?_; rintro _ wa ⟨rfl, hba⟩; obtain ⟨wb, hstb, hat7, hbb⟩ := hS7.out wa; have HBB := Lib.hid (HX.out.trans ((HB9.out.trans ((up hba hbb).mono HB9.out.size)).mono hXw.out)); have h25 := hRow.out _ _ (H5.out.below (up hba hbb) hlt5.out); have h26 := hRow.out _ _ hat7; clear hba hbb hat7)
        | (with_reducible refine wpList_alloc_zero (o := ⟨some 7, .alloc 34, _, _, _, _⟩) rfl 34 rfl ZS.toArray hzs ?_)
        | ((with_reducible refine wpList_load_row (o := ⟨some 25, .load 34 (.tmp 5), _, _, _, _⟩) rfl 34 (.tmp 5) rfl (wr1.heap.size) ?_ 34 YC.toArray (0, 0) _ h25 Try.underlying34 rfl hsi ?_); exact rfl)
        | ((with_reducible refine wpList_load_row (o := ⟨some 26, .load 34 (.tmp 7), _, _, _, _⟩) rfl 34 (.tmp 7) rfl wa.heap.size ?_ 34 YC.toArray (0, 0) _ h26 Try.underlying34 rfl hsi ?_); exact rfl)
        | (go_at_call 9; refine (hlv.out _).mono ?_; rintro _ wc ⟨rfl, hbc⟩))
      go_ret
      exact ⟨rfl, up HBB.out hbc⟩
  · rw [if_pos (by kernel_rfl)]
    refine wp_run (.pointer (some ⟨X.heap.size, 0, none⟩)) (X.drew.alloc (.cells ZS.toArray 34)) (exec_allocS rfl hzs _) ?_
    have hb := up_alloc (Below.refl X.drew.heap.size X.drew) (.cells ZS.toArray 34)
    have hm : SgAt (X.drew.alloc (.cells ZS.toArray 34)) X.heap.size Sg.none := hZn.out X.drew
    have hlt : X.heap.size < (X.drew.alloc (.cells ZS.toArray 34)).heap.size := by simp
    generalize X.drew.alloc (.cells ZS.toArray 34) = wr1 at hb hm hlt ⊢
    have HZ := Lib.hid hm
    have hg8 := Lib.hid hlt
    have hgX : Hid (X.heap.size ≤ X.heap.size) := Lib.hid hxd.out.size
    have HBL := Lib.hid (up hxd.out hb)
    clear hb hm hlt
    refine hK.out _ _ ((hFx.out _ HBL.out).1) (fun _ => ?_)
    clear hK K
    try go_frame
    refine wpAnyH_ready (rs := [1]) (by kernel_rfl) (by simp) (AllReadyH.cons (o := ⟨some 13, .buildSlice 27 0 #[], _, _, _, none⟩) rfl (fun K hK => ?_) AllReadyH.nil)
    rw [if_pos (by kernel_rfl)]
    go_simp
    have hg8b := Lib.hid hg8.out
    have hb := up_alloc (Below.refl wr1.heap.size wr1) (.cells #[] 5)
    have hm := Mine.empty wr1 X.heap.size 5 HBL.out.size
    generalize wr1.alloc (.cells #[] 5) = wr2 at hb hm ⊢
    replace HZ := Lib.hid (HZ.out.below hb hg8.out)
    replace hg8 := Lib.hid (Nat.lt_of_lt_of_le hg8.out hb.size)
    have HE := Lib.hid hm
    have hsep : Hid (X.heap.size < wr1.heap.size) := Lib.hid hg8b.out
    replace HBL := Lib.hid (up HBL.out hb)
    clear hb hm
    refine hK.out _ _ ((hFx.out _ HBL.out).1) (fun _ => ?_)
    clear hK K
    try go_frame
    refine wpAnyH_ready (rs := [3]) (by kernel_rfl) (by simp) (AllReadyH.cons (o := ⟨some 15, .call { callee := .builtin .append, args := #[.tmp 13, .tmp 14], argTypes := #[27, 27] }, _, _, _, none⟩) rfl (fun K hK => ?_) AllReadyH.nil)
    rw [if_pos (by kernel_rfl)]
    refine op_append_sg rfl (.tmp 13) (.tmp 14) 27 (by rfl) X.heap.size 5 i _ 1 Try.underlying27 hi8 hz0 hz1 hz2 rfl _ [] (by rfl) HE.out _ _ (cellsB d) (by rfl) (hRb.out _ HBL.out) (cellsB_one _) (by have := hdl'.out; simp [cellsB_length]; omega) (by have := hdl'.out; unfold maxLen; simp [cellsB_length]; omega) HBL.out.size ?_
    intro vC wr3 hown hbX hgw _
    replace HZ : Hid (SgAt wr3 (X.heap.size) Sg.none) := Lib.hid ((hgw.block _ hg8.out (by intro e; have h1 : (some X.heap.size : Option Nat) = some wr1.heap.size := e; injection h1 with h1; have := hsep.out; omega)).trans HZ.out)
    replace hg8 := Lib.hid (Nat.lt_of_lt_of_le hg8.out hgw.size)
    have HC := Lib.hid hown.rd
    replace HBL := Lib.hid (HBL.out.trans hbX)
    clear hown hbX hgw
    refine hK.out _ _ ((hFx.out _ HBL.out).1) (fun _ => ?_)
    clear hK K
    try go_frame
    refine wpAnyH_ready (rs := [4]) (by kernel_rfl) (by simp) (AllReadyH.cons (o := ⟨some 16, .call { callee := .value (.func 11), args := #[.tmp 12, .tmp 15], argTypes := #[26, 27] }, _, _, _, none⟩) rfl (fun K hK => ?_) AllReadyH.nil)
    rw [if_pos (by kernel_rfl)]
    go_simp
    refine (hrd.out _ _ HC.out).mono ?_
    rintro _ wr4 ⟨rfl, hb⟩
    replace HC := Lib.hid ((HC.out.below hb).more hb.size)
    replace HZ := Lib.hid (HZ.out.below hb hg8.out)
    replace hg8 := Lib.hid (Nat.lt_of_lt_of_le hg8.out hb.size)
    replace HBL := Lib.hid (up HBL.out hb)
    clear hb
    dsimp only
    refine hK.out _ _ ((hFx.out _ HBL.out).1) (fun _ => ?_)
    clear hK K
    try go_frame
    refine th 5 ?_
    go_frame
    refine th 6 ?_
    go_frame
    refine th 7 ?_
    go_frame
    refine wpAnyH_ready (rs := [9]) (by kernel_rfl) (by simp) (AllReadyH.cons (o := ⟨none, .store 34 (.tmp 5) (.tmp 17), _, _, _, none⟩) rfl (fun K hK => ?_) AllReadyH.nil)
    rw [if_pos (by kernel_rfl)]
    obtain ⟨w9, hst, hat9, hgr9⟩ := hS9.out _ _ HZ.out
    refine wp_skip w9 (exec_store rfl (vx := .pointer (some ⟨X.heap.size, 0, none⟩)) rfl (vy := .agg YC.toArray) rfl hst) ?_
    have HB9 := Lib.hid (grown_below HBL.out hgr9 hgX.out)
    have H5 := Lib.hid hat9
    have hlt5 := Lib.hid (Array.getElem?_eq_some_iff.1 hat9).1
    clear hat9 hgr9 hst
    refine hK.out _ _ ((hFx.out _ HB9.out).1) (fun _ => ?_)
    clear hK K
    try go_frame
    refine th 10 ?_
    go_frame
    refine wpAnyH_done (by kernel_rfl) ?_ _
    obtain ⟨_, hat20⟩ := hFx.out _ HB9.out
    go_wp2_with (first
      | ((with_reducible refine wpList_load_row (o := ⟨some 20, .load 26 (.tmp 2), _, _, _, _⟩) rfl 26 (.tmp 2) rfl w.heap.size ?_ 26 CH.toArray (0, 0) _ hat20 Try.underlying26 rfl hiA ?_); exact rfl)
      | (go_at_call 12; refine (hrr.out _ _ (hRb.out _ HB9.out)).mono ?_; rintro _ wa ⟨rfl, hba⟩; obtain ⟨wb, hstb, hat7, hbb⟩ := hS7.out wa; have HBB := Lib.hid (HX.out.trans ((HB9.out.trans ((up hba hbb).mono HB9.out.size)).mono hXw.out)); have h25 := hRow.out _ _ (H5.out.below (up hba hbb) hlt5.out); have h26 := hRow.out _ _ hat7; clear hba hbb hat7)
      | (with_reducible refine wpList_alloc_zero (o := ⟨some 7, .alloc 34, _, _, _, _⟩) rfl 34 rfl ZS.toArray hzs ?_)
      | ((with_reducible refine wpList_load_row (o := ⟨some 25, .load 34 (.tmp 5), _, _, _, _⟩) rfl 34 (.tmp 5) rfl (X.heap.size) ?_ 34 YC.toArray (0, 0) _ h25 Try.underlying34 rfl hsi ?_); exact rfl)
      | ((with_reducible refine wpList_load_row (o := ⟨some 26, .load 34 (.tmp 7), _, _, _, _⟩) rfl 34 (.tmp 7) rfl wa.heap.size ?_ 34 YC.toArray (0, 0) _ h26 Try.underlying34 rfl hsi ?_); exact rfl)
      | (go_at_call 9; refine (hlv.out _).mono ?_; rintro _ wc ⟨rfl, hbc⟩))
    go_ret
    exact ⟨rfl, up HBB.out hbc⟩
end Go.Proofs.Ytalchhfpdojjjaa
