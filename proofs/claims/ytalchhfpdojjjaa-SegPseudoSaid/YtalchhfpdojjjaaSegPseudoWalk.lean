/-
  The walk of SegPseudo.
-/
import Derived.Test.YtalchhfpdojjjaaSgJ
import Derived.Test.YtalchhfpdojjjaaSgI
namespace Go.Proofs.Ytalchhfpdojjjaa
open Go.RowKit
theorem exec_convS {P : Program} {w : World} {o : Oper} {ρ : Operand → Value} {s t : TypeId} {x : Operand} (ho : o.op = .convert s t x) {v r : Value} (hx : ρ x = v) {w' : World} (hrun : (convert s t v).run P w = .ok r w') : (execOp ρ o).run P w = .ok (.value r) w' := by
  unfold execOp
  simp only [ho, hx, Sem.run_bind, hrun, Result.andThen_ok, Sem.run_pure]
/-- A size as the bits that a number of 64 has. -/
theorem size_bits {z : Int} (wz : (Lit.int .i64 z).wf = true) : ∃ n : Nat, n < 18446744073709551616 ∧ IntKind.u64.wrap z = (n : Int) := by
  refine ⟨(z % 18446744073709551616).toNat, by omega, ?_⟩
  have : IntKind.u64.wrap z = z % 18446744073709551616 := by
    simp [IntKind.wrap, IntKind.signed, IntKind.bits]
  rw [this]
  omega
set_option maxRecDepth 100000 in
set_option maxHeartbeats 2000000 in
theorem segPseudo_walk (h : Hd) (z : Int) (w : World) (hh : h.Wide ∧ -9223372036854775808 ≤ h.pos ∧ h.pos ≤ 9223372036854775807) (wz : (Lit.int .i64 z).wf = true) :
    Calls Try.prog 3 #[hdV h, .int .i64 z] w fun e w' => e = .returned (.bool true) ∧ Below w.heap.size w w' := by
  have hw := hh.1
  clear hh
  obtain ⟨n, hn, hzn⟩ := size_bits wz
  have hat : HdAt (w.alloc (.cells (hdC h).toArray 26)) w.heap.size h := heap_alloc_last w (.cells (hdC h).toArray 26)
  obtain ⟨X, hX⟩ : ∃ X, X = w.alloc (.cells (hdC h).toArray 26) := ⟨_, rfl⟩
  have hXs : X.heap.size = w.heap.size + 1 := by rw [hX]; simp
  have hX0 : Hid (Below w.heap.size w X) := Lib.hid (by rw [hX]; exact up_alloc (Below.refl _ _) _)
  rw [← hX] at hat
  have hF : Hid (∀ W, Below X.heap.size X W → W.rangeAt w.heap.size 0 (hdC h)) := Lib.hid fun W hW => rangeAt_block (hat.below hW (by omega)) fun j u hu => by rw [Nat.zero_add]; exact hu
  have hi := info_hd hw
  have hlv := Lib.hid sgLives_any
  obtain ⟨s, hs⟩ : ∃ s : ByteArray, s = ⟨(sgPseudo h n).toArray⟩ := ⟨_, rfl⟩
  have conv : ∀ {w' : World} {v : Value}, Rd w' w'.heap.size v (cellsB (sgPseudo h n)) → ∀ W, Below w'.heap.size w' W → (convert 27 9 v).run Try.prog W = .ok (.string s) W := fun hr W hW => hs ▸ run_string_rd 27 9 5 Try.underlying27 Try.underlying5 Try.underlying9 (hr.below hW)
  have H1 : Hid (∀ W, Calls Try.prog 7 #[.agg (hdC h).toArray, .int .i64 z] W fun e w' => ∃ v, e = .returned v ∧ (∀ W', Below w'.heap.size w' W' → (convert 27 9 v).run Try.prog W' = .ok (.string s) W') ∧ Below W.heap.size W w') := Lib.hid fun W => by
    have := sgPseudo_any h hw z n hzn W
    exact this.mono fun e w' ⟨v, e1, e2, e3⟩ => ⟨v, e1, conv e2.rd, e3⟩
  have H2 : Hid (∀ W, Calls Try.prog 8 #[.agg (hdC h).toArray, .int .i64 z] W fun e w' => ∃ v, e = .returned v ∧ (∀ W', Below w'.heap.size w' W' → (convert 27 9 v).run Try.prog W' = .ok (.string s) W') ∧ Below W.heap.size W w') := Lib.hid fun W => by
    have := rsPseudo_any h hw z n hzn hn W
    exact this.mono fun e w' ⟨v, e1, e2, e3⟩ => ⟨v, e1, conv e2.rd, e3⟩
  have hxd : Hid (Below X.heap.size X X.drew) := Lib.hid (Below.refl _ _).drew
  unfold hdV
  clear conv hs hzn hn wz hat hXs hw
  generalize hCH : hdC h = CH at *
  clear hCH
  go_enter Try.func3, Try.ntmps3
  go_wp2_with fail
  rw [← hX]
  clear hX
  refine wp_region_held_drew (S := fun w' => w'.rangeAt w.heap.size 0 CH) (by kernel_rfl) (hF.out _ hxd.out) (fun hHeld => ?_)
  refine th 0 (v := .agg CH.toArray) ?_ (hy := fun wy hSw => by exact exec_load (t := 26) (x := .tmp 2) rfl (pv := .pointer (some ⟨w.heap.size, 0, none⟩)) rfl (run_loadAt_mid wy w.heap.size 0 26 CH _ hSw Try.underlying26 rfl hi))
  go_frame
  refine th 1 ?_
  go_frame
  refine th 4 (v := .agg CH.toArray) ?_ (hy := fun wy hSw => by exact exec_load (t := 26) (x := .tmp 2) rfl (pv := .pointer (some ⟨w.heap.size, 0, none⟩)) rfl (run_loadAt_mid wy w.heap.size 0 26 CH _ hSw Try.underlying26 rfl hi))
  go_frame
  refine th 5 ?_
  go_frame
  refine wpAnyH_ready (rs := [2]) (by kernel_rfl) (by simp) (AllReadyH.cons (o := ⟨some 7, .call { callee := .value (.func 7), args := #[.tmp 5, .tmp 6], argTypes := #[26, 3] }, _, _, _, none⟩) rfl (fun K hK => ?_) AllReadyH.nil)
  rw [if_pos (by kernel_rfl)]
  go_simp
  refine (H1.out _).mono ?_
  rintro _ w1 ⟨v1, rfl, hc1, hb1⟩
  have HB1 := Lib.hid (hxd.out.trans (hb1.mono hxd.out.size))
  have HC1 := Lib.hid (hc1 _ (Below.refl _ _))
  have HC1n := Lib.hid hc1
  clear hb1 hc1
  dsimp only
  refine hK.out _ _ (hF.out _ HB1.out) (fun _ => ?_)
  clear hK K
  try go_frame
  refine wpAnyH_ready (rs := [3, 6]) (by kernel_rfl) (by simp) (AllReadyH.cons (o := ⟨some 8, .convert 27 9 (.tmp 7), _, _, _, none⟩) rfl (fun K hK => ?_) (AllReadyH.cons (o := ⟨some 11, .call { callee := .value (.func 8), args := #[.tmp 9, .tmp 10], argTypes := #[26, 3] }, _, _, _, none⟩) rfl (fun K hK => ?_) AllReadyH.nil))
  · rw [if_pos (by kernel_rfl)]
    refine wp_run (.string s) w1 (exec_convS (s := 27) (t := 9) (x := .tmp 7) rfl (v := v1) rfl (HC1.out)) ?_
    refine hK.out _ _ ((hF.out _ HB1.out)) (fun _ => ?_)
    clear hK K
    try go_frame
    refine wpAnyH_ready (rs := [6]) (by kernel_rfl) (by simp) (AllReadyH.cons (o := ⟨some 11, .call { callee := .value (.func 8), args := #[.tmp 9, .tmp 10], argTypes := #[26, 3] }, _, _, _, none⟩) rfl (fun K hK => ?_) AllReadyH.nil)
    rw [if_pos (by kernel_rfl)]
    go_simp
    refine (H2.out _).mono ?_
    rintro _ w2 ⟨v2, rfl, hc2, hb2⟩
    have HB2 := Lib.hid (HB1.out.trans (hb2.mono HB1.out.size))
    have HB12 := Lib.hid hb2
    have HC2 := Lib.hid (hc2 _ (Below.refl _ _))
    clear hb2 hc2
    dsimp only
    refine hK.out _ _ (hF.out _ HB2.out) (fun _ => ?_)
    clear hK K
    try go_frame
    refine wpAnyH_ready (rs := [7]) (by kernel_rfl) (by simp) (AllReadyH.cons (o := ⟨some 12, .convert 27 9 (.tmp 11), _, _, _, none⟩) rfl (fun K hK => ?_) AllReadyH.nil)
    rw [if_pos (by kernel_rfl)]
    refine wp_run (.string s) w2 (exec_convS (s := 27) (t := 9) (x := .tmp 11) rfl (v := v2) rfl HC2.out) ?_
    refine hK.out _ _ ((hF.out _ HB2.out)) (fun _ => ?_)
    clear hK K
    try go_frame
    refine th 8 (v := .bool true) ?_ (hy := fun wy hSw => by (go_simp <;> with_reducible rfl))
    go_frame
    refine th 9 (v := .bool true) ?_ (hy := fun wy hSw => by (go_simp <;> with_reducible rfl))
    go_frame
    refine wpAnyH_ready (rs := [10]) (by kernel_rfl) (by simp) (AllReadyH.cons (o := ⟨some 15, .call { callee := .value (.func 9), args := #[], argTypes := #[] }, _, _, _, some (9, true)⟩) rfl (fun K hK => ?_) AllReadyH.nil)
    rw [if_pos (by kernel_rfl)]
    go_simp
    refine (hlv.out _).mono ?_
    rintro _ w3 ⟨rfl, hb3⟩
    have HB3 := Lib.hid (HB2.out.trans (hb3.mono HB2.out.size))
    clear hb3
    dsimp only
    refine hK.out _ _ (hF.out _ HB3.out) (fun _ => ?_)
    clear hK K
    try go_frame
    refine th 11 ?_
    go_frame
    refine th 12 ?_
    go_frame
    refine wpAnyH_done (by kernel_rfl) ?_ _
    go_wp2_with fail
    go_ret
    exact ⟨rfl, hX0.out.trans (HB3.out.mono hX0.out.size)⟩
  · rw [if_pos (by kernel_rfl)]
    go_simp
    refine (H2.out _).mono ?_
    rintro _ w2 ⟨v2, rfl, hc2, hb2⟩
    have HB2 := Lib.hid (HB1.out.trans (hb2.mono HB1.out.size))
    have HB12 := Lib.hid hb2
    have HC2 := Lib.hid (hc2 _ (Below.refl _ _))
    clear hb2 hc2
    dsimp only
    refine hK.out _ _ (hF.out _ HB2.out) (fun _ => ?_)
    clear hK K
    try go_frame
    refine wpAnyH_ready (rs := [3, 7]) (by kernel_rfl) (by simp) (AllReadyH.cons (o := ⟨some 8, .convert 27 9 (.tmp 7), _, _, _, none⟩) rfl (fun K hK => ?_) (AllReadyH.cons (o := ⟨some 12, .convert 27 9 (.tmp 11), _, _, _, none⟩) rfl (fun K hK => ?_) AllReadyH.nil))
    · rw [if_pos (by kernel_rfl)]
      refine wp_run (.string s) w2 (exec_convS (s := 27) (t := 9) (x := .tmp 7) rfl (v := v1) rfl (HC1n.out _ HB12.out)) ?_
      refine hK.out _ _ ((hF.out _ HB2.out)) (fun _ => ?_)
      clear hK K
      try go_frame
      refine wpAnyH_ready (rs := [7]) (by kernel_rfl) (by simp) (AllReadyH.cons (o := ⟨some 12, .convert 27 9 (.tmp 11), _, _, _, none⟩) rfl (fun K hK => ?_) AllReadyH.nil)
      rw [if_pos (by kernel_rfl)]
      refine wp_run (.string s) w2 (exec_convS (s := 27) (t := 9) (x := .tmp 11) rfl (v := v2) rfl HC2.out) ?_
      refine hK.out _ _ ((hF.out _ HB2.out)) (fun _ => ?_)
      clear hK K
      try go_frame
      refine th 8 (v := .bool true) ?_ (hy := fun wy hSw => by (go_simp <;> with_reducible rfl))
      go_frame
      refine th 9 (v := .bool true) ?_ (hy := fun wy hSw => by (go_simp <;> with_reducible rfl))
      go_frame
      refine wpAnyH_ready (rs := [10]) (by kernel_rfl) (by simp) (AllReadyH.cons (o := ⟨some 15, .call { callee := .value (.func 9), args := #[], argTypes := #[] }, _, _, _, some (9, true)⟩) rfl (fun K hK => ?_) AllReadyH.nil)
      rw [if_pos (by kernel_rfl)]
      go_simp
      refine (hlv.out _).mono ?_
      rintro _ w3 ⟨rfl, hb3⟩
      have HB3 := Lib.hid (HB2.out.trans (hb3.mono HB2.out.size))
      clear hb3
      dsimp only
      refine hK.out _ _ (hF.out _ HB3.out) (fun _ => ?_)
      clear hK K
      try go_frame
      refine th 11 ?_
      go_frame
      refine th 12 ?_
      go_frame
      refine wpAnyH_done (by kernel_rfl) ?_ _
      go_wp2_with fail
      go_ret
      exact ⟨rfl, hX0.out.trans (HB3.out.mono hX0.out.size)⟩
    · rw [if_pos (by kernel_rfl)]
      refine wp_run (.string s) w2 (exec_convS (s := 27) (t := 9) (x := .tmp 11) rfl (v := v2) rfl HC2.out) ?_
      refine hK.out _ _ ((hF.out _ HB2.out)) (fun _ => ?_)
      clear hK K
      try go_frame
      refine wpAnyH_ready (rs := [3]) (by kernel_rfl) (by simp) (AllReadyH.cons (o := ⟨some 8, .convert 27 9 (.tmp 7), _, _, _, none⟩) rfl (fun K hK => ?_) AllReadyH.nil)
      rw [if_pos (by kernel_rfl)]
      refine wp_run (.string s) w2 (exec_convS (s := 27) (t := 9) (x := .tmp 7) rfl (v := v1) rfl (HC1n.out _ HB12.out)) ?_
      refine hK.out _ _ ((hF.out _ HB2.out)) (fun _ => ?_)
      clear hK K
      try go_frame
      refine th 8 (v := .bool true) ?_ (hy := fun wy hSw => by (go_simp <;> with_reducible rfl))
      go_frame
      refine th 9 (v := .bool true) ?_ (hy := fun wy hSw => by (go_simp <;> with_reducible rfl))
      go_frame
      refine wpAnyH_ready (rs := [10]) (by kernel_rfl) (by simp) (AllReadyH.cons (o := ⟨some 15, .call { callee := .value (.func 9), args := #[], argTypes := #[] }, _, _, _, some (9, true)⟩) rfl (fun K hK => ?_) AllReadyH.nil)
      rw [if_pos (by kernel_rfl)]
      go_simp
      refine (hlv.out _).mono ?_
      rintro _ w3 ⟨rfl, hb3⟩
      have HB3 := Lib.hid (HB2.out.trans (hb3.mono HB2.out.size))
      clear hb3
      dsimp only
      refine hK.out _ _ (hF.out _ HB3.out) (fun _ => ?_)
      clear hK K
      try go_frame
      refine th 11 ?_
      go_frame
      refine th 12 ?_
      go_frame
      refine wpAnyH_done (by kernel_rfl) ?_ _
      go_wp2_with fail
      go_ret
      exact ⟨rfl, hX0.out.trans (HB3.out.mono hX0.out.size)⟩
end Go.Proofs.Ytalchhfpdojjjaa
