/-
  Read: a contract.
-/
import Derived.Test.YtejppekcniehpaaSxE
import Derived.Test.YtejppekcniehpaaNumC
namespace Go.Proofs.Ytejppekcniehpaa
open Go.RowKit
theorem exec_allocZ {ρ : Operand → Value} {P : Program} {o : Oper} {t : TypeId} (ho : o.op = .alloc t) {Z : Array Value} (hz : ∀ w, (zeroValue t).run P w = .ok (.agg Z) w) (w : World) : (execOp ρ o).run P w = .ok (.value (.pointer (some ⟨w.heap.size, 0, none⟩))) (w.alloc (.cells Z t)) := by
  unfold execOp
  simp only [ho, Instr.alloc, Sem.run_bind, hz, Result.andThen_ok]
  rfl
theorem exec_bldPair {ρ : Operand → Value} {o : Oper} {t : TypeId} {k k2 : Nat} {a a2 : Operand} (ho : o.op = .build t #[(k, a), (k2, a2)]) {u u2 : Value} (ha : ρ a = u) (ha2 : ρ a2 = u2) {v : Value} {P : Program} {w : World} (hrun : (Instr.build t #[(k, u), (k2, u2)]).run P w = .ok v w) : (execOp ρ o).run P w = .ok (.value v) w := by
  unfold execOp
  simp only [ho, List.map_toArray, List.map_cons, List.map_nil, ha, ha2, Sem.run_bind, hrun, Result.andThen_ok, Sem.run_pure]
theorem zero_pa (w : World) : (zeroValue 90).run Try.prog w = .ok (.agg (paC Hd.zero (.slice none 0 0) 0).toArray) w := by
  rw [Try.zeroValue90]
  simp [paC, hdC, Hd.zero, adC, Ad.zero, cellsB]
theorem build_pa (h : Hd) (hw : h.Wide) (A : Option Addr) (n c : Nat) (W : World) : (Instr.build 90 #[(0, .agg (hdC h).toArray), (1, .slice A n c)]).run Try.prog W = .ok (.agg (paC h (.slice A n c) 0).toArray) W := by
  obtain ⟨s0, p0, n0, ⟨s1, x1⟩, ⟨s2, x2⟩, q0, k0⟩ := h
  obtain ⟨a1, a2, a3, a4, a5, a6, a7, a8, a9, a10, a11, a12, a13, a14, a15, a16, rfl⟩ := list16 hw.1
  obtain ⟨b1, b2, b3, b4, b5, b6, b7, b8, b9, b10, b11, b12, b13, b14, b15, b16, rfl⟩ := list16 hw.2
  kernel_rfl
theorem paC_length {h : Hd} (hw : h.Wide) (v : Value) (n : Nat) : (paC h v n).length = 41 := by simp [paC, hdC_length hw]
theorem paC_one (h : Hd) {v : Value} (hv : v.oneCell' = true) (n : Nat) : ∀ u ∈ paC h v n, u.oneCell' = true := by
  intro u hu
  rcases List.mem_append.1 hu with hu | hu
  · exact hdC_one h u hu
  · simp at hu
    rcases hu with rfl | rfl
    · exact hv
    · rfl
/-- A whole path, stored. -/
theorem store_pa {w : World} {g : Nat} {a b : Hd} {va vb : Value} {na nb : Nat} (hg : PaAt w g a va na) (ha : a.Wide) (hb : b.Wide) (hv : vb.oneCell' = true) : ∃ w', (Instr.storeAt 90 (.pointer (some ⟨g, 0, none⟩)) (.agg (paC b vb nb).toArray)).run Try.prog w = .ok () w' ∧ PaAt w' g b vb nb ∧ w.grownBy w' (some g) := by
  have h := run_storeCells_at Try.prog g 0 90 (paC b vb nb) 0 (paC a va na).toArray w hg (by simp [paC_length ha, paC_length hb]) (paC_one b hv nb)
  have e : (paC a va na).take 0 ++ paC b vb nb ++ (paC a va na).drop (0 + (paC b vb nb).length) = paC b vb nb := by simp [paC_length ha, paC_length hb]
  simp only [Nat.add_zero] at h
  rw [e] at h
  have hs : (Try.prog.info? 90).map (·.size) = some 41 := by kernel_rfl
  cases hq : Try.prog.info? 90 with
  | none => simp [hq] at hs
  | some i =>
    have hi : i.size = 41 := by simpa [hq] using hs
    refine ⟨w.setRow g (paC b vb nb).toArray, ?_, ?_, ⟨rfl, rfl, rfl, by simp, fun k hk hne => setRow_other w g k _ (fun e => hne (by rw [e]))⟩⟩
    · simp only [Instr.storeAt, Instr.sureAddr, Sem.run_bind, Sem.run_pure, Result.andThen_ok, storeVar, sizeOf, typeInfo]
      simp [hq, Value.cells, hi, h, paC_length hb]
    · exact setRow_heap w g (paC a va na).toArray (paC b vb nb).toArray _ (0, 0) hg
theorem PaAt.range {w : World} {g : Nat} {h : Hd} {v : Value} {n : Nat} (hp : PaAt w g h v n) : w.rangeAt g 0 (hdC h) := rangeAt_block hp fun j u hu => by
  rw [Nat.zero_add, paC, List.getElem?_append_left (List.getElem?_eq_some_iff.1 hu).1]
  exact hu
/-- What is so of a path that was begun; of one that was walked to its end. -/
def PaBegun (X : World) (h : Hd) (v : Value) (g : Nat) (W : World) : Prop := PaAt W g h v 0 ∧ Below X.heap.size X W ∧ X.heap.size ≤ g
set_option maxRecDepth 100000 in
set_option maxHeartbeats 1000000 in
theorem sxRead_any {A : Option Addr} {c : Nat} {l : List UInt8} {w : World} (hr : Rd w w.heap.size (.slice A l.length c) (cellsB l)) :
    Calls Try.prog 53 #[.slice A l.length c] w fun e w' => e = .returned (.tuple #[hdV (sxRead l), .int .i64 ((sxErr l : Nat) : Int)]) ∧ Below w.heap.size w w' := by
  obtain ⟨_, _, e, hlc, _, _⟩ := hr.bytes
  injection e with e1 e2 e3
  subst e3
  clear e1 e2
  have hz : ∀ w, (zeroValue 33).run Try.prog w = .ok (.agg (hdC Hd.zero).toArray) w := zero_hd
  have hbu : ∀ W, (Instr.build 33 #[]).run Try.prog W = .ok (.agg (hdC Hd.zero).toArray) W := build_hd0
  have h0 := heap_alloc_last w (.cells (hdC Hd.zero).toArray 33)
  have hb0 := up_alloc (Below.refl w.heap.size w) (.cells (hdC Hd.zero).toArray 33)
  have hr0 := hr.alloc (Nat.le_refl _) (.cells (hdC Hd.zero).toArray 33)
  obtain ⟨X, hX⟩ : ∃ X, X = w.alloc (.cells (hdC Hd.zero).toArray 33) := ⟨_, rfl⟩
  have hXs : X.heap.size = w.heap.size + 1 := by rw [hX]; simp
  rw [← hX] at hr0 h0 hb0
  have hS : Hid (∀ y : Hd, y.Wide → ∀ W, Below X.heap.size X W → ∃ W', (Instr.storeAt 33 (.pointer (some ⟨w.heap.size, 0, none⟩)) (.agg (hdC y).toArray)).run Try.prog W = .ok () W' ∧ HdAt W' w.heap.size y ∧ Below w.heap.size w W') := Lib.hid fun y hy W hW => by
    obtain ⟨W', hst, hat, hgr, _⟩ := store_hd (w := W) (g := w.heap.size) (a := Hd.zero) (b := y) ((hW.block _ (by omega)).trans h0) Hd.zero_wide hy
    exact ⟨W', hst, hat, grown_below (up hb0 hW) hgr (Nat.le_refl _)⟩
  have hq := Lib.hid (sxWhole_any hr0)
  by_cases h1 : sxE1 l = 0
  · obtain ⟨g1, g2, _, _, _⟩ := sxE1_no h1
    rw [h1] at hq
    have hyw := sxFirst_wide g2
    obtain ⟨A2, hA2, kh⟩ := cut_l (P := Try.prog) (t := 22) Try.underlying22 (i := _) (e := 5) rfl rfl A l.length c 40 g2 40 rfl
    have hr2 := hr0.cut (lo := 40) (hi := l.length) g2 (Nat.le_refl _)
    rw [← hA2, List.take_of_length_le (by rw [cellsB_length]; exact Nat.le_refl _), cellsB_drop] at hr2
    have hdl : (l.drop 40).length = l.length - 40 := List.length_drop ..
    have hF : Hid (∀ W, Below X.heap.size X W → Calls Try.prog 65 #[.slice A l.length c] W fun e w' => e = .returned (.agg (hdC (sxFirst l)).toArray) ∧ Below W.heap.size W w') := Lib.hid fun W hW =>
      sxFirst_any ((hr0.below (hW.mono (by omega))).more (by have := hW.size; omega)) g2 (by omega)
    have hB1 : Hid (∀ W, (Instr.build 90 #[(0, .agg (hdC (sxFirst l)).toArray), (1, .slice A2 (l.length - 40) (c - 40))]).run Try.prog W = .ok (.agg (paC (sxFirst l) (.slice A2 (l.length - 40) (c - 40)) 0).toArray) W) := Lib.hid fun W => build_pa _ hyw _ _ _ W
    have hSt : Hid (∀ W g, W.heap[g]? = some (.cells (paC Hd.zero (.slice none 0 0) 0).toArray 90 (0, 0)) → X.heap.size ≤ g → Below X.heap.size X W → ∃ W', (Instr.storeAt 90 (.pointer (some ⟨g, 0, none⟩)) (.agg (paC (sxFirst l) (.slice A2 (l.length - 40) (c - 40)) 0).toArray)).run Try.prog W = .ok () W' ∧ PaBegun X (sxFirst l) (.slice A2 (l.length - 40) (c - 40)) g W') := Lib.hid fun W g hg hXg hW => by
      obtain ⟨W', s1, s2, s3⟩ := store_pa (b := sxFirst l) (vb := .slice A2 (l.length - 40) (c - 40)) (nb := 0) (va := .slice none 0 0) (na := 0) (a := Hd.zero) hg Hd.zero_wide hyw rfl
      exact ⟨W', s1, s2, grown_below hW s3 hXg, hXg⟩
    have hWk : Hid (∀ W g, PaBegun X (sxFirst l) (.slice A2 (l.length - 40) (c - 40)) g W → Calls Try.prog 66 #[.pointer (some ⟨g, 0, none⟩)] W fun e w' => e = .returned (.int .i64 ((sxErr l : Nat) : Int)) ∧ Below X.heap.size X w' ∧ (sxErr l = 0 → w'.rangeAt g 0 (hdC (sxRead l)))) := Lib.hid fun W g hW => by
      obtain ⟨p1, p2, p3⟩ := hW
      have hrW := hr2.below (p2.mono (by omega))
      rw [← hdl] at p1 hrW
      refine (sxWalk_any p1 hyw hrW (by omega) (show 0 ≤ (40 : Int) by omega) (show (40 : Int) + _ ≤ 100000 by rw [hdl]; omega)).mono ?_
      rintro e w' ⟨rfl, q2, q3⟩
      refine ⟨by rw [sxErr_two h1], grown_below p2 q2 p3, fun hE => ?_⟩
      obtain ⟨v, n, q4⟩ := q3 (by rw [← sxErr_two h1]; exact hE)
      have : sxRead l = (sxWalk 8 (sxFirst l) (l.drop 40)).2 := by unfold sxRead; rw [if_pos hE]
      rw [this]
      exact q4.range
    clear hr hr0 hr2 hA2 hdl h0 g1 hlc
    have hzp := zero_pa
    have hRw := Lib.hid (sxRead_wide l)
    have hFi := info_hdA hyw
    obtain ⟨m2, hm2⟩ : ∃ m2, m2 = l.length - 40 := ⟨_, rfl⟩
    obtain ⟨c2, hc2⟩ : ∃ c2, c2 = c - 40 := ⟨_, rfl⟩
    rw [← hm2, ← hc2] at kh hB1 hSt hWk
    generalize hPC : paC (sxFirst l) (.slice A2 m2 c2) 0 = PC at hB1 hSt
    generalize hPZ : paC Hd.zero (.slice none 0 0) 0 = PZ at hSt hzp
    generalize hDF : hdC (sxFirst l) = DF at hF hB1 hFi
    have hbP := hB1.out
    clear hm2 hc2 hPC hPZ hDF h1 hyw
    by_cases hE : sxErr l = 0
    · rw [hE] at hWk ⊢
      have hRi := info_hd hRw.out
      generalize hY : sxRead l = y at hWk hRw hRi ⊢
      have hSy := Lib.hid (hS.out y hRw.out)
      rw [hdV]
      generalize l.length = m at hq kh hF g2 ⊢
      have g2i : (40 : Int) ≤ (m : Int) := by omega
      subst hX
      generalize hZ : hdC Hd.zero = Z at *
      clear hZ hY hE hS hB1
      generalize hDY : hdC y = DY at *
      have HDY := Lib.hid hDY
      clear hDY
      go_enter Try.func53, Try.ntmps53
      go_wp2_with (first
        | (with_reducible refine wpList_alloc_zero (o := ⟨some 2, .alloc 33, _, _, _, _⟩) rfl 33 rfl Z.toArray hz ?_)
        | (go_at_call 64; refine hq.out.mono ?_; rintro _ w1 ⟨rfl, rfl⟩))
      generalize w.alloc (.cells Z.toArray 33) = X at *
      clear hXs
      refine wp_region_held_drew (S := fun _ => True) (by kernel_rfl) trivial (fun hHeld => ?_)
      refine th 0 ?_
      go_frame
      refine th 2 ?_
      go_frame
      refine th 3 (v := .slice A2 m2 c2) ?_ (hy := fun wy hSw => by (go_simp <;> with_reducible rfl))
      go_frame
      refine wpAnyH_ready (rs := [1, 5]) (by kernel_rfl) (by simp) (AllReadyH.cons (o := ⟨some 14, .call { callee := .value (.func 65), args := #[.tmp 13], argTypes := #[22] }, _, _, _, none⟩) rfl (fun K hK => ?_) (AllReadyH.cons (o := ⟨some 5, .alloc 90, _, _, _, none⟩) rfl (fun K hK => ?_) AllReadyH.nil))
      · rw [if_pos (by kernel_rfl)]
        go_simp
        refine (hF.out _ (drew_self _)).mono ?_
        rintro _ w1 ⟨rfl, hb1⟩
        have HB1 := Lib.hid (drew_start hb1)
        clear hb1
        dsimp only
        refine hK.out _ _ trivial (fun _ => ?_)
        clear hK K
        try go_frame
        refine th 4 (v := .agg PC.toArray) ?_ (hy := fun wy hSw => by exact exec_bldPair (k := 0) (k2 := 1) (a := .tmp 14) (a2 := .tmp 16) rfl (u := .agg DF.toArray) (u2 := .slice A2 m2 c2) rfl rfl (hbP _))
        go_frame
        refine wpAnyH_ready (rs := [5]) (by kernel_rfl) (by simp) (AllReadyH.cons (o := ⟨some 5, .alloc 90, _, _, _, none⟩) rfl (fun K hK => ?_) AllReadyH.nil)
        rw [if_pos (by kernel_rfl)]
        refine wp_run (.pointer (some ⟨w1.heap.size, 0, none⟩)) _ (exec_allocZ rfl hzp _) ?_
        obtain ⟨w3, hst, hbg⟩ := hSt.out (w1.alloc (.cells PZ.toArray 90)) w1.heap.size (heap_alloc_last w1 _) HB1.out.size (up_alloc HB1.out _)
        have HBG := Lib.hid hbg
        clear hbg
        refine hK.out _ _ trivial (fun _ => ?_)
        clear hK K
        try go_frame
        refine wpAnyH_ready (rs := [6]) (by kernel_rfl) (by simp) (AllReadyH.cons (o := ⟨none, .store 90 (.tmp 5) (.tmp 17), _, _, _, none⟩) rfl (fun K hK => ?_) AllReadyH.nil)
        rw [if_pos (by kernel_rfl)]
        refine wp_skip w3 (exec_store rfl (vx := .pointer (some ⟨w1.heap.size, 0, none⟩)) rfl (vy := .agg PC.toArray) rfl hst) ?_
        refine hK.out _ _ trivial (fun _ => ?_)
        clear hK K
        try go_frame
        refine wpAnyH_done (by kernel_rfl) ?_ _
        clear hst
        go_wp2_with (first
          | (go_at_call 66; refine (hWk.out _ _ HBG.out).mono ?_; rintro _ w4 ⟨rfl, hb4, hR⟩; have hrg := hR (by trivial); obtain ⟨w5, hst5, hat, hbel⟩ := hSy.out w4 hb4; have HT := Lib.hid (And.intro hat hbel); clear hb4 hR hat hbel)
          | ((with_reducible refine wpList_load_mid (op := ⟨some 24, .load 33 (.tmp 23), _, _, _, _⟩) rfl 33 (.tmp 23) rfl (w1.heap.size) 0 ?_ DY _ hrg Try.underlying33 rfl hRi ?_); exact rfl)
          | ((with_reducible refine wpList_stored (o := ⟨none, .store 33 (.tmp 2) (.tmp 24), _, _, _, none⟩) rfl 33 (.tmp 2) (.tmp 24) rfl (.pointer (some ⟨w.heap.size, 0, none⟩)) (.agg DY.toArray) ?_ ?_ w5 hst5 ?_); exact rfl; exact rfl))
        exact bodyPost_ret (ret_hd (p := 2) (q := 3) (by kernel_rfl) rfl HT.out.1 hRw.out rfl) rfl ⟨by rw [← HDY.out]; rfl, HT.out.2⟩
      · rw [if_pos (by kernel_rfl)]
        refine wp_run (.pointer (some ⟨X.drew.heap.size, 0, none⟩)) _ (exec_allocZ rfl hzp _) ?_
        refine hK.out _ _ trivial (fun _ => ?_)
        clear hK K
        try go_frame
        refine wpAnyH_ready (rs := [1]) (by kernel_rfl) (by simp) (AllReadyH.cons (o := ⟨some 14, .call { callee := .value (.func 65), args := #[.tmp 13], argTypes := #[22] }, _, _, _, none⟩) rfl (fun K hK => ?_) AllReadyH.nil)
        rw [if_pos (by kernel_rfl)]
        go_simp
        refine (hF.out _ (up_alloc (drew_self _) (.cells PZ.toArray 90))).mono ?_
        rintro _ w1 ⟨rfl, hb1⟩
        have HB1 := Lib.hid (up (up_alloc (drew_self _) (.cells PZ.toArray 90)) hb1)
        have hpz : w1.heap[X.heap.size]? = some (.cells PZ.toArray 90 (0, 0)) := (hb1.block _ (by simp)).trans (heap_alloc_last X.drew (.cells PZ.toArray 90))
        obtain ⟨w3, hst, hbg⟩ := hSt.out w1 X.heap.size hpz (Nat.le_refl _) HB1.out
        have HBG := Lib.hid hbg
        clear hb1 hpz hbg
        dsimp only
        refine hK.out _ _ trivial (fun _ => ?_)
        clear hK K
        try go_frame
        refine th 4 (v := .agg PC.toArray) ?_ (hy := fun wy hSw => by exact exec_bldPair (k := 0) (k2 := 1) (a := .tmp 14) (a2 := .tmp 16) rfl (u := .agg DF.toArray) (u2 := .slice A2 m2 c2) rfl rfl (hbP _))
        go_frame
        refine wpAnyH_ready (rs := [6]) (by kernel_rfl) (by simp) (AllReadyH.cons (o := ⟨none, .store 90 (.tmp 5) (.tmp 17), _, _, _, none⟩) rfl (fun K hK => ?_) AllReadyH.nil)
        rw [if_pos (by kernel_rfl)]
        refine wp_skip w3 (exec_store rfl (vx := .pointer (some ⟨X.heap.size, 0, none⟩)) rfl (vy := .agg PC.toArray) rfl hst) ?_
        refine hK.out _ _ trivial (fun _ => ?_)
        clear hK K
        try go_frame
        refine wpAnyH_done (by kernel_rfl) ?_ _
        clear hst
        go_wp2_with (first
          | (go_at_call 66; refine (hWk.out _ _ HBG.out).mono ?_; rintro _ w4 ⟨rfl, hb4, hR⟩; have hrg := hR (by trivial); obtain ⟨w5, hst5, hat, hbel⟩ := hSy.out w4 hb4; have HT := Lib.hid (And.intro hat hbel); clear hb4 hR hat hbel)
          | ((with_reducible refine wpList_load_mid (op := ⟨some 24, .load 33 (.tmp 23), _, _, _, _⟩) rfl 33 (.tmp 23) rfl (X.heap.size) 0 ?_ DY _ hrg Try.underlying33 rfl hRi ?_); exact rfl)
          | ((with_reducible refine wpList_stored (o := ⟨none, .store 33 (.tmp 2) (.tmp 24), _, _, _, none⟩) rfl 33 (.tmp 2) (.tmp 24) rfl (.pointer (some ⟨w.heap.size, 0, none⟩)) (.agg DY.toArray) ?_ ?_ w5 hst5 ?_); exact rfl; exact rfl))
        exact bodyPost_ret (ret_hd (p := 2) (q := 3) (by kernel_rfl) rfl HT.out.1 hRw.out rfl) rfl ⟨by rw [← HDY.out]; rfl, HT.out.2⟩
    · unfold sxRead
      rw [if_neg hE]
      have hSy := Lib.hid (hS.out Hd.zero Hd.zero_wide)
      rw [hdV]
      have k1 := beq_zero hE
      have k2 := bne_zero hE
      have hWk2 : Hid (∀ W g, PaBegun X (sxFirst l) (.slice A2 m2 c2) g W → Calls Try.prog 66 #[.pointer (some ⟨g, 0, none⟩)] W fun e w' => e = .returned (.int .i64 ((sxErr l : Nat) : Int)) ∧ Below X.heap.size X w') := Lib.hid fun W g hW => (hWk.out W g hW).mono fun e w' h => ⟨h.1, h.2.1⟩
      clear hWk hRw
      generalize sxErr l = x at hWk2 k1 k2 ⊢
      generalize l.length = m at hq kh hF g2 ⊢
      have g2i : (40 : Int) ≤ (m : Int) := by omega
      subst hX
      generalize hZ : hdC Hd.zero = Z at *
      have HZ := Lib.hid hZ
      clear hZ hE hS hB1
      go_enter Try.func53, Try.ntmps53
      go_wp2_with (first
        | (with_reducible refine wpList_alloc_zero (o := ⟨some 2, .alloc 33, _, _, _, _⟩) rfl 33 rfl Z.toArray hz ?_)
        | (go_at_call 64; refine hq.out.mono ?_; rintro _ w1 ⟨rfl, rfl⟩))
      generalize w.alloc (.cells Z.toArray 33) = X at *
      clear hXs
      refine wp_region_held_drew (S := fun _ => True) (by kernel_rfl) trivial (fun hHeld => ?_)
      refine th 0 ?_
      go_frame
      refine th 2 ?_
      go_frame
      refine th 3 (v := .slice A2 m2 c2) ?_ (hy := fun wy hSw => by (go_simp <;> with_reducible rfl))
      go_frame
      refine wpAnyH_ready (rs := [1, 5]) (by kernel_rfl) (by simp) (AllReadyH.cons (o := ⟨some 14, .call { callee := .value (.func 65), args := #[.tmp 13], argTypes := #[22] }, _, _, _, none⟩) rfl (fun K hK => ?_) (AllReadyH.cons (o := ⟨some 5, .alloc 90, _, _, _, none⟩) rfl (fun K hK => ?_) AllReadyH.nil))
      · rw [if_pos (by kernel_rfl)]
        go_simp
        refine (hF.out _ (drew_self _)).mono ?_
        rintro _ w1 ⟨rfl, hb1⟩
        have HB1 := Lib.hid (drew_start hb1)
        clear hb1
        dsimp only
        refine hK.out _ _ trivial (fun _ => ?_)
        clear hK K
        try go_frame
        refine th 4 (v := .agg PC.toArray) ?_ (hy := fun wy hSw => by exact exec_bldPair (k := 0) (k2 := 1) (a := .tmp 14) (a2 := .tmp 16) rfl (u := .agg DF.toArray) (u2 := .slice A2 m2 c2) rfl rfl (hbP _))
        go_frame
        refine wpAnyH_ready (rs := [5]) (by kernel_rfl) (by simp) (AllReadyH.cons (o := ⟨some 5, .alloc 90, _, _, _, none⟩) rfl (fun K hK => ?_) AllReadyH.nil)
        rw [if_pos (by kernel_rfl)]
        refine wp_run (.pointer (some ⟨w1.heap.size, 0, none⟩)) _ (exec_allocZ rfl hzp _) ?_
        obtain ⟨w3, hst, hbg⟩ := hSt.out (w1.alloc (.cells PZ.toArray 90)) w1.heap.size (heap_alloc_last w1 _) HB1.out.size (up_alloc HB1.out _)
        have HBG := Lib.hid hbg
        clear hbg
        refine hK.out _ _ trivial (fun _ => ?_)
        clear hK K
        try go_frame
        refine wpAnyH_ready (rs := [6]) (by kernel_rfl) (by simp) (AllReadyH.cons (o := ⟨none, .store 90 (.tmp 5) (.tmp 17), _, _, _, none⟩) rfl (fun K hK => ?_) AllReadyH.nil)
        rw [if_pos (by kernel_rfl)]
        refine wp_skip w3 (exec_store rfl (vx := .pointer (some ⟨w1.heap.size, 0, none⟩)) rfl (vy := .agg PC.toArray) rfl hst) ?_
        refine hK.out _ _ trivial (fun _ => ?_)
        clear hK K
        try go_frame
        refine wpAnyH_done (by kernel_rfl) ?_ _
        clear hst
        go_wp2_with (first
          | (go_at_call 66; refine (hWk2.out _ _ HBG.out).mono ?_; rintro _ w4 ⟨rfl, hb4⟩; obtain ⟨w5, hst5, hat, hbel⟩ := hSy.out w4 hb4; have HT := Lib.hid (And.intro hat hbel); clear hb4 hat hbel)
          | ((with_reducible refine wpList_stored (o := ⟨none, .store 33 (.tmp 2) (.tmp 21), _, _, _, none⟩) rfl 33 (.tmp 2) (.tmp 21) rfl (.pointer (some ⟨w.heap.size, 0, none⟩)) (.agg Z.toArray) ?_ ?_ w5 hst5 ?_); exact rfl; exact rfl))
        exact bodyPost_ret (ret_hd (p := 2) (q := 3) (by kernel_rfl) rfl HT.out.1 Hd.zero_wide rfl) rfl ⟨by rw [← HZ.out]; rfl, HT.out.2⟩
      · rw [if_pos (by kernel_rfl)]
        refine wp_run (.pointer (some ⟨X.drew.heap.size, 0, none⟩)) _ (exec_allocZ rfl hzp _) ?_
        refine hK.out _ _ trivial (fun _ => ?_)
        clear hK K
        try go_frame
        refine wpAnyH_ready (rs := [1]) (by kernel_rfl) (by simp) (AllReadyH.cons (o := ⟨some 14, .call { callee := .value (.func 65), args := #[.tmp 13], argTypes := #[22] }, _, _, _, none⟩) rfl (fun K hK => ?_) AllReadyH.nil)
        rw [if_pos (by kernel_rfl)]
        go_simp
        refine (hF.out _ (up_alloc (drew_self _) (.cells PZ.toArray 90))).mono ?_
        rintro _ w1 ⟨rfl, hb1⟩
        have HB1 := Lib.hid (up (up_alloc (drew_self _) (.cells PZ.toArray 90)) hb1)
        have hpz : w1.heap[X.heap.size]? = some (.cells PZ.toArray 90 (0, 0)) := (hb1.block _ (by simp)).trans (heap_alloc_last X.drew (.cells PZ.toArray 90))
        obtain ⟨w3, hst, hbg⟩ := hSt.out w1 X.heap.size hpz (Nat.le_refl _) HB1.out
        have HBG := Lib.hid hbg
        clear hb1 hpz hbg
        dsimp only
        refine hK.out _ _ trivial (fun _ => ?_)
        clear hK K
        try go_frame
        refine th 4 (v := .agg PC.toArray) ?_ (hy := fun wy hSw => by exact exec_bldPair (k := 0) (k2 := 1) (a := .tmp 14) (a2 := .tmp 16) rfl (u := .agg DF.toArray) (u2 := .slice A2 m2 c2) rfl rfl (hbP _))
        go_frame
        refine wpAnyH_ready (rs := [6]) (by kernel_rfl) (by simp) (AllReadyH.cons (o := ⟨none, .store 90 (.tmp 5) (.tmp 17), _, _, _, none⟩) rfl (fun K hK => ?_) AllReadyH.nil)
        rw [if_pos (by kernel_rfl)]
        refine wp_skip w3 (exec_store rfl (vx := .pointer (some ⟨X.heap.size, 0, none⟩)) rfl (vy := .agg PC.toArray) rfl hst) ?_
        refine hK.out _ _ trivial (fun _ => ?_)
        clear hK K
        try go_frame
        refine wpAnyH_done (by kernel_rfl) ?_ _
        clear hst
        go_wp2_with (first
          | (go_at_call 66; refine (hWk2.out _ _ HBG.out).mono ?_; rintro _ w4 ⟨rfl, hb4⟩; obtain ⟨w5, hst5, hat, hbel⟩ := hSy.out w4 hb4; have HT := Lib.hid (And.intro hat hbel); clear hb4 hat hbel)
          | ((with_reducible refine wpList_stored (o := ⟨none, .store 33 (.tmp 2) (.tmp 21), _, _, _, none⟩) rfl 33 (.tmp 2) (.tmp 21) rfl (.pointer (some ⟨w.heap.size, 0, none⟩)) (.agg Z.toArray) ?_ ?_ w5 hst5 ?_); exact rfl; exact rfl))
        exact bodyPost_ret (ret_hd (p := 2) (q := 3) (by kernel_rfl) rfl HT.out.1 Hd.zero_wide rfl) rfl ⟨by rw [← HZ.out]; rfl, HT.out.2⟩
  · have he := sxErr_one h1
    rw [he]
    unfold sxRead
    rw [he, if_neg h1]
    have hSy := Lib.hid (hS.out Hd.zero Hd.zero_wide)
    rw [hdV]
    have k1 := beq_zero h1
    have k2 := bne_zero h1
    generalize sxE1 l = x at hq k1 k2 ⊢
    generalize l.length = m at hq ⊢
    subst hX
    generalize hZ : hdC Hd.zero = Z at *
    have HZ := Lib.hid hZ
    obtain ⟨w3, hst, hat, hbel⟩ := hSy.out _ (Below.refl _ _)
    have HT := Lib.hid (And.intro hat hbel)
    clear hat hbel hZ hr hr0 h0 hb0 h1 he hlc hS hXs
    go_enter Try.func53, Try.ntmps53
    go_wp2_with (first
      | (with_reducible refine wpList_alloc_zero (o := ⟨some 2, .alloc 33, _, _, _, _⟩) rfl 33 rfl Z.toArray hz ?_)
      | (go_at_call 64; refine hq.out.mono ?_; rintro _ w1 ⟨rfl, rfl⟩)
      | ((with_reducible refine wpList_stored (o := ⟨none, .store 33 (.tmp 2) (.tmp 11), _, _, _, none⟩) rfl 33 (.tmp 2) (.tmp 11) rfl (.pointer (some ⟨w.heap.size, 0, none⟩)) (.agg Z.toArray) ?_ ?_ w3 hst ?_); exact rfl; exact rfl))
    exact bodyPost_ret (ret_hd (p := 2) (q := 3) (by kernel_rfl) rfl HT.out.1 Hd.zero_wide rfl) rfl ⟨by rw [← HZ.out]; rfl, HT.out.2⟩
end Go.Proofs.Ytejppekcniehpaa
