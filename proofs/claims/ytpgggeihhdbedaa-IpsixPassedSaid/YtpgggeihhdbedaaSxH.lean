/-
  Law 14's small calls: zero, lives, and the document's Between.
-/
import Derived.Test.YtpgggeihhdbedaaSxF
import Derived.Test.YtpgggeihhdbedaaSxG
namespace Go.Proofs.Ytpgggeihhdbedaa
open Go.RowKit
theorem exec_bldFive {ρ : Operand → Value} {o : Oper} {t : TypeId} {k1 k2 k3 k4 k5 : Nat} {a1 a2 a3 a4 a5 : Operand} (ho : o.op = .build t #[(k1, a1), (k2, a2), (k3, a3), (k4, a4), (k5, a5)]) {u1 u2 u3 u4 u5 : Value} (h1 : ρ a1 = u1) (h2 : ρ a2 = u2) (h3 : ρ a3 = u3) (h4 : ρ a4 = u4) (h5 : ρ a5 = u5) {v : Value} {P : Program} {w : World} (hrun : (Instr.build t #[(k1, u1), (k2, u2), (k3, u3), (k4, u4), (k5, u5)]).run P w = .ok v w) : (execOp ρ o).run P w = .ok (.value v) w := by
  unfold execOp
  simp only [ho, List.map_toArray, List.map_cons, List.map_nil, h1, h2, h3, h4, h5, Sem.run_bind, hrun, Result.andThen_ok, Sem.run_pure]
theorem exec_bldOne {ρ : Operand → Value} {o : Oper} {t : TypeId} {k : Nat} {a : Operand} (ho : o.op = .build t #[(k, a)]) {u : Value} (ha : ρ a = u) {v : Value} {P : Program} {w : World} (hrun : (Instr.build t #[(k, u)]).run P w = .ok v w) : (execOp ρ o).run P w = .ok (.value v) w := by
  unfold execOp
  simp only [ho, List.map_toArray, List.map_cons, List.map_nil, ha, Sem.run_bind, hrun, Result.andThen_ok, Sem.run_pure]
/-- The zero address of IPv6. -/
def ad6Z : Ad := ⟨true, List.replicate 16 0⟩
theorem ad6Z_wide : ad6Z.Wide := rfl
set_option maxRecDepth 100000 in
theorem sxZero_any (w : World) : Calls Try.prog 10 #[] w fun e w' => e = .returned (adV ad6Z) ∧ Below w.heap.size w w' := by
  have hz : ∀ w, (zeroValue 24).run Try.prog w = .ok (.agg (adC Ad.zero).toArray) w := zero_ad
  have hxi := info_adA ad6Z_wide
  obtain ⟨w3, _, hst, hat, hgr, _⟩ := store_ad (w := w.alloc (.cells (adC Ad.zero).toArray 24)) (g := w.heap.size) (a := Ad.zero) (b := ad6Z) (heap_alloc_last w _) rfl ad6Z_wide
  have hb0 := Lib.hid (grown_below (up_alloc (Below.refl w.heap.size w) (.cells (adC Ad.zero).toArray 24)) hgr (Nat.le_refl _))
  have hset : (adC Ad.zero).set 0 (.bool true) = adC ad6Z := rfl
  have hst : (storeCells ⟨w.heap.size, 0, none⟩ ((adC Ad.zero).set 0 (.bool true))).run Try.prog (w.alloc (.cells (adC Ad.zero).toArray 24)) = .ok () w3 := hst
  have hlen : ((adC Ad.zero).set 0 (.bool true)).length = 17 := rfl
  have hat0 : w3.heap[w.heap.size]? = some (.cells (adC ad6Z).toArray 24 (0, 0)) := hat
  clear hset hgr hat
  go_enter Try.func10, Try.ntmps10
  go_wp2_with (first
    | (with_reducible refine wpList_alloc_zero (o := ⟨some 0, .alloc 24, _, _, _, _⟩) rfl 24 rfl (adC Ad.zero).toArray hz ?_))
  refine bodyPost_ret (results_cell_row (p := 0) (ty := 24) (by kernel_rfl) _ _ w.heap.size 24 _ (0, 0) _ rfl hat0 Try.underlying24 rfl hxi) rfl ⟨rfl, hb0.out⟩
/-- The head that lives asks for, as it is written and as it is read. -/
def hdS : Hd := ⟨true, 17, 0, ad6Z, ad6Z, false, 9⟩
def hdS2 : Hd := ⟨true, 17, 40, ad6Z, ad6Z, false, 9⟩
theorem hdS_wide : hdS.Wide := ⟨rfl, rfl⟩
theorem hdS2_wide : hdS2.Wide := ⟨rfl, rfl⟩
theorem hdS_may : hdS.may6 = true := by decide
set_option maxRecDepth 100000 in
set_option maxHeartbeats 1000000 in
theorem sxLives_any (w : World) : Calls Try.prog 7 #[] w fun e w' => e = .returned (.bool true) ∧ Below w.heap.size w w' := by
  have hz : ∀ w, (zeroValue 26).run Try.prog w = .ok (.agg (hdC Hd.zero).toArray) w := zero_hd
  have hb1 : ∀ W, (Instr.build 26 #[(0, .bool true), (1, .int .u8 17), (6, .int .u8 9), (3, adV ad6Z), (4, adV ad6Z)]).run Try.prog W = .ok (.agg (hdC hdS).toArray) W := fun W => by kernel_rfl
  have hb2 : ∀ W, (Instr.build 26 #[(0, .bool true), (1, .int .u8 17), (6, .int .u8 9), (2, .int .i64 40), (3, adV ad6Z), (4, adV ad6Z)]).run Try.prog W = .ok (.agg (hdC hdS2).toArray) W := fun W => by kernel_rfl
  have heq := eql_hd hdS2 hdS2 hdS2_wide hdS2_wide
  rw [decide_eq_true rfl, hdV] at heq
  have hlen := sxBytes_length hdS hdS_wide hdS_may [1, 2]
  have hzero := Lib.hid sxZero_any
  rw [adV] at hb1 hb2 hzero
  have hwr : Hid (∀ W, Calls Try.prog 8 #[.agg (hdC hdS).toArray, .slice (some ⟨W.heap.size, 0, none⟩) 2 2] (W.alloc (.cells (cellsB [1, 2]).toArray 5)) fun e w' => ∃ A2 c2, e = .returned (.tuple #[.slice A2 42 c2, .int .i64 0]) ∧ Rd w' w'.heap.size (.slice A2 42 c2) (cellsB (sxBytes hdS [1, 2])) ∧ Below W.heap.size W w') := Lib.hid fun W => by
    refine (sxWrite_ok hdS hdS_wide hdS_may _ 2 [1, 2] (by simp) (W.alloc (.cells (cellsB [1, 2]).toArray 5)) (W.heap.size + 1) (by simp) (rd_lit W 5 [1, 2] (by simp))).mono ?_
    rintro e w' ⟨v, rfl, hv, hb⟩
    obtain ⟨A2, c2, rfl, hr⟩ := mine_slice (w := W) hv (n := 42) hlen
    exact ⟨A2, c2, rfl, hr, up (up_alloc (Below.refl W.heap.size W) _) hb⟩
  obtain ⟨hE, hR⟩ := sxBack hdS hdS_wide hdS_may [1, 2] (by simp)
  have hrd : Hid (∀ W A2 c2, Rd W W.heap.size (.slice A2 42 c2) (cellsB (sxBytes hdS [1, 2])) → Calls Try.prog 9 #[.slice A2 42 c2] W fun e w' => e = .returned (.tuple #[.agg (hdC hdS2).toArray, .int .i64 0]) ∧ Below W.heap.size W w') := Lib.hid fun W A2 c2 hr => by
    have hl2 : (sxBytes hdS [1, 2]).length = 42 := hlen
    rw [← hl2] at hr ⊢
    have := sxRead_any hr
    rw [hE, hR] at this
    exact this
  have hzs : (hdC Hd.zero).toArray.size = (hdC hdS2).toArray.size := by rw [List.size_toArray, List.size_toArray, hdC_length Hd.zero_wide, hdC_length hdS2_wide]
  have hxa := all_oneCell_toArray (hdC_one hdS2)
  have hxi := info_hd hdS2_wide
  have hxiA := info_hdA hdS2_wide
  have hC : Hid (∀ W : World, (W.alloc (.cells (hdC hdS2).toArray 26)).rangeAt W.heap.size 0 (hdC hdS2)) := Lib.hid fun W => rangeAt_block (heap_alloc_last W _) fun j u hu => by rw [Nat.zero_add]; exact hu
  clear hE hR hlen
  generalize sxBytes hdS [1, 2] = bs at *
  generalize hdC hdS = C1 at *
  generalize hdC hdS2 = C2 at *
  generalize hdC Hd.zero = Z at *
  generalize (adC ad6Z).toArray = A6 at *
  go_enter Try.func7, Try.ntmps7
  go_wp2_with fail
  refine (hzero.out _).mono ?_
  rintro _ wa ⟨rfl, hby⟩
  have HY0 := Lib.hid hby
  clear hby
  go_wp2_with fail
  refine (hzero.out _).mono ?_
  rintro _ wb ⟨rfl, hby⟩
  have HY1 := Lib.hid (up HY0.out hby)
  clear hby
  go_wp2_with (first
    | ((with_reducible refine wpList_run (o := ⟨some 8, .build 26 #[(0, .const (.bool true)), (1, .const (.int .u8 17)), (6, .const (.int .u8 9)), (3, .tmp 6), (4, .tmp 7)], _, _, _, none⟩) rfl (.agg C1.toArray) wb ?_ ?_); exact exec_bldFive (k1 := 0) (k2 := 1) (k3 := 6) (k4 := 3) (k5 := 4) (a1 := .const (.bool true)) (a2 := .const (.int .u8 17)) (a3 := .const (.int .u8 9)) (a4 := .tmp 6) (a5 := .tmp 7) rfl (u1 := .bool true) (u2 := .int .u8 17) (u3 := .int .u8 9) (u4 := .agg A6) (u5 := .agg A6) rfl rfl rfl rfl rfl (hb1 _))
    | (go_at_call 8; refine (hwr.out _).mono ?_; rintro _ w1 ⟨A2, c2, rfl, hr2, hbw⟩; have HB1 := Lib.hid (up HY1.out hbw); clear hbw; have HR := Lib.hid hr2; clear hr2)
    | (go_at_call 9; refine (hrd.out _ _ _ HR.out).mono ?_; rintro _ w2 ⟨rfl, hbr⟩; have HB2 := Lib.hid (up_alloc (up HB1.out hbr) (.cells C2.toArray 26)); clear hbr; have k3 := hC.out w2)
    | (with_reducible refine wpList_alloc_zero (o := ⟨some 3, .alloc 26, _, _, _, _⟩) rfl 26 rfl Z.toArray hz ?_)
    | ((with_reducible refine wpList_store_new (o := ⟨none, .store 26 (.tmp 3) (.tmp 16), _, _, _, _⟩) rfl 26 (.tmp 3) (.tmp 16) rfl Z.toArray C2.toArray ?_ ?_ hxiA hzs hxa ?_); exact rfl; exact rfl))
  generalize hW : w2.alloc (.cells C2.toArray 26) = X at *
  obtain ⟨g3, hg3⟩ : ∃ g, g = w2.heap.size := ⟨_, rfl⟩
  have hlt : g3 < X.heap.size := by rw [hg3, ← hW]; simp
  rw [← hg3] at k3 ⊢
  have hkeep : Hid (∀ W, Below X.heap.size X W → W.rangeAt g3 0 C2) := Lib.hid fun W hW => fun j u hu => (hW.cell hlt).trans (k3 j u hu)
  clear hW hg3 hlt
  refine wp_region_held_drew (S := fun w' => w'.rangeAt g3 0 C2) (by kernel_rfl) k3 (fun hHeld => ?_)
  refine th 0 ?_
  go_frame
  refine th 1 ?_
  go_frame
  refine th 2 (v := .bool true) ?_ (hy := fun wy hSw => by (go_simp <;> with_reducible rfl))
  go_frame
  refine th 3 (v := .bool true) ?_ (hy := fun wy hSw => by (go_simp <;> with_reducible rfl))
  go_frame
  refine th 4 ?_
  go_frame
  refine th 5 (v := .bool true) ?_ (hy := fun wy hSw => by (go_simp <;> with_reducible rfl))
  go_frame
  refine th 6 (v := .bool true) ?_ (hy := fun wy hSw => by (go_simp <;> with_reducible rfl))
  go_frame
  refine th 7 (v := .bool true) ?_ (hy := fun wy hSw => by (go_simp <;> with_reducible rfl))
  go_frame
  refine th 8 ?_
  go_frame
  refine th 9 (v := .bool true) ?_ (hy := fun wy hSw => by (go_simp <;> with_reducible rfl))
  go_frame
  refine th 10 (v := .bool true) ?_ (hy := fun wy hSw => by (go_simp <;> with_reducible rfl))
  go_frame
  refine th 11 (v := .bool true) ?_ (hy := fun wy hSw => by (go_simp <;> with_reducible rfl))
  go_frame
  refine th 12 (v := .agg C2.toArray) ?_ (hy := fun wy hSw => by exact exec_load (t := 26) (x := .tmp 3) rfl (pv := .pointer (some ⟨g3, 0, none⟩)) rfl (run_loadAt_mid wy g3 0 26 C2 _ hSw Try.underlying26 rfl hxi))
  go_frame
  refine wpAnyH_ready (rs := [13]) (by kernel_rfl) (by simp) (AllReadyH.cons (o := ⟨some 31, .call { callee := .value (.func 10), args := #[], argTypes := #[] }, _, _, _, some (11, true)⟩) rfl (fun K hK => ?_) AllReadyH.nil)
  rw [if_pos (by kernel_rfl)]
  go_simp
  refine (hzero.out _).mono ?_
  rintro _ w5 ⟨rfl, hb5⟩
  have HB5 := Lib.hid (drew_start hb5)
  clear hb5
  dsimp only
  refine hK.out _ _ (hkeep.out _ HB5.out) (fun _ => ?_)
  clear hK K
  try go_frame
  refine wpAnyH_ready (rs := [14]) (by kernel_rfl) (by simp) (AllReadyH.cons (o := ⟨some 32, .call { callee := .value (.func 10), args := #[], argTypes := #[] }, _, _, _, some (11, true)⟩) rfl (fun K hK => ?_) AllReadyH.nil)
  rw [if_pos (by kernel_rfl)]
  go_simp
  refine (hzero.out _).mono ?_
  rintro _ w6 ⟨rfl, hb6⟩
  have HB6 := Lib.hid (up HB5.out hb6)
  clear hb6
  dsimp only
  refine hK.out _ _ (hkeep.out _ HB6.out) (fun _ => ?_)
  clear hK K
  try go_frame
  refine th 15 (v := .agg C2.toArray) ?_ (hy := fun wy hSw => by exact exec_bld6 (k1 := 0) (k2 := 1) (k3 := 6) (k4 := 2) (k5 := 3) (k6 := 4) (a1 := .const (.bool true)) (a2 := .const (.int .u8 17)) (a3 := .const (.int .u8 9)) (a4 := .const (.int .i64 40)) (a5 := .tmp 31) (a6 := .tmp 32) rfl (u1 := .bool true) (u2 := .int .u8 17) (u3 := .int .u8 9) (u4 := .int .i64 40) (u5 := .agg A6) (u6 := .agg A6) rfl rfl rfl rfl rfl rfl (hb2 _))
  go_frame
  refine th 16 (v := .bool true) ?_ (hy := fun wy hSw => by (go_simp <;> with_reducible rfl))
  go_frame
  refine th 17 (v := .bool true) ?_ (hy := fun wy hSw => by (go_simp <;> with_reducible rfl))
  go_frame
  refine th 18 ?_
  go_frame
  refine wpAnyH_done (by kernel_rfl) ?_ _
  clear k3
  go_wp2_with fail
  go_ret
  exact ⟨rfl, up HB2.out HB6.out⟩
set_option maxRecDepth 100000 in
theorem rfBetween_any (p : UInt8) (w : World) : Calls Try.prog 6 #[.int .u8 (p.toNat : Int)] w fun e w' => e = .returned (.bool (stands p)) ∧ w = w' := by
  by_cases h0 : p = 0
  · subst h0
    go_enter Try.func6, Try.ntmps6
    go_wp2_with fail
    go_ret
    exact ⟨rfl, rfl⟩
  by_cases h1 : p = 43
  · subst h1
    go_enter Try.func6, Try.ntmps6
    go_wp2_with fail
    go_ret
    exact ⟨rfl, rfl⟩
  by_cases h2 : p = 44
  · subst h2
    go_enter Try.func6, Try.ntmps6
    go_wp2_with fail
    go_ret
    exact ⟨rfl, rfl⟩
  by_cases h3 : p = 60
  · subst h3
    go_enter Try.func6, Try.ntmps6
    go_wp2_with fail
    go_ret
    exact ⟨rfl, rfl⟩
  have hs : stands p = false := by simp [stands, h0, h1, h2, h3]
  have k0 : ((p.toNat : Int) == 0) = false := beq_u8 (k := 0) (toNat_ne h0)
  have k1 : ((p.toNat : Int) == 43) = false := beq_u8 (k := 43) (toNat_ne h1)
  have k2 : ((p.toNat : Int) == 44) = false := beq_u8 (k := 44) (toNat_ne h2)
  have k3 : ((p.toNat : Int) == 60) = false := beq_u8 (k := 60) (toNat_ne h3)
  rw [hs]
  clear hs h0 h1 h2 h3
  go_enter Try.func6, Try.ntmps6
  go_wp2_with fail
  go_ret
  exact ⟨rfl, rfl⟩
end Go.Proofs.Ytpgggeihhdbedaa
