/-
  The walk of PktBack.
-/
import Derived.Test.YtpgibabgedokpaaPkF
import Derived.Test.YtpgibabgedokpaaFlOpen
namespace Go.Proofs.Ytpgibabgedokpaa
open Go.RowKit
set_option maxRecDepth 100000 in
set_option maxHeartbeats 1000000 in
theorem pktBack_walk (f : Fl) (w : World) (hf : f.Wide) :
    Calls Try.prog 4 #[flV f] w fun e w' => e = .returned (.bool true) ∧ Below w.heap.size w w' := by
  have hz : ∀ w, (zeroValue 33).run Try.prog w = .ok (.agg (flC Fl.zero).toArray) w := zero_fl
  have hb0 := up_alloc (Below.refl w.heap.size w) (.cells (flC f).toArray 33)
  obtain ⟨X, hX⟩ : ∃ X, X = w.alloc (.cells (flC f).toArray 33) := ⟨_, rfl⟩
  have hXs : X.heap.size = w.heap.size + 1 := by rw [hX]; simp
  have at0 : FlAt X w.heap.size f := by
    unfold FlAt
    rw [hX]; exact heap_alloc_last w _
  rw [← hX] at hb0
  have hHB0 := Lib.hid hb0
  have hbw := Fl.back_wide hf
  have hrow0 : X.heap[w.heap.size]? = some (.cells (flC f).toArray 33 (0, 0)) := at0
  have hbk : Hid (∀ W, Calls Try.prog 10 #[.agg (flC f).toArray] W fun e w' => e = .returned (.agg (flC f.back).toArray) ∧ Below W.heap.size W w') := Lib.hid (pkBack_any f hf)
  have hbk2 : Hid (∀ W, Calls Try.prog 10 #[.agg (flC f.back).toArray] W fun e w' => e = .returned (.agg (flC f).toArray) ∧ Below W.heap.size W w') := Lib.hid (pkBack_any f.back hbw)
  have hSt : Hid (∀ W : World, ∃ W', (storeCells ⟨W.heap.size, 0, none⟩ (flC f.back)).run Try.prog (W.alloc (.cells (flC Fl.zero).toArray 33)) = .ok () W' ∧ Below W.heap.size W W' ∧ W.heap.size < W'.heap.size ∧ FlAt W' W.heap.size f.back) := Lib.hid fun W => by
    obtain ⟨W', _, hat, hgr, hsz, hsc⟩ := store_fl (w := W.alloc (.cells (flC Fl.zero).toArray 33)) (g := W.heap.size) (a := Fl.zero) (b := f.back) (heap_alloc_last W _) Fl.zero_wide hbw
    exact ⟨W', hsc, grown_below (up_alloc (Below.refl _ _) _) hgr (Nat.le_refl _), by rw [hsz]; simp, hat⟩
  have hLd : Hid (∀ {W : World} {g3 : Nat}, FlAt W w.heap.size f → FlAt W g3 f.back → (W.rangeAt w.heap.size 0 (flC f) ∧ W.rangeAt g3 0 (flC f.back) ∧ W.rangeAt w.heap.size 0 (adC f.src) ∧ W.rangeAt w.heap.size 17 (adC f.dst)) ∧ W.cell? ⟨w.heap.size, 34, none⟩ = some (.int .u16 (f.sport : Int)) ∧ W.cell? ⟨w.heap.size, 35, none⟩ = some (.int .u16 (f.dport : Int)) ∧ W.cell? ⟨w.heap.size, 36, none⟩ = some (.int .u8 (f.proto.toNat : Int))) := Lib.hid fun h1 h2 => ⟨⟨row_range h1, row_range h2, flC_src h1, flC_dst hf h1⟩, flC_rest hf h1⟩
  have hbu : ∀ W, (Instr.build 33 #[(0, .agg (adC f.dst).toArray), (1, .agg (adC f.src).toArray), (2, .int .u16 (f.dport : Int)), (3, .int .u16 (f.sport : Int)), (4, .int .u8 (f.proto.toNat : Int))]).run Try.prog W = .ok (.agg (flC f.back).toArray) W := fun W => build_fl _ _ hf.2.1 hf.1 _ _ _ W
  have heq1 : ∀ W, (binOp .eql 33 (.agg (flC f.back).toArray) (.agg (flC f.back).toArray)).run Try.prog W = .ok (.bool true) W := fun W => by
    have := eql_fl f.back f.back hbw hbw W
    rwa [decide_eq_true rfl] at this
  have heq2 : ∀ W, (binOp .eql 33 (.agg (flC f).toArray) (.agg (flC f).toArray)).run Try.prog W = .ok (.bool true) W := fun W => by
    have := eql_fl f f hf hf W
    rwa [decide_eq_true rfl] at this
  have hlv := Lib.hid pkLives_any
  have i1 := info_ad hf.1
  have i2 := info_ad hf.2.1
  have hfi := info_fl hf
  have hfA := info_flA hf
  have hbi := info_fl hbw
  have hbl := flC_length hbw
  have hA0 : Hid (∀ W, Below X.heap.size X W → FlAt W w.heap.size f) := Lib.hid fun W hW => at0.below hW (by omega)
  unfold flV
  clear hbw hf hb0 at0
  obtain ⟨fb, hfb⟩ : ∃ fb, fb = f.back := ⟨_, rfl⟩
  rw [← hfb] at hbk hbk2 hSt hLd hbu heq1 hbi hbl
  generalize hFC : flC f = FC at *
  generalize hBC : flC fb = BC at *
  generalize flC Fl.zero = ZF at *
  generalize adC f.src = C1 at *
  generalize adC f.dst = C2 at *
  generalize hs1 : f.sport = q1 at *
  generalize hs2 : f.dport = q2 at *
  generalize hs3 : f.proto = q3 at *
  clear hs1 hs2 hs3 hFC hBC hfb
  subst hX
  go_enter Try.func4, Try.ntmps4
  go_wp2_with (first
    | ((with_reducible refine wpList_load_row (o := ⟨some 4, .load 33 (.tmp 1), _, _, _, _⟩) rfl 33 (.tmp 1) rfl w.heap.size ?_ 33 FC.toArray (0, 0) _ hrow0 Try.underlying33 rfl hfA ?_); exact rfl)
    | (go_at_call 10; refine (hbk.out _).mono ?_; rintro _ w2 ⟨rfl, hb2⟩; obtain ⟨w3, hst, hb3, hlt, hat⟩ := hSt.out w2; have HB3 := Lib.hid (up hb2 hb3); have HT3 := Lib.hid hat; have HL := Lib.hid hlt; clear hb2 hb3 hat hlt)
    | (with_reducible refine wpList_alloc_zero (o := ⟨some 3, .alloc 33, _, _, _, _⟩) rfl 33 rfl ZF.toArray hz ?_))
  obtain ⟨g3, hg3⟩ : ∃ g, g = w2.heap.size := ⟨_, rfl⟩
  rw [← hg3] at HT3 HL ⊢
  have hAt : Hid (∀ W, Below w3.heap.size w3 W → _) := Lib.hid fun W hW => hLd.out (hA0.out _ (HB3.out.trans (hW.mono HB3.out.size))) (HT3.out.below hW HL.out)
  clear hst hg3
  refine wp_region_held_drew (S := fun w' => (w'.rangeAt w.heap.size 0 FC ∧ w'.rangeAt g3 0 BC ∧ w'.rangeAt w.heap.size 0 C1 ∧ w'.rangeAt w.heap.size 17 C2) ∧ w'.cell? ⟨w.heap.size, 34, none⟩ = some (.int .u16 (q1 : Int)) ∧ w'.cell? ⟨w.heap.size, 35, none⟩ = some (.int .u16 (q2 : Int)) ∧ w'.cell? ⟨w.heap.size, 36, none⟩ = some (.int .u8 (q3.toNat : Int))) (by kernel_rfl) (hAt.out _ (drew_self _)) (fun hHeld => ?_)
  refine th 0 (v := .agg BC.toArray) ?_ (hy := fun wy hSw => by exact exec_load (t := 33) (x := .tmp 3) rfl (pv := .pointer (some ⟨g3, 0, none⟩)) rfl (run_loadAt_mid wy g3 0 33 BC _ hSw.1.2.1 Try.underlying33 rfl hbi))
  go_frame
  refine th 1 ?_
  go_frame
  refine th 2 (v := .agg C2.toArray) ?_ (hy := fun wy hSw => by exact exec_load (t := 26) (x := .tmp 7) rfl (pv := .pointer (some ⟨w.heap.size, 17, none⟩)) rfl (run_loadAt_mid wy w.heap.size 17 26 C2 _ hSw.1.2.2.2 Try.underlying26 rfl i2))
  go_frame
  refine th 3 ?_
  go_frame
  refine th 4 (v := .agg C1.toArray) ?_ (hy := fun wy hSw => by exact exec_load (t := 26) (x := .tmp 9) rfl (pv := .pointer (some ⟨w.heap.size, 0, none⟩)) rfl (run_loadAt_mid wy w.heap.size 0 26 C1 _ hSw.1.2.2.1 Try.underlying26 rfl i1))
  go_frame
  refine th 5 ?_
  go_frame
  refine th 6 (v := .int .u16 (q2 : Int)) ?_ (hy := fun wy hSw => by (obtain ⟨_, s1, s2, s3⟩ := hSw; go_simp <;> with_reducible rfl))
  go_frame
  refine th 7 ?_
  go_frame
  refine th 8 (v := .int .u16 (q1 : Int)) ?_ (hy := fun wy hSw => by (obtain ⟨_, s1, s2, s3⟩ := hSw; go_simp <;> with_reducible rfl))
  go_frame
  refine th 9 ?_
  go_frame
  refine th 10 (v := .int .u8 (q3.toNat : Int)) ?_ (hy := fun wy hSw => by (obtain ⟨_, s1, s2, s3⟩ := hSw; go_simp <;> with_reducible rfl))
  go_frame
  refine th 11 (v := .agg BC.toArray) ?_ (hy := fun wy hSw => by exact exec_bld5 (k1 := 0) (k2 := 1) (k3 := 2) (k4 := 3) (k5 := 4) (a1 := .tmp 8) (a2 := .tmp 10) (a3 := .tmp 12) (a4 := .tmp 14) (a5 := .tmp 16) rfl (u1 := .agg C2.toArray) (u2 := .agg C1.toArray) (u3 := .int .u16 (q2 : Int)) (u4 := .int .u16 (q1 : Int)) (u5 := .int .u8 (q3.toNat : Int)) rfl rfl rfl rfl rfl (hbu _))
  go_frame
  refine th 12 (v := .bool true) ?_ (hy := fun wy hSw => by (go_simp <;> with_reducible rfl))
  go_frame
  refine th 13 (v := .bool true) ?_ (hy := fun wy hSw => by (go_simp <;> with_reducible rfl))
  go_frame
  refine th 14 (v := .agg BC.toArray) ?_ (hy := fun wy hSw => by exact exec_load (t := 33) (x := .tmp 3) rfl (pv := .pointer (some ⟨g3, 0, none⟩)) rfl (run_loadAt_mid wy g3 0 33 BC _ hSw.1.2.1 Try.underlying33 rfl hbi))
  go_frame
  refine th 16 (v := .agg FC.toArray) ?_ (hy := fun wy hSw => by exact exec_load (t := 33) (x := .tmp 1) rfl (pv := .pointer (some ⟨w.heap.size, 0, none⟩)) rfl (run_loadAt_mid wy w.heap.size 0 33 FC _ hSw.1.1 Try.underlying33 rfl hfi))
  go_frame
  refine wpAnyH_ready (rs := [15]) (by kernel_rfl) (by simp) (AllReadyH.cons (o := ⟨some 21, .call { callee := .value (.func 10), args := #[.tmp 20], argTypes := #[33] }, _, _, _, some (13, true)⟩) rfl (fun K hK => ?_) AllReadyH.nil)
  rw [if_pos (by kernel_rfl)]
  go_simp
  refine (hbk2.out _).mono ?_
  rintro _ w5 ⟨rfl, hb⟩
  have HB5 := Lib.hid (drew_start hb)
  clear hb
  dsimp only
  refine hK.out _ _ (hAt.out _ HB5.out) (fun _ => ?_)
  clear hK K
  try go_frame
  refine th 17 (v := .bool true) ?_ (hy := fun wy hSw => by (go_simp <;> with_reducible rfl))
  go_frame
  refine th 18 (v := .bool true) ?_ (hy := fun wy hSw => by (go_simp <;> with_reducible rfl))
  go_frame
  refine th 19 (v := .bool true) ?_ (hy := fun wy hSw => by (go_simp <;> with_reducible rfl))
  go_frame
  refine wpAnyH_ready (rs := [20]) (by kernel_rfl) (by simp) (AllReadyH.cons (o := ⟨some 26, .call { callee := .value (.func 9), args := #[], argTypes := #[] }, _, _, _, some (19, true)⟩) rfl (fun K hK => ?_) AllReadyH.nil)
  rw [if_pos (by kernel_rfl)]
  go_simp
  refine (hlv.out _).mono ?_
  rintro _ w6 ⟨rfl, hb⟩
  have HB6 := Lib.hid (up HB5.out hb)
  clear hb
  dsimp only
  refine hK.out _ _ (hAt.out _ HB6.out) (fun _ => ?_)
  clear hK K
  try go_frame
  refine th 21 (v := .bool true) ?_ (hy := fun wy hSw => by (go_simp <;> with_reducible rfl))
  go_frame
  refine th 22 ?_
  go_frame
  refine wpAnyH_done (by kernel_rfl) ?_ _
  go_wp2_with fail
  go_ret
  exact ⟨rfl, up (up hHB0.out HB3.out) HB6.out⟩
end Go.Proofs.Ytpgibabgedokpaa
