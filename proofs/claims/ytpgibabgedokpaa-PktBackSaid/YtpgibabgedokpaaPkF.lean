/-
  Law 16's lives.
-/
import Derived.Test.YtpgibabgedokpaaPkD
import Derived.Test.YtpgibabgedokpaaPkE
namespace Go.Proofs.Ytpgibabgedokpaa
open Go.RowKit
theorem flSome_may : sgMay (bdHd flSome 9) (bdSg flSome 0) = true := by decide
theorem flSome_ok : pkBE flSome 0 9 1 = 0 := by
  unfold pkBE
  rw [if_neg (by decide), if_neg (by rw [flSome_may]; decide), if_neg (by decide), if_neg (by decide)]
/-- Build of what may be, read again. -/
theorem pkBd_wide {f : Fl} {flags hops : UInt8} {data : List UInt8} (hf : f.Wide) : (bdPk f flags hops data).Wide := ⟨⟨hf.1, hf.2.1⟩, hf⟩
set_option maxRecDepth 100000 in
set_option maxHeartbeats 1000000 in
theorem pkLives_any (w : World) : Calls Try.prog 9 #[] w fun e w' => e = .returned (.bool true) ∧ Below w.heap.size w w' := by
  have hzp : ∀ w, (zeroValue 35).run Try.prog w = .ok (.agg (pkC Pk.none).toArray) w := zero_pk
  have hM : PkMay flSome 0 9 [7] := PkMay.of flSome_wide flSome_ok
  obtain ⟨hE, hR⟩ := pkBack hM
  have hlen : (pkBytes flSome 0 9 [7]).length = 29 := by
    rw [pkBytes_length hM, hM.seg_length]
    rfl
  have hpw : (bdPk flSome 0 9 [7]).Wide := pkBd_wide flSome_wide
  have hsm : Hid (∀ W, Calls Try.prog 18 #[] W fun e w' => e = .returned (.agg (flC flSome).toArray) ∧ Below W.heap.size W w') := Lib.hid pkSome_any
  have hbd : Hid (∀ W, Calls Try.prog 11 #[.agg (flC flSome).toArray, .int .u8 0, .int .u8 9, .slice (some ⟨W.heap.size, 0, none⟩) 1 1] (W.alloc (.cells (cellsB [7]).toArray 5)) fun e w' => ∃ A2 c2, e = .returned (.tuple #[.slice A2 29 c2, .int .i64 0]) ∧ Rd w' w'.heap.size (.slice A2 29 c2) (cellsB (pkBytes flSome 0 9 [7])) ∧ Below W.heap.size W w') := Lib.hid fun W => by
    have hs : (W.alloc (.cells (cellsB [7]).toArray 5)).heap.size = W.heap.size + 1 := by simp
    refine (pkBuild_any flSome flSome_wide 0 9 _ 1 [7] (W.alloc (.cells (cellsB [7]).toArray 5)) (by rw [hs]; exact rd_lit W 5 [7] (by simp))).mono ?_
    rintro e w' ⟨v, rfl, hv, hb⟩
    unfold PkBuilt at hv
    rw [if_pos (by exact flSome_ok)] at hv
    obtain ⟨A2, c2, rfl, hr⟩ := mine_slice (w := W.alloc (.cells (cellsB [7]).toArray 5)) hv (n := 29) hlen
    exact ⟨A2, c2, by rw [show (([7] : List UInt8).length) = 1 from rfl, flSome_ok]; rfl, hr, up (up_alloc (Below.refl W.heap.size W) _) hb⟩
  have hps : Hid (∀ W A2 c2, Rd W W.heap.size (.slice A2 29 c2) (cellsB (pkBytes flSome 0 9 [7])) → Calls Try.prog 7 #[.slice A2 29 c2] W fun e w' => e = .returned (.tuple #[.agg (pkC (bdPk flSome 0 9 [7])).toArray, .int .i64 0]) ∧ Below W.heap.size W w') := Lib.hid fun W A2 c2 hr => by
    rw [← hlen] at hr ⊢
    have := pkParse_any hr
    rw [hE, hR] at this
    exact this
  have hSt : Hid (∀ W : World, ∃ W', (storeCells ⟨W.heap.size, 0, none⟩ (pkC (bdPk flSome 0 9 [7]))).run Try.prog (W.alloc (.cells (pkC Pk.none).toArray 35)) = .ok () W' ∧ Below W.heap.size W W' ∧ W.heap.size < W'.heap.size ∧ PkAt W' W.heap.size (bdPk flSome 0 9 [7])) := Lib.hid fun W => by
    obtain ⟨W', _, hat, hgr, hsz, hsc⟩ := store_pk (w := W.alloc (.cells (pkC Pk.none).toArray 35)) (g := W.heap.size) (a := Pk.none) (b := bdPk flSome 0 9 [7]) (heap_alloc_last W _) Pk.none_wide hpw
    exact ⟨W', hsc, grown_below (up_alloc (Below.refl _ _) _) hgr (Nat.le_refl _), by rw [hsz]; simp, hat⟩
  have hLd : Hid (∀ {W : World} {g : Nat}, PkAt W g (bdPk flSome 0 9 [7]) → W.rangeAt g 45 (flC flSome) ∧ W.cell? ⟨g, 38, none⟩ = some (.int .u8 9)) := Lib.hid fun h => ⟨pkC_flow hpw h, pkC_hops hpw h⟩
  have hPl := pkC_length hpw
  have hfi := info_fl flSome_wide
  have heq : ∀ W, (binOp .eql 33 (.agg (flC flSome).toArray) (.agg (flC flSome).toArray)).run Try.prog W = .ok (.bool true) W := fun W => by
    have := eql_fl flSome flSome flSome_wide flSome_wide W
    rwa [decide_eq_true rfl] at this
  clear hM hE hR hlen hpw
  generalize pkBytes flSome 0 9 [7] = bs at *
  generalize bdPk flSome 0 9 [7] = Y at *
  generalize flC flSome = FS at *
  generalize pkC Pk.none = ZP at *
  generalize hPC : pkC Y = PC at *
  clear hPC
  go_enter Try.func9, Try.ntmps9
  go_wp2_with (first
    | (go_at_call 18; refine (hsm.out _).mono ?_; rintro _ w0 ⟨rfl, hb0⟩; have HB0 := Lib.hid hb0; clear hb0)
    | (go_at_call 11; refine (hbd.out _).mono ?_; rintro _ w1 ⟨A2, c2, rfl, hr1, hb1⟩; have HB1 := Lib.hid (up HB0.out hb1); have HR1 := Lib.hid hr1; clear hb1 hr1)
    | (go_at_call 7; refine (hps.out _ _ _ HR1.out).mono ?_; rintro _ w2 ⟨rfl, hb2⟩; obtain ⟨w3, hst, hb3, hlt, hat⟩ := hSt.out w2; have HB3 := Lib.hid (up (up HB1.out hb2) hb3); have HT3 := Lib.hid hat; have HL := Lib.hid hlt; clear hb2 hb3 hat hlt)
    | (with_reducible refine wpList_alloc_zero (o := ⟨some 3, .alloc 35, _, _, _, _⟩) rfl 35 rfl ZP.toArray hzp ?_))
  obtain ⟨g3, hg3⟩ : ∃ g, g = w2.heap.size := ⟨_, rfl⟩
  rw [← hg3] at HT3 HL ⊢
  have hAt : Hid (∀ W, Below w3.heap.size w3 W → W.rangeAt g3 45 FS ∧ W.cell? ⟨g3, 38, none⟩ = some (.int .u8 9)) := Lib.hid fun W hW => hLd.out (HT3.out.below hW HL.out)
  clear hst hg3
  refine wp_region_held_drew (S := fun w' => w'.rangeAt g3 45 FS ∧ w'.cell? ⟨g3, 38, none⟩ = some (.int .u8 9)) (by kernel_rfl) (hAt.out _ (drew_self _)) (fun hHeld => ?_)
  refine th 0 ?_
  go_frame
  refine th 1 ?_
  go_frame
  refine th 2 (v := .bool true) ?_ (hy := fun wy hSw => by (go_simp <;> with_reducible rfl))
  go_frame
  refine th 3 (v := .bool true) ?_ (hy := fun wy hSw => by (go_simp <;> with_reducible rfl))
  go_frame
  refine th 4 ?_
  go_frame
  refine th 5 (v := .bool true) ?_ (hy := fun wy hSw => by (go_simp <;> with_reducible rfl))
  go_frame
  refine th 6 (v := .bool true) ?_ (hy := fun wy hSw => by (go_simp <;> with_reducible rfl))
  go_frame
  refine th 7 (v := .bool true) ?_ (hy := fun wy hSw => by (go_simp <;> with_reducible rfl))
  go_frame
  refine th 8 ?_
  go_frame
  refine th 9 (v := .bool true) ?_ (hy := fun wy hSw => by (go_simp <;> with_reducible rfl))
  go_frame
  refine th 10 (v := .bool true) ?_ (hy := fun wy hSw => by (go_simp <;> with_reducible rfl))
  go_frame
  refine th 11 (v := .bool true) ?_ (hy := fun wy hSw => by (go_simp <;> with_reducible rfl))
  go_frame
  refine th 12 ?_
  go_frame
  refine th 13 (v := .agg FS.toArray) ?_ (hy := fun wy hSw => by exact exec_load (t := 33) (x := .tmp 28) rfl (pv := .pointer (some ⟨g3, 45, none⟩)) rfl (run_loadAt_mid wy g3 45 33 FS _ hSw.1 Try.underlying33 rfl hfi))
  go_frame
  refine wpAnyH_ready (rs := [14]) (by kernel_rfl) (by simp) (AllReadyH.cons (o := ⟨some 30, .call { callee := .value (.func 18), args := #[], argTypes := #[] }, _, _, _, some (11, true)⟩) rfl (fun K hK => ?_) AllReadyH.nil)
  rw [if_pos (by kernel_rfl)]
  go_simp
  refine (hsm.out _).mono ?_
  rintro _ w5 ⟨rfl, hb⟩
  have HB5 := Lib.hid (drew_start hb)
  clear hb
  dsimp only
  refine hK.out _ _ (hAt.out _ HB5.out) (fun _ => ?_)
  clear hK K
  try go_frame
  refine th 15 (v := .bool true) ?_ (hy := fun wy hSw => by (go_simp <;> with_reducible rfl))
  go_frame
  refine th 16 (v := .bool true) ?_ (hy := fun wy hSw => by (go_simp <;> with_reducible rfl))
  go_frame
  refine th 17 (v := .bool true) ?_ (hy := fun wy hSw => by (go_simp <;> with_reducible rfl))
  go_frame
  refine th 18 ?_
  go_frame
  refine th 19 ?_
  go_frame
  refine th 20 (v := .int .u8 9) ?_ (hy := fun wy hSw => by (obtain ⟨_, s2⟩ := hSw; go_simp <;> with_reducible rfl))
  go_frame
  refine th 21 (v := .bool true) ?_ (hy := fun wy hSw => by (go_simp <;> with_reducible rfl))
  go_frame
  refine th 22 (v := .bool true) ?_ (hy := fun wy hSw => by (go_simp <;> with_reducible rfl))
  go_frame
  refine th 23 ?_
  go_frame
  refine wpAnyH_done (by kernel_rfl) ?_ _
  go_wp2_with fail
  go_ret
  exact ⟨rfl, up HB3.out HB5.out⟩
end Go.Proofs.Ytpgibabgedokpaa
