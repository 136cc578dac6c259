/-
  The walk of HashFlows.
-/
import Derived.Test.YtcandokefhbneaaHaRflow
namespace Go.Proofs.Ytcandokefhbneaa
open Go.RowKit
set_option maxRecDepth 100000 in
set_option maxHeartbeats 1000000 in
theorem hashFlows_walk (n : Int) (f : Fl) (w : World) (wn : (Lit.int .u64 n).wf = true) (hf : f.Wide) :
    Calls Try.prog 4 #[.int .u64 n, flV f] w fun e w' => e = .returned (.bool true) ∧ Below w.heap.size w w' := by
  have hb : 0 ≤ n ∧ n ≤ 18446744073709551615 := by simpa [Lit.wf, IntKind.min, IntKind.max, IntKind.bits, IntKind.signed] using wn
  obtain ⟨seed, rfl⟩ := Int.eq_ofNat_of_zero_le hb.1
  have hseed : seed < 18446744073709551616 := by omega
  clear hb wn
  have hi := info_fl hf
  rw [flV]
  obtain ⟨X, hX⟩ : ∃ X, X = w.alloc (.cells (flC f).toArray 34) := ⟨_, rfl⟩
  have hXb : Hid (Below w.heap.size w X) := Lib.hid (by rw [hX]; exact up_alloc (Below.refl _ _) _)
  have hat : X.heap[w.heap.size]? = some (.cells (flC f).toArray 34 (0, 0)) := by rw [hX]; exact heap_alloc_last w _
  have hlt : w.heap.size < X.heap.size := by rw [hX]; simp
  have hF : Hid (∀ W, Below X.heap.size X W → W.rangeAt w.heap.size 0 (flC f)) := Lib.hid fun W hW => rangeAt_block ((hW.block _ hlt).trans hat) fun j u hu => (by rw [Nat.zero_add]; exact hu)
  have H1 := Lib.hid (fun W => haFlow_any seed f W hseed hf)
  have H2 := Lib.hid (fun W => haRflow_any seed f W hseed hf)
  rw [flV] at H1 H2
  generalize haSum seed (flB f) = N at *
  have hEq : ((N : Int) == (N : Int)) = true := by simp
  generalize hC : flC f = C at *
  clear hat hlt hC
  have HBL : Hid (Below X.heap.size X X.drew) := Lib.hid (Below.refl _ _).drew
  go_enter Try.func4, Try.ntmps4
  go_wp2_with fail
  rw [← hX]
  clear hX
  refine wp_region_held_drew (S := fun w' => w'.rangeAt w.heap.size 0 C) (by kernel_rfl) (hF.out _ HBL.out) (fun hHeld => ?_)
  refine th 0 ?_
  go_frame
  refine th 1 (v := .agg C.toArray) ?_ (hy := fun wy hSw => by exact exec_load (t := 34) (x := .tmp 3) rfl (pv := .pointer (some ⟨w.heap.size, 0, none⟩)) rfl (run_loadAt_mid wy w.heap.size 0 34 C _ hSw Try.underlying34 rfl hi))
  go_frame
  refine th 3 ?_
  go_frame
  refine th 4 (v := .agg C.toArray) ?_ (hy := fun wy hSw => by exact exec_load (t := 34) (x := .tmp 3) rfl (pv := .pointer (some ⟨w.heap.size, 0, none⟩)) rfl (run_loadAt_mid wy w.heap.size 0 34 C _ hSw Try.underlying34 rfl hi))
  go_frame
  refine wpAnyH_ready (rs := [2]) (by kernel_rfl) (by simp) (AllReadyH.cons (o := ⟨some 7, .call { callee := .value (.func 11), args := #[.tmp 5, .tmp 6], argTypes := #[22, 34] }, _, _, _, none⟩) rfl (fun K hK => ?_) AllReadyH.nil)
  rw [if_pos (by kernel_rfl)]
  go_simp
  refine (H1.out _).mono ?_
  rintro _ wr1 ⟨rfl, hb⟩
  replace HBL := Lib.hid (up HBL.out hb)
  clear hb
  dsimp only
  refine hK.out _ _ (hF.out _ HBL.out) (fun _ => ?_)
  clear hK K
  try go_frame
  refine wpAnyH_ready (rs := [5]) (by kernel_rfl) (by simp) (AllReadyH.cons (o := ⟨some 10, .call { callee := .value (.func 12), args := #[.tmp 8, .tmp 9], argTypes := #[22, 34] }, _, _, _, none⟩) rfl (fun K hK => ?_) AllReadyH.nil)
  rw [if_pos (by kernel_rfl)]
  go_simp
  refine (H2.out _).mono ?_
  rintro _ wr2 ⟨rfl, hb⟩
  replace HBL := Lib.hid (up HBL.out hb)
  clear hb
  dsimp only
  refine hK.out _ _ (hF.out _ HBL.out) (fun _ => ?_)
  clear hK K
  try go_frame
  refine th 6 (v := .bool true) ?_ (hy := fun wy hSw => by (go_simp <;> first | with_reducible rfl | simp))
  go_frame
  refine th 7 (v := .bool true) ?_ (hy := fun wy hSw => by (go_simp <;> first | with_reducible rfl | simp))
  go_frame
  refine wpAnyH_ready (rs := [8]) (by kernel_rfl) (by simp) (AllReadyH.cons (o := ⟨some 13, .call { callee := .value (.func 10), args := #[], argTypes := #[] }, _, _, _, some (7, true)⟩) rfl (fun K hK => ?_) AllReadyH.nil)
  rw [if_pos (by kernel_rfl)]
  go_simp
  refine (lives18_any _).mono ?_
  rintro _ wr3 ⟨rfl, hb⟩
  replace HBL := Lib.hid (up HBL.out hb)
  clear hb
  dsimp only
  refine hK.out _ _ (hF.out _ HBL.out) (fun _ => ?_)
  clear hK K
  try go_frame
  refine th 9 ?_
  go_frame
  refine th 10 ?_
  go_frame
  refine wpAnyH_done (by kernel_rfl) ?_ _
  go_wp2_with fail
  go_ret
  exact ⟨rfl, hXb.out.trans (HBL.out.mono hXb.out.size)⟩
end Go.Proofs.Ytcandokefhbneaa
