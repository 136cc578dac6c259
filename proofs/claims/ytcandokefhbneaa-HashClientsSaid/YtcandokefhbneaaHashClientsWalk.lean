/-
  The walk of HashClients.
-/
import Derived.Test.YtcandokefhbneaaHaRflow
namespace Go.Proofs.Ytcandokefhbneaa
open Go.RowKit
set_option maxRecDepth 100000 in
set_option maxHeartbeats 1000000 in
theorem hashClients_walk (n : Int) (q : Pf) (w : World) (wn : (Lit.int .u64 n).wf = true) (hq : q.a.Wide ∧ -9223372036854775808 ≤ q.bits ∧ q.bits ≤ 9223372036854775807) :
    Calls Try.prog 5 #[.int .u64 n, pfV q] w fun e w' => e = .returned (.bool true) ∧ Below w.heap.size w w' := by
  have hb : 0 ≤ n ∧ n ≤ 18446744073709551615 := by simpa [Lit.wf, IntKind.min, IntKind.max, IntKind.bits, IntKind.signed] using wn
  obtain ⟨seed, rfl⟩ := Int.eq_ofNat_of_zero_le hb.1
  have hseed : seed < 18446744073709551616 := by omega
  clear hb wn
  have hi := info_pf hq.1
  obtain ⟨k, hk⟩ : ∃ k : Nat, IntKind.u64.wrap q.bits = (k : Int) := Int.eq_ofNat_of_zero_le (show 0 ≤ q.bits % 18446744073709551616 by omega)
  rw [pfV]
  obtain ⟨X, hX⟩ : ∃ X, X = w.alloc (.cells (pfC q).toArray 38) := ⟨_, rfl⟩
  have hXb : Hid (Below w.heap.size w X) := Lib.hid (by rw [hX]; exact up_alloc (Below.refl _ _) _)
  have hat : X.heap[w.heap.size]? = some (.cells (pfC q).toArray 38 (0, 0)) := by rw [hX]; exact heap_alloc_last w _
  have hlt : w.heap.size < X.heap.size := by rw [hX]; simp
  have hF : Hid (∀ W, Below X.heap.size X W → W.rangeAt w.heap.size 0 (pfC q)) := Lib.hid fun W hW => rangeAt_block ((hW.block _ hlt).trans hat) fun j u hu => (by rw [Nat.zero_add]; exact hu)
  have H1 := Lib.hid (fun W => haClient_any seed q k W hseed hq.1 hk)
  have H2 := Lib.hid (fun W => haRclient_any seed q k W hseed hq.1 hk)
  rw [pfV] at H1 H2
  generalize haSum seed (pfB q.a k) = N at *
  have hEq : ((N : Int) == (N : Int)) = true := by simp
  generalize hC : pfC q = C at *
  clear hat hlt hC
  have HBL : Hid (Below X.heap.size X X.drew) := Lib.hid (Below.refl _ _).drew
  go_enter Try.func5, Try.ntmps5
  go_wp2_with fail
  rw [← hX]
  clear hX
  refine wp_region_held_drew (S := fun w' => w'.rangeAt w.heap.size 0 C) (by kernel_rfl) (hF.out _ HBL.out) (fun hHeld => ?_)
  refine th 0 ?_
  go_frame
  refine th 1 (v := .agg C.toArray) ?_ (hy := fun wy hSw => by exact exec_load (t := 38) (x := .tmp 3) rfl (pv := .pointer (some ⟨w.heap.size, 0, none⟩)) rfl (run_loadAt_mid wy w.heap.size 0 38 C _ hSw Try.underlying38 rfl hi))
  go_frame
  refine th 3 ?_
  go_frame
  refine th 4 (v := .agg C.toArray) ?_ (hy := fun wy hSw => by exact exec_load (t := 38) (x := .tmp 3) rfl (pv := .pointer (some ⟨w.heap.size, 0, none⟩)) rfl (run_loadAt_mid wy w.heap.size 0 38 C _ hSw Try.underlying38 rfl hi))
  go_frame
  refine wpAnyH_ready (rs := [2]) (by kernel_rfl) (by simp) (AllReadyH.cons (o := ⟨some 7, .call { callee := .value (.func 13), args := #[.tmp 5, .tmp 6], argTypes := #[22, 38] }, _, _, _, none⟩) rfl (fun K hK => ?_) AllReadyH.nil)
  rw [if_pos (by kernel_rfl)]
  go_simp
  refine (H1.out _).mono ?_
  rintro _ wr1 ⟨rfl, hb⟩
  replace HBL := Lib.hid (up HBL.out hb)
  clear hb
  dsimp only
  refine hK.out _ _ (hF.out _ HBL.out) (fun _ => ?_)
  clear hK K
  try go_frame
  refine wpAnyH_ready (rs := [5]) (by kernel_rfl) (by simp) (AllReadyH.cons (o := ⟨some 10, .call { callee := .value (.func 14), args := #[.tmp 8, .tmp 9], argTypes := #[22, 38] }, _, _, _, none⟩) rfl (fun K hK => ?_) AllReadyH.nil)
  rw [if_pos (by kernel_rfl)]
  go_simp
  refine (H2.out _).mono ?_
  rintro _ wr2 ⟨rfl, hb⟩
  replace HBL := Lib.hid (up HBL.out hb)
  clear hb
  dsimp only
  refine hK.out _ _ (hF.out _ HBL.out) (fun _ => ?_)
  clear hK K
  try go_frame
  refine th 6 (v := .bool true) ?_ (hy := fun wy hSw => by (go_simp <;> first | with_reducible rfl | simp))
  go_frame
  refine th 7 (v := .bool true) ?_ (hy := fun wy hSw => by (go_simp <;> first | with_reducible rfl | simp))
  go_frame
  refine wpAnyH_ready (rs := [8]) (by kernel_rfl) (by simp) (AllReadyH.cons (o := ⟨some 13, .call { callee := .value (.func 10), args := #[], argTypes := #[] }, _, _, _, some (7, true)⟩) rfl (fun K hK => ?_) AllReadyH.nil)
  rw [if_pos (by kernel_rfl)]
  go_simp
  refine (lives18_any _).mono ?_
  rintro _ wr3 ⟨rfl, hb⟩
  replace HBL := Lib.hid (up HBL.out hb)
  clear hb
  dsimp only
  refine hK.out _ _ (hF.out _ HBL.out) (fun _ => ?_)
  clear hK K
  try go_frame
  refine th 9 ?_
  go_frame
  refine th 10 ?_
  go_frame
  refine wpAnyH_done (by kernel_rfl) ?_ _
  go_wp2_with fail
  go_ret
  exact ⟨rfl, hXb.out.trans (HBL.out.mono hXb.out.size)⟩
end Go.Proofs.Ytcandokefhbneaa
