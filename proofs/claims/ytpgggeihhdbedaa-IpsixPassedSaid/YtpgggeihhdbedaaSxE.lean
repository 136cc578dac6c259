/-
  What the first head of a packet says: a contract.
-/
import Derived.Test.YtpgggeihhdbedaaSxD
namespace Go.Proofs.Ytpgggeihhdbedaa
open Go.RowKit
theorem build_hd6 (p : UInt8) (n : Int) (x y : Ad) (hx : x.Wide) (hy : y.Wide) (k : UInt8) (W : World) : (Instr.build 26 #[(0, .bool true), (1, .int .u8 (p.toNat : Int)), (2, .int .i64 n), (3, adV x), (4, adV y), (6, .int .u8 (k.toNat : Int))]).run Try.prog W = .ok (hdV ⟨true, p, n, x, y, false, k⟩) W := by
  obtain ⟨s, B⟩ := x
  obtain ⟨s2, B2⟩ := y
  obtain ⟨a1, a2, a3, a4, a5, a6, a7, a8, a9, a10, a11, a12, a13, a14, a15, a16, rfl⟩ := list16 hx
  obtain ⟨b1, b2, b3, b4, b5, b6, b7, b8, b9, b10, b11, b12, b13, b14, b15, b16, rfl⟩ := list16 hy
  kernel_rfl
set_option maxRecDepth 100000 in
theorem sxFirst_any {A : Option Addr} {c : Nat} {l : List UInt8} {w : World} (hr : Rd w w.heap.size (.slice A l.length c) (cellsB l)) (h : 40 ≤ l.length) (h60 : l.length ≤ 100000) :
    Calls Try.prog 16 #[.slice A l.length c] w fun e w' => e = .returned (hdV (sxFirst l)) ∧ Below w.heap.size w w' := by
  obtain ⟨_, _, e, hlc, _, _⟩ := hr.bytes
  injection e with e1 e2 e3
  subst e3
  clear e1 e2
  have hz : ∀ w, (zeroValue 26).run Try.prog w = .ok (.agg (hdC Hd.zero).toArray) w := zero_hd
  have hw := sxFirst_wide h
  have hr0 := hr.alloc (Nat.le_refl _) (.cells (hdC Hd.zero).toArray 26)
  have h0 := heap_alloc_last w (.cells (hdC Hd.zero).toArray 26)
  have hb0 := up_alloc (Below.refl w.heap.size w) (.cells (hdC Hd.zero).toArray 26)
  obtain ⟨X, hX⟩ : ∃ X, X = w.alloc (.cells (hdC Hd.zero).toArray 26) := ⟨_, rfl⟩
  have hXs : X.heap.size = w.heap.size + 1 := by rw [hX]; simp
  rw [← hX] at hr0 h0 hb0
  obtain ⟨A1, hA1, k1⟩ := cut_lh (P := Try.prog) (t := 27) Try.underlying27 (i := _) (e := 5) rfl rfl A l.length c 8 24 (by omega) (by omega) 8 24 rfl rfl
  obtain ⟨A2, hA2, k2⟩ := cut_lh (P := Try.prog) (t := 27) Try.underlying27 (i := _) (e := 5) rfl rfl A l.length c 24 40 (by omega) (by omega) 24 40 rfl rfl
  have r1 := hr0.cut (lo := 8) (hi := 24) (by omega) (by omega)
  have r2 := hr0.cut (lo := 24) (hi := 40) (by omega) (by omega)
  rw [← hA1] at r1
  rw [← hA2] at r2
  rw [show ((cellsB l).take 24).drop 8 = cellsB ((l.drop 8).take 16) by rw [cellsB_take, cellsB_drop, List.drop_take]] at r1
  rw [show ((cellsB l).take 40).drop 24 = cellsB ((l.drop 24).take 16) by rw [cellsB_take, cellsB_drop, List.drop_take]] at r2
  obtain ⟨x1, hx1⟩ : ∃ x1, x1 = (l.drop 8).take 16 := ⟨_, rfl⟩
  obtain ⟨x2, hx2⟩ : ∃ x2, x2 = (l.drop 24).take 16 := ⟨_, rfl⟩
  have l1 : x1.length = 16 := by rw [hx1]; simp; omega
  have l2 : x2.length = 16 := by rw [hx2]; simp; omega
  rw [← hx1] at r1
  rw [← hx2] at r2
  rw [show 24 - 8 = x1.length by omega] at r1
  rw [show 40 - 24 = x2.length by omega] at r2
  obtain ⟨c1, hc1⟩ : ∃ c1, c1 = c - 8 := ⟨_, rfl⟩
  obtain ⟨c2, hc2⟩ : ∃ c2, c2 = c - 24 := ⟨_, rfl⟩
  rw [← hc1] at k1 r1
  rw [← hc2] at k2 r2
  obtain ⟨C1, hC1⟩ : ∃ C1, C1 = (adC (ad6 x1)).toArray := ⟨_, rfl⟩
  obtain ⟨C2, hC2⟩ : ∃ C2, C2 = (adC (ad6 x2)).toArray := ⟨_, rfl⟩
  have H1 : Hid (∀ W, Below X.heap.size X W → Calls Try.prog 22 #[.slice A1 16 c1] W fun e w' => e = .returned (.agg C1) ∧ Below W.heap.size W w') := Lib.hid fun W hW => by
    have := sxAddress_any (r1.below (hW.mono (by omega))) (by have := hW.size; omega) l1
    rw [l1, adV, ← hC1] at this
    exact this
  have H2 : Hid (∀ W, Below X.heap.size X W → Calls Try.prog 22 #[.slice A2 16 c2] W fun e w' => e = .returned (.agg C2) ∧ Below W.heap.size W w') := Lib.hid fun W hW => by
    have := sxAddress_any (r2.below (hW.mono (by omega))) (by have := hW.size; omega) l2
    rw [l2, adV, ← hC2] at this
    exact this
  obtain ⟨b, o, rfl, hbl, hc⟩ := hr0.addr (by omega)
  have c9 := hc 6 (by omega)
  have c8 := hc 7 (by omega)
  obtain ⟨y9, hy9⟩ : ∃ y, y = l[6]'(by omega) := ⟨_, rfl⟩
  obtain ⟨y8, hy8⟩ : ∃ y, y = l[7]'(by omega) := ⟨_, rfl⟩
  have hg9 : l.getD 6 0 = y9 := by rw [hy9, getD_get (by omega)]
  have hg8 : l.getD 7 0 = y8 := by rw [hy8, getD_get (by omega)]
  rw [← hy9] at c9
  rw [← hy8] at c8
  obtain ⟨m, hm⟩ : ∃ m, m = l.length := ⟨_, rfl⟩
  have hH : sxFirst l = ⟨true, y9, 40, ad6 x1, ad6 x2, false, y8⟩ := by
    unfold sxFirst
    rw [hg9, hg8, hx1, hx2]
  have hbu := build_hd6 y9 40 (ad6 x1) (ad6 x2) (ad6_wide l1) (ad6_wide l2) y8
  rw [← hH, adV, adV, ← hC1, ← hC2] at hbu
  rw [← hm] at k1 k2 h h60 ⊢
  have hS : Hid (∀ W, Below X.heap.size X W → ∃ W', (Instr.storeAt 26 (.pointer (some ⟨w.heap.size, 0, none⟩)) (hdV (sxFirst l))).run Try.prog W = .ok () W' ∧ HdAt W' w.heap.size (sxFirst l) ∧ Below w.heap.size w W') := Lib.hid fun W hW => by
    obtain ⟨W', hst, hat, hgr, _⟩ := store_hd (w := W) (g := w.heap.size) (a := Hd.zero) (b := sxFirst l) ((hW.block _ (by omega)).trans h0) Hd.zero_wide hw
    exact ⟨W', hst, hat, grown_below (up hb0 hW) hgr (Nat.le_refl _)⟩
  have Hw := Lib.hid hw
  obtain ⟨D, hD⟩ : ∃ D, D = (hdC (sxFirst l)).toArray := ⟨_, rfl⟩
  rw [hdV, ← hD] at hbu hS ⊢
  have hDi : (Try.prog.info? 26).map (·.size) = some D.size := by rw [hD]; exact info_hdA hw
  have HD := Lib.hid hD
  clear hD
  generalize sxFirst l = y at hS Hw HD ⊢
  have Hc : Hid (∀ W, Below X.heap.size X W → W.cell? ⟨b, o + 6, none⟩ = some (.int .u8 (y9.toNat : Int)) ∧ W.cell? ⟨b, o + 7, none⟩ = some (.int .u8 (y8.toNat : Int))) := Lib.hid fun W hW => ⟨(hW.cell (by simp; omega)).trans c9, (hW.cell (by simp; omega)).trans c8⟩
  have Hc2 : Hid (∀ W, Below w.heap.size w W → W.cell? ⟨b, o + 6, none⟩ = some (.int .u8 (y9.toNat : Int)) ∧ W.cell? ⟨b, o + 7, none⟩ = some (.int .u8 (y8.toNat : Int))) := Lib.hid fun W hW => ⟨(hW.cell (by simp; omega)).trans ((hb0.cell (by simp; omega)).symm.trans c9), (hW.cell (by simp; omega)).trans ((hb0.cell (by simp; omega)).symm.trans c8)⟩
  clear hC1 hC2 hr hr0 h0 hb0 hA1 hA2 r1 r2 hx1 hx2 l1 l2 hc1 hc2 hc hy9 hy8 hg9 hg8 hm hH hw hbl hlc
  subst hX
  generalize hZ : hdC Hd.zero = Z at *
  clear hZ
  have n9 : (6 : Int) < (m : Int) := by omega
  have n8 : (7 : Int) < (m : Int) := by omega
  go_enter Try.func16, Try.ntmps16
  go_wp2_with (first
    | (with_reducible refine wpList_alloc_zero (o := ⟨some 2, .alloc 26, _, _, _, _⟩) rfl 26 rfl Z.toArray hz ?_))
  refine wp_region_held_drew (S := fun w' => w'.cell? ⟨b, o + 6, none⟩ = some (.int .u8 (y9.toNat : Int)) ∧ w'.cell? ⟨b, o + 7, none⟩ = some (.int .u8 (y8.toNat : Int))) (by kernel_rfl) ⟨c9, c8⟩ (fun hHeld => ?_)
  refine th 0 ?_ (hy := by (intro wy hSw; obtain ⟨s9, s8⟩ := hSw; go_simp <;> with_reducible rfl))
  go_frame
  refine th 1 ?_ (hy := by (intro wy hSw; obtain ⟨s9, s8⟩ := hSw; go_simp <;> with_reducible rfl))
  go_frame
  refine th 2 ?_ (hy := by (intro wy hSw; obtain ⟨s9, s8⟩ := hSw; go_simp <;> with_reducible rfl))
  go_frame
  refine th 3 ?_ (hy := by (intro wy hSw; obtain ⟨s9, s8⟩ := hSw; go_simp <;> with_reducible rfl))
  go_frame
  refine th 4 ?_ (hy := by (intro wy hSw; obtain ⟨s9, s8⟩ := hSw; go_simp <;> with_reducible rfl))
  go_frame
  refine th 6 ?_ (hy := by (intro wy hSw; obtain ⟨s9, s8⟩ := hSw; go_simp <;> with_reducible rfl))
  go_frame
  refine th 7 ?_ (hy := by (intro wy hSw; obtain ⟨s9, s8⟩ := hSw; go_simp <;> with_reducible rfl))
  go_frame
  refine th 9 ?_ (hy := by (intro wy hSw; obtain ⟨s9, s8⟩ := hSw; go_simp <;> with_reducible rfl))
  go_frame
  refine th 10 ?_ (hy := by (intro wy hSw; obtain ⟨s9, s8⟩ := hSw; go_simp <;> with_reducible rfl))
  go_frame
  refine th 11 ?_ (hy := by (intro wy hSw; obtain ⟨s9, s8⟩ := hSw; go_simp <;> with_reducible rfl))
  go_frame
  refine wpAnyH_ready (rs := [5]) (by kernel_rfl) (by simp) (AllReadyH.cons (o := ⟨some 8, .call { callee := .value (.func 22), args := #[.tmp 7], argTypes := #[27] }, _, _, _, none⟩) rfl (fun K hK => ?_) AllReadyH.nil)
  rw [if_pos (by kernel_rfl)]
  go_simp
  refine (H1.out _ (drew_self _)).mono ?_
  rintro _ w1 ⟨rfl, hb1⟩
  have HB1 := Lib.hid (drew_start hb1)
  clear hb1
  dsimp only
  refine hK.out _ _ (Hc.out w1 HB1.out) (fun _ => ?_)
  clear hK K
  try go_frame
  refine wpAnyH_ready (rs := [8]) (by kernel_rfl) (by simp) (AllReadyH.cons (o := ⟨some 11, .call { callee := .value (.func 22), args := #[.tmp 10], argTypes := #[27] }, _, _, _, none⟩) rfl (fun K hK => ?_) AllReadyH.nil)
  rw [if_pos (by kernel_rfl)]
  go_simp
  refine (H2.out _ HB1.out).mono ?_
  rintro _ w2 ⟨rfl, hb2⟩
  have HB2 := Lib.hid (up HB1.out hb2)
  clear hb2
  obtain ⟨w3, hst, hat, hbel⟩ := hS.out w2 HB2.out
  have HT := Lib.hid (And.intro hat hbel)
  clear hat hbel
  dsimp only
  refine hK.out _ _ (Hc.out w2 HB2.out) (fun _ => ?_)
  clear hK K
  try go_frame
  refine th 12 (v := .agg D) ?_ (hy := fun wy hSw => by exact exec_bld6 (k1 := 0) (k2 := 1) (k3 := 2) (k4 := 3) (k5 := 4) (k6 := 6) (a1 := .const (.bool true)) (a2 := .tmp 5) (a3 := .const (.int .i64 40)) (a4 := .tmp 8) (a5 := .tmp 11) (a6 := .tmp 14) rfl (u1 := .bool true) (u2 := .int .u8 (y9.toNat : Int)) (u3 := .int .i64 40) (u4 := .agg C1) (u5 := .agg C2) (u6 := .int .u8 (y8.toNat : Int)) rfl rfl rfl rfl rfl rfl (hbu _))
  go_frame
  refine wpAnyH_ready (rs := [13]) (by kernel_rfl) (by simp) (AllReadyH.cons (o := ⟨none, .store 26 (.tmp 2) (.tmp 15), _, _, _, none⟩) rfl (fun K hK => ?_) AllReadyH.nil)
  rw [if_pos (by kernel_rfl)]
  refine wp_skip w3 (exec_store rfl (vx := .pointer (some ⟨w.heap.size, 0, none⟩)) rfl (vy := .agg D) rfl hst) ?_
  refine hK.out _ _ (Hc2.out _ HT.out.2) (fun _ => ?_)
  clear hK K
  try go_frame
  refine wpAnyH_done (by kernel_rfl) ?_ _
  go_wp2_with fail
  refine bodyPost_ret (results_cell_row (p := 2) (ty := 26) (by kernel_rfl) _ _ w.heap.size 26 _ (0, 0) _ rfl (by rw [HD.out]; exact HT.out.1) Try.underlying26 rfl hDi) rfl ⟨rfl, HT.out.2⟩
end Go.Proofs.Ytpgggeihhdbedaa
