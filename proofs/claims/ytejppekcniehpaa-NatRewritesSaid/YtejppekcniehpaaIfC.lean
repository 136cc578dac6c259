/-
  What a sound head says: a contract.
-/
import Derived.Test.YtejppekcniehpaaIfB
import Derived.Test.YtejppekcniehpaaCuts
import Derived.Laws.Bits64
namespace Go.Proofs.Ytejppekcniehpaa
open Go.RowKit
theorem and14 (n : Int) : bits .and .i64 n 16383 = n % 16384 := by
  have h14 : (BitVec.ofInt 64 16383).toNat = 2 ^ 14 - 1 := by decide
  have key : (BitVec.ofInt 64 n &&& BitVec.ofInt 64 16383).toNat = (n % ((2 ^ 64 : Nat) : Int)).toNat % 2 ^ 14 := by
    rw [BitVec.toNat_and, BitVec.toNat_ofInt, h14, Nat.and_two_pow_sub_one_eq_mod]
  show IntKind.i64.wrap ((BitVec.ofInt 64 n &&& BitVec.ofInt 64 16383).toNat : Nat) = n % 16384
  rw [key, IntKind.wrap_i64]
  omega
set_option maxRecDepth 100000 in
theorem ifHead_any {A : Option Addr} {c : Nat} {l : List UInt8} {w : World} (hr : Rd w w.heap.size (.slice A l.length c) (cellsB l)) (h : 20 ≤ l.length) (h60 : l.length ≤ 60) :
    Calls Try.prog 63 #[.slice A l.length c] w fun e w' => e = .returned (hdV (ifHd l)) ∧ Below w.heap.size w w' := by
  obtain ⟨_, _, e, hlc, _, _⟩ := hr.bytes
  injection e with e1 e2 e3
  subst e3
  clear e1 e2
  have hz : ∀ w, (zeroValue 33).run Try.prog w = .ok (.agg (hdC Hd.zero).toArray) w := zero_hd
  have hw := ifHd_wide h
  have hr0 := hr.alloc (Nat.le_refl _) (.cells (hdC Hd.zero).toArray 33)
  have h0 := heap_alloc_last w (.cells (hdC Hd.zero).toArray 33)
  have hb0 := up_alloc (Below.refl w.heap.size w) (.cells (hdC Hd.zero).toArray 33)
  obtain ⟨X, hX⟩ : ∃ X, X = w.alloc (.cells (hdC Hd.zero).toArray 33) := ⟨_, rfl⟩
  have hXs : X.heap.size = w.heap.size + 1 := by rw [hX]; simp
  rw [← hX] at hr0 h0 hb0
  obtain ⟨A1, hA1, k1⟩ := cut_lh (P := Try.prog) (t := 22) Try.underlying22 (i := _) (e := 5) rfl rfl A l.length c 12 16 (by omega) (by omega) 12 16 rfl rfl
  obtain ⟨A2, hA2, k2⟩ := cut_lh (P := Try.prog) (t := 22) Try.underlying22 (i := _) (e := 5) rfl rfl A l.length c 16 20 (by omega) (by omega) 16 20 rfl rfl
  have r1 := hr0.cut (lo := 12) (hi := 16) (by omega) (by omega)
  have r2 := hr0.cut (lo := 16) (hi := 20) (by omega) (by omega)
  rw [← hA1] at r1
  rw [← hA2] at r2
  rw [show ((cellsB l).take 16).drop 12 = cellsB ((l.drop 12).take 4) by rw [cellsB_take, cellsB_drop, List.drop_take]] at r1
  rw [show ((cellsB l).take 20).drop 16 = cellsB ((l.drop 16).take 4) by rw [cellsB_take, cellsB_drop, List.drop_take]] at r2
  obtain ⟨x1, hx1⟩ : ∃ x1, x1 = (l.drop 12).take 4 := ⟨_, rfl⟩
  obtain ⟨x2, hx2⟩ : ∃ x2, x2 = (l.drop 16).take 4 := ⟨_, rfl⟩
  have l1 : x1.length = 4 := by rw [hx1]; simp; omega
  have l2 : x2.length = 4 := by rw [hx2]; simp; omega
  rw [← hx1] at r1
  rw [← hx2] at r2
  rw [show 16 - 12 = x1.length by omega] at r1
  rw [show 20 - 16 = x2.length by omega] at r2
  obtain ⟨c1, hc1⟩ : ∃ c1, c1 = c - 12 := ⟨_, rfl⟩
  obtain ⟨c2, hc2⟩ : ∃ c2, c2 = c - 16 := ⟨_, rfl⟩
  rw [← hc1] at k1 r1
  rw [← hc2] at k2 r2
  obtain ⟨C1, hC1⟩ : ∃ C1, C1 = (adC (ad4 x1)).toArray := ⟨_, rfl⟩
  obtain ⟨C2, hC2⟩ : ∃ C2, C2 = (adC (ad4 x2)).toArray := ⟨_, rfl⟩
  have H1 : Hid (∀ W, Below X.heap.size X W → Calls Try.prog 71 #[.slice A1 4 c1] W fun e w' => e = .returned (.agg C1) ∧ Below W.heap.size W w') := Lib.hid fun W hW => by
    have := ifAddress_any (r1.below (hW.mono (by omega))) (by have := hW.size; omega) l1
    rw [l1, adV, ← hC1] at this
    exact this
  have H2 : Hid (∀ W, Below X.heap.size X W → Calls Try.prog 71 #[.slice A2 4 c2] W fun e w' => e = .returned (.agg C2) ∧ Below W.heap.size W w') := Lib.hid fun W hW => by
    have := ifAddress_any (r2.below (hW.mono (by omega))) (by have := hW.size; omega) l2
    rw [l2, adV, ← hC2] at this
    exact this
  have H3 : Hid (∀ W, Below X.heap.size X W → Calls Try.prog 69 #[.slice A l.length c, .int .i64 6] W fun e w' => e = .returned (.int .i64 ((num2 l 6 : Nat) : Int)) ∧ W = w') := Lib.hid fun W hW => ifNumber_any (a := 6) (hr0.below (hW.mono (by omega))) (by omega)
  obtain ⟨b, o, rfl, hbl, hc⟩ := hr0.addr (by omega)
  have c9 := hc 9 (by omega)
  have c8 := hc 8 (by omega)
  obtain ⟨y9, hy9⟩ : ∃ y, y = l[9]'(by omega) := ⟨_, rfl⟩
  obtain ⟨y8, hy8⟩ : ∃ y, y = l[8]'(by omega) := ⟨_, rfl⟩
  have hg9 : l.getD 9 0 = y9 := by rw [hy9, List.getD_eq_getElem?_getD, List.getElem?_eq_getElem (by omega)]; rfl
  have hg8 : l.getD 8 0 = y8 := by rw [hy8, List.getD_eq_getElem?_getD, List.getElem?_eq_getElem (by omega)]; rfl
  rw [← hy9] at c9
  rw [← hy8] at c8
  obtain ⟨q, hq⟩ : ∃ q, q = num2 l 6 := ⟨_, rfl⟩
  obtain ⟨m, hm⟩ : ∃ m, m = l.length := ⟨_, rfl⟩
  have hH : ifHd l = ⟨false, y9, (m : Nat), ad4 x1, ad4 x2, decide (q % 16384 ≠ 0), y8⟩ := by
    unfold ifHd
    rw [hg9, hg8, hm, hq, hx1, hx2]
  have hbu := build_hd y9 (m : Nat) (ad4 x1) (ad4 x2) (ad4_wide l1) (ad4_wide l2) (decide (q % 16384 ≠ 0)) y8
  rw [← hH, adV, adV, ← hC1, ← hC2] at hbu
  rw [← hq, ← hm] at H3
  rw [← hm] at k1 k2 h h60 ⊢
  have hS : Hid (∀ W, Below X.heap.size X W → ∃ W', (Instr.storeAt 33 (.pointer (some ⟨w.heap.size, 0, none⟩)) (hdV (ifHd l))).run Try.prog W = .ok () W' ∧ HdAt W' w.heap.size (ifHd l) ∧ Below w.heap.size w W') := Lib.hid fun W hW => by
    obtain ⟨W', hst, hat, hgr, _⟩ := store_hd (w := W) (g := w.heap.size) (a := Hd.zero) (b := ifHd l) ((hW.block _ (by omega)).trans h0) Hd.zero_wide hw
    exact ⟨W', hst, hat, grown_below (up hb0 hW) hgr (Nat.le_refl _)⟩
  have ha14 : bits .and .i64 (q : Int) 16383 = ((q % 16384 : Nat) : Int) := by rw [and14]; rfl
  obtain ⟨r, hr14⟩ : ∃ r, r = q % 16384 := ⟨_, rfl⟩
  rw [← hr14] at ha14 hbu
  have hne : ((r : Int) != 0) = decide (r ≠ 0) := by
    by_cases e : r = 0
    · subst e; rfl
    · simp [e]
  obtain ⟨pp, hpp⟩ : ∃ pp, pp = decide (r ≠ 0) := ⟨_, rfl⟩
  rw [← hpp] at hne hbu
  clear hpp
  have Hw := Lib.hid hw
  obtain ⟨D, hD⟩ : ∃ D, D = (hdC (ifHd l)).toArray := ⟨_, rfl⟩
  rw [hdV, ← hD] at hbu hS ⊢
  have hDi : (Try.prog.info? 33).map (·.size) = some D.size := by rw [hD]; exact info_hdA hw
  have HD := Lib.hid hD
  clear hD
  generalize ifHd l = y at hS Hw HD ⊢
  have Hc : Hid (∀ W, Below X.heap.size X W → W.cell? ⟨b, o + 9, none⟩ = some (.int .u8 (y9.toNat : Int)) ∧ W.cell? ⟨b, o + 8, none⟩ = some (.int .u8 (y8.toNat : Int))) := Lib.hid fun W hW => ⟨(hW.cell (by simp; omega)).trans c9, (hW.cell (by simp; omega)).trans c8⟩
  have Hc2 : Hid (∀ W, Below w.heap.size w W → W.cell? ⟨b, o + 9, none⟩ = some (.int .u8 (y9.toNat : Int)) ∧ W.cell? ⟨b, o + 8, none⟩ = some (.int .u8 (y8.toNat : Int))) := Lib.hid fun W hW => ⟨(hW.cell (by simp; omega)).trans ((hb0.cell (by simp; omega)).symm.trans c9), (hW.cell (by simp; omega)).trans ((hb0.cell (by simp; omega)).symm.trans c8)⟩
  clear hC1 hC2 hr hr0 h0 hb0 hA1 hA2 r1 r2 hx1 hx2 l1 l2 hc1 hc2 hc hy9 hy8 hg9 hg8 hq hm hH hw hr14 hbl hlc
  subst hX
  generalize hZ : hdC Hd.zero = Z at *
  clear hZ
  have n9 : (9 : Int) < (m : Int) := by omega
  have n8 : (8 : Int) < (m : Int) := by omega
  go_enter Try.func63, Try.ntmps63
  go_wp2_with (first
    | (with_reducible refine wpList_alloc_zero (o := ⟨some 2, .alloc 33, _, _, _, _⟩) rfl 33 rfl Z.toArray hz ?_))
  refine wp_region_held_drew (S := fun w' => w'.cell? ⟨b, o + 9, none⟩ = some (.int .u8 (y9.toNat : Int)) ∧ w'.cell? ⟨b, o + 8, none⟩ = some (.int .u8 (y8.toNat : Int))) (by kernel_rfl) ⟨c9, c8⟩ (fun hHeld => ?_)
  refine' wpAnyH_take (i := 0) (oi := ⟨some 3, .move (.tmp 0), _, _, _, none⟩) (v := _) rfl (by kernel_rfl) (by kernel_rfl) (by kernel_rfl) (fun _ _ _ h => h) (Or.inl ⟨by rfl, ?hy1⟩) (by assumption) ?rest1
  case hy1 => (intro w hSw; obtain ⟨s9, s8⟩ := hSw; go_simp <;> with_reducible rfl)
  case rest1 =>
  go_frame
  refine' wpAnyH_take (i := 1) (oi := ⟨some 4, .indexAddr 22 (.tmp 3) (.const (.int .i64 9)), _, _, _, none⟩) (v := _) rfl (by kernel_rfl) (by kernel_rfl) (by kernel_rfl) (fun _ _ _ h => h) (Or.inl ⟨by rfl, ?hy2⟩) (by assumption) ?rest2
  case hy2 => (intro w hSw; obtain ⟨s9, s8⟩ := hSw; go_simp <;> with_reducible rfl)
  case rest2 =>
  go_frame
  refine' wpAnyH_take (i := 2) (oi := ⟨some 5, .load 5 (.tmp 4), _, _, _, none⟩) (v := _) rfl (by kernel_rfl) (by kernel_rfl) (by kernel_rfl) (fun _ _ _ h => h) (Or.inl ⟨by rfl, ?hy3⟩) (by assumption) ?rest3
  case hy3 => (intro w hSw; obtain ⟨s9, s8⟩ := hSw; go_simp <;> with_reducible rfl)
  case rest3 =>
  go_frame
  refine' wpAnyH_take (i := 3) (oi := ⟨some 6, .move (.tmp 0), _, _, _, none⟩) (v := _) rfl (by kernel_rfl) (by kernel_rfl) (by kernel_rfl) (fun _ _ _ h => h) (Or.inl ⟨by rfl, ?hy4⟩) (by assumption) ?rest4
  case hy4 => (intro w hSw; obtain ⟨s9, s8⟩ := hSw; go_simp <;> with_reducible rfl)
  case rest4 =>
  go_frame
  refine' wpAnyH_take (i := 4) (oi := ⟨some 7, .call { callee := .builtin .len, args := #[.tmp 6], argTypes := #[22] }, _, _, _, none⟩) (v := _) rfl (by kernel_rfl) (by kernel_rfl) (by kernel_rfl) (fun _ _ _ h => h) (Or.inl ⟨by rfl, ?hy5⟩) (by assumption) ?rest5
  case hy5 => (intro w hSw; obtain ⟨s9, s8⟩ := hSw; go_simp <;> with_reducible rfl)
  case rest5 =>
  go_frame
  refine' wpAnyH_take (i := 5) (oi := ⟨some 8, .move (.tmp 0), _, _, _, none⟩) (v := _) rfl (by kernel_rfl) (by kernel_rfl) (by kernel_rfl) (fun _ _ _ h => h) (Or.inl ⟨by rfl, ?hy6⟩) (by assumption) ?rest6
  case hy6 => (intro w hSw; obtain ⟨s9, s8⟩ := hSw; go_simp <;> with_reducible rfl)
  case rest6 =>
  go_frame
  refine' wpAnyH_take (i := 6) (oi := ⟨some 9, .slice 22 (.tmp 8) (some (.const (.int .i64 12))) (some (.const (.int .i64 16))) none, _, _, _, none⟩) (v := _) rfl (by kernel_rfl) (by kernel_rfl) (by kernel_rfl) (fun _ _ _ h => h) (Or.inl ⟨by rfl, ?hy7⟩) (by assumption) ?rest7
  case hy7 => (intro w hSw; obtain ⟨s9, s8⟩ := hSw; go_simp <;> with_reducible rfl)
  case rest7 =>
  go_frame
  refine' wpAnyH_take (i := 8) (oi := ⟨some 11, .move (.tmp 0), _, _, _, none⟩) (v := _) rfl (by kernel_rfl) (by kernel_rfl) (by kernel_rfl) (fun _ _ _ h => h) (Or.inl ⟨by rfl, ?hy8⟩) (by assumption) ?rest8
  case hy8 => (intro w hSw; obtain ⟨s9, s8⟩ := hSw; go_simp <;> with_reducible rfl)
  case rest8 =>
  go_frame
  refine' wpAnyH_take (i := 9) (oi := ⟨some 12, .slice 22 (.tmp 11) (some (.const (.int .i64 16))) (some (.const (.int .i64 20))) none, _, _, _, none⟩) (v := _) rfl (by kernel_rfl) (by kernel_rfl) (by kernel_rfl) (fun _ _ _ h => h) (Or.inl ⟨by rfl, ?hy9⟩) (by assumption) ?rest9
  case hy9 => (intro w hSw; obtain ⟨s9, s8⟩ := hSw; go_simp <;> with_reducible rfl)
  case rest9 =>
  go_frame
  refine' wpAnyH_take (i := 11) (oi := ⟨some 14, .move (.tmp 0), _, _, _, none⟩) (v := _) rfl (by kernel_rfl) (by kernel_rfl) (by kernel_rfl) (fun _ _ _ h => h) (Or.inl ⟨by rfl, ?hy10⟩) (by assumption) ?rest10
  case hy10 => (intro w hSw; obtain ⟨s9, s8⟩ := hSw; go_simp <;> with_reducible rfl)
  case rest10 =>
  go_frame
  refine' wpAnyH_take (i := 15) (oi := ⟨some 18, .move (.tmp 0), _, _, _, none⟩) (v := _) rfl (by kernel_rfl) (by kernel_rfl) (by kernel_rfl) (fun _ _ _ h => h) (Or.inl ⟨by rfl, ?hy11⟩) (by assumption) ?rest11
  case hy11 => (intro w hSw; obtain ⟨s9, s8⟩ := hSw; go_simp <;> with_reducible rfl)
  case rest11 =>
  go_frame
  refine' wpAnyH_take (i := 16) (oi := ⟨some 19, .indexAddr 22 (.tmp 18) (.const (.int .i64 8)), _, _, _, none⟩) (v := _) rfl (by kernel_rfl) (by kernel_rfl) (by kernel_rfl) (fun _ _ _ h => h) (Or.inl ⟨by rfl, ?hy12⟩) (by assumption) ?rest12
  case hy12 => (intro w hSw; obtain ⟨s9, s8⟩ := hSw; go_simp <;> with_reducible rfl)
  case rest12 =>
  go_frame
  refine' wpAnyH_take (i := 17) (oi := ⟨some 20, .load 5 (.tmp 19), _, _, _, none⟩) (v := _) rfl (by kernel_rfl) (by kernel_rfl) (by kernel_rfl) (fun _ _ _ h => h) (Or.inl ⟨by rfl, ?hy13⟩) (by assumption) ?rest13
  case hy13 => (intro w hSw; obtain ⟨s9, s8⟩ := hSw; go_simp <;> with_reducible rfl)
  case rest13 =>
  go_frame
  refine wpAnyH_ready (rs := [7]) (by kernel_rfl) (by simp) (AllReadyH.cons (o := ⟨some 10, .call { callee := .value (.func 71), args := #[.tmp 9], argTypes := #[22] }, _, _, _, none⟩) rfl (fun K hK => ?_) AllReadyH.nil)
  rw [if_pos (by rfl)]
  go_simp
  refine (H1.out _ (drew_self _)).mono ?_
  rintro _ w1 ⟨rfl, hb1⟩
  have HB1 := Lib.hid (drew_start hb1)
  clear hb1
  dsimp only
  refine hK.out _ _ (Hc.out w1 HB1.out) (fun _ => ?_)
  clear hK K
  try go_frame
  refine wpAnyH_ready (rs := [10]) (by kernel_rfl) (by simp) (AllReadyH.cons (o := ⟨some 13, .call { callee := .value (.func 71), args := #[.tmp 12], argTypes := #[22] }, _, _, _, none⟩) rfl (fun K hK => ?_) AllReadyH.nil)
  rw [if_pos (by rfl)]
  go_simp
  refine (H2.out _ HB1.out).mono ?_
  rintro _ w2 ⟨rfl, hb2⟩
  have HB2 := Lib.hid (up HB1.out hb2)
  clear hb2
  obtain ⟨w3, hst, hat, hbel⟩ := hS.out w2 HB2.out
  have HT := Lib.hid (And.intro hat hbel)
  clear hat hbel
  dsimp only
  refine hK.out _ _ (Hc.out w2 HB2.out) (fun _ => ?_)
  clear hK K
  try go_frame
  refine wpAnyH_ready (rs := [12]) (by kernel_rfl) (by simp) (AllReadyH.cons (o := ⟨some 15, .call { callee := .value (.func 69), args := #[.tmp 14, .const (.int .i64 6)], argTypes := #[22, 3] }, _, _, _, none⟩) rfl (fun K hK => ?_) AllReadyH.nil)
  rw [if_pos (by rfl)]
  go_simp
  refine (H3.out _ HB2.out).mono ?_
  rintro _ w4 ⟨rfl, rfl⟩
  dsimp only
  refine hK.out _ _ (Hc.out w2 HB2.out) (fun _ => ?_)
  clear hK K
  try go_frame
  refine' wpAnyH_take (i := 13) (oi := ⟨some 16, .binOp .and 3 (.tmp 15) (.const (.int .i64 16383)) 3, _, _, _, none⟩) (v := _) rfl (by kernel_rfl) (by kernel_rfl) (by kernel_rfl) (fun _ _ _ h => h) (Or.inl ⟨by rfl, ?hy14⟩) (by assumption) ?rest14
  case hy14 => (intro w hSw; obtain ⟨s9, s8⟩ := hSw; go_simp <;> with_reducible rfl)
  case rest14 =>
  go_frame
  refine' wpAnyH_take (i := 14) (oi := ⟨some 17, .binOp .neq 3 (.tmp 16) (.const (.int .i64 0)) 3, _, _, _, none⟩) (v := _) rfl (by kernel_rfl) (by kernel_rfl) (by kernel_rfl) (fun _ _ _ h => h) (Or.inl ⟨by rfl, ?hy15⟩) (by assumption) ?rest15
  case hy15 => (intro w hSw; obtain ⟨s9, s8⟩ := hSw; go_simp <;> with_reducible rfl)
  case rest15 =>
  go_frame
  refine' wpAnyH_take (i := 18) (oi := ⟨some 21, .build 33 #[(1, .tmp 5), (2, .tmp 7), (3, .tmp 10), (4, .tmp 13), (5, .tmp 17), (6, .tmp 20)], _, _, _, none⟩) (v := .agg D) rfl (by kernel_rfl) (by kernel_rfl) (by kernel_rfl) (fun _ _ _ h => h) (Or.inl ⟨by rfl, ?hy16⟩) (by assumption) ?rest16
  case hy16 => (intro w hSw; exact exec_bld6 (k1 := 1) (k2 := 2) (k3 := 3) (k4 := 4) (k5 := 5) (k6 := 6) (a1 := .tmp 5) (a2 := .tmp 7) (a3 := .tmp 10) (a4 := .tmp 13) (a5 := .tmp 17) (a6 := .tmp 20) rfl (u1 := .int .u8 (y9.toNat : Int)) (u2 := .int .i64 (m : Int)) (u3 := .agg C1) (u4 := .agg C2) (u5 := .bool pp) (u6 := .int .u8 (y8.toNat : Int)) rfl rfl rfl rfl rfl rfl (hbu _))
  case rest16 =>
  go_frame
  refine wpAnyH_ready (rs := [19]) (by kernel_rfl) (by simp) (AllReadyH.cons (o := ⟨none, .store 33 (.tmp 2) (.tmp 21), _, _, _, none⟩) rfl (fun K hK => ?_) AllReadyH.nil)
  rw [if_pos (by rfl)]
  refine wp_skip w3 (exec_store rfl (vx := .pointer (some ⟨w.heap.size, 0, none⟩)) rfl (vy := .agg D) rfl hst) ?_
  refine hK.out _ _ (Hc2.out _ HT.out.2) (fun _ => ?_)
  clear hK K
  try go_frame
  refine wpAnyH_done (by kernel_rfl) ?_ _
  go_wp2_with fail
  refine bodyPost_ret (results_cell_row (p := 2) (ty := 33) (by kernel_rfl) _ _ w.heap.size 33 _ (0, 0) _ rfl (by rw [HD.out]; exact HT.out.1) Try.underlying33 rfl hDi) rfl ⟨rfl, HT.out.2⟩
end Go.Proofs.Ytejppekcniehpaa
