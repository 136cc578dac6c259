/-
  The document's reader of heads of IPv4: the way without an error; Read, by contract.
  The document's reader of heads of IPv4: Read, by contract.
-/
import Derived.Test.YtejppekcniehpaaIfS
namespace Go.Proofs.Ytejppekcniehpaa
open Go.RowKit
theorem ifHd_take {l : List UInt8} {n : Nat} (h : 20 ≤ n) (h2 : n ≤ l.length) : ifHd (l.take n) = ⟨false, l.getD 9 0, (n : Nat), ad4 ((l.drop 12).take 4), ad4 ((l.drop 16).take 4), decide (num2 l 6 % 16384 ≠ 0), l.getD 8 0⟩ := by
  have hg : ∀ j, j < 20 → (l.take n).getD j 0 = l.getD j 0 := fun j hj => by
    simp only [List.getD_eq_getElem?_getD, List.getElem?_take]
    rw [if_pos (by omega)]
  have hs : ∀ a, a + 4 ≤ 20 → ((l.take n).drop a).take 4 = (l.drop a).take 4 := fun a ha => by
    rw [List.drop_take, List.take_take, Nat.min_eq_left (by omega)]
  unfold ifHd num2
  rw [hg 9 (by omega), hg 8 (by omega), hg 6 (by omega), hg (6 + 1) (by omega), hs 12 (by omega), hs 16 (by omega), List.length_take, Nat.min_eq_left h2]
set_option maxRecDepth 100000 in
set_option maxHeartbeats 1000000 in
theorem rifRead_ok {A : Option Addr} {c : Nat} {l : List UInt8} {w : World} (hr : Rd w w.heap.size (.slice A l.length c) (cellsB l)) (h1 : ¬ 2048 < l.length) (h2 : ¬ l.length < 20) (h3 : (l.getD 0 0).toNat / 16 = 4) (h4 : ¬ ifN l < 20) (h5 : ¬ l.length < ifN l) (h6 : ¬ num2 l 2 < ifN l) (h7 : ¬ l.length < num2 l 2) (h8 : ¬ num2 l 2 < l.length) (h9 : sumOf (l.take (ifN l)) = 0) (h10 : (l.getD 8 0).toNat ≠ 0) (h11 : ¬ 128 ≤ (l.getD 6 0).toNat) :
    Calls Try.prog 18 #[.slice A l.length c] w fun e w' => e = .returned (.tuple #[hdV (ifHd (l.take (ifN l))), .int .i64 0]) ∧ Below w.heap.size w w' := by
  obtain ⟨_, _, e, hlc, _, _⟩ := hr.bytes
  injection e with e1 e2 e3
  subst e3
  clear e1 e2
  have hz : ∀ w, (zeroValue 33).run Try.prog w = .ok (.agg (hdC Hd.zero).toArray) w := zero_hd
  have hbu : ∀ W, (Instr.build 33 #[]).run Try.prog W = .ok (.agg (hdC Hd.zero).toArray) W := build_hd0
  obtain ⟨w5, w6, w7, hst5, hst6, hsc5, hat5, hatg, hb5, hs5, HT6, hst7, HT7⟩ := rif_start w
  have hxi := info_hdA Hd.zero_wide
  have hln := hdC_length Hd.zero_wide
  have HT := Lib.hid HT7
  have hr5 := (hr.below hb5).more (B' := w5.heap.size) (by omega)
  have b1 : 20 ≤ l.length := by omega
  obtain ⟨b, o, rfl, hbl, hc⟩ := hr5.addr (by omega)
  have c0 := hc 0 (by omega)
  rw [getD_cell (by omega), Nat.add_zero] at c0
  obtain ⟨x, hx⟩ : ∃ x, x = l.getD 0 0 := ⟨_, rfl⟩
  rw [← hx] at c0 h3
  have hxl := x.toNat_lt
  obtain ⟨p, hp⟩ : ∃ p, p = x.toNat / 16 := ⟨_, rfl⟩
  have hpd : (x.toNat : Int).tdiv 16 = (p : Int) := by rw [Int.tdiv_eq_ediv_of_nonneg (by omega)]; omega
  rw [← hp] at h3
  have k3 : ((p : Int) % 256 != 4) = false := by simp; omega
  obtain ⟨r, hr16⟩ : ∃ r, r = x.toNat % 16 := ⟨_, rfl⟩
  have hrm : (x.toNat : Int).tmod 16 = (r : Int) := by rw [Int.tmod_eq_emod_of_nonneg (by omega)]; omega
  have hrw : IntKind.i64.wrap (r : Int) = (r : Int) := IntWalk.i64_in _ (by omega)
  obtain ⟨n, hn⟩ : ∃ n, n = ifN l := ⟨_, rfl⟩
  have hn4 : n = 4 * r := by rw [hn, hr16]; unfold ifN; rw [← hx]; omega
  have hnw : IntKind.i64.wrap (4 * (r : Int)) = (n : Int) := by rw [IntWalk.i64_in _ (by omega)]; omega
  have hg := refGet_any _ _ l 2 2 w5.drew w5.heap.size hr5.drew (by omega) (by omega) (by omega)
  rw [ofBe_two l 2 (by omega)] at hg
  have hql := num2_lt l 2
  obtain ⟨q, hq⟩ : ∃ q, q = num2 l 2 := ⟨_, rfl⟩
  rw [← hq] at hg hql
  have hqw : IntKind.i64.wrap (q : Int) = (q : Int) := IntWalk.i64_in _ (by omega)
  have HG := Lib.hid hg
  have n0 : 0 < l.length := by omega
  rw [← hn] at h4
  have k4 : (20 : Int) ≤ (n : Int) := by omega
  rw [← hn] at h5
  rw [← hn, ← hq] at h6
  rw [← hq] at h7
  rw [← hq] at h8
  have kh := cut_h (P := Try.prog) (t := 22) Try.underlying22 (i := _) (e := 5) rfl rfl (some ⟨b, o, none⟩) l.length c n (by omega) (n : Int) rfl
  have hrt := (hr5.drew).upto (hi := n) (by omega)
  rw [cellsB_take] at hrt
  have hsum := rinSum_any (l := l.take n) (n := n) (by rw [List.length_take]; omega) (by omega) hrt
  rw [← hn] at h9
  obtain ⟨s, hs⟩ : ∃ s, s = sumOf (l.take n) := ⟨_, rfl⟩
  rw [← hs] at hsum
  have HS := Lib.hid hsum
  clear hsum hrt
  rw [← hs] at h9
  rw [h9] at HS
  have d8 := hc 8 (by omega)
  have d6 := hc 6 (by omega)
  rw [getD_cell (by omega)] at d8 d6
  have c8 : w5.drew.cell? ⟨b, o + 8, none⟩ = some (.int .u8 ((l.getD 8 0).toNat : Int)) := d8
  have c6 : w5.drew.cell? ⟨b, o + 6, none⟩ = some (.int .u8 ((l.getD 6 0).toNat : Int)) := d6
  clear hs h9 d8 d6
  have d9 := hc 9 (by omega)
  have d7 := hc 7 (by omega)
  rw [getD_cell (by omega)] at d9 d7
  have c9 : w5.drew.cell? ⟨b, o + 9, none⟩ = some (.int .u8 ((l.getD 9 0).toNat : Int)) := d9
  have c7 : w5.drew.cell? ⟨b, o + 7, none⟩ = some (.int .u8 ((l.getD 7 0).toNat : Int)) := d7
  clear d9 d7
  have k10 := beq_zero h10
  have k11 : ((l.getD 6 0).toNat : Int) < 128 := by omega
  have hX := drew_self w5
  have hr0 := hr5.drew
  obtain ⟨A1, hA1, kc1⟩ := cut_lh (P := Try.prog) (t := 22) Try.underlying22 (i := _) (e := 5) rfl rfl (some ⟨b, o, none⟩) l.length c 12 16 (by omega) (by omega) 12 16 rfl rfl
  obtain ⟨A2, hA2, kc2⟩ := cut_lh (P := Try.prog) (t := 22) Try.underlying22 (i := _) (e := 5) rfl rfl (some ⟨b, o, none⟩) l.length c 16 20 (by omega) (by omega) 16 20 rfl rfl
  have r1 := hr0.cut (lo := 12) (hi := 16) (by omega) (by omega)
  have r2 := hr0.cut (lo := 16) (hi := 20) (by omega) (by omega)
  rw [← hA1] at r1
  rw [← hA2] at r2
  rw [show ((cellsB l).take 16).drop 12 = cellsB ((l.drop 12).take 4) by rw [cellsB_take, cellsB_drop, List.drop_take]] at r1
  rw [show ((cellsB l).take 20).drop 16 = cellsB ((l.drop 16).take 4) by rw [cellsB_take, cellsB_drop, List.drop_take]] at r2
  rw [ifHd_take (n := ifN l) (by omega) (by omega), ← hn]
  obtain ⟨x1, hx1⟩ : ∃ x1, x1 = (l.drop 12).take 4 := ⟨_, rfl⟩
  obtain ⟨x2, hx2⟩ : ∃ x2, x2 = (l.drop 16).take 4 := ⟨_, rfl⟩
  have l1 : x1.length = 4 := by rw [hx1]; simp; omega
  have l2 : x2.length = 4 := by rw [hx2]; simp; omega
  rw [← hx1] at r1 ⊢
  rw [← hx2] at r2 ⊢
  rw [show 16 - 12 = x1.length by omega] at r1
  rw [show 20 - 16 = x2.length by omega] at r2
  obtain ⟨e1, he1⟩ : ∃ c1, c1 = c - 12 := ⟨_, rfl⟩
  obtain ⟨e2, he2⟩ : ∃ c2, c2 = c - 16 := ⟨_, rfl⟩
  rw [← he1] at kc1 r1
  rw [← he2] at kc2 r2
  have hds : w5.drew.heap.size = w5.heap.size := rfl
  obtain ⟨C1, hC1⟩ : ∃ C1, C1 = (adC (ad4 x1)).toArray := ⟨_, rfl⟩
  obtain ⟨C2, hC2⟩ : ∃ C2, C2 = (adC (ad4 x2)).toArray := ⟨_, rfl⟩
  have H1 : Hid (∀ W, Below w5.drew.heap.size w5.drew W → Calls Try.prog 34 #[.slice A1 4 e1] W fun e w' => e = .returned (.agg C1) ∧ Below W.heap.size W w') := Lib.hid fun W hW => by
    have := rifOf_any (r1.below (hW.mono (by omega))) (by have := hW.size; omega) l1
    rw [l1, adV, ← hC1] at this
    exact this
  have H2 : Hid (∀ W, Below w5.drew.heap.size w5.drew W → Calls Try.prog 34 #[.slice A2 4 e2] W fun e w' => e = .returned (.agg C2) ∧ Below W.heap.size W w') := Lib.hid fun W hW => by
    have := rifOf_any (r2.below (hW.mono (by omega))) (by have := hW.size; omega) l2
    rw [l2, adV, ← hC2] at this
    exact this
  have hyw : (Hd.mk false (l.getD 9 0) (n : Nat) (ad4 x1) (ad4 x2) (decide (num2 l 6 % 16384 ≠ 0)) (l.getD 8 0)).Wide := ⟨ad4_wide l1, ad4_wide l2⟩
  have hbh := build_hd (l.getD 9 0) (n : Nat) (ad4 x1) (ad4 x2) (ad4_wide l1) (ad4_wide l2) (decide (num2 l 6 % 16384 ≠ 0)) (l.getD 8 0)
  rw [adV, adV, ← hC1, ← hC2] at hbh
  obtain ⟨q6, hq6⟩ : ∃ q6, q6 = num2 l 6 := ⟨_, rfl⟩
  rw [← hq6] at hbh hyw ⊢
  have hq6e : q6 = (l.getD 6 0).toNat * 256 + (l.getD 7 0).toNat := hq6
  have hq6l : q6 < 65536 := by rw [hq6]; exact num2_lt l 6
  obtain ⟨r6, hr6⟩ : ∃ r6, r6 = q6 % 16384 := ⟨_, rfl⟩
  rw [← hr6] at hbh hyw ⊢
  have hr6t : (q6 : Int).tmod 16384 = (r6 : Int) := by rw [Int.tmod_eq_emod_of_nonneg (by omega)]; omega
  have hne : ((r6 : Int) != 0) = decide (r6 ≠ 0) := by
    by_cases e : r6 = 0
    · subst e; rfl
    · simp [e]
  obtain ⟨pp, hpp⟩ : ∃ pp, pp = decide (r6 ≠ 0) := ⟨_, rfl⟩
  rw [← hpp] at hne hbh hyw ⊢
  obtain ⟨y, hy⟩ : ∃ y : Hd, y = ⟨false, l.getD 9 0, (n : Nat), ad4 x1, ad4 x2, pp, l.getD 8 0⟩ := ⟨_, rfl⟩
  rw [← hy] at hbh hyw ⊢
  obtain ⟨y6, hy6⟩ : ∃ y, y = (l.getD 6 0).toNat := ⟨_, rfl⟩
  obtain ⟨y7, hy7⟩ : ∃ y, y = (l.getD 7 0).toNat := ⟨_, rfl⟩
  obtain ⟨y8, hy8⟩ : ∃ y, y = (l.getD 8 0).toNat := ⟨_, rfl⟩
  obtain ⟨y9, hy9⟩ : ∃ y, y = (l.getD 9 0).toNat := ⟨_, rfl⟩
  rw [← hy6] at c6 k11 hq6e
  rw [← hy7] at c7 hq6e
  rw [← hy8] at c8 k10 hbh
  rw [← hy9] at c9 hbh
  have hy7l : y7 < 256 := by rw [hy7]; exact (l.getD 7 0).toNat_lt
  have v6 : IntKind.i64.wrap (y6 : Int) = (y6 : Int) := IntWalk.i64_in _ (by omega)
  have v7 : IntKind.i64.wrap (y7 : Int) = (y7 : Int) := IntWalk.i64_in _ (by omega)
  have v66 : IntKind.i64.wrap ((y6 : Int) * 256) = ((y6 * 256 : Nat) : Int) := by rw [IntWalk.i64_in _ (by omega)]; omega
  obtain ⟨z6, hz6⟩ : ∃ z6, z6 = y6 * 256 := ⟨_, rfl⟩
  rw [← hz6] at v66 hq6e
  have vq : IntKind.i64.wrap ((z6 : Int) + (y7 : Int)) = (q6 : Int) := by rw [IntWalk.i64_in _ (by omega)]; omega
  have hS : Hid (∀ W, Below w5.drew.heap.size w5.drew W → ∃ W', (Instr.storeAt 33 (.pointer (some ⟨w.heap.size, 0, none⟩)) (.agg (hdC y).toArray)).run Try.prog W = .ok () W' ∧ HdAt W' w.heap.size y ∧ Below w.heap.size w W') := Lib.hid fun W hW => by
    obtain ⟨W', hst, hat, hgr, _⟩ := store_hd (w := W) (g := w.heap.size) (a := Hd.zero) (b := y) ((hW.block _ (by omega)).trans hatg) Hd.zero_wide hyw
    exact ⟨W', hst, hat, grown_below (up (up_drew hb5) hW) hgr (Nat.le_refl _)⟩
  have hbw : b < w.heap.size := by
    obtain ⟨b', o', e, hb', _⟩ := hr.addr (by omega)
    cases e
    exact hb'
  have Hc : Hid (∀ W, Below w.heap.size w W → W.cell? ⟨b, o + 9, none⟩ = some (.int .u8 (y9 : Int)) ∧ W.cell? ⟨b, o + 8, none⟩ = some (.int .u8 (y8 : Int)) ∧ W.cell? ⟨b, o + 6, none⟩ = some (.int .u8 (y6 : Int)) ∧ W.cell? ⟨b, o + 7, none⟩ = some (.int .u8 (y7 : Int))) := Lib.hid fun W hW => by
    have hk : ∀ j, W.cell? ⟨b, j, none⟩ = w5.drew.cell? ⟨b, j, none⟩ := fun j => (hW.cell (p := ⟨b, j, none⟩) hbw).trans ((up_drew hb5).cell (p := ⟨b, j, none⟩) hbw).symm
    exact ⟨(hk _).trans c9, (hk _).trans c8, (hk _).trans c6, (hk _).trans c7⟩
  have hB : Hid (∀ W, Below w5.drew.heap.size w5.drew W → Below w.heap.size w W) := Lib.hid fun W hW => up (up_drew hb5) hW
  have s0 := Hc.out _ (up_drew hb5)
  have Hw := Lib.hid hyw
  obtain ⟨D, hD⟩ : ∃ D, D = (hdC y).toArray := ⟨_, rfl⟩
  rw [hdV, ← hD] at hbh ⊢
  rw [← hD] at hS
  have hDi : (Try.prog.info? 33).map (·.size) = some D.size := by rw [hD]; exact info_hdA hyw
  have HD := Lib.hid hD
  obtain ⟨Z, hZ⟩ : ∃ Z, Z = hdC Hd.zero := ⟨_, rfl⟩
  rw [← hZ] at hz hbu hst5 hsc5 hln
  have n9 : (9 : Int) < (l.length : Int) := by omega
  have n8 : (8 : Int) < (l.length : Int) := by omega
  have n7 : (7 : Int) < (l.length : Int) := by omega
  have n6 : (6 : Int) < (l.length : Int) := by omega
  obtain ⟨m, hm⟩ : ∃ m, m = l.length := ⟨_, rfl⟩
  rw [← hm] at h1 h2 b1 n0 HG h5 h7 h8 kh kc1 kc2 n9 n8 n7 n6 ⊢
  clear hm hx hp hc hbl hr16 hql hg h3 hq hn hn4 hxl hr hr5 hr0 hX hA1 hA2 r1 r2 hx1 hx2 l1 l2 he1 he2 hC1 hC2 hyw hq6 hq6e hq6l hr6 hpp hy hy6 hy7 hy8 hy9 hy7l hz6 hb5 hbw HT6 hst7 HT7 hst6 HT hD hZ hat5 hatg hxi hlc h10 h11
  go_enter Try.func18, Try.ntmps18
  go_wp2_with (first
    | (with_reducible refine wpList_alloc_zero (o := ⟨some 2, .alloc 33, _, _, _, _⟩) rfl 33 rfl Z.toArray hz ?_)
    | (with_reducible refine wpList_alloc_zero (o := ⟨some 4, .alloc 33, _, _, _, _⟩) rfl 33 rfl Z.toArray hz ?_)
    | ((with_reducible refine wpList_stored (o := ⟨none, .store 33 (.tmp 4) (.tmp 7), _, _, _, none⟩) rfl 33 (.tmp 4) (.tmp 7) rfl (.pointer (some ⟨w.heap.size + 1, 0, none⟩)) (.agg Z.toArray) ?_ ?_ w5 hst5 ?_); exact rfl; exact rfl))
  go_region_held3 (fun w' => w'.cell? ⟨b, o, none⟩ = some (.int .u8 (x.toNat : Int)))
    (first | exact c0)
    (first | (go_at_call 33; refine HG.out.mono ?_; rintro _ _ ⟨rfl, rfl⟩))
  go_wp2_with (go_at_call 16; refine HS.out.mono ?_; rintro _ _ ⟨rfl, rfl⟩)
  refine wp_region_held_drew (S := fun w' => w'.cell? ⟨b, o + 9, none⟩ = some (.int .u8 (y9 : Int)) ∧ w'.cell? ⟨b, o + 8, none⟩ = some (.int .u8 (y8 : Int)) ∧ w'.cell? ⟨b, o + 6, none⟩ = some (.int .u8 (y6 : Int)) ∧ w'.cell? ⟨b, o + 7, none⟩ = some (.int .u8 (y7 : Int))) (by kernel_rfl) s0 (fun hHeld => ?_)
  refine' wpAnyH_take (i := 0) (oi := ⟨some 70, .move (.tmp 0), _, _, _, none⟩) (v := _) rfl (by kernel_rfl) (by kernel_rfl) (by kernel_rfl) (fun _ _ _ h => h) (Or.inl ⟨by rfl, ?hy1⟩) (by assumption) ?rest1
  case hy1 => (intro wy hSw; obtain ⟨s9, s8, s6, s7⟩ := hSw; go_simp <;> with_reducible rfl)
  case rest1 =>
  go_frame
  refine' wpAnyH_take (i := 1) (oi := ⟨some 71, .indexAddr 22 (.tmp 70) (.const (.int .i64 9)), _, _, _, none⟩) (v := _) rfl (by kernel_rfl) (by kernel_rfl) (by kernel_rfl) (fun _ _ _ h => h) (Or.inl ⟨by rfl, ?hy2⟩) (by assumption) ?rest2
  case hy2 => (intro wy hSw; obtain ⟨s9, s8, s6, s7⟩ := hSw; go_simp <;> with_reducible rfl)
  case rest2 =>
  go_frame
  refine' wpAnyH_take (i := 2) (oi := ⟨some 72, .load 5 (.tmp 71), _, _, _, none⟩) (v := _) rfl (by kernel_rfl) (by kernel_rfl) (by kernel_rfl) (fun _ _ _ h => h) (Or.inl ⟨by rfl, ?hy3⟩) (by assumption) ?rest3
  case hy3 => (intro wy hSw; obtain ⟨s9, s8, s6, s7⟩ := hSw; go_simp <;> with_reducible rfl)
  case rest3 =>
  go_frame
  refine' wpAnyH_take (i := 3) (oi := ⟨some 73, .move (.tmp 5), _, _, _, none⟩) (v := _) rfl (by kernel_rfl) (by kernel_rfl) (by kernel_rfl) (fun _ _ _ h => h) (Or.inl ⟨by rfl, ?hy4⟩) (by assumption) ?rest4
  case hy4 => (intro wy hSw; obtain ⟨s9, s8, s6, s7⟩ := hSw; go_simp <;> with_reducible rfl)
  case rest4 =>
  go_frame
  refine' wpAnyH_take (i := 4) (oi := ⟨some 74, .move (.tmp 0), _, _, _, none⟩) (v := _) rfl (by kernel_rfl) (by kernel_rfl) (by kernel_rfl) (fun _ _ _ h => h) (Or.inl ⟨by rfl, ?hy5⟩) (by assumption) ?rest5
  case hy5 => (intro wy hSw; obtain ⟨s9, s8, s6, s7⟩ := hSw; go_simp <;> with_reducible rfl)
  case rest5 =>
  go_frame
  refine' wpAnyH_take (i := 5) (oi := ⟨some 75, .slice 22 (.tmp 74) (some (.const (.int .i64 12))) (some (.const (.int .i64 16))) none, _, _, _, none⟩) (v := _) rfl (by kernel_rfl) (by kernel_rfl) (by kernel_rfl) (fun _ _ _ h => h) (Or.inl ⟨by rfl, ?hy6⟩) (by assumption) ?rest6
  case hy6 => (intro wy hSw; obtain ⟨s9, s8, s6, s7⟩ := hSw; go_simp <;> with_reducible rfl)
  case rest6 =>
  go_frame
  refine' wpAnyH_take (i := 7) (oi := ⟨some 77, .move (.tmp 0), _, _, _, none⟩) (v := _) rfl (by kernel_rfl) (by kernel_rfl) (by kernel_rfl) (fun _ _ _ h => h) (Or.inl ⟨by rfl, ?hy7⟩) (by assumption) ?rest7
  case hy7 => (intro wy hSw; obtain ⟨s9, s8, s6, s7⟩ := hSw; go_simp <;> with_reducible rfl)
  case rest7 =>
  go_frame
  refine' wpAnyH_take (i := 8) (oi := ⟨some 78, .slice 22 (.tmp 77) (some (.const (.int .i64 16))) (some (.const (.int .i64 20))) none, _, _, _, none⟩) (v := _) rfl (by kernel_rfl) (by kernel_rfl) (by kernel_rfl) (fun _ _ _ h => h) (Or.inl ⟨by rfl, ?hy8⟩) (by assumption) ?rest8
  case hy8 => (intro wy hSw; obtain ⟨s9, s8, s6, s7⟩ := hSw; go_simp <;> with_reducible rfl)
  case rest8 =>
  go_frame
  refine' wpAnyH_take (i := 10) (oi := ⟨some 80, .move (.tmp 0), _, _, _, none⟩) (v := _) rfl (by kernel_rfl) (by kernel_rfl) (by kernel_rfl) (fun _ _ _ h => h) (Or.inl ⟨by rfl, ?hy9⟩) (by assumption) ?rest9
  case hy9 => (intro wy hSw; obtain ⟨s9, s8, s6, s7⟩ := hSw; go_simp <;> with_reducible rfl)
  case rest9 =>
  go_frame
  refine' wpAnyH_take (i := 11) (oi := ⟨some 81, .indexAddr 22 (.tmp 80) (.const (.int .i64 6)), _, _, _, none⟩) (v := _) rfl (by kernel_rfl) (by kernel_rfl) (by kernel_rfl) (fun _ _ _ h => h) (Or.inl ⟨by rfl, ?hy10⟩) (by assumption) ?rest10
  case hy10 => (intro wy hSw; obtain ⟨s9, s8, s6, s7⟩ := hSw; go_simp <;> with_reducible rfl)
  case rest10 =>
  go_frame
  refine' wpAnyH_take (i := 12) (oi := ⟨some 82, .load 5 (.tmp 81), _, _, _, none⟩) (v := _) rfl (by kernel_rfl) (by kernel_rfl) (by kernel_rfl) (fun _ _ _ h => h) (Or.inl ⟨by rfl, ?hy11⟩) (by assumption) ?rest11
  case hy11 => (intro wy hSw; obtain ⟨s9, s8, s6, s7⟩ := hSw; go_simp <;> with_reducible rfl)
  case rest11 =>
  go_frame
  refine' wpAnyH_take (i := 13) (oi := ⟨some 83, .convert 5 3 (.tmp 82), _, _, _, none⟩) (v := _) rfl (by kernel_rfl) (by kernel_rfl) (by kernel_rfl) (fun _ _ _ h => h) (Or.inl ⟨by rfl, ?hy12⟩) (by assumption) ?rest12
  case hy12 => (intro wy hSw; obtain ⟨s9, s8, s6, s7⟩ := hSw; go_simp <;> with_reducible rfl)
  case rest12 =>
  go_frame
  refine' wpAnyH_take (i := 14) (oi := ⟨some 84, .binOp .mul 3 (.tmp 83) (.const (.int .i64 256)) 3, _, _, _, none⟩) (v := _) rfl (by kernel_rfl) (by kernel_rfl) (by kernel_rfl) (fun _ _ _ h => h) (Or.inl ⟨by rfl, ?hy13⟩) (by assumption) ?rest13
  case hy13 => (intro wy hSw; obtain ⟨s9, s8, s6, s7⟩ := hSw; go_simp <;> with_reducible rfl)
  case rest13 =>
  go_frame
  refine' wpAnyH_take (i := 15) (oi := ⟨some 85, .move (.tmp 0), _, _, _, none⟩) (v := _) rfl (by kernel_rfl) (by kernel_rfl) (by kernel_rfl) (fun _ _ _ h => h) (Or.inl ⟨by rfl, ?hy14⟩) (by assumption) ?rest14
  case hy14 => (intro wy hSw; obtain ⟨s9, s8, s6, s7⟩ := hSw; go_simp <;> with_reducible rfl)
  case rest14 =>
  go_frame
  refine' wpAnyH_take (i := 16) (oi := ⟨some 86, .indexAddr 22 (.tmp 85) (.const (.int .i64 7)), _, _, _, none⟩) (v := _) rfl (by kernel_rfl) (by kernel_rfl) (by kernel_rfl) (fun _ _ _ h => h) (Or.inl ⟨by rfl, ?hy15⟩) (by assumption) ?rest15
  case hy15 => (intro wy hSw; obtain ⟨s9, s8, s6, s7⟩ := hSw; go_simp <;> with_reducible rfl)
  case rest15 =>
  go_frame
  refine' wpAnyH_take (i := 17) (oi := ⟨some 87, .load 5 (.tmp 86), _, _, _, none⟩) (v := _) rfl (by kernel_rfl) (by kernel_rfl) (by kernel_rfl) (fun _ _ _ h => h) (Or.inl ⟨by rfl, ?hy16⟩) (by assumption) ?rest16
  case hy16 => (intro wy hSw; obtain ⟨s9, s8, s6, s7⟩ := hSw; go_simp <;> with_reducible rfl)
  case rest16 =>
  go_frame
  refine' wpAnyH_take (i := 18) (oi := ⟨some 88, .convert 5 3 (.tmp 87), _, _, _, none⟩) (v := _) rfl (by kernel_rfl) (by kernel_rfl) (by kernel_rfl) (fun _ _ _ h => h) (Or.inl ⟨by rfl, ?hy17⟩) (by assumption) ?rest17
  case hy17 => (intro wy hSw; obtain ⟨s9, s8, s6, s7⟩ := hSw; go_simp <;> with_reducible rfl)
  case rest17 =>
  go_frame
  refine' wpAnyH_take (i := 19) (oi := ⟨some 89, .binOp .add 3 (.tmp 84) (.tmp 88) 3, _, _, _, none⟩) (v := _) rfl (by kernel_rfl) (by kernel_rfl) (by kernel_rfl) (fun _ _ _ h => h) (Or.inl ⟨by rfl, ?hy18⟩) (by assumption) ?rest18
  case hy18 => (intro wy hSw; obtain ⟨s9, s8, s6, s7⟩ := hSw; go_simp <;> with_reducible rfl)
  case rest18 =>
  go_frame
  refine' wpAnyH_take (i := 20) (oi := ⟨some 90, .binOp .rem 3 (.tmp 89) (.const (.int .i64 16384)) 3, _, _, _, none⟩) (v := _) rfl (by kernel_rfl) (by kernel_rfl) (by kernel_rfl) (fun _ _ _ h => h) (Or.inl ⟨by rfl, ?hy19⟩) (by assumption) ?rest19
  case hy19 => (intro wy hSw; obtain ⟨s9, s8, s6, s7⟩ := hSw; go_simp <;> with_reducible rfl)
  case rest19 =>
  go_frame
  refine' wpAnyH_take (i := 21) (oi := ⟨some 91, .binOp .neq 3 (.tmp 90) (.const (.int .i64 0)) 3, _, _, _, none⟩) (v := _) rfl (by kernel_rfl) (by kernel_rfl) (by kernel_rfl) (fun _ _ _ h => h) (Or.inl ⟨by rfl, ?hy20⟩) (by assumption) ?rest20
  case hy20 => (intro wy hSw; obtain ⟨s9, s8, s6, s7⟩ := hSw; go_simp <;> with_reducible rfl)
  case rest20 =>
  go_frame
  refine' wpAnyH_take (i := 22) (oi := ⟨some 92, .move (.tmp 0), _, _, _, none⟩) (v := _) rfl (by kernel_rfl) (by kernel_rfl) (by kernel_rfl) (fun _ _ _ h => h) (Or.inl ⟨by rfl, ?hy21⟩) (by assumption) ?rest21
  case hy21 => (intro wy hSw; obtain ⟨s9, s8, s6, s7⟩ := hSw; go_simp <;> with_reducible rfl)
  case rest21 =>
  go_frame
  refine' wpAnyH_take (i := 23) (oi := ⟨some 93, .indexAddr 22 (.tmp 92) (.const (.int .i64 8)), _, _, _, none⟩) (v := _) rfl (by kernel_rfl) (by kernel_rfl) (by kernel_rfl) (fun _ _ _ h => h) (Or.inl ⟨by rfl, ?hy22⟩) (by assumption) ?rest22
  case hy22 => (intro wy hSw; obtain ⟨s9, s8, s6, s7⟩ := hSw; go_simp <;> with_reducible rfl)
  case rest22 =>
  go_frame
  refine' wpAnyH_take (i := 24) (oi := ⟨some 94, .load 5 (.tmp 93), _, _, _, none⟩) (v := _) rfl (by kernel_rfl) (by kernel_rfl) (by kernel_rfl) (fun _ _ _ h => h) (Or.inl ⟨by rfl, ?hy23⟩) (by assumption) ?rest23
  case hy23 => (intro wy hSw; obtain ⟨s9, s8, s6, s7⟩ := hSw; go_simp <;> with_reducible rfl)
  case rest23 =>
  go_frame
  refine wpAnyH_ready (rs := [6]) (by kernel_rfl) (by simp) (AllReadyH.cons (o := ⟨some 76, .call { callee := .value (.func 34), args := #[.tmp 75], argTypes := #[22] }, _, _, _, none⟩) rfl (fun K hK => ?_) AllReadyH.nil)
  rw [if_pos (by rfl)]
  go_simp
  refine (H1.out _ (drew_self _)).mono ?_
  rintro _ wa ⟨rfl, hb1⟩
  have HB1 := Lib.hid (drew_start hb1)
  clear hb1
  dsimp only
  refine hK.out _ _ (Hc.out _ (hB.out _ HB1.out)) (fun _ => ?_)
  clear hK K
  try go_frame
  refine wpAnyH_ready (rs := [9]) (by kernel_rfl) (by simp) (AllReadyH.cons (o := ⟨some 79, .call { callee := .value (.func 34), args := #[.tmp 78], argTypes := #[22] }, _, _, _, none⟩) rfl (fun K hK => ?_) AllReadyH.nil)
  rw [if_pos (by rfl)]
  go_simp
  refine (H2.out _ HB1.out).mono ?_
  rintro _ wb ⟨rfl, hb2⟩
  have HB2 := Lib.hid (up HB1.out hb2)
  clear hb2
  obtain ⟨wc, hst, hat, hbel⟩ := hS.out wb HB2.out
  have HT := Lib.hid (And.intro hat hbel)
  clear hat hbel
  dsimp only
  refine hK.out _ _ (Hc.out _ (hB.out _ HB2.out)) (fun _ => ?_)
  clear hK K
  try go_frame
  refine' wpAnyH_take (i := 25) (oi := ⟨some 95, .build 33 #[(1, .tmp 72), (2, .tmp 73), (3, .tmp 76), (4, .tmp 79), (5, .tmp 91), (6, .tmp 94)], _, _, _, none⟩) (v := .agg D) rfl (by kernel_rfl) (by kernel_rfl) (by kernel_rfl) (fun _ _ _ h => h) (Or.inl ⟨by rfl, ?hy24⟩) (by assumption) ?rest24
  case hy24 => (intro wy hSw; exact exec_bld6 (k1 := 1) (k2 := 2) (k3 := 3) (k4 := 4) (k5 := 5) (k6 := 6) (a1 := .tmp 72) (a2 := .tmp 73) (a3 := .tmp 76) (a4 := .tmp 79) (a5 := .tmp 91) (a6 := .tmp 94) rfl (u1 := .int .u8 (y9 : Int)) (u2 := .int .i64 (n : Int)) (u3 := .agg C1) (u4 := .agg C2) (u5 := .bool pp) (u6 := .int .u8 (y8 : Int)) rfl rfl rfl rfl rfl rfl (hbh _))
  case rest24 =>
  go_frame
  refine wpAnyH_ready (rs := [26]) (by kernel_rfl) (by simp) (AllReadyH.cons (o := ⟨none, .store 33 (.tmp 2) (.tmp 95), _, _, _, none⟩) rfl (fun K hK => ?_) AllReadyH.nil)
  rw [if_pos (by rfl)]
  refine wp_skip wc (exec_store rfl (vx := .pointer (some ⟨w.heap.size, 0, none⟩)) rfl (vy := .agg D) rfl hst) ?_
  refine hK.out _ _ (Hc.out _ HT.out.2) (fun _ => ?_)
  clear hK K
  try go_frame
  refine' wpAnyH_take (i := 27) (oi := ⟨some 3, .assign (.const (.int .i64 0)), _, _, _, none⟩) (v := _) rfl (by kernel_rfl) (by kernel_rfl) (by kernel_rfl) (fun _ _ _ h => h) (Or.inl ⟨by rfl, ?hy25⟩) (by assumption) ?rest25
  case hy25 => (intro wy hSw; obtain ⟨s9, s8, s6, s7⟩ := hSw; go_simp <;> with_reducible rfl)
  case rest25 =>
  go_frame
  refine wpAnyH_done (by kernel_rfl) ?_ _
  go_wp2_with fail
  exact bodyPost_ret (ret_hd (p := 2) (q := 3) (by kernel_rfl) rfl HT.out.1 Hw.out rfl) rfl ⟨by rw [hdV, ← HD.out]; rfl, HT.out.2⟩
theorem rif_none {l : List UInt8} {k : Nat} (h : ifErr l = k) (hk : k ≠ 0) : ifRead l = Hd.zero := by unfold ifRead; rw [h, if_neg hk]
theorem rifRead_any {A : Option Addr} {c : Nat} {l : List UInt8} {w : World} (hr : Rd w w.heap.size (.slice A l.length c) (cellsB l)) :
    Calls Try.prog 18 #[.slice A l.length c] w fun e w' => e = .returned (.tuple #[hdV (ifRead l), .int .i64 ((ifErr l : Nat) : Int)]) ∧ Below w.heap.size w w' := by
  have hN : ifN l = (l.getD 0 0).toNat % 16 * 4 := rfl
  by_cases h1 : 2048 < l.length
  · have E1 : ifE1 l = 10 := by unfold ifE1; rw [if_pos h1]
    have he : ifErr l = 10 := by rw [ifErr_one (by rw [E1]; decide), E1]
    rw [he, rif_none he (by decide)]
    exact rifRead_w1 hr h1
  by_cases h2 : l.length < 20
  · have E1 : ifE1 l = 9 := by unfold ifE1; rw [if_neg h1, if_pos h2]
    have he : ifErr l = 9 := by rw [ifErr_one (by rw [E1]; decide), E1]
    rw [he, rif_none he (by decide)]
    exact rifRead_w2 hr h1 h2
  by_cases h3 : (l.getD 0 0).toNat / 16 ≠ 4
  · have E1 : ifE1 l = 12 := by unfold ifE1; rw [if_neg h1, if_neg h2, if_pos h3]
    have he : ifErr l = 12 := by rw [ifErr_one (by rw [E1]; decide), E1]
    rw [he, rif_none he (by decide)]
    exact rifRead_w3 hr h1 h2 h3
  have h3' : (l.getD 0 0).toNat / 16 = 4 := by omega
  by_cases h4 : ifN l < 20
  · have E1 : ifE1 l = 4 := by unfold ifE1; rw [if_neg h1, if_neg h2, if_neg h3, if_pos (by omega)]
    have he : ifErr l = 4 := by rw [ifErr_one (by rw [E1]; decide), E1]
    rw [he, rif_none he (by decide)]
    exact rifRead_w4 hr h1 h2 h3' h4
  by_cases h5 : l.length < ifN l
  · have E1 : ifE1 l = 9 := by unfold ifE1; rw [if_neg h1, if_neg h2, if_neg h3, if_neg (by omega), if_pos h5]
    have he : ifErr l = 9 := by rw [ifErr_one (by rw [E1]; decide), E1]
    rw [he, rif_none he (by decide)]
    exact rifRead_w5 hr h1 h2 h3' h4 h5
  have E1 : ifE1 l = 0 := by unfold ifE1; rw [if_neg h1, if_neg h2, if_neg h3, if_neg (by omega), if_neg h5]
  by_cases h6 : num2 l 2 < ifN l
  · have E2 : ifE2 l (ifN l) = 4 := by unfold ifE2; rw [if_pos h6]
    have he : ifErr l = 4 := by rw [ifErr_two E1 (by rw [E2]; decide), E2]
    rw [he, rif_none he (by decide)]
    exact rifRead_w6 hr h1 h2 h3' h4 h5 h6
  by_cases h7 : l.length < num2 l 2
  · have E2 : ifE2 l (ifN l) = 9 := by unfold ifE2; rw [if_neg h6, if_pos h7]
    have he : ifErr l = 9 := by rw [ifErr_two E1 (by rw [E2]; decide), E2]
    rw [he, rif_none he (by decide)]
    exact rifRead_w7 hr h1 h2 h3' h4 h5 h6 h7
  by_cases h8 : num2 l 2 < l.length
  · have E2 : ifE2 l (ifN l) = 10 := by unfold ifE2; rw [if_neg h6, if_neg h7, if_pos h8]
    have he : ifErr l = 10 := by rw [ifErr_two E1 (by rw [E2]; decide), E2]
    rw [he, rif_none he (by decide)]
    exact rifRead_w8 hr h1 h2 h3' h4 h5 h6 h7 h8
  have E2 : ifE2 l (ifN l) = 0 := by unfold ifE2; rw [if_neg h6, if_neg h7, if_neg h8]
  have hg : ∀ j, j < 20 → (l.take (ifN l)).getD j 0 = l.getD j 0 := fun j hj => by
    simp only [List.getD_eq_getElem?_getD, List.getElem?_take]
    rw [if_pos (by omega)]
  by_cases h9 : sumOf (l.take (ifN l)) = 0
  · by_cases h10 : (l.getD 8 0).toNat = 0
    · have E3 : ifE3 (l.take (ifN l)) = 4 := by unfold ifE3; rw [if_neg (by omega), hg 8 (by omega), if_pos (.inl h10)]
      have he : ifErr l = 4 := by rw [ifErr_three E1 E2, E3]
      rw [he, rif_none he (by decide)]
      exact rifRead_w10 hr h1 h2 h3' h4 h5 h6 h7 h8 h9 h10
    · by_cases h11 : 128 ≤ (l.getD 6 0).toNat
      · have E3 : ifE3 (l.take (ifN l)) = 4 := by unfold ifE3; rw [if_neg (by omega), hg 8 (by omega), hg 6 (by omega), if_pos (.inr h11)]
        have he : ifErr l = 4 := by rw [ifErr_three E1 E2, E3]
        rw [he, rif_none he (by decide)]
        exact rifRead_w11 hr h1 h2 h3' h4 h5 h6 h7 h8 h9 h10 h11
      · have E3 : ifE3 (l.take (ifN l)) = 0 := by unfold ifE3; rw [if_neg (by omega), hg 8 (by omega), hg 6 (by omega), if_neg (by omega)]
        have he : ifErr l = 0 := by rw [ifErr_three E1 E2, E3]
        have hrd : ifRead l = ifHd (l.take (ifN l)) := by unfold ifRead; rw [if_pos he]
        rw [he, hrd]
        exact rifRead_ok hr h1 h2 h3' h4 h5 h6 h7 h8 h9 h10 h11
  · have E3 : ifE3 (l.take (ifN l)) = 5 := by unfold ifE3; rw [if_pos h9]
    have he : ifErr l = 5 := by rw [ifErr_three E1 E2, E3]
    rw [he, rif_none he (by decide)]
    exact rifRead_w9 hr h1 h2 h3' h4 h5 h6 h7 h8 h9
end Go.Proofs.Ytejppekcniehpaa
