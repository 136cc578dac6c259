/-
  The walk of IpsixCut.
-/
import Derived.Test.YtpgggeihhdbedaaSxH
import Derived.Test.YtpgggeihhdbedaaHdOpen
import Derived.Test.YtpgggeihhdbedaaMineSet
namespace Go.Proofs.Ytpgggeihhdbedaa
open Go.RowKit
set_option maxRecDepth 100000 in
set_option maxHeartbeats 1000000 in
theorem ipsixCut_walk (h : Hd) (v : Value) (l : List UInt8) (n : Int) (w : World) (hh : h.Wide ∧ -9223372036854775808 ≤ h.pos ∧ h.pos ≤ 9223372036854775807) (hr : Rd w w.heap.size v (cellsB l)) (wn : (Lit.int .u16 n).wf = true) :
    Calls Try.prog 4 #[hdV h, v, .int .u16 n] w fun e w' => e = .returned (.bool true) ∧ Below w.heap.size w w' := by
  have hw := hh.1
  clear hh
  rw [hdV]
  obtain ⟨n, rfl, hn⟩ : ∃ s : Nat, n = (s : Int) ∧ s ≤ 65535 := by
    have : 0 ≤ n ∧ n ≤ 65535 := by simpa [Lit.wf, IntKind.min, IntKind.max, IntKind.bits, IntKind.signed] using wn
    exact ⟨n.toNat, by omega, by omega⟩
  clear wn
  obtain ⟨A0, c0, rfl, _, _, hr⟩ := hr.bytes
  have hat := heap_alloc_last w (.cells (hdC h).toArray 26)
  have hb0 := up_alloc (Below.refl w.heap.size w) (.cells (hdC h).toArray 26)
  have hi := info_hdA hw
  have hlv := Lib.hid sxLives_any
  obtain ⟨d, hd⟩ : ∃ d, d = l.take 200 := ⟨_, rfl⟩
  have hdl : d.length ≤ 200 := by rw [hd, List.length_take]; omega
  obtain ⟨m, hm⟩ : ∃ m, m = d.length := ⟨_, rfl⟩
  have hfew : Hid (Calls Try.prog 5 #[.slice A0 l.length c0, .int .i64 200] (w.alloc (.cells (hdC h).toArray 26)) fun e w' => ∃ A c, e = .returned (.slice A m c) ∧ Rd w' w'.heap.size (.slice A m c) (cellsB d) ∧ w'.heap[w.heap.size]? = some (.cells (hdC h).toArray 26 (0, 0)) ∧ Below w.heap.size w w') := Lib.hid <| by
    refine (few_any _ l 200 _ _ (hr.alloc (Nat.le_refl _) (.cells (hdC h).toArray 26)) (by simp) (by omega)).mono ?_
    rintro e w' ⟨v, rfl, hv, hb⟩
    rw [← hd] at hv
    obtain ⟨A, c, rfl, hr'⟩ := mine_slice (w := w) hv hm.symm
    exact ⟨A, c, rfl, hr', (hb.block _ (by simp)).trans hat, up hb0 hb⟩
  obtain ⟨q, hq⟩ : ∃ q, q = l.length := ⟨_, rfl⟩
  rw [← hq] at hfew ⊢
  by_cases hmay : h.may6 = true
  · have hlen := sxBytes_length h hw hmay d
    obtain ⟨N, hN⟩ : ∃ N, N = 40 + m := ⟨_, rfl⟩
    rw [← hm, ← hN] at hlen
    have hwr : Hid (∀ W A c, Rd W W.heap.size (.slice A m c) (cellsB d) → Calls Try.prog 8 #[.agg (hdC h).toArray, .slice A m c] W fun e w' => ∃ A2 c2, e = .returned (.tuple #[.slice A2 N c2, .int .i64 0]) ∧ N ≤ c2 ∧ Rd w' w'.heap.size (.slice A2 N c2) (cellsB (sxBytes h d)) ∧ Below W.heap.size W w') := Lib.hid fun W A c hr => by
      rw [hm] at hr ⊢
      refine (sxWrite_ok h hw hmay A c d (by omega) W W.heap.size (Nat.le_refl _) hr).mono ?_
      rintro e w' ⟨v, rfl, hv, hb⟩
      obtain ⟨A2, c2, e, h1, _, h3⟩ := hv.rd.bytes
      subst e
      rw [hlen] at h1 h3 ⊢
      exact ⟨A2, c2, rfl, h1, h3, hb⟩
    obtain ⟨k, hk⟩ : ∃ k, k = n % N := ⟨_, rfl⟩
    have hkN : k < N := by rw [hk]; exact Nat.mod_lt _ (by omega)
    have hkm : (n : Int).tmod (N : Int) = (k : Int) := by rw [Int.tmod_eq_emod_of_nonneg (by omega), hk]; rfl
    have hnw : IntKind.i64.wrap (n : Int) = (n : Int) := IntWalk.i64_in _ (by omega)
    obtain ⟨x, hx⟩ : ∃ x, x = UInt8.ofNat n := ⟨_, rfl⟩
    have hxw : IntKind.u8.wrap (n : Int) = (x.toNat : Int) := by rw [IntKind.wrap_u8', hx]; simp
    have hN0 : ((N : Int) == 0) = false := by simp; omega
    have hkc := fun (A : Option Addr) (c : Nat) (hc : N ≤ c) => cut_h (P := Try.prog) (t := 27) Try.underlying27 (i := _) (e := 5) rfl rfl A N c k (by omega) (k : Int) rfl
    have hrd1 : Hid (∀ W A c, Rd W W.heap.size (.slice A N c) (cellsB (sxBytes h d)) → Calls Try.prog 9 #[.slice A k c] W fun e w' => ∃ D : List Value, e = .returned (.tuple #[.agg D.toArray, .int .i64 9]) ∧ D.length = 39 ∧ (∀ u ∈ D, u.oneCell' = true) ∧ Below W.heap.size W w') := Lib.hid fun W A c hr => by
      have h2 := hr.upto (hi := k) (by omega)
      rw [cellsB_take] at h2
      have hl : ((sxBytes h d).take k).length = k := by rw [List.length_take]; omega
      obtain ⟨bs, hbs⟩ : ∃ bs, bs = (sxBytes h d).take k := ⟨_, rfl⟩
      have hE := sxCut h hw hmay d (by omega) k (by omega)
      rw [← hbs] at h2 hl hE
      rw [← hl] at h2 ⊢
      refine (sxRead_any h2).mono ?_
      rintro e w' ⟨rfl, hb⟩
      rw [hE]
      exact ⟨_, rfl, hdC_length (sxRead_wide bs), hdC_one _, hb⟩
    have hrd2 : Hid (∀ W v, Rd W W.heap.size v (cellsB (sxBytes h d ++ [x])) → Calls Try.prog 9 #[v] W fun e w' => ∃ D : List Value, e = .returned (.tuple #[.agg D.toArray, .int .i64 10]) ∧ D.length = 39 ∧ (∀ u ∈ D, u.oneCell' = true) ∧ Below W.heap.size W w') := Lib.hid fun W v hr => by
      obtain ⟨A, c, rfl, _, _, hr⟩ := hr.bytes
      have hE := sxMore h hw hmay d (by omega) x
      refine (sxRead_any hr).mono ?_
      rintro e w' ⟨rfl, hb⟩
      rw [hE]
      exact ⟨_, rfl, hdC_length (sxRead_wide _), hdC_one _, hb⟩
    have hzz : ∀ w, (zeroValue 26).run Try.prog w = .ok (.agg (hdC Hd.zero).toArray) w := zero_hd
    have hZl := hdC_length Hd.zero_wide
    have hbl : (sxBytes h d).length ≤ 300 := by omega
    have hBL := Lib.hid hbl
    have hD1 : Hid (∀ D : List Value, D.length = 39 → (Try.prog.info? 26).map (·.size) = some D.toArray.size ∧ (hdC Hd.zero).toArray.size = D.toArray.size) := Lib.hid fun D hD => ⟨by rw [List.size_toArray, hD]; kernel_rfl, by rw [List.size_toArray, List.size_toArray, hD, hZl]⟩
    have hM0 : Hid (∀ (W : World) (D : List Value), Mine ((W.alloc (.cells D.toArray 26)).alloc (.cells #[] 5)) (W.heap.size + 1) 5 (.slice (some ⟨W.heap.size + 1, 0, none⟩) 0 0) []) := Lib.hid fun W D => by
      have := Mine.empty (W.alloc (.cells D.toArray 26)) _ 5 (Nat.le_refl _)
      rw [show (W.alloc (.cells D.toArray 26)).heap.size = W.heap.size + 1 by simp] at this
      exact this
    obtain ⟨i, hi8, hz0, hz1, hz2⟩ := info_parts info_u8
    have hN40 : (40 : Int) ≤ (N : Int) := by omega
    have hkl : (k : Int) ≤ (N : Int) := by omega
    clear hlen hN hk hkN hx hb0 hat hr hd hdl hm hq hn hw hmay hbl
    generalize sxBytes h d = bs at *
    generalize hdC Hd.zero = Z at *
    generalize (hdC h).toArray = C at *
    go_enter Try.func4, Try.ntmps4
    go_wp2_with (first
      | (go_at_call 5; refine hfew.out.mono ?_; rintro _ w1 ⟨A1, c1, rfl, hr1, hat1, hb1⟩; have HR1 := Lib.hid hr1; have HB1 := Lib.hid hb1; clear hr1 hb1)
      | ((with_reducible refine wpList_load_row (o := ⟨some 16, .load 26 (.tmp 3), _, _, _, _⟩) rfl 26 (.tmp 3) rfl w.heap.size ?_ 26 C (0, 0) _ hat1 Try.underlying26 rfl hi ?_); exact rfl)
      | (go_at_call 8; refine (hwr.out _ _ _ HR1.out).mono ?_; rintro _ w2 ⟨A2, c2, rfl, hc2, hr2, hb2⟩; have HR2 := Lib.hid hr2; have HB2 := Lib.hid (up HB1.out hb2); have kh := hkc A2 c2 hc2; clear hr2 hb2 hc2)
      | (go_at_call 9; have hx4 := HR5; clear hx4; refine (hrd2.out _ _ HR5.out).mono ?_; rintro _ w6 ⟨D6, rfl, hDl, hDo, hb6⟩; have HB6 := Lib.hid (up_alloc (up HB5.out hb6) (.cells D6.toArray 26)); obtain ⟨hxi6, hzs6⟩ := hD1.out D6 hDl; have hxa6 := all_oneCell_toArray hDo; clear hDl hDo hb6)
      | (go_at_call 9; refine (hrd1.out _ _ _ HR2.out).mono ?_; rintro _ w3 ⟨D, rfl, hDl, hDo, hb3⟩; have HB23 := Lib.hid (up_alloc (up_alloc hb3 (.cells D.toArray 26)) (.cells #[] 5)); have HB3 := Lib.hid (up HB2.out HB23.out); obtain ⟨hxi, hzs⟩ := hD1.out D hDl; have hxa := all_oneCell_toArray hDo; have HM := hM0.out w3 D; have HL3 : Hid (w.heap.size ≤ w3.heap.size + 1) := Lib.hid (Nat.le_succ_of_le (Nat.le_trans HB2.out.size hb3.size)); clear hDl hDo hb3)
      | (with_reducible refine wpList_alloc_zero (o := ⟨some 9, .alloc 26, _, _, _, _⟩) rfl 26 rfl Z.toArray hzz ?_)
      | ((with_reducible refine wpList_store_new (o := ⟨none, .store 26 (.tmp 9) (.tmp 36), _, _, _, _⟩) rfl 26 (.tmp 9) (.tmp 36) rfl Z.toArray D.toArray ?_ ?_ hxi hzs hxa ?_); exact rfl; exact rfl)
      | (with_reducible refine wpList_alloc_zero (o := ⟨some 11, .alloc 26, _, _, _, _⟩) rfl 26 rfl Z.toArray hzz ?_)
      | ((with_reducible refine wpList_store_new (o := ⟨none, .store 26 (.tmp 11) (.tmp 47), _, _, _, _⟩) rfl 26 (.tmp 11) (.tmp 47) rfl Z.toArray D6.toArray ?_ ?_ hxi6 hzs6 hxa6 ?_); exact rfl; exact rfl)
      | (at_builtin; have hx4 := HM4; clear hx4; refine wpList_append_rd rfl (.tmp 41) (.tmp 44) 27 rfl (w3.heap.size + 1) 5 i _ 1 Try.underlying27 hi8 hz0 hz1 hz2 rfl _ (cellsB bs) rfl HM4.out _ _ (cellsB [x]) rfl (rd_lit w4 5 [x] (by simp)) (cellsB_one _) (by have := hBL.out; rw [cellsB_length, cellsB_length]; simp; omega) (by have := hBL.out; rw [cellsB_length, cellsB_length]; unfold maxLen; simp; omega) (by have := HL4.out; simp; omega) ?_; intro v5 w5 hown5 hb5 _ _; have HB5 := Lib.hid ((up_alloc HB4.out (.cells (cellsB [x]).toArray 5)).trans (hb5.mono HL3.out)); have HR5 := Lib.hid (show Rd w5 w5.heap.size v5 (cellsB (bs ++ [x])) by rw [cellsB_append]; exact hown5.rd); clear hown5 hb5)
      | (at_builtin; refine wpList_append_rd rfl (.tmp 39) (.tmp 40) 27 rfl (w3.heap.size + 1) 5 i _ 1 Try.underlying27 hi8 hz0 hz1 hz2 rfl _ [] rfl HM _ _ (cellsB bs) rfl ((HR2.out.below HB23.out).more HB23.out.size) (cellsB_one _) (by have := hBL.out; rw [cellsB_length]; simp; omega) (by have := hBL.out; rw [cellsB_length]; unfold maxLen; simp; omega) (by simp) ?_; intro v4 w4 hown4 hb4 _ _; have HB4 := Lib.hid (HB3.out.trans (hb4.mono HL3.out)); have HL4 : Hid (w3.heap.size + 1 ≤ w4.heap.size) := Lib.hid (by have := hb4.size; simp at this; omega); have HM4 := Lib.hid (hown4.alloc (.cells (cellsB [x]).toArray 5)); clear hown4 hb4 HM)
      | (go_at_call 7; refine (hlv.out _).mono ?_; rintro _ w7 ⟨rfl, hb7⟩))
    go_ret
    exact ⟨rfl, up HB6.out hb7⟩
  · have hmf : h.may6 = false := by simpa using hmay
    have hwr := Lib.hid (fun v W => sxWrite_arg h hw hmf v W)
    rw [hdV] at hwr
    clear hb0 hat hr hd hdl hm hq hn hw hmay hmf
    generalize (hdC h).toArray = C at *
    go_enter Try.func4, Try.ntmps4
    go_wp2_with (first
      | (go_at_call 5; refine hfew.out.mono ?_; rintro _ w1 ⟨A1, c1, rfl, _, hat1, hb1⟩; have HB1 := Lib.hid hb1; clear hb1)
      | ((with_reducible refine wpList_load_row (o := ⟨some 16, .load 26 (.tmp 3), _, _, _, _⟩) rfl 26 (.tmp 3) rfl w.heap.size ?_ 26 C (0, 0) _ hat1 Try.underlying26 rfl hi ?_); exact rfl)
      | (go_at_call 8; refine (hwr.out _ _).mono ?_; rintro _ w2 ⟨rfl, hb2⟩)
      | (go_at_call 7; refine (hlv.out _).mono ?_; rintro _ w7 ⟨rfl, hb7⟩))
    go_ret
    exact ⟨rfl, up (up HB1.out hb2) hb7⟩
end Go.Proofs.Ytpgggeihhdbedaa
