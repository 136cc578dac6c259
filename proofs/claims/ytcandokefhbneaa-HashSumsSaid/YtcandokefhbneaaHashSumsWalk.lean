/-
  The walk of HashSums.
-/
import Derived.Test.YtcandokefhbneaaHaLives
namespace Go.Proofs.Ytcandokefhbneaa
open Go.RowKit
set_option maxRecDepth 100000 in
set_option maxHeartbeats 1000000 in
theorem hashSums_walk (n : Int) (v : Value) (l : List UInt8) (v2 : Value) (l2 : List UInt8) (w : World) (wn : (Lit.int .u64 n).wf = true) (h : Rd w w.heap.size v (cellsB l)) (h2 : Rd w w.heap.size v2 (cellsB l2)) :
    Calls Try.prog 3 #[.int .u64 n, v, v2] w fun e w' => e = .returned (.bool true) ∧ Below w.heap.size w w' := by
  have hb : 0 ≤ n ∧ n ≤ 18446744073709551615 := by simpa [Lit.wf, IntKind.min, IntKind.max, IntKind.bits, IntKind.signed] using wn
  obtain ⟨seed, rfl⟩ := Int.eq_ofNat_of_zero_le hb.1
  have hseed : seed < 18446744073709551616 := by omega
  have HS := Kept.mk hseed
  clear hb wn hseed
  obtain ⟨i, hi, hz0, hz1, hz2⟩ := info_parts info_u8
  obtain ⟨A, c, rfl, _, _, h⟩ := h.bytes
  obtain ⟨Ab, cb, rfl, _, _, h2⟩ := h2.bytes
  obtain ⟨m, hm, hfew⟩ := few_cut 60 _ l w _ h (Nat.le_refl _) (by omega)
  have Hfew := Lib.hid hfew
  have HH := Lib.hid h2
  clear hfew h2 h
  go_enter Try.func3, Try.ntmps3
  go_wp2_with fail
  refine Hfew.out.mono ?_
  rintro e w1 ⟨A1, c1, rfl, g1, hr1, hbel1⟩
  obtain ⟨m2, hm2, hfew2⟩ := few_cut 60 _ l2 w1 _ (HH.out.below hbel1) hbel1.size (by omega)
  have Hfew2 := Lib.hid hfew2
  have HR1 := Lib.hid (And.intro hr1 hbel1)
  clear hfew2 Hfew hr1 hbel1 g1
  go_wp2_with fail
  refine Hfew2.out.mono ?_
  rintro e w3 ⟨A2, c2, rfl, g2, hr2, hbel2⟩
  have j1 := (HR1.out.1.below hbel2).more hbel2.size
  have hb3 : Below w.heap.size w w3 := up HR1.out.2 hbel2
  obtain ⟨k, hk⟩ : ∃ k, k = m ++ m2 := ⟨_, rfl⟩
  have Hk := Lib.hid hk
  have HB3 := Lib.hid hb3
  clear hk Hfew2 HR1 hb3 HH hbel2 g2
  go_wp2_with (first
    | (at_builtin; refine wpList_append_rd rfl (.tmp 12) _ 23 rfl w3.heap.size 5 i _ 1 Try.underlying23 hi hz0 hz1 hz2 rfl _ [] rfl (Mine.empty w3 _ 5 (Nat.le_refl _)) _ _ _ rfl (j1.alloc (Nat.le_refl _) _) (cellsB_one _) (by rw [cellsB_length]; simp; omega) (by unfold maxLen; rw [cellsB_length]; simp; omega) (by simp) ?_; intro v5 w5 hown5 hbel5 _ _; have hb5 : Below w3.heap.size w3 w5 := ((Below.refl _ _).alloc (Nat.le_refl _) _).trans hbel5; clear hbel5)
    | (at_builtin; refine wpList_append_rd rfl (.tmp 14) _ 23 rfl w3.heap.size 5 i _ 1 Try.underlying23 hi hz0 hz1 hz2 rfl _ _ rfl hown5 _ _ _ rfl (hr2.below hb5) (cellsB_one _) (by rw [List.nil_append, cellsB_length, cellsB_length]; omega) (by unfold maxLen; rw [List.nil_append, cellsB_length, cellsB_length]; omega) hb5.size ?_; intro v6 w6 hown6 hbel6 _ _; have hb6 := hb5.trans hbel6; clear hbel6; rw [List.nil_append, ← cellsB_append, ← Hk.out] at hown6; obtain ⟨A6, c6, rfl, _, _, hr6⟩ := hown6.rd.bytes; have T1 := Lib.hid (haTwo seed HS.out ((j1.below hb6).more hb6.size) ((hr2.below hb6).more hb6.size) Hk.out); have HX := Lib.hid (And.intro hr6 hb6); clear hown5 hown6 hb5 hb6 hr6 hr2 j1))
  refine T1.out.mono ?_
  rintro e w8 ⟨rfl, hw8⟩
  have hb8 : Below w6.heap.size w6 w8 := by rw [← hw8]; exact up_alloc (Below.refl _ _) _
  have T2 := Lib.hid (haRefSum_any seed _ _ _ _ _ HS.out (HX.out.1.below hb8))
  have HB8 := Lib.hid hb8
  clear hb8 hw8 T1
  go_wp2_with fail
  refine T2.out.mono ?_
  rintro e w9 ⟨rfl, rfl⟩
  have T3 := Lib.hid (haOne seed HS.out ((HX.out.1.below HB8.out).more HB8.out.size))
  clear T2
  go_wp2_with fail
  refine T3.out.mono ?_
  rintro e w10 ⟨rfl, hw10⟩
  have hb10 : Below w8.heap.size w8 w10 := by rw [← hw10]; exact up_alloc (Below.refl _ _) _
  have T4 := Lib.hid (haRefSum_any seed _ _ _ _ _ HS.out (HX.out.1.below (up HB8.out hb10)))
  have HB10 := Lib.hid hb10
  clear hb10 hw10 T3
  go_wp2_with fail
  refine T4.out.mono ?_
  rintro e w11 ⟨rfl, rfl⟩
  go_wp2_with fail
  refine (lives18_any _).mono ?_
  rintro e w13 ⟨rfl, hb13⟩
  have HB13 := Lib.hid hb13
  clear hb13
  go_wp2_with fail
  go_ret
  exact ⟨rfl, up (up (up (up HB3.out HX.out.2) HB8.out) HB10.out) HB13.out⟩
end Go.Proofs.Ytcandokefhbneaa
