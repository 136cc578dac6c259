/-
  The walk of InetSums.
-/
import Derived.Test.YtfafcihpjcgmhaaInetE
namespace Go.Proofs.Ytfafcihpjcgmhaa
open Go.RowKit
set_option maxRecDepth 100000 in
set_option maxHeartbeats 1000000 in
theorem inetSums_walk (v : Value) (l : List UInt8) (v2 : Value) (l2 : List UInt8) (v3 : Value) (l3 : List UInt8) (w : World) (h : Rd w w.heap.size v (cellsB l)) (h2 : Rd w w.heap.size v2 (cellsB l2)) (h3 : Rd w w.heap.size v3 (cellsB l3)) :
    Calls Try.prog 3 #[v, v2, v3] w fun e w' => e = .returned (.bool true) ∧ Below w.heap.size w w' := by
  obtain ⟨i, hi, hz0, hz1, hz2⟩ := info_parts info_u8
  obtain ⟨A, c, rfl, _, _, h⟩ := h.bytes
  obtain ⟨Ab, cb, rfl, _, _, h2⟩ := h2.bytes
  obtain ⟨Ac, cc, rfl, _, _, h3⟩ := h3.bytes
  obtain ⟨m, hm, hfew⟩ := few_cut 100 _ l w _ h (Nat.le_refl _) (by omega)
  have Hfew := Lib.hid hfew
  have HH := Lib.hid (And.intro h2 h3)
  clear hfew h2 h3 h
  go_enter Try.func3, Try.ntmps3
  go_wp2_with fail
  refine Hfew.out.mono ?_
  rintro e w1 ⟨A1, c1, rfl, g1, hr1, hbel1⟩
  obtain ⟨m2, hm2, hfew2⟩ := few_cut 100 _ l2 w1 _ (HH.out.1.below hbel1) hbel1.size (by omega)
  have Hfew2 := Lib.hid hfew2
  have HR1 := Lib.hid (And.intro hr1 hbel1)
  clear hfew2 Hfew hr1 hbel1 g1
  go_wp2_with fail
  refine Hfew2.out.mono ?_
  rintro e w2 ⟨A2, c2, rfl, g2, hr2, hbel2⟩
  obtain ⟨m3, hm3, hfew3⟩ := few_cut 100 _ l3 w2 _ (HH.out.2.below (up HR1.out.2 hbel2)) (up HR1.out.2 hbel2).size (by omega)
  have Hfew3 := Lib.hid hfew3
  have HR2 := Lib.hid (And.intro hr2 hbel2)
  clear hfew3 Hfew2 hr2 hbel2 g2
  go_wp2_with fail
  refine Hfew3.out.mono ?_
  rintro e w3 ⟨A3, c3, rfl, g3, hr3, hbel3⟩
  have j1 := (HR1.out.1.below (up HR2.out.2 hbel3)).more (up HR2.out.2 hbel3).size
  have j2 := (HR2.out.1.below hbel3).more hbel3.size
  have hb3 : Below w.heap.size w w3 := up (up HR1.out.2 HR2.out.2) hbel3
  obtain ⟨k, hk⟩ : ∃ k, k = m ++ m2 ++ m3 := ⟨_, rfl⟩
  have Hk := Lib.hid hk
  have HB3 := Lib.hid hb3
  clear hk Hfew3 HR1 HR2 hb3 HH hbel3 g3
  go_wp2_with (first
    | (at_builtin; refine wpList_append_rd rfl (.tmp 14) _ 22 rfl w3.heap.size 5 i _ 1 Try.underlying22 hi hz0 hz1 hz2 rfl _ [] rfl (Mine.empty w3 _ 5 (Nat.le_refl _)) _ _ _ rfl (j1.alloc (Nat.le_refl _) _) (cellsB_one _) (by rw [cellsB_length]; simp; omega) (by unfold maxLen; rw [cellsB_length]; simp; omega) (by simp) ?_; intro v5 w5 hown5 hbel5 _ _; have hb5 : Below w3.heap.size w3 w5 := ((Below.refl _ _).alloc (Nat.le_refl _) _).trans hbel5; clear hbel5)
    | (at_builtin; refine wpList_append_rd rfl (.tmp 16) _ 22 rfl w3.heap.size 5 i _ 1 Try.underlying22 hi hz0 hz1 hz2 rfl _ _ rfl hown5 _ _ _ rfl (j2.below hb5) (cellsB_one _) (by rw [List.nil_append, cellsB_length, cellsB_length]; omega) (by unfold maxLen; rw [List.nil_append, cellsB_length, cellsB_length]; omega) hb5.size ?_; intro v6 w6 hown6 hbel6 _ _; have hb6 := hb5.trans hbel6; clear hbel6)
    | (at_builtin; refine wpList_append_rd rfl (.tmp 18) _ 22 rfl w3.heap.size 5 i _ 1 Try.underlying22 hi hz0 hz1 hz2 rfl _ _ rfl hown6 _ _ _ rfl (hr3.below hb6) (cellsB_one _) (by rw [List.nil_append, List.length_append, cellsB_length, cellsB_length, cellsB_length]; omega) (by unfold maxLen; rw [List.nil_append, List.length_append, cellsB_length, cellsB_length, cellsB_length]; omega) hb6.size ?_; intro v7 w7 hown7 hbel7 _ _; have hb7 := hb6.trans hbel7; clear hbel7; rw [List.nil_append, ← cellsB_append, ← cellsB_append, ← Hk.out] at hown7; obtain ⟨A7, c7, rfl, _, _, hr7⟩ := hown7.rd.bytes; have hkl : k.length ≤ 300 := (by rw [Hk.out]; simp only [List.length_append]; omega); have i1 := (j1.below hb7).more hb7.size; have i2 := (j2.below hb7).more hb7.size; have i3 := (hr3.below hb7).more hb7.size; have t1 := inSum_any (RdAll.in3 w7 22 _ _ _ m m2 m3 i1 i2 i3) (by simp; omega); have ek : [m, m2, m3].flatten = k := (by rw [Hk.out]; simp); rw [ek] at t1; obtain ⟨s, hs⟩ : ∃ s, s = sumOf k := ⟨_, rfl⟩; rw [← hs] at t1; have T1 := Lib.hid t1; have HI := Lib.hid (And.intro i1 (And.intro i2 i3)); obtain ⟨kl, hkl2⟩ : ∃ z, z = k.length := ⟨_, rfl⟩; have HK2 := Lib.hid hkl2; rw [← hkl2] at hr7 hkl ⊢; have HX := Lib.hid (And.intro hr7 (And.intro hb7 (And.intro ek (And.intro hs hkl)))); clear i1 i2 i3 t1 hs hr7 hb7 hb6 hb5 hown5 hown6 hown7 ek hkl hkl2 j1 j2 hr3 hm hm2 hm3))
  refine T1.out.mono ?_
  rintro e w8 ⟨rfl, hw8⟩
  have hb8 : Below w7.heap.size w7 w8 := by rw [← hw8]; exact up_alloc (Below.refl _ _) _
  have t2 := rinSum_any HK2.out.symm (by have := HX.out.2.2.2.2; omega) (HX.out.1.below hb8)
  rw [← HX.out.2.2.2.1] at t2
  have T2 := Lib.hid t2
  have HB8 := Lib.hid hb8
  clear t2 hb8 hw8 T1
  go_wp2_with fail
  refine T2.out.mono ?_
  rintro e w9 ⟨rfl, rfl⟩
  have hb8 := HB8.out
  obtain ⟨i1, i2, i3⟩ := HI.out
  have t3 := inGood_any (RdAll.in3 w8 22 _ _ _ m m2 m3 ((i1.below hb8).more hb8.size) ((i2.below hb8).more hb8.size) ((i3.below hb8).more hb8.size)) (by rw [HX.out.2.2.1, ← HK2.out]; have := HX.out.2.2.2.2; omega)
  rw [HX.out.2.2.1, ← HX.out.2.2.2.1] at t3
  obtain ⟨g, hg⟩ : ∃ g, g = decide (s = 0) := ⟨_, rfl⟩
  rw [← hg] at t3
  have hg2 : ((s : Int) == 0) = g := by
    rw [hg]
    by_cases h : s = 0
    · subst h; rfl
    · have : ((s : Int) == 0) = false := by simp; omega
      rw [this, decide_eq_false h]
  have T3 := Lib.hid t3
  clear t3 hb8 i1 i2 i3 T2 hg
  go_wp2_with fail
  refine T3.out.mono ?_
  rintro e w10 ⟨rfl, hw10⟩
  have hb10 : Below w8.heap.size w8 w10 := by rw [← hw10]; exact up_alloc (Below.refl _ _) _
  have t4 := rinSum_any HK2.out.symm (by have := HX.out.2.2.2.2; omega) ((HX.out.1.below (up HB8.out hb10)))
  rw [← HX.out.2.2.2.1] at t4
  have T4 := Lib.hid t4
  have HB10 := Lib.hid hb10
  clear t4 hb10 hw10 T3
  go_wp2_with fail
  refine T4.out.mono ?_
  rintro e w11 ⟨rfl, rfl⟩
  go_wp2_with fail
  refine (inSum_none _).mono ?_
  rintro e w12 ⟨rfl, rfl⟩
  go_wp2_with fail
  refine (lives11_any _).mono ?_
  rintro e w13 ⟨rfl, hb13⟩
  have HB13 := Lib.hid hb13
  clear hb13
  go_wp2_with fail
  go_ret
  exact ⟨rfl, up (up (up (up HB3.out HX.out.2.1) HB8.out) HB10.out) HB13.out⟩
end Go.Proofs.Ytfafcihpjcgmhaa
