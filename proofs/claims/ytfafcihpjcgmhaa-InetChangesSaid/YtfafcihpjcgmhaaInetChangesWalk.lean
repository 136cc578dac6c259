/-
  The walk of InetChanges.
-/
import Derived.Test.YtfafcihpjcgmhaaInetE
namespace Go.Proofs.Ytfafcihpjcgmhaa
open Go.RowKit
set_option maxRecDepth 100000 in
set_option maxHeartbeats 1000000 in
theorem inetChanges_walk (sn : Int) (v : Value) (l : List UInt8) (v2 : Value) (l2 : List UInt8) (w : World) (hsn : (Lit.int .u16 sn).wf = true) (h : Rd w w.heap.size v (cellsB l)) (h2 : Rd w w.heap.size v2 (cellsB l2)) :
    Calls Try.prog 4 #[.int .u16 sn, v, v2] w fun e w' => e = .returned (.bool true) ∧ Below w.heap.size w w' := by
  obtain ⟨i, hi, hz0, hz1, hz2⟩ := info_parts info_u8
  obtain ⟨s, rfl, hs⟩ : ∃ s : Nat, sn = (s : Int) ∧ s ≤ 65535 := by
    have : 0 ≤ sn ∧ sn ≤ 65535 := by simpa [Lit.wf, IntKind.min, IntKind.max, IntKind.bits, IntKind.signed] using hsn
    exact ⟨sn.toNat, by omega, by omega⟩
  clear hsn
  obtain ⟨A, c, rfl, _, _, h⟩ := h.bytes
  obtain ⟨Ab, cb, rfl, _, _, h2⟩ := h2.bytes
  obtain ⟨m, hm, hfew⟩ := few_cut 60 _ l w _ h (Nat.le_refl _) (by omega)
  have Hfew := Lib.hid hfew
  have HH := Lib.hid h2
  have Hs := Lib.hid hs
  clear hfew h2 h hs
  go_enter Try.func4, Try.ntmps4
  go_wp2_with fail
  refine Hfew.out.mono ?_
  rintro e w1 ⟨A1, c1, rfl, g1, hr1, hbel1⟩
  obtain ⟨m2, hm2, hfew2⟩ := few_cut 60 _ l2 w1 _ (HH.out.below hbel1) hbel1.size (by omega)
  have Hfew2 := Lib.hid hfew2
  have HR1 := Lib.hid (And.intro hr1 hbel1)
  clear hfew2 Hfew hr1 hbel1 g1
  obtain ⟨n, hn⟩ : ∃ n, n = m.length := ⟨_, rfl⟩
  rw [← hn] at hm HR1 ⊢
  have Hn := Lib.hid hn
  clear hn
  go_wp2_with fail
  refine Hfew2.out.mono ?_
  rintro e w2 ⟨A2, c2, rfl, g2, hr2, hbel2⟩
  have hr1 := (HR1.out.1.below hbel2).more hbel2.size
  have HB2 := Lib.hid (up HR1.out.2 hbel2)
  obtain ⟨n2, hn2⟩ : ∃ n, n = m2.length := ⟨_, rfl⟩
  rw [← hn2] at hm2 hr2 ⊢
  have Hn2 := Lib.hid hn2
  have HR := Lib.hid (And.intro hr1 hr2)
  clear Hfew2 HR1 hr2 hbel2 g2 hr1 hn2 HH
  -- behind the copies: what Change tells is what the document tells
  have hend : ∀ (want : Nat) (w3 : World), Below w2.heap.size w2 w3 → want = (if n = n2 ∧ n % 2 = 0 then chgOf s m m2 else s) → True := fun _ _ _ _ => trivial
  clear hend
  by_cases hc : n = n2 ∧ n % 2 = 0
  · obtain ⟨hc1, hc2⟩ := hc
    subst hc1
    have k1 : ((n : Int) == (n : Int)) = true := by simp
    have k2 : (n : Int).tmod 2 = 0 := by rw [Int.tmod_eq_emod_of_nonneg (by omega)]; omega
    have hr := rinChange_any (s := s) Hs.out Hn.out.symm Hn2.out.symm hc2 (by omega) HR.out.1 HR.out.2
    obtain ⟨y, hy⟩ : ∃ y, y = chgOf s m m2 := ⟨_, rfl⟩
    rw [← hy] at hr
    have HRf := Lib.hid hr
    have HY := Lib.hid (And.intro hy hc2)
    have HM := Lib.hid (And.intro hm hm2)
    clear hr hy hc2 hm hm2
    go_wp2_with fail
    refine HRf.out.mono ?_
    rintro e w3 ⟨rfl, hb3⟩
    have j1 := (HR.out.1.below hb3).more hb3.size
    have j2 := (HR.out.2.below hb3).more hb3.size
    have HB3 := Lib.hid hb3
    clear hb3 HRf
    go_wp2_with (first
      | (at_builtin; refine wpList_append_rd rfl (.tmp 29) _ 22 rfl w3.heap.size 5 i _ 1 Try.underlying22 hi hz0 hz1 hz2 rfl _ [] rfl (Mine.empty w3 _ 5 (Nat.le_refl _)) _ _ _ rfl (j1.alloc (Nat.le_refl _) _) (cellsB_one _) (by rw [cellsB_length]; have := HM.out.1; have := Hn.out; simp; omega) (by unfold maxLen; rw [cellsB_length]; have := HM.out.1; have := Hn.out; simp; omega) (by simp) ?_; intro v5 w5 hown5 hbel5 _ _; have hb5 : Below w3.heap.size w3 w5 := ((Below.refl _ _).alloc (Nat.le_refl _) _).trans hbel5; rw [List.nil_append] at hown5; obtain ⟨A5, c5, rfl, _, _, hr5⟩ := hown5.rd.bytes; rw [← Hn.out] at hr5 ⊢; have HO5 := Lib.hid hr5; have HB5 := Lib.hid hb5; clear hbel5 hown5 hr5 hb5)
      | (at_builtin; refine wpList_append_rd rfl (.tmp 32) _ 22 rfl w5.heap.size 5 i _ 1 Try.underlying22 hi hz0 hz1 hz2 rfl _ [] rfl (Mine.empty w5 _ 5 (Nat.le_refl _)) _ _ _ rfl ((j2.below HB5.out).alloc HB5.out.size _) (cellsB_one _) (by rw [cellsB_length]; have := HM.out.2; have := Hn2.out; simp; omega) (by unfold maxLen; rw [cellsB_length]; have := HM.out.2; have := Hn2.out; simp; omega) (by simp) ?_; intro v6 w6 hown6 hbel6 _ _; have hb6 : Below w5.heap.size w5 w6 := ((Below.refl _ _).alloc (Nat.le_refl _) _).trans hbel6; rw [List.nil_append] at hown6; obtain ⟨A6, c6, rfl, _, _, hr6⟩ := hown6.rd.bytes; rw [← Hn2.out] at hr6 ⊢; have hr := inChange_yes (s := s) Hs.out Hn.out.symm Hn2.out.symm HY.out.2 (by have := HM.out.1; omega) ((HO5.out.below hb6).more hb6.size) hr6; rw [← HY.out.1] at hr; have HC := Lib.hid hr; have HB6 := Lib.hid hb6; clear hbel6 hown6 hr6 hb6 hr j1 j2))
    refine HC.out.mono ?_
    rintro e w7 ⟨rfl, hb7⟩
    have HB7 := Lib.hid hb7
    clear hb7 HC
    go_wp2_with fail
    refine (lives11_any _).mono ?_
    rintro e w8 ⟨rfl, hb8⟩
    have HB8 := Lib.hid hb8
    clear hb8
    go_wp2_with fail
    go_ret
    exact ⟨rfl, up (up (up (up (up HB2.out HB3.out) HB5.out) HB6.out) HB7.out) HB8.out⟩
  · have hne : m.length ≠ m2.length ∨ m.length % 2 ≠ 0 := by
      rw [← Hn.out, ← Hn2.out]
      by_cases h : n = n2
      · exact .inr fun e => hc ⟨h, e⟩
      · exact .inl h
    have HNe := Lib.hid hne
    have HM := Lib.hid (And.intro hm hm2)
    obtain ⟨j1, j2⟩ := HR.out
    have hgo : ((n : Int) == (n2 : Int)) = false ∨ (((n : Int) == (n2 : Int)) = true ∧ (n : Int).tmod 2 = 1) := by
      by_cases h : n = n2
      · subst h
        right
        refine ⟨by simp, ?_⟩
        rw [Int.tmod_eq_emod_of_nonneg (by omega)]
        have : ¬ n % 2 = 0 := fun e => hc ⟨rfl, e⟩
        omega
      · left
        simp
        omega
    clear hc hne hm hm2
    rcases hgo with k1 | ⟨k1, k2⟩
    all_goals
      go_wp2_with (first
        | (at_builtin; refine wpList_append_rd rfl (.tmp 29) _ 22 rfl w2.heap.size 5 i _ 1 Try.underlying22 hi hz0 hz1 hz2 rfl _ [] rfl (Mine.empty w2 _ 5 (Nat.le_refl _)) _ _ _ rfl (j1.alloc (Nat.le_refl _) _) (cellsB_one _) (by rw [cellsB_length]; have := HM.out.1; have := Hn.out; simp; omega) (by unfold maxLen; rw [cellsB_length]; have := HM.out.1; have := Hn.out; simp; omega) (by simp) ?_; intro v5 w5 hown5 hbel5 _ _; have hb5 : Below w2.heap.size w2 w5 := ((Below.refl _ _).alloc (Nat.le_refl _) _).trans hbel5; rw [List.nil_append] at hown5; obtain ⟨A5, c5, rfl, _, _, hr5⟩ := hown5.rd.bytes; have HB5 := Lib.hid hb5; clear hbel5 hown5 hr5 hb5)
        | (at_builtin; refine wpList_append_rd rfl (.tmp 32) _ 22 rfl w5.heap.size 5 i _ 1 Try.underlying22 hi hz0 hz1 hz2 rfl _ [] rfl (Mine.empty w5 _ 5 (Nat.le_refl _)) _ _ _ rfl ((j2.below HB5.out).alloc HB5.out.size _) (cellsB_one _) (by rw [cellsB_length]; have := HM.out.2; have := Hn2.out; simp; omega) (by unfold maxLen; rw [cellsB_length]; have := HM.out.2; have := Hn2.out; simp; omega) (by simp) ?_; intro v6 w6 hown6 hbel6 _ _; have hb6 : Below w5.heap.size w5 w6 := ((Below.refl _ _).alloc (Nat.le_refl _) _).trans hbel6; rw [List.nil_append] at hown6; obtain ⟨A6, c6, rfl, _, _, hr6⟩ := hown6.rd.bytes; have HB6 := Lib.hid hb6; clear hbel6 hown6 hr6 hb6 j1 j2))
      refine (inChange_no HNe.out (by have := HM.out.1; have := Hn.out; omega) (by have := HM.out.2; have := Hn2.out; omega)).mono ?_
      rintro e w7 ⟨rfl, rfl⟩
      go_wp2_with fail
      refine (lives11_any _).mono ?_
      rintro e w8 ⟨rfl, hb8⟩
      have HB8 := Lib.hid hb8
      clear hb8
      go_wp2_with fail
      go_ret
      exact ⟨rfl, up (up (up HB2.out HB5.out) HB6.out) HB8.out⟩
end Go.Proofs.Ytfafcihpjcgmhaa
