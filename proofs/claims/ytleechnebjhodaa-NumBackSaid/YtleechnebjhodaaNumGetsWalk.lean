import Derived.Test.YtleechnebjhodaaLawA
namespace Go.Proofs.Ytleechnebjhodaa
open Go.RowKit
theorem i64_of_wf {n : Int} (h : (Lit.int .i64 n).wf = true) : -9223372036854775808 ≤ n ∧ n ≤ 9223372036854775807 := by
  simpa [Lit.wf, IntKind.min, IntKind.max, IntKind.bits, IntKind.signed] using h
/-- b = Few(b, 100). -/
theorem few_hundred (v : Value) (l : List UInt8) (w : World) (h : Rd w w.heap.size v (cellsB l)) : ∃ m : List UInt8, m.length ≤ 100 ∧
    Calls Try.prog 7 #[v, .int .i64 100] w fun e w' => ∃ A c, e = .returned (.slice A m.length c) ∧ m.length ≤ c ∧ Rd w' w'.heap.size (.slice A m.length c) (cellsB m) ∧ Below w.heap.size w w' := by
  refine ⟨l.take 100, by simp; omega, (few_any v l 100 w _ h (Nat.le_refl _) (by omega)).mono ?_⟩
  rintro e w' ⟨v', rfl, h1, h2⟩
  obtain ⟨A, c, rfl, g1, _, g2⟩ := h1.rd.bytes
  exact ⟨A, c, rfl, g1, g2, h2⟩
set_option maxHeartbeats 1000000 in
theorem numGets_walk (v : Value) (l : List UInt8) (a s : Int) (w : World) (h : Rd w w.heap.size v (cellsB l)) (wa : (Lit.int .i64 a).wf = true) (_ : (Lit.int .i64 s).wf = true) :
    Calls Try.prog 4 #[v, .int .i64 a, .int .i64 s] w fun e w' => e = .returned (.bool true) ∧ Below w.heap.size w w' := by
  obtain ⟨i, hi, hz0, hz1, hz2⟩ := info_parts info_u8
  obtain ⟨A, c, rfl, _, _, h⟩ := h.bytes
  obtain ⟨m, hm, hfew⟩ := few_hundred _ l w h
  have Hfew := Lib.hid hfew
  clear hfew
  have ha := i64_of_wf wa
  clear wa
  by_cases hyes : 1 ≤ s ∧ s ≤ 8 ∧ 0 ≤ a ∧ a + s ≤ m.length
  · obtain ⟨h1, h2, h3, h4⟩ := hyes
    obtain ⟨a, rfl⟩ := Int.eq_ofNat_of_zero_le h3
    obtain ⟨s, rfl⟩ := Int.eq_ofNat_of_zero_le (show 0 ≤ s by omega)
    have e1 : decide ((s : Int) < 1) = false := by simp; omega
    have e2 : decide ((8 : Int) < s) = false := by simp; omega
    go_enter Try.func4, Try.ntmps4
    go_wp2_with (first 
      | (go_at_call 7; refine Hfew.out.mono ?_; rintro e w1 ⟨A1, c1, rfl, g1, hr1, hbel1⟩)
      | (at_builtin; refine wpList_append_rd rfl _ _ 22 rfl w1.heap.size 5 i _ 1 Try.underlying22 hi hz0 hz1 hz2 rfl _ [] rfl (Mine.empty w1 _ 5 (Nat.le_refl _)) _ _ _ rfl (hr1.alloc (Nat.le_refl _) _) (cellsB_one _) (by rw [cellsB_length]; simp; omega) (by unfold maxLen; rw [cellsB_length]; simp; omega) (by simp) ?_; intro v2 w2 hown2 hbel2 _ _; obtain ⟨A2, c2, rfl, _, _, hr2⟩ := hown2.rd.bytes)
      | (go_at_call 11; refine (get_yes A2 c2 m a s _ _ hr2 (by omega) (by omega) (by omega)).mono ?_; rintro e w3 ⟨rfl, rfl⟩)
      | (go_at_call 12; refine (has_yes _ _ _ _ _ _ (by omega) (by omega) (by omega) (by omega)).mono ?_; rintro e w3 ⟨rfl, rfl⟩)
      | (go_at_call 13; refine (refGet_any _ _ m a s _ w1.heap.size (hr1.below (((Below.refl _ _).alloc (Nat.le_refl _) _).trans hbel2)) (by omega) (by omega) (by omega)).mono ?_; rintro e w3 ⟨rfl, rfl⟩)
      | (go_at_call 10; refine (lives_any _).mono ?_; rintro e w4 ⟨rfl, hbel4⟩))
    go_ret
    exact ⟨rfl, up (up hbel1 (((Below.refl _ _).alloc (Nat.le_refl _) _).trans hbel2)) hbel4⟩
  · have hno := fun A c W => get_no A m.length c a s W (by omega) (by omega) (by omega)
    have Hno := Lib.hid hno
    clear hno
    by_cases e1 : s < 1
    · have d1 : decide (s < 1) = true := by simpa using e1
      clear hyes ha
      go_enter Try.func4, Try.ntmps4
      go_wp2_with (first
      | (go_at_call 7; refine Hfew.out.mono ?_; rintro e w1 ⟨A1, c1, rfl, g1, hr1, hbel1⟩)
      | (at_builtin; refine wpList_append_rd rfl _ _ 22 rfl w1.heap.size 5 i _ 1 Try.underlying22 hi hz0 hz1 hz2 rfl _ [] rfl (Mine.empty w1 _ 5 (Nat.le_refl _)) _ _ _ rfl (hr1.alloc (Nat.le_refl _) _) (cellsB_one _) (by rw [cellsB_length]; simp; omega) (by unfold maxLen; rw [cellsB_length]; simp; omega) (by simp) ?_; intro v2 w2 hown2 hbel2 _ _; obtain ⟨A2, c2, rfl, _, _, hr2⟩ := hown2.rd.bytes)
      | (go_at_call 11; refine (Hno.out _ _ _).mono ?_; rintro e w3 ⟨rfl, rfl⟩)
      | (go_at_call 10; refine (lives_any _).mono ?_; rintro e w4 ⟨rfl, hbel4⟩))
      go_ret
      exact ⟨rfl, up (up hbel1 (((Below.refl _ _).alloc (Nat.le_refl _) _).trans hbel2)) hbel4⟩
    · have d1 : decide (s < 1) = false := by simp; omega
      by_cases e2 : 8 < s
      · have d2 : decide (8 < s) = true := by simpa using e2
        clear hyes ha
        go_enter Try.func4, Try.ntmps4
        go_wp2_with (first
      | (go_at_call 7; refine Hfew.out.mono ?_; rintro e w1 ⟨A1, c1, rfl, g1, hr1, hbel1⟩)
      | (at_builtin; refine wpList_append_rd rfl _ _ 22 rfl w1.heap.size 5 i _ 1 Try.underlying22 hi hz0 hz1 hz2 rfl _ [] rfl (Mine.empty w1 _ 5 (Nat.le_refl _)) _ _ _ rfl (hr1.alloc (Nat.le_refl _) _) (cellsB_one _) (by rw [cellsB_length]; simp; omega) (by unfold maxLen; rw [cellsB_length]; simp; omega) (by simp) ?_; intro v2 w2 hown2 hbel2 _ _; obtain ⟨A2, c2, rfl, _, _, hr2⟩ := hown2.rd.bytes)
      | (go_at_call 11; refine (Hno.out _ _ _).mono ?_; rintro e w3 ⟨rfl, rfl⟩)
      | (go_at_call 10; refine (lives_any _).mono ?_; rintro e w4 ⟨rfl, hbel4⟩))
        go_ret
        exact ⟨rfl, up (up hbel1 (((Below.refl _ _).alloc (Nat.le_refl _) _).trans hbel2)) hbel4⟩
      · have d2 : decide (8 < s) = false := by simp; omega
        have hhas := fun A c W => has_no A m.length c a s W (by omega) (by omega) (by omega)
        have Hhas := Lib.hid hhas
        clear hhas hyes ha
        go_enter Try.func4, Try.ntmps4
        go_wp2_with (first
      | (go_at_call 7; refine Hfew.out.mono ?_; rintro e w1 ⟨A1, c1, rfl, g1, hr1, hbel1⟩)
      | (at_builtin; refine wpList_append_rd rfl _ _ 22 rfl w1.heap.size 5 i _ 1 Try.underlying22 hi hz0 hz1 hz2 rfl _ [] rfl (Mine.empty w1 _ 5 (Nat.le_refl _)) _ _ _ rfl (hr1.alloc (Nat.le_refl _) _) (cellsB_one _) (by rw [cellsB_length]; simp; omega) (by unfold maxLen; rw [cellsB_length]; simp; omega) (by simp) ?_; intro v2 w2 hown2 hbel2 _ _; obtain ⟨A2, c2, rfl, _, _, hr2⟩ := hown2.rd.bytes)
      | (go_at_call 11; refine (Hno.out _ _ _).mono ?_; rintro e w3 ⟨rfl, rfl⟩)
      | (go_at_call 12; refine (Hhas.out _ _ _).mono ?_; rintro e w3 ⟨rfl, rfl⟩)
      | (go_at_call 10; refine (lives_any _).mono ?_; rintro e w4 ⟨rfl, hbel4⟩))
        go_ret
        exact ⟨rfl, up (up hbel1 (((Below.refl _ _).alloc (Nat.le_refl _) _).trans hbel2)) hbel4⟩
end Go.Proofs.Ytleechnebjhodaa
