import Derived.Test.YtleechnebjhodaaNumBackWalk
import Derived.Deep.RegionLaw
namespace Go.Proofs.Ytleechnebjhodaa
open Go.RowKit
set_option maxHeartbeats 1000000 in
theorem numPuts_walk (v : Value) (l : List UInt8) (n s : Int) (w : World) (h : Rd w w.heap.size v (cellsB l)) (wn : (Lit.int .u64 n).wf = true) (_ : (Lit.int .i64 s).wf = true) :
    Calls Try.prog 3 #[v, .int .u64 n, .int .i64 s] w fun e w' => e = .returned (.bool true) ∧ Below w.heap.size w w' := by
  obtain ⟨i, hi, hz0, hz1, hz2⟩ := info_parts info_u8
  obtain ⟨A, c, rfl, _, _, h⟩ := h.bytes
  obtain ⟨m, hm, hfew⟩ := few_hundred _ l w h
  have Hfew := Lib.hid hfew
  clear hfew
  by_cases hyes : 1 ≤ s ∧ s ≤ 8
  · obtain ⟨h1, h2⟩ := hyes
    obtain ⟨s, rfl⟩ := Int.eq_ofNat_of_zero_le (show 0 ≤ s by omega)
    obtain ⟨hn0, hn1⟩ := u64_of_wf wn
    obtain ⟨n, rfl⟩ := Int.eq_ofNat_of_zero_le hn0
    have hn2 : n < 18446744073709551616 := by omega
    obtain ⟨r, hrr⟩ : ∃ r, r = m ++ be s n := ⟨_, rfl⟩
    have hput := fun A c W h => put_yes A c m n s W W.heap.size h (Nat.le_refl _) (by omega) (by omega) (by omega)
    have href := fun A c W h => refPut_any A c m n s W W.heap.size h (Nat.le_refl _) (by omega) hn2 (by omega) (by omega)
    rw [← hrr] at hput href
    have Hput := Lib.hid hput
    have Href := Lib.hid href
    clear hput href hrr wn hn0 hn1 hn2
    go_enter Try.func3, Try.ntmps3
    go_wp2_with (first
      | (go_at_call 7; refine Hfew.out.mono ?_; rintro e w1 ⟨A1, c1, rfl, g1, hr1, hbel1⟩)
      | (go_at_call 8; refine (Href.out A1 c1 _ hr1).mono ?_; rintro e w2 ⟨v2, rfl, hown2, hbel2⟩; obtain ⟨A2, c2, rfl, _, _, hr2⟩ := hown2.rd.bytes))
    have hr1' := hr1.below hbel2
    have Hs := Lib.hid hr2
    have he0 := run_string_kept (P := Try.prog) 22 9 5 Try.underlying22 Try.underlying5 Try.underlying9 Hs.out (up_drew (Below.refl _ _))
    have he1 := run_string_kept (P := Try.prog) 22 9 5 Try.underlying22 Try.underlying5 Try.underlying9 Hs.out (up_drew (up_alloc (Below.refl _ _) (.cells #[] 5)))
    go_region_law
      (first 
        | (refine step_append_rd rfl _ _ 22 (by rfl) w2.heap.size 5 i _ 1 Try.underlying22 hi hz0 hz1 hz2 rfl _ [] (by rfl) (Mine.empty w2.drew _ 5 (Nat.le_refl _)) w1.heap.size _ _ (by rfl) ((hr1'.drew).alloc (by simpa using hbel2.size) _) (cellsB_one _) (by rw [cellsB_length]; simp; omega) (by unfold maxLen; rw [cellsB_length]; simp; omega) (by simp) ?_; intro v3 w3 hown3 hbel3 _ _; obtain ⟨A3, c3, rfl, _, _, hr3⟩ := hown3.rd.bytes; have hb3 := (up_alloc (up_drew (Below.refl w2.heap.size w2)) _).trans hbel3; have he3 := run_string_kept (P := Try.prog) 22 9 5 Try.underlying22 Try.underlying5 Try.underlying9 Hs.out hb3)
        | (go_simp; go_at_call 9; refine (Hput.out A3 c3 _ hr3).mono ?_; rintro e w4 ⟨v4, rfl, hown4, hbel4⟩; have hs4 := run_string_rd (P := Try.prog) 22 9 5 Try.underlying22 Try.underlying5 Try.underlying9 hown4.rd; have hb4 := up hb3 hbel4; have he4 := run_string_kept (P := Try.prog) 22 9 5 Try.underlying22 Try.underlying5 Try.underlying9 Hs.out hb4)
        | (go_simp; go_at_call 10; refine (lives_any _).mono ?_; rintro e w5 ⟨rfl, hbel5⟩; have hb5 := up hb4 hbel5))
    all_goals
      go_wp2_with fail
      go_ret
      exact ⟨rfl, up (up hbel1 hbel2) hb5⟩
  · have hno := fun A c W h => put_no A c m n s W W.heap.size h (Nat.le_refl _) (by omega) (by omega)
    have Hput := Lib.hid hno
    clear hno wn
    have hd : decide (1 ≤ s) = false ∨ (decide (1 ≤ s) = true ∧ decide (s ≤ 8) = false) := by
      by_cases e1 : 1 ≤ s
      · exact .inr ⟨by simpa using e1, by simp; omega⟩
      · exact .inl (by simpa using e1)
    clear hyes
    rcases hd with d1 | ⟨d1, d2⟩
    all_goals
      go_enter Try.func3, Try.ntmps3
      go_wp2_with (go_at_call 7; refine Hfew.out.mono ?_; rintro e w1 ⟨A1, c1, rfl, g1, hr1, hbel1⟩)
      have Hs := Lib.hid hr1
      have he0 := run_string_kept (P := Try.prog) 22 9 5 Try.underlying22 Try.underlying5 Try.underlying9 Hs.out (up_drew (Below.refl _ _))
      have he1 := run_string_kept (P := Try.prog) 22 9 5 Try.underlying22 Try.underlying5 Try.underlying9 Hs.out (up_drew (up_alloc (Below.refl _ _) (.cells #[] 5)))
      go_region_law
        (first
        | (refine step_append_rd rfl _ _ 22 (by rfl) w1.heap.size 5 i _ 1 Try.underlying22 hi hz0 hz1 hz2 rfl _ [] (by rfl) (Mine.empty w1.drew _ 5 (Nat.le_refl _)) w1.heap.size _ _ (by rfl) ((hr1.drew).alloc (Nat.le_refl _) _) (cellsB_one _) (by rw [cellsB_length]; simp; omega) (by unfold maxLen; rw [cellsB_length]; simp; omega) (by simp) ?_; intro v3 w3 hown3 hbel3 _ _; obtain ⟨A3, c3, rfl, _, _, hr3⟩ := hown3.rd.bytes; have hb3 := (up_alloc (up_drew (Below.refl w1.heap.size w1)) _).trans hbel3; have he3 := run_string_kept (P := Try.prog) 22 9 5 Try.underlying22 Try.underlying5 Try.underlying9 Hs.out hb3)
        | (go_simp; go_at_call 9; refine (Hput.out A3 c3 _ hr3).mono ?_; rintro e w4 ⟨v4, rfl, hown4, hbel4⟩; have hs4 := run_string_rd (P := Try.prog) 22 9 5 Try.underlying22 Try.underlying5 Try.underlying9 hown4.rd; have hb4 := up hb3 hbel4; have he4 := run_string_kept (P := Try.prog) 22 9 5 Try.underlying22 Try.underlying5 Try.underlying9 Hs.out hb4)
        | (go_simp; go_at_call 10; refine (lives_any _).mono ?_; rintro e w5 ⟨rfl, hbel5⟩; have hb5 := up hb4 hbel5))
      all_goals
        go_wp2_with fail
        go_ret
        exact ⟨rfl, up hbel1 hb5⟩
end Go.Proofs.Ytleechnebjhodaa
