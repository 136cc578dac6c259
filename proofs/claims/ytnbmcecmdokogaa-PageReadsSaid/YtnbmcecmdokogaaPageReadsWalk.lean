/-
  The walk of PageReads.
-/
import Derived.Test.YtnbmcecmdokogaaPageMovedWalk
namespace Go.Proofs.Ytnbmcecmdokogaa
open Go.RowKit
set_option maxHeartbeats 1000000 in
theorem pageReads_bad (v : Value) (no : Int) (w : World) (m : List UInt8) (hm : m.length ≤ 260)
    (hfew : Calls Try.prog 13 #[v, .int .i64 (260 : Int)] w fun e w1 => ∃ A c, e = .returned (.slice A m.length c) ∧ m.length ≤ c ∧ Rd w1 w1.heap.size (.slice A m.length c) (cellsB m) ∧ Below w.heap.size w w1) (r : Nat) (hr : pgErr no m = r) (h0 : r ≠ 0) :
    Calls Try.prog 4 #[.int .i64 no, v] w fun e w' => e = .returned (.bool true) ∧ Below w.heap.size w w' := by
  obtain ⟨i, hi, hz0, hz1, hz2⟩ := info_parts info_u8
  have Hfew := Lib.hid hfew
  have hd1 := fun (A : Option Addr) (c : Nat) (W : World) (h : Rd W W.heap.size (.slice A m.length c) (cellsB m)) => pgDec_bad no A c m W _ h (Nat.le_refl _) r hr h0
  have hd2 := fun (A : Option Addr) (c : Nat) (W : World) (h : Rd W W.heap.size (.slice A m.length c) (cellsB m)) => refDec_bad no A c m W _ h (Nat.le_refl _) r hr h0
  have Hd1 := Lib.hid hd1
  have Hd2 := Lib.hid hd2
  have e0 : ((r : Int) != 0) = true := by rw [bne_iff_ne]; omega
  have e1 : ((r : Int) != (r : Int)) = false := by simp
  clear hfew hd1 hd2 hr h0
  go_enter Try.func4, Try.ntmps4
  go_wp2_with fail
  refine Hfew.out.mono ?_
  rintro e w1 ⟨A1, c1, rfl, hc1, hr1, hb1⟩
  go_wp2_with (at_builtin; refine wpList_append_rd rfl (.tmp 15) (.tmp 16) 23 rfl w1.heap.size 5 i _ 1 Try.underlying23 hi hz0 hz1 hz2 rfl _ [] rfl (Mine.empty w1 _ 5 (Nat.le_refl _)) _ _ _ rfl (hr1.alloc (Nat.le_refl _) _) (cellsB_one _) (by rw [cellsB_length]; simp; omega) (by unfold maxLen; rw [cellsB_length]; simp; omega) (by simp) ?_; intro v2 w2 hown2 hbel2 hx1 hx2; clear hx1 hx2; rw [List.nil_append] at hown2)
  obtain ⟨A2, c2, rfl, _, _, hr2⟩ := hown2.rd.bytes
  have hb2 : Below w1.heap.size w1 w2 := ((Below.refl _ _).alloc (Nat.le_refl _) _).trans hbel2
  have hrm2 := (hr1.below hb2).more hb2.size
  have hbm2 : Below w.heap.size w w2 := up hb1 hb2
  clear hown2 hbel2 hb2 hb1 hr1
  refine (Hd1.out _ _ _ hr2).mono ?_
  rintro e w3 ⟨rfl, hb3⟩
  have hrm3 := (hrm2.below hb3).more hb3.size
  have hbm3 := up_alloc (up hbm2 hb3) (.cells #[.int .i64 0, .int .u64 0, .slice none 0 0] 25)
  clear hrm2 hbm2 hb3 hr2
  go_wp2_with fail
  refine (Hd2.out _ _ _ ((hrm3.alloc (Nat.le_refl _) _).more (by simp))).mono ?_
  rintro e w4 ⟨rfl, hb4⟩
  have hb4' : Below (w3.heap.size + 1) (w3.alloc (.cells #[.int .i64 0, .int .u64 0, .slice none 0 0] 25)) w4 := by simpa using hb4
  obtain ⟨q0, q1, q2, _, _, _⟩ := pgW_later hb4'
  have hbm4 := up hbm3 hb4
  have hn4 : w3.heap.size < w4.heap.size := by have := hb4'.size; simp at this; omega
  clear hb4 hb4' hbm3 hrm3
  go_wp2_with fail
  refine (same_yes 0 0 none none 0 0 0 0 [] _ 0 (Nat.zero_le _) (Rd.nil _ _) (Rd.nil _ _)).mono ?_
  rintro e w5 ⟨rfl, hb5⟩
  go_wp2_with fail
  refine (lives04_any _).mono ?_
  rintro e w9 ⟨rfl, hb9⟩
  go_wp2_with fail
  go_ret
  exact ⟨rfl, up (up (up_alloc hbm4 _) hb5) hb9⟩
set_option maxHeartbeats 1000000 in
theorem pageReads_good (v : Value) (no : Int) (w : World) (m : List UInt8) (hm : m.length ≤ 260)
    (hfew : Calls Try.prog 13 #[v, .int .i64 (260 : Int)] w fun e w1 => ∃ A c, e = .returned (.slice A m.length c) ∧ m.length ≤ c ∧ Rd w1 w1.heap.size (.slice A m.length c) (cellsB m) ∧ Below w.heap.size w w1) (hok : PgOk no m) :
    Calls Try.prog 4 #[.int .i64 no, v] w fun e w' => e = .returned (.bool true) ∧ Below w.heap.size w w' := by
  obtain ⟨i, hi, hz0, hz1, hz2⟩ := info_parts info_u8
  have Hfew := Lib.hid hfew
  have hd1 := fun (A : Option Addr) (c : Nat) (W : World) (h : Rd W W.heap.size (.slice A m.length c) (cellsB m)) => pgDec_good no A c m W _ h (Nat.le_refl _) hok
  have hd2 := fun (A : Option Addr) (c : Nat) (W : World) (h : Rd W W.heap.size (.slice A m.length c) (cellsB m)) => refDec_good no A c m W _ h (Nat.le_refl _) hok
  have hback := pg_back hok
  have hnat : ((no.toNat : Nat) : Int) = no := by have := hok.no0; omega
  have hbl : (pgBody m).length ≤ 232 := by have := hok.blen; unfold pgBody; simp; omega
  have henc := fun (A : Option Addr) (c : Nat) (W : World) (h : Rd W W.heap.size (.slice A (pgBody m).length c) (cellsB (pgBody m))) => pgEnc_ok no.toNat (fieldAt m 5 1) (fieldAt m 12 8) A (pgBody m) c W _ h (Nat.le_refl _) (by have := hok.no1; omega) hok.kind1 hok.kind4 hbl
  rw [hback, hnat] at henc
  obtain ⟨k, hk⟩ : ∃ k, k = fieldAt m 5 1 := ⟨_, rfl⟩
  obtain ⟨g, hg⟩ : ∃ g, g = fieldAt m 12 8 := ⟨_, rfl⟩
  obtain ⟨b, hb⟩ : ∃ b, b = pgBody m := ⟨_, rfl⟩
  rw [← hk, ← hg, ← hb] at hd1 hd2 henc
  have Hd1 := Lib.hid hd1
  have Hd2 := Lib.hid hd2
  have Henc := Lib.hid henc
  clear hfew hd1 hd2 henc hok hback hnat hbl hk hg hb
  go_enter Try.func4, Try.ntmps4
  go_wp2_with fail
  refine Hfew.out.mono ?_
  rintro e w1 ⟨A1, c1, rfl, hc1, hr1, hb1⟩
  go_wp2_with (at_builtin; refine wpList_append_rd rfl (.tmp 15) (.tmp 16) 23 rfl w1.heap.size 5 i _ 1 Try.underlying23 hi hz0 hz1 hz2 rfl _ [] rfl (Mine.empty w1 _ 5 (Nat.le_refl _)) _ _ _ rfl (hr1.alloc (Nat.le_refl _) _) (cellsB_one _) (by rw [cellsB_length]; simp; omega) (by unfold maxLen; rw [cellsB_length]; simp; omega) (by simp) ?_; intro v2 w2 hown2 hbel2 hx1 hx2; clear hx1 hx2; rw [List.nil_append] at hown2)
  obtain ⟨A2, c2, rfl, _, _, hr2⟩ := hown2.rd.bytes
  have hb2 : Below w1.heap.size w1 w2 := ((Below.refl _ _).alloc (Nat.le_refl _) _).trans hbel2
  have hrm2 := (hr1.below hb2).more hb2.size
  have hbm2 : Below w.heap.size w w2 := up hb1 hb2
  clear hown2 hbel2 hb2 hb1 hr1
  refine (Hd1.out _ _ _ hr2).mono ?_
  rintro e w3 ⟨A3, c3, rfl, hr3, hb3⟩
  have hrm3 := (hrm2.below hb3).more hb3.size
  have hbm3 := up hbm2 hb3
  clear hrm2 hbm2 hb3 hr2
  go_wp2_with fail
  refine (Hd2.out _ _ _ ((hrm3.alloc (Nat.le_refl _) _).more (by simp))).mono ?_
  rintro e w4 ⟨A4, c4, rfl, hr4, hb4⟩
  have hb4' : Below (w3.heap.size + 1) (w3.alloc (.cells #[.int .i64 (k : Int), .int .u64 (g : Int), .slice A3 b.length c3] 25)) w4 := by simpa using hb4
  obtain ⟨q0, q1, q2⟩ := (pgBox_cells w3 k g (.slice A3 b.length c3))
  have q0 := (hb4'.cell (p := ⟨w3.heap.size, 0, none⟩) (Nat.lt_succ_self _)).trans q0
  have q1 := (hb4'.cell (p := ⟨w3.heap.size, 1, none⟩) (Nat.lt_succ_self _)).trans q1
  have q2 := (hb4'.cell (p := ⟨w3.heap.size, 2, none⟩) (Nat.lt_succ_self _)).trans q2
  have hbm4 := up (up_alloc hbm3 _) hb4
  have hn4 : w3.heap.size < w4.heap.size := by have := hb4'.size; simp at this; omega
  have hr34 := ((hr3.alloc (Nat.le_refl _) (.cells #[.int .i64 (k : Int), .int .u64 (g : Int), .slice A3 b.length c3] 25)).below (hb4.mono (by simp))).more (Nat.le_of_lt hn4)
  have hrm4 := ((hrm3.alloc (Nat.le_refl _) (.cells #[.int .i64 (k : Int), .int .u64 (g : Int), .slice A3 b.length c3] 25)).below (hb4.mono (by simp))).more (Nat.le_of_lt hn4)
  clear hb4 hb4' hbm3 hrm3 hr3
  go_wp2_with fail
  refine (same_yes _ _ _ _ _ _ _ _ b _ w4.heap.size (by simp) (hr34.alloc (Nat.le_refl _) _) (hr4.alloc (Nat.le_refl _) _)).mono ?_
  rintro e w5 ⟨rfl, hb5⟩
  have hb5' : Below w4.heap.size w4 w5 := ((Below.refl _ _).alloc (Nat.le_refl _) _).trans (hb5.mono (by simp))
  have q0 := (hb5'.cell (p := ⟨w3.heap.size, 0, none⟩) hn4).trans q0
  have q1 := (hb5'.cell (p := ⟨w3.heap.size, 1, none⟩) hn4).trans q1
  have q2 := (hb5'.cell (p := ⟨w3.heap.size, 2, none⟩) hn4).trans q2
  have hr35 := (hr34.below hb5').more hb5'.size
  have hrm5 := (hrm4.below hb5').more hb5'.size
  have hbm5 := up hbm4 hb5'
  clear hb5 hb5' hbm4 hrm4 hr34 hr4
  go_wp2_with fail
  refine (Henc.out _ _ _ hr35).mono ?_
  rintro e w6 ⟨v6, rfl, hown6, hb6⟩
  obtain ⟨A6, c6, rfl, _, _, hr6⟩ := hown6.rd.bytes
  have hrm6 := (hrm5.below hb6).more hb6.size
  have s1 := run_string_rd (P := Try.prog) 23 9 5 Try.underlying23 Try.underlying5 Try.underlying9 hr6
  have s2 := run_string_rd (P := Try.prog) 23 9 5 Try.underlying23 Try.underlying5 Try.underlying9 hrm6
  go_wp2_with fail
  refine (lives04_any _).mono ?_
  rintro e w9 ⟨rfl, hb9⟩
  go_wp2_with fail
  go_ret
  exact ⟨rfl, up (up hbm5 hb6) hb9⟩
theorem pageReads_walk (no : Int) (v : Value) (l : List UInt8) (w : World) (_ : (Lit.int .i64 no).wf = true) (h : Rd w w.heap.size v (cellsB l)) :
    Calls Try.prog 4 #[.int .i64 no, v] w fun e w' => e = .returned (.bool true) ∧ Below w.heap.size w w' := by
  obtain ⟨m, hm, hfew⟩ := few_cut 260 v l w _ h (Nat.le_refl _) (by omega)
  by_cases h0 : pgErr no m = 0
  · exact pageReads_good v no w m hm hfew ((pgErr_ok _ _).1 h0)
  · exact pageReads_bad v no w m hm hfew _ rfl h0
end Go.Proofs.Ytnbmcecmdokogaa
