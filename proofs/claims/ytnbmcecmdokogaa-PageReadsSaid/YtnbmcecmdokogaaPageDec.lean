/-
  page.Decode, by contracts: which page any bytes are, or why they are none.
-/
import Derived.Test.YtnbmcecmdokogaaPageEnc
import Derived.WalkSpells
namespace Go.Proofs.Ytnbmcecmdokogaa
open Go.RowKit
/-- No page, by value. -/
abbrev pgZero : Value := .agg #[.int .i64 0, .int .u64 0, .slice none 0 0]
/-- The world behind Decode's result made. -/
abbrev pgW (w : World) : World := w.alloc (.cells #[.int .i64 0, .int .u64 0, .slice none 0 0] 25)
/-- A store into an elder block leaves what the call owns. -/
theorem Mine.other {w : World} {base : Nat} {e : TypeId} {v : Value} {xs : List Value} (h : Mine w base e v xs) {b i : Nat} {u : Value} (hb : b + 1 ≤ base) : Mine (w.setCell ⟨b, i, none⟩ u) base e v xs := by
  refine h.grown (Lib.grownBy_setCell w b i u) ?_
  rcases e0 : v.ownBlock with _ | k
  · exact .inl rfl
  · refine .inr fun e1 => ?_
    injection e1 with e1
    have := (h.block k e0).1
    omega
theorem fieldAt_byte (l : List UInt8) (a : Nat) : fieldAt l a 1 < 256 := by
  have h := ofBe_lt ((l.drop a).take 1) 0 0 (by simp)
  have h2 : ((l.drop a).take 1).length ≤ 1 := by simp; omega
  exact Nat.lt_of_lt_of_le h (by rw [Nat.zero_add]; exact Nat.pow_le_pow_right (by omega) h2)
set_option maxHeartbeats 1000000 in
theorem pgDec_short (no : Int) (A : Option Addr) (n c : Nat) (w : World) (hn : n ≠ 256) :
    Calls Try.prog 11 #[.int .i64 no, .slice A n c] w fun e w' => e = .returned (.tuple #[pgZero, .int .i64 9]) ∧ Below w.heap.size w w' := by
  have hb : ((n : Int) != 256) = true := by rw [bne_iff_ne]; omega
  clear hn
  go_enter Try.func11, Try.ntmps11
  go_wp2_with fail
  exact bodyPost_ret (v := .tuple #[pgZero, .int .i64 9]) (by simp [results, Try.results11, go_sem]) rfl ⟨rfl, ((Below.refl _ _).alloc (Nat.le_refl _) _)⟩
/-- The world's result block, as made, in a later world. -/
theorem pgW_later {w w' : World} (hb : Below (w.heap.size + 1) (pgW w) w') :
    w'.cell? ⟨w.heap.size, 0, none⟩ = some (.int .i64 0) ∧ w'.cell? ⟨w.heap.size, 1, none⟩ = some (.int .u64 0) ∧ w'.cell? ⟨w.heap.size, 2, none⟩ = some (.slice none 0 0) ∧
    w'.frozen? ⟨w.heap.size, 0, none⟩ = false ∧ w'.frozen? ⟨w.heap.size, 1, none⟩ = false ∧ w'.frozen? ⟨w.heap.size, 2, none⟩ = false := by
  have f : ∀ j, (pgW w).frozen? ⟨w.heap.size, j, none⟩ = false := fun j => World.frozen?_alloc_at _ _ _ _ rfl
  refine ⟨(hb.cell (p := ⟨w.heap.size, 0, none⟩) (Nat.lt_succ_self _)).trans ?_, (hb.cell (p := ⟨w.heap.size, 1, none⟩) (Nat.lt_succ_self _)).trans ?_, (hb.cell (p := ⟨w.heap.size, 2, none⟩) (Nat.lt_succ_self _)).trans ?_,
    (hb.frozen (p := ⟨w.heap.size, 0, none⟩) (Nat.lt_succ_self _)).trans (f 0), (hb.frozen (p := ⟨w.heap.size, 1, none⟩) (Nat.lt_succ_self _)).trans (f 1), (hb.frozen (p := ⟨w.heap.size, 2, none⟩) (Nat.lt_succ_self _)).trans (f 2)⟩
  · rw [World.cell?_alloc_mark]; rfl
  · rw [World.cell?_alloc_mark]; rfl
  · rw [World.cell?_alloc_mark]; rfl
set_option maxHeartbeats 1000000 in
theorem pgDec_front (no : Int) (A : Option Addr) (c : Nat) (l : List UInt8) (w : World) (B : Nat) (hr : Rd w B (.slice A l.length c) (cellsB l)) (hB : B ≤ w.heap.size) (hl : l.length = 256) (hfront : l.take 4 ≠ [83, 84, 78, 67]) :
    Calls Try.prog 11 #[.int .i64 no, .slice A l.length c] w fun e w' => e = .returned (.tuple #[pgZero, .int .i64 4]) ∧ Below w.heap.size w w' := by
  obtain ⟨_, _, e, g1, g2, _⟩ := hr.bytes
  injection e with e1 e2 e3
  subst e3
  clear e1 e2
  have hb : ((l.length : Int) != 256) = false := by rw [hl]; rfl
  have h4 : 4 ≤ l.length := by omega
  have r4 := hr.upto h4
  rw [cellsB_take] at r4
  have hs1 := run_string_kept (P := Try.prog) 23 9 5 Try.underlying23 Try.underlying5 Try.underlying9 (r4.more hB) ((Below.refl w.heap.size w).alloc (Nat.le_refl _) (.cells #[.int .i64 0, .int .u64 0, .slice none 0 0] 25))
  obtain ⟨m, hm⟩ : ∃ m, m = l.take 4 := ⟨_, rfl⟩
  rw [← hm] at hs1 hfront
  have hmm : (m == [83, 84, 78, 67]) = false := by simpa using hfront
  clear hm hl hr r4 hfront
  go_enter Try.func11, Try.ntmps11
  go_wp2_with fail
  exact bodyPost_ret (v := .tuple #[pgZero, .int .i64 4]) (by simp [results, Try.results11, go_sem]) rfl ⟨rfl, (Below.refl _ _).alloc (Nat.le_refl _) _⟩
set_option maxHeartbeats 1000000 in
theorem pgDec_version (no : Int) (A : Option Addr) (c : Nat) (l : List UInt8) (w : World) (B : Nat) (hr : Rd w B (.slice A l.length c) (cellsB l)) (hB : B ≤ w.heap.size) (hl : l.length = 256) (hfront : l.take 4 = [83, 84, 78, 67]) (hv : fieldAt l 4 1 ≠ 1) :
    Calls Try.prog 11 #[.int .i64 no, .slice A l.length c] w fun e w' => e = .returned (.tuple #[pgZero, .int .i64 12]) ∧ Below w.heap.size w w' := by
  obtain ⟨_, _, e, g1, g2, _⟩ := hr.bytes
  injection e with e1 e2 e3
  subst e3
  clear e1 e2
  have hb : ((l.length : Int) != 256) = false := by rw [hl]; rfl
  have h4 : 4 ≤ l.length := by omega
  have r4 := hr.upto h4
  rw [cellsB_take] at r4
  have hs1 := run_string_kept (P := Try.prog) 23 9 5 Try.underlying23 Try.underlying5 Try.underlying9 (r4.more hB) ((Below.refl w.heap.size w).alloc (Nat.le_refl _) (.cells #[.int .i64 0, .int .u64 0, .slice none 0 0] 25))
  obtain ⟨m, hm⟩ : ∃ m, m = l.take 4 := ⟨_, rfl⟩
  rw [← hm] at hs1 hfront
  have hmm : (m == [83, 84, 78, 67]) = true := by simpa using hfront
  have hl6 : 256 ≤ l.length := by omega
  have hrW : Rd (pgW w) (w.heap.size) (.slice A l.length c) (cellsB l) := (hr.alloc hB _).more hB
  have hv1 : ((fieldAt l 4 1 : Nat) != (1 : Int)) = true := by rw [bne_iff_ne]; omega
  have Hl := Lib.hid hl
  clear hm hl hr r4 hfront hv
  go_enter Try.func11, Try.ntmps11
  go_wp2_with fail
  refine (pgGet_any A c l 4 1 _ _ hrW (by omega) (by omega) (by omega)).mono ?_
  rintro e w' ⟨rfl, rfl⟩
  go_wp2_with fail
  exact bodyPost_ret (v := .tuple #[pgZero, .int .i64 12]) (by simp [results, Try.results11, go_sem]) rfl ⟨rfl, (Below.refl _ _).alloc (Nat.le_refl _) _⟩
set_option maxHeartbeats 1000000 in
theorem pgDec_sum (no : Int) (A : Option Addr) (c : Nat) (l : List UInt8) (w : World) (B : Nat) (hr : Rd w B (.slice A l.length c) (cellsB l)) (hB : B ≤ w.heap.size) (hl : l.length = 256) (hfront : l.take 4 = [83, 84, 78, 67]) (hv : fieldAt l 4 1 = 1) (hsum : fieldAt l 20 4 ≠ pgSum l) :
    Calls Try.prog 11 #[.int .i64 no, .slice A l.length c] w fun e w' => e = .returned (.tuple #[pgZero, .int .i64 5]) ∧ Below w.heap.size w w' := by
  obtain ⟨_, _, e, g1, g2, _⟩ := hr.bytes
  injection e with e1 e2 e3
  subst e3
  clear e1 e2
  have hb : ((l.length : Int) != 256) = false := by rw [hl]; rfl
  have h4 : 4 ≤ l.length := by omega
  have r4 := hr.upto h4
  rw [cellsB_take] at r4
  have hs1 := run_string_kept (P := Try.prog) 23 9 5 Try.underlying23 Try.underlying5 Try.underlying9 (r4.more hB) ((Below.refl w.heap.size w).alloc (Nat.le_refl _) (.cells #[.int .i64 0, .int .u64 0, .slice none 0 0] 25))
  obtain ⟨m, hm⟩ : ∃ m, m = l.take 4 := ⟨_, rfl⟩
  rw [← hm] at hs1 hfront
  have hmm : (m == [83, 84, 78, 67]) = true := by simpa using hfront
  have hl6 : 256 ≤ l.length := by omega
  have hrW : Rd (pgW w) (w.heap.size) (.slice A l.length c) (cellsB l) := (hr.alloc hB _).more hB
  have hv1 : ((fieldAt l 4 1 : Nat) != (1 : Int)) = false := by rw [hv]; rfl
  have Hl := Lib.hid hl
  clear hm hl hr r4 hfront hv
  have hs2 : (((fieldAt l 20 4 : Nat) : Int) != ((pgSum l : Nat) : Int)) = true := by rw [bne_iff_ne]; omega
  clear hsum
  go_enter Try.func11, Try.ntmps11
  go_wp2_with fail
  refine (pgGet_any A c l 4 1 _ _ hrW (by omega) (by omega) (by omega)).mono ?_
  rintro e w' ⟨rfl, rfl⟩
  go_wp2_with fail
  refine (pgGet_any A c l 20 4 _ _ hrW (by omega) (by omega) (by omega)).mono ?_
  rintro e w' ⟨rfl, rfl⟩
  go_wp2_with fail
  refine (pgSum_any A c l _ _ hrW (by simp) Hl.out).mono ?_
  rintro e w1 ⟨rfl, hb1⟩
  have hB1 : Below (w.heap.size + 1) (pgW w) w1 := by simpa using hb1
  have hW1 : Below w.heap.size w w1 := ((Below.refl _ _).alloc (Nat.le_refl _) _).trans (hB1.mono (Nat.le_succ _))
  have hr1 : Rd w1 w.heap.size (.slice A l.length c) (cellsB l) := hrW.below (hB1.mono (Nat.le_succ _))
  have hz1 : w.heap.size + 1 ≤ w1.heap.size := by have := hB1.size; simpa using this
  obtain ⟨q0, q1, q2, f0, f1, f2⟩ := pgW_later hB1
  go_wp2_with fail
  exact bodyPost_ret (v := .tuple #[pgZero, .int .i64 5]) (by simp [results, Try.results11, go_sem, q0, q1, q2]) rfl ⟨rfl, ((hW1.setCell (Nat.le_refl _) _).setCell (Nat.le_refl _) _).setCell (Nat.le_refl _) _⟩
set_option maxHeartbeats 1000000 in
theorem pgDec_form1 (no : Int) (A : Option Addr) (c : Nat) (l : List UInt8) (w : World) (B : Nat) (hr : Rd w B (.slice A l.length c) (cellsB l)) (hB : B ≤ w.heap.size) (hl : l.length = 256) (hfront : l.take 4 = [83, 84, 78, 67]) (hv : fieldAt l 4 1 = 1) (hsum : fieldAt l 20 4 = pgSum l) (hk : fieldAt l 5 1 < 1 ∨ 4 < fieldAt l 5 1) (hlong : 232 < fieldAt l 6 2) :
    Calls Try.prog 11 #[.int .i64 no, .slice A l.length c] w fun e w' => e = .returned (.tuple #[pgZero, .int .i64 4]) ∧ Below w.heap.size w w' := by
  obtain ⟨_, _, e, g1, g2, _⟩ := hr.bytes
  injection e with e1 e2 e3
  subst e3
  clear e1 e2
  have hb : ((l.length : Int) != 256) = false := by rw [hl]; rfl
  have h4 : 4 ≤ l.length := by omega
  have r4 := hr.upto h4
  rw [cellsB_take] at r4
  have hs1 := run_string_kept (P := Try.prog) 23 9 5 Try.underlying23 Try.underlying5 Try.underlying9 (r4.more hB) ((Below.refl w.heap.size w).alloc (Nat.le_refl _) (.cells #[.int .i64 0, .int .u64 0, .slice none 0 0] 25))
  obtain ⟨m, hm⟩ : ∃ m, m = l.take 4 := ⟨_, rfl⟩
  rw [← hm] at hs1 hfront
  have hmm : (m == [83, 84, 78, 67]) = true := by simpa using hfront
  have hl6 : 256 ≤ l.length := by omega
  have hrW : Rd (pgW w) (w.heap.size) (.slice A l.length c) (cellsB l) := (hr.alloc hB _).more hB
  have hv1 : ((fieldAt l 4 1 : Nat) != (1 : Int)) = false := by rw [hv]; rfl
  have Hl := Lib.hid hl
  clear hm hl hr r4 hfront hv
  have hs2 : (((fieldAt l 20 4 : Nat) : Int) != ((pgSum l : Nat) : Int)) = false := by rw [hsum]; simp
  have hk256 := fieldAt_byte l 5
  have hk256' : ((fieldAt l 5 1 : Nat) : Int) < 256 := by omega
  clear hsum hk256
  go_enter Try.func11, Try.ntmps11
  go_wp2_with fail
  refine (pgGet_any A c l 4 1 _ _ hrW (by omega) (by omega) (by omega)).mono ?_
  rintro e w' ⟨rfl, rfl⟩
  go_wp2_with fail
  refine (pgGet_any A c l 20 4 _ _ hrW (by omega) (by omega) (by omega)).mono ?_
  rintro e w' ⟨rfl, rfl⟩
  go_wp2_with fail
  refine (pgSum_any A c l _ _ hrW (by simp) Hl.out).mono ?_
  rintro e w1 ⟨rfl, hb1⟩
  have hB1 : Below (w.heap.size + 1) (pgW w) w1 := by simpa using hb1
  have hW1 : Below w.heap.size w w1 := ((Below.refl _ _).alloc (Nat.le_refl _) _).trans (hB1.mono (Nat.le_succ _))
  have hr1 : Rd w1 w.heap.size (.slice A l.length c) (cellsB l) := hrW.below (hB1.mono (Nat.le_succ _))
  have hz1 : w.heap.size + 1 ≤ w1.heap.size := by have := hB1.size; simpa using this
  go_wp2_with fail
  refine (pgGet_any A c l 5 1 _ _ hr1 (by omega) (by omega) (by omega)).mono ?_
  rintro e w' ⟨rfl, rfl⟩
  go_wp2_with fail
  refine (pgBodyOf_long A c l _ _ hr1 Hl.out hlong).mono ?_
  rintro e w' ⟨rfl, rfl⟩
  obtain ⟨q0, q1, q2, f0, f1, f2⟩ := pgW_later hB1
  go_wp2_with fail
  refine (pgKind_no _ _ (by omega)).mono ?_
  rintro e w' ⟨rfl, rfl⟩
  go_wp2_with fail
  exact bodyPost_ret (v := .tuple #[pgZero, .int .i64 4]) (by simp [results, Try.results11, go_sem, q0, q1, q2]) rfl ⟨rfl, ((hW1.setCell (Nat.le_refl _) _).setCell (Nat.le_refl _) _).setCell (Nat.le_refl _) _⟩
set_option maxHeartbeats 1000000 in
theorem pgDec_form2 (no : Int) (A : Option Addr) (c : Nat) (l : List UInt8) (w : World) (B : Nat) (hr : Rd w B (.slice A l.length c) (cellsB l)) (hB : B ≤ w.heap.size) (hl : l.length = 256) (hfront : l.take 4 = [83, 84, 78, 67]) (hv : fieldAt l 4 1 = 1) (hsum : fieldAt l 20 4 = pgSum l) (hk : fieldAt l 5 1 < 1 ∨ 4 < fieldAt l 5 1) (hlen : fieldAt l 6 2 ≤ 232) :
    Calls Try.prog 11 #[.int .i64 no, .slice A l.length c] w fun e w' => e = .returned (.tuple #[pgZero, .int .i64 4]) ∧ Below w.heap.size w w' := by
  obtain ⟨_, _, e, g1, g2, _⟩ := hr.bytes
  injection e with e1 e2 e3
  subst e3
  clear e1 e2
  have hb : ((l.length : Int) != 256) = false := by rw [hl]; rfl
  have h4 : 4 ≤ l.length := by omega
  have r4 := hr.upto h4
  rw [cellsB_take] at r4
  have hs1 := run_string_kept (P := Try.prog) 23 9 5 Try.underlying23 Try.underlying5 Try.underlying9 (r4.more hB) ((Below.refl w.heap.size w).alloc (Nat.le_refl _) (.cells #[.int .i64 0, .int .u64 0, .slice none 0 0] 25))
  obtain ⟨m, hm⟩ : ∃ m, m = l.take 4 := ⟨_, rfl⟩
  rw [← hm] at hs1 hfront
  have hmm : (m == [83, 84, 78, 67]) = true := by simpa using hfront
  have hl6 : 256 ≤ l.length := by omega
  have hrW : Rd (pgW w) (w.heap.size) (.slice A l.length c) (cellsB l) := (hr.alloc hB _).more hB
  have hv1 : ((fieldAt l 4 1 : Nat) != (1 : Int)) = false := by rw [hv]; rfl
  have Hl := Lib.hid hl
  clear hm hl hr r4 hfront hv
  have hs2 : (((fieldAt l 20 4 : Nat) : Int) != ((pgSum l : Nat) : Int)) = false := by rw [hsum]; simp
  have hk256 := fieldAt_byte l 5
  have hk256' : ((fieldAt l 5 1 : Nat) : Int) < 256 := by omega
  clear hsum hk256
  go_enter Try.func11, Try.ntmps11
  go_wp2_with fail
  refine (pgGet_any A c l 4 1 _ _ hrW (by omega) (by omega) (by omega)).mono ?_
  rintro e w' ⟨rfl, rfl⟩
  go_wp2_with fail
  refine (pgGet_any A c l 20 4 _ _ hrW (by omega) (by omega) (by omega)).mono ?_
  rintro e w' ⟨rfl, rfl⟩
  go_wp2_with fail
  refine (pgSum_any A c l _ _ hrW (by simp) Hl.out).mono ?_
  rintro e w1 ⟨rfl, hb1⟩
  have hB1 : Below (w.heap.size + 1) (pgW w) w1 := by simpa using hb1
  have hW1 : Below w.heap.size w w1 := ((Below.refl _ _).alloc (Nat.le_refl _) _).trans (hB1.mono (Nat.le_succ _))
  have hr1 : Rd w1 w.heap.size (.slice A l.length c) (cellsB l) := hrW.below (hB1.mono (Nat.le_succ _))
  have hz1 : w.heap.size + 1 ≤ w1.heap.size := by have := hB1.size; simpa using this
  go_wp2_with fail
  refine (pgGet_any A c l 5 1 _ _ hr1 (by omega) (by omega) (by omega)).mono ?_
  rintro e w' ⟨rfl, rfl⟩
  go_wp2_with fail
  refine (pgBodyOf_any A c l _ _ hr1 (Nat.le_trans (Nat.le_succ _) hz1) Hl.out hlen).mono ?_
  rintro e w2 ⟨v', rfl, hown, hb2⟩
  have hB2 : Below (w.heap.size + 1) (pgW w) w2 := hB1.trans (hb2.mono hz1)
  have hW2 : Below w.heap.size w w2 := hW1.trans (hb2.mono (Nat.le_trans (Nat.le_succ _) hz1))
  have hr2 : Rd w2 w.heap.size (.slice A l.length c) (cellsB l) := hr1.below (hb2.mono (Nat.le_trans (Nat.le_succ _) hz1))
  obtain ⟨q0, q1, q2, f0, f1, f2⟩ := pgW_later hB2
  go_wp2_with fail
  refine (pgKind_no _ _ (by omega)).mono ?_
  rintro e w' ⟨rfl, rfl⟩
  go_wp2_with fail
  exact bodyPost_ret (v := .tuple #[pgZero, .int .i64 4]) (by simp [results, Try.results11, go_sem, q0, q1, q2]) rfl ⟨rfl, ((hW2.setCell (Nat.le_refl _) _).setCell (Nat.le_refl _) _).setCell (Nat.le_refl _) _⟩
set_option maxHeartbeats 1000000 in
theorem pgDec_form3 (no : Int) (A : Option Addr) (c : Nat) (l : List UInt8) (w : World) (B : Nat) (hr : Rd w B (.slice A l.length c) (cellsB l)) (hB : B ≤ w.heap.size) (hl : l.length = 256) (hfront : l.take 4 = [83, 84, 78, 67]) (hv : fieldAt l 4 1 = 1) (hsum : fieldAt l 20 4 = pgSum l) (hk1 : 1 ≤ fieldAt l 5 1) (hk4 : fieldAt l 5 1 ≤ 4) (hlong : 232 < fieldAt l 6 2) :
    Calls Try.prog 11 #[.int .i64 no, .slice A l.length c] w fun e w' => e = .returned (.tuple #[pgZero, .int .i64 4]) ∧ Below w.heap.size w w' := by
  obtain ⟨_, _, e, g1, g2, _⟩ := hr.bytes
  injection e with e1 e2 e3
  subst e3
  clear e1 e2
  have hb : ((l.length : Int) != 256) = false := by rw [hl]; rfl
  have h4 : 4 ≤ l.length := by omega
  have r4 := hr.upto h4
  rw [cellsB_take] at r4
  have hs1 := run_string_kept (P := Try.prog) 23 9 5 Try.underlying23 Try.underlying5 Try.underlying9 (r4.more hB) ((Below.refl w.heap.size w).alloc (Nat.le_refl _) (.cells #[.int .i64 0, .int .u64 0, .slice none 0 0] 25))
  obtain ⟨m, hm⟩ : ∃ m, m = l.take 4 := ⟨_, rfl⟩
  rw [← hm] at hs1 hfront
  have hmm : (m == [83, 84, 78, 67]) = true := by simpa using hfront
  have hl6 : 256 ≤ l.length := by omega
  have hrW : Rd (pgW w) (w.heap.size) (.slice A l.length c) (cellsB l) := (hr.alloc hB _).more hB
  have hv1 : ((fieldAt l 4 1 : Nat) != (1 : Int)) = false := by rw [hv]; rfl
  have Hl := Lib.hid hl
  clear hm hl hr r4 hfront hv
  have hs2 : (((fieldAt l 20 4 : Nat) : Int) != ((pgSum l : Nat) : Int)) = false := by rw [hsum]; simp
  have hk256 := fieldAt_byte l 5
  have hk256' : ((fieldAt l 5 1 : Nat) : Int) < 256 := by omega
  clear hsum hk256
  go_enter Try.func11, Try.ntmps11
  go_wp2_with fail
  refine (pgGet_any A c l 4 1 _ _ hrW (by omega) (by omega) (by omega)).mono ?_
  rintro e w' ⟨rfl, rfl⟩
  go_wp2_with fail
  refine (pgGet_any A c l 20 4 _ _ hrW (by omega) (by omega) (by omega)).mono ?_
  rintro e w' ⟨rfl, rfl⟩
  go_wp2_with fail
  refine (pgSum_any A c l _ _ hrW (by simp) Hl.out).mono ?_
  rintro e w1 ⟨rfl, hb1⟩
  have hB1 : Below (w.heap.size + 1) (pgW w) w1 := by simpa using hb1
  have hW1 : Below w.heap.size w w1 := ((Below.refl _ _).alloc (Nat.le_refl _) _).trans (hB1.mono (Nat.le_succ _))
  have hr1 : Rd w1 w.heap.size (.slice A l.length c) (cellsB l) := hrW.below (hB1.mono (Nat.le_succ _))
  have hz1 : w.heap.size + 1 ≤ w1.heap.size := by have := hB1.size; simpa using this
  go_wp2_with fail
  refine (pgGet_any A c l 5 1 _ _ hr1 (by omega) (by omega) (by omega)).mono ?_
  rintro e w' ⟨rfl, rfl⟩
  go_wp2_with fail
  refine (pgBodyOf_long A c l _ _ hr1 Hl.out hlong).mono ?_
  rintro e w' ⟨rfl, rfl⟩
  obtain ⟨q0, q1, q2, f0, f1, f2⟩ := pgW_later hB1
  go_wp2_with fail
  refine (pgKind_yes _ _ (by omega) (by omega)).mono ?_
  rintro e w' ⟨rfl, rfl⟩
  go_wp2_with fail
  exact bodyPost_ret (v := .tuple #[pgZero, .int .i64 4]) (by simp [results, Try.results11, go_sem, q0, q1, q2]) rfl ⟨rfl, ((hW1.setCell (Nat.le_refl _) _).setCell (Nat.le_refl _) _).setCell (Nat.le_refl _) _⟩
set_option maxHeartbeats 1000000 in
theorem pgDec_form4 (no : Int) (A : Option Addr) (c : Nat) (l : List UInt8) (w : World) (B : Nat) (hr : Rd w B (.slice A l.length c) (cellsB l)) (hB : B ≤ w.heap.size) (hl : l.length = 256) (hfront : l.take 4 = [83, 84, 78, 67]) (hv : fieldAt l 4 1 = 1) (hsum : fieldAt l 20 4 = pgSum l) (hk1 : 1 ≤ fieldAt l 5 1) (hk4 : fieldAt l 5 1 ≤ 4) (hlen : fieldAt l 6 2 ≤ 232) (htail : pgTail l = false) :
    Calls Try.prog 11 #[.int .i64 no, .slice A l.length c] w fun e w' => e = .returned (.tuple #[pgZero, .int .i64 4]) ∧ Below w.heap.size w w' := by
  obtain ⟨_, _, e, g1, g2, _⟩ := hr.bytes
  injection e with e1 e2 e3
  subst e3
  clear e1 e2
  have hb : ((l.length : Int) != 256) = false := by rw [hl]; rfl
  have h4 : 4 ≤ l.length := by omega
  have r4 := hr.upto h4
  rw [cellsB_take] at r4
  have hs1 := run_string_kept (P := Try.prog) 23 9 5 Try.underlying23 Try.underlying5 Try.underlying9 (r4.more hB) ((Below.refl w.heap.size w).alloc (Nat.le_refl _) (.cells #[.int .i64 0, .int .u64 0, .slice none 0 0] 25))
  obtain ⟨m, hm⟩ : ∃ m, m = l.take 4 := ⟨_, rfl⟩
  rw [← hm] at hs1 hfront
  have hmm : (m == [83, 84, 78, 67]) = true := by simpa using hfront
  have hl6 : 256 ≤ l.length := by omega
  have hrW : Rd (pgW w) (w.heap.size) (.slice A l.length c) (cellsB l) := (hr.alloc hB _).more hB
  have hv1 : ((fieldAt l 4 1 : Nat) != (1 : Int)) = false := by rw [hv]; rfl
  have Hl := Lib.hid hl
  clear hm hl hr r4 hfront hv
  have hs2 : (((fieldAt l 20 4 : Nat) : Int) != ((pgSum l : Nat) : Int)) = false := by rw [hsum]; simp
  have hk256 := fieldAt_byte l 5
  have hk256' : ((fieldAt l 5 1 : Nat) : Int) < 256 := by omega
  clear hsum hk256
  have Htail := Lib.hid htail
  clear htail
  go_enter Try.func11, Try.ntmps11
  go_wp2_with fail
  refine (pgGet_any A c l 4 1 _ _ hrW (by omega) (by omega) (by omega)).mono ?_
  rintro e w' ⟨rfl, rfl⟩
  go_wp2_with fail
  refine (pgGet_any A c l 20 4 _ _ hrW (by omega) (by omega) (by omega)).mono ?_
  rintro e w' ⟨rfl, rfl⟩
  go_wp2_with fail
  refine (pgSum_any A c l _ _ hrW (by simp) Hl.out).mono ?_
  rintro e w1 ⟨rfl, hb1⟩
  have hB1 : Below (w.heap.size + 1) (pgW w) w1 := by simpa using hb1
  have hW1 : Below w.heap.size w w1 := ((Below.refl _ _).alloc (Nat.le_refl _) _).trans (hB1.mono (Nat.le_succ _))
  have hr1 : Rd w1 w.heap.size (.slice A l.length c) (cellsB l) := hrW.below (hB1.mono (Nat.le_succ _))
  have hz1 : w.heap.size + 1 ≤ w1.heap.size := by have := hB1.size; simpa using this
  go_wp2_with fail
  refine (pgGet_any A c l 5 1 _ _ hr1 (by omega) (by omega) (by omega)).mono ?_
  rintro e w' ⟨rfl, rfl⟩
  go_wp2_with fail
  refine (pgBodyOf_any A c l _ _ hr1 (Nat.le_trans (Nat.le_succ _) hz1) Hl.out hlen).mono ?_
  rintro e w2 ⟨v', rfl, hown, hb2⟩
  rw [Htail.out]
  have hB2 : Below (w.heap.size + 1) (pgW w) w2 := hB1.trans (hb2.mono hz1)
  have hW2 : Below w.heap.size w w2 := hW1.trans (hb2.mono (Nat.le_trans (Nat.le_succ _) hz1))
  have hr2 : Rd w2 w.heap.size (.slice A l.length c) (cellsB l) := hr1.below (hb2.mono (Nat.le_trans (Nat.le_succ _) hz1))
  obtain ⟨q0, q1, q2, f0, f1, f2⟩ := pgW_later hB2
  go_wp2_with fail
  refine (pgKind_yes _ _ (by omega) (by omega)).mono ?_
  rintro e w' ⟨rfl, rfl⟩
  go_wp2_with fail
  exact bodyPost_ret (v := .tuple #[pgZero, .int .i64 4]) (by simp [results, Try.results11, go_sem, q0, q1, q2]) rfl ⟨rfl, ((hW2.setCell (Nat.le_refl _) _).setCell (Nat.le_refl _) _).setCell (Nat.le_refl _) _⟩
set_option maxHeartbeats 1000000 in
theorem pgDec_num1 (no : Int) (A : Option Addr) (c : Nat) (l : List UInt8) (w : World) (B : Nat) (hr : Rd w B (.slice A l.length c) (cellsB l)) (hB : B ≤ w.heap.size) (hl : l.length = 256) (hfront : l.take 4 = [83, 84, 78, 67]) (hv : fieldAt l 4 1 = 1) (hsum : fieldAt l 20 4 = pgSum l) (hk1 : 1 ≤ fieldAt l 5 1) (hk4 : fieldAt l 5 1 ≤ 4) (hlen : fieldAt l 6 2 ≤ 232) (htail : pgTail l = true) (hno : no < 0 ∨ 1599 < no) :
    Calls Try.prog 11 #[.int .i64 no, .slice A l.length c] w fun e w' => e = .returned (.tuple #[pgZero, .int .i64 1]) ∧ Below w.heap.size w w' := by
  obtain ⟨_, _, e, g1, g2, _⟩ := hr.bytes
  injection e with e1 e2 e3
  subst e3
  clear e1 e2
  have hb : ((l.length : Int) != 256) = false := by rw [hl]; rfl
  have h4 : 4 ≤ l.length := by omega
  have r4 := hr.upto h4
  rw [cellsB_take] at r4
  have hs1 := run_string_kept (P := Try.prog) 23 9 5 Try.underlying23 Try.underlying5 Try.underlying9 (r4.more hB) ((Below.refl w.heap.size w).alloc (Nat.le_refl _) (.cells #[.int .i64 0, .int .u64 0, .slice none 0 0] 25))
  obtain ⟨m, hm⟩ : ∃ m, m = l.take 4 := ⟨_, rfl⟩
  rw [← hm] at hs1 hfront
  have hmm : (m == [83, 84, 78, 67]) = true := by simpa using hfront
  have hl6 : 256 ≤ l.length := by omega
  have hrW : Rd (pgW w) (w.heap.size) (.slice A l.length c) (cellsB l) := (hr.alloc hB _).more hB
  have hv1 : ((fieldAt l 4 1 : Nat) != (1 : Int)) = false := by rw [hv]; rfl
  have Hl := Lib.hid hl
  clear hm hl hr r4 hfront hv
  have hs2 : (((fieldAt l 20 4 : Nat) : Int) != ((pgSum l : Nat) : Int)) = false := by rw [hsum]; simp
  have hk256 := fieldAt_byte l 5
  have hk256' : ((fieldAt l 5 1 : Nat) : Int) < 256 := by omega
  clear hsum hk256
  have Htail := Lib.hid htail
  clear htail
  go_enter Try.func11, Try.ntmps11
  go_wp2_with fail
  refine (pgGet_any A c l 4 1 _ _ hrW (by omega) (by omega) (by omega)).mono ?_
  rintro e w' ⟨rfl, rfl⟩
  go_wp2_with fail
  refine (pgGet_any A c l 20 4 _ _ hrW (by omega) (by omega) (by omega)).mono ?_
  rintro e w' ⟨rfl, rfl⟩
  go_wp2_with fail
  refine (pgSum_any A c l _ _ hrW (by simp) Hl.out).mono ?_
  rintro e w1 ⟨rfl, hb1⟩
  have hB1 : Below (w.heap.size + 1) (pgW w) w1 := by simpa using hb1
  have hW1 : Below w.heap.size w w1 := ((Below.refl _ _).alloc (Nat.le_refl _) _).trans (hB1.mono (Nat.le_succ _))
  have hr1 : Rd w1 w.heap.size (.slice A l.length c) (cellsB l) := hrW.below (hB1.mono (Nat.le_succ _))
  have hz1 : w.heap.size + 1 ≤ w1.heap.size := by have := hB1.size; simpa using this
  go_wp2_with fail
  refine (pgGet_any A c l 5 1 _ _ hr1 (by omega) (by omega) (by omega)).mono ?_
  rintro e w' ⟨rfl, rfl⟩
  go_wp2_with fail
  refine (pgBodyOf_any A c l _ _ hr1 (Nat.le_trans (Nat.le_succ _) hz1) Hl.out hlen).mono ?_
  rintro e w2 ⟨v', rfl, hown, hb2⟩
  rw [Htail.out]
  rw [pgCut_yes Htail.out] at hown
  have hB2 : Below (w.heap.size + 1) (pgW w) w2 := hB1.trans (hb2.mono hz1)
  have hW2 : Below w.heap.size w w2 := hW1.trans (hb2.mono (Nat.le_trans (Nat.le_succ _) hz1))
  have hr2 : Rd w2 w.heap.size (.slice A l.length c) (cellsB l) := hr1.below (hb2.mono (Nat.le_trans (Nat.le_succ _) hz1))
  obtain ⟨q0, q1, q2, f0, f1, f2⟩ := pgW_later hB2
  go_wp2_with fail
  refine (pgKind_yes _ _ (by omega) (by omega)).mono ?_
  rintro e w' ⟨rfl, rfl⟩
  go_wp2_with fail
  refine (pgNum_no _ _ hno).mono ?_
  rintro e w' ⟨rfl, rfl⟩
  go_wp2_with fail
  exact bodyPost_ret (v := .tuple #[pgZero, .int .i64 1]) (by simp [results, Try.results11, go_sem, q0, q1, q2]) rfl ⟨rfl, ((hW2.setCell (Nat.le_refl _) _).setCell (Nat.le_refl _) _).setCell (Nat.le_refl _) _⟩
set_option maxHeartbeats 1000000 in
theorem pgDec_num2 (no : Int) (A : Option Addr) (c : Nat) (l : List UInt8) (w : World) (B : Nat) (hr : Rd w B (.slice A l.length c) (cellsB l)) (hB : B ≤ w.heap.size) (hl : l.length = 256) (hfront : l.take 4 = [83, 84, 78, 67]) (hv : fieldAt l 4 1 = 1) (hsum : fieldAt l 20 4 = pgSum l) (hk1 : 1 ≤ fieldAt l 5 1) (hk4 : fieldAt l 5 1 ≤ 4) (hlen : fieldAt l 6 2 ≤ 232) (htail : pgTail l = true) (hn1 : 0 ≤ no) (hn2 : no ≤ 1599) (hne : (fieldAt l 8 4 : Int) ≠ no) :
    Calls Try.prog 11 #[.int .i64 no, .slice A l.length c] w fun e w' => e = .returned (.tuple #[pgZero, .int .i64 1]) ∧ Below w.heap.size w w' := by
  obtain ⟨_, _, e, g1, g2, _⟩ := hr.bytes
  injection e with e1 e2 e3
  subst e3
  clear e1 e2
  have hb : ((l.length : Int) != 256) = false := by rw [hl]; rfl
  have h4 : 4 ≤ l.length := by omega
  have r4 := hr.upto h4
  rw [cellsB_take] at r4
  have hs1 := run_string_kept (P := Try.prog) 23 9 5 Try.underlying23 Try.underlying5 Try.underlying9 (r4.more hB) ((Below.refl w.heap.size w).alloc (Nat.le_refl _) (.cells #[.int .i64 0, .int .u64 0, .slice none 0 0] 25))
  obtain ⟨m, hm⟩ : ∃ m, m = l.take 4 := ⟨_, rfl⟩
  rw [← hm] at hs1 hfront
  have hmm : (m == [83, 84, 78, 67]) = true := by simpa using hfront
  have hl6 : 256 ≤ l.length := by omega
  have hrW : Rd (pgW w) (w.heap.size) (.slice A l.length c) (cellsB l) := (hr.alloc hB _).more hB
  have hv1 : ((fieldAt l 4 1 : Nat) != (1 : Int)) = false := by rw [hv]; rfl
  have Hl := Lib.hid hl
  clear hm hl hr r4 hfront hv
  have hs2 : (((fieldAt l 20 4 : Nat) : Int) != ((pgSum l : Nat) : Int)) = false := by rw [hsum]; simp
  have hk256 := fieldAt_byte l 5
  have hk256' : ((fieldAt l 5 1 : Nat) : Int) < 256 := by omega
  clear hsum hk256
  have Htail := Lib.hid htail
  clear htail
  have hne1 : (((fieldAt l 8 4 : Nat) : Int) != no) = true := by rw [bne_iff_ne]; exact hne
  clear hne
  go_enter Try.func11, Try.ntmps11
  go_wp2_with fail
  refine (pgGet_any A c l 4 1 _ _ hrW (by omega) (by omega) (by omega)).mono ?_
  rintro e w' ⟨rfl, rfl⟩
  go_wp2_with fail
  refine (pgGet_any A c l 20 4 _ _ hrW (by omega) (by omega) (by omega)).mono ?_
  rintro e w' ⟨rfl, rfl⟩
  go_wp2_with fail
  refine (pgSum_any A c l _ _ hrW (by simp) Hl.out).mono ?_
  rintro e w1 ⟨rfl, hb1⟩
  have hB1 : Below (w.heap.size + 1) (pgW w) w1 := by simpa using hb1
  have hW1 : Below w.heap.size w w1 := ((Below.refl _ _).alloc (Nat.le_refl _) _).trans (hB1.mono (Nat.le_succ _))
  have hr1 : Rd w1 w.heap.size (.slice A l.length c) (cellsB l) := hrW.below (hB1.mono (Nat.le_succ _))
  have hz1 : w.heap.size + 1 ≤ w1.heap.size := by have := hB1.size; simpa using this
  go_wp2_with fail
  refine (pgGet_any A c l 5 1 _ _ hr1 (by omega) (by omega) (by omega)).mono ?_
  rintro e w' ⟨rfl, rfl⟩
  go_wp2_with fail
  refine (pgBodyOf_any A c l _ _ hr1 (Nat.le_trans (Nat.le_succ _) hz1) Hl.out hlen).mono ?_
  rintro e w2 ⟨v', rfl, hown, hb2⟩
  rw [Htail.out]
  rw [pgCut_yes Htail.out] at hown
  have hB2 : Below (w.heap.size + 1) (pgW w) w2 := hB1.trans (hb2.mono hz1)
  have hW2 : Below w.heap.size w w2 := hW1.trans (hb2.mono (Nat.le_trans (Nat.le_succ _) hz1))
  have hr2 : Rd w2 w.heap.size (.slice A l.length c) (cellsB l) := hr1.below (hb2.mono (Nat.le_trans (Nat.le_succ _) hz1))
  obtain ⟨q0, q1, q2, f0, f1, f2⟩ := pgW_later hB2
  go_wp2_with fail
  refine (pgKind_yes _ _ (by omega) (by omega)).mono ?_
  rintro e w' ⟨rfl, rfl⟩
  go_wp2_with fail
  refine (pgNum_yes _ _ hn1 hn2).mono ?_
  rintro e w' ⟨rfl, rfl⟩
  go_wp2_with fail
  refine (pgGet_any A c l 8 4 _ _ hr2 (by omega) (by omega) (by omega)).mono ?_
  rintro e w' ⟨rfl, rfl⟩
  go_wp2_with fail
  exact bodyPost_ret (v := .tuple #[pgZero, .int .i64 1]) (by simp [results, Try.results11, go_sem, q0, q1, q2]) rfl ⟨rfl, ((hW2.setCell (Nat.le_refl _) _).setCell (Nat.le_refl _) _).setCell (Nat.le_refl _) _⟩
set_option maxHeartbeats 1000000 in
theorem pgDec_ok (no : Int) (A : Option Addr) (c : Nat) (l : List UInt8) (w : World) (B : Nat) (hr : Rd w B (.slice A l.length c) (cellsB l)) (hB : B ≤ w.heap.size) (hl : l.length = 256) (hfront : l.take 4 = [83, 84, 78, 67]) (hv : fieldAt l 4 1 = 1) (hsum : fieldAt l 20 4 = pgSum l) (hk1 : 1 ≤ fieldAt l 5 1) (hk4 : fieldAt l 5 1 ≤ 4) (hlen : fieldAt l 6 2 ≤ 232) (htail : pgTail l = true) (hn1 : 0 ≤ no) (hn2 : no ≤ 1599) (hne : (fieldAt l 8 4 : Int) = no) :
    Calls Try.prog 11 #[.int .i64 no, .slice A l.length c] w fun e w' => ∃ v', e = .returned (.tuple #[.agg #[.int .i64 (fieldAt l 5 1 : Nat), .int .u64 (fieldAt l 12 8 : Nat), v'], .int .i64 0]) ∧ Mine w' w.heap.size 5 v' (cellsB (pgBody l)) ∧ Below w.heap.size w w' := by
  obtain ⟨_, _, e, g1, g2, _⟩ := hr.bytes
  injection e with e1 e2 e3
  subst e3
  clear e1 e2
  have hb : ((l.length : Int) != 256) = false := by rw [hl]; rfl
  have h4 : 4 ≤ l.length := by omega
  have r4 := hr.upto h4
  rw [cellsB_take] at r4
  have hs1 := run_string_kept (P := Try.prog) 23 9 5 Try.underlying23 Try.underlying5 Try.underlying9 (r4.more hB) ((Below.refl w.heap.size w).alloc (Nat.le_refl _) (.cells #[.int .i64 0, .int .u64 0, .slice none 0 0] 25))
  obtain ⟨m, hm⟩ : ∃ m, m = l.take 4 := ⟨_, rfl⟩
  rw [← hm] at hs1 hfront
  have hmm : (m == [83, 84, 78, 67]) = true := by simpa using hfront
  have hl6 : 256 ≤ l.length := by omega
  have hrW : Rd (pgW w) (w.heap.size) (.slice A l.length c) (cellsB l) := (hr.alloc hB _).more hB
  have hv1 : ((fieldAt l 4 1 : Nat) != (1 : Int)) = false := by rw [hv]; rfl
  have Hl := Lib.hid hl
  clear hm hl hr r4 hfront hv
  have hs2 : (((fieldAt l 20 4 : Nat) : Int) != ((pgSum l : Nat) : Int)) = false := by rw [hsum]; simp
  have hk256 := fieldAt_byte l 5
  have hk256' : ((fieldAt l 5 1 : Nat) : Int) < 256 := by omega
  clear hsum hk256
  have Htail := Lib.hid htail
  clear htail
  have hne1 : (((fieldAt l 8 4 : Nat) : Int) != no) = false := by rw [hne]; simp
  clear hne
  go_enter Try.func11, Try.ntmps11
  go_wp2_with fail
  refine (pgGet_any A c l 4 1 _ _ hrW (by omega) (by omega) (by omega)).mono ?_
  rintro e w' ⟨rfl, rfl⟩
  go_wp2_with fail
  refine (pgGet_any A c l 20 4 _ _ hrW (by omega) (by omega) (by omega)).mono ?_
  rintro e w' ⟨rfl, rfl⟩
  go_wp2_with fail
  refine (pgSum_any A c l _ _ hrW (by simp) Hl.out).mono ?_
  rintro e w1 ⟨rfl, hb1⟩
  have hB1 : Below (w.heap.size + 1) (pgW w) w1 := by simpa using hb1
  have hW1 : Below w.heap.size w w1 := ((Below.refl _ _).alloc (Nat.le_refl _) _).trans (hB1.mono (Nat.le_succ _))
  have hr1 : Rd w1 w.heap.size (.slice A l.length c) (cellsB l) := hrW.below (hB1.mono (Nat.le_succ _))
  have hz1 : w.heap.size + 1 ≤ w1.heap.size := by have := hB1.size; simpa using this
  go_wp2_with fail
  refine (pgGet_any A c l 5 1 _ _ hr1 (by omega) (by omega) (by omega)).mono ?_
  rintro e w' ⟨rfl, rfl⟩
  go_wp2_with fail
  clear hk256'
  refine (pgBodyOf_any A c l _ _ hr1 (Nat.le_trans (Nat.le_succ _) hz1) Hl.out hlen).mono ?_
  rintro e w2 ⟨v', rfl, hown, hb2⟩
  rw [Htail.out]
  rw [pgCut_yes Htail.out] at hown
  have hB2 : Below (w.heap.size + 1) (pgW w) w2 := hB1.trans (hb2.mono hz1)
  have hW2 : Below w.heap.size w w2 := hW1.trans (hb2.mono (Nat.le_trans (Nat.le_succ _) hz1))
  have hr2 : Rd w2 w.heap.size (.slice A l.length c) (cellsB l) := hr1.below (hb2.mono (Nat.le_trans (Nat.le_succ _) hz1))
  obtain ⟨q0, q1, q2, f0, f1, f2⟩ := pgW_later hB2
  obtain ⟨A2, c2, rfl⟩ := hown.form
  go_wp2_with fail
  refine (pgKind_yes _ _ (by omega) (by omega)).mono ?_
  rintro e w' ⟨rfl, rfl⟩
  go_wp2_with fail
  refine (pgNum_yes _ _ hn1 hn2).mono ?_
  rintro e w' ⟨rfl, rfl⟩
  go_wp2_with fail
  refine (pgGet_any A c l 8 4 _ _ hr2 (by omega) (by omega) (by omega)).mono ?_
  rintro e w' ⟨rfl, rfl⟩
  go_wp2_with fail
  refine (pgGet_any A c l 12 8 _ _ hr2 (by omega) (by omega) (by omega)).mono ?_
  rintro e w' ⟨rfl, rfl⟩
  go_wp2_with fail
  refine bodyPost_ret (v := .tuple #[.agg #[.int .i64 (fieldAt l 5 1 : Nat), .int .u64 (fieldAt l 12 8 : Nat), .slice A2 (cellsB (pgBody l)).length c2], .int .i64 0]) (by simp [results, Try.results11, go_sem, q0, q1, q2]) rfl ⟨_, rfl, ?_, ((hW2.setCell (Nat.le_refl _) _).setCell (Nat.le_refl _) _).setCell (Nat.le_refl _) _⟩
  exact (((hown.other hz1).other hz1).other hz1).weaken (Nat.le_trans (Nat.le_succ _) hz1)
end Go.Proofs.Ytnbmcecmdokogaa
