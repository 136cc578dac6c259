/-
  The walk of PageWrites.
-/
import Derived.Test.YtnbmcecmdokogaaPageMovedWalk
namespace Go.Proofs.Ytnbmcecmdokogaa
open Go.RowKit
/-- A page lies in block N. -/
structure PgBox (w : World) (N : Nat) (a0 a1 a2 : Value) : Prop where
  c0 : w.cell? ⟨N, 0, none⟩ = some a0
  c1 : w.cell? ⟨N, 1, none⟩ = some a1
  c2 : w.cell? ⟨N, 2, none⟩ = some a2
theorem PgBox.later {w w' : World} {N B : Nat} {a0 a1 a2 : Value} (h : PgBox w N a0 a1 a2) (hN : N < B) (hb : Below B w w') : PgBox w' N a0 a1 a2 :=
  ⟨(hb.cell (p := ⟨N, 0, none⟩) hN).trans h.c0, (hb.cell (p := ⟨N, 1, none⟩) hN).trans h.c1, (hb.cell (p := ⟨N, 2, none⟩) hN).trans h.c2⟩
theorem PgBox.made (w : World) (a0 a1 a2 : Value) : PgBox (w.alloc (.cells #[a0, a1, a2] 25)) w.heap.size a0 a1 a2 :=
  ⟨by rw [World.cell?_alloc_mark]; rfl, by rw [World.cell?_alloc_mark]; rfl, by rw [World.cell?_alloc_mark]; rfl⟩
theorem PgBox.stored {w : World} {N : Nat} {a0 a1 a2 : Value} (h : PgBox w N a0 a1 a2) (b0 b1 b2 : Value) : PgBox (((w.setCell ⟨N, 0, none⟩ b0).setCell ⟨N, 1, none⟩ b1).setCell ⟨N, 2, none⟩ b2) N b0 b1 b2 := by
  have n01 : (⟨N, 1, none⟩ : Addr) ≠ ⟨N, 0, none⟩ := fun e => by injection e with _ e; cases e
  have n02 : (⟨N, 2, none⟩ : Addr) ≠ ⟨N, 0, none⟩ := fun e => by injection e with _ e; cases e
  have n12 : (⟨N, 2, none⟩ : Addr) ≠ ⟨N, 1, none⟩ := fun e => by injection e with _ e; cases e
  have x0 : (w.setCell ⟨N, 0, none⟩ b0).cell? ⟨N, 0, none⟩ = some b0 := World.cell?_setCell_same _ _ _ h.c0
  have x1 : (w.setCell ⟨N, 0, none⟩ b0).cell? ⟨N, 1, none⟩ = some a1 := (World.cell?_setCell_other _ _ _ _ n01.symm).trans h.c1
  have x2 : (w.setCell ⟨N, 0, none⟩ b0).cell? ⟨N, 2, none⟩ = some a2 := (World.cell?_setCell_other _ _ _ _ n02.symm).trans h.c2
  have y0 : ((w.setCell ⟨N, 0, none⟩ b0).setCell ⟨N, 1, none⟩ b1).cell? ⟨N, 0, none⟩ = some b0 := (World.cell?_setCell_other _ _ _ _ n01).trans x0
  have y1 : ((w.setCell ⟨N, 0, none⟩ b0).setCell ⟨N, 1, none⟩ b1).cell? ⟨N, 1, none⟩ = some b1 := World.cell?_setCell_same _ _ _ x1
  have y2 : ((w.setCell ⟨N, 0, none⟩ b0).setCell ⟨N, 1, none⟩ b1).cell? ⟨N, 2, none⟩ = some a2 := (World.cell?_setCell_other _ _ _ _ n12.symm).trans x2
  exact ⟨(World.cell?_setCell_other _ _ _ _ n02).trans y0, (World.cell?_setCell_other _ _ _ _ n12).trans y1, World.cell?_setCell_same _ _ _ y2⟩
/-- 'p = Few(p)', ahead of the store. -/
theorem pgFew_first (k g : Int) (A : Option Addr) (n c : Nat) (l : List UInt8) (w : World) (hr : Rd w w.heap.size (.slice A n c) (cellsB l)) :
    ∃ m : List UInt8, m.length ≤ 240 ∧ Calls Try.prog 7 #[pgVal k g (.slice A n c)] (w.alloc (.cells #[.int .i64 k, .int .u64 g, .slice A n c] 25)) fun e w1 => ∃ A' c', e = .returned (pgVal k g (.slice A' m.length c')) ∧ m.length ≤ c' ∧
      PgBox w1 w.heap.size (.int .i64 k) (.int .u64 g) (.slice A n c) ∧ (∀ j, w1.frozen? ⟨w.heap.size, j, none⟩ = false) ∧ Hid (Mine w1 (w.heap.size + 1) 5 (.slice A' m.length c') (cellsB m)) ∧ Hid (Below w.heap.size w w1) := by
  refine ⟨l.take 240, by simp; omega, (pgFew_own k g A n c l _ w.heap.size (by simp) (hr.alloc (Nat.le_refl _) _)).mono ?_⟩
  rintro e w' ⟨A', c', rfl, h1, h2⟩
  obtain ⟨_, _, e, g1, _, _⟩ := h1.rd.bytes
  injection e with e1 e2 e3
  subst e3
  have h2' : Below (w.heap.size + 1) (w.alloc (.cells #[.int .i64 k, .int .u64 g, .slice A n c] 25)) w' := by simpa using h2
  exact ⟨A', c', rfl, g1, (PgBox.made w _ _ _).later (Nat.lt_succ_self _) h2', fun j => (h2'.frozen (p := ⟨w.heap.size, j, none⟩) (Nat.lt_succ_self _)).trans (World.frozen?_alloc_at _ _ _ _ rfl),
    Lib.hid (by simpa using h1), Lib.hid (((Below.refl _ _).alloc (Nat.le_refl _) _).trans (h2'.mono (Nat.le_succ _)))⟩
/-- Few of a page that has few bytes. -/
theorem pgFew_same (k g : Int) (A : Option Addr) (c : Nat) (m : List UInt8) (hm : m.length ≤ 240) (w : World) (hr : Rd w w.heap.size (.slice A m.length c) (cellsB m)) :
    Calls Try.prog 7 #[pgVal k g (.slice A m.length c)] w fun e w' => ∃ A' c', e = .returned (pgVal k g (.slice A' m.length c')) ∧ m.length ≤ c' ∧ Rd w' w'.heap.size (.slice A' m.length c') (cellsB m) ∧ Below w.heap.size w w' := by
  have h := pgFew_any k g A m.length c m w _ (Nat.le_refl _) hr
  rw [List.take_of_length_le hm] at h
  refine h.mono ?_
  rintro e w' ⟨A', c', rfl, h1, h2⟩
  obtain ⟨_, _, e, g1, _, _⟩ := h1.bytes
  injection e with e1 e2 e3
  subst e3
  exact ⟨A', c', rfl, g1, h1, h2⟩
set_option maxHeartbeats 1000000 in
theorem pageWrites_arg (kind no : Int) (gen : Nat) (A : Option Addr) (n c : Nat) (l : List UInt8) (w : World) (h : Rd w w.heap.size (.slice A n c) (cellsB l)) (harg : (no < 0 ∨ 1599 < no) ∨ kind < 1 ∨ 4 < kind) :
    Calls Try.prog 3 #[.int .i64 no, pgVal kind gen (.slice A n c)] w fun e w' => e = .returned (.bool true) ∧ Below w.heap.size w w' := by
  obtain ⟨m, hm, hfew⟩ := pgFew_first kind gen A n c l w h
  have Hfew := Lib.hid hfew
  clear hfew
  have Henc := Lib.hid (fun (A' : Option Addr) (n' c' : Nat) (W : World) => pgEnc_arg no kind gen A' n' c' W harg)
  have Hrf := Lib.hid (fun (A' : Option Addr) (n' c' : Nat) (W : World) => refEnc_arg no kind gen A' n' c' W harg)
  clear harg
  go_enter Try.func3, Try.ntmps3
  go_wp2_with fail
  refine Hfew.out.mono ?_
  rintro e w1 ⟨A1, c1, rfl, hc1, ⟨x0, x1, x2⟩, hf, hown1, hb1⟩
  have f0 := hf 0
  have f1 := hf 1
  have f2 := hf 2
  clear hf
  go_wp2_with fail
  obtain ⟨V, hV⟩ : ∃ V, V = ((w1.setCell ⟨w.heap.size, 0, none⟩ (.int .i64 kind)).setCell ⟨w.heap.size, 1, none⟩ (.int .u64 (gen : Int))).setCell ⟨w.heap.size, 2, none⟩ (.slice A1 m.length c1) := ⟨_, rfl⟩
  rw [← hV]
  have box : PgBox V w.heap.size (.int .i64 kind) (.int .u64 (gen : Int)) (.slice A1 m.length c1) := by rw [hV]; exact (PgBox.mk x0 x1 x2).stored _ _ _
  have hownV : Mine V (w.heap.size + 1) 5 (.slice A1 m.length c1) (cellsB m) := by rw [hV]; exact ((hown1.out.other (Nat.le_refl _)).other (Nat.le_refl _)).other (Nat.le_refl _)
  have hbV : Below w.heap.size w V := by rw [hV]; exact bel3 hb1.out _ _ _
  have hzV : w.heap.size < V.heap.size := by rw [hV]; simpa using World.block_lt_of_cell? w1 _ x0
  clear hV x0 x1 x2 f0 f1 f2 hown1 hb1
  refine (pgFew_same _ _ _ _ m hm V (hownV.rd)).mono ?_
  rintro e w2 ⟨A2, c2, rfl, hc2, hr2, hb2⟩
  go_wp2_with fail
  refine (Henc.out _ _ _ _).mono ?_
  rintro e w3 ⟨rfl, hb3⟩
  obtain ⟨y0, y1, y2⟩ := (box.later hzV hb2).later (Nat.lt_of_lt_of_le hzV hb2.size) hb3
  go_wp2_with fail
  refine (Hrf.out _ _ _ _).mono ?_
  rintro e w4 ⟨A4, c4, rfl, hr4, hb4⟩
  have s1 := run_string_rd (P := Try.prog) 23 9 5 Try.underlying23 Try.underlying5 Try.underlying9 (show Rd w4 w4.heap.size (.slice none 0 0) (cellsB []) from Rd.nil _ _)
  have s2 := run_string_rd (P := Try.prog) 23 9 5 Try.underlying23 Try.underlying5 Try.underlying9 hr4
  go_wp2_with fail
  refine (lives04_any _).mono ?_
  rintro e w9 ⟨rfl, hb9⟩
  go_wp2_with fail
  go_ret
  exact ⟨rfl, up (up (up (up hbV hb2) hb3) hb4) hb9⟩
set_option maxHeartbeats 1000000 in
theorem pageWrites_long (k f gen : Nat) (A : Option Addr) (n c : Nat) (w : World) (hk1 : 1 ≤ k) (hk4 : k ≤ 4) (hf : f ≤ 1599) (m : List UInt8) (hm : m.length ≤ 240) (hlong : 232 < m.length)
    (hfew : Calls Try.prog 7 #[pgVal k gen (.slice A n c)] (w.alloc (.cells #[.int .i64 k, .int .u64 gen, .slice A n c] 25)) fun e w1 => ∃ A' c', e = .returned (pgVal k gen (.slice A' m.length c')) ∧ m.length ≤ c' ∧
      PgBox w1 w.heap.size (.int .i64 k) (.int .u64 gen) (.slice A n c) ∧ (∀ j, w1.frozen? ⟨w.heap.size, j, none⟩ = false) ∧ Hid (Mine w1 (w.heap.size + 1) 5 (.slice A' m.length c') (cellsB m)) ∧ Hid (Below w.heap.size w w1)) :
    Calls Try.prog 3 #[.int .i64 (f : Int), pgVal k gen (.slice A n c)] w fun e w' => e = .returned (.bool true) ∧ Below w.heap.size w w' := by
  have Hfew := Lib.hid hfew
  clear hfew
  go_enter Try.func3, Try.ntmps3
  go_wp2_with fail
  refine Hfew.out.mono ?_
  rintro e w1 ⟨A1, c1, rfl, hc1, ⟨x0, x1, x2⟩, hf, hown1, hb1⟩
  have f0 := hf 0
  have f1 := hf 1
  have f2 := hf 2
  clear hf
  go_wp2_with fail
  obtain ⟨V, hV⟩ : ∃ V, V = ((w1.setCell ⟨w.heap.size, 0, none⟩ (.int .i64 (k : Int))).setCell ⟨w.heap.size, 1, none⟩ (.int .u64 (gen : Int))).setCell ⟨w.heap.size, 2, none⟩ (.slice A1 m.length c1) := ⟨_, rfl⟩
  rw [← hV]
  have box : PgBox V w.heap.size (.int .i64 (k : Int)) (.int .u64 (gen : Int)) (.slice A1 m.length c1) := by rw [hV]; exact (PgBox.mk x0 x1 x2).stored _ _ _
  have hownV : Mine V (w.heap.size + 1) 5 (.slice A1 m.length c1) (cellsB m) := by rw [hV]; exact ((hown1.out.other (Nat.le_refl _)).other (Nat.le_refl _)).other (Nat.le_refl _)
  have hbV : Below w.heap.size w V := by rw [hV]; exact bel3 hb1.out _ _ _
  have hzV : w.heap.size < V.heap.size := by rw [hV]; simpa using World.block_lt_of_cell? w1 _ x0
  clear hV x0 x1 x2 f0 f1 f2 hown1 hb1
  refine (pgFew_same _ _ _ _ m hm V (hownV.rd)).mono ?_
  rintro e w2 ⟨A2, c2, rfl, hc2, hr2, hb2⟩
  go_wp2_with fail
  refine (pgEnc_long _ _ _ _ _ _ _ (by omega) (by omega) (by omega) (by omega) hlong (by omega)).mono ?_
  rintro e w3 ⟨rfl, hb3⟩
  obtain ⟨y0, y1, y2⟩ := (box.later hzV hb2).later (Nat.lt_of_lt_of_le hzV hb2.size) hb3
  go_wp2_with fail
  refine (refEnc_long _ _ _ _ _ _ _ (by omega) (by omega) (by omega) (by omega) hlong (by omega)).mono ?_
  rintro e w4 ⟨A4, c4, rfl, hr4, hb4⟩
  have s1 := run_string_rd (P := Try.prog) 23 9 5 Try.underlying23 Try.underlying5 Try.underlying9 (show Rd w4 w4.heap.size (.slice none 0 0) (cellsB []) from Rd.nil _ _)
  have s2 := run_string_rd (P := Try.prog) 23 9 5 Try.underlying23 Try.underlying5 Try.underlying9 hr4
  go_wp2_with fail
  refine (lives04_any _).mono ?_
  rintro e w9 ⟨rfl, hb9⟩
  go_wp2_with fail
  go_ret
  exact ⟨rfl, up (up (up (up hbV hb2) hb3) hb4) hb9⟩
theorem refEnc_nat (no gen k : Nat) (A : Option Addr) (body : List UInt8) (c : Nat) (w : World) (hr : Rd w w.heap.size (.slice A body.length c) (cellsB body)) (h2 : no ≤ 1599) (h3 : 1 ≤ k) (h4 : k ≤ 4) (hn : body.length ≤ 232) (hgen : gen < 18446744073709551616) :
    Calls Try.prog 9 #[.int .i64 (no : Int), pgVal k gen (.slice A body.length c)] w fun e w' => ∃ v', e = .returned (.tuple #[v', .int .i64 0]) ∧ Mine w' w.heap.size 5 v' (cellsB (pgBytes k no gen body)) ∧ Below w.heap.size w w' := by
  obtain ⟨x, rfl⟩ : ∃ x : UInt8, k = x.toNat := ⟨UInt8.ofNat k, by rw [UInt8.toNat_ofNat']; omega⟩
  exact refEnc_ok no gen x A body c w _ hr (Nat.le_refl _) h2 h3 h4 hn hgen
set_option maxHeartbeats 1000000 in
theorem pageWrites_ok (k f gen : Nat) (A : Option Addr) (n c : Nat) (w : World) (hg : gen < 18446744073709551616) (hk1 : 1 ≤ k) (hk4 : k ≤ 4) (hf : f ≤ 1599) (m : List UInt8) (hm2 : m.length ≤ 232)
    (hfew : Calls Try.prog 7 #[pgVal k gen (.slice A n c)] (w.alloc (.cells #[.int .i64 k, .int .u64 gen, .slice A n c] 25)) fun e w1 => ∃ A' c', e = .returned (pgVal k gen (.slice A' m.length c')) ∧ m.length ≤ c' ∧
      PgBox w1 w.heap.size (.int .i64 k) (.int .u64 gen) (.slice A n c) ∧ (∀ j, w1.frozen? ⟨w.heap.size, j, none⟩ = false) ∧ Hid (Mine w1 (w.heap.size + 1) 5 (.slice A' m.length c') (cellsB m)) ∧ Hid (Below w.heap.size w w1)) :
    Calls Try.prog 3 #[.int .i64 (f : Int), pgVal k gen (.slice A n c)] w fun e w' => e = .returned (.bool true) ∧ Below w.heap.size w w' := by
  obtain ⟨i, hi, hz0, hz1, hz2⟩ := info_parts info_u8
  have Hfew := Lib.hid hfew
  have hm : m.length ≤ 240 := by omega
  obtain ⟨q, hq⟩ : ∃ q, q = pgBytes k f gen m := ⟨_, rfl⟩
  have hql : q.length ≤ 256 := by rw [hq, pgBytes_length _ _ _ _ hm2]; exact Nat.le_refl _
  have henc := fun (A' : Option Addr) (c' : Nat) (W : World) (hr : Rd W W.heap.size (.slice A' m.length c') (cellsB m)) => pgEnc_ok f k gen A' m c' W W.heap.size hr (Nat.le_refl _) hf hk1 hk4 hm2
  have hrf := fun (A' : Option Addr) (c' : Nat) (W : World) (hr : Rd W W.heap.size (.slice A' m.length c') (cellsB m)) => refEnc_nat f gen k A' m c' W hr hf hk1 hk4 hm2 hg
  have hdec := fun (A' : Option Addr) (c' : Nat) (W : World) (hr : Rd W W.heap.size (.slice A' q.length c') (cellsB q)) => pgDec_enc k f gen m q hq hm2 hk1 hk4 hf hg A' c' W W.heap.size hr (Nat.le_refl _)
  rw [← hq] at henc hrf
  have Henc := Lib.hid henc
  have Hrf := Lib.hid hrf
  have Hdec := Lib.hid hdec
  clear hfew henc hrf hdec hq hg
  go_enter Try.func3, Try.ntmps3
  go_wp2_with fail
  refine Hfew.out.mono ?_
  rintro e w1 ⟨A1, c1, rfl, hc1, ⟨x0, x1, x2⟩, hf, hown1, hb1⟩
  have f0 := hf 0
  have f1 := hf 1
  have f2 := hf 2
  clear hf
  go_wp2_with fail
  obtain ⟨V, hV⟩ : ∃ V, V = ((w1.setCell ⟨w.heap.size, 0, none⟩ (.int .i64 (k : Int))).setCell ⟨w.heap.size, 1, none⟩ (.int .u64 (gen : Int))).setCell ⟨w.heap.size, 2, none⟩ (.slice A1 m.length c1) := ⟨_, rfl⟩
  rw [← hV]
  have box : PgBox V w.heap.size (.int .i64 (k : Int)) (.int .u64 (gen : Int)) (.slice A1 m.length c1) := by rw [hV]; exact (PgBox.mk x0 x1 x2).stored _ _ _
  have hownV : Mine V (w.heap.size + 1) 5 (.slice A1 m.length c1) (cellsB m) := by rw [hV]; exact ((hown1.out.other (Nat.le_refl _)).other (Nat.le_refl _)).other (Nat.le_refl _)
  have hbV : Below w.heap.size w V := by rw [hV]; exact bel3 hb1.out _ _ _
  have hzV : w.heap.size < V.heap.size := by rw [hV]; simpa using World.block_lt_of_cell? w1 _ x0
  clear hV x0 x1 x2 f0 f1 f2 hown1 hb1
  refine (pgFew_same _ _ _ _ m hm V (hownV.rd)).mono ?_
  rintro e w2 ⟨A2, c2, rfl, hc2, hr2, hb2⟩
  go_wp2_with fail
  refine (Henc.out _ _ _ hr2).mono ?_
  rintro e w3 ⟨v3, rfl, hown3, hb3⟩
  obtain ⟨A3, c3, rfl, _, _, hr3⟩ := hown3.rd.bytes
  have box3 := (box.later hzV hb2).later (Nat.lt_of_lt_of_le hzV hb2.size) hb3
  obtain ⟨y0, y1, y2⟩ := box3
  have hn3 : w.heap.size < w3.heap.size := Nat.lt_of_lt_of_le (Nat.lt_of_lt_of_le hzV hb2.size) hb3.size
  have hbm : Below w.heap.size w w3 := up (up hbV hb2) hb3
  have hrm : Rd w3 w3.heap.size (.slice A1 m.length c1) (cellsB m) := (((hownV.rd).below hb2).below (hb3.mono hb2.size)).more (Nat.le_trans hb2.size hb3.size)
  clear hown3 hbV hb2 hb3 hr2 hownV box hzV
  go_wp2_with fail
  refine (Hrf.out _ _ _ hrm).mono ?_
  rintro e w4 ⟨v4, rfl, hown4, hb4⟩
  obtain ⟨A4, c4, rfl, _, _, hr4⟩ := hown4.rd.bytes
  have box4 := (PgBox.mk y0 y1 y2).later hn3 hb4
  have hr3' := (hr3.below hb4).more hb4.size
  have hrm4 := (hrm.below hb4).more hb4.size
  have hn4 : w.heap.size < w4.heap.size := Nat.lt_of_lt_of_le hn3 hb4.size
  have hbm4 : Below w.heap.size w w4 := up hbm hb4
  have s1 := run_string_rd (P := Try.prog) 23 9 5 Try.underlying23 Try.underlying5 Try.underlying9 hr3'
  have s2 := run_string_rd (P := Try.prog) 23 9 5 Try.underlying23 Try.underlying5 Try.underlying9 hr4
  clear hown4 hb4 hbm hrm hn3 y0 y1 y2 hr3
  go_wp2_with (at_builtin; refine wpList_append_rd rfl (.tmp 41) (.tmp 42) 23 rfl w4.heap.size 5 i _ 1 Try.underlying23 hi hz0 hz1 hz2 rfl _ [] rfl (Mine.empty w4 _ 5 (Nat.le_refl _)) _ _ _ rfl (hr3'.alloc (Nat.le_refl _) _) (cellsB_one _) (by rw [cellsB_length]; simp; omega) (by unfold maxLen; rw [cellsB_length]; simp; omega) (by simp) ?_; intro v5 w5 hown5 hbel5 hx1 hx2; clear hx1 hx2; rw [List.nil_append] at hown5)
  obtain ⟨A5, c5, rfl, _, _, hr5⟩ := hown5.rd.bytes
  have hb5 : Below w4.heap.size w4 w5 := ((Below.refl _ _).alloc (Nat.le_refl _) _).trans hbel5
  have box5 := box4.later hn4 hb5
  have hrm5 := (hrm4.below hb5).more hb5.size
  have hn5 : w.heap.size < w5.heap.size := Nat.lt_of_lt_of_le hn4 hb5.size
  have hbm5 : Below w.heap.size w w5 := up hbm4 hb5
  clear hown5 hbel5 hb5 box4 hrm4 hn4 hbm4 s1 s2 hr3' hr4
  refine (Hdec.out _ _ _ hr5).mono ?_
  rintro e w6 ⟨A6, c6, rfl, hr6, hb6⟩
  obtain ⟨y0, y1, y2⟩ := box5.later hn5 hb6
  have hrm6 := (hrm5.below hb6).more hb6.size
  have hn6 : w.heap.size < w6.heap.size := Nat.lt_of_lt_of_le hn5 hb6.size
  have hbm6 : Below w.heap.size w w6 := up hbm5 hb6
  clear hb6 box5 hrm5 hn5 hbm5 hr5
  go_wp2_with fail
  refine (same_yes _ _ _ _ _ _ _ _ m _ w6.heap.size (by simp) (hr6.alloc (Nat.le_refl _) _) (hrm6.alloc (Nat.le_refl _) _)).mono ?_
  rintro e w7 ⟨rfl, hb7⟩
  go_wp2_with fail
  refine (lives04_any _).mono ?_
  rintro e w9 ⟨rfl, hb9⟩
  go_wp2_with fail
  go_ret
  exact ⟨rfl, up (up (up_alloc hbm6 _) hb7) hb9⟩
theorem pageWrites_core (kind no : Int) (gen : Nat) (A : Option Addr) (n c : Nat) (l : List UInt8) (w : World) (hg : gen < 18446744073709551616) (h : Rd w w.heap.size (.slice A n c) (cellsB l)) :
    Calls Try.prog 3 #[.int .i64 no, pgVal kind gen (.slice A n c)] w fun e w' => e = .returned (.bool true) ∧ Below w.heap.size w w' := by
  by_cases harg : (no < 0 ∨ 1599 < no) ∨ kind < 1 ∨ 4 < kind
  · exact pageWrites_arg kind no gen A n c l w h harg
  · obtain ⟨k, rfl⟩ := Int.eq_ofNat_of_zero_le (show 0 ≤ kind by omega)
    obtain ⟨f, rfl⟩ := Int.eq_ofNat_of_zero_le (show 0 ≤ no by omega)
    obtain ⟨m, hm, hfew⟩ := pgFew_first (k : Int) gen A n c l w h
    by_cases hlong : 232 < m.length
    · exact pageWrites_long k f gen A n c w (by omega) (by omega) (by omega) m hm hlong hfew
    · exact pageWrites_ok k f gen A n c w hg (by omega) (by omega) (by omega) m (by omega) hfew
theorem pageWrites_walk (no kind : Int) (gen : Nat) (A : Option Addr) (c : Nat) (l : List UInt8) (w : World) (_ : (Lit.int .i64 no).wf = true) (_ : (Lit.int .i64 kind).wf = true) (hg : gen < 18446744073709551616) (h : Rd w w.heap.size (.slice A l.length c) (cellsB l)) :
    Calls Try.prog 3 #[.int .i64 no, pgVal kind gen (.slice A l.length c)] w fun e w' => e = .returned (.bool true) ∧ Below w.heap.size w w' :=
  pageWrites_core kind no gen A _ c l w hg h
end Go.Proofs.Ytnbmcecmdokogaa
