/-
  CachePinned: its walk.
-/
import Derived.Test.YtfjcblppmoomdaaCachePinnedMath
namespace Go.Proofs.Ytfjcblppmoomdaa
open Go.RowKit
/-- What stands at each round of the first two loops: so many Gets, so many are pinned. -/
def PinW (w0 wr : World) (B c bf p : Nat) (hv : Value) (hl : List Int) (k : Nat) : Prop :=
  ∃ x d, Lw w0 wr (fun g => hv.ownBlock = some g) c bf p x d ∧ PinSt x 40 hl ∧ d.L.length = 40 ∧ d.Calm ∧ d.n ≤ k ∧ Mine wr B 3 hv (cellsE hl) ∧ B ≤ wr.heap.size ∧ c < B ∧ bf < B ∧ w0.heap.size ≤ B
/-- What Get comes to at such a round. -/
theorem PinW.get {w0 wr : World} {B c bf p k : Nat} {hv : Value} {hl : List Int} (h : PinW w0 wr B c bf p hv hl k) (hk : k < 1000) (no : Int) :
    ∃ e0, (hl.length < 8 → 0 ≤ no → no < 40 → e0 = 0) ∧ Calls Try.prog 25 #[at0 c, .int .i64 no] wr fun e w' => ∃ v, e = .returned (.tuple #[v, .int .i64 e0]) ∧ PinW w0 w' B c bf p hv hl (k + 1) ∧ Below w0.heap.size w0 w' ∧
      (e0 = 0 → hl.length < 1000 → Calls Try.prog 27 #[at0 c, .int .i64 no] w' fun e w2 => e = .returned (.bool true) ∧ Mine w2 B 3 hv (cellsE hl) ∧ B ≤ w2.heap.size ∧ Below w0.heap.size w0 w2 ∧
        (∀ v' w3 o, Mine w3 B 3 v' (cellsE (hl ++ [no])) → (w2.alloc o).grownBy w3 hv.ownBlock → (v'.ownBlock = hv.ownBlock ∨ v'.ownBlock = some (w2.alloc o).heap.size) → PinW w0 w3 B c bf p v' (hl ++ [no]) (k + 1) ∧ Below w0.heap.size w0 w3)) := by
  obtain ⟨x, d, hL, hS, hd, hc, hn, hM, hB, b1, b2, b3⟩ := h
  have hS' : PinSt x d.L.length hl := by rw [hd]; exact hS
  obtain ⟨g1, g2, g3, g4, g5, g6, g7, g8, g9⟩ := hS'.ok.get no
  have hP := hS'.get no
  refine ⟨(x.get d no).2.1, fun h1 h2 h3 => g9 hc ⟨h2, by rw [hd]; omega⟩ (hS.room h1), ?_⟩
  refine (hL.lw_get hS'.ok.within (by omega) no).mono ?_
  rintro e w' ⟨v, rfl, _, hL1, hsame, hsz⟩
  have hP' : PinSt (x.get d no).2.2.1 40 hl := by rw [hd] at hP; exact hP
  refine ⟨v, rfl, ⟨_, _, hL1, hP', g6.trans hd, g8 hc, by omega, hM.same hsame, by omega, b1, b2, b3⟩, hL1.low, fun e0 hh => ?_⟩
  obtain ⟨i, hi⟩ := g5 e0
  obtain ⟨q1, q2⟩ := hP'.pin hi
  refine (hL1.lw_pin (hP'.small (by omega)) no).mono ?_
  rintro e w2 ⟨rfl, hL2, hsame2, hsz2⟩
  have hM2 : Mine w2 B 3 hv (cellsE hl) := (hM.same hsame).same hsame2
  refine ⟨by rw [q1], hM2, by omega, hL2.low, fun v' w3 o hM3 hg ho => ?_⟩
  · have hA := hL2.below ((Below.refl _ w2).alloc (Nat.le_refl _) o)
    have hlt := hM3.block
    have hF := hA.grown (O' := fun g => v'.ownBlock = some g) hg (fun _ e => e) fun k hk => by
      rcases ho with e | e
      · exact .inl (e ▸ hk)
      · have : (w2.alloc o).heap.size = k := by rw [e] at hk; injection hk
        have := (hlt k hk).2
        exact .inr ⟨by omega, this⟩
    exact ⟨⟨_, _, hF, q2, g6.trans hd, g8 hc, by omega, hM3, by have := hg.size; simp at this; omega, b1, b2, b3⟩, hF.low⟩
theorem PinW.low {w0 wr : World} {B c bf p k : Nat} {hv : Value} {hl : List Int} (h : PinW w0 wr B c bf p hv hl k) : Below w0.heap.size w0 wr ∧ Mine wr B 3 hv (cellsE hl) ∧ B ≤ wr.heap.size := by
  obtain ⟨x, d, hL, _, _, _, _, hM, hB, _⟩ := h
  exact ⟨hL.low, hM, hB⟩
theorem PinW.tell {w0 wr : World} {B c bf p k : Nat} {hv : Value} {hl : List Int} (h : PinW w0 wr B c bf p hv hl k) :
    Calls Try.prog 15 #[at0 c] wr fun e w' => ∃ (A : Option Addr) (cc : Nat) (lH : List Int), e = .returned (.slice A lH.length cc) ∧ lH.length ≤ cc ∧ cc ≤ 9223372036854775807 ∧ lH.length ≤ 8 ∧ (∀ hh ∈ hl, hh ∈ lH) ∧
      (∀ k (hk : k < lH.length), ∃ g, A = some ⟨g, 0, none⟩ ∧ g < w'.heap.size ∧ w'.cell? ⟨g, k, none⟩ = some (.int .i64 lH[k])) ∧
      (∀ (A2 : Option Addr) (n2 cc2 : Nat), hv = .slice A2 n2 cc2 → ∀ k (hk : k < hl.length), ∃ g, A2 = some ⟨g, 0, none⟩ ∧ g < w'.heap.size ∧ w'.cell? ⟨g, k, none⟩ = some (.int .i64 hl[k])) ∧ Below w0.heap.size w0 w' := by
  obtain ⟨x, d, hL, hS, _, _, _, hM, hB, _, _, b3⟩ := h
  refine (Held_any hL.cd.cache).mono ?_
  rintro e w' ⟨v, rfl, hown, hb⟩
  obtain ⟨A, cc, rfl, h1, h2, h3⟩ := hown.ints
  have hM' : Mine w' B 3 hv (cellsE hl) := hM.kept hb
  obtain ⟨A2, cc2, e2, h4, h5, h6⟩ := hM'.ints
  refine ⟨A, cc, _, rfl, h1, h2, by have := held_len x; have := hS.len; omega, hS.told, fun k hk => ?_, fun A2' n2 cc2' e3 k hk => ?_, up hL.low hb⟩
  · obtain ⟨g, a, _, b, c⟩ := h3 k hk
    exact ⟨g, a, b, c⟩
  · rw [e2] at e3
    injection e3 with e31 e32 e33
    subst e31
    obtain ⟨g, a, _, b, c⟩ := h6 k hk
    exact ⟨g, a, b, c⟩
/-- Is one of the first k numbers this one? -/
def among (l : List Int) (h : Int) (k : Nat) : Bool := (l.take k).any (· == h)
theorem among_succ (l : List Int) (h : Int) {k : Nat} (hk : k < l.length) : among l h (k + 1) = (among l h k || (l[k] == h)) := by
  unfold among
  rw [List.take_succ_eq_append_getElem hk, List.any_append]
  simp
theorem among_all {l : List Int} {h : Int} (hm : h ∈ l) : among l h l.length = true := by
  unfold among
  rw [List.take_length, List.any_eq_true]
  exact ⟨h, hm, by simp⟩
theorem below_drewN {B : Nat} {w w' : World} (h : Below B w w') (k : Nat) : Below B w (w'.drewN k) := ⟨h.os, h.tape, h.output, h.size, h.block⟩
/-- A row of numbers that came in, opened. -/
theorem Rd.nums {w : World} {B : Nat} {v : Value} {l : List Int} (h : Rd w B v (cellsZ l)) : ∃ A cc, v = .slice A l.length cc ∧ l.length ≤ cc ∧ cc ≤ 9223372036854775807 ∧ ∀ k (hk : k < l.length), ∃ b o, A = some ⟨b, o, none⟩ ∧ b < B ∧ w.cell? ⟨b, o + k, none⟩ = some (.int .i64 l[k]) := by
  obtain ⟨A, c, rfl, g1, g2, g3, g4⟩ := h
  rw [cellsZ_length] at *
  refine ⟨A, c, rfl, g1, by unfold maxLen at g2; omega, fun k hk => ?_⟩
  obtain ⟨b, o, rfl, hb, hc⟩ := g4 (by omega)
  exact ⟨b, o, rfl, hb, hc k _ (cellsZ_at l k hk)⟩
set_option maxRecDepth 100000 in
set_option maxHeartbeats 4000000 in
theorem cachePinned_walk (vp : Value) (lp : List Int) (vm : Value) (lm : List Int) (w : World) (hp : Rd w w.heap.size vp (cellsZ lp) ∧ Fits lp) (hm : Rd w w.heap.size vm (cellsZ lm) ∧ Fits lm) :
    Calls Try.prog 6 #[vp, vm] w fun e w' => e = .returned (.bool true) ∧ Below w.heap.size w w' := by
  obtain ⟨Ap, cp, rfl, p1, p2, p3⟩ := hp.1.nums
  obtain ⟨Am, cm, rfl, m1, m2, m3⟩ := hm.1.nums
  obtain ⟨ti, hi, hz0, hz1, hz2⟩ := info_parts cinfo_int
  have Hnew := Lib.hid (new_ok (n := 40) w (fun k => w.heap.size ≤ k) ⟨by omega, by omega⟩ (fun k hk => hk))
  have Hcn : Hid (∀ w1 p bl bm S D, DevIs w1 (fun k => w.heap.size ≤ k) p bl bm S D (Dev.new 40) → Below w.heap.size w w1 → Calls Try.prog 9 #[at0 p, .int .i64 8] w1 fun e w' => ∃ c bf, e = .returned (.tuple #[at0 c, .int .i64 0]) ∧ (∀ o, PinW w (w'.alloc o) w'.heap.size c bf p (.slice (some ⟨w'.heap.size, 0, none⟩) 0 0) [] 0 → True) ∧ PinW w (w'.alloc (.cells #[] 3)) w'.heap.size c bf p (.slice (some ⟨w'.heap.size, 0, none⟩) 0 0) [] 0) := Lib.hid fun w1 p bl bm S D hd hb => by
    refine (Lw.made w (k := 8) ⟨by omega, by omega⟩ hd hb).mono ?_
    rintro e w' ⟨c, bf, rfl, hL⟩
    refine ⟨c, bf, rfl, fun _ _ => trivial, Cch.new 8, Dev.new 40, ?_, pinSt_new 40, Dev.new_length 40, fun _ => rfl, Nat.le_refl _, Mine.empty w' _ 3 (Nat.le_refl _), by simp, hL.cd.lt.1, hL.cd.lt.2, hL.size⟩
    exact hL.more (w' := w'.alloc (.cells #[] 3)) ((Below.refl _ _).alloc (Nat.le_refl _) _) fun k hk => .inr (by
      have : w'.heap.size = k := by simpa [Value.ownBlock] using hk
      subst this
      exact ⟨Nat.le_refl _, by simp⟩)
  obtain ⟨n, hn⟩ : ∃ n, n = lp.length := ⟨_, rfl⟩
  obtain ⟨m, hmm⟩ : ∃ m, m = lm.length := ⟨_, rfl⟩
  rw [← hn] at p1 ⊢
  rw [← hmm] at m1 ⊢
  have Hp : Hid (∀ wr, Below w.heap.size w wr → ∀ k (hk : k < n), ∃ b o no, Ap = some ⟨b, o, none⟩ ∧ ∀ wr', Below w.heap.size w wr' → wr'.cell? ⟨b, o + k, none⟩ = some (.int .i64 no)) := Lib.hid fun wr _ k hk => by
    obtain ⟨b, o, e1, e2, e3⟩ := p3 k (hn ▸ hk)
    exact ⟨b, o, _, e1, fun wr' hb' => (hb'.cell (p := ⟨b, o + k, none⟩) e2).trans e3⟩
  have Hm : Hid (∀ wr, Below w.heap.size w wr → ∀ k (hk : k < m), ∃ b o no, Am = some ⟨b, o, none⟩ ∧ ∀ wr', Below w.heap.size w wr' → wr'.cell? ⟨b, o + k, none⟩ = some (.int .i64 no)) := Lib.hid fun wr _ k hk => by
    obtain ⟨b, o, e1, e2, e3⟩ := m3 k (hmm ▸ hk)
    exact ⟨b, o, _, e1, fun wr' hb' => (hb'.cell (p := ⟨b, o + k, none⟩) e2).trans e3⟩
  clear hp hm p3 m3 hn hmm
  go_enter Try.func6, Try.ntmps6
  go_wp2_with (first
    | (go_at_call 8; refine Hnew.out.mono ?_; rintro e w1 ⟨rfl, hd1, hb1⟩; have Hd1 := Lib.hid hd1; have Hb1 := Lib.hid hb1; clear hd1 hb1)
    | (go_at_call 9; refine (Hcn.out _ _ _ _ _ _ Hd1.out Hb1.out).mono ?_; rintro e w2 ⟨c, bf, rfl, -, hw2⟩; have Hw2 := Lib.hid hw2; clear hw2))
  obtain ⟨B, hB⟩ : ∃ B, B = w2.heap.size := ⟨_, rfl⟩
  obtain ⟨p, hpp⟩ : ∃ p, p = w.heap.size + 2 := ⟨_, rfl⟩
  rw [← hpp] at Hw2
  have HB0 : Hid (PinW w (w2.alloc (.cells #[] 3)) B c bf p (.slice (some ⟨w2.heap.size, 0, none⟩) 0 0) [] 0) := Lib.hid (by rw [hB]; exact Hw2.out)
  clear Hw2 Hcn Hnew Hd1 Hb1
  go_loopw [9, 10] (fun hv iv wr => ∃ (k : Nat) (hl : List Int), k ≤ n ∧ k ≤ 30 ∧ iv = .int .i64 (k : Int) ∧ hl.length ≤ k ∧ Hid (PinW w wr B c bf p hv hl k)) (fun _ iv _ => n - (intOf iv).toNat)
  case atStart => exact ⟨0, [], by omega, by omega, rfl, by simp, HB0⟩
  case round =>
    obtain ⟨k, hl, hkn, hk30, rfl, hlk, HW⟩ := hrel
    obtain ⟨hlow, hM, hBs⟩ := HW.out.low
    by_cases hgo : k < n ∧ k < 30
    · obtain ⟨hk1, hk2⟩ := hgo
      obtain ⟨b, o, no, rfl, hcell⟩ := Hp.out wr hlow k hk1
      obtain ⟨e0, hz, hget⟩ := HW.out.get (by omega) no
      obtain ⟨A2, cc2, rfl, q1, q2, _⟩ := hM.ints
      have Hget := Lib.hid hget
      have Hcell := Lib.hid hcell
      have t0 : decide ((k : Int) < (n : Int)) = true := by simp [hk1]
      have t1 : decide ((k : Int) < 30) = true := by simp; omega
      have c0 := hcell wr hlow
      clear hget hcell HW hM hlow hBs
      by_cases he0 : e0 = 0
      · subst he0
        obtain ⟨M, hMM⟩ : ∃ M, M = cellsE hl := ⟨_, rfl⟩
        have hMl : M.length ≤ k := by rw [hMM, cellsE_length]; exact hlk
        have HMM := Lib.hid hMM
        clear hMM hz
        have hl30 : hl.length < 1000 := by omega
        go_wp2_with (first
          | (go_at_call 25; refine Hget.out.mono ?_; rintro e w3 ⟨v3, rfl, z1, z2, z3⟩; have c3 := Hcell.out w3 z2; have Hpin := Lib.hid (z3 rfl hl30); clear z1 z2 z3)
          | (go_at_call 27; refine Hpin.out.mono ?_; rintro e w4 ⟨rfl, y1, y2, y3, y4⟩; have c4 := Hcell.out w4 y3; have Hown := Lib.hid y1; have Hnext := Lib.hid y4; have hB4 := y2; clear y1 y2 y3 y4)
          | (at_builtin; refine wpList_append_rd rfl (.tmp 63) (.tmp 68) 39 rfl B 3 ti _ 8 Try.underlying39 hi hz0 hz1 hz2 rfl _ M rfl (by rw [HMM.out]; exact (Hown.out).alloc _) _ _ _ rfl (rd_single w4 (.int .i64 no) 3) (by simp [Value.oneCell']) (by simp; omega) (by unfold maxLen; simp; omega) (by simp; omega) ?_; intro v5 w5 hown5 hb5 hg5 ho5))
        go_roundw
        case rel =>
          have hM5 : Mine w5 B 3 v5 (cellsE (hl ++ [no])) := by
            rw [HMM.out] at hown5
            simpa [cellsE] using hown5
          exact ⟨k + 1, hl ++ [no], by omega, by omega, by go_num, by simp; omega, Lib.hid (Hnext.out v5 w5 _ hM5 hg5 ho5).1⟩
        case measure => simp [intOf]; omega
      · have hcase : (decide ((hl.length : Int) < 8) = false) ∨ (decide ((hl.length : Int) < 8) = true ∧ decide (0 ≤ no) = false) ∨ (decide ((hl.length : Int) < 8) = true ∧ decide (0 ≤ no) = true ∧ decide (no < 40) = false) := by
          by_cases h1 : hl.length < 8
          · by_cases h2 : 0 ≤ no
            · by_cases h3 : no < 40
              · exact absurd (hz h1 h2 h3) he0
              · exact .inr (.inr ⟨by simp; omega, by simp [h2], by simp [h3]⟩)
            · exact .inr (.inl ⟨by simp; omega, by simp [h2]⟩)
          · exact .inl (by simp; omega)
        have f0 : decide (e0 = 0) = false := by simp [he0]
        have f1 : (e0 == 0) = false := by simp [he0]
        obtain ⟨nl, hnl⟩ : ∃ nl, nl = hl.length := ⟨_, rfl⟩
        rw [← hnl] at hcase q1 hlk
        rw [← hnl]
        have Hnl := Lib.hid hnl
        clear hz he0 hnl
        rcases hcase with d0 | ⟨d0, d1⟩ | ⟨d0, d1, d2⟩
        all_goals
          go_wp2_with (first
            | (go_at_call 25; refine Hget.out.mono ?_; rintro e w3 ⟨v3, rfl, z1, z2, z3⟩; have c3 := Hcell.out w3 z2; have Hz1 := Lib.hid z1; clear z1 z2 z3))
          go_roundw
          case rel => exact ⟨k + 1, hl, by omega, by omega, by go_num, by have := Hnl.out; omega, Lib.hid (by rw [Hnl.out]; exact Hz1.out)⟩
          case measure => simp [intOf]; omega
    · have hexit : n ≤ k ∨ (k < n ∧ 30 ≤ k) := by omega
      obtain ⟨Ah, ch, rfl, r1, r2, _⟩ := hM.ints
      have HW0 : Hid (PinW w wr B c bf p (.slice Ah hl.length ch) hl (k + 0)) := HW
      have Hlk := Lib.hid hlk
      clear hM hBs hlow hgo HW
      clear hkn
      rcases hexit with d0 | ⟨d0, d1⟩
      all_goals
        go_wp2_with fail
        go_loopw [13] (fun iv wr => ∃ (j : Nat), j ≤ m ∧ j ≤ 30 ∧ iv = .int .i64 (j : Int) ∧ Hid (PinW w wr B c bf p (.slice Ah hl.length ch) hl (k + j))) (fun iv _ => m - (intOf iv).toNat)
        case atStart => exact ⟨0, by omega, by omega, rfl, HW0⟩
        case round =>
          obtain ⟨j, hjm, hj30, rfl, HWj⟩ := hrel
          obtain ⟨hlow, _, _⟩ := HWj.out.low
          by_cases hgo : j < m ∧ j < 30
          · obtain ⟨hj1, hj2⟩ := hgo
            obtain ⟨b, o, no, rfl, hcell⟩ := Hm.out wr hlow j hj1
            obtain ⟨e0, _, hget⟩ := HWj.out.get (by omega) no
            have Hget := Lib.hid hget
            have t0 : decide ((j : Int) < (m : Int)) = true := by simp [hj1]
            have t1 : decide ((j : Int) < 30) = true := by simp; omega
            have c0 := hcell wr hlow
            clear hget hcell HWj hlow
            go_wp2_with (first
              | (go_at_call 25; refine Hget.out.mono ?_; rintro e w3 ⟨v3, rfl, z1, z2, z3⟩; have Hz1 := Lib.hid z1; clear z1 z2 z3))
            go_roundw
            case rel => exact ⟨j + 1, by omega, by omega, by go_num, Hz1⟩
            case measure => simp [intOf]; omega
          · have hexit2 : m ≤ j ∨ (j < m ∧ 30 ≤ j) := by omega
            have HT := Lib.hid HWj.out.tell
            clear HWj hlow hgo HW0 hjm
            obtain ⟨nh, hnh⟩ : ∃ nh, nh = hl.length := ⟨_, rfl⟩
            rw [← hnh] at r1 ⊢
            have Hnh := Lib.hid hnh
            clear hnh
            rcases hexit2 with d2 | ⟨d2, d3⟩
            all_goals
              go_wp2_with (first
                | (go_at_call 15; refine HT.out.mono ?_; rintro e w5 ⟨A5, cc5, lH, rfl, y1, y2, y3, y4, y5, y6, y10⟩; have Hc6 := Lib.hid (y6 _ _ _ rfl); clear y6))
              obtain ⟨n5, hn5⟩ : ∃ n5, n5 = lH.length := ⟨_, rfl⟩
              rw [← hn5] at y1 y3 ⊢
              have Hc5 := Lib.hid y5
              have Hin := Lib.hid y4
              have Hlow := Lib.hid y10
              have Hn5 := Lib.hid hn5
              clear y4 y5 y10 hn5 HT
              go_loopw [15] (fun iv wr => ∃ (i : Nat), i ≤ nh ∧ iv = .int .i64 (i : Int) ∧ Hid (Below w5.heap.size w5 wr)) (fun iv _ => nh - (intOf iv).toNat)
              case atStart => exact ⟨0, by omega, rfl, Lib.hid (Below.refl _ _)⟩
              case round =>
                obtain ⟨i, hin, rfl, Hbi⟩ := hrel
                obtain ⟨wo, hwo⟩ : ∃ wo : World, wo = wr := ⟨_, rfl⟩
                rw [← hwo] at Hbi ⊢
                clear hwo
                by_cases hi5 : i < nh
                · have hi6 : i < hl.length := Hnh.out ▸ hi5
                  obtain ⟨g6, rfl, g61, g62⟩ := Hc6.out i hi6
                  have hmem := Hin.out _ (List.getElem_mem hi6)
                  obtain ⟨hh, hhh⟩ : ∃ hh, hh = hl[i] := ⟨_, rfl⟩
                  rw [← hhh] at g62 hmem
                  have t0 : decide ((i : Int) < (nh : Int)) = true := by simp [hi5]
                  have Hmem := Lib.hid hmem
                  have G62 := Lib.hid g62
                  clear hhh hmem g62
                  go_wp2_with fail
                  go_loopw [16, 17] (fun fv kv wr => ∃ (k2 : Nat), k2 ≤ n5 ∧ kv = .int .i64 (k2 : Int) ∧ fv = .bool (among lH hh k2) ∧ Hid (Below w5.heap.size w5 wr)) (fun _ kv _ => n5 - (intOf kv).toNat)
                  case atStart => exact ⟨0, by omega, rfl, rfl, Hbi⟩
                  case round =>
                    obtain ⟨k2, hk25, rfl, rfl, Hbk⟩ := hrel
                    by_cases hk5 : k2 < n5
                    · have hk6 : k2 < lH.length := Hn5.out ▸ hk5
                      obtain ⟨g5, rfl, g51, g52⟩ := Hc5.out k2 hk6
                      have hsu := among_succ lH hh hk6
                      obtain ⟨n7, hn7⟩ : ∃ n7, n7 = lH[k2] := ⟨_, rfl⟩
                      rw [← hn7] at g52 hsu
                      have c5 : wr.cell? ⟨g5, k2, none⟩ = some (.int .i64 n7) := (Hbk.out.cell (p := ⟨g5, k2, none⟩) g51).trans g52
                      have c6 : wr.cell? ⟨g6, i, none⟩ = some (.int .i64 hh) := (Hbk.out.cell (p := ⟨g6, i, none⟩) g61).trans G62.out
                      have t1 : decide ((k2 : Int) < (n5 : Int)) = true := by simp [hk5]
                      have t2 : (0 : Int) ≤ (k2 : Int) := by omega
                      have t3 : (k2 : Int) < (n5 : Int) := by omega
                      have t4 : (k2 : Int).toNat = k2 := by omega
                      have t5 : (0 : Int) ≤ (i : Int) := by omega
                      have t6 : (i : Int) < (nh : Int) := by omega
                      have t7 : (i : Int).toNat = i := by omega
                      have Hsu := Lib.hid hsu
                      clear hsu g52 hn7 hk6
                      obtain ⟨fb, hfb⟩ : ∃ fb, fb = among lH hh k2 := ⟨_, rfl⟩
                      rw [← hfb] at Hsu ⊢
                      clear hfb
                      rcases fb with _ | _
                      · have hup : (n7 == hh) = decide (n7 = hh) := by by_cases e : n7 = hh <;> simp [e]
                        go_wp2_with fail
                        go_quiet (fail)
                        go_wp2_with fail
                        go_roundw
                        case rel => exact ⟨k2 + 1, by omega, by go_num, by rw [Hsu.out, Bool.false_or, hup], Lib.hid (below_drewN Hbk.out _)⟩
                        case measure => simp [intOf]; omega
                      · go_wp2_with fail
                        go_quiet (fail)
                        go_wp2_with fail
                        go_roundw
                        case rel => exact ⟨k2 + 1, by omega, by go_num, by rw [Hsu.out]; rfl, Lib.hid (below_drewN Hbk.out _)⟩
                        case measure => simp [intOf]; omega
                    · have e5 : k2 = n5 := by omega
                      have e6 : among lH hh k2 = true := by rw [e5, Hn5.out]; exact among_all Hmem.out
                      rw [e6]
                      have t1 : n5 ≤ k2 := by omega
                      clear e5 e6 hk25 hk5
                      go_wp2_with fail
                      go_roundw
                      case rel => exact ⟨i + 1, by omega, by go_num, Hbk⟩
                      case measure => simp [intOf]; omega
                · have t1 : nh ≤ i := by omega
                  have hly := Lib.hid (clives_any wo)
                  clear hin hi5
                  go_wp2_with (first
                    | (go_at_call 10; refine hly.out.mono ?_; rintro e w6 ⟨rfl, hb6⟩))
                  go_ret
                  exact ⟨rfl, up (up Hlow.out Hbi.out) hb6⟩
end Go.Proofs.Ytfjcblppmoomdaa
