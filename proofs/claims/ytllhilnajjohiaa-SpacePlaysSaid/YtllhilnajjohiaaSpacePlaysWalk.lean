/-
  The law SpacePlays, walked.
-/
import Derived.Test.YtllhilnajjohiaaSrI
namespace Go.Proofs.Ytllhilnajjohiaa
open Go.RowKit
theorem plays_bad (n first : Int) (hb : n < 1 ∨ first < 0 ∨ (80 < n ∧ 80 < first) ∨ (n ≤ 80 ∧ n < first)) (v : Value) (w : World) :
    Calls Try.prog 3 #[.int .i64 n, .int .i64 first, v] w fun e w' => e = .returned (.bool true) ∧ Below w.heap.size w w' := by
  by_cases h80 : 80 < n
  · have t0 : decide (80 < n) = true := by simp; omega
    by_cases hf : first < 0
    · have t1 : decide (first < 0) = true := by simp; omega
      clear hb
      go_enter Try.func3, Try.ntmps3
      go_wp2_with (first
        | (go_at_call 7; refine (new_bad _ first (by omega)).mono ?_; rintro e w1 ⟨rfl, rfl⟩)
        | (go_at_call 8; refine (lives06_any _).mono ?_; rintro e w5 ⟨rfl, hb5⟩; have HI5 := Lib.hid hb5; clear hb5))
      go_ret
      exact ⟨rfl, HI5.out⟩
    · have t1 : decide (first < 0) = false := by simp; omega
      have h81 : 80 < first := by omega
      have t2 : decide (80 < first) = true := by simp; omega
      clear hb
      go_enter Try.func3, Try.ntmps3
      go_wp2_with (first
        | (go_at_call 7; refine (new_bad _ first (by omega)).mono ?_; rintro e w1 ⟨rfl, rfl⟩)
        | (go_at_call 8; refine (lives06_any _).mono ?_; rintro e w5 ⟨rfl, hb5⟩; have HI5 := Lib.hid hb5; clear hb5))
      go_ret
      exact ⟨rfl, HI5.out⟩
  · have t0 : decide (80 < n) = false := by simp; omega
    by_cases h1 : n < 1
    · have t3 : decide (n < 1) = true := by simp; omega
      clear hb
      go_enter Try.func3, Try.ntmps3
      go_wp2_with (first
        | (go_at_call 7; refine (new_bad _ first (by omega)).mono ?_; rintro e w1 ⟨rfl, rfl⟩)
        | (go_at_call 8; refine (lives06_any _).mono ?_; rintro e w5 ⟨rfl, hb5⟩; have HI5 := Lib.hid hb5; clear hb5))
      go_ret
      exact ⟨rfl, HI5.out⟩
    · have t3 : decide (n < 1) = false := by simp; omega
      by_cases hf : first < 0
      · have t1 : decide (first < 0) = true := by simp; omega
        clear hb
        go_enter Try.func3, Try.ntmps3
        go_wp2_with (first
          | (go_at_call 7; refine (new_bad _ first (by omega)).mono ?_; rintro e w1 ⟨rfl, rfl⟩)
          | (go_at_call 8; refine (lives06_any _).mono ?_; rintro e w5 ⟨rfl, hb5⟩; have HI5 := Lib.hid hb5; clear hb5))
        go_ret
        exact ⟨rfl, HI5.out⟩
      · have t1 : decide (first < 0) = false := by simp; omega
        have h2 : n < first := by omega
        have t2 : decide (n < first) = true := by simp; omega
        clear hb
        go_enter Try.func3, Try.ntmps3
        go_wp2_with (first
          | (go_at_call 7; refine (new_bad _ first (by omega)).mono ?_; rintro e w1 ⟨rfl, rfl⟩)
          | (go_at_call 8; refine (lives06_any _).mono ?_; rintro e w5 ⟨rfl, hb5⟩; have HI5 := Lib.hid hb5; clear hb5))
        go_ret
        exact ⟨rfl, HI5.out⟩
set_option maxHeartbeats 4000000 in
set_option maxRecDepth 100000 in
theorem plays_great (n : Int) (f : Nat) (hn : 80 < n) (hf : f ≤ 80) (v : Value) (l : List Act2) (w : World) (h : Acts2 w v l) :
    Calls Try.prog 3 #[.int .i64 n, .int .i64 (f : Int), v] w fun e w' => e = .returned (.bool true) ∧ Below w.heap.size w w' := by
  obtain ⟨A, c, rfl, hlc, hcm, hact⟩ := h.at_
  have Hact := Lib.hid hact
  obtain ⟨ln, hln⟩ : ∃ n, n = l.length := ⟨_, rfl⟩
  rw [← hln] at hlc ⊢
  have Hln := Lib.hid hln
  have HW : Hid (∀ w1 a, w.heap.size ≤ a → SpcIs w1 a (Spc.new 80 f) → Below w.heap.size w w1 → Calls Try.prog 9 #[.int .i64 ((80 : Nat) : Int), .int .i64 (f : Int)] w1 fun e w' => e = .returned (spAt w1.heap.size) ∧ TwoW w w' a w1.heap.size (Spc.new 80 f) (Spc.new 80 f)) := Lib.hid fun w1 a ha h1 hb1 => by
    refine (rnew_any 80 f (by omega) (by omega) (by omega) w1).mono ?_
    rintro e w2 ⟨p, gn, cn, gs, cs, rfl, rfl, hgn, hgs, h2, hb2⟩
    exact ⟨rfl, TwoW.start ha h1 hb1 h2 rfl hgn hgs hb2⟩
  have t0 : decide (80 < n) = true := by simp; omega
  have t1 : decide ((f : Int) < 0) = false := by simp
  have t2 : decide (80 < (f : Int)) = false := by simp; omega
  clear h hact hln
  go_enter Try.func3, Try.ntmps3
  go_wp2_with (first
    | (go_at_call 7; refine (new_ok 80 f (by omega) (by omega) (by omega)).mono ?_; rintro e w1 ⟨a, rfl, ha, h1, hb1⟩; have Hr := Lib.hid (HW.out w1 a ha h1 hb1); clear ha h1 hb1)
    | (go_at_call 9; refine Hr.out.mono ?_; rintro e w2 ⟨rfl, hq⟩; have HK := Lib.hid hq; clear hq))
  obtain ⟨p, hp⟩ : ∃ p, p = w1.heap.size := ⟨_, rfl⟩
  rw [← hp] at HK ⊢
  clear Hr HW hp
  go_loopw [10] (fun iv wr => ∃ (k : Nat) (x : Spc), k ≤ ln ∧ k ≤ 60 ∧ iv = .int .i64 (k : Int) ∧ Hid (TwoW w wr a p x x)) (fun iv _ => ln - (intOf iv).toNat)
  case atStart => exact ⟨0, _, by omega, by omega, rfl, HK⟩
  case round =>
    clear HK
    obtain ⟨k, x, hk, hk60, rfl, HK⟩ := hrel
    by_cases hgo : k < ln ∧ k < 60
    · obtain ⟨hkn, hk6⟩ := hgo
      have hlt : k < l.length := by rw [← Hln.out]; exact hkn
      obtain ⟨b, o, rfl, hcell⟩ := Hact.out k hlt
      obtain ⟨kd, hkd⟩ : ∃ kd, kd = l[k].kind := ⟨_, rfl⟩
      obtain ⟨no, hno⟩ : ∃ no, no = l[k].no := ⟨_, rfl⟩
      rw [← hkd, ← hno] at hcell
      have Hc := Lib.hid hcell
      obtain ⟨c0, c1⟩ := hcell wr HK.out.blw
      have k1 : decide ((k : Int) < 60) = true := by simp; omega
      clear hcell hkd hno hlt
      by_cases hk1 : kd = 1
      · subst hk1
        obtain ⟨er, her⟩ : ∃ er, er = x.freeErr no := ⟨_, rfl⟩
        have HP : Hid (Calls Try.prog 10 #[spAt a, .int .i64 no] wr.drew fun e w' => e = .returned (.int .i64 er) ∧ TwoW w w' a p (x.freed no) x) := Lib.hid (by rw [her]; exact HK.out.drew.pFree no)
        have HD : Hid (∀ w3, TwoW w w3 a p (x.freed no) x → Calls Try.prog 11 #[spAt p, .int .i64 no] w3 fun e w' => e = .returned (.int .i64 er) ∧ TwoW w w' a p (x.freed no) (x.freed no)) := Lib.hid fun w3 h => by rw [her]; exact h.dFree no
        clear her HK
        go_wp2_with fail
        refine wp_region_held_drew (S := fun w' => w'.cell? ⟨b, o + k * 2 + 1, none⟩ = some (.int .i64 no)) (by kernel_rfl) c1 (fun hHeld => ?_)
        refine' wpAnyH_take (i := 0) (oi := ⟨some 87, .move (.tmp 7), _, _, _, none⟩) (v := _) rfl (by kernel_rfl) (by kernel_rfl) (by kernel_rfl) (fun _ _ _ h => h) (Or.inl ⟨by rfl, ?hy1⟩) (by assumption) ?rest1
        case hy1 => (intro w hSw; obtain s1 := hSw; go_simp <;> with_reducible rfl)
        case rest1 =>
        go_frame
        refine' wpAnyH_take (i := 1) (oi := ⟨some 88, .move (.tmp 2), _, _, _, none⟩) (v := _) rfl (by kernel_rfl) (by kernel_rfl) (by kernel_rfl) (fun _ _ _ h => h) (Or.inl ⟨by rfl, ?hy2⟩) (by assumption) ?rest2
        case hy2 => (intro w hSw; obtain s1 := hSw; go_simp <;> with_reducible rfl)
        case rest2 =>
        go_frame
        refine' wpAnyH_take (i := 2) (oi := ⟨some 89, .move (.tmp 10), _, _, _, none⟩) (v := _) rfl (by kernel_rfl) (by kernel_rfl) (by kernel_rfl) (fun _ _ _ h => h) (Or.inl ⟨by rfl, ?hy3⟩) (by assumption) ?rest3
        case hy3 => (intro w hSw; obtain s1 := hSw; go_simp <;> with_reducible rfl)
        case rest3 =>
        go_frame
        refine' wpAnyH_take (i := 3) (oi := ⟨some 90, .indexAddr 22 (.tmp 88) (.tmp 89), _, _, _, none⟩) (v := _) rfl (by kernel_rfl) (by kernel_rfl) (by kernel_rfl) (fun _ _ _ h => h) (Or.inl ⟨by rfl, ?hy4⟩) (by assumption) ?rest4
        case hy4 => (intro w hSw; obtain s1 := hSw; go_simp <;> with_reducible rfl)
        case rest4 =>
        go_frame
        refine' wpAnyH_take (i := 4) (oi := ⟨some 91, .fieldAddr 31 (.tmp 90) 1, _, _, _, none⟩) (v := _) rfl (by kernel_rfl) (by kernel_rfl) (by kernel_rfl) (fun _ _ _ h => h) (Or.inl ⟨by rfl, ?hy5⟩) (by assumption) ?rest5
        case hy5 => (intro w hSw; obtain s1 := hSw; go_simp <;> with_reducible rfl)
        case rest5 =>
        go_frame
        refine' wpAnyH_take (i := 5) (oi := ⟨some 92, .load 3 (.tmp 91), _, _, _, none⟩) (v := _) rfl (by kernel_rfl) (by kernel_rfl) (by kernel_rfl) (fun _ _ _ h => h) (Or.inl ⟨by rfl, ?hy6⟩) (by assumption) ?rest6
        case hy6 => (intro w hSw; obtain s1 := hSw; go_simp <;> with_reducible rfl)
        case rest6 =>
        go_frame
        refine' wpAnyH_take (i := 7) (oi := ⟨some 94, .move (.tmp 9), _, _, _, none⟩) (v := _) rfl (by kernel_rfl) (by kernel_rfl) (by kernel_rfl) (fun _ _ _ h => h) (Or.inl ⟨by rfl, ?hy7⟩) (by assumption) ?rest7
        case hy7 => (intro w hSw; obtain s1 := hSw; go_simp <;> with_reducible rfl)
        case rest7 =>
        go_frame
        refine' wpAnyH_take (i := 8) (oi := ⟨some 95, .move (.tmp 2), _, _, _, none⟩) (v := _) rfl (by kernel_rfl) (by kernel_rfl) (by kernel_rfl) (fun _ _ _ h => h) (Or.inl ⟨by rfl, ?hy8⟩) (by assumption) ?rest8
        case hy8 => (intro w hSw; obtain s1 := hSw; go_simp <;> with_reducible rfl)
        case rest8 =>
        go_frame
        refine' wpAnyH_take (i := 9) (oi := ⟨some 96, .move (.tmp 10), _, _, _, none⟩) (v := _) rfl (by kernel_rfl) (by kernel_rfl) (by kernel_rfl) (fun _ _ _ h => h) (Or.inl ⟨by rfl, ?hy9⟩) (by assumption) ?rest9
        case hy9 => (intro w hSw; obtain s1 := hSw; go_simp <;> with_reducible rfl)
        case rest9 =>
        go_frame
        refine' wpAnyH_take (i := 10) (oi := ⟨some 97, .indexAddr 22 (.tmp 95) (.tmp 96), _, _, _, none⟩) (v := _) rfl (by kernel_rfl) (by kernel_rfl) (by kernel_rfl) (fun _ _ _ h => h) (Or.inl ⟨by rfl, ?hy10⟩) (by assumption) ?rest10
        case hy10 => (intro w hSw; obtain s1 := hSw; go_simp <;> with_reducible rfl)
        case rest10 =>
        go_frame
        refine' wpAnyH_take (i := 11) (oi := ⟨some 98, .fieldAddr 31 (.tmp 97) 1, _, _, _, none⟩) (v := _) rfl (by kernel_rfl) (by kernel_rfl) (by kernel_rfl) (fun _ _ _ h => h) (Or.inl ⟨by rfl, ?hy11⟩) (by assumption) ?rest11
        case hy11 => (intro w hSw; obtain s1 := hSw; go_simp <;> with_reducible rfl)
        case rest11 =>
        go_frame
        refine' wpAnyH_take (i := 12) (oi := ⟨some 99, .load 3 (.tmp 98), _, _, _, none⟩) (v := _) rfl (by kernel_rfl) (by kernel_rfl) (by kernel_rfl) (fun _ _ _ h => h) (Or.inl ⟨by rfl, ?hy12⟩) (by assumption) ?rest12
        case hy12 => (intro w hSw; obtain s1 := hSw; go_simp <;> with_reducible rfl)
        case rest12 =>
        go_frame
        refine wpAnyH_ready (rs := [6]) (by kernel_rfl) (by simp) (AllReadyH.cons (o := ⟨some 93, .call { callee := .value (.func 10), args := #[.tmp 87, .tmp 92], argTypes := #[23, 3] }, _, _, _, none⟩) rfl (fun K hK => ?_) AllReadyH.nil)
        rw [if_pos (by rfl)]
        go_simp
        refine (HP.out).mono ?_
        rintro e w3 ⟨rfl, hq⟩
        have HQ := Lib.hid hq
        have hs3 := (Hc.out w3 hq.blw).2
        clear hq
        dsimp only
        refine hK.out _ _ (hs3) (fun _ => ?_)
        clear hK K
        try go_frame
        refine wpAnyH_ready (rs := [13]) (by kernel_rfl) (by simp) (AllReadyH.cons (o := ⟨some 100, .call { callee := .value (.func 11), args := #[.tmp 94, .tmp 99], argTypes := #[28, 3] }, _, _, _, none⟩) rfl (fun K hK => ?_) AllReadyH.nil)
        rw [if_pos (by rfl)]
        go_simp
        refine ((HD.out w3 HQ.out)).mono ?_
        rintro e w4 ⟨rfl, hq⟩
        have HR := Lib.hid hq
        have hs4 := (Hc.out w4 hq.blw).2
        clear hq
        dsimp only
        refine hK.out _ _ (hs4) (fun _ => ?_)
        clear hK K
        try go_frame
        refine' wpAnyH_take (i := 14) (oi := ⟨some 101, .binOp .neq 24 (.tmp 93) (.tmp 100) 24, _, _, _, none⟩) (v := _) rfl (by kernel_rfl) (by kernel_rfl) (by kernel_rfl) (fun _ _ _ h => h) (Or.inl ⟨by rfl, ?hy13⟩) (by assumption) ?rest13
        case hy13 => (intro w hSw; obtain s1 := hSw; go_simp <;> with_reducible rfl)
        case rest13 =>
        go_frame
        refine wpAnyH_done (by kernel_rfl) ?_ _
        have c9 := hs4
        go_wp2_with (go_at_call 18; refine (HR.out.same no).mono ?_; rintro e w5 ⟨rfl, hq⟩; have HZ := Lib.hid hq; clear hq)
        go_roundw
        case rel => exact ⟨k + 1, _, by omega, by omega, by go_num, HZ⟩
        case measure => simp [intOf]; omega
      · have t1 : (kd == 1) = false := by simp; omega
        have t1' : decide (kd = 1) = false := by simp; omega
        by_cases hk2 : kd = 2
        · subst hk2
          have HP := Lib.hid HK.out.pCommit
          clear t1 t1' hk1 HK
          go_wp2_with (first
            | (go_at_call 12; refine HP.out.mono ?_; rintro e w3 ⟨rfl, hq⟩; have HQ := Lib.hid hq.dCommit; clear hq)
            | (go_at_call 13; refine HQ.out.mono ?_; rintro e w4 ⟨rfl, hq⟩; have HR := Lib.hid hq; have hs4 := (Hc.out w4 hq.blw).2; clear hq)
            | (go_at_call 18; refine (HR.out.same no).mono ?_; rintro e w5 ⟨rfl, hq⟩; have HZ := Lib.hid hq; clear hq))
          go_roundw
          case rel => exact ⟨k + 1, _, by omega, by omega, by go_num, HZ⟩
          case measure => simp [intOf]; omega
        · have t2 : (kd == 2) = false := by simp; omega
          have t2' : decide (kd = 2) = false := by simp; omega
          by_cases hk3 : kd = 3
          · subst hk3
            have HP := Lib.hid HK.out.pAbort
            clear t1 t1' hk1 t2 t2' hk2 HK
            go_wp2_with (first
              | (go_at_call 14; refine HP.out.mono ?_; rintro e w3 ⟨rfl, hq⟩; have HQ := Lib.hid hq.dAbort; clear hq)
              | (go_at_call 15; refine HQ.out.mono ?_; rintro e w4 ⟨rfl, hq⟩; have HR := Lib.hid hq; have hs4 := (Hc.out w4 hq.blw).2; clear hq)
              | (go_at_call 18; refine (HR.out.same no).mono ?_; rintro e w5 ⟨rfl, hq⟩; have HZ := Lib.hid hq; clear hq))
            go_roundw
            case rel => exact ⟨k + 1, _, by omega, by omega, by go_num, HZ⟩
            case measure => simp [intOf]; omega
          · have t3 : (kd == 3) = false := by simp; omega
            have t3' : decide (kd = 3) = false := by simp; omega
            rcases least_or x.held x.n with ⟨m, hm, hl⟩ | hfull
            · have HP := Lib.hid (HK.out.pAlloc hl hm)
              have HD : Hid (∀ w3, TwoW w w3 a p (x.put m true) x → Calls Try.prog 17 #[spAt p] w3 fun e w' => e = .returned (.tuple #[.int .i64 (m : Int), .int .i64 0]) ∧ TwoW w w' a p (x.put m true) (x.put m true)) := Lib.hid fun w3 h => h.dAlloc hl hm
              clear hl hm HK
              go_wp2_with (first
                | (go_at_call 16; refine HP.out.mono ?_; rintro e w3 ⟨rfl, hq⟩; have HQ := Lib.hid (HD.out w3 hq); clear hq)
                | (go_at_call 17; refine HQ.out.mono ?_; rintro e w4 ⟨rfl, hq⟩; have HR := Lib.hid hq; have hs4 := (Hc.out w4 hq.blw).2; clear hq)
                | (go_at_call 18; refine (HR.out.same no).mono ?_; rintro e w5 ⟨rfl, hq⟩; have HZ := Lib.hid hq; clear hq))
              go_roundw
              case rel => exact ⟨k + 1, _, by omega, by omega, by go_num, HZ⟩
              case measure => simp [intOf]; omega
            · have HP := Lib.hid (HK.out.pFull hfull)
              have HD : Hid (∀ w3, TwoW w w3 a p x x → Calls Try.prog 17 #[spAt p] w3 fun e w' => e = .returned (.tuple #[.int .i64 (-1), .int .i64 2]) ∧ TwoW w w' a p x x) := Lib.hid fun w3 h => h.dFull hfull
              clear hfull HK
              go_wp2_with (first
                | (go_at_call 16; refine HP.out.mono ?_; rintro e w3 ⟨rfl, hq⟩; have HQ := Lib.hid (HD.out w3 hq); clear hq)
                | (go_at_call 17; refine HQ.out.mono ?_; rintro e w4 ⟨rfl, hq⟩; have HR := Lib.hid hq; have hs4 := (Hc.out w4 hq.blw).2; clear hq)
                | (go_at_call 18; refine (HR.out.same no).mono ?_; rintro e w5 ⟨rfl, hq⟩; have HZ := Lib.hid hq; clear hq))
              go_roundw
              case rel => exact ⟨k + 1, _, by omega, by omega, by go_num, HZ⟩
              case measure => simp [intOf]; omega
    · have hend : Hid (Below w.heap.size w wr) := Lib.hid HK.out.blw
      by_cases hkn : k < ln
      · have k1 : decide ((k : Int) < 60) = false := by simp; omega
        clear hgo
        go_wp2_with (go_at_call 8; refine (lives06_any _).mono ?_; rintro e w5 ⟨rfl, hb5⟩; have HI5 := Lib.hid (hend.out.trans (hb5.mono hend.out.size)); clear hb5)
        go_ret
        exact ⟨rfl, HI5.out⟩
      · have : k = ln := by omega
        subst this
        clear hgo
        go_wp2_with (go_at_call 8; refine (lives06_any _).mono ?_; rintro e w5 ⟨rfl, hb5⟩; have HI5 := Lib.hid (hend.out.trans (hb5.mono hend.out.size)); clear hb5)
        go_ret
        exact ⟨rfl, HI5.out⟩
set_option maxHeartbeats 4000000 in
set_option maxRecDepth 100000 in
theorem plays_small (f : Nat) (m : Nat) (hn : 1 ≤ m ∧ m ≤ 80) (hf : f ≤ m) (v : Value) (l : List Act2) (w : World) (h : Acts2 w v l) :
    Calls Try.prog 3 #[.int .i64 (m : Int), .int .i64 (f : Int), v] w fun e w' => e = .returned (.bool true) ∧ Below w.heap.size w w' := by
  obtain ⟨A, c, rfl, hlc, hcm, hact⟩ := h.at_
  have Hact := Lib.hid hact
  obtain ⟨ln, hln⟩ : ∃ n, n = l.length := ⟨_, rfl⟩
  rw [← hln] at hlc ⊢
  have Hln := Lib.hid hln
  have HW : Hid (∀ w1 a, w.heap.size ≤ a → SpcIs w1 a (Spc.new m f) → Below w.heap.size w w1 → Calls Try.prog 9 #[.int .i64 ((m : Nat) : Int), .int .i64 (f : Int)] w1 fun e w' => e = .returned (spAt w1.heap.size) ∧ TwoW w w' a w1.heap.size (Spc.new m f) (Spc.new m f)) := Lib.hid fun w1 a ha h1 hb1 => by
    refine (rnew_any m f (by omega) (by omega) (by omega) w1).mono ?_
    rintro e w2 ⟨p, gn, cn, gs, cs, rfl, rfl, hgn, hgs, h2, hb2⟩
    exact ⟨rfl, TwoW.start ha h1 hb1 h2 rfl hgn hgs hb2⟩
  have t0 : decide (80 < (m : Int)) = false := by simp; omega
  have t3 : decide ((m : Int) < 1) = false := by simp; omega
  have t1 : decide ((f : Int) < 0) = false := by simp
  have t2 : decide ((m : Int) < (f : Int)) = false := by simp; omega
  clear h hact hln
  go_enter Try.func3, Try.ntmps3
  go_wp2_with (first
    | (go_at_call 7; refine (new_ok m f (by omega) (by omega) (by omega)).mono ?_; rintro e w1 ⟨a, rfl, ha, h1, hb1⟩; have Hr := Lib.hid (HW.out w1 a ha h1 hb1); clear ha h1 hb1)
    | (go_at_call 9; refine Hr.out.mono ?_; rintro e w2 ⟨rfl, hq⟩; have HK := Lib.hid hq; clear hq))
  obtain ⟨p, hp⟩ : ∃ p, p = w1.heap.size := ⟨_, rfl⟩
  rw [← hp] at HK ⊢
  clear Hr HW hp
  go_loopw [10] (fun iv wr => ∃ (k : Nat) (x : Spc), k ≤ ln ∧ k ≤ 60 ∧ iv = .int .i64 (k : Int) ∧ Hid (TwoW w wr a p x x)) (fun iv _ => ln - (intOf iv).toNat)
  case atStart => exact ⟨0, _, by omega, by omega, rfl, HK⟩
  case round =>
    clear HK
    obtain ⟨k, x, hk, hk60, rfl, HK⟩ := hrel
    by_cases hgo : k < ln ∧ k < 60
    · obtain ⟨hkn, hk6⟩ := hgo
      have hlt : k < l.length := by rw [← Hln.out]; exact hkn
      obtain ⟨b, o, rfl, hcell⟩ := Hact.out k hlt
      obtain ⟨kd, hkd⟩ : ∃ kd, kd = l[k].kind := ⟨_, rfl⟩
      obtain ⟨no, hno⟩ : ∃ no, no = l[k].no := ⟨_, rfl⟩
      rw [← hkd, ← hno] at hcell
      have Hc := Lib.hid hcell
      obtain ⟨c0, c1⟩ := hcell wr HK.out.blw
      have k1 : decide ((k : Int) < 60) = true := by simp; omega
      clear hcell hkd hno hlt
      by_cases hk1 : kd = 1
      · subst hk1
        obtain ⟨er, her⟩ : ∃ er, er = x.freeErr no := ⟨_, rfl⟩
        have HP : Hid (Calls Try.prog 10 #[spAt a, .int .i64 no] wr.drew fun e w' => e = .returned (.int .i64 er) ∧ TwoW w w' a p (x.freed no) x) := Lib.hid (by rw [her]; exact HK.out.drew.pFree no)
        have HD : Hid (∀ w3, TwoW w w3 a p (x.freed no) x → Calls Try.prog 11 #[spAt p, .int .i64 no] w3 fun e w' => e = .returned (.int .i64 er) ∧ TwoW w w' a p (x.freed no) (x.freed no)) := Lib.hid fun w3 h => by rw [her]; exact h.dFree no
        clear her HK
        go_wp2_with fail
        refine wp_region_held_drew (S := fun w' => w'.cell? ⟨b, o + k * 2 + 1, none⟩ = some (.int .i64 no)) (by kernel_rfl) c1 (fun hHeld => ?_)
        refine' wpAnyH_take (i := 0) (oi := ⟨some 87, .move (.tmp 7), _, _, _, none⟩) (v := _) rfl (by kernel_rfl) (by kernel_rfl) (by kernel_rfl) (fun _ _ _ h => h) (Or.inl ⟨by rfl, ?hy14⟩) (by assumption) ?rest14
        case hy14 => (intro w hSw; obtain s1 := hSw; go_simp <;> with_reducible rfl)
        case rest14 =>
        go_frame
        refine' wpAnyH_take (i := 1) (oi := ⟨some 88, .move (.tmp 2), _, _, _, none⟩) (v := _) rfl (by kernel_rfl) (by kernel_rfl) (by kernel_rfl) (fun _ _ _ h => h) (Or.inl ⟨by rfl, ?hy15⟩) (by assumption) ?rest15
        case hy15 => (intro w hSw; obtain s1 := hSw; go_simp <;> with_reducible rfl)
        case rest15 =>
        go_frame
        refine' wpAnyH_take (i := 2) (oi := ⟨some 89, .move (.tmp 10), _, _, _, none⟩) (v := _) rfl (by kernel_rfl) (by kernel_rfl) (by kernel_rfl) (fun _ _ _ h => h) (Or.inl ⟨by rfl, ?hy16⟩) (by assumption) ?rest16
        case hy16 => (intro w hSw; obtain s1 := hSw; go_simp <;> with_reducible rfl)
        case rest16 =>
        go_frame
        refine' wpAnyH_take (i := 3) (oi := ⟨some 90, .indexAddr 22 (.tmp 88) (.tmp 89), _, _, _, none⟩) (v := _) rfl (by kernel_rfl) (by kernel_rfl) (by kernel_rfl) (fun _ _ _ h => h) (Or.inl ⟨by rfl, ?hy17⟩) (by assumption) ?rest17
        case hy17 => (intro w hSw; obtain s1 := hSw; go_simp <;> with_reducible rfl)
        case rest17 =>
        go_frame
        refine' wpAnyH_take (i := 4) (oi := ⟨some 91, .fieldAddr 31 (.tmp 90) 1, _, _, _, none⟩) (v := _) rfl (by kernel_rfl) (by kernel_rfl) (by kernel_rfl) (fun _ _ _ h => h) (Or.inl ⟨by rfl, ?hy18⟩) (by assumption) ?rest18
        case hy18 => (intro w hSw; obtain s1 := hSw; go_simp <;> with_reducible rfl)
        case rest18 =>
        go_frame
        refine' wpAnyH_take (i := 5) (oi := ⟨some 92, .load 3 (.tmp 91), _, _, _, none⟩) (v := _) rfl (by kernel_rfl) (by kernel_rfl) (by kernel_rfl) (fun _ _ _ h => h) (Or.inl ⟨by rfl, ?hy19⟩) (by assumption) ?rest19
        case hy19 => (intro w hSw; obtain s1 := hSw; go_simp <;> with_reducible rfl)
        case rest19 =>
        go_frame
        refine' wpAnyH_take (i := 7) (oi := ⟨some 94, .move (.tmp 9), _, _, _, none⟩) (v := _) rfl (by kernel_rfl) (by kernel_rfl) (by kernel_rfl) (fun _ _ _ h => h) (Or.inl ⟨by rfl, ?hy20⟩) (by assumption) ?rest20
        case hy20 => (intro w hSw; obtain s1 := hSw; go_simp <;> with_reducible rfl)
        case rest20 =>
        go_frame
        refine' wpAnyH_take (i := 8) (oi := ⟨some 95, .move (.tmp 2), _, _, _, none⟩) (v := _) rfl (by kernel_rfl) (by kernel_rfl) (by kernel_rfl) (fun _ _ _ h => h) (Or.inl ⟨by rfl, ?hy21⟩) (by assumption) ?rest21
        case hy21 => (intro w hSw; obtain s1 := hSw; go_simp <;> with_reducible rfl)
        case rest21 =>
        go_frame
        refine' wpAnyH_take (i := 9) (oi := ⟨some 96, .move (.tmp 10), _, _, _, none⟩) (v := _) rfl (by kernel_rfl) (by kernel_rfl) (by kernel_rfl) (fun _ _ _ h => h) (Or.inl ⟨by rfl, ?hy22⟩) (by assumption) ?rest22
        case hy22 => (intro w hSw; obtain s1 := hSw; go_simp <;> with_reducible rfl)
        case rest22 =>
        go_frame
        refine' wpAnyH_take (i := 10) (oi := ⟨some 97, .indexAddr 22 (.tmp 95) (.tmp 96), _, _, _, none⟩) (v := _) rfl (by kernel_rfl) (by kernel_rfl) (by kernel_rfl) (fun _ _ _ h => h) (Or.inl ⟨by rfl, ?hy23⟩) (by assumption) ?rest23
        case hy23 => (intro w hSw; obtain s1 := hSw; go_simp <;> with_reducible rfl)
        case rest23 =>
        go_frame
        refine' wpAnyH_take (i := 11) (oi := ⟨some 98, .fieldAddr 31 (.tmp 97) 1, _, _, _, none⟩) (v := _) rfl (by kernel_rfl) (by kernel_rfl) (by kernel_rfl) (fun _ _ _ h => h) (Or.inl ⟨by rfl, ?hy24⟩) (by assumption) ?rest24
        case hy24 => (intro w hSw; obtain s1 := hSw; go_simp <;> with_reducible rfl)
        case rest24 =>
        go_frame
        refine' wpAnyH_take (i := 12) (oi := ⟨some 99, .load 3 (.tmp 98), _, _, _, none⟩) (v := _) rfl (by kernel_rfl) (by kernel_rfl) (by kernel_rfl) (fun _ _ _ h => h) (Or.inl ⟨by rfl, ?hy25⟩) (by assumption) ?rest25
        case hy25 => (intro w hSw; obtain s1 := hSw; go_simp <;> with_reducible rfl)
        case rest25 =>
        go_frame
        refine wpAnyH_ready (rs := [6]) (by kernel_rfl) (by simp) (AllReadyH.cons (o := ⟨some 93, .call { callee := .value (.func 10), args := #[.tmp 87, .tmp 92], argTypes := #[23, 3] }, _, _, _, none⟩) rfl (fun K hK => ?_) AllReadyH.nil)
        rw [if_pos (by rfl)]
        go_simp
        refine (HP.out).mono ?_
        rintro e w3 ⟨rfl, hq⟩
        have HQ := Lib.hid hq
        have hs3 := (Hc.out w3 hq.blw).2
        clear hq
        dsimp only
        refine hK.out _ _ (hs3) (fun _ => ?_)
        clear hK K
        try go_frame
        refine wpAnyH_ready (rs := [13]) (by kernel_rfl) (by simp) (AllReadyH.cons (o := ⟨some 100, .call { callee := .value (.func 11), args := #[.tmp 94, .tmp 99], argTypes := #[28, 3] }, _, _, _, none⟩) rfl (fun K hK => ?_) AllReadyH.nil)
        rw [if_pos (by rfl)]
        go_simp
        refine ((HD.out w3 HQ.out)).mono ?_
        rintro e w4 ⟨rfl, hq⟩
        have HR := Lib.hid hq
        have hs4 := (Hc.out w4 hq.blw).2
        clear hq
        dsimp only
        refine hK.out _ _ (hs4) (fun _ => ?_)
        clear hK K
        try go_frame
        refine' wpAnyH_take (i := 14) (oi := ⟨some 101, .binOp .neq 24 (.tmp 93) (.tmp 100) 24, _, _, _, none⟩) (v := _) rfl (by kernel_rfl) (by kernel_rfl) (by kernel_rfl) (fun _ _ _ h => h) (Or.inl ⟨by rfl, ?hy26⟩) (by assumption) ?rest26
        case hy26 => (intro w hSw; obtain s1 := hSw; go_simp <;> with_reducible rfl)
        case rest26 =>
        go_frame
        refine wpAnyH_done (by kernel_rfl) ?_ _
        have c9 := hs4
        go_wp2_with (go_at_call 18; refine (HR.out.same no).mono ?_; rintro e w5 ⟨rfl, hq⟩; have HZ := Lib.hid hq; clear hq)
        go_roundw
        case rel => exact ⟨k + 1, _, by omega, by omega, by go_num, HZ⟩
        case measure => simp [intOf]; omega
      · have t1 : (kd == 1) = false := by simp; omega
        have t1' : decide (kd = 1) = false := by simp; omega
        by_cases hk2 : kd = 2
        · subst hk2
          have HP := Lib.hid HK.out.pCommit
          clear t1 t1' hk1 HK
          go_wp2_with (first
            | (go_at_call 12; refine HP.out.mono ?_; rintro e w3 ⟨rfl, hq⟩; have HQ := Lib.hid hq.dCommit; clear hq)
            | (go_at_call 13; refine HQ.out.mono ?_; rintro e w4 ⟨rfl, hq⟩; have HR := Lib.hid hq; have hs4 := (Hc.out w4 hq.blw).2; clear hq)
            | (go_at_call 18; refine (HR.out.same no).mono ?_; rintro e w5 ⟨rfl, hq⟩; have HZ := Lib.hid hq; clear hq))
          go_roundw
          case rel => exact ⟨k + 1, _, by omega, by omega, by go_num, HZ⟩
          case measure => simp [intOf]; omega
        · have t2 : (kd == 2) = false := by simp; omega
          have t2' : decide (kd = 2) = false := by simp; omega
          by_cases hk3 : kd = 3
          · subst hk3
            have HP := Lib.hid HK.out.pAbort
            clear t1 t1' hk1 t2 t2' hk2 HK
            go_wp2_with (first
              | (go_at_call 14; refine HP.out.mono ?_; rintro e w3 ⟨rfl, hq⟩; have HQ := Lib.hid hq.dAbort; clear hq)
              | (go_at_call 15; refine HQ.out.mono ?_; rintro e w4 ⟨rfl, hq⟩; have HR := Lib.hid hq; have hs4 := (Hc.out w4 hq.blw).2; clear hq)
              | (go_at_call 18; refine (HR.out.same no).mono ?_; rintro e w5 ⟨rfl, hq⟩; have HZ := Lib.hid hq; clear hq))
            go_roundw
            case rel => exact ⟨k + 1, _, by omega, by omega, by go_num, HZ⟩
            case measure => simp [intOf]; omega
          · have t3 : (kd == 3) = false := by simp; omega
            have t3' : decide (kd = 3) = false := by simp; omega
            rcases least_or x.held x.n with ⟨m, hm, hl⟩ | hfull
            · have HP := Lib.hid (HK.out.pAlloc hl hm)
              have HD : Hid (∀ w3, TwoW w w3 a p (x.put m true) x → Calls Try.prog 17 #[spAt p] w3 fun e w' => e = .returned (.tuple #[.int .i64 (m : Int), .int .i64 0]) ∧ TwoW w w' a p (x.put m true) (x.put m true)) := Lib.hid fun w3 h => h.dAlloc hl hm
              clear hl hm HK
              go_wp2_with (first
                | (go_at_call 16; refine HP.out.mono ?_; rintro e w3 ⟨rfl, hq⟩; have HQ := Lib.hid (HD.out w3 hq); clear hq)
                | (go_at_call 17; refine HQ.out.mono ?_; rintro e w4 ⟨rfl, hq⟩; have HR := Lib.hid hq; have hs4 := (Hc.out w4 hq.blw).2; clear hq)
                | (go_at_call 18; refine (HR.out.same no).mono ?_; rintro e w5 ⟨rfl, hq⟩; have HZ := Lib.hid hq; clear hq))
              go_roundw
              case rel => exact ⟨k + 1, _, by omega, by omega, by go_num, HZ⟩
              case measure => simp [intOf]; omega
            · have HP := Lib.hid (HK.out.pFull hfull)
              have HD : Hid (∀ w3, TwoW w w3 a p x x → Calls Try.prog 17 #[spAt p] w3 fun e w' => e = .returned (.tuple #[.int .i64 (-1), .int .i64 2]) ∧ TwoW w w' a p x x) := Lib.hid fun w3 h => h.dFull hfull
              clear hfull HK
              go_wp2_with (first
                | (go_at_call 16; refine HP.out.mono ?_; rintro e w3 ⟨rfl, hq⟩; have HQ := Lib.hid (HD.out w3 hq); clear hq)
                | (go_at_call 17; refine HQ.out.mono ?_; rintro e w4 ⟨rfl, hq⟩; have HR := Lib.hid hq; have hs4 := (Hc.out w4 hq.blw).2; clear hq)
                | (go_at_call 18; refine (HR.out.same no).mono ?_; rintro e w5 ⟨rfl, hq⟩; have HZ := Lib.hid hq; clear hq))
              go_roundw
              case rel => exact ⟨k + 1, _, by omega, by omega, by go_num, HZ⟩
              case measure => simp [intOf]; omega
    · have hend : Hid (Below w.heap.size w wr) := Lib.hid HK.out.blw
      by_cases hkn : k < ln
      · have k1 : decide ((k : Int) < 60) = false := by simp; omega
        clear hgo
        go_wp2_with (go_at_call 8; refine (lives06_any _).mono ?_; rintro e w5 ⟨rfl, hb5⟩; have HI5 := Lib.hid (hend.out.trans (hb5.mono hend.out.size)); clear hb5)
        go_ret
        exact ⟨rfl, HI5.out⟩
      · have : k = ln := by omega
        subst this
        clear hgo
        go_wp2_with (go_at_call 8; refine (lives06_any _).mono ?_; rintro e w5 ⟨rfl, hb5⟩; have HI5 := Lib.hid (hend.out.trans (hb5.mono hend.out.size)); clear hb5)
        go_ret
        exact ⟨rfl, HI5.out⟩
theorem spacePlays_walk (n first : Int) (v : Value) (l : List Act2) (w : World) (_ : (Lit.int .i64 n).wf = true) (_ : (Lit.int .i64 first).wf = true) (h : Acts2 w v l) :
    Calls Try.prog 3 #[.int .i64 n, .int .i64 first, v] w fun e w' => e = .returned (.bool true) ∧ Below w.heap.size w w' := by
  by_cases hb : n < 1 ∨ first < 0 ∨ (80 < n ∧ 80 < first) ∨ (n ≤ 80 ∧ n < first)
  · exact plays_bad n first hb v w
  · obtain ⟨f, rfl⟩ : ∃ f : Nat, first = (f : Int) := ⟨first.toNat, by omega⟩
    by_cases h80 : 80 < n
    · exact plays_great n f h80 (by omega) v l w h
    · obtain ⟨m, rfl⟩ : ∃ m : Nat, n = (m : Int) := ⟨n.toNat, by omega⟩
      exact plays_small f m (by omega) (by omega) v l w h
end Go.Proofs.Ytllhilnajjohiaa
