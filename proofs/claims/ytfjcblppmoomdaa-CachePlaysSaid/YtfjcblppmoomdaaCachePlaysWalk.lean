/-
  CachePlays: its walk.
-/
import Derived.Test.YtfjcblppmoomdaaCrR
import Derived.Deep.RegionHeld3
namespace Go.Proofs.Ytfjcblppmoomdaa
open Go.RowKit
set_option maxRecDepth 100000 in
set_option maxHeartbeats 1000000 in
theorem cachePlays_out (n : Int) (hn : n < 8 ∨ 64 < n) (v : Value) (w : World) :
    Calls Try.prog 3 #[.int .i64 n, v] w fun e w' => e = .returned (.bool true) ∧ Below w.heap.size w w' := by
  have Hnew := Lib.hid (new_ok (n := 24) w (fun k => w.heap.size ≤ k) ⟨by omega, by omega⟩ (fun k hk => hk))
  have Hcn := Lib.hid fun w1 : World => cnew_no (w.heap.size + 2) w1 hn
  by_cases h8 : n < 8
  · have t0 : decide (n < 8) = true := by simp [h8]
    clear hn
    go_enter Try.func3, Try.ntmps3
    go_wp2_with (first
      | (go_at_call 8; refine Hnew.out.mono ?_; rintro e w1 ⟨rfl, hd1, hb1⟩; have Hb1 := Lib.hid hb1; clear hd1 hb1)
      | (go_at_call 9; refine (Hcn.out w1).mono ?_; rintro e w2 ⟨rfl, rfl⟩)
      | (go_at_call 10; refine (clives_any _).mono ?_; rintro e w4 ⟨rfl, hb4⟩))
    go_ret
    exact ⟨rfl, up Hb1.out hb4⟩
  · have h64 : 64 < n := by omega
    have t0 : decide (n < 8) = false := by simp; omega
    have t1 : decide (64 < n) = true := by simp [h64]
    clear hn
    go_enter Try.func3, Try.ntmps3
    go_wp2_with (first
      | (go_at_call 8; refine Hnew.out.mono ?_; rintro e w1 ⟨rfl, hd1, hb1⟩; have Hb1 := Lib.hid hb1; clear hd1 hb1)
      | (go_at_call 9; refine (Hcn.out w1).mono ?_; rintro e w2 ⟨rfl, rfl⟩)
      | (go_at_call 10; refine (clives_any _).mono ?_; rintro e w4 ⟨rfl, hb4⟩))
    go_ret
    exact ⟨rfl, up Hb1.out hb4⟩
set_option maxRecDepth 100000 in
set_option maxHeartbeats 8000000 in
theorem cachePlays_in (n : Nat) (hn : 8 ≤ n ∧ n ≤ 64) (v : Value) (l : List Act3) (w : World) (h : Acts3 w v l) :
    Calls Try.prog 3 #[.int .i64 (n : Int), v] w fun e w' => e = .returned (.bool true) ∧ Below w.heap.size w w' := by
  obtain ⟨A, cl, rfl, p1, p2, p3⟩ := h.at_
  obtain ⟨nl, hnl⟩ : ∃ nl, nl = l.length := ⟨_, rfl⟩
  rw [← hnl] at p1 ⊢
  have Hl : Hid (∀ k (_ : k < nl), ∃ b o kind no by_, A = some ⟨b, o, none⟩ ∧ ∀ w', Below w.heap.size w w' →
    w'.cell? ⟨b, o + k * 3, none⟩ = some (.int .i64 kind) ∧ w'.cell? ⟨b, o + k * 3 + 1, none⟩ = some (.int .i64 no) ∧ w'.cell? ⟨b, o + k * 3 + 2, none⟩ = some (.int .u8 ((by_ : UInt8).toNat : Int))) := Lib.hid fun k hk => by
    obtain ⟨b, o, e1, e2⟩ := p3 k (hnl ▸ hk)
    exact ⟨b, o, _, _, _, e1, e2⟩
  obtain ⟨E, hE⟩ : ∃ E : Nat → Prop, E = fun k => w.heap.size ≤ k := ⟨_, rfl⟩
  have HE1 : Hid (∀ k, w.heap.size ≤ k → E k) := Lib.hid fun k hk => by rw [hE]; exact hk
  have HBel : Hid (∀ w', Only E w w' → Below w.heap.size w w') := Lib.hid fun w' h => by rw [hE] at h; exact h.below (Nat.le_refl _)
  have Hnew := Lib.hid (new_ok (n := 24) w (fun k => w.heap.size ≤ k) ⟨by omega, by omega⟩ (fun k hk => hk))
  have Hcn := Lib.hid fun w1 : World => cnew_ok (w.heap.size + 2) (n := n) w1 hn
  have Hrn := Lib.hid fun w2 : World => rnew_any 24 w2 (fun k => w2.heap.size ≤ k) (fun k => w2.heap.size ≤ k) (by omega) (fun _ h => h) (fun _ h => h)
  have Hrc := Lib.hid fun (q : Nat) (w3 : World) (E' : Nat → Prop) => rcnew_any q (n := n) w3 hn E'
  have Hstart : Hid (∀ (w1 w2 w3 w4 : World) (bl bm : Nat) (S : Nat → Value) (D : DataW Value) (vL : Value) (ls : List Value) (bg cap : Nat) (rest : List Value) (P : List (Frm × Value)), DevIs w1 (fun k => w.heap.size ≤ k) (w.heap.size + 2) bl bm S D (Dev.new 24) → Below w.heap.size w w1 →
      CacheIs w2 (w1.heap.size + 1) w1.heap.size (w.heap.size + 2) (Cch.new n) → Below w1.heap.size w1 w2 → RefIs w3 (fun k => w2.heap.size ≤ k) (fun k => w2.heap.size ≤ k) w2.heap.size vL (.slice none 0 0) (.slice none 0 0) ls [] (Ref.new 24) → Below w2.heap.size w2 w3 →
      CRefIs w4 (fun k => w2.heap.size ≤ k) w2.heap.size w3.heap.size bg cap rest P (Cch.new n) → w3.heap.size < bg → Below w3.heap.size w3 w4 → Past E w w4 (w1.heap.size + 1) w1.heap.size (w.heap.size + 2) w2.heap.size w3.heap.size bg cap rest (Cch.new n) (Dev.new 24) 0) := Lib.hid fun w1 w2 w3 w4 bl bm S D vL ls bg cap rest P hd h01 hc h12 hx h23 hy hbg h34 => by
    rw [hE]
    exact ⟨Two.start hd h01.size hc h12 (by omega) (Nat.le_refl _) hx h23 hy hbg h34, st_new hn, Only.of_below (up (up (up h01 h12) h23) h34)⟩
  have t0 : decide ((n : Int) < 8) = false := by simp; omega
  have t1 : decide (64 < (n : Int)) = false := by simp; omega
  clear h p3 hnl hn hE
  go_enter Try.func3, Try.ntmps3
  go_wp2_with (first
    | (go_at_call 8; refine Hnew.out.mono ?_; rintro e w1 ⟨rfl, hd1, hb1⟩; have Hd1 := Lib.hid hd1; have Hb1 := Lib.hid hb1; clear hd1 hb1)
    | (go_at_call 9; refine (Hcn.out w1).mono ?_; rintro e w2 ⟨rfl, hc2, hb2⟩; have Hc2 := Lib.hid hc2; have Hb2 := Lib.hid hb2; clear hc2 hb2)
    | (go_at_call 12; refine (Hrn.out w2).mono ?_; rintro e w3 ⟨vL, ls, rfl, hx3, hb3⟩; have Hx3 := Lib.hid hx3; have Hb3 := Lib.hid hb3; clear hx3 hb3)
    | (go_at_call 11; refine (Hrc.out w2.heap.size w3 (fun k => w2.heap.size ≤ k)).mono ?_; rintro e w4 ⟨bg, cap, rest, P, rfl, hbg, hy4, hb4⟩; have HS := Lib.hid (Hstart.out _ _ _ _ _ _ _ _ _ _ _ _ _ _ Hd1.out Hb1.out Hc2.out Hb2.out Hx3.out Hb3.out hy4 hbg hb4); clear hbg hy4 hb4))
  obtain ⟨p, hp⟩ : ∃ p, p = w.heap.size + 2 := ⟨_, rfl⟩
  obtain ⟨c, hc⟩ : ∃ c, c = w1.heap.size + 1 := ⟨_, rfl⟩
  obtain ⟨bf, hbf⟩ : ∃ bf, bf = w1.heap.size := ⟨_, rfl⟩
  obtain ⟨q, hq⟩ : ∃ q, q = w2.heap.size := ⟨_, rfl⟩
  obtain ⟨r, hr⟩ : ∃ r, r = w3.heap.size := ⟨_, rfl⟩
  rw [← hp, ← hc, ← hbf, ← hq, ← hr] at HS
  rw [← hp, ← hc, ← hr]
  clear hp hc hbf hq hr Hd1 Hb1 Hc2 Hb2 Hx3 Hb3 Hstart Hrc Hrn Hcn Hnew
  go_loopw [10] (fun iv wr => ∃ (j : Nat), j ≤ nl ∧ j ≤ 60 ∧ iv = .int .i64 (j : Int) ∧ Hid (∃ x d, Past E w wr c bf p q r bg cap rest x d j)) (fun iv _ => nl - (intOf iv).toNat)
  case atStart => exact ⟨0, by omega, by omega, rfl, Lib.hid ⟨_, _, HS.out⟩⟩
  case round =>
    obtain ⟨j, hjl', hj60, rfl, HP⟩ := hrel
    by_cases hgo : j < nl ∧ j < 60
    · obtain ⟨hjl, hj6⟩ := hgo
      obtain ⟨b, o, kind, no, by_, rfl, hcells⟩ := Hl.out j hjl
      obtain ⟨x, d, hpast⟩ := HP.out
      obtain ⟨a0, a1, a2⟩ := hcells wr.drew (HBel.out _ (hpast.only.trans (Only.drew E wr)))
      obtain ⟨hdoes, hafter⟩ := plays_round HE1.out hpast hj6 kind no by_
      have Hdoes := Lib.hid hdoes
      have Hafter := Lib.hid hafter
      have j0 : (0 : Int) ≤ (j : Int) := by omega
      have j1 : (j : Int) < (nl : Int) := by omega
      have j2 : (j : Int) < 60 := by omega
      have j3 : (j : Int).toNat = j := by omega
      clear hdoes hafter hcells hpast HP
      go_wp2_with fail
      refine wp_region_held_drew (S := fun _ => True) (by kernel_rfl) trivial (fun hHeld => ?_)
      refine' wpAnyH_take (i := 0) (oi := ⟨some 62, .move (.tmp 7), _, _, _, none⟩) (v := _) rfl (by kernel_rfl) (by kernel_rfl) (by kernel_rfl) (fun _ _ _ h => h) (Or.inl ⟨by rfl, ?hy1⟩) (by assumption) ?rest1
      case hy1 => (intro w hSw; obtain _ := hSw; go_simp <;> with_reducible rfl)
      case rest1 =>
      go_frame
      refine' wpAnyH_take (i := 1) (oi := ⟨some 63, .move (.tmp 5), _, _, _, none⟩) (v := _) rfl (by kernel_rfl) (by kernel_rfl) (by kernel_rfl) (fun _ _ _ h => h) (Or.inl ⟨by rfl, ?hy2⟩) (by assumption) ?rest2
      case hy2 => (intro w hSw; obtain _ := hSw; go_simp <;> with_reducible rfl)
      case rest2 =>
      go_frame
      refine' wpAnyH_take (i := 2) (oi := ⟨some 64, .move (.tmp 9), _, _, _, none⟩) (v := _) rfl (by kernel_rfl) (by kernel_rfl) (by kernel_rfl) (fun _ _ _ h => h) (Or.inl ⟨by rfl, ?hy3⟩) (by assumption) ?rest3
      case hy3 => (intro w hSw; obtain _ := hSw; go_simp <;> with_reducible rfl)
      case rest3 =>
      go_frame
      refine' wpAnyH_take (i := 3) (oi := ⟨some 65, .move (.tmp 1), _, _, _, none⟩) (v := _) rfl (by kernel_rfl) (by kernel_rfl) (by kernel_rfl) (fun _ _ _ h => h) (Or.inl ⟨by rfl, ?hy4⟩) (by assumption) ?rest4
      case hy4 => (intro w hSw; obtain _ := hSw; go_simp <;> with_reducible rfl)
      case rest4 =>
      go_frame
      refine' wpAnyH_take (i := 4) (oi := ⟨some 66, .move (.tmp 10), _, _, _, none⟩) (v := _) rfl (by kernel_rfl) (by kernel_rfl) (by kernel_rfl) (fun _ _ _ h => h) (Or.inl ⟨by rfl, ?hy5⟩) (by assumption) ?rest5
      case hy5 => (intro w hSw; obtain _ := hSw; go_simp <;> with_reducible rfl)
      case rest5 =>
      go_frame
      refine' wpAnyH_take (i := 5) (oi := ⟨some 67, .indexAddr 22 (.tmp 65) (.tmp 66), _, _, _, none⟩) (v := _) rfl (by kernel_rfl) (by kernel_rfl) (by kernel_rfl) (fun _ _ _ h => h) (Or.inl ⟨by rfl, ?hy6⟩) (by assumption) ?rest6
      case hy6 => (intro w hSw; obtain _ := hSw; go_simp <;> with_reducible rfl)
      case rest6 =>
      go_frame
      refine wpAnyH_ready (rs := [6]) (by kernel_rfl) (by simp) (AllReadyH.cons (o := ⟨some 68, .load 37 (.tmp 67), _, _, _, none⟩) rfl (fun K hK => ?_) AllReadyH.nil)
      rw [if_pos (by rfl)]
      go_simp
      refine hK.out _ _ trivial (fun _ => ?_)
      clear hK K
      try go_frame
      refine wpAnyH_ready (rs := [7]) (by kernel_rfl) (by simp) (AllReadyH.cons (o := ⟨some 69, .call { callee := .value (.func 13), args := #[.tmp 62, .tmp 63, .tmp 64, .tmp 68], argTypes := #[27, 23, 31, 37] }, _, _, _, none⟩) rfl (fun K hK => ?_) AllReadyH.nil)
      rw [if_pos (by rfl)]
      go_simp
      refine (Hdoes.out).mono ?_
      rintro e w2 ⟨rfl, x2, d2, ha⟩
      obtain ⟨m, hm⟩ : ∃ m, m = (kept x2 false).length := ⟨_, rfl⟩
      obtain ⟨m2, hm2⟩ : ∃ m2, m2 = (kept x2 true).length := ⟨_, rfl⟩
      obtain ⟨n2, hn2⟩ : ∃ n2, n2 = d2.n := ⟨_, rfl⟩
      obtain ⟨ha1, ha2, ha3, ha4, ha5, ha6⟩ := Hafter.out w2 x2 d2 ha m m2 n2 hm hm2 hn2
      have HA1 := Lib.hid ha1
      have HA2 := Lib.hid ha2
      have HA3 := Lib.hid ha3
      have HA4 := Lib.hid ha4
      have HA5 := Lib.hid ha5
      have HA6 := Lib.hid ha6
      clear ha ha1 ha2 ha3 ha4 ha5 ha6 hm hm2 hn2
      dsimp only
      refine hK.out _ _ trivial (fun _ => ?_)
      clear hK K
      try go_frame
      refine' wpAnyH_take (i := 8) (oi := ⟨some 70, .unOp .not 4 (.tmp 69), _, _, _, none⟩) (v := _) rfl (by kernel_rfl) (by kernel_rfl) (by kernel_rfl) (fun _ _ _ h => h) (Or.inl ⟨by rfl, ?hy7⟩) (by assumption) ?rest7
      case hy7 => (intro w hSw; obtain _ := hSw; go_simp <;> with_reducible rfl)
      case rest7 =>
      go_frame
      refine' wpAnyH_take (i := 9) (oi := ⟨some 71, .move (.tmp 70), _, _, _, none⟩) (v := _) rfl (by kernel_rfl) (by kernel_rfl) (by kernel_rfl) (fun _ _ _ h => h) (Or.inl ⟨by rfl, ?hy8⟩) (by assumption) ?rest8
      case hy8 => (intro w hSw; obtain _ := hSw; go_simp <;> with_reducible rfl)
      case rest8 =>
      go_frame
      refine' wpAnyH_take (i := 10) (oi := ⟨some 72, .move (.tmp 7), _, _, _, some (9, false)⟩) (v := _) rfl (by kernel_rfl) (by kernel_rfl) (by kernel_rfl) (fun _ _ _ h => h) (Or.inl ⟨by rfl, ?hy9⟩) (by assumption) ?rest9
      case hy9 => (intro w hSw; obtain _ := hSw; go_simp <;> with_reducible rfl)
      case rest9 =>
      go_frame
      refine' wpAnyH_take (i := 12) (oi := ⟨some 74, .move (.tmp 9), _, _, _, some (9, false)⟩) (v := _) rfl (by kernel_rfl) (by kernel_rfl) (by kernel_rfl) (fun _ _ _ h => h) (Or.inl ⟨by rfl, ?hy10⟩) (by assumption) ?rest10
      case hy10 => (intro w hSw; obtain _ := hSw; go_simp <;> with_reducible rfl)
      case rest10 =>
      go_frame
      refine wpAnyH_ready (rs := [11]) (by kernel_rfl) (by simp) (AllReadyH.cons (o := ⟨some 73, .call { callee := .value (.func 15), args := #[.tmp 72], argTypes := #[27] }, _, _, _, some (9, false)⟩) rfl (fun K hK => ?_) AllReadyH.nil)
      rw [if_pos (by rfl)]
      go_simp
      refine (HA1.out).mono ?_
      rintro e w3 ⟨A3, c3, rfl, ht3, hb3⟩
      have Hb3 := Lib.hid hb3
      have HT3 := Lib.hid (HA2.out w3 A3 c3 hb3 ht3)
      clear ht3 hb3
      dsimp only
      refine hK.out _ _ trivial (fun _ => ?_)
      clear hK K
      try go_frame
      refine wpAnyH_ready (rs := [13]) (by kernel_rfl) (by simp) (AllReadyH.cons (o := ⟨some 75, .call { callee := .value (.func 16), args := #[.tmp 74, .const (.bool false)], argTypes := #[31, 4] }, _, _, _, some (9, false)⟩) rfl (fun K hK => ?_) AllReadyH.nil)
      rw [if_pos (by rfl)]
      go_simp
      refine (HT3.out).mono ?_
      rintro e w4 ⟨A4, c4, rfl, hb4, hi4⟩
      have Hb4 := Lib.hid (up Hb3.out hb4)
      have HI4 := Lib.hid hi4
      clear hb4 hi4
      dsimp only
      refine hK.out _ _ trivial (fun _ => ?_)
      clear hK K
      try go_frame
      refine wpAnyH_ready (rs := [14]) (by kernel_rfl) (by simp) (AllReadyH.cons (o := ⟨some 76, .call { callee := .value (.func 14), args := #[.tmp 73, .tmp 75], argTypes := #[39, 39] }, _, _, _, some (9, false)⟩) rfl (fun K hK => ?_) AllReadyH.nil)
      rw [if_pos (by rfl)]
      go_simp
      refine (HI4.out).mono ?_
      rintro e w5 ⟨rfl, hb5⟩
      have Hb5 := Lib.hid (up Hb4.out hb5)
      have HD5 := Lib.hid (HA3.out w5 (up Hb4.out hb5))
      clear hb5
      dsimp only
      refine hK.out _ _ trivial (fun _ => ?_)
      clear hK K
      try go_frame
      refine' wpAnyH_take (i := 15) (oi := ⟨some 77, .unOp .not 4 (.tmp 76), _, _, _, some (9, false)⟩) (v := _) rfl (by kernel_rfl) (by kernel_rfl) (by kernel_rfl) (fun _ _ _ h => h) (Or.inl ⟨by rfl, ?hy11⟩) (by assumption) ?rest11
      case hy11 => (intro w hSw; obtain _ := hSw; go_simp <;> with_reducible rfl)
      case rest11 =>
      go_frame
      refine' wpAnyH_take (i := 16) (oi := ⟨some 78, .pick (.tmp 71) (.const (.bool true)) (.tmp 77), _, _, _, none⟩) (v := _) rfl (by kernel_rfl) (by kernel_rfl) (by kernel_rfl) (fun _ _ _ h => h) (Or.inl ⟨by rfl, ?hy12⟩) (by assumption) ?rest12
      case hy12 => (intro w hSw; obtain _ := hSw; go_simp <;> with_reducible rfl)
      case rest12 =>
      go_frame
      refine' wpAnyH_take (i := 17) (oi := ⟨some 79, .move (.tmp 78), _, _, _, none⟩) (v := _) rfl (by kernel_rfl) (by kernel_rfl) (by kernel_rfl) (fun _ _ _ h => h) (Or.inl ⟨by rfl, ?hy13⟩) (by assumption) ?rest13
      case hy13 => (intro w hSw; obtain _ := hSw; go_simp <;> with_reducible rfl)
      case rest13 =>
      go_frame
      refine' wpAnyH_take (i := 18) (oi := ⟨some 80, .move (.tmp 7), _, _, _, some (17, false)⟩) (v := _) rfl (by kernel_rfl) (by kernel_rfl) (by kernel_rfl) (fun _ _ _ h => h) (Or.inl ⟨by rfl, ?hy14⟩) (by assumption) ?rest14
      case hy14 => (intro w hSw; obtain _ := hSw; go_simp <;> with_reducible rfl)
      case rest14 =>
      go_frame
      refine' wpAnyH_take (i := 20) (oi := ⟨some 82, .move (.tmp 9), _, _, _, some (17, false)⟩) (v := _) rfl (by kernel_rfl) (by kernel_rfl) (by kernel_rfl) (fun _ _ _ h => h) (Or.inl ⟨by rfl, ?hy15⟩) (by assumption) ?rest15
      case hy15 => (intro w hSw; obtain _ := hSw; go_simp <;> with_reducible rfl)
      case rest15 =>
      go_frame
      refine wpAnyH_ready (rs := [19]) (by kernel_rfl) (by simp) (AllReadyH.cons (o := ⟨some 81, .call { callee := .value (.func 17), args := #[.tmp 80], argTypes := #[27] }, _, _, _, some (17, false)⟩) rfl (fun K hK => ?_) AllReadyH.nil)
      rw [if_pos (by rfl)]
      go_simp
      refine (HD5.out).mono ?_
      rintro e w6 ⟨A6, c6, rfl, ht6, hb6⟩
      have Hb6 := Lib.hid (up Hb5.out hb6)
      have HT6 := Lib.hid (HA4.out w6 A6 c6 (up Hb5.out hb6) ht6)
      clear ht6 hb6
      dsimp only
      refine hK.out _ _ trivial (fun _ => ?_)
      clear hK K
      try go_frame
      refine wpAnyH_ready (rs := [21]) (by kernel_rfl) (by simp) (AllReadyH.cons (o := ⟨some 83, .call { callee := .value (.func 16), args := #[.tmp 82, .const (.bool true)], argTypes := #[31, 4] }, _, _, _, some (17, false)⟩) rfl (fun K hK => ?_) AllReadyH.nil)
      rw [if_pos (by rfl)]
      go_simp
      refine (HT6.out).mono ?_
      rintro e w7 ⟨A7, c7, rfl, hb7, hi7⟩
      have Hb7 := Lib.hid (up Hb6.out hb7)
      have HI7 := Lib.hid hi7
      clear hb7 hi7
      dsimp only
      refine hK.out _ _ trivial (fun _ => ?_)
      clear hK K
      try go_frame
      refine wpAnyH_ready (rs := [22]) (by kernel_rfl) (by simp) (AllReadyH.cons (o := ⟨some 84, .call { callee := .value (.func 14), args := #[.tmp 81, .tmp 83], argTypes := #[39, 39] }, _, _, _, some (17, false)⟩) rfl (fun K hK => ?_) AllReadyH.nil)
      rw [if_pos (by rfl)]
      go_simp
      refine (HI7.out).mono ?_
      rintro e w8 ⟨rfl, hb8⟩
      have Hb8 := Lib.hid (up Hb7.out hb8)
      obtain ⟨hw8, x80, x87⟩ := HA5.out w8 (up Hb7.out hb8)
      have HW8 := Lib.hid hw8
      clear hb8 hw8
      dsimp only
      refine hK.out _ _ trivial (fun _ => ?_)
      clear hK K
      try go_frame
      refine' wpAnyH_take (i := 23) (oi := ⟨some 85, .unOp .not 4 (.tmp 84), _, _, _, some (17, false)⟩) (v := _) rfl (by kernel_rfl) (by kernel_rfl) (by kernel_rfl) (fun _ _ _ h => h) (Or.inl ⟨by rfl, ?hy16⟩) (by assumption) ?rest16
      case hy16 => (intro w hSw; obtain _ := hSw; go_simp <;> with_reducible rfl)
      case rest16 =>
      go_frame
      refine' wpAnyH_take (i := 24) (oi := ⟨some 86, .pick (.tmp 79) (.const (.bool true)) (.tmp 85), _, _, _, none⟩) (v := _) rfl (by kernel_rfl) (by kernel_rfl) (by kernel_rfl) (fun _ _ _ h => h) (Or.inl ⟨by rfl, ?hy17⟩) (by assumption) ?rest17
      case hy17 => (intro w hSw; obtain _ := hSw; go_simp <;> with_reducible rfl)
      case rest17 =>
      go_frame
      refine' wpAnyH_take (i := 25) (oi := ⟨some 87, .move (.tmp 86), _, _, _, none⟩) (v := _) rfl (by kernel_rfl) (by kernel_rfl) (by kernel_rfl) (fun _ _ _ h => h) (Or.inl ⟨by rfl, ?hy18⟩) (by assumption) ?rest18
      case hy18 => (intro w hSw; obtain _ := hSw; go_simp <;> with_reducible rfl)
      case rest18 =>
      go_frame
      refine' wpAnyH_take (i := 26) (oi := ⟨some 88, .move (.tmp 5), _, _, _, some (25, false)⟩) (v := _) rfl (by kernel_rfl) (by kernel_rfl) (by kernel_rfl) (fun _ _ _ h => h) (Or.inl ⟨by rfl, ?hy19⟩) (by assumption) ?rest19
      case hy19 => (intro w hSw; obtain _ := hSw; go_simp <;> with_reducible rfl)
      case rest19 =>
      go_frame
      refine' wpAnyH_take (i := 28) (oi := ⟨some 90, .move (.tmp 9), _, _, _, some (25, false)⟩) (v := _) rfl (by kernel_rfl) (by kernel_rfl) (by kernel_rfl) (fun _ _ _ h => h) (Or.inl ⟨by rfl, ?hy20⟩) (by assumption) ?rest20
      case hy20 => (intro w hSw; obtain _ := hSw; go_simp <;> with_reducible rfl)
      case rest20 =>
      go_frame
      refine' wpAnyH_take (i := 29) (oi := ⟨some 91, .nilCheck (.tmp 90), _, _, _, some (25, false)⟩) (v := _) rfl (by kernel_rfl) (by kernel_rfl) (by kernel_rfl) (fun _ _ _ h => h) (Or.inl ⟨by rfl, ?hy21⟩) (by assumption) ?rest21
      case hy21 => (intro w hSw; obtain _ := hSw; go_simp <;> with_reducible rfl)
      case rest21 =>
      go_frame
      refine' wpAnyH_take (i := 30) (oi := ⟨some 92, .fieldAddr 49 (.tmp 91) 0, _, _, _, some (25, false)⟩) (v := _) rfl (by kernel_rfl) (by kernel_rfl) (by kernel_rfl) (fun _ _ _ h => h) (Or.inl ⟨by rfl, ?hy22⟩) (by assumption) ?rest22
      case hy22 => (intro w hSw; obtain _ := hSw; go_simp <;> with_reducible rfl)
      case rest22 =>
      go_frame
      refine wpAnyH_ready (rs := [27, 31]) (by kernel_rfl) (by simp) (AllReadyH.cons (o := ⟨some 89, .call { callee := .value (.func 18), args := #[.tmp 88], argTypes := #[23] }, _, _, _, some (25, false)⟩) rfl (fun K hK => ?_) (AllReadyH.cons (o := ⟨some 93, .load 33 (.tmp 92), _, _, _, some (25, false)⟩) rfl (fun K hK => ?_) AllReadyH.nil))
      · rw [if_pos (by rfl)]
        go_simp
        refine (HW8.out).mono ?_
        rintro e w9 ⟨rfl, rfl⟩
        dsimp only
        refine hK.out _ _ trivial (fun _ => ?_)
        clear hK K
        try go_frame
        refine wpAnyH_ready (rs := [31]) (by kernel_rfl) (by simp) (AllReadyH.cons (o := ⟨some 93, .load 33 (.tmp 92), _, _, _, some (25, false)⟩) rfl (fun K hK => ?_) AllReadyH.nil)
        rw [if_pos (by rfl)]
        go_simp
        refine hK.out _ _ trivial (fun _ => ?_)
        clear hK K
        try go_frame
        refine' wpAnyH_take (i := 32) (oi := ⟨some 94, .nilCheck (.tmp 93), _, _, _, some (25, false)⟩) (v := _) rfl (by kernel_rfl) (by kernel_rfl) (by kernel_rfl) (fun _ _ _ h => h) (Or.inl ⟨by rfl, ?hy23⟩) (by assumption) ?rest23
        case hy23 => (intro w hSw; obtain _ := hSw; go_simp <;> with_reducible rfl)
        case rest23 =>
        go_frame
        refine' wpAnyH_take (i := 33) (oi := ⟨some 95, .fieldAddr 46 (.tmp 94) 4, _, _, _, some (25, false)⟩) (v := _) rfl (by kernel_rfl) (by kernel_rfl) (by kernel_rfl) (fun _ _ _ h => h) (Or.inl ⟨by rfl, ?hy24⟩) (by assumption) ?rest24
        case hy24 => (intro w hSw; obtain _ := hSw; go_simp <;> with_reducible rfl)
        case rest24 =>
        go_frame
        refine wpAnyH_ready (rs := [34]) (by kernel_rfl) (by simp) (AllReadyH.cons (o := ⟨some 96, .load 3 (.tmp 95), _, _, _, some (25, false)⟩) rfl (fun K hK => ?_) AllReadyH.nil)
        rw [if_pos (by rfl)]
        go_simp
        refine hK.out _ _ trivial (fun _ => ?_)
        clear hK K
        try go_frame
        refine' wpAnyH_take (i := 35) (oi := ⟨some 97, .binOp .neq 3 (.tmp 89) (.tmp 96) 3, _, _, _, some (25, false)⟩) (v := _) rfl (by kernel_rfl) (by kernel_rfl) (by kernel_rfl) (fun _ _ _ h => h) (Or.inl ⟨by rfl, ?hy25⟩) (by assumption) ?rest25
        case hy25 => (intro w hSw; obtain _ := hSw; go_simp <;> with_reducible rfl)
        case rest25 =>
        go_frame
        refine' wpAnyH_take (i := 36) (oi := ⟨some 98, .pick (.tmp 87) (.const (.bool true)) (.tmp 97), _, _, _, none⟩) (v := _) rfl (by kernel_rfl) (by kernel_rfl) (by kernel_rfl) (fun _ _ _ h => h) (Or.inl ⟨by rfl, ?hy26⟩) (by assumption) ?rest26
        case hy26 => (intro w hSw; obtain _ := hSw; go_simp <;> with_reducible rfl)
        case rest26 =>
        go_frame
        refine wpAnyH_done (by kernel_rfl) ?_ _
        go_wp2_with fail
        go_roundw
        · exact ⟨j + 1, by omega, by omega, by go_num, Lib.hid ⟨x2, d2, HA6.out _ Hb8.out⟩⟩
        · simp [intOf]; omega
      · rw [if_pos (by rfl)]
        go_simp
        refine hK.out _ _ trivial (fun _ => ?_)
        clear hK K
        try go_frame
        refine' wpAnyH_take (i := 32) (oi := ⟨some 94, .nilCheck (.tmp 93), _, _, _, some (25, false)⟩) (v := _) rfl (by kernel_rfl) (by kernel_rfl) (by kernel_rfl) (fun _ _ _ h => h) (Or.inl ⟨by rfl, ?hy27⟩) (by assumption) ?rest27
        case hy27 => (intro w hSw; obtain _ := hSw; go_simp <;> with_reducible rfl)
        case rest27 =>
        go_frame
        refine' wpAnyH_take (i := 33) (oi := ⟨some 95, .fieldAddr 46 (.tmp 94) 4, _, _, _, some (25, false)⟩) (v := _) rfl (by kernel_rfl) (by kernel_rfl) (by kernel_rfl) (fun _ _ _ h => h) (Or.inl ⟨by rfl, ?hy28⟩) (by assumption) ?rest28
        case hy28 => (intro w hSw; obtain _ := hSw; go_simp <;> with_reducible rfl)
        case rest28 =>
        go_frame
        refine wpAnyH_ready (rs := [27, 34]) (by kernel_rfl) (by simp) (AllReadyH.cons (o := ⟨some 89, .call { callee := .value (.func 18), args := #[.tmp 88], argTypes := #[23] }, _, _, _, some (25, false)⟩) rfl (fun K hK => ?_) (AllReadyH.cons (o := ⟨some 96, .load 3 (.tmp 95), _, _, _, some (25, false)⟩) rfl (fun K hK => ?_) AllReadyH.nil))
        · rw [if_pos (by rfl)]
          go_simp
          refine (HW8.out).mono ?_
          rintro e w9 ⟨rfl, rfl⟩
          dsimp only
          refine hK.out _ _ trivial (fun _ => ?_)
          clear hK K
          try go_frame
          refine wpAnyH_ready (rs := [34]) (by kernel_rfl) (by simp) (AllReadyH.cons (o := ⟨some 96, .load 3 (.tmp 95), _, _, _, some (25, false)⟩) rfl (fun K hK => ?_) AllReadyH.nil)
          rw [if_pos (by rfl)]
          go_simp
          refine hK.out _ _ trivial (fun _ => ?_)
          clear hK K
          try go_frame
          refine' wpAnyH_take (i := 35) (oi := ⟨some 97, .binOp .neq 3 (.tmp 89) (.tmp 96) 3, _, _, _, some (25, false)⟩) (v := _) rfl (by kernel_rfl) (by kernel_rfl) (by kernel_rfl) (fun _ _ _ h => h) (Or.inl ⟨by rfl, ?hy29⟩) (by assumption) ?rest29
          case hy29 => (intro w hSw; obtain _ := hSw; go_simp <;> with_reducible rfl)
          case rest29 =>
          go_frame
          refine' wpAnyH_take (i := 36) (oi := ⟨some 98, .pick (.tmp 87) (.const (.bool true)) (.tmp 97), _, _, _, none⟩) (v := _) rfl (by kernel_rfl) (by kernel_rfl) (by kernel_rfl) (fun _ _ _ h => h) (Or.inl ⟨by rfl, ?hy30⟩) (by assumption) ?rest30
          case hy30 => (intro w hSw; obtain _ := hSw; go_simp <;> with_reducible rfl)
          case rest30 =>
          go_frame
          refine wpAnyH_done (by kernel_rfl) ?_ _
          go_wp2_with fail
          go_roundw
          · exact ⟨j + 1, by omega, by omega, by go_num, Lib.hid ⟨x2, d2, HA6.out _ Hb8.out⟩⟩
          · simp [intOf]; omega
        · rw [if_pos (by rfl)]
          go_simp
          refine hK.out _ _ trivial (fun _ => ?_)
          clear hK K
          try go_frame
          refine wpAnyH_ready (rs := [27]) (by kernel_rfl) (by simp) (AllReadyH.cons (o := ⟨some 89, .call { callee := .value (.func 18), args := #[.tmp 88], argTypes := #[23] }, _, _, _, some (25, false)⟩) rfl (fun K hK => ?_) AllReadyH.nil)
          rw [if_pos (by rfl)]
          go_simp
          refine (HW8.out).mono ?_
          rintro e w9 ⟨rfl, rfl⟩
          dsimp only
          refine hK.out _ _ trivial (fun _ => ?_)
          clear hK K
          try go_frame
          refine' wpAnyH_take (i := 35) (oi := ⟨some 97, .binOp .neq 3 (.tmp 89) (.tmp 96) 3, _, _, _, some (25, false)⟩) (v := _) rfl (by kernel_rfl) (by kernel_rfl) (by kernel_rfl) (fun _ _ _ h => h) (Or.inl ⟨by rfl, ?hy31⟩) (by assumption) ?rest31
          case hy31 => (intro w hSw; obtain _ := hSw; go_simp <;> with_reducible rfl)
          case rest31 =>
          go_frame
          refine' wpAnyH_take (i := 36) (oi := ⟨some 98, .pick (.tmp 87) (.const (.bool true)) (.tmp 97), _, _, _, none⟩) (v := _) rfl (by kernel_rfl) (by kernel_rfl) (by kernel_rfl) (fun _ _ _ h => h) (Or.inl ⟨by rfl, ?hy32⟩) (by assumption) ?rest32
          case hy32 => (intro w hSw; obtain _ := hSw; go_simp <;> with_reducible rfl)
          case rest32 =>
          go_frame
          refine wpAnyH_done (by kernel_rfl) ?_ _
          go_wp2_with fail
          go_roundw
          · exact ⟨j + 1, by omega, by omega, by go_num, Lib.hid ⟨x2, d2, HA6.out _ Hb8.out⟩⟩
          · simp [intOf]; omega
    · obtain ⟨x, d, hpast⟩ := HP.out
      have Hst := Lib.hid hpast.st
      have HN0 : Hid (Ends E w wr c bf p q r bg cap rest x d) := Lib.hid ⟨⟨d.f, hpast.two⟩, hpast.only⟩
      clear hpast HP HS Hl
      by_cases hjl : j < nl
      · have j1 : decide ((j : Int) < (nl : Int)) = true := by simp [hjl]
        have j2 : decide ((j : Int) < 60) = false := by simp; omega
        clear hgo
        go_wp2_with fail
        go_loopw [11] (fun iv wr => ∃ (i : Nat), i ≤ 24 ∧ iv = .int .i64 (i : Int) ∧ Ends E w wr c bf p q r bg cap rest x d) (fun iv _ => 24 - (intOf iv).toNat)
        · exact ⟨0, by omega, rfl, HN0.out⟩
        · obtain ⟨i, hi24, rfl, hends⟩ := hrel
          by_cases hi : i < 24
          · have hfail := plays_end HE1.out Hst.out hj60 hends hi
            obtain ⟨ll, hll⟩ : ∃ ll, ll = (d.now i).toArray := ⟨_, rfl⟩
            rw [← hll] at hfail
            have HFail := Lib.hid hfail
            have i1 : (i : Int) < 24 := by omega
            clear hfail hends hll
            go_wp2_with (first
              | (go_at_call 19; refine HFail.out.mono ?_; rintro e w1 ⟨rfl, hread⟩; have HRead := Lib.hid hread; clear hread)
              | (go_at_call 20; refine HRead.out.mono ?_; rintro e w2 ⟨g, rfl, s2, c2, hnow⟩; have S2 := Lib.hid s2; have He2 := Lib.hid c2; have HN := Lib.hid hnow; clear s2 c2 hnow))
            refine wp_region_held_drew (S := fun w' => w'.cell? ⟨r, 0, none⟩ = some (at0 q)) (by kernel_rfl) S2.out (fun hHeld => ?_)
            refine' wpAnyH_take (i := 0) (oi := ⟨some 111, .move (.tmp 12), _, _, _, none⟩) (v := _) rfl (by kernel_rfl) (by kernel_rfl) (by kernel_rfl) (fun _ _ _ h => h) (Or.inl ⟨by rfl, ?hy42⟩) (by assumption) ?rest42
            case hy42 => (intro w hSw; obtain s1 := hSw; go_simp <;> with_reducible rfl)
            case rest42 =>
            go_frame
            refine' wpAnyH_take (i := 2) (oi := ⟨some 113, .move (.tmp 9), _, _, _, none⟩) (v := _) rfl (by kernel_rfl) (by kernel_rfl) (by kernel_rfl) (fun _ _ _ h => h) (Or.inl ⟨by rfl, ?hy43⟩) (by assumption) ?rest43
            case hy43 => (intro w hSw; obtain s1 := hSw; go_simp <;> with_reducible rfl)
            case rest43 =>
            go_frame
            refine' wpAnyH_take (i := 3) (oi := ⟨some 114, .nilCheck (.tmp 113), _, _, _, none⟩) (v := _) rfl (by kernel_rfl) (by kernel_rfl) (by kernel_rfl) (fun _ _ _ h => h) (Or.inl ⟨by rfl, ?hy44⟩) (by assumption) ?rest44
            case hy44 => (intro w hSw; obtain s1 := hSw; go_simp <;> with_reducible rfl)
            case rest44 =>
            go_frame
            refine' wpAnyH_take (i := 4) (oi := ⟨some 115, .fieldAddr 49 (.tmp 114) 0, _, _, _, none⟩) (v := _) rfl (by kernel_rfl) (by kernel_rfl) (by kernel_rfl) (fun _ _ _ h => h) (Or.inl ⟨by rfl, ?hy45⟩) (by assumption) ?rest45
            case hy45 => (intro w hSw; obtain s1 := hSw; go_simp <;> with_reducible rfl)
            case rest45 =>
            go_frame
            refine' wpAnyH_take (i := 5) (oi := ⟨some 116, .load 33 (.tmp 115), _, _, _, none⟩) (v := _) rfl (by kernel_rfl) (by kernel_rfl) (by kernel_rfl) (fun _ _ _ h => h) (Or.inl ⟨by rfl, ?hy46⟩) (by assumption) ?rest46
            case hy46 => (intro w hSw; obtain s1 := hSw; go_simp <;> with_reducible rfl)
            case rest46 =>
            go_frame
            refine' wpAnyH_take (i := 6) (oi := ⟨some 117, .move (.tmp 11), _, _, _, none⟩) (v := _) rfl (by kernel_rfl) (by kernel_rfl) (by kernel_rfl) (fun _ _ _ h => h) (Or.inl ⟨by rfl, ?hy47⟩) (by assumption) ?rest47
            case hy47 => (intro w hSw; obtain s1 := hSw; go_simp <;> with_reducible rfl)
            case rest47 =>
            go_frame
            refine wpAnyH_ready (rs := [1, 7]) (by kernel_rfl) (by simp) (AllReadyH.cons (o := ⟨some 112, .convert 51 9 (.tmp 111), _, _, _, none⟩) rfl (fun K hK => ?_) (AllReadyH.cons (o := ⟨some 118, .call { callee := .value (.func 21), args := #[.tmp 116, .tmp 117], argTypes := #[33, 3] }, _, _, _, none⟩) rfl (fun K hK => ?_) AllReadyH.nil))
            · rw [if_pos (by rfl)]
              refine wp_run (.string ⟨ll⟩) w2.drew (exec_conv (s := 51) (t := 9) (x := .tmp 111) rfl (v := .slice (some ⟨g, 0, none⟩) 256 256) rfl He2.out) ?_
              refine hK.out _ _ (S2.out) (fun _ => ?_)
              clear hK K
              try go_frame
              refine wpAnyH_ready (rs := [7]) (by kernel_rfl) (by simp) (AllReadyH.cons (o := ⟨some 118, .call { callee := .value (.func 21), args := #[.tmp 116, .tmp 117], argTypes := #[33, 3] }, _, _, _, none⟩) rfl (fun K hK => ?_) AllReadyH.nil)
              rw [if_pos (by rfl)]
              go_simp
              refine (HN.out).mono ?_
              rintro e w3 ⟨v, rfl, s3, c3, c4, he3⟩
              have S3 := Lib.hid s3
              have Hv3 := Lib.hid c3
              have He3 := Lib.hid c4
              have HE3 := Lib.hid he3
              clear s3 c3 c4 he3
              dsimp only
              refine hK.out _ _ (S3.out) (fun _ => ?_)
              clear hK K
              try go_frame
              refine wpAnyH_ready (rs := [8]) (by kernel_rfl) (by simp) (AllReadyH.cons (o := ⟨some 119, .convert 51 9 (.tmp 118), _, _, _, none⟩) rfl (fun K hK => ?_) AllReadyH.nil)
              rw [if_pos (by rfl)]
              refine wp_run (.string ⟨ll⟩) w3 (exec_conv (s := 51) (t := 9) (x := .tmp 118) rfl (v := v) rfl Hv3.out) ?_
              refine hK.out _ _ (S3.out) (fun _ => ?_)
              clear hK K
              try go_frame
              refine' wpAnyH_take (i := 9) (oi := ⟨some 120, .binOp .neq 9 (.tmp 112) (.tmp 119) 9, _, _, _, none⟩) (v := _) rfl (by kernel_rfl) (by kernel_rfl) (by kernel_rfl) (fun _ _ _ h => h) (Or.inl ⟨by rfl, ?hy48⟩) (by assumption) ?rest48
              case hy48 => (intro w hSw; obtain s1 := hSw; go_simp <;> with_reducible rfl)
              case rest48 =>
              go_frame
              refine wpAnyH_done (by kernel_rfl) ?_ _
              go_wp2_with fail
              go_roundw
              · exact ⟨i + 1, by omega, by go_num, HE3.out⟩
              · simp [intOf]; omega
            · rw [if_pos (by rfl)]
              go_simp
              refine (HN.out).mono ?_
              rintro e w3 ⟨v, rfl, s3, c3, c4, he3⟩
              have S3 := Lib.hid s3
              have Hv3 := Lib.hid c3
              have He3 := Lib.hid c4
              have HE3 := Lib.hid he3
              clear s3 c3 c4 he3
              dsimp only
              refine hK.out _ _ (S3.out) (fun _ => ?_)
              clear hK K
              try go_frame
              refine wpAnyH_ready (rs := [1, 8]) (by kernel_rfl) (by simp) (AllReadyH.cons (o := ⟨some 112, .convert 51 9 (.tmp 111), _, _, _, none⟩) rfl (fun K hK => ?_) (AllReadyH.cons (o := ⟨some 119, .convert 51 9 (.tmp 118), _, _, _, none⟩) rfl (fun K hK => ?_) AllReadyH.nil))
              · rw [if_pos (by rfl)]
                refine wp_run (.string ⟨ll⟩) w3 (exec_conv (s := 51) (t := 9) (x := .tmp 111) rfl (v := .slice (some ⟨g, 0, none⟩) 256 256) rfl He3.out) ?_
                refine hK.out _ _ (S3.out) (fun _ => ?_)
                clear hK K
                try go_frame
                refine wpAnyH_ready (rs := [8]) (by kernel_rfl) (by simp) (AllReadyH.cons (o := ⟨some 119, .convert 51 9 (.tmp 118), _, _, _, none⟩) rfl (fun K hK => ?_) AllReadyH.nil)
                rw [if_pos (by rfl)]
                refine wp_run (.string ⟨ll⟩) w3 (exec_conv (s := 51) (t := 9) (x := .tmp 118) rfl (v := v) rfl Hv3.out) ?_
                refine hK.out _ _ (S3.out) (fun _ => ?_)
                clear hK K
                try go_frame
                refine' wpAnyH_take (i := 9) (oi := ⟨some 120, .binOp .neq 9 (.tmp 112) (.tmp 119) 9, _, _, _, none⟩) (v := _) rfl (by kernel_rfl) (by kernel_rfl) (by kernel_rfl) (fun _ _ _ h => h) (Or.inl ⟨by rfl, ?hy49⟩) (by assumption) ?rest49
                case hy49 => (intro w hSw; obtain s1 := hSw; go_simp <;> with_reducible rfl)
                case rest49 =>
                go_frame
                refine wpAnyH_done (by kernel_rfl) ?_ _
                go_wp2_with fail
                go_roundw
                · exact ⟨i + 1, by omega, by go_num, HE3.out⟩
                · simp [intOf]; omega
              · rw [if_pos (by rfl)]
                refine wp_run (.string ⟨ll⟩) w3 (exec_conv (s := 51) (t := 9) (x := .tmp 118) rfl (v := v) rfl Hv3.out) ?_
                refine hK.out _ _ (S3.out) (fun _ => ?_)
                clear hK K
                try go_frame
                refine wpAnyH_ready (rs := [1]) (by kernel_rfl) (by simp) (AllReadyH.cons (o := ⟨some 112, .convert 51 9 (.tmp 111), _, _, _, none⟩) rfl (fun K hK => ?_) AllReadyH.nil)
                rw [if_pos (by rfl)]
                refine wp_run (.string ⟨ll⟩) w3 (exec_conv (s := 51) (t := 9) (x := .tmp 111) rfl (v := .slice (some ⟨g, 0, none⟩) 256 256) rfl He3.out) ?_
                refine hK.out _ _ (S3.out) (fun _ => ?_)
                clear hK K
                try go_frame
                refine' wpAnyH_take (i := 9) (oi := ⟨some 120, .binOp .neq 9 (.tmp 112) (.tmp 119) 9, _, _, _, none⟩) (v := _) rfl (by kernel_rfl) (by kernel_rfl) (by kernel_rfl) (fun _ _ _ h => h) (Or.inl ⟨by rfl, ?hy50⟩) (by assumption) ?rest50
                case hy50 => (intro w hSw; obtain s1 := hSw; go_simp <;> with_reducible rfl)
                case rest50 =>
                go_frame
                refine wpAnyH_done (by kernel_rfl) ?_ _
                go_wp2_with fail
                go_roundw
                · exact ⟨i + 1, by omega, by go_num, HE3.out⟩
                · simp [intOf]; omega
          · have hi' : 24 ≤ i := by omega
            have Hends := Lib.hid (HBel.out _ hends.only)
            have i1 : ¬ (i : Int) < 24 := by omega
            clear hends
            go_wp2_with (first
              | (go_at_call 10; refine (clives_any _).mono ?_; rintro e w4 ⟨rfl, hb4⟩))
            go_ret
            exact ⟨rfl, up Hends.out hb4⟩
      · have j1 : decide ((j : Int) < (nl : Int)) = false := by simp; omega
        clear hgo
        go_wp2_with fail
        go_loopw [11] (fun iv wr => ∃ (i : Nat), i ≤ 24 ∧ iv = .int .i64 (i : Int) ∧ Ends E w wr c bf p q r bg cap rest x d) (fun iv _ => 24 - (intOf iv).toNat)
        · exact ⟨0, by omega, rfl, HN0.out⟩
        · obtain ⟨i, hi24, rfl, hends⟩ := hrel
          by_cases hi : i < 24
          · have hfail := plays_end HE1.out Hst.out hj60 hends hi
            obtain ⟨ll, hll⟩ : ∃ ll, ll = (d.now i).toArray := ⟨_, rfl⟩
            rw [← hll] at hfail
            have HFail := Lib.hid hfail
            have i1 : (i : Int) < 24 := by omega
            clear hfail hends hll
            go_wp2_with (first
              | (go_at_call 19; refine HFail.out.mono ?_; rintro e w1 ⟨rfl, hread⟩; have HRead := Lib.hid hread; clear hread)
              | (go_at_call 20; refine HRead.out.mono ?_; rintro e w2 ⟨g, rfl, s2, c2, hnow⟩; have S2 := Lib.hid s2; have He2 := Lib.hid c2; have HN := Lib.hid hnow; clear s2 c2 hnow))
            refine wp_region_held_drew (S := fun w' => w'.cell? ⟨r, 0, none⟩ = some (at0 q)) (by kernel_rfl) S2.out (fun hHeld => ?_)
            refine' wpAnyH_take (i := 0) (oi := ⟨some 111, .move (.tmp 12), _, _, _, none⟩) (v := _) rfl (by kernel_rfl) (by kernel_rfl) (by kernel_rfl) (fun _ _ _ h => h) (Or.inl ⟨by rfl, ?hy51⟩) (by assumption) ?rest51
            case hy51 => (intro w hSw; obtain s1 := hSw; go_simp <;> with_reducible rfl)
            case rest51 =>
            go_frame
            refine' wpAnyH_take (i := 2) (oi := ⟨some 113, .move (.tmp 9), _, _, _, none⟩) (v := _) rfl (by kernel_rfl) (by kernel_rfl) (by kernel_rfl) (fun _ _ _ h => h) (Or.inl ⟨by rfl, ?hy52⟩) (by assumption) ?rest52
            case hy52 => (intro w hSw; obtain s1 := hSw; go_simp <;> with_reducible rfl)
            case rest52 =>
            go_frame
            refine' wpAnyH_take (i := 3) (oi := ⟨some 114, .nilCheck (.tmp 113), _, _, _, none⟩) (v := _) rfl (by kernel_rfl) (by kernel_rfl) (by kernel_rfl) (fun _ _ _ h => h) (Or.inl ⟨by rfl, ?hy53⟩) (by assumption) ?rest53
            case hy53 => (intro w hSw; obtain s1 := hSw; go_simp <;> with_reducible rfl)
            case rest53 =>
            go_frame
            refine' wpAnyH_take (i := 4) (oi := ⟨some 115, .fieldAddr 49 (.tmp 114) 0, _, _, _, none⟩) (v := _) rfl (by kernel_rfl) (by kernel_rfl) (by kernel_rfl) (fun _ _ _ h => h) (Or.inl ⟨by rfl, ?hy54⟩) (by assumption) ?rest54
            case hy54 => (intro w hSw; obtain s1 := hSw; go_simp <;> with_reducible rfl)
            case rest54 =>
            go_frame
            refine' wpAnyH_take (i := 5) (oi := ⟨some 116, .load 33 (.tmp 115), _, _, _, none⟩) (v := _) rfl (by kernel_rfl) (by kernel_rfl) (by kernel_rfl) (fun _ _ _ h => h) (Or.inl ⟨by rfl, ?hy55⟩) (by assumption) ?rest55
            case hy55 => (intro w hSw; obtain s1 := hSw; go_simp <;> with_reducible rfl)
            case rest55 =>
            go_frame
            refine' wpAnyH_take (i := 6) (oi := ⟨some 117, .move (.tmp 11), _, _, _, none⟩) (v := _) rfl (by kernel_rfl) (by kernel_rfl) (by kernel_rfl) (fun _ _ _ h => h) (Or.inl ⟨by rfl, ?hy56⟩) (by assumption) ?rest56
            case hy56 => (intro w hSw; obtain s1 := hSw; go_simp <;> with_reducible rfl)
            case rest56 =>
            go_frame
            refine wpAnyH_ready (rs := [1, 7]) (by kernel_rfl) (by simp) (AllReadyH.cons (o := ⟨some 112, .convert 51 9 (.tmp 111), _, _, _, none⟩) rfl (fun K hK => ?_) (AllReadyH.cons (o := ⟨some 118, .call { callee := .value (.func 21), args := #[.tmp 116, .tmp 117], argTypes := #[33, 3] }, _, _, _, none⟩) rfl (fun K hK => ?_) AllReadyH.nil))
            · rw [if_pos (by rfl)]
              refine wp_run (.string ⟨ll⟩) w2.drew (exec_conv (s := 51) (t := 9) (x := .tmp 111) rfl (v := .slice (some ⟨g, 0, none⟩) 256 256) rfl He2.out) ?_
              refine hK.out _ _ (S2.out) (fun _ => ?_)
              clear hK K
              try go_frame
              refine wpAnyH_ready (rs := [7]) (by kernel_rfl) (by simp) (AllReadyH.cons (o := ⟨some 118, .call { callee := .value (.func 21), args := #[.tmp 116, .tmp 117], argTypes := #[33, 3] }, _, _, _, none⟩) rfl (fun K hK => ?_) AllReadyH.nil)
              rw [if_pos (by rfl)]
              go_simp
              refine (HN.out).mono ?_
              rintro e w3 ⟨v, rfl, s3, c3, c4, he3⟩
              have S3 := Lib.hid s3
              have Hv3 := Lib.hid c3
              have He3 := Lib.hid c4
              have HE3 := Lib.hid he3
              clear s3 c3 c4 he3
              dsimp only
              refine hK.out _ _ (S3.out) (fun _ => ?_)
              clear hK K
              try go_frame
              refine wpAnyH_ready (rs := [8]) (by kernel_rfl) (by simp) (AllReadyH.cons (o := ⟨some 119, .convert 51 9 (.tmp 118), _, _, _, none⟩) rfl (fun K hK => ?_) AllReadyH.nil)
              rw [if_pos (by rfl)]
              refine wp_run (.string ⟨ll⟩) w3 (exec_conv (s := 51) (t := 9) (x := .tmp 118) rfl (v := v) rfl Hv3.out) ?_
              refine hK.out _ _ (S3.out) (fun _ => ?_)
              clear hK K
              try go_frame
              refine' wpAnyH_take (i := 9) (oi := ⟨some 120, .binOp .neq 9 (.tmp 112) (.tmp 119) 9, _, _, _, none⟩) (v := _) rfl (by kernel_rfl) (by kernel_rfl) (by kernel_rfl) (fun _ _ _ h => h) (Or.inl ⟨by rfl, ?hy57⟩) (by assumption) ?rest57
              case hy57 => (intro w hSw; obtain s1 := hSw; go_simp <;> with_reducible rfl)
              case rest57 =>
              go_frame
              refine wpAnyH_done (by kernel_rfl) ?_ _
              go_wp2_with fail
              go_roundw
              · exact ⟨i + 1, by omega, by go_num, HE3.out⟩
              · simp [intOf]; omega
            · rw [if_pos (by rfl)]
              go_simp
              refine (HN.out).mono ?_
              rintro e w3 ⟨v, rfl, s3, c3, c4, he3⟩
              have S3 := Lib.hid s3
              have Hv3 := Lib.hid c3
              have He3 := Lib.hid c4
              have HE3 := Lib.hid he3
              clear s3 c3 c4 he3
              dsimp only
              refine hK.out _ _ (S3.out) (fun _ => ?_)
              clear hK K
              try go_frame
              refine wpAnyH_ready (rs := [1, 8]) (by kernel_rfl) (by simp) (AllReadyH.cons (o := ⟨some 112, .convert 51 9 (.tmp 111), _, _, _, none⟩) rfl (fun K hK => ?_) (AllReadyH.cons (o := ⟨some 119, .convert 51 9 (.tmp 118), _, _, _, none⟩) rfl (fun K hK => ?_) AllReadyH.nil))
              · rw [if_pos (by rfl)]
                refine wp_run (.string ⟨ll⟩) w3 (exec_conv (s := 51) (t := 9) (x := .tmp 111) rfl (v := .slice (some ⟨g, 0, none⟩) 256 256) rfl He3.out) ?_
                refine hK.out _ _ (S3.out) (fun _ => ?_)
                clear hK K
                try go_frame
                refine wpAnyH_ready (rs := [8]) (by kernel_rfl) (by simp) (AllReadyH.cons (o := ⟨some 119, .convert 51 9 (.tmp 118), _, _, _, none⟩) rfl (fun K hK => ?_) AllReadyH.nil)
                rw [if_pos (by rfl)]
                refine wp_run (.string ⟨ll⟩) w3 (exec_conv (s := 51) (t := 9) (x := .tmp 118) rfl (v := v) rfl Hv3.out) ?_
                refine hK.out _ _ (S3.out) (fun _ => ?_)
                clear hK K
                try go_frame
                refine' wpAnyH_take (i := 9) (oi := ⟨some 120, .binOp .neq 9 (.tmp 112) (.tmp 119) 9, _, _, _, none⟩) (v := _) rfl (by kernel_rfl) (by kernel_rfl) (by kernel_rfl) (fun _ _ _ h => h) (Or.inl ⟨by rfl, ?hy58⟩) (by assumption) ?rest58
                case hy58 => (intro w hSw; obtain s1 := hSw; go_simp <;> with_reducible rfl)
                case rest58 =>
                go_frame
                refine wpAnyH_done (by kernel_rfl) ?_ _
                go_wp2_with fail
                go_roundw
                · exact ⟨i + 1, by omega, by go_num, HE3.out⟩
                · simp [intOf]; omega
              · rw [if_pos (by rfl)]
                refine wp_run (.string ⟨ll⟩) w3 (exec_conv (s := 51) (t := 9) (x := .tmp 118) rfl (v := v) rfl Hv3.out) ?_
                refine hK.out _ _ (S3.out) (fun _ => ?_)
                clear hK K
                try go_frame
                refine wpAnyH_ready (rs := [1]) (by kernel_rfl) (by simp) (AllReadyH.cons (o := ⟨some 112, .convert 51 9 (.tmp 111), _, _, _, none⟩) rfl (fun K hK => ?_) AllReadyH.nil)
                rw [if_pos (by rfl)]
                refine wp_run (.string ⟨ll⟩) w3 (exec_conv (s := 51) (t := 9) (x := .tmp 111) rfl (v := .slice (some ⟨g, 0, none⟩) 256 256) rfl He3.out) ?_
                refine hK.out _ _ (S3.out) (fun _ => ?_)
                clear hK K
                try go_frame
                refine' wpAnyH_take (i := 9) (oi := ⟨some 120, .binOp .neq 9 (.tmp 112) (.tmp 119) 9, _, _, _, none⟩) (v := _) rfl (by kernel_rfl) (by kernel_rfl) (by kernel_rfl) (fun _ _ _ h => h) (Or.inl ⟨by rfl, ?hy59⟩) (by assumption) ?rest59
                case hy59 => (intro w hSw; obtain s1 := hSw; go_simp <;> with_reducible rfl)
                case rest59 =>
                go_frame
                refine wpAnyH_done (by kernel_rfl) ?_ _
                go_wp2_with fail
                go_roundw
                · exact ⟨i + 1, by omega, by go_num, HE3.out⟩
                · simp [intOf]; omega
          · have hi' : 24 ≤ i := by omega
            have Hends := Lib.hid (HBel.out _ hends.only)
            have i1 : ¬ (i : Int) < 24 := by omega
            clear hends
            go_wp2_with (first
              | (go_at_call 10; refine (clives_any _).mono ?_; rintro e w4 ⟨rfl, hb4⟩))
            go_ret
            exact ⟨rfl, up Hends.out hb4⟩
theorem cachePlays_walk (n : Int) (v : Value) (l : List Act3) (w : World) (_ : (Lit.int .i64 n).wf = true) (h : Acts3 w v l) :
    Calls Try.prog 3 #[.int .i64 n, v] w fun e w' => e = .returned (.bool true) ∧ Below w.heap.size w w' := by
  by_cases hn : n < 8 ∨ 64 < n
  · exact cachePlays_out n hn v w
  · obtain ⟨m, rfl⟩ : ∃ m : Nat, n = m := ⟨n.toNat, by omega⟩
    exact cachePlays_in m ⟨by omega, by omega⟩ v l w h
end Go.Proofs.Ytfjcblppmoomdaa
