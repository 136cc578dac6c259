/-
  The law SpaceLoads, walked.
-/
import Derived.Test.YtllhilnajjohiaaSrH
import Derived.Test.YtllhilnajjohiaaSrL
namespace Go.Proofs.Ytllhilnajjohiaa
open Go.RowKit
theorem few_two (v : Value) (l : List UInt8) (w : World) (B : Nat) (hr : Rd w B v (cellsB l)) (hB : B ≤ w.heap.size) : ∃ L : List UInt8, L.length ≤ 210 ∧
    Calls Try.prog 19 #[v, .int .i64 210] w fun e w' => ∃ A c, e = .returned (.slice A L.length c) ∧ Rd w' w'.heap.size (.slice A L.length c) (cellsB L) ∧ Below w.heap.size w w' := by
  obtain ⟨L, h1, h2⟩ := few_cut 210 v l w B hr hB (by omega)
  refine ⟨L, h1, h2.mono ?_⟩
  rintro e w1 ⟨A, c, rfl, _, q1, q2⟩
  exact ⟨A, c, rfl, q1, q2⟩
set_option maxRecDepth 100000 in
set_option maxHeartbeats 2000000 in
theorem loads_arg (v : Value) (L : List UInt8) (m : Nat) (hm : m = L.length) (hL : L.length ≤ 210) (n : Int) (hb : ¬ (1 ≤ n ∧ n ≤ 1600)) (w : World) (hfew : Calls Try.prog 19 #[v, .int .i64 210] w fun e w' => ∃ A c, e = .returned (.slice A L.length c) ∧ Rd w' w'.heap.size (.slice A L.length c) (cellsB L) ∧ Below w.heap.size w w') :
    Calls Try.prog 5 #[v, .int .i64 n] w fun e w' => e = .returned (.bool true) ∧ Below w.heap.size w w' := by
  obtain ⟨i, hi, hz0, hz1, hz2⟩ := info_parts info_u8
  have Hfew : Hid (Calls Try.prog 19 #[v, .int .i64 210] w fun e w' => ∃ A c, e = .returned (.slice A m c) ∧ Rd w' w'.heap.size (.slice A m c) (cellsB L) ∧ Below w.heap.size w w') := Lib.hid (by rw [hm]; exact hfew)
  have HL : Hid (L.length = m) := Lib.hid hm.symm
  have hm210 : m ≤ 210 := by omega
  have Hb := Lib.hid hb
  by_cases hn : n < 1
  · have t0 : decide (n < 1) = true := by simp; omega
    clear hb hm hL hfew
    go_enter Try.func5, Try.ntmps5
    go_wp2_with (first
      | (go_at_call 19; refine Hfew.out.mono ?_; rintro e w1 ⟨A1, c1, rfl, hr1, hb1⟩; have Hr1 := Lib.hid hr1; have Hb1 := Lib.hid hb1; clear hb1)
      | (at_builtin; refine wpList_append_rd rfl _ _ 39 rfl w1.heap.size 5 i _ 1 Try.underlying39 hi hz0 hz1 hz2 rfl _ [] rfl (Mine.empty w1 _ 5 (Nat.le_refl _)) w1.heap.size _ _ rfl (hr1.alloc (Nat.le_refl _) _) (cellsB_one _) (by have := HL.out; rw [cellsB_length]; simp; omega) (by have := HL.out; unfold maxLen; rw [cellsB_length]; simp; omega) (by simp) ?_; intro v2 w2 hown2 hb2 _ _; obtain ⟨A2, c2, e2, _, _, hr2⟩ := hown2.rd.bytes; subst e2; rw [HL.out] at hr2; have Hb2 := Lib.hid (Hb1.out.trans ((((Below.refl w1.heap.size w1).alloc (Nat.le_refl _) _).trans hb2).mono Hb1.out.size)); have Hr12 := Lib.hid (Hr1.out.below (((Below.refl w1.heap.size w1).alloc (Nat.le_refl _) _).trans hb2)); have Hr2 := Lib.hid hr2; rw [HL.out]; clear hown2 hb2 hr1 hr2)
      | (go_at_call 20; refine (load_arg n _ _ _ Hb.out).mono ?_; rintro e w3 ⟨rfl, rfl⟩)
      | (go_at_call 8; refine (lives06_any _).mono ?_; rintro e w5 ⟨rfl, hb5⟩; have HI5 := Lib.hid (Hb2.out.trans (hb5.mono Hb2.out.size)); clear hb5))
    go_ret
    exact ⟨rfl, HI5.out⟩
  · have t0 : decide (n < 1) = false := by simp; omega
    have t1 : decide (1600 < n) = true := by simp; omega
    clear hb hm hL hfew
    go_enter Try.func5, Try.ntmps5
    go_wp2_with (first
      | (go_at_call 19; refine Hfew.out.mono ?_; rintro e w1 ⟨A1, c1, rfl, hr1, hb1⟩; have Hr1 := Lib.hid hr1; have Hb1 := Lib.hid hb1; clear hb1)
      | (at_builtin; refine wpList_append_rd rfl _ _ 39 rfl w1.heap.size 5 i _ 1 Try.underlying39 hi hz0 hz1 hz2 rfl _ [] rfl (Mine.empty w1 _ 5 (Nat.le_refl _)) w1.heap.size _ _ rfl (hr1.alloc (Nat.le_refl _) _) (cellsB_one _) (by have := HL.out; rw [cellsB_length]; simp; omega) (by have := HL.out; unfold maxLen; rw [cellsB_length]; simp; omega) (by simp) ?_; intro v2 w2 hown2 hb2 _ _; obtain ⟨A2, c2, e2, _, _, hr2⟩ := hown2.rd.bytes; subst e2; rw [HL.out] at hr2; have Hb2 := Lib.hid (Hb1.out.trans ((((Below.refl w1.heap.size w1).alloc (Nat.le_refl _) _).trans hb2).mono Hb1.out.size)); have Hr12 := Lib.hid (Hr1.out.below (((Below.refl w1.heap.size w1).alloc (Nat.le_refl _) _).trans hb2)); have Hr2 := Lib.hid hr2; rw [HL.out]; clear hown2 hb2 hr1 hr2)
      | (go_at_call 20; refine (load_arg n _ _ _ Hb.out).mono ?_; rintro e w3 ⟨rfl, rfl⟩)
      | (go_at_call 8; refine (lives06_any _).mono ?_; rintro e w5 ⟨rfl, hb5⟩; have HI5 := Lib.hid (Hb2.out.trans (hb5.mono Hb2.out.size)); clear hb5))
    go_ret
    exact ⟨rfl, HI5.out⟩
set_option maxRecDepth 100000 in
set_option maxHeartbeats 2000000 in
theorem loads_len (v : Value) (L : List UInt8) (m : Nat) (hm : m = L.length) (hL : L.length ≤ 210) (n : Nat) (h1 : 1 ≤ n) (h2 : n ≤ 1600) (hne : L.length ≠ (n + 7) / 8) (w : World) (hfew : Calls Try.prog 19 #[v, .int .i64 210] w fun e w' => ∃ A c, e = .returned (.slice A L.length c) ∧ Rd w' w'.heap.size (.slice A L.length c) (cellsB L) ∧ Below w.heap.size w w') :
    Calls Try.prog 5 #[v, .int .i64 (n : Int)] w fun e w' => e = .returned (.bool true) ∧ Below w.heap.size w w' := by
  obtain ⟨i, hi, hz0, hz1, hz2⟩ := info_parts info_u8
  have Hfew : Hid (Calls Try.prog 19 #[v, .int .i64 210] w fun e w' => ∃ A c, e = .returned (.slice A m c) ∧ Rd w' w'.heap.size (.slice A m c) (cellsB L) ∧ Below w.heap.size w w') := Lib.hid (by rw [hm]; exact hfew)
  have HL : Hid (L.length = m) := Lib.hid hm.symm
  have hm210 : m ≤ 210 := by omega
  have t0 : decide ((n : Int) < 1) = false := by simp; omega
  have t1 : decide (1600 < (n : Int)) = false := by simp; omega
  have Hne : Hid (m ≠ (n + 7) / 8) := Lib.hid (by rw [hm]; exact hne)
  have H1 := Lib.hid h1
  have H2 := Lib.hid h2
  clear hm hL hfew hne h1 h2
  go_enter Try.func5, Try.ntmps5
  go_wp2_with (first
    | (go_at_call 19; refine Hfew.out.mono ?_; rintro e w1 ⟨A1, c1, rfl, hr1, hb1⟩; have Hr1 := Lib.hid hr1; have Hb1 := Lib.hid hb1; clear hb1)
    | (at_builtin; refine wpList_append_rd rfl _ _ 39 rfl w1.heap.size 5 i _ 1 Try.underlying39 hi hz0 hz1 hz2 rfl _ [] rfl (Mine.empty w1 _ 5 (Nat.le_refl _)) w1.heap.size _ _ rfl (hr1.alloc (Nat.le_refl _) _) (cellsB_one _) (by have := HL.out; rw [cellsB_length]; simp; omega) (by have := HL.out; unfold maxLen; rw [cellsB_length]; simp; omega) (by simp) ?_; intro v2 w2 hown2 hb2 _ _; obtain ⟨A2, c2, e2, _, _, hr2⟩ := hown2.rd.bytes; subst e2; rw [HL.out] at hr2; have Hb2 := Lib.hid (Hb1.out.trans ((((Below.refl w1.heap.size w1).alloc (Nat.le_refl _) _).trans hb2).mono Hb1.out.size)); have Hr12 := Lib.hid (Hr1.out.below (((Below.refl w1.heap.size w1).alloc (Nat.le_refl _) _).trans hb2)); have Hr2 := Lib.hid hr2; rw [HL.out]; clear hown2 hb2 hr1 hr2)
    | (go_at_call 20; refine (load_long n _ _ _ H1.out H2.out Hne.out).mono ?_; rintro e w3 ⟨rfl, rfl⟩)
    | (go_at_call 21; refine (rload_len n _ _ _ H2.out Hne.out).mono ?_; rintro e w3 ⟨rfl, rfl⟩)
    | (go_at_call 8; refine (lives06_any _).mono ?_; rintro e w5 ⟨rfl, hb5⟩; have HI5 := Lib.hid (Hb2.out.trans (hb5.mono Hb2.out.size)); clear hb5))
  go_ret
  exact ⟨rfl, HI5.out⟩
set_option maxRecDepth 100000 in
set_option maxHeartbeats 2000000 in
theorem loads_in (v : Value) (L : List UInt8) (m : Nat) (hm : m = L.length) (hL : L.length ≤ 210) (n : Nat) (h1 : 1 ≤ n) (h2 : n ≤ 1600) (hne : L.length = (n + 7) / 8) (w : World) (hfew : Calls Try.prog 19 #[v, .int .i64 210] w fun e w' => ∃ A c, e = .returned (.slice A L.length c) ∧ Rd w' w'.heap.size (.slice A L.length c) (cellsB L) ∧ Below w.heap.size w w') :
    Calls Try.prog 5 #[v, .int .i64 (n : Int)] w fun e w' => e = .returned (.bool true) ∧ Below w.heap.size w w' := by
  obtain ⟨i, hi, hz0, hz1, hz2⟩ := info_parts info_u8
  have Hfew : Hid (Calls Try.prog 19 #[v, .int .i64 210] w fun e w' => ∃ A c, e = .returned (.slice A m c) ∧ Rd w' w'.heap.size (.slice A m c) (cellsB L) ∧ Below w.heap.size w w') := Lib.hid (by rw [hm]; exact hfew)
  have HL : Hid (L.length = m) := Lib.hid hm.symm
  have hm210 : m ≤ 210 := by omega
  have t0 : decide ((n : Int) < 1) = false := by simp; omega
  have t1 : decide (1600 < (n : Int)) = false := by simp; omega
  have Hne := Lib.hid hne
  have H1 := Lib.hid h1
  have H2 := Lib.hid h2
  clear hm hL hfew hne h1 h2
  go_enter Try.func5, Try.ntmps5
  go_wp2_with (first
    | (go_at_call 19; refine Hfew.out.mono ?_; rintro e w1 ⟨A1, c1, rfl, hr1, hb1⟩; have Hr1 := Lib.hid hr1; have Hb1 := Lib.hid hb1; clear hb1)
    | (at_builtin; refine wpList_append_rd rfl _ _ 39 rfl w1.heap.size 5 i _ 1 Try.underlying39 hi hz0 hz1 hz2 rfl _ [] rfl (Mine.empty w1 _ 5 (Nat.le_refl _)) w1.heap.size _ _ rfl (hr1.alloc (Nat.le_refl _) _) (cellsB_one _) (by have := HL.out; rw [cellsB_length]; simp; omega) (by have := HL.out; unfold maxLen; rw [cellsB_length]; simp; omega) (by simp) ?_; intro v2 w2 hown2 hb2 _ _; obtain ⟨A2, c2, e2, _, _, hr2⟩ := hown2.rd.bytes; subst e2; rw [HL.out] at hr2; have Hb2 := Lib.hid (Hb1.out.trans ((((Below.refl w1.heap.size w1).alloc (Nat.le_refl _) _).trans hb2).mono Hb1.out.size)); have Hr12 := Lib.hid (Hr1.out.below (((Below.refl w1.heap.size w1).alloc (Nat.le_refl _) _).trans hb2)); have Hr2 := Lib.hid hr2; have Hs12 : Hid (w1.heap.size ≤ w2.heap.size) := Lib.hid (by have := hb2.size; simp at this; omega); rw [HL.out]; clear hown2 hb2 hr1 hr2))
  have hload := load_any n A2 c2 L H1.out H2.out Hne.out _ (by rw [HL.out]; exact Hr2.out) (Nat.le_refl _)
  rw [HL.out] at hload
  refine hload.mono ?_
  rintro e w3 ⟨hb3, hor⟩
  have Hb3 := Lib.hid (up Hb2.out hb3)
  have hrl := rload_any n A1 c1 L H1.out H2.out Hne.out _ (by rw [HL.out]; exact (Hr12.out.below (hb3.mono Hs12.out))) (Nat.le_trans Hs12.out hb3.size)
  rw [HL.out] at hrl
  rcases hor with ⟨hbad, rfl⟩ | ⟨hgood, a, rfl, ha, hs⟩
  · have Hrl : Hid (Calls Try.prog 21 #[.slice A1 m c1, .int .i64 (n : Int)] w3 fun e w' => e = .returned (.pointer none) ∧ Below w3.heap.size w3 w') := Lib.hid (hrl.mono (by
      rintro e w4 ⟨hb4, h4⟩
      rcases h4 with ⟨_, rfl⟩ | ⟨hg, _⟩
      · exact ⟨rfl, hb4⟩
      · obtain ⟨i, hi1, hi2⟩ := hbad
        rw [hg i hi1] at hi2
        cases hi2))
    clear hrl hbad hload
    go_wp2_with (first
      | (go_at_call 21; refine Hrl.out.mono ?_; rintro e w4 ⟨rfl, hb4⟩; have Hb4 := Lib.hid (up Hb3.out hb4); clear hb4)
      | (go_at_call 8; refine (lives06_any _).mono ?_; rintro e w5 ⟨rfl, hb5⟩; have HI5 := Lib.hid (Hb4.out.trans (hb5.mono Hb4.out.size)); clear hb5))
    go_ret
    exact ⟨rfl, HI5.out⟩
  · have Hrl : Hid (Calls Try.prog 21 #[.slice A1 m c1, .int .i64 (n : Int)] w3 fun e w' => ∃ p gn cn gs cs, e = .returned (spAt p) ∧ SpTwo w' a p gn cn gs cs (Spc.load n L) ∧ Below w3.heap.size w3 w') := Lib.hid (hrl.mono (by
      rintro e w4 ⟨hb4, h4⟩
      rcases h4 with ⟨⟨i, hi1, hi2⟩, _⟩ | ⟨_, p, gn, cn, gs, cs, rfl, hp, hgn, hgs, hrf⟩
      · rw [hgood i hi1] at hi2
        cases hi2
      · have := hs.lt
        exact ⟨p, gn, cn, gs, cs, rfl, ⟨hs.below hb4, hrf, ⟨by omega, by omega, by omega⟩⟩, hb4⟩))
    have Hr3 : Hid (Rd w3 w1.heap.size (.slice A1 m c1) (cellsB L) ∧ w1.heap.size ≤ w3.heap.size) := Lib.hid ⟨Hr12.out.below (hb3.mono Hs12.out), Nat.le_trans Hs12.out hb3.size⟩
    clear hrl hgood ha hs hload hb3
    go_wp2_with (go_at_call 21; refine Hrl.out.mono ?_; rintro e w4 ⟨p, gn, cn, gs, cs, rfl, htwo, hb4⟩; have Hb04 := Lib.hid (up Hb3.out hb4); have HT := Lib.hid htwo; have Hs34 := Lib.hid hb4.size; have Hr4 := Lib.hid (Hr3.out.1.below (hb4.mono Hr3.out.2)); clear hb4 htwo)
    have Hb4 : Hid (Below w4.heap.size w4 w4.drew) := Lib.hid (Below.refl _ _).drew
    have HS : Hid (∀ w', Below w4.heap.size w4 w' → (convert 39 9 (.slice A1 m c1)).run Try.prog w' = .ok (.string ⟨L.toArray⟩) w') := Lib.hid fun w' hb => run_string_rd (P := Try.prog) 39 9 5 Try.underlying39 Try.underlying5 Try.underlying9 (Hr4.out.below (hb.mono (Nat.le_trans Hr3.out.2 Hs34.out)))
    have HA0 : Hid (Calls Try.prog 18 #[spAt a, spAt p, .int .i64 0] w4.drew fun e w' => e = .returned (.bool true) ∧ Below w4.heap.size w4.drew w') := Lib.hid (alike_any (HT.out.below Hb4.out) 0)
    have HB0 : Hid (∀ w5, Below w4.heap.size w4 w5 → Calls Try.prog 22 #[spAt a] w5 fun e w' => ∃ A n c, e = .returned (.slice A n c) ∧ Rd w' w'.heap.size (.slice A n c) (cellsB L) ∧ Below w5.heap.size w5 w') := Lib.hid fun w5 hb => bytesS_any (HT.out.below hb).sp (Spc.load_bytes Hne.out).symm
    clear HT Hrl Hr3 Hr4
    go_wp2_with fail
    refine wp_region_held_drew (S := fun w' => (convert 39 9 (.slice A1 m c1)).run Try.prog w' = .ok (.string ⟨L.toArray⟩) w') (by kernel_rfl) (HS.out _ Hb4.out) (fun hHeld => ?_)
    refine' wpAnyH_take (i := 0) (oi := ⟨some 47, .move (.tmp 5), _, _, _, none⟩) (v := _) rfl (by kernel_rfl) (by kernel_rfl) (by kernel_rfl) (fun _ _ _ h => h) (Or.inl ⟨by rfl, ?hy1⟩) (by assumption) ?rest1
    case hy1 => (intro w hSw; obtain s1 := hSw; go_simp <;> with_reducible rfl)
    case rest1 =>
    go_frame
    refine' wpAnyH_take (i := 1) (oi := ⟨some 48, .binOp .neq 23 (.tmp 47) (.const (.pointer none)) 23, _, _, _, none⟩) (v := _) rfl (by kernel_rfl) (by kernel_rfl) (by kernel_rfl) (fun _ _ _ h => h) (Or.inl ⟨by rfl, ?hy2⟩) (by assumption) ?rest2
    case hy2 => (intro w hSw; obtain s1 := hSw; go_simp <;> with_reducible rfl)
    case rest2 =>
    go_frame
    refine' wpAnyH_take (i := 2) (oi := ⟨some 49, .move (.tmp 48), _, _, _, none⟩) (v := _) rfl (by kernel_rfl) (by kernel_rfl) (by kernel_rfl) (fun _ _ _ h => h) (Or.inl ⟨by rfl, ?hy3⟩) (by assumption) ?rest3
    case hy3 => (intro w hSw; obtain s1 := hSw; go_simp <;> with_reducible rfl)
    case rest3 =>
    go_frame
    refine' wpAnyH_take (i := 3) (oi := ⟨some 50, .move (.tmp 6), _, _, _, some (2, true)⟩) (v := _) rfl (by kernel_rfl) (by kernel_rfl) (by kernel_rfl) (fun _ _ _ h => h) (Or.inl ⟨by rfl, ?hy4⟩) (by assumption) ?rest4
    case hy4 => (intro w hSw; obtain s1 := hSw; go_simp <;> with_reducible rfl)
    case rest4 =>
    go_frame
    refine' wpAnyH_take (i := 4) (oi := ⟨some 51, .binOp .eql 24 (.tmp 50) (.const (.int .i64 0)) 24, _, _, _, some (2, true)⟩) (v := _) rfl (by kernel_rfl) (by kernel_rfl) (by kernel_rfl) (fun _ _ _ h => h) (Or.inl ⟨by rfl, ?hy5⟩) (by assumption) ?rest5
    case hy5 => (intro w hSw; obtain s1 := hSw; go_simp <;> with_reducible rfl)
    case rest5 =>
    go_frame
    refine' wpAnyH_take (i := 5) (oi := ⟨some 52, .pick (.tmp 49) (.tmp 51) (.const (.bool false)), _, _, _, none⟩) (v := _) rfl (by kernel_rfl) (by kernel_rfl) (by kernel_rfl) (fun _ _ _ h => h) (Or.inl ⟨by rfl, ?hy6⟩) (by assumption) ?rest6
    case hy6 => (intro w hSw; obtain s1 := hSw; go_simp <;> with_reducible rfl)
    case rest6 =>
    go_frame
    refine' wpAnyH_take (i := 6) (oi := ⟨some 53, .move (.tmp 52), _, _, _, none⟩) (v := _) rfl (by kernel_rfl) (by kernel_rfl) (by kernel_rfl) (fun _ _ _ h => h) (Or.inl ⟨by rfl, ?hy7⟩) (by assumption) ?rest7
    case hy7 => (intro w hSw; obtain s1 := hSw; go_simp <;> with_reducible rfl)
    case rest7 =>
    go_frame
    refine' wpAnyH_take (i := 7) (oi := ⟨some 54, .move (.tmp 5), _, _, _, some (6, true)⟩) (v := _) rfl (by kernel_rfl) (by kernel_rfl) (by kernel_rfl) (fun _ _ _ h => h) (Or.inl ⟨by rfl, ?hy8⟩) (by assumption) ?rest8
    case hy8 => (intro w hSw; obtain s1 := hSw; go_simp <;> with_reducible rfl)
    case rest8 =>
    go_frame
    refine' wpAnyH_take (i := 8) (oi := ⟨some 55, .move (.tmp 7), _, _, _, some (6, true)⟩) (v := _) rfl (by kernel_rfl) (by kernel_rfl) (by kernel_rfl) (fun _ _ _ h => h) (Or.inl ⟨by rfl, ?hy9⟩) (by assumption) ?rest9
    case hy9 => (intro w hSw; obtain s1 := hSw; go_simp <;> with_reducible rfl)
    case rest9 =>
    go_frame
    refine wpAnyH_ready (rs := [9]) (by kernel_rfl) (by simp) (AllReadyH.cons (o := ⟨some 56, .call { callee := .value (.func 18), args := #[.tmp 54, .tmp 55, .const (.int .i64 0)], argTypes := #[23, 28, 3] }, _, _, _, some (6, true)⟩) rfl (fun K hK => ?_) AllReadyH.nil)
    rw [if_pos (by rfl)]
    go_simp
    refine (HA0.out).mono ?_
    rintro e w5 ⟨rfl, hb5⟩
    have Hb5 := Lib.hid (up Hb4.out hb5)
    clear hb5
    dsimp only
    refine hK.out _ _ (HS.out _ Hb5.out) (fun _ => ?_)
    clear hK K
    try go_frame
    refine' wpAnyH_take (i := 10) (oi := ⟨some 57, .pick (.tmp 53) (.tmp 56) (.const (.bool false)), _, _, _, none⟩) (v := _) rfl (by kernel_rfl) (by kernel_rfl) (by kernel_rfl) (fun _ _ _ h => h) (Or.inl ⟨by rfl, ?hy10⟩) (by assumption) ?rest10
    case hy10 => (intro w hSw; obtain s1 := hSw; go_simp <;> with_reducible rfl)
    case rest10 =>
    go_frame
    refine' wpAnyH_take (i := 11) (oi := ⟨some 58, .move (.tmp 57), _, _, _, none⟩) (v := _) rfl (by kernel_rfl) (by kernel_rfl) (by kernel_rfl) (fun _ _ _ h => h) (Or.inl ⟨by rfl, ?hy11⟩) (by assumption) ?rest11
    case hy11 => (intro w hSw; obtain s1 := hSw; go_simp <;> with_reducible rfl)
    case rest11 =>
    go_frame
    refine' wpAnyH_take (i := 12) (oi := ⟨some 59, .move (.tmp 5), _, _, _, some (11, true)⟩) (v := _) rfl (by kernel_rfl) (by kernel_rfl) (by kernel_rfl) (fun _ _ _ h => h) (Or.inl ⟨by rfl, ?hy12⟩) (by assumption) ?rest12
    case hy12 => (intro w hSw; obtain s1 := hSw; go_simp <;> with_reducible rfl)
    case rest12 =>
    go_frame
    refine' wpAnyH_take (i := 15) (oi := ⟨some 62, .move (.tmp 0), _, _, _, some (11, true)⟩) (v := _) rfl (by kernel_rfl) (by kernel_rfl) (by kernel_rfl) (fun _ _ _ h => h) (Or.inl ⟨by rfl, ?hy13⟩) (by assumption) ?rest13
    case hy13 => (intro w hSw; obtain s1 := hSw; go_simp <;> with_reducible rfl)
    case rest13 =>
    go_frame
    refine' wpAnyH_take (i := 16) (oi := ⟨some 63, .convert 39 9 (.tmp 62), _, _, _, some (11, true)⟩) (v := .string ⟨L.toArray⟩) rfl (by kernel_rfl) (by kernel_rfl) (by kernel_rfl) (fun _ _ _ h => h) (Or.inl ⟨by rfl, ?hy14⟩) (by assumption) ?rest14
    case hy14 => (intro w hSw; exact exec_conv (s := 39) (t := 9) (x := .tmp 62) rfl (v := .slice A1 m c1) rfl hSw)
    case rest14 =>
    go_frame
    refine wpAnyH_ready (rs := [13]) (by kernel_rfl) (by simp) (AllReadyH.cons (o := ⟨some 60, .call { callee := .value (.func 22), args := #[.tmp 59], argTypes := #[23] }, _, _, _, some (11, true)⟩) rfl (fun K hK => ?_) AllReadyH.nil)
    rw [if_pos (by rfl)]
    go_simp
    refine ((HB0.out w5 Hb5.out)).mono ?_
    rintro e w6 ⟨A6, n6, c6, rfl, hr6, hb6⟩
    have Hb6 := Lib.hid (up Hb5.out hb6)
    have Hr6 := Lib.hid hr6
    clear hr6 hb6
    dsimp only
    refine hK.out _ _ (HS.out _ Hb6.out) (fun _ => ?_)
    clear hK K
    try go_frame
    refine wpAnyH_ready (rs := [14]) (by kernel_rfl) (by simp) (AllReadyH.cons (o := ⟨some 61, .convert 39 9 (.tmp 60), _, _, _, some (11, true)⟩) rfl (fun K hK => ?_) AllReadyH.nil)
    rw [if_pos (by rfl)]
    refine wp_run (.string ⟨L.toArray⟩) w6 (exec_conv (s := 39) (t := 9) (x := .tmp 60) rfl (v := .slice A6 n6 c6) rfl (run_string_rd (P := Try.prog) 39 9 5 Try.underlying39 Try.underlying5 Try.underlying9 Hr6.out)) ?_
    refine hK.out _ _ (HS.out _ Hb6.out) (fun _ => ?_)
    clear hK K
    try go_frame
    refine' wpAnyH_take (i := 17) (oi := ⟨some 64, .binOp .eql 9 (.tmp 61) (.tmp 63) 9, _, _, _, some (11, true)⟩) (v := _) rfl (by kernel_rfl) (by kernel_rfl) (by kernel_rfl) (fun _ _ _ h => h) (Or.inl ⟨by rfl, ?hy15⟩) (by assumption) ?rest15
    case hy15 => (intro w hSw; obtain s1 := hSw; go_simp <;> with_reducible rfl)
    case rest15 =>
    go_frame
    refine' wpAnyH_take (i := 18) (oi := ⟨some 65, .pick (.tmp 58) (.tmp 64) (.const (.bool false)), _, _, _, none⟩) (v := _) rfl (by kernel_rfl) (by kernel_rfl) (by kernel_rfl) (fun _ _ _ h => h) (Or.inl ⟨by rfl, ?hy16⟩) (by assumption) ?rest16
    case hy16 => (intro w hSw; obtain s1 := hSw; go_simp <;> with_reducible rfl)
    case rest16 =>
    go_frame
    refine' wpAnyH_take (i := 19) (oi := ⟨some 66, .move (.tmp 65), _, _, _, none⟩) (v := _) rfl (by kernel_rfl) (by kernel_rfl) (by kernel_rfl) (fun _ _ _ h => h) (Or.inl ⟨by rfl, ?hy17⟩) (by assumption) ?rest17
    case hy17 => (intro w hSw; obtain s1 := hSw; go_simp <;> with_reducible rfl)
    case rest17 =>
    go_frame
    refine wpAnyH_ready (rs := [20]) (by kernel_rfl) (by simp) (AllReadyH.cons (o := ⟨some 67, .call { callee := .value (.func 8), args := #[], argTypes := #[] }, _, _, _, some (19, true)⟩) rfl (fun K hK => ?_) AllReadyH.nil)
    rw [if_pos (by rfl)]
    go_simp
    refine ((lives06_any _)).mono ?_
    rintro e w7 ⟨rfl, hb7⟩
    have Hb7 := Lib.hid (up Hb6.out hb7)
    clear hb7
    dsimp only
    refine hK.out _ _ (HS.out _ Hb7.out) (fun _ => ?_)
    clear hK K
    try go_frame
    refine' wpAnyH_take (i := 21) (oi := ⟨some 68, .pick (.tmp 66) (.tmp 67) (.const (.bool false)), _, _, _, none⟩) (v := _) rfl (by kernel_rfl) (by kernel_rfl) (by kernel_rfl) (fun _ _ _ h => h) (Or.inl ⟨by rfl, ?hy18⟩) (by assumption) ?rest18
    case hy18 => (intro w hSw; obtain s1 := hSw; go_simp <;> with_reducible rfl)
    case rest18 =>
    go_frame
    refine' wpAnyH_take (i := 22) (oi := ⟨some 4, .assign (.tmp 68), _, _, _, none⟩) (v := _) rfl (by kernel_rfl) (by kernel_rfl) (by kernel_rfl) (fun _ _ _ h => h) (Or.inl ⟨by rfl, ?hy19⟩) (by assumption) ?rest19
    case hy19 => (intro w hSw; obtain s1 := hSw; go_simp <;> with_reducible rfl)
    case rest19 =>
    go_frame
    refine wpAnyH_done (by kernel_rfl) ?_ _
    go_wp2_with fail
    go_ret
    exact ⟨by simp, (Hb04.out.trans (Hb7.out.mono Hb04.out.size))⟩
theorem spaceLoads_walk (v : Value) (l : List UInt8) (n : Int) (w : World) (h : Rd w w.heap.size v (cellsB l)) (_ : (Lit.int .i64 n).wf = true) :
    Calls Try.prog 5 #[v, .int .i64 n] w fun e w' => e = .returned (.bool true) ∧ Below w.heap.size w w' := by
  obtain ⟨L, hL, hfew⟩ := few_two v l w _ h (Nat.le_refl _)
  by_cases hn : 1 ≤ n ∧ n ≤ 1600
  · obtain ⟨n, rfl⟩ : ∃ k : Nat, n = (k : Int) := ⟨n.toNat, by omega⟩
    by_cases hl : L.length = (n + 7) / 8
    · exact loads_in v L _ rfl hL n (by omega) (by omega) hl w hfew
    · exact loads_len v L _ rfl hL n (by omega) (by omega) hl w hfew
  · exact loads_arg v L _ rfl hL n hn w hfew
end Go.Proofs.Ytllhilnajjohiaa
