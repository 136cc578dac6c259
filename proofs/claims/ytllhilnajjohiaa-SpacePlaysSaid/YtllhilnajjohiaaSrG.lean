/-
  A space and the document's: alike at a page that is taken now.
-/
import Derived.Test.YtllhilnajjohiaaSrE
namespace Go.Proofs.Ytllhilnajjohiaa
open Go.RowKit
section
variable {w w' : World} {a p gn cn gs cs : Nat} {x : Spc}
set_option maxRecDepth 100000 in
set_option maxHeartbeats 4000000 in
theorem alike_tf (h : SpTwo w a p gn cn gs cs x) {k : Nat} (hk : k < x.n) (ht : x.now k = true) (hs : x.sure k = false) :
    Calls Try.prog 18 #[spAt a, spAt p, .int .i64 (k : Int)] w fun e w' => e = .returned (.bool true) ∧ Below w.heap.size w w' := by
  have HT : Hid (∀ w', Below w.heap.size w w' → SpTwo w' a p gn cn gs cs x) := Lib.hid fun w' hb => h.below hb
  have Hb0 : Hid (Below w.heap.size w w.drew) := Lib.hid (Below.refl _ _).drew
  obtain ⟨r, hr⟩ : ∃ r, r = _root_.Go.Proofs.Ytllhilnajjohiaa.free x.held x.n := ⟨_, rfl⟩
  obtain ⟨m, hm⟩ : ∃ m, m = (used x.now x.n).length := ⟨_, rfl⟩
  obtain ⟨L, hL⟩ : ∃ L, L = x.bytes := ⟨_, rfl⟩
  have Hm : Hid (m < 1000000) := Lib.hid (by have := used_le x.now x.n; have := h.sp.ok.size; omega)
  have HR0 : Hid (Calls Try.prog 23 #[spAt a] w.drew fun e w' => e = .returned (.int .i64 (r : Int)) ∧ Below w.heap.size w.drew w') := Lib.hid (by rw [hr]; exact room_any (HT.out _ Hb0.out).sp)
  have HR1 : Hid (∀ w1, Below w.heap.size w w1 → Calls Try.prog 31 #[spAt p] w1 fun e w' => e = .returned (.int .i64 (r : Int)) ∧ w1 = w') := Lib.hid fun w1 hb => by rw [hr]; exact rroom_any (HT.out _ hb).rf
  have HU0 := Lib.hid fun w1 hb => usedS_any (HT.out w1 hb).sp hm
  have HU1 := Lib.hid fun w1 hb => rusedS_any (HT.out w1 hb).rf hm
  have HB0 := Lib.hid fun w1 hb => bytesS_any (HT.out w1 hb).sp hL
  have HB1 := Lib.hid fun w1 hb => rbytesS_any (HT.out w1 hb).rf hL
  have HS : Hid (∀ w', Below w.heap.size w w' → w'.cell? ⟨p, 0, none⟩ = some (.slice (some ⟨gn, 0, none⟩) x.n cn) ∧ w'.cell? ⟨p, 1, none⟩ = some (.slice (some ⟨gs, 0, none⟩) x.n cs) ∧ w'.cell? ⟨gn, k, none⟩ = some (.bool true) ∧ w'.cell? ⟨gs, k, none⟩ = some (.bool false)) := Lib.hid fun w' hb => by
    have h' := (HT.out w' hb).rf
    refine ⟨h'.c0, h'.c1, ?_, ?_⟩
    · rw [← ht]; exact h'.cN hk
    · rw [← hs]; exact h'.cS hk
  have HT0 : Hid (∀ w1, Below w.heap.size w w1 → Calls Try.prog 36 #[spAt a, .int .i64 (k : Int)] w1 fun e w' => e = .returned (.bool true) ∧ w1 = w') := Lib.hid fun w1 hb => by
    have := taken_any (HT.out w1 hb).sp (k : Int)
    rwa [Spc.taken_page, ht] at this
  have HF0 : Hid (∀ w1, Below w.heap.size w w1 → Calls Try.prog 37 #[spAt a, .int .i64 (k : Int)] w1 fun e w' => e = .returned (.bool true) ∧ w1 = w') := Lib.hid fun w1 hb => by
    have := fresh_any (HT.out w1 hb).sp (k : Int)
    rwa [Spc.fresh_page, ht, hs] at this
  have k0 : (0 : Int) ≤ (k : Int) := by omega
  have k1 : (k : Int) < (x.n : Int) := by omega
  have k2 : (k : Int).toNat = k := by simp
  clear ht hs
  have h0 := h.rf.c0
  have h1 := h.rf.c1
  have hcn := h.rf.rN.caps.1
  have hcs := h.rf.rS.caps.1
  have hn2 := h.sp.ok.size
  clear HT h hr hm hL
  go_enter Try.func18, Try.ntmps18
  go_wp2_with fail
  refine wp_region_held_drew (S := fun w' => w'.cell? ⟨p, 0, none⟩ = some (.slice (some ⟨gn, 0, none⟩) x.n cn) ∧ w'.cell? ⟨p, 1, none⟩ = some (.slice (some ⟨gs, 0, none⟩) x.n cs) ∧ w'.cell? ⟨gn, k, none⟩ = some (.bool true) ∧ w'.cell? ⟨gs, k, none⟩ = some (.bool false)) (by kernel_rfl) (HS.out _ Hb0.out) (fun hHeld => ?_)
  refine' wpAnyH_take (i := 0) (oi := ⟨some 19, .move (.tmp 0), _, _, _, none⟩) (v := _) rfl (by kernel_rfl) (by kernel_rfl) (by kernel_rfl) (fun _ _ _ h => h) (Or.inl ⟨by rfl, ?hy557⟩) (by assumption) ?rest557
  case hy557 => (intro w hSw; obtain ⟨s1, s2, s3, s4⟩ := hSw; go_simp <;> with_reducible rfl)
  case rest557 =>
  go_frame
  refine' wpAnyH_take (i := 2) (oi := ⟨some 21, .move (.tmp 1), _, _, _, none⟩) (v := _) rfl (by kernel_rfl) (by kernel_rfl) (by kernel_rfl) (fun _ _ _ h => h) (Or.inl ⟨by rfl, ?hy558⟩) (by assumption) ?rest558
  case hy558 => (intro w hSw; obtain ⟨s1, s2, s3, s4⟩ := hSw; go_simp <;> with_reducible rfl)
  case rest558 =>
  go_frame
  refine wpAnyH_ready (rs := [1]) (by kernel_rfl) (by simp) (AllReadyH.cons (o := ⟨some 20, .call { callee := .value (.func 23), args := #[.tmp 19], argTypes := #[23] }, _, _, _, none⟩) rfl (fun K hK => ?_) AllReadyH.nil)
  rw [if_pos (by rfl)]
  go_simp
  refine (HR0.out).mono ?_
  rintro e w1 ⟨rfl, hb1⟩
  have Hb1 := Lib.hid (up Hb0.out hb1)
  clear hb1
  dsimp only
  refine hK.out _ _ (HS.out _ Hb1.out) (fun _ => ?_)
  clear hK K
  try go_frame
  refine wpAnyH_ready (rs := [3]) (by kernel_rfl) (by simp) (AllReadyH.cons (o := ⟨some 22, .call { callee := .value (.func 31), args := #[.tmp 21], argTypes := #[28] }, _, _, _, none⟩) rfl (fun K hK => ?_) AllReadyH.nil)
  rw [if_pos (by rfl)]
  go_simp
  refine ((HR1.out w1 Hb1.out)).mono ?_
  rintro e w2 ⟨rfl, rfl⟩
  dsimp only
  refine hK.out _ _ (HS.out _ Hb1.out) (fun _ => ?_)
  clear hK K
  try go_frame
  refine' wpAnyH_take (i := 4) (oi := ⟨some 23, .binOp .eql 3 (.tmp 20) (.tmp 22) 3, _, _, _, none⟩) (v := _) rfl (by kernel_rfl) (by kernel_rfl) (by kernel_rfl) (fun _ _ _ h => h) (Or.inl ⟨by rfl, ?hy559⟩) (by assumption) ?rest559
  case hy559 => (intro w hSw; obtain ⟨s1, s2, s3, s4⟩ := hSw; go_simp <;> with_reducible rfl)
  case rest559 =>
  go_frame
  refine' wpAnyH_take (i := 5) (oi := ⟨some 24, .move (.tmp 23), _, _, _, none⟩) (v := _) rfl (by kernel_rfl) (by kernel_rfl) (by kernel_rfl) (fun _ _ _ h => h) (Or.inl ⟨by rfl, ?hy560⟩) (by assumption) ?rest560
  case hy560 => (intro w hSw; obtain ⟨s1, s2, s3, s4⟩ := hSw; go_simp <;> with_reducible rfl)
  case rest560 =>
  go_frame
  refine' wpAnyH_take (i := 6) (oi := ⟨some 25, .move (.tmp 0), _, _, _, some (5, true)⟩) (v := _) rfl (by kernel_rfl) (by kernel_rfl) (by kernel_rfl) (fun _ _ _ h => h) (Or.inl ⟨by rfl, ?hy561⟩) (by assumption) ?rest561
  case hy561 => (intro w hSw; obtain ⟨s1, s2, s3, s4⟩ := hSw; go_simp <;> with_reducible rfl)
  case rest561 =>
  go_frame
  refine' wpAnyH_take (i := 8) (oi := ⟨some 27, .move (.tmp 1), _, _, _, some (5, true)⟩) (v := _) rfl (by kernel_rfl) (by kernel_rfl) (by kernel_rfl) (fun _ _ _ h => h) (Or.inl ⟨by rfl, ?hy562⟩) (by assumption) ?rest562
  case hy562 => (intro w hSw; obtain ⟨s1, s2, s3, s4⟩ := hSw; go_simp <;> with_reducible rfl)
  case rest562 =>
  go_frame
  refine wpAnyH_ready (rs := [7]) (by kernel_rfl) (by simp) (AllReadyH.cons (o := ⟨some 26, .call { callee := .value (.func 33), args := #[.tmp 25], argTypes := #[23] }, _, _, _, some (5, true)⟩) rfl (fun K hK => ?_) AllReadyH.nil)
  rw [if_pos (by rfl)]
  go_simp
  refine ((HU0.out w1 Hb1.out)).mono ?_
  rintro e w2 ⟨A2, c2, rfl, hr2, hb2⟩
  have Hb2 := Lib.hid (up Hb1.out hb2)
  have Hr2 := Lib.hid hr2
  clear hr2 hb2
  dsimp only
  refine hK.out _ _ (HS.out _ Hb2.out) (fun _ => ?_)
  clear hK K
  try go_frame
  refine wpAnyH_ready (rs := [9]) (by kernel_rfl) (by simp) (AllReadyH.cons (o := ⟨some 28, .call { callee := .value (.func 34), args := #[.tmp 27], argTypes := #[28] }, _, _, _, some (5, true)⟩) rfl (fun K hK => ?_) AllReadyH.nil)
  rw [if_pos (by rfl)]
  go_simp
  refine ((HU1.out w2 Hb2.out)).mono ?_
  rintro e w3 ⟨A3, c3, rfl, hr3, hb3⟩
  have Hb3 := Lib.hid (up Hb2.out hb3)
  have Hi3 := Lib.hid (ints_same (w := w3) (c := c2) (c2 := c3) (rd_ints (Hr2.out.below hb3)) (rd_ints hr3) Hm.out)
  clear hr3 hb3 Hr2
  dsimp only
  refine hK.out _ _ (HS.out _ Hb3.out) (fun _ => ?_)
  clear hK K
  try go_frame
  refine wpAnyH_ready (rs := [10]) (by kernel_rfl) (by simp) (AllReadyH.cons (o := ⟨some 29, .call { callee := .value (.func 32), args := #[.tmp 26, .tmp 28], argTypes := #[58, 58] }, _, _, _, some (5, true)⟩) rfl (fun K hK => ?_) AllReadyH.nil)
  rw [if_pos (by rfl)]
  go_simp
  refine (Hi3.out).mono ?_
  rintro e w4 ⟨rfl, hb4⟩
  have Hb4 := Lib.hid (up Hb3.out hb4)
  clear hb4 Hi3
  dsimp only
  refine hK.out _ _ (HS.out _ Hb4.out) (fun _ => ?_)
  clear hK K
  try go_frame
  refine' wpAnyH_take (i := 11) (oi := ⟨some 30, .pick (.tmp 24) (.tmp 29) (.const (.bool false)), _, _, _, none⟩) (v := _) rfl (by kernel_rfl) (by kernel_rfl) (by kernel_rfl) (fun _ _ _ h => h) (Or.inl ⟨by rfl, ?hy563⟩) (by assumption) ?rest563
  case hy563 => (intro w hSw; obtain ⟨s1, s2, s3, s4⟩ := hSw; go_simp <;> with_reducible rfl)
  case rest563 =>
  go_frame
  refine' wpAnyH_take (i := 12) (oi := ⟨some 31, .move (.tmp 30), _, _, _, none⟩) (v := _) rfl (by kernel_rfl) (by kernel_rfl) (by kernel_rfl) (fun _ _ _ h => h) (Or.inl ⟨by rfl, ?hy564⟩) (by assumption) ?rest564
  case hy564 => (intro w hSw; obtain ⟨s1, s2, s3, s4⟩ := hSw; go_simp <;> with_reducible rfl)
  case rest564 =>
  go_frame
  refine' wpAnyH_take (i := 13) (oi := ⟨some 32, .move (.tmp 0), _, _, _, some (12, true)⟩) (v := _) rfl (by kernel_rfl) (by kernel_rfl) (by kernel_rfl) (fun _ _ _ h => h) (Or.inl ⟨by rfl, ?hy565⟩) (by assumption) ?rest565
  case hy565 => (intro w hSw; obtain ⟨s1, s2, s3, s4⟩ := hSw; go_simp <;> with_reducible rfl)
  case rest565 =>
  go_frame
  refine' wpAnyH_take (i := 16) (oi := ⟨some 35, .move (.tmp 1), _, _, _, some (12, true)⟩) (v := _) rfl (by kernel_rfl) (by kernel_rfl) (by kernel_rfl) (fun _ _ _ h => h) (Or.inl ⟨by rfl, ?hy566⟩) (by assumption) ?rest566
  case hy566 => (intro w hSw; obtain ⟨s1, s2, s3, s4⟩ := hSw; go_simp <;> with_reducible rfl)
  case rest566 =>
  go_frame
  refine wpAnyH_ready (rs := [14]) (by kernel_rfl) (by simp) (AllReadyH.cons (o := ⟨some 33, .call { callee := .value (.func 22), args := #[.tmp 32], argTypes := #[23] }, _, _, _, some (12, true)⟩) rfl (fun K hK => ?_) AllReadyH.nil)
  rw [if_pos (by rfl)]
  go_simp
  refine ((HB0.out w4 Hb4.out)).mono ?_
  rintro e w5 ⟨A5, n5, c5, rfl, hr5, hb5⟩
  have Hb5 := Lib.hid (up Hb4.out hb5)
  have Hr5 := Lib.hid hr5
  clear hr5 hb5
  dsimp only
  refine hK.out _ _ (HS.out _ Hb5.out) (fun _ => ?_)
  clear hK K
  try go_frame
  refine wpAnyH_ready (rs := [15, 17]) (by kernel_rfl) (by simp) (AllReadyH.cons (o := ⟨some 34, .convert 39 9 (.tmp 33), _, _, _, some (12, true)⟩) rfl (fun K hK => ?_) (AllReadyH.cons (o := ⟨some 36, .call { callee := .value (.func 35), args := #[.tmp 35], argTypes := #[28] }, _, _, _, some (12, true)⟩) rfl (fun K hK => ?_) AllReadyH.nil))
  · rw [if_pos (by rfl)]
    refine wp_run (.string ⟨L.toArray⟩) w5 (exec_conv (s := 39) (t := 9) (x := .tmp 33) rfl (v := .slice A5 n5 c5) rfl (run_string_rd (P := Try.prog) 39 9 5 Try.underlying39 Try.underlying5 Try.underlying9 Hr5.out)) ?_
    refine hK.out _ _ (HS.out _ Hb5.out) (fun _ => ?_)
    clear hK K
    try go_frame
    refine wpAnyH_ready (rs := [17]) (by kernel_rfl) (by simp) (AllReadyH.cons (o := ⟨some 36, .call { callee := .value (.func 35), args := #[.tmp 35], argTypes := #[28] }, _, _, _, some (12, true)⟩) rfl (fun K hK => ?_) AllReadyH.nil)
    rw [if_pos (by rfl)]
    go_simp
    refine ((HB1.out w5 Hb5.out)).mono ?_
    rintro e w6 ⟨A6, n6, c6, rfl, hr6, hb6⟩
    have Hb6 := Lib.hid (up Hb5.out hb6)
    have Hr6 := Lib.hid hr6
    have Hr56 := Lib.hid (Hr5.out.below hb6)
    clear hr6 hb6
    dsimp only
    refine hK.out _ _ (HS.out _ Hb6.out) (fun _ => ?_)
    clear hK K
    try go_frame
    refine wpAnyH_ready (rs := [18]) (by kernel_rfl) (by simp) (AllReadyH.cons (o := ⟨some 37, .convert 39 9 (.tmp 36), _, _, _, some (12, true)⟩) rfl (fun K hK => ?_) AllReadyH.nil)
    rw [if_pos (by rfl)]
    refine wp_run (.string ⟨L.toArray⟩) w6 (exec_conv (s := 39) (t := 9) (x := .tmp 36) rfl (v := .slice A6 n6 c6) rfl (run_string_rd (P := Try.prog) 39 9 5 Try.underlying39 Try.underlying5 Try.underlying9 Hr6.out)) ?_
    refine hK.out _ _ (HS.out _ Hb6.out) (fun _ => ?_)
    clear hK K
    try go_frame
    refine' wpAnyH_take (i := 19) (oi := ⟨some 38, .binOp .eql 9 (.tmp 34) (.tmp 37) 9, _, _, _, some (12, true)⟩) (v := _) rfl (by kernel_rfl) (by kernel_rfl) (by kernel_rfl) (fun _ _ _ h => h) (Or.inl ⟨by rfl, ?hy567⟩) (by assumption) ?rest567
    case hy567 => (intro w hSw; obtain ⟨s1, s2, s3, s4⟩ := hSw; go_simp <;> with_reducible rfl)
    case rest567 =>
    go_frame
    refine' wpAnyH_take (i := 20) (oi := ⟨some 39, .pick (.tmp 31) (.tmp 38) (.const (.bool false)), _, _, _, none⟩) (v := _) rfl (by kernel_rfl) (by kernel_rfl) (by kernel_rfl) (fun _ _ _ h => h) (Or.inl ⟨by rfl, ?hy568⟩) (by assumption) ?rest568
    case hy568 => (intro w hSw; obtain ⟨s1, s2, s3, s4⟩ := hSw; go_simp <;> with_reducible rfl)
    case rest568 =>
    go_frame
    refine' wpAnyH_take (i := 21) (oi := ⟨some 40, .move (.tmp 39), _, _, _, none⟩) (v := _) rfl (by kernel_rfl) (by kernel_rfl) (by kernel_rfl) (fun _ _ _ h => h) (Or.inl ⟨by rfl, ?hy569⟩) (by assumption) ?rest569
    case hy569 => (intro w hSw; obtain ⟨s1, s2, s3, s4⟩ := hSw; go_simp <;> with_reducible rfl)
    case rest569 =>
    go_frame
    refine' wpAnyH_take (i := 22) (oi := ⟨some 41, .move (.tmp 0), _, _, _, some (21, true)⟩) (v := _) rfl (by kernel_rfl) (by kernel_rfl) (by kernel_rfl) (fun _ _ _ h => h) (Or.inl ⟨by rfl, ?hy570⟩) (by assumption) ?rest570
    case hy570 => (intro w hSw; obtain ⟨s1, s2, s3, s4⟩ := hSw; go_simp <;> with_reducible rfl)
    case rest570 =>
    go_frame
    refine' wpAnyH_take (i := 23) (oi := ⟨some 42, .move (.tmp 2), _, _, _, some (21, true)⟩) (v := _) rfl (by kernel_rfl) (by kernel_rfl) (by kernel_rfl) (fun _ _ _ h => h) (Or.inl ⟨by rfl, ?hy571⟩) (by assumption) ?rest571
    case hy571 => (intro w hSw; obtain ⟨s1, s2, s3, s4⟩ := hSw; go_simp <;> with_reducible rfl)
    case rest571 =>
    go_frame
    refine' wpAnyH_take (i := 25) (oi := ⟨some 44, .move (.tmp 7), _, _, _, some (21, true)⟩) (v := _) rfl (by kernel_rfl) (by kernel_rfl) (by kernel_rfl) (fun _ _ _ h => h) (Or.inl ⟨by rfl, ?hy572⟩) (by assumption) ?rest572
    case hy572 => (intro w hSw; obtain ⟨s1, s2, s3, s4⟩ := hSw; go_simp <;> with_reducible rfl)
    case rest572 =>
    go_frame
    refine wpAnyH_ready (rs := [24]) (by kernel_rfl) (by simp) (AllReadyH.cons (o := ⟨some 43, .call { callee := .value (.func 36), args := #[.tmp 41, .tmp 42], argTypes := #[23, 3] }, _, _, _, some (21, true)⟩) rfl (fun K hK => ?_) AllReadyH.nil)
    rw [if_pos (by rfl)]
    go_simp
    refine ((HT0.out w6 Hb6.out)).mono ?_
    rintro e w7 ⟨rfl, rfl⟩
    dsimp only
    refine hK.out _ _ (HS.out _ Hb6.out) (fun _ => ?_)
    clear hK K
    try go_frame
    refine' wpAnyH_take (i := 26) (oi := ⟨some 45, .move (.tmp 44), _, _, _, some (21, true)⟩) (v := _) rfl (by kernel_rfl) (by kernel_rfl) (by kernel_rfl) (fun _ _ _ h => h) (Or.inl ⟨by rfl, ?hy573⟩) (by assumption) ?rest573
    case hy573 => (intro w hSw; obtain ⟨s1, s2, s3, s4⟩ := hSw; go_simp <;> with_reducible rfl)
    case rest573 =>
    go_frame
    refine' wpAnyH_take (i := 27) (oi := ⟨some 46, .move (.tmp 1), _, _, _, some (26, true)⟩) (v := _) rfl (by kernel_rfl) (by kernel_rfl) (by kernel_rfl) (fun _ _ _ h => h) (Or.inl ⟨by rfl, ?hy574⟩) (by assumption) ?rest574
    case hy574 => (intro w hSw; obtain ⟨s1, s2, s3, s4⟩ := hSw; go_simp <;> with_reducible rfl)
    case rest574 =>
    go_frame
    refine' wpAnyH_take (i := 28) (oi := ⟨some 47, .nilCheck (.tmp 46), _, _, _, some (26, true)⟩) (v := _) rfl (by kernel_rfl) (by kernel_rfl) (by kernel_rfl) (fun _ _ _ h => h) (Or.inl ⟨by rfl, ?hy575⟩) (by assumption) ?rest575
    case hy575 => (intro w hSw; obtain ⟨s1, s2, s3, s4⟩ := hSw; go_simp <;> with_reducible rfl)
    case rest575 =>
    go_frame
    refine' wpAnyH_take (i := 29) (oi := ⟨some 48, .fieldAddr 55 (.tmp 47) 0, _, _, _, some (26, true)⟩) (v := _) rfl (by kernel_rfl) (by kernel_rfl) (by kernel_rfl) (fun _ _ _ h => h) (Or.inl ⟨by rfl, ?hy576⟩) (by assumption) ?rest576
    case hy576 => (intro w hSw; obtain ⟨s1, s2, s3, s4⟩ := hSw; go_simp <;> with_reducible rfl)
    case rest576 =>
    go_frame
    refine' wpAnyH_take (i := 30) (oi := ⟨some 49, .load 53 (.tmp 48), _, _, _, some (26, true)⟩) (v := _) rfl (by kernel_rfl) (by kernel_rfl) (by kernel_rfl) (fun _ _ _ h => h) (Or.inl ⟨by rfl, ?hy577⟩) (by assumption) ?rest577
    case hy577 => (intro w hSw; obtain ⟨s1, s2, s3, s4⟩ := hSw; go_simp <;> with_reducible rfl)
    case rest577 =>
    go_frame
    refine' wpAnyH_take (i := 31) (oi := ⟨some 50, .move (.tmp 2), _, _, _, some (26, true)⟩) (v := _) rfl (by kernel_rfl) (by kernel_rfl) (by kernel_rfl) (fun _ _ _ h => h) (Or.inl ⟨by rfl, ?hy578⟩) (by assumption) ?rest578
    case hy578 => (intro w hSw; obtain ⟨s1, s2, s3, s4⟩ := hSw; go_simp <;> with_reducible rfl)
    case rest578 =>
    go_frame
    refine' wpAnyH_take (i := 32) (oi := ⟨some 51, .indexAddr 53 (.tmp 49) (.tmp 50), _, _, _, some (26, true)⟩) (v := _) rfl (by kernel_rfl) (by kernel_rfl) (by kernel_rfl) (fun _ _ _ h => h) (Or.inl ⟨by rfl, ?hy579⟩) (by assumption) ?rest579
    case hy579 => (intro w hSw; obtain ⟨s1, s2, s3, s4⟩ := hSw; go_simp <;> with_reducible rfl)
    case rest579 =>
    go_frame
    refine' wpAnyH_take (i := 33) (oi := ⟨some 52, .load 4 (.tmp 51), _, _, _, some (26, true)⟩) (v := _) rfl (by kernel_rfl) (by kernel_rfl) (by kernel_rfl) (fun _ _ _ h => h) (Or.inl ⟨by rfl, ?hy580⟩) (by assumption) ?rest580
    case hy580 => (intro w hSw; obtain ⟨s1, s2, s3, s4⟩ := hSw; go_simp <;> with_reducible rfl)
    case rest580 =>
    go_frame
    refine' wpAnyH_take (i := 34) (oi := ⟨some 53, .pick (.tmp 45) (.tmp 52) (.const (.bool false)), _, _, _, some (21, true)⟩) (v := _) rfl (by kernel_rfl) (by kernel_rfl) (by kernel_rfl) (fun _ _ _ h => h) (Or.inl ⟨by rfl, ?hy581⟩) (by assumption) ?rest581
    case hy581 => (intro w hSw; obtain ⟨s1, s2, s3, s4⟩ := hSw; go_simp <;> with_reducible rfl)
    case rest581 =>
    go_frame
    refine' wpAnyH_take (i := 35) (oi := ⟨some 54, .binOp .eql 4 (.tmp 43) (.tmp 53) 4, _, _, _, some (21, true)⟩) (v := _) rfl (by kernel_rfl) (by kernel_rfl) (by kernel_rfl) (fun _ _ _ h => h) (Or.inl ⟨by rfl, ?hy582⟩) (by assumption) ?rest582
    case hy582 => (intro w hSw; obtain ⟨s1, s2, s3, s4⟩ := hSw; go_simp <;> with_reducible rfl)
    case rest582 =>
    go_frame
    refine' wpAnyH_take (i := 36) (oi := ⟨some 55, .pick (.tmp 40) (.tmp 54) (.const (.bool false)), _, _, _, none⟩) (v := _) rfl (by kernel_rfl) (by kernel_rfl) (by kernel_rfl) (fun _ _ _ h => h) (Or.inl ⟨by rfl, ?hy583⟩) (by assumption) ?rest583
    case hy583 => (intro w hSw; obtain ⟨s1, s2, s3, s4⟩ := hSw; go_simp <;> with_reducible rfl)
    case rest583 =>
    go_frame
    refine' wpAnyH_take (i := 37) (oi := ⟨some 56, .move (.tmp 55), _, _, _, none⟩) (v := _) rfl (by kernel_rfl) (by kernel_rfl) (by kernel_rfl) (fun _ _ _ h => h) (Or.inl ⟨by rfl, ?hy584⟩) (by assumption) ?rest584
    case hy584 => (intro w hSw; obtain ⟨s1, s2, s3, s4⟩ := hSw; go_simp <;> with_reducible rfl)
    case rest584 =>
    go_frame
    refine' wpAnyH_take (i := 38) (oi := ⟨some 57, .move (.tmp 0), _, _, _, some (37, true)⟩) (v := _) rfl (by kernel_rfl) (by kernel_rfl) (by kernel_rfl) (fun _ _ _ h => h) (Or.inl ⟨by rfl, ?hy585⟩) (by assumption) ?rest585
    case hy585 => (intro w hSw; obtain ⟨s1, s2, s3, s4⟩ := hSw; go_simp <;> with_reducible rfl)
    case rest585 =>
    go_frame
    refine' wpAnyH_take (i := 39) (oi := ⟨some 58, .move (.tmp 2), _, _, _, some (37, true)⟩) (v := _) rfl (by kernel_rfl) (by kernel_rfl) (by kernel_rfl) (fun _ _ _ h => h) (Or.inl ⟨by rfl, ?hy586⟩) (by assumption) ?rest586
    case hy586 => (intro w hSw; obtain ⟨s1, s2, s3, s4⟩ := hSw; go_simp <;> with_reducible rfl)
    case rest586 =>
    go_frame
    refine' wpAnyH_take (i := 41) (oi := ⟨some 60, .move (.tmp 7), _, _, _, some (37, true)⟩) (v := _) rfl (by kernel_rfl) (by kernel_rfl) (by kernel_rfl) (fun _ _ _ h => h) (Or.inl ⟨by rfl, ?hy587⟩) (by assumption) ?rest587
    case hy587 => (intro w hSw; obtain ⟨s1, s2, s3, s4⟩ := hSw; go_simp <;> with_reducible rfl)
    case rest587 =>
    go_frame
    refine wpAnyH_ready (rs := [40]) (by kernel_rfl) (by simp) (AllReadyH.cons (o := ⟨some 59, .call { callee := .value (.func 37), args := #[.tmp 57, .tmp 58], argTypes := #[23, 3] }, _, _, _, some (37, true)⟩) rfl (fun K hK => ?_) AllReadyH.nil)
    rw [if_pos (by rfl)]
    go_simp
    refine ((HF0.out w6 Hb6.out)).mono ?_
    rintro e w7 ⟨rfl, rfl⟩
    dsimp only
    refine hK.out _ _ (HS.out _ Hb6.out) (fun _ => ?_)
    clear hK K
    try go_frame
    refine' wpAnyH_take (i := 42) (oi := ⟨some 61, .move (.tmp 60), _, _, _, some (37, true)⟩) (v := _) rfl (by kernel_rfl) (by kernel_rfl) (by kernel_rfl) (fun _ _ _ h => h) (Or.inl ⟨by rfl, ?hy588⟩) (by assumption) ?rest588
    case hy588 => (intro w hSw; obtain ⟨s1, s2, s3, s4⟩ := hSw; go_simp <;> with_reducible rfl)
    case rest588 =>
    go_frame
    refine' wpAnyH_take (i := 43) (oi := ⟨some 62, .move (.tmp 1), _, _, _, some (42, true)⟩) (v := _) rfl (by kernel_rfl) (by kernel_rfl) (by kernel_rfl) (fun _ _ _ h => h) (Or.inl ⟨by rfl, ?hy589⟩) (by assumption) ?rest589
    case hy589 => (intro w hSw; obtain ⟨s1, s2, s3, s4⟩ := hSw; go_simp <;> with_reducible rfl)
    case rest589 =>
    go_frame
    refine' wpAnyH_take (i := 44) (oi := ⟨some 63, .nilCheck (.tmp 62), _, _, _, some (42, true)⟩) (v := _) rfl (by kernel_rfl) (by kernel_rfl) (by kernel_rfl) (fun _ _ _ h => h) (Or.inl ⟨by rfl, ?hy590⟩) (by assumption) ?rest590
    case hy590 => (intro w hSw; obtain ⟨s1, s2, s3, s4⟩ := hSw; go_simp <;> with_reducible rfl)
    case rest590 =>
    go_frame
    refine' wpAnyH_take (i := 45) (oi := ⟨some 64, .fieldAddr 55 (.tmp 63) 0, _, _, _, some (42, true)⟩) (v := _) rfl (by kernel_rfl) (by kernel_rfl) (by kernel_rfl) (fun _ _ _ h => h) (Or.inl ⟨by rfl, ?hy591⟩) (by assumption) ?rest591
    case hy591 => (intro w hSw; obtain ⟨s1, s2, s3, s4⟩ := hSw; go_simp <;> with_reducible rfl)
    case rest591 =>
    go_frame
    refine' wpAnyH_take (i := 46) (oi := ⟨some 65, .load 53 (.tmp 64), _, _, _, some (42, true)⟩) (v := _) rfl (by kernel_rfl) (by kernel_rfl) (by kernel_rfl) (fun _ _ _ h => h) (Or.inl ⟨by rfl, ?hy592⟩) (by assumption) ?rest592
    case hy592 => (intro w hSw; obtain ⟨s1, s2, s3, s4⟩ := hSw; go_simp <;> with_reducible rfl)
    case rest592 =>
    go_frame
    refine' wpAnyH_take (i := 47) (oi := ⟨some 66, .move (.tmp 2), _, _, _, some (42, true)⟩) (v := _) rfl (by kernel_rfl) (by kernel_rfl) (by kernel_rfl) (fun _ _ _ h => h) (Or.inl ⟨by rfl, ?hy593⟩) (by assumption) ?rest593
    case hy593 => (intro w hSw; obtain ⟨s1, s2, s3, s4⟩ := hSw; go_simp <;> with_reducible rfl)
    case rest593 =>
    go_frame
    refine' wpAnyH_take (i := 48) (oi := ⟨some 67, .indexAddr 53 (.tmp 65) (.tmp 66), _, _, _, some (42, true)⟩) (v := _) rfl (by kernel_rfl) (by kernel_rfl) (by kernel_rfl) (fun _ _ _ h => h) (Or.inl ⟨by rfl, ?hy594⟩) (by assumption) ?rest594
    case hy594 => (intro w hSw; obtain ⟨s1, s2, s3, s4⟩ := hSw; go_simp <;> with_reducible rfl)
    case rest594 =>
    go_frame
    refine' wpAnyH_take (i := 49) (oi := ⟨some 68, .load 4 (.tmp 67), _, _, _, some (42, true)⟩) (v := _) rfl (by kernel_rfl) (by kernel_rfl) (by kernel_rfl) (fun _ _ _ h => h) (Or.inl ⟨by rfl, ?hy595⟩) (by assumption) ?rest595
    case hy595 => (intro w hSw; obtain ⟨s1, s2, s3, s4⟩ := hSw; go_simp <;> with_reducible rfl)
    case rest595 =>
    go_frame
    refine' wpAnyH_take (i := 50) (oi := ⟨some 69, .pick (.tmp 61) (.tmp 68) (.const (.bool false)), _, _, _, some (37, true)⟩) (v := _) rfl (by kernel_rfl) (by kernel_rfl) (by kernel_rfl) (fun _ _ _ h => h) (Or.inl ⟨by rfl, ?hy596⟩) (by assumption) ?rest596
    case hy596 => (intro w hSw; obtain ⟨s1, s2, s3, s4⟩ := hSw; go_simp <;> with_reducible rfl)
    case rest596 =>
    go_frame
    refine' wpAnyH_take (i := 51) (oi := ⟨some 70, .move (.tmp 69), _, _, _, some (37, true)⟩) (v := _) rfl (by kernel_rfl) (by kernel_rfl) (by kernel_rfl) (fun _ _ _ h => h) (Or.inl ⟨by rfl, ?hy597⟩) (by assumption) ?rest597
    case hy597 => (intro w hSw; obtain ⟨s1, s2, s3, s4⟩ := hSw; go_simp <;> with_reducible rfl)
    case rest597 =>
    go_frame
    refine' wpAnyH_take (i := 52) (oi := ⟨some 71, .move (.tmp 1), _, _, _, some (51, true)⟩) (v := _) rfl (by kernel_rfl) (by kernel_rfl) (by kernel_rfl) (fun _ _ _ h => h) (Or.inl ⟨by rfl, ?hy598⟩) (by assumption) ?rest598
    case hy598 => (intro w hSw; obtain ⟨s1, s2, s3, s4⟩ := hSw; go_simp <;> with_reducible rfl)
    case rest598 =>
    go_frame
    refine' wpAnyH_take (i := 53) (oi := ⟨some 72, .nilCheck (.tmp 71), _, _, _, some (51, true)⟩) (v := _) rfl (by kernel_rfl) (by kernel_rfl) (by kernel_rfl) (fun _ _ _ h => h) (Or.inl ⟨by rfl, ?hy599⟩) (by assumption) ?rest599
    case hy599 => (intro w hSw; obtain ⟨s1, s2, s3, s4⟩ := hSw; go_simp <;> with_reducible rfl)
    case rest599 =>
    go_frame
    refine' wpAnyH_take (i := 54) (oi := ⟨some 73, .fieldAddr 55 (.tmp 72) 1, _, _, _, some (51, true)⟩) (v := _) rfl (by kernel_rfl) (by kernel_rfl) (by kernel_rfl) (fun _ _ _ h => h) (Or.inl ⟨by rfl, ?hy600⟩) (by assumption) ?rest600
    case hy600 => (intro w hSw; obtain ⟨s1, s2, s3, s4⟩ := hSw; go_simp <;> with_reducible rfl)
    case rest600 =>
    go_frame
    refine' wpAnyH_take (i := 55) (oi := ⟨some 74, .load 53 (.tmp 73), _, _, _, some (51, true)⟩) (v := _) rfl (by kernel_rfl) (by kernel_rfl) (by kernel_rfl) (fun _ _ _ h => h) (Or.inl ⟨by rfl, ?hy601⟩) (by assumption) ?rest601
    case hy601 => (intro w hSw; obtain ⟨s1, s2, s3, s4⟩ := hSw; go_simp <;> with_reducible rfl)
    case rest601 =>
    go_frame
    refine' wpAnyH_take (i := 56) (oi := ⟨some 75, .move (.tmp 2), _, _, _, some (51, true)⟩) (v := _) rfl (by kernel_rfl) (by kernel_rfl) (by kernel_rfl) (fun _ _ _ h => h) (Or.inl ⟨by rfl, ?hy602⟩) (by assumption) ?rest602
    case hy602 => (intro w hSw; obtain ⟨s1, s2, s3, s4⟩ := hSw; go_simp <;> with_reducible rfl)
    case rest602 =>
    go_frame
    refine' wpAnyH_take (i := 57) (oi := ⟨some 76, .indexAddr 53 (.tmp 74) (.tmp 75), _, _, _, some (51, true)⟩) (v := _) rfl (by kernel_rfl) (by kernel_rfl) (by kernel_rfl) (fun _ _ _ h => h) (Or.inl ⟨by rfl, ?hy603⟩) (by assumption) ?rest603
    case hy603 => (intro w hSw; obtain ⟨s1, s2, s3, s4⟩ := hSw; go_simp <;> with_reducible rfl)
    case rest603 =>
    go_frame
    refine' wpAnyH_take (i := 58) (oi := ⟨some 77, .load 4 (.tmp 76), _, _, _, some (51, true)⟩) (v := _) rfl (by kernel_rfl) (by kernel_rfl) (by kernel_rfl) (fun _ _ _ h => h) (Or.inl ⟨by rfl, ?hy604⟩) (by assumption) ?rest604
    case hy604 => (intro w hSw; obtain ⟨s1, s2, s3, s4⟩ := hSw; go_simp <;> with_reducible rfl)
    case rest604 =>
    go_frame
    refine' wpAnyH_take (i := 59) (oi := ⟨some 78, .unOp .not 4 (.tmp 77), _, _, _, some (51, true)⟩) (v := _) rfl (by kernel_rfl) (by kernel_rfl) (by kernel_rfl) (fun _ _ _ h => h) (Or.inl ⟨by rfl, ?hy605⟩) (by assumption) ?rest605
    case hy605 => (intro w hSw; obtain ⟨s1, s2, s3, s4⟩ := hSw; go_simp <;> with_reducible rfl)
    case rest605 =>
    go_frame
    refine' wpAnyH_take (i := 60) (oi := ⟨some 79, .pick (.tmp 70) (.tmp 78) (.const (.bool false)), _, _, _, some (37, true)⟩) (v := _) rfl (by kernel_rfl) (by kernel_rfl) (by kernel_rfl) (fun _ _ _ h => h) (Or.inl ⟨by rfl, ?hy606⟩) (by assumption) ?rest606
    case hy606 => (intro w hSw; obtain ⟨s1, s2, s3, s4⟩ := hSw; go_simp <;> with_reducible rfl)
    case rest606 =>
    go_frame
    refine' wpAnyH_take (i := 61) (oi := ⟨some 80, .binOp .eql 4 (.tmp 59) (.tmp 79) 4, _, _, _, some (37, true)⟩) (v := _) rfl (by kernel_rfl) (by kernel_rfl) (by kernel_rfl) (fun _ _ _ h => h) (Or.inl ⟨by rfl, ?hy607⟩) (by assumption) ?rest607
    case hy607 => (intro w hSw; obtain ⟨s1, s2, s3, s4⟩ := hSw; go_simp <;> with_reducible rfl)
    case rest607 =>
    go_frame
    refine' wpAnyH_take (i := 62) (oi := ⟨some 81, .pick (.tmp 56) (.tmp 80) (.const (.bool false)), _, _, _, none⟩) (v := _) rfl (by kernel_rfl) (by kernel_rfl) (by kernel_rfl) (fun _ _ _ h => h) (Or.inl ⟨by rfl, ?hy608⟩) (by assumption) ?rest608
    case hy608 => (intro w hSw; obtain ⟨s1, s2, s3, s4⟩ := hSw; go_simp <;> with_reducible rfl)
    case rest608 =>
    go_frame
    refine' wpAnyH_take (i := 63) (oi := ⟨some 6, .assign (.tmp 81), _, _, _, none⟩) (v := _) rfl (by kernel_rfl) (by kernel_rfl) (by kernel_rfl) (fun _ _ _ h => h) (Or.inl ⟨by rfl, ?hy609⟩) (by assumption) ?rest609
    case hy609 => (intro w hSw; obtain ⟨s1, s2, s3, s4⟩ := hSw; go_simp <;> with_reducible rfl)
    case rest609 =>
    go_frame
    refine wpAnyH_done (by kernel_rfl) ?_ _
    go_wp2_with fail
    go_ret
    exact ⟨by simp, Hb6.out⟩
  · rw [if_pos (by rfl)]
    go_simp
    refine ((HB1.out w5 Hb5.out)).mono ?_
    rintro e w6 ⟨A6, n6, c6, rfl, hr6, hb6⟩
    have Hb6 := Lib.hid (up Hb5.out hb6)
    have Hr6 := Lib.hid hr6
    have Hr56 := Lib.hid (Hr5.out.below hb6)
    clear hr6 hb6
    dsimp only
    refine hK.out _ _ (HS.out _ Hb6.out) (fun _ => ?_)
    clear hK K
    try go_frame
    refine wpAnyH_ready (rs := [15, 18]) (by kernel_rfl) (by simp) (AllReadyH.cons (o := ⟨some 34, .convert 39 9 (.tmp 33), _, _, _, some (12, true)⟩) rfl (fun K hK => ?_) (AllReadyH.cons (o := ⟨some 37, .convert 39 9 (.tmp 36), _, _, _, some (12, true)⟩) rfl (fun K hK => ?_) AllReadyH.nil))
    · rw [if_pos (by rfl)]
      refine wp_run (.string ⟨L.toArray⟩) w6 (exec_conv (s := 39) (t := 9) (x := .tmp 33) rfl (v := .slice A5 n5 c5) rfl (run_string_rd (P := Try.prog) 39 9 5 Try.underlying39 Try.underlying5 Try.underlying9 Hr56.out)) ?_
      refine hK.out _ _ (HS.out _ Hb6.out) (fun _ => ?_)
      clear hK K
      try go_frame
      refine wpAnyH_ready (rs := [18]) (by kernel_rfl) (by simp) (AllReadyH.cons (o := ⟨some 37, .convert 39 9 (.tmp 36), _, _, _, some (12, true)⟩) rfl (fun K hK => ?_) AllReadyH.nil)
      rw [if_pos (by rfl)]
      refine wp_run (.string ⟨L.toArray⟩) w6 (exec_conv (s := 39) (t := 9) (x := .tmp 36) rfl (v := .slice A6 n6 c6) rfl (run_string_rd (P := Try.prog) 39 9 5 Try.underlying39 Try.underlying5 Try.underlying9 Hr6.out)) ?_
      refine hK.out _ _ (HS.out _ Hb6.out) (fun _ => ?_)
      clear hK K
      try go_frame
      refine' wpAnyH_take (i := 19) (oi := ⟨some 38, .binOp .eql 9 (.tmp 34) (.tmp 37) 9, _, _, _, some (12, true)⟩) (v := _) rfl (by kernel_rfl) (by kernel_rfl) (by kernel_rfl) (fun _ _ _ h => h) (Or.inl ⟨by rfl, ?hy610⟩) (by assumption) ?rest610
      case hy610 => (intro w hSw; obtain ⟨s1, s2, s3, s4⟩ := hSw; go_simp <;> with_reducible rfl)
      case rest610 =>
      go_frame
      refine' wpAnyH_take (i := 20) (oi := ⟨some 39, .pick (.tmp 31) (.tmp 38) (.const (.bool false)), _, _, _, none⟩) (v := _) rfl (by kernel_rfl) (by kernel_rfl) (by kernel_rfl) (fun _ _ _ h => h) (Or.inl ⟨by rfl, ?hy611⟩) (by assumption) ?rest611
      case hy611 => (intro w hSw; obtain ⟨s1, s2, s3, s4⟩ := hSw; go_simp <;> with_reducible rfl)
      case rest611 =>
      go_frame
      refine' wpAnyH_take (i := 21) (oi := ⟨some 40, .move (.tmp 39), _, _, _, none⟩) (v := _) rfl (by kernel_rfl) (by kernel_rfl) (by kernel_rfl) (fun _ _ _ h => h) (Or.inl ⟨by rfl, ?hy612⟩) (by assumption) ?rest612
      case hy612 => (intro w hSw; obtain ⟨s1, s2, s3, s4⟩ := hSw; go_simp <;> with_reducible rfl)
      case rest612 =>
      go_frame
      refine' wpAnyH_take (i := 22) (oi := ⟨some 41, .move (.tmp 0), _, _, _, some (21, true)⟩) (v := _) rfl (by kernel_rfl) (by kernel_rfl) (by kernel_rfl) (fun _ _ _ h => h) (Or.inl ⟨by rfl, ?hy613⟩) (by assumption) ?rest613
      case hy613 => (intro w hSw; obtain ⟨s1, s2, s3, s4⟩ := hSw; go_simp <;> with_reducible rfl)
      case rest613 =>
      go_frame
      refine' wpAnyH_take (i := 23) (oi := ⟨some 42, .move (.tmp 2), _, _, _, some (21, true)⟩) (v := _) rfl (by kernel_rfl) (by kernel_rfl) (by kernel_rfl) (fun _ _ _ h => h) (Or.inl ⟨by rfl, ?hy614⟩) (by assumption) ?rest614
      case hy614 => (intro w hSw; obtain ⟨s1, s2, s3, s4⟩ := hSw; go_simp <;> with_reducible rfl)
      case rest614 =>
      go_frame
      refine' wpAnyH_take (i := 25) (oi := ⟨some 44, .move (.tmp 7), _, _, _, some (21, true)⟩) (v := _) rfl (by kernel_rfl) (by kernel_rfl) (by kernel_rfl) (fun _ _ _ h => h) (Or.inl ⟨by rfl, ?hy615⟩) (by assumption) ?rest615
      case hy615 => (intro w hSw; obtain ⟨s1, s2, s3, s4⟩ := hSw; go_simp <;> with_reducible rfl)
      case rest615 =>
      go_frame
      refine wpAnyH_ready (rs := [24]) (by kernel_rfl) (by simp) (AllReadyH.cons (o := ⟨some 43, .call { callee := .value (.func 36), args := #[.tmp 41, .tmp 42], argTypes := #[23, 3] }, _, _, _, some (21, true)⟩) rfl (fun K hK => ?_) AllReadyH.nil)
      rw [if_pos (by rfl)]
      go_simp
      refine ((HT0.out w6 Hb6.out)).mono ?_
      rintro e w7 ⟨rfl, rfl⟩
      dsimp only
      refine hK.out _ _ (HS.out _ Hb6.out) (fun _ => ?_)
      clear hK K
      try go_frame
      refine' wpAnyH_take (i := 26) (oi := ⟨some 45, .move (.tmp 44), _, _, _, some (21, true)⟩) (v := _) rfl (by kernel_rfl) (by kernel_rfl) (by kernel_rfl) (fun _ _ _ h => h) (Or.inl ⟨by rfl, ?hy616⟩) (by assumption) ?rest616
      case hy616 => (intro w hSw; obtain ⟨s1, s2, s3, s4⟩ := hSw; go_simp <;> with_reducible rfl)
      case rest616 =>
      go_frame
      refine' wpAnyH_take (i := 27) (oi := ⟨some 46, .move (.tmp 1), _, _, _, some (26, true)⟩) (v := _) rfl (by kernel_rfl) (by kernel_rfl) (by kernel_rfl) (fun _ _ _ h => h) (Or.inl ⟨by rfl, ?hy617⟩) (by assumption) ?rest617
      case hy617 => (intro w hSw; obtain ⟨s1, s2, s3, s4⟩ := hSw; go_simp <;> with_reducible rfl)
      case rest617 =>
      go_frame
      refine' wpAnyH_take (i := 28) (oi := ⟨some 47, .nilCheck (.tmp 46), _, _, _, some (26, true)⟩) (v := _) rfl (by kernel_rfl) (by kernel_rfl) (by kernel_rfl) (fun _ _ _ h => h) (Or.inl ⟨by rfl, ?hy618⟩) (by assumption) ?rest618
      case hy618 => (intro w hSw; obtain ⟨s1, s2, s3, s4⟩ := hSw; go_simp <;> with_reducible rfl)
      case rest618 =>
      go_frame
      refine' wpAnyH_take (i := 29) (oi := ⟨some 48, .fieldAddr 55 (.tmp 47) 0, _, _, _, some (26, true)⟩) (v := _) rfl (by kernel_rfl) (by kernel_rfl) (by kernel_rfl) (fun _ _ _ h => h) (Or.inl ⟨by rfl, ?hy619⟩) (by assumption) ?rest619
      case hy619 => (intro w hSw; obtain ⟨s1, s2, s3, s4⟩ := hSw; go_simp <;> with_reducible rfl)
      case rest619 =>
      go_frame
      refine' wpAnyH_take (i := 30) (oi := ⟨some 49, .load 53 (.tmp 48), _, _, _, some (26, true)⟩) (v := _) rfl (by kernel_rfl) (by kernel_rfl) (by kernel_rfl) (fun _ _ _ h => h) (Or.inl ⟨by rfl, ?hy620⟩) (by assumption) ?rest620
      case hy620 => (intro w hSw; obtain ⟨s1, s2, s3, s4⟩ := hSw; go_simp <;> with_reducible rfl)
      case rest620 =>
      go_frame
      refine' wpAnyH_take (i := 31) (oi := ⟨some 50, .move (.tmp 2), _, _, _, some (26, true)⟩) (v := _) rfl (by kernel_rfl) (by kernel_rfl) (by kernel_rfl) (fun _ _ _ h => h) (Or.inl ⟨by rfl, ?hy621⟩) (by assumption) ?rest621
      case hy621 => (intro w hSw; obtain ⟨s1, s2, s3, s4⟩ := hSw; go_simp <;> with_reducible rfl)
      case rest621 =>
      go_frame
      refine' wpAnyH_take (i := 32) (oi := ⟨some 51, .indexAddr 53 (.tmp 49) (.tmp 50), _, _, _, some (26, true)⟩) (v := _) rfl (by kernel_rfl) (by kernel_rfl) (by kernel_rfl) (fun _ _ _ h => h) (Or.inl ⟨by rfl, ?hy622⟩) (by assumption) ?rest622
      case hy622 => (intro w hSw; obtain ⟨s1, s2, s3, s4⟩ := hSw; go_simp <;> with_reducible rfl)
      case rest622 =>
      go_frame
      refine' wpAnyH_take (i := 33) (oi := ⟨some 52, .load 4 (.tmp 51), _, _, _, some (26, true)⟩) (v := _) rfl (by kernel_rfl) (by kernel_rfl) (by kernel_rfl) (fun _ _ _ h => h) (Or.inl ⟨by rfl, ?hy623⟩) (by assumption) ?rest623
      case hy623 => (intro w hSw; obtain ⟨s1, s2, s3, s4⟩ := hSw; go_simp <;> with_reducible rfl)
      case rest623 =>
      go_frame
      refine' wpAnyH_take (i := 34) (oi := ⟨some 53, .pick (.tmp 45) (.tmp 52) (.const (.bool false)), _, _, _, some (21, true)⟩) (v := _) rfl (by kernel_rfl) (by kernel_rfl) (by kernel_rfl) (fun _ _ _ h => h) (Or.inl ⟨by rfl, ?hy624⟩) (by assumption) ?rest624
      case hy624 => (intro w hSw; obtain ⟨s1, s2, s3, s4⟩ := hSw; go_simp <;> with_reducible rfl)
      case rest624 =>
      go_frame
      refine' wpAnyH_take (i := 35) (oi := ⟨some 54, .binOp .eql 4 (.tmp 43) (.tmp 53) 4, _, _, _, some (21, true)⟩) (v := _) rfl (by kernel_rfl) (by kernel_rfl) (by kernel_rfl) (fun _ _ _ h => h) (Or.inl ⟨by rfl, ?hy625⟩) (by assumption) ?rest625
      case hy625 => (intro w hSw; obtain ⟨s1, s2, s3, s4⟩ := hSw; go_simp <;> with_reducible rfl)
      case rest625 =>
      go_frame
      refine' wpAnyH_take (i := 36) (oi := ⟨some 55, .pick (.tmp 40) (.tmp 54) (.const (.bool false)), _, _, _, none⟩) (v := _) rfl (by kernel_rfl) (by kernel_rfl) (by kernel_rfl) (fun _ _ _ h => h) (Or.inl ⟨by rfl, ?hy626⟩) (by assumption) ?rest626
      case hy626 => (intro w hSw; obtain ⟨s1, s2, s3, s4⟩ := hSw; go_simp <;> with_reducible rfl)
      case rest626 =>
      go_frame
      refine' wpAnyH_take (i := 37) (oi := ⟨some 56, .move (.tmp 55), _, _, _, none⟩) (v := _) rfl (by kernel_rfl) (by kernel_rfl) (by kernel_rfl) (fun _ _ _ h => h) (Or.inl ⟨by rfl, ?hy627⟩) (by assumption) ?rest627
      case hy627 => (intro w hSw; obtain ⟨s1, s2, s3, s4⟩ := hSw; go_simp <;> with_reducible rfl)
      case rest627 =>
      go_frame
      refine' wpAnyH_take (i := 38) (oi := ⟨some 57, .move (.tmp 0), _, _, _, some (37, true)⟩) (v := _) rfl (by kernel_rfl) (by kernel_rfl) (by kernel_rfl) (fun _ _ _ h => h) (Or.inl ⟨by rfl, ?hy628⟩) (by assumption) ?rest628
      case hy628 => (intro w hSw; obtain ⟨s1, s2, s3, s4⟩ := hSw; go_simp <;> with_reducible rfl)
      case rest628 =>
      go_frame
      refine' wpAnyH_take (i := 39) (oi := ⟨some 58, .move (.tmp 2), _, _, _, some (37, true)⟩) (v := _) rfl (by kernel_rfl) (by kernel_rfl) (by kernel_rfl) (fun _ _ _ h => h) (Or.inl ⟨by rfl, ?hy629⟩) (by assumption) ?rest629
      case hy629 => (intro w hSw; obtain ⟨s1, s2, s3, s4⟩ := hSw; go_simp <;> with_reducible rfl)
      case rest629 =>
      go_frame
      refine' wpAnyH_take (i := 41) (oi := ⟨some 60, .move (.tmp 7), _, _, _, some (37, true)⟩) (v := _) rfl (by kernel_rfl) (by kernel_rfl) (by kernel_rfl) (fun _ _ _ h => h) (Or.inl ⟨by rfl, ?hy630⟩) (by assumption) ?rest630
      case hy630 => (intro w hSw; obtain ⟨s1, s2, s3, s4⟩ := hSw; go_simp <;> with_reducible rfl)
      case rest630 =>
      go_frame
      refine wpAnyH_ready (rs := [40]) (by kernel_rfl) (by simp) (AllReadyH.cons (o := ⟨some 59, .call { callee := .value (.func 37), args := #[.tmp 57, .tmp 58], argTypes := #[23, 3] }, _, _, _, some (37, true)⟩) rfl (fun K hK => ?_) AllReadyH.nil)
      rw [if_pos (by rfl)]
      go_simp
      refine ((HF0.out w6 Hb6.out)).mono ?_
      rintro e w7 ⟨rfl, rfl⟩
      dsimp only
      refine hK.out _ _ (HS.out _ Hb6.out) (fun _ => ?_)
      clear hK K
      try go_frame
      refine' wpAnyH_take (i := 42) (oi := ⟨some 61, .move (.tmp 60), _, _, _, some (37, true)⟩) (v := _) rfl (by kernel_rfl) (by kernel_rfl) (by kernel_rfl) (fun _ _ _ h => h) (Or.inl ⟨by rfl, ?hy631⟩) (by assumption) ?rest631
      case hy631 => (intro w hSw; obtain ⟨s1, s2, s3, s4⟩ := hSw; go_simp <;> with_reducible rfl)
      case rest631 =>
      go_frame
      refine' wpAnyH_take (i := 43) (oi := ⟨some 62, .move (.tmp 1), _, _, _, some (42, true)⟩) (v := _) rfl (by kernel_rfl) (by kernel_rfl) (by kernel_rfl) (fun _ _ _ h => h) (Or.inl ⟨by rfl, ?hy632⟩) (by assumption) ?rest632
      case hy632 => (intro w hSw; obtain ⟨s1, s2, s3, s4⟩ := hSw; go_simp <;> with_reducible rfl)
      case rest632 =>
      go_frame
      refine' wpAnyH_take (i := 44) (oi := ⟨some 63, .nilCheck (.tmp 62), _, _, _, some (42, true)⟩) (v := _) rfl (by kernel_rfl) (by kernel_rfl) (by kernel_rfl) (fun _ _ _ h => h) (Or.inl ⟨by rfl, ?hy633⟩) (by assumption) ?rest633
      case hy633 => (intro w hSw; obtain ⟨s1, s2, s3, s4⟩ := hSw; go_simp <;> with_reducible rfl)
      case rest633 =>
      go_frame
      refine' wpAnyH_take (i := 45) (oi := ⟨some 64, .fieldAddr 55 (.tmp 63) 0, _, _, _, some (42, true)⟩) (v := _) rfl (by kernel_rfl) (by kernel_rfl) (by kernel_rfl) (fun _ _ _ h => h) (Or.inl ⟨by rfl, ?hy634⟩) (by assumption) ?rest634
      case hy634 => (intro w hSw; obtain ⟨s1, s2, s3, s4⟩ := hSw; go_simp <;> with_reducible rfl)
      case rest634 =>
      go_frame
      refine' wpAnyH_take (i := 46) (oi := ⟨some 65, .load 53 (.tmp 64), _, _, _, some (42, true)⟩) (v := _) rfl (by kernel_rfl) (by kernel_rfl) (by kernel_rfl) (fun _ _ _ h => h) (Or.inl ⟨by rfl, ?hy635⟩) (by assumption) ?rest635
      case hy635 => (intro w hSw; obtain ⟨s1, s2, s3, s4⟩ := hSw; go_simp <;> with_reducible rfl)
      case rest635 =>
      go_frame
      refine' wpAnyH_take (i := 47) (oi := ⟨some 66, .move (.tmp 2), _, _, _, some (42, true)⟩) (v := _) rfl (by kernel_rfl) (by kernel_rfl) (by kernel_rfl) (fun _ _ _ h => h) (Or.inl ⟨by rfl, ?hy636⟩) (by assumption) ?rest636
      case hy636 => (intro w hSw; obtain ⟨s1, s2, s3, s4⟩ := hSw; go_simp <;> with_reducible rfl)
      case rest636 =>
      go_frame
      refine' wpAnyH_take (i := 48) (oi := ⟨some 67, .indexAddr 53 (.tmp 65) (.tmp 66), _, _, _, some (42, true)⟩) (v := _) rfl (by kernel_rfl) (by kernel_rfl) (by kernel_rfl) (fun _ _ _ h => h) (Or.inl ⟨by rfl, ?hy637⟩) (by assumption) ?rest637
      case hy637 => (intro w hSw; obtain ⟨s1, s2, s3, s4⟩ := hSw; go_simp <;> with_reducible rfl)
      case rest637 =>
      go_frame
      refine' wpAnyH_take (i := 49) (oi := ⟨some 68, .load 4 (.tmp 67), _, _, _, some (42, true)⟩) (v := _) rfl (by kernel_rfl) (by kernel_rfl) (by kernel_rfl) (fun _ _ _ h => h) (Or.inl ⟨by rfl, ?hy638⟩) (by assumption) ?rest638
      case hy638 => (intro w hSw; obtain ⟨s1, s2, s3, s4⟩ := hSw; go_simp <;> with_reducible rfl)
      case rest638 =>
      go_frame
      refine' wpAnyH_take (i := 50) (oi := ⟨some 69, .pick (.tmp 61) (.tmp 68) (.const (.bool false)), _, _, _, some (37, true)⟩) (v := _) rfl (by kernel_rfl) (by kernel_rfl) (by kernel_rfl) (fun _ _ _ h => h) (Or.inl ⟨by rfl, ?hy639⟩) (by assumption) ?rest639
      case hy639 => (intro w hSw; obtain ⟨s1, s2, s3, s4⟩ := hSw; go_simp <;> with_reducible rfl)
      case rest639 =>
      go_frame
      refine' wpAnyH_take (i := 51) (oi := ⟨some 70, .move (.tmp 69), _, _, _, some (37, true)⟩) (v := _) rfl (by kernel_rfl) (by kernel_rfl) (by kernel_rfl) (fun _ _ _ h => h) (Or.inl ⟨by rfl, ?hy640⟩) (by assumption) ?rest640
      case hy640 => (intro w hSw; obtain ⟨s1, s2, s3, s4⟩ := hSw; go_simp <;> with_reducible rfl)
      case rest640 =>
      go_frame
      refine' wpAnyH_take (i := 52) (oi := ⟨some 71, .move (.tmp 1), _, _, _, some (51, true)⟩) (v := _) rfl (by kernel_rfl) (by kernel_rfl) (by kernel_rfl) (fun _ _ _ h => h) (Or.inl ⟨by rfl, ?hy641⟩) (by assumption) ?rest641
      case hy641 => (intro w hSw; obtain ⟨s1, s2, s3, s4⟩ := hSw; go_simp <;> with_reducible rfl)
      case rest641 =>
      go_frame
      refine' wpAnyH_take (i := 53) (oi := ⟨some 72, .nilCheck (.tmp 71), _, _, _, some (51, true)⟩) (v := _) rfl (by kernel_rfl) (by kernel_rfl) (by kernel_rfl) (fun _ _ _ h => h) (Or.inl ⟨by rfl, ?hy642⟩) (by assumption) ?rest642
      case hy642 => (intro w hSw; obtain ⟨s1, s2, s3, s4⟩ := hSw; go_simp <;> with_reducible rfl)
      case rest642 =>
      go_frame
      refine' wpAnyH_take (i := 54) (oi := ⟨some 73, .fieldAddr 55 (.tmp 72) 1, _, _, _, some (51, true)⟩) (v := _) rfl (by kernel_rfl) (by kernel_rfl) (by kernel_rfl) (fun _ _ _ h => h) (Or.inl ⟨by rfl, ?hy643⟩) (by assumption) ?rest643
      case hy643 => (intro w hSw; obtain ⟨s1, s2, s3, s4⟩ := hSw; go_simp <;> with_reducible rfl)
      case rest643 =>
      go_frame
      refine' wpAnyH_take (i := 55) (oi := ⟨some 74, .load 53 (.tmp 73), _, _, _, some (51, true)⟩) (v := _) rfl (by kernel_rfl) (by kernel_rfl) (by kernel_rfl) (fun _ _ _ h => h) (Or.inl ⟨by rfl, ?hy644⟩) (by assumption) ?rest644
      case hy644 => (intro w hSw; obtain ⟨s1, s2, s3, s4⟩ := hSw; go_simp <;> with_reducible rfl)
      case rest644 =>
      go_frame
      refine' wpAnyH_take (i := 56) (oi := ⟨some 75, .move (.tmp 2), _, _, _, some (51, true)⟩) (v := _) rfl (by kernel_rfl) (by kernel_rfl) (by kernel_rfl) (fun _ _ _ h => h) (Or.inl ⟨by rfl, ?hy645⟩) (by assumption) ?rest645
      case hy645 => (intro w hSw; obtain ⟨s1, s2, s3, s4⟩ := hSw; go_simp <;> with_reducible rfl)
      case rest645 =>
      go_frame
      refine' wpAnyH_take (i := 57) (oi := ⟨some 76, .indexAddr 53 (.tmp 74) (.tmp 75), _, _, _, some (51, true)⟩) (v := _) rfl (by kernel_rfl) (by kernel_rfl) (by kernel_rfl) (fun _ _ _ h => h) (Or.inl ⟨by rfl, ?hy646⟩) (by assumption) ?rest646
      case hy646 => (intro w hSw; obtain ⟨s1, s2, s3, s4⟩ := hSw; go_simp <;> with_reducible rfl)
      case rest646 =>
      go_frame
      refine' wpAnyH_take (i := 58) (oi := ⟨some 77, .load 4 (.tmp 76), _, _, _, some (51, true)⟩) (v := _) rfl (by kernel_rfl) (by kernel_rfl) (by kernel_rfl) (fun _ _ _ h => h) (Or.inl ⟨by rfl, ?hy647⟩) (by assumption) ?rest647
      case hy647 => (intro w hSw; obtain ⟨s1, s2, s3, s4⟩ := hSw; go_simp <;> with_reducible rfl)
      case rest647 =>
      go_frame
      refine' wpAnyH_take (i := 59) (oi := ⟨some 78, .unOp .not 4 (.tmp 77), _, _, _, some (51, true)⟩) (v := _) rfl (by kernel_rfl) (by kernel_rfl) (by kernel_rfl) (fun _ _ _ h => h) (Or.inl ⟨by rfl, ?hy648⟩) (by assumption) ?rest648
      case hy648 => (intro w hSw; obtain ⟨s1, s2, s3, s4⟩ := hSw; go_simp <;> with_reducible rfl)
      case rest648 =>
      go_frame
      refine' wpAnyH_take (i := 60) (oi := ⟨some 79, .pick (.tmp 70) (.tmp 78) (.const (.bool false)), _, _, _, some (37, true)⟩) (v := _) rfl (by kernel_rfl) (by kernel_rfl) (by kernel_rfl) (fun _ _ _ h => h) (Or.inl ⟨by rfl, ?hy649⟩) (by assumption) ?rest649
      case hy649 => (intro w hSw; obtain ⟨s1, s2, s3, s4⟩ := hSw; go_simp <;> with_reducible rfl)
      case rest649 =>
      go_frame
      refine' wpAnyH_take (i := 61) (oi := ⟨some 80, .binOp .eql 4 (.tmp 59) (.tmp 79) 4, _, _, _, some (37, true)⟩) (v := _) rfl (by kernel_rfl) (by kernel_rfl) (by kernel_rfl) (fun _ _ _ h => h) (Or.inl ⟨by rfl, ?hy650⟩) (by assumption) ?rest650
      case hy650 => (intro w hSw; obtain ⟨s1, s2, s3, s4⟩ := hSw; go_simp <;> with_reducible rfl)
      case rest650 =>
      go_frame
      refine' wpAnyH_take (i := 62) (oi := ⟨some 81, .pick (.tmp 56) (.tmp 80) (.const (.bool false)), _, _, _, none⟩) (v := _) rfl (by kernel_rfl) (by kernel_rfl) (by kernel_rfl) (fun _ _ _ h => h) (Or.inl ⟨by rfl, ?hy651⟩) (by assumption) ?rest651
      case hy651 => (intro w hSw; obtain ⟨s1, s2, s3, s4⟩ := hSw; go_simp <;> with_reducible rfl)
      case rest651 =>
      go_frame
      refine' wpAnyH_take (i := 63) (oi := ⟨some 6, .assign (.tmp 81), _, _, _, none⟩) (v := _) rfl (by kernel_rfl) (by kernel_rfl) (by kernel_rfl) (fun _ _ _ h => h) (Or.inl ⟨by rfl, ?hy652⟩) (by assumption) ?rest652
      case hy652 => (intro w hSw; obtain ⟨s1, s2, s3, s4⟩ := hSw; go_simp <;> with_reducible rfl)
      case rest652 =>
      go_frame
      refine wpAnyH_done (by kernel_rfl) ?_ _
      go_wp2_with fail
      go_ret
      exact ⟨by simp, Hb6.out⟩
    · rw [if_pos (by rfl)]
      refine wp_run (.string ⟨L.toArray⟩) w6 (exec_conv (s := 39) (t := 9) (x := .tmp 36) rfl (v := .slice A6 n6 c6) rfl (run_string_rd (P := Try.prog) 39 9 5 Try.underlying39 Try.underlying5 Try.underlying9 Hr6.out)) ?_
      refine hK.out _ _ (HS.out _ Hb6.out) (fun _ => ?_)
      clear hK K
      try go_frame
      refine wpAnyH_ready (rs := [15]) (by kernel_rfl) (by simp) (AllReadyH.cons (o := ⟨some 34, .convert 39 9 (.tmp 33), _, _, _, some (12, true)⟩) rfl (fun K hK => ?_) AllReadyH.nil)
      rw [if_pos (by rfl)]
      refine wp_run (.string ⟨L.toArray⟩) w6 (exec_conv (s := 39) (t := 9) (x := .tmp 33) rfl (v := .slice A5 n5 c5) rfl (run_string_rd (P := Try.prog) 39 9 5 Try.underlying39 Try.underlying5 Try.underlying9 Hr56.out)) ?_
      refine hK.out _ _ (HS.out _ Hb6.out) (fun _ => ?_)
      clear hK K
      try go_frame
      refine' wpAnyH_take (i := 19) (oi := ⟨some 38, .binOp .eql 9 (.tmp 34) (.tmp 37) 9, _, _, _, some (12, true)⟩) (v := _) rfl (by kernel_rfl) (by kernel_rfl) (by kernel_rfl) (fun _ _ _ h => h) (Or.inl ⟨by rfl, ?hy653⟩) (by assumption) ?rest653
      case hy653 => (intro w hSw; obtain ⟨s1, s2, s3, s4⟩ := hSw; go_simp <;> with_reducible rfl)
      case rest653 =>
      go_frame
      refine' wpAnyH_take (i := 20) (oi := ⟨some 39, .pick (.tmp 31) (.tmp 38) (.const (.bool false)), _, _, _, none⟩) (v := _) rfl (by kernel_rfl) (by kernel_rfl) (by kernel_rfl) (fun _ _ _ h => h) (Or.inl ⟨by rfl, ?hy654⟩) (by assumption) ?rest654
      case hy654 => (intro w hSw; obtain ⟨s1, s2, s3, s4⟩ := hSw; go_simp <;> with_reducible rfl)
      case rest654 =>
      go_frame
      refine' wpAnyH_take (i := 21) (oi := ⟨some 40, .move (.tmp 39), _, _, _, none⟩) (v := _) rfl (by kernel_rfl) (by kernel_rfl) (by kernel_rfl) (fun _ _ _ h => h) (Or.inl ⟨by rfl, ?hy655⟩) (by assumption) ?rest655
      case hy655 => (intro w hSw; obtain ⟨s1, s2, s3, s4⟩ := hSw; go_simp <;> with_reducible rfl)
      case rest655 =>
      go_frame
      refine' wpAnyH_take (i := 22) (oi := ⟨some 41, .move (.tmp 0), _, _, _, some (21, true)⟩) (v := _) rfl (by kernel_rfl) (by kernel_rfl) (by kernel_rfl) (fun _ _ _ h => h) (Or.inl ⟨by rfl, ?hy656⟩) (by assumption) ?rest656
      case hy656 => (intro w hSw; obtain ⟨s1, s2, s3, s4⟩ := hSw; go_simp <;> with_reducible rfl)
      case rest656 =>
      go_frame
      refine' wpAnyH_take (i := 23) (oi := ⟨some 42, .move (.tmp 2), _, _, _, some (21, true)⟩) (v := _) rfl (by kernel_rfl) (by kernel_rfl) (by kernel_rfl) (fun _ _ _ h => h) (Or.inl ⟨by rfl, ?hy657⟩) (by assumption) ?rest657
      case hy657 => (intro w hSw; obtain ⟨s1, s2, s3, s4⟩ := hSw; go_simp <;> with_reducible rfl)
      case rest657 =>
      go_frame
      refine' wpAnyH_take (i := 25) (oi := ⟨some 44, .move (.tmp 7), _, _, _, some (21, true)⟩) (v := _) rfl (by kernel_rfl) (by kernel_rfl) (by kernel_rfl) (fun _ _ _ h => h) (Or.inl ⟨by rfl, ?hy658⟩) (by assumption) ?rest658
      case hy658 => (intro w hSw; obtain ⟨s1, s2, s3, s4⟩ := hSw; go_simp <;> with_reducible rfl)
      case rest658 =>
      go_frame
      refine wpAnyH_ready (rs := [24]) (by kernel_rfl) (by simp) (AllReadyH.cons (o := ⟨some 43, .call { callee := .value (.func 36), args := #[.tmp 41, .tmp 42], argTypes := #[23, 3] }, _, _, _, some (21, true)⟩) rfl (fun K hK => ?_) AllReadyH.nil)
      rw [if_pos (by rfl)]
      go_simp
      refine ((HT0.out w6 Hb6.out)).mono ?_
      rintro e w7 ⟨rfl, rfl⟩
      dsimp only
      refine hK.out _ _ (HS.out _ Hb6.out) (fun _ => ?_)
      clear hK K
      try go_frame
      refine' wpAnyH_take (i := 26) (oi := ⟨some 45, .move (.tmp 44), _, _, _, some (21, true)⟩) (v := _) rfl (by kernel_rfl) (by kernel_rfl) (by kernel_rfl) (fun _ _ _ h => h) (Or.inl ⟨by rfl, ?hy659⟩) (by assumption) ?rest659
      case hy659 => (intro w hSw; obtain ⟨s1, s2, s3, s4⟩ := hSw; go_simp <;> with_reducible rfl)
      case rest659 =>
      go_frame
      refine' wpAnyH_take (i := 27) (oi := ⟨some 46, .move (.tmp 1), _, _, _, some (26, true)⟩) (v := _) rfl (by kernel_rfl) (by kernel_rfl) (by kernel_rfl) (fun _ _ _ h => h) (Or.inl ⟨by rfl, ?hy660⟩) (by assumption) ?rest660
      case hy660 => (intro w hSw; obtain ⟨s1, s2, s3, s4⟩ := hSw; go_simp <;> with_reducible rfl)
      case rest660 =>
      go_frame
      refine' wpAnyH_take (i := 28) (oi := ⟨some 47, .nilCheck (.tmp 46), _, _, _, some (26, true)⟩) (v := _) rfl (by kernel_rfl) (by kernel_rfl) (by kernel_rfl) (fun _ _ _ h => h) (Or.inl ⟨by rfl, ?hy661⟩) (by assumption) ?rest661
      case hy661 => (intro w hSw; obtain ⟨s1, s2, s3, s4⟩ := hSw; go_simp <;> with_reducible rfl)
      case rest661 =>
      go_frame
      refine' wpAnyH_take (i := 29) (oi := ⟨some 48, .fieldAddr 55 (.tmp 47) 0, _, _, _, some (26, true)⟩) (v := _) rfl (by kernel_rfl) (by kernel_rfl) (by kernel_rfl) (fun _ _ _ h => h) (Or.inl ⟨by rfl, ?hy662⟩) (by assumption) ?rest662
      case hy662 => (intro w hSw; obtain ⟨s1, s2, s3, s4⟩ := hSw; go_simp <;> with_reducible rfl)
      case rest662 =>
      go_frame
      refine' wpAnyH_take (i := 30) (oi := ⟨some 49, .load 53 (.tmp 48), _, _, _, some (26, true)⟩) (v := _) rfl (by kernel_rfl) (by kernel_rfl) (by kernel_rfl) (fun _ _ _ h => h) (Or.inl ⟨by rfl, ?hy663⟩) (by assumption) ?rest663
      case hy663 => (intro w hSw; obtain ⟨s1, s2, s3, s4⟩ := hSw; go_simp <;> with_reducible rfl)
      case rest663 =>
      go_frame
      refine' wpAnyH_take (i := 31) (oi := ⟨some 50, .move (.tmp 2), _, _, _, some (26, true)⟩) (v := _) rfl (by kernel_rfl) (by kernel_rfl) (by kernel_rfl) (fun _ _ _ h => h) (Or.inl ⟨by rfl, ?hy664⟩) (by assumption) ?rest664
      case hy664 => (intro w hSw; obtain ⟨s1, s2, s3, s4⟩ := hSw; go_simp <;> with_reducible rfl)
      case rest664 =>
      go_frame
      refine' wpAnyH_take (i := 32) (oi := ⟨some 51, .indexAddr 53 (.tmp 49) (.tmp 50), _, _, _, some (26, true)⟩) (v := _) rfl (by kernel_rfl) (by kernel_rfl) (by kernel_rfl) (fun _ _ _ h => h) (Or.inl ⟨by rfl, ?hy665⟩) (by assumption) ?rest665
      case hy665 => (intro w hSw; obtain ⟨s1, s2, s3, s4⟩ := hSw; go_simp <;> with_reducible rfl)
      case rest665 =>
      go_frame
      refine' wpAnyH_take (i := 33) (oi := ⟨some 52, .load 4 (.tmp 51), _, _, _, some (26, true)⟩) (v := _) rfl (by kernel_rfl) (by kernel_rfl) (by kernel_rfl) (fun _ _ _ h => h) (Or.inl ⟨by rfl, ?hy666⟩) (by assumption) ?rest666
      case hy666 => (intro w hSw; obtain ⟨s1, s2, s3, s4⟩ := hSw; go_simp <;> with_reducible rfl)
      case rest666 =>
      go_frame
      refine' wpAnyH_take (i := 34) (oi := ⟨some 53, .pick (.tmp 45) (.tmp 52) (.const (.bool false)), _, _, _, some (21, true)⟩) (v := _) rfl (by kernel_rfl) (by kernel_rfl) (by kernel_rfl) (fun _ _ _ h => h) (Or.inl ⟨by rfl, ?hy667⟩) (by assumption) ?rest667
      case hy667 => (intro w hSw; obtain ⟨s1, s2, s3, s4⟩ := hSw; go_simp <;> with_reducible rfl)
      case rest667 =>
      go_frame
      refine' wpAnyH_take (i := 35) (oi := ⟨some 54, .binOp .eql 4 (.tmp 43) (.tmp 53) 4, _, _, _, some (21, true)⟩) (v := _) rfl (by kernel_rfl) (by kernel_rfl) (by kernel_rfl) (fun _ _ _ h => h) (Or.inl ⟨by rfl, ?hy668⟩) (by assumption) ?rest668
      case hy668 => (intro w hSw; obtain ⟨s1, s2, s3, s4⟩ := hSw; go_simp <;> with_reducible rfl)
      case rest668 =>
      go_frame
      refine' wpAnyH_take (i := 36) (oi := ⟨some 55, .pick (.tmp 40) (.tmp 54) (.const (.bool false)), _, _, _, none⟩) (v := _) rfl (by kernel_rfl) (by kernel_rfl) (by kernel_rfl) (fun _ _ _ h => h) (Or.inl ⟨by rfl, ?hy669⟩) (by assumption) ?rest669
      case hy669 => (intro w hSw; obtain ⟨s1, s2, s3, s4⟩ := hSw; go_simp <;> with_reducible rfl)
      case rest669 =>
      go_frame
      refine' wpAnyH_take (i := 37) (oi := ⟨some 56, .move (.tmp 55), _, _, _, none⟩) (v := _) rfl (by kernel_rfl) (by kernel_rfl) (by kernel_rfl) (fun _ _ _ h => h) (Or.inl ⟨by rfl, ?hy670⟩) (by assumption) ?rest670
      case hy670 => (intro w hSw; obtain ⟨s1, s2, s3, s4⟩ := hSw; go_simp <;> with_reducible rfl)
      case rest670 =>
      go_frame
      refine' wpAnyH_take (i := 38) (oi := ⟨some 57, .move (.tmp 0), _, _, _, some (37, true)⟩) (v := _) rfl (by kernel_rfl) (by kernel_rfl) (by kernel_rfl) (fun _ _ _ h => h) (Or.inl ⟨by rfl, ?hy671⟩) (by assumption) ?rest671
      case hy671 => (intro w hSw; obtain ⟨s1, s2, s3, s4⟩ := hSw; go_simp <;> with_reducible rfl)
      case rest671 =>
      go_frame
      refine' wpAnyH_take (i := 39) (oi := ⟨some 58, .move (.tmp 2), _, _, _, some (37, true)⟩) (v := _) rfl (by kernel_rfl) (by kernel_rfl) (by kernel_rfl) (fun _ _ _ h => h) (Or.inl ⟨by rfl, ?hy672⟩) (by assumption) ?rest672
      case hy672 => (intro w hSw; obtain ⟨s1, s2, s3, s4⟩ := hSw; go_simp <;> with_reducible rfl)
      case rest672 =>
      go_frame
      refine' wpAnyH_take (i := 41) (oi := ⟨some 60, .move (.tmp 7), _, _, _, some (37, true)⟩) (v := _) rfl (by kernel_rfl) (by kernel_rfl) (by kernel_rfl) (fun _ _ _ h => h) (Or.inl ⟨by rfl, ?hy673⟩) (by assumption) ?rest673
      case hy673 => (intro w hSw; obtain ⟨s1, s2, s3, s4⟩ := hSw; go_simp <;> with_reducible rfl)
      case rest673 =>
      go_frame
      refine wpAnyH_ready (rs := [40]) (by kernel_rfl) (by simp) (AllReadyH.cons (o := ⟨some 59, .call { callee := .value (.func 37), args := #[.tmp 57, .tmp 58], argTypes := #[23, 3] }, _, _, _, some (37, true)⟩) rfl (fun K hK => ?_) AllReadyH.nil)
      rw [if_pos (by rfl)]
      go_simp
      refine ((HF0.out w6 Hb6.out)).mono ?_
      rintro e w7 ⟨rfl, rfl⟩
      dsimp only
      refine hK.out _ _ (HS.out _ Hb6.out) (fun _ => ?_)
      clear hK K
      try go_frame
      refine' wpAnyH_take (i := 42) (oi := ⟨some 61, .move (.tmp 60), _, _, _, some (37, true)⟩) (v := _) rfl (by kernel_rfl) (by kernel_rfl) (by kernel_rfl) (fun _ _ _ h => h) (Or.inl ⟨by rfl, ?hy674⟩) (by assumption) ?rest674
      case hy674 => (intro w hSw; obtain ⟨s1, s2, s3, s4⟩ := hSw; go_simp <;> with_reducible rfl)
      case rest674 =>
      go_frame
      refine' wpAnyH_take (i := 43) (oi := ⟨some 62, .move (.tmp 1), _, _, _, some (42, true)⟩) (v := _) rfl (by kernel_rfl) (by kernel_rfl) (by kernel_rfl) (fun _ _ _ h => h) (Or.inl ⟨by rfl, ?hy675⟩) (by assumption) ?rest675
      case hy675 => (intro w hSw; obtain ⟨s1, s2, s3, s4⟩ := hSw; go_simp <;> with_reducible rfl)
      case rest675 =>
      go_frame
      refine' wpAnyH_take (i := 44) (oi := ⟨some 63, .nilCheck (.tmp 62), _, _, _, some (42, true)⟩) (v := _) rfl (by kernel_rfl) (by kernel_rfl) (by kernel_rfl) (fun _ _ _ h => h) (Or.inl ⟨by rfl, ?hy676⟩) (by assumption) ?rest676
      case hy676 => (intro w hSw; obtain ⟨s1, s2, s3, s4⟩ := hSw; go_simp <;> with_reducible rfl)
      case rest676 =>
      go_frame
      refine' wpAnyH_take (i := 45) (oi := ⟨some 64, .fieldAddr 55 (.tmp 63) 0, _, _, _, some (42, true)⟩) (v := _) rfl (by kernel_rfl) (by kernel_rfl) (by kernel_rfl) (fun _ _ _ h => h) (Or.inl ⟨by rfl, ?hy677⟩) (by assumption) ?rest677
      case hy677 => (intro w hSw; obtain ⟨s1, s2, s3, s4⟩ := hSw; go_simp <;> with_reducible rfl)
      case rest677 =>
      go_frame
      refine' wpAnyH_take (i := 46) (oi := ⟨some 65, .load 53 (.tmp 64), _, _, _, some (42, true)⟩) (v := _) rfl (by kernel_rfl) (by kernel_rfl) (by kernel_rfl) (fun _ _ _ h => h) (Or.inl ⟨by rfl, ?hy678⟩) (by assumption) ?rest678
      case hy678 => (intro w hSw; obtain ⟨s1, s2, s3, s4⟩ := hSw; go_simp <;> with_reducible rfl)
      case rest678 =>
      go_frame
      refine' wpAnyH_take (i := 47) (oi := ⟨some 66, .move (.tmp 2), _, _, _, some (42, true)⟩) (v := _) rfl (by kernel_rfl) (by kernel_rfl) (by kernel_rfl) (fun _ _ _ h => h) (Or.inl ⟨by rfl, ?hy679⟩) (by assumption) ?rest679
      case hy679 => (intro w hSw; obtain ⟨s1, s2, s3, s4⟩ := hSw; go_simp <;> with_reducible rfl)
      case rest679 =>
      go_frame
      refine' wpAnyH_take (i := 48) (oi := ⟨some 67, .indexAddr 53 (.tmp 65) (.tmp 66), _, _, _, some (42, true)⟩) (v := _) rfl (by kernel_rfl) (by kernel_rfl) (by kernel_rfl) (fun _ _ _ h => h) (Or.inl ⟨by rfl, ?hy680⟩) (by assumption) ?rest680
      case hy680 => (intro w hSw; obtain ⟨s1, s2, s3, s4⟩ := hSw; go_simp <;> with_reducible rfl)
      case rest680 =>
      go_frame
      refine' wpAnyH_take (i := 49) (oi := ⟨some 68, .load 4 (.tmp 67), _, _, _, some (42, true)⟩) (v := _) rfl (by kernel_rfl) (by kernel_rfl) (by kernel_rfl) (fun _ _ _ h => h) (Or.inl ⟨by rfl, ?hy681⟩) (by assumption) ?rest681
      case hy681 => (intro w hSw; obtain ⟨s1, s2, s3, s4⟩ := hSw; go_simp <;> with_reducible rfl)
      case rest681 =>
      go_frame
      refine' wpAnyH_take (i := 50) (oi := ⟨some 69, .pick (.tmp 61) (.tmp 68) (.const (.bool false)), _, _, _, some (37, true)⟩) (v := _) rfl (by kernel_rfl) (by kernel_rfl) (by kernel_rfl) (fun _ _ _ h => h) (Or.inl ⟨by rfl, ?hy682⟩) (by assumption) ?rest682
      case hy682 => (intro w hSw; obtain ⟨s1, s2, s3, s4⟩ := hSw; go_simp <;> with_reducible rfl)
      case rest682 =>
      go_frame
      refine' wpAnyH_take (i := 51) (oi := ⟨some 70, .move (.tmp 69), _, _, _, some (37, true)⟩) (v := _) rfl (by kernel_rfl) (by kernel_rfl) (by kernel_rfl) (fun _ _ _ h => h) (Or.inl ⟨by rfl, ?hy683⟩) (by assumption) ?rest683
      case hy683 => (intro w hSw; obtain ⟨s1, s2, s3, s4⟩ := hSw; go_simp <;> with_reducible rfl)
      case rest683 =>
      go_frame
      refine' wpAnyH_take (i := 52) (oi := ⟨some 71, .move (.tmp 1), _, _, _, some (51, true)⟩) (v := _) rfl (by kernel_rfl) (by kernel_rfl) (by kernel_rfl) (fun _ _ _ h => h) (Or.inl ⟨by rfl, ?hy684⟩) (by assumption) ?rest684
      case hy684 => (intro w hSw; obtain ⟨s1, s2, s3, s4⟩ := hSw; go_simp <;> with_reducible rfl)
      case rest684 =>
      go_frame
      refine' wpAnyH_take (i := 53) (oi := ⟨some 72, .nilCheck (.tmp 71), _, _, _, some (51, true)⟩) (v := _) rfl (by kernel_rfl) (by kernel_rfl) (by kernel_rfl) (fun _ _ _ h => h) (Or.inl ⟨by rfl, ?hy685⟩) (by assumption) ?rest685
      case hy685 => (intro w hSw; obtain ⟨s1, s2, s3, s4⟩ := hSw; go_simp <;> with_reducible rfl)
      case rest685 =>
      go_frame
      refine' wpAnyH_take (i := 54) (oi := ⟨some 73, .fieldAddr 55 (.tmp 72) 1, _, _, _, some (51, true)⟩) (v := _) rfl (by kernel_rfl) (by kernel_rfl) (by kernel_rfl) (fun _ _ _ h => h) (Or.inl ⟨by rfl, ?hy686⟩) (by assumption) ?rest686
      case hy686 => (intro w hSw; obtain ⟨s1, s2, s3, s4⟩ := hSw; go_simp <;> with_reducible rfl)
      case rest686 =>
      go_frame
      refine' wpAnyH_take (i := 55) (oi := ⟨some 74, .load 53 (.tmp 73), _, _, _, some (51, true)⟩) (v := _) rfl (by kernel_rfl) (by kernel_rfl) (by kernel_rfl) (fun _ _ _ h => h) (Or.inl ⟨by rfl, ?hy687⟩) (by assumption) ?rest687
      case hy687 => (intro w hSw; obtain ⟨s1, s2, s3, s4⟩ := hSw; go_simp <;> with_reducible rfl)
      case rest687 =>
      go_frame
      refine' wpAnyH_take (i := 56) (oi := ⟨some 75, .move (.tmp 2), _, _, _, some (51, true)⟩) (v := _) rfl (by kernel_rfl) (by kernel_rfl) (by kernel_rfl) (fun _ _ _ h => h) (Or.inl ⟨by rfl, ?hy688⟩) (by assumption) ?rest688
      case hy688 => (intro w hSw; obtain ⟨s1, s2, s3, s4⟩ := hSw; go_simp <;> with_reducible rfl)
      case rest688 =>
      go_frame
      refine' wpAnyH_take (i := 57) (oi := ⟨some 76, .indexAddr 53 (.tmp 74) (.tmp 75), _, _, _, some (51, true)⟩) (v := _) rfl (by kernel_rfl) (by kernel_rfl) (by kernel_rfl) (fun _ _ _ h => h) (Or.inl ⟨by rfl, ?hy689⟩) (by assumption) ?rest689
      case hy689 => (intro w hSw; obtain ⟨s1, s2, s3, s4⟩ := hSw; go_simp <;> with_reducible rfl)
      case rest689 =>
      go_frame
      refine' wpAnyH_take (i := 58) (oi := ⟨some 77, .load 4 (.tmp 76), _, _, _, some (51, true)⟩) (v := _) rfl (by kernel_rfl) (by kernel_rfl) (by kernel_rfl) (fun _ _ _ h => h) (Or.inl ⟨by rfl, ?hy690⟩) (by assumption) ?rest690
      case hy690 => (intro w hSw; obtain ⟨s1, s2, s3, s4⟩ := hSw; go_simp <;> with_reducible rfl)
      case rest690 =>
      go_frame
      refine' wpAnyH_take (i := 59) (oi := ⟨some 78, .unOp .not 4 (.tmp 77), _, _, _, some (51, true)⟩) (v := _) rfl (by kernel_rfl) (by kernel_rfl) (by kernel_rfl) (fun _ _ _ h => h) (Or.inl ⟨by rfl, ?hy691⟩) (by assumption) ?rest691
      case hy691 => (intro w hSw; obtain ⟨s1, s2, s3, s4⟩ := hSw; go_simp <;> with_reducible rfl)
      case rest691 =>
      go_frame
      refine' wpAnyH_take (i := 60) (oi := ⟨some 79, .pick (.tmp 70) (.tmp 78) (.const (.bool false)), _, _, _, some (37, true)⟩) (v := _) rfl (by kernel_rfl) (by kernel_rfl) (by kernel_rfl) (fun _ _ _ h => h) (Or.inl ⟨by rfl, ?hy692⟩) (by assumption) ?rest692
      case hy692 => (intro w hSw; obtain ⟨s1, s2, s3, s4⟩ := hSw; go_simp <;> with_reducible rfl)
      case rest692 =>
      go_frame
      refine' wpAnyH_take (i := 61) (oi := ⟨some 80, .binOp .eql 4 (.tmp 59) (.tmp 79) 4, _, _, _, some (37, true)⟩) (v := _) rfl (by kernel_rfl) (by kernel_rfl) (by kernel_rfl) (fun _ _ _ h => h) (Or.inl ⟨by rfl, ?hy693⟩) (by assumption) ?rest693
      case hy693 => (intro w hSw; obtain ⟨s1, s2, s3, s4⟩ := hSw; go_simp <;> with_reducible rfl)
      case rest693 =>
      go_frame
      refine' wpAnyH_take (i := 62) (oi := ⟨some 81, .pick (.tmp 56) (.tmp 80) (.const (.bool false)), _, _, _, none⟩) (v := _) rfl (by kernel_rfl) (by kernel_rfl) (by kernel_rfl) (fun _ _ _ h => h) (Or.inl ⟨by rfl, ?hy694⟩) (by assumption) ?rest694
      case hy694 => (intro w hSw; obtain ⟨s1, s2, s3, s4⟩ := hSw; go_simp <;> with_reducible rfl)
      case rest694 =>
      go_frame
      refine' wpAnyH_take (i := 63) (oi := ⟨some 6, .assign (.tmp 81), _, _, _, none⟩) (v := _) rfl (by kernel_rfl) (by kernel_rfl) (by kernel_rfl) (fun _ _ _ h => h) (Or.inl ⟨by rfl, ?hy695⟩) (by assumption) ?rest695
      case hy695 => (intro w hSw; obtain ⟨s1, s2, s3, s4⟩ := hSw; go_simp <;> with_reducible rfl)
      case rest695 =>
      go_frame
      refine wpAnyH_done (by kernel_rfl) ?_ _
      go_wp2_with fail
      go_ret
      exact ⟨by simp, Hb6.out⟩
set_option maxRecDepth 100000 in
set_option maxHeartbeats 4000000 in
theorem alike_tt (h : SpTwo w a p gn cn gs cs x) {k : Nat} (hk : k < x.n) (ht : x.now k = true) (hs : x.sure k = true) :
    Calls Try.prog 18 #[spAt a, spAt p, .int .i64 (k : Int)] w fun e w' => e = .returned (.bool true) ∧ Below w.heap.size w w' := by
  have HT : Hid (∀ w', Below w.heap.size w w' → SpTwo w' a p gn cn gs cs x) := Lib.hid fun w' hb => h.below hb
  have Hb0 : Hid (Below w.heap.size w w.drew) := Lib.hid (Below.refl _ _).drew
  obtain ⟨r, hr⟩ : ∃ r, r = _root_.Go.Proofs.Ytllhilnajjohiaa.free x.held x.n := ⟨_, rfl⟩
  obtain ⟨m, hm⟩ : ∃ m, m = (used x.now x.n).length := ⟨_, rfl⟩
  obtain ⟨L, hL⟩ : ∃ L, L = x.bytes := ⟨_, rfl⟩
  have Hm : Hid (m < 1000000) := Lib.hid (by have := used_le x.now x.n; have := h.sp.ok.size; omega)
  have HR0 : Hid (Calls Try.prog 23 #[spAt a] w.drew fun e w' => e = .returned (.int .i64 (r : Int)) ∧ Below w.heap.size w.drew w') := Lib.hid (by rw [hr]; exact room_any (HT.out _ Hb0.out).sp)
  have HR1 : Hid (∀ w1, Below w.heap.size w w1 → Calls Try.prog 31 #[spAt p] w1 fun e w' => e = .returned (.int .i64 (r : Int)) ∧ w1 = w') := Lib.hid fun w1 hb => by rw [hr]; exact rroom_any (HT.out _ hb).rf
  have HU0 := Lib.hid fun w1 hb => usedS_any (HT.out w1 hb).sp hm
  have HU1 := Lib.hid fun w1 hb => rusedS_any (HT.out w1 hb).rf hm
  have HB0 := Lib.hid fun w1 hb => bytesS_any (HT.out w1 hb).sp hL
  have HB1 := Lib.hid fun w1 hb => rbytesS_any (HT.out w1 hb).rf hL
  have HS : Hid (∀ w', Below w.heap.size w w' → w'.cell? ⟨p, 0, none⟩ = some (.slice (some ⟨gn, 0, none⟩) x.n cn) ∧ w'.cell? ⟨p, 1, none⟩ = some (.slice (some ⟨gs, 0, none⟩) x.n cs) ∧ w'.cell? ⟨gn, k, none⟩ = some (.bool true) ∧ w'.cell? ⟨gs, k, none⟩ = some (.bool true)) := Lib.hid fun w' hb => by
    have h' := (HT.out w' hb).rf
    refine ⟨h'.c0, h'.c1, ?_, ?_⟩
    · rw [← ht]; exact h'.cN hk
    · rw [← hs]; exact h'.cS hk
  have HT0 : Hid (∀ w1, Below w.heap.size w w1 → Calls Try.prog 36 #[spAt a, .int .i64 (k : Int)] w1 fun e w' => e = .returned (.bool true) ∧ w1 = w') := Lib.hid fun w1 hb => by
    have := taken_any (HT.out w1 hb).sp (k : Int)
    rwa [Spc.taken_page, ht] at this
  have HF0 : Hid (∀ w1, Below w.heap.size w w1 → Calls Try.prog 37 #[spAt a, .int .i64 (k : Int)] w1 fun e w' => e = .returned (.bool false) ∧ w1 = w') := Lib.hid fun w1 hb => by
    have := fresh_any (HT.out w1 hb).sp (k : Int)
    rwa [Spc.fresh_page, ht, hs] at this
  have k0 : (0 : Int) ≤ (k : Int) := by omega
  have k1 : (k : Int) < (x.n : Int) := by omega
  have k2 : (k : Int).toNat = k := by simp
  clear ht hs
  have h0 := h.rf.c0
  have h1 := h.rf.c1
  have hcn := h.rf.rN.caps.1
  have hcs := h.rf.rS.caps.1
  have hn2 := h.sp.ok.size
  clear HT h hr hm hL
  go_enter Try.func18, Try.ntmps18
  go_wp2_with fail
  refine wp_region_held_drew (S := fun w' => w'.cell? ⟨p, 0, none⟩ = some (.slice (some ⟨gn, 0, none⟩) x.n cn) ∧ w'.cell? ⟨p, 1, none⟩ = some (.slice (some ⟨gs, 0, none⟩) x.n cs) ∧ w'.cell? ⟨gn, k, none⟩ = some (.bool true) ∧ w'.cell? ⟨gs, k, none⟩ = some (.bool true)) (by kernel_rfl) (HS.out _ Hb0.out) (fun hHeld => ?_)
  refine' wpAnyH_take (i := 0) (oi := ⟨some 19, .move (.tmp 0), _, _, _, none⟩) (v := _) rfl (by kernel_rfl) (by kernel_rfl) (by kernel_rfl) (fun _ _ _ h => h) (Or.inl ⟨by rfl, ?hy696⟩) (by assumption) ?rest696
  case hy696 => (intro w hSw; obtain ⟨s1, s2, s3, s4⟩ := hSw; go_simp <;> with_reducible rfl)
  case rest696 =>
  go_frame
  refine' wpAnyH_take (i := 2) (oi := ⟨some 21, .move (.tmp 1), _, _, _, none⟩) (v := _) rfl (by kernel_rfl) (by kernel_rfl) (by kernel_rfl) (fun _ _ _ h => h) (Or.inl ⟨by rfl, ?hy697⟩) (by assumption) ?rest697
  case hy697 => (intro w hSw; obtain ⟨s1, s2, s3, s4⟩ := hSw; go_simp <;> with_reducible rfl)
  case rest697 =>
  go_frame
  refine wpAnyH_ready (rs := [1]) (by kernel_rfl) (by simp) (AllReadyH.cons (o := ⟨some 20, .call { callee := .value (.func 23), args := #[.tmp 19], argTypes := #[23] }, _, _, _, none⟩) rfl (fun K hK => ?_) AllReadyH.nil)
  rw [if_pos (by rfl)]
  go_simp
  refine (HR0.out).mono ?_
  rintro e w1 ⟨rfl, hb1⟩
  have Hb1 := Lib.hid (up Hb0.out hb1)
  clear hb1
  dsimp only
  refine hK.out _ _ (HS.out _ Hb1.out) (fun _ => ?_)
  clear hK K
  try go_frame
  refine wpAnyH_ready (rs := [3]) (by kernel_rfl) (by simp) (AllReadyH.cons (o := ⟨some 22, .call { callee := .value (.func 31), args := #[.tmp 21], argTypes := #[28] }, _, _, _, none⟩) rfl (fun K hK => ?_) AllReadyH.nil)
  rw [if_pos (by rfl)]
  go_simp
  refine ((HR1.out w1 Hb1.out)).mono ?_
  rintro e w2 ⟨rfl, rfl⟩
  dsimp only
  refine hK.out _ _ (HS.out _ Hb1.out) (fun _ => ?_)
  clear hK K
  try go_frame
  refine' wpAnyH_take (i := 4) (oi := ⟨some 23, .binOp .eql 3 (.tmp 20) (.tmp 22) 3, _, _, _, none⟩) (v := _) rfl (by kernel_rfl) (by kernel_rfl) (by kernel_rfl) (fun _ _ _ h => h) (Or.inl ⟨by rfl, ?hy698⟩) (by assumption) ?rest698
  case hy698 => (intro w hSw; obtain ⟨s1, s2, s3, s4⟩ := hSw; go_simp <;> with_reducible rfl)
  case rest698 =>
  go_frame
  refine' wpAnyH_take (i := 5) (oi := ⟨some 24, .move (.tmp 23), _, _, _, none⟩) (v := _) rfl (by kernel_rfl) (by kernel_rfl) (by kernel_rfl) (fun _ _ _ h => h) (Or.inl ⟨by rfl, ?hy699⟩) (by assumption) ?rest699
  case hy699 => (intro w hSw; obtain ⟨s1, s2, s3, s4⟩ := hSw; go_simp <;> with_reducible rfl)
  case rest699 =>
  go_frame
  refine' wpAnyH_take (i := 6) (oi := ⟨some 25, .move (.tmp 0), _, _, _, some (5, true)⟩) (v := _) rfl (by kernel_rfl) (by kernel_rfl) (by kernel_rfl) (fun _ _ _ h => h) (Or.inl ⟨by rfl, ?hy700⟩) (by assumption) ?rest700
  case hy700 => (intro w hSw; obtain ⟨s1, s2, s3, s4⟩ := hSw; go_simp <;> with_reducible rfl)
  case rest700 =>
  go_frame
  refine' wpAnyH_take (i := 8) (oi := ⟨some 27, .move (.tmp 1), _, _, _, some (5, true)⟩) (v := _) rfl (by kernel_rfl) (by kernel_rfl) (by kernel_rfl) (fun _ _ _ h => h) (Or.inl ⟨by rfl, ?hy701⟩) (by assumption) ?rest701
  case hy701 => (intro w hSw; obtain ⟨s1, s2, s3, s4⟩ := hSw; go_simp <;> with_reducible rfl)
  case rest701 =>
  go_frame
  refine wpAnyH_ready (rs := [7]) (by kernel_rfl) (by simp) (AllReadyH.cons (o := ⟨some 26, .call { callee := .value (.func 33), args := #[.tmp 25], argTypes := #[23] }, _, _, _, some (5, true)⟩) rfl (fun K hK => ?_) AllReadyH.nil)
  rw [if_pos (by rfl)]
  go_simp
  refine ((HU0.out w1 Hb1.out)).mono ?_
  rintro e w2 ⟨A2, c2, rfl, hr2, hb2⟩
  have Hb2 := Lib.hid (up Hb1.out hb2)
  have Hr2 := Lib.hid hr2
  clear hr2 hb2
  dsimp only
  refine hK.out _ _ (HS.out _ Hb2.out) (fun _ => ?_)
  clear hK K
  try go_frame
  refine wpAnyH_ready (rs := [9]) (by kernel_rfl) (by simp) (AllReadyH.cons (o := ⟨some 28, .call { callee := .value (.func 34), args := #[.tmp 27], argTypes := #[28] }, _, _, _, some (5, true)⟩) rfl (fun K hK => ?_) AllReadyH.nil)
  rw [if_pos (by rfl)]
  go_simp
  refine ((HU1.out w2 Hb2.out)).mono ?_
  rintro e w3 ⟨A3, c3, rfl, hr3, hb3⟩
  have Hb3 := Lib.hid (up Hb2.out hb3)
  have Hi3 := Lib.hid (ints_same (w := w3) (c := c2) (c2 := c3) (rd_ints (Hr2.out.below hb3)) (rd_ints hr3) Hm.out)
  clear hr3 hb3 Hr2
  dsimp only
  refine hK.out _ _ (HS.out _ Hb3.out) (fun _ => ?_)
  clear hK K
  try go_frame
  refine wpAnyH_ready (rs := [10]) (by kernel_rfl) (by simp) (AllReadyH.cons (o := ⟨some 29, .call { callee := .value (.func 32), args := #[.tmp 26, .tmp 28], argTypes := #[58, 58] }, _, _, _, some (5, true)⟩) rfl (fun K hK => ?_) AllReadyH.nil)
  rw [if_pos (by rfl)]
  go_simp
  refine (Hi3.out).mono ?_
  rintro e w4 ⟨rfl, hb4⟩
  have Hb4 := Lib.hid (up Hb3.out hb4)
  clear hb4 Hi3
  dsimp only
  refine hK.out _ _ (HS.out _ Hb4.out) (fun _ => ?_)
  clear hK K
  try go_frame
  refine' wpAnyH_take (i := 11) (oi := ⟨some 30, .pick (.tmp 24) (.tmp 29) (.const (.bool false)), _, _, _, none⟩) (v := _) rfl (by kernel_rfl) (by kernel_rfl) (by kernel_rfl) (fun _ _ _ h => h) (Or.inl ⟨by rfl, ?hy702⟩) (by assumption) ?rest702
  case hy702 => (intro w hSw; obtain ⟨s1, s2, s3, s4⟩ := hSw; go_simp <;> with_reducible rfl)
  case rest702 =>
  go_frame
  refine' wpAnyH_take (i := 12) (oi := ⟨some 31, .move (.tmp 30), _, _, _, none⟩) (v := _) rfl (by kernel_rfl) (by kernel_rfl) (by kernel_rfl) (fun _ _ _ h => h) (Or.inl ⟨by rfl, ?hy703⟩) (by assumption) ?rest703
  case hy703 => (intro w hSw; obtain ⟨s1, s2, s3, s4⟩ := hSw; go_simp <;> with_reducible rfl)
  case rest703 =>
  go_frame
  refine' wpAnyH_take (i := 13) (oi := ⟨some 32, .move (.tmp 0), _, _, _, some (12, true)⟩) (v := _) rfl (by kernel_rfl) (by kernel_rfl) (by kernel_rfl) (fun _ _ _ h => h) (Or.inl ⟨by rfl, ?hy704⟩) (by assumption) ?rest704
  case hy704 => (intro w hSw; obtain ⟨s1, s2, s3, s4⟩ := hSw; go_simp <;> with_reducible rfl)
  case rest704 =>
  go_frame
  refine' wpAnyH_take (i := 16) (oi := ⟨some 35, .move (.tmp 1), _, _, _, some (12, true)⟩) (v := _) rfl (by kernel_rfl) (by kernel_rfl) (by kernel_rfl) (fun _ _ _ h => h) (Or.inl ⟨by rfl, ?hy705⟩) (by assumption) ?rest705
  case hy705 => (intro w hSw; obtain ⟨s1, s2, s3, s4⟩ := hSw; go_simp <;> with_reducible rfl)
  case rest705 =>
  go_frame
  refine wpAnyH_ready (rs := [14]) (by kernel_rfl) (by simp) (AllReadyH.cons (o := ⟨some 33, .call { callee := .value (.func 22), args := #[.tmp 32], argTypes := #[23] }, _, _, _, some (12, true)⟩) rfl (fun K hK => ?_) AllReadyH.nil)
  rw [if_pos (by rfl)]
  go_simp
  refine ((HB0.out w4 Hb4.out)).mono ?_
  rintro e w5 ⟨A5, n5, c5, rfl, hr5, hb5⟩
  have Hb5 := Lib.hid (up Hb4.out hb5)
  have Hr5 := Lib.hid hr5
  clear hr5 hb5
  dsimp only
  refine hK.out _ _ (HS.out _ Hb5.out) (fun _ => ?_)
  clear hK K
  try go_frame
  refine wpAnyH_ready (rs := [15, 17]) (by kernel_rfl) (by simp) (AllReadyH.cons (o := ⟨some 34, .convert 39 9 (.tmp 33), _, _, _, some (12, true)⟩) rfl (fun K hK => ?_) (AllReadyH.cons (o := ⟨some 36, .call { callee := .value (.func 35), args := #[.tmp 35], argTypes := #[28] }, _, _, _, some (12, true)⟩) rfl (fun K hK => ?_) AllReadyH.nil))
  · rw [if_pos (by rfl)]
    refine wp_run (.string ⟨L.toArray⟩) w5 (exec_conv (s := 39) (t := 9) (x := .tmp 33) rfl (v := .slice A5 n5 c5) rfl (run_string_rd (P := Try.prog) 39 9 5 Try.underlying39 Try.underlying5 Try.underlying9 Hr5.out)) ?_
    refine hK.out _ _ (HS.out _ Hb5.out) (fun _ => ?_)
    clear hK K
    try go_frame
    refine wpAnyH_ready (rs := [17]) (by kernel_rfl) (by simp) (AllReadyH.cons (o := ⟨some 36, .call { callee := .value (.func 35), args := #[.tmp 35], argTypes := #[28] }, _, _, _, some (12, true)⟩) rfl (fun K hK => ?_) AllReadyH.nil)
    rw [if_pos (by rfl)]
    go_simp
    refine ((HB1.out w5 Hb5.out)).mono ?_
    rintro e w6 ⟨A6, n6, c6, rfl, hr6, hb6⟩
    have Hb6 := Lib.hid (up Hb5.out hb6)
    have Hr6 := Lib.hid hr6
    have Hr56 := Lib.hid (Hr5.out.below hb6)
    clear hr6 hb6
    dsimp only
    refine hK.out _ _ (HS.out _ Hb6.out) (fun _ => ?_)
    clear hK K
    try go_frame
    refine wpAnyH_ready (rs := [18]) (by kernel_rfl) (by simp) (AllReadyH.cons (o := ⟨some 37, .convert 39 9 (.tmp 36), _, _, _, some (12, true)⟩) rfl (fun K hK => ?_) AllReadyH.nil)
    rw [if_pos (by rfl)]
    refine wp_run (.string ⟨L.toArray⟩) w6 (exec_conv (s := 39) (t := 9) (x := .tmp 36) rfl (v := .slice A6 n6 c6) rfl (run_string_rd (P := Try.prog) 39 9 5 Try.underlying39 Try.underlying5 Try.underlying9 Hr6.out)) ?_
    refine hK.out _ _ (HS.out _ Hb6.out) (fun _ => ?_)
    clear hK K
    try go_frame
    refine' wpAnyH_take (i := 19) (oi := ⟨some 38, .binOp .eql 9 (.tmp 34) (.tmp 37) 9, _, _, _, some (12, true)⟩) (v := _) rfl (by kernel_rfl) (by kernel_rfl) (by kernel_rfl) (fun _ _ _ h => h) (Or.inl ⟨by rfl, ?hy706⟩) (by assumption) ?rest706
    case hy706 => (intro w hSw; obtain ⟨s1, s2, s3, s4⟩ := hSw; go_simp <;> with_reducible rfl)
    case rest706 =>
    go_frame
    refine' wpAnyH_take (i := 20) (oi := ⟨some 39, .pick (.tmp 31) (.tmp 38) (.const (.bool false)), _, _, _, none⟩) (v := _) rfl (by kernel_rfl) (by kernel_rfl) (by kernel_rfl) (fun _ _ _ h => h) (Or.inl ⟨by rfl, ?hy707⟩) (by assumption) ?rest707
    case hy707 => (intro w hSw; obtain ⟨s1, s2, s3, s4⟩ := hSw; go_simp <;> with_reducible rfl)
    case rest707 =>
    go_frame
    refine' wpAnyH_take (i := 21) (oi := ⟨some 40, .move (.tmp 39), _, _, _, none⟩) (v := _) rfl (by kernel_rfl) (by kernel_rfl) (by kernel_rfl) (fun _ _ _ h => h) (Or.inl ⟨by rfl, ?hy708⟩) (by assumption) ?rest708
    case hy708 => (intro w hSw; obtain ⟨s1, s2, s3, s4⟩ := hSw; go_simp <;> with_reducible rfl)
    case rest708 =>
    go_frame
    refine' wpAnyH_take (i := 22) (oi := ⟨some 41, .move (.tmp 0), _, _, _, some (21, true)⟩) (v := _) rfl (by kernel_rfl) (by kernel_rfl) (by kernel_rfl) (fun _ _ _ h => h) (Or.inl ⟨by rfl, ?hy709⟩) (by assumption) ?rest709
    case hy709 => (intro w hSw; obtain ⟨s1, s2, s3, s4⟩ := hSw; go_simp <;> with_reducible rfl)
    case rest709 =>
    go_frame
    refine' wpAnyH_take (i := 23) (oi := ⟨some 42, .move (.tmp 2), _, _, _, some (21, true)⟩) (v := _) rfl (by kernel_rfl) (by kernel_rfl) (by kernel_rfl) (fun _ _ _ h => h) (Or.inl ⟨by rfl, ?hy710⟩) (by assumption) ?rest710
    case hy710 => (intro w hSw; obtain ⟨s1, s2, s3, s4⟩ := hSw; go_simp <;> with_reducible rfl)
    case rest710 =>
    go_frame
    refine' wpAnyH_take (i := 25) (oi := ⟨some 44, .move (.tmp 7), _, _, _, some (21, true)⟩) (v := _) rfl (by kernel_rfl) (by kernel_rfl) (by kernel_rfl) (fun _ _ _ h => h) (Or.inl ⟨by rfl, ?hy711⟩) (by assumption) ?rest711
    case hy711 => (intro w hSw; obtain ⟨s1, s2, s3, s4⟩ := hSw; go_simp <;> with_reducible rfl)
    case rest711 =>
    go_frame
    refine wpAnyH_ready (rs := [24]) (by kernel_rfl) (by simp) (AllReadyH.cons (o := ⟨some 43, .call { callee := .value (.func 36), args := #[.tmp 41, .tmp 42], argTypes := #[23, 3] }, _, _, _, some (21, true)⟩) rfl (fun K hK => ?_) AllReadyH.nil)
    rw [if_pos (by rfl)]
    go_simp
    refine ((HT0.out w6 Hb6.out)).mono ?_
    rintro e w7 ⟨rfl, rfl⟩
    dsimp only
    refine hK.out _ _ (HS.out _ Hb6.out) (fun _ => ?_)
    clear hK K
    try go_frame
    refine' wpAnyH_take (i := 26) (oi := ⟨some 45, .move (.tmp 44), _, _, _, some (21, true)⟩) (v := _) rfl (by kernel_rfl) (by kernel_rfl) (by kernel_rfl) (fun _ _ _ h => h) (Or.inl ⟨by rfl, ?hy712⟩) (by assumption) ?rest712
    case hy712 => (intro w hSw; obtain ⟨s1, s2, s3, s4⟩ := hSw; go_simp <;> with_reducible rfl)
    case rest712 =>
    go_frame
    refine' wpAnyH_take (i := 27) (oi := ⟨some 46, .move (.tmp 1), _, _, _, some (26, true)⟩) (v := _) rfl (by kernel_rfl) (by kernel_rfl) (by kernel_rfl) (fun _ _ _ h => h) (Or.inl ⟨by rfl, ?hy713⟩) (by assumption) ?rest713
    case hy713 => (intro w hSw; obtain ⟨s1, s2, s3, s4⟩ := hSw; go_simp <;> with_reducible rfl)
    case rest713 =>
    go_frame
    refine' wpAnyH_take (i := 28) (oi := ⟨some 47, .nilCheck (.tmp 46), _, _, _, some (26, true)⟩) (v := _) rfl (by kernel_rfl) (by kernel_rfl) (by kernel_rfl) (fun _ _ _ h => h) (Or.inl ⟨by rfl, ?hy714⟩) (by assumption) ?rest714
    case hy714 => (intro w hSw; obtain ⟨s1, s2, s3, s4⟩ := hSw; go_simp <;> with_reducible rfl)
    case rest714 =>
    go_frame
    refine' wpAnyH_take (i := 29) (oi := ⟨some 48, .fieldAddr 55 (.tmp 47) 0, _, _, _, some (26, true)⟩) (v := _) rfl (by kernel_rfl) (by kernel_rfl) (by kernel_rfl) (fun _ _ _ h => h) (Or.inl ⟨by rfl, ?hy715⟩) (by assumption) ?rest715
    case hy715 => (intro w hSw; obtain ⟨s1, s2, s3, s4⟩ := hSw; go_simp <;> with_reducible rfl)
    case rest715 =>
    go_frame
    refine' wpAnyH_take (i := 30) (oi := ⟨some 49, .load 53 (.tmp 48), _, _, _, some (26, true)⟩) (v := _) rfl (by kernel_rfl) (by kernel_rfl) (by kernel_rfl) (fun _ _ _ h => h) (Or.inl ⟨by rfl, ?hy716⟩) (by assumption) ?rest716
    case hy716 => (intro w hSw; obtain ⟨s1, s2, s3, s4⟩ := hSw; go_simp <;> with_reducible rfl)
    case rest716 =>
    go_frame
    refine' wpAnyH_take (i := 31) (oi := ⟨some 50, .move (.tmp 2), _, _, _, some (26, true)⟩) (v := _) rfl (by kernel_rfl) (by kernel_rfl) (by kernel_rfl) (fun _ _ _ h => h) (Or.inl ⟨by rfl, ?hy717⟩) (by assumption) ?rest717
    case hy717 => (intro w hSw; obtain ⟨s1, s2, s3, s4⟩ := hSw; go_simp <;> with_reducible rfl)
    case rest717 =>
    go_frame
    refine' wpAnyH_take (i := 32) (oi := ⟨some 51, .indexAddr 53 (.tmp 49) (.tmp 50), _, _, _, some (26, true)⟩) (v := _) rfl (by kernel_rfl) (by kernel_rfl) (by kernel_rfl) (fun _ _ _ h => h) (Or.inl ⟨by rfl, ?hy718⟩) (by assumption) ?rest718
    case hy718 => (intro w hSw; obtain ⟨s1, s2, s3, s4⟩ := hSw; go_simp <;> with_reducible rfl)
    case rest718 =>
    go_frame
    refine' wpAnyH_take (i := 33) (oi := ⟨some 52, .load 4 (.tmp 51), _, _, _, some (26, true)⟩) (v := _) rfl (by kernel_rfl) (by kernel_rfl) (by kernel_rfl) (fun _ _ _ h => h) (Or.inl ⟨by rfl, ?hy719⟩) (by assumption) ?rest719
    case hy719 => (intro w hSw; obtain ⟨s1, s2, s3, s4⟩ := hSw; go_simp <;> with_reducible rfl)
    case rest719 =>
    go_frame
    refine' wpAnyH_take (i := 34) (oi := ⟨some 53, .pick (.tmp 45) (.tmp 52) (.const (.bool false)), _, _, _, some (21, true)⟩) (v := _) rfl (by kernel_rfl) (by kernel_rfl) (by kernel_rfl) (fun _ _ _ h => h) (Or.inl ⟨by rfl, ?hy720⟩) (by assumption) ?rest720
    case hy720 => (intro w hSw; obtain ⟨s1, s2, s3, s4⟩ := hSw; go_simp <;> with_reducible rfl)
    case rest720 =>
    go_frame
    refine' wpAnyH_take (i := 35) (oi := ⟨some 54, .binOp .eql 4 (.tmp 43) (.tmp 53) 4, _, _, _, some (21, true)⟩) (v := _) rfl (by kernel_rfl) (by kernel_rfl) (by kernel_rfl) (fun _ _ _ h => h) (Or.inl ⟨by rfl, ?hy721⟩) (by assumption) ?rest721
    case hy721 => (intro w hSw; obtain ⟨s1, s2, s3, s4⟩ := hSw; go_simp <;> with_reducible rfl)
    case rest721 =>
    go_frame
    refine' wpAnyH_take (i := 36) (oi := ⟨some 55, .pick (.tmp 40) (.tmp 54) (.const (.bool false)), _, _, _, none⟩) (v := _) rfl (by kernel_rfl) (by kernel_rfl) (by kernel_rfl) (fun _ _ _ h => h) (Or.inl ⟨by rfl, ?hy722⟩) (by assumption) ?rest722
    case hy722 => (intro w hSw; obtain ⟨s1, s2, s3, s4⟩ := hSw; go_simp <;> with_reducible rfl)
    case rest722 =>
    go_frame
    refine' wpAnyH_take (i := 37) (oi := ⟨some 56, .move (.tmp 55), _, _, _, none⟩) (v := _) rfl (by kernel_rfl) (by kernel_rfl) (by kernel_rfl) (fun _ _ _ h => h) (Or.inl ⟨by rfl, ?hy723⟩) (by assumption) ?rest723
    case hy723 => (intro w hSw; obtain ⟨s1, s2, s3, s4⟩ := hSw; go_simp <;> with_reducible rfl)
    case rest723 =>
    go_frame
    refine' wpAnyH_take (i := 38) (oi := ⟨some 57, .move (.tmp 0), _, _, _, some (37, true)⟩) (v := _) rfl (by kernel_rfl) (by kernel_rfl) (by kernel_rfl) (fun _ _ _ h => h) (Or.inl ⟨by rfl, ?hy724⟩) (by assumption) ?rest724
    case hy724 => (intro w hSw; obtain ⟨s1, s2, s3, s4⟩ := hSw; go_simp <;> with_reducible rfl)
    case rest724 =>
    go_frame
    refine' wpAnyH_take (i := 39) (oi := ⟨some 58, .move (.tmp 2), _, _, _, some (37, true)⟩) (v := _) rfl (by kernel_rfl) (by kernel_rfl) (by kernel_rfl) (fun _ _ _ h => h) (Or.inl ⟨by rfl, ?hy725⟩) (by assumption) ?rest725
    case hy725 => (intro w hSw; obtain ⟨s1, s2, s3, s4⟩ := hSw; go_simp <;> with_reducible rfl)
    case rest725 =>
    go_frame
    refine' wpAnyH_take (i := 41) (oi := ⟨some 60, .move (.tmp 7), _, _, _, some (37, true)⟩) (v := _) rfl (by kernel_rfl) (by kernel_rfl) (by kernel_rfl) (fun _ _ _ h => h) (Or.inl ⟨by rfl, ?hy726⟩) (by assumption) ?rest726
    case hy726 => (intro w hSw; obtain ⟨s1, s2, s3, s4⟩ := hSw; go_simp <;> with_reducible rfl)
    case rest726 =>
    go_frame
    refine wpAnyH_ready (rs := [40]) (by kernel_rfl) (by simp) (AllReadyH.cons (o := ⟨some 59, .call { callee := .value (.func 37), args := #[.tmp 57, .tmp 58], argTypes := #[23, 3] }, _, _, _, some (37, true)⟩) rfl (fun K hK => ?_) AllReadyH.nil)
    rw [if_pos (by rfl)]
    go_simp
    refine ((HF0.out w6 Hb6.out)).mono ?_
    rintro e w7 ⟨rfl, rfl⟩
    dsimp only
    refine hK.out _ _ (HS.out _ Hb6.out) (fun _ => ?_)
    clear hK K
    try go_frame
    refine' wpAnyH_take (i := 42) (oi := ⟨some 61, .move (.tmp 60), _, _, _, some (37, true)⟩) (v := _) rfl (by kernel_rfl) (by kernel_rfl) (by kernel_rfl) (fun _ _ _ h => h) (Or.inl ⟨by rfl, ?hy727⟩) (by assumption) ?rest727
    case hy727 => (intro w hSw; obtain ⟨s1, s2, s3, s4⟩ := hSw; go_simp <;> with_reducible rfl)
    case rest727 =>
    go_frame
    refine' wpAnyH_take (i := 43) (oi := ⟨some 62, .move (.tmp 1), _, _, _, some (42, true)⟩) (v := _) rfl (by kernel_rfl) (by kernel_rfl) (by kernel_rfl) (fun _ _ _ h => h) (Or.inl ⟨by rfl, ?hy728⟩) (by assumption) ?rest728
    case hy728 => (intro w hSw; obtain ⟨s1, s2, s3, s4⟩ := hSw; go_simp <;> with_reducible rfl)
    case rest728 =>
    go_frame
    refine' wpAnyH_take (i := 44) (oi := ⟨some 63, .nilCheck (.tmp 62), _, _, _, some (42, true)⟩) (v := _) rfl (by kernel_rfl) (by kernel_rfl) (by kernel_rfl) (fun _ _ _ h => h) (Or.inl ⟨by rfl, ?hy729⟩) (by assumption) ?rest729
    case hy729 => (intro w hSw; obtain ⟨s1, s2, s3, s4⟩ := hSw; go_simp <;> with_reducible rfl)
    case rest729 =>
    go_frame
    refine' wpAnyH_take (i := 45) (oi := ⟨some 64, .fieldAddr 55 (.tmp 63) 0, _, _, _, some (42, true)⟩) (v := _) rfl (by kernel_rfl) (by kernel_rfl) (by kernel_rfl) (fun _ _ _ h => h) (Or.inl ⟨by rfl, ?hy730⟩) (by assumption) ?rest730
    case hy730 => (intro w hSw; obtain ⟨s1, s2, s3, s4⟩ := hSw; go_simp <;> with_reducible rfl)
    case rest730 =>
    go_frame
    refine' wpAnyH_take (i := 46) (oi := ⟨some 65, .load 53 (.tmp 64), _, _, _, some (42, true)⟩) (v := _) rfl (by kernel_rfl) (by kernel_rfl) (by kernel_rfl) (fun _ _ _ h => h) (Or.inl ⟨by rfl, ?hy731⟩) (by assumption) ?rest731
    case hy731 => (intro w hSw; obtain ⟨s1, s2, s3, s4⟩ := hSw; go_simp <;> with_reducible rfl)
    case rest731 =>
    go_frame
    refine' wpAnyH_take (i := 47) (oi := ⟨some 66, .move (.tmp 2), _, _, _, some (42, true)⟩) (v := _) rfl (by kernel_rfl) (by kernel_rfl) (by kernel_rfl) (fun _ _ _ h => h) (Or.inl ⟨by rfl, ?hy732⟩) (by assumption) ?rest732
    case hy732 => (intro w hSw; obtain ⟨s1, s2, s3, s4⟩ := hSw; go_simp <;> with_reducible rfl)
    case rest732 =>
    go_frame
    refine' wpAnyH_take (i := 48) (oi := ⟨some 67, .indexAddr 53 (.tmp 65) (.tmp 66), _, _, _, some (42, true)⟩) (v := _) rfl (by kernel_rfl) (by kernel_rfl) (by kernel_rfl) (fun _ _ _ h => h) (Or.inl ⟨by rfl, ?hy733⟩) (by assumption) ?rest733
    case hy733 => (intro w hSw; obtain ⟨s1, s2, s3, s4⟩ := hSw; go_simp <;> with_reducible rfl)
    case rest733 =>
    go_frame
    refine' wpAnyH_take (i := 49) (oi := ⟨some 68, .load 4 (.tmp 67), _, _, _, some (42, true)⟩) (v := _) rfl (by kernel_rfl) (by kernel_rfl) (by kernel_rfl) (fun _ _ _ h => h) (Or.inl ⟨by rfl, ?hy734⟩) (by assumption) ?rest734
    case hy734 => (intro w hSw; obtain ⟨s1, s2, s3, s4⟩ := hSw; go_simp <;> with_reducible rfl)
    case rest734 =>
    go_frame
    refine' wpAnyH_take (i := 50) (oi := ⟨some 69, .pick (.tmp 61) (.tmp 68) (.const (.bool false)), _, _, _, some (37, true)⟩) (v := _) rfl (by kernel_rfl) (by kernel_rfl) (by kernel_rfl) (fun _ _ _ h => h) (Or.inl ⟨by rfl, ?hy735⟩) (by assumption) ?rest735
    case hy735 => (intro w hSw; obtain ⟨s1, s2, s3, s4⟩ := hSw; go_simp <;> with_reducible rfl)
    case rest735 =>
    go_frame
    refine' wpAnyH_take (i := 51) (oi := ⟨some 70, .move (.tmp 69), _, _, _, some (37, true)⟩) (v := _) rfl (by kernel_rfl) (by kernel_rfl) (by kernel_rfl) (fun _ _ _ h => h) (Or.inl ⟨by rfl, ?hy736⟩) (by assumption) ?rest736
    case hy736 => (intro w hSw; obtain ⟨s1, s2, s3, s4⟩ := hSw; go_simp <;> with_reducible rfl)
    case rest736 =>
    go_frame
    refine' wpAnyH_take (i := 52) (oi := ⟨some 71, .move (.tmp 1), _, _, _, some (51, true)⟩) (v := _) rfl (by kernel_rfl) (by kernel_rfl) (by kernel_rfl) (fun _ _ _ h => h) (Or.inl ⟨by rfl, ?hy737⟩) (by assumption) ?rest737
    case hy737 => (intro w hSw; obtain ⟨s1, s2, s3, s4⟩ := hSw; go_simp <;> with_reducible rfl)
    case rest737 =>
    go_frame
    refine' wpAnyH_take (i := 53) (oi := ⟨some 72, .nilCheck (.tmp 71), _, _, _, some (51, true)⟩) (v := _) rfl (by kernel_rfl) (by kernel_rfl) (by kernel_rfl) (fun _ _ _ h => h) (Or.inl ⟨by rfl, ?hy738⟩) (by assumption) ?rest738
    case hy738 => (intro w hSw; obtain ⟨s1, s2, s3, s4⟩ := hSw; go_simp <;> with_reducible rfl)
    case rest738 =>
    go_frame
    refine' wpAnyH_take (i := 54) (oi := ⟨some 73, .fieldAddr 55 (.tmp 72) 1, _, _, _, some (51, true)⟩) (v := _) rfl (by kernel_rfl) (by kernel_rfl) (by kernel_rfl) (fun _ _ _ h => h) (Or.inl ⟨by rfl, ?hy739⟩) (by assumption) ?rest739
    case hy739 => (intro w hSw; obtain ⟨s1, s2, s3, s4⟩ := hSw; go_simp <;> with_reducible rfl)
    case rest739 =>
    go_frame
    refine' wpAnyH_take (i := 55) (oi := ⟨some 74, .load 53 (.tmp 73), _, _, _, some (51, true)⟩) (v := _) rfl (by kernel_rfl) (by kernel_rfl) (by kernel_rfl) (fun _ _ _ h => h) (Or.inl ⟨by rfl, ?hy740⟩) (by assumption) ?rest740
    case hy740 => (intro w hSw; obtain ⟨s1, s2, s3, s4⟩ := hSw; go_simp <;> with_reducible rfl)
    case rest740 =>
    go_frame
    refine' wpAnyH_take (i := 56) (oi := ⟨some 75, .move (.tmp 2), _, _, _, some (51, true)⟩) (v := _) rfl (by kernel_rfl) (by kernel_rfl) (by kernel_rfl) (fun _ _ _ h => h) (Or.inl ⟨by rfl, ?hy741⟩) (by assumption) ?rest741
    case hy741 => (intro w hSw; obtain ⟨s1, s2, s3, s4⟩ := hSw; go_simp <;> with_reducible rfl)
    case rest741 =>
    go_frame
    refine' wpAnyH_take (i := 57) (oi := ⟨some 76, .indexAddr 53 (.tmp 74) (.tmp 75), _, _, _, some (51, true)⟩) (v := _) rfl (by kernel_rfl) (by kernel_rfl) (by kernel_rfl) (fun _ _ _ h => h) (Or.inl ⟨by rfl, ?hy742⟩) (by assumption) ?rest742
    case hy742 => (intro w hSw; obtain ⟨s1, s2, s3, s4⟩ := hSw; go_simp <;> with_reducible rfl)
    case rest742 =>
    go_frame
    refine' wpAnyH_take (i := 58) (oi := ⟨some 77, .load 4 (.tmp 76), _, _, _, some (51, true)⟩) (v := _) rfl (by kernel_rfl) (by kernel_rfl) (by kernel_rfl) (fun _ _ _ h => h) (Or.inl ⟨by rfl, ?hy743⟩) (by assumption) ?rest743
    case hy743 => (intro w hSw; obtain ⟨s1, s2, s3, s4⟩ := hSw; go_simp <;> with_reducible rfl)
    case rest743 =>
    go_frame
    refine' wpAnyH_take (i := 59) (oi := ⟨some 78, .unOp .not 4 (.tmp 77), _, _, _, some (51, true)⟩) (v := _) rfl (by kernel_rfl) (by kernel_rfl) (by kernel_rfl) (fun _ _ _ h => h) (Or.inl ⟨by rfl, ?hy744⟩) (by assumption) ?rest744
    case hy744 => (intro w hSw; obtain ⟨s1, s2, s3, s4⟩ := hSw; go_simp <;> with_reducible rfl)
    case rest744 =>
    go_frame
    refine' wpAnyH_take (i := 60) (oi := ⟨some 79, .pick (.tmp 70) (.tmp 78) (.const (.bool false)), _, _, _, some (37, true)⟩) (v := _) rfl (by kernel_rfl) (by kernel_rfl) (by kernel_rfl) (fun _ _ _ h => h) (Or.inl ⟨by rfl, ?hy745⟩) (by assumption) ?rest745
    case hy745 => (intro w hSw; obtain ⟨s1, s2, s3, s4⟩ := hSw; go_simp <;> with_reducible rfl)
    case rest745 =>
    go_frame
    refine' wpAnyH_take (i := 61) (oi := ⟨some 80, .binOp .eql 4 (.tmp 59) (.tmp 79) 4, _, _, _, some (37, true)⟩) (v := _) rfl (by kernel_rfl) (by kernel_rfl) (by kernel_rfl) (fun _ _ _ h => h) (Or.inl ⟨by rfl, ?hy746⟩) (by assumption) ?rest746
    case hy746 => (intro w hSw; obtain ⟨s1, s2, s3, s4⟩ := hSw; go_simp <;> with_reducible rfl)
    case rest746 =>
    go_frame
    refine' wpAnyH_take (i := 62) (oi := ⟨some 81, .pick (.tmp 56) (.tmp 80) (.const (.bool false)), _, _, _, none⟩) (v := _) rfl (by kernel_rfl) (by kernel_rfl) (by kernel_rfl) (fun _ _ _ h => h) (Or.inl ⟨by rfl, ?hy747⟩) (by assumption) ?rest747
    case hy747 => (intro w hSw; obtain ⟨s1, s2, s3, s4⟩ := hSw; go_simp <;> with_reducible rfl)
    case rest747 =>
    go_frame
    refine' wpAnyH_take (i := 63) (oi := ⟨some 6, .assign (.tmp 81), _, _, _, none⟩) (v := _) rfl (by kernel_rfl) (by kernel_rfl) (by kernel_rfl) (fun _ _ _ h => h) (Or.inl ⟨by rfl, ?hy748⟩) (by assumption) ?rest748
    case hy748 => (intro w hSw; obtain ⟨s1, s2, s3, s4⟩ := hSw; go_simp <;> with_reducible rfl)
    case rest748 =>
    go_frame
    refine wpAnyH_done (by kernel_rfl) ?_ _
    go_wp2_with fail
    go_ret
    exact ⟨by simp, Hb6.out⟩
  · rw [if_pos (by rfl)]
    go_simp
    refine ((HB1.out w5 Hb5.out)).mono ?_
    rintro e w6 ⟨A6, n6, c6, rfl, hr6, hb6⟩
    have Hb6 := Lib.hid (up Hb5.out hb6)
    have Hr6 := Lib.hid hr6
    have Hr56 := Lib.hid (Hr5.out.below hb6)
    clear hr6 hb6
    dsimp only
    refine hK.out _ _ (HS.out _ Hb6.out) (fun _ => ?_)
    clear hK K
    try go_frame
    refine wpAnyH_ready (rs := [15, 18]) (by kernel_rfl) (by simp) (AllReadyH.cons (o := ⟨some 34, .convert 39 9 (.tmp 33), _, _, _, some (12, true)⟩) rfl (fun K hK => ?_) (AllReadyH.cons (o := ⟨some 37, .convert 39 9 (.tmp 36), _, _, _, some (12, true)⟩) rfl (fun K hK => ?_) AllReadyH.nil))
    · rw [if_pos (by rfl)]
      refine wp_run (.string ⟨L.toArray⟩) w6 (exec_conv (s := 39) (t := 9) (x := .tmp 33) rfl (v := .slice A5 n5 c5) rfl (run_string_rd (P := Try.prog) 39 9 5 Try.underlying39 Try.underlying5 Try.underlying9 Hr56.out)) ?_
      refine hK.out _ _ (HS.out _ Hb6.out) (fun _ => ?_)
      clear hK K
      try go_frame
      refine wpAnyH_ready (rs := [18]) (by kernel_rfl) (by simp) (AllReadyH.cons (o := ⟨some 37, .convert 39 9 (.tmp 36), _, _, _, some (12, true)⟩) rfl (fun K hK => ?_) AllReadyH.nil)
      rw [if_pos (by rfl)]
      refine wp_run (.string ⟨L.toArray⟩) w6 (exec_conv (s := 39) (t := 9) (x := .tmp 36) rfl (v := .slice A6 n6 c6) rfl (run_string_rd (P := Try.prog) 39 9 5 Try.underlying39 Try.underlying5 Try.underlying9 Hr6.out)) ?_
      refine hK.out _ _ (HS.out _ Hb6.out) (fun _ => ?_)
      clear hK K
      try go_frame
      refine' wpAnyH_take (i := 19) (oi := ⟨some 38, .binOp .eql 9 (.tmp 34) (.tmp 37) 9, _, _, _, some (12, true)⟩) (v := _) rfl (by kernel_rfl) (by kernel_rfl) (by kernel_rfl) (fun _ _ _ h => h) (Or.inl ⟨by rfl, ?hy749⟩) (by assumption) ?rest749
      case hy749 => (intro w hSw; obtain ⟨s1, s2, s3, s4⟩ := hSw; go_simp <;> with_reducible rfl)
      case rest749 =>
      go_frame
      refine' wpAnyH_take (i := 20) (oi := ⟨some 39, .pick (.tmp 31) (.tmp 38) (.const (.bool false)), _, _, _, none⟩) (v := _) rfl (by kernel_rfl) (by kernel_rfl) (by kernel_rfl) (fun _ _ _ h => h) (Or.inl ⟨by rfl, ?hy750⟩) (by assumption) ?rest750
      case hy750 => (intro w hSw; obtain ⟨s1, s2, s3, s4⟩ := hSw; go_simp <;> with_reducible rfl)
      case rest750 =>
      go_frame
      refine' wpAnyH_take (i := 21) (oi := ⟨some 40, .move (.tmp 39), _, _, _, none⟩) (v := _) rfl (by kernel_rfl) (by kernel_rfl) (by kernel_rfl) (fun _ _ _ h => h) (Or.inl ⟨by rfl, ?hy751⟩) (by assumption) ?rest751
      case hy751 => (intro w hSw; obtain ⟨s1, s2, s3, s4⟩ := hSw; go_simp <;> with_reducible rfl)
      case rest751 =>
      go_frame
      refine' wpAnyH_take (i := 22) (oi := ⟨some 41, .move (.tmp 0), _, _, _, some (21, true)⟩) (v := _) rfl (by kernel_rfl) (by kernel_rfl) (by kernel_rfl) (fun _ _ _ h => h) (Or.inl ⟨by rfl, ?hy752⟩) (by assumption) ?rest752
      case hy752 => (intro w hSw; obtain ⟨s1, s2, s3, s4⟩ := hSw; go_simp <;> with_reducible rfl)
      case rest752 =>
      go_frame
      refine' wpAnyH_take (i := 23) (oi := ⟨some 42, .move (.tmp 2), _, _, _, some (21, true)⟩) (v := _) rfl (by kernel_rfl) (by kernel_rfl) (by kernel_rfl) (fun _ _ _ h => h) (Or.inl ⟨by rfl, ?hy753⟩) (by assumption) ?rest753
      case hy753 => (intro w hSw; obtain ⟨s1, s2, s3, s4⟩ := hSw; go_simp <;> with_reducible rfl)
      case rest753 =>
      go_frame
      refine' wpAnyH_take (i := 25) (oi := ⟨some 44, .move (.tmp 7), _, _, _, some (21, true)⟩) (v := _) rfl (by kernel_rfl) (by kernel_rfl) (by kernel_rfl) (fun _ _ _ h => h) (Or.inl ⟨by rfl, ?hy754⟩) (by assumption) ?rest754
      case hy754 => (intro w hSw; obtain ⟨s1, s2, s3, s4⟩ := hSw; go_simp <;> with_reducible rfl)
      case rest754 =>
      go_frame
      refine wpAnyH_ready (rs := [24]) (by kernel_rfl) (by simp) (AllReadyH.cons (o := ⟨some 43, .call { callee := .value (.func 36), args := #[.tmp 41, .tmp 42], argTypes := #[23, 3] }, _, _, _, some (21, true)⟩) rfl (fun K hK => ?_) AllReadyH.nil)
      rw [if_pos (by rfl)]
      go_simp
      refine ((HT0.out w6 Hb6.out)).mono ?_
      rintro e w7 ⟨rfl, rfl⟩
      dsimp only
      refine hK.out _ _ (HS.out _ Hb6.out) (fun _ => ?_)
      clear hK K
      try go_frame
      refine' wpAnyH_take (i := 26) (oi := ⟨some 45, .move (.tmp 44), _, _, _, some (21, true)⟩) (v := _) rfl (by kernel_rfl) (by kernel_rfl) (by kernel_rfl) (fun _ _ _ h => h) (Or.inl ⟨by rfl, ?hy755⟩) (by assumption) ?rest755
      case hy755 => (intro w hSw; obtain ⟨s1, s2, s3, s4⟩ := hSw; go_simp <;> with_reducible rfl)
      case rest755 =>
      go_frame
      refine' wpAnyH_take (i := 27) (oi := ⟨some 46, .move (.tmp 1), _, _, _, some (26, true)⟩) (v := _) rfl (by kernel_rfl) (by kernel_rfl) (by kernel_rfl) (fun _ _ _ h => h) (Or.inl ⟨by rfl, ?hy756⟩) (by assumption) ?rest756
      case hy756 => (intro w hSw; obtain ⟨s1, s2, s3, s4⟩ := hSw; go_simp <;> with_reducible rfl)
      case rest756 =>
      go_frame
      refine' wpAnyH_take (i := 28) (oi := ⟨some 47, .nilCheck (.tmp 46), _, _, _, some (26, true)⟩) (v := _) rfl (by kernel_rfl) (by kernel_rfl) (by kernel_rfl) (fun _ _ _ h => h) (Or.inl ⟨by rfl, ?hy757⟩) (by assumption) ?rest757
      case hy757 => (intro w hSw; obtain ⟨s1, s2, s3, s4⟩ := hSw; go_simp <;> with_reducible rfl)
      case rest757 =>
      go_frame
      refine' wpAnyH_take (i := 29) (oi := ⟨some 48, .fieldAddr 55 (.tmp 47) 0, _, _, _, some (26, true)⟩) (v := _) rfl (by kernel_rfl) (by kernel_rfl) (by kernel_rfl) (fun _ _ _ h => h) (Or.inl ⟨by rfl, ?hy758⟩) (by assumption) ?rest758
      case hy758 => (intro w hSw; obtain ⟨s1, s2, s3, s4⟩ := hSw; go_simp <;> with_reducible rfl)
      case rest758 =>
      go_frame
      refine' wpAnyH_take (i := 30) (oi := ⟨some 49, .load 53 (.tmp 48), _, _, _, some (26, true)⟩) (v := _) rfl (by kernel_rfl) (by kernel_rfl) (by kernel_rfl) (fun _ _ _ h => h) (Or.inl ⟨by rfl, ?hy759⟩) (by assumption) ?rest759
      case hy759 => (intro w hSw; obtain ⟨s1, s2, s3, s4⟩ := hSw; go_simp <;> with_reducible rfl)
      case rest759 =>
      go_frame
      refine' wpAnyH_take (i := 31) (oi := ⟨some 50, .move (.tmp 2), _, _, _, some (26, true)⟩) (v := _) rfl (by kernel_rfl) (by kernel_rfl) (by kernel_rfl) (fun _ _ _ h => h) (Or.inl ⟨by rfl, ?hy760⟩) (by assumption) ?rest760
      case hy760 => (intro w hSw; obtain ⟨s1, s2, s3, s4⟩ := hSw; go_simp <;> with_reducible rfl)
      case rest760 =>
      go_frame
      refine' wpAnyH_take (i := 32) (oi := ⟨some 51, .indexAddr 53 (.tmp 49) (.tmp 50), _, _, _, some (26, true)⟩) (v := _) rfl (by kernel_rfl) (by kernel_rfl) (by kernel_rfl) (fun _ _ _ h => h) (Or.inl ⟨by rfl, ?hy761⟩) (by assumption) ?rest761
      case hy761 => (intro w hSw; obtain ⟨s1, s2, s3, s4⟩ := hSw; go_simp <;> with_reducible rfl)
      case rest761 =>
      go_frame
      refine' wpAnyH_take (i := 33) (oi := ⟨some 52, .load 4 (.tmp 51), _, _, _, some (26, true)⟩) (v := _) rfl (by kernel_rfl) (by kernel_rfl) (by kernel_rfl) (fun _ _ _ h => h) (Or.inl ⟨by rfl, ?hy762⟩) (by assumption) ?rest762
      case hy762 => (intro w hSw; obtain ⟨s1, s2, s3, s4⟩ := hSw; go_simp <;> with_reducible rfl)
      case rest762 =>
      go_frame
      refine' wpAnyH_take (i := 34) (oi := ⟨some 53, .pick (.tmp 45) (.tmp 52) (.const (.bool false)), _, _, _, some (21, true)⟩) (v := _) rfl (by kernel_rfl) (by kernel_rfl) (by kernel_rfl) (fun _ _ _ h => h) (Or.inl ⟨by rfl, ?hy763⟩) (by assumption) ?rest763
      case hy763 => (intro w hSw; obtain ⟨s1, s2, s3, s4⟩ := hSw; go_simp <;> with_reducible rfl)
      case rest763 =>
      go_frame
      refine' wpAnyH_take (i := 35) (oi := ⟨some 54, .binOp .eql 4 (.tmp 43) (.tmp 53) 4, _, _, _, some (21, true)⟩) (v := _) rfl (by kernel_rfl) (by kernel_rfl) (by kernel_rfl) (fun _ _ _ h => h) (Or.inl ⟨by rfl, ?hy764⟩) (by assumption) ?rest764
      case hy764 => (intro w hSw; obtain ⟨s1, s2, s3, s4⟩ := hSw; go_simp <;> with_reducible rfl)
      case rest764 =>
      go_frame
      refine' wpAnyH_take (i := 36) (oi := ⟨some 55, .pick (.tmp 40) (.tmp 54) (.const (.bool false)), _, _, _, none⟩) (v := _) rfl (by kernel_rfl) (by kernel_rfl) (by kernel_rfl) (fun _ _ _ h => h) (Or.inl ⟨by rfl, ?hy765⟩) (by assumption) ?rest765
      case hy765 => (intro w hSw; obtain ⟨s1, s2, s3, s4⟩ := hSw; go_simp <;> with_reducible rfl)
      case rest765 =>
      go_frame
      refine' wpAnyH_take (i := 37) (oi := ⟨some 56, .move (.tmp 55), _, _, _, none⟩) (v := _) rfl (by kernel_rfl) (by kernel_rfl) (by kernel_rfl) (fun _ _ _ h => h) (Or.inl ⟨by rfl, ?hy766⟩) (by assumption) ?rest766
      case hy766 => (intro w hSw; obtain ⟨s1, s2, s3, s4⟩ := hSw; go_simp <;> with_reducible rfl)
      case rest766 =>
      go_frame
      refine' wpAnyH_take (i := 38) (oi := ⟨some 57, .move (.tmp 0), _, _, _, some (37, true)⟩) (v := _) rfl (by kernel_rfl) (by kernel_rfl) (by kernel_rfl) (fun _ _ _ h => h) (Or.inl ⟨by rfl, ?hy767⟩) (by assumption) ?rest767
      case hy767 => (intro w hSw; obtain ⟨s1, s2, s3, s4⟩ := hSw; go_simp <;> with_reducible rfl)
      case rest767 =>
      go_frame
      refine' wpAnyH_take (i := 39) (oi := ⟨some 58, .move (.tmp 2), _, _, _, some (37, true)⟩) (v := _) rfl (by kernel_rfl) (by kernel_rfl) (by kernel_rfl) (fun _ _ _ h => h) (Or.inl ⟨by rfl, ?hy768⟩) (by assumption) ?rest768
      case hy768 => (intro w hSw; obtain ⟨s1, s2, s3, s4⟩ := hSw; go_simp <;> with_reducible rfl)
      case rest768 =>
      go_frame
      refine' wpAnyH_take (i := 41) (oi := ⟨some 60, .move (.tmp 7), _, _, _, some (37, true)⟩) (v := _) rfl (by kernel_rfl) (by kernel_rfl) (by kernel_rfl) (fun _ _ _ h => h) (Or.inl ⟨by rfl, ?hy769⟩) (by assumption) ?rest769
      case hy769 => (intro w hSw; obtain ⟨s1, s2, s3, s4⟩ := hSw; go_simp <;> with_reducible rfl)
      case rest769 =>
      go_frame
      refine wpAnyH_ready (rs := [40]) (by kernel_rfl) (by simp) (AllReadyH.cons (o := ⟨some 59, .call { callee := .value (.func 37), args := #[.tmp 57, .tmp 58], argTypes := #[23, 3] }, _, _, _, some (37, true)⟩) rfl (fun K hK => ?_) AllReadyH.nil)
      rw [if_pos (by rfl)]
      go_simp
      refine ((HF0.out w6 Hb6.out)).mono ?_
      rintro e w7 ⟨rfl, rfl⟩
      dsimp only
      refine hK.out _ _ (HS.out _ Hb6.out) (fun _ => ?_)
      clear hK K
      try go_frame
      refine' wpAnyH_take (i := 42) (oi := ⟨some 61, .move (.tmp 60), _, _, _, some (37, true)⟩) (v := _) rfl (by kernel_rfl) (by kernel_rfl) (by kernel_rfl) (fun _ _ _ h => h) (Or.inl ⟨by rfl, ?hy770⟩) (by assumption) ?rest770
      case hy770 => (intro w hSw; obtain ⟨s1, s2, s3, s4⟩ := hSw; go_simp <;> with_reducible rfl)
      case rest770 =>
      go_frame
      refine' wpAnyH_take (i := 43) (oi := ⟨some 62, .move (.tmp 1), _, _, _, some (42, true)⟩) (v := _) rfl (by kernel_rfl) (by kernel_rfl) (by kernel_rfl) (fun _ _ _ h => h) (Or.inl ⟨by rfl, ?hy771⟩) (by assumption) ?rest771
      case hy771 => (intro w hSw; obtain ⟨s1, s2, s3, s4⟩ := hSw; go_simp <;> with_reducible rfl)
      case rest771 =>
      go_frame
      refine' wpAnyH_take (i := 44) (oi := ⟨some 63, .nilCheck (.tmp 62), _, _, _, some (42, true)⟩) (v := _) rfl (by kernel_rfl) (by kernel_rfl) (by kernel_rfl) (fun _ _ _ h => h) (Or.inl ⟨by rfl, ?hy772⟩) (by assumption) ?rest772
      case hy772 => (intro w hSw; obtain ⟨s1, s2, s3, s4⟩ := hSw; go_simp <;> with_reducible rfl)
      case rest772 =>
      go_frame
      refine' wpAnyH_take (i := 45) (oi := ⟨some 64, .fieldAddr 55 (.tmp 63) 0, _, _, _, some (42, true)⟩) (v := _) rfl (by kernel_rfl) (by kernel_rfl) (by kernel_rfl) (fun _ _ _ h => h) (Or.inl ⟨by rfl, ?hy773⟩) (by assumption) ?rest773
      case hy773 => (intro w hSw; obtain ⟨s1, s2, s3, s4⟩ := hSw; go_simp <;> with_reducible rfl)
      case rest773 =>
      go_frame
      refine' wpAnyH_take (i := 46) (oi := ⟨some 65, .load 53 (.tmp 64), _, _, _, some (42, true)⟩) (v := _) rfl (by kernel_rfl) (by kernel_rfl) (by kernel_rfl) (fun _ _ _ h => h) (Or.inl ⟨by rfl, ?hy774⟩) (by assumption) ?rest774
      case hy774 => (intro w hSw; obtain ⟨s1, s2, s3, s4⟩ := hSw; go_simp <;> with_reducible rfl)
      case rest774 =>
      go_frame
      refine' wpAnyH_take (i := 47) (oi := ⟨some 66, .move (.tmp 2), _, _, _, some (42, true)⟩) (v := _) rfl (by kernel_rfl) (by kernel_rfl) (by kernel_rfl) (fun _ _ _ h => h) (Or.inl ⟨by rfl, ?hy775⟩) (by assumption) ?rest775
      case hy775 => (intro w hSw; obtain ⟨s1, s2, s3, s4⟩ := hSw; go_simp <;> with_reducible rfl)
      case rest775 =>
      go_frame
      refine' wpAnyH_take (i := 48) (oi := ⟨some 67, .indexAddr 53 (.tmp 65) (.tmp 66), _, _, _, some (42, true)⟩) (v := _) rfl (by kernel_rfl) (by kernel_rfl) (by kernel_rfl) (fun _ _ _ h => h) (Or.inl ⟨by rfl, ?hy776⟩) (by assumption) ?rest776
      case hy776 => (intro w hSw; obtain ⟨s1, s2, s3, s4⟩ := hSw; go_simp <;> with_reducible rfl)
      case rest776 =>
      go_frame
      refine' wpAnyH_take (i := 49) (oi := ⟨some 68, .load 4 (.tmp 67), _, _, _, some (42, true)⟩) (v := _) rfl (by kernel_rfl) (by kernel_rfl) (by kernel_rfl) (fun _ _ _ h => h) (Or.inl ⟨by rfl, ?hy777⟩) (by assumption) ?rest777
      case hy777 => (intro w hSw; obtain ⟨s1, s2, s3, s4⟩ := hSw; go_simp <;> with_reducible rfl)
      case rest777 =>
      go_frame
      refine' wpAnyH_take (i := 50) (oi := ⟨some 69, .pick (.tmp 61) (.tmp 68) (.const (.bool false)), _, _, _, some (37, true)⟩) (v := _) rfl (by kernel_rfl) (by kernel_rfl) (by kernel_rfl) (fun _ _ _ h => h) (Or.inl ⟨by rfl, ?hy778⟩) (by assumption) ?rest778
      case hy778 => (intro w hSw; obtain ⟨s1, s2, s3, s4⟩ := hSw; go_simp <;> with_reducible rfl)
      case rest778 =>
      go_frame
      refine' wpAnyH_take (i := 51) (oi := ⟨some 70, .move (.tmp 69), _, _, _, some (37, true)⟩) (v := _) rfl (by kernel_rfl) (by kernel_rfl) (by kernel_rfl) (fun _ _ _ h => h) (Or.inl ⟨by rfl, ?hy779⟩) (by assumption) ?rest779
      case hy779 => (intro w hSw; obtain ⟨s1, s2, s3, s4⟩ := hSw; go_simp <;> with_reducible rfl)
      case rest779 =>
      go_frame
      refine' wpAnyH_take (i := 52) (oi := ⟨some 71, .move (.tmp 1), _, _, _, some (51, true)⟩) (v := _) rfl (by kernel_rfl) (by kernel_rfl) (by kernel_rfl) (fun _ _ _ h => h) (Or.inl ⟨by rfl, ?hy780⟩) (by assumption) ?rest780
      case hy780 => (intro w hSw; obtain ⟨s1, s2, s3, s4⟩ := hSw; go_simp <;> with_reducible rfl)
      case rest780 =>
      go_frame
      refine' wpAnyH_take (i := 53) (oi := ⟨some 72, .nilCheck (.tmp 71), _, _, _, some (51, true)⟩) (v := _) rfl (by kernel_rfl) (by kernel_rfl) (by kernel_rfl) (fun _ _ _ h => h) (Or.inl ⟨by rfl, ?hy781⟩) (by assumption) ?rest781
      case hy781 => (intro w hSw; obtain ⟨s1, s2, s3, s4⟩ := hSw; go_simp <;> with_reducible rfl)
      case rest781 =>
      go_frame
      refine' wpAnyH_take (i := 54) (oi := ⟨some 73, .fieldAddr 55 (.tmp 72) 1, _, _, _, some (51, true)⟩) (v := _) rfl (by kernel_rfl) (by kernel_rfl) (by kernel_rfl) (fun _ _ _ h => h) (Or.inl ⟨by rfl, ?hy782⟩) (by assumption) ?rest782
      case hy782 => (intro w hSw; obtain ⟨s1, s2, s3, s4⟩ := hSw; go_simp <;> with_reducible rfl)
      case rest782 =>
      go_frame
      refine' wpAnyH_take (i := 55) (oi := ⟨some 74, .load 53 (.tmp 73), _, _, _, some (51, true)⟩) (v := _) rfl (by kernel_rfl) (by kernel_rfl) (by kernel_rfl) (fun _ _ _ h => h) (Or.inl ⟨by rfl, ?hy783⟩) (by assumption) ?rest783
      case hy783 => (intro w hSw; obtain ⟨s1, s2, s3, s4⟩ := hSw; go_simp <;> with_reducible rfl)
      case rest783 =>
      go_frame
      refine' wpAnyH_take (i := 56) (oi := ⟨some 75, .move (.tmp 2), _, _, _, some (51, true)⟩) (v := _) rfl (by kernel_rfl) (by kernel_rfl) (by kernel_rfl) (fun _ _ _ h => h) (Or.inl ⟨by rfl, ?hy784⟩) (by assumption) ?rest784
      case hy784 => (intro w hSw; obtain ⟨s1, s2, s3, s4⟩ := hSw; go_simp <;> with_reducible rfl)
      case rest784 =>
      go_frame
      refine' wpAnyH_take (i := 57) (oi := ⟨some 76, .indexAddr 53 (.tmp 74) (.tmp 75), _, _, _, some (51, true)⟩) (v := _) rfl (by kernel_rfl) (by kernel_rfl) (by kernel_rfl) (fun _ _ _ h => h) (Or.inl ⟨by rfl, ?hy785⟩) (by assumption) ?rest785
      case hy785 => (intro w hSw; obtain ⟨s1, s2, s3, s4⟩ := hSw; go_simp <;> with_reducible rfl)
      case rest785 =>
      go_frame
      refine' wpAnyH_take (i := 58) (oi := ⟨some 77, .load 4 (.tmp 76), _, _, _, some (51, true)⟩) (v := _) rfl (by kernel_rfl) (by kernel_rfl) (by kernel_rfl) (fun _ _ _ h => h) (Or.inl ⟨by rfl, ?hy786⟩) (by assumption) ?rest786
      case hy786 => (intro w hSw; obtain ⟨s1, s2, s3, s4⟩ := hSw; go_simp <;> with_reducible rfl)
      case rest786 =>
      go_frame
      refine' wpAnyH_take (i := 59) (oi := ⟨some 78, .unOp .not 4 (.tmp 77), _, _, _, some (51, true)⟩) (v := _) rfl (by kernel_rfl) (by kernel_rfl) (by kernel_rfl) (fun _ _ _ h => h) (Or.inl ⟨by rfl, ?hy787⟩) (by assumption) ?rest787
      case hy787 => (intro w hSw; obtain ⟨s1, s2, s3, s4⟩ := hSw; go_simp <;> with_reducible rfl)
      case rest787 =>
      go_frame
      refine' wpAnyH_take (i := 60) (oi := ⟨some 79, .pick (.tmp 70) (.tmp 78) (.const (.bool false)), _, _, _, some (37, true)⟩) (v := _) rfl (by kernel_rfl) (by kernel_rfl) (by kernel_rfl) (fun _ _ _ h => h) (Or.inl ⟨by rfl, ?hy788⟩) (by assumption) ?rest788
      case hy788 => (intro w hSw; obtain ⟨s1, s2, s3, s4⟩ := hSw; go_simp <;> with_reducible rfl)
      case rest788 =>
      go_frame
      refine' wpAnyH_take (i := 61) (oi := ⟨some 80, .binOp .eql 4 (.tmp 59) (.tmp 79) 4, _, _, _, some (37, true)⟩) (v := _) rfl (by kernel_rfl) (by kernel_rfl) (by kernel_rfl) (fun _ _ _ h => h) (Or.inl ⟨by rfl, ?hy789⟩) (by assumption) ?rest789
      case hy789 => (intro w hSw; obtain ⟨s1, s2, s3, s4⟩ := hSw; go_simp <;> with_reducible rfl)
      case rest789 =>
      go_frame
      refine' wpAnyH_take (i := 62) (oi := ⟨some 81, .pick (.tmp 56) (.tmp 80) (.const (.bool false)), _, _, _, none⟩) (v := _) rfl (by kernel_rfl) (by kernel_rfl) (by kernel_rfl) (fun _ _ _ h => h) (Or.inl ⟨by rfl, ?hy790⟩) (by assumption) ?rest790
      case hy790 => (intro w hSw; obtain ⟨s1, s2, s3, s4⟩ := hSw; go_simp <;> with_reducible rfl)
      case rest790 =>
      go_frame
      refine' wpAnyH_take (i := 63) (oi := ⟨some 6, .assign (.tmp 81), _, _, _, none⟩) (v := _) rfl (by kernel_rfl) (by kernel_rfl) (by kernel_rfl) (fun _ _ _ h => h) (Or.inl ⟨by rfl, ?hy791⟩) (by assumption) ?rest791
      case hy791 => (intro w hSw; obtain ⟨s1, s2, s3, s4⟩ := hSw; go_simp <;> with_reducible rfl)
      case rest791 =>
      go_frame
      refine wpAnyH_done (by kernel_rfl) ?_ _
      go_wp2_with fail
      go_ret
      exact ⟨by simp, Hb6.out⟩
    · rw [if_pos (by rfl)]
      refine wp_run (.string ⟨L.toArray⟩) w6 (exec_conv (s := 39) (t := 9) (x := .tmp 36) rfl (v := .slice A6 n6 c6) rfl (run_string_rd (P := Try.prog) 39 9 5 Try.underlying39 Try.underlying5 Try.underlying9 Hr6.out)) ?_
      refine hK.out _ _ (HS.out _ Hb6.out) (fun _ => ?_)
      clear hK K
      try go_frame
      refine wpAnyH_ready (rs := [15]) (by kernel_rfl) (by simp) (AllReadyH.cons (o := ⟨some 34, .convert 39 9 (.tmp 33), _, _, _, some (12, true)⟩) rfl (fun K hK => ?_) AllReadyH.nil)
      rw [if_pos (by rfl)]
      refine wp_run (.string ⟨L.toArray⟩) w6 (exec_conv (s := 39) (t := 9) (x := .tmp 33) rfl (v := .slice A5 n5 c5) rfl (run_string_rd (P := Try.prog) 39 9 5 Try.underlying39 Try.underlying5 Try.underlying9 Hr56.out)) ?_
      refine hK.out _ _ (HS.out _ Hb6.out) (fun _ => ?_)
      clear hK K
      try go_frame
      refine' wpAnyH_take (i := 19) (oi := ⟨some 38, .binOp .eql 9 (.tmp 34) (.tmp 37) 9, _, _, _, some (12, true)⟩) (v := _) rfl (by kernel_rfl) (by kernel_rfl) (by kernel_rfl) (fun _ _ _ h => h) (Or.inl ⟨by rfl, ?hy792⟩) (by assumption) ?rest792
      case hy792 => (intro w hSw; obtain ⟨s1, s2, s3, s4⟩ := hSw; go_simp <;> with_reducible rfl)
      case rest792 =>
      go_frame
      refine' wpAnyH_take (i := 20) (oi := ⟨some 39, .pick (.tmp 31) (.tmp 38) (.const (.bool false)), _, _, _, none⟩) (v := _) rfl (by kernel_rfl) (by kernel_rfl) (by kernel_rfl) (fun _ _ _ h => h) (Or.inl ⟨by rfl, ?hy793⟩) (by assumption) ?rest793
      case hy793 => (intro w hSw; obtain ⟨s1, s2, s3, s4⟩ := hSw; go_simp <;> with_reducible rfl)
      case rest793 =>
      go_frame
      refine' wpAnyH_take (i := 21) (oi := ⟨some 40, .move (.tmp 39), _, _, _, none⟩) (v := _) rfl (by kernel_rfl) (by kernel_rfl) (by kernel_rfl) (fun _ _ _ h => h) (Or.inl ⟨by rfl, ?hy794⟩) (by assumption) ?rest794
      case hy794 => (intro w hSw; obtain ⟨s1, s2, s3, s4⟩ := hSw; go_simp <;> with_reducible rfl)
      case rest794 =>
      go_frame
      refine' wpAnyH_take (i := 22) (oi := ⟨some 41, .move (.tmp 0), _, _, _, some (21, true)⟩) (v := _) rfl (by kernel_rfl) (by kernel_rfl) (by kernel_rfl) (fun _ _ _ h => h) (Or.inl ⟨by rfl, ?hy795⟩) (by assumption) ?rest795
      case hy795 => (intro w hSw; obtain ⟨s1, s2, s3, s4⟩ := hSw; go_simp <;> with_reducible rfl)
      case rest795 =>
      go_frame
      refine' wpAnyH_take (i := 23) (oi := ⟨some 42, .move (.tmp 2), _, _, _, some (21, true)⟩) (v := _) rfl (by kernel_rfl) (by kernel_rfl) (by kernel_rfl) (fun _ _ _ h => h) (Or.inl ⟨by rfl, ?hy796⟩) (by assumption) ?rest796
      case hy796 => (intro w hSw; obtain ⟨s1, s2, s3, s4⟩ := hSw; go_simp <;> with_reducible rfl)
      case rest796 =>
      go_frame
      refine' wpAnyH_take (i := 25) (oi := ⟨some 44, .move (.tmp 7), _, _, _, some (21, true)⟩) (v := _) rfl (by kernel_rfl) (by kernel_rfl) (by kernel_rfl) (fun _ _ _ h => h) (Or.inl ⟨by rfl, ?hy797⟩) (by assumption) ?rest797
      case hy797 => (intro w hSw; obtain ⟨s1, s2, s3, s4⟩ := hSw; go_simp <;> with_reducible rfl)
      case rest797 =>
      go_frame
      refine wpAnyH_ready (rs := [24]) (by kernel_rfl) (by simp) (AllReadyH.cons (o := ⟨some 43, .call { callee := .value (.func 36), args := #[.tmp 41, .tmp 42], argTypes := #[23, 3] }, _, _, _, some (21, true)⟩) rfl (fun K hK => ?_) AllReadyH.nil)
      rw [if_pos (by rfl)]
      go_simp
      refine ((HT0.out w6 Hb6.out)).mono ?_
      rintro e w7 ⟨rfl, rfl⟩
      dsimp only
      refine hK.out _ _ (HS.out _ Hb6.out) (fun _ => ?_)
      clear hK K
      try go_frame
      refine' wpAnyH_take (i := 26) (oi := ⟨some 45, .move (.tmp 44), _, _, _, some (21, true)⟩) (v := _) rfl (by kernel_rfl) (by kernel_rfl) (by kernel_rfl) (fun _ _ _ h => h) (Or.inl ⟨by rfl, ?hy798⟩) (by assumption) ?rest798
      case hy798 => (intro w hSw; obtain ⟨s1, s2, s3, s4⟩ := hSw; go_simp <;> with_reducible rfl)
      case rest798 =>
      go_frame
      refine' wpAnyH_take (i := 27) (oi := ⟨some 46, .move (.tmp 1), _, _, _, some (26, true)⟩) (v := _) rfl (by kernel_rfl) (by kernel_rfl) (by kernel_rfl) (fun _ _ _ h => h) (Or.inl ⟨by rfl, ?hy799⟩) (by assumption) ?rest799
      case hy799 => (intro w hSw; obtain ⟨s1, s2, s3, s4⟩ := hSw; go_simp <;> with_reducible rfl)
      case rest799 =>
      go_frame
      refine' wpAnyH_take (i := 28) (oi := ⟨some 47, .nilCheck (.tmp 46), _, _, _, some (26, true)⟩) (v := _) rfl (by kernel_rfl) (by kernel_rfl) (by kernel_rfl) (fun _ _ _ h => h) (Or.inl ⟨by rfl, ?hy800⟩) (by assumption) ?rest800
      case hy800 => (intro w hSw; obtain ⟨s1, s2, s3, s4⟩ := hSw; go_simp <;> with_reducible rfl)
      case rest800 =>
      go_frame
      refine' wpAnyH_take (i := 29) (oi := ⟨some 48, .fieldAddr 55 (.tmp 47) 0, _, _, _, some (26, true)⟩) (v := _) rfl (by kernel_rfl) (by kernel_rfl) (by kernel_rfl) (fun _ _ _ h => h) (Or.inl ⟨by rfl, ?hy801⟩) (by assumption) ?rest801
      case hy801 => (intro w hSw; obtain ⟨s1, s2, s3, s4⟩ := hSw; go_simp <;> with_reducible rfl)
      case rest801 =>
      go_frame
      refine' wpAnyH_take (i := 30) (oi := ⟨some 49, .load 53 (.tmp 48), _, _, _, some (26, true)⟩) (v := _) rfl (by kernel_rfl) (by kernel_rfl) (by kernel_rfl) (fun _ _ _ h => h) (Or.inl ⟨by rfl, ?hy802⟩) (by assumption) ?rest802
      case hy802 => (intro w hSw; obtain ⟨s1, s2, s3, s4⟩ := hSw; go_simp <;> with_reducible rfl)
      case rest802 =>
      go_frame
      refine' wpAnyH_take (i := 31) (oi := ⟨some 50, .move (.tmp 2), _, _, _, some (26, true)⟩) (v := _) rfl (by kernel_rfl) (by kernel_rfl) (by kernel_rfl) (fun _ _ _ h => h) (Or.inl ⟨by rfl, ?hy803⟩) (by assumption) ?rest803
      case hy803 => (intro w hSw; obtain ⟨s1, s2, s3, s4⟩ := hSw; go_simp <;> with_reducible rfl)
      case rest803 =>
      go_frame
      refine' wpAnyH_take (i := 32) (oi := ⟨some 51, .indexAddr 53 (.tmp 49) (.tmp 50), _, _, _, some (26, true)⟩) (v := _) rfl (by kernel_rfl) (by kernel_rfl) (by kernel_rfl) (fun _ _ _ h => h) (Or.inl ⟨by rfl, ?hy804⟩) (by assumption) ?rest804
      case hy804 => (intro w hSw; obtain ⟨s1, s2, s3, s4⟩ := hSw; go_simp <;> with_reducible rfl)
      case rest804 =>
      go_frame
      refine' wpAnyH_take (i := 33) (oi := ⟨some 52, .load 4 (.tmp 51), _, _, _, some (26, true)⟩) (v := _) rfl (by kernel_rfl) (by kernel_rfl) (by kernel_rfl) (fun _ _ _ h => h) (Or.inl ⟨by rfl, ?hy805⟩) (by assumption) ?rest805
      case hy805 => (intro w hSw; obtain ⟨s1, s2, s3, s4⟩ := hSw; go_simp <;> with_reducible rfl)
      case rest805 =>
      go_frame
      refine' wpAnyH_take (i := 34) (oi := ⟨some 53, .pick (.tmp 45) (.tmp 52) (.const (.bool false)), _, _, _, some (21, true)⟩) (v := _) rfl (by kernel_rfl) (by kernel_rfl) (by kernel_rfl) (fun _ _ _ h => h) (Or.inl ⟨by rfl, ?hy806⟩) (by assumption) ?rest806
      case hy806 => (intro w hSw; obtain ⟨s1, s2, s3, s4⟩ := hSw; go_simp <;> with_reducible rfl)
      case rest806 =>
      go_frame
      refine' wpAnyH_take (i := 35) (oi := ⟨some 54, .binOp .eql 4 (.tmp 43) (.tmp 53) 4, _, _, _, some (21, true)⟩) (v := _) rfl (by kernel_rfl) (by kernel_rfl) (by kernel_rfl) (fun _ _ _ h => h) (Or.inl ⟨by rfl, ?hy807⟩) (by assumption) ?rest807
      case hy807 => (intro w hSw; obtain ⟨s1, s2, s3, s4⟩ := hSw; go_simp <;> with_reducible rfl)
      case rest807 =>
      go_frame
      refine' wpAnyH_take (i := 36) (oi := ⟨some 55, .pick (.tmp 40) (.tmp 54) (.const (.bool false)), _, _, _, none⟩) (v := _) rfl (by kernel_rfl) (by kernel_rfl) (by kernel_rfl) (fun _ _ _ h => h) (Or.inl ⟨by rfl, ?hy808⟩) (by assumption) ?rest808
      case hy808 => (intro w hSw; obtain ⟨s1, s2, s3, s4⟩ := hSw; go_simp <;> with_reducible rfl)
      case rest808 =>
      go_frame
      refine' wpAnyH_take (i := 37) (oi := ⟨some 56, .move (.tmp 55), _, _, _, none⟩) (v := _) rfl (by kernel_rfl) (by kernel_rfl) (by kernel_rfl) (fun _ _ _ h => h) (Or.inl ⟨by rfl, ?hy809⟩) (by assumption) ?rest809
      case hy809 => (intro w hSw; obtain ⟨s1, s2, s3, s4⟩ := hSw; go_simp <;> with_reducible rfl)
      case rest809 =>
      go_frame
      refine' wpAnyH_take (i := 38) (oi := ⟨some 57, .move (.tmp 0), _, _, _, some (37, true)⟩) (v := _) rfl (by kernel_rfl) (by kernel_rfl) (by kernel_rfl) (fun _ _ _ h => h) (Or.inl ⟨by rfl, ?hy810⟩) (by assumption) ?rest810
      case hy810 => (intro w hSw; obtain ⟨s1, s2, s3, s4⟩ := hSw; go_simp <;> with_reducible rfl)
      case rest810 =>
      go_frame
      refine' wpAnyH_take (i := 39) (oi := ⟨some 58, .move (.tmp 2), _, _, _, some (37, true)⟩) (v := _) rfl (by kernel_rfl) (by kernel_rfl) (by kernel_rfl) (fun _ _ _ h => h) (Or.inl ⟨by rfl, ?hy811⟩) (by assumption) ?rest811
      case hy811 => (intro w hSw; obtain ⟨s1, s2, s3, s4⟩ := hSw; go_simp <;> with_reducible rfl)
      case rest811 =>
      go_frame
      refine' wpAnyH_take (i := 41) (oi := ⟨some 60, .move (.tmp 7), _, _, _, some (37, true)⟩) (v := _) rfl (by kernel_rfl) (by kernel_rfl) (by kernel_rfl) (fun _ _ _ h => h) (Or.inl ⟨by rfl, ?hy812⟩) (by assumption) ?rest812
      case hy812 => (intro w hSw; obtain ⟨s1, s2, s3, s4⟩ := hSw; go_simp <;> with_reducible rfl)
      case rest812 =>
      go_frame
      refine wpAnyH_ready (rs := [40]) (by kernel_rfl) (by simp) (AllReadyH.cons (o := ⟨some 59, .call { callee := .value (.func 37), args := #[.tmp 57, .tmp 58], argTypes := #[23, 3] }, _, _, _, some (37, true)⟩) rfl (fun K hK => ?_) AllReadyH.nil)
      rw [if_pos (by rfl)]
      go_simp
      refine ((HF0.out w6 Hb6.out)).mono ?_
      rintro e w7 ⟨rfl, rfl⟩
      dsimp only
      refine hK.out _ _ (HS.out _ Hb6.out) (fun _ => ?_)
      clear hK K
      try go_frame
      refine' wpAnyH_take (i := 42) (oi := ⟨some 61, .move (.tmp 60), _, _, _, some (37, true)⟩) (v := _) rfl (by kernel_rfl) (by kernel_rfl) (by kernel_rfl) (fun _ _ _ h => h) (Or.inl ⟨by rfl, ?hy813⟩) (by assumption) ?rest813
      case hy813 => (intro w hSw; obtain ⟨s1, s2, s3, s4⟩ := hSw; go_simp <;> with_reducible rfl)
      case rest813 =>
      go_frame
      refine' wpAnyH_take (i := 43) (oi := ⟨some 62, .move (.tmp 1), _, _, _, some (42, true)⟩) (v := _) rfl (by kernel_rfl) (by kernel_rfl) (by kernel_rfl) (fun _ _ _ h => h) (Or.inl ⟨by rfl, ?hy814⟩) (by assumption) ?rest814
      case hy814 => (intro w hSw; obtain ⟨s1, s2, s3, s4⟩ := hSw; go_simp <;> with_reducible rfl)
      case rest814 =>
      go_frame
      refine' wpAnyH_take (i := 44) (oi := ⟨some 63, .nilCheck (.tmp 62), _, _, _, some (42, true)⟩) (v := _) rfl (by kernel_rfl) (by kernel_rfl) (by kernel_rfl) (fun _ _ _ h => h) (Or.inl ⟨by rfl, ?hy815⟩) (by assumption) ?rest815
      case hy815 => (intro w hSw; obtain ⟨s1, s2, s3, s4⟩ := hSw; go_simp <;> with_reducible rfl)
      case rest815 =>
      go_frame
      refine' wpAnyH_take (i := 45) (oi := ⟨some 64, .fieldAddr 55 (.tmp 63) 0, _, _, _, some (42, true)⟩) (v := _) rfl (by kernel_rfl) (by kernel_rfl) (by kernel_rfl) (fun _ _ _ h => h) (Or.inl ⟨by rfl, ?hy816⟩) (by assumption) ?rest816
      case hy816 => (intro w hSw; obtain ⟨s1, s2, s3, s4⟩ := hSw; go_simp <;> with_reducible rfl)
      case rest816 =>
      go_frame
      refine' wpAnyH_take (i := 46) (oi := ⟨some 65, .load 53 (.tmp 64), _, _, _, some (42, true)⟩) (v := _) rfl (by kernel_rfl) (by kernel_rfl) (by kernel_rfl) (fun _ _ _ h => h) (Or.inl ⟨by rfl, ?hy817⟩) (by assumption) ?rest817
      case hy817 => (intro w hSw; obtain ⟨s1, s2, s3, s4⟩ := hSw; go_simp <;> with_reducible rfl)
      case rest817 =>
      go_frame
      refine' wpAnyH_take (i := 47) (oi := ⟨some 66, .move (.tmp 2), _, _, _, some (42, true)⟩) (v := _) rfl (by kernel_rfl) (by kernel_rfl) (by kernel_rfl) (fun _ _ _ h => h) (Or.inl ⟨by rfl, ?hy818⟩) (by assumption) ?rest818
      case hy818 => (intro w hSw; obtain ⟨s1, s2, s3, s4⟩ := hSw; go_simp <;> with_reducible rfl)
      case rest818 =>
      go_frame
      refine' wpAnyH_take (i := 48) (oi := ⟨some 67, .indexAddr 53 (.tmp 65) (.tmp 66), _, _, _, some (42, true)⟩) (v := _) rfl (by kernel_rfl) (by kernel_rfl) (by kernel_rfl) (fun _ _ _ h => h) (Or.inl ⟨by rfl, ?hy819⟩) (by assumption) ?rest819
      case hy819 => (intro w hSw; obtain ⟨s1, s2, s3, s4⟩ := hSw; go_simp <;> with_reducible rfl)
      case rest819 =>
      go_frame
      refine' wpAnyH_take (i := 49) (oi := ⟨some 68, .load 4 (.tmp 67), _, _, _, some (42, true)⟩) (v := _) rfl (by kernel_rfl) (by kernel_rfl) (by kernel_rfl) (fun _ _ _ h => h) (Or.inl ⟨by rfl, ?hy820⟩) (by assumption) ?rest820
      case hy820 => (intro w hSw; obtain ⟨s1, s2, s3, s4⟩ := hSw; go_simp <;> with_reducible rfl)
      case rest820 =>
      go_frame
      refine' wpAnyH_take (i := 50) (oi := ⟨some 69, .pick (.tmp 61) (.tmp 68) (.const (.bool false)), _, _, _, some (37, true)⟩) (v := _) rfl (by kernel_rfl) (by kernel_rfl) (by kernel_rfl) (fun _ _ _ h => h) (Or.inl ⟨by rfl, ?hy821⟩) (by assumption) ?rest821
      case hy821 => (intro w hSw; obtain ⟨s1, s2, s3, s4⟩ := hSw; go_simp <;> with_reducible rfl)
      case rest821 =>
      go_frame
      refine' wpAnyH_take (i := 51) (oi := ⟨some 70, .move (.tmp 69), _, _, _, some (37, true)⟩) (v := _) rfl (by kernel_rfl) (by kernel_rfl) (by kernel_rfl) (fun _ _ _ h => h) (Or.inl ⟨by rfl, ?hy822⟩) (by assumption) ?rest822
      case hy822 => (intro w hSw; obtain ⟨s1, s2, s3, s4⟩ := hSw; go_simp <;> with_reducible rfl)
      case rest822 =>
      go_frame
      refine' wpAnyH_take (i := 52) (oi := ⟨some 71, .move (.tmp 1), _, _, _, some (51, true)⟩) (v := _) rfl (by kernel_rfl) (by kernel_rfl) (by kernel_rfl) (fun _ _ _ h => h) (Or.inl ⟨by rfl, ?hy823⟩) (by assumption) ?rest823
      case hy823 => (intro w hSw; obtain ⟨s1, s2, s3, s4⟩ := hSw; go_simp <;> with_reducible rfl)
      case rest823 =>
      go_frame
      refine' wpAnyH_take (i := 53) (oi := ⟨some 72, .nilCheck (.tmp 71), _, _, _, some (51, true)⟩) (v := _) rfl (by kernel_rfl) (by kernel_rfl) (by kernel_rfl) (fun _ _ _ h => h) (Or.inl ⟨by rfl, ?hy824⟩) (by assumption) ?rest824
      case hy824 => (intro w hSw; obtain ⟨s1, s2, s3, s4⟩ := hSw; go_simp <;> with_reducible rfl)
      case rest824 =>
      go_frame
      refine' wpAnyH_take (i := 54) (oi := ⟨some 73, .fieldAddr 55 (.tmp 72) 1, _, _, _, some (51, true)⟩) (v := _) rfl (by kernel_rfl) (by kernel_rfl) (by kernel_rfl) (fun _ _ _ h => h) (Or.inl ⟨by rfl, ?hy825⟩) (by assumption) ?rest825
      case hy825 => (intro w hSw; obtain ⟨s1, s2, s3, s4⟩ := hSw; go_simp <;> with_reducible rfl)
      case rest825 =>
      go_frame
      refine' wpAnyH_take (i := 55) (oi := ⟨some 74, .load 53 (.tmp 73), _, _, _, some (51, true)⟩) (v := _) rfl (by kernel_rfl) (by kernel_rfl) (by kernel_rfl) (fun _ _ _ h => h) (Or.inl ⟨by rfl, ?hy826⟩) (by assumption) ?rest826
      case hy826 => (intro w hSw; obtain ⟨s1, s2, s3, s4⟩ := hSw; go_simp <;> with_reducible rfl)
      case rest826 =>
      go_frame
      refine' wpAnyH_take (i := 56) (oi := ⟨some 75, .move (.tmp 2), _, _, _, some (51, true)⟩) (v := _) rfl (by kernel_rfl) (by kernel_rfl) (by kernel_rfl) (fun _ _ _ h => h) (Or.inl ⟨by rfl, ?hy827⟩) (by assumption) ?rest827
      case hy827 => (intro w hSw; obtain ⟨s1, s2, s3, s4⟩ := hSw; go_simp <;> with_reducible rfl)
      case rest827 =>
      go_frame
      refine' wpAnyH_take (i := 57) (oi := ⟨some 76, .indexAddr 53 (.tmp 74) (.tmp 75), _, _, _, some (51, true)⟩) (v := _) rfl (by kernel_rfl) (by kernel_rfl) (by kernel_rfl) (fun _ _ _ h => h) (Or.inl ⟨by rfl, ?hy828⟩) (by assumption) ?rest828
      case hy828 => (intro w hSw; obtain ⟨s1, s2, s3, s4⟩ := hSw; go_simp <;> with_reducible rfl)
      case rest828 =>
      go_frame
      refine' wpAnyH_take (i := 58) (oi := ⟨some 77, .load 4 (.tmp 76), _, _, _, some (51, true)⟩) (v := _) rfl (by kernel_rfl) (by kernel_rfl) (by kernel_rfl) (fun _ _ _ h => h) (Or.inl ⟨by rfl, ?hy829⟩) (by assumption) ?rest829
      case hy829 => (intro w hSw; obtain ⟨s1, s2, s3, s4⟩ := hSw; go_simp <;> with_reducible rfl)
      case rest829 =>
      go_frame
      refine' wpAnyH_take (i := 59) (oi := ⟨some 78, .unOp .not 4 (.tmp 77), _, _, _, some (51, true)⟩) (v := _) rfl (by kernel_rfl) (by kernel_rfl) (by kernel_rfl) (fun _ _ _ h => h) (Or.inl ⟨by rfl, ?hy830⟩) (by assumption) ?rest830
      case hy830 => (intro w hSw; obtain ⟨s1, s2, s3, s4⟩ := hSw; go_simp <;> with_reducible rfl)
      case rest830 =>
      go_frame
      refine' wpAnyH_take (i := 60) (oi := ⟨some 79, .pick (.tmp 70) (.tmp 78) (.const (.bool false)), _, _, _, some (37, true)⟩) (v := _) rfl (by kernel_rfl) (by kernel_rfl) (by kernel_rfl) (fun _ _ _ h => h) (Or.inl ⟨by rfl, ?hy831⟩) (by assumption) ?rest831
      case hy831 => (intro w hSw; obtain ⟨s1, s2, s3, s4⟩ := hSw; go_simp <;> with_reducible rfl)
      case rest831 =>
      go_frame
      refine' wpAnyH_take (i := 61) (oi := ⟨some 80, .binOp .eql 4 (.tmp 59) (.tmp 79) 4, _, _, _, some (37, true)⟩) (v := _) rfl (by kernel_rfl) (by kernel_rfl) (by kernel_rfl) (fun _ _ _ h => h) (Or.inl ⟨by rfl, ?hy832⟩) (by assumption) ?rest832
      case hy832 => (intro w hSw; obtain ⟨s1, s2, s3, s4⟩ := hSw; go_simp <;> with_reducible rfl)
      case rest832 =>
      go_frame
      refine' wpAnyH_take (i := 62) (oi := ⟨some 81, .pick (.tmp 56) (.tmp 80) (.const (.bool false)), _, _, _, none⟩) (v := _) rfl (by kernel_rfl) (by kernel_rfl) (by kernel_rfl) (fun _ _ _ h => h) (Or.inl ⟨by rfl, ?hy833⟩) (by assumption) ?rest833
      case hy833 => (intro w hSw; obtain ⟨s1, s2, s3, s4⟩ := hSw; go_simp <;> with_reducible rfl)
      case rest833 =>
      go_frame
      refine' wpAnyH_take (i := 63) (oi := ⟨some 6, .assign (.tmp 81), _, _, _, none⟩) (v := _) rfl (by kernel_rfl) (by kernel_rfl) (by kernel_rfl) (fun _ _ _ h => h) (Or.inl ⟨by rfl, ?hy834⟩) (by assumption) ?rest834
      case hy834 => (intro w hSw; obtain ⟨s1, s2, s3, s4⟩ := hSw; go_simp <;> with_reducible rfl)
      case rest834 =>
      go_frame
      refine wpAnyH_done (by kernel_rfl) ?_ _
      go_wp2_with fail
      go_ret
      exact ⟨by simp, Hb6.out⟩
end
end Go.Proofs.Ytllhilnajjohiaa
