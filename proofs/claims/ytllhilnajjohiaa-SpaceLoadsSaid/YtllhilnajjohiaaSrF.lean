/-
  A space and the document's: alike at a page that is not taken now.
-/
import Derived.Test.YtllhilnajjohiaaSrE
namespace Go.Proofs.Ytllhilnajjohiaa
open Go.RowKit
section
variable {w w' : World} {a p gn cn gs cs : Nat} {x : Spc}
set_option maxRecDepth 100000 in
set_option maxHeartbeats 4000000 in
theorem alike_ff (h : SpTwo w a p gn cn gs cs x) {k : Nat} (hk : k < x.n) (ht : x.now k = false) (hs : x.sure k = false) :
    Calls Try.prog 18 #[spAt a, spAt p, .int .i64 (k : Int)] w fun e w' => e = .returned (.bool true) ∧ Below w.heap.size w w' := by
  have HT : Hid (∀ w', Below w.heap.size w w' → SpTwo w' a p gn cn gs cs x) := Lib.hid fun w' hb => h.below hb
  have Hb0 : Hid (Below w.heap.size w w.drew) := Lib.hid (Below.refl _ _).drew
  obtain ⟨r, hr⟩ : ∃ r, r = _root_.Go.Proofs.Ytllhilnajjohiaa.free x.held x.n := ⟨_, rfl⟩
  obtain ⟨m, hm⟩ : ∃ m, m = (used x.now x.n).length := ⟨_, rfl⟩
  obtain ⟨L, hL⟩ : ∃ L, L = x.bytes := ⟨_, rfl⟩
  have Hm : Hid (m < 1000000) := Lib.hid (by have := used_le x.now x.n; have := h.sp.ok.size; omega)
  have HR0 : Hid (Calls Try.prog 23 #[spAt a] w.drew fun e w' => e = .returned (.int .i64 (r : Int)) ∧ Below w.heap.size w.drew w') := Lib.hid (by rw [hr]; exact room_any (HT.out _ Hb0.out).sp)
  have HR1 : Hid (∀ w1, Below w.heap.size w w1 → Calls Try.prog 31 #[spAt p] w1 fun e w' => e = .returned (.int .i64 (r : Int)) ∧ w1 = w') := Lib.hid fun w1 hb => by rw [hr]; exact rroom_any (HT.out _ hb).rf
  have HU0 := Lib.hid fun w1 hb => usedS_any (HT.out w1 hb).sp hm
  have HU1 := Lib.hid fun w1 hb => rusedS_any (HT.out w1 hb).rf hm
  have HB0 := Lib.hid fun w1 hb => bytesS_any (HT.out w1 hb).sp hL
  have HB1 := Lib.hid fun w1 hb => rbytesS_any (HT.out w1 hb).rf hL
  have HS : Hid (∀ w', Below w.heap.size w w' → w'.cell? ⟨p, 0, none⟩ = some (.slice (some ⟨gn, 0, none⟩) x.n cn) ∧ w'.cell? ⟨p, 1, none⟩ = some (.slice (some ⟨gs, 0, none⟩) x.n cs) ∧ w'.cell? ⟨gn, k, none⟩ = some (.bool false) ∧ w'.cell? ⟨gs, k, none⟩ = some (.bool false)) := Lib.hid fun w' hb => by
    have h' := (HT.out w' hb).rf
    refine ⟨h'.c0, h'.c1, ?_, ?_⟩
    · rw [← ht]; exact h'.cN hk
    · rw [← hs]; exact h'.cS hk
  have HT0 : Hid (∀ w1, Below w.heap.size w w1 → Calls Try.prog 36 #[spAt a, .int .i64 (k : Int)] w1 fun e w' => e = .returned (.bool false) ∧ w1 = w') := Lib.hid fun w1 hb => by
    have := taken_any (HT.out w1 hb).sp (k : Int)
    rwa [Spc.taken_page, ht] at this
  have HF0 : Hid (∀ w1, Below w.heap.size w w1 → Calls Try.prog 37 #[spAt a, .int .i64 (k : Int)] w1 fun e w' => e = .returned (.bool false) ∧ w1 = w') := Lib.hid fun w1 hb => by
    have := fresh_any (HT.out w1 hb).sp (k : Int)
    rwa [Spc.fresh_page, ht, hs] at this
  have k0 : (0 : Int) ≤ (k : Int) := by omega
  have k1 : (k : Int) < (x.n : Int) := by omega
  have k2 : (k : Int).toNat = k := by simp
  clear ht hs
  have h0 := h.rf.c0
  have h1 := h.rf.c1
  have hcn := h.rf.rN.caps.1
  have hcs := h.rf.rS.caps.1
  have hn2 := h.sp.ok.size
  clear HT h hr hm hL
  go_enter Try.func18, Try.ntmps18
  go_wp2_with fail
  refine wp_region_held_drew (S := fun w' => w'.cell? ⟨p, 0, none⟩ = some (.slice (some ⟨gn, 0, none⟩) x.n cn) ∧ w'.cell? ⟨p, 1, none⟩ = some (.slice (some ⟨gs, 0, none⟩) x.n cs) ∧ w'.cell? ⟨gn, k, none⟩ = some (.bool false) ∧ w'.cell? ⟨gs, k, none⟩ = some (.bool false)) (by kernel_rfl) (HS.out _ Hb0.out) (fun hHeld => ?_)
  refine' wpAnyH_take (i := 0) (oi := ⟨some 19, .move (.tmp 0), _, _, _, none⟩) (v := _) rfl (by kernel_rfl) (by kernel_rfl) (by kernel_rfl) (fun _ _ _ h => h) (Or.inl ⟨by rfl, ?hy279⟩) (by assumption) ?rest279
  case hy279 => (intro w hSw; obtain ⟨s1, s2, s3, s4⟩ := hSw; go_simp <;> with_reducible rfl)
  case rest279 =>
  go_frame
  refine' wpAnyH_take (i := 2) (oi := ⟨some 21, .move (.tmp 1), _, _, _, none⟩) (v := _) rfl (by kernel_rfl) (by kernel_rfl) (by kernel_rfl) (fun _ _ _ h => h) (Or.inl ⟨by rfl, ?hy280⟩) (by assumption) ?rest280
  case hy280 => (intro w hSw; obtain ⟨s1, s2, s3, s4⟩ := hSw; go_simp <;> with_reducible rfl)
  case rest280 =>
  go_frame
  refine wpAnyH_ready (rs := [1]) (by kernel_rfl) (by simp) (AllReadyH.cons (o := ⟨some 20, .call { callee := .value (.func 23), args := #[.tmp 19], argTypes := #[23] }, _, _, _, none⟩) rfl (fun K hK => ?_) AllReadyH.nil)
  rw [if_pos (by rfl)]
  go_simp
  refine (HR0.out).mono ?_
  rintro e w1 ⟨rfl, hb1⟩
  have Hb1 := Lib.hid (up Hb0.out hb1)
  clear hb1
  dsimp only
  refine hK.out _ _ (HS.out _ Hb1.out) (fun _ => ?_)
  clear hK K
  try go_frame
  refine wpAnyH_ready (rs := [3]) (by kernel_rfl) (by simp) (AllReadyH.cons (o := ⟨some 22, .call { callee := .value (.func 31), args := #[.tmp 21], argTypes := #[28] }, _, _, _, none⟩) rfl (fun K hK => ?_) AllReadyH.nil)
  rw [if_pos (by rfl)]
  go_simp
  refine ((HR1.out w1 Hb1.out)).mono ?_
  rintro e w2 ⟨rfl, rfl⟩
  dsimp only
  refine hK.out _ _ (HS.out _ Hb1.out) (fun _ => ?_)
  clear hK K
  try go_frame
  refine' wpAnyH_take (i := 4) (oi := ⟨some 23, .binOp .eql 3 (.tmp 20) (.tmp 22) 3, _, _, _, none⟩) (v := _) rfl (by kernel_rfl) (by kernel_rfl) (by kernel_rfl) (fun _ _ _ h => h) (Or.inl ⟨by rfl, ?hy281⟩) (by assumption) ?rest281
  case hy281 => (intro w hSw; obtain ⟨s1, s2, s3, s4⟩ := hSw; go_simp <;> with_reducible rfl)
  case rest281 =>
  go_frame
  refine' wpAnyH_take (i := 5) (oi := ⟨some 24, .move (.tmp 23), _, _, _, none⟩) (v := _) rfl (by kernel_rfl) (by kernel_rfl) (by kernel_rfl) (fun _ _ _ h => h) (Or.inl ⟨by rfl, ?hy282⟩) (by assumption) ?rest282
  case hy282 => (intro w hSw; obtain ⟨s1, s2, s3, s4⟩ := hSw; go_simp <;> with_reducible rfl)
  case rest282 =>
  go_frame
  refine' wpAnyH_take (i := 6) (oi := ⟨some 25, .move (.tmp 0), _, _, _, some (5, true)⟩) (v := _) rfl (by kernel_rfl) (by kernel_rfl) (by kernel_rfl) (fun _ _ _ h => h) (Or.inl ⟨by rfl, ?hy283⟩) (by assumption) ?rest283
  case hy283 => (intro w hSw; obtain ⟨s1, s2, s3, s4⟩ := hSw; go_simp <;> with_reducible rfl)
  case rest283 =>
  go_frame
  refine' wpAnyH_take (i := 8) (oi := ⟨some 27, .move (.tmp 1), _, _, _, some (5, true)⟩) (v := _) rfl (by kernel_rfl) (by kernel_rfl) (by kernel_rfl) (fun _ _ _ h => h) (Or.inl ⟨by rfl, ?hy284⟩) (by assumption) ?rest284
  case hy284 => (intro w hSw; obtain ⟨s1, s2, s3, s4⟩ := hSw; go_simp <;> with_reducible rfl)
  case rest284 =>
  go_frame
  refine wpAnyH_ready (rs := [7]) (by kernel_rfl) (by simp) (AllReadyH.cons (o := ⟨some 26, .call { callee := .value (.func 33), args := #[.tmp 25], argTypes := #[23] }, _, _, _, some (5, true)⟩) rfl (fun K hK => ?_) AllReadyH.nil)
  rw [if_pos (by rfl)]
  go_simp
  refine ((HU0.out w1 Hb1.out)).mono ?_
  rintro e w2 ⟨A2, c2, rfl, hr2, hb2⟩
  have Hb2 := Lib.hid (up Hb1.out hb2)
  have Hr2 := Lib.hid hr2
  clear hr2 hb2
  dsimp only
  refine hK.out _ _ (HS.out _ Hb2.out) (fun _ => ?_)
  clear hK K
  try go_frame
  refine wpAnyH_ready (rs := [9]) (by kernel_rfl) (by simp) (AllReadyH.cons (o := ⟨some 28, .call { callee := .value (.func 34), args := #[.tmp 27], argTypes := #[28] }, _, _, _, some (5, true)⟩) rfl (fun K hK => ?_) AllReadyH.nil)
  rw [if_pos (by rfl)]
  go_simp
  refine ((HU1.out w2 Hb2.out)).mono ?_
  rintro e w3 ⟨A3, c3, rfl, hr3, hb3⟩
  have Hb3 := Lib.hid (up Hb2.out hb3)
  have Hi3 := Lib.hid (ints_same (w := w3) (c := c2) (c2 := c3) (rd_ints (Hr2.out.below hb3)) (rd_ints hr3) Hm.out)
  clear hr3 hb3 Hr2
  dsimp only
  refine hK.out _ _ (HS.out _ Hb3.out) (fun _ => ?_)
  clear hK K
  try go_frame
  refine wpAnyH_ready (rs := [10]) (by kernel_rfl) (by simp) (AllReadyH.cons (o := ⟨some 29, .call { callee := .value (.func 32), args := #[.tmp 26, .tmp 28], argTypes := #[58, 58] }, _, _, _, some (5, true)⟩) rfl (fun K hK => ?_) AllReadyH.nil)
  rw [if_pos (by rfl)]
  go_simp
  refine (Hi3.out).mono ?_
  rintro e w4 ⟨rfl, hb4⟩
  have Hb4 := Lib.hid (up Hb3.out hb4)
  clear hb4 Hi3
  dsimp only
  refine hK.out _ _ (HS.out _ Hb4.out) (fun _ => ?_)
  clear hK K
  try go_frame
  refine' wpAnyH_take (i := 11) (oi := ⟨some 30, .pick (.tmp 24) (.tmp 29) (.const (.bool false)), _, _, _, none⟩) (v := _) rfl (by kernel_rfl) (by kernel_rfl) (by kernel_rfl) (fun _ _ _ h => h) (Or.inl ⟨by rfl, ?hy285⟩) (by assumption) ?rest285
  case hy285 => (intro w hSw; obtain ⟨s1, s2, s3, s4⟩ := hSw; go_simp <;> with_reducible rfl)
  case rest285 =>
  go_frame
  refine' wpAnyH_take (i := 12) (oi := ⟨some 31, .move (.tmp 30), _, _, _, none⟩) (v := _) rfl (by kernel_rfl) (by kernel_rfl) (by kernel_rfl) (fun _ _ _ h => h) (Or.inl ⟨by rfl, ?hy286⟩) (by assumption) ?rest286
  case hy286 => (intro w hSw; obtain ⟨s1, s2, s3, s4⟩ := hSw; go_simp <;> with_reducible rfl)
  case rest286 =>
  go_frame
  refine' wpAnyH_take (i := 13) (oi := ⟨some 32, .move (.tmp 0), _, _, _, some (12, true)⟩) (v := _) rfl (by kernel_rfl) (by kernel_rfl) (by kernel_rfl) (fun _ _ _ h => h) (Or.inl ⟨by rfl, ?hy287⟩) (by assumption) ?rest287
  case hy287 => (intro w hSw; obtain ⟨s1, s2, s3, s4⟩ := hSw; go_simp <;> with_reducible rfl)
  case rest287 =>
  go_frame
  refine' wpAnyH_take (i := 16) (oi := ⟨some 35, .move (.tmp 1), _, _, _, some (12, true)⟩) (v := _) rfl (by kernel_rfl) (by kernel_rfl) (by kernel_rfl) (fun _ _ _ h => h) (Or.inl ⟨by rfl, ?hy288⟩) (by assumption) ?rest288
  case hy288 => (intro w hSw; obtain ⟨s1, s2, s3, s4⟩ := hSw; go_simp <;> with_reducible rfl)
  case rest288 =>
  go_frame
  refine wpAnyH_ready (rs := [14]) (by kernel_rfl) (by simp) (AllReadyH.cons (o := ⟨some 33, .call { callee := .value (.func 22), args := #[.tmp 32], argTypes := #[23] }, _, _, _, some (12, true)⟩) rfl (fun K hK => ?_) AllReadyH.nil)
  rw [if_pos (by rfl)]
  go_simp
  refine ((HB0.out w4 Hb4.out)).mono ?_
  rintro e w5 ⟨A5, n5, c5, rfl, hr5, hb5⟩
  have Hb5 := Lib.hid (up Hb4.out hb5)
  have Hr5 := Lib.hid hr5
  clear hr5 hb5
  dsimp only
  refine hK.out _ _ (HS.out _ Hb5.out) (fun _ => ?_)
  clear hK K
  try go_frame
  refine wpAnyH_ready (rs := [15, 17]) (by kernel_rfl) (by simp) (AllReadyH.cons (o := ⟨some 34, .convert 39 9 (.tmp 33), _, _, _, some (12, true)⟩) rfl (fun K hK => ?_) (AllReadyH.cons (o := ⟨some 36, .call { callee := .value (.func 35), args := #[.tmp 35], argTypes := #[28] }, _, _, _, some (12, true)⟩) rfl (fun K hK => ?_) AllReadyH.nil))
  · rw [if_pos (by rfl)]
    refine wp_run (.string ⟨L.toArray⟩) w5 (exec_conv (s := 39) (t := 9) (x := .tmp 33) rfl (v := .slice A5 n5 c5) rfl (run_string_rd (P := Try.prog) 39 9 5 Try.underlying39 Try.underlying5 Try.underlying9 Hr5.out)) ?_
    refine hK.out _ _ (HS.out _ Hb5.out) (fun _ => ?_)
    clear hK K
    try go_frame
    refine wpAnyH_ready (rs := [17]) (by kernel_rfl) (by simp) (AllReadyH.cons (o := ⟨some 36, .call { callee := .value (.func 35), args := #[.tmp 35], argTypes := #[28] }, _, _, _, some (12, true)⟩) rfl (fun K hK => ?_) AllReadyH.nil)
    rw [if_pos (by rfl)]
    go_simp
    refine ((HB1.out w5 Hb5.out)).mono ?_
    rintro e w6 ⟨A6, n6, c6, rfl, hr6, hb6⟩
    have Hb6 := Lib.hid (up Hb5.out hb6)
    have Hr6 := Lib.hid hr6
    have Hr56 := Lib.hid (Hr5.out.below hb6)
    clear hr6 hb6
    dsimp only
    refine hK.out _ _ (HS.out _ Hb6.out) (fun _ => ?_)
    clear hK K
    try go_frame
    refine wpAnyH_ready (rs := [18]) (by kernel_rfl) (by simp) (AllReadyH.cons (o := ⟨some 37, .convert 39 9 (.tmp 36), _, _, _, some (12, true)⟩) rfl (fun K hK => ?_) AllReadyH.nil)
    rw [if_pos (by rfl)]
    refine wp_run (.string ⟨L.toArray⟩) w6 (exec_conv (s := 39) (t := 9) (x := .tmp 36) rfl (v := .slice A6 n6 c6) rfl (run_string_rd (P := Try.prog) 39 9 5 Try.underlying39 Try.underlying5 Try.underlying9 Hr6.out)) ?_
    refine hK.out _ _ (HS.out _ Hb6.out) (fun _ => ?_)
    clear hK K
    try go_frame
    refine' wpAnyH_take (i := 19) (oi := ⟨some 38, .binOp .eql 9 (.tmp 34) (.tmp 37) 9, _, _, _, some (12, true)⟩) (v := _) rfl (by kernel_rfl) (by kernel_rfl) (by kernel_rfl) (fun _ _ _ h => h) (Or.inl ⟨by rfl, ?hy289⟩) (by assumption) ?rest289
    case hy289 => (intro w hSw; obtain ⟨s1, s2, s3, s4⟩ := hSw; go_simp <;> with_reducible rfl)
    case rest289 =>
    go_frame
    refine' wpAnyH_take (i := 20) (oi := ⟨some 39, .pick (.tmp 31) (.tmp 38) (.const (.bool false)), _, _, _, none⟩) (v := _) rfl (by kernel_rfl) (by kernel_rfl) (by kernel_rfl) (fun _ _ _ h => h) (Or.inl ⟨by rfl, ?hy290⟩) (by assumption) ?rest290
    case hy290 => (intro w hSw; obtain ⟨s1, s2, s3, s4⟩ := hSw; go_simp <;> with_reducible rfl)
    case rest290 =>
    go_frame
    refine' wpAnyH_take (i := 21) (oi := ⟨some 40, .move (.tmp 39), _, _, _, none⟩) (v := _) rfl (by kernel_rfl) (by kernel_rfl) (by kernel_rfl) (fun _ _ _ h => h) (Or.inl ⟨by rfl, ?hy291⟩) (by assumption) ?rest291
    case hy291 => (intro w hSw; obtain ⟨s1, s2, s3, s4⟩ := hSw; go_simp <;> with_reducible rfl)
    case rest291 =>
    go_frame
    refine' wpAnyH_take (i := 22) (oi := ⟨some 41, .move (.tmp 0), _, _, _, some (21, true)⟩) (v := _) rfl (by kernel_rfl) (by kernel_rfl) (by kernel_rfl) (fun _ _ _ h => h) (Or.inl ⟨by rfl, ?hy292⟩) (by assumption) ?rest292
    case hy292 => (intro w hSw; obtain ⟨s1, s2, s3, s4⟩ := hSw; go_simp <;> with_reducible rfl)
    case rest292 =>
    go_frame
    refine' wpAnyH_take (i := 23) (oi := ⟨some 42, .move (.tmp 2), _, _, _, some (21, true)⟩) (v := _) rfl (by kernel_rfl) (by kernel_rfl) (by kernel_rfl) (fun _ _ _ h => h) (Or.inl ⟨by rfl, ?hy293⟩) (by assumption) ?rest293
    case hy293 => (intro w hSw; obtain ⟨s1, s2, s3, s4⟩ := hSw; go_simp <;> with_reducible rfl)
    case rest293 =>
    go_frame
    refine' wpAnyH_take (i := 25) (oi := ⟨some 44, .move (.tmp 7), _, _, _, some (21, true)⟩) (v := _) rfl (by kernel_rfl) (by kernel_rfl) (by kernel_rfl) (fun _ _ _ h => h) (Or.inl ⟨by rfl, ?hy294⟩) (by assumption) ?rest294
    case hy294 => (intro w hSw; obtain ⟨s1, s2, s3, s4⟩ := hSw; go_simp <;> with_reducible rfl)
    case rest294 =>
    go_frame
    refine wpAnyH_ready (rs := [24]) (by kernel_rfl) (by simp) (AllReadyH.cons (o := ⟨some 43, .call { callee := .value (.func 36), args := #[.tmp 41, .tmp 42], argTypes := #[23, 3] }, _, _, _, some (21, true)⟩) rfl (fun K hK => ?_) AllReadyH.nil)
    rw [if_pos (by rfl)]
    go_simp
    refine ((HT0.out w6 Hb6.out)).mono ?_
    rintro e w7 ⟨rfl, rfl⟩
    dsimp only
    refine hK.out _ _ (HS.out _ Hb6.out) (fun _ => ?_)
    clear hK K
    try go_frame
    refine' wpAnyH_take (i := 26) (oi := ⟨some 45, .move (.tmp 44), _, _, _, some (21, true)⟩) (v := _) rfl (by kernel_rfl) (by kernel_rfl) (by kernel_rfl) (fun _ _ _ h => h) (Or.inl ⟨by rfl, ?hy295⟩) (by assumption) ?rest295
    case hy295 => (intro w hSw; obtain ⟨s1, s2, s3, s4⟩ := hSw; go_simp <;> with_reducible rfl)
    case rest295 =>
    go_frame
    refine' wpAnyH_take (i := 27) (oi := ⟨some 46, .move (.tmp 1), _, _, _, some (26, true)⟩) (v := _) rfl (by kernel_rfl) (by kernel_rfl) (by kernel_rfl) (fun _ _ _ h => h) (Or.inl ⟨by rfl, ?hy296⟩) (by assumption) ?rest296
    case hy296 => (intro w hSw; obtain ⟨s1, s2, s3, s4⟩ := hSw; go_simp <;> with_reducible rfl)
    case rest296 =>
    go_frame
    refine' wpAnyH_take (i := 28) (oi := ⟨some 47, .nilCheck (.tmp 46), _, _, _, some (26, true)⟩) (v := _) rfl (by kernel_rfl) (by kernel_rfl) (by kernel_rfl) (fun _ _ _ h => h) (Or.inl ⟨by rfl, ?hy297⟩) (by assumption) ?rest297
    case hy297 => (intro w hSw; obtain ⟨s1, s2, s3, s4⟩ := hSw; go_simp <;> with_reducible rfl)
    case rest297 =>
    go_frame
    refine' wpAnyH_take (i := 29) (oi := ⟨some 48, .fieldAddr 55 (.tmp 47) 0, _, _, _, some (26, true)⟩) (v := _) rfl (by kernel_rfl) (by kernel_rfl) (by kernel_rfl) (fun _ _ _ h => h) (Or.inl ⟨by rfl, ?hy298⟩) (by assumption) ?rest298
    case hy298 => (intro w hSw; obtain ⟨s1, s2, s3, s4⟩ := hSw; go_simp <;> with_reducible rfl)
    case rest298 =>
    go_frame
    refine' wpAnyH_take (i := 30) (oi := ⟨some 49, .load 53 (.tmp 48), _, _, _, some (26, true)⟩) (v := _) rfl (by kernel_rfl) (by kernel_rfl) (by kernel_rfl) (fun _ _ _ h => h) (Or.inl ⟨by rfl, ?hy299⟩) (by assumption) ?rest299
    case hy299 => (intro w hSw; obtain ⟨s1, s2, s3, s4⟩ := hSw; go_simp <;> with_reducible rfl)
    case rest299 =>
    go_frame
    refine' wpAnyH_take (i := 31) (oi := ⟨some 50, .move (.tmp 2), _, _, _, some (26, true)⟩) (v := _) rfl (by kernel_rfl) (by kernel_rfl) (by kernel_rfl) (fun _ _ _ h => h) (Or.inl ⟨by rfl, ?hy300⟩) (by assumption) ?rest300
    case hy300 => (intro w hSw; obtain ⟨s1, s2, s3, s4⟩ := hSw; go_simp <;> with_reducible rfl)
    case rest300 =>
    go_frame
    refine' wpAnyH_take (i := 32) (oi := ⟨some 51, .indexAddr 53 (.tmp 49) (.tmp 50), _, _, _, some (26, true)⟩) (v := _) rfl (by kernel_rfl) (by kernel_rfl) (by kernel_rfl) (fun _ _ _ h => h) (Or.inl ⟨by rfl, ?hy301⟩) (by assumption) ?rest301
    case hy301 => (intro w hSw; obtain ⟨s1, s2, s3, s4⟩ := hSw; go_simp <;> with_reducible rfl)
    case rest301 =>
    go_frame
    refine' wpAnyH_take (i := 33) (oi := ⟨some 52, .load 4 (.tmp 51), _, _, _, some (26, true)⟩) (v := _) rfl (by kernel_rfl) (by kernel_rfl) (by kernel_rfl) (fun _ _ _ h => h) (Or.inl ⟨by rfl, ?hy302⟩) (by assumption) ?rest302
    case hy302 => (intro w hSw; obtain ⟨s1, s2, s3, s4⟩ := hSw; go_simp <;> with_reducible rfl)
    case rest302 =>
    go_frame
    refine' wpAnyH_take (i := 34) (oi := ⟨some 53, .pick (.tmp 45) (.tmp 52) (.const (.bool false)), _, _, _, some (21, true)⟩) (v := _) rfl (by kernel_rfl) (by kernel_rfl) (by kernel_rfl) (fun _ _ _ h => h) (Or.inl ⟨by rfl, ?hy303⟩) (by assumption) ?rest303
    case hy303 => (intro w hSw; obtain ⟨s1, s2, s3, s4⟩ := hSw; go_simp <;> with_reducible rfl)
    case rest303 =>
    go_frame
    refine' wpAnyH_take (i := 35) (oi := ⟨some 54, .binOp .eql 4 (.tmp 43) (.tmp 53) 4, _, _, _, some (21, true)⟩) (v := _) rfl (by kernel_rfl) (by kernel_rfl) (by kernel_rfl) (fun _ _ _ h => h) (Or.inl ⟨by rfl, ?hy304⟩) (by assumption) ?rest304
    case hy304 => (intro w hSw; obtain ⟨s1, s2, s3, s4⟩ := hSw; go_simp <;> with_reducible rfl)
    case rest304 =>
    go_frame
    refine' wpAnyH_take (i := 36) (oi := ⟨some 55, .pick (.tmp 40) (.tmp 54) (.const (.bool false)), _, _, _, none⟩) (v := _) rfl (by kernel_rfl) (by kernel_rfl) (by kernel_rfl) (fun _ _ _ h => h) (Or.inl ⟨by rfl, ?hy305⟩) (by assumption) ?rest305
    case hy305 => (intro w hSw; obtain ⟨s1, s2, s3, s4⟩ := hSw; go_simp <;> with_reducible rfl)
    case rest305 =>
    go_frame
    refine' wpAnyH_take (i := 37) (oi := ⟨some 56, .move (.tmp 55), _, _, _, none⟩) (v := _) rfl (by kernel_rfl) (by kernel_rfl) (by kernel_rfl) (fun _ _ _ h => h) (Or.inl ⟨by rfl, ?hy306⟩) (by assumption) ?rest306
    case hy306 => (intro w hSw; obtain ⟨s1, s2, s3, s4⟩ := hSw; go_simp <;> with_reducible rfl)
    case rest306 =>
    go_frame
    refine' wpAnyH_take (i := 38) (oi := ⟨some 57, .move (.tmp 0), _, _, _, some (37, true)⟩) (v := _) rfl (by kernel_rfl) (by kernel_rfl) (by kernel_rfl) (fun _ _ _ h => h) (Or.inl ⟨by rfl, ?hy307⟩) (by assumption) ?rest307
    case hy307 => (intro w hSw; obtain ⟨s1, s2, s3, s4⟩ := hSw; go_simp <;> with_reducible rfl)
    case rest307 =>
    go_frame
    refine' wpAnyH_take (i := 39) (oi := ⟨some 58, .move (.tmp 2), _, _, _, some (37, true)⟩) (v := _) rfl (by kernel_rfl) (by kernel_rfl) (by kernel_rfl) (fun _ _ _ h => h) (Or.inl ⟨by rfl, ?hy308⟩) (by assumption) ?rest308
    case hy308 => (intro w hSw; obtain ⟨s1, s2, s3, s4⟩ := hSw; go_simp <;> with_reducible rfl)
    case rest308 =>
    go_frame
    refine' wpAnyH_take (i := 41) (oi := ⟨some 60, .move (.tmp 7), _, _, _, some (37, true)⟩) (v := _) rfl (by kernel_rfl) (by kernel_rfl) (by kernel_rfl) (fun _ _ _ h => h) (Or.inl ⟨by rfl, ?hy309⟩) (by assumption) ?rest309
    case hy309 => (intro w hSw; obtain ⟨s1, s2, s3, s4⟩ := hSw; go_simp <;> with_reducible rfl)
    case rest309 =>
    go_frame
    refine wpAnyH_ready (rs := [40]) (by kernel_rfl) (by simp) (AllReadyH.cons (o := ⟨some 59, .call { callee := .value (.func 37), args := #[.tmp 57, .tmp 58], argTypes := #[23, 3] }, _, _, _, some (37, true)⟩) rfl (fun K hK => ?_) AllReadyH.nil)
    rw [if_pos (by rfl)]
    go_simp
    refine ((HF0.out w6 Hb6.out)).mono ?_
    rintro e w7 ⟨rfl, rfl⟩
    dsimp only
    refine hK.out _ _ (HS.out _ Hb6.out) (fun _ => ?_)
    clear hK K
    try go_frame
    refine' wpAnyH_take (i := 42) (oi := ⟨some 61, .move (.tmp 60), _, _, _, some (37, true)⟩) (v := _) rfl (by kernel_rfl) (by kernel_rfl) (by kernel_rfl) (fun _ _ _ h => h) (Or.inl ⟨by rfl, ?hy310⟩) (by assumption) ?rest310
    case hy310 => (intro w hSw; obtain ⟨s1, s2, s3, s4⟩ := hSw; go_simp <;> with_reducible rfl)
    case rest310 =>
    go_frame
    refine' wpAnyH_take (i := 43) (oi := ⟨some 62, .move (.tmp 1), _, _, _, some (42, true)⟩) (v := _) rfl (by kernel_rfl) (by kernel_rfl) (by kernel_rfl) (fun _ _ _ h => h) (Or.inl ⟨by rfl, ?hy311⟩) (by assumption) ?rest311
    case hy311 => (intro w hSw; obtain ⟨s1, s2, s3, s4⟩ := hSw; go_simp <;> with_reducible rfl)
    case rest311 =>
    go_frame
    refine' wpAnyH_take (i := 44) (oi := ⟨some 63, .nilCheck (.tmp 62), _, _, _, some (42, true)⟩) (v := _) rfl (by kernel_rfl) (by kernel_rfl) (by kernel_rfl) (fun _ _ _ h => h) (Or.inl ⟨by rfl, ?hy312⟩) (by assumption) ?rest312
    case hy312 => (intro w hSw; obtain ⟨s1, s2, s3, s4⟩ := hSw; go_simp <;> with_reducible rfl)
    case rest312 =>
    go_frame
    refine' wpAnyH_take (i := 45) (oi := ⟨some 64, .fieldAddr 55 (.tmp 63) 0, _, _, _, some (42, true)⟩) (v := _) rfl (by kernel_rfl) (by kernel_rfl) (by kernel_rfl) (fun _ _ _ h => h) (Or.inl ⟨by rfl, ?hy313⟩) (by assumption) ?rest313
    case hy313 => (intro w hSw; obtain ⟨s1, s2, s3, s4⟩ := hSw; go_simp <;> with_reducible rfl)
    case rest313 =>
    go_frame
    refine' wpAnyH_take (i := 46) (oi := ⟨some 65, .load 53 (.tmp 64), _, _, _, some (42, true)⟩) (v := _) rfl (by kernel_rfl) (by kernel_rfl) (by kernel_rfl) (fun _ _ _ h => h) (Or.inl ⟨by rfl, ?hy314⟩) (by assumption) ?rest314
    case hy314 => (intro w hSw; obtain ⟨s1, s2, s3, s4⟩ := hSw; go_simp <;> with_reducible rfl)
    case rest314 =>
    go_frame
    refine' wpAnyH_take (i := 47) (oi := ⟨some 66, .move (.tmp 2), _, _, _, some (42, true)⟩) (v := _) rfl (by kernel_rfl) (by kernel_rfl) (by kernel_rfl) (fun _ _ _ h => h) (Or.inl ⟨by rfl, ?hy315⟩) (by assumption) ?rest315
    case hy315 => (intro w hSw; obtain ⟨s1, s2, s3, s4⟩ := hSw; go_simp <;> with_reducible rfl)
    case rest315 =>
    go_frame
    refine' wpAnyH_take (i := 48) (oi := ⟨some 67, .indexAddr 53 (.tmp 65) (.tmp 66), _, _, _, some (42, true)⟩) (v := _) rfl (by kernel_rfl) (by kernel_rfl) (by kernel_rfl) (fun _ _ _ h => h) (Or.inl ⟨by rfl, ?hy316⟩) (by assumption) ?rest316
    case hy316 => (intro w hSw; obtain ⟨s1, s2, s3, s4⟩ := hSw; go_simp <;> with_reducible rfl)
    case rest316 =>
    go_frame
    refine' wpAnyH_take (i := 49) (oi := ⟨some 68, .load 4 (.tmp 67), _, _, _, some (42, true)⟩) (v := _) rfl (by kernel_rfl) (by kernel_rfl) (by kernel_rfl) (fun _ _ _ h => h) (Or.inl ⟨by rfl, ?hy317⟩) (by assumption) ?rest317
    case hy317 => (intro w hSw; obtain ⟨s1, s2, s3, s4⟩ := hSw; go_simp <;> with_reducible rfl)
    case rest317 =>
    go_frame
    refine' wpAnyH_take (i := 50) (oi := ⟨some 69, .pick (.tmp 61) (.tmp 68) (.const (.bool false)), _, _, _, some (37, true)⟩) (v := _) rfl (by kernel_rfl) (by kernel_rfl) (by kernel_rfl) (fun _ _ _ h => h) (Or.inl ⟨by rfl, ?hy318⟩) (by assumption) ?rest318
    case hy318 => (intro w hSw; obtain ⟨s1, s2, s3, s4⟩ := hSw; go_simp <;> with_reducible rfl)
    case rest318 =>
    go_frame
    refine' wpAnyH_take (i := 51) (oi := ⟨some 70, .move (.tmp 69), _, _, _, some (37, true)⟩) (v := _) rfl (by kernel_rfl) (by kernel_rfl) (by kernel_rfl) (fun _ _ _ h => h) (Or.inl ⟨by rfl, ?hy319⟩) (by assumption) ?rest319
    case hy319 => (intro w hSw; obtain ⟨s1, s2, s3, s4⟩ := hSw; go_simp <;> with_reducible rfl)
    case rest319 =>
    go_frame
    refine' wpAnyH_take (i := 52) (oi := ⟨some 71, .move (.tmp 1), _, _, _, some (51, true)⟩) (v := undef) rfl (by kernel_rfl) (by kernel_rfl) (by kernel_rfl) (fun _ _ _ h => h) (Or.inr ⟨by rfl, rfl⟩) (by assumption) ?rest320
    case rest320 =>
    go_frame
    refine' wpAnyH_take (i := 53) (oi := ⟨some 72, .nilCheck (.tmp 71), _, _, _, some (51, true)⟩) (v := undef) rfl (by kernel_rfl) (by kernel_rfl) (by kernel_rfl) (fun _ _ _ h => h) (Or.inr ⟨by rfl, rfl⟩) (by assumption) ?rest321
    case rest321 =>
    go_frame
    refine' wpAnyH_take (i := 54) (oi := ⟨some 73, .fieldAddr 55 (.tmp 72) 1, _, _, _, some (51, true)⟩) (v := undef) rfl (by kernel_rfl) (by kernel_rfl) (by kernel_rfl) (fun _ _ _ h => h) (Or.inr ⟨by rfl, rfl⟩) (by assumption) ?rest322
    case rest322 =>
    go_frame
    refine' wpAnyH_take (i := 55) (oi := ⟨some 74, .load 53 (.tmp 73), _, _, _, some (51, true)⟩) (v := undef) rfl (by kernel_rfl) (by kernel_rfl) (by kernel_rfl) (fun _ _ _ h => h) (Or.inr ⟨by rfl, rfl⟩) (by assumption) ?rest323
    case rest323 =>
    go_frame
    refine' wpAnyH_take (i := 56) (oi := ⟨some 75, .move (.tmp 2), _, _, _, some (51, true)⟩) (v := undef) rfl (by kernel_rfl) (by kernel_rfl) (by kernel_rfl) (fun _ _ _ h => h) (Or.inr ⟨by rfl, rfl⟩) (by assumption) ?rest324
    case rest324 =>
    go_frame
    refine' wpAnyH_take (i := 57) (oi := ⟨some 76, .indexAddr 53 (.tmp 74) (.tmp 75), _, _, _, some (51, true)⟩) (v := undef) rfl (by kernel_rfl) (by kernel_rfl) (by kernel_rfl) (fun _ _ _ h => h) (Or.inr ⟨by rfl, rfl⟩) (by assumption) ?rest325
    case rest325 =>
    go_frame
    refine' wpAnyH_take (i := 58) (oi := ⟨some 77, .load 4 (.tmp 76), _, _, _, some (51, true)⟩) (v := undef) rfl (by kernel_rfl) (by kernel_rfl) (by kernel_rfl) (fun _ _ _ h => h) (Or.inr ⟨by rfl, rfl⟩) (by assumption) ?rest326
    case rest326 =>
    go_frame
    refine' wpAnyH_take (i := 59) (oi := ⟨some 78, .unOp .not 4 (.tmp 77), _, _, _, some (51, true)⟩) (v := undef) rfl (by kernel_rfl) (by kernel_rfl) (by kernel_rfl) (fun _ _ _ h => h) (Or.inr ⟨by rfl, rfl⟩) (by assumption) ?rest327
    case rest327 =>
    go_frame
    refine' wpAnyH_take (i := 60) (oi := ⟨some 79, .pick (.tmp 70) (.tmp 78) (.const (.bool false)), _, _, _, some (37, true)⟩) (v := _) rfl (by kernel_rfl) (by kernel_rfl) (by kernel_rfl) (fun _ _ _ h => h) (Or.inl ⟨by rfl, ?hy328⟩) (by assumption) ?rest328
    case hy328 => (intro w hSw; obtain ⟨s1, s2, s3, s4⟩ := hSw; go_simp <;> with_reducible rfl)
    case rest328 =>
    go_frame
    refine' wpAnyH_take (i := 61) (oi := ⟨some 80, .binOp .eql 4 (.tmp 59) (.tmp 79) 4, _, _, _, some (37, true)⟩) (v := _) rfl (by kernel_rfl) (by kernel_rfl) (by kernel_rfl) (fun _ _ _ h => h) (Or.inl ⟨by rfl, ?hy329⟩) (by assumption) ?rest329
    case hy329 => (intro w hSw; obtain ⟨s1, s2, s3, s4⟩ := hSw; go_simp <;> with_reducible rfl)
    case rest329 =>
    go_frame
    refine' wpAnyH_take (i := 62) (oi := ⟨some 81, .pick (.tmp 56) (.tmp 80) (.const (.bool false)), _, _, _, none⟩) (v := _) rfl (by kernel_rfl) (by kernel_rfl) (by kernel_rfl) (fun _ _ _ h => h) (Or.inl ⟨by rfl, ?hy330⟩) (by assumption) ?rest330
    case hy330 => (intro w hSw; obtain ⟨s1, s2, s3, s4⟩ := hSw; go_simp <;> with_reducible rfl)
    case rest330 =>
    go_frame
    refine' wpAnyH_take (i := 63) (oi := ⟨some 6, .assign (.tmp 81), _, _, _, none⟩) (v := _) rfl (by kernel_rfl) (by kernel_rfl) (by kernel_rfl) (fun _ _ _ h => h) (Or.inl ⟨by rfl, ?hy331⟩) (by assumption) ?rest331
    case hy331 => (intro w hSw; obtain ⟨s1, s2, s3, s4⟩ := hSw; go_simp <;> with_reducible rfl)
    case rest331 =>
    go_frame
    refine wpAnyH_done (by kernel_rfl) ?_ _
    go_wp2_with fail
    go_ret
    exact ⟨by simp, Hb6.out⟩
  · rw [if_pos (by rfl)]
    go_simp
    refine ((HB1.out w5 Hb5.out)).mono ?_
    rintro e w6 ⟨A6, n6, c6, rfl, hr6, hb6⟩
    have Hb6 := Lib.hid (up Hb5.out hb6)
    have Hr6 := Lib.hid hr6
    have Hr56 := Lib.hid (Hr5.out.below hb6)
    clear hr6 hb6
    dsimp only
    refine hK.out _ _ (HS.out _ Hb6.out) (fun _ => ?_)
    clear hK K
    try go_frame
    refine wpAnyH_ready (rs := [15, 18]) (by kernel_rfl) (by simp) (AllReadyH.cons (o := ⟨some 34, .convert 39 9 (.tmp 33), _, _, _, some (12, true)⟩) rfl (fun K hK => ?_) (AllReadyH.cons (o := ⟨some 37, .convert 39 9 (.tmp 36), _, _, _, some (12, true)⟩) rfl (fun K hK => ?_) AllReadyH.nil))
    · rw [if_pos (by rfl)]
      refine wp_run (.string ⟨L.toArray⟩) w6 (exec_conv (s := 39) (t := 9) (x := .tmp 33) rfl (v := .slice A5 n5 c5) rfl (run_string_rd (P := Try.prog) 39 9 5 Try.underlying39 Try.underlying5 Try.underlying9 Hr56.out)) ?_
      refine hK.out _ _ (HS.out _ Hb6.out) (fun _ => ?_)
      clear hK K
      try go_frame
      refine wpAnyH_ready (rs := [18]) (by kernel_rfl) (by simp) (AllReadyH.cons (o := ⟨some 37, .convert 39 9 (.tmp 36), _, _, _, some (12, true)⟩) rfl (fun K hK => ?_) AllReadyH.nil)
      rw [if_pos (by rfl)]
      refine wp_run (.string ⟨L.toArray⟩) w6 (exec_conv (s := 39) (t := 9) (x := .tmp 36) rfl (v := .slice A6 n6 c6) rfl (run_string_rd (P := Try.prog) 39 9 5 Try.underlying39 Try.underlying5 Try.underlying9 Hr6.out)) ?_
      refine hK.out _ _ (HS.out _ Hb6.out) (fun _ => ?_)
      clear hK K
      try go_frame
      refine' wpAnyH_take (i := 19) (oi := ⟨some 38, .binOp .eql 9 (.tmp 34) (.tmp 37) 9, _, _, _, some (12, true)⟩) (v := _) rfl (by kernel_rfl) (by kernel_rfl) (by kernel_rfl) (fun _ _ _ h => h) (Or.inl ⟨by rfl, ?hy332⟩) (by assumption) ?rest332
      case hy332 => (intro w hSw; obtain ⟨s1, s2, s3, s4⟩ := hSw; go_simp <;> with_reducible rfl)
      case rest332 =>
      go_frame
      refine' wpAnyH_take (i := 20) (oi := ⟨some 39, .pick (.tmp 31) (.tmp 38) (.const (.bool false)), _, _, _, none⟩) (v := _) rfl (by kernel_rfl) (by kernel_rfl) (by kernel_rfl) (fun _ _ _ h => h) (Or.inl ⟨by rfl, ?hy333⟩) (by assumption) ?rest333
      case hy333 => (intro w hSw; obtain ⟨s1, s2, s3, s4⟩ := hSw; go_simp <;> with_reducible rfl)
      case rest333 =>
      go_frame
      refine' wpAnyH_take (i := 21) (oi := ⟨some 40, .move (.tmp 39), _, _, _, none⟩) (v := _) rfl (by kernel_rfl) (by kernel_rfl) (by kernel_rfl) (fun _ _ _ h => h) (Or.inl ⟨by rfl, ?hy334⟩) (by assumption) ?rest334
      case hy334 => (intro w hSw; obtain ⟨s1, s2, s3, s4⟩ := hSw; go_simp <;> with_reducible rfl)
      case rest334 =>
      go_frame
      refine' wpAnyH_take (i := 22) (oi := ⟨some 41, .move (.tmp 0), _, _, _, some (21, true)⟩) (v := _) rfl (by kernel_rfl) (by kernel_rfl) (by kernel_rfl) (fun _ _ _ h => h) (Or.inl ⟨by rfl, ?hy335⟩) (by assumption) ?rest335
      case hy335 => (intro w hSw; obtain ⟨s1, s2, s3, s4⟩ := hSw; go_simp <;> with_reducible rfl)
      case rest335 =>
      go_frame
      refine' wpAnyH_take (i := 23) (oi := ⟨some 42, .move (.tmp 2), _, _, _, some (21, true)⟩) (v := _) rfl (by kernel_rfl) (by kernel_rfl) (by kernel_rfl) (fun _ _ _ h => h) (Or.inl ⟨by rfl, ?hy336⟩) (by assumption) ?rest336
      case hy336 => (intro w hSw; obtain ⟨s1, s2, s3, s4⟩ := hSw; go_simp <;> with_reducible rfl)
      case rest336 =>
      go_frame
      refine' wpAnyH_take (i := 25) (oi := ⟨some 44, .move (.tmp 7), _, _, _, some (21, true)⟩) (v := _) rfl (by kernel_rfl) (by kernel_rfl) (by kernel_rfl) (fun _ _ _ h => h) (Or.inl ⟨by rfl, ?hy337⟩) (by assumption) ?rest337
      case hy337 => (intro w hSw; obtain ⟨s1, s2, s3, s4⟩ := hSw; go_simp <;> with_reducible rfl)
      case rest337 =>
      go_frame
      refine wpAnyH_ready (rs := [24]) (by kernel_rfl) (by simp) (AllReadyH.cons (o := ⟨some 43, .call { callee := .value (.func 36), args := #[.tmp 41, .tmp 42], argTypes := #[23, 3] }, _, _, _, some (21, true)⟩) rfl (fun K hK => ?_) AllReadyH.nil)
      rw [if_pos (by rfl)]
      go_simp
      refine ((HT0.out w6 Hb6.out)).mono ?_
      rintro e w7 ⟨rfl, rfl⟩
      dsimp only
      refine hK.out _ _ (HS.out _ Hb6.out) (fun _ => ?_)
      clear hK K
      try go_frame
      refine' wpAnyH_take (i := 26) (oi := ⟨some 45, .move (.tmp 44), _, _, _, some (21, true)⟩) (v := _) rfl (by kernel_rfl) (by kernel_rfl) (by kernel_rfl) (fun _ _ _ h => h) (Or.inl ⟨by rfl, ?hy338⟩) (by assumption) ?rest338
      case hy338 => (intro w hSw; obtain ⟨s1, s2, s3, s4⟩ := hSw; go_simp <;> with_reducible rfl)
      case rest338 =>
      go_frame
      refine' wpAnyH_take (i := 27) (oi := ⟨some 46, .move (.tmp 1), _, _, _, some (26, true)⟩) (v := _) rfl (by kernel_rfl) (by kernel_rfl) (by kernel_rfl) (fun _ _ _ h => h) (Or.inl ⟨by rfl, ?hy339⟩) (by assumption) ?rest339
      case hy339 => (intro w hSw; obtain ⟨s1, s2, s3, s4⟩ := hSw; go_simp <;> with_reducible rfl)
      case rest339 =>
      go_frame
      refine' wpAnyH_take (i := 28) (oi := ⟨some 47, .nilCheck (.tmp 46), _, _, _, some (26, true)⟩) (v := _) rfl (by kernel_rfl) (by kernel_rfl) (by kernel_rfl) (fun _ _ _ h => h) (Or.inl ⟨by rfl, ?hy340⟩) (by assumption) ?rest340
      case hy340 => (intro w hSw; obtain ⟨s1, s2, s3, s4⟩ := hSw; go_simp <;> with_reducible rfl)
      case rest340 =>
      go_frame
      refine' wpAnyH_take (i := 29) (oi := ⟨some 48, .fieldAddr 55 (.tmp 47) 0, _, _, _, some (26, true)⟩) (v := _) rfl (by kernel_rfl) (by kernel_rfl) (by kernel_rfl) (fun _ _ _ h => h) (Or.inl ⟨by rfl, ?hy341⟩) (by assumption) ?rest341
      case hy341 => (intro w hSw; obtain ⟨s1, s2, s3, s4⟩ := hSw; go_simp <;> with_reducible rfl)
      case rest341 =>
      go_frame
      refine' wpAnyH_take (i := 30) (oi := ⟨some 49, .load 53 (.tmp 48), _, _, _, some (26, true)⟩) (v := _) rfl (by kernel_rfl) (by kernel_rfl) (by kernel_rfl) (fun _ _ _ h => h) (Or.inl ⟨by rfl, ?hy342⟩) (by assumption) ?rest342
      case hy342 => (intro w hSw; obtain ⟨s1, s2, s3, s4⟩ := hSw; go_simp <;> with_reducible rfl)
      case rest342 =>
      go_frame
      refine' wpAnyH_take (i := 31) (oi := ⟨some 50, .move (.tmp 2), _, _, _, some (26, true)⟩) (v := _) rfl (by kernel_rfl) (by kernel_rfl) (by kernel_rfl) (fun _ _ _ h => h) (Or.inl ⟨by rfl, ?hy343⟩) (by assumption) ?rest343
      case hy343 => (intro w hSw; obtain ⟨s1, s2, s3, s4⟩ := hSw; go_simp <;> with_reducible rfl)
      case rest343 =>
      go_frame
      refine' wpAnyH_take (i := 32) (oi := ⟨some 51, .indexAddr 53 (.tmp 49) (.tmp 50), _, _, _, some (26, true)⟩) (v := _) rfl (by kernel_rfl) (by kernel_rfl) (by kernel_rfl) (fun _ _ _ h => h) (Or.inl ⟨by rfl, ?hy344⟩) (by assumption) ?rest344
      case hy344 => (intro w hSw; obtain ⟨s1, s2, s3, s4⟩ := hSw; go_simp <;> with_reducible rfl)
      case rest344 =>
      go_frame
      refine' wpAnyH_take (i := 33) (oi := ⟨some 52, .load 4 (.tmp 51), _, _, _, some (26, true)⟩) (v := _) rfl (by kernel_rfl) (by kernel_rfl) (by kernel_rfl) (fun _ _ _ h => h) (Or.inl ⟨by rfl, ?hy345⟩) (by assumption) ?rest345
      case hy345 => (intro w hSw; obtain ⟨s1, s2, s3, s4⟩ := hSw; go_simp <;> with_reducible rfl)
      case rest345 =>
      go_frame
      refine' wpAnyH_take (i := 34) (oi := ⟨some 53, .pick (.tmp 45) (.tmp 52) (.const (.bool false)), _, _, _, some (21, true)⟩) (v := _) rfl (by kernel_rfl) (by kernel_rfl) (by kernel_rfl) (fun _ _ _ h => h) (Or.inl ⟨by rfl, ?hy346⟩) (by assumption) ?rest346
      case hy346 => (intro w hSw; obtain ⟨s1, s2, s3, s4⟩ := hSw; go_simp <;> with_reducible rfl)
      case rest346 =>
      go_frame
      refine' wpAnyH_take (i := 35) (oi := ⟨some 54, .binOp .eql 4 (.tmp 43) (.tmp 53) 4, _, _, _, some (21, true)⟩) (v := _) rfl (by kernel_rfl) (by kernel_rfl) (by kernel_rfl) (fun _ _ _ h => h) (Or.inl ⟨by rfl, ?hy347⟩) (by assumption) ?rest347
      case hy347 => (intro w hSw; obtain ⟨s1, s2, s3, s4⟩ := hSw; go_simp <;> with_reducible rfl)
      case rest347 =>
      go_frame
      refine' wpAnyH_take (i := 36) (oi := ⟨some 55, .pick (.tmp 40) (.tmp 54) (.const (.bool false)), _, _, _, none⟩) (v := _) rfl (by kernel_rfl) (by kernel_rfl) (by kernel_rfl) (fun _ _ _ h => h) (Or.inl ⟨by rfl, ?hy348⟩) (by assumption) ?rest348
      case hy348 => (intro w hSw; obtain ⟨s1, s2, s3, s4⟩ := hSw; go_simp <;> with_reducible rfl)
      case rest348 =>
      go_frame
      refine' wpAnyH_take (i := 37) (oi := ⟨some 56, .move (.tmp 55), _, _, _, none⟩) (v := _) rfl (by kernel_rfl) (by kernel_rfl) (by kernel_rfl) (fun _ _ _ h => h) (Or.inl ⟨by rfl, ?hy349⟩) (by assumption) ?rest349
      case hy349 => (intro w hSw; obtain ⟨s1, s2, s3, s4⟩ := hSw; go_simp <;> with_reducible rfl)
      case rest349 =>
      go_frame
      refine' wpAnyH_take (i := 38) (oi := ⟨some 57, .move (.tmp 0), _, _, _, some (37, true)⟩) (v := _) rfl (by kernel_rfl) (by kernel_rfl) (by kernel_rfl) (fun _ _ _ h => h) (Or.inl ⟨by rfl, ?hy350⟩) (by assumption) ?rest350
      case hy350 => (intro w hSw; obtain ⟨s1, s2, s3, s4⟩ := hSw; go_simp <;> with_reducible rfl)
      case rest350 =>
      go_frame
      refine' wpAnyH_take (i := 39) (oi := ⟨some 58, .move (.tmp 2), _, _, _, some (37, true)⟩) (v := _) rfl (by kernel_rfl) (by kernel_rfl) (by kernel_rfl) (fun _ _ _ h => h) (Or.inl ⟨by rfl, ?hy351⟩) (by assumption) ?rest351
      case hy351 => (intro w hSw; obtain ⟨s1, s2, s3, s4⟩ := hSw; go_simp <;> with_reducible rfl)
      case rest351 =>
      go_frame
      refine' wpAnyH_take (i := 41) (oi := ⟨some 60, .move (.tmp 7), _, _, _, some (37, true)⟩) (v := _) rfl (by kernel_rfl) (by kernel_rfl) (by kernel_rfl) (fun _ _ _ h => h) (Or.inl ⟨by rfl, ?hy352⟩) (by assumption) ?rest352
      case hy352 => (intro w hSw; obtain ⟨s1, s2, s3, s4⟩ := hSw; go_simp <;> with_reducible rfl)
      case rest352 =>
      go_frame
      refine wpAnyH_ready (rs := [40]) (by kernel_rfl) (by simp) (AllReadyH.cons (o := ⟨some 59, .call { callee := .value (.func 37), args := #[.tmp 57, .tmp 58], argTypes := #[23, 3] }, _, _, _, some (37, true)⟩) rfl (fun K hK => ?_) AllReadyH.nil)
      rw [if_pos (by rfl)]
      go_simp
      refine ((HF0.out w6 Hb6.out)).mono ?_
      rintro e w7 ⟨rfl, rfl⟩
      dsimp only
      refine hK.out _ _ (HS.out _ Hb6.out) (fun _ => ?_)
      clear hK K
      try go_frame
      refine' wpAnyH_take (i := 42) (oi := ⟨some 61, .move (.tmp 60), _, _, _, some (37, true)⟩) (v := _) rfl (by kernel_rfl) (by kernel_rfl) (by kernel_rfl) (fun _ _ _ h => h) (Or.inl ⟨by rfl, ?hy353⟩) (by assumption) ?rest353
      case hy353 => (intro w hSw; obtain ⟨s1, s2, s3, s4⟩ := hSw; go_simp <;> with_reducible rfl)
      case rest353 =>
      go_frame
      refine' wpAnyH_take (i := 43) (oi := ⟨some 62, .move (.tmp 1), _, _, _, some (42, true)⟩) (v := _) rfl (by kernel_rfl) (by kernel_rfl) (by kernel_rfl) (fun _ _ _ h => h) (Or.inl ⟨by rfl, ?hy354⟩) (by assumption) ?rest354
      case hy354 => (intro w hSw; obtain ⟨s1, s2, s3, s4⟩ := hSw; go_simp <;> with_reducible rfl)
      case rest354 =>
      go_frame
      refine' wpAnyH_take (i := 44) (oi := ⟨some 63, .nilCheck (.tmp 62), _, _, _, some (42, true)⟩) (v := _) rfl (by kernel_rfl) (by kernel_rfl) (by kernel_rfl) (fun _ _ _ h => h) (Or.inl ⟨by rfl, ?hy355⟩) (by assumption) ?rest355
      case hy355 => (intro w hSw; obtain ⟨s1, s2, s3, s4⟩ := hSw; go_simp <;> with_reducible rfl)
      case rest355 =>
      go_frame
      refine' wpAnyH_take (i := 45) (oi := ⟨some 64, .fieldAddr 55 (.tmp 63) 0, _, _, _, some (42, true)⟩) (v := _) rfl (by kernel_rfl) (by kernel_rfl) (by kernel_rfl) (fun _ _ _ h => h) (Or.inl ⟨by rfl, ?hy356⟩) (by assumption) ?rest356
      case hy356 => (intro w hSw; obtain ⟨s1, s2, s3, s4⟩ := hSw; go_simp <;> with_reducible rfl)
      case rest356 =>
      go_frame
      refine' wpAnyH_take (i := 46) (oi := ⟨some 65, .load 53 (.tmp 64), _, _, _, some (42, true)⟩) (v := _) rfl (by kernel_rfl) (by kernel_rfl) (by kernel_rfl) (fun _ _ _ h => h) (Or.inl ⟨by rfl, ?hy357⟩) (by assumption) ?rest357
      case hy357 => (intro w hSw; obtain ⟨s1, s2, s3, s4⟩ := hSw; go_simp <;> with_reducible rfl)
      case rest357 =>
      go_frame
      refine' wpAnyH_take (i := 47) (oi := ⟨some 66, .move (.tmp 2), _, _, _, some (42, true)⟩) (v := _) rfl (by kernel_rfl) (by kernel_rfl) (by kernel_rfl) (fun _ _ _ h => h) (Or.inl ⟨by rfl, ?hy358⟩) (by assumption) ?rest358
      case hy358 => (intro w hSw; obtain ⟨s1, s2, s3, s4⟩ := hSw; go_simp <;> with_reducible rfl)
      case rest358 =>
      go_frame
      refine' wpAnyH_take (i := 48) (oi := ⟨some 67, .indexAddr 53 (.tmp 65) (.tmp 66), _, _, _, some (42, true)⟩) (v := _) rfl (by kernel_rfl) (by kernel_rfl) (by kernel_rfl) (fun _ _ _ h => h) (Or.inl ⟨by rfl, ?hy359⟩) (by assumption) ?rest359
      case hy359 => (intro w hSw; obtain ⟨s1, s2, s3, s4⟩ := hSw; go_simp <;> with_reducible rfl)
      case rest359 =>
      go_frame
      refine' wpAnyH_take (i := 49) (oi := ⟨some 68, .load 4 (.tmp 67), _, _, _, some (42, true)⟩) (v := _) rfl (by kernel_rfl) (by kernel_rfl) (by kernel_rfl) (fun _ _ _ h => h) (Or.inl ⟨by rfl, ?hy360⟩) (by assumption) ?rest360
      case hy360 => (intro w hSw; obtain ⟨s1, s2, s3, s4⟩ := hSw; go_simp <;> with_reducible rfl)
      case rest360 =>
      go_frame
      refine' wpAnyH_take (i := 50) (oi := ⟨some 69, .pick (.tmp 61) (.tmp 68) (.const (.bool false)), _, _, _, some (37, true)⟩) (v := _) rfl (by kernel_rfl) (by kernel_rfl) (by kernel_rfl) (fun _ _ _ h => h) (Or.inl ⟨by rfl, ?hy361⟩) (by assumption) ?rest361
      case hy361 => (intro w hSw; obtain ⟨s1, s2, s3, s4⟩ := hSw; go_simp <;> with_reducible rfl)
      case rest361 =>
      go_frame
      refine' wpAnyH_take (i := 51) (oi := ⟨some 70, .move (.tmp 69), _, _, _, some (37, true)⟩) (v := _) rfl (by kernel_rfl) (by kernel_rfl) (by kernel_rfl) (fun _ _ _ h => h) (Or.inl ⟨by rfl, ?hy362⟩) (by assumption) ?rest362
      case hy362 => (intro w hSw; obtain ⟨s1, s2, s3, s4⟩ := hSw; go_simp <;> with_reducible rfl)
      case rest362 =>
      go_frame
      refine' wpAnyH_take (i := 52) (oi := ⟨some 71, .move (.tmp 1), _, _, _, some (51, true)⟩) (v := undef) rfl (by kernel_rfl) (by kernel_rfl) (by kernel_rfl) (fun _ _ _ h => h) (Or.inr ⟨by rfl, rfl⟩) (by assumption) ?rest363
      case rest363 =>
      go_frame
      refine' wpAnyH_take (i := 53) (oi := ⟨some 72, .nilCheck (.tmp 71), _, _, _, some (51, true)⟩) (v := undef) rfl (by kernel_rfl) (by kernel_rfl) (by kernel_rfl) (fun _ _ _ h => h) (Or.inr ⟨by rfl, rfl⟩) (by assumption) ?rest364
      case rest364 =>
      go_frame
      refine' wpAnyH_take (i := 54) (oi := ⟨some 73, .fieldAddr 55 (.tmp 72) 1, _, _, _, some (51, true)⟩) (v := undef) rfl (by kernel_rfl) (by kernel_rfl) (by kernel_rfl) (fun _ _ _ h => h) (Or.inr ⟨by rfl, rfl⟩) (by assumption) ?rest365
      case rest365 =>
      go_frame
      refine' wpAnyH_take (i := 55) (oi := ⟨some 74, .load 53 (.tmp 73), _, _, _, some (51, true)⟩) (v := undef) rfl (by kernel_rfl) (by kernel_rfl) (by kernel_rfl) (fun _ _ _ h => h) (Or.inr ⟨by rfl, rfl⟩) (by assumption) ?rest366
      case rest366 =>
      go_frame
      refine' wpAnyH_take (i := 56) (oi := ⟨some 75, .move (.tmp 2), _, _, _, some (51, true)⟩) (v := undef) rfl (by kernel_rfl) (by kernel_rfl) (by kernel_rfl) (fun _ _ _ h => h) (Or.inr ⟨by rfl, rfl⟩) (by assumption) ?rest367
      case rest367 =>
      go_frame
      refine' wpAnyH_take (i := 57) (oi := ⟨some 76, .indexAddr 53 (.tmp 74) (.tmp 75), _, _, _, some (51, true)⟩) (v := undef) rfl (by kernel_rfl) (by kernel_rfl) (by kernel_rfl) (fun _ _ _ h => h) (Or.inr ⟨by rfl, rfl⟩) (by assumption) ?rest368
      case rest368 =>
      go_frame
      refine' wpAnyH_take (i := 58) (oi := ⟨some 77, .load 4 (.tmp 76), _, _, _, some (51, true)⟩) (v := undef) rfl (by kernel_rfl) (by kernel_rfl) (by kernel_rfl) (fun _ _ _ h => h) (Or.inr ⟨by rfl, rfl⟩) (by assumption) ?rest369
      case rest369 =>
      go_frame
      refine' wpAnyH_take (i := 59) (oi := ⟨some 78, .unOp .not 4 (.tmp 77), _, _, _, some (51, true)⟩) (v := undef) rfl (by kernel_rfl) (by kernel_rfl) (by kernel_rfl) (fun _ _ _ h => h) (Or.inr ⟨by rfl, rfl⟩) (by assumption) ?rest370
      case rest370 =>
      go_frame
      refine' wpAnyH_take (i := 60) (oi := ⟨some 79, .pick (.tmp 70) (.tmp 78) (.const (.bool false)), _, _, _, some (37, true)⟩) (v := _) rfl (by kernel_rfl) (by kernel_rfl) (by kernel_rfl) (fun _ _ _ h => h) (Or.inl ⟨by rfl, ?hy371⟩) (by assumption) ?rest371
      case hy371 => (intro w hSw; obtain ⟨s1, s2, s3, s4⟩ := hSw; go_simp <;> with_reducible rfl)
      case rest371 =>
      go_frame
      refine' wpAnyH_take (i := 61) (oi := ⟨some 80, .binOp .eql 4 (.tmp 59) (.tmp 79) 4, _, _, _, some (37, true)⟩) (v := _) rfl (by kernel_rfl) (by kernel_rfl) (by kernel_rfl) (fun _ _ _ h => h) (Or.inl ⟨by rfl, ?hy372⟩) (by assumption) ?rest372
      case hy372 => (intro w hSw; obtain ⟨s1, s2, s3, s4⟩ := hSw; go_simp <;> with_reducible rfl)
      case rest372 =>
      go_frame
      refine' wpAnyH_take (i := 62) (oi := ⟨some 81, .pick (.tmp 56) (.tmp 80) (.const (.bool false)), _, _, _, none⟩) (v := _) rfl (by kernel_rfl) (by kernel_rfl) (by kernel_rfl) (fun _ _ _ h => h) (Or.inl ⟨by rfl, ?hy373⟩) (by assumption) ?rest373
      case hy373 => (intro w hSw; obtain ⟨s1, s2, s3, s4⟩ := hSw; go_simp <;> with_reducible rfl)
      case rest373 =>
      go_frame
      refine' wpAnyH_take (i := 63) (oi := ⟨some 6, .assign (.tmp 81), _, _, _, none⟩) (v := _) rfl (by kernel_rfl) (by kernel_rfl) (by kernel_rfl) (fun _ _ _ h => h) (Or.inl ⟨by rfl, ?hy374⟩) (by assumption) ?rest374
      case hy374 => (intro w hSw; obtain ⟨s1, s2, s3, s4⟩ := hSw; go_simp <;> with_reducible rfl)
      case rest374 =>
      go_frame
      refine wpAnyH_done (by kernel_rfl) ?_ _
      go_wp2_with fail
      go_ret
      exact ⟨by simp, Hb6.out⟩
    · rw [if_pos (by rfl)]
      refine wp_run (.string ⟨L.toArray⟩) w6 (exec_conv (s := 39) (t := 9) (x := .tmp 36) rfl (v := .slice A6 n6 c6) rfl (run_string_rd (P := Try.prog) 39 9 5 Try.underlying39 Try.underlying5 Try.underlying9 Hr6.out)) ?_
      refine hK.out _ _ (HS.out _ Hb6.out) (fun _ => ?_)
      clear hK K
      try go_frame
      refine wpAnyH_ready (rs := [15]) (by kernel_rfl) (by simp) (AllReadyH.cons (o := ⟨some 34, .convert 39 9 (.tmp 33), _, _, _, some (12, true)⟩) rfl (fun K hK => ?_) AllReadyH.nil)
      rw [if_pos (by rfl)]
      refine wp_run (.string ⟨L.toArray⟩) w6 (exec_conv (s := 39) (t := 9) (x := .tmp 33) rfl (v := .slice A5 n5 c5) rfl (run_string_rd (P := Try.prog) 39 9 5 Try.underlying39 Try.underlying5 Try.underlying9 Hr56.out)) ?_
      refine hK.out _ _ (HS.out _ Hb6.out) (fun _ => ?_)
      clear hK K
      try go_frame
      refine' wpAnyH_take (i := 19) (oi := ⟨some 38, .binOp .eql 9 (.tmp 34) (.tmp 37) 9, _, _, _, some (12, true)⟩) (v := _) rfl (by kernel_rfl) (by kernel_rfl) (by kernel_rfl) (fun _ _ _ h => h) (Or.inl ⟨by rfl, ?hy375⟩) (by assumption) ?rest375
      case hy375 => (intro w hSw; obtain ⟨s1, s2, s3, s4⟩ := hSw; go_simp <;> with_reducible rfl)
      case rest375 =>
      go_frame
      refine' wpAnyH_take (i := 20) (oi := ⟨some 39, .pick (.tmp 31) (.tmp 38) (.const (.bool false)), _, _, _, none⟩) (v := _) rfl (by kernel_rfl) (by kernel_rfl) (by kernel_rfl) (fun _ _ _ h => h) (Or.inl ⟨by rfl, ?hy376⟩) (by assumption) ?rest376
      case hy376 => (intro w hSw; obtain ⟨s1, s2, s3, s4⟩ := hSw; go_simp <;> with_reducible rfl)
      case rest376 =>
      go_frame
      refine' wpAnyH_take (i := 21) (oi := ⟨some 40, .move (.tmp 39), _, _, _, none⟩) (v := _) rfl (by kernel_rfl) (by kernel_rfl) (by kernel_rfl) (fun _ _ _ h => h) (Or.inl ⟨by rfl, ?hy377⟩) (by assumption) ?rest377
      case hy377 => (intro w hSw; obtain ⟨s1, s2, s3, s4⟩ := hSw; go_simp <;> with_reducible rfl)
      case rest377 =>
      go_frame
      refine' wpAnyH_take (i := 22) (oi := ⟨some 41, .move (.tmp 0), _, _, _, some (21, true)⟩) (v := _) rfl (by kernel_rfl) (by kernel_rfl) (by kernel_rfl) (fun _ _ _ h => h) (Or.inl ⟨by rfl, ?hy378⟩) (by assumption) ?rest378
      case hy378 => (intro w hSw; obtain ⟨s1, s2, s3, s4⟩ := hSw; go_simp <;> with_reducible rfl)
      case rest378 =>
      go_frame
      refine' wpAnyH_take (i := 23) (oi := ⟨some 42, .move (.tmp 2), _, _, _, some (21, true)⟩) (v := _) rfl (by kernel_rfl) (by kernel_rfl) (by kernel_rfl) (fun _ _ _ h => h) (Or.inl ⟨by rfl, ?hy379⟩) (by assumption) ?rest379
      case hy379 => (intro w hSw; obtain ⟨s1, s2, s3, s4⟩ := hSw; go_simp <;> with_reducible rfl)
      case rest379 =>
      go_frame
      refine' wpAnyH_take (i := 25) (oi := ⟨some 44, .move (.tmp 7), _, _, _, some (21, true)⟩) (v := _) rfl (by kernel_rfl) (by kernel_rfl) (by kernel_rfl) (fun _ _ _ h => h) (Or.inl ⟨by rfl, ?hy380⟩) (by assumption) ?rest380
      case hy380 => (intro w hSw; obtain ⟨s1, s2, s3, s4⟩ := hSw; go_simp <;> with_reducible rfl)
      case rest380 =>
      go_frame
      refine wpAnyH_ready (rs := [24]) (by kernel_rfl) (by simp) (AllReadyH.cons (o := ⟨some 43, .call { callee := .value (.func 36), args := #[.tmp 41, .tmp 42], argTypes := #[23, 3] }, _, _, _, some (21, true)⟩) rfl (fun K hK => ?_) AllReadyH.nil)
      rw [if_pos (by rfl)]
      go_simp
      refine ((HT0.out w6 Hb6.out)).mono ?_
      rintro e w7 ⟨rfl, rfl⟩
      dsimp only
      refine hK.out _ _ (HS.out _ Hb6.out) (fun _ => ?_)
      clear hK K
      try go_frame
      refine' wpAnyH_take (i := 26) (oi := ⟨some 45, .move (.tmp 44), _, _, _, some (21, true)⟩) (v := _) rfl (by kernel_rfl) (by kernel_rfl) (by kernel_rfl) (fun _ _ _ h => h) (Or.inl ⟨by rfl, ?hy381⟩) (by assumption) ?rest381
      case hy381 => (intro w hSw; obtain ⟨s1, s2, s3, s4⟩ := hSw; go_simp <;> with_reducible rfl)
      case rest381 =>
      go_frame
      refine' wpAnyH_take (i := 27) (oi := ⟨some 46, .move (.tmp 1), _, _, _, some (26, true)⟩) (v := _) rfl (by kernel_rfl) (by kernel_rfl) (by kernel_rfl) (fun _ _ _ h => h) (Or.inl ⟨by rfl, ?hy382⟩) (by assumption) ?rest382
      case hy382 => (intro w hSw; obtain ⟨s1, s2, s3, s4⟩ := hSw; go_simp <;> with_reducible rfl)
      case rest382 =>
      go_frame
      refine' wpAnyH_take (i := 28) (oi := ⟨some 47, .nilCheck (.tmp 46), _, _, _, some (26, true)⟩) (v := _) rfl (by kernel_rfl) (by kernel_rfl) (by kernel_rfl) (fun _ _ _ h => h) (Or.inl ⟨by rfl, ?hy383⟩) (by assumption) ?rest383
      case hy383 => (intro w hSw; obtain ⟨s1, s2, s3, s4⟩ := hSw; go_simp <;> with_reducible rfl)
      case rest383 =>
      go_frame
      refine' wpAnyH_take (i := 29) (oi := ⟨some 48, .fieldAddr 55 (.tmp 47) 0, _, _, _, some (26, true)⟩) (v := _) rfl (by kernel_rfl) (by kernel_rfl) (by kernel_rfl) (fun _ _ _ h => h) (Or.inl ⟨by rfl, ?hy384⟩) (by assumption) ?rest384
      case hy384 => (intro w hSw; obtain ⟨s1, s2, s3, s4⟩ := hSw; go_simp <;> with_reducible rfl)
      case rest384 =>
      go_frame
      refine' wpAnyH_take (i := 30) (oi := ⟨some 49, .load 53 (.tmp 48), _, _, _, some (26, true)⟩) (v := _) rfl (by kernel_rfl) (by kernel_rfl) (by kernel_rfl) (fun _ _ _ h => h) (Or.inl ⟨by rfl, ?hy385⟩) (by assumption) ?rest385
      case hy385 => (intro w hSw; obtain ⟨s1, s2, s3, s4⟩ := hSw; go_simp <;> with_reducible rfl)
      case rest385 =>
      go_frame
      refine' wpAnyH_take (i := 31) (oi := ⟨some 50, .move (.tmp 2), _, _, _, some (26, true)⟩) (v := _) rfl (by kernel_rfl) (by kernel_rfl) (by kernel_rfl) (fun _ _ _ h => h) (Or.inl ⟨by rfl, ?hy386⟩) (by assumption) ?rest386
      case hy386 => (intro w hSw; obtain ⟨s1, s2, s3, s4⟩ := hSw; go_simp <;> with_reducible rfl)
      case rest386 =>
      go_frame
      refine' wpAnyH_take (i := 32) (oi := ⟨some 51, .indexAddr 53 (.tmp 49) (.tmp 50), _, _, _, some (26, true)⟩) (v := _) rfl (by kernel_rfl) (by kernel_rfl) (by kernel_rfl) (fun _ _ _ h => h) (Or.inl ⟨by rfl, ?hy387⟩) (by assumption) ?rest387
      case hy387 => (intro w hSw; obtain ⟨s1, s2, s3, s4⟩ := hSw; go_simp <;> with_reducible rfl)
      case rest387 =>
      go_frame
      refine' wpAnyH_take (i := 33) (oi := ⟨some 52, .load 4 (.tmp 51), _, _, _, some (26, true)⟩) (v := _) rfl (by kernel_rfl) (by kernel_rfl) (by kernel_rfl) (fun _ _ _ h => h) (Or.inl ⟨by rfl, ?hy388⟩) (by assumption) ?rest388
      case hy388 => (intro w hSw; obtain ⟨s1, s2, s3, s4⟩ := hSw; go_simp <;> with_reducible rfl)
      case rest388 =>
      go_frame
      refine' wpAnyH_take (i := 34) (oi := ⟨some 53, .pick (.tmp 45) (.tmp 52) (.const (.bool false)), _, _, _, some (21, true)⟩) (v := _) rfl (by kernel_rfl) (by kernel_rfl) (by kernel_rfl) (fun _ _ _ h => h) (Or.inl ⟨by rfl, ?hy389⟩) (by assumption) ?rest389
      case hy389 => (intro w hSw; obtain ⟨s1, s2, s3, s4⟩ := hSw; go_simp <;> with_reducible rfl)
      case rest389 =>
      go_frame
      refine' wpAnyH_take (i := 35) (oi := ⟨some 54, .binOp .eql 4 (.tmp 43) (.tmp 53) 4, _, _, _, some (21, true)⟩) (v := _) rfl (by kernel_rfl) (by kernel_rfl) (by kernel_rfl) (fun _ _ _ h => h) (Or.inl ⟨by rfl, ?hy390⟩) (by assumption) ?rest390
      case hy390 => (intro w hSw; obtain ⟨s1, s2, s3, s4⟩ := hSw; go_simp <;> with_reducible rfl)
      case rest390 =>
      go_frame
      refine' wpAnyH_take (i := 36) (oi := ⟨some 55, .pick (.tmp 40) (.tmp 54) (.const (.bool false)), _, _, _, none⟩) (v := _) rfl (by kernel_rfl) (by kernel_rfl) (by kernel_rfl) (fun _ _ _ h => h) (Or.inl ⟨by rfl, ?hy391⟩) (by assumption) ?rest391
      case hy391 => (intro w hSw; obtain ⟨s1, s2, s3, s4⟩ := hSw; go_simp <;> with_reducible rfl)
      case rest391 =>
      go_frame
      refine' wpAnyH_take (i := 37) (oi := ⟨some 56, .move (.tmp 55), _, _, _, none⟩) (v := _) rfl (by kernel_rfl) (by kernel_rfl) (by kernel_rfl) (fun _ _ _ h => h) (Or.inl ⟨by rfl, ?hy392⟩) (by assumption) ?rest392
      case hy392 => (intro w hSw; obtain ⟨s1, s2, s3, s4⟩ := hSw; go_simp <;> with_reducible rfl)
      case rest392 =>
      go_frame
      refine' wpAnyH_take (i := 38) (oi := ⟨some 57, .move (.tmp 0), _, _, _, some (37, true)⟩) (v := _) rfl (by kernel_rfl) (by kernel_rfl) (by kernel_rfl) (fun _ _ _ h => h) (Or.inl ⟨by rfl, ?hy393⟩) (by assumption) ?rest393
      case hy393 => (intro w hSw; obtain ⟨s1, s2, s3, s4⟩ := hSw; go_simp <;> with_reducible rfl)
      case rest393 =>
      go_frame
      refine' wpAnyH_take (i := 39) (oi := ⟨some 58, .move (.tmp 2), _, _, _, some (37, true)⟩) (v := _) rfl (by kernel_rfl) (by kernel_rfl) (by kernel_rfl) (fun _ _ _ h => h) (Or.inl ⟨by rfl, ?hy394⟩) (by assumption) ?rest394
      case hy394 => (intro w hSw; obtain ⟨s1, s2, s3, s4⟩ := hSw; go_simp <;> with_reducible rfl)
      case rest394 =>
      go_frame
      refine' wpAnyH_take (i := 41) (oi := ⟨some 60, .move (.tmp 7), _, _, _, some (37, true)⟩) (v := _) rfl (by kernel_rfl) (by kernel_rfl) (by kernel_rfl) (fun _ _ _ h => h) (Or.inl ⟨by rfl, ?hy395⟩) (by assumption) ?rest395
      case hy395 => (intro w hSw; obtain ⟨s1, s2, s3, s4⟩ := hSw; go_simp <;> with_reducible rfl)
      case rest395 =>
      go_frame
      refine wpAnyH_ready (rs := [40]) (by kernel_rfl) (by simp) (AllReadyH.cons (o := ⟨some 59, .call { callee := .value (.func 37), args := #[.tmp 57, .tmp 58], argTypes := #[23, 3] }, _, _, _, some (37, true)⟩) rfl (fun K hK => ?_) AllReadyH.nil)
      rw [if_pos (by rfl)]
      go_simp
      refine ((HF0.out w6 Hb6.out)).mono ?_
      rintro e w7 ⟨rfl, rfl⟩
      dsimp only
      refine hK.out _ _ (HS.out _ Hb6.out) (fun _ => ?_)
      clear hK K
      try go_frame
      refine' wpAnyH_take (i := 42) (oi := ⟨some 61, .move (.tmp 60), _, _, _, some (37, true)⟩) (v := _) rfl (by kernel_rfl) (by kernel_rfl) (by kernel_rfl) (fun _ _ _ h => h) (Or.inl ⟨by rfl, ?hy396⟩) (by assumption) ?rest396
      case hy396 => (intro w hSw; obtain ⟨s1, s2, s3, s4⟩ := hSw; go_simp <;> with_reducible rfl)
      case rest396 =>
      go_frame
      refine' wpAnyH_take (i := 43) (oi := ⟨some 62, .move (.tmp 1), _, _, _, some (42, true)⟩) (v := _) rfl (by kernel_rfl) (by kernel_rfl) (by kernel_rfl) (fun _ _ _ h => h) (Or.inl ⟨by rfl, ?hy397⟩) (by assumption) ?rest397
      case hy397 => (intro w hSw; obtain ⟨s1, s2, s3, s4⟩ := hSw; go_simp <;> with_reducible rfl)
      case rest397 =>
      go_frame
      refine' wpAnyH_take (i := 44) (oi := ⟨some 63, .nilCheck (.tmp 62), _, _, _, some (42, true)⟩) (v := _) rfl (by kernel_rfl) (by kernel_rfl) (by kernel_rfl) (fun _ _ _ h => h) (Or.inl ⟨by rfl, ?hy398⟩) (by assumption) ?rest398
      case hy398 => (intro w hSw; obtain ⟨s1, s2, s3, s4⟩ := hSw; go_simp <;> with_reducible rfl)
      case rest398 =>
      go_frame
      refine' wpAnyH_take (i := 45) (oi := ⟨some 64, .fieldAddr 55 (.tmp 63) 0, _, _, _, some (42, true)⟩) (v := _) rfl (by kernel_rfl) (by kernel_rfl) (by kernel_rfl) (fun _ _ _ h => h) (Or.inl ⟨by rfl, ?hy399⟩) (by assumption) ?rest399
      case hy399 => (intro w hSw; obtain ⟨s1, s2, s3, s4⟩ := hSw; go_simp <;> with_reducible rfl)
      case rest399 =>
      go_frame
      refine' wpAnyH_take (i := 46) (oi := ⟨some 65, .load 53 (.tmp 64), _, _, _, some (42, true)⟩) (v := _) rfl (by kernel_rfl) (by kernel_rfl) (by kernel_rfl) (fun _ _ _ h => h) (Or.inl ⟨by rfl, ?hy400⟩) (by assumption) ?rest400
      case hy400 => (intro w hSw; obtain ⟨s1, s2, s3, s4⟩ := hSw; go_simp <;> with_reducible rfl)
      case rest400 =>
      go_frame
      refine' wpAnyH_take (i := 47) (oi := ⟨some 66, .move (.tmp 2), _, _, _, some (42, true)⟩) (v := _) rfl (by kernel_rfl) (by kernel_rfl) (by kernel_rfl) (fun _ _ _ h => h) (Or.inl ⟨by rfl, ?hy401⟩) (by assumption) ?rest401
      case hy401 => (intro w hSw; obtain ⟨s1, s2, s3, s4⟩ := hSw; go_simp <;> with_reducible rfl)
      case rest401 =>
      go_frame
      refine' wpAnyH_take (i := 48) (oi := ⟨some 67, .indexAddr 53 (.tmp 65) (.tmp 66), _, _, _, some (42, true)⟩) (v := _) rfl (by kernel_rfl) (by kernel_rfl) (by kernel_rfl) (fun _ _ _ h => h) (Or.inl ⟨by rfl, ?hy402⟩) (by assumption) ?rest402
      case hy402 => (intro w hSw; obtain ⟨s1, s2, s3, s4⟩ := hSw; go_simp <;> with_reducible rfl)
      case rest402 =>
      go_frame
      refine' wpAnyH_take (i := 49) (oi := ⟨some 68, .load 4 (.tmp 67), _, _, _, some (42, true)⟩) (v := _) rfl (by kernel_rfl) (by kernel_rfl) (by kernel_rfl) (fun _ _ _ h => h) (Or.inl ⟨by rfl, ?hy403⟩) (by assumption) ?rest403
      case hy403 => (intro w hSw; obtain ⟨s1, s2, s3, s4⟩ := hSw; go_simp <;> with_reducible rfl)
      case rest403 =>
      go_frame
      refine' wpAnyH_take (i := 50) (oi := ⟨some 69, .pick (.tmp 61) (.tmp 68) (.const (.bool false)), _, _, _, some (37, true)⟩) (v := _) rfl (by kernel_rfl) (by kernel_rfl) (by kernel_rfl) (fun _ _ _ h => h) (Or.inl ⟨by rfl, ?hy404⟩) (by assumption) ?rest404
      case hy404 => (intro w hSw; obtain ⟨s1, s2, s3, s4⟩ := hSw; go_simp <;> with_reducible rfl)
      case rest404 =>
      go_frame
      refine' wpAnyH_take (i := 51) (oi := ⟨some 70, .move (.tmp 69), _, _, _, some (37, true)⟩) (v := _) rfl (by kernel_rfl) (by kernel_rfl) (by kernel_rfl) (fun _ _ _ h => h) (Or.inl ⟨by rfl, ?hy405⟩) (by assumption) ?rest405
      case hy405 => (intro w hSw; obtain ⟨s1, s2, s3, s4⟩ := hSw; go_simp <;> with_reducible rfl)
      case rest405 =>
      go_frame
      refine' wpAnyH_take (i := 52) (oi := ⟨some 71, .move (.tmp 1), _, _, _, some (51, true)⟩) (v := undef) rfl (by kernel_rfl) (by kernel_rfl) (by kernel_rfl) (fun _ _ _ h => h) (Or.inr ⟨by rfl, rfl⟩) (by assumption) ?rest406
      case rest406 =>
      go_frame
      refine' wpAnyH_take (i := 53) (oi := ⟨some 72, .nilCheck (.tmp 71), _, _, _, some (51, true)⟩) (v := undef) rfl (by kernel_rfl) (by kernel_rfl) (by kernel_rfl) (fun _ _ _ h => h) (Or.inr ⟨by rfl, rfl⟩) (by assumption) ?rest407
      case rest407 =>
      go_frame
      refine' wpAnyH_take (i := 54) (oi := ⟨some 73, .fieldAddr 55 (.tmp 72) 1, _, _, _, some (51, true)⟩) (v := undef) rfl (by kernel_rfl) (by kernel_rfl) (by kernel_rfl) (fun _ _ _ h => h) (Or.inr ⟨by rfl, rfl⟩) (by assumption) ?rest408
      case rest408 =>
      go_frame
      refine' wpAnyH_take (i := 55) (oi := ⟨some 74, .load 53 (.tmp 73), _, _, _, some (51, true)⟩) (v := undef) rfl (by kernel_rfl) (by kernel_rfl) (by kernel_rfl) (fun _ _ _ h => h) (Or.inr ⟨by rfl, rfl⟩) (by assumption) ?rest409
      case rest409 =>
      go_frame
      refine' wpAnyH_take (i := 56) (oi := ⟨some 75, .move (.tmp 2), _, _, _, some (51, true)⟩) (v := undef) rfl (by kernel_rfl) (by kernel_rfl) (by kernel_rfl) (fun _ _ _ h => h) (Or.inr ⟨by rfl, rfl⟩) (by assumption) ?rest410
      case rest410 =>
      go_frame
      refine' wpAnyH_take (i := 57) (oi := ⟨some 76, .indexAddr 53 (.tmp 74) (.tmp 75), _, _, _, some (51, true)⟩) (v := undef) rfl (by kernel_rfl) (by kernel_rfl) (by kernel_rfl) (fun _ _ _ h => h) (Or.inr ⟨by rfl, rfl⟩) (by assumption) ?rest411
      case rest411 =>
      go_frame
      refine' wpAnyH_take (i := 58) (oi := ⟨some 77, .load 4 (.tmp 76), _, _, _, some (51, true)⟩) (v := undef) rfl (by kernel_rfl) (by kernel_rfl) (by kernel_rfl) (fun _ _ _ h => h) (Or.inr ⟨by rfl, rfl⟩) (by assumption) ?rest412
      case rest412 =>
      go_frame
      refine' wpAnyH_take (i := 59) (oi := ⟨some 78, .unOp .not 4 (.tmp 77), _, _, _, some (51, true)⟩) (v := undef) rfl (by kernel_rfl) (by kernel_rfl) (by kernel_rfl) (fun _ _ _ h => h) (Or.inr ⟨by rfl, rfl⟩) (by assumption) ?rest413
      case rest413 =>
      go_frame
      refine' wpAnyH_take (i := 60) (oi := ⟨some 79, .pick (.tmp 70) (.tmp 78) (.const (.bool false)), _, _, _, some (37, true)⟩) (v := _) rfl (by kernel_rfl) (by kernel_rfl) (by kernel_rfl) (fun _ _ _ h => h) (Or.inl ⟨by rfl, ?hy414⟩) (by assumption) ?rest414
      case hy414 => (intro w hSw; obtain ⟨s1, s2, s3, s4⟩ := hSw; go_simp <;> with_reducible rfl)
      case rest414 =>
      go_frame
      refine' wpAnyH_take (i := 61) (oi := ⟨some 80, .binOp .eql 4 (.tmp 59) (.tmp 79) 4, _, _, _, some (37, true)⟩) (v := _) rfl (by kernel_rfl) (by kernel_rfl) (by kernel_rfl) (fun _ _ _ h => h) (Or.inl ⟨by rfl, ?hy415⟩) (by assumption) ?rest415
      case hy415 => (intro w hSw; obtain ⟨s1, s2, s3, s4⟩ := hSw; go_simp <;> with_reducible rfl)
      case rest415 =>
      go_frame
      refine' wpAnyH_take (i := 62) (oi := ⟨some 81, .pick (.tmp 56) (.tmp 80) (.const (.bool false)), _, _, _, none⟩) (v := _) rfl (by kernel_rfl) (by kernel_rfl) (by kernel_rfl) (fun _ _ _ h => h) (Or.inl ⟨by rfl, ?hy416⟩) (by assumption) ?rest416
      case hy416 => (intro w hSw; obtain ⟨s1, s2, s3, s4⟩ := hSw; go_simp <;> with_reducible rfl)
      case rest416 =>
      go_frame
      refine' wpAnyH_take (i := 63) (oi := ⟨some 6, .assign (.tmp 81), _, _, _, none⟩) (v := _) rfl (by kernel_rfl) (by kernel_rfl) (by kernel_rfl) (fun _ _ _ h => h) (Or.inl ⟨by rfl, ?hy417⟩) (by assumption) ?rest417
      case hy417 => (intro w hSw; obtain ⟨s1, s2, s3, s4⟩ := hSw; go_simp <;> with_reducible rfl)
      case rest417 =>
      go_frame
      refine wpAnyH_done (by kernel_rfl) ?_ _
      go_wp2_with fail
      go_ret
      exact ⟨by simp, Hb6.out⟩
set_option maxRecDepth 100000 in
set_option maxHeartbeats 4000000 in
theorem alike_ft (h : SpTwo w a p gn cn gs cs x) {k : Nat} (hk : k < x.n) (ht : x.now k = false) (hs : x.sure k = true) :
    Calls Try.prog 18 #[spAt a, spAt p, .int .i64 (k : Int)] w fun e w' => e = .returned (.bool true) ∧ Below w.heap.size w w' := by
  have HT : Hid (∀ w', Below w.heap.size w w' → SpTwo w' a p gn cn gs cs x) := Lib.hid fun w' hb => h.below hb
  have Hb0 : Hid (Below w.heap.size w w.drew) := Lib.hid (Below.refl _ _).drew
  obtain ⟨r, hr⟩ : ∃ r, r = _root_.Go.Proofs.Ytllhilnajjohiaa.free x.held x.n := ⟨_, rfl⟩
  obtain ⟨m, hm⟩ : ∃ m, m = (used x.now x.n).length := ⟨_, rfl⟩
  obtain ⟨L, hL⟩ : ∃ L, L = x.bytes := ⟨_, rfl⟩
  have Hm : Hid (m < 1000000) := Lib.hid (by have := used_le x.now x.n; have := h.sp.ok.size; omega)
  have HR0 : Hid (Calls Try.prog 23 #[spAt a] w.drew fun e w' => e = .returned (.int .i64 (r : Int)) ∧ Below w.heap.size w.drew w') := Lib.hid (by rw [hr]; exact room_any (HT.out _ Hb0.out).sp)
  have HR1 : Hid (∀ w1, Below w.heap.size w w1 → Calls Try.prog 31 #[spAt p] w1 fun e w' => e = .returned (.int .i64 (r : Int)) ∧ w1 = w') := Lib.hid fun w1 hb => by rw [hr]; exact rroom_any (HT.out _ hb).rf
  have HU0 := Lib.hid fun w1 hb => usedS_any (HT.out w1 hb).sp hm
  have HU1 := Lib.hid fun w1 hb => rusedS_any (HT.out w1 hb).rf hm
  have HB0 := Lib.hid fun w1 hb => bytesS_any (HT.out w1 hb).sp hL
  have HB1 := Lib.hid fun w1 hb => rbytesS_any (HT.out w1 hb).rf hL
  have HS : Hid (∀ w', Below w.heap.size w w' → w'.cell? ⟨p, 0, none⟩ = some (.slice (some ⟨gn, 0, none⟩) x.n cn) ∧ w'.cell? ⟨p, 1, none⟩ = some (.slice (some ⟨gs, 0, none⟩) x.n cs) ∧ w'.cell? ⟨gn, k, none⟩ = some (.bool false) ∧ w'.cell? ⟨gs, k, none⟩ = some (.bool true)) := Lib.hid fun w' hb => by
    have h' := (HT.out w' hb).rf
    refine ⟨h'.c0, h'.c1, ?_, ?_⟩
    · rw [← ht]; exact h'.cN hk
    · rw [← hs]; exact h'.cS hk
  have HT0 : Hid (∀ w1, Below w.heap.size w w1 → Calls Try.prog 36 #[spAt a, .int .i64 (k : Int)] w1 fun e w' => e = .returned (.bool false) ∧ w1 = w') := Lib.hid fun w1 hb => by
    have := taken_any (HT.out w1 hb).sp (k : Int)
    rwa [Spc.taken_page, ht] at this
  have HF0 : Hid (∀ w1, Below w.heap.size w w1 → Calls Try.prog 37 #[spAt a, .int .i64 (k : Int)] w1 fun e w' => e = .returned (.bool false) ∧ w1 = w') := Lib.hid fun w1 hb => by
    have := fresh_any (HT.out w1 hb).sp (k : Int)
    rwa [Spc.fresh_page, ht, hs] at this
  have k0 : (0 : Int) ≤ (k : Int) := by omega
  have k1 : (k : Int) < (x.n : Int) := by omega
  have k2 : (k : Int).toNat = k := by simp
  clear ht hs
  have h0 := h.rf.c0
  have h1 := h.rf.c1
  have hcn := h.rf.rN.caps.1
  have hcs := h.rf.rS.caps.1
  have hn2 := h.sp.ok.size
  clear HT h hr hm hL
  go_enter Try.func18, Try.ntmps18
  go_wp2_with fail
  refine wp_region_held_drew (S := fun w' => w'.cell? ⟨p, 0, none⟩ = some (.slice (some ⟨gn, 0, none⟩) x.n cn) ∧ w'.cell? ⟨p, 1, none⟩ = some (.slice (some ⟨gs, 0, none⟩) x.n cs) ∧ w'.cell? ⟨gn, k, none⟩ = some (.bool false) ∧ w'.cell? ⟨gs, k, none⟩ = some (.bool true)) (by kernel_rfl) (HS.out _ Hb0.out) (fun hHeld => ?_)
  refine' wpAnyH_take (i := 0) (oi := ⟨some 19, .move (.tmp 0), _, _, _, none⟩) (v := _) rfl (by kernel_rfl) (by kernel_rfl) (by kernel_rfl) (fun _ _ _ h => h) (Or.inl ⟨by rfl, ?hy418⟩) (by assumption) ?rest418
  case hy418 => (intro w hSw; obtain ⟨s1, s2, s3, s4⟩ := hSw; go_simp <;> with_reducible rfl)
  case rest418 =>
  go_frame
  refine' wpAnyH_take (i := 2) (oi := ⟨some 21, .move (.tmp 1), _, _, _, none⟩) (v := _) rfl (by kernel_rfl) (by kernel_rfl) (by kernel_rfl) (fun _ _ _ h => h) (Or.inl ⟨by rfl, ?hy419⟩) (by assumption) ?rest419
  case hy419 => (intro w hSw; obtain ⟨s1, s2, s3, s4⟩ := hSw; go_simp <;> with_reducible rfl)
  case rest419 =>
  go_frame
  refine wpAnyH_ready (rs := [1]) (by kernel_rfl) (by simp) (AllReadyH.cons (o := ⟨some 20, .call { callee := .value (.func 23), args := #[.tmp 19], argTypes := #[23] }, _, _, _, none⟩) rfl (fun K hK => ?_) AllReadyH.nil)
  rw [if_pos (by rfl)]
  go_simp
  refine (HR0.out).mono ?_
  rintro e w1 ⟨rfl, hb1⟩
  have Hb1 := Lib.hid (up Hb0.out hb1)
  clear hb1
  dsimp only
  refine hK.out _ _ (HS.out _ Hb1.out) (fun _ => ?_)
  clear hK K
  try go_frame
  refine wpAnyH_ready (rs := [3]) (by kernel_rfl) (by simp) (AllReadyH.cons (o := ⟨some 22, .call { callee := .value (.func 31), args := #[.tmp 21], argTypes := #[28] }, _, _, _, none⟩) rfl (fun K hK => ?_) AllReadyH.nil)
  rw [if_pos (by rfl)]
  go_simp
  refine ((HR1.out w1 Hb1.out)).mono ?_
  rintro e w2 ⟨rfl, rfl⟩
  dsimp only
  refine hK.out _ _ (HS.out _ Hb1.out) (fun _ => ?_)
  clear hK K
  try go_frame
  refine' wpAnyH_take (i := 4) (oi := ⟨some 23, .binOp .eql 3 (.tmp 20) (.tmp 22) 3, _, _, _, none⟩) (v := _) rfl (by kernel_rfl) (by kernel_rfl) (by kernel_rfl) (fun _ _ _ h => h) (Or.inl ⟨by rfl, ?hy420⟩) (by assumption) ?rest420
  case hy420 => (intro w hSw; obtain ⟨s1, s2, s3, s4⟩ := hSw; go_simp <;> with_reducible rfl)
  case rest420 =>
  go_frame
  refine' wpAnyH_take (i := 5) (oi := ⟨some 24, .move (.tmp 23), _, _, _, none⟩) (v := _) rfl (by kernel_rfl) (by kernel_rfl) (by kernel_rfl) (fun _ _ _ h => h) (Or.inl ⟨by rfl, ?hy421⟩) (by assumption) ?rest421
  case hy421 => (intro w hSw; obtain ⟨s1, s2, s3, s4⟩ := hSw; go_simp <;> with_reducible rfl)
  case rest421 =>
  go_frame
  refine' wpAnyH_take (i := 6) (oi := ⟨some 25, .move (.tmp 0), _, _, _, some (5, true)⟩) (v := _) rfl (by kernel_rfl) (by kernel_rfl) (by kernel_rfl) (fun _ _ _ h => h) (Or.inl ⟨by rfl, ?hy422⟩) (by assumption) ?rest422
  case hy422 => (intro w hSw; obtain ⟨s1, s2, s3, s4⟩ := hSw; go_simp <;> with_reducible rfl)
  case rest422 =>
  go_frame
  refine' wpAnyH_take (i := 8) (oi := ⟨some 27, .move (.tmp 1), _, _, _, some (5, true)⟩) (v := _) rfl (by kernel_rfl) (by kernel_rfl) (by kernel_rfl) (fun _ _ _ h => h) (Or.inl ⟨by rfl, ?hy423⟩) (by assumption) ?rest423
  case hy423 => (intro w hSw; obtain ⟨s1, s2, s3, s4⟩ := hSw; go_simp <;> with_reducible rfl)
  case rest423 =>
  go_frame
  refine wpAnyH_ready (rs := [7]) (by kernel_rfl) (by simp) (AllReadyH.cons (o := ⟨some 26, .call { callee := .value (.func 33), args := #[.tmp 25], argTypes := #[23] }, _, _, _, some (5, true)⟩) rfl (fun K hK => ?_) AllReadyH.nil)
  rw [if_pos (by rfl)]
  go_simp
  refine ((HU0.out w1 Hb1.out)).mono ?_
  rintro e w2 ⟨A2, c2, rfl, hr2, hb2⟩
  have Hb2 := Lib.hid (up Hb1.out hb2)
  have Hr2 := Lib.hid hr2
  clear hr2 hb2
  dsimp only
  refine hK.out _ _ (HS.out _ Hb2.out) (fun _ => ?_)
  clear hK K
  try go_frame
  refine wpAnyH_ready (rs := [9]) (by kernel_rfl) (by simp) (AllReadyH.cons (o := ⟨some 28, .call { callee := .value (.func 34), args := #[.tmp 27], argTypes := #[28] }, _, _, _, some (5, true)⟩) rfl (fun K hK => ?_) AllReadyH.nil)
  rw [if_pos (by rfl)]
  go_simp
  refine ((HU1.out w2 Hb2.out)).mono ?_
  rintro e w3 ⟨A3, c3, rfl, hr3, hb3⟩
  have Hb3 := Lib.hid (up Hb2.out hb3)
  have Hi3 := Lib.hid (ints_same (w := w3) (c := c2) (c2 := c3) (rd_ints (Hr2.out.below hb3)) (rd_ints hr3) Hm.out)
  clear hr3 hb3 Hr2
  dsimp only
  refine hK.out _ _ (HS.out _ Hb3.out) (fun _ => ?_)
  clear hK K
  try go_frame
  refine wpAnyH_ready (rs := [10]) (by kernel_rfl) (by simp) (AllReadyH.cons (o := ⟨some 29, .call { callee := .value (.func 32), args := #[.tmp 26, .tmp 28], argTypes := #[58, 58] }, _, _, _, some (5, true)⟩) rfl (fun K hK => ?_) AllReadyH.nil)
  rw [if_pos (by rfl)]
  go_simp
  refine (Hi3.out).mono ?_
  rintro e w4 ⟨rfl, hb4⟩
  have Hb4 := Lib.hid (up Hb3.out hb4)
  clear hb4 Hi3
  dsimp only
  refine hK.out _ _ (HS.out _ Hb4.out) (fun _ => ?_)
  clear hK K
  try go_frame
  refine' wpAnyH_take (i := 11) (oi := ⟨some 30, .pick (.tmp 24) (.tmp 29) (.const (.bool false)), _, _, _, none⟩) (v := _) rfl (by kernel_rfl) (by kernel_rfl) (by kernel_rfl) (fun _ _ _ h => h) (Or.inl ⟨by rfl, ?hy424⟩) (by assumption) ?rest424
  case hy424 => (intro w hSw; obtain ⟨s1, s2, s3, s4⟩ := hSw; go_simp <;> with_reducible rfl)
  case rest424 =>
  go_frame
  refine' wpAnyH_take (i := 12) (oi := ⟨some 31, .move (.tmp 30), _, _, _, none⟩) (v := _) rfl (by kernel_rfl) (by kernel_rfl) (by kernel_rfl) (fun _ _ _ h => h) (Or.inl ⟨by rfl, ?hy425⟩) (by assumption) ?rest425
  case hy425 => (intro w hSw; obtain ⟨s1, s2, s3, s4⟩ := hSw; go_simp <;> with_reducible rfl)
  case rest425 =>
  go_frame
  refine' wpAnyH_take (i := 13) (oi := ⟨some 32, .move (.tmp 0), _, _, _, some (12, true)⟩) (v := _) rfl (by kernel_rfl) (by kernel_rfl) (by kernel_rfl) (fun _ _ _ h => h) (Or.inl ⟨by rfl, ?hy426⟩) (by assumption) ?rest426
  case hy426 => (intro w hSw; obtain ⟨s1, s2, s3, s4⟩ := hSw; go_simp <;> with_reducible rfl)
  case rest426 =>
  go_frame
  refine' wpAnyH_take (i := 16) (oi := ⟨some 35, .move (.tmp 1), _, _, _, some (12, true)⟩) (v := _) rfl (by kernel_rfl) (by kernel_rfl) (by kernel_rfl) (fun _ _ _ h => h) (Or.inl ⟨by rfl, ?hy427⟩) (by assumption) ?rest427
  case hy427 => (intro w hSw; obtain ⟨s1, s2, s3, s4⟩ := hSw; go_simp <;> with_reducible rfl)
  case rest427 =>
  go_frame
  refine wpAnyH_ready (rs := [14]) (by kernel_rfl) (by simp) (AllReadyH.cons (o := ⟨some 33, .call { callee := .value (.func 22), args := #[.tmp 32], argTypes := #[23] }, _, _, _, some (12, true)⟩) rfl (fun K hK => ?_) AllReadyH.nil)
  rw [if_pos (by rfl)]
  go_simp
  refine ((HB0.out w4 Hb4.out)).mono ?_
  rintro e w5 ⟨A5, n5, c5, rfl, hr5, hb5⟩
  have Hb5 := Lib.hid (up Hb4.out hb5)
  have Hr5 := Lib.hid hr5
  clear hr5 hb5
  dsimp only
  refine hK.out _ _ (HS.out _ Hb5.out) (fun _ => ?_)
  clear hK K
  try go_frame
  refine wpAnyH_ready (rs := [15, 17]) (by kernel_rfl) (by simp) (AllReadyH.cons (o := ⟨some 34, .convert 39 9 (.tmp 33), _, _, _, some (12, true)⟩) rfl (fun K hK => ?_) (AllReadyH.cons (o := ⟨some 36, .call { callee := .value (.func 35), args := #[.tmp 35], argTypes := #[28] }, _, _, _, some (12, true)⟩) rfl (fun K hK => ?_) AllReadyH.nil))
  · rw [if_pos (by rfl)]
    refine wp_run (.string ⟨L.toArray⟩) w5 (exec_conv (s := 39) (t := 9) (x := .tmp 33) rfl (v := .slice A5 n5 c5) rfl (run_string_rd (P := Try.prog) 39 9 5 Try.underlying39 Try.underlying5 Try.underlying9 Hr5.out)) ?_
    refine hK.out _ _ (HS.out _ Hb5.out) (fun _ => ?_)
    clear hK K
    try go_frame
    refine wpAnyH_ready (rs := [17]) (by kernel_rfl) (by simp) (AllReadyH.cons (o := ⟨some 36, .call { callee := .value (.func 35), args := #[.tmp 35], argTypes := #[28] }, _, _, _, some (12, true)⟩) rfl (fun K hK => ?_) AllReadyH.nil)
    rw [if_pos (by rfl)]
    go_simp
    refine ((HB1.out w5 Hb5.out)).mono ?_
    rintro e w6 ⟨A6, n6, c6, rfl, hr6, hb6⟩
    have Hb6 := Lib.hid (up Hb5.out hb6)
    have Hr6 := Lib.hid hr6
    have Hr56 := Lib.hid (Hr5.out.below hb6)
    clear hr6 hb6
    dsimp only
    refine hK.out _ _ (HS.out _ Hb6.out) (fun _ => ?_)
    clear hK K
    try go_frame
    refine wpAnyH_ready (rs := [18]) (by kernel_rfl) (by simp) (AllReadyH.cons (o := ⟨some 37, .convert 39 9 (.tmp 36), _, _, _, some (12, true)⟩) rfl (fun K hK => ?_) AllReadyH.nil)
    rw [if_pos (by rfl)]
    refine wp_run (.string ⟨L.toArray⟩) w6 (exec_conv (s := 39) (t := 9) (x := .tmp 36) rfl (v := .slice A6 n6 c6) rfl (run_string_rd (P := Try.prog) 39 9 5 Try.underlying39 Try.underlying5 Try.underlying9 Hr6.out)) ?_
    refine hK.out _ _ (HS.out _ Hb6.out) (fun _ => ?_)
    clear hK K
    try go_frame
    refine' wpAnyH_take (i := 19) (oi := ⟨some 38, .binOp .eql 9 (.tmp 34) (.tmp 37) 9, _, _, _, some (12, true)⟩) (v := _) rfl (by kernel_rfl) (by kernel_rfl) (by kernel_rfl) (fun _ _ _ h => h) (Or.inl ⟨by rfl, ?hy428⟩) (by assumption) ?rest428
    case hy428 => (intro w hSw; obtain ⟨s1, s2, s3, s4⟩ := hSw; go_simp <;> with_reducible rfl)
    case rest428 =>
    go_frame
    refine' wpAnyH_take (i := 20) (oi := ⟨some 39, .pick (.tmp 31) (.tmp 38) (.const (.bool false)), _, _, _, none⟩) (v := _) rfl (by kernel_rfl) (by kernel_rfl) (by kernel_rfl) (fun _ _ _ h => h) (Or.inl ⟨by rfl, ?hy429⟩) (by assumption) ?rest429
    case hy429 => (intro w hSw; obtain ⟨s1, s2, s3, s4⟩ := hSw; go_simp <;> with_reducible rfl)
    case rest429 =>
    go_frame
    refine' wpAnyH_take (i := 21) (oi := ⟨some 40, .move (.tmp 39), _, _, _, none⟩) (v := _) rfl (by kernel_rfl) (by kernel_rfl) (by kernel_rfl) (fun _ _ _ h => h) (Or.inl ⟨by rfl, ?hy430⟩) (by assumption) ?rest430
    case hy430 => (intro w hSw; obtain ⟨s1, s2, s3, s4⟩ := hSw; go_simp <;> with_reducible rfl)
    case rest430 =>
    go_frame
    refine' wpAnyH_take (i := 22) (oi := ⟨some 41, .move (.tmp 0), _, _, _, some (21, true)⟩) (v := _) rfl (by kernel_rfl) (by kernel_rfl) (by kernel_rfl) (fun _ _ _ h => h) (Or.inl ⟨by rfl, ?hy431⟩) (by assumption) ?rest431
    case hy431 => (intro w hSw; obtain ⟨s1, s2, s3, s4⟩ := hSw; go_simp <;> with_reducible rfl)
    case rest431 =>
    go_frame
    refine' wpAnyH_take (i := 23) (oi := ⟨some 42, .move (.tmp 2), _, _, _, some (21, true)⟩) (v := _) rfl (by kernel_rfl) (by kernel_rfl) (by kernel_rfl) (fun _ _ _ h => h) (Or.inl ⟨by rfl, ?hy432⟩) (by assumption) ?rest432
    case hy432 => (intro w hSw; obtain ⟨s1, s2, s3, s4⟩ := hSw; go_simp <;> with_reducible rfl)
    case rest432 =>
    go_frame
    refine' wpAnyH_take (i := 25) (oi := ⟨some 44, .move (.tmp 7), _, _, _, some (21, true)⟩) (v := _) rfl (by kernel_rfl) (by kernel_rfl) (by kernel_rfl) (fun _ _ _ h => h) (Or.inl ⟨by rfl, ?hy433⟩) (by assumption) ?rest433
    case hy433 => (intro w hSw; obtain ⟨s1, s2, s3, s4⟩ := hSw; go_simp <;> with_reducible rfl)
    case rest433 =>
    go_frame
    refine wpAnyH_ready (rs := [24]) (by kernel_rfl) (by simp) (AllReadyH.cons (o := ⟨some 43, .call { callee := .value (.func 36), args := #[.tmp 41, .tmp 42], argTypes := #[23, 3] }, _, _, _, some (21, true)⟩) rfl (fun K hK => ?_) AllReadyH.nil)
    rw [if_pos (by rfl)]
    go_simp
    refine ((HT0.out w6 Hb6.out)).mono ?_
    rintro e w7 ⟨rfl, rfl⟩
    dsimp only
    refine hK.out _ _ (HS.out _ Hb6.out) (fun _ => ?_)
    clear hK K
    try go_frame
    refine' wpAnyH_take (i := 26) (oi := ⟨some 45, .move (.tmp 44), _, _, _, some (21, true)⟩) (v := _) rfl (by kernel_rfl) (by kernel_rfl) (by kernel_rfl) (fun _ _ _ h => h) (Or.inl ⟨by rfl, ?hy434⟩) (by assumption) ?rest434
    case hy434 => (intro w hSw; obtain ⟨s1, s2, s3, s4⟩ := hSw; go_simp <;> with_reducible rfl)
    case rest434 =>
    go_frame
    refine' wpAnyH_take (i := 27) (oi := ⟨some 46, .move (.tmp 1), _, _, _, some (26, true)⟩) (v := _) rfl (by kernel_rfl) (by kernel_rfl) (by kernel_rfl) (fun _ _ _ h => h) (Or.inl ⟨by rfl, ?hy435⟩) (by assumption) ?rest435
    case hy435 => (intro w hSw; obtain ⟨s1, s2, s3, s4⟩ := hSw; go_simp <;> with_reducible rfl)
    case rest435 =>
    go_frame
    refine' wpAnyH_take (i := 28) (oi := ⟨some 47, .nilCheck (.tmp 46), _, _, _, some (26, true)⟩) (v := _) rfl (by kernel_rfl) (by kernel_rfl) (by kernel_rfl) (fun _ _ _ h => h) (Or.inl ⟨by rfl, ?hy436⟩) (by assumption) ?rest436
    case hy436 => (intro w hSw; obtain ⟨s1, s2, s3, s4⟩ := hSw; go_simp <;> with_reducible rfl)
    case rest436 =>
    go_frame
    refine' wpAnyH_take (i := 29) (oi := ⟨some 48, .fieldAddr 55 (.tmp 47) 0, _, _, _, some (26, true)⟩) (v := _) rfl (by kernel_rfl) (by kernel_rfl) (by kernel_rfl) (fun _ _ _ h => h) (Or.inl ⟨by rfl, ?hy437⟩) (by assumption) ?rest437
    case hy437 => (intro w hSw; obtain ⟨s1, s2, s3, s4⟩ := hSw; go_simp <;> with_reducible rfl)
    case rest437 =>
    go_frame
    refine' wpAnyH_take (i := 30) (oi := ⟨some 49, .load 53 (.tmp 48), _, _, _, some (26, true)⟩) (v := _) rfl (by kernel_rfl) (by kernel_rfl) (by kernel_rfl) (fun _ _ _ h => h) (Or.inl ⟨by rfl, ?hy438⟩) (by assumption) ?rest438
    case hy438 => (intro w hSw; obtain ⟨s1, s2, s3, s4⟩ := hSw; go_simp <;> with_reducible rfl)
    case rest438 =>
    go_frame
    refine' wpAnyH_take (i := 31) (oi := ⟨some 50, .move (.tmp 2), _, _, _, some (26, true)⟩) (v := _) rfl (by kernel_rfl) (by kernel_rfl) (by kernel_rfl) (fun _ _ _ h => h) (Or.inl ⟨by rfl, ?hy439⟩) (by assumption) ?rest439
    case hy439 => (intro w hSw; obtain ⟨s1, s2, s3, s4⟩ := hSw; go_simp <;> with_reducible rfl)
    case rest439 =>
    go_frame
    refine' wpAnyH_take (i := 32) (oi := ⟨some 51, .indexAddr 53 (.tmp 49) (.tmp 50), _, _, _, some (26, true)⟩) (v := _) rfl (by kernel_rfl) (by kernel_rfl) (by kernel_rfl) (fun _ _ _ h => h) (Or.inl ⟨by rfl, ?hy440⟩) (by assumption) ?rest440
    case hy440 => (intro w hSw; obtain ⟨s1, s2, s3, s4⟩ := hSw; go_simp <;> with_reducible rfl)
    case rest440 =>
    go_frame
    refine' wpAnyH_take (i := 33) (oi := ⟨some 52, .load 4 (.tmp 51), _, _, _, some (26, true)⟩) (v := _) rfl (by kernel_rfl) (by kernel_rfl) (by kernel_rfl) (fun _ _ _ h => h) (Or.inl ⟨by rfl, ?hy441⟩) (by assumption) ?rest441
    case hy441 => (intro w hSw; obtain ⟨s1, s2, s3, s4⟩ := hSw; go_simp <;> with_reducible rfl)
    case rest441 =>
    go_frame
    refine' wpAnyH_take (i := 34) (oi := ⟨some 53, .pick (.tmp 45) (.tmp 52) (.const (.bool false)), _, _, _, some (21, true)⟩) (v := _) rfl (by kernel_rfl) (by kernel_rfl) (by kernel_rfl) (fun _ _ _ h => h) (Or.inl ⟨by rfl, ?hy442⟩) (by assumption) ?rest442
    case hy442 => (intro w hSw; obtain ⟨s1, s2, s3, s4⟩ := hSw; go_simp <;> with_reducible rfl)
    case rest442 =>
    go_frame
    refine' wpAnyH_take (i := 35) (oi := ⟨some 54, .binOp .eql 4 (.tmp 43) (.tmp 53) 4, _, _, _, some (21, true)⟩) (v := _) rfl (by kernel_rfl) (by kernel_rfl) (by kernel_rfl) (fun _ _ _ h => h) (Or.inl ⟨by rfl, ?hy443⟩) (by assumption) ?rest443
    case hy443 => (intro w hSw; obtain ⟨s1, s2, s3, s4⟩ := hSw; go_simp <;> with_reducible rfl)
    case rest443 =>
    go_frame
    refine' wpAnyH_take (i := 36) (oi := ⟨some 55, .pick (.tmp 40) (.tmp 54) (.const (.bool false)), _, _, _, none⟩) (v := _) rfl (by kernel_rfl) (by kernel_rfl) (by kernel_rfl) (fun _ _ _ h => h) (Or.inl ⟨by rfl, ?hy444⟩) (by assumption) ?rest444
    case hy444 => (intro w hSw; obtain ⟨s1, s2, s3, s4⟩ := hSw; go_simp <;> with_reducible rfl)
    case rest444 =>
    go_frame
    refine' wpAnyH_take (i := 37) (oi := ⟨some 56, .move (.tmp 55), _, _, _, none⟩) (v := _) rfl (by kernel_rfl) (by kernel_rfl) (by kernel_rfl) (fun _ _ _ h => h) (Or.inl ⟨by rfl, ?hy445⟩) (by assumption) ?rest445
    case hy445 => (intro w hSw; obtain ⟨s1, s2, s3, s4⟩ := hSw; go_simp <;> with_reducible rfl)
    case rest445 =>
    go_frame
    refine' wpAnyH_take (i := 38) (oi := ⟨some 57, .move (.tmp 0), _, _, _, some (37, true)⟩) (v := _) rfl (by kernel_rfl) (by kernel_rfl) (by kernel_rfl) (fun _ _ _ h => h) (Or.inl ⟨by rfl, ?hy446⟩) (by assumption) ?rest446
    case hy446 => (intro w hSw; obtain ⟨s1, s2, s3, s4⟩ := hSw; go_simp <;> with_reducible rfl)
    case rest446 =>
    go_frame
    refine' wpAnyH_take (i := 39) (oi := ⟨some 58, .move (.tmp 2), _, _, _, some (37, true)⟩) (v := _) rfl (by kernel_rfl) (by kernel_rfl) (by kernel_rfl) (fun _ _ _ h => h) (Or.inl ⟨by rfl, ?hy447⟩) (by assumption) ?rest447
    case hy447 => (intro w hSw; obtain ⟨s1, s2, s3, s4⟩ := hSw; go_simp <;> with_reducible rfl)
    case rest447 =>
    go_frame
    refine' wpAnyH_take (i := 41) (oi := ⟨some 60, .move (.tmp 7), _, _, _, some (37, true)⟩) (v := _) rfl (by kernel_rfl) (by kernel_rfl) (by kernel_rfl) (fun _ _ _ h => h) (Or.inl ⟨by rfl, ?hy448⟩) (by assumption) ?rest448
    case hy448 => (intro w hSw; obtain ⟨s1, s2, s3, s4⟩ := hSw; go_simp <;> with_reducible rfl)
    case rest448 =>
    go_frame
    refine wpAnyH_ready (rs := [40]) (by kernel_rfl) (by simp) (AllReadyH.cons (o := ⟨some 59, .call { callee := .value (.func 37), args := #[.tmp 57, .tmp 58], argTypes := #[23, 3] }, _, _, _, some (37, true)⟩) rfl (fun K hK => ?_) AllReadyH.nil)
    rw [if_pos (by rfl)]
    go_simp
    refine ((HF0.out w6 Hb6.out)).mono ?_
    rintro e w7 ⟨rfl, rfl⟩
    dsimp only
    refine hK.out _ _ (HS.out _ Hb6.out) (fun _ => ?_)
    clear hK K
    try go_frame
    refine' wpAnyH_take (i := 42) (oi := ⟨some 61, .move (.tmp 60), _, _, _, some (37, true)⟩) (v := _) rfl (by kernel_rfl) (by kernel_rfl) (by kernel_rfl) (fun _ _ _ h => h) (Or.inl ⟨by rfl, ?hy449⟩) (by assumption) ?rest449
    case hy449 => (intro w hSw; obtain ⟨s1, s2, s3, s4⟩ := hSw; go_simp <;> with_reducible rfl)
    case rest449 =>
    go_frame
    refine' wpAnyH_take (i := 43) (oi := ⟨some 62, .move (.tmp 1), _, _, _, some (42, true)⟩) (v := _) rfl (by kernel_rfl) (by kernel_rfl) (by kernel_rfl) (fun _ _ _ h => h) (Or.inl ⟨by rfl, ?hy450⟩) (by assumption) ?rest450
    case hy450 => (intro w hSw; obtain ⟨s1, s2, s3, s4⟩ := hSw; go_simp <;> with_reducible rfl)
    case rest450 =>
    go_frame
    refine' wpAnyH_take (i := 44) (oi := ⟨some 63, .nilCheck (.tmp 62), _, _, _, some (42, true)⟩) (v := _) rfl (by kernel_rfl) (by kernel_rfl) (by kernel_rfl) (fun _ _ _ h => h) (Or.inl ⟨by rfl, ?hy451⟩) (by assumption) ?rest451
    case hy451 => (intro w hSw; obtain ⟨s1, s2, s3, s4⟩ := hSw; go_simp <;> with_reducible rfl)
    case rest451 =>
    go_frame
    refine' wpAnyH_take (i := 45) (oi := ⟨some 64, .fieldAddr 55 (.tmp 63) 0, _, _, _, some (42, true)⟩) (v := _) rfl (by kernel_rfl) (by kernel_rfl) (by kernel_rfl) (fun _ _ _ h => h) (Or.inl ⟨by rfl, ?hy452⟩) (by assumption) ?rest452
    case hy452 => (intro w hSw; obtain ⟨s1, s2, s3, s4⟩ := hSw; go_simp <;> with_reducible rfl)
    case rest452 =>
    go_frame
    refine' wpAnyH_take (i := 46) (oi := ⟨some 65, .load 53 (.tmp 64), _, _, _, some (42, true)⟩) (v := _) rfl (by kernel_rfl) (by kernel_rfl) (by kernel_rfl) (fun _ _ _ h => h) (Or.inl ⟨by rfl, ?hy453⟩) (by assumption) ?rest453
    case hy453 => (intro w hSw; obtain ⟨s1, s2, s3, s4⟩ := hSw; go_simp <;> with_reducible rfl)
    case rest453 =>
    go_frame
    refine' wpAnyH_take (i := 47) (oi := ⟨some 66, .move (.tmp 2), _, _, _, some (42, true)⟩) (v := _) rfl (by kernel_rfl) (by kernel_rfl) (by kernel_rfl) (fun _ _ _ h => h) (Or.inl ⟨by rfl, ?hy454⟩) (by assumption) ?rest454
    case hy454 => (intro w hSw; obtain ⟨s1, s2, s3, s4⟩ := hSw; go_simp <;> with_reducible rfl)
    case rest454 =>
    go_frame
    refine' wpAnyH_take (i := 48) (oi := ⟨some 67, .indexAddr 53 (.tmp 65) (.tmp 66), _, _, _, some (42, true)⟩) (v := _) rfl (by kernel_rfl) (by kernel_rfl) (by kernel_rfl) (fun _ _ _ h => h) (Or.inl ⟨by rfl, ?hy455⟩) (by assumption) ?rest455
    case hy455 => (intro w hSw; obtain ⟨s1, s2, s3, s4⟩ := hSw; go_simp <;> with_reducible rfl)
    case rest455 =>
    go_frame
    refine' wpAnyH_take (i := 49) (oi := ⟨some 68, .load 4 (.tmp 67), _, _, _, some (42, true)⟩) (v := _) rfl (by kernel_rfl) (by kernel_rfl) (by kernel_rfl) (fun _ _ _ h => h) (Or.inl ⟨by rfl, ?hy456⟩) (by assumption) ?rest456
    case hy456 => (intro w hSw; obtain ⟨s1, s2, s3, s4⟩ := hSw; go_simp <;> with_reducible rfl)
    case rest456 =>
    go_frame
    refine' wpAnyH_take (i := 50) (oi := ⟨some 69, .pick (.tmp 61) (.tmp 68) (.const (.bool false)), _, _, _, some (37, true)⟩) (v := _) rfl (by kernel_rfl) (by kernel_rfl) (by kernel_rfl) (fun _ _ _ h => h) (Or.inl ⟨by rfl, ?hy457⟩) (by assumption) ?rest457
    case hy457 => (intro w hSw; obtain ⟨s1, s2, s3, s4⟩ := hSw; go_simp <;> with_reducible rfl)
    case rest457 =>
    go_frame
    refine' wpAnyH_take (i := 51) (oi := ⟨some 70, .move (.tmp 69), _, _, _, some (37, true)⟩) (v := _) rfl (by kernel_rfl) (by kernel_rfl) (by kernel_rfl) (fun _ _ _ h => h) (Or.inl ⟨by rfl, ?hy458⟩) (by assumption) ?rest458
    case hy458 => (intro w hSw; obtain ⟨s1, s2, s3, s4⟩ := hSw; go_simp <;> with_reducible rfl)
    case rest458 =>
    go_frame
    refine' wpAnyH_take (i := 52) (oi := ⟨some 71, .move (.tmp 1), _, _, _, some (51, true)⟩) (v := undef) rfl (by kernel_rfl) (by kernel_rfl) (by kernel_rfl) (fun _ _ _ h => h) (Or.inr ⟨by rfl, rfl⟩) (by assumption) ?rest459
    case rest459 =>
    go_frame
    refine' wpAnyH_take (i := 53) (oi := ⟨some 72, .nilCheck (.tmp 71), _, _, _, some (51, true)⟩) (v := undef) rfl (by kernel_rfl) (by kernel_rfl) (by kernel_rfl) (fun _ _ _ h => h) (Or.inr ⟨by rfl, rfl⟩) (by assumption) ?rest460
    case rest460 =>
    go_frame
    refine' wpAnyH_take (i := 54) (oi := ⟨some 73, .fieldAddr 55 (.tmp 72) 1, _, _, _, some (51, true)⟩) (v := undef) rfl (by kernel_rfl) (by kernel_rfl) (by kernel_rfl) (fun _ _ _ h => h) (Or.inr ⟨by rfl, rfl⟩) (by assumption) ?rest461
    case rest461 =>
    go_frame
    refine' wpAnyH_take (i := 55) (oi := ⟨some 74, .load 53 (.tmp 73), _, _, _, some (51, true)⟩) (v := undef) rfl (by kernel_rfl) (by kernel_rfl) (by kernel_rfl) (fun _ _ _ h => h) (Or.inr ⟨by rfl, rfl⟩) (by assumption) ?rest462
    case rest462 =>
    go_frame
    refine' wpAnyH_take (i := 56) (oi := ⟨some 75, .move (.tmp 2), _, _, _, some (51, true)⟩) (v := undef) rfl (by kernel_rfl) (by kernel_rfl) (by kernel_rfl) (fun _ _ _ h => h) (Or.inr ⟨by rfl, rfl⟩) (by assumption) ?rest463
    case rest463 =>
    go_frame
    refine' wpAnyH_take (i := 57) (oi := ⟨some 76, .indexAddr 53 (.tmp 74) (.tmp 75), _, _, _, some (51, true)⟩) (v := undef) rfl (by kernel_rfl) (by kernel_rfl) (by kernel_rfl) (fun _ _ _ h => h) (Or.inr ⟨by rfl, rfl⟩) (by assumption) ?rest464
    case rest464 =>
    go_frame
    refine' wpAnyH_take (i := 58) (oi := ⟨some 77, .load 4 (.tmp 76), _, _, _, some (51, true)⟩) (v := undef) rfl (by kernel_rfl) (by kernel_rfl) (by kernel_rfl) (fun _ _ _ h => h) (Or.inr ⟨by rfl, rfl⟩) (by assumption) ?rest465
    case rest465 =>
    go_frame
    refine' wpAnyH_take (i := 59) (oi := ⟨some 78, .unOp .not 4 (.tmp 77), _, _, _, some (51, true)⟩) (v := undef) rfl (by kernel_rfl) (by kernel_rfl) (by kernel_rfl) (fun _ _ _ h => h) (Or.inr ⟨by rfl, rfl⟩) (by assumption) ?rest466
    case rest466 =>
    go_frame
    refine' wpAnyH_take (i := 60) (oi := ⟨some 79, .pick (.tmp 70) (.tmp 78) (.const (.bool false)), _, _, _, some (37, true)⟩) (v := _) rfl (by kernel_rfl) (by kernel_rfl) (by kernel_rfl) (fun _ _ _ h => h) (Or.inl ⟨by rfl, ?hy467⟩) (by assumption) ?rest467
    case hy467 => (intro w hSw; obtain ⟨s1, s2, s3, s4⟩ := hSw; go_simp <;> with_reducible rfl)
    case rest467 =>
    go_frame
    refine' wpAnyH_take (i := 61) (oi := ⟨some 80, .binOp .eql 4 (.tmp 59) (.tmp 79) 4, _, _, _, some (37, true)⟩) (v := _) rfl (by kernel_rfl) (by kernel_rfl) (by kernel_rfl) (fun _ _ _ h => h) (Or.inl ⟨by rfl, ?hy468⟩) (by assumption) ?rest468
    case hy468 => (intro w hSw; obtain ⟨s1, s2, s3, s4⟩ := hSw; go_simp <;> with_reducible rfl)
    case rest468 =>
    go_frame
    refine' wpAnyH_take (i := 62) (oi := ⟨some 81, .pick (.tmp 56) (.tmp 80) (.const (.bool false)), _, _, _, none⟩) (v := _) rfl (by kernel_rfl) (by kernel_rfl) (by kernel_rfl) (fun _ _ _ h => h) (Or.inl ⟨by rfl, ?hy469⟩) (by assumption) ?rest469
    case hy469 => (intro w hSw; obtain ⟨s1, s2, s3, s4⟩ := hSw; go_simp <;> with_reducible rfl)
    case rest469 =>
    go_frame
    refine' wpAnyH_take (i := 63) (oi := ⟨some 6, .assign (.tmp 81), _, _, _, none⟩) (v := _) rfl (by kernel_rfl) (by kernel_rfl) (by kernel_rfl) (fun _ _ _ h => h) (Or.inl ⟨by rfl, ?hy470⟩) (by assumption) ?rest470
    case hy470 => (intro w hSw; obtain ⟨s1, s2, s3, s4⟩ := hSw; go_simp <;> with_reducible rfl)
    case rest470 =>
    go_frame
    refine wpAnyH_done (by kernel_rfl) ?_ _
    go_wp2_with fail
    go_ret
    exact ⟨by simp, Hb6.out⟩
  · rw [if_pos (by rfl)]
    go_simp
    refine ((HB1.out w5 Hb5.out)).mono ?_
    rintro e w6 ⟨A6, n6, c6, rfl, hr6, hb6⟩
    have Hb6 := Lib.hid (up Hb5.out hb6)
    have Hr6 := Lib.hid hr6
    have Hr56 := Lib.hid (Hr5.out.below hb6)
    clear hr6 hb6
    dsimp only
    refine hK.out _ _ (HS.out _ Hb6.out) (fun _ => ?_)
    clear hK K
    try go_frame
    refine wpAnyH_ready (rs := [15, 18]) (by kernel_rfl) (by simp) (AllReadyH.cons (o := ⟨some 34, .convert 39 9 (.tmp 33), _, _, _, some (12, true)⟩) rfl (fun K hK => ?_) (AllReadyH.cons (o := ⟨some 37, .convert 39 9 (.tmp 36), _, _, _, some (12, true)⟩) rfl (fun K hK => ?_) AllReadyH.nil))
    · rw [if_pos (by rfl)]
      refine wp_run (.string ⟨L.toArray⟩) w6 (exec_conv (s := 39) (t := 9) (x := .tmp 33) rfl (v := .slice A5 n5 c5) rfl (run_string_rd (P := Try.prog) 39 9 5 Try.underlying39 Try.underlying5 Try.underlying9 Hr56.out)) ?_
      refine hK.out _ _ (HS.out _ Hb6.out) (fun _ => ?_)
      clear hK K
      try go_frame
      refine wpAnyH_ready (rs := [18]) (by kernel_rfl) (by simp) (AllReadyH.cons (o := ⟨some 37, .convert 39 9 (.tmp 36), _, _, _, some (12, true)⟩) rfl (fun K hK => ?_) AllReadyH.nil)
      rw [if_pos (by rfl)]
      refine wp_run (.string ⟨L.toArray⟩) w6 (exec_conv (s := 39) (t := 9) (x := .tmp 36) rfl (v := .slice A6 n6 c6) rfl (run_string_rd (P := Try.prog) 39 9 5 Try.underlying39 Try.underlying5 Try.underlying9 Hr6.out)) ?_
      refine hK.out _ _ (HS.out _ Hb6.out) (fun _ => ?_)
      clear hK K
      try go_frame
      refine' wpAnyH_take (i := 19) (oi := ⟨some 38, .binOp .eql 9 (.tmp 34) (.tmp 37) 9, _, _, _, some (12, true)⟩) (v := _) rfl (by kernel_rfl) (by kernel_rfl) (by kernel_rfl) (fun _ _ _ h => h) (Or.inl ⟨by rfl, ?hy471⟩) (by assumption) ?rest471
      case hy471 => (intro w hSw; obtain ⟨s1, s2, s3, s4⟩ := hSw; go_simp <;> with_reducible rfl)
      case rest471 =>
      go_frame
      refine' wpAnyH_take (i := 20) (oi := ⟨some 39, .pick (.tmp 31) (.tmp 38) (.const (.bool false)), _, _, _, none⟩) (v := _) rfl (by kernel_rfl) (by kernel_rfl) (by kernel_rfl) (fun _ _ _ h => h) (Or.inl ⟨by rfl, ?hy472⟩) (by assumption) ?rest472
      case hy472 => (intro w hSw; obtain ⟨s1, s2, s3, s4⟩ := hSw; go_simp <;> with_reducible rfl)
      case rest472 =>
      go_frame
      refine' wpAnyH_take (i := 21) (oi := ⟨some 40, .move (.tmp 39), _, _, _, none⟩) (v := _) rfl (by kernel_rfl) (by kernel_rfl) (by kernel_rfl) (fun _ _ _ h => h) (Or.inl ⟨by rfl, ?hy473⟩) (by assumption) ?rest473
      case hy473 => (intro w hSw; obtain ⟨s1, s2, s3, s4⟩ := hSw; go_simp <;> with_reducible rfl)
      case rest473 =>
      go_frame
      refine' wpAnyH_take (i := 22) (oi := ⟨some 41, .move (.tmp 0), _, _, _, some (21, true)⟩) (v := _) rfl (by kernel_rfl) (by kernel_rfl) (by kernel_rfl) (fun _ _ _ h => h) (Or.inl ⟨by rfl, ?hy474⟩) (by assumption) ?rest474
      case hy474 => (intro w hSw; obtain ⟨s1, s2, s3, s4⟩ := hSw; go_simp <;> with_reducible rfl)
      case rest474 =>
      go_frame
      refine' wpAnyH_take (i := 23) (oi := ⟨some 42, .move (.tmp 2), _, _, _, some (21, true)⟩) (v := _) rfl (by kernel_rfl) (by kernel_rfl) (by kernel_rfl) (fun _ _ _ h => h) (Or.inl ⟨by rfl, ?hy475⟩) (by assumption) ?rest475
      case hy475 => (intro w hSw; obtain ⟨s1, s2, s3, s4⟩ := hSw; go_simp <;> with_reducible rfl)
      case rest475 =>
      go_frame
      refine' wpAnyH_take (i := 25) (oi := ⟨some 44, .move (.tmp 7), _, _, _, some (21, true)⟩) (v := _) rfl (by kernel_rfl) (by kernel_rfl) (by kernel_rfl) (fun _ _ _ h => h) (Or.inl ⟨by rfl, ?hy476⟩) (by assumption) ?rest476
      case hy476 => (intro w hSw; obtain ⟨s1, s2, s3, s4⟩ := hSw; go_simp <;> with_reducible rfl)
      case rest476 =>
      go_frame
      refine wpAnyH_ready (rs := [24]) (by kernel_rfl) (by simp) (AllReadyH.cons (o := ⟨some 43, .call { callee := .value (.func 36), args := #[.tmp 41, .tmp 42], argTypes := #[23, 3] }, _, _, _, some (21, true)⟩) rfl (fun K hK => ?_) AllReadyH.nil)
      rw [if_pos (by rfl)]
      go_simp
      refine ((HT0.out w6 Hb6.out)).mono ?_
      rintro e w7 ⟨rfl, rfl⟩
      dsimp only
      refine hK.out _ _ (HS.out _ Hb6.out) (fun _ => ?_)
      clear hK K
      try go_frame
      refine' wpAnyH_take (i := 26) (oi := ⟨some 45, .move (.tmp 44), _, _, _, some (21, true)⟩) (v := _) rfl (by kernel_rfl) (by kernel_rfl) (by kernel_rfl) (fun _ _ _ h => h) (Or.inl ⟨by rfl, ?hy477⟩) (by assumption) ?rest477
      case hy477 => (intro w hSw; obtain ⟨s1, s2, s3, s4⟩ := hSw; go_simp <;> with_reducible rfl)
      case rest477 =>
      go_frame
      refine' wpAnyH_take (i := 27) (oi := ⟨some 46, .move (.tmp 1), _, _, _, some (26, true)⟩) (v := _) rfl (by kernel_rfl) (by kernel_rfl) (by kernel_rfl) (fun _ _ _ h => h) (Or.inl ⟨by rfl, ?hy478⟩) (by assumption) ?rest478
      case hy478 => (intro w hSw; obtain ⟨s1, s2, s3, s4⟩ := hSw; go_simp <;> with_reducible rfl)
      case rest478 =>
      go_frame
      refine' wpAnyH_take (i := 28) (oi := ⟨some 47, .nilCheck (.tmp 46), _, _, _, some (26, true)⟩) (v := _) rfl (by kernel_rfl) (by kernel_rfl) (by kernel_rfl) (fun _ _ _ h => h) (Or.inl ⟨by rfl, ?hy479⟩) (by assumption) ?rest479
      case hy479 => (intro w hSw; obtain ⟨s1, s2, s3, s4⟩ := hSw; go_simp <;> with_reducible rfl)
      case rest479 =>
      go_frame
      refine' wpAnyH_take (i := 29) (oi := ⟨some 48, .fieldAddr 55 (.tmp 47) 0, _, _, _, some (26, true)⟩) (v := _) rfl (by kernel_rfl) (by kernel_rfl) (by kernel_rfl) (fun _ _ _ h => h) (Or.inl ⟨by rfl, ?hy480⟩) (by assumption) ?rest480
      case hy480 => (intro w hSw; obtain ⟨s1, s2, s3, s4⟩ := hSw; go_simp <;> with_reducible rfl)
      case rest480 =>
      go_frame
      refine' wpAnyH_take (i := 30) (oi := ⟨some 49, .load 53 (.tmp 48), _, _, _, some (26, true)⟩) (v := _) rfl (by kernel_rfl) (by kernel_rfl) (by kernel_rfl) (fun _ _ _ h => h) (Or.inl ⟨by rfl, ?hy481⟩) (by assumption) ?rest481
      case hy481 => (intro w hSw; obtain ⟨s1, s2, s3, s4⟩ := hSw; go_simp <;> with_reducible rfl)
      case rest481 =>
      go_frame
      refine' wpAnyH_take (i := 31) (oi := ⟨some 50, .move (.tmp 2), _, _, _, some (26, true)⟩) (v := _) rfl (by kernel_rfl) (by kernel_rfl) (by kernel_rfl) (fun _ _ _ h => h) (Or.inl ⟨by rfl, ?hy482⟩) (by assumption) ?rest482
      case hy482 => (intro w hSw; obtain ⟨s1, s2, s3, s4⟩ := hSw; go_simp <;> with_reducible rfl)
      case rest482 =>
      go_frame
      refine' wpAnyH_take (i := 32) (oi := ⟨some 51, .indexAddr 53 (.tmp 49) (.tmp 50), _, _, _, some (26, true)⟩) (v := _) rfl (by kernel_rfl) (by kernel_rfl) (by kernel_rfl) (fun _ _ _ h => h) (Or.inl ⟨by rfl, ?hy483⟩) (by assumption) ?rest483
      case hy483 => (intro w hSw; obtain ⟨s1, s2, s3, s4⟩ := hSw; go_simp <;> with_reducible rfl)
      case rest483 =>
      go_frame
      refine' wpAnyH_take (i := 33) (oi := ⟨some 52, .load 4 (.tmp 51), _, _, _, some (26, true)⟩) (v := _) rfl (by kernel_rfl) (by kernel_rfl) (by kernel_rfl) (fun _ _ _ h => h) (Or.inl ⟨by rfl, ?hy484⟩) (by assumption) ?rest484
      case hy484 => (intro w hSw; obtain ⟨s1, s2, s3, s4⟩ := hSw; go_simp <;> with_reducible rfl)
      case rest484 =>
      go_frame
      refine' wpAnyH_take (i := 34) (oi := ⟨some 53, .pick (.tmp 45) (.tmp 52) (.const (.bool false)), _, _, _, some (21, true)⟩) (v := _) rfl (by kernel_rfl) (by kernel_rfl) (by kernel_rfl) (fun _ _ _ h => h) (Or.inl ⟨by rfl, ?hy485⟩) (by assumption) ?rest485
      case hy485 => (intro w hSw; obtain ⟨s1, s2, s3, s4⟩ := hSw; go_simp <;> with_reducible rfl)
      case rest485 =>
      go_frame
      refine' wpAnyH_take (i := 35) (oi := ⟨some 54, .binOp .eql 4 (.tmp 43) (.tmp 53) 4, _, _, _, some (21, true)⟩) (v := _) rfl (by kernel_rfl) (by kernel_rfl) (by kernel_rfl) (fun _ _ _ h => h) (Or.inl ⟨by rfl, ?hy486⟩) (by assumption) ?rest486
      case hy486 => (intro w hSw; obtain ⟨s1, s2, s3, s4⟩ := hSw; go_simp <;> with_reducible rfl)
      case rest486 =>
      go_frame
      refine' wpAnyH_take (i := 36) (oi := ⟨some 55, .pick (.tmp 40) (.tmp 54) (.const (.bool false)), _, _, _, none⟩) (v := _) rfl (by kernel_rfl) (by kernel_rfl) (by kernel_rfl) (fun _ _ _ h => h) (Or.inl ⟨by rfl, ?hy487⟩) (by assumption) ?rest487
      case hy487 => (intro w hSw; obtain ⟨s1, s2, s3, s4⟩ := hSw; go_simp <;> with_reducible rfl)
      case rest487 =>
      go_frame
      refine' wpAnyH_take (i := 37) (oi := ⟨some 56, .move (.tmp 55), _, _, _, none⟩) (v := _) rfl (by kernel_rfl) (by kernel_rfl) (by kernel_rfl) (fun _ _ _ h => h) (Or.inl ⟨by rfl, ?hy488⟩) (by assumption) ?rest488
      case hy488 => (intro w hSw; obtain ⟨s1, s2, s3, s4⟩ := hSw; go_simp <;> with_reducible rfl)
      case rest488 =>
      go_frame
      refine' wpAnyH_take (i := 38) (oi := ⟨some 57, .move (.tmp 0), _, _, _, some (37, true)⟩) (v := _) rfl (by kernel_rfl) (by kernel_rfl) (by kernel_rfl) (fun _ _ _ h => h) (Or.inl ⟨by rfl, ?hy489⟩) (by assumption) ?rest489
      case hy489 => (intro w hSw; obtain ⟨s1, s2, s3, s4⟩ := hSw; go_simp <;> with_reducible rfl)
      case rest489 =>
      go_frame
      refine' wpAnyH_take (i := 39) (oi := ⟨some 58, .move (.tmp 2), _, _, _, some (37, true)⟩) (v := _) rfl (by kernel_rfl) (by kernel_rfl) (by kernel_rfl) (fun _ _ _ h => h) (Or.inl ⟨by rfl, ?hy490⟩) (by assumption) ?rest490
      case hy490 => (intro w hSw; obtain ⟨s1, s2, s3, s4⟩ := hSw; go_simp <;> with_reducible rfl)
      case rest490 =>
      go_frame
      refine' wpAnyH_take (i := 41) (oi := ⟨some 60, .move (.tmp 7), _, _, _, some (37, true)⟩) (v := _) rfl (by kernel_rfl) (by kernel_rfl) (by kernel_rfl) (fun _ _ _ h => h) (Or.inl ⟨by rfl, ?hy491⟩) (by assumption) ?rest491
      case hy491 => (intro w hSw; obtain ⟨s1, s2, s3, s4⟩ := hSw; go_simp <;> with_reducible rfl)
      case rest491 =>
      go_frame
      refine wpAnyH_ready (rs := [40]) (by kernel_rfl) (by simp) (AllReadyH.cons (o := ⟨some 59, .call { callee := .value (.func 37), args := #[.tmp 57, .tmp 58], argTypes := #[23, 3] }, _, _, _, some (37, true)⟩) rfl (fun K hK => ?_) AllReadyH.nil)
      rw [if_pos (by rfl)]
      go_simp
      refine ((HF0.out w6 Hb6.out)).mono ?_
      rintro e w7 ⟨rfl, rfl⟩
      dsimp only
      refine hK.out _ _ (HS.out _ Hb6.out) (fun _ => ?_)
      clear hK K
      try go_frame
      refine' wpAnyH_take (i := 42) (oi := ⟨some 61, .move (.tmp 60), _, _, _, some (37, true)⟩) (v := _) rfl (by kernel_rfl) (by kernel_rfl) (by kernel_rfl) (fun _ _ _ h => h) (Or.inl ⟨by rfl, ?hy492⟩) (by assumption) ?rest492
      case hy492 => (intro w hSw; obtain ⟨s1, s2, s3, s4⟩ := hSw; go_simp <;> with_reducible rfl)
      case rest492 =>
      go_frame
      refine' wpAnyH_take (i := 43) (oi := ⟨some 62, .move (.tmp 1), _, _, _, some (42, true)⟩) (v := _) rfl (by kernel_rfl) (by kernel_rfl) (by kernel_rfl) (fun _ _ _ h => h) (Or.inl ⟨by rfl, ?hy493⟩) (by assumption) ?rest493
      case hy493 => (intro w hSw; obtain ⟨s1, s2, s3, s4⟩ := hSw; go_simp <;> with_reducible rfl)
      case rest493 =>
      go_frame
      refine' wpAnyH_take (i := 44) (oi := ⟨some 63, .nilCheck (.tmp 62), _, _, _, some (42, true)⟩) (v := _) rfl (by kernel_rfl) (by kernel_rfl) (by kernel_rfl) (fun _ _ _ h => h) (Or.inl ⟨by rfl, ?hy494⟩) (by assumption) ?rest494
      case hy494 => (intro w hSw; obtain ⟨s1, s2, s3, s4⟩ := hSw; go_simp <;> with_reducible rfl)
      case rest494 =>
      go_frame
      refine' wpAnyH_take (i := 45) (oi := ⟨some 64, .fieldAddr 55 (.tmp 63) 0, _, _, _, some (42, true)⟩) (v := _) rfl (by kernel_rfl) (by kernel_rfl) (by kernel_rfl) (fun _ _ _ h => h) (Or.inl ⟨by rfl, ?hy495⟩) (by assumption) ?rest495
      case hy495 => (intro w hSw; obtain ⟨s1, s2, s3, s4⟩ := hSw; go_simp <;> with_reducible rfl)
      case rest495 =>
      go_frame
      refine' wpAnyH_take (i := 46) (oi := ⟨some 65, .load 53 (.tmp 64), _, _, _, some (42, true)⟩) (v := _) rfl (by kernel_rfl) (by kernel_rfl) (by kernel_rfl) (fun _ _ _ h => h) (Or.inl ⟨by rfl, ?hy496⟩) (by assumption) ?rest496
      case hy496 => (intro w hSw; obtain ⟨s1, s2, s3, s4⟩ := hSw; go_simp <;> with_reducible rfl)
      case rest496 =>
      go_frame
      refine' wpAnyH_take (i := 47) (oi := ⟨some 66, .move (.tmp 2), _, _, _, some (42, true)⟩) (v := _) rfl (by kernel_rfl) (by kernel_rfl) (by kernel_rfl) (fun _ _ _ h => h) (Or.inl ⟨by rfl, ?hy497⟩) (by assumption) ?rest497
      case hy497 => (intro w hSw; obtain ⟨s1, s2, s3, s4⟩ := hSw; go_simp <;> with_reducible rfl)
      case rest497 =>
      go_frame
      refine' wpAnyH_take (i := 48) (oi := ⟨some 67, .indexAddr 53 (.tmp 65) (.tmp 66), _, _, _, some (42, true)⟩) (v := _) rfl (by kernel_rfl) (by kernel_rfl) (by kernel_rfl) (fun _ _ _ h => h) (Or.inl ⟨by rfl, ?hy498⟩) (by assumption) ?rest498
      case hy498 => (intro w hSw; obtain ⟨s1, s2, s3, s4⟩ := hSw; go_simp <;> with_reducible rfl)
      case rest498 =>
      go_frame
      refine' wpAnyH_take (i := 49) (oi := ⟨some 68, .load 4 (.tmp 67), _, _, _, some (42, true)⟩) (v := _) rfl (by kernel_rfl) (by kernel_rfl) (by kernel_rfl) (fun _ _ _ h => h) (Or.inl ⟨by rfl, ?hy499⟩) (by assumption) ?rest499
      case hy499 => (intro w hSw; obtain ⟨s1, s2, s3, s4⟩ := hSw; go_simp <;> with_reducible rfl)
      case rest499 =>
      go_frame
      refine' wpAnyH_take (i := 50) (oi := ⟨some 69, .pick (.tmp 61) (.tmp 68) (.const (.bool false)), _, _, _, some (37, true)⟩) (v := _) rfl (by kernel_rfl) (by kernel_rfl) (by kernel_rfl) (fun _ _ _ h => h) (Or.inl ⟨by rfl, ?hy500⟩) (by assumption) ?rest500
      case hy500 => (intro w hSw; obtain ⟨s1, s2, s3, s4⟩ := hSw; go_simp <;> with_reducible rfl)
      case rest500 =>
      go_frame
      refine' wpAnyH_take (i := 51) (oi := ⟨some 70, .move (.tmp 69), _, _, _, some (37, true)⟩) (v := _) rfl (by kernel_rfl) (by kernel_rfl) (by kernel_rfl) (fun _ _ _ h => h) (Or.inl ⟨by rfl, ?hy501⟩) (by assumption) ?rest501
      case hy501 => (intro w hSw; obtain ⟨s1, s2, s3, s4⟩ := hSw; go_simp <;> with_reducible rfl)
      case rest501 =>
      go_frame
      refine' wpAnyH_take (i := 52) (oi := ⟨some 71, .move (.tmp 1), _, _, _, some (51, true)⟩) (v := undef) rfl (by kernel_rfl) (by kernel_rfl) (by kernel_rfl) (fun _ _ _ h => h) (Or.inr ⟨by rfl, rfl⟩) (by assumption) ?rest502
      case rest502 =>
      go_frame
      refine' wpAnyH_take (i := 53) (oi := ⟨some 72, .nilCheck (.tmp 71), _, _, _, some (51, true)⟩) (v := undef) rfl (by kernel_rfl) (by kernel_rfl) (by kernel_rfl) (fun _ _ _ h => h) (Or.inr ⟨by rfl, rfl⟩) (by assumption) ?rest503
      case rest503 =>
      go_frame
      refine' wpAnyH_take (i := 54) (oi := ⟨some 73, .fieldAddr 55 (.tmp 72) 1, _, _, _, some (51, true)⟩) (v := undef) rfl (by kernel_rfl) (by kernel_rfl) (by kernel_rfl) (fun _ _ _ h => h) (Or.inr ⟨by rfl, rfl⟩) (by assumption) ?rest504
      case rest504 =>
      go_frame
      refine' wpAnyH_take (i := 55) (oi := ⟨some 74, .load 53 (.tmp 73), _, _, _, some (51, true)⟩) (v := undef) rfl (by kernel_rfl) (by kernel_rfl) (by kernel_rfl) (fun _ _ _ h => h) (Or.inr ⟨by rfl, rfl⟩) (by assumption) ?rest505
      case rest505 =>
      go_frame
      refine' wpAnyH_take (i := 56) (oi := ⟨some 75, .move (.tmp 2), _, _, _, some (51, true)⟩) (v := undef) rfl (by kernel_rfl) (by kernel_rfl) (by kernel_rfl) (fun _ _ _ h => h) (Or.inr ⟨by rfl, rfl⟩) (by assumption) ?rest506
      case rest506 =>
      go_frame
      refine' wpAnyH_take (i := 57) (oi := ⟨some 76, .indexAddr 53 (.tmp 74) (.tmp 75), _, _, _, some (51, true)⟩) (v := undef) rfl (by kernel_rfl) (by kernel_rfl) (by kernel_rfl) (fun _ _ _ h => h) (Or.inr ⟨by rfl, rfl⟩) (by assumption) ?rest507
      case rest507 =>
      go_frame
      refine' wpAnyH_take (i := 58) (oi := ⟨some 77, .load 4 (.tmp 76), _, _, _, some (51, true)⟩) (v := undef) rfl (by kernel_rfl) (by kernel_rfl) (by kernel_rfl) (fun _ _ _ h => h) (Or.inr ⟨by rfl, rfl⟩) (by assumption) ?rest508
      case rest508 =>
      go_frame
      refine' wpAnyH_take (i := 59) (oi := ⟨some 78, .unOp .not 4 (.tmp 77), _, _, _, some (51, true)⟩) (v := undef) rfl (by kernel_rfl) (by kernel_rfl) (by kernel_rfl) (fun _ _ _ h => h) (Or.inr ⟨by rfl, rfl⟩) (by assumption) ?rest509
      case rest509 =>
      go_frame
      refine' wpAnyH_take (i := 60) (oi := ⟨some 79, .pick (.tmp 70) (.tmp 78) (.const (.bool false)), _, _, _, some (37, true)⟩) (v := _) rfl (by kernel_rfl) (by kernel_rfl) (by kernel_rfl) (fun _ _ _ h => h) (Or.inl ⟨by rfl, ?hy510⟩) (by assumption) ?rest510
      case hy510 => (intro w hSw; obtain ⟨s1, s2, s3, s4⟩ := hSw; go_simp <;> with_reducible rfl)
      case rest510 =>
      go_frame
      refine' wpAnyH_take (i := 61) (oi := ⟨some 80, .binOp .eql 4 (.tmp 59) (.tmp 79) 4, _, _, _, some (37, true)⟩) (v := _) rfl (by kernel_rfl) (by kernel_rfl) (by kernel_rfl) (fun _ _ _ h => h) (Or.inl ⟨by rfl, ?hy511⟩) (by assumption) ?rest511
      case hy511 => (intro w hSw; obtain ⟨s1, s2, s3, s4⟩ := hSw; go_simp <;> with_reducible rfl)
      case rest511 =>
      go_frame
      refine' wpAnyH_take (i := 62) (oi := ⟨some 81, .pick (.tmp 56) (.tmp 80) (.const (.bool false)), _, _, _, none⟩) (v := _) rfl (by kernel_rfl) (by kernel_rfl) (by kernel_rfl) (fun _ _ _ h => h) (Or.inl ⟨by rfl, ?hy512⟩) (by assumption) ?rest512
      case hy512 => (intro w hSw; obtain ⟨s1, s2, s3, s4⟩ := hSw; go_simp <;> with_reducible rfl)
      case rest512 =>
      go_frame
      refine' wpAnyH_take (i := 63) (oi := ⟨some 6, .assign (.tmp 81), _, _, _, none⟩) (v := _) rfl (by kernel_rfl) (by kernel_rfl) (by kernel_rfl) (fun _ _ _ h => h) (Or.inl ⟨by rfl, ?hy513⟩) (by assumption) ?rest513
      case hy513 => (intro w hSw; obtain ⟨s1, s2, s3, s4⟩ := hSw; go_simp <;> with_reducible rfl)
      case rest513 =>
      go_frame
      refine wpAnyH_done (by kernel_rfl) ?_ _
      go_wp2_with fail
      go_ret
      exact ⟨by simp, Hb6.out⟩
    · rw [if_pos (by rfl)]
      refine wp_run (.string ⟨L.toArray⟩) w6 (exec_conv (s := 39) (t := 9) (x := .tmp 36) rfl (v := .slice A6 n6 c6) rfl (run_string_rd (P := Try.prog) 39 9 5 Try.underlying39 Try.underlying5 Try.underlying9 Hr6.out)) ?_
      refine hK.out _ _ (HS.out _ Hb6.out) (fun _ => ?_)
      clear hK K
      try go_frame
      refine wpAnyH_ready (rs := [15]) (by kernel_rfl) (by simp) (AllReadyH.cons (o := ⟨some 34, .convert 39 9 (.tmp 33), _, _, _, some (12, true)⟩) rfl (fun K hK => ?_) AllReadyH.nil)
      rw [if_pos (by rfl)]
      refine wp_run (.string ⟨L.toArray⟩) w6 (exec_conv (s := 39) (t := 9) (x := .tmp 33) rfl (v := .slice A5 n5 c5) rfl (run_string_rd (P := Try.prog) 39 9 5 Try.underlying39 Try.underlying5 Try.underlying9 Hr56.out)) ?_
      refine hK.out _ _ (HS.out _ Hb6.out) (fun _ => ?_)
      clear hK K
      try go_frame
      refine' wpAnyH_take (i := 19) (oi := ⟨some 38, .binOp .eql 9 (.tmp 34) (.tmp 37) 9, _, _, _, some (12, true)⟩) (v := _) rfl (by kernel_rfl) (by kernel_rfl) (by kernel_rfl) (fun _ _ _ h => h) (Or.inl ⟨by rfl, ?hy514⟩) (by assumption) ?rest514
      case hy514 => (intro w hSw; obtain ⟨s1, s2, s3, s4⟩ := hSw; go_simp <;> with_reducible rfl)
      case rest514 =>
      go_frame
      refine' wpAnyH_take (i := 20) (oi := ⟨some 39, .pick (.tmp 31) (.tmp 38) (.const (.bool false)), _, _, _, none⟩) (v := _) rfl (by kernel_rfl) (by kernel_rfl) (by kernel_rfl) (fun _ _ _ h => h) (Or.inl ⟨by rfl, ?hy515⟩) (by assumption) ?rest515
      case hy515 => (intro w hSw; obtain ⟨s1, s2, s3, s4⟩ := hSw; go_simp <;> with_reducible rfl)
      case rest515 =>
      go_frame
      refine' wpAnyH_take (i := 21) (oi := ⟨some 40, .move (.tmp 39), _, _, _, none⟩) (v := _) rfl (by kernel_rfl) (by kernel_rfl) (by kernel_rfl) (fun _ _ _ h => h) (Or.inl ⟨by rfl, ?hy516⟩) (by assumption) ?rest516
      case hy516 => (intro w hSw; obtain ⟨s1, s2, s3, s4⟩ := hSw; go_simp <;> with_reducible rfl)
      case rest516 =>
      go_frame
      refine' wpAnyH_take (i := 22) (oi := ⟨some 41, .move (.tmp 0), _, _, _, some (21, true)⟩) (v := _) rfl (by kernel_rfl) (by kernel_rfl) (by kernel_rfl) (fun _ _ _ h => h) (Or.inl ⟨by rfl, ?hy517⟩) (by assumption) ?rest517
      case hy517 => (intro w hSw; obtain ⟨s1, s2, s3, s4⟩ := hSw; go_simp <;> with_reducible rfl)
      case rest517 =>
      go_frame
      refine' wpAnyH_take (i := 23) (oi := ⟨some 42, .move (.tmp 2), _, _, _, some (21, true)⟩) (v := _) rfl (by kernel_rfl) (by kernel_rfl) (by kernel_rfl) (fun _ _ _ h => h) (Or.inl ⟨by rfl, ?hy518⟩) (by assumption) ?rest518
      case hy518 => (intro w hSw; obtain ⟨s1, s2, s3, s4⟩ := hSw; go_simp <;> with_reducible rfl)
      case rest518 =>
      go_frame
      refine' wpAnyH_take (i := 25) (oi := ⟨some 44, .move (.tmp 7), _, _, _, some (21, true)⟩) (v := _) rfl (by kernel_rfl) (by kernel_rfl) (by kernel_rfl) (fun _ _ _ h => h) (Or.inl ⟨by rfl, ?hy519⟩) (by assumption) ?rest519
      case hy519 => (intro w hSw; obtain ⟨s1, s2, s3, s4⟩ := hSw; go_simp <;> with_reducible rfl)
      case rest519 =>
      go_frame
      refine wpAnyH_ready (rs := [24]) (by kernel_rfl) (by simp) (AllReadyH.cons (o := ⟨some 43, .call { callee := .value (.func 36), args := #[.tmp 41, .tmp 42], argTypes := #[23, 3] }, _, _, _, some (21, true)⟩) rfl (fun K hK => ?_) AllReadyH.nil)
      rw [if_pos (by rfl)]
      go_simp
      refine ((HT0.out w6 Hb6.out)).mono ?_
      rintro e w7 ⟨rfl, rfl⟩
      dsimp only
      refine hK.out _ _ (HS.out _ Hb6.out) (fun _ => ?_)
      clear hK K
      try go_frame
      refine' wpAnyH_take (i := 26) (oi := ⟨some 45, .move (.tmp 44), _, _, _, some (21, true)⟩) (v := _) rfl (by kernel_rfl) (by kernel_rfl) (by kernel_rfl) (fun _ _ _ h => h) (Or.inl ⟨by rfl, ?hy520⟩) (by assumption) ?rest520
      case hy520 => (intro w hSw; obtain ⟨s1, s2, s3, s4⟩ := hSw; go_simp <;> with_reducible rfl)
      case rest520 =>
      go_frame
      refine' wpAnyH_take (i := 27) (oi := ⟨some 46, .move (.tmp 1), _, _, _, some (26, true)⟩) (v := _) rfl (by kernel_rfl) (by kernel_rfl) (by kernel_rfl) (fun _ _ _ h => h) (Or.inl ⟨by rfl, ?hy521⟩) (by assumption) ?rest521
      case hy521 => (intro w hSw; obtain ⟨s1, s2, s3, s4⟩ := hSw; go_simp <;> with_reducible rfl)
      case rest521 =>
      go_frame
      refine' wpAnyH_take (i := 28) (oi := ⟨some 47, .nilCheck (.tmp 46), _, _, _, some (26, true)⟩) (v := _) rfl (by kernel_rfl) (by kernel_rfl) (by kernel_rfl) (fun _ _ _ h => h) (Or.inl ⟨by rfl, ?hy522⟩) (by assumption) ?rest522
      case hy522 => (intro w hSw; obtain ⟨s1, s2, s3, s4⟩ := hSw; go_simp <;> with_reducible rfl)
      case rest522 =>
      go_frame
      refine' wpAnyH_take (i := 29) (oi := ⟨some 48, .fieldAddr 55 (.tmp 47) 0, _, _, _, some (26, true)⟩) (v := _) rfl (by kernel_rfl) (by kernel_rfl) (by kernel_rfl) (fun _ _ _ h => h) (Or.inl ⟨by rfl, ?hy523⟩) (by assumption) ?rest523
      case hy523 => (intro w hSw; obtain ⟨s1, s2, s3, s4⟩ := hSw; go_simp <;> with_reducible rfl)
      case rest523 =>
      go_frame
      refine' wpAnyH_take (i := 30) (oi := ⟨some 49, .load 53 (.tmp 48), _, _, _, some (26, true)⟩) (v := _) rfl (by kernel_rfl) (by kernel_rfl) (by kernel_rfl) (fun _ _ _ h => h) (Or.inl ⟨by rfl, ?hy524⟩) (by assumption) ?rest524
      case hy524 => (intro w hSw; obtain ⟨s1, s2, s3, s4⟩ := hSw; go_simp <;> with_reducible rfl)
      case rest524 =>
      go_frame
      refine' wpAnyH_take (i := 31) (oi := ⟨some 50, .move (.tmp 2), _, _, _, some (26, true)⟩) (v := _) rfl (by kernel_rfl) (by kernel_rfl) (by kernel_rfl) (fun _ _ _ h => h) (Or.inl ⟨by rfl, ?hy525⟩) (by assumption) ?rest525
      case hy525 => (intro w hSw; obtain ⟨s1, s2, s3, s4⟩ := hSw; go_simp <;> with_reducible rfl)
      case rest525 =>
      go_frame
      refine' wpAnyH_take (i := 32) (oi := ⟨some 51, .indexAddr 53 (.tmp 49) (.tmp 50), _, _, _, some (26, true)⟩) (v := _) rfl (by kernel_rfl) (by kernel_rfl) (by kernel_rfl) (fun _ _ _ h => h) (Or.inl ⟨by rfl, ?hy526⟩) (by assumption) ?rest526
      case hy526 => (intro w hSw; obtain ⟨s1, s2, s3, s4⟩ := hSw; go_simp <;> with_reducible rfl)
      case rest526 =>
      go_frame
      refine' wpAnyH_take (i := 33) (oi := ⟨some 52, .load 4 (.tmp 51), _, _, _, some (26, true)⟩) (v := _) rfl (by kernel_rfl) (by kernel_rfl) (by kernel_rfl) (fun _ _ _ h => h) (Or.inl ⟨by rfl, ?hy527⟩) (by assumption) ?rest527
      case hy527 => (intro w hSw; obtain ⟨s1, s2, s3, s4⟩ := hSw; go_simp <;> with_reducible rfl)
      case rest527 =>
      go_frame
      refine' wpAnyH_take (i := 34) (oi := ⟨some 53, .pick (.tmp 45) (.tmp 52) (.const (.bool false)), _, _, _, some (21, true)⟩) (v := _) rfl (by kernel_rfl) (by kernel_rfl) (by kernel_rfl) (fun _ _ _ h => h) (Or.inl ⟨by rfl, ?hy528⟩) (by assumption) ?rest528
      case hy528 => (intro w hSw; obtain ⟨s1, s2, s3, s4⟩ := hSw; go_simp <;> with_reducible rfl)
      case rest528 =>
      go_frame
      refine' wpAnyH_take (i := 35) (oi := ⟨some 54, .binOp .eql 4 (.tmp 43) (.tmp 53) 4, _, _, _, some (21, true)⟩) (v := _) rfl (by kernel_rfl) (by kernel_rfl) (by kernel_rfl) (fun _ _ _ h => h) (Or.inl ⟨by rfl, ?hy529⟩) (by assumption) ?rest529
      case hy529 => (intro w hSw; obtain ⟨s1, s2, s3, s4⟩ := hSw; go_simp <;> with_reducible rfl)
      case rest529 =>
      go_frame
      refine' wpAnyH_take (i := 36) (oi := ⟨some 55, .pick (.tmp 40) (.tmp 54) (.const (.bool false)), _, _, _, none⟩) (v := _) rfl (by kernel_rfl) (by kernel_rfl) (by kernel_rfl) (fun _ _ _ h => h) (Or.inl ⟨by rfl, ?hy530⟩) (by assumption) ?rest530
      case hy530 => (intro w hSw; obtain ⟨s1, s2, s3, s4⟩ := hSw; go_simp <;> with_reducible rfl)
      case rest530 =>
      go_frame
      refine' wpAnyH_take (i := 37) (oi := ⟨some 56, .move (.tmp 55), _, _, _, none⟩) (v := _) rfl (by kernel_rfl) (by kernel_rfl) (by kernel_rfl) (fun _ _ _ h => h) (Or.inl ⟨by rfl, ?hy531⟩) (by assumption) ?rest531
      case hy531 => (intro w hSw; obtain ⟨s1, s2, s3, s4⟩ := hSw; go_simp <;> with_reducible rfl)
      case rest531 =>
      go_frame
      refine' wpAnyH_take (i := 38) (oi := ⟨some 57, .move (.tmp 0), _, _, _, some (37, true)⟩) (v := _) rfl (by kernel_rfl) (by kernel_rfl) (by kernel_rfl) (fun _ _ _ h => h) (Or.inl ⟨by rfl, ?hy532⟩) (by assumption) ?rest532
      case hy532 => (intro w hSw; obtain ⟨s1, s2, s3, s4⟩ := hSw; go_simp <;> with_reducible rfl)
      case rest532 =>
      go_frame
      refine' wpAnyH_take (i := 39) (oi := ⟨some 58, .move (.tmp 2), _, _, _, some (37, true)⟩) (v := _) rfl (by kernel_rfl) (by kernel_rfl) (by kernel_rfl) (fun _ _ _ h => h) (Or.inl ⟨by rfl, ?hy533⟩) (by assumption) ?rest533
      case hy533 => (intro w hSw; obtain ⟨s1, s2, s3, s4⟩ := hSw; go_simp <;> with_reducible rfl)
      case rest533 =>
      go_frame
      refine' wpAnyH_take (i := 41) (oi := ⟨some 60, .move (.tmp 7), _, _, _, some (37, true)⟩) (v := _) rfl (by kernel_rfl) (by kernel_rfl) (by kernel_rfl) (fun _ _ _ h => h) (Or.inl ⟨by rfl, ?hy534⟩) (by assumption) ?rest534
      case hy534 => (intro w hSw; obtain ⟨s1, s2, s3, s4⟩ := hSw; go_simp <;> with_reducible rfl)
      case rest534 =>
      go_frame
      refine wpAnyH_ready (rs := [40]) (by kernel_rfl) (by simp) (AllReadyH.cons (o := ⟨some 59, .call { callee := .value (.func 37), args := #[.tmp 57, .tmp 58], argTypes := #[23, 3] }, _, _, _, some (37, true)⟩) rfl (fun K hK => ?_) AllReadyH.nil)
      rw [if_pos (by rfl)]
      go_simp
      refine ((HF0.out w6 Hb6.out)).mono ?_
      rintro e w7 ⟨rfl, rfl⟩
      dsimp only
      refine hK.out _ _ (HS.out _ Hb6.out) (fun _ => ?_)
      clear hK K
      try go_frame
      refine' wpAnyH_take (i := 42) (oi := ⟨some 61, .move (.tmp 60), _, _, _, some (37, true)⟩) (v := _) rfl (by kernel_rfl) (by kernel_rfl) (by kernel_rfl) (fun _ _ _ h => h) (Or.inl ⟨by rfl, ?hy535⟩) (by assumption) ?rest535
      case hy535 => (intro w hSw; obtain ⟨s1, s2, s3, s4⟩ := hSw; go_simp <;> with_reducible rfl)
      case rest535 =>
      go_frame
      refine' wpAnyH_take (i := 43) (oi := ⟨some 62, .move (.tmp 1), _, _, _, some (42, true)⟩) (v := _) rfl (by kernel_rfl) (by kernel_rfl) (by kernel_rfl) (fun _ _ _ h => h) (Or.inl ⟨by rfl, ?hy536⟩) (by assumption) ?rest536
      case hy536 => (intro w hSw; obtain ⟨s1, s2, s3, s4⟩ := hSw; go_simp <;> with_reducible rfl)
      case rest536 =>
      go_frame
      refine' wpAnyH_take (i := 44) (oi := ⟨some 63, .nilCheck (.tmp 62), _, _, _, some (42, true)⟩) (v := _) rfl (by kernel_rfl) (by kernel_rfl) (by kernel_rfl) (fun _ _ _ h => h) (Or.inl ⟨by rfl, ?hy537⟩) (by assumption) ?rest537
      case hy537 => (intro w hSw; obtain ⟨s1, s2, s3, s4⟩ := hSw; go_simp <;> with_reducible rfl)
      case rest537 =>
      go_frame
      refine' wpAnyH_take (i := 45) (oi := ⟨some 64, .fieldAddr 55 (.tmp 63) 0, _, _, _, some (42, true)⟩) (v := _) rfl (by kernel_rfl) (by kernel_rfl) (by kernel_rfl) (fun _ _ _ h => h) (Or.inl ⟨by rfl, ?hy538⟩) (by assumption) ?rest538
      case hy538 => (intro w hSw; obtain ⟨s1, s2, s3, s4⟩ := hSw; go_simp <;> with_reducible rfl)
      case rest538 =>
      go_frame
      refine' wpAnyH_take (i := 46) (oi := ⟨some 65, .load 53 (.tmp 64), _, _, _, some (42, true)⟩) (v := _) rfl (by kernel_rfl) (by kernel_rfl) (by kernel_rfl) (fun _ _ _ h => h) (Or.inl ⟨by rfl, ?hy539⟩) (by assumption) ?rest539
      case hy539 => (intro w hSw; obtain ⟨s1, s2, s3, s4⟩ := hSw; go_simp <;> with_reducible rfl)
      case rest539 =>
      go_frame
      refine' wpAnyH_take (i := 47) (oi := ⟨some 66, .move (.tmp 2), _, _, _, some (42, true)⟩) (v := _) rfl (by kernel_rfl) (by kernel_rfl) (by kernel_rfl) (fun _ _ _ h => h) (Or.inl ⟨by rfl, ?hy540⟩) (by assumption) ?rest540
      case hy540 => (intro w hSw; obtain ⟨s1, s2, s3, s4⟩ := hSw; go_simp <;> with_reducible rfl)
      case rest540 =>
      go_frame
      refine' wpAnyH_take (i := 48) (oi := ⟨some 67, .indexAddr 53 (.tmp 65) (.tmp 66), _, _, _, some (42, true)⟩) (v := _) rfl (by kernel_rfl) (by kernel_rfl) (by kernel_rfl) (fun _ _ _ h => h) (Or.inl ⟨by rfl, ?hy541⟩) (by assumption) ?rest541
      case hy541 => (intro w hSw; obtain ⟨s1, s2, s3, s4⟩ := hSw; go_simp <;> with_reducible rfl)
      case rest541 =>
      go_frame
      refine' wpAnyH_take (i := 49) (oi := ⟨some 68, .load 4 (.tmp 67), _, _, _, some (42, true)⟩) (v := _) rfl (by kernel_rfl) (by kernel_rfl) (by kernel_rfl) (fun _ _ _ h => h) (Or.inl ⟨by rfl, ?hy542⟩) (by assumption) ?rest542
      case hy542 => (intro w hSw; obtain ⟨s1, s2, s3, s4⟩ := hSw; go_simp <;> with_reducible rfl)
      case rest542 =>
      go_frame
      refine' wpAnyH_take (i := 50) (oi := ⟨some 69, .pick (.tmp 61) (.tmp 68) (.const (.bool false)), _, _, _, some (37, true)⟩) (v := _) rfl (by kernel_rfl) (by kernel_rfl) (by kernel_rfl) (fun _ _ _ h => h) (Or.inl ⟨by rfl, ?hy543⟩) (by assumption) ?rest543
      case hy543 => (intro w hSw; obtain ⟨s1, s2, s3, s4⟩ := hSw; go_simp <;> with_reducible rfl)
      case rest543 =>
      go_frame
      refine' wpAnyH_take (i := 51) (oi := ⟨some 70, .move (.tmp 69), _, _, _, some (37, true)⟩) (v := _) rfl (by kernel_rfl) (by kernel_rfl) (by kernel_rfl) (fun _ _ _ h => h) (Or.inl ⟨by rfl, ?hy544⟩) (by assumption) ?rest544
      case hy544 => (intro w hSw; obtain ⟨s1, s2, s3, s4⟩ := hSw; go_simp <;> with_reducible rfl)
      case rest544 =>
      go_frame
      refine' wpAnyH_take (i := 52) (oi := ⟨some 71, .move (.tmp 1), _, _, _, some (51, true)⟩) (v := undef) rfl (by kernel_rfl) (by kernel_rfl) (by kernel_rfl) (fun _ _ _ h => h) (Or.inr ⟨by rfl, rfl⟩) (by assumption) ?rest545
      case rest545 =>
      go_frame
      refine' wpAnyH_take (i := 53) (oi := ⟨some 72, .nilCheck (.tmp 71), _, _, _, some (51, true)⟩) (v := undef) rfl (by kernel_rfl) (by kernel_rfl) (by kernel_rfl) (fun _ _ _ h => h) (Or.inr ⟨by rfl, rfl⟩) (by assumption) ?rest546
      case rest546 =>
      go_frame
      refine' wpAnyH_take (i := 54) (oi := ⟨some 73, .fieldAddr 55 (.tmp 72) 1, _, _, _, some (51, true)⟩) (v := undef) rfl (by kernel_rfl) (by kernel_rfl) (by kernel_rfl) (fun _ _ _ h => h) (Or.inr ⟨by rfl, rfl⟩) (by assumption) ?rest547
      case rest547 =>
      go_frame
      refine' wpAnyH_take (i := 55) (oi := ⟨some 74, .load 53 (.tmp 73), _, _, _, some (51, true)⟩) (v := undef) rfl (by kernel_rfl) (by kernel_rfl) (by kernel_rfl) (fun _ _ _ h => h) (Or.inr ⟨by rfl, rfl⟩) (by assumption) ?rest548
      case rest548 =>
      go_frame
      refine' wpAnyH_take (i := 56) (oi := ⟨some 75, .move (.tmp 2), _, _, _, some (51, true)⟩) (v := undef) rfl (by kernel_rfl) (by kernel_rfl) (by kernel_rfl) (fun _ _ _ h => h) (Or.inr ⟨by rfl, rfl⟩) (by assumption) ?rest549
      case rest549 =>
      go_frame
      refine' wpAnyH_take (i := 57) (oi := ⟨some 76, .indexAddr 53 (.tmp 74) (.tmp 75), _, _, _, some (51, true)⟩) (v := undef) rfl (by kernel_rfl) (by kernel_rfl) (by kernel_rfl) (fun _ _ _ h => h) (Or.inr ⟨by rfl, rfl⟩) (by assumption) ?rest550
      case rest550 =>
      go_frame
      refine' wpAnyH_take (i := 58) (oi := ⟨some 77, .load 4 (.tmp 76), _, _, _, some (51, true)⟩) (v := undef) rfl (by kernel_rfl) (by kernel_rfl) (by kernel_rfl) (fun _ _ _ h => h) (Or.inr ⟨by rfl, rfl⟩) (by assumption) ?rest551
      case rest551 =>
      go_frame
      refine' wpAnyH_take (i := 59) (oi := ⟨some 78, .unOp .not 4 (.tmp 77), _, _, _, some (51, true)⟩) (v := undef) rfl (by kernel_rfl) (by kernel_rfl) (by kernel_rfl) (fun _ _ _ h => h) (Or.inr ⟨by rfl, rfl⟩) (by assumption) ?rest552
      case rest552 =>
      go_frame
      refine' wpAnyH_take (i := 60) (oi := ⟨some 79, .pick (.tmp 70) (.tmp 78) (.const (.bool false)), _, _, _, some (37, true)⟩) (v := _) rfl (by kernel_rfl) (by kernel_rfl) (by kernel_rfl) (fun _ _ _ h => h) (Or.inl ⟨by rfl, ?hy553⟩) (by assumption) ?rest553
      case hy553 => (intro w hSw; obtain ⟨s1, s2, s3, s4⟩ := hSw; go_simp <;> with_reducible rfl)
      case rest553 =>
      go_frame
      refine' wpAnyH_take (i := 61) (oi := ⟨some 80, .binOp .eql 4 (.tmp 59) (.tmp 79) 4, _, _, _, some (37, true)⟩) (v := _) rfl (by kernel_rfl) (by kernel_rfl) (by kernel_rfl) (fun _ _ _ h => h) (Or.inl ⟨by rfl, ?hy554⟩) (by assumption) ?rest554
      case hy554 => (intro w hSw; obtain ⟨s1, s2, s3, s4⟩ := hSw; go_simp <;> with_reducible rfl)
      case rest554 =>
      go_frame
      refine' wpAnyH_take (i := 62) (oi := ⟨some 81, .pick (.tmp 56) (.tmp 80) (.const (.bool false)), _, _, _, none⟩) (v := _) rfl (by kernel_rfl) (by kernel_rfl) (by kernel_rfl) (fun _ _ _ h => h) (Or.inl ⟨by rfl, ?hy555⟩) (by assumption) ?rest555
      case hy555 => (intro w hSw; obtain ⟨s1, s2, s3, s4⟩ := hSw; go_simp <;> with_reducible rfl)
      case rest555 =>
      go_frame
      refine' wpAnyH_take (i := 63) (oi := ⟨some 6, .assign (.tmp 81), _, _, _, none⟩) (v := _) rfl (by kernel_rfl) (by kernel_rfl) (by kernel_rfl) (fun _ _ _ h => h) (Or.inl ⟨by rfl, ?hy556⟩) (by assumption) ?rest556
      case hy556 => (intro w hSw; obtain ⟨s1, s2, s3, s4⟩ := hSw; go_simp <;> with_reducible rfl)
      case rest556 =>
      go_frame
      refine wpAnyH_done (by kernel_rfl) ?_ _
      go_wp2_with fail
      go_ret
      exact ⟨by simp, Hb6.out⟩
end
end Go.Proofs.Ytllhilnajjohiaa
