/-
  A space and the document's space, in one memory: alike.
-/
import Derived.Test.YtllhilnajjohiaaSrD
import Derived.Test.YtllhilnajjohiaaInts
import Derived.Deep.RegionHeld3
namespace Go.Proofs.Ytllhilnajjohiaa
open Go.RowKit
theorem exec_conv {P : Program} {w : World} {o : Oper} {ρ : Operand → Value} {s t : TypeId} {x : Operand} (ho : o.op = .convert s t x) {v r : Value} (hx : ρ x = v) {w' : World} (hrun : (convert s t v).run P w = .ok r w') : (execOp ρ o).run P w = .ok (.value r) w' := by
  unfold execOp
  simp only [ho, hx, Sem.run_bind, hrun, Result.andThen_ok, Sem.run_pure]
/-- Both spaces, in one memory, alike. -/
structure SpTwo (w : World) (a p gn cn gs cs : Nat) (x : Spc) : Prop where
  sp : SpcIs w a x
  rf : RefSp w p gn cn gs cs x
  ne : a ≠ p ∧ a ≠ gn ∧ a ≠ gs
section
variable {w w' : World} {a p gn cn gs cs : Nat} {x : Spc}
theorem SpTwo.below (h : SpTwo w a p gn cn gs cs x) (hb : Below w.heap.size w w') : SpTwo w' a p gn cn gs cs x := ⟨h.sp.below hb, h.rf.below hb, h.ne⟩
theorem rd_ints {B n c : Nat} {A : Option Addr} {l : List Nat} (h : Rd w B (.slice A n c) (cellsN l)) : ∀ k, k < n → ∃ g o, A = some ⟨g, o, none⟩ ∧ w.cell? ⟨g, o + k, none⟩ = some (.int .i64 ((l.getD k 0 : Nat) : Int)) := by
  obtain ⟨A', c', e, _, _, _, h4⟩ := h
  injection e with e1 e2 e3
  rw [cellsN_length] at e2 h4
  intro k hk
  obtain ⟨g, o, hA, _, hc⟩ := h4 (by omega)
  refine ⟨g, o, e1.trans hA, hc k _ ?_⟩
  unfold cellsN
  rw [List.getElem?_map, List.getD_eq_getElem?_getD, List.getElem?_eq_getElem (by omega)]
  rfl
theorem usedS_any (h : SpcIs w a x) {m : Nat} (hm : m = (used x.now x.n).length) : Calls Try.prog 33 #[spAt a] w fun e w' => ∃ A c, e = .returned (.slice A m c) ∧ Rd w' w'.heap.size (.slice A m c) (cellsN (used x.now x.n)) ∧ Below w.heap.size w w' := by
  refine (used_any h).mono ?_
  rintro e w1 ⟨v, rfl, hv, hb⟩
  obtain ⟨A, c, rfl⟩ := hv.form
  rw [cellsN_length, ← hm] at hv ⊢
  exact ⟨A, c, rfl, hv.rd, hb⟩
theorem rusedS_any (h : RefSp w p gn cn gs cs x) {m : Nat} (hm : m = (used x.now x.n).length) : Calls Try.prog 34 #[spAt p] w fun e w' => ∃ A c, e = .returned (.slice A m c) ∧ Rd w' w'.heap.size (.slice A m c) (cellsN (used x.now x.n)) ∧ Below w.heap.size w w' := by
  refine (rused_any h).mono ?_
  rintro e w1 ⟨v, rfl, hv, hb⟩
  obtain ⟨A, c, rfl⟩ := hv.form
  rw [cellsN_length, ← hm] at hv ⊢
  exact ⟨A, c, rfl, hv.rd, hb⟩
theorem bytesS_any (h : SpcIs w a x) {L : List UInt8} (hL : L = x.bytes) : Calls Try.prog 22 #[spAt a] w fun e w' => ∃ A n c, e = .returned (.slice A n c) ∧ Rd w' w'.heap.size (.slice A n c) (cellsB L) ∧ Below w.heap.size w w' := by
  refine (bytes_any h).mono ?_
  rintro e w1 ⟨v, rfl, hv, hb⟩
  obtain ⟨A, c, rfl⟩ := hv.form
  rw [hL]
  exact ⟨A, _, c, rfl, hv.rd, hb⟩
theorem rbytesS_any (h : RefSp w p gn cn gs cs x) {L : List UInt8} (hL : L = x.bytes) : Calls Try.prog 35 #[spAt p] w fun e w' => ∃ A n c, e = .returned (.slice A n c) ∧ Rd w' w'.heap.size (.slice A n c) (cellsB L) ∧ Below w.heap.size w w' := by
  refine (rbytes_any h).mono ?_
  rintro e w1 ⟨v, rfl, hv, hb⟩
  obtain ⟨A, c, rfl⟩ := hv.form
  rw [hL]
  exact ⟨A, _, c, rfl, hv.rd, hb⟩
theorem fresh_out (h : x.Ok) {no : Int} (hno : no < 0 ∨ (x.n : Int) ≤ no) : x.fresh no = false := by
  unfold Spc.fresh
  by_cases hz : no < 0
  · simp; omega
  · rw [h.now no.toNat (by omega)]; simp
set_option maxRecDepth 100000 in
set_option maxHeartbeats 4000000 in
theorem alike_neg (h : SpTwo w a p gn cn gs cs x) {no : Int} (hz : no < 0) :
    Calls Try.prog 18 #[spAt a, spAt p, .int .i64 no] w fun e w' => e = .returned (.bool true) ∧ Below w.heap.size w w' := by
  have HT : Hid (∀ w', Below w.heap.size w w' → SpTwo w' a p gn cn gs cs x) := Lib.hid fun w' hb => h.below hb
  have Hb0 : Hid (Below w.heap.size w w.drew) := Lib.hid (Below.refl _ _).drew
  obtain ⟨r, hr⟩ : ∃ r, r = _root_.Go.Proofs.Ytllhilnajjohiaa.free x.held x.n := ⟨_, rfl⟩
  obtain ⟨m, hm⟩ : ∃ m, m = (used x.now x.n).length := ⟨_, rfl⟩
  obtain ⟨L, hL⟩ : ∃ L, L = x.bytes := ⟨_, rfl⟩
  have Hm : Hid (m < 1000000) := Lib.hid (by have := used_le x.now x.n; have := h.sp.ok.size; omega)
  have HR0 : Hid (Calls Try.prog 23 #[spAt a] w.drew fun e w' => e = .returned (.int .i64 (r : Int)) ∧ Below w.heap.size w.drew w') := Lib.hid (by rw [hr]; exact room_any (HT.out _ Hb0.out).sp)
  have HR1 : Hid (∀ w1, Below w.heap.size w w1 → Calls Try.prog 31 #[spAt p] w1 fun e w' => e = .returned (.int .i64 (r : Int)) ∧ w1 = w') := Lib.hid fun w1 hb => by rw [hr]; exact rroom_any (HT.out _ hb).rf
  have HU0 := Lib.hid fun w1 hb => usedS_any (HT.out w1 hb).sp hm
  have HU1 := Lib.hid fun w1 hb => rusedS_any (HT.out w1 hb).rf hm
  have HB0 := Lib.hid fun w1 hb => bytesS_any (HT.out w1 hb).sp hL
  have HB1 := Lib.hid fun w1 hb => rbytesS_any (HT.out w1 hb).rf hL
  have HS : Hid (∀ w', Below w.heap.size w w' → True) := Lib.hid fun _ _ => trivial
  have ho : no < 0 ∨ (x.n : Int) ≤ no := by omega
  have HT0 : Hid (∀ w1, Below w.heap.size w w1 → Calls Try.prog 36 #[spAt a, .int .i64 no] w1 fun e w' => e = .returned (.bool false) ∧ w1 = w') := Lib.hid fun w1 hb => by rw [← h.sp.ok.taken_out ho]; exact taken_any (HT.out w1 hb).sp no
  have HF0 : Hid (∀ w1, Below w.heap.size w w1 → Calls Try.prog 37 #[spAt a, .int .i64 no] w1 fun e w' => e = .returned (.bool false) ∧ w1 = w') := Lib.hid fun w1 hb => by rw [← fresh_out h.sp.ok ho]; exact fresh_any (HT.out w1 hb).sp no
  have z1 : decide ((0 : Int) ≤ no) = false := by simp; omega
  clear hz
  clear ho
  have h0 := h.rf.c0
  have h1 := h.rf.c1
  have hcn := h.rf.rN.caps.1
  have hcs := h.rf.rS.caps.1
  have hn2 := h.sp.ok.size
  obtain ⟨n, hn⟩ : ∃ n, n = x.n := ⟨_, rfl⟩
  rw [← hn] at *
  clear HT h hr hm hL hn
  go_enter Try.func18, Try.ntmps18
  go_wp2_with fail
  refine wp_region_held_drew (S := fun _ => True) (by kernel_rfl) trivial (fun hHeld => ?_)
  refine' wpAnyH_take (i := 0) (oi := ⟨some 19, .move (.tmp 0), _, _, _, none⟩) (v := _) rfl (by kernel_rfl) (by kernel_rfl) (by kernel_rfl) (fun _ _ _ h => h) (Or.inl ⟨by rfl, ?hy1⟩) (by assumption) ?rest1
  case hy1 => (intro w hSw; obtain _ := hSw; go_simp <;> with_reducible rfl)
  case rest1 =>
  go_frame
  refine' wpAnyH_take (i := 2) (oi := ⟨some 21, .move (.tmp 1), _, _, _, none⟩) (v := _) rfl (by kernel_rfl) (by kernel_rfl) (by kernel_rfl) (fun _ _ _ h => h) (Or.inl ⟨by rfl, ?hy2⟩) (by assumption) ?rest2
  case hy2 => (intro w hSw; obtain _ := hSw; go_simp <;> with_reducible rfl)
  case rest2 =>
  go_frame
  refine wpAnyH_ready (rs := [1]) (by kernel_rfl) (by simp) (AllReadyH.cons (o := ⟨some 20, .call { callee := .value (.func 23), args := #[.tmp 19], argTypes := #[23] }, _, _, _, none⟩) rfl (fun K hK => ?_) AllReadyH.nil)
  rw [if_pos (by rfl)]
  go_simp
  refine (HR0.out).mono ?_
  rintro e w1 ⟨rfl, hb1⟩
  have Hb1 := Lib.hid (up Hb0.out hb1)
  clear hb1
  dsimp only
  refine hK.out _ _ (HS.out _ Hb1.out) (fun _ => ?_)
  clear hK K
  try go_frame
  refine wpAnyH_ready (rs := [3]) (by kernel_rfl) (by simp) (AllReadyH.cons (o := ⟨some 22, .call { callee := .value (.func 31), args := #[.tmp 21], argTypes := #[28] }, _, _, _, none⟩) rfl (fun K hK => ?_) AllReadyH.nil)
  rw [if_pos (by rfl)]
  go_simp
  refine ((HR1.out w1 Hb1.out)).mono ?_
  rintro e w2 ⟨rfl, rfl⟩
  dsimp only
  refine hK.out _ _ (HS.out _ Hb1.out) (fun _ => ?_)
  clear hK K
  try go_frame
  refine' wpAnyH_take (i := 4) (oi := ⟨some 23, .binOp .eql 3 (.tmp 20) (.tmp 22) 3, _, _, _, none⟩) (v := _) rfl (by kernel_rfl) (by kernel_rfl) (by kernel_rfl) (fun _ _ _ h => h) (Or.inl ⟨by rfl, ?hy3⟩) (by assumption) ?rest3
  case hy3 => (intro w hSw; obtain _ := hSw; go_simp <;> with_reducible rfl)
  case rest3 =>
  go_frame
  refine' wpAnyH_take (i := 5) (oi := ⟨some 24, .move (.tmp 23), _, _, _, none⟩) (v := _) rfl (by kernel_rfl) (by kernel_rfl) (by kernel_rfl) (fun _ _ _ h => h) (Or.inl ⟨by rfl, ?hy4⟩) (by assumption) ?rest4
  case hy4 => (intro w hSw; obtain _ := hSw; go_simp <;> with_reducible rfl)
  case rest4 =>
  go_frame
  refine' wpAnyH_take (i := 6) (oi := ⟨some 25, .move (.tmp 0), _, _, _, some (5, true)⟩) (v := _) rfl (by kernel_rfl) (by kernel_rfl) (by kernel_rfl) (fun _ _ _ h => h) (Or.inl ⟨by rfl, ?hy5⟩) (by assumption) ?rest5
  case hy5 => (intro w hSw; obtain _ := hSw; go_simp <;> with_reducible rfl)
  case rest5 =>
  go_frame
  refine' wpAnyH_take (i := 8) (oi := ⟨some 27, .move (.tmp 1), _, _, _, some (5, true)⟩) (v := _) rfl (by kernel_rfl) (by kernel_rfl) (by kernel_rfl) (fun _ _ _ h => h) (Or.inl ⟨by rfl, ?hy6⟩) (by assumption) ?rest6
  case hy6 => (intro w hSw; obtain _ := hSw; go_simp <;> with_reducible rfl)
  case rest6 =>
  go_frame
  refine wpAnyH_ready (rs := [7]) (by kernel_rfl) (by simp) (AllReadyH.cons (o := ⟨some 26, .call { callee := .value (.func 33), args := #[.tmp 25], argTypes := #[23] }, _, _, _, some (5, true)⟩) rfl (fun K hK => ?_) AllReadyH.nil)
  rw [if_pos (by rfl)]
  go_simp
  refine ((HU0.out w1 Hb1.out)).mono ?_
  rintro e w2 ⟨A2, c2, rfl, hr2, hb2⟩
  have Hb2 := Lib.hid (up Hb1.out hb2)
  have Hr2 := Lib.hid hr2
  clear hr2 hb2
  dsimp only
  refine hK.out _ _ (HS.out _ Hb2.out) (fun _ => ?_)
  clear hK K
  try go_frame
  refine wpAnyH_ready (rs := [9]) (by kernel_rfl) (by simp) (AllReadyH.cons (o := ⟨some 28, .call { callee := .value (.func 34), args := #[.tmp 27], argTypes := #[28] }, _, _, _, some (5, true)⟩) rfl (fun K hK => ?_) AllReadyH.nil)
  rw [if_pos (by rfl)]
  go_simp
  refine ((HU1.out w2 Hb2.out)).mono ?_
  rintro e w3 ⟨A3, c3, rfl, hr3, hb3⟩
  have Hb3 := Lib.hid (up Hb2.out hb3)
  have Hi3 := Lib.hid (ints_same (w := w3) (c := c2) (c2 := c3) (rd_ints (Hr2.out.below hb3)) (rd_ints hr3) Hm.out)
  clear hr3 hb3 Hr2
  dsimp only
  refine hK.out _ _ (HS.out _ Hb3.out) (fun _ => ?_)
  clear hK K
  try go_frame
  refine wpAnyH_ready (rs := [10]) (by kernel_rfl) (by simp) (AllReadyH.cons (o := ⟨some 29, .call { callee := .value (.func 32), args := #[.tmp 26, .tmp 28], argTypes := #[58, 58] }, _, _, _, some (5, true)⟩) rfl (fun K hK => ?_) AllReadyH.nil)
  rw [if_pos (by rfl)]
  go_simp
  refine (Hi3.out).mono ?_
  rintro e w4 ⟨rfl, hb4⟩
  have Hb4 := Lib.hid (up Hb3.out hb4)
  clear hb4 Hi3
  dsimp only
  refine hK.out _ _ (HS.out _ Hb4.out) (fun _ => ?_)
  clear hK K
  try go_frame
  refine' wpAnyH_take (i := 11) (oi := ⟨some 30, .pick (.tmp 24) (.tmp 29) (.const (.bool false)), _, _, _, none⟩) (v := _) rfl (by kernel_rfl) (by kernel_rfl) (by kernel_rfl) (fun _ _ _ h => h) (Or.inl ⟨by rfl, ?hy7⟩) (by assumption) ?rest7
  case hy7 => (intro w hSw; obtain _ := hSw; go_simp <;> with_reducible rfl)
  case rest7 =>
  go_frame
  refine' wpAnyH_take (i := 12) (oi := ⟨some 31, .move (.tmp 30), _, _, _, none⟩) (v := _) rfl (by kernel_rfl) (by kernel_rfl) (by kernel_rfl) (fun _ _ _ h => h) (Or.inl ⟨by rfl, ?hy8⟩) (by assumption) ?rest8
  case hy8 => (intro w hSw; obtain _ := hSw; go_simp <;> with_reducible rfl)
  case rest8 =>
  go_frame
  refine' wpAnyH_take (i := 13) (oi := ⟨some 32, .move (.tmp 0), _, _, _, some (12, true)⟩) (v := _) rfl (by kernel_rfl) (by kernel_rfl) (by kernel_rfl) (fun _ _ _ h => h) (Or.inl ⟨by rfl, ?hy9⟩) (by assumption) ?rest9
  case hy9 => (intro w hSw; obtain _ := hSw; go_simp <;> with_reducible rfl)
  case rest9 =>
  go_frame
  refine' wpAnyH_take (i := 16) (oi := ⟨some 35, .move (.tmp 1), _, _, _, some (12, true)⟩) (v := _) rfl (by kernel_rfl) (by kernel_rfl) (by kernel_rfl) (fun _ _ _ h => h) (Or.inl ⟨by rfl, ?hy10⟩) (by assumption) ?rest10
  case hy10 => (intro w hSw; obtain _ := hSw; go_simp <;> with_reducible rfl)
  case rest10 =>
  go_frame
  refine wpAnyH_ready (rs := [14]) (by kernel_rfl) (by simp) (AllReadyH.cons (o := ⟨some 33, .call { callee := .value (.func 22), args := #[.tmp 32], argTypes := #[23] }, _, _, _, some (12, true)⟩) rfl (fun K hK => ?_) AllReadyH.nil)
  rw [if_pos (by rfl)]
  go_simp
  refine ((HB0.out w4 Hb4.out)).mono ?_
  rintro e w5 ⟨A5, n5, c5, rfl, hr5, hb5⟩
  have Hb5 := Lib.hid (up Hb4.out hb5)
  have Hr5 := Lib.hid hr5
  clear hr5 hb5
  dsimp only
  refine hK.out _ _ (HS.out _ Hb5.out) (fun _ => ?_)
  clear hK K
  try go_frame
  refine wpAnyH_ready (rs := [15, 17]) (by kernel_rfl) (by simp) (AllReadyH.cons (o := ⟨some 34, .convert 39 9 (.tmp 33), _, _, _, some (12, true)⟩) rfl (fun K hK => ?_) (AllReadyH.cons (o := ⟨some 36, .call { callee := .value (.func 35), args := #[.tmp 35], argTypes := #[28] }, _, _, _, some (12, true)⟩) rfl (fun K hK => ?_) AllReadyH.nil))
  · rw [if_pos (by rfl)]
    refine wp_run (.string ⟨L.toArray⟩) w5 (exec_conv (s := 39) (t := 9) (x := .tmp 33) rfl (v := .slice A5 n5 c5) rfl (run_string_rd (P := Try.prog) 39 9 5 Try.underlying39 Try.underlying5 Try.underlying9 Hr5.out)) ?_
    refine hK.out _ _ (HS.out _ Hb5.out) (fun _ => ?_)
    clear hK K
    try go_frame
    refine wpAnyH_ready (rs := [17]) (by kernel_rfl) (by simp) (AllReadyH.cons (o := ⟨some 36, .call { callee := .value (.func 35), args := #[.tmp 35], argTypes := #[28] }, _, _, _, some (12, true)⟩) rfl (fun K hK => ?_) AllReadyH.nil)
    rw [if_pos (by rfl)]
    go_simp
    refine ((HB1.out w5 Hb5.out)).mono ?_
    rintro e w6 ⟨A6, n6, c6, rfl, hr6, hb6⟩
    have Hb6 := Lib.hid (up Hb5.out hb6)
    have Hr6 := Lib.hid hr6
    have Hr56 := Lib.hid (Hr5.out.below hb6)
    clear hr6 hb6
    dsimp only
    refine hK.out _ _ (HS.out _ Hb6.out) (fun _ => ?_)
    clear hK K
    try go_frame
    refine wpAnyH_ready (rs := [18]) (by kernel_rfl) (by simp) (AllReadyH.cons (o := ⟨some 37, .convert 39 9 (.tmp 36), _, _, _, some (12, true)⟩) rfl (fun K hK => ?_) AllReadyH.nil)
    rw [if_pos (by rfl)]
    refine wp_run (.string ⟨L.toArray⟩) w6 (exec_conv (s := 39) (t := 9) (x := .tmp 36) rfl (v := .slice A6 n6 c6) rfl (run_string_rd (P := Try.prog) 39 9 5 Try.underlying39 Try.underlying5 Try.underlying9 Hr6.out)) ?_
    refine hK.out _ _ (HS.out _ Hb6.out) (fun _ => ?_)
    clear hK K
    try go_frame
    refine' wpAnyH_take (i := 19) (oi := ⟨some 38, .binOp .eql 9 (.tmp 34) (.tmp 37) 9, _, _, _, some (12, true)⟩) (v := _) rfl (by kernel_rfl) (by kernel_rfl) (by kernel_rfl) (fun _ _ _ h => h) (Or.inl ⟨by rfl, ?hy11⟩) (by assumption) ?rest11
    case hy11 => (intro w hSw; obtain _ := hSw; go_simp <;> with_reducible rfl)
    case rest11 =>
    go_frame
    refine' wpAnyH_take (i := 20) (oi := ⟨some 39, .pick (.tmp 31) (.tmp 38) (.const (.bool false)), _, _, _, none⟩) (v := _) rfl (by kernel_rfl) (by kernel_rfl) (by kernel_rfl) (fun _ _ _ h => h) (Or.inl ⟨by rfl, ?hy12⟩) (by assumption) ?rest12
    case hy12 => (intro w hSw; obtain _ := hSw; go_simp <;> with_reducible rfl)
    case rest12 =>
    go_frame
    refine' wpAnyH_take (i := 21) (oi := ⟨some 40, .move (.tmp 39), _, _, _, none⟩) (v := _) rfl (by kernel_rfl) (by kernel_rfl) (by kernel_rfl) (fun _ _ _ h => h) (Or.inl ⟨by rfl, ?hy13⟩) (by assumption) ?rest13
    case hy13 => (intro w hSw; obtain _ := hSw; go_simp <;> with_reducible rfl)
    case rest13 =>
    go_frame
    refine' wpAnyH_take (i := 22) (oi := ⟨some 41, .move (.tmp 0), _, _, _, some (21, true)⟩) (v := _) rfl (by kernel_rfl) (by kernel_rfl) (by kernel_rfl) (fun _ _ _ h => h) (Or.inl ⟨by rfl, ?hy14⟩) (by assumption) ?rest14
    case hy14 => (intro w hSw; obtain _ := hSw; go_simp <;> with_reducible rfl)
    case rest14 =>
    go_frame
    refine' wpAnyH_take (i := 23) (oi := ⟨some 42, .move (.tmp 2), _, _, _, some (21, true)⟩) (v := _) rfl (by kernel_rfl) (by kernel_rfl) (by kernel_rfl) (fun _ _ _ h => h) (Or.inl ⟨by rfl, ?hy15⟩) (by assumption) ?rest15
    case hy15 => (intro w hSw; obtain _ := hSw; go_simp <;> with_reducible rfl)
    case rest15 =>
    go_frame
    refine' wpAnyH_take (i := 25) (oi := ⟨some 44, .move (.tmp 7), _, _, _, some (21, true)⟩) (v := _) rfl (by kernel_rfl) (by kernel_rfl) (by kernel_rfl) (fun _ _ _ h => h) (Or.inl ⟨by rfl, ?hy16⟩) (by assumption) ?rest16
    case hy16 => (intro w hSw; obtain _ := hSw; go_simp <;> with_reducible rfl)
    case rest16 =>
    go_frame
    refine wpAnyH_ready (rs := [24]) (by kernel_rfl) (by simp) (AllReadyH.cons (o := ⟨some 43, .call { callee := .value (.func 36), args := #[.tmp 41, .tmp 42], argTypes := #[23, 3] }, _, _, _, some (21, true)⟩) rfl (fun K hK => ?_) AllReadyH.nil)
    rw [if_pos (by rfl)]
    go_simp
    refine ((HT0.out w6 Hb6.out)).mono ?_
    rintro e w7 ⟨rfl, rfl⟩
    dsimp only
    refine hK.out _ _ (HS.out _ Hb6.out) (fun _ => ?_)
    clear hK K
    try go_frame
    refine' wpAnyH_take (i := 26) (oi := ⟨some 45, .move (.tmp 44), _, _, _, some (21, true)⟩) (v := _) rfl (by kernel_rfl) (by kernel_rfl) (by kernel_rfl) (fun _ _ _ h => h) (Or.inl ⟨by rfl, ?hy17⟩) (by assumption) ?rest17
    case hy17 => (intro w hSw; obtain _ := hSw; go_simp <;> with_reducible rfl)
    case rest17 =>
    go_frame
    refine' wpAnyH_take (i := 27) (oi := ⟨some 46, .move (.tmp 1), _, _, _, some (26, true)⟩) (v := undef) rfl (by kernel_rfl) (by kernel_rfl) (by kernel_rfl) (fun _ _ _ h => h) (Or.inr ⟨by rfl, rfl⟩) (by assumption) ?rest18
    case rest18 =>
    go_frame
    refine' wpAnyH_take (i := 28) (oi := ⟨some 47, .nilCheck (.tmp 46), _, _, _, some (26, true)⟩) (v := undef) rfl (by kernel_rfl) (by kernel_rfl) (by kernel_rfl) (fun _ _ _ h => h) (Or.inr ⟨by rfl, rfl⟩) (by assumption) ?rest19
    case rest19 =>
    go_frame
    refine' wpAnyH_take (i := 29) (oi := ⟨some 48, .fieldAddr 55 (.tmp 47) 0, _, _, _, some (26, true)⟩) (v := undef) rfl (by kernel_rfl) (by kernel_rfl) (by kernel_rfl) (fun _ _ _ h => h) (Or.inr ⟨by rfl, rfl⟩) (by assumption) ?rest20
    case rest20 =>
    go_frame
    refine' wpAnyH_take (i := 30) (oi := ⟨some 49, .load 53 (.tmp 48), _, _, _, some (26, true)⟩) (v := undef) rfl (by kernel_rfl) (by kernel_rfl) (by kernel_rfl) (fun _ _ _ h => h) (Or.inr ⟨by rfl, rfl⟩) (by assumption) ?rest21
    case rest21 =>
    go_frame
    refine' wpAnyH_take (i := 31) (oi := ⟨some 50, .move (.tmp 2), _, _, _, some (26, true)⟩) (v := undef) rfl (by kernel_rfl) (by kernel_rfl) (by kernel_rfl) (fun _ _ _ h => h) (Or.inr ⟨by rfl, rfl⟩) (by assumption) ?rest22
    case rest22 =>
    go_frame
    refine' wpAnyH_take (i := 32) (oi := ⟨some 51, .indexAddr 53 (.tmp 49) (.tmp 50), _, _, _, some (26, true)⟩) (v := undef) rfl (by kernel_rfl) (by kernel_rfl) (by kernel_rfl) (fun _ _ _ h => h) (Or.inr ⟨by rfl, rfl⟩) (by assumption) ?rest23
    case rest23 =>
    go_frame
    refine' wpAnyH_take (i := 33) (oi := ⟨some 52, .load 4 (.tmp 51), _, _, _, some (26, true)⟩) (v := undef) rfl (by kernel_rfl) (by kernel_rfl) (by kernel_rfl) (fun _ _ _ h => h) (Or.inr ⟨by rfl, rfl⟩) (by assumption) ?rest24
    case rest24 =>
    go_frame
    refine' wpAnyH_take (i := 34) (oi := ⟨some 53, .pick (.tmp 45) (.tmp 52) (.const (.bool false)), _, _, _, some (21, true)⟩) (v := _) rfl (by kernel_rfl) (by kernel_rfl) (by kernel_rfl) (fun _ _ _ h => h) (Or.inl ⟨by rfl, ?hy25⟩) (by assumption) ?rest25
    case hy25 => (intro w hSw; obtain _ := hSw; go_simp <;> with_reducible rfl)
    case rest25 =>
    go_frame
    refine' wpAnyH_take (i := 35) (oi := ⟨some 54, .binOp .eql 4 (.tmp 43) (.tmp 53) 4, _, _, _, some (21, true)⟩) (v := _) rfl (by kernel_rfl) (by kernel_rfl) (by kernel_rfl) (fun _ _ _ h => h) (Or.inl ⟨by rfl, ?hy26⟩) (by assumption) ?rest26
    case hy26 => (intro w hSw; obtain _ := hSw; go_simp <;> with_reducible rfl)
    case rest26 =>
    go_frame
    refine' wpAnyH_take (i := 36) (oi := ⟨some 55, .pick (.tmp 40) (.tmp 54) (.const (.bool false)), _, _, _, none⟩) (v := _) rfl (by kernel_rfl) (by kernel_rfl) (by kernel_rfl) (fun _ _ _ h => h) (Or.inl ⟨by rfl, ?hy27⟩) (by assumption) ?rest27
    case hy27 => (intro w hSw; obtain _ := hSw; go_simp <;> with_reducible rfl)
    case rest27 =>
    go_frame
    refine' wpAnyH_take (i := 37) (oi := ⟨some 56, .move (.tmp 55), _, _, _, none⟩) (v := _) rfl (by kernel_rfl) (by kernel_rfl) (by kernel_rfl) (fun _ _ _ h => h) (Or.inl ⟨by rfl, ?hy28⟩) (by assumption) ?rest28
    case hy28 => (intro w hSw; obtain _ := hSw; go_simp <;> with_reducible rfl)
    case rest28 =>
    go_frame
    refine' wpAnyH_take (i := 38) (oi := ⟨some 57, .move (.tmp 0), _, _, _, some (37, true)⟩) (v := _) rfl (by kernel_rfl) (by kernel_rfl) (by kernel_rfl) (fun _ _ _ h => h) (Or.inl ⟨by rfl, ?hy29⟩) (by assumption) ?rest29
    case hy29 => (intro w hSw; obtain _ := hSw; go_simp <;> with_reducible rfl)
    case rest29 =>
    go_frame
    refine' wpAnyH_take (i := 39) (oi := ⟨some 58, .move (.tmp 2), _, _, _, some (37, true)⟩) (v := _) rfl (by kernel_rfl) (by kernel_rfl) (by kernel_rfl) (fun _ _ _ h => h) (Or.inl ⟨by rfl, ?hy30⟩) (by assumption) ?rest30
    case hy30 => (intro w hSw; obtain _ := hSw; go_simp <;> with_reducible rfl)
    case rest30 =>
    go_frame
    refine' wpAnyH_take (i := 41) (oi := ⟨some 60, .move (.tmp 7), _, _, _, some (37, true)⟩) (v := _) rfl (by kernel_rfl) (by kernel_rfl) (by kernel_rfl) (fun _ _ _ h => h) (Or.inl ⟨by rfl, ?hy31⟩) (by assumption) ?rest31
    case hy31 => (intro w hSw; obtain _ := hSw; go_simp <;> with_reducible rfl)
    case rest31 =>
    go_frame
    refine wpAnyH_ready (rs := [40]) (by kernel_rfl) (by simp) (AllReadyH.cons (o := ⟨some 59, .call { callee := .value (.func 37), args := #[.tmp 57, .tmp 58], argTypes := #[23, 3] }, _, _, _, some (37, true)⟩) rfl (fun K hK => ?_) AllReadyH.nil)
    rw [if_pos (by rfl)]
    go_simp
    refine ((HF0.out w6 Hb6.out)).mono ?_
    rintro e w7 ⟨rfl, rfl⟩
    dsimp only
    refine hK.out _ _ (HS.out _ Hb6.out) (fun _ => ?_)
    clear hK K
    try go_frame
    refine' wpAnyH_take (i := 42) (oi := ⟨some 61, .move (.tmp 60), _, _, _, some (37, true)⟩) (v := _) rfl (by kernel_rfl) (by kernel_rfl) (by kernel_rfl) (fun _ _ _ h => h) (Or.inl ⟨by rfl, ?hy32⟩) (by assumption) ?rest32
    case hy32 => (intro w hSw; obtain _ := hSw; go_simp <;> with_reducible rfl)
    case rest32 =>
    go_frame
    refine' wpAnyH_take (i := 43) (oi := ⟨some 62, .move (.tmp 1), _, _, _, some (42, true)⟩) (v := undef) rfl (by kernel_rfl) (by kernel_rfl) (by kernel_rfl) (fun _ _ _ h => h) (Or.inr ⟨by rfl, rfl⟩) (by assumption) ?rest33
    case rest33 =>
    go_frame
    refine' wpAnyH_take (i := 44) (oi := ⟨some 63, .nilCheck (.tmp 62), _, _, _, some (42, true)⟩) (v := undef) rfl (by kernel_rfl) (by kernel_rfl) (by kernel_rfl) (fun _ _ _ h => h) (Or.inr ⟨by rfl, rfl⟩) (by assumption) ?rest34
    case rest34 =>
    go_frame
    refine' wpAnyH_take (i := 45) (oi := ⟨some 64, .fieldAddr 55 (.tmp 63) 0, _, _, _, some (42, true)⟩) (v := undef) rfl (by kernel_rfl) (by kernel_rfl) (by kernel_rfl) (fun _ _ _ h => h) (Or.inr ⟨by rfl, rfl⟩) (by assumption) ?rest35
    case rest35 =>
    go_frame
    refine' wpAnyH_take (i := 46) (oi := ⟨some 65, .load 53 (.tmp 64), _, _, _, some (42, true)⟩) (v := undef) rfl (by kernel_rfl) (by kernel_rfl) (by kernel_rfl) (fun _ _ _ h => h) (Or.inr ⟨by rfl, rfl⟩) (by assumption) ?rest36
    case rest36 =>
    go_frame
    refine' wpAnyH_take (i := 47) (oi := ⟨some 66, .move (.tmp 2), _, _, _, some (42, true)⟩) (v := undef) rfl (by kernel_rfl) (by kernel_rfl) (by kernel_rfl) (fun _ _ _ h => h) (Or.inr ⟨by rfl, rfl⟩) (by assumption) ?rest37
    case rest37 =>
    go_frame
    refine' wpAnyH_take (i := 48) (oi := ⟨some 67, .indexAddr 53 (.tmp 65) (.tmp 66), _, _, _, some (42, true)⟩) (v := undef) rfl (by kernel_rfl) (by kernel_rfl) (by kernel_rfl) (fun _ _ _ h => h) (Or.inr ⟨by rfl, rfl⟩) (by assumption) ?rest38
    case rest38 =>
    go_frame
    refine' wpAnyH_take (i := 49) (oi := ⟨some 68, .load 4 (.tmp 67), _, _, _, some (42, true)⟩) (v := undef) rfl (by kernel_rfl) (by kernel_rfl) (by kernel_rfl) (fun _ _ _ h => h) (Or.inr ⟨by rfl, rfl⟩) (by assumption) ?rest39
    case rest39 =>
    go_frame
    refine' wpAnyH_take (i := 50) (oi := ⟨some 69, .pick (.tmp 61) (.tmp 68) (.const (.bool false)), _, _, _, some (37, true)⟩) (v := _) rfl (by kernel_rfl) (by kernel_rfl) (by kernel_rfl) (fun _ _ _ h => h) (Or.inl ⟨by rfl, ?hy40⟩) (by assumption) ?rest40
    case hy40 => (intro w hSw; obtain _ := hSw; go_simp <;> with_reducible rfl)
    case rest40 =>
    go_frame
    refine' wpAnyH_take (i := 51) (oi := ⟨some 70, .move (.tmp 69), _, _, _, some (37, true)⟩) (v := _) rfl (by kernel_rfl) (by kernel_rfl) (by kernel_rfl) (fun _ _ _ h => h) (Or.inl ⟨by rfl, ?hy41⟩) (by assumption) ?rest41
    case hy41 => (intro w hSw; obtain _ := hSw; go_simp <;> with_reducible rfl)
    case rest41 =>
    go_frame
    refine' wpAnyH_take (i := 52) (oi := ⟨some 71, .move (.tmp 1), _, _, _, some (51, true)⟩) (v := undef) rfl (by kernel_rfl) (by kernel_rfl) (by kernel_rfl) (fun _ _ _ h => h) (Or.inr ⟨by rfl, rfl⟩) (by assumption) ?rest42
    case rest42 =>
    go_frame
    refine' wpAnyH_take (i := 53) (oi := ⟨some 72, .nilCheck (.tmp 71), _, _, _, some (51, true)⟩) (v := undef) rfl (by kernel_rfl) (by kernel_rfl) (by kernel_rfl) (fun _ _ _ h => h) (Or.inr ⟨by rfl, rfl⟩) (by assumption) ?rest43
    case rest43 =>
    go_frame
    refine' wpAnyH_take (i := 54) (oi := ⟨some 73, .fieldAddr 55 (.tmp 72) 1, _, _, _, some (51, true)⟩) (v := undef) rfl (by kernel_rfl) (by kernel_rfl) (by kernel_rfl) (fun _ _ _ h => h) (Or.inr ⟨by rfl, rfl⟩) (by assumption) ?rest44
    case rest44 =>
    go_frame
    refine' wpAnyH_take (i := 55) (oi := ⟨some 74, .load 53 (.tmp 73), _, _, _, some (51, true)⟩) (v := undef) rfl (by kernel_rfl) (by kernel_rfl) (by kernel_rfl) (fun _ _ _ h => h) (Or.inr ⟨by rfl, rfl⟩) (by assumption) ?rest45
    case rest45 =>
    go_frame
    refine' wpAnyH_take (i := 56) (oi := ⟨some 75, .move (.tmp 2), _, _, _, some (51, true)⟩) (v := undef) rfl (by kernel_rfl) (by kernel_rfl) (by kernel_rfl) (fun _ _ _ h => h) (Or.inr ⟨by rfl, rfl⟩) (by assumption) ?rest46
    case rest46 =>
    go_frame
    refine' wpAnyH_take (i := 57) (oi := ⟨some 76, .indexAddr 53 (.tmp 74) (.tmp 75), _, _, _, some (51, true)⟩) (v := undef) rfl (by kernel_rfl) (by kernel_rfl) (by kernel_rfl) (fun _ _ _ h => h) (Or.inr ⟨by rfl, rfl⟩) (by assumption) ?rest47
    case rest47 =>
    go_frame
    refine' wpAnyH_take (i := 58) (oi := ⟨some 77, .load 4 (.tmp 76), _, _, _, some (51, true)⟩) (v := undef) rfl (by kernel_rfl) (by kernel_rfl) (by kernel_rfl) (fun _ _ _ h => h) (Or.inr ⟨by rfl, rfl⟩) (by assumption) ?rest48
    case rest48 =>
    go_frame
    refine' wpAnyH_take (i := 59) (oi := ⟨some 78, .unOp .not 4 (.tmp 77), _, _, _, some (51, true)⟩) (v := undef) rfl (by kernel_rfl) (by kernel_rfl) (by kernel_rfl) (fun _ _ _ h => h) (Or.inr ⟨by rfl, rfl⟩) (by assumption) ?rest49
    case rest49 =>
    go_frame
    refine' wpAnyH_take (i := 60) (oi := ⟨some 79, .pick (.tmp 70) (.tmp 78) (.const (.bool false)), _, _, _, some (37, true)⟩) (v := _) rfl (by kernel_rfl) (by kernel_rfl) (by kernel_rfl) (fun _ _ _ h => h) (Or.inl ⟨by rfl, ?hy50⟩) (by assumption) ?rest50
    case hy50 => (intro w hSw; obtain _ := hSw; go_simp <;> with_reducible rfl)
    case rest50 =>
    go_frame
    refine' wpAnyH_take (i := 61) (oi := ⟨some 80, .binOp .eql 4 (.tmp 59) (.tmp 79) 4, _, _, _, some (37, true)⟩) (v := _) rfl (by kernel_rfl) (by kernel_rfl) (by kernel_rfl) (fun _ _ _ h => h) (Or.inl ⟨by rfl, ?hy51⟩) (by assumption) ?rest51
    case hy51 => (intro w hSw; obtain _ := hSw; go_simp <;> with_reducible rfl)
    case rest51 =>
    go_frame
    refine' wpAnyH_take (i := 62) (oi := ⟨some 81, .pick (.tmp 56) (.tmp 80) (.const (.bool false)), _, _, _, none⟩) (v := _) rfl (by kernel_rfl) (by kernel_rfl) (by kernel_rfl) (fun _ _ _ h => h) (Or.inl ⟨by rfl, ?hy52⟩) (by assumption) ?rest52
    case hy52 => (intro w hSw; obtain _ := hSw; go_simp <;> with_reducible rfl)
    case rest52 =>
    go_frame
    refine' wpAnyH_take (i := 63) (oi := ⟨some 6, .assign (.tmp 81), _, _, _, none⟩) (v := _) rfl (by kernel_rfl) (by kernel_rfl) (by kernel_rfl) (fun _ _ _ h => h) (Or.inl ⟨by rfl, ?hy53⟩) (by assumption) ?rest53
    case hy53 => (intro w hSw; obtain _ := hSw; go_simp <;> with_reducible rfl)
    case rest53 =>
    go_frame
    refine wpAnyH_done (by kernel_rfl) ?_ _
    go_wp2_with fail
    go_ret
    exact ⟨by simp, Hb6.out⟩
  · rw [if_pos (by rfl)]
    go_simp
    refine ((HB1.out w5 Hb5.out)).mono ?_
    rintro e w6 ⟨A6, n6, c6, rfl, hr6, hb6⟩
    have Hb6 := Lib.hid (up Hb5.out hb6)
    have Hr6 := Lib.hid hr6
    have Hr56 := Lib.hid (Hr5.out.below hb6)
    clear hr6 hb6
    dsimp only
    refine hK.out _ _ (HS.out _ Hb6.out) (fun _ => ?_)
    clear hK K
    try go_frame
    refine wpAnyH_ready (rs := [15, 18]) (by kernel_rfl) (by simp) (AllReadyH.cons (o := ⟨some 34, .convert 39 9 (.tmp 33), _, _, _, some (12, true)⟩) rfl (fun K hK => ?_) (AllReadyH.cons (o := ⟨some 37, .convert 39 9 (.tmp 36), _, _, _, some (12, true)⟩) rfl (fun K hK => ?_) AllReadyH.nil))
    · rw [if_pos (by rfl)]
      refine wp_run (.string ⟨L.toArray⟩) w6 (exec_conv (s := 39) (t := 9) (x := .tmp 33) rfl (v := .slice A5 n5 c5) rfl (run_string_rd (P := Try.prog) 39 9 5 Try.underlying39 Try.underlying5 Try.underlying9 Hr56.out)) ?_
      refine hK.out _ _ (HS.out _ Hb6.out) (fun _ => ?_)
      clear hK K
      try go_frame
      refine wpAnyH_ready (rs := [18]) (by kernel_rfl) (by simp) (AllReadyH.cons (o := ⟨some 37, .convert 39 9 (.tmp 36), _, _, _, some (12, true)⟩) rfl (fun K hK => ?_) AllReadyH.nil)
      rw [if_pos (by rfl)]
      refine wp_run (.string ⟨L.toArray⟩) w6 (exec_conv (s := 39) (t := 9) (x := .tmp 36) rfl (v := .slice A6 n6 c6) rfl (run_string_rd (P := Try.prog) 39 9 5 Try.underlying39 Try.underlying5 Try.underlying9 Hr6.out)) ?_
      refine hK.out _ _ (HS.out _ Hb6.out) (fun _ => ?_)
      clear hK K
      try go_frame
      refine' wpAnyH_take (i := 19) (oi := ⟨some 38, .binOp .eql 9 (.tmp 34) (.tmp 37) 9, _, _, _, some (12, true)⟩) (v := _) rfl (by kernel_rfl) (by kernel_rfl) (by kernel_rfl) (fun _ _ _ h => h) (Or.inl ⟨by rfl, ?hy54⟩) (by assumption) ?rest54
      case hy54 => (intro w hSw; obtain _ := hSw; go_simp <;> with_reducible rfl)
      case rest54 =>
      go_frame
      refine' wpAnyH_take (i := 20) (oi := ⟨some 39, .pick (.tmp 31) (.tmp 38) (.const (.bool false)), _, _, _, none⟩) (v := _) rfl (by kernel_rfl) (by kernel_rfl) (by kernel_rfl) (fun _ _ _ h => h) (Or.inl ⟨by rfl, ?hy55⟩) (by assumption) ?rest55
      case hy55 => (intro w hSw; obtain _ := hSw; go_simp <;> with_reducible rfl)
      case rest55 =>
      go_frame
      refine' wpAnyH_take (i := 21) (oi := ⟨some 40, .move (.tmp 39), _, _, _, none⟩) (v := _) rfl (by kernel_rfl) (by kernel_rfl) (by kernel_rfl) (fun _ _ _ h => h) (Or.inl ⟨by rfl, ?hy56⟩) (by assumption) ?rest56
      case hy56 => (intro w hSw; obtain _ := hSw; go_simp <;> with_reducible rfl)
      case rest56 =>
      go_frame
      refine' wpAnyH_take (i := 22) (oi := ⟨some 41, .move (.tmp 0), _, _, _, some (21, true)⟩) (v := _) rfl (by kernel_rfl) (by kernel_rfl) (by kernel_rfl) (fun _ _ _ h => h) (Or.inl ⟨by rfl, ?hy57⟩) (by assumption) ?rest57
      case hy57 => (intro w hSw; obtain _ := hSw; go_simp <;> with_reducible rfl)
      case rest57 =>
      go_frame
      refine' wpAnyH_take (i := 23) (oi := ⟨some 42, .move (.tmp 2), _, _, _, some (21, true)⟩) (v := _) rfl (by kernel_rfl) (by kernel_rfl) (by kernel_rfl) (fun _ _ _ h => h) (Or.inl ⟨by rfl, ?hy58⟩) (by assumption) ?rest58
      case hy58 => (intro w hSw; obtain _ := hSw; go_simp <;> with_reducible rfl)
      case rest58 =>
      go_frame
      refine' wpAnyH_take (i := 25) (oi := ⟨some 44, .move (.tmp 7), _, _, _, some (21, true)⟩) (v := _) rfl (by kernel_rfl) (by kernel_rfl) (by kernel_rfl) (fun _ _ _ h => h) (Or.inl ⟨by rfl, ?hy59⟩) (by assumption) ?rest59
      case hy59 => (intro w hSw; obtain _ := hSw; go_simp <;> with_reducible rfl)
      case rest59 =>
      go_frame
      refine wpAnyH_ready (rs := [24]) (by kernel_rfl) (by simp) (AllReadyH.cons (o := ⟨some 43, .call { callee := .value (.func 36), args := #[.tmp 41, .tmp 42], argTypes := #[23, 3] }, _, _, _, some (21, true)⟩) rfl (fun K hK => ?_) AllReadyH.nil)
      rw [if_pos (by rfl)]
      go_simp
      refine ((HT0.out w6 Hb6.out)).mono ?_
      rintro e w7 ⟨rfl, rfl⟩
      dsimp only
      refine hK.out _ _ (HS.out _ Hb6.out) (fun _ => ?_)
      clear hK K
      try go_frame
      refine' wpAnyH_take (i := 26) (oi := ⟨some 45, .move (.tmp 44), _, _, _, some (21, true)⟩) (v := _) rfl (by kernel_rfl) (by kernel_rfl) (by kernel_rfl) (fun _ _ _ h => h) (Or.inl ⟨by rfl, ?hy60⟩) (by assumption) ?rest60
      case hy60 => (intro w hSw; obtain _ := hSw; go_simp <;> with_reducible rfl)
      case rest60 =>
      go_frame
      refine' wpAnyH_take (i := 27) (oi := ⟨some 46, .move (.tmp 1), _, _, _, some (26, true)⟩) (v := undef) rfl (by kernel_rfl) (by kernel_rfl) (by kernel_rfl) (fun _ _ _ h => h) (Or.inr ⟨by rfl, rfl⟩) (by assumption) ?rest61
      case rest61 =>
      go_frame
      refine' wpAnyH_take (i := 28) (oi := ⟨some 47, .nilCheck (.tmp 46), _, _, _, some (26, true)⟩) (v := undef) rfl (by kernel_rfl) (by kernel_rfl) (by kernel_rfl) (fun _ _ _ h => h) (Or.inr ⟨by rfl, rfl⟩) (by assumption) ?rest62
      case rest62 =>
      go_frame
      refine' wpAnyH_take (i := 29) (oi := ⟨some 48, .fieldAddr 55 (.tmp 47) 0, _, _, _, some (26, true)⟩) (v := undef) rfl (by kernel_rfl) (by kernel_rfl) (by kernel_rfl) (fun _ _ _ h => h) (Or.inr ⟨by rfl, rfl⟩) (by assumption) ?rest63
      case rest63 =>
      go_frame
      refine' wpAnyH_take (i := 30) (oi := ⟨some 49, .load 53 (.tmp 48), _, _, _, some (26, true)⟩) (v := undef) rfl (by kernel_rfl) (by kernel_rfl) (by kernel_rfl) (fun _ _ _ h => h) (Or.inr ⟨by rfl, rfl⟩) (by assumption) ?rest64
      case rest64 =>
      go_frame
      refine' wpAnyH_take (i := 31) (oi := ⟨some 50, .move (.tmp 2), _, _, _, some (26, true)⟩) (v := undef) rfl (by kernel_rfl) (by kernel_rfl) (by kernel_rfl) (fun _ _ _ h => h) (Or.inr ⟨by rfl, rfl⟩) (by assumption) ?rest65
      case rest65 =>
      go_frame
      refine' wpAnyH_take (i := 32) (oi := ⟨some 51, .indexAddr 53 (.tmp 49) (.tmp 50), _, _, _, some (26, true)⟩) (v := undef) rfl (by kernel_rfl) (by kernel_rfl) (by kernel_rfl) (fun _ _ _ h => h) (Or.inr ⟨by rfl, rfl⟩) (by assumption) ?rest66
      case rest66 =>
      go_frame
      refine' wpAnyH_take (i := 33) (oi := ⟨some 52, .load 4 (.tmp 51), _, _, _, some (26, true)⟩) (v := undef) rfl (by kernel_rfl) (by kernel_rfl) (by kernel_rfl) (fun _ _ _ h => h) (Or.inr ⟨by rfl, rfl⟩) (by assumption) ?rest67
      case rest67 =>
      go_frame
      refine' wpAnyH_take (i := 34) (oi := ⟨some 53, .pick (.tmp 45) (.tmp 52) (.const (.bool false)), _, _, _, some (21, true)⟩) (v := _) rfl (by kernel_rfl) (by kernel_rfl) (by kernel_rfl) (fun _ _ _ h => h) (Or.inl ⟨by rfl, ?hy68⟩) (by assumption) ?rest68
      case hy68 => (intro w hSw; obtain _ := hSw; go_simp <;> with_reducible rfl)
      case rest68 =>
      go_frame
      refine' wpAnyH_take (i := 35) (oi := ⟨some 54, .binOp .eql 4 (.tmp 43) (.tmp 53) 4, _, _, _, some (21, true)⟩) (v := _) rfl (by kernel_rfl) (by kernel_rfl) (by kernel_rfl) (fun _ _ _ h => h) (Or.inl ⟨by rfl, ?hy69⟩) (by assumption) ?rest69
      case hy69 => (intro w hSw; obtain _ := hSw; go_simp <;> with_reducible rfl)
      case rest69 =>
      go_frame
      refine' wpAnyH_take (i := 36) (oi := ⟨some 55, .pick (.tmp 40) (.tmp 54) (.const (.bool false)), _, _, _, none⟩) (v := _) rfl (by kernel_rfl) (by kernel_rfl) (by kernel_rfl) (fun _ _ _ h => h) (Or.inl ⟨by rfl, ?hy70⟩) (by assumption) ?rest70
      case hy70 => (intro w hSw; obtain _ := hSw; go_simp <;> with_reducible rfl)
      case rest70 =>
      go_frame
      refine' wpAnyH_take (i := 37) (oi := ⟨some 56, .move (.tmp 55), _, _, _, none⟩) (v := _) rfl (by kernel_rfl) (by kernel_rfl) (by kernel_rfl) (fun _ _ _ h => h) (Or.inl ⟨by rfl, ?hy71⟩) (by assumption) ?rest71
      case hy71 => (intro w hSw; obtain _ := hSw; go_simp <;> with_reducible rfl)
      case rest71 =>
      go_frame
      refine' wpAnyH_take (i := 38) (oi := ⟨some 57, .move (.tmp 0), _, _, _, some (37, true)⟩) (v := _) rfl (by kernel_rfl) (by kernel_rfl) (by kernel_rfl) (fun _ _ _ h => h) (Or.inl ⟨by rfl, ?hy72⟩) (by assumption) ?rest72
      case hy72 => (intro w hSw; obtain _ := hSw; go_simp <;> with_reducible rfl)
      case rest72 =>
      go_frame
      refine' wpAnyH_take (i := 39) (oi := ⟨some 58, .move (.tmp 2), _, _, _, some (37, true)⟩) (v := _) rfl (by kernel_rfl) (by kernel_rfl) (by kernel_rfl) (fun _ _ _ h => h) (Or.inl ⟨by rfl, ?hy73⟩) (by assumption) ?rest73
      case hy73 => (intro w hSw; obtain _ := hSw; go_simp <;> with_reducible rfl)
      case rest73 =>
      go_frame
      refine' wpAnyH_take (i := 41) (oi := ⟨some 60, .move (.tmp 7), _, _, _, some (37, true)⟩) (v := _) rfl (by kernel_rfl) (by kernel_rfl) (by kernel_rfl) (fun _ _ _ h => h) (Or.inl ⟨by rfl, ?hy74⟩) (by assumption) ?rest74
      case hy74 => (intro w hSw; obtain _ := hSw; go_simp <;> with_reducible rfl)
      case rest74 =>
      go_frame
      refine wpAnyH_ready (rs := [40]) (by kernel_rfl) (by simp) (AllReadyH.cons (o := ⟨some 59, .call { callee := .value (.func 37), args := #[.tmp 57, .tmp 58], argTypes := #[23, 3] }, _, _, _, some (37, true)⟩) rfl (fun K hK => ?_) AllReadyH.nil)
      rw [if_pos (by rfl)]
      go_simp
      refine ((HF0.out w6 Hb6.out)).mono ?_
      rintro e w7 ⟨rfl, rfl⟩
      dsimp only
      refine hK.out _ _ (HS.out _ Hb6.out) (fun _ => ?_)
      clear hK K
      try go_frame
      refine' wpAnyH_take (i := 42) (oi := ⟨some 61, .move (.tmp 60), _, _, _, some (37, true)⟩) (v := _) rfl (by kernel_rfl) (by kernel_rfl) (by kernel_rfl) (fun _ _ _ h => h) (Or.inl ⟨by rfl, ?hy75⟩) (by assumption) ?rest75
      case hy75 => (intro w hSw; obtain _ := hSw; go_simp <;> with_reducible rfl)
      case rest75 =>
      go_frame
      refine' wpAnyH_take (i := 43) (oi := ⟨some 62, .move (.tmp 1), _, _, _, some (42, true)⟩) (v := undef) rfl (by kernel_rfl) (by kernel_rfl) (by kernel_rfl) (fun _ _ _ h => h) (Or.inr ⟨by rfl, rfl⟩) (by assumption) ?rest76
      case rest76 =>
      go_frame
      refine' wpAnyH_take (i := 44) (oi := ⟨some 63, .nilCheck (.tmp 62), _, _, _, some (42, true)⟩) (v := undef) rfl (by kernel_rfl) (by kernel_rfl) (by kernel_rfl) (fun _ _ _ h => h) (Or.inr ⟨by rfl, rfl⟩) (by assumption) ?rest77
      case rest77 =>
      go_frame
      refine' wpAnyH_take (i := 45) (oi := ⟨some 64, .fieldAddr 55 (.tmp 63) 0, _, _, _, some (42, true)⟩) (v := undef) rfl (by kernel_rfl) (by kernel_rfl) (by kernel_rfl) (fun _ _ _ h => h) (Or.inr ⟨by rfl, rfl⟩) (by assumption) ?rest78
      case rest78 =>
      go_frame
      refine' wpAnyH_take (i := 46) (oi := ⟨some 65, .load 53 (.tmp 64), _, _, _, some (42, true)⟩) (v := undef) rfl (by kernel_rfl) (by kernel_rfl) (by kernel_rfl) (fun _ _ _ h => h) (Or.inr ⟨by rfl, rfl⟩) (by assumption) ?rest79
      case rest79 =>
      go_frame
      refine' wpAnyH_take (i := 47) (oi := ⟨some 66, .move (.tmp 2), _, _, _, some (42, true)⟩) (v := undef) rfl (by kernel_rfl) (by kernel_rfl) (by kernel_rfl) (fun _ _ _ h => h) (Or.inr ⟨by rfl, rfl⟩) (by assumption) ?rest80
      case rest80 =>
      go_frame
      refine' wpAnyH_take (i := 48) (oi := ⟨some 67, .indexAddr 53 (.tmp 65) (.tmp 66), _, _, _, some (42, true)⟩) (v := undef) rfl (by kernel_rfl) (by kernel_rfl) (by kernel_rfl) (fun _ _ _ h => h) (Or.inr ⟨by rfl, rfl⟩) (by assumption) ?rest81
      case rest81 =>
      go_frame
      refine' wpAnyH_take (i := 49) (oi := ⟨some 68, .load 4 (.tmp 67), _, _, _, some (42, true)⟩) (v := undef) rfl (by kernel_rfl) (by kernel_rfl) (by kernel_rfl) (fun _ _ _ h => h) (Or.inr ⟨by rfl, rfl⟩) (by assumption) ?rest82
      case rest82 =>
      go_frame
      refine' wpAnyH_take (i := 50) (oi := ⟨some 69, .pick (.tmp 61) (.tmp 68) (.const (.bool false)), _, _, _, some (37, true)⟩) (v := _) rfl (by kernel_rfl) (by kernel_rfl) (by kernel_rfl) (fun _ _ _ h => h) (Or.inl ⟨by rfl, ?hy83⟩) (by assumption) ?rest83
      case hy83 => (intro w hSw; obtain _ := hSw; go_simp <;> with_reducible rfl)
      case rest83 =>
      go_frame
      refine' wpAnyH_take (i := 51) (oi := ⟨some 70, .move (.tmp 69), _, _, _, some (37, true)⟩) (v := _) rfl (by kernel_rfl) (by kernel_rfl) (by kernel_rfl) (fun _ _ _ h => h) (Or.inl ⟨by rfl, ?hy84⟩) (by assumption) ?rest84
      case hy84 => (intro w hSw; obtain _ := hSw; go_simp <;> with_reducible rfl)
      case rest84 =>
      go_frame
      refine' wpAnyH_take (i := 52) (oi := ⟨some 71, .move (.tmp 1), _, _, _, some (51, true)⟩) (v := undef) rfl (by kernel_rfl) (by kernel_rfl) (by kernel_rfl) (fun _ _ _ h => h) (Or.inr ⟨by rfl, rfl⟩) (by assumption) ?rest85
      case rest85 =>
      go_frame
      refine' wpAnyH_take (i := 53) (oi := ⟨some 72, .nilCheck (.tmp 71), _, _, _, some (51, true)⟩) (v := undef) rfl (by kernel_rfl) (by kernel_rfl) (by kernel_rfl) (fun _ _ _ h => h) (Or.inr ⟨by rfl, rfl⟩) (by assumption) ?rest86
      case rest86 =>
      go_frame
      refine' wpAnyH_take (i := 54) (oi := ⟨some 73, .fieldAddr 55 (.tmp 72) 1, _, _, _, some (51, true)⟩) (v := undef) rfl (by kernel_rfl) (by kernel_rfl) (by kernel_rfl) (fun _ _ _ h => h) (Or.inr ⟨by rfl, rfl⟩) (by assumption) ?rest87
      case rest87 =>
      go_frame
      refine' wpAnyH_take (i := 55) (oi := ⟨some 74, .load 53 (.tmp 73), _, _, _, some (51, true)⟩) (v := undef) rfl (by kernel_rfl) (by kernel_rfl) (by kernel_rfl) (fun _ _ _ h => h) (Or.inr ⟨by rfl, rfl⟩) (by assumption) ?rest88
      case rest88 =>
      go_frame
      refine' wpAnyH_take (i := 56) (oi := ⟨some 75, .move (.tmp 2), _, _, _, some (51, true)⟩) (v := undef) rfl (by kernel_rfl) (by kernel_rfl) (by kernel_rfl) (fun _ _ _ h => h) (Or.inr ⟨by rfl, rfl⟩) (by assumption) ?rest89
      case rest89 =>
      go_frame
      refine' wpAnyH_take (i := 57) (oi := ⟨some 76, .indexAddr 53 (.tmp 74) (.tmp 75), _, _, _, some (51, true)⟩) (v := undef) rfl (by kernel_rfl) (by kernel_rfl) (by kernel_rfl) (fun _ _ _ h => h) (Or.inr ⟨by rfl, rfl⟩) (by assumption) ?rest90
      case rest90 =>
      go_frame
      refine' wpAnyH_take (i := 58) (oi := ⟨some 77, .load 4 (.tmp 76), _, _, _, some (51, true)⟩) (v := undef) rfl (by kernel_rfl) (by kernel_rfl) (by kernel_rfl) (fun _ _ _ h => h) (Or.inr ⟨by rfl, rfl⟩) (by assumption) ?rest91
      case rest91 =>
      go_frame
      refine' wpAnyH_take (i := 59) (oi := ⟨some 78, .unOp .not 4 (.tmp 77), _, _, _, some (51, true)⟩) (v := undef) rfl (by kernel_rfl) (by kernel_rfl) (by kernel_rfl) (fun _ _ _ h => h) (Or.inr ⟨by rfl, rfl⟩) (by assumption) ?rest92
      case rest92 =>
      go_frame
      refine' wpAnyH_take (i := 60) (oi := ⟨some 79, .pick (.tmp 70) (.tmp 78) (.const (.bool false)), _, _, _, some (37, true)⟩) (v := _) rfl (by kernel_rfl) (by kernel_rfl) (by kernel_rfl) (fun _ _ _ h => h) (Or.inl ⟨by rfl, ?hy93⟩) (by assumption) ?rest93
      case hy93 => (intro w hSw; obtain _ := hSw; go_simp <;> with_reducible rfl)
      case rest93 =>
      go_frame
      refine' wpAnyH_take (i := 61) (oi := ⟨some 80, .binOp .eql 4 (.tmp 59) (.tmp 79) 4, _, _, _, some (37, true)⟩) (v := _) rfl (by kernel_rfl) (by kernel_rfl) (by kernel_rfl) (fun _ _ _ h => h) (Or.inl ⟨by rfl, ?hy94⟩) (by assumption) ?rest94
      case hy94 => (intro w hSw; obtain _ := hSw; go_simp <;> with_reducible rfl)
      case rest94 =>
      go_frame
      refine' wpAnyH_take (i := 62) (oi := ⟨some 81, .pick (.tmp 56) (.tmp 80) (.const (.bool false)), _, _, _, none⟩) (v := _) rfl (by kernel_rfl) (by kernel_rfl) (by kernel_rfl) (fun _ _ _ h => h) (Or.inl ⟨by rfl, ?hy95⟩) (by assumption) ?rest95
      case hy95 => (intro w hSw; obtain _ := hSw; go_simp <;> with_reducible rfl)
      case rest95 =>
      go_frame
      refine' wpAnyH_take (i := 63) (oi := ⟨some 6, .assign (.tmp 81), _, _, _, none⟩) (v := _) rfl (by kernel_rfl) (by kernel_rfl) (by kernel_rfl) (fun _ _ _ h => h) (Or.inl ⟨by rfl, ?hy96⟩) (by assumption) ?rest96
      case hy96 => (intro w hSw; obtain _ := hSw; go_simp <;> with_reducible rfl)
      case rest96 =>
      go_frame
      refine wpAnyH_done (by kernel_rfl) ?_ _
      go_wp2_with fail
      go_ret
      exact ⟨by simp, Hb6.out⟩
    · rw [if_pos (by rfl)]
      refine wp_run (.string ⟨L.toArray⟩) w6 (exec_conv (s := 39) (t := 9) (x := .tmp 36) rfl (v := .slice A6 n6 c6) rfl (run_string_rd (P := Try.prog) 39 9 5 Try.underlying39 Try.underlying5 Try.underlying9 Hr6.out)) ?_
      refine hK.out _ _ (HS.out _ Hb6.out) (fun _ => ?_)
      clear hK K
      try go_frame
      refine wpAnyH_ready (rs := [15]) (by kernel_rfl) (by simp) (AllReadyH.cons (o := ⟨some 34, .convert 39 9 (.tmp 33), _, _, _, some (12, true)⟩) rfl (fun K hK => ?_) AllReadyH.nil)
      rw [if_pos (by rfl)]
      refine wp_run (.string ⟨L.toArray⟩) w6 (exec_conv (s := 39) (t := 9) (x := .tmp 33) rfl (v := .slice A5 n5 c5) rfl (run_string_rd (P := Try.prog) 39 9 5 Try.underlying39 Try.underlying5 Try.underlying9 Hr56.out)) ?_
      refine hK.out _ _ (HS.out _ Hb6.out) (fun _ => ?_)
      clear hK K
      try go_frame
      refine' wpAnyH_take (i := 19) (oi := ⟨some 38, .binOp .eql 9 (.tmp 34) (.tmp 37) 9, _, _, _, some (12, true)⟩) (v := _) rfl (by kernel_rfl) (by kernel_rfl) (by kernel_rfl) (fun _ _ _ h => h) (Or.inl ⟨by rfl, ?hy97⟩) (by assumption) ?rest97
      case hy97 => (intro w hSw; obtain _ := hSw; go_simp <;> with_reducible rfl)
      case rest97 =>
      go_frame
      refine' wpAnyH_take (i := 20) (oi := ⟨some 39, .pick (.tmp 31) (.tmp 38) (.const (.bool false)), _, _, _, none⟩) (v := _) rfl (by kernel_rfl) (by kernel_rfl) (by kernel_rfl) (fun _ _ _ h => h) (Or.inl ⟨by rfl, ?hy98⟩) (by assumption) ?rest98
      case hy98 => (intro w hSw; obtain _ := hSw; go_simp <;> with_reducible rfl)
      case rest98 =>
      go_frame
      refine' wpAnyH_take (i := 21) (oi := ⟨some 40, .move (.tmp 39), _, _, _, none⟩) (v := _) rfl (by kernel_rfl) (by kernel_rfl) (by kernel_rfl) (fun _ _ _ h => h) (Or.inl ⟨by rfl, ?hy99⟩) (by assumption) ?rest99
      case hy99 => (intro w hSw; obtain _ := hSw; go_simp <;> with_reducible rfl)
      case rest99 =>
      go_frame
      refine' wpAnyH_take (i := 22) (oi := ⟨some 41, .move (.tmp 0), _, _, _, some (21, true)⟩) (v := _) rfl (by kernel_rfl) (by kernel_rfl) (by kernel_rfl) (fun _ _ _ h => h) (Or.inl ⟨by rfl, ?hy100⟩) (by assumption) ?rest100
      case hy100 => (intro w hSw; obtain _ := hSw; go_simp <;> with_reducible rfl)
      case rest100 =>
      go_frame
      refine' wpAnyH_take (i := 23) (oi := ⟨some 42, .move (.tmp 2), _, _, _, some (21, true)⟩) (v := _) rfl (by kernel_rfl) (by kernel_rfl) (by kernel_rfl) (fun _ _ _ h => h) (Or.inl ⟨by rfl, ?hy101⟩) (by assumption) ?rest101
      case hy101 => (intro w hSw; obtain _ := hSw; go_simp <;> with_reducible rfl)
      case rest101 =>
      go_frame
      refine' wpAnyH_take (i := 25) (oi := ⟨some 44, .move (.tmp 7), _, _, _, some (21, true)⟩) (v := _) rfl (by kernel_rfl) (by kernel_rfl) (by kernel_rfl) (fun _ _ _ h => h) (Or.inl ⟨by rfl, ?hy102⟩) (by assumption) ?rest102
      case hy102 => (intro w hSw; obtain _ := hSw; go_simp <;> with_reducible rfl)
      case rest102 =>
      go_frame
      refine wpAnyH_ready (rs := [24]) (by kernel_rfl) (by simp) (AllReadyH.cons (o := ⟨some 43, .call { callee := .value (.func 36), args := #[.tmp 41, .tmp 42], argTypes := #[23, 3] }, _, _, _, some (21, true)⟩) rfl (fun K hK => ?_) AllReadyH.nil)
      rw [if_pos (by rfl)]
      go_simp
      refine ((HT0.out w6 Hb6.out)).mono ?_
      rintro e w7 ⟨rfl, rfl⟩
      dsimp only
      refine hK.out _ _ (HS.out _ Hb6.out) (fun _ => ?_)
      clear hK K
      try go_frame
      refine' wpAnyH_take (i := 26) (oi := ⟨some 45, .move (.tmp 44), _, _, _, some (21, true)⟩) (v := _) rfl (by kernel_rfl) (by kernel_rfl) (by kernel_rfl) (fun _ _ _ h => h) (Or.inl ⟨by rfl, ?hy103⟩) (by assumption) ?rest103
      case hy103 => (intro w hSw; obtain _ := hSw; go_simp <;> with_reducible rfl)
      case rest103 =>
      go_frame
      refine' wpAnyH_take (i := 27) (oi := ⟨some 46, .move (.tmp 1), _, _, _, some (26, true)⟩) (v := undef) rfl (by kernel_rfl) (by kernel_rfl) (by kernel_rfl) (fun _ _ _ h => h) (Or.inr ⟨by rfl, rfl⟩) (by assumption) ?rest104
      case rest104 =>
      go_frame
      refine' wpAnyH_take (i := 28) (oi := ⟨some 47, .nilCheck (.tmp 46), _, _, _, some (26, true)⟩) (v := undef) rfl (by kernel_rfl) (by kernel_rfl) (by kernel_rfl) (fun _ _ _ h => h) (Or.inr ⟨by rfl, rfl⟩) (by assumption) ?rest105
      case rest105 =>
      go_frame
      refine' wpAnyH_take (i := 29) (oi := ⟨some 48, .fieldAddr 55 (.tmp 47) 0, _, _, _, some (26, true)⟩) (v := undef) rfl (by kernel_rfl) (by kernel_rfl) (by kernel_rfl) (fun _ _ _ h => h) (Or.inr ⟨by rfl, rfl⟩) (by assumption) ?rest106
      case rest106 =>
      go_frame
      refine' wpAnyH_take (i := 30) (oi := ⟨some 49, .load 53 (.tmp 48), _, _, _, some (26, true)⟩) (v := undef) rfl (by kernel_rfl) (by kernel_rfl) (by kernel_rfl) (fun _ _ _ h => h) (Or.inr ⟨by rfl, rfl⟩) (by assumption) ?rest107
      case rest107 =>
      go_frame
      refine' wpAnyH_take (i := 31) (oi := ⟨some 50, .move (.tmp 2), _, _, _, some (26, true)⟩) (v := undef) rfl (by kernel_rfl) (by kernel_rfl) (by kernel_rfl) (fun _ _ _ h => h) (Or.inr ⟨by rfl, rfl⟩) (by assumption) ?rest108
      case rest108 =>
      go_frame
      refine' wpAnyH_take (i := 32) (oi := ⟨some 51, .indexAddr 53 (.tmp 49) (.tmp 50), _, _, _, some (26, true)⟩) (v := undef) rfl (by kernel_rfl) (by kernel_rfl) (by kernel_rfl) (fun _ _ _ h => h) (Or.inr ⟨by rfl, rfl⟩) (by assumption) ?rest109
      case rest109 =>
      go_frame
      refine' wpAnyH_take (i := 33) (oi := ⟨some 52, .load 4 (.tmp 51), _, _, _, some (26, true)⟩) (v := undef) rfl (by kernel_rfl) (by kernel_rfl) (by kernel_rfl) (fun _ _ _ h => h) (Or.inr ⟨by rfl, rfl⟩) (by assumption) ?rest110
      case rest110 =>
      go_frame
      refine' wpAnyH_take (i := 34) (oi := ⟨some 53, .pick (.tmp 45) (.tmp 52) (.const (.bool false)), _, _, _, some (21, true)⟩) (v := _) rfl (by kernel_rfl) (by kernel_rfl) (by kernel_rfl) (fun _ _ _ h => h) (Or.inl ⟨by rfl, ?hy111⟩) (by assumption) ?rest111
      case hy111 => (intro w hSw; obtain _ := hSw; go_simp <;> with_reducible rfl)
      case rest111 =>
      go_frame
      refine' wpAnyH_take (i := 35) (oi := ⟨some 54, .binOp .eql 4 (.tmp 43) (.tmp 53) 4, _, _, _, some (21, true)⟩) (v := _) rfl (by kernel_rfl) (by kernel_rfl) (by kernel_rfl) (fun _ _ _ h => h) (Or.inl ⟨by rfl, ?hy112⟩) (by assumption) ?rest112
      case hy112 => (intro w hSw; obtain _ := hSw; go_simp <;> with_reducible rfl)
      case rest112 =>
      go_frame
      refine' wpAnyH_take (i := 36) (oi := ⟨some 55, .pick (.tmp 40) (.tmp 54) (.const (.bool false)), _, _, _, none⟩) (v := _) rfl (by kernel_rfl) (by kernel_rfl) (by kernel_rfl) (fun _ _ _ h => h) (Or.inl ⟨by rfl, ?hy113⟩) (by assumption) ?rest113
      case hy113 => (intro w hSw; obtain _ := hSw; go_simp <;> with_reducible rfl)
      case rest113 =>
      go_frame
      refine' wpAnyH_take (i := 37) (oi := ⟨some 56, .move (.tmp 55), _, _, _, none⟩) (v := _) rfl (by kernel_rfl) (by kernel_rfl) (by kernel_rfl) (fun _ _ _ h => h) (Or.inl ⟨by rfl, ?hy114⟩) (by assumption) ?rest114
      case hy114 => (intro w hSw; obtain _ := hSw; go_simp <;> with_reducible rfl)
      case rest114 =>
      go_frame
      refine' wpAnyH_take (i := 38) (oi := ⟨some 57, .move (.tmp 0), _, _, _, some (37, true)⟩) (v := _) rfl (by kernel_rfl) (by kernel_rfl) (by kernel_rfl) (fun _ _ _ h => h) (Or.inl ⟨by rfl, ?hy115⟩) (by assumption) ?rest115
      case hy115 => (intro w hSw; obtain _ := hSw; go_simp <;> with_reducible rfl)
      case rest115 =>
      go_frame
      refine' wpAnyH_take (i := 39) (oi := ⟨some 58, .move (.tmp 2), _, _, _, some (37, true)⟩) (v := _) rfl (by kernel_rfl) (by kernel_rfl) (by kernel_rfl) (fun _ _ _ h => h) (Or.inl ⟨by rfl, ?hy116⟩) (by assumption) ?rest116
      case hy116 => (intro w hSw; obtain _ := hSw; go_simp <;> with_reducible rfl)
      case rest116 =>
      go_frame
      refine' wpAnyH_take (i := 41) (oi := ⟨some 60, .move (.tmp 7), _, _, _, some (37, true)⟩) (v := _) rfl (by kernel_rfl) (by kernel_rfl) (by kernel_rfl) (fun _ _ _ h => h) (Or.inl ⟨by rfl, ?hy117⟩) (by assumption) ?rest117
      case hy117 => (intro w hSw; obtain _ := hSw; go_simp <;> with_reducible rfl)
      case rest117 =>
      go_frame
      refine wpAnyH_ready (rs := [40]) (by kernel_rfl) (by simp) (AllReadyH.cons (o := ⟨some 59, .call { callee := .value (.func 37), args := #[.tmp 57, .tmp 58], argTypes := #[23, 3] }, _, _, _, some (37, true)⟩) rfl (fun K hK => ?_) AllReadyH.nil)
      rw [if_pos (by rfl)]
      go_simp
      refine ((HF0.out w6 Hb6.out)).mono ?_
      rintro e w7 ⟨rfl, rfl⟩
      dsimp only
      refine hK.out _ _ (HS.out _ Hb6.out) (fun _ => ?_)
      clear hK K
      try go_frame
      refine' wpAnyH_take (i := 42) (oi := ⟨some 61, .move (.tmp 60), _, _, _, some (37, true)⟩) (v := _) rfl (by kernel_rfl) (by kernel_rfl) (by kernel_rfl) (fun _ _ _ h => h) (Or.inl ⟨by rfl, ?hy118⟩) (by assumption) ?rest118
      case hy118 => (intro w hSw; obtain _ := hSw; go_simp <;> with_reducible rfl)
      case rest118 =>
      go_frame
      refine' wpAnyH_take (i := 43) (oi := ⟨some 62, .move (.tmp 1), _, _, _, some (42, true)⟩) (v := undef) rfl (by kernel_rfl) (by kernel_rfl) (by kernel_rfl) (fun _ _ _ h => h) (Or.inr ⟨by rfl, rfl⟩) (by assumption) ?rest119
      case rest119 =>
      go_frame
      refine' wpAnyH_take (i := 44) (oi := ⟨some 63, .nilCheck (.tmp 62), _, _, _, some (42, true)⟩) (v := undef) rfl (by kernel_rfl) (by kernel_rfl) (by kernel_rfl) (fun _ _ _ h => h) (Or.inr ⟨by rfl, rfl⟩) (by assumption) ?rest120
      case rest120 =>
      go_frame
      refine' wpAnyH_take (i := 45) (oi := ⟨some 64, .fieldAddr 55 (.tmp 63) 0, _, _, _, some (42, true)⟩) (v := undef) rfl (by kernel_rfl) (by kernel_rfl) (by kernel_rfl) (fun _ _ _ h => h) (Or.inr ⟨by rfl, rfl⟩) (by assumption) ?rest121
      case rest121 =>
      go_frame
      refine' wpAnyH_take (i := 46) (oi := ⟨some 65, .load 53 (.tmp 64), _, _, _, some (42, true)⟩) (v := undef) rfl (by kernel_rfl) (by kernel_rfl) (by kernel_rfl) (fun _ _ _ h => h) (Or.inr ⟨by rfl, rfl⟩) (by assumption) ?rest122
      case rest122 =>
      go_frame
      refine' wpAnyH_take (i := 47) (oi := ⟨some 66, .move (.tmp 2), _, _, _, some (42, true)⟩) (v := undef) rfl (by kernel_rfl) (by kernel_rfl) (by kernel_rfl) (fun _ _ _ h => h) (Or.inr ⟨by rfl, rfl⟩) (by assumption) ?rest123
      case rest123 =>
      go_frame
      refine' wpAnyH_take (i := 48) (oi := ⟨some 67, .indexAddr 53 (.tmp 65) (.tmp 66), _, _, _, some (42, true)⟩) (v := undef) rfl (by kernel_rfl) (by kernel_rfl) (by kernel_rfl) (fun _ _ _ h => h) (Or.inr ⟨by rfl, rfl⟩) (by assumption) ?rest124
      case rest124 =>
      go_frame
      refine' wpAnyH_take (i := 49) (oi := ⟨some 68, .load 4 (.tmp 67), _, _, _, some (42, true)⟩) (v := undef) rfl (by kernel_rfl) (by kernel_rfl) (by kernel_rfl) (fun _ _ _ h => h) (Or.inr ⟨by rfl, rfl⟩) (by assumption) ?rest125
      case rest125 =>
      go_frame
      refine' wpAnyH_take (i := 50) (oi := ⟨some 69, .pick (.tmp 61) (.tmp 68) (.const (.bool false)), _, _, _, some (37, true)⟩) (v := _) rfl (by kernel_rfl) (by kernel_rfl) (by kernel_rfl) (fun _ _ _ h => h) (Or.inl ⟨by rfl, ?hy126⟩) (by assumption) ?rest126
      case hy126 => (intro w hSw; obtain _ := hSw; go_simp <;> with_reducible rfl)
      case rest126 =>
      go_frame
      refine' wpAnyH_take (i := 51) (oi := ⟨some 70, .move (.tmp 69), _, _, _, some (37, true)⟩) (v := _) rfl (by kernel_rfl) (by kernel_rfl) (by kernel_rfl) (fun _ _ _ h => h) (Or.inl ⟨by rfl, ?hy127⟩) (by assumption) ?rest127
      case hy127 => (intro w hSw; obtain _ := hSw; go_simp <;> with_reducible rfl)
      case rest127 =>
      go_frame
      refine' wpAnyH_take (i := 52) (oi := ⟨some 71, .move (.tmp 1), _, _, _, some (51, true)⟩) (v := undef) rfl (by kernel_rfl) (by kernel_rfl) (by kernel_rfl) (fun _ _ _ h => h) (Or.inr ⟨by rfl, rfl⟩) (by assumption) ?rest128
      case rest128 =>
      go_frame
      refine' wpAnyH_take (i := 53) (oi := ⟨some 72, .nilCheck (.tmp 71), _, _, _, some (51, true)⟩) (v := undef) rfl (by kernel_rfl) (by kernel_rfl) (by kernel_rfl) (fun _ _ _ h => h) (Or.inr ⟨by rfl, rfl⟩) (by assumption) ?rest129
      case rest129 =>
      go_frame
      refine' wpAnyH_take (i := 54) (oi := ⟨some 73, .fieldAddr 55 (.tmp 72) 1, _, _, _, some (51, true)⟩) (v := undef) rfl (by kernel_rfl) (by kernel_rfl) (by kernel_rfl) (fun _ _ _ h => h) (Or.inr ⟨by rfl, rfl⟩) (by assumption) ?rest130
      case rest130 =>
      go_frame
      refine' wpAnyH_take (i := 55) (oi := ⟨some 74, .load 53 (.tmp 73), _, _, _, some (51, true)⟩) (v := undef) rfl (by kernel_rfl) (by kernel_rfl) (by kernel_rfl) (fun _ _ _ h => h) (Or.inr ⟨by rfl, rfl⟩) (by assumption) ?rest131
      case rest131 =>
      go_frame
      refine' wpAnyH_take (i := 56) (oi := ⟨some 75, .move (.tmp 2), _, _, _, some (51, true)⟩) (v := undef) rfl (by kernel_rfl) (by kernel_rfl) (by kernel_rfl) (fun _ _ _ h => h) (Or.inr ⟨by rfl, rfl⟩) (by assumption) ?rest132
      case rest132 =>
      go_frame
      refine' wpAnyH_take (i := 57) (oi := ⟨some 76, .indexAddr 53 (.tmp 74) (.tmp 75), _, _, _, some (51, true)⟩) (v := undef) rfl (by kernel_rfl) (by kernel_rfl) (by kernel_rfl) (fun _ _ _ h => h) (Or.inr ⟨by rfl, rfl⟩) (by assumption) ?rest133
      case rest133 =>
      go_frame
      refine' wpAnyH_take (i := 58) (oi := ⟨some 77, .load 4 (.tmp 76), _, _, _, some (51, true)⟩) (v := undef) rfl (by kernel_rfl) (by kernel_rfl) (by kernel_rfl) (fun _ _ _ h => h) (Or.inr ⟨by rfl, rfl⟩) (by assumption) ?rest134
      case rest134 =>
      go_frame
      refine' wpAnyH_take (i := 59) (oi := ⟨some 78, .unOp .not 4 (.tmp 77), _, _, _, some (51, true)⟩) (v := undef) rfl (by kernel_rfl) (by kernel_rfl) (by kernel_rfl) (fun _ _ _ h => h) (Or.inr ⟨by rfl, rfl⟩) (by assumption) ?rest135
      case rest135 =>
      go_frame
      refine' wpAnyH_take (i := 60) (oi := ⟨some 79, .pick (.tmp 70) (.tmp 78) (.const (.bool false)), _, _, _, some (37, true)⟩) (v := _) rfl (by kernel_rfl) (by kernel_rfl) (by kernel_rfl) (fun _ _ _ h => h) (Or.inl ⟨by rfl, ?hy136⟩) (by assumption) ?rest136
      case hy136 => (intro w hSw; obtain _ := hSw; go_simp <;> with_reducible rfl)
      case rest136 =>
      go_frame
      refine' wpAnyH_take (i := 61) (oi := ⟨some 80, .binOp .eql 4 (.tmp 59) (.tmp 79) 4, _, _, _, some (37, true)⟩) (v := _) rfl (by kernel_rfl) (by kernel_rfl) (by kernel_rfl) (fun _ _ _ h => h) (Or.inl ⟨by rfl, ?hy137⟩) (by assumption) ?rest137
      case hy137 => (intro w hSw; obtain _ := hSw; go_simp <;> with_reducible rfl)
      case rest137 =>
      go_frame
      refine' wpAnyH_take (i := 62) (oi := ⟨some 81, .pick (.tmp 56) (.tmp 80) (.const (.bool false)), _, _, _, none⟩) (v := _) rfl (by kernel_rfl) (by kernel_rfl) (by kernel_rfl) (fun _ _ _ h => h) (Or.inl ⟨by rfl, ?hy138⟩) (by assumption) ?rest138
      case hy138 => (intro w hSw; obtain _ := hSw; go_simp <;> with_reducible rfl)
      case rest138 =>
      go_frame
      refine' wpAnyH_take (i := 63) (oi := ⟨some 6, .assign (.tmp 81), _, _, _, none⟩) (v := _) rfl (by kernel_rfl) (by kernel_rfl) (by kernel_rfl) (fun _ _ _ h => h) (Or.inl ⟨by rfl, ?hy139⟩) (by assumption) ?rest139
      case hy139 => (intro w hSw; obtain _ := hSw; go_simp <;> with_reducible rfl)
      case rest139 =>
      go_frame
      refine wpAnyH_done (by kernel_rfl) ?_ _
      go_wp2_with fail
      go_ret
      exact ⟨by simp, Hb6.out⟩
set_option maxRecDepth 100000 in
set_option maxHeartbeats 4000000 in
theorem alike_big (h : SpTwo w a p gn cn gs cs x) {no : Int} (hz : (x.n : Int) ≤ no) :
    Calls Try.prog 18 #[spAt a, spAt p, .int .i64 no] w fun e w' => e = .returned (.bool true) ∧ Below w.heap.size w w' := by
  have HT : Hid (∀ w', Below w.heap.size w w' → SpTwo w' a p gn cn gs cs x) := Lib.hid fun w' hb => h.below hb
  have Hb0 : Hid (Below w.heap.size w w.drew) := Lib.hid (Below.refl _ _).drew
  obtain ⟨r, hr⟩ : ∃ r, r = _root_.Go.Proofs.Ytllhilnajjohiaa.free x.held x.n := ⟨_, rfl⟩
  obtain ⟨m, hm⟩ : ∃ m, m = (used x.now x.n).length := ⟨_, rfl⟩
  obtain ⟨L, hL⟩ : ∃ L, L = x.bytes := ⟨_, rfl⟩
  have Hm : Hid (m < 1000000) := Lib.hid (by have := used_le x.now x.n; have := h.sp.ok.size; omega)
  have HR0 : Hid (Calls Try.prog 23 #[spAt a] w.drew fun e w' => e = .returned (.int .i64 (r : Int)) ∧ Below w.heap.size w.drew w') := Lib.hid (by rw [hr]; exact room_any (HT.out _ Hb0.out).sp)
  have HR1 : Hid (∀ w1, Below w.heap.size w w1 → Calls Try.prog 31 #[spAt p] w1 fun e w' => e = .returned (.int .i64 (r : Int)) ∧ w1 = w') := Lib.hid fun w1 hb => by rw [hr]; exact rroom_any (HT.out _ hb).rf
  have HU0 := Lib.hid fun w1 hb => usedS_any (HT.out w1 hb).sp hm
  have HU1 := Lib.hid fun w1 hb => rusedS_any (HT.out w1 hb).rf hm
  have HB0 := Lib.hid fun w1 hb => bytesS_any (HT.out w1 hb).sp hL
  have HB1 := Lib.hid fun w1 hb => rbytesS_any (HT.out w1 hb).rf hL
  have HS : Hid (∀ w', Below w.heap.size w w' → True) := Lib.hid fun _ _ => trivial
  have ho : no < 0 ∨ (x.n : Int) ≤ no := by omega
  have HT0 : Hid (∀ w1, Below w.heap.size w w1 → Calls Try.prog 36 #[spAt a, .int .i64 no] w1 fun e w' => e = .returned (.bool false) ∧ w1 = w') := Lib.hid fun w1 hb => by rw [← h.sp.ok.taken_out ho]; exact taken_any (HT.out w1 hb).sp no
  have HF0 : Hid (∀ w1, Below w.heap.size w w1 → Calls Try.prog 37 #[spAt a, .int .i64 no] w1 fun e w' => e = .returned (.bool false) ∧ w1 = w') := Lib.hid fun w1 hb => by rw [← fresh_out h.sp.ok ho]; exact fresh_any (HT.out w1 hb).sp no
  have z1 : decide ((0 : Int) ≤ no) = true := by simp; omega
  have z2 : decide (no < (x.n : Int)) = false := by simp; omega
  clear hz
  clear ho
  have h0 := h.rf.c0
  have h1 := h.rf.c1
  have hcn := h.rf.rN.caps.1
  have hcs := h.rf.rS.caps.1
  have hn2 := h.sp.ok.size
  obtain ⟨n, hn⟩ : ∃ n, n = x.n := ⟨_, rfl⟩
  rw [← hn] at *
  clear HT h hr hm hL hn
  go_enter Try.func18, Try.ntmps18
  go_wp2_with fail
  refine wp_region_held_drew (S := fun _ => True) (by kernel_rfl) trivial (fun hHeld => ?_)
  refine' wpAnyH_take (i := 0) (oi := ⟨some 19, .move (.tmp 0), _, _, _, none⟩) (v := _) rfl (by kernel_rfl) (by kernel_rfl) (by kernel_rfl) (fun _ _ _ h => h) (Or.inl ⟨by rfl, ?hy140⟩) (by assumption) ?rest140
  case hy140 => (intro w hSw; obtain _ := hSw; go_simp <;> with_reducible rfl)
  case rest140 =>
  go_frame
  refine' wpAnyH_take (i := 2) (oi := ⟨some 21, .move (.tmp 1), _, _, _, none⟩) (v := _) rfl (by kernel_rfl) (by kernel_rfl) (by kernel_rfl) (fun _ _ _ h => h) (Or.inl ⟨by rfl, ?hy141⟩) (by assumption) ?rest141
  case hy141 => (intro w hSw; obtain _ := hSw; go_simp <;> with_reducible rfl)
  case rest141 =>
  go_frame
  refine wpAnyH_ready (rs := [1]) (by kernel_rfl) (by simp) (AllReadyH.cons (o := ⟨some 20, .call { callee := .value (.func 23), args := #[.tmp 19], argTypes := #[23] }, _, _, _, none⟩) rfl (fun K hK => ?_) AllReadyH.nil)
  rw [if_pos (by rfl)]
  go_simp
  refine (HR0.out).mono ?_
  rintro e w1 ⟨rfl, hb1⟩
  have Hb1 := Lib.hid (up Hb0.out hb1)
  clear hb1
  dsimp only
  refine hK.out _ _ (HS.out _ Hb1.out) (fun _ => ?_)
  clear hK K
  try go_frame
  refine wpAnyH_ready (rs := [3]) (by kernel_rfl) (by simp) (AllReadyH.cons (o := ⟨some 22, .call { callee := .value (.func 31), args := #[.tmp 21], argTypes := #[28] }, _, _, _, none⟩) rfl (fun K hK => ?_) AllReadyH.nil)
  rw [if_pos (by rfl)]
  go_simp
  refine ((HR1.out w1 Hb1.out)).mono ?_
  rintro e w2 ⟨rfl, rfl⟩
  dsimp only
  refine hK.out _ _ (HS.out _ Hb1.out) (fun _ => ?_)
  clear hK K
  try go_frame
  refine' wpAnyH_take (i := 4) (oi := ⟨some 23, .binOp .eql 3 (.tmp 20) (.tmp 22) 3, _, _, _, none⟩) (v := _) rfl (by kernel_rfl) (by kernel_rfl) (by kernel_rfl) (fun _ _ _ h => h) (Or.inl ⟨by rfl, ?hy142⟩) (by assumption) ?rest142
  case hy142 => (intro w hSw; obtain _ := hSw; go_simp <;> with_reducible rfl)
  case rest142 =>
  go_frame
  refine' wpAnyH_take (i := 5) (oi := ⟨some 24, .move (.tmp 23), _, _, _, none⟩) (v := _) rfl (by kernel_rfl) (by kernel_rfl) (by kernel_rfl) (fun _ _ _ h => h) (Or.inl ⟨by rfl, ?hy143⟩) (by assumption) ?rest143
  case hy143 => (intro w hSw; obtain _ := hSw; go_simp <;> with_reducible rfl)
  case rest143 =>
  go_frame
  refine' wpAnyH_take (i := 6) (oi := ⟨some 25, .move (.tmp 0), _, _, _, some (5, true)⟩) (v := _) rfl (by kernel_rfl) (by kernel_rfl) (by kernel_rfl) (fun _ _ _ h => h) (Or.inl ⟨by rfl, ?hy144⟩) (by assumption) ?rest144
  case hy144 => (intro w hSw; obtain _ := hSw; go_simp <;> with_reducible rfl)
  case rest144 =>
  go_frame
  refine' wpAnyH_take (i := 8) (oi := ⟨some 27, .move (.tmp 1), _, _, _, some (5, true)⟩) (v := _) rfl (by kernel_rfl) (by kernel_rfl) (by kernel_rfl) (fun _ _ _ h => h) (Or.inl ⟨by rfl, ?hy145⟩) (by assumption) ?rest145
  case hy145 => (intro w hSw; obtain _ := hSw; go_simp <;> with_reducible rfl)
  case rest145 =>
  go_frame
  refine wpAnyH_ready (rs := [7]) (by kernel_rfl) (by simp) (AllReadyH.cons (o := ⟨some 26, .call { callee := .value (.func 33), args := #[.tmp 25], argTypes := #[23] }, _, _, _, some (5, true)⟩) rfl (fun K hK => ?_) AllReadyH.nil)
  rw [if_pos (by rfl)]
  go_simp
  refine ((HU0.out w1 Hb1.out)).mono ?_
  rintro e w2 ⟨A2, c2, rfl, hr2, hb2⟩
  have Hb2 := Lib.hid (up Hb1.out hb2)
  have Hr2 := Lib.hid hr2
  clear hr2 hb2
  dsimp only
  refine hK.out _ _ (HS.out _ Hb2.out) (fun _ => ?_)
  clear hK K
  try go_frame
  refine wpAnyH_ready (rs := [9]) (by kernel_rfl) (by simp) (AllReadyH.cons (o := ⟨some 28, .call { callee := .value (.func 34), args := #[.tmp 27], argTypes := #[28] }, _, _, _, some (5, true)⟩) rfl (fun K hK => ?_) AllReadyH.nil)
  rw [if_pos (by rfl)]
  go_simp
  refine ((HU1.out w2 Hb2.out)).mono ?_
  rintro e w3 ⟨A3, c3, rfl, hr3, hb3⟩
  have Hb3 := Lib.hid (up Hb2.out hb3)
  have Hi3 := Lib.hid (ints_same (w := w3) (c := c2) (c2 := c3) (rd_ints (Hr2.out.below hb3)) (rd_ints hr3) Hm.out)
  clear hr3 hb3 Hr2
  dsimp only
  refine hK.out _ _ (HS.out _ Hb3.out) (fun _ => ?_)
  clear hK K
  try go_frame
  refine wpAnyH_ready (rs := [10]) (by kernel_rfl) (by simp) (AllReadyH.cons (o := ⟨some 29, .call { callee := .value (.func 32), args := #[.tmp 26, .tmp 28], argTypes := #[58, 58] }, _, _, _, some (5, true)⟩) rfl (fun K hK => ?_) AllReadyH.nil)
  rw [if_pos (by rfl)]
  go_simp
  refine (Hi3.out).mono ?_
  rintro e w4 ⟨rfl, hb4⟩
  have Hb4 := Lib.hid (up Hb3.out hb4)
  clear hb4 Hi3
  dsimp only
  refine hK.out _ _ (HS.out _ Hb4.out) (fun _ => ?_)
  clear hK K
  try go_frame
  refine' wpAnyH_take (i := 11) (oi := ⟨some 30, .pick (.tmp 24) (.tmp 29) (.const (.bool false)), _, _, _, none⟩) (v := _) rfl (by kernel_rfl) (by kernel_rfl) (by kernel_rfl) (fun _ _ _ h => h) (Or.inl ⟨by rfl, ?hy146⟩) (by assumption) ?rest146
  case hy146 => (intro w hSw; obtain _ := hSw; go_simp <;> with_reducible rfl)
  case rest146 =>
  go_frame
  refine' wpAnyH_take (i := 12) (oi := ⟨some 31, .move (.tmp 30), _, _, _, none⟩) (v := _) rfl (by kernel_rfl) (by kernel_rfl) (by kernel_rfl) (fun _ _ _ h => h) (Or.inl ⟨by rfl, ?hy147⟩) (by assumption) ?rest147
  case hy147 => (intro w hSw; obtain _ := hSw; go_simp <;> with_reducible rfl)
  case rest147 =>
  go_frame
  refine' wpAnyH_take (i := 13) (oi := ⟨some 32, .move (.tmp 0), _, _, _, some (12, true)⟩) (v := _) rfl (by kernel_rfl) (by kernel_rfl) (by kernel_rfl) (fun _ _ _ h => h) (Or.inl ⟨by rfl, ?hy148⟩) (by assumption) ?rest148
  case hy148 => (intro w hSw; obtain _ := hSw; go_simp <;> with_reducible rfl)
  case rest148 =>
  go_frame
  refine' wpAnyH_take (i := 16) (oi := ⟨some 35, .move (.tmp 1), _, _, _, some (12, true)⟩) (v := _) rfl (by kernel_rfl) (by kernel_rfl) (by kernel_rfl) (fun _ _ _ h => h) (Or.inl ⟨by rfl, ?hy149⟩) (by assumption) ?rest149
  case hy149 => (intro w hSw; obtain _ := hSw; go_simp <;> with_reducible rfl)
  case rest149 =>
  go_frame
  refine wpAnyH_ready (rs := [14]) (by kernel_rfl) (by simp) (AllReadyH.cons (o := ⟨some 33, .call { callee := .value (.func 22), args := #[.tmp 32], argTypes := #[23] }, _, _, _, some (12, true)⟩) rfl (fun K hK => ?_) AllReadyH.nil)
  rw [if_pos (by rfl)]
  go_simp
  refine ((HB0.out w4 Hb4.out)).mono ?_
  rintro e w5 ⟨A5, n5, c5, rfl, hr5, hb5⟩
  have Hb5 := Lib.hid (up Hb4.out hb5)
  have Hr5 := Lib.hid hr5
  clear hr5 hb5
  dsimp only
  refine hK.out _ _ (HS.out _ Hb5.out) (fun _ => ?_)
  clear hK K
  try go_frame
  refine wpAnyH_ready (rs := [15, 17]) (by kernel_rfl) (by simp) (AllReadyH.cons (o := ⟨some 34, .convert 39 9 (.tmp 33), _, _, _, some (12, true)⟩) rfl (fun K hK => ?_) (AllReadyH.cons (o := ⟨some 36, .call { callee := .value (.func 35), args := #[.tmp 35], argTypes := #[28] }, _, _, _, some (12, true)⟩) rfl (fun K hK => ?_) AllReadyH.nil))
  · rw [if_pos (by rfl)]
    refine wp_run (.string ⟨L.toArray⟩) w5 (exec_conv (s := 39) (t := 9) (x := .tmp 33) rfl (v := .slice A5 n5 c5) rfl (run_string_rd (P := Try.prog) 39 9 5 Try.underlying39 Try.underlying5 Try.underlying9 Hr5.out)) ?_
    refine hK.out _ _ (HS.out _ Hb5.out) (fun _ => ?_)
    clear hK K
    try go_frame
    refine wpAnyH_ready (rs := [17]) (by kernel_rfl) (by simp) (AllReadyH.cons (o := ⟨some 36, .call { callee := .value (.func 35), args := #[.tmp 35], argTypes := #[28] }, _, _, _, some (12, true)⟩) rfl (fun K hK => ?_) AllReadyH.nil)
    rw [if_pos (by rfl)]
    go_simp
    refine ((HB1.out w5 Hb5.out)).mono ?_
    rintro e w6 ⟨A6, n6, c6, rfl, hr6, hb6⟩
    have Hb6 := Lib.hid (up Hb5.out hb6)
    have Hr6 := Lib.hid hr6
    have Hr56 := Lib.hid (Hr5.out.below hb6)
    clear hr6 hb6
    dsimp only
    refine hK.out _ _ (HS.out _ Hb6.out) (fun _ => ?_)
    clear hK K
    try go_frame
    refine wpAnyH_ready (rs := [18]) (by kernel_rfl) (by simp) (AllReadyH.cons (o := ⟨some 37, .convert 39 9 (.tmp 36), _, _, _, some (12, true)⟩) rfl (fun K hK => ?_) AllReadyH.nil)
    rw [if_pos (by rfl)]
    refine wp_run (.string ⟨L.toArray⟩) w6 (exec_conv (s := 39) (t := 9) (x := .tmp 36) rfl (v := .slice A6 n6 c6) rfl (run_string_rd (P := Try.prog) 39 9 5 Try.underlying39 Try.underlying5 Try.underlying9 Hr6.out)) ?_
    refine hK.out _ _ (HS.out _ Hb6.out) (fun _ => ?_)
    clear hK K
    try go_frame
    refine' wpAnyH_take (i := 19) (oi := ⟨some 38, .binOp .eql 9 (.tmp 34) (.tmp 37) 9, _, _, _, some (12, true)⟩) (v := _) rfl (by kernel_rfl) (by kernel_rfl) (by kernel_rfl) (fun _ _ _ h => h) (Or.inl ⟨by rfl, ?hy150⟩) (by assumption) ?rest150
    case hy150 => (intro w hSw; obtain _ := hSw; go_simp <;> with_reducible rfl)
    case rest150 =>
    go_frame
    refine' wpAnyH_take (i := 20) (oi := ⟨some 39, .pick (.tmp 31) (.tmp 38) (.const (.bool false)), _, _, _, none⟩) (v := _) rfl (by kernel_rfl) (by kernel_rfl) (by kernel_rfl) (fun _ _ _ h => h) (Or.inl ⟨by rfl, ?hy151⟩) (by assumption) ?rest151
    case hy151 => (intro w hSw; obtain _ := hSw; go_simp <;> with_reducible rfl)
    case rest151 =>
    go_frame
    refine' wpAnyH_take (i := 21) (oi := ⟨some 40, .move (.tmp 39), _, _, _, none⟩) (v := _) rfl (by kernel_rfl) (by kernel_rfl) (by kernel_rfl) (fun _ _ _ h => h) (Or.inl ⟨by rfl, ?hy152⟩) (by assumption) ?rest152
    case hy152 => (intro w hSw; obtain _ := hSw; go_simp <;> with_reducible rfl)
    case rest152 =>
    go_frame
    refine' wpAnyH_take (i := 22) (oi := ⟨some 41, .move (.tmp 0), _, _, _, some (21, true)⟩) (v := _) rfl (by kernel_rfl) (by kernel_rfl) (by kernel_rfl) (fun _ _ _ h => h) (Or.inl ⟨by rfl, ?hy153⟩) (by assumption) ?rest153
    case hy153 => (intro w hSw; obtain _ := hSw; go_simp <;> with_reducible rfl)
    case rest153 =>
    go_frame
    refine' wpAnyH_take (i := 23) (oi := ⟨some 42, .move (.tmp 2), _, _, _, some (21, true)⟩) (v := _) rfl (by kernel_rfl) (by kernel_rfl) (by kernel_rfl) (fun _ _ _ h => h) (Or.inl ⟨by rfl, ?hy154⟩) (by assumption) ?rest154
    case hy154 => (intro w hSw; obtain _ := hSw; go_simp <;> with_reducible rfl)
    case rest154 =>
    go_frame
    refine' wpAnyH_take (i := 25) (oi := ⟨some 44, .move (.tmp 7), _, _, _, some (21, true)⟩) (v := _) rfl (by kernel_rfl) (by kernel_rfl) (by kernel_rfl) (fun _ _ _ h => h) (Or.inl ⟨by rfl, ?hy155⟩) (by assumption) ?rest155
    case hy155 => (intro w hSw; obtain _ := hSw; go_simp <;> with_reducible rfl)
    case rest155 =>
    go_frame
    refine wpAnyH_ready (rs := [24]) (by kernel_rfl) (by simp) (AllReadyH.cons (o := ⟨some 43, .call { callee := .value (.func 36), args := #[.tmp 41, .tmp 42], argTypes := #[23, 3] }, _, _, _, some (21, true)⟩) rfl (fun K hK => ?_) AllReadyH.nil)
    rw [if_pos (by rfl)]
    go_simp
    refine ((HT0.out w6 Hb6.out)).mono ?_
    rintro e w7 ⟨rfl, rfl⟩
    dsimp only
    refine hK.out _ _ (HS.out _ Hb6.out) (fun _ => ?_)
    clear hK K
    try go_frame
    refine' wpAnyH_take (i := 26) (oi := ⟨some 45, .move (.tmp 44), _, _, _, some (21, true)⟩) (v := _) rfl (by kernel_rfl) (by kernel_rfl) (by kernel_rfl) (fun _ _ _ h => h) (Or.inl ⟨by rfl, ?hy156⟩) (by assumption) ?rest156
    case hy156 => (intro w hSw; obtain _ := hSw; go_simp <;> with_reducible rfl)
    case rest156 =>
    go_frame
    refine' wpAnyH_take (i := 27) (oi := ⟨some 46, .move (.tmp 1), _, _, _, some (26, true)⟩) (v := undef) rfl (by kernel_rfl) (by kernel_rfl) (by kernel_rfl) (fun _ _ _ h => h) (Or.inr ⟨by rfl, rfl⟩) (by assumption) ?rest157
    case rest157 =>
    go_frame
    refine' wpAnyH_take (i := 28) (oi := ⟨some 47, .nilCheck (.tmp 46), _, _, _, some (26, true)⟩) (v := undef) rfl (by kernel_rfl) (by kernel_rfl) (by kernel_rfl) (fun _ _ _ h => h) (Or.inr ⟨by rfl, rfl⟩) (by assumption) ?rest158
    case rest158 =>
    go_frame
    refine' wpAnyH_take (i := 29) (oi := ⟨some 48, .fieldAddr 55 (.tmp 47) 0, _, _, _, some (26, true)⟩) (v := undef) rfl (by kernel_rfl) (by kernel_rfl) (by kernel_rfl) (fun _ _ _ h => h) (Or.inr ⟨by rfl, rfl⟩) (by assumption) ?rest159
    case rest159 =>
    go_frame
    refine' wpAnyH_take (i := 30) (oi := ⟨some 49, .load 53 (.tmp 48), _, _, _, some (26, true)⟩) (v := undef) rfl (by kernel_rfl) (by kernel_rfl) (by kernel_rfl) (fun _ _ _ h => h) (Or.inr ⟨by rfl, rfl⟩) (by assumption) ?rest160
    case rest160 =>
    go_frame
    refine' wpAnyH_take (i := 31) (oi := ⟨some 50, .move (.tmp 2), _, _, _, some (26, true)⟩) (v := undef) rfl (by kernel_rfl) (by kernel_rfl) (by kernel_rfl) (fun _ _ _ h => h) (Or.inr ⟨by rfl, rfl⟩) (by assumption) ?rest161
    case rest161 =>
    go_frame
    refine' wpAnyH_take (i := 32) (oi := ⟨some 51, .indexAddr 53 (.tmp 49) (.tmp 50), _, _, _, some (26, true)⟩) (v := undef) rfl (by kernel_rfl) (by kernel_rfl) (by kernel_rfl) (fun _ _ _ h => h) (Or.inr ⟨by rfl, rfl⟩) (by assumption) ?rest162
    case rest162 =>
    go_frame
    refine' wpAnyH_take (i := 33) (oi := ⟨some 52, .load 4 (.tmp 51), _, _, _, some (26, true)⟩) (v := undef) rfl (by kernel_rfl) (by kernel_rfl) (by kernel_rfl) (fun _ _ _ h => h) (Or.inr ⟨by rfl, rfl⟩) (by assumption) ?rest163
    case rest163 =>
    go_frame
    refine' wpAnyH_take (i := 34) (oi := ⟨some 53, .pick (.tmp 45) (.tmp 52) (.const (.bool false)), _, _, _, some (21, true)⟩) (v := _) rfl (by kernel_rfl) (by kernel_rfl) (by kernel_rfl) (fun _ _ _ h => h) (Or.inl ⟨by rfl, ?hy164⟩) (by assumption) ?rest164
    case hy164 => (intro w hSw; obtain _ := hSw; go_simp <;> with_reducible rfl)
    case rest164 =>
    go_frame
    refine' wpAnyH_take (i := 35) (oi := ⟨some 54, .binOp .eql 4 (.tmp 43) (.tmp 53) 4, _, _, _, some (21, true)⟩) (v := _) rfl (by kernel_rfl) (by kernel_rfl) (by kernel_rfl) (fun _ _ _ h => h) (Or.inl ⟨by rfl, ?hy165⟩) (by assumption) ?rest165
    case hy165 => (intro w hSw; obtain _ := hSw; go_simp <;> with_reducible rfl)
    case rest165 =>
    go_frame
    refine' wpAnyH_take (i := 36) (oi := ⟨some 55, .pick (.tmp 40) (.tmp 54) (.const (.bool false)), _, _, _, none⟩) (v := _) rfl (by kernel_rfl) (by kernel_rfl) (by kernel_rfl) (fun _ _ _ h => h) (Or.inl ⟨by rfl, ?hy166⟩) (by assumption) ?rest166
    case hy166 => (intro w hSw; obtain _ := hSw; go_simp <;> with_reducible rfl)
    case rest166 =>
    go_frame
    refine' wpAnyH_take (i := 37) (oi := ⟨some 56, .move (.tmp 55), _, _, _, none⟩) (v := _) rfl (by kernel_rfl) (by kernel_rfl) (by kernel_rfl) (fun _ _ _ h => h) (Or.inl ⟨by rfl, ?hy167⟩) (by assumption) ?rest167
    case hy167 => (intro w hSw; obtain _ := hSw; go_simp <;> with_reducible rfl)
    case rest167 =>
    go_frame
    refine' wpAnyH_take (i := 38) (oi := ⟨some 57, .move (.tmp 0), _, _, _, some (37, true)⟩) (v := _) rfl (by kernel_rfl) (by kernel_rfl) (by kernel_rfl) (fun _ _ _ h => h) (Or.inl ⟨by rfl, ?hy168⟩) (by assumption) ?rest168
    case hy168 => (intro w hSw; obtain _ := hSw; go_simp <;> with_reducible rfl)
    case rest168 =>
    go_frame
    refine' wpAnyH_take (i := 39) (oi := ⟨some 58, .move (.tmp 2), _, _, _, some (37, true)⟩) (v := _) rfl (by kernel_rfl) (by kernel_rfl) (by kernel_rfl) (fun _ _ _ h => h) (Or.inl ⟨by rfl, ?hy169⟩) (by assumption) ?rest169
    case hy169 => (intro w hSw; obtain _ := hSw; go_simp <;> with_reducible rfl)
    case rest169 =>
    go_frame
    refine' wpAnyH_take (i := 41) (oi := ⟨some 60, .move (.tmp 7), _, _, _, some (37, true)⟩) (v := _) rfl (by kernel_rfl) (by kernel_rfl) (by kernel_rfl) (fun _ _ _ h => h) (Or.inl ⟨by rfl, ?hy170⟩) (by assumption) ?rest170
    case hy170 => (intro w hSw; obtain _ := hSw; go_simp <;> with_reducible rfl)
    case rest170 =>
    go_frame
    refine wpAnyH_ready (rs := [40]) (by kernel_rfl) (by simp) (AllReadyH.cons (o := ⟨some 59, .call { callee := .value (.func 37), args := #[.tmp 57, .tmp 58], argTypes := #[23, 3] }, _, _, _, some (37, true)⟩) rfl (fun K hK => ?_) AllReadyH.nil)
    rw [if_pos (by rfl)]
    go_simp
    refine ((HF0.out w6 Hb6.out)).mono ?_
    rintro e w7 ⟨rfl, rfl⟩
    dsimp only
    refine hK.out _ _ (HS.out _ Hb6.out) (fun _ => ?_)
    clear hK K
    try go_frame
    refine' wpAnyH_take (i := 42) (oi := ⟨some 61, .move (.tmp 60), _, _, _, some (37, true)⟩) (v := _) rfl (by kernel_rfl) (by kernel_rfl) (by kernel_rfl) (fun _ _ _ h => h) (Or.inl ⟨by rfl, ?hy171⟩) (by assumption) ?rest171
    case hy171 => (intro w hSw; obtain _ := hSw; go_simp <;> with_reducible rfl)
    case rest171 =>
    go_frame
    refine' wpAnyH_take (i := 43) (oi := ⟨some 62, .move (.tmp 1), _, _, _, some (42, true)⟩) (v := undef) rfl (by kernel_rfl) (by kernel_rfl) (by kernel_rfl) (fun _ _ _ h => h) (Or.inr ⟨by rfl, rfl⟩) (by assumption) ?rest172
    case rest172 =>
    go_frame
    refine' wpAnyH_take (i := 44) (oi := ⟨some 63, .nilCheck (.tmp 62), _, _, _, some (42, true)⟩) (v := undef) rfl (by kernel_rfl) (by kernel_rfl) (by kernel_rfl) (fun _ _ _ h => h) (Or.inr ⟨by rfl, rfl⟩) (by assumption) ?rest173
    case rest173 =>
    go_frame
    refine' wpAnyH_take (i := 45) (oi := ⟨some 64, .fieldAddr 55 (.tmp 63) 0, _, _, _, some (42, true)⟩) (v := undef) rfl (by kernel_rfl) (by kernel_rfl) (by kernel_rfl) (fun _ _ _ h => h) (Or.inr ⟨by rfl, rfl⟩) (by assumption) ?rest174
    case rest174 =>
    go_frame
    refine' wpAnyH_take (i := 46) (oi := ⟨some 65, .load 53 (.tmp 64), _, _, _, some (42, true)⟩) (v := undef) rfl (by kernel_rfl) (by kernel_rfl) (by kernel_rfl) (fun _ _ _ h => h) (Or.inr ⟨by rfl, rfl⟩) (by assumption) ?rest175
    case rest175 =>
    go_frame
    refine' wpAnyH_take (i := 47) (oi := ⟨some 66, .move (.tmp 2), _, _, _, some (42, true)⟩) (v := undef) rfl (by kernel_rfl) (by kernel_rfl) (by kernel_rfl) (fun _ _ _ h => h) (Or.inr ⟨by rfl, rfl⟩) (by assumption) ?rest176
    case rest176 =>
    go_frame
    refine' wpAnyH_take (i := 48) (oi := ⟨some 67, .indexAddr 53 (.tmp 65) (.tmp 66), _, _, _, some (42, true)⟩) (v := undef) rfl (by kernel_rfl) (by kernel_rfl) (by kernel_rfl) (fun _ _ _ h => h) (Or.inr ⟨by rfl, rfl⟩) (by assumption) ?rest177
    case rest177 =>
    go_frame
    refine' wpAnyH_take (i := 49) (oi := ⟨some 68, .load 4 (.tmp 67), _, _, _, some (42, true)⟩) (v := undef) rfl (by kernel_rfl) (by kernel_rfl) (by kernel_rfl) (fun _ _ _ h => h) (Or.inr ⟨by rfl, rfl⟩) (by assumption) ?rest178
    case rest178 =>
    go_frame
    refine' wpAnyH_take (i := 50) (oi := ⟨some 69, .pick (.tmp 61) (.tmp 68) (.const (.bool false)), _, _, _, some (37, true)⟩) (v := _) rfl (by kernel_rfl) (by kernel_rfl) (by kernel_rfl) (fun _ _ _ h => h) (Or.inl ⟨by rfl, ?hy179⟩) (by assumption) ?rest179
    case hy179 => (intro w hSw; obtain _ := hSw; go_simp <;> with_reducible rfl)
    case rest179 =>
    go_frame
    refine' wpAnyH_take (i := 51) (oi := ⟨some 70, .move (.tmp 69), _, _, _, some (37, true)⟩) (v := _) rfl (by kernel_rfl) (by kernel_rfl) (by kernel_rfl) (fun _ _ _ h => h) (Or.inl ⟨by rfl, ?hy180⟩) (by assumption) ?rest180
    case hy180 => (intro w hSw; obtain _ := hSw; go_simp <;> with_reducible rfl)
    case rest180 =>
    go_frame
    refine' wpAnyH_take (i := 52) (oi := ⟨some 71, .move (.tmp 1), _, _, _, some (51, true)⟩) (v := undef) rfl (by kernel_rfl) (by kernel_rfl) (by kernel_rfl) (fun _ _ _ h => h) (Or.inr ⟨by rfl, rfl⟩) (by assumption) ?rest181
    case rest181 =>
    go_frame
    refine' wpAnyH_take (i := 53) (oi := ⟨some 72, .nilCheck (.tmp 71), _, _, _, some (51, true)⟩) (v := undef) rfl (by kernel_rfl) (by kernel_rfl) (by kernel_rfl) (fun _ _ _ h => h) (Or.inr ⟨by rfl, rfl⟩) (by assumption) ?rest182
    case rest182 =>
    go_frame
    refine' wpAnyH_take (i := 54) (oi := ⟨some 73, .fieldAddr 55 (.tmp 72) 1, _, _, _, some (51, true)⟩) (v := undef) rfl (by kernel_rfl) (by kernel_rfl) (by kernel_rfl) (fun _ _ _ h => h) (Or.inr ⟨by rfl, rfl⟩) (by assumption) ?rest183
    case rest183 =>
    go_frame
    refine' wpAnyH_take (i := 55) (oi := ⟨some 74, .load 53 (.tmp 73), _, _, _, some (51, true)⟩) (v := undef) rfl (by kernel_rfl) (by kernel_rfl) (by kernel_rfl) (fun _ _ _ h => h) (Or.inr ⟨by rfl, rfl⟩) (by assumption) ?rest184
    case rest184 =>
    go_frame
    refine' wpAnyH_take (i := 56) (oi := ⟨some 75, .move (.tmp 2), _, _, _, some (51, true)⟩) (v := undef) rfl (by kernel_rfl) (by kernel_rfl) (by kernel_rfl) (fun _ _ _ h => h) (Or.inr ⟨by rfl, rfl⟩) (by assumption) ?rest185
    case rest185 =>
    go_frame
    refine' wpAnyH_take (i := 57) (oi := ⟨some 76, .indexAddr 53 (.tmp 74) (.tmp 75), _, _, _, some (51, true)⟩) (v := undef) rfl (by kernel_rfl) (by kernel_rfl) (by kernel_rfl) (fun _ _ _ h => h) (Or.inr ⟨by rfl, rfl⟩) (by assumption) ?rest186
    case rest186 =>
    go_frame
    refine' wpAnyH_take (i := 58) (oi := ⟨some 77, .load 4 (.tmp 76), _, _, _, some (51, true)⟩) (v := undef) rfl (by kernel_rfl) (by kernel_rfl) (by kernel_rfl) (fun _ _ _ h => h) (Or.inr ⟨by rfl, rfl⟩) (by assumption) ?rest187
    case rest187 =>
    go_frame
    refine' wpAnyH_take (i := 59) (oi := ⟨some 78, .unOp .not 4 (.tmp 77), _, _, _, some (51, true)⟩) (v := undef) rfl (by kernel_rfl) (by kernel_rfl) (by kernel_rfl) (fun _ _ _ h => h) (Or.inr ⟨by rfl, rfl⟩) (by assumption) ?rest188
    case rest188 =>
    go_frame
    refine' wpAnyH_take (i := 60) (oi := ⟨some 79, .pick (.tmp 70) (.tmp 78) (.const (.bool false)), _, _, _, some (37, true)⟩) (v := _) rfl (by kernel_rfl) (by kernel_rfl) (by kernel_rfl) (fun _ _ _ h => h) (Or.inl ⟨by rfl, ?hy189⟩) (by assumption) ?rest189
    case hy189 => (intro w hSw; obtain _ := hSw; go_simp <;> with_reducible rfl)
    case rest189 =>
    go_frame
    refine' wpAnyH_take (i := 61) (oi := ⟨some 80, .binOp .eql 4 (.tmp 59) (.tmp 79) 4, _, _, _, some (37, true)⟩) (v := _) rfl (by kernel_rfl) (by kernel_rfl) (by kernel_rfl) (fun _ _ _ h => h) (Or.inl ⟨by rfl, ?hy190⟩) (by assumption) ?rest190
    case hy190 => (intro w hSw; obtain _ := hSw; go_simp <;> with_reducible rfl)
    case rest190 =>
    go_frame
    refine' wpAnyH_take (i := 62) (oi := ⟨some 81, .pick (.tmp 56) (.tmp 80) (.const (.bool false)), _, _, _, none⟩) (v := _) rfl (by kernel_rfl) (by kernel_rfl) (by kernel_rfl) (fun _ _ _ h => h) (Or.inl ⟨by rfl, ?hy191⟩) (by assumption) ?rest191
    case hy191 => (intro w hSw; obtain _ := hSw; go_simp <;> with_reducible rfl)
    case rest191 =>
    go_frame
    refine' wpAnyH_take (i := 63) (oi := ⟨some 6, .assign (.tmp 81), _, _, _, none⟩) (v := _) rfl (by kernel_rfl) (by kernel_rfl) (by kernel_rfl) (fun _ _ _ h => h) (Or.inl ⟨by rfl, ?hy192⟩) (by assumption) ?rest192
    case hy192 => (intro w hSw; obtain _ := hSw; go_simp <;> with_reducible rfl)
    case rest192 =>
    go_frame
    refine wpAnyH_done (by kernel_rfl) ?_ _
    go_wp2_with fail
    go_ret
    exact ⟨by simp, Hb6.out⟩
  · rw [if_pos (by rfl)]
    go_simp
    refine ((HB1.out w5 Hb5.out)).mono ?_
    rintro e w6 ⟨A6, n6, c6, rfl, hr6, hb6⟩
    have Hb6 := Lib.hid (up Hb5.out hb6)
    have Hr6 := Lib.hid hr6
    have Hr56 := Lib.hid (Hr5.out.below hb6)
    clear hr6 hb6
    dsimp only
    refine hK.out _ _ (HS.out _ Hb6.out) (fun _ => ?_)
    clear hK K
    try go_frame
    refine wpAnyH_ready (rs := [15, 18]) (by kernel_rfl) (by simp) (AllReadyH.cons (o := ⟨some 34, .convert 39 9 (.tmp 33), _, _, _, some (12, true)⟩) rfl (fun K hK => ?_) (AllReadyH.cons (o := ⟨some 37, .convert 39 9 (.tmp 36), _, _, _, some (12, true)⟩) rfl (fun K hK => ?_) AllReadyH.nil))
    · rw [if_pos (by rfl)]
      refine wp_run (.string ⟨L.toArray⟩) w6 (exec_conv (s := 39) (t := 9) (x := .tmp 33) rfl (v := .slice A5 n5 c5) rfl (run_string_rd (P := Try.prog) 39 9 5 Try.underlying39 Try.underlying5 Try.underlying9 Hr56.out)) ?_
      refine hK.out _ _ (HS.out _ Hb6.out) (fun _ => ?_)
      clear hK K
      try go_frame
      refine wpAnyH_ready (rs := [18]) (by kernel_rfl) (by simp) (AllReadyH.cons (o := ⟨some 37, .convert 39 9 (.tmp 36), _, _, _, some (12, true)⟩) rfl (fun K hK => ?_) AllReadyH.nil)
      rw [if_pos (by rfl)]
      refine wp_run (.string ⟨L.toArray⟩) w6 (exec_conv (s := 39) (t := 9) (x := .tmp 36) rfl (v := .slice A6 n6 c6) rfl (run_string_rd (P := Try.prog) 39 9 5 Try.underlying39 Try.underlying5 Try.underlying9 Hr6.out)) ?_
      refine hK.out _ _ (HS.out _ Hb6.out) (fun _ => ?_)
      clear hK K
      try go_frame
      refine' wpAnyH_take (i := 19) (oi := ⟨some 38, .binOp .eql 9 (.tmp 34) (.tmp 37) 9, _, _, _, some (12, true)⟩) (v := _) rfl (by kernel_rfl) (by kernel_rfl) (by kernel_rfl) (fun _ _ _ h => h) (Or.inl ⟨by rfl, ?hy193⟩) (by assumption) ?rest193
      case hy193 => (intro w hSw; obtain _ := hSw; go_simp <;> with_reducible rfl)
      case rest193 =>
      go_frame
      refine' wpAnyH_take (i := 20) (oi := ⟨some 39, .pick (.tmp 31) (.tmp 38) (.const (.bool false)), _, _, _, none⟩) (v := _) rfl (by kernel_rfl) (by kernel_rfl) (by kernel_rfl) (fun _ _ _ h => h) (Or.inl ⟨by rfl, ?hy194⟩) (by assumption) ?rest194
      case hy194 => (intro w hSw; obtain _ := hSw; go_simp <;> with_reducible rfl)
      case rest194 =>
      go_frame
      refine' wpAnyH_take (i := 21) (oi := ⟨some 40, .move (.tmp 39), _, _, _, none⟩) (v := _) rfl (by kernel_rfl) (by kernel_rfl) (by kernel_rfl) (fun _ _ _ h => h) (Or.inl ⟨by rfl, ?hy195⟩) (by assumption) ?rest195
      case hy195 => (intro w hSw; obtain _ := hSw; go_simp <;> with_reducible rfl)
      case rest195 =>
      go_frame
      refine' wpAnyH_take (i := 22) (oi := ⟨some 41, .move (.tmp 0), _, _, _, some (21, true)⟩) (v := _) rfl (by kernel_rfl) (by kernel_rfl) (by kernel_rfl) (fun _ _ _ h => h) (Or.inl ⟨by rfl, ?hy196⟩) (by assumption) ?rest196
      case hy196 => (intro w hSw; obtain _ := hSw; go_simp <;> with_reducible rfl)
      case rest196 =>
      go_frame
      refine' wpAnyH_take (i := 23) (oi := ⟨some 42, .move (.tmp 2), _, _, _, some (21, true)⟩) (v := _) rfl (by kernel_rfl) (by kernel_rfl) (by kernel_rfl) (fun _ _ _ h => h) (Or.inl ⟨by rfl, ?hy197⟩) (by assumption) ?rest197
      case hy197 => (intro w hSw; obtain _ := hSw; go_simp <;> with_reducible rfl)
      case rest197 =>
      go_frame
      refine' wpAnyH_take (i := 25) (oi := ⟨some 44, .move (.tmp 7), _, _, _, some (21, true)⟩) (v := _) rfl (by kernel_rfl) (by kernel_rfl) (by kernel_rfl) (fun _ _ _ h => h) (Or.inl ⟨by rfl, ?hy198⟩) (by assumption) ?rest198
      case hy198 => (intro w hSw; obtain _ := hSw; go_simp <;> with_reducible rfl)
      case rest198 =>
      go_frame
      refine wpAnyH_ready (rs := [24]) (by kernel_rfl) (by simp) (AllReadyH.cons (o := ⟨some 43, .call { callee := .value (.func 36), args := #[.tmp 41, .tmp 42], argTypes := #[23, 3] }, _, _, _, some (21, true)⟩) rfl (fun K hK => ?_) AllReadyH.nil)
      rw [if_pos (by rfl)]
      go_simp
      refine ((HT0.out w6 Hb6.out)).mono ?_
      rintro e w7 ⟨rfl, rfl⟩
      dsimp only
      refine hK.out _ _ (HS.out _ Hb6.out) (fun _ => ?_)
      clear hK K
      try go_frame
      refine' wpAnyH_take (i := 26) (oi := ⟨some 45, .move (.tmp 44), _, _, _, some (21, true)⟩) (v := _) rfl (by kernel_rfl) (by kernel_rfl) (by kernel_rfl) (fun _ _ _ h => h) (Or.inl ⟨by rfl, ?hy199⟩) (by assumption) ?rest199
      case hy199 => (intro w hSw; obtain _ := hSw; go_simp <;> with_reducible rfl)
      case rest199 =>
      go_frame
      refine' wpAnyH_take (i := 27) (oi := ⟨some 46, .move (.tmp 1), _, _, _, some (26, true)⟩) (v := undef) rfl (by kernel_rfl) (by kernel_rfl) (by kernel_rfl) (fun _ _ _ h => h) (Or.inr ⟨by rfl, rfl⟩) (by assumption) ?rest200
      case rest200 =>
      go_frame
      refine' wpAnyH_take (i := 28) (oi := ⟨some 47, .nilCheck (.tmp 46), _, _, _, some (26, true)⟩) (v := undef) rfl (by kernel_rfl) (by kernel_rfl) (by kernel_rfl) (fun _ _ _ h => h) (Or.inr ⟨by rfl, rfl⟩) (by assumption) ?rest201
      case rest201 =>
      go_frame
      refine' wpAnyH_take (i := 29) (oi := ⟨some 48, .fieldAddr 55 (.tmp 47) 0, _, _, _, some (26, true)⟩) (v := undef) rfl (by kernel_rfl) (by kernel_rfl) (by kernel_rfl) (fun _ _ _ h => h) (Or.inr ⟨by rfl, rfl⟩) (by assumption) ?rest202
      case rest202 =>
      go_frame
      refine' wpAnyH_take (i := 30) (oi := ⟨some 49, .load 53 (.tmp 48), _, _, _, some (26, true)⟩) (v := undef) rfl (by kernel_rfl) (by kernel_rfl) (by kernel_rfl) (fun _ _ _ h => h) (Or.inr ⟨by rfl, rfl⟩) (by assumption) ?rest203
      case rest203 =>
      go_frame
      refine' wpAnyH_take (i := 31) (oi := ⟨some 50, .move (.tmp 2), _, _, _, some (26, true)⟩) (v := undef) rfl (by kernel_rfl) (by kernel_rfl) (by kernel_rfl) (fun _ _ _ h => h) (Or.inr ⟨by rfl, rfl⟩) (by assumption) ?rest204
      case rest204 =>
      go_frame
      refine' wpAnyH_take (i := 32) (oi := ⟨some 51, .indexAddr 53 (.tmp 49) (.tmp 50), _, _, _, some (26, true)⟩) (v := undef) rfl (by kernel_rfl) (by kernel_rfl) (by kernel_rfl) (fun _ _ _ h => h) (Or.inr ⟨by rfl, rfl⟩) (by assumption) ?rest205
      case rest205 =>
      go_frame
      refine' wpAnyH_take (i := 33) (oi := ⟨some 52, .load 4 (.tmp 51), _, _, _, some (26, true)⟩) (v := undef) rfl (by kernel_rfl) (by kernel_rfl) (by kernel_rfl) (fun _ _ _ h => h) (Or.inr ⟨by rfl, rfl⟩) (by assumption) ?rest206
      case rest206 =>
      go_frame
      refine' wpAnyH_take (i := 34) (oi := ⟨some 53, .pick (.tmp 45) (.tmp 52) (.const (.bool false)), _, _, _, some (21, true)⟩) (v := _) rfl (by kernel_rfl) (by kernel_rfl) (by kernel_rfl) (fun _ _ _ h => h) (Or.inl ⟨by rfl, ?hy207⟩) (by assumption) ?rest207
      case hy207 => (intro w hSw; obtain _ := hSw; go_simp <;> with_reducible rfl)
      case rest207 =>
      go_frame
      refine' wpAnyH_take (i := 35) (oi := ⟨some 54, .binOp .eql 4 (.tmp 43) (.tmp 53) 4, _, _, _, some (21, true)⟩) (v := _) rfl (by kernel_rfl) (by kernel_rfl) (by kernel_rfl) (fun _ _ _ h => h) (Or.inl ⟨by rfl, ?hy208⟩) (by assumption) ?rest208
      case hy208 => (intro w hSw; obtain _ := hSw; go_simp <;> with_reducible rfl)
      case rest208 =>
      go_frame
      refine' wpAnyH_take (i := 36) (oi := ⟨some 55, .pick (.tmp 40) (.tmp 54) (.const (.bool false)), _, _, _, none⟩) (v := _) rfl (by kernel_rfl) (by kernel_rfl) (by kernel_rfl) (fun _ _ _ h => h) (Or.inl ⟨by rfl, ?hy209⟩) (by assumption) ?rest209
      case hy209 => (intro w hSw; obtain _ := hSw; go_simp <;> with_reducible rfl)
      case rest209 =>
      go_frame
      refine' wpAnyH_take (i := 37) (oi := ⟨some 56, .move (.tmp 55), _, _, _, none⟩) (v := _) rfl (by kernel_rfl) (by kernel_rfl) (by kernel_rfl) (fun _ _ _ h => h) (Or.inl ⟨by rfl, ?hy210⟩) (by assumption) ?rest210
      case hy210 => (intro w hSw; obtain _ := hSw; go_simp <;> with_reducible rfl)
      case rest210 =>
      go_frame
      refine' wpAnyH_take (i := 38) (oi := ⟨some 57, .move (.tmp 0), _, _, _, some (37, true)⟩) (v := _) rfl (by kernel_rfl) (by kernel_rfl) (by kernel_rfl) (fun _ _ _ h => h) (Or.inl ⟨by rfl, ?hy211⟩) (by assumption) ?rest211
      case hy211 => (intro w hSw; obtain _ := hSw; go_simp <;> with_reducible rfl)
      case rest211 =>
      go_frame
      refine' wpAnyH_take (i := 39) (oi := ⟨some 58, .move (.tmp 2), _, _, _, some (37, true)⟩) (v := _) rfl (by kernel_rfl) (by kernel_rfl) (by kernel_rfl) (fun _ _ _ h => h) (Or.inl ⟨by rfl, ?hy212⟩) (by assumption) ?rest212
      case hy212 => (intro w hSw; obtain _ := hSw; go_simp <;> with_reducible rfl)
      case rest212 =>
      go_frame
      refine' wpAnyH_take (i := 41) (oi := ⟨some 60, .move (.tmp 7), _, _, _, some (37, true)⟩) (v := _) rfl (by kernel_rfl) (by kernel_rfl) (by kernel_rfl) (fun _ _ _ h => h) (Or.inl ⟨by rfl, ?hy213⟩) (by assumption) ?rest213
      case hy213 => (intro w hSw; obtain _ := hSw; go_simp <;> with_reducible rfl)
      case rest213 =>
      go_frame
      refine wpAnyH_ready (rs := [40]) (by kernel_rfl) (by simp) (AllReadyH.cons (o := ⟨some 59, .call { callee := .value (.func 37), args := #[.tmp 57, .tmp 58], argTypes := #[23, 3] }, _, _, _, some (37, true)⟩) rfl (fun K hK => ?_) AllReadyH.nil)
      rw [if_pos (by rfl)]
      go_simp
      refine ((HF0.out w6 Hb6.out)).mono ?_
      rintro e w7 ⟨rfl, rfl⟩
      dsimp only
      refine hK.out _ _ (HS.out _ Hb6.out) (fun _ => ?_)
      clear hK K
      try go_frame
      refine' wpAnyH_take (i := 42) (oi := ⟨some 61, .move (.tmp 60), _, _, _, some (37, true)⟩) (v := _) rfl (by kernel_rfl) (by kernel_rfl) (by kernel_rfl) (fun _ _ _ h => h) (Or.inl ⟨by rfl, ?hy214⟩) (by assumption) ?rest214
      case hy214 => (intro w hSw; obtain _ := hSw; go_simp <;> with_reducible rfl)
      case rest214 =>
      go_frame
      refine' wpAnyH_take (i := 43) (oi := ⟨some 62, .move (.tmp 1), _, _, _, some (42, true)⟩) (v := undef) rfl (by kernel_rfl) (by kernel_rfl) (by kernel_rfl) (fun _ _ _ h => h) (Or.inr ⟨by rfl, rfl⟩) (by assumption) ?rest215
      case rest215 =>
      go_frame
      refine' wpAnyH_take (i := 44) (oi := ⟨some 63, .nilCheck (.tmp 62), _, _, _, some (42, true)⟩) (v := undef) rfl (by kernel_rfl) (by kernel_rfl) (by kernel_rfl) (fun _ _ _ h => h) (Or.inr ⟨by rfl, rfl⟩) (by assumption) ?rest216
      case rest216 =>
      go_frame
      refine' wpAnyH_take (i := 45) (oi := ⟨some 64, .fieldAddr 55 (.tmp 63) 0, _, _, _, some (42, true)⟩) (v := undef) rfl (by kernel_rfl) (by kernel_rfl) (by kernel_rfl) (fun _ _ _ h => h) (Or.inr ⟨by rfl, rfl⟩) (by assumption) ?rest217
      case rest217 =>
      go_frame
      refine' wpAnyH_take (i := 46) (oi := ⟨some 65, .load 53 (.tmp 64), _, _, _, some (42, true)⟩) (v := undef) rfl (by kernel_rfl) (by kernel_rfl) (by kernel_rfl) (fun _ _ _ h => h) (Or.inr ⟨by rfl, rfl⟩) (by assumption) ?rest218
      case rest218 =>
      go_frame
      refine' wpAnyH_take (i := 47) (oi := ⟨some 66, .move (.tmp 2), _, _, _, some (42, true)⟩) (v := undef) rfl (by kernel_rfl) (by kernel_rfl) (by kernel_rfl) (fun _ _ _ h => h) (Or.inr ⟨by rfl, rfl⟩) (by assumption) ?rest219
      case rest219 =>
      go_frame
      refine' wpAnyH_take (i := 48) (oi := ⟨some 67, .indexAddr 53 (.tmp 65) (.tmp 66), _, _, _, some (42, true)⟩) (v := undef) rfl (by kernel_rfl) (by kernel_rfl) (by kernel_rfl) (fun _ _ _ h => h) (Or.inr ⟨by rfl, rfl⟩) (by assumption) ?rest220
      case rest220 =>
      go_frame
      refine' wpAnyH_take (i := 49) (oi := ⟨some 68, .load 4 (.tmp 67), _, _, _, some (42, true)⟩) (v := undef) rfl (by kernel_rfl) (by kernel_rfl) (by kernel_rfl) (fun _ _ _ h => h) (Or.inr ⟨by rfl, rfl⟩) (by assumption) ?rest221
      case rest221 =>
      go_frame
      refine' wpAnyH_take (i := 50) (oi := ⟨some 69, .pick (.tmp 61) (.tmp 68) (.const (.bool false)), _, _, _, some (37, true)⟩) (v := _) rfl (by kernel_rfl) (by kernel_rfl) (by kernel_rfl) (fun _ _ _ h => h) (Or.inl ⟨by rfl, ?hy222⟩) (by assumption) ?rest222
      case hy222 => (intro w hSw; obtain _ := hSw; go_simp <;> with_reducible rfl)
      case rest222 =>
      go_frame
      refine' wpAnyH_take (i := 51) (oi := ⟨some 70, .move (.tmp 69), _, _, _, some (37, true)⟩) (v := _) rfl (by kernel_rfl) (by kernel_rfl) (by kernel_rfl) (fun _ _ _ h => h) (Or.inl ⟨by rfl, ?hy223⟩) (by assumption) ?rest223
      case hy223 => (intro w hSw; obtain _ := hSw; go_simp <;> with_reducible rfl)
      case rest223 =>
      go_frame
      refine' wpAnyH_take (i := 52) (oi := ⟨some 71, .move (.tmp 1), _, _, _, some (51, true)⟩) (v := undef) rfl (by kernel_rfl) (by kernel_rfl) (by kernel_rfl) (fun _ _ _ h => h) (Or.inr ⟨by rfl, rfl⟩) (by assumption) ?rest224
      case rest224 =>
      go_frame
      refine' wpAnyH_take (i := 53) (oi := ⟨some 72, .nilCheck (.tmp 71), _, _, _, some (51, true)⟩) (v := undef) rfl (by kernel_rfl) (by kernel_rfl) (by kernel_rfl) (fun _ _ _ h => h) (Or.inr ⟨by rfl, rfl⟩) (by assumption) ?rest225
      case rest225 =>
      go_frame
      refine' wpAnyH_take (i := 54) (oi := ⟨some 73, .fieldAddr 55 (.tmp 72) 1, _, _, _, some (51, true)⟩) (v := undef) rfl (by kernel_rfl) (by kernel_rfl) (by kernel_rfl) (fun _ _ _ h => h) (Or.inr ⟨by rfl, rfl⟩) (by assumption) ?rest226
      case rest226 =>
      go_frame
      refine' wpAnyH_take (i := 55) (oi := ⟨some 74, .load 53 (.tmp 73), _, _, _, some (51, true)⟩) (v := undef) rfl (by kernel_rfl) (by kernel_rfl) (by kernel_rfl) (fun _ _ _ h => h) (Or.inr ⟨by rfl, rfl⟩) (by assumption) ?rest227
      case rest227 =>
      go_frame
      refine' wpAnyH_take (i := 56) (oi := ⟨some 75, .move (.tmp 2), _, _, _, some (51, true)⟩) (v := undef) rfl (by kernel_rfl) (by kernel_rfl) (by kernel_rfl) (fun _ _ _ h => h) (Or.inr ⟨by rfl, rfl⟩) (by assumption) ?rest228
      case rest228 =>
      go_frame
      refine' wpAnyH_take (i := 57) (oi := ⟨some 76, .indexAddr 53 (.tmp 74) (.tmp 75), _, _, _, some (51, true)⟩) (v := undef) rfl (by kernel_rfl) (by kernel_rfl) (by kernel_rfl) (fun _ _ _ h => h) (Or.inr ⟨by rfl, rfl⟩) (by assumption) ?rest229
      case rest229 =>
      go_frame
      refine' wpAnyH_take (i := 58) (oi := ⟨some 77, .load 4 (.tmp 76), _, _, _, some (51, true)⟩) (v := undef) rfl (by kernel_rfl) (by kernel_rfl) (by kernel_rfl) (fun _ _ _ h => h) (Or.inr ⟨by rfl, rfl⟩) (by assumption) ?rest230
      case rest230 =>
      go_frame
      refine' wpAnyH_take (i := 59) (oi := ⟨some 78, .unOp .not 4 (.tmp 77), _, _, _, some (51, true)⟩) (v := undef) rfl (by kernel_rfl) (by kernel_rfl) (by kernel_rfl) (fun _ _ _ h => h) (Or.inr ⟨by rfl, rfl⟩) (by assumption) ?rest231
      case rest231 =>
      go_frame
      refine' wpAnyH_take (i := 60) (oi := ⟨some 79, .pick (.tmp 70) (.tmp 78) (.const (.bool false)), _, _, _, some (37, true)⟩) (v := _) rfl (by kernel_rfl) (by kernel_rfl) (by kernel_rfl) (fun _ _ _ h => h) (Or.inl ⟨by rfl, ?hy232⟩) (by assumption) ?rest232
      case hy232 => (intro w hSw; obtain _ := hSw; go_simp <;> with_reducible rfl)
      case rest232 =>
      go_frame
      refine' wpAnyH_take (i := 61) (oi := ⟨some 80, .binOp .eql 4 (.tmp 59) (.tmp 79) 4, _, _, _, some (37, true)⟩) (v := _) rfl (by kernel_rfl) (by kernel_rfl) (by kernel_rfl) (fun _ _ _ h => h) (Or.inl ⟨by rfl, ?hy233⟩) (by assumption) ?rest233
      case hy233 => (intro w hSw; obtain _ := hSw; go_simp <;> with_reducible rfl)
      case rest233 =>
      go_frame
      refine' wpAnyH_take (i := 62) (oi := ⟨some 81, .pick (.tmp 56) (.tmp 80) (.const (.bool false)), _, _, _, none⟩) (v := _) rfl (by kernel_rfl) (by kernel_rfl) (by kernel_rfl) (fun _ _ _ h => h) (Or.inl ⟨by rfl, ?hy234⟩) (by assumption) ?rest234
      case hy234 => (intro w hSw; obtain _ := hSw; go_simp <;> with_reducible rfl)
      case rest234 =>
      go_frame
      refine' wpAnyH_take (i := 63) (oi := ⟨some 6, .assign (.tmp 81), _, _, _, none⟩) (v := _) rfl (by kernel_rfl) (by kernel_rfl) (by kernel_rfl) (fun _ _ _ h => h) (Or.inl ⟨by rfl, ?hy235⟩) (by assumption) ?rest235
      case hy235 => (intro w hSw; obtain _ := hSw; go_simp <;> with_reducible rfl)
      case rest235 =>
      go_frame
      refine wpAnyH_done (by kernel_rfl) ?_ _
      go_wp2_with fail
      go_ret
      exact ⟨by simp, Hb6.out⟩
    · rw [if_pos (by rfl)]
      refine wp_run (.string ⟨L.toArray⟩) w6 (exec_conv (s := 39) (t := 9) (x := .tmp 36) rfl (v := .slice A6 n6 c6) rfl (run_string_rd (P := Try.prog) 39 9 5 Try.underlying39 Try.underlying5 Try.underlying9 Hr6.out)) ?_
      refine hK.out _ _ (HS.out _ Hb6.out) (fun _ => ?_)
      clear hK K
      try go_frame
      refine wpAnyH_ready (rs := [15]) (by kernel_rfl) (by simp) (AllReadyH.cons (o := ⟨some 34, .convert 39 9 (.tmp 33), _, _, _, some (12, true)⟩) rfl (fun K hK => ?_) AllReadyH.nil)
      rw [if_pos (by rfl)]
      refine wp_run (.string ⟨L.toArray⟩) w6 (exec_conv (s := 39) (t := 9) (x := .tmp 33) rfl (v := .slice A5 n5 c5) rfl (run_string_rd (P := Try.prog) 39 9 5 Try.underlying39 Try.underlying5 Try.underlying9 Hr56.out)) ?_
      refine hK.out _ _ (HS.out _ Hb6.out) (fun _ => ?_)
      clear hK K
      try go_frame
      refine' wpAnyH_take (i := 19) (oi := ⟨some 38, .binOp .eql 9 (.tmp 34) (.tmp 37) 9, _, _, _, some (12, true)⟩) (v := _) rfl (by kernel_rfl) (by kernel_rfl) (by kernel_rfl) (fun _ _ _ h => h) (Or.inl ⟨by rfl, ?hy236⟩) (by assumption) ?rest236
      case hy236 => (intro w hSw; obtain _ := hSw; go_simp <;> with_reducible rfl)
      case rest236 =>
      go_frame
      refine' wpAnyH_take (i := 20) (oi := ⟨some 39, .pick (.tmp 31) (.tmp 38) (.const (.bool false)), _, _, _, none⟩) (v := _) rfl (by kernel_rfl) (by kernel_rfl) (by kernel_rfl) (fun _ _ _ h => h) (Or.inl ⟨by rfl, ?hy237⟩) (by assumption) ?rest237
      case hy237 => (intro w hSw; obtain _ := hSw; go_simp <;> with_reducible rfl)
      case rest237 =>
      go_frame
      refine' wpAnyH_take (i := 21) (oi := ⟨some 40, .move (.tmp 39), _, _, _, none⟩) (v := _) rfl (by kernel_rfl) (by kernel_rfl) (by kernel_rfl) (fun _ _ _ h => h) (Or.inl ⟨by rfl, ?hy238⟩) (by assumption) ?rest238
      case hy238 => (intro w hSw; obtain _ := hSw; go_simp <;> with_reducible rfl)
      case rest238 =>
      go_frame
      refine' wpAnyH_take (i := 22) (oi := ⟨some 41, .move (.tmp 0), _, _, _, some (21, true)⟩) (v := _) rfl (by kernel_rfl) (by kernel_rfl) (by kernel_rfl) (fun _ _ _ h => h) (Or.inl ⟨by rfl, ?hy239⟩) (by assumption) ?rest239
      case hy239 => (intro w hSw; obtain _ := hSw; go_simp <;> with_reducible rfl)
      case rest239 =>
      go_frame
      refine' wpAnyH_take (i := 23) (oi := ⟨some 42, .move (.tmp 2), _, _, _, some (21, true)⟩) (v := _) rfl (by kernel_rfl) (by kernel_rfl) (by kernel_rfl) (fun _ _ _ h => h) (Or.inl ⟨by rfl, ?hy240⟩) (by assumption) ?rest240
      case hy240 => (intro w hSw; obtain _ := hSw; go_simp <;> with_reducible rfl)
      case rest240 =>
      go_frame
      refine' wpAnyH_take (i := 25) (oi := ⟨some 44, .move (.tmp 7), _, _, _, some (21, true)⟩) (v := _) rfl (by kernel_rfl) (by kernel_rfl) (by kernel_rfl) (fun _ _ _ h => h) (Or.inl ⟨by rfl, ?hy241⟩) (by assumption) ?rest241
      case hy241 => (intro w hSw; obtain _ := hSw; go_simp <;> with_reducible rfl)
      case rest241 =>
      go_frame
      refine wpAnyH_ready (rs := [24]) (by kernel_rfl) (by simp) (AllReadyH.cons (o := ⟨some 43, .call { callee := .value (.func 36), args := #[.tmp 41, .tmp 42], argTypes := #[23, 3] }, _, _, _, some (21, true)⟩) rfl (fun K hK => ?_) AllReadyH.nil)
      rw [if_pos (by rfl)]
      go_simp
      refine ((HT0.out w6 Hb6.out)).mono ?_
      rintro e w7 ⟨rfl, rfl⟩
      dsimp only
      refine hK.out _ _ (HS.out _ Hb6.out) (fun _ => ?_)
      clear hK K
      try go_frame
      refine' wpAnyH_take (i := 26) (oi := ⟨some 45, .move (.tmp 44), _, _, _, some (21, true)⟩) (v := _) rfl (by kernel_rfl) (by kernel_rfl) (by kernel_rfl) (fun _ _ _ h => h) (Or.inl ⟨by rfl, ?hy242⟩) (by assumption) ?rest242
      case hy242 => (intro w hSw; obtain _ := hSw; go_simp <;> with_reducible rfl)
      case rest242 =>
      go_frame
      refine' wpAnyH_take (i := 27) (oi := ⟨some 46, .move (.tmp 1), _, _, _, some (26, true)⟩) (v := undef) rfl (by kernel_rfl) (by kernel_rfl) (by kernel_rfl) (fun _ _ _ h => h) (Or.inr ⟨by rfl, rfl⟩) (by assumption) ?rest243
      case rest243 =>
      go_frame
      refine' wpAnyH_take (i := 28) (oi := ⟨some 47, .nilCheck (.tmp 46), _, _, _, some (26, true)⟩) (v := undef) rfl (by kernel_rfl) (by kernel_rfl) (by kernel_rfl) (fun _ _ _ h => h) (Or.inr ⟨by rfl, rfl⟩) (by assumption) ?rest244
      case rest244 =>
      go_frame
      refine' wpAnyH_take (i := 29) (oi := ⟨some 48, .fieldAddr 55 (.tmp 47) 0, _, _, _, some (26, true)⟩) (v := undef) rfl (by kernel_rfl) (by kernel_rfl) (by kernel_rfl) (fun _ _ _ h => h) (Or.inr ⟨by rfl, rfl⟩) (by assumption) ?rest245
      case rest245 =>
      go_frame
      refine' wpAnyH_take (i := 30) (oi := ⟨some 49, .load 53 (.tmp 48), _, _, _, some (26, true)⟩) (v := undef) rfl (by kernel_rfl) (by kernel_rfl) (by kernel_rfl) (fun _ _ _ h => h) (Or.inr ⟨by rfl, rfl⟩) (by assumption) ?rest246
      case rest246 =>
      go_frame
      refine' wpAnyH_take (i := 31) (oi := ⟨some 50, .move (.tmp 2), _, _, _, some (26, true)⟩) (v := undef) rfl (by kernel_rfl) (by kernel_rfl) (by kernel_rfl) (fun _ _ _ h => h) (Or.inr ⟨by rfl, rfl⟩) (by assumption) ?rest247
      case rest247 =>
      go_frame
      refine' wpAnyH_take (i := 32) (oi := ⟨some 51, .indexAddr 53 (.tmp 49) (.tmp 50), _, _, _, some (26, true)⟩) (v := undef) rfl (by kernel_rfl) (by kernel_rfl) (by kernel_rfl) (fun _ _ _ h => h) (Or.inr ⟨by rfl, rfl⟩) (by assumption) ?rest248
      case rest248 =>
      go_frame
      refine' wpAnyH_take (i := 33) (oi := ⟨some 52, .load 4 (.tmp 51), _, _, _, some (26, true)⟩) (v := undef) rfl (by kernel_rfl) (by kernel_rfl) (by kernel_rfl) (fun _ _ _ h => h) (Or.inr ⟨by rfl, rfl⟩) (by assumption) ?rest249
      case rest249 =>
      go_frame
      refine' wpAnyH_take (i := 34) (oi := ⟨some 53, .pick (.tmp 45) (.tmp 52) (.const (.bool false)), _, _, _, some (21, true)⟩) (v := _) rfl (by kernel_rfl) (by kernel_rfl) (by kernel_rfl) (fun _ _ _ h => h) (Or.inl ⟨by rfl, ?hy250⟩) (by assumption) ?rest250
      case hy250 => (intro w hSw; obtain _ := hSw; go_simp <;> with_reducible rfl)
      case rest250 =>
      go_frame
      refine' wpAnyH_take (i := 35) (oi := ⟨some 54, .binOp .eql 4 (.tmp 43) (.tmp 53) 4, _, _, _, some (21, true)⟩) (v := _) rfl (by kernel_rfl) (by kernel_rfl) (by kernel_rfl) (fun _ _ _ h => h) (Or.inl ⟨by rfl, ?hy251⟩) (by assumption) ?rest251
      case hy251 => (intro w hSw; obtain _ := hSw; go_simp <;> with_reducible rfl)
      case rest251 =>
      go_frame
      refine' wpAnyH_take (i := 36) (oi := ⟨some 55, .pick (.tmp 40) (.tmp 54) (.const (.bool false)), _, _, _, none⟩) (v := _) rfl (by kernel_rfl) (by kernel_rfl) (by kernel_rfl) (fun _ _ _ h => h) (Or.inl ⟨by rfl, ?hy252⟩) (by assumption) ?rest252
      case hy252 => (intro w hSw; obtain _ := hSw; go_simp <;> with_reducible rfl)
      case rest252 =>
      go_frame
      refine' wpAnyH_take (i := 37) (oi := ⟨some 56, .move (.tmp 55), _, _, _, none⟩) (v := _) rfl (by kernel_rfl) (by kernel_rfl) (by kernel_rfl) (fun _ _ _ h => h) (Or.inl ⟨by rfl, ?hy253⟩) (by assumption) ?rest253
      case hy253 => (intro w hSw; obtain _ := hSw; go_simp <;> with_reducible rfl)
      case rest253 =>
      go_frame
      refine' wpAnyH_take (i := 38) (oi := ⟨some 57, .move (.tmp 0), _, _, _, some (37, true)⟩) (v := _) rfl (by kernel_rfl) (by kernel_rfl) (by kernel_rfl) (fun _ _ _ h => h) (Or.inl ⟨by rfl, ?hy254⟩) (by assumption) ?rest254
      case hy254 => (intro w hSw; obtain _ := hSw; go_simp <;> with_reducible rfl)
      case rest254 =>
      go_frame
      refine' wpAnyH_take (i := 39) (oi := ⟨some 58, .move (.tmp 2), _, _, _, some (37, true)⟩) (v := _) rfl (by kernel_rfl) (by kernel_rfl) (by kernel_rfl) (fun _ _ _ h => h) (Or.inl ⟨by rfl, ?hy255⟩) (by assumption) ?rest255
      case hy255 => (intro w hSw; obtain _ := hSw; go_simp <;> with_reducible rfl)
      case rest255 =>
      go_frame
      refine' wpAnyH_take (i := 41) (oi := ⟨some 60, .move (.tmp 7), _, _, _, some (37, true)⟩) (v := _) rfl (by kernel_rfl) (by kernel_rfl) (by kernel_rfl) (fun _ _ _ h => h) (Or.inl ⟨by rfl, ?hy256⟩) (by assumption) ?rest256
      case hy256 => (intro w hSw; obtain _ := hSw; go_simp <;> with_reducible rfl)
      case rest256 =>
      go_frame
      refine wpAnyH_ready (rs := [40]) (by kernel_rfl) (by simp) (AllReadyH.cons (o := ⟨some 59, .call { callee := .value (.func 37), args := #[.tmp 57, .tmp 58], argTypes := #[23, 3] }, _, _, _, some (37, true)⟩) rfl (fun K hK => ?_) AllReadyH.nil)
      rw [if_pos (by rfl)]
      go_simp
      refine ((HF0.out w6 Hb6.out)).mono ?_
      rintro e w7 ⟨rfl, rfl⟩
      dsimp only
      refine hK.out _ _ (HS.out _ Hb6.out) (fun _ => ?_)
      clear hK K
      try go_frame
      refine' wpAnyH_take (i := 42) (oi := ⟨some 61, .move (.tmp 60), _, _, _, some (37, true)⟩) (v := _) rfl (by kernel_rfl) (by kernel_rfl) (by kernel_rfl) (fun _ _ _ h => h) (Or.inl ⟨by rfl, ?hy257⟩) (by assumption) ?rest257
      case hy257 => (intro w hSw; obtain _ := hSw; go_simp <;> with_reducible rfl)
      case rest257 =>
      go_frame
      refine' wpAnyH_take (i := 43) (oi := ⟨some 62, .move (.tmp 1), _, _, _, some (42, true)⟩) (v := undef) rfl (by kernel_rfl) (by kernel_rfl) (by kernel_rfl) (fun _ _ _ h => h) (Or.inr ⟨by rfl, rfl⟩) (by assumption) ?rest258
      case rest258 =>
      go_frame
      refine' wpAnyH_take (i := 44) (oi := ⟨some 63, .nilCheck (.tmp 62), _, _, _, some (42, true)⟩) (v := undef) rfl (by kernel_rfl) (by kernel_rfl) (by kernel_rfl) (fun _ _ _ h => h) (Or.inr ⟨by rfl, rfl⟩) (by assumption) ?rest259
      case rest259 =>
      go_frame
      refine' wpAnyH_take (i := 45) (oi := ⟨some 64, .fieldAddr 55 (.tmp 63) 0, _, _, _, some (42, true)⟩) (v := undef) rfl (by kernel_rfl) (by kernel_rfl) (by kernel_rfl) (fun _ _ _ h => h) (Or.inr ⟨by rfl, rfl⟩) (by assumption) ?rest260
      case rest260 =>
      go_frame
      refine' wpAnyH_take (i := 46) (oi := ⟨some 65, .load 53 (.tmp 64), _, _, _, some (42, true)⟩) (v := undef) rfl (by kernel_rfl) (by kernel_rfl) (by kernel_rfl) (fun _ _ _ h => h) (Or.inr ⟨by rfl, rfl⟩) (by assumption) ?rest261
      case rest261 =>
      go_frame
      refine' wpAnyH_take (i := 47) (oi := ⟨some 66, .move (.tmp 2), _, _, _, some (42, true)⟩) (v := undef) rfl (by kernel_rfl) (by kernel_rfl) (by kernel_rfl) (fun _ _ _ h => h) (Or.inr ⟨by rfl, rfl⟩) (by assumption) ?rest262
      case rest262 =>
      go_frame
      refine' wpAnyH_take (i := 48) (oi := ⟨some 67, .indexAddr 53 (.tmp 65) (.tmp 66), _, _, _, some (42, true)⟩) (v := undef) rfl (by kernel_rfl) (by kernel_rfl) (by kernel_rfl) (fun _ _ _ h => h) (Or.inr ⟨by rfl, rfl⟩) (by assumption) ?rest263
      case rest263 =>
      go_frame
      refine' wpAnyH_take (i := 49) (oi := ⟨some 68, .load 4 (.tmp 67), _, _, _, some (42, true)⟩) (v := undef) rfl (by kernel_rfl) (by kernel_rfl) (by kernel_rfl) (fun _ _ _ h => h) (Or.inr ⟨by rfl, rfl⟩) (by assumption) ?rest264
      case rest264 =>
      go_frame
      refine' wpAnyH_take (i := 50) (oi := ⟨some 69, .pick (.tmp 61) (.tmp 68) (.const (.bool false)), _, _, _, some (37, true)⟩) (v := _) rfl (by kernel_rfl) (by kernel_rfl) (by kernel_rfl) (fun _ _ _ h => h) (Or.inl ⟨by rfl, ?hy265⟩) (by assumption) ?rest265
      case hy265 => (intro w hSw; obtain _ := hSw; go_simp <;> with_reducible rfl)
      case rest265 =>
      go_frame
      refine' wpAnyH_take (i := 51) (oi := ⟨some 70, .move (.tmp 69), _, _, _, some (37, true)⟩) (v := _) rfl (by kernel_rfl) (by kernel_rfl) (by kernel_rfl) (fun _ _ _ h => h) (Or.inl ⟨by rfl, ?hy266⟩) (by assumption) ?rest266
      case hy266 => (intro w hSw; obtain _ := hSw; go_simp <;> with_reducible rfl)
      case rest266 =>
      go_frame
      refine' wpAnyH_take (i := 52) (oi := ⟨some 71, .move (.tmp 1), _, _, _, some (51, true)⟩) (v := undef) rfl (by kernel_rfl) (by kernel_rfl) (by kernel_rfl) (fun _ _ _ h => h) (Or.inr ⟨by rfl, rfl⟩) (by assumption) ?rest267
      case rest267 =>
      go_frame
      refine' wpAnyH_take (i := 53) (oi := ⟨some 72, .nilCheck (.tmp 71), _, _, _, some (51, true)⟩) (v := undef) rfl (by kernel_rfl) (by kernel_rfl) (by kernel_rfl) (fun _ _ _ h => h) (Or.inr ⟨by rfl, rfl⟩) (by assumption) ?rest268
      case rest268 =>
      go_frame
      refine' wpAnyH_take (i := 54) (oi := ⟨some 73, .fieldAddr 55 (.tmp 72) 1, _, _, _, some (51, true)⟩) (v := undef) rfl (by kernel_rfl) (by kernel_rfl) (by kernel_rfl) (fun _ _ _ h => h) (Or.inr ⟨by rfl, rfl⟩) (by assumption) ?rest269
      case rest269 =>
      go_frame
      refine' wpAnyH_take (i := 55) (oi := ⟨some 74, .load 53 (.tmp 73), _, _, _, some (51, true)⟩) (v := undef) rfl (by kernel_rfl) (by kernel_rfl) (by kernel_rfl) (fun _ _ _ h => h) (Or.inr ⟨by rfl, rfl⟩) (by assumption) ?rest270
      case rest270 =>
      go_frame
      refine' wpAnyH_take (i := 56) (oi := ⟨some 75, .move (.tmp 2), _, _, _, some (51, true)⟩) (v := undef) rfl (by kernel_rfl) (by kernel_rfl) (by kernel_rfl) (fun _ _ _ h => h) (Or.inr ⟨by rfl, rfl⟩) (by assumption) ?rest271
      case rest271 =>
      go_frame
      refine' wpAnyH_take (i := 57) (oi := ⟨some 76, .indexAddr 53 (.tmp 74) (.tmp 75), _, _, _, some (51, true)⟩) (v := undef) rfl (by kernel_rfl) (by kernel_rfl) (by kernel_rfl) (fun _ _ _ h => h) (Or.inr ⟨by rfl, rfl⟩) (by assumption) ?rest272
      case rest272 =>
      go_frame
      refine' wpAnyH_take (i := 58) (oi := ⟨some 77, .load 4 (.tmp 76), _, _, _, some (51, true)⟩) (v := undef) rfl (by kernel_rfl) (by kernel_rfl) (by kernel_rfl) (fun _ _ _ h => h) (Or.inr ⟨by rfl, rfl⟩) (by assumption) ?rest273
      case rest273 =>
      go_frame
      refine' wpAnyH_take (i := 59) (oi := ⟨some 78, .unOp .not 4 (.tmp 77), _, _, _, some (51, true)⟩) (v := undef) rfl (by kernel_rfl) (by kernel_rfl) (by kernel_rfl) (fun _ _ _ h => h) (Or.inr ⟨by rfl, rfl⟩) (by assumption) ?rest274
      case rest274 =>
      go_frame
      refine' wpAnyH_take (i := 60) (oi := ⟨some 79, .pick (.tmp 70) (.tmp 78) (.const (.bool false)), _, _, _, some (37, true)⟩) (v := _) rfl (by kernel_rfl) (by kernel_rfl) (by kernel_rfl) (fun _ _ _ h => h) (Or.inl ⟨by rfl, ?hy275⟩) (by assumption) ?rest275
      case hy275 => (intro w hSw; obtain _ := hSw; go_simp <;> with_reducible rfl)
      case rest275 =>
      go_frame
      refine' wpAnyH_take (i := 61) (oi := ⟨some 80, .binOp .eql 4 (.tmp 59) (.tmp 79) 4, _, _, _, some (37, true)⟩) (v := _) rfl (by kernel_rfl) (by kernel_rfl) (by kernel_rfl) (fun _ _ _ h => h) (Or.inl ⟨by rfl, ?hy276⟩) (by assumption) ?rest276
      case hy276 => (intro w hSw; obtain _ := hSw; go_simp <;> with_reducible rfl)
      case rest276 =>
      go_frame
      refine' wpAnyH_take (i := 62) (oi := ⟨some 81, .pick (.tmp 56) (.tmp 80) (.const (.bool false)), _, _, _, none⟩) (v := _) rfl (by kernel_rfl) (by kernel_rfl) (by kernel_rfl) (fun _ _ _ h => h) (Or.inl ⟨by rfl, ?hy277⟩) (by assumption) ?rest277
      case hy277 => (intro w hSw; obtain _ := hSw; go_simp <;> with_reducible rfl)
      case rest277 =>
      go_frame
      refine' wpAnyH_take (i := 63) (oi := ⟨some 6, .assign (.tmp 81), _, _, _, none⟩) (v := _) rfl (by kernel_rfl) (by kernel_rfl) (by kernel_rfl) (fun _ _ _ h => h) (Or.inl ⟨by rfl, ?hy278⟩) (by assumption) ?rest278
      case hy278 => (intro w hSw; obtain _ := hSw; go_simp <;> with_reducible rfl)
      case rest278 =>
      go_frame
      refine wpAnyH_done (by kernel_rfl) ?_ _
      go_wp2_with fail
      go_ret
      exact ⟨by simp, Hb6.out⟩
end
end Go.Proofs.Ytllhilnajjohiaa
