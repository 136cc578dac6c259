/-
  That what is put is got, as the laws of layer 5 look at it (lives).
-/
import Derived.Test.YtfjcblppmoomdaaCacheK
import Derived.Test.YtfjcblppmoomdaaCacheFull
import Derived.Deep.RegionHeld3
namespace Go.Proofs.Ytfjcblppmoomdaa
open Go.RowKit
/-- The cache that 'lives' has behind its Put. -/
def lvX (l : List UInt8) : Cch := ((((Cch.new 8).hold 0 3).bytes 0 l).soil 0).use 0
theorem lv_put (l : List UInt8) : (Cch.new 8).put (Dev.new 16) 3 l = (0, lvX l, Dev.new 16) := by
  unfold Cch.put
  rw [if_pos (by simp [Dev.new])]
  rfl
theorem lv_get (l : List UInt8) : (lvX l).get (Dev.new 16) 3 = (l, 0, (lvX l).use 0, Dev.new 16) := by
  unfold Cch.get
  rw [if_pos (by simp [Dev.new])]
  rfl
theorem lv_dirty (l : List UInt8) : (upward (((lvX l).use 0).those fun f => f.dirty)).length = 1 := by rw [upward_length]; rfl
theorem lv_within (l : List UInt8) : (lvX l).Within 16 := by
  intro i hi h
  have hi : i < 8 := hi
  match i, hi with
  | 0, _ => exact (show (0 : Int) ≤ 3 ∧ (3 : Int) < 16 by omega)
  | 1, _ => cases h
  | 2, _ => cases h
  | 3, _ => cases h
  | 4, _ => cases h
  | 5, _ => cases h
  | 6, _ => cases h
  | 7, _ => cases h
theorem new_within (k n : Nat) : (Cch.new k).Within n := by
  intro i _ h
  rw [new_getD] at h
  cases h
theorem string_of {P : Program} {w w' : World} {B : Nat} {v : Value} {l : List UInt8} (src dst e : TypeId) (hs : P.underlying src = some (.slice e)) (he : P.underlying e = some (.int .u8)) (hd : P.underlying dst = some .string)
    (hr : Rd w B v (cellsB l)) (hb : Below B w w') : (convert src dst v).run P w' = .ok (.string ⟨l.toArray⟩) w' := run_string_kept src dst e hs he hd hr hb
theorem exec_conv {P : Program} {w : World} {o : Oper} {ρ : Operand → Value} {s t : TypeId} {x : Operand} (ho : o.op = .convert s t x) {v r : Value} (hx : ρ x = v) {w' : World} (hrun : (convert s t v).run P w = .ok r w') : (execOp ρ o).run P w = .ok (.value r) w' := by
  unfold execOp
  simp only [ho, hx, Sem.run_bind, hrun, Result.andThen_ok, Sem.run_pure]
/-- A whole block of bytes, as a slice. -/
theorem rd_whole {w : World} {g : Nat} {l : List UInt8} {t : TypeId} (hg : w.heap[g]? = some (.cells (cellsB l).toArray t (0, 0))) (hl : l.length = 256) : Rd w w.heap.size (.slice (some ⟨g, 0, none⟩) 256 256) (cellsB l) := by
  refine ⟨_, _, by rw [cellsB_length, hl], by rw [cellsB_length, hl]; omega, by unfold maxLen; omega, (fun h => by cases h), fun _ => ⟨g, 0, rfl, (Array.getElem?_eq_some_iff.1 hg).1, fun j u hu => ?_⟩⟩
  rw [Nat.zero_add, cell_of_row w g j _ _ (0, 0) hg]
  simpa using hu
set_option maxRecDepth 100000 in
set_option maxHeartbeats 1000000 in
theorem clives_any (w : World) : Calls Try.prog 10 #[] w fun e w' => e = .returned (.bool true) ∧ Below w.heap.size w w' := by
  obtain ⟨l, hl⟩ : ∃ l, l = List.replicate 256 (7 : UInt8) := ⟨_, rfl⟩
  have hl256 : l.length = 256 := by rw [hl]; exact List.length_replicate
  have hfull : ∀ w, Calls Try.prog 23 #[.int .u8 7] w fun e w' => ∃ g, e = .returned (.slice (some ⟨g, 0, none⟩) 256 256) ∧ w.heap.size ≤ g ∧ w'.heap[g]? = some (.cells (cellsB l).toArray 5 (0, 0)) ∧ Below w.heap.size w w' := fun w => by rw [hl]; exact cfull_any 7 w
  have hnew := new_ok (n := 16) w (fun k => w.heap.size ≤ k) ⟨by omega, by omega⟩ (fun k hk => hk)
  have hcn : ∀ w1 p bl bm S D, DevIs w1 (fun k => w.heap.size ≤ k) p bl bm S D (Dev.new 16) → Below w.heap.size w w1 → Calls Try.prog 9 #[at0 p, .int .i64 8] w1 fun e w' => ∃ c bf, e = .returned (.tuple #[at0 c, .int .i64 0]) ∧ CD w' (Made w.heap.size c bf) c bf p (Cch.new 8) (Dev.new 16) ∧ w.heap.size ≤ c ∧ w.heap.size ≤ bf ∧ Below w.heap.size w w' := fun w1 p bl bm S D hd hb => by
    refine (cnew_ok p (n := 8) w1 ⟨by omega, by omega⟩).mono ?_
    rintro e w' ⟨rfl, hc, hb1⟩
    have := hb.size
    exact ⟨_, _, rfl, CD.start hd hc hb1 (by omega) (by omega), by omega, by omega, hb.trans (hb1.mono (by omega))⟩
  have hput : ∀ w1 w2 c bf p g, CD w1 (Made w.heap.size c bf) c bf p (Cch.new 8) (Dev.new 16) → w.heap.size ≤ c → w.heap.size ≤ bf → Below w.heap.size w w1 → Below w1.heap.size w1 w2 → w1.heap.size ≤ g → w2.heap[g]? = some (.cells (cellsB l).toArray 5 (0, 0)) →
      Calls Try.prog 22 #[at0 c, .int .i64 3, .slice (some ⟨g, 0, none⟩) 256 256] w2 fun e w' => e = .returned (.int .i64 0) ∧ CD w' (Made w.heap.size c bf) c bf p (lvX l) (Dev.new 16) ∧ Below w.heap.size w w' := fun w1 w2 c bf p g h h1 h2 hb hb2 hg hh => by
    have hs := hb.size
    have hs2 := hb2.size
    have hfar := h.far hb2 hg
    have hlt := h.lt
    have hgl := (Array.getElem?_eq_some_iff.1 hh).1
    have := put_any hfar (new_within 8 _) (show (0 : Nat) < 999999 by omega) (fun k hk => ⟨h.fresh hs k (by omega), by omega⟩) 3 (cc := 256) hl256 (range_new hh) hgl (fun e => by
      rcases e with e | e | e
      · exact e.2 rfl
      · omega
      · omega)
    rw [lv_put] at this
    refine this.mono ?_
    rintro e w' ⟨rfl, h3, ho⟩
    refine ⟨rfl, h3.back h.nc.1 h.nc.2, ?_⟩
    have hlow := ho.back.low h1 h2 (by omega)
    exact (hb.trans (hb2.mono hs)).trans hlow
  have hget : ∀ w1 c bf p, CD w1 (Made w.heap.size c bf) c bf p (lvX l) (Dev.new 16) → w.heap.size ≤ c → w.heap.size ≤ bf → Below w.heap.size w w1 →
      Calls Try.prog 25 #[at0 c, .int .i64 3] w1 fun e w' => ∃ v, e = .returned (.tuple #[v, .int .i64 0]) ∧ Rd w' w'.heap.size v (cellsB l) ∧ CacheIs w' c bf p ((lvX l).use 0) ∧ Below w.heap.size w w' := fun w1 c bf p h h1 h2 hb => by
    have hs := hb.size
    have := get_any h (lv_within l) (show (0 : Nat) < 999999 by omega) (h.fresh hs) 3
    rw [lv_get] at this
    refine this.mono ?_
    rintro e w' ⟨v, rfl, g1, g2, g3, g4⟩
    exact ⟨v, rfl, g1, g3.cache, hb.trans (g4.low h1 h2 hs)⟩
  have hdirty : ∀ w1 c bf p, CacheIs w1 c bf p ((lvX l).use 0) → Calls Try.prog 17 #[at0 c] w1 fun e w' => ∃ A cc, e = .returned (.slice A 1 cc) ∧ 1 ≤ cc ∧ cc ≤ 9223372036854775807 ∧ Below w1.heap.size w1 w' := fun w1 c bf p h => by
    refine (Dirty_any h).mono ?_
    rintro e w' ⟨v, rfl, hown, hb⟩
    obtain ⟨A, cc, rfl, q1, q2, _⟩ := hown.ints
    rw [lv_dirty] at q1 ⊢
    exact ⟨A, cc, rfl, q1, q2, hb⟩
  have Hnew := Lib.hid hnew
  have Hcn := Lib.hid hcn
  have Hfull := Lib.hid hfull
  have Hput := Lib.hid hput
  have Hget := Lib.hid hget
  have Hdirty := Lib.hid hdirty
  have Hl := Kept.mk hl256
  clear hnew hcn hfull hput hget hdirty hl hl256
  go_enter Try.func10, Try.ntmps10
  go_wp2_with (first
    | (go_at_call 8; refine Hnew.out.mono ?_; rintro e w1 ⟨rfl, hd1, hb1⟩; have Hd1 := Lib.hid hd1; have Hb1 := Lib.hid hb1; clear hd1 hb1)
    | (go_at_call 9; refine (Hcn.out _ _ _ _ _ _ Hd1.out Hb1.out).mono ?_; rintro e w2 ⟨c, bf, rfl, hc2, l1, l2, hb2⟩; have Hc2 := Lib.hid hc2; have Hb2 := Lib.hid hb2; have L1 := Lib.hid l1; have L2 := Lib.hid l2; clear hc2 hb2 l1 l2)
    | (go_at_call 23; refine (Hfull.out _).mono ?_; rintro e w3 ⟨g, rfl, hg, hh, hb3⟩; have Hg := Lib.hid hg; have Hh := Lib.hid hh; have Hb3 := Lib.hid hb3; clear hg hh hb3)
    | (go_at_call 22; refine (Hput.out _ _ _ _ _ _ Hc2.out L1.out L2.out Hb2.out Hb3.out Hg.out Hh.out).mono ?_; rintro e w4 ⟨rfl, hc4, hb4⟩; have Hc4 := Lib.hid hc4; have Hb4 := Lib.hid hb4; clear hc4 hb4)
    | (go_at_call 25; refine (Hget.out _ _ _ _ Hc4.out L1.out L2.out Hb4.out).mono ?_; rintro e w5 ⟨v, rfl, hr5, hc5, hb5⟩; have Hr5 := Lib.hid hr5; have Hc5 := Lib.hid hc5; have Hb5 := Lib.hid hb5; clear hr5 hc5 hb5))
  have He0 := Lib.hid (string_of (P := Try.prog) 51 9 5 Try.underlying51 Try.underlying5 Try.underlying9 Hr5.out (up_drew (Below.refl _ _)))
  refine wp_region_held_drew (S := fun _ => True) (by kernel_rfl) trivial (fun hHeld => ?_)
  refine' wpAnyH_take (i := 0) (oi := ⟨some 31, .move (.tmp 5), _, _, _, none⟩) (v := _) rfl (by kernel_rfl) (by kernel_rfl) (by kernel_rfl) (fun _ _ _ h => h) (Or.inl ⟨by rfl, ?hy1⟩) (by assumption) ?rest1
  case hy1 => (intro w hSw; obtain _ := hSw; go_simp <;> with_reducible rfl)
  case rest1 =>
  go_frame
  refine' wpAnyH_take (i := 1) (oi := ⟨some 32, .binOp .eql 24 (.tmp 31) (.const (.int .i64 0)) 24, _, _, _, none⟩) (v := _) rfl (by kernel_rfl) (by kernel_rfl) (by kernel_rfl) (fun _ _ _ h => h) (Or.inl ⟨by rfl, ?hy2⟩) (by assumption) ?rest2
  case hy2 => (intro w hSw; obtain _ := hSw; go_simp <;> with_reducible rfl)
  case rest2 =>
  go_frame
  refine' wpAnyH_take (i := 2) (oi := ⟨some 33, .move (.tmp 32), _, _, _, none⟩) (v := _) rfl (by kernel_rfl) (by kernel_rfl) (by kernel_rfl) (fun _ _ _ h => h) (Or.inl ⟨by rfl, ?hy3⟩) (by assumption) ?rest3
  case hy3 => (intro w hSw; obtain _ := hSw; go_simp <;> with_reducible rfl)
  case rest3 =>
  go_frame
  refine' wpAnyH_take (i := 3) (oi := ⟨some 34, .move (.tmp 7), _, _, _, some (2, true)⟩) (v := _) rfl (by kernel_rfl) (by kernel_rfl) (by kernel_rfl) (fun _ _ _ h => h) (Or.inl ⟨by rfl, ?hy4⟩) (by assumption) ?rest4
  case hy4 => (intro w hSw; obtain _ := hSw; go_simp <;> with_reducible rfl)
  case rest4 =>
  go_frame
  refine' wpAnyH_take (i := 4) (oi := ⟨some 35, .binOp .eql 24 (.tmp 34) (.const (.int .i64 0)) 24, _, _, _, some (2, true)⟩) (v := _) rfl (by kernel_rfl) (by kernel_rfl) (by kernel_rfl) (fun _ _ _ h => h) (Or.inl ⟨by rfl, ?hy5⟩) (by assumption) ?rest5
  case hy5 => (intro w hSw; obtain _ := hSw; go_simp <;> with_reducible rfl)
  case rest5 =>
  go_frame
  refine' wpAnyH_take (i := 5) (oi := ⟨some 36, .pick (.tmp 33) (.tmp 35) (.const (.bool false)), _, _, _, none⟩) (v := _) rfl (by kernel_rfl) (by kernel_rfl) (by kernel_rfl) (fun _ _ _ h => h) (Or.inl ⟨by rfl, ?hy6⟩) (by assumption) ?rest6
  case hy6 => (intro w hSw; obtain _ := hSw; go_simp <;> with_reducible rfl)
  case rest6 =>
  go_frame
  refine' wpAnyH_take (i := 6) (oi := ⟨some 37, .move (.tmp 36), _, _, _, none⟩) (v := _) rfl (by kernel_rfl) (by kernel_rfl) (by kernel_rfl) (fun _ _ _ h => h) (Or.inl ⟨by rfl, ?hy7⟩) (by assumption) ?rest7
  case hy7 => (intro w hSw; obtain _ := hSw; go_simp <;> with_reducible rfl)
  case rest7 =>
  go_frame
  refine' wpAnyH_take (i := 7) (oi := ⟨some 38, .move (.tmp 6), _, _, _, some (6, true)⟩) (v := _) rfl (by kernel_rfl) (by kernel_rfl) (by kernel_rfl) (fun _ _ _ h => h) (Or.inl ⟨by rfl, ?hy8⟩) (by assumption) ?rest8
  case hy8 => (intro w hSw; obtain _ := hSw; go_simp <;> with_reducible rfl)
  case rest8 =>
  go_frame
  refine wpAnyH_ready (rs := [8, 9]) (by kernel_rfl) (by simp) (AllReadyH.cons (o := ⟨some 39, .convert 51 9 (.tmp 38), _, _, _, some (6, true)⟩) rfl (fun K hK => ?br9) (AllReadyH.cons (o := ⟨some 40, .call { callee := .value (.func 23), args := #[.const (.int .u8 7)], argTypes := #[5] }, _, _, _, some (6, true)⟩) rfl (fun K hK => ?br10) AllReadyH.nil))
  case' br9 =>
    rw [if_pos (by rfl)]
    refine wp_run (.string ⟨l.toArray⟩) w5.drew (exec_conv (s := 51) (t := 9) (x := .tmp 38) rfl (v := v) rfl He0.out) ?_
    refine hK.out _ _ trivial (fun _ => ?_)
    clear hK K
    try go_frame
    refine wpAnyH_ready (rs := [9]) (by kernel_rfl) (by simp) (AllReadyH.cons (o := ⟨some 40, .call { callee := .value (.func 23), args := #[.const (.int .u8 7)], argTypes := #[5] }, _, _, _, some (6, true)⟩) rfl (fun K hK => ?_) AllReadyH.nil)
    rw [if_pos (by rfl)]
    go_simp
    refine (Hfull.out _).mono ?_
    rintro e w6 ⟨g6, rfl, hg6, hh6, hb6'⟩
    have hb6 : Below w5.heap.size w5 w6 := (up_drew (Below.refl w5.heap.size w5)).trans hb6'
    have He1 := Lib.hid (string_of (P := Try.prog) 51 9 5 Try.underlying51 Try.underlying5 Try.underlying9 Hr5.out hb6)
    have Hs6 := Lib.hid (string_of (P := Try.prog) 51 9 5 Try.underlying51 Try.underlying5 Try.underlying9 (rd_whole hh6 Hl.out) (Below.refl _ _))
    have Hc6 := Lib.hid (Hc5.out.below hb6)
    have Hb6 := Lib.hid hb6
    clear hg6 hh6 hb6 hb6'
    dsimp only
    refine hK.out _ _ trivial (fun _ => ?_)
    clear hK K
    try go_frame
    refine wpAnyH_ready (rs := [10]) (by kernel_rfl) (by simp) (AllReadyH.cons (o := ⟨some 41, .convert 51 9 (.tmp 40), _, _, _, some (6, true)⟩) rfl (fun K hK => ?_) AllReadyH.nil)
    rw [if_pos (by rfl)]
    refine wp_run (.string ⟨l.toArray⟩) w6 (exec_conv (s := 51) (t := 9) (x := .tmp 40) rfl (v := .slice (some ⟨g6, 0, none⟩) 256 256) rfl Hs6.out) ?_
    refine hK.out _ _ trivial (fun _ => ?_)
    clear hK K
    try go_frame
    refine' wpAnyH_take (i := 11) (oi := ⟨some 42, .binOp .eql 9 (.tmp 39) (.tmp 41) 9, _, _, _, some (6, true)⟩) (v := _) rfl (by kernel_rfl) (by kernel_rfl) (by kernel_rfl) (fun _ _ _ h => h) (Or.inl ⟨by rfl, ?hy11⟩) (by assumption) ?rest11
    case hy11 => (intro w hSw; obtain _ := hSw; go_simp <;> with_reducible rfl)
    case rest11 =>
    go_frame
    refine' wpAnyH_take (i := 12) (oi := ⟨some 43, .pick (.tmp 37) (.tmp 42) (.const (.bool false)), _, _, _, none⟩) (v := _) rfl (by kernel_rfl) (by kernel_rfl) (by kernel_rfl) (fun _ _ _ h => h) (Or.inl ⟨by rfl, ?hy12⟩) (by assumption) ?rest12
    case hy12 => (intro w hSw; obtain _ := hSw; go_simp <;> with_reducible rfl)
    case rest12 =>
    go_frame
    refine' wpAnyH_take (i := 13) (oi := ⟨some 44, .move (.tmp 43), _, _, _, none⟩) (v := _) rfl (by kernel_rfl) (by kernel_rfl) (by kernel_rfl) (fun _ _ _ h => h) (Or.inl ⟨by rfl, ?hy13⟩) (by assumption) ?rest13
    case hy13 => (intro w hSw; obtain _ := hSw; go_simp <;> with_reducible rfl)
    case rest13 =>
    go_frame
    refine' wpAnyH_take (i := 14) (oi := ⟨some 45, .move (.tmp 3), _, _, _, some (13, true)⟩) (v := _) rfl (by kernel_rfl) (by kernel_rfl) (by kernel_rfl) (fun _ _ _ h => h) (Or.inl ⟨by rfl, ?hy14⟩) (by assumption) ?rest14
    case hy14 => (intro w hSw; obtain _ := hSw; go_simp <;> with_reducible rfl)
    case rest14 =>
    go_frame
    refine wpAnyH_ready (rs := [15]) (by kernel_rfl) (by simp) (AllReadyH.cons (o := ⟨some 46, .call { callee := .value (.func 17), args := #[.tmp 45], argTypes := #[27] }, _, _, _, some (13, true)⟩) rfl (fun K hK => ?_) AllReadyH.nil)
    rw [if_pos (by rfl)]
    go_simp
    refine (Hdirty.out _ _ _ _ Hc6.out).mono ?_
    rintro e w7 ⟨A7, cc7, rfl, q1, q2, hb7⟩
    have Hb7 := Lib.hid hb7
    clear hb7
    dsimp only
    refine hK.out _ _ trivial (fun _ => ?_)
    clear hK K
    try go_frame
    refine' wpAnyH_take (i := 16) (oi := ⟨some 47, .call { callee := .builtin .len, args := #[.tmp 46], argTypes := #[39] }, _, _, _, some (13, true)⟩) (v := _) rfl (by kernel_rfl) (by kernel_rfl) (by kernel_rfl) (fun _ _ _ h => h) (Or.inl ⟨by rfl, ?hy15⟩) (by assumption) ?rest15
    case hy15 => (intro w hSw; obtain _ := hSw; go_simp <;> with_reducible rfl)
    case rest15 =>
    go_frame
    refine' wpAnyH_take (i := 17) (oi := ⟨some 48, .binOp .eql 3 (.tmp 47) (.const (.int .i64 1)) 3, _, _, _, some (13, true)⟩) (v := _) rfl (by kernel_rfl) (by kernel_rfl) (by kernel_rfl) (fun _ _ _ h => h) (Or.inl ⟨by rfl, ?hy16⟩) (by assumption) ?rest16
    case hy16 => (intro w hSw; obtain _ := hSw; go_simp <;> with_reducible rfl)
    case rest16 =>
    go_frame
    refine' wpAnyH_take (i := 18) (oi := ⟨some 49, .pick (.tmp 44) (.tmp 48) (.const (.bool false)), _, _, _, none⟩) (v := _) rfl (by kernel_rfl) (by kernel_rfl) (by kernel_rfl) (fun _ _ _ h => h) (Or.inl ⟨by rfl, ?hy17⟩) (by assumption) ?rest17
    case hy17 => (intro w hSw; obtain _ := hSw; go_simp <;> with_reducible rfl)
    case rest17 =>
    go_frame
    refine' wpAnyH_take (i := 19) (oi := ⟨some 0, .assign (.tmp 49), _, _, _, none⟩) (v := _) rfl (by kernel_rfl) (by kernel_rfl) (by kernel_rfl) (fun _ _ _ h => h) (Or.inl ⟨by rfl, ?hy18⟩) (by assumption) ?rest18
    case hy18 => (intro w hSw; obtain _ := hSw; go_simp <;> with_reducible rfl)
    case rest18 =>
    go_frame
    refine wpAnyH_done (by kernel_rfl) ?_ _
    go_wp2_with fail
    go_ret
    exact ⟨rfl, (Hb5.out.trans (Hb6.out.mono Hb5.out.size)).trans (Hb7.out.mono (Nat.le_trans Hb5.out.size Hb6.out.size))⟩
  case' br10 =>
    rw [if_pos (by rfl)]
    go_simp
    refine (Hfull.out _).mono ?_
    rintro e w6 ⟨g6, rfl, hg6, hh6, hb6'⟩
    have hb6 : Below w5.heap.size w5 w6 := (up_drew (Below.refl w5.heap.size w5)).trans hb6'
    have He1 := Lib.hid (string_of (P := Try.prog) 51 9 5 Try.underlying51 Try.underlying5 Try.underlying9 Hr5.out hb6)
    have Hs6 := Lib.hid (string_of (P := Try.prog) 51 9 5 Try.underlying51 Try.underlying5 Try.underlying9 (rd_whole hh6 Hl.out) (Below.refl _ _))
    have Hc6 := Lib.hid (Hc5.out.below hb6)
    have Hb6 := Lib.hid hb6
    clear hg6 hh6 hb6 hb6'
    dsimp only
    refine hK.out _ _ trivial (fun _ => ?_)
    clear hK K
    try go_frame
    refine wpAnyH_ready (rs := [8, 10]) (by kernel_rfl) (by simp) (AllReadyH.cons (o := ⟨some 39, .convert 51 9 (.tmp 38), _, _, _, some (6, true)⟩) rfl (fun K hK => ?br19) (AllReadyH.cons (o := ⟨some 41, .convert 51 9 (.tmp 40), _, _, _, some (6, true)⟩) rfl (fun K hK => ?br20) AllReadyH.nil))
    case' br19 =>
      rw [if_pos (by rfl)]
      refine wp_run (.string ⟨l.toArray⟩) w6 (exec_conv (s := 51) (t := 9) (x := .tmp 38) rfl (v := v) rfl He1.out) ?_
      refine hK.out _ _ trivial (fun _ => ?_)
      clear hK K
      try go_frame
      refine wpAnyH_ready (rs := [10]) (by kernel_rfl) (by simp) (AllReadyH.cons (o := ⟨some 41, .convert 51 9 (.tmp 40), _, _, _, some (6, true)⟩) rfl (fun K hK => ?_) AllReadyH.nil)
      rw [if_pos (by rfl)]
      refine wp_run (.string ⟨l.toArray⟩) w6 (exec_conv (s := 51) (t := 9) (x := .tmp 40) rfl (v := .slice (some ⟨g6, 0, none⟩) 256 256) rfl Hs6.out) ?_
      refine hK.out _ _ trivial (fun _ => ?_)
      clear hK K
      try go_frame
      refine' wpAnyH_take (i := 11) (oi := ⟨some 42, .binOp .eql 9 (.tmp 39) (.tmp 41) 9, _, _, _, some (6, true)⟩) (v := _) rfl (by kernel_rfl) (by kernel_rfl) (by kernel_rfl) (fun _ _ _ h => h) (Or.inl ⟨by rfl, ?hy21⟩) (by assumption) ?rest21
      case hy21 => (intro w hSw; obtain _ := hSw; go_simp <;> with_reducible rfl)
      case rest21 =>
      go_frame
      refine' wpAnyH_take (i := 12) (oi := ⟨some 43, .pick (.tmp 37) (.tmp 42) (.const (.bool false)), _, _, _, none⟩) (v := _) rfl (by kernel_rfl) (by kernel_rfl) (by kernel_rfl) (fun _ _ _ h => h) (Or.inl ⟨by rfl, ?hy22⟩) (by assumption) ?rest22
      case hy22 => (intro w hSw; obtain _ := hSw; go_simp <;> with_reducible rfl)
      case rest22 =>
      go_frame
      refine' wpAnyH_take (i := 13) (oi := ⟨some 44, .move (.tmp 43), _, _, _, none⟩) (v := _) rfl (by kernel_rfl) (by kernel_rfl) (by kernel_rfl) (fun _ _ _ h => h) (Or.inl ⟨by rfl, ?hy23⟩) (by assumption) ?rest23
      case hy23 => (intro w hSw; obtain _ := hSw; go_simp <;> with_reducible rfl)
      case rest23 =>
      go_frame
      refine' wpAnyH_take (i := 14) (oi := ⟨some 45, .move (.tmp 3), _, _, _, some (13, true)⟩) (v := _) rfl (by kernel_rfl) (by kernel_rfl) (by kernel_rfl) (fun _ _ _ h => h) (Or.inl ⟨by rfl, ?hy24⟩) (by assumption) ?rest24
      case hy24 => (intro w hSw; obtain _ := hSw; go_simp <;> with_reducible rfl)
      case rest24 =>
      go_frame
      refine wpAnyH_ready (rs := [15]) (by kernel_rfl) (by simp) (AllReadyH.cons (o := ⟨some 46, .call { callee := .value (.func 17), args := #[.tmp 45], argTypes := #[27] }, _, _, _, some (13, true)⟩) rfl (fun K hK => ?_) AllReadyH.nil)
      rw [if_pos (by rfl)]
      go_simp
      refine (Hdirty.out _ _ _ _ Hc6.out).mono ?_
      rintro e w7 ⟨A7, cc7, rfl, q1, q2, hb7⟩
      have Hb7 := Lib.hid hb7
      clear hb7
      dsimp only
      refine hK.out _ _ trivial (fun _ => ?_)
      clear hK K
      try go_frame
      refine' wpAnyH_take (i := 16) (oi := ⟨some 47, .call { callee := .builtin .len, args := #[.tmp 46], argTypes := #[39] }, _, _, _, some (13, true)⟩) (v := _) rfl (by kernel_rfl) (by kernel_rfl) (by kernel_rfl) (fun _ _ _ h => h) (Or.inl ⟨by rfl, ?hy25⟩) (by assumption) ?rest25
      case hy25 => (intro w hSw; obtain _ := hSw; go_simp <;> with_reducible rfl)
      case rest25 =>
      go_frame
      refine' wpAnyH_take (i := 17) (oi := ⟨some 48, .binOp .eql 3 (.tmp 47) (.const (.int .i64 1)) 3, _, _, _, some (13, true)⟩) (v := _) rfl (by kernel_rfl) (by kernel_rfl) (by kernel_rfl) (fun _ _ _ h => h) (Or.inl ⟨by rfl, ?hy26⟩) (by assumption) ?rest26
      case hy26 => (intro w hSw; obtain _ := hSw; go_simp <;> with_reducible rfl)
      case rest26 =>
      go_frame
      refine' wpAnyH_take (i := 18) (oi := ⟨some 49, .pick (.tmp 44) (.tmp 48) (.const (.bool false)), _, _, _, none⟩) (v := _) rfl (by kernel_rfl) (by kernel_rfl) (by kernel_rfl) (fun _ _ _ h => h) (Or.inl ⟨by rfl, ?hy27⟩) (by assumption) ?rest27
      case hy27 => (intro w hSw; obtain _ := hSw; go_simp <;> with_reducible rfl)
      case rest27 =>
      go_frame
      refine' wpAnyH_take (i := 19) (oi := ⟨some 0, .assign (.tmp 49), _, _, _, none⟩) (v := _) rfl (by kernel_rfl) (by kernel_rfl) (by kernel_rfl) (fun _ _ _ h => h) (Or.inl ⟨by rfl, ?hy28⟩) (by assumption) ?rest28
      case hy28 => (intro w hSw; obtain _ := hSw; go_simp <;> with_reducible rfl)
      case rest28 =>
      go_frame
      refine wpAnyH_done (by kernel_rfl) ?_ _
      go_wp2_with fail
      go_ret
      exact ⟨rfl, (Hb5.out.trans (Hb6.out.mono Hb5.out.size)).trans (Hb7.out.mono (Nat.le_trans Hb5.out.size Hb6.out.size))⟩
    case' br20 =>
      rw [if_pos (by rfl)]
      refine wp_run (.string ⟨l.toArray⟩) w6 (exec_conv (s := 51) (t := 9) (x := .tmp 40) rfl (v := .slice (some ⟨g6, 0, none⟩) 256 256) rfl Hs6.out) ?_
      refine hK.out _ _ trivial (fun _ => ?_)
      clear hK K
      try go_frame
      refine wpAnyH_ready (rs := [8]) (by kernel_rfl) (by simp) (AllReadyH.cons (o := ⟨some 39, .convert 51 9 (.tmp 38), _, _, _, some (6, true)⟩) rfl (fun K hK => ?_) AllReadyH.nil)
      rw [if_pos (by rfl)]
      refine wp_run (.string ⟨l.toArray⟩) w6 (exec_conv (s := 51) (t := 9) (x := .tmp 38) rfl (v := v) rfl He1.out) ?_
      refine hK.out _ _ trivial (fun _ => ?_)
      clear hK K
      try go_frame
      refine' wpAnyH_take (i := 11) (oi := ⟨some 42, .binOp .eql 9 (.tmp 39) (.tmp 41) 9, _, _, _, some (6, true)⟩) (v := _) rfl (by kernel_rfl) (by kernel_rfl) (by kernel_rfl) (fun _ _ _ h => h) (Or.inl ⟨by rfl, ?hy29⟩) (by assumption) ?rest29
      case hy29 => (intro w hSw; obtain _ := hSw; go_simp <;> with_reducible rfl)
      case rest29 =>
      go_frame
      refine' wpAnyH_take (i := 12) (oi := ⟨some 43, .pick (.tmp 37) (.tmp 42) (.const (.bool false)), _, _, _, none⟩) (v := _) rfl (by kernel_rfl) (by kernel_rfl) (by kernel_rfl) (fun _ _ _ h => h) (Or.inl ⟨by rfl, ?hy30⟩) (by assumption) ?rest30
      case hy30 => (intro w hSw; obtain _ := hSw; go_simp <;> with_reducible rfl)
      case rest30 =>
      go_frame
      refine' wpAnyH_take (i := 13) (oi := ⟨some 44, .move (.tmp 43), _, _, _, none⟩) (v := _) rfl (by kernel_rfl) (by kernel_rfl) (by kernel_rfl) (fun _ _ _ h => h) (Or.inl ⟨by rfl, ?hy31⟩) (by assumption) ?rest31
      case hy31 => (intro w hSw; obtain _ := hSw; go_simp <;> with_reducible rfl)
      case rest31 =>
      go_frame
      refine' wpAnyH_take (i := 14) (oi := ⟨some 45, .move (.tmp 3), _, _, _, some (13, true)⟩) (v := _) rfl (by kernel_rfl) (by kernel_rfl) (by kernel_rfl) (fun _ _ _ h => h) (Or.inl ⟨by rfl, ?hy32⟩) (by assumption) ?rest32
      case hy32 => (intro w hSw; obtain _ := hSw; go_simp <;> with_reducible rfl)
      case rest32 =>
      go_frame
      refine wpAnyH_ready (rs := [15]) (by kernel_rfl) (by simp) (AllReadyH.cons (o := ⟨some 46, .call { callee := .value (.func 17), args := #[.tmp 45], argTypes := #[27] }, _, _, _, some (13, true)⟩) rfl (fun K hK => ?_) AllReadyH.nil)
      rw [if_pos (by rfl)]
      go_simp
      refine (Hdirty.out _ _ _ _ Hc6.out).mono ?_
      rintro e w7 ⟨A7, cc7, rfl, q1, q2, hb7⟩
      have Hb7 := Lib.hid hb7
      clear hb7
      dsimp only
      refine hK.out _ _ trivial (fun _ => ?_)
      clear hK K
      try go_frame
      refine' wpAnyH_take (i := 16) (oi := ⟨some 47, .call { callee := .builtin .len, args := #[.tmp 46], argTypes := #[39] }, _, _, _, some (13, true)⟩) (v := _) rfl (by kernel_rfl) (by kernel_rfl) (by kernel_rfl) (fun _ _ _ h => h) (Or.inl ⟨by rfl, ?hy33⟩) (by assumption) ?rest33
      case hy33 => (intro w hSw; obtain _ := hSw; go_simp <;> with_reducible rfl)
      case rest33 =>
      go_frame
      refine' wpAnyH_take (i := 17) (oi := ⟨some 48, .binOp .eql 3 (.tmp 47) (.const (.int .i64 1)) 3, _, _, _, some (13, true)⟩) (v := _) rfl (by kernel_rfl) (by kernel_rfl) (by kernel_rfl) (fun _ _ _ h => h) (Or.inl ⟨by rfl, ?hy34⟩) (by assumption) ?rest34
      case hy34 => (intro w hSw; obtain _ := hSw; go_simp <;> with_reducible rfl)
      case rest34 =>
      go_frame
      refine' wpAnyH_take (i := 18) (oi := ⟨some 49, .pick (.tmp 44) (.tmp 48) (.const (.bool false)), _, _, _, none⟩) (v := _) rfl (by kernel_rfl) (by kernel_rfl) (by kernel_rfl) (fun _ _ _ h => h) (Or.inl ⟨by rfl, ?hy35⟩) (by assumption) ?rest35
      case hy35 => (intro w hSw; obtain _ := hSw; go_simp <;> with_reducible rfl)
      case rest35 =>
      go_frame
      refine' wpAnyH_take (i := 19) (oi := ⟨some 0, .assign (.tmp 49), _, _, _, none⟩) (v := _) rfl (by kernel_rfl) (by kernel_rfl) (by kernel_rfl) (fun _ _ _ h => h) (Or.inl ⟨by rfl, ?hy36⟩) (by assumption) ?rest36
      case hy36 => (intro w hSw; obtain _ := hSw; go_simp <;> with_reducible rfl)
      case rest36 =>
      go_frame
      refine wpAnyH_done (by kernel_rfl) ?_ _
      go_wp2_with fail
      go_ret
      exact ⟨rfl, (Hb5.out.trans (Hb6.out.mono Hb5.out.size)).trans (Hb7.out.mono (Nat.le_trans Hb5.out.size Hb6.out.size))⟩
end Go.Proofs.Ytfjcblppmoomdaa
