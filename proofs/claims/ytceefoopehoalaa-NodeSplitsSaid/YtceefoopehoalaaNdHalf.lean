/-
  The document's own Half of layer 7.
-/
import Derived.Test.YtceefoopehoalaaNdRefF
import Derived.Test.YtceefoopehoalaaNdE
namespace Go.Proofs.Ytceefoopehoalaa
open Go.RowKit
set_option maxRecDepth 100000 in
set_option maxHeartbeats 1600000 in
theorem rhalf_any {n : Nd} {K V D : Value} {w : World} (hr : NdIs w w.heap.size K V D n) (hs : n.Snd) (hn : n.keys.length ≤ 100000) (most : Int) (hmost : most = (n.keys.length : Int) - (if n.leaf then 1 else 2)) :
    Calls Try.prog 24 #[ndVal n.leaf K V D] w fun e w' => ∃ h : Nat, e = .returned (.int .i64 (h : Int)) ∧ (1 ≤ most → n.Half most.toNat h) ∧ (most < 1 → h = 0) ∧ Below w.heap.size w w' := by
  have hcall : ∀ (W : World), Below w.heap.size w W → ∀ i : Nat, i < n.keys.length → Calls Try.prog 44 #[ndVal n.leaf K V D, .int .i64 (i : Int)] W fun e w' => ∃ A c, e = .returned (.slice A (n.cell i) c) ∧ Below W.heap.size W w' := by
    intro W hb i hi
    refine (rcell_any (hr.below hb) hb.size hs i hi (by omega)).mono ?_
    rintro e w' ⟨v, rfl, hm, hb2⟩
    obtain ⟨A, c, rfl⟩ := hm.form
    rw [cellsB_length, Nd.cellParts_len]
    exact ⟨A, c, rfl, hb2⟩
  have hle := fun k (hk : k ≤ n.keys.length) => n.cells_le hs k hk
  have hlv : n.leaf = false → 1 ≤ n.keys.length := fun h => (hs.ofNot h).2.1
  obtain ⟨A1, c1, A2, c2, A3, c3, rfl, rfl, rfl⟩ := hr.form
  obtain ⟨lf, hlf⟩ : ∃ lf, lf = n.leaf := ⟨_, rfl⟩
  obtain ⟨a, ha⟩ : ∃ a, a = n.keys.length := ⟨_, rfl⟩
  obtain ⟨vl, hvl⟩ : ∃ a, a = n.vals.length := ⟨_, rfl⟩
  obtain ⟨dl, hdl⟩ : ∃ a, a = n.kids.length := ⟨_, rfl⟩
  rw [← ha] at hn hcall hle hmost ⊢
  rw [← hvl, ← hdl] at hcall ⊢
  rw [← hlf] at hcall hmost ⊢
  have hbx := NdBox.made w lf (.slice A1 a c1) (.slice A2 vl c2) (.slice A3 dl c3)
  have hb0 : Below w.heap.size w (w.alloc (.cells #[.bool lf, .slice A1 a c1, .slice A2 vl c2, .slice A3 dl c3] 27)) := (Below.refl _ _).alloc (Nat.le_refl _) _
  obtain ⟨W1, hW1⟩ : ∃ X, X = w.alloc (.cells #[.bool lf, .slice A1 a c1, .slice A2 vl c2, .slice A3 dl c3] 27) := ⟨_, rfl⟩
  rw [← hW1] at hbx hb0
  have HW1 := Lib.hid hW1
  have HX := Lib.hid hbx
  have HB := Lib.hid hb0
  have HC := Lib.hid hcall
  have HL := Lib.hid hle
  have HM := Lib.hid hmost
  have Ha := Lib.hid ha
  have S0 := And.intro hbx.c0 hbx.c1
  clear hlv hr hs hcall hle hlf ha hvl hdl hbx hb0 hW1 hmost
  go_enter Try.func24, Try.ntmps24
  go_wp2_with fail
  rw [← HW1.out]
  clear HW1
  refine wp_region_held_drew (S := fun w' => w'.cell? ⟨w.heap.size, 0, none⟩ = some (.bool lf) ∧ w'.cell? ⟨w.heap.size, 1, none⟩ = some (.slice A1 a c1)) (by kernel_rfl) S0 (fun hHeld => ?_)
  refine' wpAnyH_take (i := 0) (oi := ⟨some 8, .fieldAddr 27 (.tmp 1) 1, _, _, _, none⟩) (v := _) rfl (by kernel_rfl) (by kernel_rfl) (by kernel_rfl) (fun _ _ _ h => h) (Or.inl ⟨by rfl, ?hy1⟩) (by assumption) ?rest1
  case hy1 => (intro w hSw; obtain ⟨s0, s1⟩ := hSw; go_simp <;> with_reducible rfl)
  case rest1 =>
  go_frame
  refine' wpAnyH_take (i := 1) (oi := ⟨some 9, .load 24 (.tmp 8), _, _, _, none⟩) (v := _) rfl (by kernel_rfl) (by kernel_rfl) (by kernel_rfl) (fun _ _ _ h => h) (Or.inl ⟨by rfl, ?hy2⟩) (by assumption) ?rest2
  case hy2 => (intro w hSw; obtain ⟨s0, s1⟩ := hSw; go_simp <;> with_reducible rfl)
  case rest2 =>
  go_frame
  refine' wpAnyH_take (i := 2) (oi := ⟨some 10, .call { callee := .builtin .len, args := #[.tmp 9], argTypes := #[24] }, _, _, _, none⟩) (v := _) rfl (by kernel_rfl) (by kernel_rfl) (by kernel_rfl) (fun _ _ _ h => h) (Or.inl ⟨by rfl, ?hy3⟩) (by assumption) ?rest3
  case hy3 => (intro w hSw; obtain ⟨s0, s1⟩ := hSw; go_simp <;> with_reducible rfl)
  case rest3 =>
  go_frame
  refine' wpAnyH_take (i := 3) (oi := ⟨some 11, .binOp .sub 3 (.tmp 10) (.const (.int .i64 1)) 3, _, _, _, none⟩) (v := _) rfl (by kernel_rfl) (by kernel_rfl) (by kernel_rfl) (fun _ _ _ h => h) (Or.inl ⟨by rfl, ?hy4⟩) (by assumption) ?rest4
  case hy4 => (intro w hSw; obtain ⟨s0, s1⟩ := hSw; go_simp <;> with_reducible rfl)
  case rest4 =>
  go_frame
  refine' wpAnyH_take (i := 4) (oi := ⟨some 3, .assign (.const (.int .i64 0)), _, _, _, none⟩) (v := _) rfl (by kernel_rfl) (by kernel_rfl) (by kernel_rfl) (fun _ _ _ h => h) (Or.inl ⟨by rfl, ?hy5⟩) (by assumption) ?rest5
  case hy5 => (intro w hSw; obtain ⟨s0, s1⟩ := hSw; go_simp <;> with_reducible rfl)
  case rest5 =>
  go_frame
  refine' wpAnyH_take (i := 5) (oi := ⟨some 4, .assign (.const (.int .i64 0)), _, _, _, none⟩) (v := _) rfl (by kernel_rfl) (by kernel_rfl) (by kernel_rfl) (fun _ _ _ h => h) (Or.inl ⟨by rfl, ?hy6⟩) (by assumption) ?rest6
  case hy6 => (intro w hSw; obtain ⟨s0, s1⟩ := hSw; go_simp <;> with_reducible rfl)
  case rest6 =>
  go_frame
  refine' wpAnyH_take (i := 6) (oi := ⟨some 5, .assign (.tmp 11), _, _, _, none⟩) (v := _) rfl (by kernel_rfl) (by kernel_rfl) (by kernel_rfl) (fun _ _ _ h => h) (Or.inl ⟨by rfl, ?hy7⟩) (by assumption) ?rest7
  case hy7 => (intro w hSw; obtain ⟨s0, s1⟩ := hSw; go_simp <;> with_reducible rfl)
  case rest7 =>
  go_frame
  refine wpAnyH_done (by kernel_rfl) ?_ _
  obtain ⟨W2, hW2⟩ : ∃ X, X = W1.drew := ⟨_, rfl⟩
  have HX2 : Hid (NdBox W2 w.heap.size lf (.slice A1 a c1) (.slice A2 vl c2) (.slice A3 dl c3)) := Lib.hid (by rw [hW2]; exact HX.out.later HX.out.lt (Below.refl _ _).drew)
  have HB2 : Hid (Below w.heap.size w W2) := Lib.hid (by rw [hW2]; exact HB.out.drew)
  rw [← hW2]
  clear hW2 S0 hHeld HX HB
  obtain ⟨x0, x1, x2, x3⟩ := HX2.out
  have e1 : IntKind.i64.wrap ((a : Int) - 1) = (a : Int) - 1 := IntWalk.i64_in _ (by omega)
  have e2 : IntKind.i64.wrap ((a : Int) - 2) = (a : Int) - 2 := IntWalk.i64_in _ (by omega)
  rw [e1]
  cases lf
  · have hm : most = (a : Int) - 2 := by have := HM.out; simpa using this
    clear HM
    have Hm := Lib.hid hm
    clear hm
    go_wp2_with fail
    go_loopw [3, 6] (fun sv iv wr => ∃ k : Nat, k ≤ a ∧ iv = .int .i64 (k : Int) ∧ sv = .int .i64 (n.cells k : Nat) ∧ Hid (NdBox wr w.heap.size false (.slice A1 a c1) (.slice A2 vl c2) (.slice A3 dl c3) ∧ Below w.heap.size w wr)) (fun _ iv _ => a - (intOf iv).toNat)
    case atStart => exact ⟨0, Nat.zero_le _, rfl, rfl, Lib.hid ⟨HX2.out, HB2.out⟩⟩
    case round =>
      clear x0 x1 x2 x3
      obtain ⟨k, hk, rfl, rfl, HI⟩ := hrel
      obtain ⟨x0, x1, x2, x3⟩ := HI.out.1
      by_cases hlt : k < a
      · have hcc := HC.out wr HI.out.2 k hlt
        have hl1 := HL.out (k + 1) (by omega)
        have e3 : n.cells (k + 1) = n.cells k + n.cell k := rfl
        rw [e3] at hl1
        obtain ⟨x, hx⟩ : ∃ x, x = n.cell k := ⟨_, rfl⟩
        obtain ⟨p, hp⟩ : ∃ p, p = n.cells k := ⟨_, rfl⟩
        rw [← hx] at hl1 hcc
        rw [← hp] at hl1 ⊢
        have hx2 : p + x ≤ 50000000 := by omega
        have Hx := Lib.hid hx
        have Hp := Lib.hid hp
        clear hx hp e3 hl1
        go_wp2_with fail
        refine hcc.mono ?_
        rintro e w' ⟨A5, c5, rfl, hb⟩
        clear hcc
        go_wp2_with fail
        go_roundw
        case rel => exact ⟨k + 1, by omega, by go_num, by show _ = Value.int .i64 ((n.cells k + n.cell k : Nat) : Int); rw [← Hp.out, ← Hx.out]; go_num, Lib.hid ⟨HI.out.1.later HI.out.1.lt hb, up HI.out.2 hb⟩⟩
        case measure => simp [intOf]; omega
      · have hka : k = a := by omega
        subst hka
        obtain ⟨q, hq⟩ : ∃ q, q = n.cells k := ⟨_, rfl⟩
        have hq1 := HL.out k (Nat.le_refl _)
        rw [← hq] at hq1 ⊢
        have hq2 : q ≤ 50000000 := by omega
        have Hq := Lib.hid hq
        clear hq hq1 hlt
        go_wp2_with fail
        go_loopw [4, 7] (fun sv iv wr => ∃ j : Nat, j ≤ k ∧ iv = .int .i64 ((j : Int) + 1) ∧ sv = .int .i64 (n.cells j : Nat) ∧ Hid ((j = 0 ∨ (j : Int) < (k : Int) - 2) ∧ (∀ g, 1 ≤ g → g ≤ j → 2 * n.cells g < q) ∧ NdBox wr w.heap.size false (.slice A1 k c1) (.slice A2 vl c2) (.slice A3 dl c3) ∧ Below w.heap.size w wr)) (fun _ iv _ => k + 2 - (intOf iv).toNat)
        case atStart => exact ⟨0, Nat.zero_le _, rfl, rfl, Lib.hid ⟨Or.inl rfl, fun g h1 h2 => by omega, HI.out.1, HI.out.2⟩⟩
        case round =>
          clear x0 x1 x2 x3 HI
          obtain ⟨j, hj, rfl, rfl, HJ⟩ := hrel
          obtain ⟨x0, x1, x2, x3⟩ := HJ.out.2.2.1
          obtain ⟨p, hp⟩ : ∃ p, p = n.cells j := ⟨_, rfl⟩
          have hp1 := HL.out j hj
          rw [← hp] at hp1 ⊢
          have hp2 : p ≤ 50000000 := by omega
          have Hp := Lib.hid hp
          clear hp hp1
          have w3 : IntKind.i64.wrap ((j : Int) + 1 - 1) = (j : Int) := by rw [Int.add_sub_cancel]; exact IntWalk.i64_in _ (by omega)
          by_cases hlt : (j : Int) + 1 ≤ (k : Int) - 2
          · have hcc := HC.out wr HJ.out.2.2.2 j (by omega)
            have hl1 := HL.out (j + 1) (by omega)
            have e3 : n.cells (j + 1) = n.cells j + n.cell j := rfl
            rw [e3, ← Hp.out] at hl1
            obtain ⟨x, hx⟩ : ∃ x, x = n.cell j := ⟨_, rfl⟩
            rw [← hx] at hl1 hcc
            have hx2 : p + x ≤ 50000000 := by omega
            have Hx := Lib.hid hx
            have HE : Hid (n.cells (j + 1) = p + x) := Lib.hid (by rw [Hp.out, Hx.out]; rfl)
            have Hlt := Lib.hid hlt
            clear hx e3 hl1
            go_wp2_with fail
            refine hcc.mono ?_
            rintro e w' ⟨A5, c5, rfl, hb⟩
            clear hcc
            have HB' := Lib.hid (up HJ.out.2.2.2 hb)
            have HX' := Lib.hid (HJ.out.2.2.1.later HJ.out.2.2.1.lt hb)
            have hlast : (j : Int) + 1 ≤ (k : Int) - 2 → ((j : Int) + 1 < (k : Int) - 2 → q ≤ 2 * (p + x)) → n.Half most.toNat (j + 1) := fun g1 g2 => ⟨by omega, by have := Hm.out; omega, fun h => by rw [HE.out, ← Ha.out, ← Hq.out]; exact g2 (by have := Hm.out; omega), fun g h1 h2 => by rw [← Ha.out, ← Hq.out]; exact HJ.out.2.1 g h1 (by omega)⟩
            have HLast := Lib.hid hlast
            clear hb hlast
            by_cases h2 : q ≤ 2 * (p + x)
            · have H2 := Lib.hid h2
              go_wp2_with fail
              go_ret
              exact ⟨j + 1, by simp, fun _ => HLast.out Hlt.out fun _ => H2.out, fun h => by have := Hm.out; have := Hlt.out; omega, HB'.out⟩
            · have H2 := Lib.hid h2
              by_cases h3 : (j : Int) + 1 = (k : Int) - 2
              · have H3 := Lib.hid h3
                have h3b : (((j : Int) + 1) == (k : Int) - 2) = true := by rw [beq_iff_eq]; exact h3
                clear h3
                go_wp2_with fail
                go_ret
                exact ⟨j + 1, by simp, fun _ => HLast.out Hlt.out fun h => by have := H3.out; omega, fun h => by have := Hm.out; have := Hlt.out; omega, HB'.out⟩
              · have H3 := Lib.hid h3
                have h3b : (((j : Int) + 1) == (k : Int) - 2) = false := by rw [beq_eq_false_iff_ne]; exact h3
                clear h3
                go_wp2_with fail
                go_roundw
                case rel => exact ⟨j + 1, by have := Hlt.out; omega, by go_num, by show _ = Value.int .i64 (((n.cells (j + 1) : Nat)) : Int); rw [HE.out]; go_num, Lib.hid ⟨Or.inr (by have := Hlt.out; have := H3.out; omega), fun g h1 h4 => by
                  by_cases e : g = j + 1
                  · subst e; rw [HE.out]; have := H2.out; omega
                  · exact HJ.out.2.1 g h1 (by omega), HX'.out, HB'.out⟩⟩
                case measure => simp [intOf]; have := Hlt.out; omega
          · go_wp2_with fail
            go_ret
            have hj0 : j = 0 := by rcases HJ.out.1 with e | e <;> omega
            exact ⟨0, rfl, fun h => by have := Hm.out; omega, fun _ => rfl, HJ.out.2.2.2⟩
  · have hm : most = (a : Int) - 1 := by have := HM.out; simpa using this
    clear HM
    have Hm := Lib.hid hm
    clear hm
    go_wp2_with fail
    go_loopw [3, 6] (fun sv iv wr => ∃ k : Nat, k ≤ a ∧ iv = .int .i64 (k : Int) ∧ sv = .int .i64 (n.cells k : Nat) ∧ Hid (NdBox wr w.heap.size true (.slice A1 a c1) (.slice A2 vl c2) (.slice A3 dl c3) ∧ Below w.heap.size w wr)) (fun _ iv _ => a - (intOf iv).toNat)
    case atStart => exact ⟨0, Nat.zero_le _, rfl, rfl, Lib.hid ⟨HX2.out, HB2.out⟩⟩
    case round =>
      clear x0 x1 x2 x3
      obtain ⟨k, hk, rfl, rfl, HI⟩ := hrel
      obtain ⟨x0, x1, x2, x3⟩ := HI.out.1
      by_cases hlt : k < a
      · have hcc := HC.out wr HI.out.2 k hlt
        have hl1 := HL.out (k + 1) (by omega)
        have e3 : n.cells (k + 1) = n.cells k + n.cell k := rfl
        rw [e3] at hl1
        obtain ⟨x, hx⟩ : ∃ x, x = n.cell k := ⟨_, rfl⟩
        obtain ⟨p, hp⟩ : ∃ p, p = n.cells k := ⟨_, rfl⟩
        rw [← hx] at hl1 hcc
        rw [← hp] at hl1 ⊢
        have hx2 : p + x ≤ 50000000 := by omega
        have Hx := Lib.hid hx
        have Hp := Lib.hid hp
        clear hx hp e3 hl1
        go_wp2_with fail
        refine hcc.mono ?_
        rintro e w' ⟨A5, c5, rfl, hb⟩
        clear hcc
        go_wp2_with fail
        go_roundw
        case rel => exact ⟨k + 1, by omega, by go_num, by show _ = Value.int .i64 ((n.cells k + n.cell k : Nat) : Int); rw [← Hp.out, ← Hx.out]; go_num, Lib.hid ⟨HI.out.1.later HI.out.1.lt hb, up HI.out.2 hb⟩⟩
        case measure => simp [intOf]; omega
      · have hka : k = a := by omega
        subst hka
        obtain ⟨q, hq⟩ : ∃ q, q = n.cells k := ⟨_, rfl⟩
        have hq1 := HL.out k (Nat.le_refl _)
        rw [← hq] at hq1 ⊢
        have hq2 : q ≤ 50000000 := by omega
        have Hq := Lib.hid hq
        clear hq hq1 hlt
        go_wp2_with fail
        go_loopw [4, 7] (fun sv iv wr => ∃ j : Nat, j ≤ k ∧ iv = .int .i64 ((j : Int) + 1) ∧ sv = .int .i64 (n.cells j : Nat) ∧ Hid ((j = 0 ∨ (j : Int) < (k : Int) - 1) ∧ (∀ g, 1 ≤ g → g ≤ j → 2 * n.cells g < q) ∧ NdBox wr w.heap.size true (.slice A1 k c1) (.slice A2 vl c2) (.slice A3 dl c3) ∧ Below w.heap.size w wr)) (fun _ iv _ => k + 2 - (intOf iv).toNat)
        case atStart => exact ⟨0, Nat.zero_le _, rfl, rfl, Lib.hid ⟨Or.inl rfl, fun g h1 h2 => by omega, HI.out.1, HI.out.2⟩⟩
        case round =>
          clear x0 x1 x2 x3 HI
          obtain ⟨j, hj, rfl, rfl, HJ⟩ := hrel
          obtain ⟨x0, x1, x2, x3⟩ := HJ.out.2.2.1
          obtain ⟨p, hp⟩ : ∃ p, p = n.cells j := ⟨_, rfl⟩
          have hp1 := HL.out j hj
          rw [← hp] at hp1 ⊢
          have hp2 : p ≤ 50000000 := by omega
          have Hp := Lib.hid hp
          clear hp hp1
          have w3 : IntKind.i64.wrap ((j : Int) + 1 - 1) = (j : Int) := by rw [Int.add_sub_cancel]; exact IntWalk.i64_in _ (by omega)
          by_cases hlt : (j : Int) + 1 ≤ (k : Int) - 1
          · have hcc := HC.out wr HJ.out.2.2.2 j (by omega)
            have hl1 := HL.out (j + 1) (by omega)
            have e3 : n.cells (j + 1) = n.cells j + n.cell j := rfl
            rw [e3, ← Hp.out] at hl1
            obtain ⟨x, hx⟩ : ∃ x, x = n.cell j := ⟨_, rfl⟩
            rw [← hx] at hl1 hcc
            have hx2 : p + x ≤ 50000000 := by omega
            have Hx := Lib.hid hx
            have HE : Hid (n.cells (j + 1) = p + x) := Lib.hid (by rw [Hp.out, Hx.out]; rfl)
            have Hlt := Lib.hid hlt
            clear hx e3 hl1
            go_wp2_with fail
            refine hcc.mono ?_
            rintro e w' ⟨A5, c5, rfl, hb⟩
            clear hcc
            have HB' := Lib.hid (up HJ.out.2.2.2 hb)
            have HX' := Lib.hid (HJ.out.2.2.1.later HJ.out.2.2.1.lt hb)
            have hlast : (j : Int) + 1 ≤ (k : Int) - 1 → ((j : Int) + 1 < (k : Int) - 1 → q ≤ 2 * (p + x)) → n.Half most.toNat (j + 1) := fun g1 g2 => ⟨by omega, by have := Hm.out; omega, fun h => by rw [HE.out, ← Ha.out, ← Hq.out]; exact g2 (by have := Hm.out; omega), fun g h1 h2 => by rw [← Ha.out, ← Hq.out]; exact HJ.out.2.1 g h1 (by omega)⟩
            have HLast := Lib.hid hlast
            clear hb hlast
            by_cases h2 : q ≤ 2 * (p + x)
            · have H2 := Lib.hid h2
              go_wp2_with fail
              go_ret
              exact ⟨j + 1, by simp, fun _ => HLast.out Hlt.out fun _ => H2.out, fun h => by have := Hm.out; have := Hlt.out; omega, HB'.out⟩
            · have H2 := Lib.hid h2
              by_cases h3 : (j : Int) + 1 = (k : Int) - 1
              · have H3 := Lib.hid h3
                have h3b : (((j : Int) + 1) == (k : Int) - 1) = true := by rw [beq_iff_eq]; exact h3
                clear h3
                go_wp2_with fail
                go_ret
                exact ⟨j + 1, by simp, fun _ => HLast.out Hlt.out fun h => by have := H3.out; omega, fun h => by have := Hm.out; have := Hlt.out; omega, HB'.out⟩
              · have H3 := Lib.hid h3
                have h3b : (((j : Int) + 1) == (k : Int) - 1) = false := by rw [beq_eq_false_iff_ne]; exact h3
                clear h3
                go_wp2_with fail
                go_roundw
                case rel => exact ⟨j + 1, by have := Hlt.out; omega, by go_num, by show _ = Value.int .i64 (((n.cells (j + 1) : Nat)) : Int); rw [HE.out]; go_num, Lib.hid ⟨Or.inr (by have := Hlt.out; have := H3.out; omega), fun g h1 h4 => by
                  by_cases e : g = j + 1
                  · subst e; rw [HE.out]; have := H2.out; omega
                  · exact HJ.out.2.1 g h1 (by omega), HX'.out, HB'.out⟩⟩
                case measure => simp [intOf]; have := Hlt.out; omega
          · go_wp2_with fail
            go_ret
            have hj0 : j = 0 := by rcases HJ.out.1 with e | e <;> omega
            exact ⟨0, rfl, fun h => by have := Hm.out; omega, fun _ => rfl, HJ.out.2.2.2⟩
end Go.Proofs.Ytceefoopehoalaa
