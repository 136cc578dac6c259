/-
  The document's own Decode of layer 7, of leaves: contract.
-/
import Derived.Test.YtceefoopehoalaaNdRefI
namespace Go.Proofs.Ytceefoopehoalaa
open Go.RowKit
set_option maxRecDepth 100000 in
set_option maxHeartbeats 2000000 in
theorem rdecode_leaf (A : Option Addr) (c : Nat) (b : List UInt8) (w : World) (hr : Rd w w.heap.size (.slice A b.length c) (cellsB b)) (hl : b.length ≤ 1000) (h1 : 1 ≤ b.length) :
    Calls Try.prog 11 #[.bool true, .slice A b.length c] w fun e w' =>
      (((refAt true b (getN b 0 1)).2 = (b.length : Int) ∧ (refAt true b (getN b 0 1)).1.Fit ∧ (refAt true b (getN b 0 1)).1.bytes = b) → ∃ K V D, e = .returned (.tuple #[ndVal true K V D, .bool true]) ∧ NdNew w' w.heap.size K V D (refAt true b (getN b 0 1)).1) ∧
      (¬ ((refAt true b (getN b 0 1)).2 = (b.length : Int) ∧ (refAt true b (getN b 0 1)).1.Fit ∧ (refAt true b (getN b 0 1)).1.bytes = b) → e = .returned (.tuple #[ndZero, .bool false])) ∧ Below w.heap.size w w' := by
  have hle := refAt_le true b h1
  have htx := fun (W : World) (hW : Below w.heap.size w W) (at_ : Int) (q1 : -1 ≤ at_) (q2 : at_ ≤ b.length) => rtext_any A c b at_ W w.heap.size (hr.below hW) hW.size (by omega) q1 q2
  have hkd := fun (W : World) (hW : Below w.heap.size w W) (at_ : Int) (q1 : -1 ≤ at_) (q2 : at_ ≤ b.length) => rkid_any A c b at_ W w.heap.size (hr.below hW) (by omega) q1 (by omega)
  obtain ⟨bb, bo, rfl, hc0⟩ := hr.at_ (k := 0) h1
  rw [← getN_one h1, Nat.add_zero] at hc0
  have hcb := fun (W : World) (hW : Below w.heap.size w W) => (hW.cell (p := ⟨bb, bo, none⟩) (World.block_lt_of_cell? w _ hc0)).trans hc0
  have hn256 := getN_byte b 0
  obtain ⟨n, hn⟩ : ∃ n, n = getN b 0 1 := ⟨_, rfl⟩
  rw [← hn] at hcb hn256 ⊢
  have hstart := RfW.start (w0 := w) (lf := true)
  have w1 : IntKind.i64.wrap (n : Int) = (n : Int) := IntWalk.i64_in _ (by omega)
  have HRd := Lib.hid hr
  have rtx2 := rtx_le b
  have rkd2 := rkd_le b
  obtain ⟨nb, hnb⟩ : ∃ nb, nb = b.length := ⟨_, rfl⟩
  rw [← hnb] at htx hkd hle hl h1 rtx2 rkd2 ⊢
  have HRd : Hid (Rd w w.heap.size (.slice (some ⟨bb, bo, none⟩) nb c) (cellsB b)) := Lib.hid (by rw [hnb]; exact hr)
  have HLe := Lib.hid hle
  have HT := Lib.hid htx
  have HKd := Lib.hid hkd
  have HCb := Lib.hid hcb
  have HSt := Lib.hid hstart
  have HRt := Lib.hid rtx2
  have HRk := Lib.hid rkd2
  have hz : ((nb : Int) == 0) = false := by rw [beq_eq_false_iff_ne]; omega
  clear hle htx hkd hc0 hcb hn hstart hr hnb rtx2 rkd2
  go_enter Try.func11, Try.ntmps11
  go_wp2_with fail
  have HS0 : Hid (RfW w _ true (.slice none 0 0) (.slice none 0 0) (.slice none 0 0) (.slice none 0 0) (.slice none 0 0) (.slice none 0 0) (refAt true b 0).1.keys (refAt true b 0).1.vals (refAt true b 0).1.kids) := HSt
  have e0 : (refAt true b 0).2 = 1 := rfl
  go_loopw [7, 10] (fun av iv wr => ∃ (k : Nat) (tK tV tD : Value), k ≤ n ∧ iv = .int .i64 (k : Int) ∧ av = .int .i64 (refAt true b k).2 ∧ Hid (RfW w wr true tK tV tD tK tV tD (refAt true b k).1.keys (refAt true b k).1.vals (refAt true b k).1.kids)) (fun _ iv _ => n - (intOf iv).toNat)
  case atStart => exact ⟨0, _, _, _, Nat.zero_le _, rfl, by rw [e0], HS0⟩
  case round =>
    clear HS0 e0
    obtain ⟨k, tK, tV, tD, hkn, rfl, rfl, HI⟩ := hrel
    have hcell := HCb.out wr HI.out.below
    by_cases hk : k < n
    · obtain ⟨q1, q2, q3, q4, q5, q6, _⟩ := HLe.out k
      have hst : refAt true b (k + 1) = (⟨true, (refAt true b k).1.keys ++ [(rtx b (refAt true b k).2).1], (refAt true b k).1.vals ++ [(rtx b (rtx b (refAt true b k).2).2).1], (refAt true b k).1.kids⟩, (rtx b (rtx b (refAt true b k).2).2).2) := rfl
      have hw := HI.out
      obtain ⟨r, hr⟩ : ∃ r, r = refAt true b k := ⟨_, rfl⟩
      rw [← hr] at q1 q2 q3 q4 q5 q6 hst hw ⊢
      obtain ⟨⟨rl, rk, rv, rd⟩, ra⟩ := r
      dsimp only at q1 q2 q3 q4 q5 q6 hst hw ⊢
      have htx := HT.out wr hw.below ra q1 q2
      obtain ⟨s1a, s1b, s1c⟩ := HRt.out ra
      obtain ⟨s, hs⟩ : ∃ s, s = rtx b ra := ⟨_, rfl⟩
      rw [← hs] at hst htx s1a s1b s1c
      obtain ⟨sl, sa⟩ := s
      dsimp only at hst htx s1a s1b s1c
      have Hst := Lib.hid hst
      have HW := Lib.hid hw
      have Htx := Lib.hid htx
      have Hq := Lib.hid (show rk.length ≤ 1000 ∧ rv.length ≤ 1000 ∧ rd.length ≤ 1000 by omega)
      clear hst hw htx q3 q4 q5 q6 HI hs hr
      go_wp2_with fail
      refine Htx.out.mono ?_
      rintro e w5 ⟨A5, c5, rfl, hown5, hb5⟩
      have hw5 := HW.out.kept hb5
      obtain ⟨An9, nn9, cn9, wb9, hrb9, hb9⟩ := hw5.keyed (hown5.txt HW.out.nm.le) (by have := Hq.out; omega)
      have Hrb9 := Lib.hid hrb9
      have Hb9 := Lib.hid hb9
      have c1 := hw5.nm.c1
      have c1b := (hw5.kept ((Below.refl _ _).alloc (Nat.le_refl _) (.cells #[.slice A5 sl.length c5] 22))).nm.c1
      clear hb5 hown5 hw5 hrb9 hb9 Htx HW
      go_wp2_with (at_builtin; refine wpList_append_run rfl (.tmp 55) (.tmp 57) rfl _ _ rfl rfl Hrb9.out ?_; have cb := Hb9.out.nm.c1; have fzb := Hb9.out.nm.fz 1)
      have hw6 := Hb9.out.setK
      obtain ⟨w6, hw6e⟩ : ∃ x, x = wb9.setCell ⟨w.heap.size + 1, 1, none⟩ (.slice An9 nn9 cn9) := ⟨_, rfl⟩
      rw [← hw6e] at hw6
      have HW6 := Lib.hid hw6
      have htx2 := HT.out w6 hw6.below sa s1a s1b
      have hst2 := Hst.out
      obtain ⟨s9, hs9⟩ : ∃ s, s = rtx b sa := ⟨_, rfl⟩
      rw [← hs9] at hst2 htx2
      obtain ⟨sl9, sa9⟩ := s9
      dsimp only at hst2 htx2
      have Htx2 := Lib.hid htx2
      have Hst := Lib.hid hst2
      have Hw6e := Lib.hid hw6e
      clear hst2 htx2 hw6 hs9 c1 c1b cb fzb hw6e
      rw [← Hw6e.out]
      go_wp2_with fail
      refine Htx2.out.mono ?_
      rintro e w7 ⟨A7, c7, rfl, hown7, hb7⟩
      have hw7 := HW6.out.kept hb7
      obtain ⟨An8, nn8, cn8, wb8, hrb8, hb8⟩ := hw7.valed (hown7.txt HW6.out.nm.le) (by have := Hq.out; omega)
      have Hrb8 := Lib.hid hrb8
      have Hb8 := Lib.hid hb8
      have c2 := hw7.nm.c2
      have c2b := (hw7.kept ((Below.refl _ _).alloc (Nat.le_refl _) (.cells #[.slice A7 sl9.length c7] 22))).nm.c2
      clear hb7 hown7 hw7 hrb8 hb8 Htx2 HW6
      go_wp2_with (at_builtin; refine wpList_append_run rfl (.tmp 69) (.tmp 71) rfl _ _ rfl rfl Hrb8.out ?_; have cb := Hb8.out.nm.c2; have fzb := Hb8.out.nm.fz 2)
      have hw9 := Hb8.out.setV
      go_roundw
      case rel =>
        refine ⟨k + 1, .slice An9 nn9 cn9, .slice An8 nn8 cn8, tD, by omega, by go_num, by rw [Hst.out], Lib.hid ?_⟩
        rw [Hst.out]
        exact hw9
      case measure => simp [intOf]; omega
    · have h5 : n ≤ k := by omega
      have Hk := Lib.hid (show k = n by omega)
      have hkn2 : n = k := Hk.out.symm
      subst hkn2
      have hw := HI.out
      have hle := HLe.out n
      obtain ⟨r, hr⟩ : ∃ r, r = refAt true b n := ⟨_, rfl⟩
      rw [← hr] at hw hle ⊢
      obtain ⟨⟨rl, rk, rv, rd⟩, ra⟩ := r
      dsimp only at hw hle ⊢
      obtain ⟨ha1, ha2, hl1, hl2, hl3, hl4, hl5⟩ := hle
      subst hl1
      have HNd := Lib.hid hr
      obtain ⟨A1, n1, c1, A2, n2, c2, A3, n3, c3, rfl, rfl, rfl⟩ := hw.nm.is.slices
      have hsh : (⟨true, rk, rv, rd⟩ : Nd).Short 1000000 := ⟨by show rk.length ≤ _; omega, by show rv.length ≤ _; omega, by show rd.length ≤ _; omega⟩
      have hkl : ∀ j, j < rk.length → (rk.getD j []).length ≤ 1000000 := fun j hj => by have := hl5 _ (getD_mem rk [] hj); omega
      have HW2 := Lib.hid hw
      obtain ⟨x0, x1, x2, x3⟩ := hw.nm.box
      by_cases hf : (⟨true, rk, rv, rd⟩ : Nd).Fit
      · have henc := rencode_good hw.nm.is (Nat.le_refl _) hsh hf hkl
        have henc2 : Hid (Calls Try.prog 32 #[ndVal true (.slice A1 n1 c1) (.slice A2 n2 c2) (.slice A3 n3 c3)] wr _) := Lib.hid henc
        by_cases hat : ra = (nb : Int)
        · have t1 : (ra != (nb : Int)) = false := by rw [hat]; simp
          by_cases heq : (⟨true, rk, rv, rd⟩ : Nd).bytes = b
          · have t5 : ((⟨true, rk, rv, rd⟩ : Nd).bytes == b) = true := by rw [heq]; simp
            have HG := Lib.hid (show (refAt true b n).2 = (nb : Int) ∧ (refAt true b n).1.Fit ∧ (refAt true b n).1.bytes = b by rw [← hr]; exact ⟨hat, hf, heq⟩)
            clear hw HI hsh hkl hl2 hl3 hl4 hl5 hat hf henc hr
            go_wp2_with fail
            refine henc2.out.mono ?_
            rintro e w3 ⟨v, rfl, hown, hb3⟩
            have HW3 := Lib.hid (HW2.out.kept hb3)
            have s1 := run_string_rd (P := Try.prog) 22 9 5 Try.underlying22 Try.underlying5 Try.underlying9 hown.rd
            have s2 := run_string_rd (P := Try.prog) 22 9 5 Try.underlying22 Try.underlying5 Try.underlying9 (HRd.out.below HW3.out.below)
            clear x0 x1 x2 x3 hb3 hown henc2 HW2
            obtain ⟨x0, x1, x2, x3⟩ := HW3.out.nm.box
            obtain ⟨y0, y1, y2, y3, f0, f1, f2, f3⟩ := out_cells HW3.out.out
            obtain ⟨W, hW⟩ : ∃ W, W = store4 w3 w.heap.size true (.slice A1 n1 c1) (.slice A2 n2 c2) (.slice A3 n3 c3) := ⟨_, rfl⟩
            have hbox := box_of_top (store4_top (lf := true) (K := .slice A1 n1 c1) (V := .slice A2 n2 c2) (D := .slice A3 n3 c3) HW3.out.out)
            have hfi := (HW3.out.nm.new rfl).store4 (lf := true) (K := .slice A1 n1 c1) (V := .slice A2 n2 c2) (D := .slice A3 n3 c3) (N := w.heap.size) (by omega)
            have hfb := HW3.out.below.trans (store4_below (w := w3) (lf := true) (K := .slice A1 n1 c1) (V := .slice A2 n2 c2) (D := .slice A3 n3 c3) (Nat.le_refl w.heap.size))
            rw [← hW] at hbox hfi hfb
            obtain ⟨q0, q1, q2, q3⟩ := hbox
            have HFi := Lib.hid hfi
            have HFb := Lib.hid hfb
            have HWW := Lib.hid hW
            clear hfi hfb hW
            go_wp2_with fail
            have hW := HWW.out
            unfold store4 at hW
            rw [← hW]
            refine bodyPost_ret (v := .tuple #[ndVal true (.slice A1 n1 c1) (.slice A2 n2 c2) (.slice A3 n3 c3), .bool true]) (by simp [results, Try.results11, go_sem, q0, q1, q2, q3]) rfl ⟨?_, fun h => absurd HG.out h, HFb.out⟩
            intro _
            refine ⟨_, _, _, rfl, ?_⟩
            rw [← HNd.out]
            exact (NdNew.mk HFi.out.keys HFi.out.vals HFi.out.kids).weaken (by omega)
          · have t5 : ((⟨true, rk, rv, rd⟩ : Nd).bytes == b) = false := by simp [heq]
            have HG := Lib.hid (show ¬ ((refAt true b n).2 = (nb : Int) ∧ (refAt true b n).1.Fit ∧ (refAt true b n).1.bytes = b) by rw [← hr]; exact fun h => heq h.2.2)
            clear hw HI hsh hkl hl2 hl3 hl4 hl5 hat hf henc hr
            go_wp2_with fail
            refine henc2.out.mono ?_
            rintro e w3 ⟨v, rfl, hown, hb3⟩
            have HW3 := Lib.hid (HW2.out.kept hb3)
            have s1 := run_string_rd (P := Try.prog) 22 9 5 Try.underlying22 Try.underlying5 Try.underlying9 hown.rd
            have s2 := run_string_rd (P := Try.prog) 22 9 5 Try.underlying22 Try.underlying5 Try.underlying9 (HRd.out.below HW3.out.below)
            clear x0 x1 x2 x3 hb3 hown henc2 HW2
            obtain ⟨y0, y1, y2, y3, f0, f1, f2, f3⟩ := out_cells HW3.out.out
            obtain ⟨W, hW⟩ : ∃ W, W = store4 w3 w.heap.size false (.slice none 0 0) (.slice none 0 0) (.slice none 0 0) := ⟨_, rfl⟩
            have hbox := box_of_top (store4_top (lf := false) (K := .slice none 0 0) (V := .slice none 0 0) (D := .slice none 0 0) HW3.out.out)
            have hfb := HW3.out.below.trans (store4_below (w := w3) (lf := false) (K := .slice none 0 0) (V := .slice none 0 0) (D := .slice none 0 0) (Nat.le_refl w.heap.size))
            rw [← hW] at hbox hfb
            obtain ⟨q0, q1, q2, q3⟩ := hbox
            have HFb := Lib.hid hfb
            have HWW := Lib.hid hW
            clear hfb hW
            go_wp2_with fail
            have hW := HWW.out
            unfold store4 at hW
            rw [← hW]
            exact bodyPost_ret (v := .tuple #[ndZero, .bool false]) (by simp [results, Try.results11, go_sem, q0, q1, q2, q3]) rfl ⟨fun h => absurd h HG.out, fun _ => rfl, HFb.out⟩
        · have t1 : (ra != (nb : Int)) = true := by simp [hat]
          have HG := Lib.hid (show ¬ ((refAt true b n).2 = (nb : Int) ∧ (refAt true b n).1.Fit ∧ (refAt true b n).1.bytes = b) by rw [← hr]; exact fun h => hat h.1)
          clear hw HI hsh hkl hl2 hl3 hl4 hl5 hat hf henc hr
          go_wp2_with fail
          refine henc2.out.mono ?_
          rintro e w3 ⟨v, rfl, hown, hb3⟩
          have HW3 := Lib.hid (HW2.out.kept hb3)
          have s1 := run_string_rd (P := Try.prog) 22 9 5 Try.underlying22 Try.underlying5 Try.underlying9 hown.rd
          have s2 := run_string_rd (P := Try.prog) 22 9 5 Try.underlying22 Try.underlying5 Try.underlying9 (HRd.out.below HW3.out.below)
          clear x0 x1 x2 x3 hb3 hown henc2 HW2
          obtain ⟨y0, y1, y2, y3, f0, f1, f2, f3⟩ := out_cells HW3.out.out
          obtain ⟨W, hW⟩ : ∃ W, W = store4 w3 w.heap.size false (.slice none 0 0) (.slice none 0 0) (.slice none 0 0) := ⟨_, rfl⟩
          have hbox := box_of_top (store4_top (lf := false) (K := .slice none 0 0) (V := .slice none 0 0) (D := .slice none 0 0) HW3.out.out)
          have hfb := HW3.out.below.trans (store4_below (w := w3) (lf := false) (K := .slice none 0 0) (V := .slice none 0 0) (D := .slice none 0 0) (Nat.le_refl w.heap.size))
          rw [← hW] at hbox hfb
          obtain ⟨q0, q1, q2, q3⟩ := hbox
          have HFb := Lib.hid hfb
          have HWW := Lib.hid hW
          clear hfb hW
          go_wp2_with fail
          have hW := HWW.out
          unfold store4 at hW
          rw [← hW]
          exact bodyPost_ret (v := .tuple #[ndZero, .bool false]) (by simp [results, Try.results11, go_sem, q0, q1, q2, q3]) rfl ⟨fun h => absurd h HG.out, fun _ => rfl, HFb.out⟩
      · obtain ⟨z, hz, henc⟩ := rencode_bad hw.nm.is (Nat.le_refl _) hsh hf hkl
        have henc2 : Hid (Calls Try.prog 32 #[ndVal true (.slice A1 n1 c1) (.slice A2 n2 c2) (.slice A3 n3 c3)] wr _) := Lib.hid henc
        have HG := Lib.hid (show ¬ ((refAt true b n).2 = (nb : Int) ∧ (refAt true b n).1.Fit ∧ (refAt true b n).1.bytes = b) by rw [← hr]; exact fun h => hf h.2.1)
        by_cases hat : ra = (nb : Int)
        · have t1 : (ra != (nb : Int)) = false := by rw [hat]; simp
          rcases hz with rfl | rfl
          all_goals
            clear hw HI hsh hkl hl2 hl3 hl4 hl5 hat hf henc hr
            go_wp2_with fail
            refine henc2.out.mono ?_
            rintro e w3 ⟨Ae, ce, rfl, hown, hb3⟩
            have HW3 := Lib.hid (HW2.out.kept hb3)
            have s1 := run_string_rd (P := Try.prog) 22 9 5 Try.underlying22 Try.underlying5 Try.underlying9 hown.rd
            have s2 := run_string_rd (P := Try.prog) 22 9 5 Try.underlying22 Try.underlying5 Try.underlying9 (HRd.out.below HW3.out.below)
            clear x0 x1 x2 x3 hb3 hown henc2 HW2
            obtain ⟨y0, y1, y2, y3, f0, f1, f2, f3⟩ := out_cells HW3.out.out
            obtain ⟨W, hW⟩ : ∃ W, W = store4 w3 w.heap.size false (.slice none 0 0) (.slice none 0 0) (.slice none 0 0) := ⟨_, rfl⟩
            have hbox := box_of_top (store4_top (lf := false) (K := .slice none 0 0) (V := .slice none 0 0) (D := .slice none 0 0) HW3.out.out)
            have hfb := HW3.out.below.trans (store4_below (w := w3) (lf := false) (K := .slice none 0 0) (V := .slice none 0 0) (D := .slice none 0 0) (Nat.le_refl w.heap.size))
            rw [← hW] at hbox hfb
            obtain ⟨q0, q1, q2, q3⟩ := hbox
            have HFb := Lib.hid hfb
            have HWW := Lib.hid hW
            clear hfb hW
            go_wp2_with fail
            have hW := HWW.out
            unfold store4 at hW
            rw [← hW]
            exact bodyPost_ret (v := .tuple #[ndZero, .bool false]) (by simp [results, Try.results11, go_sem, q0, q1, q2, q3]) rfl ⟨fun h => absurd h HG.out, fun _ => rfl, HFb.out⟩
        · have t1 : (ra != (nb : Int)) = true := by simp [hat]
          rcases hz with rfl | rfl
          all_goals
            clear hw HI hsh hkl hl2 hl3 hl4 hl5 hat hf henc hr
            go_wp2_with fail
            refine henc2.out.mono ?_
            rintro e w3 ⟨Ae, ce, rfl, hown, hb3⟩
            have HW3 := Lib.hid (HW2.out.kept hb3)
            have s1 := run_string_rd (P := Try.prog) 22 9 5 Try.underlying22 Try.underlying5 Try.underlying9 hown.rd
            have s2 := run_string_rd (P := Try.prog) 22 9 5 Try.underlying22 Try.underlying5 Try.underlying9 (HRd.out.below HW3.out.below)
            clear x0 x1 x2 x3 hb3 hown henc2 HW2
            obtain ⟨y0, y1, y2, y3, f0, f1, f2, f3⟩ := out_cells HW3.out.out
            obtain ⟨W, hW⟩ : ∃ W, W = store4 w3 w.heap.size false (.slice none 0 0) (.slice none 0 0) (.slice none 0 0) := ⟨_, rfl⟩
            have hbox := box_of_top (store4_top (lf := false) (K := .slice none 0 0) (V := .slice none 0 0) (D := .slice none 0 0) HW3.out.out)
            have hfb := HW3.out.below.trans (store4_below (w := w3) (lf := false) (K := .slice none 0 0) (V := .slice none 0 0) (D := .slice none 0 0) (Nat.le_refl w.heap.size))
            rw [← hW] at hbox hfb
            obtain ⟨q0, q1, q2, q3⟩ := hbox
            have HFb := Lib.hid hfb
            have HWW := Lib.hid hW
            clear hfb hW
            go_wp2_with fail
            have hW := HWW.out
            unfold store4 at hW
            rw [← hW]
            exact bodyPost_ret (v := .tuple #[ndZero, .bool false]) (by simp [results, Try.results11, go_sem, q0, q1, q2, q3]) rfl ⟨fun h => absurd h HG.out, fun _ => rfl, HFb.out⟩
end Go.Proofs.Ytceefoopehoalaa
