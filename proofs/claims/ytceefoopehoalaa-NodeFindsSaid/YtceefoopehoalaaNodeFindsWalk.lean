/-
  The walk of NodeFinds.
-/
import Derived.Test.YtceefoopehoalaaNdLaw
import Derived.Test.YtceefoopehoalaaNdRefC
namespace Go.Proofs.Ytceefoopehoalaa
open Go.RowKit
theorem belowN_upto {ks : List (List UInt8)} (key : List UInt8) : ∀ k, k ≤ ks.length → KeysOk ks → uptoN ks key k = belowN ks key k + (if hasN ks key k then 1 else 0)
  | 0, _, _ => rfl
  | k + 1, hk, hs => by
    have ih := belowN_upto key k (by omega) hs
    unfold uptoN belowN hasN
    by_cases h0 : cmpB (ks.getD k []) key = 0
    · have he := cmpB_zero h0
      have hno : hasN ks key k = false := by
        rw [← Bool.not_eq_true]
        intro h
        have : ∀ i, i ≤ k → hasN ks key i = true → ∃ j, j < i ∧ ks.getD j [] = key := by
          intro i
          induction i with
          | zero => intro _ h; cases h
          | succ i ih =>
            intro hi h
            unfold hasN at h
            rw [Bool.or_eq_true, decide_eq_true_eq] at h
            rcases h with h | h
            · obtain ⟨j, h1, h2⟩ := ih (by omega) h
              exact ⟨j, by omega, h2⟩
            · exact ⟨i, by omega, h⟩
        obtain ⟨j, h1, h2⟩ := this k (Nat.le_refl _) h
        have := hs.rise h1 (by omega)
        rw [h2, he, cmpB_self] at this
        omega
      rw [ih, hno, if_pos (show cmpB (ks.getD k []) key ≤ 0 by omega), if_neg (show ¬ cmpB (ks.getD k []) key < 0 by omega), decide_eq_true he]
      simp
    · have hne : ks.getD k [] ≠ key := fun e => h0 (by rw [e]; exact cmpB_self key)
      rw [ih, decide_eq_false hne, Bool.or_false]
      by_cases h1 : cmpB (ks.getD k []) key < 0
      · rw [if_pos (show cmpB (ks.getD k []) key ≤ 0 by omega), if_pos h1]; omega
      · rw [if_neg (show ¬ cmpB (ks.getD k []) key ≤ 0 by omega), if_neg h1]; omega
set_option maxHeartbeats 1600000 in
theorem nodeFinds_core {n : Nd} {K V D : Value} (w : World) (hr : NdIs w w.heap.size K V D n) (v : Value) (l : List UInt8) (hv : Rd w w.heap.size v (cellsB l)) :
    Calls Try.prog 4 #[ndVal n.leaf K V D, v] w fun e w' => e = .returned (.bool true) ∧ Below w.heap.size w w' := by
  obtain ⟨A1, n1, c1, A2, n2, c2, A3, n3, c3, rfl, rfl, rfl⟩ := hr.slices
  have hc := cutNd_cut n
  have hb0 : Below w.heap.size w (w.alloc (.cells #[.bool n.leaf, .slice A1 n1 c1, .slice A2 n2 c2, .slice A3 n3 c3] 27)) := (Below.refl _ _).alloc (Nat.le_refl _) _
  have hfew := fewNd_any ((hr.below hb0).more hb0.size)
  have hlf : (cutNd n).leaf = n.leaf := rfl
  have hs0 : (w.alloc (.cells #[.bool n.leaf, .slice A1 n1 c1, .slice A2 n2 c2, .slice A3 n3 c3] 27)).heap.size = w.heap.size + 1 := by simp
  have htop := heap_alloc_last w (.cells #[.bool n.leaf, .slice A1 n1 c1, .slice A2 n2 c2, .slice A3 n3 c3] 27)
  obtain ⟨m, hm⟩ : ∃ m, m = cutNd n := ⟨_, rfl⟩
  rw [← hm] at hc hfew hlf
  rw [hs0, ← hlf] at hfew
  rw [← hlf] at hb0 htop hs0
  rw [← hlf]
  obtain ⟨lf, hlf2⟩ : ∃ x, x = m.leaf := ⟨_, rfl⟩
  rw [← hlf2] at hfew hb0 htop hs0 ⊢
  have hbx := NdBox.made w lf (.slice A1 n1 c1) (.slice A2 n2 c2) (.slice A3 n3 c3)
  have HF := Lib.hid hfew
  have HC := Lib.hid hc
  have H0 := Lib.hid hb0
  have HV := Lib.hid hv
  have HT := Lib.hid htop
  have HL := Lib.hid hlf2
  have HS0 := Lib.hid hs0
  obtain ⟨x0, x1, x2, x3⟩ := hbx
  clear hr hc hfew hlf hm hb0 hv htop hlf2 hs0
  go_enter Try.func4, Try.ntmps4
  go_wp2_with fail
  refine HF.out.mono ?_
  rintro e w1 ⟨K1, V1, D1, rfl, hn1, hb1⟩
  have HN1 := Lib.hid hn1
  have HB1 := Lib.hid (H0.out.trans (hb1.mono (by rw [← HS0.out]; exact H0.out.size)))
  have HT1 := Lib.hid ((hb1.block w.heap.size (by omega)).trans HT.out)
  have hkey := few_any v l 30 w1 w.heap.size (HV.out.below HB1.out) HB1.out.size (by omega)
  clear hn1 hb1 x0 x1 x2 x3
  go_wp2_with fail
  refine hkey.mono ?_
  rintro e w2 ⟨vk, rfl, hown, hb2⟩
  have HB2 := Lib.hid (up HB1.out hb2)
  have HT2 := Lib.hid ((hb2.block w.heap.size (Array.getElem?_eq_some_iff.1 HT1.out).1).trans HT1.out)
  have HN2 := Lib.hid (HN1.out.kept hb2)
  have HKy := Lib.hid hown
  clear hkey hown hb2
  obtain ⟨A4, n4, c4, A5, n5, c5, A6, n6, c6, rfl, rfl, rfl⟩ := HN2.out.is.slices
  obtain ⟨y0, y1, y2, y3, f0, f1, f2, f3⟩ := out_cells HT2.out
  obtain ⟨W, hW⟩ : ∃ W, W = store4 w2 w.heap.size lf (.slice A4 n4 c4) (.slice A5 n5 c5) (.slice A6 n6 c6) := ⟨_, rfl⟩
  have hlaw : LawN w W (.slice A4 n4 c4) (.slice A5 n5 c5) (.slice A6 n6 c6) m := by rw [hW, HL.out]; exact LawN.start HT2.out HN2.out (Nat.lt_succ_self _) HB2.out
  have hmk : Mine W w1.heap.size 5 vk (cellsB (l.take 30)) := by
    rw [hW]
    exact HKy.out.frK (B0 := 0) (g := none) ⟨Nat.le_of_eq store4_size.symm, fun k _ h2 _ => store4_other (by have := (Array.getElem?_eq_some_iff.1 HT1.out).1; omega)⟩ (fun _ _ e => by cases e)
  have hkl : (l.take 30).length ≤ 30 := by simp; omega
  obtain ⟨key, hkk⟩ : ∃ key, key = l.take 30 := ⟨_, rfl⟩
  rw [← hkk] at hmk hkl
  obtain ⟨Ak, ck, rfl⟩ := hmk.form
  rw [cellsB_length] at hmk
  rw [cellsB_length]
  have HWW := Lib.hid hW
  have HLaw := Lib.hid hlaw
  have HMk := Lib.hid hmk.rd
  have HKl := Lib.hid hkl
  clear hW hlaw hmk hkk hkl HF HN1 HN2 HB1 HB2 HT1 HKy HV H0 HT
  obtain ⟨kl, hkl⟩ : ∃ x, x = key.length := ⟨_, rfl⟩
  rw [← hkl]
  have HM : Hid (Rd W W.heap.size (.slice Ak kl ck) (cellsB key)) := Lib.hid (by rw [hkl]; exact HMk.out)
  clear hkl HMk
  go_wp2_with fail
  have hW := HWW.out
  unfold store4 at hW
  rw [← hW]
  clear hW HWW y0 y1 y2 y3 f0 f1 f2 f3
  obtain ⟨x0, x1, x2, x3⟩ := HLaw.out.box
  have hsnd := HLaw.out.sound HC.out
  rw [← HL.out] at x0 hsnd
  go_wp2_with fail
  refine hsnd.mono ?_
  rintro e w3 ⟨rfl, hl3, hb3⟩
  have HL3 := Lib.hid hl3
  have HM3 := Lib.hid ((HM.out.below hb3).more hb3.size)
  clear x0 x1 x2 x3 hl3 hb3 hsnd HM HLaw
  cases hs : sndB m
  · have hlv := HL3.out.lives
    go_wp2_with fail
    refine hlv.mono ?_
    rintro e w4 ⟨rfl, hb4⟩
    go_wp2_with fail
    go_ret
    exact ⟨rfl, hb4⟩
  · have hup := fun k (h : k ≤ m.keys.length) => belowN_upto (ks := m.keys) key k h (sndB_iff.1 hs).keys
    have hup := hup _ (Nat.le_refl _)
    have hf := HL3.out.few HC.out
    obtain ⟨x0, x1, x2, x3⟩ := HL3.out.box
    rw [← HL.out] at x0 hf
    have Hup := Lib.hid hup
    clear hup hs
    go_wp2_with fail
    refine hf.mono ?_
    rintro e w4 ⟨K4, V4, D4, rfl, hn4, hl4, hb4⟩
    have HM4 := Lib.hid ((HM3.out.below hb4).more hb4.size)
    have HL4 := Lib.hid hl4
    have hfi := find_any hn4 (Nat.le_refl _) HM4.out (Nat.le_refl _) (by have := HC.out.k; omega)
    rw [← HL.out] at hfi
    clear x0 x1 x2 x3 hf hn4 hl4 hb4
    obtain ⟨p, hp⟩ : ∃ p, p = belowN m.keys key m.keys.length := ⟨_, rfl⟩
    obtain ⟨q, hq⟩ : ∃ p, p = hasN m.keys key m.keys.length := ⟨_, rfl⟩
    have hp3 : p ≤ 40 := by have := belowN_le m.keys key m.keys.length; have := HC.out.k; omega
    rw [← hp, ← hq] at hfi
    have Hp := Lib.hid hp
    have Hq := Lib.hid hq
    clear hp hq
    go_wp2_with fail
    refine hfi.mono ?_
    rintro e w5 ⟨rfl, hb5⟩
    have HM5 := Lib.hid ((HM4.out.below hb5).more hb5.size)
    have HL5 := Lib.hid (HL4.out.kept hb5)
    obtain ⟨x0, x1, x2, x3⟩ := HL5.out.box
    have hbl := rbelow_any HL5.out.is (Nat.le_refl _) HM5.out (Nat.le_refl _) (by have := HC.out.k; omega) HC.out.small.1 (by have := HKl.out; omega)
    rw [← HL.out] at x0 hbl
    rw [← Hp.out, ← Hq.out] at hbl
    clear hfi hb5
    go_wp2_with fail
    refine hbl.mono ?_
    rintro e w6 ⟨rfl, hb6⟩
    have HM6 := Lib.hid ((HM5.out.below hb6).more hb6.size)
    have HL6 := Lib.hid (HL5.out.kept hb6)
    clear x0 x1 x2 x3 hbl hb6
    obtain ⟨x0, x1, x2, x3⟩ := HL6.out.box
    have hf := HL6.out.few HC.out
    rw [← HL.out] at x0 hf
    have Hf := Lib.hid hf
    have hup := Hup.out
    rw [← Hp.out, ← Hq.out] at hup
    have Hup2 := Lib.hid hup
    clear hup hf Hup
    cases q
    all_goals
      go_wp2_with fail
      refine Hf.out.mono ?_
      rintro e w7 ⟨K7, V7, D7, rfl, hn7, hl7, hb7⟩
      have HL7 := Lib.hid hl7
      have hki := kid_any hn7 (Nat.le_refl _) ((HM6.out.below hb7).more hb7.size) (Nat.le_refl _) (by have := HC.out.k; omega)
      rw [← HL.out, Hup2.out] at hki
      clear x0 x1 x2 x3 hn7 hl7 hb7
      go_wp2_with fail
      refine hki.mono ?_
      rintro e w8 ⟨rfl, hb8⟩
      have hlv := (HL7.out.kept hb8).lives
      clear hki hb8
      go_wp2_with fail
      refine hlv.mono ?_
      rintro e w9 ⟨rfl, hb9⟩
      go_wp2_with fail
      go_ret
      exact ⟨rfl, hb9⟩
theorem nodeFinds_walk (n : Nd) (K V D v : Value) (l : List UInt8) (w : World) (hr : NdIs w w.heap.size K V D n) (hv : Rd w w.heap.size v (cellsB l)) :
    Calls Try.prog 4 #[ndVal n.leaf K V D, v] w fun e w' => e = .returned (.bool true) ∧ Below w.heap.size w w' := nodeFinds_core w hr v l hv
end Go.Proofs.Ytceefoopehoalaa
