/-
  The walk of NodeBack.
-/
import Derived.Test.YtceefoopehoalaaNdSplitE
import Derived.Test.YtceefoopehoalaaNdHalf
namespace Go.Proofs.Ytceefoopehoalaa
open Go.RowKit
set_option maxRecDepth 100000 in
set_option maxHeartbeats 1600000 in
theorem nodeBack_walk (n : Nd) (K V D : Value) (w : World) (hr : NdIs w w.heap.size K V D n) :
    Calls Try.prog 8 #[ndVal n.leaf K V D] w fun e w' => e = .returned (.bool true) ∧ Below w.heap.size w w' := by
  obtain ⟨A1, n1, c1, A2, n2, c2, A3, n3, c3, rfl, rfl, rfl⟩ := hr.slices
  have hc := cutNd_cut n
  have hb0 : Below w.heap.size w (w.alloc (.cells #[.bool n.leaf, .slice A1 n1 c1, .slice A2 n2 c2, .slice A3 n3 c3] 27)) := (Below.refl _ _).alloc (Nat.le_refl _) _
  have hfew := fewNd_any ((hr.below hb0).more hb0.size)
  have hlf : (cutNd n).leaf = n.leaf := rfl
  have hs0 : (w.alloc (.cells #[.bool n.leaf, .slice A1 n1 c1, .slice A2 n2 c2, .slice A3 n3 c3] 27)).heap.size = w.heap.size + 1 := by simp
  have htop := heap_alloc_last w (.cells #[.bool n.leaf, .slice A1 n1 c1, .slice A2 n2 c2, .slice A3 n3 c3] 27)
  obtain ⟨m, hm⟩ : ∃ m, m = cutNd n := ⟨_, rfl⟩
  rw [← hm] at hc hfew hlf
  rw [hs0, ← hlf] at hfew
  rw [← hlf] at hb0 htop hs0
  rw [← hlf]
  obtain ⟨lf, hlf2⟩ : ∃ x, x = m.leaf := ⟨_, rfl⟩
  rw [← hlf2] at hfew hb0 htop hs0 ⊢
  have hbx := NdBox.made w lf (.slice A1 n1 c1) (.slice A2 n2 c2) (.slice A3 n3 c3)
  have HF := Lib.hid hfew
  have HC := Lib.hid hc
  have H0 := Lib.hid hb0
  have HT := Lib.hid htop
  have HL := Lib.hid hlf2
  have HS0 := Lib.hid hs0
  obtain ⟨x0, x1, x2, x3⟩ := hbx
  clear hr hc hfew hlf hm hb0 htop hlf2 hs0
  go_enter Try.func8, Try.ntmps8
  go_wp2_with fail
  refine HF.out.mono ?_
  rintro e w1 ⟨K1, V1, D1, rfl, hn1, hb1⟩
  have HN1 := Lib.hid hn1
  have HB1 := Lib.hid (H0.out.trans (hb1.mono (by rw [← HS0.out]; exact H0.out.size)))
  have HT1 := Lib.hid ((hb1.block w.heap.size (by omega)).trans HT.out)
  clear hn1 hb1 x0 x1 x2 x3
  obtain ⟨A4, n4, c4, A5, n5, c5, A6, n6, c6, rfl, rfl, rfl⟩ := HN1.out.is.slices
  obtain ⟨y0, y1, y2, y3, f0, f1, f2, f3⟩ := out_cells HT1.out
  obtain ⟨W, hW⟩ : ∃ W, W = store4 w1 w.heap.size lf (.slice A4 n4 c4) (.slice A5 n5 c5) (.slice A6 n6 c6) := ⟨_, rfl⟩
  have hlaw : LawN w W (.slice A4 n4 c4) (.slice A5 n5 c5) (.slice A6 n6 c6) m := by rw [hW, HL.out]; exact LawN.start HT1.out HN1.out (Nat.lt_succ_self _) HB1.out
  have HWW := Lib.hid hW
  have HLaw := Lib.hid hlaw
  clear hW hlaw HF HN1 HB1 HT1 H0 HT
  go_wp2_with fail
  have hW := HWW.out
  unfold store4 at hW
  rw [← hW]
  clear hW HWW y0 y1 y2 y3 f0 f1 f2 f3
  obtain ⟨x0, x1, x2, x3⟩ := HLaw.out.box
  have hf := HLaw.out.few HC.out
  rw [← HL.out] at x0 hf
  go_wp2_with fail
  refine hf.mono ?_
  rintro e w2 ⟨K4, V4, D4, rfl, hn2, hl2, hb2⟩
  have HL2 := Lib.hid hl2
  have HN2 := Lib.hid hn2
  clear x0 x1 x2 x3 hf hn2 hl2 hb2 HLaw
  by_cases hp : m.Parts
  · have hsp := split_good HN2.out HC.out.short hp
    rw [← HL.out] at hsp
    have HP := Lib.hid hp
    clear hp
    go_wp2_with fail
    refine hsp.mono ?_
    rintro e w3 ⟨h, Ka, Va, Da, kv, Kb, Vb, Db, hh, rfl, ha, hk, hb, hb3⟩
    have hst := LwH.start (HL2.out.kept hb3) ha.is hb.is hk.rd
    rw [m.lower_leaf, m.upper_leaf, ← HL.out] at hst
    have HSt := Lib.hid hst
    have HH := Lib.hid hh
    obtain ⟨B1, i1, j1, B2, i2, j2, B3, i3, j3, rfl, rfl, rfl⟩ := ha.is.slices
    obtain ⟨E1, k1, l1, E2, k2, l2, E3, k3, l3, rfl, rfl, rfl⟩ := hb.is.slices
    obtain ⟨Ak, ck, rfl⟩ := hk.form
    rw [cellsB_length] at HSt
    rw [cellsB_length]
    obtain ⟨key, hkey⟩ : ∃ x, x = m.keys.getD h [] := ⟨_, rfl⟩
    rw [← hkey] at HSt ⊢
    obtain ⟨kl, hkl⟩ : ∃ x, x = key.length := ⟨_, rfl⟩
    rw [← hkl] at HSt ⊢
    have HKey := Lib.hid hkey
    clear hst ha hb hk hb3 hsp hh hkl hkey
    obtain ⟨Wh, hWh⟩ : ∃ X, X = (w3.alloc (.cells #[.bool lf, .slice B1 i1 j1, .slice B2 i2 j2, .slice B3 i3 j3] 27)).alloc (.cells #[.bool lf, .slice E1 k1 l1, .slice E2 k2 l2, .slice E3 k3 l3] 27) := ⟨_, rfl⟩
    have HWh := Lib.hid hWh
    go_wp2_with fail
    rw [← HWh.out]
    rw [← hWh] at HSt
    clear hWh HWh
    have hsA : (m.lower h).Short 40000 := m.lower_short h ⟨by have := HC.out.k; omega, by have := HC.out.v; omega, by have := HC.out.d; omega⟩
    have hsB : (m.upper h).Short 40000 := m.upper_short h ⟨by have := HC.out.k; omega, by have := HC.out.v; omega, by have := HC.out.d; omega⟩
    have hmg := merge_any HSt.out.isA HSt.out.isB HSt.out.key hsA hsB
    have hj := HP.out.joined HH.out
    rw [← HKey.out] at hj
    rw [hj.1, hj.2, m.lower_leaf, m.upper_leaf, ← HL.out] at hmg
    refine hmg.mono ?_
    rintro e w4 ⟨Kx, Vx, Dx, rfl, hx, hb4⟩
    obtain ⟨X1, p1, q1, X2, p2, q2, X3, p3, q3, rfl, rfl, rfl⟩ := hx.is.slices
    have hba := (Below.refl w4.heap.size w4).alloc (Nat.le_refl _) (.cells #[.bool lf, .slice X1 p1 q1, .slice X2 p2 q2, .slice X3 p3 q3] 27)
    have hst5 := (HSt.out.kept hb4).kept hba
    have hbx5 := NdBox.made w4 lf (.slice X1 p1 q1) (.slice X2 p2 q2) (.slice X3 p3 q3)
    have hix5 := (hx.is.below hba).more hba.size
    obtain ⟨x0, x1, x2, x3⟩ := hst5.boxA
    rw [m.lower_leaf, ← HL.out] at x0
    obtain ⟨W5, hW5⟩ : ∃ X, X = w4.alloc (.cells #[.bool lf, .slice X1 p1 q1, .slice X2 p2 q2, .slice X3 p3 q3] 27) := ⟨_, rfl⟩
    obtain ⟨px, hpx⟩ : ∃ x, x = w4.heap.size := ⟨_, rfl⟩
    rw [← hW5] at hst5 hbx5 hix5
    rw [← hpx] at hbx5
    have HW5 := Lib.hid hW5
    have HPx := Lib.hid hpx
    obtain ⟨ea, hea0, hea1, hea2, hea⟩ := enc_any hst5.isA ⟨by have := hsA.1; omega, by have := hsA.2.1; omega, by have := hsA.2.2; omega⟩
    rw [m.lower_leaf, ← HL.out] at hea
    have HSt5 := Lib.hid hst5
    have HBx5 := Lib.hid hbx5
    have HIx5 := Lib.hid hix5
    have HEa := Lib.hid hea
    have HEn := Lib.hid (And.intro hea0 (And.intro hea1 hea2))
    clear hW5 hpx hst5 hbx5 hix5 hea hea0 hea1 hea2 hba hx hb4 hmg hj HSt
    go_wp2_with fail
    rw [← HPx.out, ← HW5.out]
    refine HEa.out.mono ?_
    rintro e w6 ⟨va, rfl, hb6⟩
    have HSt6 := Lib.hid (HSt5.out.kept hb6)
    have HBx6 := Lib.hid (HBx5.out.later HBx5.out.lt hb6)
    have HIx6 := Lib.hid ((HIx5.out.below hb6).more hb6.size)
    clear x0 x1 x2 x3 hb6 HSt5 HBx5 HIx5 HEa HW5 HPx
    obtain ⟨eb, heb0, heb1, heb2, heb⟩ := enc_any HSt6.out.isB ⟨by have := hsB.1; omega, by have := hsB.2.1; omega, by have := hsB.2.2; omega⟩
    rw [m.upper_leaf, ← HL.out] at heb
    obtain ⟨x0, x1, x2, x3⟩ := HSt6.out.boxB
    rw [m.upper_leaf, ← HL.out] at x0
    have HEb := Lib.hid heb
    have HEm := Lib.hid (And.intro heb0 (And.intro heb1 heb2))
    clear heb heb0 heb1 heb2
    go_wp2_with fail
    refine HEb.out.mono ?_
    rintro e w7 ⟨vb, rfl, hb7⟩
    have HSt7 := Lib.hid (HSt6.out.kept hb7)
    have HBx7 := Lib.hid (HBx6.out.later HBx6.out.lt hb7)
    have HIx7 := Lib.hid ((HIx6.out.below hb7).more hb7.size)
    clear x0 x1 x2 x3 hb7 HSt6 HBx6 HIx6 HEb
    have hsm := same7_yes HIx7.out HSt7.out.law.is (Nat.le_refl _) (Nat.le_refl _) HC.out.short
    rw [← HL.out] at hsm
    obtain ⟨x0, x1, x2, x3⟩ := HSt7.out.law.box
    rw [← HL.out] at x0
    obtain ⟨z0, z1, z2, z3⟩ := HBx7.out
    go_wp2_with fail
    refine hsm.mono ?_
    rintro e w8 ⟨rfl, hb8⟩
    have HL8 := Lib.hid (HSt7.out.law.kept hb8)
    clear x0 x1 x2 x3 z0 z1 z2 z3 hb8 hsm HSt7 HBx7 HIx7
    have hby := rbytes_loop HL8.out.is (Nat.le_refl _) HP.out.1 (by have := HC.out.k; omega)
    rw [← HL.out] at hby
    obtain ⟨x0, x1, x2, x3⟩ := HL8.out.box
    rw [← HL.out] at x0
    go_wp2_with fail
    refine hby.mono ?_
    rintro e w9 ⟨v9, rfl, hm9, hb9⟩
    have HL9 := Lib.hid (HL8.out.kept hb9)
    obtain ⟨A9, c9, rfl⟩ := hm9.form
    rw [cellsB_length, m.bytes_len]
    have hlv := HL9.out.lives
    have hfit := fun (g : m.size ≤ 282) => HP.out.fit HH.out (by have := HC.out.k; omega) g
    obtain ⟨sz, hsz⟩ : ∃ x, x = m.size := ⟨_, rfl⟩
    rw [← hsz] at hfit ⊢
    have hsz2 : sz ≤ 100000 := by
      have := m.cells_le HP.out.1 m.keys.length (Nat.le_refl _)
      have := HC.out.k
      rw [hsz]
      unfold Nd.size
      split <;> omega
    clear x0 x1 x2 x3 hb9 hm9 hby HL8 hsz
    by_cases hbig : 282 < sz
    · clear hfit
      go_wp2_with fail
      refine hlv.mono ?_
      rintro e wl ⟨rfl, hbl⟩
      go_wp2_with fail
      go_ret
      exact ⟨rfl, hbl⟩
    · have h0a := HEn.out.1 (hfit (by omega)).1
      have h0b := HEm.out.1 (hfit (by omega)).2
      subst h0a h0b
      clear hfit
      go_wp2_with fail
      refine hlv.mono ?_
      rintro e wl ⟨rfl, hbl⟩
      go_wp2_with fail
      go_ret
      exact ⟨rfl, hbl⟩
  · have hsp := split_none HN2.out HC.out.short hp
    rw [← HL.out] at hsp
    clear hp
    go_wp2_with fail
    refine hsp.mono ?_
    rintro e w3 ⟨rfl, hb3⟩
    have HL3 := Lib.hid (HL2.out.kept hb3)
    have hlv := (HL3.out.kept (((Below.refl w3.heap.size w3).alloc (Nat.le_refl _) (.cells #[.bool false, .slice none 0 0, .slice none 0 0, .slice none 0 0] 27)).alloc (by simp) (.cells #[.bool false, .slice none 0 0, .slice none 0 0, .slice none 0 0] 27))).lives
    clear hb3 hsp
    go_wp2_with fail
    refine hlv.mono ?_
    rintro e w4 ⟨rfl, hb4⟩
    go_wp2_with fail
    go_ret
    exact ⟨rfl, hb4⟩
end Go.Proofs.Ytceefoopehoalaa
