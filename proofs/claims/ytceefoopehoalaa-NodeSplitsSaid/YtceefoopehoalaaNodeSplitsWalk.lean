/-
  The walk of NodeSplits.
-/
import Derived.Test.YtceefoopehoalaaNdSplitE
import Derived.Test.YtceefoopehoalaaNdHalf
namespace Go.Proofs.Ytceefoopehoalaa
open Go.RowKit
theorem same7_as {x : Nd} {lf : Bool} {K V D K' V' D' : Value} {w : World} (h1 : NdIs w w.heap.size K V D x) (h2 : NdIs w w.heap.size K' V' D' x) (hs : x.Short 1000000) (hl : x.leaf = lf) :
    Calls Try.prog 12 #[ndVal lf K V D, ndVal lf K' V' D'] w fun e w' => e = .returned (.bool true) ∧ Below w.heap.size w w' := by
  subst hl
  exact same7_yes h1 h2 (Nat.le_refl _) (Nat.le_refl _) hs
theorem Nd.noParts {n : Nd} (h : ¬ n.Parts) (hs : n.Snd) : (n.keys.length : Int) - (if n.leaf then 1 else 2) < 1 := by
  have : ¬ (if n.leaf then 2 else 3) ≤ n.keys.length := fun g => h ⟨hs, g⟩
  cases hl : n.leaf <;> simp_all <;> omega
theorem Nd.Parts.mostI {n : Nd} (h : n.Parts) : (1 : Int) ≤ (n.keys.length : Int) - (if n.leaf then 1 else 2) ∧ ((n.keys.length : Int) - (if n.leaf then 1 else 2)).toNat = n.most := by
  have := h.2
  unfold Nd.most
  cases hl : n.leaf <;> simp_all <;> omega
theorem zeroNd_is (w : World) (B : Nat) : NdIs w B (.slice none 0 0) (.slice none 0 0) (.slice none 0 0) ⟨false, [], [], []⟩ :=
  ⟨⟨[], Rd.nil _ _, rfl, fun _ _ _ a => by simp at a⟩, ⟨[], Rd.nil _ _, rfl, fun _ _ _ a => by simp at a⟩, Rd.nil _ _⟩
set_option maxRecDepth 100000 in
set_option maxHeartbeats 4000000 in
theorem nodeSplits_walk (n : Nd) (K V D : Value) (w : World) (hr : NdIs w w.heap.size K V D n) :
    Calls Try.prog 6 #[ndVal n.leaf K V D] w fun e w' => e = .returned (.bool true) ∧ Below w.heap.size w w' := by
  obtain ⟨A1, n1, c1, A2, n2, c2, A3, n3, c3, rfl, rfl, rfl⟩ := hr.slices
  have hc := cutNd_cut n
  have hb0 : Below w.heap.size w (w.alloc (.cells #[.bool n.leaf, .slice A1 n1 c1, .slice A2 n2 c2, .slice A3 n3 c3] 27)) := (Below.refl _ _).alloc (Nat.le_refl _) _
  have hfew := fewNd_any ((hr.below hb0).more hb0.size)
  have hlf : (cutNd n).leaf = n.leaf := rfl
  have hs0 : (w.alloc (.cells #[.bool n.leaf, .slice A1 n1 c1, .slice A2 n2 c2, .slice A3 n3 c3] 27)).heap.size = w.heap.size + 1 := by simp
  have htop := heap_alloc_last w (.cells #[.bool n.leaf, .slice A1 n1 c1, .slice A2 n2 c2, .slice A3 n3 c3] 27)
  obtain ⟨m, hm⟩ : ∃ m, m = cutNd n := ⟨_, rfl⟩
  rw [← hm] at hc hfew hlf
  rw [hs0, ← hlf] at hfew
  rw [← hlf] at hb0 htop hs0
  rw [← hlf]
  obtain ⟨lf, hlf2⟩ : ∃ x, x = m.leaf := ⟨_, rfl⟩
  rw [← hlf2] at hfew hb0 htop hs0 ⊢
  have hbx := NdBox.made w lf (.slice A1 n1 c1) (.slice A2 n2 c2) (.slice A3 n3 c3)
  have HF := Lib.hid hfew
  have HC := Lib.hid hc
  have H0 := Lib.hid hb0
  have HT := Lib.hid htop
  have HL := Lib.hid hlf2
  have HS0 := Lib.hid hs0
  obtain ⟨x0, x1, x2, x3⟩ := hbx
  clear hr hc hfew hlf hm hb0 htop hlf2 hs0
  go_enter Try.func6, Try.ntmps6
  go_wp2_with fail
  refine HF.out.mono ?_
  rintro e w1 ⟨K1, V1, D1, rfl, hn1, hb1⟩
  have HN1 := Lib.hid hn1
  have HB1 := Lib.hid (H0.out.trans (hb1.mono (by rw [← HS0.out]; exact H0.out.size)))
  have HT1 := Lib.hid ((hb1.block w.heap.size (by omega)).trans HT.out)
  clear hn1 hb1 x0 x1 x2 x3
  obtain ⟨A4, n4, c4, A5, n5, c5, A6, n6, c6, rfl, rfl, rfl⟩ := HN1.out.is.slices
  obtain ⟨y0, y1, y2, y3, f0, f1, f2, f3⟩ := out_cells HT1.out
  obtain ⟨W, hW⟩ : ∃ W, W = store4 w1 w.heap.size lf (.slice A4 n4 c4) (.slice A5 n5 c5) (.slice A6 n6 c6) := ⟨_, rfl⟩
  have hlaw : LawN w W (.slice A4 n4 c4) (.slice A5 n5 c5) (.slice A6 n6 c6) m := by rw [hW, HL.out]; exact LawN.start HT1.out HN1.out (Nat.lt_succ_self _) HB1.out
  have HWW := Lib.hid hW
  have HLaw := Lib.hid hlaw
  clear hW hlaw HF HN1 HB1 HT1 H0 HT
  go_wp2_with fail
  have hW := HWW.out
  unfold store4 at hW
  rw [← hW]
  clear hW HWW y0 y1 y2 y3 f0 f1 f2 f3
  obtain ⟨x0, x1, x2, x3⟩ := HLaw.out.box
  have hf := HLaw.out.few HC.out
  rw [← HL.out] at x0 hf
  go_wp2_with fail
  refine hf.mono ?_
  rintro e w2 ⟨K4, V4, D4, rfl, hn2, hl2, hb2⟩
  have HL2 := Lib.hid hl2
  have HN2 := Lib.hid hn2
  clear x0 x1 x2 x3 hf hn2 hl2 hb2 HLaw
  by_cases hp : m.Parts
  · have hn4 : n4 = m.keys.length := HL2.out.is.keys.len.1
    have hn5 : n5 = m.vals.length := HL2.out.is.vals.len.1
    have hn6 : n6 = m.kids.length := by have hkk := HL2.out.is.kids; obtain ⟨_, _, e, _⟩ := hkk; injection e with _ e1 e2; rw [cellsI_length] at e1; exact e1
    have hg4 : n4 ≤ c4 := HL2.out.is.keys.len.2.1
    have hg5 : n5 ≤ c5 := HL2.out.is.vals.len.2.1
    have hg6 : n6 ≤ c6 := by have hkk := HL2.out.is.kids; obtain ⟨_, _, e, g, _⟩ := hkk; injection e with _ e1 e2; rw [← e1, ← e2] at g; exact g
    have hp2 := hp.2
    have h4p : 0 < n4 := by rw [hn4]; split at hp2 <;> omega
    obtain ⟨bk, ok, rfl, -⟩ := HL2.out.is.keys.addr h4p
    have hsp := split_good HN2.out HC.out.short hp
    rw [← HL.out] at hsp
    have HP := Lib.hid hp
    have HNn := Lib.hid (And.intro hn4 (And.intro hn5 (And.intro hn6 (And.intro hg4 (And.intro hg5 hg6)))))
    clear hp hn4 hn5 hn6 hg4 hg5 hg6 hp2 h4p
    go_wp2_with fail
    refine hsp.mono ?_
    rintro e w3 ⟨h, Ka, Va, Da, kv, Kb, Vb, Db, hh, rfl, ha, hk, hb, hb3⟩
    have hst := LwH.start (HL2.out.kept hb3) ha.is hb.is hk.rd
    rw [m.lower_leaf, m.upper_leaf, ← HL.out] at hst
    have HSt := Lib.hid hst
    have HH := Lib.hid hh
    obtain ⟨B1, i1, j1, B2, i2, j2, B3, i3, j3, rfl, rfl, rfl⟩ := ha.is.slices
    obtain ⟨E1, k1, l1, E2, k2, l2, E3, k3, l3, rfl, rfl, rfl⟩ := hb.is.slices
    obtain ⟨Ak, ck, rfl⟩ := hk.form
    rw [cellsB_length] at HSt
    rw [cellsB_length]
    obtain ⟨key, hkey⟩ : ∃ x, x = m.keys.getD h [] := ⟨_, rfl⟩
    rw [← hkey] at HSt ⊢
    obtain ⟨kl, hkl⟩ : ∃ x, x = key.length := ⟨_, rfl⟩
    rw [← hkl] at HSt ⊢
    have HKey := Lib.hid hkey
    clear hst ha hb hk hb3 hsp hh hkl hkey
    obtain ⟨Wh, hWh⟩ : ∃ X, X = (w3.alloc (.cells #[.bool lf, .slice B1 i1 j1, .slice B2 i2 j2, .slice B3 i3 j3] 27)).alloc (.cells #[.bool lf, .slice E1 k1 l1, .slice E2 k2 l2, .slice E3 k3 l3] 27) := ⟨_, rfl⟩
    have hs4 := HSt.out.law.sound HC.out
    rw [sndB_iff.2 HP.out.1, ← HL.out] at hs4
    obtain ⟨x0, x1, x2, x3⟩ := HSt.out.law.box
    rw [← HL.out] at x0
    rw [← hWh] at HSt hs4
    have HWh := Lib.hid hWh
    have Hs4 := Lib.hid hs4
    obtain ⟨p, hp⟩ : ∃ p, p = w3.heap.size := ⟨_, rfl⟩
    obtain ⟨q, hq⟩ : ∃ q, q = p + 1 := ⟨_, rfl⟩
    rw [← hp, ← hq] at HSt
    have HPq := Lib.hid (And.intro hp hq)
    clear hWh hs4 hp hq
    go_wp2_with fail
    rw [← HWh.out]
    rw [← HPq.out.1, ← HPq.out.2]
    refine Hs4.out.mono ?_
    rintro e w5 ⟨rfl, hl5, hb5⟩
    have HS5 := Lib.hid (HSt.out.kept hb5)
    clear hb5 hl5 HSt Hs4 x0 x1 x2 x3 HWh HPq
    have hha := rhalf_any HS5.out.law.is HP.out.1 (by have := HC.out.k; omega) _ rfl
    rw [← HL.out] at hha
    obtain ⟨x0, x1, x2, x3⟩ := HS5.out.law.box
    rw [← HL.out] at x0
    have Hha := Lib.hid hha
    clear hha
    go_wp2_with fail
    refine Hha.out.mono ?_
    rintro e w6 ⟨h', rfl, hh1, -, hb6⟩
    have hhe : h' = h := by
      have h1 := hh1 (by rw [HL.out]; exact HP.out.mostI.1)
      rw [HL.out, HP.out.mostI.2] at h1
      exact h1.one HH.out
    subst hhe
    have HS6 := Lib.hid (HS5.out.kept hb6)
    clear hb6 hh1 HS5 x0 x1 x2 x3 Hha
    obtain ⟨hh1, hh2⟩ := HP.out.half HH.out
    obtain ⟨hn4, -, -, hg4, -⟩ := HNn.out
    obtain ⟨Ac, mc, cc, hkc, hkr, -, -, -⟩ := HS6.out.law.is.keys.cell (k := h') (by omega)
    rw [← HKey.out] at hkr
    have S8 : (fun w' : World => w'.cell? ⟨w.heap.size, 1, none⟩ = some (.slice (some ⟨bk, ok, none⟩) n4 c4) ∧ w'.cell? ⟨bk, ok + h', none⟩ = some (.slice Ac mc cc) ∧ (convert 22 9 (.slice Ak kl ck)).run Try.prog w' = .ok (.string ⟨key.toArray⟩) w' ∧ (convert 22 9 (.slice Ac mc cc)).run Try.prog w' = .ok (.string ⟨key.toArray⟩) w') w6.drew :=
      ⟨HS6.out.law.box.c1, hkc, run_string_rd (P := Try.prog) 22 9 5 Try.underlying22 Try.underlying5 Try.underlying9 HS6.out.key.drew, run_string_rd (P := Try.prog) 22 9 5 Try.underlying22 Try.underlying5 Try.underlying9 hkr.drew⟩
    have H8 := Lib.hid S8
    have kk0 : (0 : Int) ≤ (h' : Int) := by omega
    have kk1 : (h' : Int) < (n4 : Int) := by omega
    have kk3 : (h' : Int).toNat = h' := by omega
    have kk4 : ¬ ((h' : Int) = 0) := by omega
    clear S8 hkc hkr hn4 hg4 hh1 hh2
    go_wp2_with fail
    go_region_held3 (fun w' => w'.cell? ⟨w.heap.size, 1, none⟩ = some (.slice (some ⟨bk, ok, none⟩) n4 c4) ∧ w'.cell? ⟨bk, ok + h', none⟩ = some (.slice Ac mc cc) ∧ (convert 22 9 (.slice Ak kl ck)).run Try.prog w' = .ok (.string ⟨key.toArray⟩) w' ∧ (convert 22 9 (.slice Ac mc cc)).run Try.prog w' = .ok (.string ⟨key.toArray⟩) w') (exact H8.out) (fail)
    obtain ⟨W8, hW8⟩ : ∃ X, X = w6.drew := ⟨_, rfl⟩
    have hs8 := HS6.out.kept (Below.refl _ _).drew
    rw [← hW8] at hs8
    rw [← hW8]
    obtain ⟨x0, x1, x2, x3⟩ := hs8.law.box
    rw [← HL.out] at x0
    have HS_8 := Lib.hid hs8
    clear hW8 hs8 H8 HS6 kk0 kk1 kk3 kk4
    cases lf
    · go_wp2_with fail
      obtain ⟨hn4, hn5, hn6, hg4, hg5, hg6⟩ := HNn.out
      obtain ⟨hh1, hh2⟩ := HP.out.half HH.out
      rw [← HL.out, ← hn4] at hh2
      have hh2 : h' + 1 < n4 := hh2
      have hml : m.leaf = false := HL.out.symm
      have hrl : n6 = n4 + 1 := by rw [hn6, hn4]; exact (HP.out.1.ofNot hml).2.2
      obtain ⟨iT, hiT, hT0, hT1, hT2⟩ := info_parts info_row
      obtain ⟨iI, hiI, hI0, hI1, hI2⟩ := info_parts info_int
      have hw1 : IntKind.i64.wrap ((h' : Int) + 1) = ((h' + 1 : Nat) : Int) := by rw [IntWalk.i64_in _ (by have := HC.out.k; omega)]; rfl
      have hk1 := cut_h (P := Try.prog) Try.underlying24 hiT hT1 (some ⟨bk, ok, none⟩) n4 c4 h' (by omega) _ rfl
      have hk2 := cut_h (P := Try.prog) Try.underlying25 hiI hI1 A6 n6 c6 (h' + 1) (by omega) _ hw1
      obtain ⟨F1, hF1, hk3⟩ := cut_l (P := Try.prog) Try.underlying24 hiT hT1 (some ⟨bk, ok, none⟩) n4 c4 (h' + 1) (by omega) _ hw1
      obtain ⟨F2, hF2, hk4⟩ := cut_l (P := Try.prog) Try.underlying25 hiI hI1 A6 n6 c6 (h' + 1) (by omega) _ hw1
      have hlo := fun (W : World) (h : LwH w W (.slice (some ⟨bk, ok, none⟩) n4 c4) (.slice A5 n5 c5) (.slice A6 n6 c6) m p (.slice B1 i1 j1) (.slice B2 i2 j2) (.slice B3 i3 j3) (m.lower h') (.slice Ak kl ck) key q (.slice E1 k1 l1) (.slice E2 k2 l2) (.slice E3 k3 l3) (m.upper h')) => h.law.is.lowerNot hml (show h' ≤ n4 by omega) (show h' + 1 ≤ n6 by omega)
      have hup := fun (W : World) (h : LwH w W (.slice (some ⟨bk, ok, none⟩) n4 c4) (.slice A5 n5 c5) (.slice A6 n6 c6) m p (.slice B1 i1 j1) (.slice B2 i2 j2) (.slice B3 i3 j3) (m.lower h') (.slice Ak kl ck) key q (.slice E1 k1 l1) (.slice E2 k2 l2) (.slice E3 k3 l3) (m.upper h')) => h.law.is.upperNot hml (show h' + 1 ≤ n4 by omega) (show h' + 1 ≤ n6 by omega)
      clear hw1 hiI hI0 hI1 hI2
      rw [← hF1, ← hF2] at hup
      have HK1 := Lib.hid hk1
      have HK2 := Lib.hid hk2
      have HK3 := Lib.hid hk3
      have HK4 := Lib.hid hk4
      have HLo := Lib.hid hlo
      have HUp := Lib.hid hup
      have LA := Lib.hid (show (m.lower h').leaf = false from (m.lower_leaf h').trans hml)
      have LB := Lib.hid (show (m.upper h').leaf = false from (m.upper_leaf h').trans hml)
      clear hk1 hk2 hk3 hk4 hiT hT0 hT1 hT2 hF1 hF2 hlo hup hn4 hn5 hn6 hg4 hg5 hg6 hh1 hh2 hml hrl x0 x1 x2 x3
      have T8 : ∀ {W : World}, LwH w W (.slice (some ⟨bk, ok, none⟩) n4 c4) (.slice A5 n5 c5) (.slice A6 n6 c6) m p (.slice B1 i1 j1) (.slice B2 i2 j2) (.slice B3 i3 j3) (m.lower h') (.slice Ak kl ck) key q (.slice E1 k1 l1) (.slice E2 k2 l2) (.slice E3 k3 l3) (m.upper h') → (fun w' => w'.cell? ⟨w.heap.size, 1, none⟩ = some (.slice (some ⟨bk, ok, none⟩) n4 c4) ∧ w'.cell? ⟨w.heap.size, 3, none⟩ = some (.slice A6 n6 c6) ∧ w'.cell? ⟨p, 0, none⟩ = some (.bool false) ∧ w'.cell? ⟨p, 1, none⟩ = some (.slice B1 i1 j1) ∧ w'.cell? ⟨p, 2, none⟩ = some (.slice B2 i2 j2) ∧ w'.cell? ⟨p, 3, none⟩ = some (.slice B3 i3 j3) ∧ w'.cell? ⟨q, 0, none⟩ = some (.bool false) ∧ w'.cell? ⟨q, 1, none⟩ = some (.slice E1 k1 l1) ∧ w'.cell? ⟨q, 2, none⟩ = some (.slice E2 k2 l2) ∧ w'.cell? ⟨q, 3, none⟩ = some (.slice E3 k3 l3)) W := fun {W} hT => by
        obtain ⟨a0, a1, a2, a3⟩ := hT.boxA
        obtain ⟨b0, b1, b2, b3⟩ := hT.boxB
        rw [LA.out] at a0
        rw [LB.out] at b0
        exact ⟨hT.law.box.c1, hT.law.box.c3, a0, a1, a2, a3, b0, b1, b2, b3⟩
      obtain ⟨wd, hwd⟩ : ∃ x, x = W8.drew := ⟨_, rfl⟩
      have HS_wd : Hid (LwH w wd (.slice (some ⟨bk, ok, none⟩) n4 c4) (.slice A5 n5 c5) (.slice A6 n6 c6) m p (.slice B1 i1 j1) (.slice B2 i2 j2) (.slice B3 i3 j3) (m.lower h') (.slice Ak kl ck) key q (.slice E1 k1 l1) (.slice E2 k2 l2) (.slice E3 k3 l3) (m.upper h')) := Lib.hid (by rw [hwd]; exact HS_8.out.kept (Below.refl _ _).drew)
      have Zwd := Lib.hid (show wd.heap.size = W8.heap.size by rw [hwd]; rfl)
      have S0 : (fun w' => w'.cell? ⟨w.heap.size, 1, none⟩ = some (.slice (some ⟨bk, ok, none⟩) n4 c4) ∧ w'.cell? ⟨w.heap.size, 3, none⟩ = some (.slice A6 n6 c6) ∧ w'.cell? ⟨p, 0, none⟩ = some (.bool false) ∧ w'.cell? ⟨p, 1, none⟩ = some (.slice B1 i1 j1) ∧ w'.cell? ⟨p, 2, none⟩ = some (.slice B2 i2 j2) ∧ w'.cell? ⟨p, 3, none⟩ = some (.slice B3 i3 j3) ∧ w'.cell? ⟨q, 0, none⟩ = some (.bool false) ∧ w'.cell? ⟨q, 1, none⟩ = some (.slice E1 k1 l1) ∧ w'.cell? ⟨q, 2, none⟩ = some (.slice E2 k2 l2) ∧ w'.cell? ⟨q, 3, none⟩ = some (.slice E3 k3 l3)) wd := T8 HS_wd.out
      have HQ0 := Lib.hid HS_wd.out
      refine wp_region_late (S := fun w' => w'.cell? ⟨w.heap.size, 1, none⟩ = some (.slice (some ⟨bk, ok, none⟩) n4 c4) ∧ w'.cell? ⟨w.heap.size, 3, none⟩ = some (.slice A6 n6 c6) ∧ w'.cell? ⟨p, 0, none⟩ = some (.bool false) ∧ w'.cell? ⟨p, 1, none⟩ = some (.slice B1 i1 j1) ∧ w'.cell? ⟨p, 2, none⟩ = some (.slice B2 i2 j2) ∧ w'.cell? ⟨p, 3, none⟩ = some (.slice B3 i3 j3) ∧ w'.cell? ⟨q, 0, none⟩ = some (.bool false) ∧ w'.cell? ⟨q, 1, none⟩ = some (.slice E1 k1 l1) ∧ w'.cell? ⟨q, 2, none⟩ = some (.slice E2 k2 l2) ∧ w'.cell? ⟨q, 3, none⟩ = some (.slice E3 k3 l3)) [] (by kernel_rfl) (by rw [← hwd]; exact S0) (fun hHeld => ?_)
      rw [← hwd]
      clear hwd
      refine' anyU_take (i := 0) (oi := ⟨some 86, .load 27 (.tmp 3), _, _, _, none⟩) (v := _) rfl (by kernel_rfl) (fun _ _ _ h => h) (Or.inl ⟨by rfl, ?hy1⟩) (by assumption) ?rest1
      case hy1 => (intro w hSw; obtain ⟨s0, s1, s2, s3, s4, s5, s6, s7, s8, s9⟩ := hSw; go_simp <;> with_reducible rfl)
      case rest1 =>
      go_frame
      refine' anyU_take0 (i := 1) (oi := ⟨some 87, .fieldAddr 27 (.tmp 1) 1, _, _, _, none⟩) (v := _) rfl (by kernel_rfl) (fun _ _ _ h => h) (Or.inl ⟨by rfl, ?hy2⟩) (by assumption) ?rest2
      case hy2 => (intro w hSw; go_simp <;> with_reducible rfl)
      case rest2 =>
      go_frame
      refine' anyU_take (i := 2) (oi := ⟨some 88, .load 24 (.tmp 87), _, _, _, none⟩) (v := _) rfl (by kernel_rfl) (fun _ _ _ h => h) (Or.inl ⟨by rfl, ?hy3⟩) (by assumption) ?rest3
      case hy3 => (intro w hSw; obtain ⟨s0, s1, s2, s3, s4, s5, s6, s7, s8, s9⟩ := hSw; go_simp <;> with_reducible rfl)
      case rest3 =>
      go_frame
      refine' anyU_take0 (i := 3) (oi := ⟨some 89, .move (.tmp 7), _, _, _, none⟩) (v := _) rfl (by kernel_rfl) (fun _ _ _ h => h) (Or.inl ⟨by rfl, ?hy4⟩) (by assumption) ?rest4
      case hy4 => (intro w hSw; go_simp <;> with_reducible rfl)
      case rest4 =>
      go_frame
      refine' anyU_take0 (i := 4) (oi := ⟨some 90, .slice 24 (.tmp 88) none (some (.tmp 89)) none, _, _, _, none⟩) (v := .slice (some ⟨bk, ok, none⟩) h' c4) rfl (by kernel_rfl) (fun _ _ _ h => h) (Or.inl ⟨by rfl, ?hy5⟩) (by assumption) ?rest5
      case hy5 => (intro w hSw; exact exec_cut (x := .tmp 88) (lo := none) (hi := (some (.tmp 89))) rfl (v := .slice (some ⟨bk, ok, none⟩) n4 c4) rfl (l := none) rfl (h := some (.int .i64 (h' : Int))) rfl (HK1.out _))
      case rest5 =>
      go_frame
      refine' anyU_take0 (i := 5) (oi := ⟨some 91, .fieldAddr 27 (.tmp 1) 3, _, _, _, none⟩) (v := _) rfl (by kernel_rfl) (fun _ _ _ h => h) (Or.inl ⟨by rfl, ?hy6⟩) (by assumption) ?rest6
      case hy6 => (intro w hSw; go_simp <;> with_reducible rfl)
      case rest6 =>
      go_frame
      refine' anyU_take (i := 6) (oi := ⟨some 92, .load 25 (.tmp 91), _, _, _, none⟩) (v := _) rfl (by kernel_rfl) (fun _ _ _ h => h) (Or.inl ⟨by rfl, ?hy7⟩) (by assumption) ?rest7
      case hy7 => (intro w hSw; obtain ⟨s0, s1, s2, s3, s4, s5, s6, s7, s8, s9⟩ := hSw; go_simp <;> with_reducible rfl)
      case rest7 =>
      go_frame
      refine' anyU_take0 (i := 7) (oi := ⟨some 93, .move (.tmp 7), _, _, _, none⟩) (v := _) rfl (by kernel_rfl) (fun _ _ _ h => h) (Or.inl ⟨by rfl, ?hy8⟩) (by assumption) ?rest8
      case hy8 => (intro w hSw; go_simp <;> with_reducible rfl)
      case rest8 =>
      go_frame
      refine' anyU_take0 (i := 8) (oi := ⟨some 94, .binOp .add 3 (.tmp 93) (.const (.int .i64 1)) 3, _, _, _, none⟩) (v := _) rfl (by kernel_rfl) (fun _ _ _ h => h) (Or.inl ⟨by rfl, ?hy9⟩) (by assumption) ?rest9
      case hy9 => (intro w hSw; go_simp <;> with_reducible rfl)
      case rest9 =>
      go_frame
      refine' anyU_take0 (i := 9) (oi := ⟨some 95, .slice 25 (.tmp 92) none (some (.tmp 94)) none, _, _, _, none⟩) (v := .slice A6 (h' + 1) c6) rfl (by kernel_rfl) (fun _ _ _ h => h) (Or.inl ⟨by rfl, ?hy10⟩) (by assumption) ?rest10
      case hy10 => (intro w hSw; exact exec_cut (x := .tmp 92) (lo := none) (hi := (some (.tmp 94))) rfl (v := .slice A6 n6 c6) rfl (l := none) rfl (h := some (.int .i64 (IntKind.i64.wrap ((h' : Int) + 1)))) rfl (HK2.out _))
      case rest10 =>
      go_frame
      refine' anyU_take0 (i := 10) (oi := ⟨some 96, .build 27 #[(1, .tmp 90), (3, .tmp 95)], _, _, _, none⟩) (v := _) rfl (by kernel_rfl) (fun _ _ _ h => h) (Or.inl ⟨by rfl, ?hy11⟩) (by assumption) ?rest11
      case hy11 => (intro w hSw; go_simp <;> with_reducible rfl)
      case rest11 =>
      go_frame
      refine anyU_ready (rs := [11]) (by kernel_rfl) (by simp) (AllU.cons (o := ⟨some 97, .call { callee := .value (.func 12), args := #[.tmp 86, .tmp 96], argTypes := #[27, 27] }, _, _, _, none⟩) rfl (fun K hK => ?_) (fun h => absurd h (by decide)) AllU.nil)
      rw [if_pos (by rfl)]
      go_simp
      refine (same7_as HQ0.out.isA ((HLo.out _ HQ0.out).more (Nat.le_refl _)) (m.lower_short h' HC.out.short) LA.out).mono ?_
      rintro e v1 ⟨rfl, hb⟩
      have HQ1 := Lib.hid (HQ0.out.kept hb)
      have Sx := T8 HQ1.out
      dsimp only
      refine hK.out _ _ (fun _ => Sx) ?_
      clear hK K hb
      try go_frame
      refine' anyU_take0 (i := 12) (oi := ⟨some 98, .move (.tmp 97), _, _, _, none⟩) (v := _) rfl (by kernel_rfl) (fun _ _ _ h => h) (Or.inl ⟨by rfl, ?hy12⟩) (by assumption) ?rest12
      case hy12 => (intro w hSw; go_simp <;> with_reducible rfl)
      case rest12 =>
      go_frame
      refine' anyU_take (i := 13) (oi := ⟨some 99, .load 27 (.tmp 5), _, _, _, some (12, true)⟩) (v := _) rfl (by kernel_rfl) (fun _ _ _ h => h) (Or.inl ⟨by rfl, ?hy13⟩) (by assumption) ?rest13
      case hy13 => (intro w hSw; obtain ⟨s0, s1, s2, s3, s4, s5, s6, s7, s8, s9⟩ := hSw; go_simp <;> with_reducible rfl)
      case rest13 =>
      go_frame
      refine' anyU_take0 (i := 14) (oi := ⟨some 100, .fieldAddr 27 (.tmp 1) 1, _, _, _, some (12, true)⟩) (v := _) rfl (by kernel_rfl) (fun _ _ _ h => h) (Or.inl ⟨by rfl, ?hy14⟩) (by assumption) ?rest14
      case hy14 => (intro w hSw; go_simp <;> with_reducible rfl)
      case rest14 =>
      go_frame
      refine' anyU_take (i := 15) (oi := ⟨some 101, .load 24 (.tmp 100), _, _, _, some (12, true)⟩) (v := _) rfl (by kernel_rfl) (fun _ _ _ h => h) (Or.inl ⟨by rfl, ?hy15⟩) (by assumption) ?rest15
      case hy15 => (intro w hSw; obtain ⟨s0, s1, s2, s3, s4, s5, s6, s7, s8, s9⟩ := hSw; go_simp <;> with_reducible rfl)
      case rest15 =>
      go_frame
      refine' anyU_take0 (i := 16) (oi := ⟨some 102, .move (.tmp 7), _, _, _, some (12, true)⟩) (v := _) rfl (by kernel_rfl) (fun _ _ _ h => h) (Or.inl ⟨by rfl, ?hy16⟩) (by assumption) ?rest16
      case hy16 => (intro w hSw; go_simp <;> with_reducible rfl)
      case rest16 =>
      go_frame
      refine' anyU_take0 (i := 17) (oi := ⟨some 103, .binOp .add 3 (.tmp 102) (.const (.int .i64 1)) 3, _, _, _, some (12, true)⟩) (v := _) rfl (by kernel_rfl) (fun _ _ _ h => h) (Or.inl ⟨by rfl, ?hy17⟩) (by assumption) ?rest17
      case hy17 => (intro w hSw; go_simp <;> with_reducible rfl)
      case rest17 =>
      go_frame
      refine' anyU_take0 (i := 18) (oi := ⟨some 104, .slice 24 (.tmp 101) (some (.tmp 103)) none none, _, _, _, some (12, true)⟩) (v := .slice F1 (n4 - (h' + 1)) (c4 - (h' + 1))) rfl (by kernel_rfl) (fun _ _ _ h => h) (Or.inl ⟨by rfl, ?hy18⟩) (by assumption) ?rest18
      case hy18 => (intro w hSw; exact exec_cut (x := .tmp 101) (lo := (some (.tmp 103))) (hi := none) rfl (v := .slice (some ⟨bk, ok, none⟩) n4 c4) rfl (l := some (.int .i64 (IntKind.i64.wrap ((h' : Int) + 1)))) rfl (h := none) rfl (HK3.out _))
      case rest18 =>
      go_frame
      refine' anyU_take0 (i := 19) (oi := ⟨some 105, .fieldAddr 27 (.tmp 1) 3, _, _, _, some (12, true)⟩) (v := _) rfl (by kernel_rfl) (fun _ _ _ h => h) (Or.inl ⟨by rfl, ?hy19⟩) (by assumption) ?rest19
      case hy19 => (intro w hSw; go_simp <;> with_reducible rfl)
      case rest19 =>
      go_frame
      refine' anyU_take (i := 20) (oi := ⟨some 106, .load 25 (.tmp 105), _, _, _, some (12, true)⟩) (v := _) rfl (by kernel_rfl) (fun _ _ _ h => h) (Or.inl ⟨by rfl, ?hy20⟩) (by assumption) ?rest20
      case hy20 => (intro w hSw; obtain ⟨s0, s1, s2, s3, s4, s5, s6, s7, s8, s9⟩ := hSw; go_simp <;> with_reducible rfl)
      case rest20 =>
      go_frame
      refine' anyU_take0 (i := 21) (oi := ⟨some 107, .move (.tmp 7), _, _, _, some (12, true)⟩) (v := _) rfl (by kernel_rfl) (fun _ _ _ h => h) (Or.inl ⟨by rfl, ?hy21⟩) (by assumption) ?rest21
      case hy21 => (intro w hSw; go_simp <;> with_reducible rfl)
      case rest21 =>
      go_frame
      refine' anyU_take0 (i := 22) (oi := ⟨some 108, .binOp .add 3 (.tmp 107) (.const (.int .i64 1)) 3, _, _, _, some (12, true)⟩) (v := _) rfl (by kernel_rfl) (fun _ _ _ h => h) (Or.inl ⟨by rfl, ?hy22⟩) (by assumption) ?rest22
      case hy22 => (intro w hSw; go_simp <;> with_reducible rfl)
      case rest22 =>
      go_frame
      refine' anyU_take0 (i := 23) (oi := ⟨some 109, .slice 25 (.tmp 106) (some (.tmp 108)) none none, _, _, _, some (12, true)⟩) (v := .slice F2 (n6 - (h' + 1)) (c6 - (h' + 1))) rfl (by kernel_rfl) (fun _ _ _ h => h) (Or.inl ⟨by rfl, ?hy23⟩) (by assumption) ?rest23
      case hy23 => (intro w hSw; exact exec_cut (x := .tmp 106) (lo := (some (.tmp 108))) (hi := none) rfl (v := .slice A6 n6 c6) rfl (l := some (.int .i64 (IntKind.i64.wrap ((h' : Int) + 1)))) rfl (h := none) rfl (HK4.out _))
      case rest23 =>
      go_frame
      refine' anyU_take0 (i := 24) (oi := ⟨some 110, .build 27 #[(1, .tmp 104), (3, .tmp 109)], _, _, _, some (12, true)⟩) (v := _) rfl (by kernel_rfl) (fun _ _ _ h => h) (Or.inl ⟨by rfl, ?hy24⟩) (by assumption) ?rest24
      case hy24 => (intro w hSw; go_simp <;> with_reducible rfl)
      case rest24 =>
      go_frame
      refine anyU_ready (rs := [25]) (by kernel_rfl) (by simp) (AllU.cons (o := ⟨some 111, .call { callee := .value (.func 12), args := #[.tmp 99, .tmp 110], argTypes := #[27, 27] }, _, _, _, some (12, true)⟩) rfl (fun K hK => ?_) (fun h => absurd h (by decide)) AllU.nil)
      rw [if_pos (by rfl)]
      go_simp
      refine (same7_as HQ1.out.isB ((HUp.out _ HQ1.out).more (Nat.le_refl _)) (m.upper_short h' HC.out.short) LB.out).mono ?_
      rintro e v2 ⟨rfl, hb⟩
      have HQ2 := Lib.hid (HQ1.out.kept hb)
      have Sx := T8 HQ2.out
      dsimp only
      refine hK.out _ _ (fun _ => Sx) ?_
      clear hK K hb
      try go_frame
      refine' anyU_take0 (i := 26) (oi := ⟨some 112, .pick (.tmp 98) (.tmp 111) (.const (.bool false)), _, _, _, none⟩) (v := _) rfl (by kernel_rfl) (fun _ _ _ h => h) (Or.inl ⟨by rfl, ?hy25⟩) (by assumption) ?rest25
      case hy25 => (intro w hSw; go_simp <;> with_reducible rfl)
      case rest25 =>
      go_frame
      refine' anyU_take0 (i := 27) (oi := ⟨some 113, .move (.tmp 112), _, _, _, none⟩) (v := _) rfl (by kernel_rfl) (fun _ _ _ h => h) (Or.inl ⟨by rfl, ?hy26⟩) (by assumption) ?rest26
      case hy26 => (intro w hSw; go_simp <;> with_reducible rfl)
      case rest26 =>
      go_frame
      refine anyU_ready (rs := [28]) (by kernel_rfl) (by simp) (AllU.cons (o := ⟨some 114, .call { callee := .value (.func 13), args := #[], argTypes := #[] }, _, _, _, some (27, true)⟩) rfl (fun K hK => ?_) (fun h => absurd h (by decide)) AllU.nil)
      rw [if_pos (by rfl)]
      go_simp
      refine (lives07_any _).mono ?_
      rintro e v3 ⟨rfl, hb⟩
      have HQ3 := Lib.hid (HQ2.out.kept hb)
      have Sx := T8 HQ3.out
      dsimp only
      refine hK.out _ _ (fun _ => Sx) ?_
      clear hK K hb
      try go_frame
      refine' anyU_take0 (i := 29) (oi := ⟨some 115, .pick (.tmp 113) (.tmp 114) (.const (.bool false)), _, _, _, none⟩) (v := _) rfl (by kernel_rfl) (fun _ _ _ h => h) (Or.inl ⟨by rfl, ?hy27⟩) (by assumption) ?rest27
      case hy27 => (intro w hSw; go_simp <;> with_reducible rfl)
      case rest27 =>
      go_frame
      refine' anyU_take0 (i := 30) (oi := ⟨some 2, .assign (.tmp 115), _, _, _, none⟩) (v := _) rfl (by kernel_rfl) (fun _ _ _ h => h) (Or.inl ⟨by rfl, ?hy28⟩) (by assumption) ?rest28
      case hy28 => (intro w hSw; go_simp <;> with_reducible rfl)
      case rest28 =>
      go_frame
      refine anyU_done (by kernel_rfl) ?_ _
      go_wp2_with fail
      go_ret
      exact ⟨rfl, HQ3.out.law.below⟩
    · go_wp2_with fail
      obtain ⟨hn4, hn5, hn6, hg4, hg5, hg6⟩ := HNn.out
      obtain ⟨hh1, hh2⟩ := HP.out.half HH.out
      rw [← HL.out, ← hn4] at hh2
      have hh2 : h' + 0 < n4 := hh2
      have hml : m.leaf = true := HL.out.symm
      have hrl : n5 = n4 := by rw [hn5, hn4]; exact (HP.out.1.ofLeaf hml).2
      obtain ⟨iT, hiT, hT0, hT1, hT2⟩ := info_parts info_row
      have hk1 := cut_h (P := Try.prog) Try.underlying24 hiT hT1 (some ⟨bk, ok, none⟩) n4 c4 h' (by omega) _ rfl
      have hk2 := cut_h (P := Try.prog) Try.underlying24 hiT hT1 A5 n5 c5 h' (by omega) _ rfl
      obtain ⟨F1, hF1, hk3⟩ := cut_l (P := Try.prog) Try.underlying24 hiT hT1 (some ⟨bk, ok, none⟩) n4 c4 h' (by omega) _ rfl
      obtain ⟨F2, hF2, hk4⟩ := cut_l (P := Try.prog) Try.underlying24 hiT hT1 A5 n5 c5 h' (by omega) _ rfl
      have hlo := fun (W : World) (h : LwH w W (.slice (some ⟨bk, ok, none⟩) n4 c4) (.slice A5 n5 c5) (.slice A6 n6 c6) m p (.slice B1 i1 j1) (.slice B2 i2 j2) (.slice B3 i3 j3) (m.lower h') (.slice Ak kl ck) key q (.slice E1 k1 l1) (.slice E2 k2 l2) (.slice E3 k3 l3) (m.upper h')) => h.law.is.lowerLeaf hml (show h' ≤ n4 by omega) (show h' ≤ n5 by omega)
      have hup := fun (W : World) (h : LwH w W (.slice (some ⟨bk, ok, none⟩) n4 c4) (.slice A5 n5 c5) (.slice A6 n6 c6) m p (.slice B1 i1 j1) (.slice B2 i2 j2) (.slice B3 i3 j3) (m.lower h') (.slice Ak kl ck) key q (.slice E1 k1 l1) (.slice E2 k2 l2) (.slice E3 k3 l3) (m.upper h')) => h.law.is.upperLeaf hml (show h' ≤ n4 by omega) (show h' ≤ n5 by omega)
      rw [← hF1, ← hF2] at hup
      have HK1 := Lib.hid hk1
      have HK2 := Lib.hid hk2
      have HK3 := Lib.hid hk3
      have HK4 := Lib.hid hk4
      have HLo := Lib.hid hlo
      have HUp := Lib.hid hup
      have LA := Lib.hid (show (m.lower h').leaf = true from (m.lower_leaf h').trans hml)
      have LB := Lib.hid (show (m.upper h').leaf = true from (m.upper_leaf h').trans hml)
      clear hk1 hk2 hk3 hk4 hiT hT0 hT1 hT2 hF1 hF2 hlo hup hn4 hn5 hn6 hg4 hg5 hg6 hh1 hh2 hml hrl x0 x1 x2 x3
      have T8 : ∀ {W : World}, LwH w W (.slice (some ⟨bk, ok, none⟩) n4 c4) (.slice A5 n5 c5) (.slice A6 n6 c6) m p (.slice B1 i1 j1) (.slice B2 i2 j2) (.slice B3 i3 j3) (m.lower h') (.slice Ak kl ck) key q (.slice E1 k1 l1) (.slice E2 k2 l2) (.slice E3 k3 l3) (m.upper h') → (fun w' => w'.cell? ⟨w.heap.size, 1, none⟩ = some (.slice (some ⟨bk, ok, none⟩) n4 c4) ∧ w'.cell? ⟨w.heap.size, 2, none⟩ = some (.slice A5 n5 c5) ∧ w'.cell? ⟨p, 0, none⟩ = some (.bool true) ∧ w'.cell? ⟨p, 1, none⟩ = some (.slice B1 i1 j1) ∧ w'.cell? ⟨p, 2, none⟩ = some (.slice B2 i2 j2) ∧ w'.cell? ⟨p, 3, none⟩ = some (.slice B3 i3 j3) ∧ w'.cell? ⟨q, 0, none⟩ = some (.bool true) ∧ w'.cell? ⟨q, 1, none⟩ = some (.slice E1 k1 l1) ∧ w'.cell? ⟨q, 2, none⟩ = some (.slice E2 k2 l2) ∧ w'.cell? ⟨q, 3, none⟩ = some (.slice E3 k3 l3)) W := fun {W} hT => by
        obtain ⟨a0, a1, a2, a3⟩ := hT.boxA
        obtain ⟨b0, b1, b2, b3⟩ := hT.boxB
        rw [LA.out] at a0
        rw [LB.out] at b0
        exact ⟨hT.law.box.c1, hT.law.box.c2, a0, a1, a2, a3, b0, b1, b2, b3⟩
      obtain ⟨wd, hwd⟩ : ∃ x, x = W8.drew := ⟨_, rfl⟩
      have HS_wd : Hid (LwH w wd (.slice (some ⟨bk, ok, none⟩) n4 c4) (.slice A5 n5 c5) (.slice A6 n6 c6) m p (.slice B1 i1 j1) (.slice B2 i2 j2) (.slice B3 i3 j3) (m.lower h') (.slice Ak kl ck) key q (.slice E1 k1 l1) (.slice E2 k2 l2) (.slice E3 k3 l3) (m.upper h')) := Lib.hid (by rw [hwd]; exact HS_8.out.kept (Below.refl _ _).drew)
      have Zwd := Lib.hid (show wd.heap.size = W8.heap.size by rw [hwd]; rfl)
      have S0 : (fun w' => w'.cell? ⟨w.heap.size, 1, none⟩ = some (.slice (some ⟨bk, ok, none⟩) n4 c4) ∧ w'.cell? ⟨w.heap.size, 2, none⟩ = some (.slice A5 n5 c5) ∧ w'.cell? ⟨p, 0, none⟩ = some (.bool true) ∧ w'.cell? ⟨p, 1, none⟩ = some (.slice B1 i1 j1) ∧ w'.cell? ⟨p, 2, none⟩ = some (.slice B2 i2 j2) ∧ w'.cell? ⟨p, 3, none⟩ = some (.slice B3 i3 j3) ∧ w'.cell? ⟨q, 0, none⟩ = some (.bool true) ∧ w'.cell? ⟨q, 1, none⟩ = some (.slice E1 k1 l1) ∧ w'.cell? ⟨q, 2, none⟩ = some (.slice E2 k2 l2) ∧ w'.cell? ⟨q, 3, none⟩ = some (.slice E3 k3 l3)) wd := T8 HS_wd.out
      have HQ0 := Lib.hid HS_wd.out
      refine wp_region_late (S := fun w' => w'.cell? ⟨w.heap.size, 1, none⟩ = some (.slice (some ⟨bk, ok, none⟩) n4 c4) ∧ w'.cell? ⟨w.heap.size, 2, none⟩ = some (.slice A5 n5 c5) ∧ w'.cell? ⟨p, 0, none⟩ = some (.bool true) ∧ w'.cell? ⟨p, 1, none⟩ = some (.slice B1 i1 j1) ∧ w'.cell? ⟨p, 2, none⟩ = some (.slice B2 i2 j2) ∧ w'.cell? ⟨p, 3, none⟩ = some (.slice B3 i3 j3) ∧ w'.cell? ⟨q, 0, none⟩ = some (.bool true) ∧ w'.cell? ⟨q, 1, none⟩ = some (.slice E1 k1 l1) ∧ w'.cell? ⟨q, 2, none⟩ = some (.slice E2 k2 l2) ∧ w'.cell? ⟨q, 3, none⟩ = some (.slice E3 k3 l3)) [] (by kernel_rfl) (by rw [← hwd]; exact S0) (fun hHeld => ?_)
      rw [← hwd]
      clear hwd
      refine' anyU_take (i := 0) (oi := ⟨some 59, .load 27 (.tmp 3), _, _, _, none⟩) (v := _) rfl (by kernel_rfl) (fun _ _ _ h => h) (Or.inl ⟨by rfl, ?hy29⟩) (by assumption) ?rest29
      case hy29 => (intro w hSw; obtain ⟨s0, s1, s2, s3, s4, s5, s6, s7, s8, s9⟩ := hSw; go_simp <;> with_reducible rfl)
      case rest29 =>
      go_frame
      refine' anyU_take0 (i := 1) (oi := ⟨some 60, .fieldAddr 27 (.tmp 1) 1, _, _, _, none⟩) (v := _) rfl (by kernel_rfl) (fun _ _ _ h => h) (Or.inl ⟨by rfl, ?hy30⟩) (by assumption) ?rest30
      case hy30 => (intro w hSw; go_simp <;> with_reducible rfl)
      case rest30 =>
      go_frame
      refine' anyU_take (i := 2) (oi := ⟨some 61, .load 24 (.tmp 60), _, _, _, none⟩) (v := _) rfl (by kernel_rfl) (fun _ _ _ h => h) (Or.inl ⟨by rfl, ?hy31⟩) (by assumption) ?rest31
      case hy31 => (intro w hSw; obtain ⟨s0, s1, s2, s3, s4, s5, s6, s7, s8, s9⟩ := hSw; go_simp <;> with_reducible rfl)
      case rest31 =>
      go_frame
      refine' anyU_take0 (i := 3) (oi := ⟨some 62, .move (.tmp 7), _, _, _, none⟩) (v := _) rfl (by kernel_rfl) (fun _ _ _ h => h) (Or.inl ⟨by rfl, ?hy32⟩) (by assumption) ?rest32
      case hy32 => (intro w hSw; go_simp <;> with_reducible rfl)
      case rest32 =>
      go_frame
      refine' anyU_take0 (i := 4) (oi := ⟨some 63, .slice 24 (.tmp 61) none (some (.tmp 62)) none, _, _, _, none⟩) (v := .slice (some ⟨bk, ok, none⟩) h' c4) rfl (by kernel_rfl) (fun _ _ _ h => h) (Or.inl ⟨by rfl, ?hy33⟩) (by assumption) ?rest33
      case hy33 => (intro w hSw; exact exec_cut (x := .tmp 61) (lo := none) (hi := (some (.tmp 62))) rfl (v := .slice (some ⟨bk, ok, none⟩) n4 c4) rfl (l := none) rfl (h := some (.int .i64 (h' : Int))) rfl (HK1.out _))
      case rest33 =>
      go_frame
      refine' anyU_take0 (i := 5) (oi := ⟨some 64, .fieldAddr 27 (.tmp 1) 2, _, _, _, none⟩) (v := _) rfl (by kernel_rfl) (fun _ _ _ h => h) (Or.inl ⟨by rfl, ?hy34⟩) (by assumption) ?rest34
      case hy34 => (intro w hSw; go_simp <;> with_reducible rfl)
      case rest34 =>
      go_frame
      refine' anyU_take (i := 6) (oi := ⟨some 65, .load 24 (.tmp 64), _, _, _, none⟩) (v := _) rfl (by kernel_rfl) (fun _ _ _ h => h) (Or.inl ⟨by rfl, ?hy35⟩) (by assumption) ?rest35
      case hy35 => (intro w hSw; obtain ⟨s0, s1, s2, s3, s4, s5, s6, s7, s8, s9⟩ := hSw; go_simp <;> with_reducible rfl)
      case rest35 =>
      go_frame
      refine' anyU_take0 (i := 7) (oi := ⟨some 66, .move (.tmp 7), _, _, _, none⟩) (v := _) rfl (by kernel_rfl) (fun _ _ _ h => h) (Or.inl ⟨by rfl, ?hy36⟩) (by assumption) ?rest36
      case hy36 => (intro w hSw; go_simp <;> with_reducible rfl)
      case rest36 =>
      go_frame
      refine' anyU_take0 (i := 8) (oi := ⟨some 67, .slice 24 (.tmp 65) none (some (.tmp 66)) none, _, _, _, none⟩) (v := .slice A5 h' c5) rfl (by kernel_rfl) (fun _ _ _ h => h) (Or.inl ⟨by rfl, ?hy37⟩) (by assumption) ?rest37
      case hy37 => (intro w hSw; exact exec_cut (x := .tmp 65) (lo := none) (hi := (some (.tmp 66))) rfl (v := .slice A5 n5 c5) rfl (l := none) rfl (h := some (.int .i64 (h' : Int))) rfl (HK2.out _))
      case rest37 =>
      go_frame
      refine' anyU_take0 (i := 9) (oi := ⟨some 68, .build 27 #[(0, .const (.bool true)), (1, .tmp 63), (2, .tmp 67)], _, _, _, none⟩) (v := _) rfl (by kernel_rfl) (fun _ _ _ h => h) (Or.inl ⟨by rfl, ?hy38⟩) (by assumption) ?rest38
      case hy38 => (intro w hSw; go_simp <;> with_reducible rfl)
      case rest38 =>
      go_frame
      refine anyU_ready (rs := [10]) (by kernel_rfl) (by simp) (AllU.cons (o := ⟨some 69, .call { callee := .value (.func 12), args := #[.tmp 59, .tmp 68], argTypes := #[27, 27] }, _, _, _, none⟩) rfl (fun K hK => ?_) (fun h => absurd h (by decide)) AllU.nil)
      rw [if_pos (by rfl)]
      go_simp
      refine (same7_as HQ0.out.isA ((HLo.out _ HQ0.out).more (Nat.le_refl _)) (m.lower_short h' HC.out.short) LA.out).mono ?_
      rintro e v1 ⟨rfl, hb⟩
      have HQ1 := Lib.hid (HQ0.out.kept hb)
      have Sx := T8 HQ1.out
      dsimp only
      refine hK.out _ _ (fun _ => Sx) ?_
      clear hK K hb
      try go_frame
      refine' anyU_take0 (i := 11) (oi := ⟨some 70, .move (.tmp 69), _, _, _, none⟩) (v := _) rfl (by kernel_rfl) (fun _ _ _ h => h) (Or.inl ⟨by rfl, ?hy39⟩) (by assumption) ?rest39
      case hy39 => (intro w hSw; go_simp <;> with_reducible rfl)
      case rest39 =>
      go_frame
      refine' anyU_take (i := 12) (oi := ⟨some 71, .load 27 (.tmp 5), _, _, _, some (11, true)⟩) (v := _) rfl (by kernel_rfl) (fun _ _ _ h => h) (Or.inl ⟨by rfl, ?hy40⟩) (by assumption) ?rest40
      case hy40 => (intro w hSw; obtain ⟨s0, s1, s2, s3, s4, s5, s6, s7, s8, s9⟩ := hSw; go_simp <;> with_reducible rfl)
      case rest40 =>
      go_frame
      refine' anyU_take0 (i := 13) (oi := ⟨some 72, .fieldAddr 27 (.tmp 1) 1, _, _, _, some (11, true)⟩) (v := _) rfl (by kernel_rfl) (fun _ _ _ h => h) (Or.inl ⟨by rfl, ?hy41⟩) (by assumption) ?rest41
      case hy41 => (intro w hSw; go_simp <;> with_reducible rfl)
      case rest41 =>
      go_frame
      refine' anyU_take (i := 14) (oi := ⟨some 73, .load 24 (.tmp 72), _, _, _, some (11, true)⟩) (v := _) rfl (by kernel_rfl) (fun _ _ _ h => h) (Or.inl ⟨by rfl, ?hy42⟩) (by assumption) ?rest42
      case hy42 => (intro w hSw; obtain ⟨s0, s1, s2, s3, s4, s5, s6, s7, s8, s9⟩ := hSw; go_simp <;> with_reducible rfl)
      case rest42 =>
      go_frame
      refine' anyU_take0 (i := 15) (oi := ⟨some 74, .move (.tmp 7), _, _, _, some (11, true)⟩) (v := _) rfl (by kernel_rfl) (fun _ _ _ h => h) (Or.inl ⟨by rfl, ?hy43⟩) (by assumption) ?rest43
      case hy43 => (intro w hSw; go_simp <;> with_reducible rfl)
      case rest43 =>
      go_frame
      refine' anyU_take0 (i := 16) (oi := ⟨some 75, .slice 24 (.tmp 73) (some (.tmp 74)) none none, _, _, _, some (11, true)⟩) (v := .slice F1 (n4 - h') (c4 - h')) rfl (by kernel_rfl) (fun _ _ _ h => h) (Or.inl ⟨by rfl, ?hy44⟩) (by assumption) ?rest44
      case hy44 => (intro w hSw; exact exec_cut (x := .tmp 73) (lo := (some (.tmp 74))) (hi := none) rfl (v := .slice (some ⟨bk, ok, none⟩) n4 c4) rfl (l := some (.int .i64 (h' : Int))) rfl (h := none) rfl (HK3.out _))
      case rest44 =>
      go_frame
      refine' anyU_take0 (i := 17) (oi := ⟨some 76, .fieldAddr 27 (.tmp 1) 2, _, _, _, some (11, true)⟩) (v := _) rfl (by kernel_rfl) (fun _ _ _ h => h) (Or.inl ⟨by rfl, ?hy45⟩) (by assumption) ?rest45
      case hy45 => (intro w hSw; go_simp <;> with_reducible rfl)
      case rest45 =>
      go_frame
      refine' anyU_take (i := 18) (oi := ⟨some 77, .load 24 (.tmp 76), _, _, _, some (11, true)⟩) (v := _) rfl (by kernel_rfl) (fun _ _ _ h => h) (Or.inl ⟨by rfl, ?hy46⟩) (by assumption) ?rest46
      case hy46 => (intro w hSw; obtain ⟨s0, s1, s2, s3, s4, s5, s6, s7, s8, s9⟩ := hSw; go_simp <;> with_reducible rfl)
      case rest46 =>
      go_frame
      refine' anyU_take0 (i := 19) (oi := ⟨some 78, .move (.tmp 7), _, _, _, some (11, true)⟩) (v := _) rfl (by kernel_rfl) (fun _ _ _ h => h) (Or.inl ⟨by rfl, ?hy47⟩) (by assumption) ?rest47
      case hy47 => (intro w hSw; go_simp <;> with_reducible rfl)
      case rest47 =>
      go_frame
      refine' anyU_take0 (i := 20) (oi := ⟨some 79, .slice 24 (.tmp 77) (some (.tmp 78)) none none, _, _, _, some (11, true)⟩) (v := .slice F2 (n5 - h') (c5 - h')) rfl (by kernel_rfl) (fun _ _ _ h => h) (Or.inl ⟨by rfl, ?hy48⟩) (by assumption) ?rest48
      case hy48 => (intro w hSw; exact exec_cut (x := .tmp 77) (lo := (some (.tmp 78))) (hi := none) rfl (v := .slice A5 n5 c5) rfl (l := some (.int .i64 (h' : Int))) rfl (h := none) rfl (HK4.out _))
      case rest48 =>
      go_frame
      refine' anyU_take0 (i := 21) (oi := ⟨some 80, .build 27 #[(0, .const (.bool true)), (1, .tmp 75), (2, .tmp 79)], _, _, _, some (11, true)⟩) (v := _) rfl (by kernel_rfl) (fun _ _ _ h => h) (Or.inl ⟨by rfl, ?hy49⟩) (by assumption) ?rest49
      case hy49 => (intro w hSw; go_simp <;> with_reducible rfl)
      case rest49 =>
      go_frame
      refine anyU_ready (rs := [22]) (by kernel_rfl) (by simp) (AllU.cons (o := ⟨some 81, .call { callee := .value (.func 12), args := #[.tmp 71, .tmp 80], argTypes := #[27, 27] }, _, _, _, some (11, true)⟩) rfl (fun K hK => ?_) (fun h => absurd h (by decide)) AllU.nil)
      rw [if_pos (by rfl)]
      go_simp
      refine (same7_as HQ1.out.isB ((HUp.out _ HQ1.out).more (Nat.le_refl _)) (m.upper_short h' HC.out.short) LB.out).mono ?_
      rintro e v2 ⟨rfl, hb⟩
      have HQ2 := Lib.hid (HQ1.out.kept hb)
      have Sx := T8 HQ2.out
      dsimp only
      refine hK.out _ _ (fun _ => Sx) ?_
      clear hK K hb
      try go_frame
      refine' anyU_take0 (i := 23) (oi := ⟨some 82, .pick (.tmp 70) (.tmp 81) (.const (.bool false)), _, _, _, none⟩) (v := _) rfl (by kernel_rfl) (fun _ _ _ h => h) (Or.inl ⟨by rfl, ?hy50⟩) (by assumption) ?rest50
      case hy50 => (intro w hSw; go_simp <;> with_reducible rfl)
      case rest50 =>
      go_frame
      refine' anyU_take0 (i := 24) (oi := ⟨some 83, .move (.tmp 82), _, _, _, none⟩) (v := _) rfl (by kernel_rfl) (fun _ _ _ h => h) (Or.inl ⟨by rfl, ?hy51⟩) (by assumption) ?rest51
      case hy51 => (intro w hSw; go_simp <;> with_reducible rfl)
      case rest51 =>
      go_frame
      refine anyU_ready (rs := [25]) (by kernel_rfl) (by simp) (AllU.cons (o := ⟨some 84, .call { callee := .value (.func 13), args := #[], argTypes := #[] }, _, _, _, some (24, true)⟩) rfl (fun K hK => ?_) (fun h => absurd h (by decide)) AllU.nil)
      rw [if_pos (by rfl)]
      go_simp
      refine (lives07_any _).mono ?_
      rintro e v3 ⟨rfl, hb⟩
      have HQ3 := Lib.hid (HQ2.out.kept hb)
      have Sx := T8 HQ3.out
      dsimp only
      refine hK.out _ _ (fun _ => Sx) ?_
      clear hK K hb
      try go_frame
      refine' anyU_take0 (i := 26) (oi := ⟨some 85, .pick (.tmp 83) (.tmp 84) (.const (.bool false)), _, _, _, none⟩) (v := _) rfl (by kernel_rfl) (fun _ _ _ h => h) (Or.inl ⟨by rfl, ?hy52⟩) (by assumption) ?rest52
      case hy52 => (intro w hSw; go_simp <;> with_reducible rfl)
      case rest52 =>
      go_frame
      refine' anyU_take0 (i := 27) (oi := ⟨some 2, .assign (.tmp 85), _, _, _, none⟩) (v := _) rfl (by kernel_rfl) (fun _ _ _ h => h) (Or.inl ⟨by rfl, ?hy53⟩) (by assumption) ?rest53
      case hy53 => (intro w hSw; go_simp <;> with_reducible rfl)
      case rest53 =>
      go_frame
      refine anyU_done (by kernel_rfl) ?_ _
      go_wp2_with fail
      go_ret
      exact ⟨rfl, HQ3.out.law.below⟩
  · have hsp := split_none HN2.out HC.out.short hp
    rw [← HL.out] at hsp
    have HNP := Lib.hid hp
    clear hp
    go_wp2_with fail
    refine hsp.mono ?_
    rintro e w3 ⟨rfl, hb3⟩
    have hz := LwH.start (HL2.out.kept hb3) (zeroNd_is w3 w3.heap.size) (zeroNd_is w3 w3.heap.size) (kv := .slice none 0 0) (key := []) (Rd.nil _ _)
    dsimp only at hz
    obtain ⟨W4, hW4⟩ : ∃ X, X = (w3.alloc (.cells #[.bool false, .slice none 0 0, .slice none 0 0, .slice none 0 0] 27)).alloc (.cells #[.bool false, .slice none 0 0, .slice none 0 0, .slice none 0 0] 27) := ⟨_, rfl⟩
    have hsn := fun (X : World) (h : LawN w X (.slice A4 n4 c4) (.slice A5 n5 c5) (.slice A6 n6 c6) m) => h.sound HC.out
    rw [← HL.out] at hsn
    have hs4 := hsn _ hz.law
    obtain ⟨x0, x1, x2, x3⟩ := hz.law.box
    rw [← HL.out] at x0
    rw [← hW4] at hz hs4
    have HW4 := Lib.hid hW4
    have HZ := Lib.hid hz
    have Hs4 := Lib.hid hs4
    clear hW4 hz hs4 hsn hb3 hsp
    go_wp2_with fail
    rw [← HW4.out]
    clear HW4
    refine Hs4.out.mono ?_
    rintro e w5 ⟨rfl, hl5, hb5⟩
    have HZ5 := Lib.hid (HZ.out.kept hb5)
    clear hb5 hl5 HZ Hs4 x0 x1 x2 x3
    cases hs : sndB m
    · clear hs
      obtain ⟨x0, x1, x2, x3⟩ := HZ5.out.boxA
      obtain ⟨z0, z1, z2, z3⟩ := HZ5.out.boxB
      dsimp only at x0 z0
      have hsa := same7_as HZ5.out.isA (zeroNd_is _ _) (by unfold Nd.Short; simp) rfl
      have Hsa := Lib.hid hsa
      clear hsa
      go_wp2_with fail
      refine Hsa.out.mono ?_
      rintro e wa ⟨rfl, hba⟩
      have HZa := Lib.hid (HZ5.out.kept hba)
      clear hba x0 x1 x2 x3 z0 z1 z2 z3
      obtain ⟨z0, z1, z2, z3⟩ := HZa.out.boxB
      dsimp only at z0
      have hsb := same7_as HZa.out.isB (zeroNd_is _ _) (by unfold Nd.Short; simp) rfl
      have Hsb := Lib.hid hsb
      clear hsb
      go_wp2_with fail
      refine Hsb.out.mono ?_
      rintro e wb ⟨rfl, hbb⟩
      have hlv := (HZa.out.law.kept hbb).lives
      clear hbb z0 z1 z2 z3
      go_wp2_with fail
      refine hlv.mono ?_
      rintro e wc ⟨rfl, hbc⟩
      go_wp2_with fail
      go_ret
      exact ⟨rfl, hbc⟩
    · have hm1 := m.noParts HNP.out (sndB_iff.1 hs)
      have hha := rhalf_any HZ5.out.law.is (sndB_iff.1 hs) (by have := HC.out.k; omega) _ rfl
      rw [← HL.out] at hha
      obtain ⟨x0, x1, x2, x3⟩ := HZ5.out.law.box
      rw [← HL.out] at x0
      have Hm1 := Lib.hid hm1
      have Hha := Lib.hid hha
      clear hs hm1 hha
      go_wp2_with fail
      refine Hha.out.mono ?_
      rintro e w6 ⟨h, rfl, -, hh0, hb6⟩
      have h0 := hh0 (by rw [HL.out]; exact Hm1.out)
      subst h0
      have HZ6 := Lib.hid (HZ5.out.kept hb6)
      clear hb6 hh0 HZ5 x0 x1 x2 x3 Hha
      obtain ⟨x0, x1, x2, x3⟩ := HZ6.out.boxA
      obtain ⟨z0, z1, z2, z3⟩ := HZ6.out.boxB
      dsimp only at x0 z0
      have hsa := same7_as HZ6.out.isA (zeroNd_is _ _) (by unfold Nd.Short; simp) rfl
      have Hsa := Lib.hid hsa
      clear hsa
      go_wp2_with fail
      refine Hsa.out.mono ?_
      rintro e wa ⟨rfl, hba⟩
      have HZa := Lib.hid (HZ6.out.kept hba)
      clear hba x0 x1 x2 x3 z0 z1 z2 z3
      obtain ⟨z0, z1, z2, z3⟩ := HZa.out.boxB
      dsimp only at z0
      have hsb := same7_as HZa.out.isB (zeroNd_is _ _) (by unfold Nd.Short; simp) rfl
      have Hsb := Lib.hid hsb
      clear hsb
      go_wp2_with fail
      refine Hsb.out.mono ?_
      rintro e wb ⟨rfl, hbb⟩
      have hlv := (HZa.out.law.kept hbb).lives
      clear hbb z0 z1 z2 z3
      go_wp2_with fail
      refine hlv.mono ?_
      rintro e wc ⟨rfl, hbc⟩
      go_wp2_with fail
      go_ret
      exact ⟨rfl, hbc⟩
end Go.Proofs.Ytceefoopehoalaa
