/-
  Merge of package node: contract.
-/
import Derived.Test.YtceefoopehoalaaNdMergeA
import Derived.Test.YtceefoopehoalaaNdV
namespace Go.Proofs.Ytceefoopehoalaa
open Go.RowKit
/-- What two nodes come to. -/
def Nd.joined (a : Nd) (key : List UInt8) (b : Nd) : Nd := if a.leaf then ⟨true, a.keys ++ b.keys, a.vals ++ b.vals, []⟩ else ⟨false, a.keys ++ key :: b.keys, [], a.kids ++ b.kids⟩
theorem Nd.Snd.small {n : Nd} (h : n.Snd) : n.Small := ⟨fun j hj => by have := (h.keys j hj).1.len; omega, fun j hj => by have := h.vals j hj; omega⟩
set_option maxRecDepth 100000 in
set_option maxHeartbeats 2000000 in
theorem merge_leaf {n m : Nd} {K V D K' V' D' kv : Value} {key : List UInt8} {w : World} (hn : NdIs w w.heap.size K V D n) (hm : NdIs w w.heap.size K' V' D' m) (hk : Rd w w.heap.size kv (cellsB key)) (hsn : n.Short 40000) (hsm : m.Short 40000) (hln : n.leaf = true) (hlm : m.leaf = true) :
    Calls Try.prog 25 #[ndVal true K V D, kv, ndVal true K' V' D'] w fun e w' =>
      ((n.Snd ∧ m.Snd ∧ (⟨true, n.keys ++ m.keys, n.vals ++ m.vals, []⟩ : Nd).Snd) → ∃ K V D, e = .returned (.tuple #[ndVal true K V D, .bool true]) ∧ NdNew w' w.heap.size K V D ⟨true, n.keys ++ m.keys, n.vals ++ m.vals, []⟩) ∧ (¬ (n.Snd ∧ m.Snd ∧ (⟨true, n.keys ++ m.keys, n.vals ++ m.vals, []⟩ : Nd).Snd) → e = .returned (.tuple #[ndZero, .bool false])) ∧ Below w.heap.size w w' := by
  obtain ⟨A1, n1, c1, A2, n2, c2, A3, n3, c3, rfl, rfl, rfl⟩ := hn.slices
  obtain ⟨B1, m1, d1, B2, m2, d2, B3, m3, d3, rfl, rfl, rfl⟩ := hm.slices
  obtain ⟨Ak, ck, rfl, _, _, _⟩ := hk.bytes
  obtain ⟨kl, hkl⟩ : ∃ x, x = key.length := ⟨_, rfl⟩
  rw [← hkl] at hk ⊢
  have hst := MgS.start (w0 := w) (la := true) (K := .slice A1 n1 c1) (V := .slice A2 n2 c2) (D := .slice A3 n3 c3) (lb := true) (K' := .slice B1 m1 d1) (V' := .slice B2 m2 d2) (D' := .slice B3 m3 d3)
  have hs1 := fun (W : World) (hW : Below w.heap.size w W) => sound_any ((hn.below hW).more hW.size) (Nat.le_refl _) (show n.Short 1000000 from ⟨by have := hsn.1; omega, by have := hsn.2.1; omega, by have := hsn.2.2; omega⟩)
  have hs2 := fun (W : World) (hW : Below w.heap.size w W) => sound_any ((hm.below hW).more hW.size) (Nat.le_refl _) (show m.Short 1000000 from ⟨by have := hsm.1; omega, by have := hsm.2.1; omega, by have := hsm.2.2; omega⟩)
  rw [hln] at hs1
  rw [hlm] at hs2
  have hc1 := hs1 _ hst.below
  have HN := Lib.hid hn
  have HM := Lib.hid hm
  have HK := Lib.hid hk
  have HSn := Lib.hid hsn
  have HSm := Lib.hid hsm
  have HC2 := Lib.hid hs2
  have HSt := Lib.hid hst
  obtain ⟨x0, x1, x2, x3⟩ := hst.boxA
  obtain ⟨z0, z1, z2, z3⟩ := hst.boxB
  clear hn hm hk hsn hsm hs1 hs2 hst hkl hln hlm
  go_enter Try.func25, Try.ntmps25
  go_wp2_with fail
  refine hc1.mono ?_
  rintro e w1 ⟨rfl, hb1⟩
  have hst := HSt.out.kept hb1
  have HS1 := Lib.hid hst
  clear x0 x1 x2 x3 z0 z1 z2 z3 hc1 hb1 HSt hst
  cases h1 : sndB n
  · have HG := Lib.hid (show ¬ (n.Snd ∧ m.Snd ∧ (⟨true, n.keys ++ m.keys, n.vals ++ m.vals, []⟩ : Nd).Snd) from fun h => by rw [sndB_iff.2 h.1] at h1; cases h1)
    clear h1 HC2
    obtain ⟨y0, y1, y2, y3, f0, f1, f2, f3⟩ := out_cells HS1.out.out
    obtain ⟨W, hW⟩ : ∃ W, W = store4 w1 (w.heap.size + 1 + 1) false (.slice none 0 0) (.slice none 0 0) (.slice none 0 0) := ⟨_, rfl⟩
    have hbox := box_of_top (store4_top (lf := false) (K := .slice none 0 0) (V := .slice none 0 0) (D := .slice none 0 0) HS1.out.out)
    have hfb := HS1.out.below.trans (store4_below (w := w1) (lf := false) (K := .slice none 0 0) (V := .slice none 0 0) (D := .slice none 0 0) (show w.heap.size ≤ w.heap.size + 1 + 1 by omega))
    rw [← hW] at hbox hfb
    obtain ⟨q0, q1, q2, q3⟩ := hbox
    have HFb := Lib.hid hfb
    have HWW := Lib.hid hW
    clear hfb hW
    go_wp2_with fail
    have hW := HWW.out
    unfold store4 at hW
    rw [← hW]
    exact bodyPost_ret (v := .tuple #[ndZero, .bool false]) (by simp [results, Try.results25, go_sem, q0, q1, q2, q3]) rfl ⟨fun h => absurd h HG.out, fun _ => rfl, HFb.out⟩
  · have hg1 := Lib.hid (sndB_iff.1 h1)
    obtain ⟨x0, x1, x2, x3⟩ := HS1.out.boxA
    obtain ⟨z0, z1, z2, z3⟩ := HS1.out.boxB
    have hc2 := HC2.out _ HS1.out.below
    clear h1 HC2
    go_wp2_with fail
    refine hc2.mono ?_
    rintro e w2 ⟨rfl, hb2⟩
    have hst := HS1.out.kept hb2
    have HS2 := Lib.hid hst
    clear x0 x1 x2 x3 z0 z1 z2 z3 hc2 hb2 HS1 hst
    cases h2 : sndB m
    · have HG := Lib.hid (show ¬ (n.Snd ∧ m.Snd ∧ (⟨true, n.keys ++ m.keys, n.vals ++ m.vals, []⟩ : Nd).Snd) from fun h => by rw [sndB_iff.2 h.2.1] at h2; cases h2)
      clear h2
      obtain ⟨y0, y1, y2, y3, f0, f1, f2, f3⟩ := out_cells HS2.out.out
      obtain ⟨W, hW⟩ : ∃ W, W = store4 w2 (w.heap.size + 1 + 1) false (.slice none 0 0) (.slice none 0 0) (.slice none 0 0) := ⟨_, rfl⟩
      have hbox := box_of_top (store4_top (lf := false) (K := .slice none 0 0) (V := .slice none 0 0) (D := .slice none 0 0) HS2.out.out)
      have hfb := HS2.out.below.trans (store4_below (w := w2) (lf := false) (K := .slice none 0 0) (V := .slice none 0 0) (D := .slice none 0 0) (show w.heap.size ≤ w.heap.size + 1 + 1 by omega))
      rw [← hW] at hbox hfb
      obtain ⟨q0, q1, q2, q3⟩ := hbox
      have HFb := Lib.hid hfb
      have HWW := Lib.hid hW
      clear hfb hW
      go_wp2_with fail
      have hW := HWW.out
      unfold store4 at hW
      rw [← hW]
      exact bodyPost_ret (v := .tuple #[ndZero, .bool false]) (by simp [results, Try.results25, go_sem, q0, q1, q2, q3]) rfl ⟨fun h => absurd h HG.out, fun _ => rfl, HFb.out⟩
    · have hg2 := Lib.hid (sndB_iff.1 h2)
      clear h2
      have hm0 := MgW.start HS2.out
      obtain ⟨N, hN⟩ : ∃ N, N = w2.heap.size := ⟨_, rfl⟩
      rw [← hN] at hm0
      obtain ⟨x00, _, _, _⟩ := HS2.out.boxA
      obtain ⟨x0, x1, x2, x3⟩ := hm0.s.boxA
      obtain ⟨z0, z1, z2, z3⟩ := hm0.s.boxB
      obtain ⟨t0, t1, t2, t3, g0, g1, g2, g3⟩ := out_cells hm0.top
      have HN' := Lib.hid hN
      have HM0 := Lib.hid hm0
      clear hm0 hN HS2
      go_wp2_with fail
      refine (HM0.out.cat HN.out.keys HM.out.keys (by have := HSn.out.1; have := HSm.out.1; omega) (M := w2.heap.size + 1) (by simp)).mono ?_
      rintro e w4 ⟨Ax, nx, cx, rfl, hm4, ho4⟩
      have hm5 := hm4.putK ho4
      obtain ⟨t0, t1, t2, t3, g0, g1, g2, g3⟩ := out_cells hm4.top
      obtain ⟨x0, x1, x2, x3⟩ := hm5.s.boxA
      obtain ⟨z0, z1, z2, z3⟩ := hm5.s.boxB
      have HM5 := Lib.hid hm5
      clear hm4 ho4 hm5 HM0
      rw [← HN'.out] 
      go_wp2_with fail
      refine (HM5.out.cat HN.out.vals HM.out.vals (by have := HSn.out.2.1; have := HSm.out.2.1; omega) (M := w4.heap.size) (by simp)).mono ?_
      rintro e w6 ⟨Ay, ny, cy, rfl, hm6, ho6⟩
      have hm7 := hm6.putV ho6
      obtain ⟨t0, t1, t2, t3, g0, g1, g2, g3⟩ := out_cells hm6.top
      obtain ⟨v0, v1, v2, v3⟩ := hm7.box
      have hso := sound_any hm7.is (Nat.le_refl _) (show (⟨true, n.keys ++ m.keys, n.vals ++ m.vals, []⟩ : Nd).Short 1000000 from ⟨by have := HSn.out.1; have := HSm.out.1; simp; omega, by have := HSn.out.2.1; have := HSm.out.2.1; simp <;> omega, by have := HSn.out.2.2; have := HSm.out.2.2; simp <;> omega⟩)
      have HM7 := Lib.hid hm7
      clear hm6 ho6 hm7 HM5 x0 x1 x2 x3 z0 z1 z2 z3
      go_wp2_with fail
      refine hso.mono ?_
      rintro e w8 ⟨rfl, hb8⟩
      have hm8 := HM7.out.kept hb8
      have HM8 := Lib.hid hm8
      clear t0 t1 t2 t3 g0 g1 g2 g3 v0 v1 v2 v3 hso hb8 HM7 hm8
      cases h3 : sndB (⟨true, n.keys ++ m.keys, n.vals ++ m.vals, []⟩ : Nd)
      · have HG := Lib.hid (show ¬ (n.Snd ∧ m.Snd ∧ (⟨true, n.keys ++ m.keys, n.vals ++ m.vals, []⟩ : Nd).Snd) from fun h => by rw [sndB_iff.2 h.2.2] at h3; cases h3)
        clear h3
        obtain ⟨y0, y1, y2, y3, f0, f1, f2, f3⟩ := out_cells HM8.out.s.out
        obtain ⟨W, hW⟩ : ∃ W, W = store4 w8 (w.heap.size + 1 + 1) false (.slice none 0 0) (.slice none 0 0) (.slice none 0 0) := ⟨_, rfl⟩
        have hbox := box_of_top (store4_top (lf := false) (K := .slice none 0 0) (V := .slice none 0 0) (D := .slice none 0 0) HM8.out.s.out)
        have hfb := HM8.out.s.below.trans (store4_below (w := w8) (lf := false) (K := .slice none 0 0) (V := .slice none 0 0) (D := .slice none 0 0) (show w.heap.size ≤ w.heap.size + 1 + 1 by omega))
        rw [← hW] at hbox hfb
        obtain ⟨q0, q1, q2, q3⟩ := hbox
        have HFb := Lib.hid hfb
        have HWW := Lib.hid hW
        clear hfb hW
        go_wp2_with fail
        have hW := HWW.out
        unfold store4 at hW
        rw [← hW]
        exact bodyPost_ret (v := .tuple #[ndZero, .bool false]) (by simp [results, Try.results25, go_sem, q0, q1, q2, q3]) rfl ⟨fun h => absurd h HG.out, fun _ => rfl, HFb.out⟩
      · have hg3 := Lib.hid (sndB_iff.1 h3)
        have HG := Lib.hid (show n.Snd ∧ m.Snd ∧ (⟨true, n.keys ++ m.keys, n.vals ++ m.vals, []⟩ : Nd).Snd from ⟨hg1.out, hg2.out, hg3.out⟩)
        obtain ⟨v0, v1, v2, v3⟩ := HM8.out.box
        have hco := copied_any HM8.out.is (show (⟨true, n.keys ++ m.keys, n.vals ++ m.vals, []⟩ : Nd).Short 1000000 from ⟨by have := HSn.out.1; have := HSm.out.1; simp; omega, by have := HSn.out.2.1; have := HSm.out.2.1; simp <;> omega, by have := HSn.out.2.2; have := HSm.out.2.2; simp <;> omega⟩) hg3.out.small
        clear h3
        go_wp2_with fail
        refine hco.mono ?_
        rintro e w9 ⟨Kz, Vz, Dz, rfl, hn9, hb9⟩
        obtain ⟨E1, k1, e1, E2, k2, e2, E3, k3, e3, rfl, rfl, rfl⟩ := hn9.is.slices
        have hs9 := HM8.out.s.kept hb9
        have hlt8 := HM8.out.s.lt
        obtain ⟨y0, y1, y2, y3, f0, f1, f2, f3⟩ := out_cells hs9.out
        obtain ⟨W, hW⟩ : ∃ W, W = store4 w9 (w.heap.size + 1 + 1) true (.slice E1 k1 e1) (.slice E2 k2 e2) (.slice E3 k3 e3) := ⟨_, rfl⟩
        have hbox := box_of_top (store4_top (lf := true) (K := .slice E1 k1 e1) (V := .slice E2 k2 e2) (D := .slice E3 k3 e3) hs9.out)
        have hfi := hn9.store4 (lf := true) (K := .slice E1 k1 e1) (V := .slice E2 k2 e2) (D := .slice E3 k3 e3) (N := w.heap.size + 1 + 1) hlt8
        have hfb := hs9.below.trans (store4_below (w := w9) (lf := true) (K := .slice E1 k1 e1) (V := .slice E2 k2 e2) (D := .slice E3 k3 e3) (show w.heap.size ≤ w.heap.size + 1 + 1 by omega))
        rw [← hW] at hbox hfi hfb
        have hfi := hfi.weaken (b1 := w.heap.size) (by omega)
        obtain ⟨q0, q1, q2, q3⟩ := hbox
        have HFi := Lib.hid hfi
        have HFb := Lib.hid hfb
        have HWW := Lib.hid hW
        clear hfi hfb hW hn9 hb9 hs9 hlt8 hco v0 v1 v2 v3
        go_wp2_with fail
        have hW := HWW.out
        unfold store4 at hW
        rw [← hW]
        exact bodyPost_ret (v := .tuple #[ndVal true (.slice E1 k1 e1) (.slice E2 k2 e2) (.slice E3 k3 e3), .bool true]) (by simp [results, Try.results25, go_sem, q0, q1, q2, q3]) rfl ⟨fun _ => ⟨_, _, _, rfl, HFi.out⟩, fun h => absurd HG.out h, HFb.out⟩
set_option maxRecDepth 100000 in
set_option maxHeartbeats 2000000 in
theorem merge_not {n m : Nd} {K V D K' V' D' kv : Value} {key : List UInt8} {w : World} (hn : NdIs w w.heap.size K V D n) (hm : NdIs w w.heap.size K' V' D' m) (hk : Rd w w.heap.size kv (cellsB key)) (hsn : n.Short 40000) (hsm : m.Short 40000) (hln : n.leaf = false) (hlm : m.leaf = false) :
    Calls Try.prog 25 #[ndVal false K V D, kv, ndVal false K' V' D'] w fun e w' =>
      ((n.Snd ∧ m.Snd ∧ (⟨false, n.keys ++ key :: m.keys, [], n.kids ++ m.kids⟩ : Nd).Snd) → ∃ K V D, e = .returned (.tuple #[ndVal false K V D, .bool true]) ∧ NdNew w' w.heap.size K V D ⟨false, n.keys ++ key :: m.keys, [], n.kids ++ m.kids⟩) ∧ (¬ (n.Snd ∧ m.Snd ∧ (⟨false, n.keys ++ key :: m.keys, [], n.kids ++ m.kids⟩ : Nd).Snd) → e = .returned (.tuple #[ndZero, .bool false])) ∧ Below w.heap.size w w' := by
  obtain ⟨A1, n1, c1, A2, n2, c2, A3, n3, c3, rfl, rfl, rfl⟩ := hn.slices
  obtain ⟨B1, m1, d1, B2, m2, d2, B3, m3, d3, rfl, rfl, rfl⟩ := hm.slices
  obtain ⟨Ak, ck, rfl, _, _, _⟩ := hk.bytes
  obtain ⟨kl, hkl⟩ : ∃ x, x = key.length := ⟨_, rfl⟩
  rw [← hkl] at hk ⊢
  have hst := MgS.start (w0 := w) (la := false) (K := .slice A1 n1 c1) (V := .slice A2 n2 c2) (D := .slice A3 n3 c3) (lb := false) (K' := .slice B1 m1 d1) (V' := .slice B2 m2 d2) (D' := .slice B3 m3 d3)
  have hs1 := fun (W : World) (hW : Below w.heap.size w W) => sound_any ((hn.below hW).more hW.size) (Nat.le_refl _) (show n.Short 1000000 from ⟨by have := hsn.1; omega, by have := hsn.2.1; omega, by have := hsn.2.2; omega⟩)
  have hs2 := fun (W : World) (hW : Below w.heap.size w W) => sound_any ((hm.below hW).more hW.size) (Nat.le_refl _) (show m.Short 1000000 from ⟨by have := hsm.1; omega, by have := hsm.2.1; omega, by have := hsm.2.2; omega⟩)
  rw [hln] at hs1
  rw [hlm] at hs2
  have hc1 := hs1 _ hst.below
  have HN := Lib.hid hn
  have HM := Lib.hid hm
  have HK := Lib.hid hk
  have HSn := Lib.hid hsn
  have HSm := Lib.hid hsm
  have HC2 := Lib.hid hs2
  have HSt := Lib.hid hst
  obtain ⟨x0, x1, x2, x3⟩ := hst.boxA
  obtain ⟨z0, z1, z2, z3⟩ := hst.boxB
  clear hn hm hk hsn hsm hs1 hs2 hst hkl hln hlm
  go_enter Try.func25, Try.ntmps25
  go_wp2_with fail
  refine hc1.mono ?_
  rintro e w1 ⟨rfl, hb1⟩
  have hst := HSt.out.kept hb1
  have HS1 := Lib.hid hst
  clear x0 x1 x2 x3 z0 z1 z2 z3 hc1 hb1 HSt hst
  cases h1 : sndB n
  · have HG := Lib.hid (show ¬ (n.Snd ∧ m.Snd ∧ (⟨false, n.keys ++ key :: m.keys, [], n.kids ++ m.kids⟩ : Nd).Snd) from fun h => by rw [sndB_iff.2 h.1] at h1; cases h1)
    clear h1 HC2
    obtain ⟨y0, y1, y2, y3, f0, f1, f2, f3⟩ := out_cells HS1.out.out
    obtain ⟨W, hW⟩ : ∃ W, W = store4 w1 (w.heap.size + 1 + 1) false (.slice none 0 0) (.slice none 0 0) (.slice none 0 0) := ⟨_, rfl⟩
    have hbox := box_of_top (store4_top (lf := false) (K := .slice none 0 0) (V := .slice none 0 0) (D := .slice none 0 0) HS1.out.out)
    have hfb := HS1.out.below.trans (store4_below (w := w1) (lf := false) (K := .slice none 0 0) (V := .slice none 0 0) (D := .slice none 0 0) (show w.heap.size ≤ w.heap.size + 1 + 1 by omega))
    rw [← hW] at hbox hfb
    obtain ⟨q0, q1, q2, q3⟩ := hbox
    have HFb := Lib.hid hfb
    have HWW := Lib.hid hW
    clear hfb hW
    go_wp2_with fail
    have hW := HWW.out
    unfold store4 at hW
    rw [← hW]
    exact bodyPost_ret (v := .tuple #[ndZero, .bool false]) (by simp [results, Try.results25, go_sem, q0, q1, q2, q3]) rfl ⟨fun h => absurd h HG.out, fun _ => rfl, HFb.out⟩
  · have hg1 := Lib.hid (sndB_iff.1 h1)
    obtain ⟨x0, x1, x2, x3⟩ := HS1.out.boxA
    obtain ⟨z0, z1, z2, z3⟩ := HS1.out.boxB
    have hc2 := HC2.out _ HS1.out.below
    clear h1 HC2
    go_wp2_with fail
    refine hc2.mono ?_
    rintro e w2 ⟨rfl, hb2⟩
    have hst := HS1.out.kept hb2
    have HS2 := Lib.hid hst
    clear x0 x1 x2 x3 z0 z1 z2 z3 hc2 hb2 HS1 hst
    cases h2 : sndB m
    · have HG := Lib.hid (show ¬ (n.Snd ∧ m.Snd ∧ (⟨false, n.keys ++ key :: m.keys, [], n.kids ++ m.kids⟩ : Nd).Snd) from fun h => by rw [sndB_iff.2 h.2.1] at h2; cases h2)
      clear h2
      obtain ⟨y0, y1, y2, y3, f0, f1, f2, f3⟩ := out_cells HS2.out.out
      obtain ⟨W, hW⟩ : ∃ W, W = store4 w2 (w.heap.size + 1 + 1) false (.slice none 0 0) (.slice none 0 0) (.slice none 0 0) := ⟨_, rfl⟩
      have hbox := box_of_top (store4_top (lf := false) (K := .slice none 0 0) (V := .slice none 0 0) (D := .slice none 0 0) HS2.out.out)
      have hfb := HS2.out.below.trans (store4_below (w := w2) (lf := false) (K := .slice none 0 0) (V := .slice none 0 0) (D := .slice none 0 0) (show w.heap.size ≤ w.heap.size + 1 + 1 by omega))
      rw [← hW] at hbox hfb
      obtain ⟨q0, q1, q2, q3⟩ := hbox
      have HFb := Lib.hid hfb
      have HWW := Lib.hid hW
      clear hfb hW
      go_wp2_with fail
      have hW := HWW.out
      unfold store4 at hW
      rw [← hW]
      exact bodyPost_ret (v := .tuple #[ndZero, .bool false]) (by simp [results, Try.results25, go_sem, q0, q1, q2, q3]) rfl ⟨fun h => absurd h HG.out, fun _ => rfl, HFb.out⟩
    · have hg2 := Lib.hid (sndB_iff.1 h2)
      clear h2
      have hm0 := MgW.start HS2.out
      obtain ⟨N, hN⟩ : ∃ N, N = w2.heap.size := ⟨_, rfl⟩
      rw [← hN] at hm0
      obtain ⟨x00, _, _, _⟩ := HS2.out.boxA
      obtain ⟨x0, x1, x2, x3⟩ := hm0.s.boxA
      obtain ⟨z0, z1, z2, z3⟩ := hm0.s.boxB
      obtain ⟨t0, t1, t2, t3, g0, g1, g2, g3⟩ := out_cells hm0.top
      obtain ⟨_, zk1, _, _⟩ := (hm0.kept ((Below.refl _ _).alloc (Nat.le_refl _) (.cells #[.slice Ak kl ck] 22))).s.boxB
      have HN' := Lib.hid hN
      have HM0 := Lib.hid hm0
      clear hm0 hN HS2
      go_wp2_with fail
      refine (HM0.out.catKey HN.out.keys HK.out HM.out.keys (by have := HSn.out.1; have := HSm.out.1; omega) (M := w2.heap.size + 1) (by simp)).mono ?_
      rintro e w4 ⟨Ax, nx, cx, rfl, hm4, ho4⟩
      have hm5 := hm4.putK ho4
      obtain ⟨t0, t1, t2, t3, g0, g1, g2, g3⟩ := out_cells hm4.top
      obtain ⟨x0, x1, x2, x3⟩ := hm5.s.boxA
      obtain ⟨z0, z1, z2, z3⟩ := hm5.s.boxB
      have HM5 := Lib.hid hm5
      clear hm4 ho4 hm5 HM0
      rw [← HN'.out] 
      go_wp2_with fail
      refine (HM5.out.catI HN.out.kids HM.out.kids (by have := HSn.out.2.2; have := HSm.out.2.2; omega) (M := w4.heap.size) (by simp)).mono ?_
      rintro e w6 ⟨Ay, ny, cy, rfl, hm6, ho6⟩
      have hm7 := hm6.putD ho6
      obtain ⟨t0, t1, t2, t3, g0, g1, g2, g3⟩ := out_cells hm6.top
      obtain ⟨v0, v1, v2, v3⟩ := hm7.box
      have hso := sound_any hm7.is (Nat.le_refl _) (show (⟨false, n.keys ++ key :: m.keys, [], n.kids ++ m.kids⟩ : Nd).Short 1000000 from ⟨by have := HSn.out.1; have := HSm.out.1; simp; omega, by have := HSn.out.2.1; have := HSm.out.2.1; simp <;> omega, by have := HSn.out.2.2; have := HSm.out.2.2; simp <;> omega⟩)
      have HM7 := Lib.hid hm7
      clear hm6 ho6 hm7 HM5 x0 x1 x2 x3 z0 z1 z2 z3
      go_wp2_with fail
      refine hso.mono ?_
      rintro e w8 ⟨rfl, hb8⟩
      have hm8 := HM7.out.kept hb8
      have HM8 := Lib.hid hm8
      clear t0 t1 t2 t3 g0 g1 g2 g3 v0 v1 v2 v3 hso hb8 HM7 hm8
      cases h3 : sndB (⟨false, n.keys ++ key :: m.keys, [], n.kids ++ m.kids⟩ : Nd)
      · have HG := Lib.hid (show ¬ (n.Snd ∧ m.Snd ∧ (⟨false, n.keys ++ key :: m.keys, [], n.kids ++ m.kids⟩ : Nd).Snd) from fun h => by rw [sndB_iff.2 h.2.2] at h3; cases h3)
        clear h3
        obtain ⟨y0, y1, y2, y3, f0, f1, f2, f3⟩ := out_cells HM8.out.s.out
        obtain ⟨W, hW⟩ : ∃ W, W = store4 w8 (w.heap.size + 1 + 1) false (.slice none 0 0) (.slice none 0 0) (.slice none 0 0) := ⟨_, rfl⟩
        have hbox := box_of_top (store4_top (lf := false) (K := .slice none 0 0) (V := .slice none 0 0) (D := .slice none 0 0) HM8.out.s.out)
        have hfb := HM8.out.s.below.trans (store4_below (w := w8) (lf := false) (K := .slice none 0 0) (V := .slice none 0 0) (D := .slice none 0 0) (show w.heap.size ≤ w.heap.size + 1 + 1 by omega))
        rw [← hW] at hbox hfb
        obtain ⟨q0, q1, q2, q3⟩ := hbox
        have HFb := Lib.hid hfb
        have HWW := Lib.hid hW
        clear hfb hW
        go_wp2_with fail
        have hW := HWW.out
        unfold store4 at hW
        rw [← hW]
        exact bodyPost_ret (v := .tuple #[ndZero, .bool false]) (by simp [results, Try.results25, go_sem, q0, q1, q2, q3]) rfl ⟨fun h => absurd h HG.out, fun _ => rfl, HFb.out⟩
      · have hg3 := Lib.hid (sndB_iff.1 h3)
        have HG := Lib.hid (show n.Snd ∧ m.Snd ∧ (⟨false, n.keys ++ key :: m.keys, [], n.kids ++ m.kids⟩ : Nd).Snd from ⟨hg1.out, hg2.out, hg3.out⟩)
        obtain ⟨v0, v1, v2, v3⟩ := HM8.out.box
        have hco := copied_any HM8.out.is (show (⟨false, n.keys ++ key :: m.keys, [], n.kids ++ m.kids⟩ : Nd).Short 1000000 from ⟨by have := HSn.out.1; have := HSm.out.1; simp; omega, by have := HSn.out.2.1; have := HSm.out.2.1; simp <;> omega, by have := HSn.out.2.2; have := HSm.out.2.2; simp <;> omega⟩) hg3.out.small
        clear h3
        go_wp2_with fail
        refine hco.mono ?_
        rintro e w9 ⟨Kz, Vz, Dz, rfl, hn9, hb9⟩
        obtain ⟨E1, k1, e1, E2, k2, e2, E3, k3, e3, rfl, rfl, rfl⟩ := hn9.is.slices
        have hs9 := HM8.out.s.kept hb9
        have hlt8 := HM8.out.s.lt
        obtain ⟨y0, y1, y2, y3, f0, f1, f2, f3⟩ := out_cells hs9.out
        obtain ⟨W, hW⟩ : ∃ W, W = store4 w9 (w.heap.size + 1 + 1) false (.slice E1 k1 e1) (.slice E2 k2 e2) (.slice E3 k3 e3) := ⟨_, rfl⟩
        have hbox := box_of_top (store4_top (lf := false) (K := .slice E1 k1 e1) (V := .slice E2 k2 e2) (D := .slice E3 k3 e3) hs9.out)
        have hfi := hn9.store4 (lf := false) (K := .slice E1 k1 e1) (V := .slice E2 k2 e2) (D := .slice E3 k3 e3) (N := w.heap.size + 1 + 1) hlt8
        have hfb := hs9.below.trans (store4_below (w := w9) (lf := false) (K := .slice E1 k1 e1) (V := .slice E2 k2 e2) (D := .slice E3 k3 e3) (show w.heap.size ≤ w.heap.size + 1 + 1 by omega))
        rw [← hW] at hbox hfi hfb
        have hfi := hfi.weaken (b1 := w.heap.size) (by omega)
        obtain ⟨q0, q1, q2, q3⟩ := hbox
        have HFi := Lib.hid hfi
        have HFb := Lib.hid hfb
        have HWW := Lib.hid hW
        clear hfi hfb hW hn9 hb9 hs9 hlt8 hco v0 v1 v2 v3
        go_wp2_with fail
        have hW := HWW.out
        unfold store4 at hW
        rw [← hW]
        exact bodyPost_ret (v := .tuple #[ndVal false (.slice E1 k1 e1) (.slice E2 k2 e2) (.slice E3 k3 e3), .bool true]) (by simp [results, Try.results25, go_sem, q0, q1, q2, q3]) rfl ⟨fun _ => ⟨_, _, _, rfl, HFi.out⟩, fun h => absurd HG.out h, HFb.out⟩
end Go.Proofs.Ytceefoopehoalaa
