/-
  Split of package node at work; what it tells where there are no halves.
-/
import Derived.Test.YtceefoopehoalaaNdV
import Derived.Test.YtceefoopehoalaaNdSplitA
namespace Go.Proofs.Ytceefoopehoalaa
open Go.RowKit
/-- A node in its block, and where both answers come. -/
structure SpS (w0 w : World) (lf : Bool) (K V D : Value) : Prop where
  box : NdBox w w0.heap.size lf K V D
  outA : w.heap[w0.heap.size + 1]? = some (.cells #[.bool false, .slice none 0 0, .slice none 0 0, .slice none 0 0] 27 (0, 0))
  outB : w.heap[w0.heap.size + 1 + 1]? = some (.cells #[.bool false, .slice none 0 0, .slice none 0 0, .slice none 0 0] 27 (0, 0))
  below : Below w0.heap.size w0 w
section
variable {w0 w w' : World} {lf : Bool} {K V D : Value}
theorem SpS.lt (h : SpS w0 w lf K V D) : w0.heap.size + 1 + 1 < w.heap.size := (Array.getElem?_eq_some_iff.1 h.outB).1
theorem SpS.kept (h : SpS w0 w lf K V D) (hb : Below w.heap.size w w') : SpS w0 w' lf K V D :=
  ⟨h.box.later h.box.lt hb, (hb.block _ (by have := h.lt; omega)).trans h.outA, (hb.block _ h.lt).trans h.outB, up h.below hb⟩
theorem SpS.start : SpS w0 (((w0.alloc (.cells #[.bool lf, K, V, D] 27)).alloc (.cells #[.bool false, .slice none 0 0, .slice none 0 0, .slice none 0 0] 27)).alloc (.cells #[.bool false, .slice none 0 0, .slice none 0 0, .slice none 0 0] 27)) lf K V D := by
  obtain ⟨wa, ha⟩ : ∃ x, x = w0.alloc (.cells #[.bool lf, K, V, D] 27) := ⟨_, rfl⟩
  have e1 : wa.heap.size = w0.heap.size + 1 := by rw [ha]; simp
  have ba := NdBox.made w0 lf K V D
  rw [← ha] at ba ⊢
  obtain ⟨wb, hb⟩ : ∃ x, x = wa.alloc (.cells #[.bool false, .slice none 0 0, .slice none 0 0, .slice none 0 0] 27) := ⟨_, rfl⟩
  have e2 : wb.heap.size = wa.heap.size + 1 := by rw [hb]; simp
  have bb : wb.heap[wa.heap.size]? = some (.cells #[.bool false, .slice none 0 0, .slice none 0 0, .slice none 0 0] 27 (0, 0)) := by rw [hb]; exact heap_alloc_last _ _
  have l1 : Below wa.heap.size wa wb := by rw [hb]; exact (Below.refl _ _).alloc (Nat.le_refl _) _
  have l0 : Below w0.heap.size w0 wa := by rw [ha]; exact (Below.refl _ _).alloc (Nat.le_refl _) _
  rw [← hb]
  have l2 := (Below.refl wb.heap.size wb).alloc (Nat.le_refl _) (.cells #[.bool false, .slice none 0 0, .slice none 0 0, .slice none 0 0] 27)
  refine ⟨(ba.later ba.lt l1).later (by omega) l2, ?_, ?_, up (up l0 l1) l2⟩
  · rw [← e1]; exact (l2.block _ (by omega)).trans bb
  · rw [← e1, ← e2]; exact heap_alloc_last _ _
end
set_option maxRecDepth 100000 in
set_option maxHeartbeats 2000000 in
theorem split_bad {n : Nd} {K V D : Value} {w : World} (hn : NdIs w w.heap.size K V D n) (hsh : n.Short 1000000) (hG : n.Snd → n.keys.length < (if n.leaf then 2 else 3)) :
    Calls Try.prog 23 #[ndVal n.leaf K V D] w fun e w' => e = .returned (.tuple #[ndZero, .slice none 0 0, ndZero, .bool false]) ∧ Below w.heap.size w w' := by
  obtain ⟨A1, c1, A2, c2, A3, c3, rfl, rfl, rfl⟩ := hn.form
  obtain ⟨lf, hlf⟩ : ∃ x, x = n.leaf := ⟨_, rfl⟩
  obtain ⟨a, ha⟩ : ∃ x, x = n.keys.length := ⟨_, rfl⟩
  obtain ⟨b, hb⟩ : ∃ x, x = n.vals.length := ⟨_, rfl⟩
  obtain ⟨d, hd⟩ : ∃ x, x = n.kids.length := ⟨_, rfl⟩
  have hs1 := fun (W : World) (hW : Below w.heap.size w W) => sound_any ((hn.below hW).more hW.size) (Nat.le_refl _) hsh
  rw [← ha, ← hb, ← hd, ← hlf] at hs1
  rw [← ha, ← hlf] at hG
  rw [← hlf, ← ha, ← hb, ← hd]
  have hst := SpS.start (w0 := w) (lf := lf) (K := .slice A1 a c1) (V := .slice A2 b c2) (D := .slice A3 d c3)
  obtain ⟨x0, x1, x2, x3⟩ := hst.box
  have hc1 := hs1 _ hst.below
  have HSt := Lib.hid hst
  have HGG := Lib.hid hG
  clear hn hst hs1 hlf ha hb hd hsh hG
  go_enter Try.func23, Try.ntmps23
  go_wp2_with fail
  refine hc1.mono ?_
  rintro e w1 ⟨rfl, hb1⟩
  have HS1 := Lib.hid (HSt.out.kept hb1)
  clear x0 x1 x2 x3 hc1 hb1 HSt
  cases h1 : sndB n
  · clear h1 HGG
    obtain ⟨y0, y1, y2, y3, f0, f1, f2, f3⟩ := out_cells HS1.out.outA
    obtain ⟨z0, z1, z2, z3, g0, g1, g2, g3⟩ := out_cells HS1.out.outB
    obtain ⟨W, hW⟩ : ∃ W, W = store4 (store4 w1 (w.heap.size + 1) false (.slice none 0 0) (.slice none 0 0) (.slice none 0 0)) (w.heap.size + 1 + 1) false (.slice none 0 0) (.slice none 0 0) (.slice none 0 0) := ⟨_, rfl⟩
    have htA := (store4_other (w := store4 w1 (w.heap.size + 1) false (.slice none 0 0) (.slice none 0 0) (.slice none 0 0)) (N := w.heap.size + 1 + 1) (lf := false) (K := .slice none 0 0) (V := .slice none 0 0) (D := .slice none 0 0) (show w.heap.size + 1 ≠ w.heap.size + 1 + 1 by omega)).trans (store4_top (lf := false) (K := .slice none 0 0) (V := .slice none 0 0) (D := .slice none 0 0) HS1.out.outA)
    have htB := store4_top (lf := false) (K := .slice none 0 0) (V := .slice none 0 0) (D := .slice none 0 0) ((store4_other (w := w1) (N := w.heap.size + 1) (lf := false) (K := .slice none 0 0) (V := .slice none 0 0) (D := .slice none 0 0) (show w.heap.size + 1 + 1 ≠ w.heap.size + 1 by omega)).trans HS1.out.outB)
    have hfb := (HS1.out.below.trans (store4_below (w := w1) (lf := false) (K := .slice none 0 0) (V := .slice none 0 0) (D := .slice none 0 0) (show w.heap.size ≤ w.heap.size + 1 by omega))).trans (store4_below (w := store4 w1 (w.heap.size + 1) false (.slice none 0 0) (.slice none 0 0) (.slice none 0 0)) (lf := false) (K := .slice none 0 0) (V := .slice none 0 0) (D := .slice none 0 0) (show w.heap.size ≤ w.heap.size + 1 + 1 by omega))
    rw [← hW] at htA htB hfb
    obtain ⟨p0, p1, p2, p3⟩ := box_of_top htA
    obtain ⟨q0, q1, q2, q3⟩ := box_of_top htB
    have HFb := Lib.hid hfb
    have HWW := Lib.hid hW
    clear hfb hW htA htB
    go_wp2_with fail
    have hW := HWW.out
    unfold store4 at hW
    rw [← hW]
    exact bodyPost_ret (v := .tuple #[ndZero, .slice none 0 0, ndZero, .bool false]) (by simp [results, Try.results23, go_sem, p0, p1, p2, p3, q0, q1, q2, q3]) rfl ⟨rfl, HFb.out⟩
  · have hlt := HGG.out (sndB_iff.1 h1)
    obtain ⟨x0, x1, x2, x3⟩ := HS1.out.box
    clear h1 HGG
    cases lf
    · have hlt : a < 3 := hlt
      obtain ⟨y0, y1, y2, y3, f0, f1, f2, f3⟩ := out_cells HS1.out.outA
      obtain ⟨z0, z1, z2, z3, g0, g1, g2, g3⟩ := out_cells HS1.out.outB
      obtain ⟨W, hW⟩ : ∃ W, W = store4 (store4 w1 (w.heap.size + 1) false (.slice none 0 0) (.slice none 0 0) (.slice none 0 0)) (w.heap.size + 1 + 1) false (.slice none 0 0) (.slice none 0 0) (.slice none 0 0) := ⟨_, rfl⟩
      have htA := (store4_other (w := store4 w1 (w.heap.size + 1) false (.slice none 0 0) (.slice none 0 0) (.slice none 0 0)) (N := w.heap.size + 1 + 1) (lf := false) (K := .slice none 0 0) (V := .slice none 0 0) (D := .slice none 0 0) (show w.heap.size + 1 ≠ w.heap.size + 1 + 1 by omega)).trans (store4_top (lf := false) (K := .slice none 0 0) (V := .slice none 0 0) (D := .slice none 0 0) HS1.out.outA)
      have htB := store4_top (lf := false) (K := .slice none 0 0) (V := .slice none 0 0) (D := .slice none 0 0) ((store4_other (w := w1) (N := w.heap.size + 1) (lf := false) (K := .slice none 0 0) (V := .slice none 0 0) (D := .slice none 0 0) (show w.heap.size + 1 + 1 ≠ w.heap.size + 1 by omega)).trans HS1.out.outB)
      have hfb := (HS1.out.below.trans (store4_below (w := w1) (lf := false) (K := .slice none 0 0) (V := .slice none 0 0) (D := .slice none 0 0) (show w.heap.size ≤ w.heap.size + 1 by omega))).trans (store4_below (w := store4 w1 (w.heap.size + 1) false (.slice none 0 0) (.slice none 0 0) (.slice none 0 0)) (lf := false) (K := .slice none 0 0) (V := .slice none 0 0) (D := .slice none 0 0) (show w.heap.size ≤ w.heap.size + 1 + 1 by omega))
      rw [← hW] at htA htB hfb
      obtain ⟨p0, p1, p2, p3⟩ := box_of_top htA
      obtain ⟨q0, q1, q2, q3⟩ := box_of_top htB
      have HFb := Lib.hid hfb
      have HWW := Lib.hid hW
      clear hfb hW htA htB
      go_wp2_with fail
      have hW := HWW.out
      unfold store4 at hW
      rw [← hW]
      exact bodyPost_ret (v := .tuple #[ndZero, .slice none 0 0, ndZero, .bool false]) (by simp [results, Try.results23, go_sem, p0, p1, p2, p3, q0, q1, q2, q3]) rfl ⟨rfl, HFb.out⟩
    · have hlt : a < 2 := hlt
      obtain ⟨y0, y1, y2, y3, f0, f1, f2, f3⟩ := out_cells HS1.out.outA
      obtain ⟨z0, z1, z2, z3, g0, g1, g2, g3⟩ := out_cells HS1.out.outB
      obtain ⟨W, hW⟩ : ∃ W, W = store4 (store4 w1 (w.heap.size + 1) false (.slice none 0 0) (.slice none 0 0) (.slice none 0 0)) (w.heap.size + 1 + 1) false (.slice none 0 0) (.slice none 0 0) (.slice none 0 0) := ⟨_, rfl⟩
      have htA := (store4_other (w := store4 w1 (w.heap.size + 1) false (.slice none 0 0) (.slice none 0 0) (.slice none 0 0)) (N := w.heap.size + 1 + 1) (lf := false) (K := .slice none 0 0) (V := .slice none 0 0) (D := .slice none 0 0) (show w.heap.size + 1 ≠ w.heap.size + 1 + 1 by omega)).trans (store4_top (lf := false) (K := .slice none 0 0) (V := .slice none 0 0) (D := .slice none 0 0) HS1.out.outA)
      have htB := store4_top (lf := false) (K := .slice none 0 0) (V := .slice none 0 0) (D := .slice none 0 0) ((store4_other (w := w1) (N := w.heap.size + 1) (lf := false) (K := .slice none 0 0) (V := .slice none 0 0) (D := .slice none 0 0) (show w.heap.size + 1 + 1 ≠ w.heap.size + 1 by omega)).trans HS1.out.outB)
      have hfb := (HS1.out.below.trans (store4_below (w := w1) (lf := false) (K := .slice none 0 0) (V := .slice none 0 0) (D := .slice none 0 0) (show w.heap.size ≤ w.heap.size + 1 by omega))).trans (store4_below (w := store4 w1 (w.heap.size + 1) false (.slice none 0 0) (.slice none 0 0) (.slice none 0 0)) (lf := false) (K := .slice none 0 0) (V := .slice none 0 0) (D := .slice none 0 0) (show w.heap.size ≤ w.heap.size + 1 + 1 by omega))
      rw [← hW] at htA htB hfb
      obtain ⟨p0, p1, p2, p3⟩ := box_of_top htA
      obtain ⟨q0, q1, q2, q3⟩ := box_of_top htB
      have HFb := Lib.hid hfb
      have HWW := Lib.hid hW
      clear hfb hW htA htB
      go_wp2_with fail
      have hW := HWW.out
      unfold store4 at hW
      rw [← hW]
      exact bodyPost_ret (v := .tuple #[ndZero, .slice none 0 0, ndZero, .bool false]) (by simp [results, Try.results23, go_sem, p0, p1, p2, p3, q0, q1, q2, q3]) rfl ⟨rfl, HFb.out⟩
end Go.Proofs.Ytceefoopehoalaa
