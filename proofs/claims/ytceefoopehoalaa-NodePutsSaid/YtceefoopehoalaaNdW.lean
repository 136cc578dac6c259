/-
  Decode of package node of what is no node, by contract.
-/
import Derived.Test.YtceefoopehoalaaNdV
namespace Go.Proofs.Ytceefoopehoalaa
open Go.RowKit
set_option maxHeartbeats 1600000 in
theorem decode_bad (lf : Bool) (A : Option Addr) (c : Nat) (b : List UInt8) (w : World) (hr : Rd w w.heap.size (.slice A b.length c) (cellsB b)) (hl : b.length ≤ 1000) (hno : ∀ n : Nd, n.Fit → n.leaf = lf → n.bytes ≠ b) :
    Calls Try.prog 10 #[.bool lf, .slice A b.length c] w fun e w' => e = .returned (.tuple #[ndZero, .int .i64 4]) ∧ Below w.heap.size w w' := by
  have hread := fun (W : World) (hW : Below w.heap.size w W) => read_any lf A c b W ((hr.below hW).more hW.size) (by omega)
  have hsh := short_rd lf b
  have hnl := rdAt_leaf lf b (getN b 0 1)
  obtain ⟨n, hn⟩ : ∃ n, n = (rdAt lf b (getN b 0 1)).1 := ⟨_, rfl⟩
  rw [← hn] at hread hsh hnl
  clear hn
  have hout := heap_alloc_last w (.cells #[.bool false, .slice none 0 0, .slice none 0 0, .slice none 0 0] 27)
  have hb0 : Below w.heap.size w (w.alloc (.cells #[.bool false, .slice none 0 0, .slice none 0 0, .slice none 0 0] 27)) := (Below.refl _ _).alloc (Nat.le_refl _) _
  have hsz : (w.alloc (.cells #[.bool false, .slice none 0 0, .slice none 0 0, .slice none 0 0] 27)).heap.size = w.heap.size + 1 := by simp
  have hrd := hread _ hb0
  obtain ⟨nb, hnb⟩ : ∃ x, x = b.length := ⟨_, rfl⟩
  have HO := Lib.hid hout
  have H0 := Lib.hid hb0
  have HS := Lib.hid hsz
  by_cases hf : n.Fit
  · have hne := hno n hf hnl
    have henc := fun (W : World) (K V D : Value) (hW : NdIs W W.heap.size K V D n) => encode_good hW (Nat.le_refl _) hsh hf
    have heq := fun (W : World) (v : Value) (hW : Below w.heap.size w W) (hv : Rd W W.heap.size v (cellsB n.bytes)) => beq_any hv (hr.below hW)
    rw [decide_eq_false hne] at heq
    rw [hnl] at henc
    rw [← hnb] at hrd heq ⊢
    have HR := Lib.hid hrd
    have HE := Lib.hid henc
    have HQ := Lib.hid heq
    clear hr hl hread hsh henc heq hout hb0 hsz hrd hnb hno hnl hne hf
    go_enter Try.func10, Try.ntmps10
    go_wp2_with fail
    refine HR.out.mono ?_
    rintro e w1 ⟨K, V, D, rfl, hn1, hb1⟩
    have hn1 : NdNew w1 (w.heap.size + 1) K V D n := by rw [HS.out] at hn1; exact hn1
    obtain ⟨A1, n1, c1, A2, n2, c2, A3, n3, c3, rfl, rfl, rfl⟩ := hn1.is.slices
    have hn2 := hn1.kept ((Below.refl _ _).alloc (Nat.le_refl _) (.cells #[.bool lf, .slice A1 n1 c1, .slice A2 n2 c2, .slice A3 n3 c3] 27))
    have hb2 := up_alloc (up H0.out (hb1.mono (Nat.le_refl _))) (.cells #[.bool lf, .slice A1 n1 c1, .slice A2 n2 c2, .slice A3 n3 c3] 27)
    have hbx := NdBox.made w1 lf (.slice A1 n1 c1) (.slice A2 n2 c2) (.slice A3 n3 c3)
    have hs1 : w.heap.size < w1.heap.size := by have := hb1.size; rw [HS.out] at this; omega
    have ho2 := (heap_alloc_old w1 (.cells #[.bool lf, .slice A1 n1 c1, .slice A2 n2 c2, .slice A3 n3 c3] 27) hs1).trans ((hb1.block w.heap.size (by rw [HS.out]; omega)).trans HO.out)
    have henc := HE.out _ _ _ _ hn2.is
    have HB2 := Lib.hid hb2
    have HO2 := Lib.hid ho2
    have HS1 := Lib.hid hs1
    obtain ⟨x0, x1, x2, x3⟩ := hbx
    clear hn1 hb1 hn2 hb2 ho2 hs1
    go_wp2_with fail
    refine henc.mono ?_
    rintro e w3 ⟨v, rfl, hown, hb3⟩
    have HB3 := Lib.hid (up HB2.out hb3)
    have HO3 := Lib.hid ((hb3.block w.heap.size (by have := HS1.out; simp; omega)).trans HO2.out)
    have heq := HQ.out w3 v HB3.out hown.rd
    clear x0 x1 x2 x3 henc hown hb3
    obtain ⟨y0, y1, y2, y3, f0, f1, f2, f3⟩ := out_cells HO3.out
    obtain ⟨W, hW⟩ : ∃ W, W = store4 w3 w.heap.size false (.slice none 0 0) (.slice none 0 0) (.slice none 0 0) := ⟨_, rfl⟩
    have hbox := box_of_top (store4_top (lf := false) (K := .slice none 0 0) (V := .slice none 0 0) (D := .slice none 0 0) HO3.out)
    have hfb := HB3.out.trans (store4_below (w := w3) (lf := false) (K := .slice none 0 0) (V := .slice none 0 0) (D := .slice none 0 0) (Nat.le_refl w.heap.size))
    rw [← hW] at hbox hfb
    obtain ⟨q0, q1, q2, q3⟩ := hbox
    have HFb := Lib.hid hfb
    have HWW := Lib.hid hW
    clear hfb hW
    go_wp2_with (go_at_call 29; refine heq.mono ?_; rintro e w4 ⟨rfl, rfl⟩)
    have hW := HWW.out
    unfold store4 at hW
    rw [← hW]
    exact bodyPost_ret (v := .tuple #[ndZero, .int .i64 4]) (by simp [results, Try.results10, go_sem, q0, q1, q2, q3]) rfl ⟨rfl, HFb.out⟩
  · have henc := fun (W : World) (K V D : Value) (hW : NdIs W W.heap.size K V D n) => encode_bad hW (Nat.le_refl _) hsh hf
    rw [hnl] at henc
    rw [← hnb] at hrd ⊢
    have HR := Lib.hid hrd
    have HE := Lib.hid henc
    clear hr hl hread hsh henc hout hb0 hsz hrd hnb hno hnl hf
    go_enter Try.func10, Try.ntmps10
    go_wp2_with fail
    refine HR.out.mono ?_
    rintro e w1 ⟨K, V, D, rfl, hn1, hb1⟩
    have hn1 : NdNew w1 (w.heap.size + 1) K V D n := by rw [HS.out] at hn1; exact hn1
    obtain ⟨A1, n1, c1, A2, n2, c2, A3, n3, c3, rfl, rfl, rfl⟩ := hn1.is.slices
    have hn2 := hn1.kept ((Below.refl _ _).alloc (Nat.le_refl _) (.cells #[.bool lf, .slice A1 n1 c1, .slice A2 n2 c2, .slice A3 n3 c3] 27))
    have hb2 := up_alloc (up H0.out (hb1.mono (Nat.le_refl _))) (.cells #[.bool lf, .slice A1 n1 c1, .slice A2 n2 c2, .slice A3 n3 c3] 27)
    have hbx := NdBox.made w1 lf (.slice A1 n1 c1) (.slice A2 n2 c2) (.slice A3 n3 c3)
    have hs1 : w.heap.size < w1.heap.size := by have := hb1.size; rw [HS.out] at this; omega
    have ho2 := (heap_alloc_old w1 (.cells #[.bool lf, .slice A1 n1 c1, .slice A2 n2 c2, .slice A3 n3 c3] 27) hs1).trans ((hb1.block w.heap.size (by rw [HS.out]; omega)).trans HO.out)
    obtain ⟨x, hx, henc⟩ := HE.out _ _ _ _ hn2.is
    have HB2 := Lib.hid hb2
    have HO2 := Lib.hid ho2
    have HS1 := Lib.hid hs1
    obtain ⟨x0, x1, x2, x3⟩ := hbx
    clear hn1 hb1 hn2 hb2 ho2 hs1
    rcases hx with rfl | rfl
    all_goals
      go_wp2_with fail
      refine henc.mono ?_
      rintro e w3 ⟨rfl, hb3⟩
      have HB3 := Lib.hid (up HB2.out hb3)
      have HO3 := Lib.hid ((hb3.block w.heap.size (by have := HS1.out; simp; omega)).trans HO2.out)
      clear x0 x1 x2 x3 henc hb3
      obtain ⟨y0, y1, y2, y3, f0, f1, f2, f3⟩ := out_cells HO3.out
      obtain ⟨W, hW⟩ : ∃ W, W = store4 w3 w.heap.size false (.slice none 0 0) (.slice none 0 0) (.slice none 0 0) := ⟨_, rfl⟩
      have hbox := box_of_top (store4_top (lf := false) (K := .slice none 0 0) (V := .slice none 0 0) (D := .slice none 0 0) HO3.out)
      have hfb := HB3.out.trans (store4_below (w := w3) (lf := false) (K := .slice none 0 0) (V := .slice none 0 0) (D := .slice none 0 0) (Nat.le_refl w.heap.size))
      rw [← hW] at hbox hfb
      obtain ⟨q0, q1, q2, q3⟩ := hbox
      have HFb := Lib.hid hfb
      have HWW := Lib.hid hW
      clear hfb hW
      go_wp2_with fail
      have hW := HWW.out
      unfold store4 at hW
      rw [← hW]
      exact bodyPost_ret (v := .tuple #[ndZero, .int .i64 4]) (by simp [results, Try.results10, go_sem, q0, q1, q2, q3]) rfl ⟨rfl, HFb.out⟩
end Go.Proofs.Ytceefoopehoalaa
