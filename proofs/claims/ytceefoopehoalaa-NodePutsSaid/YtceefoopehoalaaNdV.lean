/-
  Decode of package node, by contract.
-/
import Derived.Test.YtceefoopehoalaaNdU
namespace Go.Proofs.Ytceefoopehoalaa
open Go.RowKit
theorem read_any (lf : Bool) (A : Option Addr) (c : Nat) (b : List UInt8) (w : World) (hr : Rd w w.heap.size (.slice A b.length c) (cellsB b)) (hl : b.length ≤ 100000000) :
    Calls Try.prog 28 #[.bool lf, .slice A b.length c] w fun e w' => ∃ K V D, e = .returned (ndVal lf K V D) ∧ NdNew w' w.heap.size K V D (rdAt lf b (getN b 0 1)).1 ∧ Below w.heap.size w w' := by
  cases lf
  · exact read_not A c b w hr hl
  · exact read_leaf A c b w hr hl
theorem encode_good {n : Nd} {K V D : Value} {w : World} {B : Nat} (hr : NdIs w B K V D n) (hB : B ≤ w.heap.size) (hsh : n.Short 1000000) (h : n.Fit) :
    Calls Try.prog 26 #[ndVal n.leaf K V D] w fun e w' => ∃ v, e = .returned (.tuple #[v, .int .i64 0]) ∧ Mine w' w.heap.size 5 v (cellsB n.bytes) ∧ Below w.heap.size w w' := by
  cases hl : n.leaf
  · exact encode_not hr hB hsh h.snd hl h.few h.fit
  · exact encode_leaf hr hB hsh h.snd hl h.few h.fit
theorem encode_bad {n : Nd} {K V D : Value} {w : World} {B : Nat} (hr : NdIs w B K V D n) (hB : B ≤ w.heap.size) (hsh : n.Short 1000000) (h : ¬ n.Fit) :
    ∃ x : Int, (x = 4 ∨ x = 10) ∧ Calls Try.prog 26 #[ndVal n.leaf K V D] w fun e w' => e = .returned (.tuple #[.slice none 0 0, .int .i64 x]) ∧ Below w.heap.size w w' := by
  by_cases h1 : n.Snd ∧ n.keys.length ≤ 255
  · refine ⟨10, .inr rfl, encode_long hr hB hsh h1.1 h1.2 ?_⟩
    rcases Nat.lt_or_ge 232 n.size with h2 | h2
    · exact h2
    · exact absurd ⟨h1.1, h1.2, h2⟩ h
  · refine ⟨4, .inl rfl, encode_form hr hB hsh ?_⟩
    by_cases h2 : n.Snd
    · exact .inr (by rcases Nat.lt_or_ge 255 n.keys.length with h3 | h3; exact h3; exact absurd ⟨h2, h3⟩ h1)
    · exact .inl h2
theorem beq_any {a b : Value} {l m : List UInt8} {w : World} {B C : Nat} (h1 : Rd w B a (cellsB l)) (h2 : Rd w C b (cellsB m)) :
    Calls Try.prog 29 #[a, b] w fun e w' => e = .returned (.bool (decide (l = m))) ∧ w = w' := by
  have s1 := run_string_rd (P := Try.prog) 22 9 5 Try.underlying22 Try.underlying5 Try.underlying9 h1
  have s2 := run_string_rd (P := Try.prog) 22 9 5 Try.underlying22 Try.underlying5 Try.underlying9 h2
  go_enter Try.func29, Try.ntmps29
  go_wp2_with fail
  go_ret
  refine ⟨?_, rfl⟩
  show Ending.returned (.bool (l == m)) = _
  congr 2
  rw [Bool.eq_iff_iff]
  simp
theorem short_rd (lf : Bool) (b : List UInt8) : (rdAt lf b (getN b 0 1)).1.Short 1000000 := by
  have h := rdAt_len lf b (getN b 0 1)
  have g := getN_byte b 0
  exact ⟨by omega, by omega, by omega⟩
/-- The zero node. -/
abbrev ndZero : Value := ndVal false (.slice none 0 0) (.slice none 0 0) (.slice none 0 0)
set_option maxHeartbeats 1600000 in
theorem decode_good (A : Option Addr) (c : Nat) (w : World) {n : Nd} (hf : n.Fit) (hr : Rd w w.heap.size (.slice A n.bytes.length c) (cellsB n.bytes)) :
    Calls Try.prog 10 #[.bool n.leaf, .slice A n.bytes.length c] w fun e w' => ∃ K V D, e = .returned (.tuple #[ndVal n.leaf K V D, .int .i64 0]) ∧ NdNew w' (w.heap.size + 1) K V D n ∧ Below w.heap.size w w' := by
  have hbl : n.bytes.length ≤ 232 := by rw [n.bytes_len]; exact hf.fit
  have hread := fun (W : World) (hW : Below w.heap.size w W) => read_any n.leaf A c n.bytes W ((hr.below hW).more hW.size) (by omega)
  rw [n.read_back hf] at hread
  have hsh : n.Short 1000000 := by have := short_rd n.leaf n.bytes; rwa [n.read_back hf] at this
  have henc := fun (W : World) (K V D : Value) (hW : NdIs W W.heap.size K V D n) => encode_good hW (Nat.le_refl _) hsh hf
  have heq := fun (W : World) (v : Value) (hW : Below w.heap.size w W) (hv : Rd W W.heap.size v (cellsB n.bytes)) => beq_any hv (hr.below hW)
  have hout := heap_alloc_last w (.cells #[.bool false, .slice none 0 0, .slice none 0 0, .slice none 0 0] 27)
  have hb0 : Below w.heap.size w (w.alloc (.cells #[.bool false, .slice none 0 0, .slice none 0 0, .slice none 0 0] 27)) := (Below.refl _ _).alloc (Nat.le_refl _) _
  have hsz : (w.alloc (.cells #[.bool false, .slice none 0 0, .slice none 0 0, .slice none 0 0] 27)).heap.size = w.heap.size + 1 := by simp
  have hrd := hread _ hb0
  rw [decide_eq_true (rfl : n.bytes = n.bytes)] at heq
  obtain ⟨lf, hlf⟩ : ∃ x, x = n.leaf := ⟨_, rfl⟩
  obtain ⟨nb, hnb⟩ : ∃ x, x = n.bytes.length := ⟨_, rfl⟩
  rw [← hlf] at hrd henc ⊢
  rw [← hnb] at hrd heq ⊢
  have HR := Lib.hid hrd
  have HE := Lib.hid henc
  have HQ := Lib.hid heq
  have HO := Lib.hid hout
  have H0 := Lib.hid hb0
  have HS := Lib.hid hsz
  clear hr hbl hread hsh henc heq hout hb0 hsz hrd hnb hlf
  go_enter Try.func10, Try.ntmps10
  go_wp2_with fail
  refine HR.out.mono ?_
  rintro e w1 ⟨K, V, D, rfl, hn1, hb1⟩
  have hn1 : NdNew w1 (w.heap.size + 1) K V D n := by rw [HS.out] at hn1; exact hn1
  obtain ⟨A1, n1, c1, A2, n2, c2, A3, n3, c3, rfl, rfl, rfl⟩ := hn1.is.slices
  have hn2 := hn1.kept ((Below.refl _ _).alloc (Nat.le_refl _) (.cells #[.bool lf, .slice A1 n1 c1, .slice A2 n2 c2, .slice A3 n3 c3] 27))
  have hb2 := up_alloc (up H0.out (hb1.mono (Nat.le_refl _))) (.cells #[.bool lf, .slice A1 n1 c1, .slice A2 n2 c2, .slice A3 n3 c3] 27)
  have hbx := NdBox.made w1 lf (.slice A1 n1 c1) (.slice A2 n2 c2) (.slice A3 n3 c3)
  have hs1 : w.heap.size < w1.heap.size := by have := hb1.size; rw [HS.out] at this; omega
  have ho2 := (heap_alloc_old w1 (.cells #[.bool lf, .slice A1 n1 c1, .slice A2 n2 c2, .slice A3 n3 c3] 27) hs1).trans ((hb1.block w.heap.size (by rw [HS.out]; omega)).trans HO.out)
  have henc := HE.out _ _ _ _ hn2.is
  have HN2 := Lib.hid hn2
  have HB2 := Lib.hid hb2
  have HX2 := Lib.hid hbx
  have HO2 := Lib.hid ho2
  have HS1 := Lib.hid hs1
  obtain ⟨x0, x1, x2, x3⟩ := hbx
  clear hn1 hb1 hn2 hb2 ho2 hs1
  go_wp2_with fail
  refine henc.mono ?_
  rintro e w3 ⟨v, rfl, hown, hb3⟩
  have HN3 := Lib.hid (HN2.out.kept hb3)
  have HB3 := Lib.hid (up HB2.out hb3)
  have HX3 := Lib.hid (HX2.out.later (by simp) hb3)
  have HO3 := Lib.hid ((hb3.block w.heap.size (by have := HS1.out; simp; omega)).trans HO2.out)
  have heq := HQ.out w3 v HB3.out hown.rd
  clear x0 x1 x2 x3 henc hown hb3
  obtain ⟨x0, x1, x2, x3⟩ := HX3.out
  obtain ⟨y0, y1, y2, y3, f0, f1, f2, f3⟩ := out_cells HO3.out
  obtain ⟨W, hW⟩ : ∃ W, W = store4 w3 w.heap.size lf (.slice A1 n1 c1) (.slice A2 n2 c2) (.slice A3 n3 c3) := ⟨_, rfl⟩
  have hbox := box_of_top (store4_top (lf := lf) (K := .slice A1 n1 c1) (V := .slice A2 n2 c2) (D := .slice A3 n3 c3) HO3.out)
  have hfi := HN3.out.store4 (lf := lf) (K := .slice A1 n1 c1) (V := .slice A2 n2 c2) (D := .slice A3 n3 c3) (N := w.heap.size) (by omega)
  have hfb := HB3.out.trans (store4_below (w := w3) (lf := lf) (K := .slice A1 n1 c1) (V := .slice A2 n2 c2) (D := .slice A3 n3 c3) (Nat.le_refl w.heap.size))
  rw [← hW] at hbox hfi hfb
  obtain ⟨q0, q1, q2, q3⟩ := hbox
  have HFi := Lib.hid hfi
  have HFb := Lib.hid hfb
  have HWW := Lib.hid hW
  clear hfi hfb hW
  go_wp2_with (go_at_call 29; refine heq.mono ?_; rintro e w4 ⟨rfl, rfl⟩)
  have hW := HWW.out
  unfold store4 at hW
  rw [← hW]
  exact bodyPost_ret (v := .tuple #[ndVal lf (.slice A1 n1 c1) (.slice A2 n2 c2) (.slice A3 n3 c3), .int .i64 0]) (by simp [results, Try.results10, go_sem, q0, q1, q2, q3]) rfl ⟨_, _, _, rfl, HFi.out, HFb.out⟩
end Go.Proofs.Ytceefoopehoalaa
