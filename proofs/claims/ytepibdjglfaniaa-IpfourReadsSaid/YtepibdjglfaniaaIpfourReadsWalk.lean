/-
  The walk of IpfourReads.
-/
import Derived.Test.YtepibdjglfaniaaIfL
import Derived.Test.YtepibdjglfaniaaIfU
namespace Go.Proofs.Ytepibdjglfaniaa
open Go.RowKit
set_option maxRecDepth 100000 in
set_option maxHeartbeats 1000000 in
theorem ipfourReads_walk (v : Value) (l : List UInt8) (w : World) (hr : Rd w w.heap.size v (cellsB l)) :
    Calls Try.prog 3 #[v] w fun e w' => e = .returned (.bool true) ∧ Below w.heap.size w w' := by
  obtain ⟨A0, c0, rfl, _, _, hr⟩ := hr.bytes
  have hlv := Lib.hid ifLives_any
  obtain ⟨d, hd⟩ : ∃ d, d = l.take 2060 := ⟨_, rfl⟩
  have hdl : d.length ≤ 2060 := by rw [hd, List.length_take]; omega
  obtain ⟨m, hm⟩ : ∃ m, m = d.length := ⟨_, rfl⟩
  have hfew : Hid (Calls Try.prog 6 #[.slice A0 l.length c0, .int .i64 2060] w fun e w' => ∃ A c, e = .returned (.slice A m c) ∧ Rd w' w'.heap.size (.slice A m c) (cellsB d) ∧ Below w.heap.size w w') := Lib.hid <| by
    refine (few_any _ l 2060 _ _ hr (Nat.le_refl _) (by omega)).mono ?_
    rintro e w' ⟨v, rfl, hv, hb⟩
    rw [← hd] at hv
    obtain ⟨A, c, rfl, hr'⟩ := mine_slice (w := w) hv hm.symm
    exact ⟨A, c, rfl, hr', hb⟩
  obtain ⟨q, hq⟩ : ∃ q, q = l.length := ⟨_, rfl⟩
  rw [← hq] at hfew ⊢
  have hyw := ifRead_wide d
  obtain ⟨y, hy⟩ : ∃ y, y = ifRead d := ⟨_, rfl⟩
  obtain ⟨er, her⟩ : ∃ er, er = ifErr d := ⟨_, rfl⟩
  rw [← hy] at hyw
  have hrd : Hid (∀ W v, Rd W W.heap.size v (cellsB d) → Calls Try.prog 7 #[v] W fun e w' => e = .returned (.tuple #[.agg (hdC y).toArray, .int .i64 (er : Int)]) ∧ Below W.heap.size W w') := Lib.hid fun W v hr => by
    obtain ⟨A, c, rfl, _, _, hr⟩ := hr.bytes
    rw [hy, her]
    exact ifRead_any hr
  have hrr : Hid (∀ W v, Rd W W.heap.size v (cellsB d) → Calls Try.prog 8 #[v] W fun e w' => e = .returned (.tuple #[.agg (hdC y).toArray, .int .i64 (er : Int)]) ∧ Below W.heap.size W w') := Lib.hid fun W v hr => by
    obtain ⟨A, c, rfl, _, _, hr⟩ := hr.bytes
    rw [hy, her]
    exact rifRead_any hr
  have hzz : ∀ w, (zeroValue 28).run Try.prog w = .ok (.agg (hdC Hd.zero).toArray) w := zero_hd
  have hZl := hdC_length Hd.zero_wide
  have hyl := hdC_length hyw
  have hxi := info_hdA hyw
  have hzs : (hdC Hd.zero).toArray.size = (hdC y).toArray.size := by rw [List.size_toArray, List.size_toArray, hyl, hZl]
  have hxa := all_oneCell_toArray (hdC_one y)
  have heq := eql_hd y y hyw hyw
  rw [decide_eq_true rfl, hdV] at heq
  obtain ⟨i, hi8, hz0, hz1, hz2⟩ := info_parts info_u8
  have hDL := Lib.hid hdl
  clear hr hd hdl hm hq hy her hyw hZl hyl
  generalize hdC Hd.zero = Z at *
  generalize (hdC y).toArray = D at *
  go_enter Try.func3, Try.ntmps3
  go_wp2_with (first
    | (go_at_call 6; refine hfew.out.mono ?_; rintro _ w1 ⟨A1, c1, rfl, hr1, hb1⟩; have HR1 := Lib.hid hr1; have HB1 := Lib.hid hb1; have HM := Mine.empty w1 w1.heap.size 5 (Nat.le_refl _); clear hr1 hb1)
    | (at_builtin; refine wpList_append_rd rfl (.tmp 10) (.tmp 11) 22 rfl w1.heap.size 5 i _ 1 Try.underlying22 hi8 hz0 hz1 hz2 rfl _ [] rfl HM _ _ (cellsB d) rfl (HR1.out.alloc (Nat.le_refl _) _) (cellsB_one _) (by have := hDL.out; rw [cellsB_length]; simp; omega) (by have := hDL.out; rw [cellsB_length]; unfold maxLen; simp; omega) (by simp) ?_; intro v2 w2 hown2 hb2 _ _; have HB12 := Lib.hid ((up_alloc (Below.refl w1.heap.size w1) (.cells #[] 5)).trans hb2); have HR2 := Lib.hid hown2.rd; clear hown2 hb2 HM)
    | (go_at_call 8; refine (hrr.out _ _ ((HR1.out.below HB14.out).more HB14.out.size)).mono ?_; rintro _ w5 ⟨rfl, hb5⟩; have HB6 := Lib.hid (up_alloc (up HB4.out hb5) (.cells D 28)); have g6 := heap_alloc_last w5 (.cells D 28); have g4 := (heap_alloc_old w5 (.cells D 28) (show w3.heap.size < w5.heap.size by (have := hb5.size; simp at this; omega))).trans ((hb5.block _ (by simp)).trans g3); clear hb5)
    | (go_at_call 7; refine (hrd.out _ _ HR2.out).mono ?_; rintro _ w3 ⟨rfl, hb3⟩; have HB14 := Lib.hid (up_alloc (up HB12.out hb3) (.cells D 28)); have HB4 := Lib.hid (up HB1.out HB14.out); have g3 := heap_alloc_last w3 (.cells D 28); clear hb3)
    | (with_reducible refine wpList_alloc_zero (o := ⟨some 3, .alloc 28, _, _, _, _⟩) rfl 28 rfl Z.toArray hzz ?_)
    | ((with_reducible refine wpList_store_new (o := ⟨none, .store 28 (.tmp 3) (.tmp 14), _, _, _, _⟩) rfl 28 (.tmp 3) (.tmp 14) rfl Z.toArray D ?_ ?_ hxi hzs hxa ?_); exact rfl; exact rfl)
    | (with_reducible refine wpList_alloc_zero (o := ⟨some 5, .alloc 28, _, _, _, _⟩) rfl 28 rfl Z.toArray hzz ?_)
    | ((with_reducible refine wpList_store_new (o := ⟨none, .store 28 (.tmp 5) (.tmp 19), _, _, _, _⟩) rfl 28 (.tmp 5) (.tmp 19) rfl Z.toArray D ?_ ?_ hxi hzs hxa ?_); exact rfl; exact rfl)
    | ((with_reducible refine wpList_load_row (o := ⟨some 21, .load 28 (.tmp 3), _, _, _, _⟩) rfl 28 (.tmp 3) rfl w3.heap.size ?_ 28 D (0, 0) _ g4 Try.underlying28 rfl hxi ?_); exact rfl)
    | ((with_reducible refine wpList_load_row (o := ⟨some 22, .load 28 (.tmp 5), _, _, _, _⟩) rfl 28 (.tmp 5) rfl w5.heap.size ?_ 28 D (0, 0) _ g6 Try.underlying28 rfl hxi ?_); exact rfl)
    | (go_at_call 9; refine (hlv.out _).mono ?_; rintro _ w7 ⟨rfl, hb7⟩))
  go_ret
  exact ⟨rfl, up HB6.out hb7⟩
end Go.Proofs.Ytepibdjglfaniaa
