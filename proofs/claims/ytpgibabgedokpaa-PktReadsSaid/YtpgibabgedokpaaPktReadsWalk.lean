/-
  The walk of PktReads.
-/
import Derived.Test.YtpgibabgedokpaaPkF
import Derived.Test.YtpgibabgedokpaaPkG
namespace Go.Proofs.Ytpgibabgedokpaa
open Go.RowKit
theorem pkR_wide (l : List UInt8) : (pkRead l).Wide := by
  by_cases h : pkErr l = 0
  · rw [pkRead_is h]
    exact ⟨pkRH_wide l, (pkRH_wide l).1, (pkRH_wide l).2, sgRead_ports _ _⟩
  · unfold pkRead
    rw [if_neg h]
    exact Pk.none_wide
set_option maxRecDepth 100000 in
set_option maxHeartbeats 1000000 in
theorem pktReads_walk (v : Value) (l : List UInt8) (w : World) (hr : Rd w w.heap.size v (cellsB l)) :
    Calls Try.prog 3 #[v] w fun e w' => e = .returned (.bool true) ∧ Below w.heap.size w w' := by
  obtain ⟨A0, c0, rfl, _, _, hr⟩ := hr.bytes
  have hlv := Lib.hid pkLives_any
  obtain ⟨d, hd⟩ : ∃ d, d = l.take 2060 := ⟨_, rfl⟩
  have hdl : d.length ≤ 2060 := by rw [hd, List.length_take]; omega
  obtain ⟨m, hm⟩ : ∃ m, m = d.length := ⟨_, rfl⟩
  have hfew : Hid (Calls Try.prog 6 #[.slice A0 l.length c0, .int .i64 2060] w fun e w' => ∃ A c, e = .returned (.slice A m c) ∧ Rd w' w'.heap.size (.slice A m c) (cellsB d) ∧ Below w.heap.size w w') := Lib.hid <| by
    refine (few_any _ l 2060 _ _ hr (Nat.le_refl _) (by omega)).mono ?_
    rintro e w' ⟨v, rfl, hv, hb⟩
    rw [← hd] at hv
    obtain ⟨A, c, rfl, hr'⟩ := mine_slice (w := w) hv hm.symm
    exact ⟨A, c, rfl, hr', hb⟩
  obtain ⟨q, hq⟩ : ∃ q, q = l.length := ⟨_, rfl⟩
  rw [← hq] at hfew ⊢
  have hyw := pkR_wide d
  obtain ⟨y, hy⟩ : ∃ y, y = pkRead d := ⟨_, rfl⟩
  obtain ⟨er, her⟩ : ∃ er, er = pkErr d := ⟨_, rfl⟩
  rw [← hy] at hyw
  have hrd : Hid (∀ W v, Rd W W.heap.size v (cellsB d) → Calls Try.prog 7 #[v] W fun e w' => e = .returned (.tuple #[.agg (pkC y).toArray, .int .i64 (er : Int)]) ∧ Below W.heap.size W w') := Lib.hid fun W v hr => by
    obtain ⟨A, c, rfl, _, _, hr⟩ := hr.bytes
    rw [hy, her]
    exact pkParse_any hr
  have hrr : Hid (∀ W v, Rd W W.heap.size v (cellsB d) → Calls Try.prog 8 #[v] W fun e w' => e = .returned (.tuple #[.agg (pkC y).toArray, .int .i64 (er : Int)]) ∧ Below W.heap.size W w') := Lib.hid fun W v hr => by
    obtain ⟨A, c, rfl, _, _, hr⟩ := hr.bytes
    rw [hy, her]
    exact rpkParse_any hr
  have hzp : ∀ w, (zeroValue 35).run Try.prog w = .ok (.agg (pkC Pk.none).toArray) w := zero_pk
  have hSt : Hid (∀ W : World, ∃ W', (storeCells ⟨W.heap.size, 0, none⟩ (pkC y)).run Try.prog (W.alloc (.cells (pkC Pk.none).toArray 35)) = .ok () W' ∧ Below W.heap.size W W' ∧ W.heap.size < W'.heap.size ∧ PkAt W' W.heap.size y) := Lib.hid fun W => by
    obtain ⟨W', _, hat, hgr, hsz, hsc⟩ := store_pk (w := W.alloc (.cells (pkC Pk.none).toArray 35)) (g := W.heap.size) (a := Pk.none) (b := y) (heap_alloc_last W _) Pk.none_wide hyw
    exact ⟨W', hsc, grown_below (up_alloc (Below.refl _ _) _) hgr (Nat.le_refl _), by rw [hsz]; simp, hat⟩
  have hRow : Hid (∀ {W : World} {g : Nat}, PkAt W g y → W.rangeAt g 0 (pkC y)) := Lib.hid fun h => row_range h
  have hyl := pkC_length hyw
  have hxi := info_pk hyw
  have heq : ∀ W, (binOp .eql 35 (.agg (pkC y).toArray) (.agg (pkC y).toArray)).run Try.prog W = .ok (.bool true) W := fun W => by
    have := eql_pk y y hyw hyw W
    rwa [decide_eq_true rfl] at this
  obtain ⟨i, hi8, hz0, hz1, hz2⟩ := info_parts info_u8
  have hDL := Lib.hid hdl
  clear hr hd hdl hm hq hy her hyw
  generalize pkC Pk.none = ZP at *
  generalize hPC : pkC y = PC at *
  clear hPC
  go_enter Try.func3, Try.ntmps3
  go_wp2_with (first
    | (go_at_call 6; refine hfew.out.mono ?_; rintro _ w1 ⟨A1, c1, rfl, hr1, hb1⟩; have HR1 := Lib.hid hr1; have HB1 := Lib.hid hb1; have HM := Mine.empty w1 w1.heap.size 5 (Nat.le_refl _); clear hr1 hb1)
    | (at_builtin; refine wpList_append_rd rfl (.tmp 10) (.tmp 11) 22 rfl w1.heap.size 5 i _ 1 Try.underlying22 hi8 hz0 hz1 hz2 rfl _ [] rfl HM _ _ (cellsB d) rfl (HR1.out.alloc (Nat.le_refl _) _) (cellsB_one _) (by have := hDL.out; rw [cellsB_length]; simp; omega) (by have := hDL.out; rw [cellsB_length]; unfold maxLen; simp; omega) (by simp) ?_; intro v2 w2 hown2 hb2 _ _; have HB12 := Lib.hid ((up_alloc (Below.refl w1.heap.size w1) (.cells #[] 5)).trans hb2); have HR2 := Lib.hid hown2.rd; clear hown2 hb2 HM)
    | (go_at_call 8; refine (hrr.out _ _ ((HR1.out.below HB4.out).more HB4.out.size)).mono ?_; rintro _ w5 ⟨rfl, hb5⟩; obtain ⟨w6, hst6, hb6, hlt6, hat6⟩ := hSt.out w5; have HP4 := Lib.hid (HA4.out.below (up hb5 hb6) HL4.out); have HP6 := Lib.hid hat6; have HL6 := Lib.hid hlt6; have HL46 := Lib.hid (Nat.lt_of_lt_of_le HL4.out (up hb5 hb6).size); have HB6 := Lib.hid (up (up HB1.out HB4.out) (up hb5 hb6)); have hr3 := hRow.out HP4.out; have hr5 := hRow.out HP6.out; clear hb5 hb6 hlt6 hat6)
    | (go_at_call 7; refine (hrd.out _ _ HR2.out).mono ?_; rintro _ w3 ⟨rfl, hb3⟩; obtain ⟨w4, hst4, hb4, hlt4, hat4⟩ := hSt.out w3; have HB4 := Lib.hid (up (up HB12.out hb3) hb4); have HA4 := Lib.hid hat4; have HL4 := Lib.hid hlt4; clear hb3 hb4 hlt4 hat4)
    | (with_reducible refine wpList_alloc_zero (o := ⟨some 3, .alloc 35, _, _, _, _⟩) rfl 35 rfl ZP.toArray hzp ?_)
    | (with_reducible refine wpList_alloc_zero (o := ⟨some 5, .alloc 35, _, _, _, _⟩) rfl 35 rfl ZP.toArray hzp ?_)
    | ((with_reducible refine wpList_load_mid_g (op := ⟨some 21, .load 35 (.tmp 3), _, _, _, _⟩) (by kernel_rfl) 35 (.tmp 3) rfl w3.heap.size 0 ?_ PC _ hr3 Try.underlying35 rfl hxi ?_); exact rfl)
    | ((with_reducible refine wpList_load_mid_g (op := ⟨some 22, .load 35 (.tmp 5), _, _, _, _⟩) (by kernel_rfl) 35 (.tmp 5) rfl w5.heap.size 0 ?_ PC _ hr5 Try.underlying35 rfl hxi ?_); exact rfl)
    | (go_at_call 9; refine (hlv.out _).mono ?_; rintro _ w7 ⟨rfl, hb7⟩))
  go_ret
  exact ⟨rfl, up HB6.out hb7⟩
end Go.Proofs.Ytpgibabgedokpaa
