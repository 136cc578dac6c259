/-
  The walk of PageMoved.
-/
import Derived.Test.YtnbmcecmdokogaaLaw04B
namespace Go.Proofs.Ytnbmcecmdokogaa
open Go.RowKit
/-- A page that lies elsewhere is none: just that is wrong. -/
theorem pgErr_moved {a b : Int} {l : List UInt8} (h : PgOk a l) (hne : b ≠ a) : pgErr b l = 1 := by
  unfold pgErr
  have h5 : ¬ (fieldAt l 5 1 < 1 ∨ 4 < fieldAt l 5 1 ∨ 232 < fieldAt l 6 2 ∨ pgTail l = false) := by
    rw [h.tail]; have := h.kind1; have := h.kind4; have := h.blen; simp; omega
  rw [if_neg (by simpa using h.len), if_neg (by simpa using h.front), if_neg (by simpa using h.ver), if_neg (by simpa using h.sum), if_neg h5, if_pos (by have := h.num; omega)]
/-- The law's page behind Few, and what Encode makes of it. -/
theorem pgFew_box (k g : Int) (A : Option Addr) (n c : Nat) (l : List UInt8) (w : World) (hr : Rd w w.heap.size (.slice A n c) (cellsB l)) :
    ∃ m : List UInt8, m.length ≤ 240 ∧ Calls Try.prog 7 #[pgVal k g (.slice A n c)] (w.alloc (.cells #[.int .i64 k, .int .u64 g, .slice A n c] 25)) fun e w' => ∃ A' c', e = .returned (pgVal k g (.slice A' m.length c')) ∧ m.length ≤ c' ∧ Rd w' w'.heap.size (.slice A' m.length c') (cellsB m) ∧ Below w.heap.size w w' := by
  refine ⟨l.take 240, by simp; omega, (pgFew_any k g A n c l _ w.heap.size (by simp) (hr.alloc (Nat.le_refl _) _)).mono ?_⟩
  rintro e w' ⟨A', c', rfl, h1, h2⟩
  obtain ⟨_, _, e, g1, _, _⟩ := h1.bytes
  injection e with e1 e2 e3
  subst e3
  exact ⟨A', c', rfl, g1, h1, ((Below.refl _ _).alloc (Nat.le_refl _) _).trans (h2.mono (by simp))⟩
set_option maxHeartbeats 1000000 in
theorem pageMoved_core (kind : Int) (gen : Nat) (A : Option Addr) (n c : Nat) (l : List UInt8) (from_ to_ : Int) (w : World) (h : Rd w w.heap.size (.slice A n c) (cellsB l)) (hg : gen < 18446744073709551616) :
    Calls Try.prog 6 #[pgVal kind gen (.slice A n c), .int .i64 from_, .int .i64 to_] w fun e w' => e = .returned (.bool true) ∧ Below w.heap.size w w' := by
  obtain ⟨m, hm, hfew⟩ := pgFew_box kind gen A n c l w h
  have Hg := Kept.mk hg
  have Hfew := Lib.hid hfew
  clear hfew hg
  by_cases harg : (from_ < 0 ∨ 1599 < from_) ∨ kind < 1 ∨ 4 < kind
  · have Henc := Lib.hid (fun (A' : Option Addr) (n' c' : Nat) (W : World) => pgEnc_arg from_ kind gen A' n' c' W harg)
    clear harg
    go_enter Try.func6, Try.ntmps6
    go_wp2_with fail
    refine Hfew.out.mono ?_
    rintro e w1 ⟨A1, c1, rfl, hc1, hr1, hb1⟩
    go_wp2_with fail
    refine (Henc.out _ _ _ _).mono ?_
    rintro e w2 ⟨rfl, hb2⟩
    go_wp2_with fail
    refine (lives04_any _).mono ?_
    rintro e w3 ⟨rfl, hb3⟩
    go_wp2_with fail
    go_ret
    exact ⟨rfl, up (hb1.trans (hb2.mono hb1.size)) hb3⟩
  · obtain ⟨k, rfl⟩ := Int.eq_ofNat_of_zero_le (show 0 ≤ kind by omega)
    obtain ⟨f, rfl⟩ := Int.eq_ofNat_of_zero_le (show 0 ≤ from_ by omega)
    have hk1 : 1 ≤ k := by omega
    have hk4 : k ≤ 4 := by omega
    have hf : f ≤ 1599 := by omega
    clear harg
    by_cases hlong : 232 < m.length
    · go_enter Try.func6, Try.ntmps6
      go_wp2_with fail
      refine Hfew.out.mono ?_
      rintro e w1 ⟨A1, c1, rfl, hc1, hr1, hb1⟩
      go_wp2_with fail
      refine (pgEnc_long _ _ _ _ _ _ _ (by omega) (by omega) (by omega) (by omega) hlong (by omega)).mono ?_
      rintro e w2 ⟨rfl, hb2⟩
      go_wp2_with fail
      refine (lives04_any _).mono ?_
      rintro e w3 ⟨rfl, hb3⟩
      go_wp2_with fail
      go_ret
      exact ⟨rfl, up (hb1.trans (hb2.mono hb1.size)) hb3⟩
    · have hm2 : m.length ≤ 232 := by omega
      obtain ⟨q, hq⟩ : ∃ q, q = pgBytes k f gen m := ⟨_, rfl⟩
      have hok := pgBytes_ok k f gen m hm2 hk1 hk4 hf
      rw [← hq] at hok
      have henc := fun (A' : Option Addr) (c' : Nat) (W : World) (hr : Rd W W.heap.size (.slice A' m.length c') (cellsB m)) => pgEnc_ok f k gen A' m c' W W.heap.size hr (Nat.le_refl _) hf hk1 hk4 hm2
      rw [← hq] at henc
      have Henc := Lib.hid henc
      have Hq := Lib.hid hq
      clear henc hq hlong
      by_cases hto : to_ = (f : Int)
      · subst hto
        clear hok
        go_enter Try.func6, Try.ntmps6
        go_wp2_with fail
        refine Hfew.out.mono ?_
        rintro e w1 ⟨A1, c1, rfl, hc1, hr1, hb1⟩
        go_wp2_with fail
        refine (Henc.out _ _ _ hr1).mono ?_
        rintro e w2 ⟨v2, rfl, hown2, hb2⟩
        obtain ⟨A2, c2, rfl, _, _, hr2⟩ := hown2.rd.bytes
        go_wp2_with fail
        refine (pgDec_enc k f gen m q Hq.out hm2 hk1 hk4 hf Hg.out A2 c2 w2 _ hr2 (Nat.le_refl _)).mono ?_
        rintro e w3 ⟨A3, c3, rfl, hr3, hb3⟩
        go_wp2_with fail
        refine (lives04_any _).mono ?_
        rintro e w4 ⟨rfl, hb4⟩
        go_wp2_with fail
        go_ret
        exact ⟨rfl, up (up_alloc (up (hb1.trans (hb2.mono hb1.size)) hb3) _) hb4⟩
      · have hbad := fun (A' : Option Addr) (c' : Nat) (W : World) (hr : Rd W W.heap.size (.slice A' q.length c') (cellsB q)) => pgDec_bad to_ A' c' q W W.heap.size hr (Nat.le_refl _) 1 (pgErr_moved hok hto) (by omega)
        have Hbad := Lib.hid hbad
        have hne : ((f : Int) == to_) = false := by rw [beq_eq_false_iff_ne]; exact fun e => hto e.symm
        clear hbad hok hto
        go_enter Try.func6, Try.ntmps6
        go_wp2_with fail
        refine Hfew.out.mono ?_
        rintro e w1 ⟨A1, c1, rfl, hc1, hr1, hb1⟩
        go_wp2_with fail
        refine (Henc.out _ _ _ hr1).mono ?_
        rintro e w2 ⟨v2, rfl, hown2, hb2⟩
        obtain ⟨A2, c2, rfl, _, _, hr2⟩ := hown2.rd.bytes
        go_wp2_with fail
        refine (Hbad.out _ _ _ hr2).mono ?_
        rintro e w3 ⟨rfl, hb3⟩
        go_wp2_with fail
        refine (lives04_any _).mono ?_
        rintro e w4 ⟨rfl, hb4⟩
        go_wp2_with fail
        go_ret
        exact ⟨rfl, up (up_alloc (up (hb1.trans (hb2.mono hb1.size)) hb3) _) hb4⟩
theorem pageMoved_walk (kind : Int) (gen : Nat) (A : Option Addr) (c : Nat) (l : List UInt8) (from_ to_ : Int) (w : World) (_ : (Lit.int .i64 kind).wf = true) (hg : gen < 18446744073709551616) (h : Rd w w.heap.size (.slice A l.length c) (cellsB l)) (_ : (Lit.int .i64 from_).wf = true) (_ : (Lit.int .i64 to_).wf = true) :
    Calls Try.prog 6 #[pgVal kind gen (.slice A l.length c), .int .i64 from_, .int .i64 to_] w fun e w' => e = .returned (.bool true) ∧ Below w.heap.size w w' :=
  pageMoved_core kind gen A _ c l from_ to_ w h hg
end Go.Proofs.Ytnbmcecmdokogaa
