/-
  Read's ways: readUDP.
-/
import Derived.Test.YtalchhfpdojjjaaSgC
import Derived.Test.YtalchhfpdojjjaaAdEq
namespace Go.Proofs.Ytalchhfpdojjjaa
open Go.RowKit
set_option maxRecDepth 100000 in
set_option maxHeartbeats 1000000 in
theorem sgUdp_any (h : Hd) (hw : h.Wide) {A : Option Addr} {c : Nat} {l : List UInt8} {w : World} (hr : Rd w w.heap.size (.slice A l.length c) (cellsB l)) (hl : l.length ≤ 100000) :
    Calls Try.prog 31 #[hdV h, .slice A l.length c] w fun e w' => e = .returned (.tuple #[sgV (if udpE h l = 0 then udpHd l else Sg.none), .int .i64 ((udpE h l : Nat) : Int)]) ∧ Below w.heap.size w w' := by
  have st := SgStart.of h w
  obtain ⟨X, hX⟩ : ∃ X, X = (w.alloc (.cells (hdC h).toArray 26)).alloc (.cells (sgC Sg.none).toArray 34) := ⟨_, rfl⟩
  rw [← hX] at st
  have hat : HdAt X w.heap.size h := st.head
  have hrg : X.rangeAt w.heap.size 0 (hdC h) := rangeAt_block hat fun j u hu => by rw [Nat.zero_add]; exact hu
  have c0 := hdC_six hat
  have hi := info_hd hw
  have hrX := (hr.below st.below).more st.below.size
  have hG : Hid (Calls Try.prog 36 #[.agg (hdC h).toArray, .slice A l.length c] X fun e w' => e = .returned (.bool (sgOk h l)) ∧ Below X.heap.size X w') := Lib.hid (sgGood_any h hw hrX hl)
  have hW := Lib.hid (sgWhole_any hrX)
  have hN : 8 ≤ l.length → ∀ W, Below w.heap.size w W → ∀ (a : Nat) (aa : Int), aa = (a : Int) → a + 2 ≤ 8 → Calls Try.prog 37 #[.slice A l.length c, .int .i64 aa] W fun e w' => e = .returned (.int .u16 ((num2 l a : Nat) : Int)) ∧ W = w' := fun h8 W hW a aa ha h4 => by
    subst ha
    exact sgNumber_any (hr.below hW) (by omega)
  have hXb := Lib.hid st.below
  have hz := st.zero
  have hbu := st.build
  clear hr hrX hat
  rw [hdV]
  generalize hZ : sgC Sg.none = Z at st hX hz hbu
  by_cases h1 : udpW l = 0
  · have h8 := udpW_no h1
    have hE : udpE h l = if num2 l 6 = 0 then (if h.six then 4 else 0) else if sgOk h l = true then 0 else 5 := by unfold udpE; rw [if_pos h1]
    rw [h1] at hW
    have hN6 := Lib.hid (fun W hW => hN h8 W hW 6 6 rfl (by omega))
    have hN0 := Lib.hid (fun W hW => hN h8 W hW 0 0 rfl (by omega))
    have hN2 := Lib.hid (fun W hW => hN h8 W hW 2 2 rfl (by omega))
    have hU : udpHd l = ⟨num2 l 0, num2 l 2, 0, 6, decide (num2 l 6 = 0), 8⟩ := rfl
    have hbt := build_sgUdp (num2 l 0) (num2 l 2) (decide (num2 l 6 = 0))
    rw [← hU] at hbt
    have hS1 := st.store (udpHd l)
    unfold sgV at hS1 hbt
    replace hS1 := Lib.hid hS1
    generalize hdC h = Ch at *
    obtain ⟨m, hm⟩ : ∃ m, m = l.length := ⟨_, rfl⟩
    obtain ⟨q0, hq0⟩ : ∃ q, q = num2 l 0 := ⟨_, rfl⟩
    obtain ⟨q2, hq2⟩ : ∃ q, q = num2 l 2 := ⟨_, rfl⟩
    obtain ⟨q6, hq6⟩ : ∃ q, q = num2 l 6 := ⟨_, rfl⟩
    rw [← hq6] at hE
    rw [← hm] at hG hW hN6 hN0 hN2 ⊢
    rw [← hq0] at hN0 hbt
    rw [← hq2] at hN2 hbt
    rw [← hq6] at hN6 hbt
    clear hm hq0 hq2 hq6 h8 hN hl hw hZ hU h1
    generalize udpHd l = Y at *
    by_cases h6 : q6 = 0
    · rw [if_pos h6] at hE
      subst h6
      rw [decide_eq_true (rfl : 0 = 0)] at hbt
      clear hG
      cases hsix : h.six with
      | true =>
        rw [hsix, if_pos rfl] at hE
        rw [hsix] at c0
        rw [hE, if_neg (by decide)]
        have hS0 := st.store Sg.none
        rw [st.none] at hS0
        replace hS0 := Lib.hid hS0
        have hZl := st.len
        have HZ := Lib.hid st.none
        clear st
        obtain ⟨w3, hst, _, hat3, hbel⟩ := hS0.out _ (Below.refl _ _)
        have HT := Lib.hid (And.intro hat3 hbel)
        clear hat3 hbel hS0
        clear hE hS1 hN0 hN2 hbt
        subst hX
        go_enter Try.func31, Try.ntmps31
        go_wp2_with (first
          | (with_reducible refine wpList_alloc_zero (o := ⟨some 4, .alloc 34, _, _, _, _⟩) rfl 34 rfl Z.toArray hz ?_)
          | (go_at_call 38; refine hW.out.mono ?_; rintro _ w1 ⟨rfl, rfl⟩)
          | (go_at_call 37; have hx1 := hN6; clear hx1; refine (hN6.out _ hXb.out).mono ?_; rintro _ wx ⟨rfl, rfl⟩; clear hN6))
        exact bodyPost_ret (ret_sg (p := 4) (q := 5) (by kernel_rfl) rfl HT.out.1 rfl) rfl ⟨by rw [← HZ.out]; rfl, HT.out.2⟩
      | false =>
        rw [hsix, if_neg (by decide)] at hE
        rw [hsix] at c0
        rw [hE, if_pos rfl]
        clear hE
        have hSx := hS1
        obtain ⟨w3, hst, _, hat3, hbel⟩ := hSx.out _ (Below.refl _ _)
        have HT := Lib.hid (And.intro hat3 hbel)
        clear hat3 hbel hS1 st hSx
        generalize hYC : sgC Y = D at *
        have hDl : D.length = 6 := by rw [← hYC]; rfl
        have HYC := Lib.hid hYC
        clear hYC
        subst hX
        go_enter Try.func31, Try.ntmps31
        go_wp2_with (first
          | (with_reducible refine wpList_alloc_zero (o := ⟨some 4, .alloc 34, _, _, _, _⟩) rfl 34 rfl Z.toArray hz ?_)
          | (go_at_call 38; refine hW.out.mono ?_; rintro _ w1 ⟨rfl, rfl⟩)
          | (go_at_call 37; have hx1 := hN6; clear hx1; refine (hN6.out _ hXb.out).mono ?_; rintro _ wx ⟨rfl, rfl⟩; clear hN6)
          | (go_at_call 37; have hx1 := hN0; clear hx1; refine (hN0.out _ hXb.out).mono ?_; rintro _ wx ⟨rfl, rfl⟩; clear hN0)
          | (go_at_call 37; have hx1 := hN2; clear hx1; refine (hN2.out _ hXb.out).mono ?_; rintro _ wx ⟨rfl, rfl⟩; clear hN2)
          | ((with_reducible refine wpList_run (o := ⟨some 37, .build 34 #[(0, .tmp 33), (1, .tmp 35), (3, .const (.int .i64 6)), (4, .tmp 36), (5, .const (.int .i64 8))], _, _, _, _⟩) rfl (.agg D.toArray) ((w.alloc (.cells Ch.toArray 26)).alloc (.cells Z.toArray 34)) ?_ ?_); exact exec_bld5 (k1 := 0) (k2 := 1) (k3 := 3) (k4 := 4) (k5 := 5) rfl (u1 := .int .u16 (q0 : Int)) (u2 := .int .u16 (q2 : Int)) (u3 := .int .i64 6) (u4 := .bool true) (u5 := .int .i64 8) rfl rfl rfl rfl rfl (hbt _)))
        exact bodyPost_ret (ret_sg (p := 4) (q := 5) (by kernel_rfl) rfl HT.out.1 rfl) rfl ⟨by rw [← HYC.out]; rfl, HT.out.2⟩
    · rw [if_neg h6] at hE
      rw [decide_eq_false h6] at hbt
      have k6 := beq_zero h6
      cases hok : sgOk h l with
      | true =>
        rw [hok, if_pos rfl] at hE
        rw [hok] at hG
        rw [hE, if_pos rfl]
        clear hE st
        have hSx := hS1
        generalize hYC : sgC Y = D at *
        have hDl : D.length = 6 := by rw [← hYC]; rfl
        have HYC := Lib.hid hYC
        clear hYC
        subst hX
        clear hS1
        go_enter Try.func31, Try.ntmps31
        go_wp2_with (first
          | (with_reducible refine wpList_alloc_zero (o := ⟨some 4, .alloc 34, _, _, _, _⟩) rfl 34 rfl Z.toArray hz ?_)
          | (go_at_call 38; refine hW.out.mono ?_; rintro _ w1 ⟨rfl, rfl⟩)
          | (go_at_call 37; have hx1 := hN6; clear hx1; refine (hN6.out _ hXb.out).mono ?_; rintro _ wx ⟨rfl, rfl⟩; clear hN6)
          | ((with_reducible refine wpList_load_mid_g (op := ⟨some 26, .load 26 (.tmp 2), _, _, _, _⟩) (by kernel_rfl) 26 (.tmp 2) rfl w.heap.size 0 ?_ Ch _ hrg Try.underlying26 rfl hi ?_); exact rfl)
          | (go_at_call 36; refine hG.out.mono ?_; rintro _ w2 ⟨rfl, hb2⟩; obtain ⟨w3, hst, _, hat3, hbel⟩ := hSx.out _ hb2; have HB2 := Lib.hid (up hXb.out hb2); have HT := Lib.hid (And.intro hat3 hbel); clear hat3 hbel hb2)
          | (go_at_call 37; have hx1 := hN0; clear hx1; refine (hN0.out _ HB2.out).mono ?_; rintro _ wx ⟨rfl, rfl⟩; clear hN0)
          | (go_at_call 37; have hx1 := hN2; clear hx1; refine (hN2.out _ HB2.out).mono ?_; rintro _ wx ⟨rfl, rfl⟩; clear hN2)
          | ((with_reducible refine wpList_run (o := ⟨some 37, .build 34 #[(0, .tmp 33), (1, .tmp 35), (3, .const (.int .i64 6)), (4, .tmp 36), (5, .const (.int .i64 8))], _, _, _, _⟩) rfl (.agg D.toArray) w2 ?_ ?_); exact exec_bld5 (k1 := 0) (k2 := 1) (k3 := 3) (k4 := 4) (k5 := 5) rfl (u1 := .int .u16 (q0 : Int)) (u2 := .int .u16 (q2 : Int)) (u3 := .int .i64 6) (u4 := .bool false) (u5 := .int .i64 8) rfl rfl rfl rfl rfl (hbt _)))
        exact bodyPost_ret (ret_sg (p := 4) (q := 5) (by kernel_rfl) rfl HT.out.1 rfl) rfl ⟨by rw [← HYC.out]; rfl, HT.out.2⟩
      | false =>
        rw [hok, if_neg (by decide)] at hE
        rw [hok] at hG
        rw [hE, if_neg (by decide)]
        have hS0 := st.store Sg.none
        rw [st.none] at hS0
        replace hS0 := Lib.hid hS0
        have hZl := st.len
        have HZ := Lib.hid st.none
        clear st
        have hSx := hS0
        clear hE hS1 hS0 hbt
        subst hX
        go_enter Try.func31, Try.ntmps31
        go_wp2_with (first
          | (with_reducible refine wpList_alloc_zero (o := ⟨some 4, .alloc 34, _, _, _, _⟩) rfl 34 rfl Z.toArray hz ?_)
          | (go_at_call 38; refine hW.out.mono ?_; rintro _ w1 ⟨rfl, rfl⟩)
          | (go_at_call 37; have hx1 := hN6; clear hx1; refine (hN6.out _ hXb.out).mono ?_; rintro _ wx ⟨rfl, rfl⟩; clear hN6)
          | ((with_reducible refine wpList_load_mid_g (op := ⟨some 26, .load 26 (.tmp 2), _, _, _, _⟩) (by kernel_rfl) 26 (.tmp 2) rfl w.heap.size 0 ?_ Ch _ hrg Try.underlying26 rfl hi ?_); exact rfl)
          | (go_at_call 36; refine hG.out.mono ?_; rintro _ w2 ⟨rfl, hb2⟩; obtain ⟨w3, hst, _, hat3, hbel⟩ := hSx.out _ hb2; have HB2 := Lib.hid (up hXb.out hb2); have HT := Lib.hid (And.intro hat3 hbel); clear hat3 hbel hb2))
        exact bodyPost_ret (ret_sg (p := 4) (q := 5) (by kernel_rfl) rfl HT.out.1 rfl) rfl ⟨by rw [← HZ.out]; rfl, HT.out.2⟩
  · have hE : udpE h l = udpW l := by unfold udpE; rw [if_neg h1]
    rw [hE, if_neg h1]
    have k1 := beq_zero h1
    have k2 := bne_zero h1
    generalize udpW l = E at *
    generalize hdC h = Ch at *
    generalize l.length = m at *
    have hS0 := st.store Sg.none
    rw [st.none] at hS0
    replace hS0 := Lib.hid hS0
    have hZl := st.len
    have HZ := Lib.hid st.none
    clear st
    obtain ⟨w3, hst, _, hat3, hbel⟩ := hS0.out _ (Below.refl _ _)
    have HT := Lib.hid (And.intro hat3 hbel)
    clear hat3 hbel hS0
    clear hE hN hG h1 hl hw hZ
    subst hX
    go_enter Try.func31, Try.ntmps31
    go_wp2_with (first
      | (with_reducible refine wpList_alloc_zero (o := ⟨some 4, .alloc 34, _, _, _, _⟩) rfl 34 rfl Z.toArray hz ?_)
      | (go_at_call 38; refine hW.out.mono ?_; rintro _ w1 ⟨rfl, rfl⟩))
    exact bodyPost_ret (ret_sg (p := 4) (q := 5) (by kernel_rfl) rfl HT.out.1 rfl) rfl ⟨by rw [← HZ.out]; rfl, HT.out.2⟩
end Go.Proofs.Ytalchhfpdojjjaa
