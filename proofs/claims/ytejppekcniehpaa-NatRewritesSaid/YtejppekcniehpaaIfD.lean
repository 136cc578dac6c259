/-
  Read: a contract.
-/
import Derived.Test.YtejppekcniehpaaIfC
import Derived.Test.YtejppekcniehpaaNumC
namespace Go.Proofs.Ytejppekcniehpaa
open Go.RowKit
theorem ifErr_one {l : List UInt8} (h : ifE1 l ≠ 0) : ifErr l = ifE1 l := by unfold ifErr; rw [if_pos h]
theorem ifErr_two {l : List UInt8} (h : ifE1 l = 0) (h2 : ifE2 l (ifN l) ≠ 0) : ifErr l = ifE2 l (ifN l) := by unfold ifErr; rw [if_neg (by omega), if_pos h2]
theorem ifErr_three {l : List UInt8} (h : ifE1 l = 0) (h2 : ifE2 l (ifN l) = 0) : ifErr l = ifE3 (l.take (ifN l)) := by unfold ifErr; rw [if_neg (by omega), if_neg (by omega)]
set_option maxRecDepth 100000 in
set_option maxHeartbeats 400000 in
theorem ifRead_any {A : Option Addr} {c : Nat} {l : List UInt8} {w : World} (hr : Rd w w.heap.size (.slice A l.length c) (cellsB l)) :
    Calls Try.prog 52 #[.slice A l.length c] w fun e w' => e = .returned (.tuple #[hdV (ifRead l), .int .i64 ((ifErr l : Nat) : Int)]) ∧ Below w.heap.size w w' := by
  obtain ⟨_, _, e, hlc, _, _⟩ := hr.bytes
  injection e with e1 e2 e3
  subst e3
  clear e1 e2
  have hz : ∀ w, (zeroValue 33).run Try.prog w = .ok (.agg (hdC Hd.zero).toArray) w := zero_hd
  have hbu : ∀ W, (Instr.build 33 #[]).run Try.prog W = .ok (.agg (hdC Hd.zero).toArray) W := build_hd0
  have h0 := heap_alloc_last w (.cells (hdC Hd.zero).toArray 33)
  have hb0 := up_alloc (Below.refl w.heap.size w) (.cells (hdC Hd.zero).toArray 33)
  have hr0 := hr.alloc (Nat.le_refl _) (.cells (hdC Hd.zero).toArray 33)
  obtain ⟨X, hX⟩ : ∃ X, X = w.alloc (.cells (hdC Hd.zero).toArray 33) := ⟨_, rfl⟩
  have hXs : X.heap.size = w.heap.size + 1 := by rw [hX]; simp
  rw [← hX] at hr0 h0 hb0
  have hS : Hid (∀ y : Hd, y.Wide → ∀ W, Below X.heap.size X W → ∃ W', (Instr.storeAt 33 (.pointer (some ⟨w.heap.size, 0, none⟩)) (.agg (hdC y).toArray)).run Try.prog W = .ok () W' ∧ HdAt W' w.heap.size y ∧ Below w.heap.size w W') := Lib.hid fun y hy W hW => by
    obtain ⟨W', hst, hat, hgr, _⟩ := store_hd (w := W) (g := w.heap.size) (a := Hd.zero) (b := y) ((hW.block _ (by omega)).trans h0) Hd.zero_wide hy
    exact ⟨W', hst, hat, grown_below (up hb0 hW) hgr (Nat.le_refl _)⟩
  have hq := Lib.hid (ifBehind_any hr0)
  have hrl : ∀ {W}, Below X.heap.size X W → Rd W W.heap.size (.slice A l.length c) (cellsB l) := fun {W} hW => (hr0.below (hW.mono (by omega))).more (by have := hW.size; omega)
  by_cases h1 : ifE1 l = 0
  · obtain ⟨g1, g2, _, g4, g5, g6⟩ := ifE1_no h1
    rw [h1, if_pos rfl] at hq
    have hq2 := Lib.hid (ifWhole_any hr0 (ifN l) (by omega))
    have kh := cut_h (P := Try.prog) (t := 22) Try.underlying22 (i := _) (e := 5) rfl rfl A l.length c (ifN l) (by omega) ((ifN l : Nat) : Int) rfl
    have hlt : (l.take (ifN l)).length = ifN l := by rw [List.length_take]; omega
    have hrt : ∀ {W}, Below X.heap.size X W → Rd W W.heap.size (.slice A (l.take (ifN l)).length c) (cellsB (l.take (ifN l))) := fun {W} hW => by
      have := (hrl hW).upto g5
      rw [cellsB_take] at this
      rw [hlt]
      exact this
    have hq3 : Hid (∀ W, Below X.heap.size X W → Calls Try.prog 62 #[.slice A (ifN l) c] W fun e w' => e = .returned (.int .i64 ((ifE3 (l.take (ifN l)) : Nat) : Int)) ∧ Below W.heap.size W w') := Lib.hid fun W hW => by
      have := ifSound_any (hrt hW) (by omega) (by omega)
      rw [hlt] at this
      exact this
    have hq4 : Hid (∀ W, Below X.heap.size X W → Calls Try.prog 63 #[.slice A (ifN l) c] W fun e w' => e = .returned (.agg (hdC (ifHd (l.take (ifN l)))).toArray) ∧ Below W.heap.size W w') := Lib.hid fun W hW => by
      have := ifHead_any (hrt hW) (by omega) (by omega)
      rw [hlt] at this
      exact this
    have hyw := Lib.hid (ifHd_wide (l := l.take (ifN l)) (by omega))
    by_cases h2 : ifE2 l (ifN l) = 0
    · rw [h2] at hq2
      have he := ifErr_three h1 h2
      rw [he]
      unfold ifRead
      rw [he]
      by_cases h3 : ifE3 (l.take (ifN l)) = 0
      · rw [h3] at hq3 ⊢
        rw [if_pos rfl]
        generalize ifHd (l.take (ifN l)) = y at hq4 hyw ⊢
        generalize ifN l = n at hq hq2 kh hq3 hq4 ⊢
        generalize l.length = m at hq hq2 kh ⊢
        have hyi := info_hdA hyw.out
        obtain ⟨D, hD⟩ : ∃ D, D = (hdC y).toArray := ⟨_, rfl⟩
        rw [hdV, ← hD]
        rw [← hD] at hq4
        have hSy := Lib.hid (hS.out y hyw.out)
        rw [← hD] at hSy
        have HD := Lib.hid hD
        subst hX
        generalize hZ : hdC Hd.zero = Z at *
        clear hZ hD hr hr0 h0 hb0 hrl hrt hlt h1 h2 h3 he g1 g2 g4 g5 g6 hlc hS hXs hyi
        go_enter Try.func52, Try.ntmps52
        go_wp2_with (first
          | (with_reducible refine wpList_alloc_zero (o := ⟨some 2, .alloc 33, _, _, _, _⟩) rfl 33 rfl Z.toArray hz ?_)
          | (go_at_call 60; refine hq.out.mono ?_; rintro _ w1 ⟨rfl, rfl⟩)
          | (go_at_call 61; refine hq2.out.mono ?_; rintro _ w1 ⟨rfl, rfl⟩)
          | (go_at_call 62; refine (hq3.out _ (Below.refl _ _)).mono ?_; rintro _ w1 ⟨rfl, hb1⟩; have HB1 := Lib.hid hb1; clear hb1)
          | (go_at_call 63; refine (hq4.out _ HB1.out).mono ?_; rintro _ w2 ⟨rfl, hb2⟩; have HB2 := Lib.hid (up HB1.out hb2); clear hb2; obtain ⟨w3, hst, hat, hbel⟩ := hSy.out w2 HB2.out; have HT := Lib.hid (And.intro hat hbel); clear hat hbel)
          | ((with_reducible refine wpList_stored (o := ⟨none, .store 33 (.tmp 2) (.tmp 29), _, _, _, none⟩) rfl 33 (.tmp 2) (.tmp 29) rfl (.pointer (some ⟨w.heap.size, 0, none⟩)) (.agg D) ?_ ?_ w3 hst ?_); exact rfl; exact rfl))
        exact bodyPost_ret (ret_hd (p := 2) (q := 3) (by kernel_rfl) rfl HT.out.1 hyw.out rfl) rfl ⟨by rw [HD.out]; rfl, HT.out.2⟩
      · rw [if_neg h3]
        have hSy := Lib.hid (hS.out Hd.zero Hd.zero_wide)
        rw [hdV]
        have k1 := beq_zero h3
        have k2 := bne_zero h3
        generalize ifE3 (l.take (ifN l)) = x at hq3 k1 k2 ⊢
        generalize ifN l = n at hq hq2 kh hq3 ⊢
        generalize l.length = m at hq hq2 kh ⊢
        subst hX
        generalize hZ : hdC Hd.zero = Z at *
        have HZ := Lib.hid hZ
        clear hZ hr hr0 h0 hb0 hrl hrt hlt h1 h2 h3 he g1 g2 g4 g5 g6 hlc hS hXs hq4 hyw
        go_enter Try.func52, Try.ntmps52
        go_wp2_with (first
          | (with_reducible refine wpList_alloc_zero (o := ⟨some 2, .alloc 33, _, _, _, _⟩) rfl 33 rfl Z.toArray hz ?_)
          | (go_at_call 60; refine hq.out.mono ?_; rintro _ w1 ⟨rfl, rfl⟩)
          | (go_at_call 61; refine hq2.out.mono ?_; rintro _ w1 ⟨rfl, rfl⟩)
          | (go_at_call 62; refine (hq3.out _ (Below.refl _ _)).mono ?_; rintro _ w2 ⟨rfl, hb2⟩; obtain ⟨w3, hst, hat, hbel⟩ := hSy.out w2 hb2; have HT := Lib.hid (And.intro hat hbel); clear hb2 hat hbel)
          | ((with_reducible refine wpList_stored (o := ⟨none, .store 33 (.tmp 2) (.tmp 24), _, _, _, none⟩) rfl 33 (.tmp 2) (.tmp 24) rfl (.pointer (some ⟨w.heap.size, 0, none⟩)) (.agg Z.toArray) ?_ ?_ w3 hst ?_); exact rfl; exact rfl))
        exact bodyPost_ret (ret_hd (p := 2) (q := 3) (by kernel_rfl) rfl HT.out.1 Hd.zero_wide rfl) rfl ⟨by rw [← HZ.out]; rfl, HT.out.2⟩
    · have he := ifErr_two h1 h2
      rw [he]
      unfold ifRead
      rw [he, if_neg h2]
      have hSy := Lib.hid (hS.out Hd.zero Hd.zero_wide)
      rw [hdV]
      have k1 := beq_zero h2
      have k2 := bne_zero h2
      generalize ifE2 l (ifN l) = x at hq2 k1 k2 ⊢
      generalize ifN l = n at hq hq2 ⊢
      generalize l.length = m at hq hq2 ⊢
      subst hX
      generalize hZ : hdC Hd.zero = Z at *
      have HZ := Lib.hid hZ
      obtain ⟨w3, hst, hat, hbel⟩ := hSy.out _ (Below.refl _ _)
      have HT := Lib.hid (And.intro hat hbel)
      clear hat hbel hZ hr hr0 h0 hb0 hrl hrt hlt h1 h2 he g1 g2 g4 g5 g6 hlc hS hXs hq3 hq4 hyw kh
      go_enter Try.func52, Try.ntmps52
      go_wp2_with (first
        | (with_reducible refine wpList_alloc_zero (o := ⟨some 2, .alloc 33, _, _, _, _⟩) rfl 33 rfl Z.toArray hz ?_)
        | (go_at_call 60; refine hq.out.mono ?_; rintro _ w1 ⟨rfl, rfl⟩)
        | (go_at_call 61; refine hq2.out.mono ?_; rintro _ w1 ⟨rfl, rfl⟩)
        | ((with_reducible refine wpList_stored (o := ⟨none, .store 33 (.tmp 2) (.tmp 24), _, _, _, none⟩) rfl 33 (.tmp 2) (.tmp 24) rfl (.pointer (some ⟨w.heap.size, 0, none⟩)) (.agg Z.toArray) ?_ ?_ w3 hst ?_); exact rfl; exact rfl))
      exact bodyPost_ret (ret_hd (p := 2) (q := 3) (by kernel_rfl) rfl HT.out.1 Hd.zero_wide rfl) rfl ⟨by rw [← HZ.out]; rfl, HT.out.2⟩
  · have he := ifErr_one h1
    rw [he]
    unfold ifRead
    rw [he, if_neg h1]
    rw [if_neg h1] at hq
    have hSy := Lib.hid (hS.out Hd.zero Hd.zero_wide)
    rw [hdV]
    have k1 := beq_zero h1
    have k2 := bne_zero h1
    generalize ifE1 l = x at hq k1 k2 ⊢
    generalize l.length = m at hq ⊢
    subst hX
    generalize hZ : hdC Hd.zero = Z at *
    have HZ := Lib.hid hZ
    obtain ⟨w3, hst, hat, hbel⟩ := hSy.out _ (Below.refl _ _)
    have HT := Lib.hid (And.intro hat hbel)
    clear hat hbel hZ hr hr0 h0 hb0 hrl h1 he hlc hS hXs
    go_enter Try.func52, Try.ntmps52
    go_wp2_with (first
      | (with_reducible refine wpList_alloc_zero (o := ⟨some 2, .alloc 33, _, _, _, _⟩) rfl 33 rfl Z.toArray hz ?_)
      | (go_at_call 60; refine hq.out.mono ?_; rintro _ w1 ⟨rfl, rfl⟩)
      | ((with_reducible refine wpList_stored (o := ⟨none, .store 33 (.tmp 2) (.tmp 24), _, _, _, none⟩) rfl 33 (.tmp 2) (.tmp 24) rfl (.pointer (some ⟨w.heap.size, 0, none⟩)) (.agg Z.toArray) ?_ ?_ w3 hst ?_); exact rfl; exact rfl))
    exact bodyPost_ret (ret_hd (p := 2) (q := 3) (by kernel_rfl) rfl HT.out.1 Hd.zero_wide rfl) rfl ⟨by rw [← HZ.out]; rfl, HT.out.2⟩
end Go.Proofs.Ytejppekcniehpaa
