/-
  The document's space: New: contract.
-/
import Derived.Test.YtllhilnajjohiaaSrC
import Derived.Test.YtllhilnajjohiaaLate
namespace Go.Proofs.Ytllhilnajjohiaa
open Go.RowKit
/-- A space that is being made: its cells, and the two rows at hand. -/
structure NewW (w0 w : World) (p : Nat) (tN tS uN uS : Value) (MN MS : List Value) : Prop where
  top : w.heap[p]? = some (.cells #[tN, tS] 55 (0, 0))
  rN : Mine w (p + 1) 4 uN MN
  rS : Mine w (p + 1) 4 uS MS
  apart : ∀ k, uN.ownBlock = some k → uS.ownBlock ≠ some k
  at_ : p = w0.heap.size
  below : Below w0.heap.size w0 w
section
variable {w0 w w' : World} {p g : Nat} {tN tS uN uS : Value} {MN MS : List Value} {b : Bool}
theorem NewW.lt (h : NewW w0 w p tN tS uN uS MN MS) : p < w.heap.size := (Array.getElem?_eq_some_iff.1 h.top).1
theorem NewW.c0 (h : NewW w0 w p tN tS uN uS MN MS) : w.cell? ⟨p, 0, none⟩ = some tN := by rw [cell_of_row w p 0 _ _ (0, 0) h.top]; rfl
theorem NewW.c1 (h : NewW w0 w p tN tS uN uS MN MS) : w.cell? ⟨p, 1, none⟩ = some tS := by rw [cell_of_row w p 1 _ _ (0, 0) h.top]; rfl
theorem NewW.fz (h : NewW w0 w p tN tS uN uS MN MS) (j : Nat) : w.frozen? ⟨p, j, none⟩ = false := frozen_of_row w p j _ _ h.top
theorem NewW.alloc (h : NewW w0 w p tN tS uN uS MN MS) (o : Obj) : NewW w0 (w.alloc o) p tN tS uN uS MN MS :=
  ⟨(heap_alloc_old w o h.lt).trans h.top, h.rN.alloc o, h.rS.alloc o, h.apart, h.at_, h.below.alloc h.below.size o⟩
theorem rd_cell1 {u : Value} {e : TypeId} (hg : w.heap[g]? = some (.cells #[u] e (0, 0))) : Rd w w.heap.size (.slice (some ⟨g, 0, none⟩) 1 1) [u] := by
  refine ⟨some ⟨g, 0, none⟩, 1, rfl, Nat.le_refl _, by unfold maxLen; omega, (fun h => by cases h), fun _ => ⟨g, 0, rfl, (Array.getElem?_eq_some_iff.1 hg).1, fun j v hv => ?_⟩⟩
  have hj : j = 0 := by
    have := (List.getElem?_eq_some_iff.1 hv).1
    simp at this
    exact this
  subst hj
  simp at hv
  subst hv
  rw [cell_of_row w g 0 _ _ (0, 0) hg]
  rfl
theorem NewW.appN (h : NewW w0 w p tN tS uN uS MN MS) (hg : w.heap[g]? = some (.cells #[.bool b] 4 (0, 0))) (hs : MN.length ≤ 2000) :
    ∃ A n c w3, (Builtin.append_ #[53, 53] 53 #[uN, .slice (some ⟨g, 0, none⟩) 1 1]).run Try.prog w = .ok (.slice A n c) w3 ∧ NewW w0 w3 p tN tS (.slice A n c) uS (MN ++ [.bool b]) MS ∧ ∀ k, k < w.heap.size → uN.ownBlock ≠ some k → w3.heap[k]? = w.heap[k]? := by
  obtain ⟨i, hi, hz0, hz1, hz2⟩ := info_parts info_bool
  obtain ⟨v, w3, hrun, hm, hgr, hob⟩ := run_append_rd (P := Try.prog) (w := w) (p + 1) 53 53 4 i _ 1 Try.underlying53 hi hz0 hz1 hz2 rfl uN MN h.rN _ _ _ (rd_cell1 hg) (by simp [Value.oneCell']) (by simp; omega) (by unfold maxLen; simp; omega) h.lt
  have hk : ∀ k, k < w.heap.size → uN.ownBlock ≠ some k → w3.heap[k]? = w.heap[k]? := fun k hk hne => hgr.block k hk fun e => hne e.symm
  obtain ⟨A, c, rfl⟩ := hm.form
  refine ⟨A, _, c, w3, hrun, ⟨?_, hm, ?_, ?_, h.at_, ?_⟩, hk⟩
  · rw [hk p h.lt fun e => by have := (h.rN.block p e).1; omega]
    exact h.top
  · refine h.rS.grown hgr ?_
    rcases hb : uS.ownBlock with _ | k
    · exact .inl rfl
    · exact .inr fun e => h.apart k e.symm hb
  · intro k hk1 hk2
    rcases hob with e | e
    · exact h.apart k (e ▸ hk1) hk2
    · rw [e] at hk1
      injection hk1 with hk1
      have := (h.rS.block k hk2).2
      omega
  · exact h.below.grown hgr h.below.size fun k e => by have := (h.rN.block k e).1; have := h.at_; omega
theorem NewW.swap (h : NewW w0 w p tN tS uN uS MN MS) : ∀ k, uS.ownBlock = some k → uN.ownBlock ≠ some k := fun k h1 h2 => h.apart k h2 h1
theorem NewW.appS (h : NewW w0 w p tN tS uN uS MN MS) (hg : w.heap[g]? = some (.cells #[.bool b] 4 (0, 0))) (hs : MS.length ≤ 2000) :
    ∃ A n c w3, (Builtin.append_ #[53, 53] 53 #[uS, .slice (some ⟨g, 0, none⟩) 1 1]).run Try.prog w = .ok (.slice A n c) w3 ∧ NewW w0 w3 p tN tS uN (.slice A n c) MN (MS ++ [.bool b]) ∧ ∀ k, k < w.heap.size → uS.ownBlock ≠ some k → w3.heap[k]? = w.heap[k]? := by
  obtain ⟨i, hi, hz0, hz1, hz2⟩ := info_parts info_bool
  obtain ⟨v, w3, hrun, hm, hgr, hob⟩ := run_append_rd (P := Try.prog) (w := w) (p + 1) 53 53 4 i _ 1 Try.underlying53 hi hz0 hz1 hz2 rfl uS MS h.rS _ _ _ (rd_cell1 hg) (by simp [Value.oneCell']) (by simp; omega) (by unfold maxLen; simp; omega) h.lt
  have hk : ∀ k, k < w.heap.size → uS.ownBlock ≠ some k → w3.heap[k]? = w.heap[k]? := fun k hk hne => hgr.block k hk fun e => hne e.symm
  obtain ⟨A, c, rfl⟩ := hm.form
  refine ⟨A, _, c, w3, hrun, ⟨?_, ?_, hm, ?_, h.at_, ?_⟩, hk⟩
  · rw [hk p h.lt fun e => by have := (h.rS.block p e).1; omega]
    exact h.top
  · refine h.rN.grown hgr ?_
    rcases hb : uN.ownBlock with _ | k
    · exact .inl rfl
    · exact .inr fun e => h.swap k e.symm hb
  · intro k hk1 hk2
    rcases hob with e | e
    · exact h.swap k (e ▸ hk2) hk1
    · rw [e] at hk2
      injection hk2 with hk2
      have := (h.rN.block k hk1).2
      omega
  · exact h.below.grown hgr h.below.size fun k e => by have := (h.rS.block k e).1; have := h.at_; omega
theorem mine_keep {w w' : World} {base : Nat} {e : TypeId} {v : Value} {xs : List Value} (h : Mine w base e v xs) (hk : ∀ k, base ≤ k → w'.heap[k]? = w.heap[k]?) : Mine w' base e v xs := by
  refine ⟨h.1, ?_⟩
  rcases h.2 with h1 | ⟨g, cap, cur, e1, hbg, hg, h3⟩
  · exact .inl h1
  · exact .inr ⟨g, cap, cur, e1, hbg, (hk g hbg).trans hg, h3⟩
theorem NewW.stored (h : NewW w0 w p tN tS uN uS MN MS) : NewW w0 ((w.setCell ⟨p, 0, none⟩ uN).setCell ⟨p, 1, none⟩ uS) p uN uS uN uS MN MS := by
  have h1 := heap_setCell_same w p 0 _ _ uN h.top
  have h2 := heap_setCell_same (w.setCell ⟨p, 0, none⟩ uN) p 1 _ _ uS h1
  have hk : ∀ k, p + 1 ≤ k → ((w.setCell ⟨p, 0, none⟩ uN).setCell ⟨p, 1, none⟩ uS).heap[k]? = w.heap[k]? := fun k hk => by
    rw [heap_setCell_other _ _ k _ (show k ≠ p by omega), heap_setCell_other _ _ k _ (show k ≠ p by omega)]
  refine ⟨h2, mine_keep h.rN hk, mine_keep h.rS hk, h.apart, h.at_, ?_⟩
  have hp := h.at_
  exact (h.below.setCell (p := ⟨p, 0, none⟩) (by show w0.heap.size ≤ p; omega) _).setCell (p := ⟨p, 1, none⟩) (by show w0.heap.size ≤ p; omega) _
/-- Two more bools, one for each row: the three ways. -/
theorem NewW.way1 (h : NewW w0 w p uN uS uN uS MN MS) (hN : MN.length ≤ 2000) (hS : MS.length ≤ 2000) (b : Bool) :
    ∃ A n c w2, (Builtin.append_ #[53, 53] 53 #[uN, .slice (some ⟨w.heap.size, 0, none⟩) 1 1]).run Try.prog (w.alloc (.cells #[.bool b] 4)) = .ok (.slice A n c) w2 ∧
      ∃ A' n' c' w4, (Builtin.append_ #[53, 53] 53 #[uS, .slice (some ⟨w2.heap.size, 0, none⟩) 1 1]).run Try.prog (w2.alloc (.cells #[.bool b] 4)) = .ok (.slice A' n' c') w4 ∧
      NewW w0 (w.alloc (.cells #[.bool b] 4)) p uN uS uN uS MN MS ∧ NewW w0 w2 p uN uS (.slice A n c) uS (MN ++ [.bool b]) MS ∧ NewW w0 (w2.alloc (.cells #[.bool b] 4)) p uN uS (.slice A n c) uS (MN ++ [.bool b]) MS ∧ NewW w0 w4 p uN uS (.slice A n c) (.slice A' n' c') (MN ++ [.bool b]) (MS ++ [.bool b]) := by
  have h1 := h.alloc (.cells #[.bool b] 4)
  obtain ⟨A, n, c, w2, r1, h2, _⟩ := h1.appN (heap_alloc_last w _) hN
  have h3 := h2.alloc (.cells #[.bool b] 4)
  obtain ⟨A', n', c', w4, r2, h4, _⟩ := h3.appS (heap_alloc_last w2 _) hS
  exact ⟨A, n, c, w2, r1, A', n', c', w4, r2, h1, h2, h3, h4⟩
theorem NewW.way2 (h : NewW w0 w p uN uS uN uS MN MS) (hN : MN.length ≤ 2000) (hS : MS.length ≤ 2000) (b : Bool) :
    ∃ A n c w3, (Builtin.append_ #[53, 53] 53 #[uN, .slice (some ⟨w.heap.size, 0, none⟩) 1 1]).run Try.prog ((w.alloc (.cells #[.bool b] 4)).alloc (.cells #[.bool b] 4)) = .ok (.slice A n c) w3 ∧
      ∃ A' n' c' w4, (Builtin.append_ #[53, 53] 53 #[uS, .slice (some ⟨w.heap.size + 1, 0, none⟩) 1 1]).run Try.prog w3 = .ok (.slice A' n' c') w4 ∧
      NewW w0 (w.alloc (.cells #[.bool b] 4)) p uN uS uN uS MN MS ∧ NewW w0 ((w.alloc (.cells #[.bool b] 4)).alloc (.cells #[.bool b] 4)) p uN uS uN uS MN MS ∧ NewW w0 w3 p uN uS (.slice A n c) uS (MN ++ [.bool b]) MS ∧ NewW w0 w4 p uN uS (.slice A n c) (.slice A' n' c') (MN ++ [.bool b]) (MS ++ [.bool b]) := by
  have h1 := h.alloc (.cells #[.bool b] 4)
  have h2 := h1.alloc (.cells #[.bool b] 4)
  have e1 := (heap_alloc_old (w.alloc (.cells #[.bool b] 4)) (.cells #[.bool b] 4) (show w.heap.size < (w.alloc (.cells #[.bool b] 4)).heap.size by simp)).trans (heap_alloc_last w _)
  have e2 := heap_alloc_last (w.alloc (.cells #[.bool b] 4)) (.cells #[.bool b] 4)
  rw [show (w.alloc (.cells #[.bool b] 4)).heap.size = w.heap.size + 1 by simp] at e2
  obtain ⟨A, n, c, w3, r1, h3, k3⟩ := h2.appN e1 hN
  obtain ⟨A', n', c', w4, r2, h4, _⟩ := h3.appS ((k3 (w.heap.size + 1) (by simp) fun e => by have := (h.rN.block _ e).2; omega).trans e2) hS
  exact ⟨A, n, c, w3, r1, A', n', c', w4, r2, h1, h2, h3, h4⟩
theorem NewW.way3 (h : NewW w0 w p uN uS uN uS MN MS) (hN : MN.length ≤ 2000) (hS : MS.length ≤ 2000) (b : Bool) :
    ∃ A n c w3, (Builtin.append_ #[53, 53] 53 #[uN, .slice (some ⟨w.heap.size + 1, 0, none⟩) 1 1]).run Try.prog ((w.alloc (.cells #[.bool b] 4)).alloc (.cells #[.bool b] 4)) = .ok (.slice A n c) w3 ∧
      ∃ A' n' c' w4, (Builtin.append_ #[53, 53] 53 #[uS, .slice (some ⟨w.heap.size, 0, none⟩) 1 1]).run Try.prog w3 = .ok (.slice A' n' c') w4 ∧
      NewW w0 (w.alloc (.cells #[.bool b] 4)) p uN uS uN uS MN MS ∧ NewW w0 ((w.alloc (.cells #[.bool b] 4)).alloc (.cells #[.bool b] 4)) p uN uS uN uS MN MS ∧ NewW w0 w3 p uN uS (.slice A n c) uS (MN ++ [.bool b]) MS ∧ NewW w0 w4 p uN uS (.slice A n c) (.slice A' n' c') (MN ++ [.bool b]) (MS ++ [.bool b]) := by
  have h1 := h.alloc (.cells #[.bool b] 4)
  have h2 := h1.alloc (.cells #[.bool b] 4)
  have e1 := (heap_alloc_old (w.alloc (.cells #[.bool b] 4)) (.cells #[.bool b] 4) (show w.heap.size < (w.alloc (.cells #[.bool b] 4)).heap.size by simp)).trans (heap_alloc_last w _)
  have e2 := heap_alloc_last (w.alloc (.cells #[.bool b] 4)) (.cells #[.bool b] 4)
  rw [show (w.alloc (.cells #[.bool b] 4)).heap.size = w.heap.size + 1 by simp] at e2
  obtain ⟨A, n, c, w3, r1, h3, k3⟩ := h2.appN e2 hN
  obtain ⟨A', n', c', w4, r2, h4, _⟩ := h3.appS ((k3 w.heap.size (by simp; omega) fun e => by have := (h.rN.block _ e).2; omega).trans e1) hS
  exact ⟨A, n, c, w3, r1, A', n', c', w4, r2, h1, h2, h3, h4⟩
theorem boolC_more (f : Nat → Bool) (k : Nat) : boolC f k ++ [.bool (f k)] = boolC f (k + 1) := by simp [boolC, List.range_succ]
end
set_option maxRecDepth 100000 in
set_option maxHeartbeats 1600000 in
theorem rnew_any (n first : Nat) (h1 : 1 ≤ n) (h2 : n ≤ 1600) (h3 : first ≤ n) (w : World) : Calls Try.prog 9 #[.int .i64 (n : Int), .int .i64 (first : Int)] w fun e w' => ∃ p gn cn gs cs, e = .returned (.pointer (some ⟨p, 0, none⟩)) ∧ p = w.heap.size ∧ w.heap.size ≤ gn ∧ w.heap.size ≤ gs ∧ RefSp w' p gn cn gs cs (Spc.new n first) ∧ Below w.heap.size w w' := by
  have hstart : NewW w (w.alloc (.cells #[.slice none 0 0, .slice none 0 0] 55)) w.heap.size (.slice none 0 0) (.slice none 0 0) (.slice none 0 0) (.slice none 0 0) (boolC (below first) 0) (boolC (below first) 0) :=
    ⟨heap_alloc_last _ _, Mine.nil _ _ _, Mine.nil _ _ _, (fun k h => by cases h), rfl, (Below.refl _ _).alloc (Nat.le_refl _) _⟩
  have Hstart := Lib.hid hstart
  clear hstart
  have H2' := Lib.hid h2
  go_enter Try.func9, Try.ntmps9
  go_wp2_with fail
  go_loopw [6] (fun iv wr => ∃ (k : Nat) (vN vS : Value), k ≤ n ∧ iv = .int .i64 (k : Int) ∧ Hid (NewW w wr w.heap.size vN vS vN vS (boolC (below first) k) (boolC (below first) k))) (fun iv _ => n - (intOf iv).toNat)
  case atStart => exact ⟨0, _, _, by omega, rfl, Hstart⟩
  case round =>
    obtain ⟨k, vN, vS, hkn, rfl, HI⟩ := hrel
    clear Hstart
    by_cases hk : k < n
    · have hd : NewW w wr.drew w.heap.size vN vS vN vS (boolC (below first) k) (boolC (below first) k) := ⟨HI.out.top, HI.out.rN, HI.out.rS, HI.out.apart, HI.out.at_, HI.out.below.drew⟩
      have hl : (boolC (below first) k).length ≤ 2000 := by rw [boolC_length]; omega
      have e0 : wr.drew.heap.size = wr.heap.size := rfl
      have hnext : ∀ wx u v, NewW w wx w.heap.size vN vS u v (boolC (below first) k ++ [.bool (decide (k < first))]) (boolC (below first) k ++ [.bool (decide (k < first))]) → NewW w ((wx.setCell ⟨w.heap.size, 0, none⟩ u).setCell ⟨w.heap.size, 1, none⟩ v) w.heap.size u v u v (boolC (below first) (k + 1)) (boolC (below first) (k + 1)) := fun wx u v hx => by
        rw [show decide (k < first) = below first k from rfl, boolC_more] at hx
        exact hx.stored
      obtain ⟨A1, n1, c1, w1, r1, B1, m1, d1, z1, q1, t1, x1, x2, x3⟩ := hd.way1 hl hl (decide (k < first))
      obtain ⟨A2, n2, c2, w2, r2, B2, m2, d2, z2, q2, _, y1, y2, y3⟩ := hd.way2 hl hl (decide (k < first))
      obtain ⟨A3, n3, c3, w3, r3, B3, m3, d3, z3, q3, _, _, u2, u3⟩ := hd.way3 hl hl (decide (k < first))
      rw [e0] at r1 r2 q2 r3 q3
      have R1 : Hid ((Builtin.append_ #[53, 53] 53 #[vN, .slice (some ⟨wr.heap.size, 0, none⟩) 1 1]).run Try.prog ((wr.alloc (.cells #[.bool (decide (k < first))] 4)).drew) = .ok (.slice A1 n1 c1) w1) := Lib.hid r1
      have R2 : Hid ((Builtin.append_ #[53, 53] 53 #[vN, .slice (some ⟨wr.heap.size, 0, none⟩) 1 1]).run Try.prog (((wr.alloc (.cells #[.bool (decide (k < first))] 4)).alloc (.cells #[.bool (decide (k < first))] 4)).drew) = .ok (.slice A2 n2 c2) w2) := Lib.hid r2
      have R3 : Hid ((Builtin.append_ #[53, 53] 53 #[vN, .slice (some ⟨wr.heap.size + 1, 0, none⟩) 1 1]).run Try.prog (((wr.alloc (.cells #[.bool (decide (k < first))] 4)).alloc (.cells #[.bool (decide (k < first))] 4)).drew) = .ok (.slice A3 n3 c3) w3) := Lib.hid r3
      have Q1 := Lib.hid q1
      have Q2 := Lib.hid q2
      have Q3 := Lib.hid q3
      have H1 := Lib.hid t1
      have H2 := Lib.hid y1
      have K2 := Lib.hid x1
      have K3 := Lib.hid x2
      have K4 := Lib.hid x3
      have L2 := Lib.hid y2
      have L4 := Lib.hid y3
      have M2 := Lib.hid u2
      have M4 := Lib.hid u3
      have s0 := hd.c0
      have s1 := hd.c1
      have Hnext := Lib.hid hnext
      clear r1 q1 t1 x1 x2 x3 r2 q2 y1 y2 y3 r3 q3 u2 u3 hd hl hnext e0 HI
      go_wp2_with fail
      refine wp_region_late (S := fun w' => w'.cell? ⟨w.heap.size, 0, none⟩ = some vN ∧ w'.cell? ⟨w.heap.size, 1, none⟩ = some vS) [20, 21, 22, 23, 24, 25] (by kernel_rfl) ⟨s0, s1⟩ (fun hHeld => ?_)
      refine' anyU_take0 (i := 0) (oi := ⟨some 14, .move (.tmp 5), _, _, _, none⟩) (v := _) rfl (by kernel_rfl) (fun _ _ _ h => h) (Or.inl ⟨by rfl, ?hy1⟩) (by assumption) ?rest1
      case hy1 => (intro w hSw; go_simp <;> with_reducible rfl)
      case rest1 =>
      go_frame
      refine' anyU_take0 (i := 1) (oi := ⟨some 15, .move (.tmp 5), _, _, _, none⟩) (v := _) rfl (by kernel_rfl) (fun _ _ _ h => h) (Or.inl ⟨by rfl, ?hy2⟩) (by assumption) ?rest2
      case hy2 => (intro w hSw; go_simp <;> with_reducible rfl)
      case rest2 =>
      go_frame
      refine' anyU_take0 (i := 2) (oi := ⟨some 16, .move (.tmp 5), _, _, _, none⟩) (v := _) rfl (by kernel_rfl) (fun _ _ _ h => h) (Or.inl ⟨by rfl, ?hy3⟩) (by assumption) ?rest3
      case hy3 => (intro w hSw; go_simp <;> with_reducible rfl)
      case rest3 =>
      go_frame
      refine' anyU_take0 (i := 3) (oi := ⟨some 17, .nilCheck (.tmp 16), _, _, _, none⟩) (v := _) rfl (by kernel_rfl) (fun _ _ _ h => h) (Or.inl ⟨by rfl, ?hy4⟩) (by assumption) ?rest4
      case hy4 => (intro w hSw; go_simp <;> with_reducible rfl)
      case rest4 =>
      go_frame
      refine' anyU_take0 (i := 4) (oi := ⟨some 18, .fieldAddr 55 (.tmp 17) 0, _, _, _, none⟩) (v := _) rfl (by kernel_rfl) (fun _ _ _ h => h) (Or.inl ⟨by rfl, ?hy5⟩) (by assumption) ?rest5
      case hy5 => (intro w hSw; go_simp <;> with_reducible rfl)
      case rest5 =>
      go_frame
      refine' anyU_take (i := 5) (oi := ⟨some 19, .load 53 (.tmp 18), _, _, _, none⟩) (v := _) rfl (by kernel_rfl) (fun _ _ _ h => h) (Or.inl ⟨by rfl, ?hy6⟩) (by assumption) ?rest6
      case hy6 => (intro w hSw; obtain ⟨s1, s2⟩ := hSw; go_simp <;> with_reducible rfl)
      case rest6 =>
      go_frame
      refine' anyU_take0 (i := 6) (oi := ⟨some 20, .move (.tmp 6), _, _, _, none⟩) (v := _) rfl (by kernel_rfl) (fun _ _ _ h => h) (Or.inl ⟨by rfl, ?hy7⟩) (by assumption) ?rest7
      case hy7 => (intro w hSw; go_simp <;> with_reducible rfl)
      case rest7 =>
      go_frame
      refine' anyU_take0 (i := 7) (oi := ⟨some 21, .move (.tmp 1), _, _, _, none⟩) (v := _) rfl (by kernel_rfl) (fun _ _ _ h => h) (Or.inl ⟨by rfl, ?hy8⟩) (by assumption) ?rest8
      case hy8 => (intro w hSw; go_simp <;> with_reducible rfl)
      case rest8 =>
      go_frame
      refine' anyU_take0 (i := 8) (oi := ⟨some 22, .binOp .lss 3 (.tmp 20) (.tmp 21) 3, _, _, _, none⟩) (v := _) rfl (by kernel_rfl) (fun _ _ _ h => h) (Or.inl ⟨by rfl, ?hy9⟩) (by assumption) ?rest9
      case hy9 => (intro w hSw; go_simp <;> with_reducible rfl)
      case rest9 =>
      go_frame
      refine' anyU_take0 (i := 11) (oi := ⟨some 25, .move (.tmp 5), _, _, _, none⟩) (v := _) rfl (by kernel_rfl) (fun _ _ _ h => h) (Or.inl ⟨by rfl, ?hy10⟩) (by assumption) ?rest10
      case hy10 => (intro w hSw; go_simp <;> with_reducible rfl)
      case rest10 =>
      go_frame
      refine' anyU_take0 (i := 12) (oi := ⟨some 26, .nilCheck (.tmp 25), _, _, _, none⟩) (v := _) rfl (by kernel_rfl) (fun _ _ _ h => h) (Or.inl ⟨by rfl, ?hy11⟩) (by assumption) ?rest11
      case hy11 => (intro w hSw; go_simp <;> with_reducible rfl)
      case rest11 =>
      go_frame
      refine' anyU_take0 (i := 13) (oi := ⟨some 27, .fieldAddr 55 (.tmp 26) 1, _, _, _, none⟩) (v := _) rfl (by kernel_rfl) (fun _ _ _ h => h) (Or.inl ⟨by rfl, ?hy12⟩) (by assumption) ?rest12
      case hy12 => (intro w hSw; go_simp <;> with_reducible rfl)
      case rest12 =>
      go_frame
      refine' anyU_take (i := 14) (oi := ⟨some 28, .load 53 (.tmp 27), _, _, _, none⟩) (v := _) rfl (by kernel_rfl) (fun _ _ _ h => h) (Or.inl ⟨by rfl, ?hy13⟩) (by assumption) ?rest13
      case hy13 => (intro w hSw; obtain ⟨s1, s2⟩ := hSw; go_simp <;> with_reducible rfl)
      case rest13 =>
      go_frame
      refine' anyU_take0 (i := 15) (oi := ⟨some 29, .move (.tmp 6), _, _, _, none⟩) (v := _) rfl (by kernel_rfl) (fun _ _ _ h => h) (Or.inl ⟨by rfl, ?hy14⟩) (by assumption) ?rest14
      case hy14 => (intro w hSw; go_simp <;> with_reducible rfl)
      case rest14 =>
      go_frame
      refine' anyU_take0 (i := 16) (oi := ⟨some 30, .move (.tmp 1), _, _, _, none⟩) (v := _) rfl (by kernel_rfl) (fun _ _ _ h => h) (Or.inl ⟨by rfl, ?hy15⟩) (by assumption) ?rest15
      case hy15 => (intro w hSw; go_simp <;> with_reducible rfl)
      case rest15 =>
      go_frame
      refine' anyU_take0 (i := 17) (oi := ⟨some 31, .binOp .lss 3 (.tmp 29) (.tmp 30) 3, _, _, _, none⟩) (v := _) rfl (by kernel_rfl) (fun _ _ _ h => h) (Or.inl ⟨by rfl, ?hy16⟩) (by assumption) ?rest16
      case hy16 => (intro w hSw; go_simp <;> with_reducible rfl)
      case rest16 =>
      go_frame
      refine anyU_ready (rs := [9, 18]) (by kernel_rfl) (by simp) (AllU.cons (o := ⟨some 23, .buildSlice 53 1 #[(0, .tmp 22)], _, _, _, none⟩) rfl (fun K hK => ?_) (fun h => absurd h (by decide)) (AllU.cons (o := ⟨some 32, .buildSlice 53 1 #[(0, .tmp 31)], _, _, _, none⟩) rfl (fun K hK => ?_) (fun h => absurd h (by decide)) AllU.nil))
      · rw [if_pos (by rfl)]
        go_simp
        refine hK.out _ _ (fun _ => ⟨H1.out.c0, H1.out.c1⟩) ?_
        clear hK K
        try go_frame
        refine anyU_ready (rs := [10, 18]) (by kernel_rfl) (by simp) (AllU.cons (o := ⟨some 24, .call { callee := .builtin .append, args := #[.tmp 19, .tmp 23], argTypes := #[53, 53] }, _, _, _, none⟩) rfl (fun K hK => ?_) (fun h => absurd h (by decide)) (AllU.cons (o := ⟨some 32, .buildSlice 53 1 #[(0, .tmp 31)], _, _, _, none⟩) rfl (fun K hK => ?_) (fun h => absurd h (by decide)) AllU.nil))
        · rw [if_pos (by rfl)]
          with_reducible refine wp_run (.slice A1 n1 c1) w1 ?_ ?_
          · exact exec_append (t := 53) (x := .tmp 19) (y := .tmp 23) rfl (u := vN) rfl (v := .slice (some ⟨wr.heap.size, 0, none⟩) 1 1) rfl R1.out
          refine hK.out _ _ (fun _ => ⟨K2.out.c0, K2.out.c1⟩) ?_
          clear hK K
          try go_frame
          refine anyU_ready (rs := [18]) (by kernel_rfl) (by simp) (AllU.cons (o := ⟨some 32, .buildSlice 53 1 #[(0, .tmp 31)], _, _, _, none⟩) rfl (fun K hK => ?_) (fun h => absurd h (by decide)) AllU.nil)
          rw [if_pos (by rfl)]
          go_simp
          refine hK.out _ _ (fun _ => ⟨K3.out.c0, K3.out.c1⟩) ?_
          clear hK K
          try go_frame
          refine anyU_ready (rs := [19]) (by kernel_rfl) (by simp) (AllU.cons (o := ⟨some 33, .call { callee := .builtin .append, args := #[.tmp 28, .tmp 32], argTypes := #[53, 53] }, _, _, _, none⟩) rfl (fun K hK => ?_) (fun h => absurd h (by decide)) AllU.nil)
          rw [if_pos (by rfl)]
          with_reducible refine wp_run (.slice B1 m1 d1) z1 ?_ ?_
          · exact exec_append (t := 53) (x := .tmp 28) (y := .tmp 32) rfl (u := vS) rfl (v := .slice (some ⟨w1.heap.size, 0, none⟩) 1 1) rfl Q1.out
          refine hK.out _ _ (fun _ => ⟨K4.out.c0, K4.out.c1⟩) ?_
          clear hK K
          try go_frame
          have c5 := K4.out.c0
          have c6 := K4.out.c1
          have f5 := K4.out.fz 0
          have f6 := K4.out.fz 1
          refine anyU_ready (rs := [20]) (by kernel_rfl) (by simp) (AllU.cons (o := ⟨some 34, .nilCheck (.tmp 14), _, _, _, none⟩) rfl (fun K hK => ?_) (fun _ => by kernel_rfl) AllU.nil)
          rw [if_pos (by rfl)]
          go_simp
          refine hK.out _ _ (fun h => absurd h (by decide)) ?_
          clear hK K
          try go_frame
          refine anyU_ready (rs := [21]) (by kernel_rfl) (by simp) (AllU.cons (o := ⟨some 35, .fieldAddr 55 (.tmp 34) 0, _, _, _, none⟩) rfl (fun K hK => ?_) (fun _ => by kernel_rfl) AllU.nil)
          rw [if_pos (by rfl)]
          go_simp
          refine hK.out _ _ (fun h => absurd h (by decide)) ?_
          clear hK K
          try go_frame
          refine anyU_ready (rs := [22]) (by kernel_rfl) (by simp) (AllU.cons (o := ⟨none, .store 53 (.tmp 35) (.tmp 24), _, _, _, none⟩) rfl (fun K hK => ?_) (fun _ => by kernel_rfl) AllU.nil)
          rw [if_pos (by rfl)]
          go_simp
          refine hK.out _ _ (fun h => absurd h (by decide)) ?_
          clear hK K
          try go_frame
          refine anyU_ready (rs := [23]) (by kernel_rfl) (by simp) (AllU.cons (o := ⟨some 36, .nilCheck (.tmp 15), _, _, _, none⟩) rfl (fun K hK => ?_) (fun _ => by kernel_rfl) AllU.nil)
          rw [if_pos (by rfl)]
          go_simp
          refine hK.out _ _ (fun h => absurd h (by decide)) ?_
          clear hK K
          try go_frame
          refine anyU_ready (rs := [24]) (by kernel_rfl) (by simp) (AllU.cons (o := ⟨some 37, .fieldAddr 55 (.tmp 36) 1, _, _, _, none⟩) rfl (fun K hK => ?_) (fun _ => by kernel_rfl) AllU.nil)
          rw [if_pos (by rfl)]
          go_simp
          refine hK.out _ _ (fun h => absurd h (by decide)) ?_
          clear hK K
          try go_frame
          refine anyU_ready (rs := [25]) (by kernel_rfl) (by simp) (AllU.cons (o := ⟨none, .store 53 (.tmp 37) (.tmp 33), _, _, _, none⟩) rfl (fun K hK => ?_) (fun _ => by kernel_rfl) AllU.nil)
          rw [if_pos (by rfl)]
          go_simp
          refine hK.out _ _ (fun h => absurd h (by decide)) ?_
          clear hK K
          try go_frame
          refine anyU_done (by kernel_rfl) ?_ _
          go_wp2_with fail
          go_roundw
          case rel => exact ⟨k + 1, _, _, by omega, by go_num, Lib.hid (Hnext.out _ _ _ K4.out)⟩
          case measure => simp [intOf]; omega
        · rw [if_pos (by rfl)]
          go_simp
          refine hK.out _ _ (fun _ => ⟨H2.out.c0, H2.out.c1⟩) ?_
          clear hK K
          try go_frame
          refine anyU_ready (rs := [10]) (by kernel_rfl) (by simp) (AllU.cons (o := ⟨some 24, .call { callee := .builtin .append, args := #[.tmp 19, .tmp 23], argTypes := #[53, 53] }, _, _, _, none⟩) rfl (fun K hK => ?_) (fun h => absurd h (by decide)) AllU.nil)
          rw [if_pos (by rfl)]
          with_reducible refine wp_run (.slice A2 n2 c2) w2 ?_ ?_
          · exact exec_append (t := 53) (x := .tmp 19) (y := .tmp 23) rfl (u := vN) rfl (v := .slice (some ⟨wr.heap.size, 0, none⟩) 1 1) rfl R2.out
          refine hK.out _ _ (fun _ => ⟨L2.out.c0, L2.out.c1⟩) ?_
          clear hK K
          try go_frame
          refine anyU_ready (rs := [19]) (by kernel_rfl) (by simp) (AllU.cons (o := ⟨some 33, .call { callee := .builtin .append, args := #[.tmp 28, .tmp 32], argTypes := #[53, 53] }, _, _, _, none⟩) rfl (fun K hK => ?_) (fun h => absurd h (by decide)) AllU.nil)
          rw [if_pos (by rfl)]
          with_reducible refine wp_run (.slice B2 m2 d2) z2 ?_ ?_
          · exact exec_append (t := 53) (x := .tmp 28) (y := .tmp 32) rfl (u := vS) rfl (v := .slice (some ⟨wr.heap.size + 1, 0, none⟩) 1 1) rfl Q2.out
          refine hK.out _ _ (fun _ => ⟨L4.out.c0, L4.out.c1⟩) ?_
          clear hK K
          try go_frame
          have c5 := L4.out.c0
          have c6 := L4.out.c1
          have f5 := L4.out.fz 0
          have f6 := L4.out.fz 1
          refine anyU_ready (rs := [20]) (by kernel_rfl) (by simp) (AllU.cons (o := ⟨some 34, .nilCheck (.tmp 14), _, _, _, none⟩) rfl (fun K hK => ?_) (fun _ => by kernel_rfl) AllU.nil)
          rw [if_pos (by rfl)]
          go_simp
          refine hK.out _ _ (fun h => absurd h (by decide)) ?_
          clear hK K
          try go_frame
          refine anyU_ready (rs := [21]) (by kernel_rfl) (by simp) (AllU.cons (o := ⟨some 35, .fieldAddr 55 (.tmp 34) 0, _, _, _, none⟩) rfl (fun K hK => ?_) (fun _ => by kernel_rfl) AllU.nil)
          rw [if_pos (by rfl)]
          go_simp
          refine hK.out _ _ (fun h => absurd h (by decide)) ?_
          clear hK K
          try go_frame
          refine anyU_ready (rs := [22]) (by kernel_rfl) (by simp) (AllU.cons (o := ⟨none, .store 53 (.tmp 35) (.tmp 24), _, _, _, none⟩) rfl (fun K hK => ?_) (fun _ => by kernel_rfl) AllU.nil)
          rw [if_pos (by rfl)]
          go_simp
          refine hK.out _ _ (fun h => absurd h (by decide)) ?_
          clear hK K
          try go_frame
          refine anyU_ready (rs := [23]) (by kernel_rfl) (by simp) (AllU.cons (o := ⟨some 36, .nilCheck (.tmp 15), _, _, _, none⟩) rfl (fun K hK => ?_) (fun _ => by kernel_rfl) AllU.nil)
          rw [if_pos (by rfl)]
          go_simp
          refine hK.out _ _ (fun h => absurd h (by decide)) ?_
          clear hK K
          try go_frame
          refine anyU_ready (rs := [24]) (by kernel_rfl) (by simp) (AllU.cons (o := ⟨some 37, .fieldAddr 55 (.tmp 36) 1, _, _, _, none⟩) rfl (fun K hK => ?_) (fun _ => by kernel_rfl) AllU.nil)
          rw [if_pos (by rfl)]
          go_simp
          refine hK.out _ _ (fun h => absurd h (by decide)) ?_
          clear hK K
          try go_frame
          refine anyU_ready (rs := [25]) (by kernel_rfl) (by simp) (AllU.cons (o := ⟨none, .store 53 (.tmp 37) (.tmp 33), _, _, _, none⟩) rfl (fun K hK => ?_) (fun _ => by kernel_rfl) AllU.nil)
          rw [if_pos (by rfl)]
          go_simp
          refine hK.out _ _ (fun h => absurd h (by decide)) ?_
          clear hK K
          try go_frame
          refine anyU_done (by kernel_rfl) ?_ _
          go_wp2_with fail
          go_roundw
          case rel => exact ⟨k + 1, _, _, by omega, by go_num, Lib.hid (Hnext.out _ _ _ L4.out)⟩
          case measure => simp [intOf]; omega
      · rw [if_pos (by rfl)]
        go_simp
        refine hK.out _ _ (fun _ => ⟨H1.out.c0, H1.out.c1⟩) ?_
        clear hK K
        try go_frame
        refine anyU_ready (rs := [9]) (by kernel_rfl) (by simp) (AllU.cons (o := ⟨some 23, .buildSlice 53 1 #[(0, .tmp 22)], _, _, _, none⟩) rfl (fun K hK => ?_) (fun h => absurd h (by decide)) AllU.nil)
        rw [if_pos (by rfl)]
        go_simp
        refine hK.out _ _ (fun _ => ⟨H2.out.c0, H2.out.c1⟩) ?_
        clear hK K
        try go_frame
        refine anyU_ready (rs := [10]) (by kernel_rfl) (by simp) (AllU.cons (o := ⟨some 24, .call { callee := .builtin .append, args := #[.tmp 19, .tmp 23], argTypes := #[53, 53] }, _, _, _, none⟩) rfl (fun K hK => ?_) (fun h => absurd h (by decide)) AllU.nil)
        rw [if_pos (by rfl)]
        with_reducible refine wp_run (.slice A3 n3 c3) w3 ?_ ?_
        · exact exec_append (t := 53) (x := .tmp 19) (y := .tmp 23) rfl (u := vN) rfl (v := .slice (some ⟨wr.heap.size + 1, 0, none⟩) 1 1) rfl R3.out
        refine hK.out _ _ (fun _ => ⟨M2.out.c0, M2.out.c1⟩) ?_
        clear hK K
        try go_frame
        refine anyU_ready (rs := [19]) (by kernel_rfl) (by simp) (AllU.cons (o := ⟨some 33, .call { callee := .builtin .append, args := #[.tmp 28, .tmp 32], argTypes := #[53, 53] }, _, _, _, none⟩) rfl (fun K hK => ?_) (fun h => absurd h (by decide)) AllU.nil)
        rw [if_pos (by rfl)]
        with_reducible refine wp_run (.slice B3 m3 d3) z3 ?_ ?_
        · exact exec_append (t := 53) (x := .tmp 28) (y := .tmp 32) rfl (u := vS) rfl (v := .slice (some ⟨wr.heap.size, 0, none⟩) 1 1) rfl Q3.out
        refine hK.out _ _ (fun _ => ⟨M4.out.c0, M4.out.c1⟩) ?_
        clear hK K
        try go_frame
        have c5 := M4.out.c0
        have c6 := M4.out.c1
        have f5 := M4.out.fz 0
        have f6 := M4.out.fz 1
        refine anyU_ready (rs := [20]) (by kernel_rfl) (by simp) (AllU.cons (o := ⟨some 34, .nilCheck (.tmp 14), _, _, _, none⟩) rfl (fun K hK => ?_) (fun _ => by kernel_rfl) AllU.nil)
        rw [if_pos (by rfl)]
        go_simp
        refine hK.out _ _ (fun h => absurd h (by decide)) ?_
        clear hK K
        try go_frame
        refine anyU_ready (rs := [21]) (by kernel_rfl) (by simp) (AllU.cons (o := ⟨some 35, .fieldAddr 55 (.tmp 34) 0, _, _, _, none⟩) rfl (fun K hK => ?_) (fun _ => by kernel_rfl) AllU.nil)
        rw [if_pos (by rfl)]
        go_simp
        refine hK.out _ _ (fun h => absurd h (by decide)) ?_
        clear hK K
        try go_frame
        refine anyU_ready (rs := [22]) (by kernel_rfl) (by simp) (AllU.cons (o := ⟨none, .store 53 (.tmp 35) (.tmp 24), _, _, _, none⟩) rfl (fun K hK => ?_) (fun _ => by kernel_rfl) AllU.nil)
        rw [if_pos (by rfl)]
        go_simp
        refine hK.out _ _ (fun h => absurd h (by decide)) ?_
        clear hK K
        try go_frame
        refine anyU_ready (rs := [23]) (by kernel_rfl) (by simp) (AllU.cons (o := ⟨some 36, .nilCheck (.tmp 15), _, _, _, none⟩) rfl (fun K hK => ?_) (fun _ => by kernel_rfl) AllU.nil)
        rw [if_pos (by rfl)]
        go_simp
        refine hK.out _ _ (fun h => absurd h (by decide)) ?_
        clear hK K
        try go_frame
        refine anyU_ready (rs := [24]) (by kernel_rfl) (by simp) (AllU.cons (o := ⟨some 37, .fieldAddr 55 (.tmp 36) 1, _, _, _, none⟩) rfl (fun K hK => ?_) (fun _ => by kernel_rfl) AllU.nil)
        rw [if_pos (by rfl)]
        go_simp
        refine hK.out _ _ (fun h => absurd h (by decide)) ?_
        clear hK K
        try go_frame
        refine anyU_ready (rs := [25]) (by kernel_rfl) (by simp) (AllU.cons (o := ⟨none, .store 53 (.tmp 37) (.tmp 33), _, _, _, none⟩) rfl (fun K hK => ?_) (fun _ => by kernel_rfl) AllU.nil)
        rw [if_pos (by rfl)]
        go_simp
        refine hK.out _ _ (fun h => absurd h (by decide)) ?_
        clear hK K
        try go_frame
        refine anyU_done (by kernel_rfl) ?_ _
        go_wp2_with fail
        go_roundw
        case rel => exact ⟨k + 1, _, _, by omega, by go_num, Lib.hid (Hnext.out _ _ _ M4.out)⟩
        case measure => simp [intOf]; omega
    · have : k = n := by omega
      subst this
      go_wp2_with fail
      go_ret
      have h := HI.out
      obtain ⟨gn, cn, e1, _⟩ := h.rN.head (by rw [boolC_length]; omega)
      obtain ⟨gs, cs, e2, _⟩ := h.rS.head (by rw [boolC_length]; omega)
      rw [boolC_length] at e1 e2
      subst e1 e2
      have b1 := (h.rN.block gn rfl).1
      have b2 := (h.rS.block gs rfl).1
      refine ⟨_, gn, cn, gs, cs, rfl, rfl, by omega, by omega, ⟨h.top, h.rN.weaken (Nat.zero_le _), h.rS.weaken (Nat.zero_le _), ⟨fun e => h.apart gn rfl (by rw [e]; rfl), by omega, by omega⟩, ⟨⟨h1, H2'.out⟩, fun i hi => ?_, fun i hi => ?_⟩⟩, h.below⟩ <;> (simp only [Spc.new] at hi ⊢; simp [below]; omega)
end Go.Proofs.Ytllhilnajjohiaa
