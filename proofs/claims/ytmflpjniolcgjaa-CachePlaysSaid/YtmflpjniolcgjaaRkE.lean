/-
  The document's device: New, Flush, Crash: contracts.
-/
import Derived.Test.YtmflpjniolcgjaaRkD
namespace Go.Proofs.Ytmflpjniolcgjaa
open Go.RowKit
/-- The writes that wait, laid onto the sectors, one behind the other. -/
def laid (L : List (List UInt8)) (W : List (Nat × List UInt8)) : List (List UInt8) := W.foldl (fun L y => L.set y.1 y.2) L
theorem laid_length (L : List (List UInt8)) : ∀ W, (laid L W).length = L.length := by
  intro W
  induction W generalizing L with
  | nil => rfl
  | cons y W ih => unfold laid at ih ⊢; rw [List.foldl_cons, ih, List.length_set]
theorem laid_succ (L : List (List UInt8)) (W : List (Nat × List UInt8)) {k s : Nat} {l : List UInt8} (h : W[k]? = some (s, l)) : (laid L (W.take k)).set s l = laid L (W.take (k + 1)) := by
  obtain ⟨hk, e⟩ := List.getElem?_eq_some_iff.1 h
  unfold laid
  rw [List.take_succ_eq_append_getElem hk, List.foldl_append, e]
  rfl
/-- The document's device behind a Flush. -/
def Ref.flush (x : Ref) : Ref := { x with L := laid x.L x.W, W := [] }
section
variable {w w' : World} {G G' Z Z' : Nat → Prop} {q : Nat} {vL vA vB : Value} {ls bs : List Value} {x : Ref}
theorem rflush_io (h : RefIs w G Z q vL vA vB ls bs x) (hb : x.burns 3 = true) : Calls Try.prog 58 #[at0 q] w fun e w' => e = .returned (.int .i64 3) ∧ RefIs w' G Z q vL vA vB ls bs (x.burn 3) ∧ Only G w w' := by
  have hf := burns_any h (k := 3) (by omega)
  rw [hb] at hf
  have Hf := Lib.hid hf
  clear h hb hf
  go_enter Try.func58, Try.ntmps58
  go_wp2_with (go_at_call 68; refine Hf.out.mono ?_; rintro e w1 ⟨rfl, hd, ho⟩)
  go_ret
  exact ⟨rfl, hd, ho⟩
/-- Nothing waits any more: two new empty lists. -/
theorem RefIs.clear (h : RefIs w G Z q vL vA vB ls bs x) (hG : ∀ k, w.heap.size ≤ k → G k) :
    RefIs (((((w.alloc (.cells #[] 3)).alloc (.cells #[] 51)).setCell ⟨q, 1, none⟩ (.slice (some ⟨w.heap.size, 0, none⟩) 0 0))).setCell ⟨q, 2, none⟩ (.slice (some ⟨w.heap.size + 1, 0, none⟩) 0 0)) G Z q vL (.slice (some ⟨w.heap.size, 0, none⟩) 0 0) (.slice (some ⟨w.heap.size + 1, 0, none⟩) 0 0) ls [] { x with W := [] } := by
  have hq := h.lt
  have s1 : (w.alloc (.cells #[] 3)).heap.size = w.heap.size + 1 := by simp
  have h2 : RefIs ((w.alloc (.cells #[] 3)).alloc (.cells #[] 51)) G Z q vL vA vB ls bs x := h.below (((Below.refl _ _).alloc (Nat.le_refl _) _).alloc (by simp) _)
  have mA : Mine ((w.alloc (.cells #[] 3)).alloc (.cells #[] 51)) 0 3 (.slice (some ⟨w.heap.size, 0, none⟩) 0 0) [] := (Mine.empty w 0 3 (Nat.zero_le _)).alloc _
  have mB : Mine ((w.alloc (.cells #[] 3)).alloc (.cells #[] 51)) 0 51 (.slice (some ⟨w.heap.size + 1, 0, none⟩) 0 0) [] := by
    have := Mine.empty (w.alloc (.cells #[] 3)) 0 51 (Nat.zero_le _)
    rwa [s1] at this
  obtain ⟨w2, hw2⟩ : ∃ w2, w2 = (w.alloc (.cells #[] 3)).alloc (.cells #[] 51) := ⟨_, rfl⟩
  rw [← hw2] at h2 mA mB ⊢
  have t1 := heap_setCell_same w2 q 1 _ 46 (.slice (some ⟨w.heap.size, 0, none⟩) 0 0) h2.top
  have t2 := heap_setCell_same (w2.setCell ⟨q, 1, none⟩ (.slice (some ⟨w.heap.size, 0, none⟩) 0 0)) q 2 _ 46 (.slice (some ⟨w.heap.size + 1, 0, none⟩) 0 0) t1
  obtain ⟨w9, hw9⟩ : ∃ w9, w9 = ((w2.setCell ⟨q, 1, none⟩ (.slice (some ⟨w.heap.size, 0, none⟩) 0 0))).setCell ⟨q, 2, none⟩ (.slice (some ⟨w.heap.size + 1, 0, none⟩) 0 0) := ⟨_, rfl⟩
  rw [← hw9] at t2 ⊢
  have o9 : ∀ k, k ≠ q → w9.heap[k]? = w2.heap[k]? := fun k hk => by
    rw [hw9]
    exact (heap_setCell_other _ _ k _ hk).trans (heap_setCell_other _ _ k _ hk)
  have o5 : ∀ (k : Nat) (cur : Array Value), w2.heap[k]? = some (.cells cur 5 (0, 0)) → w9.heap[k]? = w2.heap[k]? := fun k cur hk => o9 k (ne_of_kind hk h2.top (by decide))
  refine ⟨t2.trans (by simp [refCells]), h2.rL.keep fun g hg => o9 g fun e => h2.rL.notAt h2.top (by decide) (e ▸ hg), mA.keep fun g hg => o9 g ?_, mB.keep fun g hg => o9 g ?_, h2.eL.keepOf o5, Elems.nil _ _, ?_, ⟨h2.inG.1, h2.inG.2.1, fun g hg => ?_, fun g hg => ?_⟩, fun y hy => (by cases hy), Nat.zero_le _, h2.size, h2.fuse⟩
  · obtain rfl : w.heap.size = g := by injection hg
    omega
  · obtain rfl : w.heap.size + 1 = g := by injection hg
    omega
  · rcases hb : vL.ownBlock with _ | k
    · exact .inl rfl
    · right
      intro e
      injection e with e
      have := (h.rL.block k hb).2
      have e2 : k = w.heap.size + 1 := e
      omega
  · obtain rfl : w.heap.size = g := by injection hg
    exact hG _ (by omega)
  · obtain rfl : w.heap.size + 1 = g := by injection hg
    exact hG _ (by omega)
theorem clear_world (w : World) {q : Nat} (hq : q < w.heap.size) (u v : Value) (o o' : Obj) : (((w.alloc o).alloc o').setCell ⟨q, 1, none⟩ u).setCell ⟨q, 2, none⟩ v = (((w.setCell ⟨q, 1, none⟩ u).setCell ⟨q, 2, none⟩ v).alloc o).alloc o' := by
  rw [World.setCell_alloc_past _ _ _ _ (by simp; omega), World.setCell_alloc_past _ _ _ _ hq, World.setCell_alloc_past _ _ _ _ (by simp; omega), World.setCell_alloc_past _ _ _ _ (by simpa using hq)]
theorem only_clear (hq : G q) (u v : Value) (o o' : Obj) : Only G w ((((w.alloc o).alloc o').setCell ⟨q, 1, none⟩ u).setCell ⟨q, 2, none⟩ v) :=
  (((Only.alloc G w o).trans (Only.alloc G _ o')).trans (Only.setCell (p := ⟨q, 1, none⟩) hq _)).trans (Only.setCell (p := ⟨q, 2, none⟩) hq _)
set_option maxRecDepth 100000 in
set_option maxHeartbeats 4000000 in
theorem rflush_ok (h : RefIs w G Z q vL vA vB ls bs x) (hb : x.burns 3 = false) (hn : x.n < 1000000) (hG : ∀ k, w.heap.size ≤ k → G k) :
    Calls Try.prog 58 #[at0 q] w fun e w' => ∃ vA' vB' ls', e = .returned (.int .i64 0) ∧ RefIs w' G Z q vL vA' vB' ls' [] (x.burn 3).flush ∧ Only G w w' := by
  have hf := burns_any h (k := 3) (by omega)
  rw [hb] at hf
  have Hf := Lib.hid hf
  obtain ⟨x1, hx1⟩ : ∃ x1, x1 = x.burn 3 := ⟨_, rfl⟩
  have hn1 : x1.n < 1000000 := by rw [hx1]; exact hn
  have hfew1 : x1.W.length ≤ x1.n := by rw [hx1]; exact h.few
  rw [← hx1] at Hf ⊢
  obtain ⟨m, hm⟩ : ∃ m, m = x1.W.length := ⟨_, rfl⟩
  have hm1 : m < 1000000 := by omega
  have Hm := Lib.hid hm
  clear hf h hb hx1 hm hn hn1 hfew1
  go_enter Try.func58, Try.ntmps58
  go_wp2_with (go_at_call 68; refine Hf.out.mono ?_; rintro e w1 ⟨rfl, hd, ho⟩; have Hd1 := Lib.hid hd; clear hd)
  go_loopw [3] (fun iv wr => ∃ (k : Nat) (ls' : List Value), k ≤ m ∧ iv = .int .i64 (k : Int) ∧ RefIs wr G Z q vL vA vB ls' bs { x1 with L := laid x1.L (x1.W.take k) } ∧ Only G w wr) (fun iv _ => m - (intOf iv).toNat)
  case atStart => exact ⟨0, ls, by omega, rfl, Hd1.out, ho⟩
  case round =>
    obtain ⟨k, ls', hkm, rfl, hd, ho⟩ := hrel
    have hWm : ({ x1 with L := laid x1.L (x1.W.take k) } : Ref).W.length = m := Hm.out.symm
    by_cases hk : k < m
    · obtain ⟨gA, cA, gB, cB, gv, cv, s, l, eA, eB, d1, d2, d3, d4, hsec, hWk, hsl, n1, n2, n3, hGB, hgA, hgB, hfB⟩ := hd.wait_at (k := k) (by rw [hWm]; exact hk)
      rw [hWm] at d1 d2
      obtain ⟨A, c, hA, c0, hlast⟩ := hd.last_at
      obtain ⟨gL, gu, cu, rfl, hgL, hGL, hgLq, hcL, _⟩ := hlast s hsl
      have hfL : wr.frozen? ⟨gL, s, none⟩ = false := by
        have := hd.rL
        rw [hA] at this
        exact this.free s
      obtain ⟨n, hnn⟩ : ∃ n, n = ({ x1 with L := laid x1.L (x1.W.take k) } : Ref).L.length := ⟨_, rfl⟩
      rw [← hnn] at c0 hA hsl
      have hd2 : RefIs (wr.setCell ⟨gL, s, none⟩ (.slice (some ⟨gv, 0, none⟩) 256 cv)).drew G Z q vL vA vB (ls'.set s (.slice (some ⟨gv, 0, none⟩) 256 cv)) bs { x1 with L := laid x1.L (x1.W.take (k + 1)) } := by
        have h0 := hd.set_last (i := s) hA hsec
        have e : ({ x1 with L := laid x1.L (x1.W.take k) } : Ref).L.set s l = laid x1.L (x1.W.take (k + 1)) := laid_succ x1.L x1.W hWk
        rw [e] at h0
        exact h0.keep (fun _ _ _ => rfl) (fun _ _ _ => rfl)
      have ho2 : Only G w (wr.setCell ⟨gL, s, none⟩ (.slice (some ⟨gv, 0, none⟩) 256 cv)).drew := ho.trans ((Only.setCell (p := ⟨gL, s, none⟩) hGL _).trans (Only.drew _ _))
      have Hd2 := Lib.hid hd2
      have Ho2 := Lib.hid ho2
      have k0 : (0 : Int) ≤ (k : Int) := by omega
      have k1 : (k : Int) < (m : Int) := by omega
      have k2 : (k : Int).toNat = k := by omega
      have s0 : (0 : Int) ≤ (s : Int) := by omega
      have s1 : (s : Int) < (n : Int) := by omega
      have s2 : (s : Int).toNat = s := by omega
      clear hd ho hd2 ho2 hlast hA eA eB hsec hWk hWm hnn
      go_wp2_with fail
      go_still_tail 19, (by kernel_rfl)
      go_wp2_with fail
      go_roundw
      case rel => exact ⟨k + 1, _, by omega, by go_num, Hd2.out, Ho2.out⟩
      case measure => simp [intOf]; omega
    · have hkm2 : k = m := by omega
      obtain ⟨A1, c1, d1⟩ := hd.wait_len
      rw [hWm] at d1
      have hGr : ∀ k, wr.heap.size ≤ k → G k := fun k hk => hG k (Nat.le_trans ho.size hk)
      have hfin : RefIs wr G Z q vL vA vB ls' bs { x1 with L := laid x1.L x1.W } := by
        have : x1.W.take k = x1.W := by rw [hkm2, Hm.out]; exact List.take_length
        rwa [this] at hd
      have hcl := hfin.clear hGr
      have hocl : ∀ u v o o', Only G w ((((wr.alloc o).alloc o').setCell ⟨q, 1, none⟩ u).setCell ⟨q, 2, none⟩ v) := fun u v o o' => ho.trans (only_clear hd.inG.1 u v o o')
      have c2 := hd.c2
      have f1 := hd.free 1
      have f2 := hd.free 2
      have hqlt := hd.lt
      rw [clear_world _ hqlt] at hcl
      simp only [clear_world _ hqlt] at hocl
      have Hcl := Lib.hid hcl
      have Hocl := Lib.hid hocl
      clear hd hfin hcl hocl hWm hkm2 hGr
      go_wp2_with fail
      go_ret
      exact ⟨rfl, ⟨_, _, _, Hcl.out⟩, Hocl.out _ _ _ _⟩
end
end Go.Proofs.Ytmflpjniolcgjaa
