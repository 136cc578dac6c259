/-
  The document's Good: a contract.
  The document's Bytes, and its digit: contracts.
-/
import Derived.Test.YtcandokefhbneaaAdC
import Derived.Test.YtcandokefhbneaaAdRef
namespace Go.Proofs.Ytcandokefhbneaa
open Go.RowKit
theorem good_take {a : Ad} (h : a.Wide) (hs : a.six = false) : a.good = decide (∀ k, k < 12 → a.b[k]? = some 0) := by
  have hl : a.b.length = 16 := h
  rw [Ad.good, hs, Bool.false_or, Bool.eq_iff_iff, beq_iff_eq, decide_eq_true_iff]
  constructor
  · intro e k hk
    have : (a.b.take 12)[k]? = (List.replicate 12 0)[k]? := by rw [e]
    rw [List.getElem?_take, if_pos hk, List.getElem?_replicate, if_pos hk] at this
    exact this
  · intro e
    apply List.ext_getElem?
    intro i
    by_cases hi : i < 12
    · rw [List.getElem?_take, if_pos hi, e i hi, List.getElem?_replicate, if_pos hi]
    · rw [List.getElem?_eq_none (by simp; omega), List.getElem?_eq_none (by simp; omega)]
set_option maxRecDepth 100000 in
theorem rfBytes_any (a : Ad) (w : World) (ha : a.Wide) : Calls Try.prog 19 #[adV a] w fun e w' => ∃ v, e = .returned v ∧ Mine w' w.heap.size 5 v (cellsB a.own) ∧ Below w.heap.size w w' := by
  obtain ⟨i, hi, hz0, hz1, hz2⟩ := info_parts info_u8
  have hat := heap_alloc_last w (.cells (adC a).toArray 31)
  obtain ⟨w1, hw1⟩ : ∃ w1, w1 = w.alloc (.cells (adC a).toArray 31) := ⟨_, rfl⟩
  rw [← hw1] at hat
  have hb1 : Below w.heap.size w w1 := by rw [hw1]; exact up_alloc (Below.refl _ w) _
  have hlt : w.heap.size < w1.heap.size := by rw [hw1]; simp
  have HA : Hid (∀ wr, Below w1.heap.size w1 wr → wr.heap[w.heap.size]? = some (.cells (adC a).toArray 31 (0, 0))) := Lib.hid fun wr hb => (hb.block w.heap.size hlt).trans hat
  have HR : Hid (∀ wr, Below w1.heap.size w1 wr → Rd wr w1.heap.size (.slice (some ⟨w.heap.size, 1 + a.from, none⟩) (16 - a.from) (16 - a.from)) (cellsB a.own)) := Lib.hid fun wr hb => by
    obtain ⟨A, c, e, g1, g2, g3, g4⟩ := own_rd ha ((hb.block w.heap.size hlt).trans hat)
    exact ⟨A, c, e, g1, g2, g3, fun h => by
      obtain ⟨b, o, e1, e2, e3⟩ := g4 h
      exact ⟨b, o, e1, by omega, e3⟩⟩
  have hsl := own_slice a w.heap.size
  have hfrom := fun w => rfFrom_any a w
  have hsz := info_adA ha
  have hlen : (cellsB a.own).length ≤ 16 := by rw [cellsB_length, Ad.own, List.length_drop, ha]; omega
  have hone : ∀ u ∈ cellsB a.own, u.oneCell' = true := cellsB_one _
  have HF := Lib.hid hfrom
  have HU := Lib.hid hb1
  have hat2 := HA.out _ (up_alloc (Below.refl w1.heap.size w1) (.cells #[] 5))
  rw [adV] at HF ⊢
  generalize cellsB a.own = O at *
  generalize a.from = fr at *
  generalize (adC a).toArray = C at *
  clear hfrom hat hb1 hlt
  subst hw1
  have hM : Mine ((w.alloc (.cells C 31)).alloc (.cells #[] 5)) (w.heap.size + 1) 5 (.slice (some ⟨w.heap.size + 1, 0, none⟩) 0 0) [] := by
    have := Mine.empty (w.alloc (.cells C 31)) (w.heap.size + 1) 5 (by simp)
    rwa [show (w.alloc (.cells C 31)).heap.size = w.heap.size + 1 by simp] at this
  go_enter Try.func19, Try.ntmps19
  go_wp2_with (first
    | ((with_reducible refine wpList_load_row (o := ⟨some 5, .load 31 (.tmp 1), _, _, _, _⟩) rfl 31 (.tmp 1) rfl w.heap.size ?_ 31 C (0, 0) _ hat2 Try.underlying31 rfl hsz ?_); exact rfl)
    | (go_at_call 24; refine (HF.out _).mono ?_; rintro _ w3 ⟨rfl, hb3⟩; have hb3' := up (up_alloc (Below.refl _ (w.alloc (.cells C 31))) (.cells #[] 5)) hb3)
    | (at_builtin; refine wpList_append_rd rfl (.tmp 3) (.tmp 7) 23 rfl (w.heap.size + 1) 5 i _ 1 Try.underlying23 hi hz0 hz1 hz2 rfl _ [] rfl (hM.kept hb3) _ _ _ rfl (HR.out _ hb3') hone (by simp; omega) (by unfold maxLen; simp; omega) (by have := hb3'.size; simp at this; omega) ?_; intro v4 w4 hown4 hb4 _ _))
  go_ret
  exact ⟨_, rfl, hown4.weaken (Nat.le_succ _), HU.out.trans ((hb3'.mono HU.out.size).trans (hb4.mono (Nat.le_succ _)))⟩
end Go.Proofs.Ytcandokefhbneaa
