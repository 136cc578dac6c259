/-
  The document's Good: a contract.
  The document's Bytes, and its digit: contracts.
-/
import Derived.Test.YtejppekcniehpaaAdC
import Derived.Test.YtejppekcniehpaaAdRef
namespace Go.Proofs.Ytejppekcniehpaa
open Go.RowKit
theorem good_take {a : Ad} (h : a.Wide) (hs : a.six = false) : a.good = decide (∀ k, k < 12 → a.b[k]? = some 0) := by
  have hl : a.b.length = 16 := h
  rw [Ad.good, hs, Bool.false_or, Bool.eq_iff_iff, beq_iff_eq, decide_eq_true_iff]
  constructor
  · intro e k hk
    have : (a.b.take 12)[k]? = (List.replicate 12 0)[k]? := by rw [e]
    rw [List.getElem?_take, if_pos hk, List.getElem?_replicate, if_pos hk] at this
    exact this
  · intro e
    apply List.ext_getElem?
    intro i
    by_cases hi : i < 12
    · rw [List.getElem?_take, if_pos hi, e i hi, List.getElem?_replicate, if_pos hi]
    · rw [List.getElem?_eq_none (by simp; omega), List.getElem?_eq_none (by simp; omega)]
set_option maxRecDepth 100000 in
theorem rfGood_any (a : Ad) (w : World) (ha : a.Wide) : Calls Try.prog 12 #[adV a] w fun e w' => e = .returned (.bool a.good) ∧ Below w.heap.size w w' := by
  have hl : a.b.length = 16 := ha
  obtain ⟨w1, hw1⟩ : ∃ w1, w1 = w.alloc (.cells (adC a).toArray 25) := ⟨_, rfl⟩
  have hat : w1.heap[w.heap.size]? = some (.cells (adC a).toArray 25 (0, 0)) := by rw [hw1]; exact heap_alloc_last w _
  have c0 := adC_six hat
  have HC : Hid (∀ k (hk : k < 16), w1.cell? ⟨w.heap.size, 1 + k, none⟩ = some (.int .u8 ((a.b[k]).toNat : Int))) := Lib.hid fun k hk => adC_at hat (by omega)
  have HB : Hid (Below w.heap.size w w1) := Lib.hid (by rw [hw1]; exact up_alloc (Below.refl _ w) _)
  rw [adV]
  rcases hs : a.six with _ | _
  · have hg := good_take ha hs
    rw [hs] at c0
    have HG := Lib.hid hg
    obtain ⟨G, hGd⟩ : ∃ G, G = a.good := ⟨_, rfl⟩
    rw [← hGd] at HG ⊢
    subst hw1
    generalize (adC a).toArray = C at *
    clear hat hg hGd hs ha
    go_enter Try.func12, Try.ntmps12
    go_wp2_with fail
    go_loopw [3] (fun iv wr => ∃ (k : Nat), k ≤ 12 ∧ iv = .int .i64 (k : Int) ∧ Hid (∀ j, j < k → a.b[j]? = some 0) ∧ wr = w.alloc (.cells C 25)) (fun iv _ => 12 - (intOf iv).toNat)
    case atStart => exact ⟨0, by omega, rfl, Lib.hid (fun j hj => by omega), rfl⟩
    case round =>
      obtain ⟨k, hkn, rfl, hz, rfl⟩ := hrel
      by_cases hk : k < 12
      · have hck := HC.out k (by omega)
        have t0 : decide ((k : Int) < 12) = true := by simp; omega
        obtain ⟨x, hx⟩ : ∃ x, x = a.b[k]'(by omega) := ⟨_, rfl⟩
        rw [← hx] at hck
        by_cases hx0 : x = 0
        · have hn0 : (x.toNat : Int) = 0 := by rw [hx0]; rfl
          rw [hn0] at hck
          have HX := Lib.hid (hx.symm.trans hx0)
          clear hx hx0 hn0
          go_wp2_with fail
          go_roundw
          case rel => exact ⟨k + 1, by omega, by go_num, Lib.hid (fun j hj => by
            rcases Nat.lt_or_ge j k with h | h
            · exact hz.out j h
            · obtain rfl : j = k := by omega
              rw [List.getElem?_eq_getElem (by omega), HX.out]), (by first | rfl | trivial)⟩
          case measure => simp [intOf]; omega
        · have hn0 : ¬ (x.toNat : Int) = 0 := fun e => hx0 (UInt8.toNat_inj.1 (by simpa using e))
          have hnb : ((x.toNat : Int) != 0) = true := by simpa using hn0
          have HX : Hid (G = false) := Lib.hid (by
            rw [HG.out]
            refine decide_eq_false fun e => hx0 ?_
            have := e k hk
            rw [List.getElem?_eq_getElem (by omega)] at this
            rw [hx]
            exact Option.some.inj this)
          clear hx hx0 HG
          go_wp2_with fail
          go_ret
          exact ⟨by rw [HX.out]; rfl, HB.out⟩
      · obtain rfl : k = 12 := by omega
        have HX : Hid (G = true) := Lib.hid (by rw [HG.out]; exact decide_eq_true hz.out)
        clear HG
        go_wp2_with fail
        go_ret
        exact ⟨by rw [HX.out]; rfl, HB.out⟩
  · have hg : a.good = true := by rw [Ad.good, hs]; rfl
    rw [hs] at c0
    rw [hg]
    subst hw1
    generalize (adC a).toArray = C at *
    clear hat hg hs ha
    go_enter Try.func12, Try.ntmps12
    go_wp2_with fail
    go_loopw [3] (fun iv wr => ∃ (k : Nat), k ≤ 12 ∧ iv = .int .i64 (k : Int) ∧ wr = w.alloc (.cells C 25)) (fun iv _ => 12 - (intOf iv).toNat)
    case atStart => exact ⟨0, by omega, rfl, rfl⟩
    case round =>
      obtain ⟨k, hkn, rfl, rfl⟩ := hrel
      by_cases hk : k < 12
      · have t0 : decide ((k : Int) < 12) = true := by simp; omega
        go_wp2_with fail
        go_roundw
        case rel => exact ⟨k + 1, by omega, by go_num, (by first | rfl | trivial)⟩
        case measure => simp [intOf]; omega
      · obtain rfl : k = 12 := by omega
        go_wp2_with fail
        go_ret
        exact ⟨rfl, HB.out⟩
set_option maxRecDepth 100000 in
theorem rfBytes_any (a : Ad) (w : World) (ha : a.Wide) : Calls Try.prog 14 #[adV a] w fun e w' => ∃ v, e = .returned v ∧ Mine w' w.heap.size 5 v (cellsB a.own) ∧ Below w.heap.size w w' := by
  obtain ⟨i, hi, hz0, hz1, hz2⟩ := info_parts info_u8
  have hat := heap_alloc_last w (.cells (adC a).toArray 25)
  obtain ⟨w1, hw1⟩ : ∃ w1, w1 = w.alloc (.cells (adC a).toArray 25) := ⟨_, rfl⟩
  rw [← hw1] at hat
  have hb1 : Below w.heap.size w w1 := by rw [hw1]; exact up_alloc (Below.refl _ w) _
  have hlt : w.heap.size < w1.heap.size := by rw [hw1]; simp
  have HA : Hid (∀ wr, Below w1.heap.size w1 wr → wr.heap[w.heap.size]? = some (.cells (adC a).toArray 25 (0, 0))) := Lib.hid fun wr hb => (hb.block w.heap.size hlt).trans hat
  have HR : Hid (∀ wr, Below w1.heap.size w1 wr → Rd wr w1.heap.size (.slice (some ⟨w.heap.size, 1 + a.from, none⟩) (16 - a.from) (16 - a.from)) (cellsB a.own)) := Lib.hid fun wr hb => by
    obtain ⟨A, c, e, g1, g2, g3, g4⟩ := own_rd ha ((hb.block w.heap.size hlt).trans hat)
    exact ⟨A, c, e, g1, g2, g3, fun h => by
      obtain ⟨b, o, e1, e2, e3⟩ := g4 h
      exact ⟨b, o, e1, by omega, e3⟩⟩
  have hsl := own_slice a w.heap.size
  have hfrom := fun w => rfFrom_any a w
  have hsz := info_adA ha
  have hlen : (cellsB a.own).length ≤ 16 := by rw [cellsB_length, Ad.own, List.length_drop, ha]; omega
  have hone : ∀ u ∈ cellsB a.own, u.oneCell' = true := cellsB_one _
  have HF := Lib.hid hfrom
  have HU := Lib.hid hb1
  have hat2 := HA.out _ (up_alloc (Below.refl w1.heap.size w1) (.cells #[] 5))
  rw [adV] at HF ⊢
  generalize cellsB a.own = O at *
  generalize a.from = fr at *
  generalize (adC a).toArray = C at *
  clear hfrom hat hb1 hlt
  subst hw1
  have hM : Mine ((w.alloc (.cells C 25)).alloc (.cells #[] 5)) (w.heap.size + 1) 5 (.slice (some ⟨w.heap.size + 1, 0, none⟩) 0 0) [] := by
    have := Mine.empty (w.alloc (.cells C 25)) (w.heap.size + 1) 5 (by simp)
    rwa [show (w.alloc (.cells C 25)).heap.size = w.heap.size + 1 by simp] at this
  go_enter Try.func14, Try.ntmps14
  go_wp2_with (first
    | ((with_reducible refine wpList_load_row (o := ⟨some 5, .load 25 (.tmp 1), _, _, _, _⟩) rfl 25 (.tmp 1) rfl w.heap.size ?_ 25 C (0, 0) _ hat2 Try.underlying25 rfl hsz ?_); exact rfl)
    | (go_at_call 30; refine (HF.out _).mono ?_; rintro _ w3 ⟨rfl, hb3⟩; have hb3' := up (up_alloc (Below.refl _ (w.alloc (.cells C 25))) (.cells #[] 5)) hb3)
    | (at_builtin; refine wpList_append_rd rfl (.tmp 3) (.tmp 7) 22 rfl (w.heap.size + 1) 5 i _ 1 Try.underlying22 hi hz0 hz1 hz2 rfl _ [] rfl (hM.kept hb3) _ _ _ rfl (HR.out _ hb3') hone (by simp; omega) (by unfold maxLen; simp; omega) (by have := hb3'.size; simp at this; omega) ?_; intro v4 w4 hown4 hb4 _ _))
  go_ret
  exact ⟨_, rfl, hown4.weaken (Nat.le_succ _), HU.out.trans ((hb3'.mono HU.out.size).trans (hb4.mono (Nat.le_succ _)))⟩
end Go.Proofs.Ytejppekcniehpaa
