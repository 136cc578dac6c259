/-
  The document's own Decode of layer 7: what are a node's bytes, and what are none.
-/
import Derived.Test.YtceefoopehoalaaNdRefJ
import Derived.Test.YtceefoopehoalaaNdRefK
namespace Go.Proofs.Ytceefoopehoalaa
open Go.RowKit
theorem rdecode_any (lf : Bool) (A : Option Addr) (c : Nat) (b : List UInt8) (w : World) (hr : Rd w w.heap.size (.slice A b.length c) (cellsB b)) (hl : b.length ≤ 1000) (h1 : 1 ≤ b.length) :
    Calls Try.prog 11 #[.bool lf, .slice A b.length c] w fun e w' =>
      (((refAt lf b (getN b 0 1)).2 = (b.length : Int) ∧ (refAt lf b (getN b 0 1)).1.Fit ∧ (refAt lf b (getN b 0 1)).1.bytes = b) → ∃ K V D, e = .returned (.tuple #[ndVal lf K V D, .bool true]) ∧ NdNew w' w.heap.size K V D (refAt lf b (getN b 0 1)).1) ∧
      (¬ ((refAt lf b (getN b 0 1)).2 = (b.length : Int) ∧ (refAt lf b (getN b 0 1)).1.Fit ∧ (refAt lf b (getN b 0 1)).1.bytes = b) → e = .returned (.tuple #[ndZero, .bool false])) ∧ Below w.heap.size w w' := by
  cases lf
  · exact rdecode_not A c b w hr hl h1
  · exact rdecode_leaf A c b w hr hl h1
theorem Nd.bytes_pos (n : Nd) : 1 ≤ n.bytes.length := by
  rw [n.bytes_len]
  have : 1 ≤ n.size := by unfold Nd.size; split <;> omega
  exact this
theorem rdecode_good (A : Option Addr) (c : Nat) (w : World) {n : Nd} (hf : n.Fit) (hr : Rd w w.heap.size (.slice A n.bytes.length c) (cellsB n.bytes)) :
    Calls Try.prog 11 #[.bool n.leaf, .slice A n.bytes.length c] w fun e w' => ∃ K V D, e = .returned (.tuple #[ndVal n.leaf K V D, .bool true]) ∧ NdNew w' w.heap.size K V D n ∧ Below w.heap.size w w' := by
  have hbl : n.bytes.length ≤ 232 := by rw [n.bytes_len]; exact hf.fit
  refine (rdecode_any n.leaf A c n.bytes w hr (by omega) n.bytes_pos).mono ?_
  rintro e w' ⟨h1, h2, hb⟩
  rw [Nd.ref_back hf] at h1
  obtain ⟨K, V, D, rfl, hn⟩ := h1 ⟨rfl, hf, rfl⟩
  exact ⟨K, V, D, rfl, hn, hb⟩
theorem rdecode_none (lf : Bool) (A : Option Addr) (c : Nat) (w : World) :
    Calls Try.prog 11 #[.bool lf, .slice A 0 c] w fun e w' => e = .returned (.tuple #[ndZero, .bool false]) ∧ Below w.heap.size w w' := by
  have hst := RfW.start (w0 := w) (lf := lf)
  obtain ⟨y0, y1, y2, y3, f0, f1, f2, f3⟩ := out_cells hst.out
  obtain ⟨x0, x1, x2, x3⟩ := hst.nm.box
  have HFb := Lib.hid hst.below
  clear hst
  go_enter Try.func11, Try.ntmps11
  go_wp2_with fail
  exact bodyPost_ret (v := .tuple #[ndZero, .bool false]) (by simp [results, Try.results11, go_sem, y0, y1, y2, y3]) rfl ⟨rfl, HFb.out⟩
theorem rdecode_bad (lf : Bool) (A : Option Addr) (c : Nat) (b : List UInt8) (w : World) (hr : Rd w w.heap.size (.slice A b.length c) (cellsB b)) (hl : b.length ≤ 1000) (hno : ∀ n : Nd, n.Fit → n.leaf = lf → n.bytes ≠ b) :
    Calls Try.prog 11 #[.bool lf, .slice A b.length c] w fun e w' => e = .returned (.tuple #[ndZero, .bool false]) ∧ Below w.heap.size w w' := by
  by_cases h1 : 1 ≤ b.length
  · refine (rdecode_any lf A c b w hr hl h1).mono ?_
    rintro e w' ⟨_, h2, hb⟩
    exact ⟨h2 fun h => hno _ h.2.1 (refAt_le lf b h1 (getN b 0 1)).2.2.1 h.2.2, hb⟩
  · obtain rfl : b = [] := by cases b; rfl; simp at h1
    exact rdecode_none lf A c w
end Go.Proofs.Ytceefoopehoalaa
