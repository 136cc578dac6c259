/-
  A byte of a row of one's own, stored.
-/
import Derived.Test.YtcandokefhbneaaBase
namespace Go.Proofs.Ytcandokefhbneaa
open Go.RowKit
theorem cellsB_set (l : List UInt8) (k : Nat) (x : UInt8) : (cellsB l).set k (.int .u8 (x.toNat : Int)) = cellsB (l.set k x) := by simp [cellsB, List.map_set]
theorem Mine.slot {w : World} {base : Nat} {g n c : Nat} {l : List UInt8} (h : Mine w base 5 (.slice (some ⟨g, 0, none⟩) n c) (cellsB l)) (k : Nat) (hk : k < l.length) : (∃ u, w.cell? ⟨g, k, none⟩ = some (.int .u8 u)) ∧ w.frozen? ⟨g, k, none⟩ = false :=
  ⟨⟨_, h.cellAt (cellsB_at l k hk)⟩, h.free k⟩
theorem Mine.addr {w : World} {base : Nat} {v : Value} {l : List UInt8} (h : Mine w base 5 v (cellsB l)) (hl : 0 < l.length) : ∃ g c, v = .slice (some ⟨g, 0, none⟩) l.length c ∧ l.length ≤ c ∧ c ≤ maxLen := by
  rcases h.2 with ⟨rfl, hn⟩ | ⟨g, cap, cur, rfl, _, _, h1, h2, _⟩
  · rw [cellsB_length] at hn; omega
  · rw [cellsB_length] at h1 ⊢; exact ⟨g, cap, rfl, h1, h2⟩
end Go.Proofs.Ytcandokefhbneaa
