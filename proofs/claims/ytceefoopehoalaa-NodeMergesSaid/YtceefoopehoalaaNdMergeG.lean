/-
  NodeMerges' law: lists of numbers, and what its end compares.
-/
import Derived.Test.YtceefoopehoalaaNdMergeF
namespace Go.Proofs.Ytceefoopehoalaa
open Go.RowKit
theorem Mine.appI {w : World} {base B : Nat} {v x : Value} {ds es : List Int} (h : Mine w base 3 v (cellsI ds)) (hx : Rd w B x (cellsI es)) (hs : ds.length + es.length ≤ 1000000) (hle : base ≤ w.heap.size) :
    ∃ A n c w', (Builtin.append_ #[25, 25] 25 #[v, x]).run Try.prog w = .ok (.slice A n c) w' ∧ Mine w' base 3 (.slice A n c) (cellsI (ds ++ es)) ∧ Below base w w' := by
  obtain ⟨i, hi, hz0, hz1, hz2⟩ := info_parts info_int
  obtain ⟨v', w', hrun, hm, hgr, hob⟩ := run_append_rd (P := Try.prog) (w := w) base 25 25 3 i _ 8 Try.underlying25 hi hz0 hz1 hz2 rfl v (cellsI ds) h B x (cellsI es) hx (cellsI_one _) (by rw [cellsI_length, cellsI_length]; omega) (by unfold maxLen; rw [cellsI_length, cellsI_length]; omega) hle
  rw [← cellsI_append] at hm
  obtain ⟨A, c, rfl⟩ := hm.form
  exact ⟨A, _, c, w', hrun, hm, (Below.refl _ _).grown hgr hle fun k hk => (h.block k hk).1⟩
theorem Nd.Cut.mem {a : Nd} (h : a.Cut) : ∀ k ∈ a.keys, k.length ≤ 26 := by
  intro k hk
  obtain ⟨j, hj, rfl⟩ := List.getElem_of_mem hk
  have := h.key j hj
  simpa [List.getD, hj] using this
theorem keys_small {ks : List (List UInt8)} (h : ∀ k ∈ ks, k.length ≤ 30) : ∀ j, j < ks.length → (ks.getD j []).length ≤ 1000000 := fun j hj => by
  have := h _ (getD_mem ks [] hj)
  omega
theorem lawKeys {a b : Nd} {key : List UInt8} (ha : a.Cut) (hb : b.Cut) (hk : key.length ≤ 30) : (∀ k ∈ a.keys ++ b.keys, k.length ≤ 30) ∧ ∀ k ∈ (a.keys ++ [key]) ++ b.keys, k.length ≤ 30 := by
  constructor
  · intro k h
    rcases List.mem_append.1 h with h | h
    · have := ha.mem k h; omega
    · have := hb.mem k h; omega
  · intro k h
    rcases List.mem_append.1 h with h | h
    · rcases List.mem_append.1 h with h | h
      · have := ha.mem k h; omega
      · have : k = key := by simpa using h
        subst this; exact hk
    · have := hb.mem k h; omega
end Go.Proofs.Ytceefoopehoalaa
