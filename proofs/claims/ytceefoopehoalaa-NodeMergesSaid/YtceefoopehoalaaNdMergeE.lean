/-
  NodeMerges' law: what its second region's operations do.
-/
import Derived.Test.YtceefoopehoalaaNdMergeD
namespace Go.Proofs.Ytceefoopehoalaa
open Go.RowKit
section
variable {w0 w w' : World} {K V D K' V' D' kv v : Value} {a b : Nd} {key : List UInt8} {B e base : Nat} {la : Bool}
theorem few2 (h : NdIs w w.heap.size K V D a) (hc : a.Cut) (hl : la = a.leaf) : Calls Try.prog 14 #[ndVal la K V D] w fun e w' => ∃ (A1 : Option Addr) (n1 c1 : Nat) (A2 : Option Addr) (n2 c2 : Nat) (A3 : Option Addr) (n3 c3 : Nat),
    e = .returned (ndVal la (.slice A1 n1 c1) (.slice A2 n2 c2) (.slice A3 n3 c3)) ∧ NdNew w' w.heap.size (.slice A1 n1 c1) (.slice A2 n2 c2) (.slice A3 n3 c3) a ∧ Below w.heap.size w w' := by
  subst hl
  refine (fewNd_any h).mono ?_
  rintro e w' ⟨K', V', D', rfl, hn, hb⟩
  rw [hc.same] at hn
  obtain ⟨A1, n1, c1, A2, n2, c2, A3, n3, c3, rfl, rfl, rfl⟩ := hn.is.slices
  exact ⟨_, _, _, _, _, _, _, _, _, rfl, hn, hb⟩
/-- A key's copy, behind an empty one. -/
theorem appKey (hm : Mine w e 5 (.slice (some ⟨e, 0, none⟩) 0 0) []) (hr : Rd w B kv (cellsB key)) (hk : key.length ≤ 30) (he : e ≤ w.heap.size) :
    ∃ A n c w', (Builtin.append_ #[22, 22] 22 #[.slice (some ⟨e, 0, none⟩) 0 0, kv]).run Try.prog w = .ok (.slice A n c) w' ∧ Rd w' w'.heap.size (.slice A n c) (cellsB key) ∧ Below e w w' ∧ w.grownBy w' (some e) := by
  obtain ⟨i, hi, hz0, hz1, hz2⟩ := info_parts info_u8
  obtain ⟨v', w', hrun, hm', hgr, hob⟩ := run_append_rd (P := Try.prog) (w := w) e 22 22 5 i _ 1 Try.underlying22 hi hz0 hz1 hz2 rfl _ [] hm B kv (cellsB key) hr (cellsB_one _) (by rw [cellsB_length]; simp; omega) (by unfold maxLen; rw [cellsB_length]; simp; omega) he
  rw [List.nil_append] at hm'
  obtain ⟨A, c, rfl⟩ := hm'.form
  exact ⟨A, _, c, w', hrun, hm'.rd, (Below.refl _ _).grown hgr he fun k hk => (hm.block k hk).1, hgr⟩
end
end Go.Proofs.Ytceefoopehoalaa
