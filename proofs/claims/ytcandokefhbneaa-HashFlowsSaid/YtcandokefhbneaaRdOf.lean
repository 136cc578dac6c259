/-
  What a call hands back, as an explicit slice.
-/
import Derived.Test.YtcandokefhbneaaWords
namespace Go.Proofs.Ytcandokefhbneaa
open Go.RowKit
theorem mine_of {w' : World} {b : Nat} {e : Ending} {l : List UInt8} {Z : Prop} (h : ∃ v, e = .returned v ∧ Mine w' b 5 v (cellsB l) ∧ Z) : ∃ A n c, e = .returned (.slice A n c) ∧ Mine w' b 5 (.slice A n c) (cellsB l) ∧ Z := by
  obtain ⟨v, rfl, hv, hz⟩ := h
  obtain ⟨A, c, rfl, _⟩ := hv.rd.bytes
  exact ⟨A, _, c, rfl, hv, hz⟩
theorem rd_of {w' : World} {b : Nat} {e : Ending} {l : List UInt8} {Z : Prop} (h : ∃ v, e = .returned v ∧ Mine w' b 5 v (cellsB l) ∧ Z) : ∃ A n c, e = .returned (.slice A n c) ∧ Rd w' w'.heap.size (.slice A n c) (cellsB l) ∧ Z := by
  obtain ⟨A, n, c, e, h, z⟩ := mine_of h
  exact ⟨A, n, c, e, h.rd, z⟩
theorem op_append_rd {P : Program} {w : World} {o : Oper} {a : Act} {K : Act → World → Prop} {Q : Exit → Act → World → Prop} (hgd : o.guard = none) (s x : Operand) (t : TypeId)
    (ho : o.op = .call { callee := .builtin .append, args := #[s, x], argTypes := #[t, t] })
    (base : Nat) (e : TypeId) (i : TypeInfo) (z : Value) (bytes : Nat) (ht : P.underlying t = some (.slice e)) (hi : P.info? e = some i) (hz : i.zero = some z)
    (hsize : i.size = 1) (hby : i.bytes = bytes) (hzs : z.cells.size = 1)
    (v : Value) (xs : List Value) (hs : a.eval s = v) (hown : Mine w base e v xs)
    (B : Nat) (y : Value) (news : List Value) (hx : a.eval x = y) (hr : Rd w B y news) (h1 : ∀ u ∈ news, u.oneCell' = true)
    (hbound : (xs.length + news.length) * bytes ≤ 140737488355328) (hlen : xs.length + news.length ≤ maxLen) (hbase : base ≤ w.heap.size)
    (h : ∀ v' w', Mine w' base e v' (xs ++ news) → Below base w w' → w.grownBy w' v.ownBlock → (v'.ownBlock = v.ownBlock ∨ v'.ownBlock = some w.heap.size) → K (a.put o.dst v') w') :
    Oper.wp P o a w K Q := by
  have hw : Region.wanted o (yielded #[] a.tmps) = true := by simp [Region.wanted, hgd]
  have hh := step_append_rd (ops := #[]) (E := True) (Q := Q) hgd s x t ho base e i z bytes ht hi hz hsize hby hzs v xs hs hown B y news hx hr h1 hbound hlen hbase h
  rw [if_pos hw] at hh
  exact hh
end Go.Proofs.Ytcandokefhbneaa
