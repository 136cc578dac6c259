/-
  The walk of AddrBytes.
-/
import Derived.Test.YtepibdjglfaniaaDoorAdBy
import Derived.Test.YtepibdjglfaniaaDoorAdU
import Derived.Test.YtepibdjglfaniaaDoorAdQ
import Derived.Test.YtepibdjglfaniaaDoorAdR
import Derived.Test.YtepibdjglfaniaaDoorTakeH
namespace Go.Proofs.YtepibdjglfaniaaDoor
open Go.RowKit
theorem exec_conv2 {P : Program} {w : World} {o : Oper} {ρ : Operand → Value} {s t : TypeId} {x : Operand} (ho : o.op = .convert s t x) {v r : Value} (hx : ρ x = v) {w' : World} (hrun : (convert s t v).run P w = .ok r w') : (execOp ρ o).run P w = .ok (.value r) w' := by
  unfold execOp
  simp only [ho, hx, Sem.run_bind, hrun, Result.andThen_ok, Sem.run_pure]
theorem exec_sliceAll {P : Program} {w : World} {o : Oper} {ρ : Operand → Value} {t : TypeId} {x : Operand} (ho : o.op = .slice t x none none none) {u r : Value} (hx : ρ x = u) {w' : World} (hrun : (Instr.sliceAt t u none none none).run P w = .ok r w') : (execOp ρ o).run P w = .ok (.value r) w' := by
  unfold execOp
  simp only [ho, hx, Option.map_none, Sem.run_bind, hrun, Result.andThen_ok, Sem.run_pure]
theorem whole4 (g : Nat) (W : World) : (Instr.sliceAt 26 (.pointer (some ⟨g, 0, none⟩)) none none none).run Tryd.prog W = .ok (.slice (some ⟨g, 0, none⟩) 4 4) W := by
  have hal : Tryd.prog.arrayLen 26 = 4 := by simp [Program.arrayLen, Tryd.underlying26]
  have hel : Tryd.prog.elem 26 = 5 := by simp [Program.elem, Tryd.underlying26]
  rw [run_sliceAt_array_all W 26 _ (by rw [hal, hel]; exact Tryd.underlying26), hel, Tryd.sizeOf5, hal]
  simp [slicedAt, Addr.add]
theorem list4' {l : List UInt8} (h : l.length = 4) : ∃ a b c d, l = [a, b, c, d] := by
  match l, h with
  | [a, b, c, d], _ => exact ⟨a, b, c, d, rfl⟩
/-- The address of as many bytes as may be: its own bytes are these. -/
theorem adBytes_own {l : List UInt8} {x : Ad} (h : adBytes l = some x) : x.own = l ∧ x.six = decide (l.length = 16) := by
  unfold adBytes at h
  split at h
  · rename_i h4
    cases h
    refine ⟨?_, by simp [h4]⟩
    simp [Ad.own, Ad.from]
  · split at h
    · rename_i h16
      cases h
      exact ⟨by simp [Ad.own, Ad.from], by simp [h16]⟩
    · cases h

/-- What the law calls, whatever the world. -/
theorem keepAd {W0 W : World} {g : Nat} {x : Ad} (h : W0.heap[g]? = some (.cells (adC x).toArray 24 (0, 0))) (hg : g < W0.heap.size) (hb : Below W0.heap.size W0 W) : W.heap[g]? = some (.cells (adC x).toArray 24 (0, 0)) ∧ W.rangeAt g 0 (adC x) ∧ W.cell? ⟨g, 0, none⟩ = some (.bool x.six) := by
  have h' := (hb.block g hg).trans h
  exact ⟨h', rangeAt_block h' fun j u hu => by rw [Nat.zero_add]; exact hu, adC_six h'⟩
theorem mine_slice' {w w' : World} {b : Nat} {v : Value} {l : List UInt8} {n : Nat} (h : Mine w' b 5 v (cellsB l)) (hl : l.length = n) : ∃ A c, v = .slice A n c ∧ Rd w' w'.heap.size (.slice A n c) (cellsB l) := by
  obtain ⟨A, c, e, _, _, hr⟩ := h.rd.bytes
  rw [hl] at e hr
  exact ⟨A, c, e, hr⟩
/-- Bytes, as a row and as a text. -/
def TxtOf (w' : World) (A : Option Addr) (n c : Nat) (l : List UInt8) (s : ByteArray) : Prop :=
  Rd w' w'.heap.size (.slice A n c) (cellsB l) ∧ ∀ W, Below w'.heap.size w' W → (convert 25 9 (.slice A n c)).run Tryd.prog W = .ok (.string s) W
theorem txtOf {w' : World} {A : Option Addr} {n c : Nat} {l : List UInt8} {s : ByteArray} (h : Rd w' w'.heap.size (.slice A n c) (cellsB l)) (hs : s = ⟨l.toArray⟩) : TxtOf w' A n c l s :=
  ⟨h, fun _ hW => hs ▸ run_string_rd 25 9 5 Tryd.underlying25 Tryd.underlying5 Tryd.underlying9 (h.below hW)⟩
theorem refBytes_txt (a : Ad) (ha : a.Wide) {l : List UInt8} {n : Nat} {s : ByteArray} (hl : a.own = l) (hn : l.length = n) (hs : s = ⟨l.toArray⟩) (W : World) : Calls Tryd.prog 8 #[.agg (adC a).toArray] W fun e w' => ∃ A c, e = .returned (.slice A n c) ∧ TxtOf w' A n c l s ∧ Below W.heap.size W w' := by
  refine (rfBytes_any a W ha).mono ?_
  rintro e w' ⟨v, rfl, hv, hb⟩
  rw [hl] at hv
  obtain ⟨A, c, rfl, hr⟩ := mine_slice' (w := W) hv hn
  exact ⟨A, c, rfl, txtOf hr hs, hb⟩
theorem adBytes_txt (a : Ad) (ha : a.Wide) {l : List UInt8} {n : Nat} {s : ByteArray} (hl : a.own = l) (hn : l.length = n) (hs : s = ⟨l.toArray⟩) (W : World) : Calls Tryd.prog 10 #[.agg (adC a).toArray] W fun e w' => ∃ A c, e = .returned (.slice A n c) ∧ TxtOf w' A n c l s ∧ Below W.heap.size W w' := by
  refine (adBytes_any a W ha).mono ?_
  rintro e w' ⟨v, rfl, hv, hb⟩
  rw [hl] at hv
  obtain ⟨A, c, rfl, hr⟩ := mine_slice' (w := W) hv hn
  exact ⟨A, c, rfl, txtOf hr hs, hb⟩
theorem four_own (a b c d : UInt8) : (four a b c d).own = [a, b, c, d] := by simp [four, Ad.own, Ad.from]
theorem four_wide (a b c d : UInt8) : (four a b c d).Wide := rfl
theorem four_good (a b c d : UInt8) : (four a b c d).good = true := by simp [four, Ad.good]

theorem wpList_run_h {P : Program} {ops : Array Oper} {rest : List Oper} {o : Oper} {a : Act} {w : World} {Q : Exit → Act → World → Prop} (hw : Region.wanted o (yielded ops a.tmps) = true) (v : Value) (w' : World) (hrun : (execOp a.eval o).run P w = .ok (.value v) w') (h : wpList P ops Q rest (a.put o.dst v) w') : wpList P ops Q (o :: rest) a w :=
  wpList_step fun K hK => by rw [if_pos hw]; exact wp_run v w' hrun (hK _ _ h)
end Go.Proofs.YtepibdjglfaniaaDoor
