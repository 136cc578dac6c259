/-
  Law 15's lives; a segment's head as an argument, by value, opened.
-/
import Derived.Test.YtpgibabgedokpaaSgH
import Derived.Test.YtpgibabgedokpaaHdOpen
namespace Go.Proofs.Ytpgibabgedokpaa
open Go.RowKit
theorem exec_bldP2 {ρ : Operand → Value} {o : Oper} {t : TypeId} {k k2 : Nat} {a a2 : Operand} (ho : o.op = .build t #[(k, a), (k2, a2)]) {u u2 : Value} (ha : ρ a = u) (ha2 : ρ a2 = u2) {v : Value} {P : Program} {w : World} (hrun : (Instr.build t #[(k, u), (k2, u2)]).run P w = .ok v w) : (execOp ρ o).run P w = .ok (.value v) w := by
  unfold execOp
  simp only [ho, List.map_toArray, List.map_cons, List.map_nil, ha, ha2, Sem.run_bind, hrun, Result.andThen_ok, Sem.run_pure]
theorem exec_bldP4 {ρ : Operand → Value} {o : Oper} {t : TypeId} {k1 k2 k3 k4 : Nat} {a1 a2 a3 a4 : Operand} (ho : o.op = .build t #[(k1, a1), (k2, a2), (k3, a3), (k4, a4)]) {u1 u2 u3 u4 : Value} (h1 : ρ a1 = u1) (h2 : ρ a2 = u2) (h3 : ρ a3 = u3) (h4 : ρ a4 = u4) {v : Value} {P : Program} {w : World} (hrun : (Instr.build t #[(k1, u1), (k2, u2), (k3, u3), (k4, u4)]).run P w = .ok v w) : (execOp ρ o).run P w = .ok (.value v) w := by
  unfold execOp
  simp only [ho, List.map_toArray, List.map_cons, List.map_nil, h1, h2, h3, h4, Sem.run_bind, hrun, Result.andThen_ok, Sem.run_pure]
theorem wpList_run_gd {P : Program} {ops : Array Oper} {rest : List Oper} {o : Oper} {a : Act} {w : World} {Q : Exit → Act → World → Prop} (hw : Region.wanted o (yielded ops a.tmps) = true) (v : Value) (w' : World) (hrun : (execOp a.eval o).run P w = .ok (.value v) w') (h : wpList P ops Q rest (a.put o.dst v) w') : wpList P ops Q (o :: rest) a w :=
  wpList_step fun K hK => by
    rw [if_pos hw]
    unfold Oper.wp
    rw [hrun]
    exact hK _ _ h
/-- What lives asks for. -/
def sgLh : Hd := ⟨false, 17, 0, Ad.zero, Ad.zero, false, 9⟩
def sgLs : Sg := ⟨1, 2, 0, 0, false, 0⟩
def sgLr : Sg := ⟨1, 2, 0, 6, false, 8⟩
theorem sgLh_wide : sgLh.Wide := ⟨rfl, rfl⟩
theorem sgL_may : sgMay sgLh sgLs = true := by decide
end Go.Proofs.Ytpgibabgedokpaa
namespace Go.Proofs.Ytpgibabgedokpaa
open Go.ChangeShapes Go.WideShapes Go.ChangeAt Go.RowKit Go.Deep
section
variable {H : Type} {enc : TypeId × Value → H} {w : World} {base : Nat} {held : Bool}
theorem trod_struct6 {P : Program} {spare : Nat → Bool} {t : TypeId} {f0 f1 f2 f3 f4 f5 : Field} {fuel : Nat} {cs : List Value} {x : DataW H × List MemPlace} (ht : P.underlying t = some (.struct #[f0, f1, f2, f3, f4, f5])) (h : DataW.trod enc P w base spare held fuel t cs = some x) :
    ∃ y0 y1 y2 y3 y4 y5 n, cs.length = P.cellsOf t ∧ (DataW.trod enc P w base spare held n f0.type ((cs.drop f0.offset).take (P.cellsOf f0.type)) = some y0 ∧
      DataW.trod enc P w base spare held n f1.type ((cs.drop f1.offset).take (P.cellsOf f1.type)) = some y1 ∧
      DataW.trod enc P w base spare held n f2.type ((cs.drop f2.offset).take (P.cellsOf f2.type)) = some y2 ∧
      DataW.trod enc P w base spare held n f3.type ((cs.drop f3.offset).take (P.cellsOf f3.type)) = some y3) ∧
      DataW.trod enc P w base spare held n f4.type ((cs.drop f4.offset).take (P.cellsOf f4.type)) = some y4 ∧
      DataW.trod enc P w base spare held n f5.type ((cs.drop f5.offset).take (P.cellsOf f5.type)) = some y5 := by
  obtain ⟨xs, n, _, rfl, hl, hlen, hf⟩ := DataW.trod_struct ht h
  match xs, hlen with
  | [y0, y1, y2, y3, y4, y5], _ => exact ⟨y0, y1, y2, y3, y4, y5, n, hl, ⟨by simpa using hf 0 f0 rfl, by simpa using hf 1 f1 rfl, by simpa using hf 2 f2 rfl, by simpa using hf 3 f3 rfl⟩, by simpa using hf 4 f4 rfl, by simpa using hf 5 f5 rfl⟩
theorem lit_u16 {k : Int} (kw : (Lit.int .u16 k).wf = true) : ∃ x : Nat, x < 65536 ∧ k = (x : Int) := by
  have hb : 0 ≤ k ∧ k ≤ 65535 := by simpa [Lit.wf, IntKind.min, IntKind.max, IntKind.bits, IntKind.signed] using kw
  exact ⟨k.toNat, by omega, by omega⟩
theorem cells_sg {m : Nat} {cs : List Value} {y : DataW H × List MemPlace} (h : DataW.trod enc Try.prog w base (fun _ => true) held m 31 cs = some y) : ∃ s : Sg, cs = sgC s ∧ s.src < 65536 ∧ s.dst < 65536 := by
  obtain ⟨y0, y1, y2, y3, y4, y5, n, hl, ⟨h0, h1, h2, h3⟩, h4, h5⟩ := trod_struct6 Try.underlying31 h
  dsimp only at h0 h1 h2 h3 h4 h5
  rw [show Try.prog.cellsOf 31 = 6 by kernel_rfl] at hl
  rw [show Try.prog.cellsOf 4 = 1 by kernel_rfl] at h4
  rw [show Try.prog.cellsOf 5 = 1 by kernel_rfl] at h2
  rw [show Try.prog.cellsOf 29 = 1 by kernel_rfl] at h0 h1
  rw [show Try.prog.cellsOf 3 = 1 by kernel_rfl] at h3 h5
  obtain ⟨b0, k0, _, w0⟩ := DataW.trod_int Try.underlying29 h0
  obtain ⟨b1, k1, _, w1⟩ := DataW.trod_int Try.underlying29 h1
  obtain ⟨b2, k2, _, w2⟩ := DataW.trod_int Try.underlying5 h2
  obtain ⟨b3, k3, _, w3⟩ := DataW.trod_int Try.underlying3 h3
  obtain ⟨b4, k4, _⟩ := DataW.trod_bool Try.underlying4 h4
  obtain ⟨b5, k5, _, w5⟩ := DataW.trod_int Try.underlying3 h5
  obtain ⟨x0, l0, rfl⟩ := lit_u16 w0
  obtain ⟨x1, l1, rfl⟩ := lit_u16 w1
  obtain ⟨x2, rfl⟩ := lit_u8 w2
  refine ⟨⟨x0, x1, x2, b3, b4, b5⟩, ?_, l0, l1⟩
  have e : cs = (cs.drop 0).take 1 ++ ((cs.drop 1).take 1 ++ ((cs.drop 2).take 1 ++ ((cs.drop 3).take 1 ++ ((cs.drop 4).take 1 ++ (cs.drop 5).take 1)))) := by
    have e5 : (cs.drop 5).take 1 = cs.drop 5 := List.take_of_length_le (by rw [List.length_drop]; omega)
    have s : ∀ a c, 1 + a = c → (cs.drop a).take 1 ++ cs.drop c = cs.drop a := fun a c hc => by
      rw [← hc, Nat.add_comm, ← List.drop_drop]
      exact List.take_append_drop _ _
    rw [e5, s 4 5 rfl, s 3 4 rfl, s 2 3 rfl, s 1 2 rfl, s 0 1 rfl]
    rfl
  rw [e, k0, k1, k2, k3, k4, k5]
  rfl
set_option maxRecDepth 10000 in
theorem open_seg {r : Reach} {b0 : Nat} {v : Value} {d : DataW H} {p : List MemPlace} (hv : Value.okWide Try.prog w r b0 31 v) (h : DataW.Trod enc Try.prog w base (fun _ => true) held 31 v d p) : ∃ s : Sg, v = sgV s ∧ s.src < 65536 ∧ s.dst < 65536 := by
  simp only [Value.okWide, Try.underlying31] at hv
  obtain ⟨cs, rfl, _⟩ := hv
  obtain ⟨m, hm⟩ := h
  obtain ⟨a, e, hb⟩ := cells_sg hm
  refine ⟨a, ?_, hb⟩
  rw [sgV, ← e]
  rfl
end
end Go.Proofs.Ytpgibabgedokpaa
