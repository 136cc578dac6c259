/-
  A flow as an argument, by value, opened.
-/
import Derived.Test.YtcandokefhbneaaFl
import Derived.Test.YtcandokefhbneaaAdOpenA
namespace Go.Proofs.Ytcandokefhbneaa
open Go.ChangeShapes Go.WideShapes Go.ChangeAt Go.RowKit Go.Deep
section
variable {H : Type} {enc : TypeId × Value → H} {w : World} {base : Nat} {held : Bool}
theorem trod_struct5 {P : Program} {spare : Nat → Bool} {t : TypeId} {f0 f1 f2 f3 f4 : Field} {fuel : Nat} {cs : List Value} {x : DataW H × List MemPlace} (ht : P.underlying t = some (.struct #[f0, f1, f2, f3, f4])) (h : DataW.trod enc P w base spare held fuel t cs = some x) :
    ∃ y0 y1 y2 y3 y4 n, cs.length = P.cellsOf t ∧ (DataW.trod enc P w base spare held n f0.type ((cs.drop f0.offset).take (P.cellsOf f0.type)) = some y0 ∧
      DataW.trod enc P w base spare held n f1.type ((cs.drop f1.offset).take (P.cellsOf f1.type)) = some y1 ∧
      DataW.trod enc P w base spare held n f2.type ((cs.drop f2.offset).take (P.cellsOf f2.type)) = some y2) ∧
      DataW.trod enc P w base spare held n f3.type ((cs.drop f3.offset).take (P.cellsOf f3.type)) = some y3 ∧
      DataW.trod enc P w base spare held n f4.type ((cs.drop f4.offset).take (P.cellsOf f4.type)) = some y4 := by
  obtain ⟨xs, n, _, rfl, hl, hlen, hf⟩ := DataW.trod_struct ht h
  match xs, hlen with
  | [y0, y1, y2, y3, y4], _ => exact ⟨y0, y1, y2, y3, y4, n, hl, ⟨by simpa using hf 0 f0 rfl, by simpa using hf 1 f1 rfl, by simpa using hf 2 f2 rfl⟩, by simpa using hf 3 f3 rfl, by simpa using hf 4 f4 rfl⟩
theorem cut_join (cs : List Value) (a b c : Nat) (hc : b + a = c) : (cs.drop a).take b ++ cs.drop c = cs.drop a := by
  rw [← hc, Nat.add_comm, ← List.drop_drop]
  exact List.take_append_drop _ _
theorem cells_fl {m : Nat} {cs : List Value} {y : DataW H × List MemPlace} (h : DataW.trod enc Try.prog w base (fun _ => true) held m 34 cs = some y) : ∃ f : Fl, cs = flC f ∧ f.Wide := by
  obtain ⟨y0, y1, y2, y3, y4, n, hl, ⟨h0, h1, h2⟩, h3, h4⟩ := trod_struct5 Try.underlying34 h
  dsimp only at h0 h1 h2 h3 h4
  rw [show Try.prog.cellsOf 34 = 37 by kernel_rfl] at hl
  rw [show Try.prog.cellsOf 5 = 1 by kernel_rfl] at h4
  rw [show Try.prog.cellsOf 32 = 1 by kernel_rfl] at h2 h3
  rw [show Try.prog.cellsOf 31 = 17 by kernel_rfl] at h0 h1
  obtain ⟨b0, w0, k0⟩ := cells_ad h0
  obtain ⟨b1, w1, k1⟩ := cells_ad h1
  obtain ⟨b2, k2, _, w2⟩ := DataW.trod_int Try.underlying32 h2
  obtain ⟨b3, k3, _, w3⟩ := DataW.trod_int Try.underlying32 h3
  obtain ⟨b4, k4, _, w4⟩ := DataW.trod_int Try.underlying5 h4
  obtain ⟨x2, l2, rfl⟩ := lit_u16 w2
  obtain ⟨x3, l3, rfl⟩ := lit_u16 w3
  obtain ⟨x4, rfl⟩ := lit_u8 w4
  refine ⟨⟨b0, b1, x2, x3, x4⟩, ?_, w0, w1, l2, l3⟩
  have e : cs = (cs.drop 0).take 17 ++ ((cs.drop 17).take 17 ++ ((cs.drop 34).take 1 ++ ((cs.drop 35).take 1 ++ (cs.drop 36).take 1))) := by
    have e5 : (cs.drop 36).take 1 = cs.drop 36 := List.take_of_length_le (by rw [List.length_drop]; omega)
    rw [e5, cut_join cs 35 1 36 rfl, cut_join cs 34 1 35 rfl, cut_join cs 17 17 34 rfl, cut_join cs 0 17 17 rfl]
    rfl
  rw [e, k0, k1, k2, k3, k4]
  rfl
set_option maxRecDepth 10000 in
theorem open_flow {r : Reach} {b0 : Nat} {v : Value} {d : DataW H} {p : List MemPlace} (hv : Value.okWide Try.prog w r b0 34 v) (h : DataW.Trod enc Try.prog w base (fun _ => true) held 34 v d p) : ∃ f : Fl, v = flV f ∧ f.Wide := by
  simp only [Value.okWide, Try.underlying34] at hv
  obtain ⟨cs, rfl, _⟩ := hv
  obtain ⟨m, hm⟩ := h
  obtain ⟨a, e, hb⟩ := cells_fl hm
  refine ⟨a, ?_, hb⟩
  rw [flV, ← e]
  rfl
end
end Go.Proofs.Ytcandokefhbneaa
