/-
  A head as an argument, by value, opened.
-/
import Derived.Test.YtpgibabgedokpaaAdOpenA
import Derived.Test.YtpgibabgedokpaaHd
namespace Go.Proofs.Ytpgibabgedokpaa
open Go.ChangeShapes Go.WideShapes Go.ChangeAt Go.RowKit Go.Deep
section
variable {H : Type} {enc : TypeId × Value → H} {w : World} {base : Nat} {held : Bool}
theorem trod_struct7 {P : Program} {spare : Nat → Bool} {t : TypeId} {f0 f1 f2 f3 f4 f5 f6 : Field} {fuel : Nat} {cs : List Value} {x : DataW H × List MemPlace} (ht : P.underlying t = some (.struct #[f0, f1, f2, f3, f4, f5, f6])) (h : DataW.trod enc P w base spare held fuel t cs = some x) :
    ∃ y0 y1 y2 y3 y4 y5 y6 n, cs.length = P.cellsOf t ∧ (DataW.trod enc P w base spare held n f0.type ((cs.drop f0.offset).take (P.cellsOf f0.type)) = some y0 ∧
      DataW.trod enc P w base spare held n f1.type ((cs.drop f1.offset).take (P.cellsOf f1.type)) = some y1 ∧
      DataW.trod enc P w base spare held n f2.type ((cs.drop f2.offset).take (P.cellsOf f2.type)) = some y2 ∧
      DataW.trod enc P w base spare held n f3.type ((cs.drop f3.offset).take (P.cellsOf f3.type)) = some y3) ∧
      DataW.trod enc P w base spare held n f4.type ((cs.drop f4.offset).take (P.cellsOf f4.type)) = some y4 ∧
      DataW.trod enc P w base spare held n f5.type ((cs.drop f5.offset).take (P.cellsOf f5.type)) = some y5 ∧
      DataW.trod enc P w base spare held n f6.type ((cs.drop f6.offset).take (P.cellsOf f6.type)) = some y6 := by
  obtain ⟨xs, n, _, rfl, hl, hlen, hf⟩ := DataW.trod_struct ht h
  match xs, hlen with
  | [y0, y1, y2, y3, y4, y5, y6], _ => exact ⟨y0, y1, y2, y3, y4, y5, y6, n, hl, ⟨by simpa using hf 0 f0 rfl, by simpa using hf 1 f1 rfl, by simpa using hf 2 f2 rfl, by simpa using hf 3 f3 rfl⟩, by simpa using hf 4 f4 rfl, by simpa using hf 5 f5 rfl, by simpa using hf 6 f6 rfl⟩
theorem lit_u8 {k : Int} (kw : (Lit.int .u8 k).wf = true) : ∃ x : UInt8, k = (x.toNat : Int) := by
  have hb : 0 ≤ k ∧ k ≤ 255 := by simpa [Lit.wf, IntKind.min, IntKind.max, IntKind.bits, IntKind.signed] using kw
  refine ⟨UInt8.ofNat k.toNat, ?_⟩
  have : (UInt8.ofNat k.toNat).toNat = k.toNat % 256 := by simp
  rw [this]
  omega
theorem cells_hd {m : Nat} {cs : List Value} {y : DataW H × List MemPlace} (h : DataW.trod enc Try.prog w base (fun _ => true) held m 28 cs = some y) : ∃ h : Hd, h.Wide ∧ cs = hdC h ∧ -9223372036854775808 ≤ h.pos ∧ h.pos ≤ 9223372036854775807 := by
  obtain ⟨y0, y1, y2, y3, y4, y5, y6, n, hl, ⟨h0, h1, h2, h3⟩, h4, h5, h6⟩ := trod_struct7 Try.underlying28 h
  dsimp only at h0 h1 h2 h3 h4 h5 h6
  rw [show Try.prog.cellsOf 28 = 39 by kernel_rfl] at hl
  rw [show Try.prog.cellsOf 4 = 1 by kernel_rfl] at h0 h5
  rw [show Try.prog.cellsOf 5 = 1 by kernel_rfl] at h1 h6
  rw [show Try.prog.cellsOf 3 = 1 by kernel_rfl] at h2
  rw [show Try.prog.cellsOf 26 = 17 by kernel_rfl] at h3 h4
  obtain ⟨b0, k0, _⟩ := DataW.trod_bool Try.underlying4 h0
  obtain ⟨b1, k1, _, w1⟩ := DataW.trod_int Try.underlying5 h1
  obtain ⟨b2, k2, _, w2⟩ := DataW.trod_int Try.underlying3 h2
  obtain ⟨b3, hw3, k3⟩ := cells_ad h3
  obtain ⟨b4, hw4, k4⟩ := cells_ad h4
  obtain ⟨b5, k5, _⟩ := DataW.trod_bool Try.underlying4 h5
  obtain ⟨b6, k6, _, w6⟩ := DataW.trod_int Try.underlying5 h6
  have hb : -9223372036854775808 ≤ b2 ∧ b2 ≤ 9223372036854775807 := by simpa [Lit.wf, IntKind.min, IntKind.max, IntKind.bits, IntKind.signed] using w2
  obtain ⟨x1, rfl⟩ := lit_u8 w1
  obtain ⟨x6, rfl⟩ := lit_u8 w6
  refine ⟨⟨b0, x1, b2, b3, b4, b5, x6⟩, ⟨hw3, hw4⟩, ?_, hb⟩
  have e : cs = (cs.drop 0).take 1 ++ ((cs.drop 1).take 1 ++ ((cs.drop 2).take 1 ++ ((cs.drop 3).take 17 ++ ((cs.drop 20).take 17 ++ ((cs.drop 37).take 1 ++ (cs.drop 38).take 1))))) := by
    have e38 : (cs.drop 38).take 1 = cs.drop 38 := List.take_of_length_le (by rw [List.length_drop]; omega)
    have s : ∀ a b c, b + a = c → (cs.drop a).take b ++ cs.drop c = cs.drop a := fun a b c hc => by
      rw [← hc, Nat.add_comm, ← List.drop_drop]
      exact List.take_append_drop _ _
    rw [e38, s 37 1 38 rfl, s 20 17 37 rfl, s 3 17 20 rfl, s 2 1 3 rfl, s 1 1 2 rfl, s 0 1 1 rfl]
    rfl
  rw [e, k0, k1, k2, k3, k4, k5, k6]
  rfl
set_option maxRecDepth 10000 in
theorem open_head {r : Reach} {b0 : Nat} {v : Value} {d : DataW H} {p : List MemPlace} (hv : Value.okWide Try.prog w r b0 28 v) (h : DataW.Trod enc Try.prog w base (fun _ => true) held 28 v d p) : ∃ h : Hd, v = hdV h ∧ h.Wide ∧ -9223372036854775808 ≤ h.pos ∧ h.pos ≤ 9223372036854775807 := by
  simp only [Value.okWide, Try.underlying28] at hv
  obtain ⟨cs, rfl, _⟩ := hv
  obtain ⟨m, hm⟩ := h
  obtain ⟨a, ha, e, hb⟩ := cells_hd hm
  refine ⟨a, ?_, ha, hb⟩
  rw [hdV, ← e]
  rfl
end
end Go.Proofs.Ytpgibabgedokpaa
