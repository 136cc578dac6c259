/-
  What the library's variables hold.
-/
import Derived.Test.YtepibdjglfaniaaDoorAdG
import Derived.Test.YtepibdjglfaniaaDoorShelf
namespace Go.Proofs.YtepibdjglfaniaaDoor
open Go.RowKit
/-- What the library's variables hold. -/
structure Vars (w : World) : Prop where
  len : ∃ m, w.cell? ⟨0, 0, none⟩ = some (.int .i64 m)
  bad : ∃ te pe, w.cell? ⟨1, 0, none⟩ = some (.iface te pe)
  far : ∃ te pe, w.cell? ⟨2, 0, none⟩ = some (.iface te pe)
  pow : Lib.TabIs Tryd.prog w "internal/strconv.uint64pow10" .u64 Lib.pow10Tab
  four : w.cell? ⟨7, 15, none⟩ = some (.int .u8 4)
  size : 8 ≤ w.heap.size
theorem Vars.below {w w' : World} {B : Nat} (h : Vars w) (hb : Below B w w') (hB : 8 ≤ B) : Vars w' := by
  have hc : ∀ g o, g < 8 → w'.cell? ⟨g, o, none⟩ = w.cell? ⟨g, o, none⟩ := fun g o hg => hb.cell (show g < B by omega)
  refine ⟨?_, ?_, ?_, ?_, ?_, ?_⟩
  · obtain ⟨m, hm⟩ := h.len; exact ⟨m, (hc _ _ (by decide)).trans hm⟩
  · obtain ⟨m, n, hm⟩ := h.bad; exact ⟨m, n, (hc _ _ (by decide)).trans hm⟩
  · obtain ⟨m, n, hm⟩ := h.far; exact ⟨m, n, (hc _ _ (by decide)).trans hm⟩
  · have hg : Tryd.prog.globalNamed "internal/strconv.uint64pow10" = some 3 := by kernel_rfl
    have := h.pow
    unfold Lib.TabIs World.var? at this ⊢
    rw [hg] at this ⊢
    simp only [Option.bind_some] at this ⊢
    rw [hb.block _ (show 3 < B by omega)]
    exact this
  · exact (hc _ _ (by decide)).trans h.four
  · exact Nat.le_trans h.size hb.size
theorem Vars.up {w w' : World} (h : Vars w) (hb : Below w.heap.size w w') : Vars w' := h.below hb h.size
end Go.Proofs.YtepibdjglfaniaaDoor
