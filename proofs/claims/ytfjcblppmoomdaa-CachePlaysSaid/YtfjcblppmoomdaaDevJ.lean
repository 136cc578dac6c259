/-
  Write, with the bytes in a block that is not the device's; that what is flushed lasts (lives).
-/
import Derived.Test.YtfjcblppmoomdaaDevFar
import Derived.Test.YtfjcblppmoomdaaDevH
namespace Go.Proofs.Ytfjcblppmoomdaa
open Go.RowKit
section
variable {w : World} {F : Nat → Prop} {p bl bm : Nat} {S : Nat → Value} {D : DataW Value} {d : Dev}
theorem waits_none (d : Dev) (h : ∀ i, d.Q i = []) : d.waits = [] := by
  unfold Dev.waits
  rw [List.filter_eq_nil_iff]
  intro i _
  simp [h i]
end
/-- What is put and flushed is there behind a loss of power. -/
theorem Dev.kept (d : Dev) (i : Nat) (l : List UInt8) (hi : i < d.L.length) (ks : List Int) : (((d.put i l).flush).crash ks).now i = l := by
  have h1 : (d.put i l).flush.waits = [] := waits_none _ fun _ => rfl
  simp only [Dev.now, Dev.crash, h1, lose]
  simp [Dev.flush, Dev.put, Dev.now, hi]
/-- The bytes that 'lives' writes. -/
def sevens : List UInt8 := List.replicate 256 7
end Go.Proofs.Ytfjcblppmoomdaa
