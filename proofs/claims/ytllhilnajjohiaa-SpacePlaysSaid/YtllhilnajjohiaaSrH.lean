/-
  A space and the document's: alike, whatever page is asked for.
-/
import Derived.Test.YtllhilnajjohiaaSrF
import Derived.Test.YtllhilnajjohiaaSrG
namespace Go.Proofs.Ytllhilnajjohiaa
open Go.RowKit
section
variable {w w' : World} {a p gn cn gs cs : Nat} {x : Spc}
theorem alike_any (h : SpTwo w a p gn cn gs cs x) (no : Int) :
    Calls Try.prog 18 #[spAt a, spAt p, .int .i64 no] w fun e w' => e = .returned (.bool true) ∧ Below w.heap.size w w' := by
  rcases page_or x.n no with ho | ⟨k, rfl, hk⟩
  · by_cases hz : no < 0
    · exact alike_neg h hz
    · exact alike_big h (by omega)
  · cases ht : x.now k
    · cases hs : x.sure k
      · exact alike_ff h hk ht hs
      · exact alike_ft h hk ht hs
    · cases hs : x.sure k
      · exact alike_tf h hk ht hs
      · exact alike_tt h hk ht hs
end
end Go.Proofs.Ytllhilnajjohiaa
