/-
  The walk of AddrBytes.
-/
import Derived.Test.YtepibdjglfaniaaDoorAddrBytesB
import Derived.Test.YtepibdjglfaniaaDoorAddrBytesC
import Derived.Test.YtepibdjglfaniaaDoorAddrBytesD
import Derived.Test.YtepibdjglfaniaaDoorAddrBytesE
import Derived.Test.YtepibdjglfaniaaDoorAddrBytesF
import Derived.Test.YtepibdjglfaniaaDoorAddrBytesG
namespace Go.Proofs.YtepibdjglfaniaaDoor
open Go.RowKit
theorem addrBytes_walk (a : Ad) (v : Value) (l : List UInt8) (cs : List UInt8) (w : World) (ha : a.Wide) (hr : Rd w w.heap.size v (cellsB l)) (hcs : cs.length = 4) (hV : Vars w) :
    Calls Tryd.prog 3 #[adV a, v, .agg (cellsB cs).toArray] w fun e w' => e = .returned (.bool true) ∧ Below w.heap.size w w' := by
  by_cases h4 : (l.take 20).length = 4
  · have hx : adBytes (l.take 20) = some ⟨false, List.replicate 12 0 ++ l.take 20⟩ := by unfold adBytes; exact if_pos h4
    cases hg : a.good with
    | true => exact addrBytes_4T a v l cs w ha hr hcs hV hx h4 hg
    | false => exact addrBytes_4F a v l cs w ha hr hcs hV hx h4 hg
  · by_cases h16 : (l.take 20).length = 16
    · have hx : adBytes (l.take 20) = some ⟨true, l.take 20⟩ := by unfold adBytes; rw [if_neg h4]; exact if_pos h16
      cases hg : a.good with
      | true => exact addrBytes_16T a v l cs w ha hr hcs hV hx h16 hg
      | false => exact addrBytes_16F a v l cs w ha hr hcs hV hx h16 hg
    · have hx : adBytes (l.take 20) = none := by unfold adBytes; rw [if_neg h4, if_neg h16]
      cases hg : a.good with
      | true => exact addrBytes_noneT a v l cs w ha hr hcs hV hx h4 h16 hg
      | false => exact addrBytes_noneF a v l cs w ha hr hcs hV hx h4 h16 hg
end Go.Proofs.YtepibdjglfaniaaDoor
