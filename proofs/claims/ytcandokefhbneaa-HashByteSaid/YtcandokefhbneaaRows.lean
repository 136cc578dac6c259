/-
  No cell of these rows narrows 'for every input' (looked for: loops, veiled, ifaces, maps, wideKeys, modest, calm, conditions, laid).
  DERIVED. THE GIVEN ROWS OF THIS SEAT. 4 by the template 'for every input the law returns true; each argument reads behind the call as it read before'; 0 by the template 'total and deterministic' (their statements: YtcandokefhbneaaTotals.lean).
  GIVEN WITH THE SEED: the statements are not yours to turn. If you find one false, say at which input.
  Laid BY PROGRAM, IN A SANDBOX (cutbox-rows.mjs): the forced cells as the released guide's own fill.sh prints them over the translation 3f33c9c95e108502… (all of the seat's roots in one cut). By AI agents, Wed Nov 11 2026. No macro, syntax, notation, axiom, sorry.
-/
import Derived.Test.YtcandokefhbneaaChecked
import GoSem.Claim
import GoSem.ClaimJoined
import GoSem.ClaimMapViews
import Derived.JoinedTies
import Derived.KernelRfl
namespace Go.Proofs.Ytcandokefhbneaa
/- THE CELL 'sum', in the pinned program and in every row, IS THE sha256 OF THE DUMP (.gsa) THAT YtcandokefhbneaaProg.lean LOADS. Nothing in Lean hashes anything: it is a label: what it is worth is what the hold of that sum in a sandbox is worth. -/
noncomputable def Try.pinned : Pinned := { name := "ytcandokefhbneaa", sum := "3f33c9c95e10850212f62272354f55b3a8a87091e719f8fc2de449a7924defbc", checked := Try.checked }
namespace Rows
def none {H : Type} : Left H := { results := [], args := [] }

/-- 'stanchionlaw18.HashSums': WHATEVER THE INPUT: true; the input reads as it did. -/
def hashSumsSpec : ChangeSpec := { name := "hashSums", fn := fun _ => fun
  | [d1, d2, d3] => { results := [.lit (.bool true)], args := [d1, d2, d3] }
  | _ => none }
def hashSumsRow : OpenClaim := { program := "ytcandokefhbneaa", sum := "3f33c9c95e10850212f62272354f55b3a8a87091e719f8fc2de449a7924defbc", func := "stanchion/stanchionlaw18.HashSums", spec := "hashSums", apart := false }
def HashSumsSaid : Prop := hashSumsRow.holds Try.pinned (OpenSpec.ofChange hashSumsSpec)

/-- ITS FALSE NEIGHBOUR: 'it returns false'. Refute it at one input. -/
def hashSumsWrong : ChangeSpec := { name := "hashSums", fn := fun _ => fun
  | [d1, d2, d3] => { results := [.lit (.bool false)], args := [d1, d2, d3] }
  | _ => none }
def HashSumsWrongFalsely : Prop := hashSumsRow.holds Try.pinned (OpenSpec.ofChange hashSumsWrong)

/-- 'stanchionlaw18.HashFlows': WHATEVER THE INPUT: true; the input reads as it did. -/
def hashFlowsSpec : ChangeSpec := { name := "hashFlows", fn := fun _ => fun
  | [d1, d2] => { results := [.lit (.bool true)], args := [d1, d2] }
  | _ => none }
def hashFlowsRow : OpenClaim := { program := "ytcandokefhbneaa", sum := "3f33c9c95e10850212f62272354f55b3a8a87091e719f8fc2de449a7924defbc", func := "stanchion/stanchionlaw18.HashFlows", spec := "hashFlows", apart := false }
def HashFlowsSaid : Prop := hashFlowsRow.holds Try.pinned (OpenSpec.ofChange hashFlowsSpec)

/-- ITS FALSE NEIGHBOUR: 'it returns false'. Refute it at one input. -/
def hashFlowsWrong : ChangeSpec := { name := "hashFlows", fn := fun _ => fun
  | [d1, d2] => { results := [.lit (.bool false)], args := [d1, d2] }
  | _ => none }
def HashFlowsWrongFalsely : Prop := hashFlowsRow.holds Try.pinned (OpenSpec.ofChange hashFlowsWrong)

/-- 'stanchionlaw18.HashClients': WHATEVER THE INPUT: true; the input reads as it did. -/
def hashClientsSpec : ChangeSpec := { name := "hashClients", fn := fun _ => fun
  | [d1, d2] => { results := [.lit (.bool true)], args := [d1, d2] }
  | _ => none }
def hashClientsRow : OpenClaim := { program := "ytcandokefhbneaa", sum := "3f33c9c95e10850212f62272354f55b3a8a87091e719f8fc2de449a7924defbc", func := "stanchion/stanchionlaw18.HashClients", spec := "hashClients", apart := false }
def HashClientsSaid : Prop := hashClientsRow.holds Try.pinned (OpenSpec.ofChange hashClientsSpec)

/-- ITS FALSE NEIGHBOUR: 'it returns false'. Refute it at one input. -/
def hashClientsWrong : ChangeSpec := { name := "hashClients", fn := fun _ => fun
  | [d1, d2] => { results := [.lit (.bool false)], args := [d1, d2] }
  | _ => none }
def HashClientsWrongFalsely : Prop := hashClientsRow.holds Try.pinned (OpenSpec.ofChange hashClientsWrong)

/-- 'stanchionlaw18.HashByte': WHATEVER THE INPUT: true; the input reads as it did. -/
def hashByteSpec : ChangeSpec := { name := "hashByte", fn := fun _ => fun
  | [d1, d2, d3] => { results := [.lit (.bool true)], args := [d1, d2, d3] }
  | _ => none }
def hashByteRow : OpenClaim := { program := "ytcandokefhbneaa", sum := "3f33c9c95e10850212f62272354f55b3a8a87091e719f8fc2de449a7924defbc", func := "stanchion/stanchionlaw18.HashByte", spec := "hashByte", apart := false }
def HashByteSaid : Prop := hashByteRow.holds Try.pinned (OpenSpec.ofChange hashByteSpec)

/-- ITS FALSE NEIGHBOUR: 'it returns false'. Refute it at one input. -/
def hashByteWrong : ChangeSpec := { name := "hashByte", fn := fun _ => fun
  | [d1, d2, d3] => { results := [.lit (.bool false)], args := [d1, d2, d3] }
  | _ => none }
def HashByteWrongFalsely : Prop := hashByteRow.holds Try.pinned (OpenSpec.ofChange hashByteWrong)

/- THE SECOND FORM. 'bulk': how many values and letters a reading holds, each counted each time it is reached (what is shared counts as often as it is met; a slice's spare places count too). A statement '..UptoSaid' is the law's where the arguments, and the package variables that the reading takes, are together of bulk at most 1048576: NARROWER than '..Said'. Prove '..Said' where nothing that the law and all that it calls make is longer than what came in: it says more and counts as full. Else prove '..UptoSaid'. A law counts once. -/
mutual
def uptoBulk {H : Type} : DataW H → Nat
  | .lit (.string bytes) => bytes.length + 1
  | .lit _ => 1
  | .nil => 1
  | .ptr d => uptoBulk d + 1
  | .slice elems spare => uptoBulkAll elems + uptoBulkAll spare + 1
  | .agg parts => uptoBulkAll parts + 1
  | .iface _ d => uptoBulk d + 1
  | .map entries => uptoBulkEntries entries + 1
  | .held _ => 1
def uptoBulkAll {H : Type} : List (DataW H) → Nat
  | [] => 0
  | d :: r => uptoBulk d + uptoBulkAll r
def uptoBulkEntries {H : Type} : List (Lit × DataW H) → Nat
  | [] => 0
  | x :: r => uptoBulkEntry x + uptoBulkEntries r
def uptoBulkEntry {H : Type} : Lit × DataW H → Nat
  | (.string bytes, d) => bytes.length + uptoBulk d + 1
  | (_, d) => uptoBulk d + 1
 end
def uptoSmall : (H : Type) → List (DataW H) → Bool := fun _ ds => decide (uptoBulkAll ds ≤ 1048576)
def OpenSpec.upto (s : _root_.Go.ChangeSpec) : _root_.Go.OpenSpec := { _root_.Go.OpenSpec.ofChange s with cond := some uptoSmall }

/-- 'stanchionlaw18.HashSums', WHERE WHAT IT READS IS OF BULK AT MOST 1048576: true; the input reads as it did. -/
def hashSumsUptoRow : OpenClaim := { program := "ytcandokefhbneaa", sum := "3f33c9c95e10850212f62272354f55b3a8a87091e719f8fc2de449a7924defbc", func := "stanchion/stanchionlaw18.HashSums", spec := "hashSums", apart := false, narrowed := true }
def HashSumsUptoSaid : Prop := hashSumsUptoRow.holds Try.pinned (OpenSpec.upto hashSumsSpec)

/-- 'stanchionlaw18.HashFlows', WHERE WHAT IT READS IS OF BULK AT MOST 1048576: true; the input reads as it did. -/
def hashFlowsUptoRow : OpenClaim := { program := "ytcandokefhbneaa", sum := "3f33c9c95e10850212f62272354f55b3a8a87091e719f8fc2de449a7924defbc", func := "stanchion/stanchionlaw18.HashFlows", spec := "hashFlows", apart := false, narrowed := true }
def HashFlowsUptoSaid : Prop := hashFlowsUptoRow.holds Try.pinned (OpenSpec.upto hashFlowsSpec)

/-- 'stanchionlaw18.HashClients', WHERE WHAT IT READS IS OF BULK AT MOST 1048576: true; the input reads as it did. -/
def hashClientsUptoRow : OpenClaim := { program := "ytcandokefhbneaa", sum := "3f33c9c95e10850212f62272354f55b3a8a87091e719f8fc2de449a7924defbc", func := "stanchion/stanchionlaw18.HashClients", spec := "hashClients", apart := false, narrowed := true }
def HashClientsUptoSaid : Prop := hashClientsUptoRow.holds Try.pinned (OpenSpec.upto hashClientsSpec)

/-- 'stanchionlaw18.HashByte', WHERE WHAT IT READS IS OF BULK AT MOST 1048576: true; the input reads as it did. -/
def hashByteUptoRow : OpenClaim := { program := "ytcandokefhbneaa", sum := "3f33c9c95e10850212f62272354f55b3a8a87091e719f8fc2de449a7924defbc", func := "stanchion/stanchionlaw18.HashByte", spec := "hashByte", apart := false, narrowed := true }
def HashByteUptoSaid : Prop := hashByteUptoRow.holds Try.pinned (OpenSpec.upto hashByteSpec)

end Rows
end Go.Proofs.Ytcandokefhbneaa
