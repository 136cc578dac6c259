/-
  No cell of these rows narrows 'for every input' (looked for: loops, veiled, ifaces, maps, wideKeys, modest, calm, conditions, laid).
  DERIVED. THE GIVEN ROWS OF THIS SEAT. 4 by the template 'for every input the law returns true; each argument reads behind the call as it read before'; 0 by the template 'total and deterministic' (their statements: YtfafcihpjcgmhaaTotals.lean).
  GIVEN WITH THE SEED: the statements are not yours to turn. If you find one false, say at which input.
  Laid BY PROGRAM, IN A SANDBOX (cutbox-rows.mjs): the forced cells as the released guide's own fill.sh prints them over the translation cdd373b33beffcfc… (all of the seat's roots in one cut). By AI agents, Wed Nov 11 2026. No macro, syntax, notation, axiom, sorry.
-/
import Derived.Test.YtfafcihpjcgmhaaChecked
import GoSem.Claim
import GoSem.ClaimJoined
import GoSem.ClaimMapViews
import Derived.JoinedTies
import Derived.KernelRfl
namespace Go.Proofs.Ytfafcihpjcgmhaa
/- THE CELL 'sum', in the pinned program and in every row, IS THE sha256 OF THE DUMP (.gsa) THAT YtfafcihpjcgmhaaProg.lean LOADS. Nothing in Lean hashes anything: it is a label: what it is worth is what the hold of that sum in a sandbox is worth. -/
noncomputable def Try.pinned : Pinned := { name := "ytfafcihpjcgmhaa", sum := "cdd373b33beffcfc2bc3dce2576a51d6d7af358f495a4486eec889b83a2d2114", checked := Try.checked }
namespace Rows
def none {H : Type} : Left H := { results := [], args := [] }

/-- 'stanchionlaw11.InetSums': WHATEVER THE INPUT: true; the input reads as it did. -/
def inetSumsSpec : ChangeSpec := { name := "inetSums", fn := fun _ => fun
  | [d1, d2, d3] => { results := [.lit (.bool true)], args := [d1, d2, d3] }
  | _ => none }
def inetSumsRow : OpenClaim := { program := "ytfafcihpjcgmhaa", sum := "cdd373b33beffcfc2bc3dce2576a51d6d7af358f495a4486eec889b83a2d2114", func := "stanchion/stanchionlaw11.InetSums", spec := "inetSums", apart := false }
def InetSumsSaid : Prop := inetSumsRow.holds Try.pinned (OpenSpec.ofChange inetSumsSpec)

/-- ITS FALSE NEIGHBOUR: 'it returns false'. Refute it at one input. -/
def inetSumsWrong : ChangeSpec := { name := "inetSums", fn := fun _ => fun
  | [d1, d2, d3] => { results := [.lit (.bool false)], args := [d1, d2, d3] }
  | _ => none }
def InetSumsWrongFalsely : Prop := inetSumsRow.holds Try.pinned (OpenSpec.ofChange inetSumsWrong)

/-- 'stanchionlaw11.InetChanges': WHATEVER THE INPUT: true; the input reads as it did. -/
def inetChangesSpec : ChangeSpec := { name := "inetChanges", fn := fun _ => fun
  | [d1, d2, d3] => { results := [.lit (.bool true)], args := [d1, d2, d3] }
  | _ => none }
def inetChangesRow : OpenClaim := { program := "ytfafcihpjcgmhaa", sum := "cdd373b33beffcfc2bc3dce2576a51d6d7af358f495a4486eec889b83a2d2114", func := "stanchion/stanchionlaw11.InetChanges", spec := "inetChanges", apart := false }
def InetChangesSaid : Prop := inetChangesRow.holds Try.pinned (OpenSpec.ofChange inetChangesSpec)

/-- ITS FALSE NEIGHBOUR: 'it returns false'. Refute it at one input. -/
def inetChangesWrong : ChangeSpec := { name := "inetChanges", fn := fun _ => fun
  | [d1, d2, d3] => { results := [.lit (.bool false)], args := [d1, d2, d3] }
  | _ => none }
def InetChangesWrongFalsely : Prop := inetChangesRow.holds Try.pinned (OpenSpec.ofChange inetChangesWrong)

/-- 'stanchionlaw11.InetOwn': WHATEVER THE INPUT: true; the input reads as it did. -/
def inetOwnSpec : ChangeSpec := { name := "inetOwn", fn := fun _ => fun
  | [d1, d2] => { results := [.lit (.bool true)], args := [d1, d2] }
  | _ => none }
def inetOwnRow : OpenClaim := { program := "ytfafcihpjcgmhaa", sum := "cdd373b33beffcfc2bc3dce2576a51d6d7af358f495a4486eec889b83a2d2114", func := "stanchion/stanchionlaw11.InetOwn", spec := "inetOwn", apart := false }
def InetOwnSaid : Prop := inetOwnRow.holds Try.pinned (OpenSpec.ofChange inetOwnSpec)

/-- ITS FALSE NEIGHBOUR: 'it returns false'. Refute it at one input. -/
def inetOwnWrong : ChangeSpec := { name := "inetOwn", fn := fun _ => fun
  | [d1, d2] => { results := [.lit (.bool false)], args := [d1, d2] }
  | _ => none }
def InetOwnWrongFalsely : Prop := inetOwnRow.holds Try.pinned (OpenSpec.ofChange inetOwnWrong)

/-- 'stanchionlaw11.InetKept': WHATEVER THE INPUT: true; the input reads as it did. -/
def inetKeptSpec : ChangeSpec := { name := "inetKept", fn := fun _ => fun
  | [d1, d2, d3] => { results := [.lit (.bool true)], args := [d1, d2, d3] }
  | _ => none }
def inetKeptRow : OpenClaim := { program := "ytfafcihpjcgmhaa", sum := "cdd373b33beffcfc2bc3dce2576a51d6d7af358f495a4486eec889b83a2d2114", func := "stanchion/stanchionlaw11.InetKept", spec := "inetKept", apart := false }
def InetKeptSaid : Prop := inetKeptRow.holds Try.pinned (OpenSpec.ofChange inetKeptSpec)

/-- ITS FALSE NEIGHBOUR: 'it returns false'. Refute it at one input. -/
def inetKeptWrong : ChangeSpec := { name := "inetKept", fn := fun _ => fun
  | [d1, d2, d3] => { results := [.lit (.bool false)], args := [d1, d2, d3] }
  | _ => none }
def InetKeptWrongFalsely : Prop := inetKeptRow.holds Try.pinned (OpenSpec.ofChange inetKeptWrong)

/- THE SECOND FORM. 'bulk': how many values and letters a reading holds, each counted each time it is reached (what is shared counts as often as it is met; a slice's spare places count too). A statement '..UptoSaid' is the law's where the arguments, and the package variables that the reading takes, are together of bulk at most 1048576: NARROWER than '..Said'. Prove '..Said' where nothing that the law and all that it calls make is longer than what came in: it says more and counts as full. Else prove '..UptoSaid'. A law counts once. -/
mutual
def uptoBulk {H : Type} : DataW H → Nat
  | .lit (.string bytes) => bytes.length + 1
  | .lit _ => 1
  | .nil => 1
  | .ptr d => uptoBulk d + 1
  | .slice elems spare => uptoBulkAll elems + uptoBulkAll spare + 1
  | .agg parts => uptoBulkAll parts + 1
  | .iface _ d => uptoBulk d + 1
  | .map entries => uptoBulkEntries entries + 1
  | .held _ => 1
def uptoBulkAll {H : Type} : List (DataW H) → Nat
  | [] => 0
  | d :: r => uptoBulk d + uptoBulkAll r
def uptoBulkEntries {H : Type} : List (Lit × DataW H) → Nat
  | [] => 0
  | x :: r => uptoBulkEntry x + uptoBulkEntries r
def uptoBulkEntry {H : Type} : Lit × DataW H → Nat
  | (.string bytes, d) => bytes.length + uptoBulk d + 1
  | (_, d) => uptoBulk d + 1
 end
def uptoSmall : (H : Type) → List (DataW H) → Bool := fun _ ds => decide (uptoBulkAll ds ≤ 1048576)
def OpenSpec.upto (s : _root_.Go.ChangeSpec) : _root_.Go.OpenSpec := { _root_.Go.OpenSpec.ofChange s with cond := some uptoSmall }

/-- 'stanchionlaw11.InetSums', WHERE WHAT IT READS IS OF BULK AT MOST 1048576: true; the input reads as it did. -/
def inetSumsUptoRow : OpenClaim := { program := "ytfafcihpjcgmhaa", sum := "cdd373b33beffcfc2bc3dce2576a51d6d7af358f495a4486eec889b83a2d2114", func := "stanchion/stanchionlaw11.InetSums", spec := "inetSums", apart := false, narrowed := true }
def InetSumsUptoSaid : Prop := inetSumsUptoRow.holds Try.pinned (OpenSpec.upto inetSumsSpec)

/-- 'stanchionlaw11.InetChanges', WHERE WHAT IT READS IS OF BULK AT MOST 1048576: true; the input reads as it did. -/
def inetChangesUptoRow : OpenClaim := { program := "ytfafcihpjcgmhaa", sum := "cdd373b33beffcfc2bc3dce2576a51d6d7af358f495a4486eec889b83a2d2114", func := "stanchion/stanchionlaw11.InetChanges", spec := "inetChanges", apart := false, narrowed := true }
def InetChangesUptoSaid : Prop := inetChangesUptoRow.holds Try.pinned (OpenSpec.upto inetChangesSpec)

/-- 'stanchionlaw11.InetOwn', WHERE WHAT IT READS IS OF BULK AT MOST 1048576: true; the input reads as it did. -/
def inetOwnUptoRow : OpenClaim := { program := "ytfafcihpjcgmhaa", sum := "cdd373b33beffcfc2bc3dce2576a51d6d7af358f495a4486eec889b83a2d2114", func := "stanchion/stanchionlaw11.InetOwn", spec := "inetOwn", apart := false, narrowed := true }
def InetOwnUptoSaid : Prop := inetOwnUptoRow.holds Try.pinned (OpenSpec.upto inetOwnSpec)

/-- 'stanchionlaw11.InetKept', WHERE WHAT IT READS IS OF BULK AT MOST 1048576: true; the input reads as it did. -/
def inetKeptUptoRow : OpenClaim := { program := "ytfafcihpjcgmhaa", sum := "cdd373b33beffcfc2bc3dce2576a51d6d7af358f495a4486eec889b83a2d2114", func := "stanchion/stanchionlaw11.InetKept", spec := "inetKept", apart := false, narrowed := true }
def InetKeptUptoSaid : Prop := inetKeptUptoRow.holds Try.pinned (OpenSpec.upto inetKeptSpec)

end Rows
end Go.Proofs.Ytfafcihpjcgmhaa
