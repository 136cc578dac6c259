/-
  No cell of these rows narrows 'for every input' (looked for: loops, veiled, ifaces, maps, wideKeys, modest, calm, conditions, laid).
  DERIVED. THE GIVEN ROWS OF THIS SEAT. 3 by the template 'for every input the law returns true; each argument reads behind the call as it read before'; 0 by the template 'total and deterministic' (their statements: YtepibdjglfaniaaTotals.lean).
  GIVEN WITH THE SEED: the statements are not yours to turn. If you find one false, say at which input.
  Laid BY PROGRAM, IN A SANDBOX (cutbox-rows.mjs): the forced cells as the released guide's own fill.sh prints them over the translation 491c7ffca6e8ed9d… (all of the seat's roots in one cut). By AI agents, Wed Nov 11 2026. No macro, syntax, notation, axiom, sorry.
-/
import Derived.Test.YtepibdjglfaniaaChecked
import GoSem.Claim
import GoSem.ClaimJoined
import GoSem.ClaimMapViews
import Derived.JoinedTies
import Derived.KernelRfl
namespace Go.Proofs.Ytepibdjglfaniaa
/- THE CELL 'sum', in the pinned program and in every row, IS THE sha256 OF THE DUMP (.gsa) THAT YtepibdjglfaniaaProg.lean LOADS. Nothing in Lean hashes anything: it is a label: what it is worth is what the hold of that sum in a sandbox is worth. -/
noncomputable def Try.pinned : Pinned := { name := "ytepibdjglfaniaa", sum := "491c7ffca6e8ed9d7dd546ff6ef81e73af5a058f4aa53712afadad5801925b7f", checked := Try.checked }
namespace Rows
def none {H : Type} : Left H := { results := [], args := [] }

/-- 'stanchionlaw13.IpfourReads': WHATEVER THE INPUT: true; the input reads as it did. -/
def ipfourReadsSpec : ChangeSpec := { name := "ipfourReads", fn := fun _ => fun
  | [d] => { results := [.lit (.bool true)], args := [d] }
  | _ => none }
def ipfourReadsRow : OpenClaim := { program := "ytepibdjglfaniaa", sum := "491c7ffca6e8ed9d7dd546ff6ef81e73af5a058f4aa53712afadad5801925b7f", func := "stanchion/stanchionlaw13.IpfourReads", spec := "ipfourReads", apart := false }
def IpfourReadsSaid : Prop := ipfourReadsRow.holds Try.pinned (OpenSpec.ofChange ipfourReadsSpec)

/-- ITS FALSE NEIGHBOUR: 'it returns false'. Refute it at one input. -/
def ipfourReadsWrong : ChangeSpec := { name := "ipfourReads", fn := fun _ => fun
  | [d] => { results := [.lit (.bool false)], args := [d] }
  | _ => none }
def IpfourReadsWrongFalsely : Prop := ipfourReadsRow.holds Try.pinned (OpenSpec.ofChange ipfourReadsWrong)

/-- 'stanchionlaw13.IpfourSpoilt': WHATEVER THE INPUT: true; the input reads as it did. -/
def ipfourSpoiltSpec : ChangeSpec := { name := "ipfourSpoilt", fn := fun _ => fun
  | [d1, d2, d3] => { results := [.lit (.bool true)], args := [d1, d2, d3] }
  | _ => none }
def ipfourSpoiltRow : OpenClaim := { program := "ytepibdjglfaniaa", sum := "491c7ffca6e8ed9d7dd546ff6ef81e73af5a058f4aa53712afadad5801925b7f", func := "stanchion/stanchionlaw13.IpfourSpoilt", spec := "ipfourSpoilt", apart := false }
def IpfourSpoiltSaid : Prop := ipfourSpoiltRow.holds Try.pinned (OpenSpec.ofChange ipfourSpoiltSpec)

/-- ITS FALSE NEIGHBOUR: 'it returns false'. Refute it at one input. -/
def ipfourSpoiltWrong : ChangeSpec := { name := "ipfourSpoilt", fn := fun _ => fun
  | [d1, d2, d3] => { results := [.lit (.bool false)], args := [d1, d2, d3] }
  | _ => none }
def IpfourSpoiltWrongFalsely : Prop := ipfourSpoiltRow.holds Try.pinned (OpenSpec.ofChange ipfourSpoiltWrong)

/-- 'stanchionlaw13.IpfourCut': WHATEVER THE INPUT: true; the input reads as it did. -/
def ipfourCutSpec : ChangeSpec := { name := "ipfourCut", fn := fun _ => fun
  | [d1, d2, d3] => { results := [.lit (.bool true)], args := [d1, d2, d3] }
  | _ => none }
def ipfourCutRow : OpenClaim := { program := "ytepibdjglfaniaa", sum := "491c7ffca6e8ed9d7dd546ff6ef81e73af5a058f4aa53712afadad5801925b7f", func := "stanchion/stanchionlaw13.IpfourCut", spec := "ipfourCut", apart := false }
def IpfourCutSaid : Prop := ipfourCutRow.holds Try.pinned (OpenSpec.ofChange ipfourCutSpec)

/-- ITS FALSE NEIGHBOUR: 'it returns false'. Refute it at one input. -/
def ipfourCutWrong : ChangeSpec := { name := "ipfourCut", fn := fun _ => fun
  | [d1, d2, d3] => { results := [.lit (.bool false)], args := [d1, d2, d3] }
  | _ => none }
def IpfourCutWrongFalsely : Prop := ipfourCutRow.holds Try.pinned (OpenSpec.ofChange ipfourCutWrong)

/- THE SECOND FORM. 'bulk': how many values and letters a reading holds, each counted each time it is reached (what is shared counts as often as it is met; a slice's spare places count too). A statement '..UptoSaid' is the law's where the arguments, and the package variables that the reading takes, are together of bulk at most 1048576: NARROWER than '..Said'. Prove '..Said' where nothing that the law and all that it calls make is longer than what came in: it says more and counts as full. Else prove '..UptoSaid'. A law counts once. -/
mutual
def uptoBulk {H : Type} : DataW H → Nat
  | .lit (.string bytes) => bytes.length + 1
  | .lit _ => 1
  | .nil => 1
  | .ptr d => uptoBulk d + 1
  | .slice elems spare => uptoBulkAll elems + uptoBulkAll spare + 1
  | .agg parts => uptoBulkAll parts + 1
  | .iface _ d => uptoBulk d + 1
  | .map entries => uptoBulkEntries entries + 1
  | .held _ => 1
def uptoBulkAll {H : Type} : List (DataW H) → Nat
  | [] => 0
  | d :: r => uptoBulk d + uptoBulkAll r
def uptoBulkEntries {H : Type} : List (Lit × DataW H) → Nat
  | [] => 0
  | x :: r => uptoBulkEntry x + uptoBulkEntries r
def uptoBulkEntry {H : Type} : Lit × DataW H → Nat
  | (.string bytes, d) => bytes.length + uptoBulk d + 1
  | (_, d) => uptoBulk d + 1
 end
def uptoSmall : (H : Type) → List (DataW H) → Bool := fun _ ds => decide (uptoBulkAll ds ≤ 1048576)
def OpenSpec.upto (s : _root_.Go.ChangeSpec) : _root_.Go.OpenSpec := { _root_.Go.OpenSpec.ofChange s with cond := some uptoSmall }

/-- 'stanchionlaw13.IpfourReads', WHERE WHAT IT READS IS OF BULK AT MOST 1048576: true; the input reads as it did. -/
def ipfourReadsUptoRow : OpenClaim := { program := "ytepibdjglfaniaa", sum := "491c7ffca6e8ed9d7dd546ff6ef81e73af5a058f4aa53712afadad5801925b7f", func := "stanchion/stanchionlaw13.IpfourReads", spec := "ipfourReads", apart := false, narrowed := true }
def IpfourReadsUptoSaid : Prop := ipfourReadsUptoRow.holds Try.pinned (OpenSpec.upto ipfourReadsSpec)

/-- 'stanchionlaw13.IpfourSpoilt', WHERE WHAT IT READS IS OF BULK AT MOST 1048576: true; the input reads as it did. -/
def ipfourSpoiltUptoRow : OpenClaim := { program := "ytepibdjglfaniaa", sum := "491c7ffca6e8ed9d7dd546ff6ef81e73af5a058f4aa53712afadad5801925b7f", func := "stanchion/stanchionlaw13.IpfourSpoilt", spec := "ipfourSpoilt", apart := false, narrowed := true }
def IpfourSpoiltUptoSaid : Prop := ipfourSpoiltUptoRow.holds Try.pinned (OpenSpec.upto ipfourSpoiltSpec)

/-- 'stanchionlaw13.IpfourCut', WHERE WHAT IT READS IS OF BULK AT MOST 1048576: true; the input reads as it did. -/
def ipfourCutUptoRow : OpenClaim := { program := "ytepibdjglfaniaa", sum := "491c7ffca6e8ed9d7dd546ff6ef81e73af5a058f4aa53712afadad5801925b7f", func := "stanchion/stanchionlaw13.IpfourCut", spec := "ipfourCut", apart := false, narrowed := true }
def IpfourCutUptoSaid : Prop := ipfourCutUptoRow.holds Try.pinned (OpenSpec.upto ipfourCutSpec)

end Rows
end Go.Proofs.Ytepibdjglfaniaa
