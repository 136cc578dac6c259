/-
  No cell of these rows narrows 'for every input' (looked for: loops, veiled, ifaces, maps, wideKeys, modest, calm, conditions, laid).
  DERIVED. THE GIVEN ROWS OF THIS SEAT. 3 by the template 'for every input the law returns true; each argument reads behind the call as it read before'; 0 by the template 'total and deterministic' (their statements: YtpgibabgedokpaaTotals.lean).
  GIVEN WITH THE SEED: the statements are not yours to turn. If you find one false, say at which input.
  Laid BY PROGRAM, IN A SANDBOX (cutbox-rows.mjs): the forced cells as the released guide's own fill.sh prints them over the translation cad091d96222cce7… (all of the seat's roots in one cut). By AI agents, Wed Nov 11 2026. No macro, syntax, notation, axiom, sorry.
-/
import Derived.Test.YtpgibabgedokpaaChecked
import GoSem.Claim
import GoSem.ClaimJoined
import GoSem.ClaimMapViews
import Derived.JoinedTies
import Derived.KernelRfl
namespace Go.Proofs.Ytpgibabgedokpaa
/- THE CELL 'sum', in the pinned program and in every row, IS THE sha256 OF THE DUMP (.gsa) THAT YtpgibabgedokpaaProg.lean LOADS. Nothing in Lean hashes anything: it is a label: what it is worth is what the hold of that sum in a sandbox is worth. -/
noncomputable def Try.pinned : Pinned := { name := "ytpgibabgedokpaa", sum := "cad091d96222cce7f10e01177b1e7c0712824090c5d14409364499462a0c20e9", checked := Try.checked }
namespace Rows
def none {H : Type} : Left H := { results := [], args := [] }

/-- 'stanchionlaw16.PktReads': WHATEVER THE INPUT: true; the input reads as it did. -/
def pktReadsSpec : ChangeSpec := { name := "pktReads", fn := fun _ => fun
  | [d] => { results := [.lit (.bool true)], args := [d] }
  | _ => none }
def pktReadsRow : OpenClaim := { program := "ytpgibabgedokpaa", sum := "cad091d96222cce7f10e01177b1e7c0712824090c5d14409364499462a0c20e9", func := "stanchion/stanchionlaw16.PktReads", spec := "pktReads", apart := false }
def PktReadsSaid : Prop := pktReadsRow.holds Try.pinned (OpenSpec.ofChange pktReadsSpec)

/-- ITS FALSE NEIGHBOUR: 'it returns false'. Refute it at one input. -/
def pktReadsWrong : ChangeSpec := { name := "pktReads", fn := fun _ => fun
  | [d] => { results := [.lit (.bool false)], args := [d] }
  | _ => none }
def PktReadsWrongFalsely : Prop := pktReadsRow.holds Try.pinned (OpenSpec.ofChange pktReadsWrong)

/-- 'stanchionlaw16.PktBack': WHATEVER THE INPUT: true; the input reads as it did. -/
def pktBackSpec : ChangeSpec := { name := "pktBack", fn := fun _ => fun
  | [d] => { results := [.lit (.bool true)], args := [d] }
  | _ => none }
def pktBackRow : OpenClaim := { program := "ytpgibabgedokpaa", sum := "cad091d96222cce7f10e01177b1e7c0712824090c5d14409364499462a0c20e9", func := "stanchion/stanchionlaw16.PktBack", spec := "pktBack", apart := false }
def PktBackSaid : Prop := pktBackRow.holds Try.pinned (OpenSpec.ofChange pktBackSpec)

/-- ITS FALSE NEIGHBOUR: 'it returns false'. Refute it at one input. -/
def pktBackWrong : ChangeSpec := { name := "pktBack", fn := fun _ => fun
  | [d] => { results := [.lit (.bool false)], args := [d] }
  | _ => none }
def PktBackWrongFalsely : Prop := pktBackRow.holds Try.pinned (OpenSpec.ofChange pktBackWrong)

/-- 'stanchionlaw16.PktSpoilt': WHATEVER THE INPUT: true; the input reads as it did. -/
def pktSpoiltSpec : ChangeSpec := { name := "pktSpoilt", fn := fun _ => fun
  | [d1, d2, d3] => { results := [.lit (.bool true)], args := [d1, d2, d3] }
  | _ => none }
def pktSpoiltRow : OpenClaim := { program := "ytpgibabgedokpaa", sum := "cad091d96222cce7f10e01177b1e7c0712824090c5d14409364499462a0c20e9", func := "stanchion/stanchionlaw16.PktSpoilt", spec := "pktSpoilt", apart := false }
def PktSpoiltSaid : Prop := pktSpoiltRow.holds Try.pinned (OpenSpec.ofChange pktSpoiltSpec)

/-- ITS FALSE NEIGHBOUR: 'it returns false'. Refute it at one input. -/
def pktSpoiltWrong : ChangeSpec := { name := "pktSpoilt", fn := fun _ => fun
  | [d1, d2, d3] => { results := [.lit (.bool false)], args := [d1, d2, d3] }
  | _ => none }
def PktSpoiltWrongFalsely : Prop := pktSpoiltRow.holds Try.pinned (OpenSpec.ofChange pktSpoiltWrong)

/- THE SECOND FORM. 'bulk': how many values and letters a reading holds, each counted each time it is reached (what is shared counts as often as it is met; a slice's spare places count too). A statement '..UptoSaid' is the law's where the arguments, and the package variables that the reading takes, are together of bulk at most 1048576: NARROWER than '..Said'. Prove '..Said' where nothing that the law and all that it calls make is longer than what came in: it says more and counts as full. Else prove '..UptoSaid'. A law counts once. -/
mutual
def uptoBulk {H : Type} : DataW H → Nat
  | .lit (.string bytes) => bytes.length + 1
  | .lit _ => 1
  | .nil => 1
  | .ptr d => uptoBulk d + 1
  | .slice elems spare => uptoBulkAll elems + uptoBulkAll spare + 1
  | .agg parts => uptoBulkAll parts + 1
  | .iface _ d => uptoBulk d + 1
  | .map entries => uptoBulkEntries entries + 1
  | .held _ => 1
def uptoBulkAll {H : Type} : List (DataW H) → Nat
  | [] => 0
  | d :: r => uptoBulk d + uptoBulkAll r
def uptoBulkEntries {H : Type} : List (Lit × DataW H) → Nat
  | [] => 0
  | x :: r => uptoBulkEntry x + uptoBulkEntries r
def uptoBulkEntry {H : Type} : Lit × DataW H → Nat
  | (.string bytes, d) => bytes.length + uptoBulk d + 1
  | (_, d) => uptoBulk d + 1
 end
def uptoSmall : (H : Type) → List (DataW H) → Bool := fun _ ds => decide (uptoBulkAll ds ≤ 1048576)
def OpenSpec.upto (s : _root_.Go.ChangeSpec) : _root_.Go.OpenSpec := { _root_.Go.OpenSpec.ofChange s with cond := some uptoSmall }

/-- 'stanchionlaw16.PktReads', WHERE WHAT IT READS IS OF BULK AT MOST 1048576: true; the input reads as it did. -/
def pktReadsUptoRow : OpenClaim := { program := "ytpgibabgedokpaa", sum := "cad091d96222cce7f10e01177b1e7c0712824090c5d14409364499462a0c20e9", func := "stanchion/stanchionlaw16.PktReads", spec := "pktReads", apart := false, narrowed := true }
def PktReadsUptoSaid : Prop := pktReadsUptoRow.holds Try.pinned (OpenSpec.upto pktReadsSpec)

/-- 'stanchionlaw16.PktBack', WHERE WHAT IT READS IS OF BULK AT MOST 1048576: true; the input reads as it did. -/
def pktBackUptoRow : OpenClaim := { program := "ytpgibabgedokpaa", sum := "cad091d96222cce7f10e01177b1e7c0712824090c5d14409364499462a0c20e9", func := "stanchion/stanchionlaw16.PktBack", spec := "pktBack", apart := false, narrowed := true }
def PktBackUptoSaid : Prop := pktBackUptoRow.holds Try.pinned (OpenSpec.upto pktBackSpec)

/-- 'stanchionlaw16.PktSpoilt', WHERE WHAT IT READS IS OF BULK AT MOST 1048576: true; the input reads as it did. -/
def pktSpoiltUptoRow : OpenClaim := { program := "ytpgibabgedokpaa", sum := "cad091d96222cce7f10e01177b1e7c0712824090c5d14409364499462a0c20e9", func := "stanchion/stanchionlaw16.PktSpoilt", spec := "pktSpoilt", apart := false, narrowed := true }
def PktSpoiltUptoSaid : Prop := pktSpoiltUptoRow.holds Try.pinned (OpenSpec.upto pktSpoiltSpec)

end Rows
end Go.Proofs.Ytpgibabgedokpaa
