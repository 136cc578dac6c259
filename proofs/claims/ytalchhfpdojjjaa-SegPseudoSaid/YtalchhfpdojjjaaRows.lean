/-
  No cell of these rows narrows 'for every input' (looked for: loops, veiled, ifaces, maps, wideKeys, modest, calm, conditions, laid).
  DERIVED. THE GIVEN ROWS OF THIS SEAT. 4 by the template 'for every input the law returns true; each argument reads behind the call as it read before'; 0 by the template 'total and deterministic' (their statements: YtalchhfpdojjjaaTotals.lean).
  GIVEN WITH THE SEED: the statements are not yours to turn. If you find one false, say at which input.
  Laid BY PROGRAM, IN A SANDBOX (cutbox-rows.mjs): the forced cells as the released guide's own fill.sh prints them over the translation bf1eac2f18481fac… (all of the seat's roots in one cut). By AI agents, Wed Nov 11 2026. No macro, syntax, notation, axiom, sorry.
-/
import Derived.Test.YtalchhfpdojjjaaChecked
import GoSem.Claim
import GoSem.ClaimJoined
import GoSem.ClaimMapViews
import Derived.JoinedTies
import Derived.KernelRfl
namespace Go.Proofs.Ytalchhfpdojjjaa
/- THE CELL 'sum', in the pinned program and in every row, IS THE sha256 OF THE DUMP (.gsa) THAT YtalchhfpdojjjaaProg.lean LOADS. Nothing in Lean hashes anything: it is a label: what it is worth is what the hold of that sum in a sandbox is worth. -/
noncomputable def Try.pinned : Pinned := { name := "ytalchhfpdojjjaa", sum := "bf1eac2f18481faca35ba707f14ba1453fab68a966ec8cb783ea878e8ab6f6e3", checked := Try.checked }
namespace Rows
def none {H : Type} : Left H := { results := [], args := [] }

/-- 'stanchionlaw15.SegPseudo': WHATEVER THE INPUT: true; the input reads as it did. -/
def segPseudoSpec : ChangeSpec := { name := "segPseudo", fn := fun _ => fun
  | [d1, d2] => { results := [.lit (.bool true)], args := [d1, d2] }
  | _ => none }
def segPseudoRow : OpenClaim := { program := "ytalchhfpdojjjaa", sum := "bf1eac2f18481faca35ba707f14ba1453fab68a966ec8cb783ea878e8ab6f6e3", func := "stanchion/stanchionlaw15.SegPseudo", spec := "segPseudo", apart := false }
def SegPseudoSaid : Prop := segPseudoRow.holds Try.pinned (OpenSpec.ofChange segPseudoSpec)

/-- ITS FALSE NEIGHBOUR: 'it returns false'. Refute it at one input. -/
def segPseudoWrong : ChangeSpec := { name := "segPseudo", fn := fun _ => fun
  | [d1, d2] => { results := [.lit (.bool false)], args := [d1, d2] }
  | _ => none }
def SegPseudoWrongFalsely : Prop := segPseudoRow.holds Try.pinned (OpenSpec.ofChange segPseudoWrong)

/-- 'stanchionlaw15.SegReads': WHATEVER THE INPUT: true; the input reads as it did. -/
def segReadsSpec : ChangeSpec := { name := "segReads", fn := fun _ => fun
  | [d1, d2] => { results := [.lit (.bool true)], args := [d1, d2] }
  | _ => none }
def segReadsRow : OpenClaim := { program := "ytalchhfpdojjjaa", sum := "bf1eac2f18481faca35ba707f14ba1453fab68a966ec8cb783ea878e8ab6f6e3", func := "stanchion/stanchionlaw15.SegReads", spec := "segReads", apart := false }
def SegReadsSaid : Prop := segReadsRow.holds Try.pinned (OpenSpec.ofChange segReadsSpec)

/-- ITS FALSE NEIGHBOUR: 'it returns false'. Refute it at one input. -/
def segReadsWrong : ChangeSpec := { name := "segReads", fn := fun _ => fun
  | [d1, d2] => { results := [.lit (.bool false)], args := [d1, d2] }
  | _ => none }
def SegReadsWrongFalsely : Prop := segReadsRow.holds Try.pinned (OpenSpec.ofChange segReadsWrong)

/-- 'stanchionlaw15.SegSpoilt': WHATEVER THE INPUT: true; the input reads as it did. -/
def segSpoiltSpec : ChangeSpec := { name := "segSpoilt", fn := fun _ => fun
  | [d1, d2, d3] => { results := [.lit (.bool true)], args := [d1, d2, d3] }
  | _ => none }
def segSpoiltRow : OpenClaim := { program := "ytalchhfpdojjjaa", sum := "bf1eac2f18481faca35ba707f14ba1453fab68a966ec8cb783ea878e8ab6f6e3", func := "stanchion/stanchionlaw15.SegSpoilt", spec := "segSpoilt", apart := false }
def SegSpoiltSaid : Prop := segSpoiltRow.holds Try.pinned (OpenSpec.ofChange segSpoiltSpec)

/-- ITS FALSE NEIGHBOUR: 'it returns false'. Refute it at one input. -/
def segSpoiltWrong : ChangeSpec := { name := "segSpoilt", fn := fun _ => fun
  | [d1, d2, d3] => { results := [.lit (.bool false)], args := [d1, d2, d3] }
  | _ => none }
def SegSpoiltWrongFalsely : Prop := segSpoiltRow.holds Try.pinned (OpenSpec.ofChange segSpoiltWrong)

/-- 'stanchionlaw15.SegOther': WHATEVER THE INPUT: true; the input reads as it did. -/
def segOtherSpec : ChangeSpec := { name := "segOther", fn := fun _ => fun
  | [d1, d2, d3] => { results := [.lit (.bool true)], args := [d1, d2, d3] }
  | _ => none }
def segOtherRow : OpenClaim := { program := "ytalchhfpdojjjaa", sum := "bf1eac2f18481faca35ba707f14ba1453fab68a966ec8cb783ea878e8ab6f6e3", func := "stanchion/stanchionlaw15.SegOther", spec := "segOther", apart := false }
def SegOtherSaid : Prop := segOtherRow.holds Try.pinned (OpenSpec.ofChange segOtherSpec)

/-- ITS FALSE NEIGHBOUR: 'it returns false'. Refute it at one input. -/
def segOtherWrong : ChangeSpec := { name := "segOther", fn := fun _ => fun
  | [d1, d2, d3] => { results := [.lit (.bool false)], args := [d1, d2, d3] }
  | _ => none }
def SegOtherWrongFalsely : Prop := segOtherRow.holds Try.pinned (OpenSpec.ofChange segOtherWrong)

/- THE SECOND FORM. 'bulk': how many values and letters a reading holds, each counted each time it is reached (what is shared counts as often as it is met; a slice's spare places count too). A statement '..UptoSaid' is the law's where the arguments, and the package variables that the reading takes, are together of bulk at most 1048576: NARROWER than '..Said'. Prove '..Said' where nothing that the law and all that it calls make is longer than what came in: it says more and counts as full. Else prove '..UptoSaid'. A law counts once. -/
mutual
def uptoBulk {H : Type} : DataW H → Nat
  | .lit (.string bytes) => bytes.length + 1
  | .lit _ => 1
  | .nil => 1
  | .ptr d => uptoBulk d + 1
  | .slice elems spare => uptoBulkAll elems + uptoBulkAll spare + 1
  | .agg parts => uptoBulkAll parts + 1
  | .iface _ d => uptoBulk d + 1
  | .map entries => uptoBulkEntries entries + 1
  | .held _ => 1
def uptoBulkAll {H : Type} : List (DataW H) → Nat
  | [] => 0
  | d :: r => uptoBulk d + uptoBulkAll r
def uptoBulkEntries {H : Type} : List (Lit × DataW H) → Nat
  | [] => 0
  | x :: r => uptoBulkEntry x + uptoBulkEntries r
def uptoBulkEntry {H : Type} : Lit × DataW H → Nat
  | (.string bytes, d) => bytes.length + uptoBulk d + 1
  | (_, d) => uptoBulk d + 1
 end
def uptoSmall : (H : Type) → List (DataW H) → Bool := fun _ ds => decide (uptoBulkAll ds ≤ 1048576)
def OpenSpec.upto (s : _root_.Go.ChangeSpec) : _root_.Go.OpenSpec := { _root_.Go.OpenSpec.ofChange s with cond := some uptoSmall }

/-- 'stanchionlaw15.SegPseudo', WHERE WHAT IT READS IS OF BULK AT MOST 1048576: true; the input reads as it did. -/
def segPseudoUptoRow : OpenClaim := { program := "ytalchhfpdojjjaa", sum := "bf1eac2f18481faca35ba707f14ba1453fab68a966ec8cb783ea878e8ab6f6e3", func := "stanchion/stanchionlaw15.SegPseudo", spec := "segPseudo", apart := false, narrowed := true }
def SegPseudoUptoSaid : Prop := segPseudoUptoRow.holds Try.pinned (OpenSpec.upto segPseudoSpec)

/-- 'stanchionlaw15.SegReads', WHERE WHAT IT READS IS OF BULK AT MOST 1048576: true; the input reads as it did. -/
def segReadsUptoRow : OpenClaim := { program := "ytalchhfpdojjjaa", sum := "bf1eac2f18481faca35ba707f14ba1453fab68a966ec8cb783ea878e8ab6f6e3", func := "stanchion/stanchionlaw15.SegReads", spec := "segReads", apart := false, narrowed := true }
def SegReadsUptoSaid : Prop := segReadsUptoRow.holds Try.pinned (OpenSpec.upto segReadsSpec)

/-- 'stanchionlaw15.SegSpoilt', WHERE WHAT IT READS IS OF BULK AT MOST 1048576: true; the input reads as it did. -/
def segSpoiltUptoRow : OpenClaim := { program := "ytalchhfpdojjjaa", sum := "bf1eac2f18481faca35ba707f14ba1453fab68a966ec8cb783ea878e8ab6f6e3", func := "stanchion/stanchionlaw15.SegSpoilt", spec := "segSpoilt", apart := false, narrowed := true }
def SegSpoiltUptoSaid : Prop := segSpoiltUptoRow.holds Try.pinned (OpenSpec.upto segSpoiltSpec)

/-- 'stanchionlaw15.SegOther', WHERE WHAT IT READS IS OF BULK AT MOST 1048576: true; the input reads as it did. -/
def segOtherUptoRow : OpenClaim := { program := "ytalchhfpdojjjaa", sum := "bf1eac2f18481faca35ba707f14ba1453fab68a966ec8cb783ea878e8ab6f6e3", func := "stanchion/stanchionlaw15.SegOther", spec := "segOther", apart := false, narrowed := true }
def SegOtherUptoSaid : Prop := segOtherUptoRow.holds Try.pinned (OpenSpec.upto segOtherSpec)

end Rows
end Go.Proofs.Ytalchhfpdojjjaa
