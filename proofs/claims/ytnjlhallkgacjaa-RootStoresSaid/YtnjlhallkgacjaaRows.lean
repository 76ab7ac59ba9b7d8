/-
  No cell of these rows narrows 'for every input' (looked for: loops, veiled, ifaces, maps, wideKeys, modest, calm, conditions, laid).
  DERIVED. THE GIVEN ROWS OF THIS SEAT. 5 by the template 'for every input the law returns true; each argument reads behind the call as it read before'; 0 by the template 'total and deterministic' (their statements: YtnjlhallkgacjaaTotals.lean).
  GIVEN WITH THE SEED: the statements are not yours to turn. If you find one false, say at which input.
  Laid BY PROGRAM, IN A SANDBOX (cutbox-rows.mjs): the forced cells as the released guide's own fill.sh prints them over the translation e6fe4b8df9b7f6bc… (all of the seat's roots in one cut). By AI agents, Wed Nov 11 2026. No macro, syntax, notation, axiom, sorry.
-/
import Derived.Test.YtnjlhallkgacjaaChecked
import GoSem.Claim
import GoSem.ClaimJoined
import GoSem.ClaimMapViews
import Derived.JoinedTies
import Derived.KernelRfl
namespace Go.Proofs.Ytnjlhallkgacjaa
/- THE CELL 'sum', in the pinned program and in every row, IS THE sha256 OF THE DUMP (.gsa) THAT YtnjlhallkgacjaaProg.lean LOADS. Nothing in Lean hashes anything: it is a label: what it is worth is what the hold of that sum in a sandbox is worth. -/
noncomputable def Try.pinned : Pinned := { name := "ytnjlhallkgacjaa", sum := "e6fe4b8df9b7f6bc96c562663d50749f09dbce11d2be41e4ed10a30976f374b8", checked := Try.checked }
namespace Rows
def none {H : Type} : Left H := { results := [], args := [] }

/-- 'hibernaclelaw05.RootBlocks': WHATEVER THE INPUT: true; the input reads as it did. -/
def rootBlocksSpec : ChangeSpec := { name := "rootBlocks", fn := fun _ => fun
  | [d1, d2] => { results := [.lit (.bool true)], args := [d1, d2] }
  | _ => none }
def rootBlocksRow : OpenClaim := { program := "ytnjlhallkgacjaa", sum := "e6fe4b8df9b7f6bc96c562663d50749f09dbce11d2be41e4ed10a30976f374b8", func := "hibernacle/hibernaclelaw05.RootBlocks", spec := "rootBlocks", apart := false }
def RootBlocksSaid : Prop := rootBlocksRow.holds Try.pinned (OpenSpec.ofChange rootBlocksSpec)

/-- ITS FALSE NEIGHBOUR: 'it returns false'. Refute it at one input. -/
def rootBlocksWrong : ChangeSpec := { name := "rootBlocks", fn := fun _ => fun
  | [d1, d2] => { results := [.lit (.bool false)], args := [d1, d2] }
  | _ => none }
def RootBlocksWrongFalsely : Prop := rootBlocksRow.holds Try.pinned (OpenSpec.ofChange rootBlocksWrong)

/-- 'hibernaclelaw05.RootNewest': WHATEVER THE INPUT: true; the input reads as it did. -/
def rootNewestSpec : ChangeSpec := { name := "rootNewest", fn := fun _ => fun
  | [d1, d2] => { results := [.lit (.bool true)], args := [d1, d2] }
  | _ => none }
def rootNewestRow : OpenClaim := { program := "ytnjlhallkgacjaa", sum := "e6fe4b8df9b7f6bc96c562663d50749f09dbce11d2be41e4ed10a30976f374b8", func := "hibernacle/hibernaclelaw05.RootNewest", spec := "rootNewest", apart := false }
def RootNewestSaid : Prop := rootNewestRow.holds Try.pinned (OpenSpec.ofChange rootNewestSpec)

/-- ITS FALSE NEIGHBOUR: 'it returns false'. Refute it at one input. -/
def rootNewestWrong : ChangeSpec := { name := "rootNewest", fn := fun _ => fun
  | [d1, d2] => { results := [.lit (.bool false)], args := [d1, d2] }
  | _ => none }
def RootNewestWrongFalsely : Prop := rootNewestRow.holds Try.pinned (OpenSpec.ofChange rootNewestWrong)

/-- 'hibernaclelaw05.RootTorn': WHATEVER THE INPUT: true; the input reads as it did. -/
def rootTornSpec : ChangeSpec := { name := "rootTorn", fn := fun _ => fun
  | [d1, d2, d3] => { results := [.lit (.bool true)], args := [d1, d2, d3] }
  | _ => none }
def rootTornRow : OpenClaim := { program := "ytnjlhallkgacjaa", sum := "e6fe4b8df9b7f6bc96c562663d50749f09dbce11d2be41e4ed10a30976f374b8", func := "hibernacle/hibernaclelaw05.RootTorn", spec := "rootTorn", apart := false }
def RootTornSaid : Prop := rootTornRow.holds Try.pinned (OpenSpec.ofChange rootTornSpec)

/-- ITS FALSE NEIGHBOUR: 'it returns false'. Refute it at one input. -/
def rootTornWrong : ChangeSpec := { name := "rootTorn", fn := fun _ => fun
  | [d1, d2, d3] => { results := [.lit (.bool false)], args := [d1, d2, d3] }
  | _ => none }
def RootTornWrongFalsely : Prop := rootTornRow.holds Try.pinned (OpenSpec.ofChange rootTornWrong)

/-- 'hibernaclelaw05.RootHarms': WHATEVER THE INPUT: true; the input reads as it did. -/
def rootHarmsSpec : ChangeSpec := { name := "rootHarms", fn := fun _ => fun
  | [d1, d2, d3] => { results := [.lit (.bool true)], args := [d1, d2, d3] }
  | _ => none }
def rootHarmsRow : OpenClaim := { program := "ytnjlhallkgacjaa", sum := "e6fe4b8df9b7f6bc96c562663d50749f09dbce11d2be41e4ed10a30976f374b8", func := "hibernacle/hibernaclelaw05.RootHarms", spec := "rootHarms", apart := false }
def RootHarmsSaid : Prop := rootHarmsRow.holds Try.pinned (OpenSpec.ofChange rootHarmsSpec)

/-- ITS FALSE NEIGHBOUR: 'it returns false'. Refute it at one input. -/
def rootHarmsWrong : ChangeSpec := { name := "rootHarms", fn := fun _ => fun
  | [d1, d2, d3] => { results := [.lit (.bool false)], args := [d1, d2, d3] }
  | _ => none }
def RootHarmsWrongFalsely : Prop := rootHarmsRow.holds Try.pinned (OpenSpec.ofChange rootHarmsWrong)

/-- 'hibernaclelaw05.RootStores': WHATEVER THE INPUT: true; the input reads as it did. -/
def rootStoresSpec : ChangeSpec := { name := "rootStores", fn := fun _ => fun
  | [d1, d2, d3] => { results := [.lit (.bool true)], args := [d1, d2, d3] }
  | _ => none }
def rootStoresRow : OpenClaim := { program := "ytnjlhallkgacjaa", sum := "e6fe4b8df9b7f6bc96c562663d50749f09dbce11d2be41e4ed10a30976f374b8", func := "hibernacle/hibernaclelaw05.RootStores", spec := "rootStores", apart := false }
def RootStoresSaid : Prop := rootStoresRow.holds Try.pinned (OpenSpec.ofChange rootStoresSpec)

/-- ITS FALSE NEIGHBOUR: 'it returns false'. Refute it at one input. -/
def rootStoresWrong : ChangeSpec := { name := "rootStores", fn := fun _ => fun
  | [d1, d2, d3] => { results := [.lit (.bool false)], args := [d1, d2, d3] }
  | _ => none }
def RootStoresWrongFalsely : Prop := rootStoresRow.holds Try.pinned (OpenSpec.ofChange rootStoresWrong)

/- THE SECOND FORM. 'bulk': how many values and letters a reading holds, each counted each time it is reached (what is shared counts as often as it is met; a slice's spare places count too). A statement '..UptoSaid' is the law's where the arguments, and the package variables that the reading takes, are together of bulk at most 1048576: NARROWER than '..Said'. Prove '..Said' where nothing that the law and all that it calls make is longer than what came in: it says more and counts as full. Else prove '..UptoSaid'. A law counts once. -/
mutual
def uptoBulk {H : Type} : DataW H → Nat
  | .lit (.string bytes) => bytes.length + 1
  | .lit _ => 1
  | .nil => 1
  | .ptr d => uptoBulk d + 1
  | .slice elems spare => uptoBulkAll elems + uptoBulkAll spare + 1
  | .agg parts => uptoBulkAll parts + 1
  | .iface _ d => uptoBulk d + 1
  | .map entries => uptoBulkEntries entries + 1
  | .held _ => 1
def uptoBulkAll {H : Type} : List (DataW H) → Nat
  | [] => 0
  | d :: r => uptoBulk d + uptoBulkAll r
def uptoBulkEntries {H : Type} : List (Lit × DataW H) → Nat
  | [] => 0
  | x :: r => uptoBulkEntry x + uptoBulkEntries r
def uptoBulkEntry {H : Type} : Lit × DataW H → Nat
  | (.string bytes, d) => bytes.length + uptoBulk d + 1
  | (_, d) => uptoBulk d + 1
 end
def uptoSmall : (H : Type) → List (DataW H) → Bool := fun _ ds => decide (uptoBulkAll ds ≤ 1048576)
def OpenSpec.upto (s : _root_.Go.ChangeSpec) : _root_.Go.OpenSpec := { _root_.Go.OpenSpec.ofChange s with cond := some uptoSmall }

/-- 'hibernaclelaw05.RootBlocks', WHERE WHAT IT READS IS OF BULK AT MOST 1048576: true; the input reads as it did. -/
def rootBlocksUptoRow : OpenClaim := { program := "ytnjlhallkgacjaa", sum := "e6fe4b8df9b7f6bc96c562663d50749f09dbce11d2be41e4ed10a30976f374b8", func := "hibernacle/hibernaclelaw05.RootBlocks", spec := "rootBlocks", apart := false, narrowed := true }
def RootBlocksUptoSaid : Prop := rootBlocksUptoRow.holds Try.pinned (OpenSpec.upto rootBlocksSpec)

/-- 'hibernaclelaw05.RootNewest', WHERE WHAT IT READS IS OF BULK AT MOST 1048576: true; the input reads as it did. -/
def rootNewestUptoRow : OpenClaim := { program := "ytnjlhallkgacjaa", sum := "e6fe4b8df9b7f6bc96c562663d50749f09dbce11d2be41e4ed10a30976f374b8", func := "hibernacle/hibernaclelaw05.RootNewest", spec := "rootNewest", apart := false, narrowed := true }
def RootNewestUptoSaid : Prop := rootNewestUptoRow.holds Try.pinned (OpenSpec.upto rootNewestSpec)

/-- 'hibernaclelaw05.RootTorn', WHERE WHAT IT READS IS OF BULK AT MOST 1048576: true; the input reads as it did. -/
def rootTornUptoRow : OpenClaim := { program := "ytnjlhallkgacjaa", sum := "e6fe4b8df9b7f6bc96c562663d50749f09dbce11d2be41e4ed10a30976f374b8", func := "hibernacle/hibernaclelaw05.RootTorn", spec := "rootTorn", apart := false, narrowed := true }
def RootTornUptoSaid : Prop := rootTornUptoRow.holds Try.pinned (OpenSpec.upto rootTornSpec)

/-- 'hibernaclelaw05.RootHarms', WHERE WHAT IT READS IS OF BULK AT MOST 1048576: true; the input reads as it did. -/
def rootHarmsUptoRow : OpenClaim := { program := "ytnjlhallkgacjaa", sum := "e6fe4b8df9b7f6bc96c562663d50749f09dbce11d2be41e4ed10a30976f374b8", func := "hibernacle/hibernaclelaw05.RootHarms", spec := "rootHarms", apart := false, narrowed := true }
def RootHarmsUptoSaid : Prop := rootHarmsUptoRow.holds Try.pinned (OpenSpec.upto rootHarmsSpec)

/-- 'hibernaclelaw05.RootStores', WHERE WHAT IT READS IS OF BULK AT MOST 1048576: true; the input reads as it did. -/
def rootStoresUptoRow : OpenClaim := { program := "ytnjlhallkgacjaa", sum := "e6fe4b8df9b7f6bc96c562663d50749f09dbce11d2be41e4ed10a30976f374b8", func := "hibernacle/hibernaclelaw05.RootStores", spec := "rootStores", apart := false, narrowed := true }
def RootStoresUptoSaid : Prop := rootStoresUptoRow.holds Try.pinned (OpenSpec.upto rootStoresSpec)

end Rows
end Go.Proofs.Ytnjlhallkgacjaa
