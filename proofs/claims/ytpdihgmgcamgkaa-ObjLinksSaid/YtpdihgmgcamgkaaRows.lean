/-
  No cell of these rows narrows 'for every input' (looked for: loops, veiled, ifaces, maps, wideKeys, modest, calm, conditions, laid).
  DERIVED. THE GIVEN ROWS OF THIS SEAT. 3 by the template 'for every input the law returns true; each argument reads behind the call as it read before'; 0 by the template 'total and deterministic' (their statements: YtpdihgmgcamgkaaTotals.lean).
  GIVEN WITH THE SEED: the statements are not yours to turn. If you find one false, say at which input.
  Laid BY PROGRAM, IN A SANDBOX (cutbox-rows.mjs): the forced cells as the released guide's own fill.sh prints them over the translation 2fa8a841d8962d75… (all of the seat's roots in one cut). By AI agents, Wed Nov 11 2026. No macro, syntax, notation, axiom, sorry.
-/
import Derived.Test.YtpdihgmgcamgkaaChecked
import GoSem.Claim
import GoSem.ClaimJoined
import GoSem.ClaimMapViews
import Derived.JoinedTies
import Derived.KernelRfl
namespace Go.Proofs.Ytpdihgmgcamgkaa
/- THE CELL 'sum', in the pinned program and in every row, IS THE sha256 OF THE DUMP (.gsa) THAT YtpdihgmgcamgkaaProg.lean LOADS. Nothing in Lean hashes anything: it is a label: what it is worth is what the hold of that sum in a sandbox is worth. -/
noncomputable def Try.pinned : Pinned := { name := "ytpdihgmgcamgkaa", sum := "2fa8a841d8962d7546ba24cde26b3281dd1eec2cfec01021f947199ef6e0c38e", checked := Try.checked }
namespace Rows
def none {H : Type} : Left H := { results := [], args := [] }

/-- 'hibernaclelaw11.ObjWrites': WHATEVER THE INPUT: true; the input reads as it did. -/
def objWritesSpec : ChangeSpec := { name := "objWrites", fn := fun _ => fun
  | [d] => { results := [.lit (.bool true)], args := [d] }
  | _ => none }
def objWritesRow : OpenClaim := { program := "ytpdihgmgcamgkaa", sum := "2fa8a841d8962d7546ba24cde26b3281dd1eec2cfec01021f947199ef6e0c38e", func := "hibernacle/hibernaclelaw11.ObjWrites", spec := "objWrites", unfollowed := true, recurses := true, apart := false }
def ObjWritesSaid : Prop := objWritesRow.holds Try.pinned (OpenSpec.ofChange objWritesSpec)

/-- ITS FALSE NEIGHBOUR: 'it returns false'. Refute it at one input. -/
def objWritesWrong : ChangeSpec := { name := "objWrites", fn := fun _ => fun
  | [d] => { results := [.lit (.bool false)], args := [d] }
  | _ => none }
def ObjWritesWrongFalsely : Prop := objWritesRow.holds Try.pinned (OpenSpec.ofChange objWritesWrong)

/-- 'hibernaclelaw11.ObjCuts': WHATEVER THE INPUT: true; the input reads as it did. -/
def objCutsSpec : ChangeSpec := { name := "objCuts", fn := fun _ => fun
  | [d1, d2, d3] => { results := [.lit (.bool true)], args := [d1, d2, d3] }
  | _ => none }
def objCutsRow : OpenClaim := { program := "ytpdihgmgcamgkaa", sum := "2fa8a841d8962d7546ba24cde26b3281dd1eec2cfec01021f947199ef6e0c38e", func := "hibernacle/hibernaclelaw11.ObjCuts", spec := "objCuts", unfollowed := true, recurses := true, apart := false }
def ObjCutsSaid : Prop := objCutsRow.holds Try.pinned (OpenSpec.ofChange objCutsSpec)

/-- ITS FALSE NEIGHBOUR: 'it returns false'. Refute it at one input. -/
def objCutsWrong : ChangeSpec := { name := "objCuts", fn := fun _ => fun
  | [d1, d2, d3] => { results := [.lit (.bool false)], args := [d1, d2, d3] }
  | _ => none }
def ObjCutsWrongFalsely : Prop := objCutsRow.holds Try.pinned (OpenSpec.ofChange objCutsWrong)

/-- 'hibernaclelaw11.ObjLinks': WHATEVER THE INPUT: true; the input reads as it did. -/
def objLinksSpec : ChangeSpec := { name := "objLinks", fn := fun _ => fun
  | [d1, d2, d3] => { results := [.lit (.bool true)], args := [d1, d2, d3] }
  | _ => none }
def objLinksRow : OpenClaim := { program := "ytpdihgmgcamgkaa", sum := "2fa8a841d8962d7546ba24cde26b3281dd1eec2cfec01021f947199ef6e0c38e", func := "hibernacle/hibernaclelaw11.ObjLinks", spec := "objLinks", unfollowed := true, recurses := true, apart := false }
def ObjLinksSaid : Prop := objLinksRow.holds Try.pinned (OpenSpec.ofChange objLinksSpec)

/-- ITS FALSE NEIGHBOUR: 'it returns false'. Refute it at one input. -/
def objLinksWrong : ChangeSpec := { name := "objLinks", fn := fun _ => fun
  | [d1, d2, d3] => { results := [.lit (.bool false)], args := [d1, d2, d3] }
  | _ => none }
def ObjLinksWrongFalsely : Prop := objLinksRow.holds Try.pinned (OpenSpec.ofChange objLinksWrong)

/- THE SECOND FORM. 'bulk': how many values and letters a reading holds, each counted each time it is reached (what is shared counts as often as it is met; a slice's spare places count too). A statement '..UptoSaid' is the law's where the arguments, and the package variables that the reading takes, are together of bulk at most 1048576: NARROWER than '..Said'. Prove '..Said' where nothing that the law and all that it calls make is longer than what came in: it says more and counts as full. Else prove '..UptoSaid'. A law counts once. -/
mutual
def uptoBulk {H : Type} : DataW H → Nat
  | .lit (.string bytes) => bytes.length + 1
  | .lit _ => 1
  | .nil => 1
  | .ptr d => uptoBulk d + 1
  | .slice elems spare => uptoBulkAll elems + uptoBulkAll spare + 1
  | .agg parts => uptoBulkAll parts + 1
  | .iface _ d => uptoBulk d + 1
  | .map entries => uptoBulkEntries entries + 1
  | .held _ => 1
def uptoBulkAll {H : Type} : List (DataW H) → Nat
  | [] => 0
  | d :: r => uptoBulk d + uptoBulkAll r
def uptoBulkEntries {H : Type} : List (Lit × DataW H) → Nat
  | [] => 0
  | x :: r => uptoBulkEntry x + uptoBulkEntries r
def uptoBulkEntry {H : Type} : Lit × DataW H → Nat
  | (.string bytes, d) => bytes.length + uptoBulk d + 1
  | (_, d) => uptoBulk d + 1
 end
def uptoSmall : (H : Type) → List (DataW H) → Bool := fun _ ds => decide (uptoBulkAll ds ≤ 1048576)
def OpenSpec.upto (s : _root_.Go.ChangeSpec) : _root_.Go.OpenSpec := { _root_.Go.OpenSpec.ofChange s with cond := some uptoSmall }

/-- 'hibernaclelaw11.ObjWrites', WHERE WHAT IT READS IS OF BULK AT MOST 1048576: true; the input reads as it did. -/
def objWritesUptoRow : OpenClaim := { program := "ytpdihgmgcamgkaa", sum := "2fa8a841d8962d7546ba24cde26b3281dd1eec2cfec01021f947199ef6e0c38e", func := "hibernacle/hibernaclelaw11.ObjWrites", spec := "objWrites", unfollowed := true, recurses := true, apart := false, narrowed := true }
def ObjWritesUptoSaid : Prop := objWritesUptoRow.holds Try.pinned (OpenSpec.upto objWritesSpec)

/-- 'hibernaclelaw11.ObjCuts', WHERE WHAT IT READS IS OF BULK AT MOST 1048576: true; the input reads as it did. -/
def objCutsUptoRow : OpenClaim := { program := "ytpdihgmgcamgkaa", sum := "2fa8a841d8962d7546ba24cde26b3281dd1eec2cfec01021f947199ef6e0c38e", func := "hibernacle/hibernaclelaw11.ObjCuts", spec := "objCuts", unfollowed := true, recurses := true, apart := false, narrowed := true }
def ObjCutsUptoSaid : Prop := objCutsUptoRow.holds Try.pinned (OpenSpec.upto objCutsSpec)

/-- 'hibernaclelaw11.ObjLinks', WHERE WHAT IT READS IS OF BULK AT MOST 1048576: true; the input reads as it did. -/
def objLinksUptoRow : OpenClaim := { program := "ytpdihgmgcamgkaa", sum := "2fa8a841d8962d7546ba24cde26b3281dd1eec2cfec01021f947199ef6e0c38e", func := "hibernacle/hibernaclelaw11.ObjLinks", spec := "objLinks", unfollowed := true, recurses := true, apart := false, narrowed := true }
def ObjLinksUptoSaid : Prop := objLinksUptoRow.holds Try.pinned (OpenSpec.upto objLinksSpec)

end Rows
end Go.Proofs.Ytpdihgmgcamgkaa
