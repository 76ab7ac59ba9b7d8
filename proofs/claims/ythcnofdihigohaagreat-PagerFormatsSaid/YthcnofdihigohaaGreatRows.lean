/-
  No cell of these rows narrows 'for every input' (looked for: loops, veiled, ifaces, maps, wideKeys, modest, calm, conditions, laid).
  DERIVED. THE GIVEN ROWS OF THIS SEAT. 5 by the template 'for every input the law returns true; each argument reads behind the call as it read before'; 0 by the template 'total and deterministic' (their statements: YthcnofdihigohaaGreatTotals.lean).
  GIVEN WITH THE SEED: the statements are not yours to turn. If you find one false, say at which input.
  Laid BY PROGRAM, IN A SANDBOX (cutbox-rows.mjs): the forced cells as the released guide's own fill.sh prints them over the translation ca4a8562c792a2f1… (all of the seat's roots in one cut). By AI agents, Wed Nov 11 2026. No macro, syntax, notation, axiom, sorry.
-/
import Derived.Test.YthcnofdihigohaaGreatChecked
import GoSem.Claim
import GoSem.ClaimJoined
import GoSem.ClaimMapViews
import Derived.JoinedTies
import Derived.KernelRfl
namespace Go.Proofs.YthcnofdihigohaaGreat
/- THE CELL 'sum', in the pinned program and in every row, IS THE sha256 OF THE DUMP (.gsa) THAT YthcnofdihigohaaGreatProg.lean LOADS. Nothing in Lean hashes anything: it is a label: what it is worth is what the hold of that sum in a sandbox is worth. -/
noncomputable def Tryz.pinned : Pinned := { name := "ythcnofdihigohaagreat", sum := "ca4a8562c792a2f193f65355079828f4496a26dc2f718c2b62ff7039d5ba03fc", checked := Tryz.checked }
namespace Rows
def none {H : Type} : Left H := { results := [], args := [] }

/-- 'hibernaclelaw08.PagerPlays': WHATEVER THE INPUT: true; the input reads as it did. -/
def pagerPlaysSpec : ChangeSpec := { name := "pagerPlays", fn := fun _ => fun
  | [d1, d2] => { results := [.lit (.bool true)], args := [d1, d2] }
  | _ => none }
def pagerPlaysRow : OpenClaim := { program := "ythcnofdihigohaagreat", sum := "ca4a8562c792a2f193f65355079828f4496a26dc2f718c2b62ff7039d5ba03fc", func := "hibernacle/hibernaclelaw08.PagerPlays", spec := "pagerPlays", unfollowed := true, recurses := true, apart := false }
def PagerPlaysSaid : Prop := pagerPlaysRow.holds Tryz.pinned (OpenSpec.ofChange pagerPlaysSpec)

/-- ITS FALSE NEIGHBOUR: 'it returns false'. Refute it at one input. -/
def pagerPlaysWrong : ChangeSpec := { name := "pagerPlays", fn := fun _ => fun
  | [d1, d2] => { results := [.lit (.bool false)], args := [d1, d2] }
  | _ => none }
def PagerPlaysWrongFalsely : Prop := pagerPlaysRow.holds Tryz.pinned (OpenSpec.ofChange pagerPlaysWrong)

/-- 'hibernaclelaw08.PagerTorn': WHATEVER THE INPUT: true; the input reads as it did. -/
def pagerTornSpec : ChangeSpec := { name := "pagerTorn", fn := fun _ => fun
  | [d1, d2, d3] => { results := [.lit (.bool true)], args := [d1, d2, d3] }
  | _ => none }
def pagerTornRow : OpenClaim := { program := "ythcnofdihigohaagreat", sum := "ca4a8562c792a2f193f65355079828f4496a26dc2f718c2b62ff7039d5ba03fc", func := "hibernacle/hibernaclelaw08.PagerTorn", spec := "pagerTorn", unfollowed := true, recurses := true, apart := false }
def PagerTornSaid : Prop := pagerTornRow.holds Tryz.pinned (OpenSpec.ofChange pagerTornSpec)

/-- ITS FALSE NEIGHBOUR: 'it returns false'. Refute it at one input. -/
def pagerTornWrong : ChangeSpec := { name := "pagerTorn", fn := fun _ => fun
  | [d1, d2, d3] => { results := [.lit (.bool false)], args := [d1, d2, d3] }
  | _ => none }
def PagerTornWrongFalsely : Prop := pagerTornRow.holds Tryz.pinned (OpenSpec.ofChange pagerTornWrong)

/-- 'hibernaclelaw08.PagerHeld': WHATEVER THE INPUT: true; the input reads as it did. -/
def pagerHeldSpec : ChangeSpec := { name := "pagerHeld", fn := fun _ => fun
  | [d1, d2] => { results := [.lit (.bool true)], args := [d1, d2] }
  | _ => none }
def pagerHeldRow : OpenClaim := { program := "ythcnofdihigohaagreat", sum := "ca4a8562c792a2f193f65355079828f4496a26dc2f718c2b62ff7039d5ba03fc", func := "hibernacle/hibernaclelaw08.PagerHeld", spec := "pagerHeld", unfollowed := true, recurses := true, apart := false }
def PagerHeldSaid : Prop := pagerHeldRow.holds Tryz.pinned (OpenSpec.ofChange pagerHeldSpec)

/-- ITS FALSE NEIGHBOUR: 'it returns false'. Refute it at one input. -/
def pagerHeldWrong : ChangeSpec := { name := "pagerHeld", fn := fun _ => fun
  | [d1, d2] => { results := [.lit (.bool false)], args := [d1, d2] }
  | _ => none }
def PagerHeldWrongFalsely : Prop := pagerHeldRow.holds Tryz.pinned (OpenSpec.ofChange pagerHeldWrong)

/-- 'hibernaclelaw08.PagerKeeps': WHATEVER THE INPUT: true; the input reads as it did. -/
def pagerKeepsSpec : ChangeSpec := { name := "pagerKeeps", fn := fun _ => fun
  | [d1, d2, d3] => { results := [.lit (.bool true)], args := [d1, d2, d3] }
  | _ => none }
def pagerKeepsRow : OpenClaim := { program := "ythcnofdihigohaagreat", sum := "ca4a8562c792a2f193f65355079828f4496a26dc2f718c2b62ff7039d5ba03fc", func := "hibernacle/hibernaclelaw08.PagerKeeps", spec := "pagerKeeps", unfollowed := true, recurses := true, apart := false }
def PagerKeepsSaid : Prop := pagerKeepsRow.holds Tryz.pinned (OpenSpec.ofChange pagerKeepsSpec)

/-- ITS FALSE NEIGHBOUR: 'it returns false'. Refute it at one input. -/
def pagerKeepsWrong : ChangeSpec := { name := "pagerKeeps", fn := fun _ => fun
  | [d1, d2, d3] => { results := [.lit (.bool false)], args := [d1, d2, d3] }
  | _ => none }
def PagerKeepsWrongFalsely : Prop := pagerKeepsRow.holds Tryz.pinned (OpenSpec.ofChange pagerKeepsWrong)

/-- 'hibernaclelaw08.PagerFormats': WHATEVER THE INPUT: true; the input reads as it did. -/
def pagerFormatsSpec : ChangeSpec := { name := "pagerFormats", fn := fun _ => fun
  | [d1, d2, d3] => { results := [.lit (.bool true)], args := [d1, d2, d3] }
  | _ => none }
def pagerFormatsRow : OpenClaim := { program := "ythcnofdihigohaagreat", sum := "ca4a8562c792a2f193f65355079828f4496a26dc2f718c2b62ff7039d5ba03fc", func := "hibernacle/hibernaclelaw08.PagerFormats", spec := "pagerFormats", unfollowed := true, recurses := true, apart := false }
def PagerFormatsSaid : Prop := pagerFormatsRow.holds Tryz.pinned (OpenSpec.ofChange pagerFormatsSpec)

/-- ITS FALSE NEIGHBOUR: 'it returns false'. Refute it at one input. -/
def pagerFormatsWrong : ChangeSpec := { name := "pagerFormats", fn := fun _ => fun
  | [d1, d2, d3] => { results := [.lit (.bool false)], args := [d1, d2, d3] }
  | _ => none }
def PagerFormatsWrongFalsely : Prop := pagerFormatsRow.holds Tryz.pinned (OpenSpec.ofChange pagerFormatsWrong)

/- THE SECOND FORM. 'bulk': how many values and letters a reading holds, each counted each time it is reached (what is shared counts as often as it is met; a slice's spare places count too). A statement '..UptoSaid' is the law's where the arguments, and the package variables that the reading takes, are together of bulk at most 1048576: NARROWER than '..Said'. Prove '..Said' where nothing that the law and all that it calls make is longer than what came in: it says more and counts as full. Else prove '..UptoSaid'. A law counts once. -/
mutual
def uptoBulk {H : Type} : DataW H → Nat
  | .lit (.string bytes) => bytes.length + 1
  | .lit _ => 1
  | .nil => 1
  | .ptr d => uptoBulk d + 1
  | .slice elems spare => uptoBulkAll elems + uptoBulkAll spare + 1
  | .agg parts => uptoBulkAll parts + 1
  | .iface _ d => uptoBulk d + 1
  | .map entries => uptoBulkEntries entries + 1
  | .held _ => 1
def uptoBulkAll {H : Type} : List (DataW H) → Nat
  | [] => 0
  | d :: r => uptoBulk d + uptoBulkAll r
def uptoBulkEntries {H : Type} : List (Lit × DataW H) → Nat
  | [] => 0
  | x :: r => uptoBulkEntry x + uptoBulkEntries r
def uptoBulkEntry {H : Type} : Lit × DataW H → Nat
  | (.string bytes, d) => bytes.length + uptoBulk d + 1
  | (_, d) => uptoBulk d + 1
 end
def uptoSmall : (H : Type) → List (DataW H) → Bool := fun _ ds => decide (uptoBulkAll ds ≤ 1048576)
def OpenSpec.upto (s : _root_.Go.ChangeSpec) : _root_.Go.OpenSpec := { _root_.Go.OpenSpec.ofChange s with cond := some uptoSmall }

/-- 'hibernaclelaw08.PagerPlays', WHERE WHAT IT READS IS OF BULK AT MOST 1048576: true; the input reads as it did. -/
def pagerPlaysUptoRow : OpenClaim := { program := "ythcnofdihigohaagreat", sum := "ca4a8562c792a2f193f65355079828f4496a26dc2f718c2b62ff7039d5ba03fc", func := "hibernacle/hibernaclelaw08.PagerPlays", spec := "pagerPlays", unfollowed := true, recurses := true, apart := false, narrowed := true }
def PagerPlaysUptoSaid : Prop := pagerPlaysUptoRow.holds Tryz.pinned (OpenSpec.upto pagerPlaysSpec)

/-- 'hibernaclelaw08.PagerTorn', WHERE WHAT IT READS IS OF BULK AT MOST 1048576: true; the input reads as it did. -/
def pagerTornUptoRow : OpenClaim := { program := "ythcnofdihigohaagreat", sum := "ca4a8562c792a2f193f65355079828f4496a26dc2f718c2b62ff7039d5ba03fc", func := "hibernacle/hibernaclelaw08.PagerTorn", spec := "pagerTorn", unfollowed := true, recurses := true, apart := false, narrowed := true }
def PagerTornUptoSaid : Prop := pagerTornUptoRow.holds Tryz.pinned (OpenSpec.upto pagerTornSpec)

/-- 'hibernaclelaw08.PagerHeld', WHERE WHAT IT READS IS OF BULK AT MOST 1048576: true; the input reads as it did. -/
def pagerHeldUptoRow : OpenClaim := { program := "ythcnofdihigohaagreat", sum := "ca4a8562c792a2f193f65355079828f4496a26dc2f718c2b62ff7039d5ba03fc", func := "hibernacle/hibernaclelaw08.PagerHeld", spec := "pagerHeld", unfollowed := true, recurses := true, apart := false, narrowed := true }
def PagerHeldUptoSaid : Prop := pagerHeldUptoRow.holds Tryz.pinned (OpenSpec.upto pagerHeldSpec)

/-- 'hibernaclelaw08.PagerKeeps', WHERE WHAT IT READS IS OF BULK AT MOST 1048576: true; the input reads as it did. -/
def pagerKeepsUptoRow : OpenClaim := { program := "ythcnofdihigohaagreat", sum := "ca4a8562c792a2f193f65355079828f4496a26dc2f718c2b62ff7039d5ba03fc", func := "hibernacle/hibernaclelaw08.PagerKeeps", spec := "pagerKeeps", unfollowed := true, recurses := true, apart := false, narrowed := true }
def PagerKeepsUptoSaid : Prop := pagerKeepsUptoRow.holds Tryz.pinned (OpenSpec.upto pagerKeepsSpec)

/-- 'hibernaclelaw08.PagerFormats', WHERE WHAT IT READS IS OF BULK AT MOST 1048576: true; the input reads as it did. -/
def pagerFormatsUptoRow : OpenClaim := { program := "ythcnofdihigohaagreat", sum := "ca4a8562c792a2f193f65355079828f4496a26dc2f718c2b62ff7039d5ba03fc", func := "hibernacle/hibernaclelaw08.PagerFormats", spec := "pagerFormats", unfollowed := true, recurses := true, apart := false, narrowed := true }
def PagerFormatsUptoSaid : Prop := pagerFormatsUptoRow.holds Tryz.pinned (OpenSpec.upto pagerFormatsSpec)

end Rows
end Go.Proofs.YthcnofdihigohaaGreat
