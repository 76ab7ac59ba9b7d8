/-
  NARROWER THAN 'FOR EVERY INPUT', by the rows' own cells (each row's printed sentence says how): ReadGoes: laid · ReadBrackets: laid · ReadNils: laid.
  DERIVED. THE GIVEN ROWS OF THIS SEAT. 3 by the template 'for every input the law returns true; each argument reads behind the call as it read before'; 0 by the template 'total and deterministic' (their statements: YthjjgpepgbfalaaGreatDoorTotals.lean).
  GIVEN WITH THE SEED: the statements are not yours to turn. If you find one false, say at which input.
  Laid BY PROGRAM, IN A SANDBOX (cutbox-rows.mjs): the forced cells as the released guide's own fill.sh prints them over the translation a2960b3f78124cb4… (all of the seat's roots in one cut). By AI agents, Wed Nov 11 2026. No macro, syntax, notation, axiom, sorry.
-/
import Derived.Test.YthjjgpepgbfalaaGreatDoorChecked
import GoSem.PinnedTables
import GoSem.Claim
import GoSem.ClaimJoined
import GoSem.ClaimMapViews
import Derived.JoinedTies
import Derived.KernelRfl
namespace Go.Proofs.YthjjgpepgbfalaaGreatDoor
/- THE CELL 'sum', in the pinned program and in every row, IS THE sha256 OF THE DUMP (.gsa) THAT YthjjgpepgbfalaaGreatDoorProg.lean LOADS. Nothing in Lean hashes anything: it is a label: what it is worth is what the hold of that sum in a sandbox is worth. -/
noncomputable def Tryz.pinned : Pinned := { name := "ythjjgpepgbfalaagreatdoor", sum := "a2960b3f78124cb4d616e3ba4ea718fb385daed7a66d24cce9124a38c547da14", checked := Tryz.checked }
namespace Rows
def none {H : Type} : Left H := { results := [], args := [] }

/- WHAT THE LISTED PACKAGE-LEVEL VARIABLES READ AS WHEN THE CALL BEGINS. Each datum BY PROGRAM (the guide's laid-datum.mjs) off the statement by which the dump's own 'gosem.cut.vars' lays the variable. In a bare row this is a premise. The card (YthjjgpepgbfalaaGreatDoorCards.lean) ties it to the program's text. -/
def laid_unicode_utf8_acceptRanges {H : Type} : DataW H := .agg [.agg [.lit (.int .u8 128), .lit (.int .u8 191)], .agg [.lit (.int .u8 160), .lit (.int .u8 191)], .agg [.lit (.int .u8 128), .lit (.int .u8 159)], .agg [.lit (.int .u8 144), .lit (.int .u8 191)], .agg [.lit (.int .u8 128), .lit (.int .u8 143)], .agg [.lit (.int .u8 0), .lit (.int .u8 0)], .agg [.lit (.int .u8 0), .lit (.int .u8 0)], .agg [.lit (.int .u8 0), .lit (.int .u8 0)], .agg [.lit (.int .u8 0), .lit (.int .u8 0)], .agg [.lit (.int .u8 0), .lit (.int .u8 0)], .agg [.lit (.int .u8 0), .lit (.int .u8 0)], .agg [.lit (.int .u8 0), .lit (.int .u8 0)], .agg [.lit (.int .u8 0), .lit (.int .u8 0)], .agg [.lit (.int .u8 0), .lit (.int .u8 0)], .agg [.lit (.int .u8 0), .lit (.int .u8 0)], .agg [.lit (.int .u8 0), .lit (.int .u8 0)]]
def laid_hibernacle_lex_marks {H : Type} : DataW H := .agg [.lit (.string [40]), .lit (.string [41]), .lit (.string [35, 40]), .lit (.string [35, 117, 56, 40]), .lit (.string [39]), .lit (.string [96]), .lit (.string [44]), .lit (.string [44, 64]), .lit (.string [35, 59])]
def laid_hibernacle_lex_names {H : Type} : DataW H := .agg [.agg [.lit (.string [110, 117, 108]), .lit (.int .i64 0)], .agg [.lit (.string [115, 112, 97, 99, 101]), .lit (.int .i64 32)], .agg [.lit (.string [110, 101, 119, 108, 105, 110, 101]), .lit (.int .i64 10)], .agg [.lit (.string [116, 97, 98]), .lit (.int .i64 9)], .agg [.lit (.string [114, 101, 116, 117, 114, 110]), .lit (.int .i64 13)], .agg [.lit (.string [101, 115, 99, 97, 112, 101]), .lit (.int .i64 27)], .agg [.lit (.string [100, 101, 108, 101, 116, 101]), .lit (.int .i64 127)], .agg [.lit (.string [97, 108, 97, 114, 109]), .lit (.int .i64 7)], .agg [.lit (.string [98, 97, 99, 107, 115, 112, 97, 99, 101]), .lit (.int .i64 8)]]
/-- One of Go's own tables, pinned by name: the form's constant. -/
def laid_unicode_utf8_first : DataW Unit := Go.Pinned.utf8First

/-- 'hibernaclelaw17.ReadGoes': WHATEVER THE INPUT: true; the input reads as it did. -/
def readGoesSpec : ChangeSpec := { name := "readGoes", fn := fun _ => fun
  | [d1, d2] => { results := [.lit (.bool true)], args := [d1, d2] }
  | _ => none }
def readGoesRow : OpenClaim := { program := "ythjjgpepgbfalaagreatdoor", sum := "a2960b3f78124cb4d616e3ba4ea718fb385daed7a66d24cce9124a38c547da14", func := "hibernacle/hibernaclelaw17.ReadGoes", spec := "readGoes", inPlace := ["internal/bytealg.IndexByteString", "internal/bytealg.IndexString", "internal/abi.NoEscape", "maps.clone"], unfollowed := true, recurses := true, named := ["internal/bytealg.MaxLen", "hibernacle/lex.marks", "unicode/utf8.first", "unicode/utf8.acceptRanges", "hibernacle/lex.names"], plainKeys := false, apart := false, laid := [("unicode/utf8.acceptRanges", laid_unicode_utf8_acceptRanges), ("hibernacle/lex.marks", laid_hibernacle_lex_marks), ("hibernacle/lex.names", laid_hibernacle_lex_names), ("unicode/utf8.first", laid_unicode_utf8_first)] }
def ReadGoesSaid : Prop := readGoesRow.holds Tryz.pinned (OpenSpec.ofChange readGoesSpec)

/-- ITS FALSE NEIGHBOUR: 'it returns false'. Refute it at one input. -/
def readGoesWrong : ChangeSpec := { name := "readGoes", fn := fun _ => fun
  | [d1, d2] => { results := [.lit (.bool false)], args := [d1, d2] }
  | _ => none }
def ReadGoesWrongFalsely : Prop := readGoesRow.holds Tryz.pinned (OpenSpec.ofChange readGoesWrong)

/-- 'hibernaclelaw17.ReadBrackets': WHATEVER THE INPUT: true; the input reads as it did. -/
def readBracketsSpec : ChangeSpec := { name := "readBrackets", fn := fun _ => fun
  | [d1, d2] => { results := [.lit (.bool true)], args := [d1, d2] }
  | _ => none }
def readBracketsRow : OpenClaim := { program := "ythjjgpepgbfalaagreatdoor", sum := "a2960b3f78124cb4d616e3ba4ea718fb385daed7a66d24cce9124a38c547da14", func := "hibernacle/hibernaclelaw17.ReadBrackets", spec := "readBrackets", inPlace := ["internal/bytealg.IndexByteString", "internal/bytealg.IndexString", "internal/abi.NoEscape", "maps.clone"], unfollowed := true, recurses := true, named := ["internal/bytealg.MaxLen", "hibernacle/lex.marks", "unicode/utf8.first", "unicode/utf8.acceptRanges", "hibernacle/lex.names"], plainKeys := false, apart := false, laid := [("unicode/utf8.acceptRanges", laid_unicode_utf8_acceptRanges), ("hibernacle/lex.marks", laid_hibernacle_lex_marks), ("hibernacle/lex.names", laid_hibernacle_lex_names), ("unicode/utf8.first", laid_unicode_utf8_first)] }
def ReadBracketsSaid : Prop := readBracketsRow.holds Tryz.pinned (OpenSpec.ofChange readBracketsSpec)

/-- ITS FALSE NEIGHBOUR: 'it returns false'. Refute it at one input. -/
def readBracketsWrong : ChangeSpec := { name := "readBrackets", fn := fun _ => fun
  | [d1, d2] => { results := [.lit (.bool false)], args := [d1, d2] }
  | _ => none }
def ReadBracketsWrongFalsely : Prop := readBracketsRow.holds Tryz.pinned (OpenSpec.ofChange readBracketsWrong)

/-- 'hibernaclelaw17.ReadNils': WHATEVER THE INPUT: true; the input reads as it did. -/
def readNilsSpec : ChangeSpec := { name := "readNils", fn := fun _ => fun
  | [d1, d2] => { results := [.lit (.bool true)], args := [d1, d2] }
  | _ => none }
def readNilsRow : OpenClaim := { program := "ythjjgpepgbfalaagreatdoor", sum := "a2960b3f78124cb4d616e3ba4ea718fb385daed7a66d24cce9124a38c547da14", func := "hibernacle/hibernaclelaw17.ReadNils", spec := "readNils", inPlace := ["internal/bytealg.IndexByteString", "internal/bytealg.IndexString", "internal/abi.NoEscape", "maps.clone"], unfollowed := true, recurses := true, named := ["internal/bytealg.MaxLen", "hibernacle/lex.marks", "unicode/utf8.first", "unicode/utf8.acceptRanges", "hibernacle/lex.names"], plainKeys := false, apart := false, laid := [("unicode/utf8.acceptRanges", laid_unicode_utf8_acceptRanges), ("hibernacle/lex.marks", laid_hibernacle_lex_marks), ("hibernacle/lex.names", laid_hibernacle_lex_names), ("unicode/utf8.first", laid_unicode_utf8_first)] }
def ReadNilsSaid : Prop := readNilsRow.holds Tryz.pinned (OpenSpec.ofChange readNilsSpec)

/-- ITS FALSE NEIGHBOUR: 'it returns false'. Refute it at one input. -/
def readNilsWrong : ChangeSpec := { name := "readNils", fn := fun _ => fun
  | [d1, d2] => { results := [.lit (.bool false)], args := [d1, d2] }
  | _ => none }
def ReadNilsWrongFalsely : Prop := readNilsRow.holds Tryz.pinned (OpenSpec.ofChange readNilsWrong)

/- THE SECOND FORM. 'bulk': how many values and letters a reading holds, each counted each time it is reached (what is shared counts as often as it is met; a slice's spare places count too). A statement '..UptoSaid' is the law's where the arguments, and the package variables that the reading takes, are together of bulk at most 1048576: NARROWER than '..Said'. Prove '..Said' where nothing that the law and all that it calls make is longer than what came in: it says more and counts as full. Else prove '..UptoSaid'. A law counts once. -/
mutual
def uptoBulk {H : Type} : DataW H → Nat
  | .lit (.string bytes) => bytes.length + 1
  | .lit _ => 1
  | .nil => 1
  | .ptr d => uptoBulk d + 1
  | .slice elems spare => uptoBulkAll elems + uptoBulkAll spare + 1
  | .agg parts => uptoBulkAll parts + 1
  | .iface _ d => uptoBulk d + 1
  | .map entries => uptoBulkEntries entries + 1
  | .held _ => 1
def uptoBulkAll {H : Type} : List (DataW H) → Nat
  | [] => 0
  | d :: r => uptoBulk d + uptoBulkAll r
def uptoBulkEntries {H : Type} : List (Lit × DataW H) → Nat
  | [] => 0
  | x :: r => uptoBulkEntry x + uptoBulkEntries r
def uptoBulkEntry {H : Type} : Lit × DataW H → Nat
  | (.string bytes, d) => bytes.length + uptoBulk d + 1
  | (_, d) => uptoBulk d + 1
 end
def uptoSmall : (H : Type) → List (DataW H) → Bool := fun _ ds => decide (uptoBulkAll ds ≤ 1048576)
def OpenSpec.upto (s : _root_.Go.ChangeSpec) : _root_.Go.OpenSpec := { _root_.Go.OpenSpec.ofChange s with cond := some uptoSmall }

/-- 'hibernaclelaw17.ReadGoes', WHERE WHAT IT READS IS OF BULK AT MOST 1048576: true; the input reads as it did. -/
def readGoesUptoRow : OpenClaim := { program := "ythjjgpepgbfalaagreatdoor", sum := "a2960b3f78124cb4d616e3ba4ea718fb385daed7a66d24cce9124a38c547da14", func := "hibernacle/hibernaclelaw17.ReadGoes", spec := "readGoes", inPlace := ["internal/bytealg.IndexByteString", "internal/bytealg.IndexString", "internal/abi.NoEscape", "maps.clone"], unfollowed := true, recurses := true, named := ["internal/bytealg.MaxLen", "hibernacle/lex.marks", "unicode/utf8.first", "unicode/utf8.acceptRanges", "hibernacle/lex.names"], plainKeys := false, apart := false, laid := [("unicode/utf8.acceptRanges", laid_unicode_utf8_acceptRanges), ("hibernacle/lex.marks", laid_hibernacle_lex_marks), ("hibernacle/lex.names", laid_hibernacle_lex_names), ("unicode/utf8.first", laid_unicode_utf8_first)], narrowed := true }
def ReadGoesUptoSaid : Prop := readGoesUptoRow.holds Tryz.pinned (OpenSpec.upto readGoesSpec)

/-- 'hibernaclelaw17.ReadBrackets', WHERE WHAT IT READS IS OF BULK AT MOST 1048576: true; the input reads as it did. -/
def readBracketsUptoRow : OpenClaim := { program := "ythjjgpepgbfalaagreatdoor", sum := "a2960b3f78124cb4d616e3ba4ea718fb385daed7a66d24cce9124a38c547da14", func := "hibernacle/hibernaclelaw17.ReadBrackets", spec := "readBrackets", inPlace := ["internal/bytealg.IndexByteString", "internal/bytealg.IndexString", "internal/abi.NoEscape", "maps.clone"], unfollowed := true, recurses := true, named := ["internal/bytealg.MaxLen", "hibernacle/lex.marks", "unicode/utf8.first", "unicode/utf8.acceptRanges", "hibernacle/lex.names"], plainKeys := false, apart := false, laid := [("unicode/utf8.acceptRanges", laid_unicode_utf8_acceptRanges), ("hibernacle/lex.marks", laid_hibernacle_lex_marks), ("hibernacle/lex.names", laid_hibernacle_lex_names), ("unicode/utf8.first", laid_unicode_utf8_first)], narrowed := true }
def ReadBracketsUptoSaid : Prop := readBracketsUptoRow.holds Tryz.pinned (OpenSpec.upto readBracketsSpec)

/-- 'hibernaclelaw17.ReadNils', WHERE WHAT IT READS IS OF BULK AT MOST 1048576: true; the input reads as it did. -/
def readNilsUptoRow : OpenClaim := { program := "ythjjgpepgbfalaagreatdoor", sum := "a2960b3f78124cb4d616e3ba4ea718fb385daed7a66d24cce9124a38c547da14", func := "hibernacle/hibernaclelaw17.ReadNils", spec := "readNils", inPlace := ["internal/bytealg.IndexByteString", "internal/bytealg.IndexString", "internal/abi.NoEscape", "maps.clone"], unfollowed := true, recurses := true, named := ["internal/bytealg.MaxLen", "hibernacle/lex.marks", "unicode/utf8.first", "unicode/utf8.acceptRanges", "hibernacle/lex.names"], plainKeys := false, apart := false, laid := [("unicode/utf8.acceptRanges", laid_unicode_utf8_acceptRanges), ("hibernacle/lex.marks", laid_hibernacle_lex_marks), ("hibernacle/lex.names", laid_hibernacle_lex_names), ("unicode/utf8.first", laid_unicode_utf8_first)], narrowed := true }
def ReadNilsUptoSaid : Prop := readNilsUptoRow.holds Tryz.pinned (OpenSpec.upto readNilsSpec)

end Rows
end Go.Proofs.YthjjgpepgbfalaaGreatDoor
