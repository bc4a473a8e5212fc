/-
  NARROWER THAN 'FOR EVERY INPUT', by the rows' own cells (each row's printed sentence says how): RangesTell: laid · RangesPart: laid · RangesSame: laid · RangesFull: laid · PathsPath: laid · PathsCheck: laid · PathsBack: laid · PathsOther: laid.
  DERIVED. THE GIVEN ROWS OF THIS SEAT. 8 by the template 'for every input the law returns true; each argument reads behind the call as it read before'; 0 by the template 'total and deterministic' (their statements: YtfakimbneenfdaaDoorTotals.lean).
  GIVEN WITH THE SEED: the statements are not yours to turn. If you find one false, say at which input.
  Laid BY PROGRAM, IN A SANDBOX (cutbox-rows.mjs): the forced cells as the released guide's own fill.sh prints them over the translation 5024cf806423d909… (all of the seat's roots in one cut). By AI agents, Wed Nov 11 2026. No macro, syntax, notation, axiom, sorry.
-/
import Derived.Test.YtfakimbneenfdaaDoorChecked
import GoSem.Claim
import GoSem.ClaimJoined
import GoSem.ClaimMapViews
import Derived.JoinedTies
import Derived.KernelRfl
namespace Go.Proofs.YtfakimbneenfdaaDoor
/- THE CELL 'sum', in the pinned program and in every row, IS THE sha256 OF THE DUMP (.gsa) THAT YtfakimbneenfdaaDoorProg.lean LOADS. Nothing in Lean hashes anything: it is a label: what it is worth is what the hold of that sum in a sandbox is worth. -/
noncomputable def Tryd.pinned : Pinned := { name := "ytfakimbneenfdaadoor", sum := "5024cf806423d90976314de6dcebe5def27a33db96fd59c32362b448bb36c4b4", checked := Tryd.checked }
namespace Rows
def none {H : Type} : Left H := { results := [], args := [] }

/- WHAT THE LISTED PACKAGE-LEVEL VARIABLES READ AS WHEN THE CALL BEGINS. Each datum BY PROGRAM (the guide's laid-datum.mjs) off the statement by which the dump's own 'gosem.cut.vars' lays the variable. In a bare row this is a premise. The card (YtfakimbneenfdaaDoorCards.lean) ties it to the program's text. -/
def laid_speculum_sha_start {H : Type} : DataW H := .agg [.lit (.int .u32 1779033703), .lit (.int .u32 3144134277), .lit (.int .u32 1013904242), .lit (.int .u32 2773480762), .lit (.int .u32 1359893119), .lit (.int .u32 2600822924), .lit (.int .u32 528734635), .lit (.int .u32 1541459225)]
def laid_speculum_sha_rounds {H : Type} : DataW H := .agg [.lit (.int .u32 1116352408), .lit (.int .u32 1899447441), .lit (.int .u32 3049323471), .lit (.int .u32 3921009573), .lit (.int .u32 961987163), .lit (.int .u32 1508970993), .lit (.int .u32 2453635748), .lit (.int .u32 2870763221), .lit (.int .u32 3624381080), .lit (.int .u32 310598401), .lit (.int .u32 607225278), .lit (.int .u32 1426881987), .lit (.int .u32 1925078388), .lit (.int .u32 2162078206), .lit (.int .u32 2614888103), .lit (.int .u32 3248222580), .lit (.int .u32 3835390401), .lit (.int .u32 4022224774), .lit (.int .u32 264347078), .lit (.int .u32 604807628), .lit (.int .u32 770255983), .lit (.int .u32 1249150122), .lit (.int .u32 1555081692), .lit (.int .u32 1996064986), .lit (.int .u32 2554220882), .lit (.int .u32 2821834349), .lit (.int .u32 2952996808), .lit (.int .u32 3210313671), .lit (.int .u32 3336571891), .lit (.int .u32 3584528711), .lit (.int .u32 113926993), .lit (.int .u32 338241895), .lit (.int .u32 666307205), .lit (.int .u32 773529912), .lit (.int .u32 1294757372), .lit (.int .u32 1396182291), .lit (.int .u32 1695183700), .lit (.int .u32 1986661051), .lit (.int .u32 2177026350), .lit (.int .u32 2456956037), .lit (.int .u32 2730485921), .lit (.int .u32 2820302411), .lit (.int .u32 3259730800), .lit (.int .u32 3345764771), .lit (.int .u32 3516065817), .lit (.int .u32 3600352804), .lit (.int .u32 4094571909), .lit (.int .u32 275423344), .lit (.int .u32 430227734), .lit (.int .u32 506948616), .lit (.int .u32 659060556), .lit (.int .u32 883997877), .lit (.int .u32 958139571), .lit (.int .u32 1322822218), .lit (.int .u32 1537002063), .lit (.int .u32 1747873779), .lit (.int .u32 1955562222), .lit (.int .u32 2024104815), .lit (.int .u32 2227730452), .lit (.int .u32 2361852424), .lit (.int .u32 2428436474), .lit (.int .u32 2756734187), .lit (.int .u32 3204031479), .lit (.int .u32 3329325298)]

/-- 'speculumlaw05.RangesTell': WHATEVER THE INPUT: true; the input reads as it did. -/
def rangesTellSpec : ChangeSpec := { name := "rangesTell", fn := fun _ => fun
  | [d1, d2, d3] => { results := [.lit (.bool true)], args := [d1, d2, d3] }
  | _ => none }
def rangesTellRow : OpenClaim := { program := "ytfakimbneenfdaadoor", sum := "5024cf806423d90976314de6dcebe5def27a33db96fd59c32362b448bb36c4b4", func := "speculum/speculumlaw05.RangesTell", spec := "rangesTell", inPlace := ["internal/abi.NoEscape", "internal/bytealg.MakeNoZero"], unfollowed := true, recurses := true, named := ["speculum/sha.start", "speculum/sha.rounds"], apart := false, laid := [("speculum/sha.start", laid_speculum_sha_start), ("speculum/sha.rounds", laid_speculum_sha_rounds)] }
def RangesTellSaid : Prop := rangesTellRow.holds Tryd.pinned (OpenSpec.ofChange rangesTellSpec)

/-- ITS FALSE NEIGHBOUR: 'it returns false'. Refute it at one input. -/
def rangesTellWrong : ChangeSpec := { name := "rangesTell", fn := fun _ => fun
  | [d1, d2, d3] => { results := [.lit (.bool false)], args := [d1, d2, d3] }
  | _ => none }
def RangesTellWrongFalsely : Prop := rangesTellRow.holds Tryd.pinned (OpenSpec.ofChange rangesTellWrong)

/-- 'speculumlaw05.RangesPart': WHATEVER THE INPUT: true; the input reads as it did. -/
def rangesPartSpec : ChangeSpec := { name := "rangesPart", fn := fun _ => fun
  | [d1, d2, d3] => { results := [.lit (.bool true)], args := [d1, d2, d3] }
  | _ => none }
def rangesPartRow : OpenClaim := { program := "ytfakimbneenfdaadoor", sum := "5024cf806423d90976314de6dcebe5def27a33db96fd59c32362b448bb36c4b4", func := "speculum/speculumlaw05.RangesPart", spec := "rangesPart", inPlace := ["internal/abi.NoEscape", "internal/bytealg.MakeNoZero"], unfollowed := true, recurses := true, named := ["speculum/sha.start", "speculum/sha.rounds"], apart := false, laid := [("speculum/sha.start", laid_speculum_sha_start), ("speculum/sha.rounds", laid_speculum_sha_rounds)] }
def RangesPartSaid : Prop := rangesPartRow.holds Tryd.pinned (OpenSpec.ofChange rangesPartSpec)

/-- ITS FALSE NEIGHBOUR: 'it returns false'. Refute it at one input. -/
def rangesPartWrong : ChangeSpec := { name := "rangesPart", fn := fun _ => fun
  | [d1, d2, d3] => { results := [.lit (.bool false)], args := [d1, d2, d3] }
  | _ => none }
def RangesPartWrongFalsely : Prop := rangesPartRow.holds Tryd.pinned (OpenSpec.ofChange rangesPartWrong)

/-- 'speculumlaw05.RangesSame': WHATEVER THE INPUT: true; the input reads as it did. -/
def rangesSameSpec : ChangeSpec := { name := "rangesSame", fn := fun _ => fun
  | [d1, d2] => { results := [.lit (.bool true)], args := [d1, d2] }
  | _ => none }
def rangesSameRow : OpenClaim := { program := "ytfakimbneenfdaadoor", sum := "5024cf806423d90976314de6dcebe5def27a33db96fd59c32362b448bb36c4b4", func := "speculum/speculumlaw05.RangesSame", spec := "rangesSame", inPlace := ["internal/abi.NoEscape", "internal/bytealg.MakeNoZero"], unfollowed := true, recurses := true, named := ["speculum/sha.start", "speculum/sha.rounds"], apart := false, laid := [("speculum/sha.start", laid_speculum_sha_start), ("speculum/sha.rounds", laid_speculum_sha_rounds)] }
def RangesSameSaid : Prop := rangesSameRow.holds Tryd.pinned (OpenSpec.ofChange rangesSameSpec)

/-- ITS FALSE NEIGHBOUR: 'it returns false'. Refute it at one input. -/
def rangesSameWrong : ChangeSpec := { name := "rangesSame", fn := fun _ => fun
  | [d1, d2] => { results := [.lit (.bool false)], args := [d1, d2] }
  | _ => none }
def RangesSameWrongFalsely : Prop := rangesSameRow.holds Tryd.pinned (OpenSpec.ofChange rangesSameWrong)

/-- 'speculumlaw05.RangesFull': WHATEVER THE INPUT: true; the input reads as it did. -/
def rangesFullSpec : ChangeSpec := { name := "rangesFull", fn := fun _ => fun
  | [d1, d2] => { results := [.lit (.bool true)], args := [d1, d2] }
  | _ => none }
def rangesFullRow : OpenClaim := { program := "ytfakimbneenfdaadoor", sum := "5024cf806423d90976314de6dcebe5def27a33db96fd59c32362b448bb36c4b4", func := "speculum/speculumlaw05.RangesFull", spec := "rangesFull", inPlace := ["internal/abi.NoEscape", "internal/bytealg.MakeNoZero"], unfollowed := true, recurses := true, named := ["speculum/sha.start", "speculum/sha.rounds"], apart := false, laid := [("speculum/sha.start", laid_speculum_sha_start), ("speculum/sha.rounds", laid_speculum_sha_rounds)] }
def RangesFullSaid : Prop := rangesFullRow.holds Tryd.pinned (OpenSpec.ofChange rangesFullSpec)

/-- ITS FALSE NEIGHBOUR: 'it returns false'. Refute it at one input. -/
def rangesFullWrong : ChangeSpec := { name := "rangesFull", fn := fun _ => fun
  | [d1, d2] => { results := [.lit (.bool false)], args := [d1, d2] }
  | _ => none }
def RangesFullWrongFalsely : Prop := rangesFullRow.holds Tryd.pinned (OpenSpec.ofChange rangesFullWrong)

/-- 'speculumlaw06.PathsPath': WHATEVER THE INPUT: true; the input reads as it did. -/
def pathsPathSpec : ChangeSpec := { name := "pathsPath", fn := fun _ => fun
  | [d1, d2] => { results := [.lit (.bool true)], args := [d1, d2] }
  | _ => none }
def pathsPathRow : OpenClaim := { program := "ytfakimbneenfdaadoor", sum := "5024cf806423d90976314de6dcebe5def27a33db96fd59c32362b448bb36c4b4", func := "speculum/speculumlaw06.PathsPath", spec := "pathsPath", inPlace := ["internal/abi.NoEscape", "internal/bytealg.MakeNoZero"], unfollowed := true, recurses := true, named := ["speculum/sha.start", "speculum/sha.rounds"], apart := false, laid := [("speculum/sha.start", laid_speculum_sha_start), ("speculum/sha.rounds", laid_speculum_sha_rounds)] }
def PathsPathSaid : Prop := pathsPathRow.holds Tryd.pinned (OpenSpec.ofChange pathsPathSpec)

/-- ITS FALSE NEIGHBOUR: 'it returns false'. Refute it at one input. -/
def pathsPathWrong : ChangeSpec := { name := "pathsPath", fn := fun _ => fun
  | [d1, d2] => { results := [.lit (.bool false)], args := [d1, d2] }
  | _ => none }
def PathsPathWrongFalsely : Prop := pathsPathRow.holds Tryd.pinned (OpenSpec.ofChange pathsPathWrong)

/-- 'speculumlaw06.PathsCheck': WHATEVER THE INPUT: true; the input reads as it did. -/
def pathsCheckSpec : ChangeSpec := { name := "pathsCheck", fn := fun _ => fun
  | [d1, d2, d3] => { results := [.lit (.bool true)], args := [d1, d2, d3] }
  | _ => none }
def pathsCheckRow : OpenClaim := { program := "ytfakimbneenfdaadoor", sum := "5024cf806423d90976314de6dcebe5def27a33db96fd59c32362b448bb36c4b4", func := "speculum/speculumlaw06.PathsCheck", spec := "pathsCheck", inPlace := ["internal/abi.NoEscape", "internal/bytealg.MakeNoZero"], unfollowed := true, recurses := true, named := ["speculum/sha.start", "speculum/sha.rounds"], apart := false, laid := [("speculum/sha.start", laid_speculum_sha_start), ("speculum/sha.rounds", laid_speculum_sha_rounds)] }
def PathsCheckSaid : Prop := pathsCheckRow.holds Tryd.pinned (OpenSpec.ofChange pathsCheckSpec)

/-- ITS FALSE NEIGHBOUR: 'it returns false'. Refute it at one input. -/
def pathsCheckWrong : ChangeSpec := { name := "pathsCheck", fn := fun _ => fun
  | [d1, d2, d3] => { results := [.lit (.bool false)], args := [d1, d2, d3] }
  | _ => none }
def PathsCheckWrongFalsely : Prop := pathsCheckRow.holds Tryd.pinned (OpenSpec.ofChange pathsCheckWrong)

/-- 'speculumlaw06.PathsBack': WHATEVER THE INPUT: true; the input reads as it did. -/
def pathsBackSpec : ChangeSpec := { name := "pathsBack", fn := fun _ => fun
  | [d1, d2] => { results := [.lit (.bool true)], args := [d1, d2] }
  | _ => none }
def pathsBackRow : OpenClaim := { program := "ytfakimbneenfdaadoor", sum := "5024cf806423d90976314de6dcebe5def27a33db96fd59c32362b448bb36c4b4", func := "speculum/speculumlaw06.PathsBack", spec := "pathsBack", inPlace := ["internal/abi.NoEscape", "internal/bytealg.MakeNoZero"], unfollowed := true, recurses := true, named := ["speculum/sha.start", "speculum/sha.rounds"], apart := false, laid := [("speculum/sha.start", laid_speculum_sha_start), ("speculum/sha.rounds", laid_speculum_sha_rounds)] }
def PathsBackSaid : Prop := pathsBackRow.holds Tryd.pinned (OpenSpec.ofChange pathsBackSpec)

/-- ITS FALSE NEIGHBOUR: 'it returns false'. Refute it at one input. -/
def pathsBackWrong : ChangeSpec := { name := "pathsBack", fn := fun _ => fun
  | [d1, d2] => { results := [.lit (.bool false)], args := [d1, d2] }
  | _ => none }
def PathsBackWrongFalsely : Prop := pathsBackRow.holds Tryd.pinned (OpenSpec.ofChange pathsBackWrong)

/-- 'speculumlaw06.PathsOther': WHATEVER THE INPUT: true; the input reads as it did. -/
def pathsOtherSpec : ChangeSpec := { name := "pathsOther", fn := fun _ => fun
  | [d1, d2, d3] => { results := [.lit (.bool true)], args := [d1, d2, d3] }
  | _ => none }
def pathsOtherRow : OpenClaim := { program := "ytfakimbneenfdaadoor", sum := "5024cf806423d90976314de6dcebe5def27a33db96fd59c32362b448bb36c4b4", func := "speculum/speculumlaw06.PathsOther", spec := "pathsOther", inPlace := ["internal/abi.NoEscape", "internal/bytealg.MakeNoZero"], unfollowed := true, recurses := true, named := ["speculum/sha.start", "speculum/sha.rounds"], apart := false, laid := [("speculum/sha.start", laid_speculum_sha_start), ("speculum/sha.rounds", laid_speculum_sha_rounds)] }
def PathsOtherSaid : Prop := pathsOtherRow.holds Tryd.pinned (OpenSpec.ofChange pathsOtherSpec)

/-- ITS FALSE NEIGHBOUR: 'it returns false'. Refute it at one input. -/
def pathsOtherWrong : ChangeSpec := { name := "pathsOther", fn := fun _ => fun
  | [d1, d2, d3] => { results := [.lit (.bool false)], args := [d1, d2, d3] }
  | _ => none }
def PathsOtherWrongFalsely : Prop := pathsOtherRow.holds Tryd.pinned (OpenSpec.ofChange pathsOtherWrong)

/- THE SECOND FORM. 'bulk': how many values and letters a reading holds, each counted each time it is reached (what is shared counts as often as it is met; a slice's spare places count too). A statement '..UptoSaid' is the law's where the arguments, and the package variables that the reading takes, are together of bulk at most 1048576: NARROWER than '..Said'. Prove '..Said' where nothing that the law and all that it calls make is longer than what came in: it says more and counts as full. Else prove '..UptoSaid'. A law counts once. -/
mutual
def uptoBulk {H : Type} : DataW H → Nat
  | .lit (.string bytes) => bytes.length + 1
  | .lit _ => 1
  | .nil => 1
  | .ptr d => uptoBulk d + 1
  | .slice elems spare => uptoBulkAll elems + uptoBulkAll spare + 1
  | .agg parts => uptoBulkAll parts + 1
  | .iface _ d => uptoBulk d + 1
  | .map entries => uptoBulkEntries entries + 1
  | .held _ => 1
def uptoBulkAll {H : Type} : List (DataW H) → Nat
  | [] => 0
  | d :: r => uptoBulk d + uptoBulkAll r
def uptoBulkEntries {H : Type} : List (Lit × DataW H) → Nat
  | [] => 0
  | x :: r => uptoBulkEntry x + uptoBulkEntries r
def uptoBulkEntry {H : Type} : Lit × DataW H → Nat
  | (.string bytes, d) => bytes.length + uptoBulk d + 1
  | (_, d) => uptoBulk d + 1
 end
def uptoSmall : (H : Type) → List (DataW H) → Bool := fun _ ds => decide (uptoBulkAll ds ≤ 1048576)
def OpenSpec.upto (s : _root_.Go.ChangeSpec) : _root_.Go.OpenSpec := { _root_.Go.OpenSpec.ofChange s with cond := some uptoSmall }

/-- 'speculumlaw05.RangesTell', WHERE WHAT IT READS IS OF BULK AT MOST 1048576: true; the input reads as it did. -/
def rangesTellUptoRow : OpenClaim := { program := "ytfakimbneenfdaadoor", sum := "5024cf806423d90976314de6dcebe5def27a33db96fd59c32362b448bb36c4b4", func := "speculum/speculumlaw05.RangesTell", spec := "rangesTell", inPlace := ["internal/abi.NoEscape", "internal/bytealg.MakeNoZero"], unfollowed := true, recurses := true, named := ["speculum/sha.start", "speculum/sha.rounds"], apart := false, laid := [("speculum/sha.start", laid_speculum_sha_start), ("speculum/sha.rounds", laid_speculum_sha_rounds)], narrowed := true }
def RangesTellUptoSaid : Prop := rangesTellUptoRow.holds Tryd.pinned (OpenSpec.upto rangesTellSpec)

/-- 'speculumlaw05.RangesPart', WHERE WHAT IT READS IS OF BULK AT MOST 1048576: true; the input reads as it did. -/
def rangesPartUptoRow : OpenClaim := { program := "ytfakimbneenfdaadoor", sum := "5024cf806423d90976314de6dcebe5def27a33db96fd59c32362b448bb36c4b4", func := "speculum/speculumlaw05.RangesPart", spec := "rangesPart", inPlace := ["internal/abi.NoEscape", "internal/bytealg.MakeNoZero"], unfollowed := true, recurses := true, named := ["speculum/sha.start", "speculum/sha.rounds"], apart := false, laid := [("speculum/sha.start", laid_speculum_sha_start), ("speculum/sha.rounds", laid_speculum_sha_rounds)], narrowed := true }
def RangesPartUptoSaid : Prop := rangesPartUptoRow.holds Tryd.pinned (OpenSpec.upto rangesPartSpec)

/-- 'speculumlaw05.RangesSame', WHERE WHAT IT READS IS OF BULK AT MOST 1048576: true; the input reads as it did. -/
def rangesSameUptoRow : OpenClaim := { program := "ytfakimbneenfdaadoor", sum := "5024cf806423d90976314de6dcebe5def27a33db96fd59c32362b448bb36c4b4", func := "speculum/speculumlaw05.RangesSame", spec := "rangesSame", inPlace := ["internal/abi.NoEscape", "internal/bytealg.MakeNoZero"], unfollowed := true, recurses := true, named := ["speculum/sha.start", "speculum/sha.rounds"], apart := false, laid := [("speculum/sha.start", laid_speculum_sha_start), ("speculum/sha.rounds", laid_speculum_sha_rounds)], narrowed := true }
def RangesSameUptoSaid : Prop := rangesSameUptoRow.holds Tryd.pinned (OpenSpec.upto rangesSameSpec)

/-- 'speculumlaw05.RangesFull', WHERE WHAT IT READS IS OF BULK AT MOST 1048576: true; the input reads as it did. -/
def rangesFullUptoRow : OpenClaim := { program := "ytfakimbneenfdaadoor", sum := "5024cf806423d90976314de6dcebe5def27a33db96fd59c32362b448bb36c4b4", func := "speculum/speculumlaw05.RangesFull", spec := "rangesFull", inPlace := ["internal/abi.NoEscape", "internal/bytealg.MakeNoZero"], unfollowed := true, recurses := true, named := ["speculum/sha.start", "speculum/sha.rounds"], apart := false, laid := [("speculum/sha.start", laid_speculum_sha_start), ("speculum/sha.rounds", laid_speculum_sha_rounds)], narrowed := true }
def RangesFullUptoSaid : Prop := rangesFullUptoRow.holds Tryd.pinned (OpenSpec.upto rangesFullSpec)

/-- 'speculumlaw06.PathsPath', WHERE WHAT IT READS IS OF BULK AT MOST 1048576: true; the input reads as it did. -/
def pathsPathUptoRow : OpenClaim := { program := "ytfakimbneenfdaadoor", sum := "5024cf806423d90976314de6dcebe5def27a33db96fd59c32362b448bb36c4b4", func := "speculum/speculumlaw06.PathsPath", spec := "pathsPath", inPlace := ["internal/abi.NoEscape", "internal/bytealg.MakeNoZero"], unfollowed := true, recurses := true, named := ["speculum/sha.start", "speculum/sha.rounds"], apart := false, laid := [("speculum/sha.start", laid_speculum_sha_start), ("speculum/sha.rounds", laid_speculum_sha_rounds)], narrowed := true }
def PathsPathUptoSaid : Prop := pathsPathUptoRow.holds Tryd.pinned (OpenSpec.upto pathsPathSpec)

/-- 'speculumlaw06.PathsCheck', WHERE WHAT IT READS IS OF BULK AT MOST 1048576: true; the input reads as it did. -/
def pathsCheckUptoRow : OpenClaim := { program := "ytfakimbneenfdaadoor", sum := "5024cf806423d90976314de6dcebe5def27a33db96fd59c32362b448bb36c4b4", func := "speculum/speculumlaw06.PathsCheck", spec := "pathsCheck", inPlace := ["internal/abi.NoEscape", "internal/bytealg.MakeNoZero"], unfollowed := true, recurses := true, named := ["speculum/sha.start", "speculum/sha.rounds"], apart := false, laid := [("speculum/sha.start", laid_speculum_sha_start), ("speculum/sha.rounds", laid_speculum_sha_rounds)], narrowed := true }
def PathsCheckUptoSaid : Prop := pathsCheckUptoRow.holds Tryd.pinned (OpenSpec.upto pathsCheckSpec)

/-- 'speculumlaw06.PathsBack', WHERE WHAT IT READS IS OF BULK AT MOST 1048576: true; the input reads as it did. -/
def pathsBackUptoRow : OpenClaim := { program := "ytfakimbneenfdaadoor", sum := "5024cf806423d90976314de6dcebe5def27a33db96fd59c32362b448bb36c4b4", func := "speculum/speculumlaw06.PathsBack", spec := "pathsBack", inPlace := ["internal/abi.NoEscape", "internal/bytealg.MakeNoZero"], unfollowed := true, recurses := true, named := ["speculum/sha.start", "speculum/sha.rounds"], apart := false, laid := [("speculum/sha.start", laid_speculum_sha_start), ("speculum/sha.rounds", laid_speculum_sha_rounds)], narrowed := true }
def PathsBackUptoSaid : Prop := pathsBackUptoRow.holds Tryd.pinned (OpenSpec.upto pathsBackSpec)

/-- 'speculumlaw06.PathsOther', WHERE WHAT IT READS IS OF BULK AT MOST 1048576: true; the input reads as it did. -/
def pathsOtherUptoRow : OpenClaim := { program := "ytfakimbneenfdaadoor", sum := "5024cf806423d90976314de6dcebe5def27a33db96fd59c32362b448bb36c4b4", func := "speculum/speculumlaw06.PathsOther", spec := "pathsOther", inPlace := ["internal/abi.NoEscape", "internal/bytealg.MakeNoZero"], unfollowed := true, recurses := true, named := ["speculum/sha.start", "speculum/sha.rounds"], apart := false, laid := [("speculum/sha.start", laid_speculum_sha_start), ("speculum/sha.rounds", laid_speculum_sha_rounds)], narrowed := true }
def PathsOtherUptoSaid : Prop := pathsOtherUptoRow.holds Tryd.pinned (OpenSpec.upto pathsOtherSpec)

end Rows
end Go.Proofs.YtfakimbneenfdaaDoor
