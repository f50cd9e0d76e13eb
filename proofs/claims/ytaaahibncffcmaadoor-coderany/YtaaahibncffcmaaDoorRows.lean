/-
  NARROWER THAN 'FOR EVERY INPUT', by the rows' own cells (each row's printed sentence says how): MatrixSpread: laid · MatrixAny: laid · CoderEncodes: laid · CoderSums: laid · CoderWrong: laid · CoderAny: laid.
  DERIVED. THE GIVEN ROWS OF THIS SEAT. 6 by the template 'for every input the law returns true; each argument reads behind the call as it read before'; 0 by the template 'total and deterministic' (their statements: YtaaahibncffcmaaDoorTotals.lean).
  GIVEN WITH THE SEED: the statements are not yours to turn. If you find one false, say at which input.
  Laid BY PROGRAM, IN A SANDBOX (cutbox-rows.mjs): the forced cells as the released guide's own fill.sh prints them over the translation cb6e98e5fe81a07f… (all of the seat's roots in one cut). By AI agents, Wed Nov 11 2026. No macro, syntax, notation, axiom, sorry.
-/
import Derived.Test.YtaaahibncffcmaaDoorChecked
import GoSem.Claim
import GoSem.ClaimJoined
import GoSem.ClaimMapViews
import Derived.JoinedTies
import Derived.KernelRfl
namespace Go.Proofs.YtaaahibncffcmaaDoor
/- THE CELL 'sum', in the pinned program and in every row, IS THE sha256 OF THE DUMP (.gsa) THAT YtaaahibncffcmaaDoorProg.lean LOADS. Nothing in Lean hashes anything: it is a label: what it is worth is what the hold of that sum in a sandbox is worth. -/
noncomputable def Tryd.pinned : Pinned := { name := "ytaaahibncffcmaadoor", sum := "cb6e98e5fe81a07f7a32ac3e763f41b268c6f16dd3de4f9086ade0cd4a122532", checked := Tryd.checked }
namespace Rows
def none {H : Type} : Left H := { results := [], args := [] }

/- WHAT THE LISTED PACKAGE-LEVEL VARIABLES READ AS WHEN THE CALL BEGINS. Each datum BY PROGRAM (the guide's laid-datum.mjs) off the statement by which the dump's own 'gosem.cut.vars' lays the variable. In a bare row this is a premise. The card (YtaaahibncffcmaaDoorCards.lean) ties it to the program's text. -/
def laid_errors_errorType {H : Type} : DataW H := .iface "internal/reflectlite.rtype" (.agg [.ptr (.lit (.string [101, 114, 114, 111, 114]))])
def laid_shardkeep_api_ErrText {H : Type} : DataW H := .iface "*errors.errorString" (.ptr (.agg [.lit (.string [115, 104, 97, 114, 100, 107, 101, 101, 112, 58, 32, 116, 101, 120, 116])]))
def laid_shardkeep_api_ErrBound {H : Type} : DataW H := .iface "*errors.errorString" (.ptr (.agg [.lit (.string [115, 104, 97, 114, 100, 107, 101, 101, 112, 58, 32, 98, 111, 117, 110, 100])]))
def laid_shardkeep_api_ErrShape {H : Type} : DataW H := .iface "*errors.errorString" (.ptr (.agg [.lit (.string [115, 104, 97, 114, 100, 107, 101, 101, 112, 58, 32, 115, 104, 97, 112, 101])]))
def laid_shardkeep_api_ErrName {H : Type} : DataW H := .iface "*errors.errorString" (.ptr (.agg [.lit (.string [115, 104, 97, 114, 100, 107, 101, 101, 112, 58, 32, 110, 97, 109, 101])]))
def laid_shardkeep_api_ErrNone {H : Type} : DataW H := .iface "*errors.errorString" (.ptr (.agg [.lit (.string [115, 104, 97, 114, 100, 107, 101, 101, 112, 58, 32, 110, 111, 110, 101])]))
def laid_shardkeep_api_ErrExist {H : Type} : DataW H := .iface "*errors.errorString" (.ptr (.agg [.lit (.string [115, 104, 97, 114, 100, 107, 101, 101, 112, 58, 32, 101, 120, 105, 115, 116])]))
def laid_shardkeep_api_ErrFull {H : Type} : DataW H := .iface "*errors.errorString" (.ptr (.agg [.lit (.string [115, 104, 97, 114, 100, 107, 101, 101, 112, 58, 32, 102, 117, 108, 108])]))
def laid_shardkeep_api_ErrFew {H : Type} : DataW H := .iface "*errors.errorString" (.ptr (.agg [.lit (.string [115, 104, 97, 114, 100, 107, 101, 101, 112, 58, 32, 102, 101, 119])]))
def laid_shardkeep_api_ErrSum {H : Type} : DataW H := .iface "*errors.errorString" (.ptr (.agg [.lit (.string [115, 104, 97, 114, 100, 107, 101, 101, 112, 58, 32, 115, 117, 109])]))
def laid_shardkeep_api_ErrOld {H : Type} : DataW H := .iface "*errors.errorString" (.ptr (.agg [.lit (.string [115, 104, 97, 114, 100, 107, 101, 101, 112, 58, 32, 111, 108, 100])]))
def laid_shardkeep_api_ErrHeld {H : Type} : DataW H := .iface "*errors.errorString" (.ptr (.agg [.lit (.string [115, 104, 97, 114, 100, 107, 101, 101, 112, 58, 32, 104, 101, 108, 100])]))
def laid_shardkeep_api_ErrZero {H : Type} : DataW H := .iface "*errors.errorString" (.ptr (.agg [.lit (.string [115, 104, 97, 114, 100, 107, 101, 101, 112, 58, 32, 122, 101, 114, 111])]))

/-- 'shardkeeplaw1.MatrixSpread': WHATEVER THE INPUT: true; the input reads as it did. -/
def matrixSpreadSpec : ChangeSpec := { name := "matrixSpread", fn := fun _ => fun
  | [d1, d2] => { results := [.lit (.bool true)], args := [d1, d2] }
  | _ => none }
def matrixSpreadRow : OpenClaim := { program := "ytaaahibncffcmaadoor", sum := "cb6e98e5fe81a07f7a32ac3e763f41b268c6f16dd3de4f9086ade0cd4a122532", func := "shardkeep/shardkeeplaw1.MatrixSpread", spec := "matrixSpread", inPlace := ["internal/reflectlite.ValueOf", "(internal/reflectlite.Value).Type", "(internal/reflectlite.Value).IsNil", "internal/reflectlite.TypeOf", "(internal/reflectlite.Value).Elem", "(internal/reflectlite.Value).Set"], unfollowed := true, recurses := true, named := ["shardkeep/api.ErrShape", "shardkeep/api.ErrZero", "shardkeep/api.ErrBound", "shardkeep/api.ErrText", "shardkeep/api.ErrName", "shardkeep/api.ErrNone", "shardkeep/api.ErrExist", "shardkeep/api.ErrFull", "shardkeep/api.ErrFew", "shardkeep/api.ErrSum", "shardkeep/api.ErrOld", "shardkeep/api.ErrHeld", "errors.errorType"], apart := false, laid := [("errors.errorType", laid_errors_errorType), ("shardkeep/api.ErrText", laid_shardkeep_api_ErrText), ("shardkeep/api.ErrBound", laid_shardkeep_api_ErrBound), ("shardkeep/api.ErrShape", laid_shardkeep_api_ErrShape), ("shardkeep/api.ErrName", laid_shardkeep_api_ErrName), ("shardkeep/api.ErrNone", laid_shardkeep_api_ErrNone), ("shardkeep/api.ErrExist", laid_shardkeep_api_ErrExist), ("shardkeep/api.ErrFull", laid_shardkeep_api_ErrFull), ("shardkeep/api.ErrFew", laid_shardkeep_api_ErrFew), ("shardkeep/api.ErrSum", laid_shardkeep_api_ErrSum), ("shardkeep/api.ErrOld", laid_shardkeep_api_ErrOld), ("shardkeep/api.ErrHeld", laid_shardkeep_api_ErrHeld), ("shardkeep/api.ErrZero", laid_shardkeep_api_ErrZero)] }
def MatrixSpreadSaid : Prop := matrixSpreadRow.holds Tryd.pinned (OpenSpec.ofChange matrixSpreadSpec)

/-- ITS FALSE NEIGHBOUR: 'it returns false'. Refute it at one input. -/
def matrixSpreadWrong : ChangeSpec := { name := "matrixSpread", fn := fun _ => fun
  | [d1, d2] => { results := [.lit (.bool false)], args := [d1, d2] }
  | _ => none }
def MatrixSpreadWrongFalsely : Prop := matrixSpreadRow.holds Tryd.pinned (OpenSpec.ofChange matrixSpreadWrong)

/-- 'shardkeeplaw1.MatrixAny': WHATEVER THE INPUT: true; the input reads as it did. -/
def matrixAnySpec : ChangeSpec := { name := "matrixAny", fn := fun _ => fun
  | [d1, d2, d3] => { results := [.lit (.bool true)], args := [d1, d2, d3] }
  | _ => none }
def matrixAnyRow : OpenClaim := { program := "ytaaahibncffcmaadoor", sum := "cb6e98e5fe81a07f7a32ac3e763f41b268c6f16dd3de4f9086ade0cd4a122532", func := "shardkeep/shardkeeplaw1.MatrixAny", spec := "matrixAny", unfollowed := true, recurses := true, named := ["shardkeep/api.ErrShape", "shardkeep/api.ErrZero", "shardkeep/api.ErrBound"], apart := false, laid := [("shardkeep/api.ErrBound", laid_shardkeep_api_ErrBound), ("shardkeep/api.ErrShape", laid_shardkeep_api_ErrShape), ("shardkeep/api.ErrZero", laid_shardkeep_api_ErrZero)] }
def MatrixAnySaid : Prop := matrixAnyRow.holds Tryd.pinned (OpenSpec.ofChange matrixAnySpec)

/-- ITS FALSE NEIGHBOUR: 'it returns false'. Refute it at one input. -/
def matrixAnyWrong : ChangeSpec := { name := "matrixAny", fn := fun _ => fun
  | [d1, d2, d3] => { results := [.lit (.bool false)], args := [d1, d2, d3] }
  | _ => none }
def MatrixAnyWrongFalsely : Prop := matrixAnyRow.holds Tryd.pinned (OpenSpec.ofChange matrixAnyWrong)

/-- 'shardkeeplaw1.CoderEncodes': WHATEVER THE INPUT: true; the input reads as it did. -/
def coderEncodesSpec : ChangeSpec := { name := "coderEncodes", fn := fun _ => fun
  | [d1, d2, d3] => { results := [.lit (.bool true)], args := [d1, d2, d3] }
  | _ => none }
def coderEncodesRow : OpenClaim := { program := "ytaaahibncffcmaadoor", sum := "cb6e98e5fe81a07f7a32ac3e763f41b268c6f16dd3de4f9086ade0cd4a122532", func := "shardkeep/shardkeeplaw1.CoderEncodes", spec := "coderEncodes", inPlace := ["internal/reflectlite.ValueOf", "(internal/reflectlite.Value).Type", "(internal/reflectlite.Value).IsNil", "internal/reflectlite.TypeOf", "(internal/reflectlite.Value).Elem", "(internal/reflectlite.Value).Set"], unfollowed := true, recurses := true, named := ["shardkeep/api.ErrBound", "shardkeep/api.ErrZero", "shardkeep/api.ErrShape", "shardkeep/api.ErrText", "shardkeep/api.ErrName", "shardkeep/api.ErrNone", "shardkeep/api.ErrExist", "shardkeep/api.ErrFull", "shardkeep/api.ErrFew", "shardkeep/api.ErrSum", "shardkeep/api.ErrOld", "shardkeep/api.ErrHeld", "errors.errorType"], apart := false, laid := [("errors.errorType", laid_errors_errorType), ("shardkeep/api.ErrText", laid_shardkeep_api_ErrText), ("shardkeep/api.ErrBound", laid_shardkeep_api_ErrBound), ("shardkeep/api.ErrShape", laid_shardkeep_api_ErrShape), ("shardkeep/api.ErrName", laid_shardkeep_api_ErrName), ("shardkeep/api.ErrNone", laid_shardkeep_api_ErrNone), ("shardkeep/api.ErrExist", laid_shardkeep_api_ErrExist), ("shardkeep/api.ErrFull", laid_shardkeep_api_ErrFull), ("shardkeep/api.ErrFew", laid_shardkeep_api_ErrFew), ("shardkeep/api.ErrSum", laid_shardkeep_api_ErrSum), ("shardkeep/api.ErrOld", laid_shardkeep_api_ErrOld), ("shardkeep/api.ErrHeld", laid_shardkeep_api_ErrHeld), ("shardkeep/api.ErrZero", laid_shardkeep_api_ErrZero)] }
def CoderEncodesSaid : Prop := coderEncodesRow.holds Tryd.pinned (OpenSpec.ofChange coderEncodesSpec)

/-- ITS FALSE NEIGHBOUR: 'it returns false'. Refute it at one input. -/
def coderEncodesWrong : ChangeSpec := { name := "coderEncodes", fn := fun _ => fun
  | [d1, d2, d3] => { results := [.lit (.bool false)], args := [d1, d2, d3] }
  | _ => none }
def CoderEncodesWrongFalsely : Prop := coderEncodesRow.holds Tryd.pinned (OpenSpec.ofChange coderEncodesWrong)

/-- 'shardkeeplaw1.CoderSums': WHATEVER THE INPUT: true; the input reads as it did. -/
def coderSumsSpec : ChangeSpec := { name := "coderSums", fn := fun _ => fun
  | [d1, d2, d3, d4] => { results := [.lit (.bool true)], args := [d1, d2, d3, d4] }
  | _ => none }
def coderSumsRow : OpenClaim := { program := "ytaaahibncffcmaadoor", sum := "cb6e98e5fe81a07f7a32ac3e763f41b268c6f16dd3de4f9086ade0cd4a122532", func := "shardkeep/shardkeeplaw1.CoderSums", spec := "coderSums", unfollowed := true, recurses := true, named := ["shardkeep/api.ErrBound", "shardkeep/api.ErrZero", "shardkeep/api.ErrShape"], apart := false, laid := [("shardkeep/api.ErrBound", laid_shardkeep_api_ErrBound), ("shardkeep/api.ErrShape", laid_shardkeep_api_ErrShape), ("shardkeep/api.ErrZero", laid_shardkeep_api_ErrZero)] }
def CoderSumsSaid : Prop := coderSumsRow.holds Tryd.pinned (OpenSpec.ofChange coderSumsSpec)

/-- ITS FALSE NEIGHBOUR: 'it returns false'. Refute it at one input. -/
def coderSumsWrong : ChangeSpec := { name := "coderSums", fn := fun _ => fun
  | [d1, d2, d3, d4] => { results := [.lit (.bool false)], args := [d1, d2, d3, d4] }
  | _ => none }
def CoderSumsWrongFalsely : Prop := coderSumsRow.holds Tryd.pinned (OpenSpec.ofChange coderSumsWrong)

/-- 'shardkeeplaw1.CoderWrong': WHATEVER THE INPUT: true; the input reads as it did. -/
def coderWrongSpec : ChangeSpec := { name := "coderWrong", fn := fun _ => fun
  | [d1, d2, d3, d4, d5, d6] => { results := [.lit (.bool true)], args := [d1, d2, d3, d4, d5, d6] }
  | _ => none }
def coderWrongRow : OpenClaim := { program := "ytaaahibncffcmaadoor", sum := "cb6e98e5fe81a07f7a32ac3e763f41b268c6f16dd3de4f9086ade0cd4a122532", func := "shardkeep/shardkeeplaw1.CoderWrong", spec := "coderWrong", inPlace := ["internal/abi.NoEscape", "internal/bytealg.MakeNoZero"], unfollowed := true, recurses := true, named := ["shardkeep/api.ErrBound", "shardkeep/api.ErrZero", "shardkeep/api.ErrShape", "shardkeep/api.ErrFew"], apart := false, laid := [("shardkeep/api.ErrBound", laid_shardkeep_api_ErrBound), ("shardkeep/api.ErrShape", laid_shardkeep_api_ErrShape), ("shardkeep/api.ErrFew", laid_shardkeep_api_ErrFew), ("shardkeep/api.ErrZero", laid_shardkeep_api_ErrZero)] }
def CoderWrongSaid : Prop := coderWrongRow.holds Tryd.pinned (OpenSpec.ofChange coderWrongSpec)

/-- ITS FALSE NEIGHBOUR: 'it returns false'. Refute it at one input. -/
def coderWrongWrong : ChangeSpec := { name := "coderWrong", fn := fun _ => fun
  | [d1, d2, d3, d4, d5, d6] => { results := [.lit (.bool false)], args := [d1, d2, d3, d4, d5, d6] }
  | _ => none }
def CoderWrongWrongFalsely : Prop := coderWrongRow.holds Tryd.pinned (OpenSpec.ofChange coderWrongWrong)

/-- 'shardkeeplaw1.CoderAny': WHATEVER THE INPUT: true; the input reads as it did. -/
def coderAnySpec : ChangeSpec := { name := "coderAny", fn := fun _ => fun
  | [d1, d2, d3, d4, d5] => { results := [.lit (.bool true)], args := [d1, d2, d3, d4, d5] }
  | _ => none }
def coderAnyRow : OpenClaim := { program := "ytaaahibncffcmaadoor", sum := "cb6e98e5fe81a07f7a32ac3e763f41b268c6f16dd3de4f9086ade0cd4a122532", func := "shardkeep/shardkeeplaw1.CoderAny", spec := "coderAny", inPlace := ["internal/abi.NoEscape", "internal/bytealg.MakeNoZero"], unfollowed := true, recurses := true, named := ["shardkeep/api.ErrBound", "shardkeep/api.ErrZero", "shardkeep/api.ErrShape", "shardkeep/api.ErrFew"], apart := false, laid := [("shardkeep/api.ErrBound", laid_shardkeep_api_ErrBound), ("shardkeep/api.ErrShape", laid_shardkeep_api_ErrShape), ("shardkeep/api.ErrFew", laid_shardkeep_api_ErrFew), ("shardkeep/api.ErrZero", laid_shardkeep_api_ErrZero)] }
def CoderAnySaid : Prop := coderAnyRow.holds Tryd.pinned (OpenSpec.ofChange coderAnySpec)

/-- ITS FALSE NEIGHBOUR: 'it returns false'. Refute it at one input. -/
def coderAnyWrong : ChangeSpec := { name := "coderAny", fn := fun _ => fun
  | [d1, d2, d3, d4, d5] => { results := [.lit (.bool false)], args := [d1, d2, d3, d4, d5] }
  | _ => none }
def CoderAnyWrongFalsely : Prop := coderAnyRow.holds Tryd.pinned (OpenSpec.ofChange coderAnyWrong)

/- THE SECOND FORM. 'bulk': how many values and letters a reading holds, each counted each time it is reached (what is shared counts as often as it is met; a slice's spare places count too). A statement '..UptoSaid' is the law's where the arguments, and the package variables that the reading takes, are together of bulk at most 1048576: NARROWER than '..Said'. Prove '..Said' where nothing that the law and all that it calls make is longer than what came in: it says more and counts as full. Else prove '..UptoSaid'. A law counts once. -/
mutual
def uptoBulk {H : Type} : DataW H → Nat
  | .lit (.string bytes) => bytes.length + 1
  | .lit _ => 1
  | .nil => 1
  | .ptr d => uptoBulk d + 1
  | .slice elems spare => uptoBulkAll elems + uptoBulkAll spare + 1
  | .agg parts => uptoBulkAll parts + 1
  | .iface _ d => uptoBulk d + 1
  | .map entries => uptoBulkEntries entries + 1
  | .held _ => 1
def uptoBulkAll {H : Type} : List (DataW H) → Nat
  | [] => 0
  | d :: r => uptoBulk d + uptoBulkAll r
def uptoBulkEntries {H : Type} : List (Lit × DataW H) → Nat
  | [] => 0
  | x :: r => uptoBulkEntry x + uptoBulkEntries r
def uptoBulkEntry {H : Type} : Lit × DataW H → Nat
  | (.string bytes, d) => bytes.length + uptoBulk d + 1
  | (_, d) => uptoBulk d + 1
 end
def uptoSmall : (H : Type) → List (DataW H) → Bool := fun _ ds => decide (uptoBulkAll ds ≤ 1048576)
def OpenSpec.upto (s : _root_.Go.ChangeSpec) : _root_.Go.OpenSpec := { _root_.Go.OpenSpec.ofChange s with cond := some uptoSmall }

/-- 'shardkeeplaw1.MatrixSpread', WHERE WHAT IT READS IS OF BULK AT MOST 1048576: true; the input reads as it did. -/
def matrixSpreadUptoRow : OpenClaim := { program := "ytaaahibncffcmaadoor", sum := "cb6e98e5fe81a07f7a32ac3e763f41b268c6f16dd3de4f9086ade0cd4a122532", func := "shardkeep/shardkeeplaw1.MatrixSpread", spec := "matrixSpread", inPlace := ["internal/reflectlite.ValueOf", "(internal/reflectlite.Value).Type", "(internal/reflectlite.Value).IsNil", "internal/reflectlite.TypeOf", "(internal/reflectlite.Value).Elem", "(internal/reflectlite.Value).Set"], unfollowed := true, recurses := true, named := ["shardkeep/api.ErrShape", "shardkeep/api.ErrZero", "shardkeep/api.ErrBound", "shardkeep/api.ErrText", "shardkeep/api.ErrName", "shardkeep/api.ErrNone", "shardkeep/api.ErrExist", "shardkeep/api.ErrFull", "shardkeep/api.ErrFew", "shardkeep/api.ErrSum", "shardkeep/api.ErrOld", "shardkeep/api.ErrHeld", "errors.errorType"], apart := false, laid := [("errors.errorType", laid_errors_errorType), ("shardkeep/api.ErrText", laid_shardkeep_api_ErrText), ("shardkeep/api.ErrBound", laid_shardkeep_api_ErrBound), ("shardkeep/api.ErrShape", laid_shardkeep_api_ErrShape), ("shardkeep/api.ErrName", laid_shardkeep_api_ErrName), ("shardkeep/api.ErrNone", laid_shardkeep_api_ErrNone), ("shardkeep/api.ErrExist", laid_shardkeep_api_ErrExist), ("shardkeep/api.ErrFull", laid_shardkeep_api_ErrFull), ("shardkeep/api.ErrFew", laid_shardkeep_api_ErrFew), ("shardkeep/api.ErrSum", laid_shardkeep_api_ErrSum), ("shardkeep/api.ErrOld", laid_shardkeep_api_ErrOld), ("shardkeep/api.ErrHeld", laid_shardkeep_api_ErrHeld), ("shardkeep/api.ErrZero", laid_shardkeep_api_ErrZero)], narrowed := true }
def MatrixSpreadUptoSaid : Prop := matrixSpreadUptoRow.holds Tryd.pinned (OpenSpec.upto matrixSpreadSpec)

/-- 'shardkeeplaw1.MatrixAny', WHERE WHAT IT READS IS OF BULK AT MOST 1048576: true; the input reads as it did. -/
def matrixAnyUptoRow : OpenClaim := { program := "ytaaahibncffcmaadoor", sum := "cb6e98e5fe81a07f7a32ac3e763f41b268c6f16dd3de4f9086ade0cd4a122532", func := "shardkeep/shardkeeplaw1.MatrixAny", spec := "matrixAny", unfollowed := true, recurses := true, named := ["shardkeep/api.ErrShape", "shardkeep/api.ErrZero", "shardkeep/api.ErrBound"], apart := false, laid := [("shardkeep/api.ErrBound", laid_shardkeep_api_ErrBound), ("shardkeep/api.ErrShape", laid_shardkeep_api_ErrShape), ("shardkeep/api.ErrZero", laid_shardkeep_api_ErrZero)], narrowed := true }
def MatrixAnyUptoSaid : Prop := matrixAnyUptoRow.holds Tryd.pinned (OpenSpec.upto matrixAnySpec)

/-- 'shardkeeplaw1.CoderEncodes', WHERE WHAT IT READS IS OF BULK AT MOST 1048576: true; the input reads as it did. -/
def coderEncodesUptoRow : OpenClaim := { program := "ytaaahibncffcmaadoor", sum := "cb6e98e5fe81a07f7a32ac3e763f41b268c6f16dd3de4f9086ade0cd4a122532", func := "shardkeep/shardkeeplaw1.CoderEncodes", spec := "coderEncodes", inPlace := ["internal/reflectlite.ValueOf", "(internal/reflectlite.Value).Type", "(internal/reflectlite.Value).IsNil", "internal/reflectlite.TypeOf", "(internal/reflectlite.Value).Elem", "(internal/reflectlite.Value).Set"], unfollowed := true, recurses := true, named := ["shardkeep/api.ErrBound", "shardkeep/api.ErrZero", "shardkeep/api.ErrShape", "shardkeep/api.ErrText", "shardkeep/api.ErrName", "shardkeep/api.ErrNone", "shardkeep/api.ErrExist", "shardkeep/api.ErrFull", "shardkeep/api.ErrFew", "shardkeep/api.ErrSum", "shardkeep/api.ErrOld", "shardkeep/api.ErrHeld", "errors.errorType"], apart := false, laid := [("errors.errorType", laid_errors_errorType), ("shardkeep/api.ErrText", laid_shardkeep_api_ErrText), ("shardkeep/api.ErrBound", laid_shardkeep_api_ErrBound), ("shardkeep/api.ErrShape", laid_shardkeep_api_ErrShape), ("shardkeep/api.ErrName", laid_shardkeep_api_ErrName), ("shardkeep/api.ErrNone", laid_shardkeep_api_ErrNone), ("shardkeep/api.ErrExist", laid_shardkeep_api_ErrExist), ("shardkeep/api.ErrFull", laid_shardkeep_api_ErrFull), ("shardkeep/api.ErrFew", laid_shardkeep_api_ErrFew), ("shardkeep/api.ErrSum", laid_shardkeep_api_ErrSum), ("shardkeep/api.ErrOld", laid_shardkeep_api_ErrOld), ("shardkeep/api.ErrHeld", laid_shardkeep_api_ErrHeld), ("shardkeep/api.ErrZero", laid_shardkeep_api_ErrZero)], narrowed := true }
def CoderEncodesUptoSaid : Prop := coderEncodesUptoRow.holds Tryd.pinned (OpenSpec.upto coderEncodesSpec)

/-- 'shardkeeplaw1.CoderSums', WHERE WHAT IT READS IS OF BULK AT MOST 1048576: true; the input reads as it did. -/
def coderSumsUptoRow : OpenClaim := { program := "ytaaahibncffcmaadoor", sum := "cb6e98e5fe81a07f7a32ac3e763f41b268c6f16dd3de4f9086ade0cd4a122532", func := "shardkeep/shardkeeplaw1.CoderSums", spec := "coderSums", unfollowed := true, recurses := true, named := ["shardkeep/api.ErrBound", "shardkeep/api.ErrZero", "shardkeep/api.ErrShape"], apart := false, laid := [("shardkeep/api.ErrBound", laid_shardkeep_api_ErrBound), ("shardkeep/api.ErrShape", laid_shardkeep_api_ErrShape), ("shardkeep/api.ErrZero", laid_shardkeep_api_ErrZero)], narrowed := true }
def CoderSumsUptoSaid : Prop := coderSumsUptoRow.holds Tryd.pinned (OpenSpec.upto coderSumsSpec)

/-- 'shardkeeplaw1.CoderWrong', WHERE WHAT IT READS IS OF BULK AT MOST 1048576: true; the input reads as it did. -/
def coderWrongUptoRow : OpenClaim := { program := "ytaaahibncffcmaadoor", sum := "cb6e98e5fe81a07f7a32ac3e763f41b268c6f16dd3de4f9086ade0cd4a122532", func := "shardkeep/shardkeeplaw1.CoderWrong", spec := "coderWrong", inPlace := ["internal/abi.NoEscape", "internal/bytealg.MakeNoZero"], unfollowed := true, recurses := true, named := ["shardkeep/api.ErrBound", "shardkeep/api.ErrZero", "shardkeep/api.ErrShape", "shardkeep/api.ErrFew"], apart := false, laid := [("shardkeep/api.ErrBound", laid_shardkeep_api_ErrBound), ("shardkeep/api.ErrShape", laid_shardkeep_api_ErrShape), ("shardkeep/api.ErrFew", laid_shardkeep_api_ErrFew), ("shardkeep/api.ErrZero", laid_shardkeep_api_ErrZero)], narrowed := true }
def CoderWrongUptoSaid : Prop := coderWrongUptoRow.holds Tryd.pinned (OpenSpec.upto coderWrongSpec)

/-- 'shardkeeplaw1.CoderAny', WHERE WHAT IT READS IS OF BULK AT MOST 1048576: true; the input reads as it did. -/
def coderAnyUptoRow : OpenClaim := { program := "ytaaahibncffcmaadoor", sum := "cb6e98e5fe81a07f7a32ac3e763f41b268c6f16dd3de4f9086ade0cd4a122532", func := "shardkeep/shardkeeplaw1.CoderAny", spec := "coderAny", inPlace := ["internal/abi.NoEscape", "internal/bytealg.MakeNoZero"], unfollowed := true, recurses := true, named := ["shardkeep/api.ErrBound", "shardkeep/api.ErrZero", "shardkeep/api.ErrShape", "shardkeep/api.ErrFew"], apart := false, laid := [("shardkeep/api.ErrBound", laid_shardkeep_api_ErrBound), ("shardkeep/api.ErrShape", laid_shardkeep_api_ErrShape), ("shardkeep/api.ErrFew", laid_shardkeep_api_ErrFew), ("shardkeep/api.ErrZero", laid_shardkeep_api_ErrZero)], narrowed := true }
def CoderAnyUptoSaid : Prop := coderAnyUptoRow.holds Tryd.pinned (OpenSpec.upto coderAnySpec)

end Rows
end Go.Proofs.YtaaahibncffcmaaDoor
