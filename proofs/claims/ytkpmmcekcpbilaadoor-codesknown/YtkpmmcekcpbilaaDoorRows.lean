/-
  NARROWER THAN 'FOR EVERY INPUT', by the rows' own cells (each row's printed sentence says how): CodesIsin: laid · CodesLei: laid · CodesForms: laid · CodesKnown: laid · CodesBack: laid.
  DERIVED. THE GIVEN ROWS OF THIS SEAT. 5 by the template 'for every input the law returns true; each argument reads behind the call as it read before'; 0 by the template 'total and deterministic' (their statements: YtkpmmcekcpbilaaDoorTotals.lean).
  GIVEN WITH THE SEED: the statements are not yours to turn. If you find one false, say at which input.
  Laid BY PROGRAM, IN A SANDBOX (cutbox-rows.mjs): the forced cells as the released guide's own fill.sh prints them over the translation da04679b99c6f9f0… (all of the seat's roots in one cut). By AI agents, Wed Nov 11 2026. No macro, syntax, notation, axiom, sorry.
-/
import Derived.Test.YtkpmmcekcpbilaaDoorChecked
import GoSem.Claim
import GoSem.ClaimJoined
import GoSem.ClaimMapViews
import Derived.JoinedTies
import Derived.KernelRfl
namespace Go.Proofs.YtkpmmcekcpbilaaDoor
/- THE CELL 'sum', in the pinned program and in every row, IS THE sha256 OF THE DUMP (.gsa) THAT YtkpmmcekcpbilaaDoorProg.lean LOADS. Nothing in Lean hashes anything: it is a label: what it is worth is what the hold of that sum in a sandbox is worth. -/
noncomputable def Tryd.pinned : Pinned := { name := "ytkpmmcekcpbilaadoor", sum := "da04679b99c6f9f0e8ef05e697cb5f90ca5ce2818bf9263a811d69b4c775096a", checked := Tryd.checked }
namespace Rows
def none {H : Type} : Left H := { results := [], args := [] }

/- WHAT THE LISTED PACKAGE-LEVEL VARIABLES READ AS WHEN THE CALL BEGINS. Each datum BY PROGRAM (the guide's laid-datum.mjs) off the statement by which the dump's own 'gosem.cut.vars' lays the variable. In a bare row this is a premise. The card (YtkpmmcekcpbilaaDoorCards.lean) ties it to the program's text. -/
def laid_errors_errorType {H : Type} : DataW H := .iface "internal/reflectlite.rtype" (.agg [.ptr (.lit (.string [101, 114, 114, 111, 114]))])
def laid_custody_codes_headOffice {H : Type} : DataW H := .agg [.lit (.int .u8 88), .lit (.int .u8 88), .lit (.int .u8 88)]

/-- 'custodylaw02.CodesIsin': WHATEVER THE INPUT: true; the input reads as it did. -/
def codesIsinSpec : ChangeSpec := { name := "codesIsin", fn := fun _ => fun
  | [d] => { results := [.lit (.bool true)], args := [d] }
  | _ => none }
def codesIsinRow : OpenClaim := { program := "ytkpmmcekcpbilaadoor", sum := "da04679b99c6f9f0e8ef05e697cb5f90ca5ce2818bf9263a811d69b4c775096a", func := "custody/custodylaw02.CodesIsin", spec := "codesIsin", inPlace := ["internal/reflectlite.ValueOf", "(internal/reflectlite.Value).Type", "(internal/reflectlite.Value).IsNil", "internal/reflectlite.TypeOf", "(internal/reflectlite.Value).Elem", "(internal/reflectlite.Value).Set"], unfollowed := true, recurses := true, named := ["errors.errorType"], apart := false, laid := [("errors.errorType", laid_errors_errorType)] }
def CodesIsinSaid : Prop := codesIsinRow.holds Tryd.pinned (OpenSpec.ofChange codesIsinSpec)

/-- ITS FALSE NEIGHBOUR: 'it returns false'. Refute it at one input. -/
def codesIsinWrong : ChangeSpec := { name := "codesIsin", fn := fun _ => fun
  | [d] => { results := [.lit (.bool false)], args := [d] }
  | _ => none }
def CodesIsinWrongFalsely : Prop := codesIsinRow.holds Tryd.pinned (OpenSpec.ofChange codesIsinWrong)

/-- 'custodylaw02.CodesLei': WHATEVER THE INPUT: true; the input reads as it did. -/
def codesLeiSpec : ChangeSpec := { name := "codesLei", fn := fun _ => fun
  | [d] => { results := [.lit (.bool true)], args := [d] }
  | _ => none }
def codesLeiRow : OpenClaim := { program := "ytkpmmcekcpbilaadoor", sum := "da04679b99c6f9f0e8ef05e697cb5f90ca5ce2818bf9263a811d69b4c775096a", func := "custody/custodylaw02.CodesLei", spec := "codesLei", inPlace := ["internal/reflectlite.ValueOf", "(internal/reflectlite.Value).Type", "(internal/reflectlite.Value).IsNil", "internal/reflectlite.TypeOf", "(internal/reflectlite.Value).Elem", "(internal/reflectlite.Value).Set"], unfollowed := true, recurses := true, named := ["errors.errorType"], apart := false, laid := [("errors.errorType", laid_errors_errorType)] }
def CodesLeiSaid : Prop := codesLeiRow.holds Tryd.pinned (OpenSpec.ofChange codesLeiSpec)

/-- ITS FALSE NEIGHBOUR: 'it returns false'. Refute it at one input. -/
def codesLeiWrong : ChangeSpec := { name := "codesLei", fn := fun _ => fun
  | [d] => { results := [.lit (.bool false)], args := [d] }
  | _ => none }
def CodesLeiWrongFalsely : Prop := codesLeiRow.holds Tryd.pinned (OpenSpec.ofChange codesLeiWrong)

/-- 'custodylaw02.CodesForms': WHATEVER THE INPUT: true; the input reads as it did. -/
def codesFormsSpec : ChangeSpec := { name := "codesForms", fn := fun _ => fun
  | [d] => { results := [.lit (.bool true)], args := [d] }
  | _ => none }
def codesFormsRow : OpenClaim := { program := "ytkpmmcekcpbilaadoor", sum := "da04679b99c6f9f0e8ef05e697cb5f90ca5ce2818bf9263a811d69b4c775096a", func := "custody/custodylaw02.CodesForms", spec := "codesForms", inPlace := ["internal/reflectlite.ValueOf", "(internal/reflectlite.Value).Type", "(internal/reflectlite.Value).IsNil", "internal/reflectlite.TypeOf", "(internal/reflectlite.Value).Elem", "(internal/reflectlite.Value).Set"], unfollowed := true, recurses := true, named := ["custody/codes.headOffice", "errors.errorType"], apart := false, laid := [("custody/codes.headOffice", laid_custody_codes_headOffice), ("errors.errorType", laid_errors_errorType)] }
def CodesFormsSaid : Prop := codesFormsRow.holds Tryd.pinned (OpenSpec.ofChange codesFormsSpec)

/-- ITS FALSE NEIGHBOUR: 'it returns false'. Refute it at one input. -/
def codesFormsWrong : ChangeSpec := { name := "codesForms", fn := fun _ => fun
  | [d] => { results := [.lit (.bool false)], args := [d] }
  | _ => none }
def CodesFormsWrongFalsely : Prop := codesFormsRow.holds Tryd.pinned (OpenSpec.ofChange codesFormsWrong)

/-- 'custodylaw02.CodesKnown': WHATEVER THE INPUT: true; the input reads as it did. -/
def codesKnownSpec : ChangeSpec := { name := "codesKnown", fn := fun _ => fun
  | [] => { results := [.lit (.bool true)], args := [] }
  | _ => none }
def codesKnownRow : OpenClaim := { program := "ytkpmmcekcpbilaadoor", sum := "da04679b99c6f9f0e8ef05e697cb5f90ca5ce2818bf9263a811d69b4c775096a", func := "custody/custodylaw02.CodesKnown", spec := "codesKnown", inPlace := ["internal/reflectlite.TypeOf", "internal/reflectlite.ValueOf", "(internal/reflectlite.Value).Type", "(internal/reflectlite.Value).IsNil", "(internal/reflectlite.Value).Elem", "(internal/reflectlite.Value).Set"], unfollowed := true, recurses := true, named := ["errors.errorType", "custody/codes.headOffice"], apart := false, laid := [("custody/codes.headOffice", laid_custody_codes_headOffice), ("errors.errorType", laid_errors_errorType)] }
def CodesKnownSaid : Prop := codesKnownRow.holds Tryd.pinned (OpenSpec.ofChange codesKnownSpec)

/-- ITS FALSE NEIGHBOUR: 'it returns false'. Refute it at one input. -/
def codesKnownWrong : ChangeSpec := { name := "codesKnown", fn := fun _ => fun
  | [] => { results := [.lit (.bool false)], args := [] }
  | _ => none }
def CodesKnownWrongFalsely : Prop := codesKnownRow.holds Tryd.pinned (OpenSpec.ofChange codesKnownWrong)

/-- 'custodylaw02.CodesBack': WHATEVER THE INPUT: true; the input reads as it did. -/
def codesBackSpec : ChangeSpec := { name := "codesBack", fn := fun _ => fun
  | [d] => { results := [.lit (.bool true)], args := [d] }
  | _ => none }
def codesBackRow : OpenClaim := { program := "ytkpmmcekcpbilaadoor", sum := "da04679b99c6f9f0e8ef05e697cb5f90ca5ce2818bf9263a811d69b4c775096a", func := "custody/custodylaw02.CodesBack", spec := "codesBack", inPlace := ["internal/reflectlite.TypeOf", "internal/reflectlite.ValueOf", "(internal/reflectlite.Value).Type", "(internal/reflectlite.Value).IsNil", "(internal/reflectlite.Value).Elem", "(internal/reflectlite.Value).Set"], unfollowed := true, recurses := true, named := ["errors.errorType"], apart := false, laid := [("errors.errorType", laid_errors_errorType)] }
def CodesBackSaid : Prop := codesBackRow.holds Tryd.pinned (OpenSpec.ofChange codesBackSpec)

/-- ITS FALSE NEIGHBOUR: 'it returns false'. Refute it at one input. -/
def codesBackWrong : ChangeSpec := { name := "codesBack", fn := fun _ => fun
  | [d] => { results := [.lit (.bool false)], args := [d] }
  | _ => none }
def CodesBackWrongFalsely : Prop := codesBackRow.holds Tryd.pinned (OpenSpec.ofChange codesBackWrong)

/- THE SECOND FORM. 'bulk': how many values and letters a reading holds, each counted each time it is reached (what is shared counts as often as it is met; a slice's spare places count too). A statement '..UptoSaid' is the law's where the arguments, and the package variables that the reading takes, are together of bulk at most 1048576: NARROWER than '..Said'. Prove '..Said' where nothing that the law and all that it calls make is longer than what came in: it says more and counts as full. Else prove '..UptoSaid'. A law counts once. -/
mutual
def uptoBulk {H : Type} : DataW H → Nat
  | .lit (.string bytes) => bytes.length + 1
  | .lit _ => 1
  | .nil => 1
  | .ptr d => uptoBulk d + 1
  | .slice elems spare => uptoBulkAll elems + uptoBulkAll spare + 1
  | .agg parts => uptoBulkAll parts + 1
  | .iface _ d => uptoBulk d + 1
  | .map entries => uptoBulkEntries entries + 1
  | .held _ => 1
def uptoBulkAll {H : Type} : List (DataW H) → Nat
  | [] => 0
  | d :: r => uptoBulk d + uptoBulkAll r
def uptoBulkEntries {H : Type} : List (Lit × DataW H) → Nat
  | [] => 0
  | x :: r => uptoBulkEntry x + uptoBulkEntries r
def uptoBulkEntry {H : Type} : Lit × DataW H → Nat
  | (.string bytes, d) => bytes.length + uptoBulk d + 1
  | (_, d) => uptoBulk d + 1
 end
def uptoSmall : (H : Type) → List (DataW H) → Bool := fun _ ds => decide (uptoBulkAll ds ≤ 1048576)
def OpenSpec.upto (s : _root_.Go.ChangeSpec) : _root_.Go.OpenSpec := { _root_.Go.OpenSpec.ofChange s with cond := some uptoSmall }

/-- 'custodylaw02.CodesIsin', WHERE WHAT IT READS IS OF BULK AT MOST 1048576: true; the input reads as it did. -/
def codesIsinUptoRow : OpenClaim := { program := "ytkpmmcekcpbilaadoor", sum := "da04679b99c6f9f0e8ef05e697cb5f90ca5ce2818bf9263a811d69b4c775096a", func := "custody/custodylaw02.CodesIsin", spec := "codesIsin", inPlace := ["internal/reflectlite.ValueOf", "(internal/reflectlite.Value).Type", "(internal/reflectlite.Value).IsNil", "internal/reflectlite.TypeOf", "(internal/reflectlite.Value).Elem", "(internal/reflectlite.Value).Set"], unfollowed := true, recurses := true, named := ["errors.errorType"], apart := false, laid := [("errors.errorType", laid_errors_errorType)], narrowed := true }
def CodesIsinUptoSaid : Prop := codesIsinUptoRow.holds Tryd.pinned (OpenSpec.upto codesIsinSpec)

/-- 'custodylaw02.CodesLei', WHERE WHAT IT READS IS OF BULK AT MOST 1048576: true; the input reads as it did. -/
def codesLeiUptoRow : OpenClaim := { program := "ytkpmmcekcpbilaadoor", sum := "da04679b99c6f9f0e8ef05e697cb5f90ca5ce2818bf9263a811d69b4c775096a", func := "custody/custodylaw02.CodesLei", spec := "codesLei", inPlace := ["internal/reflectlite.ValueOf", "(internal/reflectlite.Value).Type", "(internal/reflectlite.Value).IsNil", "internal/reflectlite.TypeOf", "(internal/reflectlite.Value).Elem", "(internal/reflectlite.Value).Set"], unfollowed := true, recurses := true, named := ["errors.errorType"], apart := false, laid := [("errors.errorType", laid_errors_errorType)], narrowed := true }
def CodesLeiUptoSaid : Prop := codesLeiUptoRow.holds Tryd.pinned (OpenSpec.upto codesLeiSpec)

/-- 'custodylaw02.CodesForms', WHERE WHAT IT READS IS OF BULK AT MOST 1048576: true; the input reads as it did. -/
def codesFormsUptoRow : OpenClaim := { program := "ytkpmmcekcpbilaadoor", sum := "da04679b99c6f9f0e8ef05e697cb5f90ca5ce2818bf9263a811d69b4c775096a", func := "custody/custodylaw02.CodesForms", spec := "codesForms", inPlace := ["internal/reflectlite.ValueOf", "(internal/reflectlite.Value).Type", "(internal/reflectlite.Value).IsNil", "internal/reflectlite.TypeOf", "(internal/reflectlite.Value).Elem", "(internal/reflectlite.Value).Set"], unfollowed := true, recurses := true, named := ["custody/codes.headOffice", "errors.errorType"], apart := false, laid := [("custody/codes.headOffice", laid_custody_codes_headOffice), ("errors.errorType", laid_errors_errorType)], narrowed := true }
def CodesFormsUptoSaid : Prop := codesFormsUptoRow.holds Tryd.pinned (OpenSpec.upto codesFormsSpec)

/-- 'custodylaw02.CodesKnown', WHERE WHAT IT READS IS OF BULK AT MOST 1048576: true; the input reads as it did. -/
def codesKnownUptoRow : OpenClaim := { program := "ytkpmmcekcpbilaadoor", sum := "da04679b99c6f9f0e8ef05e697cb5f90ca5ce2818bf9263a811d69b4c775096a", func := "custody/custodylaw02.CodesKnown", spec := "codesKnown", inPlace := ["internal/reflectlite.TypeOf", "internal/reflectlite.ValueOf", "(internal/reflectlite.Value).Type", "(internal/reflectlite.Value).IsNil", "(internal/reflectlite.Value).Elem", "(internal/reflectlite.Value).Set"], unfollowed := true, recurses := true, named := ["errors.errorType", "custody/codes.headOffice"], apart := false, laid := [("custody/codes.headOffice", laid_custody_codes_headOffice), ("errors.errorType", laid_errors_errorType)], narrowed := true }
def CodesKnownUptoSaid : Prop := codesKnownUptoRow.holds Tryd.pinned (OpenSpec.upto codesKnownSpec)

/-- 'custodylaw02.CodesBack', WHERE WHAT IT READS IS OF BULK AT MOST 1048576: true; the input reads as it did. -/
def codesBackUptoRow : OpenClaim := { program := "ytkpmmcekcpbilaadoor", sum := "da04679b99c6f9f0e8ef05e697cb5f90ca5ce2818bf9263a811d69b4c775096a", func := "custody/custodylaw02.CodesBack", spec := "codesBack", inPlace := ["internal/reflectlite.TypeOf", "internal/reflectlite.ValueOf", "(internal/reflectlite.Value).Type", "(internal/reflectlite.Value).IsNil", "(internal/reflectlite.Value).Elem", "(internal/reflectlite.Value).Set"], unfollowed := true, recurses := true, named := ["errors.errorType"], apart := false, laid := [("errors.errorType", laid_errors_errorType)], narrowed := true }
def CodesBackUptoSaid : Prop := codesBackUptoRow.holds Tryd.pinned (OpenSpec.upto codesBackSpec)

end Rows
end Go.Proofs.YtkpmmcekcpbilaaDoor
