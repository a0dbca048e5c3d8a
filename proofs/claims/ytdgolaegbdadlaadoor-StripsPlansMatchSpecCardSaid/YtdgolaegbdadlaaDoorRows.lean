/-
  NARROWER THAN 'FOR EVERY INPUT', by the rows' own cells (each row's printed sentence says how): StripsMatchesSpec: laid · StripsPlansMatchSpec: laid · StripsFrame: laid · StripsRegressionIsExact: laid · StripsPlansConcatenate: laid · StripsMoreFactsKeepPlans: laid.
  DERIVED. THE GIVEN ROWS OF THIS SEAT. 6 by the template 'for every input the law returns true; each argument reads behind the call as it read before'; 0 by the template 'total and deterministic' (their statements: YtdgolaegbdadlaaDoorTotals.lean).
  GIVEN WITH THE SEED: the statements are not yours to turn. If you find one false, say at which input.
  Laid BY PROGRAM, IN A SANDBOX (cutbox-rows.mjs): the forced cells as the released guide's own fill.sh prints them over the translation 29526acc8a560096… (all of the seat's roots in one cut). By AI agents, Wed Nov 11 2026. No macro, syntax, notation, axiom, sorry.
-/
import Derived.Test.YtdgolaegbdadlaaDoorChecked
import GoSem.Claim
import GoSem.ClaimJoined
import GoSem.ClaimMapViews
import Derived.JoinedTies
import Derived.KernelRfl
namespace Go.Proofs.YtdgolaegbdadlaaDoor
/- THE CELL 'sum', in the pinned program and in every row, IS THE sha256 OF THE DUMP (.gsa) THAT YtdgolaegbdadlaaDoorProg.lean LOADS. Nothing in Lean hashes anything: it is a label: what it is worth is what the hold of that sum in a sandbox is worth. -/
noncomputable def Tryd.pinned : Pinned := { name := "ytdgolaegbdadlaadoor", sum := "29526acc8a5600966fc6603c2def40f69c7e73a714841b99b35dcc574064c880", checked := Tryd.checked }
namespace Rows
def none {H : Type} : Left H := { results := [], args := [] }

/- WHAT THE LISTED PACKAGE-LEVEL VARIABLES READ AS WHEN THE CALL BEGINS. Each datum BY PROGRAM (the guide's laid-datum.mjs) off the statement by which the dump's own 'gosem.cut.vars' lays the variable. In a bare row this is a premise. The card (YtdgolaegbdadlaaDoorCards.lean) ties it to the program's text. -/
def laid_math_bits_deBruijn64tab {H : Type} : DataW H := .agg [.lit (.int .u8 0), .lit (.int .u8 1), .lit (.int .u8 56), .lit (.int .u8 2), .lit (.int .u8 57), .lit (.int .u8 49), .lit (.int .u8 28), .lit (.int .u8 3), .lit (.int .u8 61), .lit (.int .u8 58), .lit (.int .u8 42), .lit (.int .u8 50), .lit (.int .u8 38), .lit (.int .u8 29), .lit (.int .u8 17), .lit (.int .u8 4), .lit (.int .u8 62), .lit (.int .u8 47), .lit (.int .u8 59), .lit (.int .u8 36), .lit (.int .u8 45), .lit (.int .u8 43), .lit (.int .u8 51), .lit (.int .u8 22), .lit (.int .u8 53), .lit (.int .u8 39), .lit (.int .u8 33), .lit (.int .u8 30), .lit (.int .u8 24), .lit (.int .u8 18), .lit (.int .u8 12), .lit (.int .u8 5), .lit (.int .u8 63), .lit (.int .u8 55), .lit (.int .u8 48), .lit (.int .u8 27), .lit (.int .u8 60), .lit (.int .u8 41), .lit (.int .u8 37), .lit (.int .u8 16), .lit (.int .u8 46), .lit (.int .u8 35), .lit (.int .u8 44), .lit (.int .u8 21), .lit (.int .u8 52), .lit (.int .u8 32), .lit (.int .u8 23), .lit (.int .u8 11), .lit (.int .u8 54), .lit (.int .u8 26), .lit (.int .u8 40), .lit (.int .u8 15), .lit (.int .u8 34), .lit (.int .u8 20), .lit (.int .u8 31), .lit (.int .u8 10), .lit (.int .u8 25), .lit (.int .u8 14), .lit (.int .u8 19), .lit (.int .u8 9), .lit (.int .u8 13), .lit (.int .u8 8), .lit (.int .u8 7), .lit (.int .u8 6)]

/-- 'helmsmanlaw1.StripsMatchesSpec': WHATEVER THE INPUT: true; the input reads as it did. -/
def stripsMatchesSpecSpec : ChangeSpec := { name := "stripsMatchesSpec", fn := fun _ => fun
  | [d1, d2, d3] => { results := [.lit (.bool true)], args := [d1, d2, d3] }
  | _ => none }
def stripsMatchesSpecRow : OpenClaim := { program := "ytdgolaegbdadlaadoor", sum := "29526acc8a5600966fc6603c2def40f69c7e73a714841b99b35dcc574064c880", func := "helmsman/helmsmanlaw1.StripsMatchesSpec", spec := "stripsMatchesSpec", unfollowed := true, recurses := true, named := ["math/bits.deBruijn64tab"], apart := false, laid := [("math/bits.deBruijn64tab", laid_math_bits_deBruijn64tab)] }
def StripsMatchesSpecSaid : Prop := stripsMatchesSpecRow.holds Tryd.pinned (OpenSpec.ofChange stripsMatchesSpecSpec)

/-- ITS FALSE NEIGHBOUR: 'it returns false'. Refute it at one input. -/
def stripsMatchesSpecWrong : ChangeSpec := { name := "stripsMatchesSpec", fn := fun _ => fun
  | [d1, d2, d3] => { results := [.lit (.bool false)], args := [d1, d2, d3] }
  | _ => none }
def StripsMatchesSpecWrongFalsely : Prop := stripsMatchesSpecRow.holds Tryd.pinned (OpenSpec.ofChange stripsMatchesSpecWrong)

/-- 'helmsmanlaw1.StripsPlansMatchSpec': WHATEVER THE INPUT: true; the input reads as it did. -/
def stripsPlansMatchSpecSpec : ChangeSpec := { name := "stripsPlansMatchSpec", fn := fun _ => fun
  | [d1, d2, d3] => { results := [.lit (.bool true)], args := [d1, d2, d3] }
  | _ => none }
def stripsPlansMatchSpecRow : OpenClaim := { program := "ytdgolaegbdadlaadoor", sum := "29526acc8a5600966fc6603c2def40f69c7e73a714841b99b35dcc574064c880", func := "helmsman/helmsmanlaw1.StripsPlansMatchSpec", spec := "stripsPlansMatchSpec", unfollowed := true, recurses := true, named := ["math/bits.deBruijn64tab"], apart := false, laid := [("math/bits.deBruijn64tab", laid_math_bits_deBruijn64tab)] }
def StripsPlansMatchSpecSaid : Prop := stripsPlansMatchSpecRow.holds Tryd.pinned (OpenSpec.ofChange stripsPlansMatchSpecSpec)

/-- ITS FALSE NEIGHBOUR: 'it returns false'. Refute it at one input. -/
def stripsPlansMatchSpecWrong : ChangeSpec := { name := "stripsPlansMatchSpec", fn := fun _ => fun
  | [d1, d2, d3] => { results := [.lit (.bool false)], args := [d1, d2, d3] }
  | _ => none }
def StripsPlansMatchSpecWrongFalsely : Prop := stripsPlansMatchSpecRow.holds Tryd.pinned (OpenSpec.ofChange stripsPlansMatchSpecWrong)

/-- 'helmsmanlaw1.StripsFrame': WHATEVER THE INPUT: true; the input reads as it did. -/
def stripsFrameSpec : ChangeSpec := { name := "stripsFrame", fn := fun _ => fun
  | [d1, d2, d3] => { results := [.lit (.bool true)], args := [d1, d2, d3] }
  | _ => none }
def stripsFrameRow : OpenClaim := { program := "ytdgolaegbdadlaadoor", sum := "29526acc8a5600966fc6603c2def40f69c7e73a714841b99b35dcc574064c880", func := "helmsman/helmsmanlaw1.StripsFrame", spec := "stripsFrame", unfollowed := true, recurses := true, named := ["math/bits.deBruijn64tab"], apart := false, laid := [("math/bits.deBruijn64tab", laid_math_bits_deBruijn64tab)] }
def StripsFrameSaid : Prop := stripsFrameRow.holds Tryd.pinned (OpenSpec.ofChange stripsFrameSpec)

/-- ITS FALSE NEIGHBOUR: 'it returns false'. Refute it at one input. -/
def stripsFrameWrong : ChangeSpec := { name := "stripsFrame", fn := fun _ => fun
  | [d1, d2, d3] => { results := [.lit (.bool false)], args := [d1, d2, d3] }
  | _ => none }
def StripsFrameWrongFalsely : Prop := stripsFrameRow.holds Tryd.pinned (OpenSpec.ofChange stripsFrameWrong)

/-- 'helmsmanlaw1.StripsRegressionIsExact': WHATEVER THE INPUT: true; the input reads as it did. -/
def stripsRegressionIsExactSpec : ChangeSpec := { name := "stripsRegressionIsExact", fn := fun _ => fun
  | [d1, d2, d3, d4] => { results := [.lit (.bool true)], args := [d1, d2, d3, d4] }
  | _ => none }
def stripsRegressionIsExactRow : OpenClaim := { program := "ytdgolaegbdadlaadoor", sum := "29526acc8a5600966fc6603c2def40f69c7e73a714841b99b35dcc574064c880", func := "helmsman/helmsmanlaw1.StripsRegressionIsExact", spec := "stripsRegressionIsExact", unfollowed := true, recurses := true, named := ["math/bits.deBruijn64tab"], apart := false, laid := [("math/bits.deBruijn64tab", laid_math_bits_deBruijn64tab)] }
def StripsRegressionIsExactSaid : Prop := stripsRegressionIsExactRow.holds Tryd.pinned (OpenSpec.ofChange stripsRegressionIsExactSpec)

/-- ITS FALSE NEIGHBOUR: 'it returns false'. Refute it at one input. -/
def stripsRegressionIsExactWrong : ChangeSpec := { name := "stripsRegressionIsExact", fn := fun _ => fun
  | [d1, d2, d3, d4] => { results := [.lit (.bool false)], args := [d1, d2, d3, d4] }
  | _ => none }
def StripsRegressionIsExactWrongFalsely : Prop := stripsRegressionIsExactRow.holds Tryd.pinned (OpenSpec.ofChange stripsRegressionIsExactWrong)

/-- 'helmsmanlaw1.StripsPlansConcatenate': WHATEVER THE INPUT: true; the input reads as it did. -/
def stripsPlansConcatenateSpec : ChangeSpec := { name := "stripsPlansConcatenate", fn := fun _ => fun
  | [d1, d2, d3, d4] => { results := [.lit (.bool true)], args := [d1, d2, d3, d4] }
  | _ => none }
def stripsPlansConcatenateRow : OpenClaim := { program := "ytdgolaegbdadlaadoor", sum := "29526acc8a5600966fc6603c2def40f69c7e73a714841b99b35dcc574064c880", func := "helmsman/helmsmanlaw1.StripsPlansConcatenate", spec := "stripsPlansConcatenate", unfollowed := true, recurses := true, named := ["math/bits.deBruijn64tab"], apart := false, laid := [("math/bits.deBruijn64tab", laid_math_bits_deBruijn64tab)] }
def StripsPlansConcatenateSaid : Prop := stripsPlansConcatenateRow.holds Tryd.pinned (OpenSpec.ofChange stripsPlansConcatenateSpec)

/-- ITS FALSE NEIGHBOUR: 'it returns false'. Refute it at one input. -/
def stripsPlansConcatenateWrong : ChangeSpec := { name := "stripsPlansConcatenate", fn := fun _ => fun
  | [d1, d2, d3, d4] => { results := [.lit (.bool false)], args := [d1, d2, d3, d4] }
  | _ => none }
def StripsPlansConcatenateWrongFalsely : Prop := stripsPlansConcatenateRow.holds Tryd.pinned (OpenSpec.ofChange stripsPlansConcatenateWrong)

/-- 'helmsmanlaw1.StripsMoreFactsKeepPlans': WHATEVER THE INPUT: true; the input reads as it did. -/
def stripsMoreFactsKeepPlansSpec : ChangeSpec := { name := "stripsMoreFactsKeepPlans", fn := fun _ => fun
  | [d1, d2, d3, d4] => { results := [.lit (.bool true)], args := [d1, d2, d3, d4] }
  | _ => none }
def stripsMoreFactsKeepPlansRow : OpenClaim := { program := "ytdgolaegbdadlaadoor", sum := "29526acc8a5600966fc6603c2def40f69c7e73a714841b99b35dcc574064c880", func := "helmsman/helmsmanlaw1.StripsMoreFactsKeepPlans", spec := "stripsMoreFactsKeepPlans", unfollowed := true, recurses := true, named := ["math/bits.deBruijn64tab"], apart := false, laid := [("math/bits.deBruijn64tab", laid_math_bits_deBruijn64tab)] }
def StripsMoreFactsKeepPlansSaid : Prop := stripsMoreFactsKeepPlansRow.holds Tryd.pinned (OpenSpec.ofChange stripsMoreFactsKeepPlansSpec)

/-- ITS FALSE NEIGHBOUR: 'it returns false'. Refute it at one input. -/
def stripsMoreFactsKeepPlansWrong : ChangeSpec := { name := "stripsMoreFactsKeepPlans", fn := fun _ => fun
  | [d1, d2, d3, d4] => { results := [.lit (.bool false)], args := [d1, d2, d3, d4] }
  | _ => none }
def StripsMoreFactsKeepPlansWrongFalsely : Prop := stripsMoreFactsKeepPlansRow.holds Tryd.pinned (OpenSpec.ofChange stripsMoreFactsKeepPlansWrong)

/- THE SECOND FORM. 'bulk': how many values and letters a reading holds, each counted each time it is reached (what is shared counts as often as it is met; a slice's spare places count too). A statement '..UptoSaid' is the law's where the arguments, and the package variables that the reading takes, are together of bulk at most 1048576: NARROWER than '..Said'. Prove '..Said' where nothing that the law and all that it calls make is longer than what came in: it says more and counts as full. Else prove '..UptoSaid'. A law counts once. -/
mutual
def uptoBulk {H : Type} : DataW H → Nat
  | .lit (.string bytes) => bytes.length + 1
  | .lit _ => 1
  | .nil => 1
  | .ptr d => uptoBulk d + 1
  | .slice elems spare => uptoBulkAll elems + uptoBulkAll spare + 1
  | .agg parts => uptoBulkAll parts + 1
  | .iface _ d => uptoBulk d + 1
  | .map entries => uptoBulkEntries entries + 1
  | .held _ => 1
def uptoBulkAll {H : Type} : List (DataW H) → Nat
  | [] => 0
  | d :: r => uptoBulk d + uptoBulkAll r
def uptoBulkEntries {H : Type} : List (Lit × DataW H) → Nat
  | [] => 0
  | x :: r => uptoBulkEntry x + uptoBulkEntries r
def uptoBulkEntry {H : Type} : Lit × DataW H → Nat
  | (.string bytes, d) => bytes.length + uptoBulk d + 1
  | (_, d) => uptoBulk d + 1
 end
def uptoSmall : (H : Type) → List (DataW H) → Bool := fun _ ds => decide (uptoBulkAll ds ≤ 1048576)
def OpenSpec.upto (s : _root_.Go.ChangeSpec) : _root_.Go.OpenSpec := { _root_.Go.OpenSpec.ofChange s with cond := some uptoSmall }

/-- 'helmsmanlaw1.StripsMatchesSpec', WHERE WHAT IT READS IS OF BULK AT MOST 1048576: true; the input reads as it did. -/
def stripsMatchesSpecUptoRow : OpenClaim := { program := "ytdgolaegbdadlaadoor", sum := "29526acc8a5600966fc6603c2def40f69c7e73a714841b99b35dcc574064c880", func := "helmsman/helmsmanlaw1.StripsMatchesSpec", spec := "stripsMatchesSpec", unfollowed := true, recurses := true, named := ["math/bits.deBruijn64tab"], apart := false, laid := [("math/bits.deBruijn64tab", laid_math_bits_deBruijn64tab)], narrowed := true }
def StripsMatchesSpecUptoSaid : Prop := stripsMatchesSpecUptoRow.holds Tryd.pinned (OpenSpec.upto stripsMatchesSpecSpec)

/-- 'helmsmanlaw1.StripsPlansMatchSpec', WHERE WHAT IT READS IS OF BULK AT MOST 1048576: true; the input reads as it did. -/
def stripsPlansMatchSpecUptoRow : OpenClaim := { program := "ytdgolaegbdadlaadoor", sum := "29526acc8a5600966fc6603c2def40f69c7e73a714841b99b35dcc574064c880", func := "helmsman/helmsmanlaw1.StripsPlansMatchSpec", spec := "stripsPlansMatchSpec", unfollowed := true, recurses := true, named := ["math/bits.deBruijn64tab"], apart := false, laid := [("math/bits.deBruijn64tab", laid_math_bits_deBruijn64tab)], narrowed := true }
def StripsPlansMatchSpecUptoSaid : Prop := stripsPlansMatchSpecUptoRow.holds Tryd.pinned (OpenSpec.upto stripsPlansMatchSpecSpec)

/-- 'helmsmanlaw1.StripsFrame', WHERE WHAT IT READS IS OF BULK AT MOST 1048576: true; the input reads as it did. -/
def stripsFrameUptoRow : OpenClaim := { program := "ytdgolaegbdadlaadoor", sum := "29526acc8a5600966fc6603c2def40f69c7e73a714841b99b35dcc574064c880", func := "helmsman/helmsmanlaw1.StripsFrame", spec := "stripsFrame", unfollowed := true, recurses := true, named := ["math/bits.deBruijn64tab"], apart := false, laid := [("math/bits.deBruijn64tab", laid_math_bits_deBruijn64tab)], narrowed := true }
def StripsFrameUptoSaid : Prop := stripsFrameUptoRow.holds Tryd.pinned (OpenSpec.upto stripsFrameSpec)

/-- 'helmsmanlaw1.StripsRegressionIsExact', WHERE WHAT IT READS IS OF BULK AT MOST 1048576: true; the input reads as it did. -/
def stripsRegressionIsExactUptoRow : OpenClaim := { program := "ytdgolaegbdadlaadoor", sum := "29526acc8a5600966fc6603c2def40f69c7e73a714841b99b35dcc574064c880", func := "helmsman/helmsmanlaw1.StripsRegressionIsExact", spec := "stripsRegressionIsExact", unfollowed := true, recurses := true, named := ["math/bits.deBruijn64tab"], apart := false, laid := [("math/bits.deBruijn64tab", laid_math_bits_deBruijn64tab)], narrowed := true }
def StripsRegressionIsExactUptoSaid : Prop := stripsRegressionIsExactUptoRow.holds Tryd.pinned (OpenSpec.upto stripsRegressionIsExactSpec)

/-- 'helmsmanlaw1.StripsPlansConcatenate', WHERE WHAT IT READS IS OF BULK AT MOST 1048576: true; the input reads as it did. -/
def stripsPlansConcatenateUptoRow : OpenClaim := { program := "ytdgolaegbdadlaadoor", sum := "29526acc8a5600966fc6603c2def40f69c7e73a714841b99b35dcc574064c880", func := "helmsman/helmsmanlaw1.StripsPlansConcatenate", spec := "stripsPlansConcatenate", unfollowed := true, recurses := true, named := ["math/bits.deBruijn64tab"], apart := false, laid := [("math/bits.deBruijn64tab", laid_math_bits_deBruijn64tab)], narrowed := true }
def StripsPlansConcatenateUptoSaid : Prop := stripsPlansConcatenateUptoRow.holds Tryd.pinned (OpenSpec.upto stripsPlansConcatenateSpec)

/-- 'helmsmanlaw1.StripsMoreFactsKeepPlans', WHERE WHAT IT READS IS OF BULK AT MOST 1048576: true; the input reads as it did. -/
def stripsMoreFactsKeepPlansUptoRow : OpenClaim := { program := "ytdgolaegbdadlaadoor", sum := "29526acc8a5600966fc6603c2def40f69c7e73a714841b99b35dcc574064c880", func := "helmsman/helmsmanlaw1.StripsMoreFactsKeepPlans", spec := "stripsMoreFactsKeepPlans", unfollowed := true, recurses := true, named := ["math/bits.deBruijn64tab"], apart := false, laid := [("math/bits.deBruijn64tab", laid_math_bits_deBruijn64tab)], narrowed := true }
def StripsMoreFactsKeepPlansUptoSaid : Prop := stripsMoreFactsKeepPlansUptoRow.holds Tryd.pinned (OpenSpec.upto stripsMoreFactsKeepPlansSpec)

end Rows
end Go.Proofs.YtdgolaegbdadlaaDoor
