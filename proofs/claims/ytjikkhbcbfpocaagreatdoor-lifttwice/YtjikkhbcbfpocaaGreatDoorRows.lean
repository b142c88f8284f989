/-
  NARROWER THAN 'FOR EVERY INPUT', by the rows' own cells (each row's printed sentence says how): CodecBack: loops, laid · CodecForm: laid · CodecDamage: loops, laid · CodecMost: loops, laid · LiftSame: loops, laid · LiftTwice: loops, laid.
  DERIVED. THE GIVEN ROWS OF THIS SEAT. 6 by the template 'for every input the law returns true; each argument reads behind the call as it read before'; 0 by the template 'total and deterministic' (their statements: YtjikkhbcbfpocaaGreatDoorTotals.lean).
  GIVEN WITH THE SEED: the statements are not yours to turn. If you find one false, say at which input.
  Laid BY PROGRAM, IN A SANDBOX (cutbox-rows.mjs): the forced cells as the released guide's own fill.sh prints them over the translation 338b40c490d967a5… (all of the seat's roots in one cut). By AI agents, Wed Nov 11 2026. No macro, syntax, notation, axiom, sorry.
-/
import Derived.Test.YtjikkhbcbfpocaaGreatDoorChecked
import GoSem.Claim
import GoSem.ClaimJoined
import GoSem.ClaimMapViews
import Derived.JoinedTies
import Derived.KernelRfl
namespace Go.Proofs.YtjikkhbcbfpocaaGreatDoor
/- THE CELL 'sum', in the pinned program and in every row, IS THE sha256 OF THE DUMP (.gsa) THAT YtjikkhbcbfpocaaGreatDoorProg.lean LOADS. Nothing in Lean hashes anything: it is a label: what it is worth is what the hold of that sum in a sandbox is worth. -/
noncomputable def Tryz.pinned : Pinned := { name := "ytjikkhbcbfpocaagreatdoor", sum := "338b40c490d967a55cc5e3819f0c754479be483cf5df06537311d3f25d64e21b", checked := Tryz.checked }
namespace Rows
def none {H : Type} : Left H := { results := [], args := [] }

/- WHAT THE LISTED PACKAGE-LEVEL VARIABLES READ AS WHEN THE CALL BEGINS. Each datum BY PROGRAM (the guide's laid-datum.mjs) off the statement by which the dump's own 'gosem.cut.vars' lays the variable. In a bare row this is a premise. The card (YtjikkhbcbfpocaaGreatDoorCards.lean) ties it to the program's text. -/
def laid_errors_errorType {H : Type} : DataW H := .iface "internal/reflectlite.rtype" (.agg [.ptr (.lit (.string [101, 114, 114, 111, 114]))])
def laid_twine_sum_halfSums {H : Type} : DataW H := .agg [.lit (.int .u32 0), .lit (.int .u32 498536548), .lit (.int .u32 997073096), .lit (.int .u32 651767980), .lit (.int .u32 1994146192), .lit (.int .u32 1802195444), .lit (.int .u32 1303535960), .lit (.int .u32 1342533948), .lit (.int .u32 3988292384), .lit (.int .u32 4027552580), .lit (.int .u32 3604390888), .lit (.int .u32 3412177804), .lit (.int .u32 2607071920), .lit (.int .u32 2262029012), .lit (.int .u32 2685067896), .lit (.int .u32 3183342108)]
def laid_twine_sum_firstWords {H : Type} : DataW H := .agg [.lit (.int .u32 1779033703), .lit (.int .u32 3144134277), .lit (.int .u32 1013904242), .lit (.int .u32 2773480762), .lit (.int .u32 1359893119), .lit (.int .u32 2600822924), .lit (.int .u32 528734635), .lit (.int .u32 1541459225)]
def laid_twine_sum_roundWords {H : Type} : DataW H := .agg [.lit (.int .u32 1116352408), .lit (.int .u32 1899447441), .lit (.int .u32 3049323471), .lit (.int .u32 3921009573), .lit (.int .u32 961987163), .lit (.int .u32 1508970993), .lit (.int .u32 2453635748), .lit (.int .u32 2870763221), .lit (.int .u32 3624381080), .lit (.int .u32 310598401), .lit (.int .u32 607225278), .lit (.int .u32 1426881987), .lit (.int .u32 1925078388), .lit (.int .u32 2162078206), .lit (.int .u32 2614888103), .lit (.int .u32 3248222580), .lit (.int .u32 3835390401), .lit (.int .u32 4022224774), .lit (.int .u32 264347078), .lit (.int .u32 604807628), .lit (.int .u32 770255983), .lit (.int .u32 1249150122), .lit (.int .u32 1555081692), .lit (.int .u32 1996064986), .lit (.int .u32 2554220882), .lit (.int .u32 2821834349), .lit (.int .u32 2952996808), .lit (.int .u32 3210313671), .lit (.int .u32 3336571891), .lit (.int .u32 3584528711), .lit (.int .u32 113926993), .lit (.int .u32 338241895), .lit (.int .u32 666307205), .lit (.int .u32 773529912), .lit (.int .u32 1294757372), .lit (.int .u32 1396182291), .lit (.int .u32 1695183700), .lit (.int .u32 1986661051), .lit (.int .u32 2177026350), .lit (.int .u32 2456956037), .lit (.int .u32 2730485921), .lit (.int .u32 2820302411), .lit (.int .u32 3259730800), .lit (.int .u32 3345764771), .lit (.int .u32 3516065817), .lit (.int .u32 3600352804), .lit (.int .u32 4094571909), .lit (.int .u32 275423344), .lit (.int .u32 430227734), .lit (.int .u32 506948616), .lit (.int .u32 659060556), .lit (.int .u32 883997877), .lit (.int .u32 958139571), .lit (.int .u32 1322822218), .lit (.int .u32 1537002063), .lit (.int .u32 1747873779), .lit (.int .u32 1955562222), .lit (.int .u32 2024104815), .lit (.int .u32 2227730452), .lit (.int .u32 2361852424), .lit (.int .u32 2428436474), .lit (.int .u32 2756734187), .lit (.int .u32 3204031479), .lit (.int .u32 3329325298)]

/-- 'twinelaw6.CodecBack': WHATEVER THE INPUT: true; the input reads as it did. -/
def codecBackSpec : ChangeSpec := { name := "codecBack", fn := fun _ => fun
  | [d1, d2, d3] => { results := [.lit (.bool true)], args := [d1, d2, d3] }
  | _ => none }
def codecBackRow : OpenClaim := { program := "ytjikkhbcbfpocaagreatdoor", sum := "338b40c490d967a55cc5e3819f0c754479be483cf5df06537311d3f25d64e21b", func := "twine/twinelaw6.CodecBack", spec := "codecBack", inPlace := ["internal/abi.NoEscape", "internal/bytealg.MakeNoZero", "internal/reflectlite.ValueOf", "(internal/reflectlite.Value).Type", "(internal/reflectlite.Value).IsNil", "internal/reflectlite.TypeOf", "(internal/reflectlite.Value).Elem", "(internal/reflectlite.Value).Set"], unfollowed := true, recurses := true, named := ["twine/sum.firstWords", "twine/sum.roundWords", "twine/sum.halfSums", "errors.errorType"], loops := true, apart := false, laid := [("errors.errorType", laid_errors_errorType), ("twine/sum.halfSums", laid_twine_sum_halfSums), ("twine/sum.firstWords", laid_twine_sum_firstWords), ("twine/sum.roundWords", laid_twine_sum_roundWords)] }
def CodecBackSaid : Prop := codecBackRow.holds Tryz.pinned (OpenSpec.ofChange codecBackSpec)

/-- ITS FALSE NEIGHBOUR: 'it returns false'. Refute it at one input. -/
def codecBackWrong : ChangeSpec := { name := "codecBack", fn := fun _ => fun
  | [d1, d2, d3] => { results := [.lit (.bool false)], args := [d1, d2, d3] }
  | _ => none }
def CodecBackWrongFalsely : Prop := codecBackRow.holds Tryz.pinned (OpenSpec.ofChange codecBackWrong)

/-- 'twinelaw6.CodecForm': WHATEVER THE INPUT: true; the input reads as it did. -/
def codecFormSpec : ChangeSpec := { name := "codecForm", fn := fun _ => fun
  | [d1, d2] => { results := [.lit (.bool true)], args := [d1, d2] }
  | _ => none }
def codecFormRow : OpenClaim := { program := "ytjikkhbcbfpocaagreatdoor", sum := "338b40c490d967a55cc5e3819f0c754479be483cf5df06537311d3f25d64e21b", func := "twine/twinelaw6.CodecForm", spec := "codecForm", inPlace := ["internal/abi.NoEscape", "internal/bytealg.MakeNoZero", "internal/reflectlite.ValueOf", "(internal/reflectlite.Value).Type", "(internal/reflectlite.Value).IsNil", "internal/reflectlite.TypeOf", "(internal/reflectlite.Value).Elem", "(internal/reflectlite.Value).Set"], unfollowed := true, recurses := true, named := ["twine/sum.firstWords", "twine/sum.roundWords", "twine/sum.halfSums", "errors.errorType"], apart := false, laid := [("errors.errorType", laid_errors_errorType), ("twine/sum.halfSums", laid_twine_sum_halfSums), ("twine/sum.firstWords", laid_twine_sum_firstWords), ("twine/sum.roundWords", laid_twine_sum_roundWords)] }
def CodecFormSaid : Prop := codecFormRow.holds Tryz.pinned (OpenSpec.ofChange codecFormSpec)

/-- ITS FALSE NEIGHBOUR: 'it returns false'. Refute it at one input. -/
def codecFormWrong : ChangeSpec := { name := "codecForm", fn := fun _ => fun
  | [d1, d2] => { results := [.lit (.bool false)], args := [d1, d2] }
  | _ => none }
def CodecFormWrongFalsely : Prop := codecFormRow.holds Tryz.pinned (OpenSpec.ofChange codecFormWrong)

/-- 'twinelaw6.CodecDamage': WHATEVER THE INPUT: true; the input reads as it did. -/
def codecDamageSpec : ChangeSpec := { name := "codecDamage", fn := fun _ => fun
  | [d1, d2, d3, d4, d5, d6] => { results := [.lit (.bool true)], args := [d1, d2, d3, d4, d5, d6] }
  | _ => none }
def codecDamageRow : OpenClaim := { program := "ytjikkhbcbfpocaagreatdoor", sum := "338b40c490d967a55cc5e3819f0c754479be483cf5df06537311d3f25d64e21b", func := "twine/twinelaw6.CodecDamage", spec := "codecDamage", inPlace := ["internal/abi.NoEscape", "internal/bytealg.MakeNoZero", "internal/reflectlite.ValueOf", "(internal/reflectlite.Value).Type", "(internal/reflectlite.Value).IsNil", "internal/reflectlite.TypeOf", "(internal/reflectlite.Value).Elem", "(internal/reflectlite.Value).Set"], unfollowed := true, recurses := true, named := ["twine/sum.firstWords", "twine/sum.roundWords", "twine/sum.halfSums", "errors.errorType"], loops := true, apart := false, laid := [("errors.errorType", laid_errors_errorType), ("twine/sum.halfSums", laid_twine_sum_halfSums), ("twine/sum.firstWords", laid_twine_sum_firstWords), ("twine/sum.roundWords", laid_twine_sum_roundWords)] }
def CodecDamageSaid : Prop := codecDamageRow.holds Tryz.pinned (OpenSpec.ofChange codecDamageSpec)

/-- ITS FALSE NEIGHBOUR: 'it returns false'. Refute it at one input. -/
def codecDamageWrong : ChangeSpec := { name := "codecDamage", fn := fun _ => fun
  | [d1, d2, d3, d4, d5, d6] => { results := [.lit (.bool false)], args := [d1, d2, d3, d4, d5, d6] }
  | _ => none }
def CodecDamageWrongFalsely : Prop := codecDamageRow.holds Tryz.pinned (OpenSpec.ofChange codecDamageWrong)

/-- 'twinelaw6.CodecMost': WHATEVER THE INPUT: true; the input reads as it did. -/
def codecMostSpec : ChangeSpec := { name := "codecMost", fn := fun _ => fun
  | [d1, d2, d3, d4] => { results := [.lit (.bool true)], args := [d1, d2, d3, d4] }
  | _ => none }
def codecMostRow : OpenClaim := { program := "ytjikkhbcbfpocaagreatdoor", sum := "338b40c490d967a55cc5e3819f0c754479be483cf5df06537311d3f25d64e21b", func := "twine/twinelaw6.CodecMost", spec := "codecMost", inPlace := ["internal/abi.NoEscape", "internal/bytealg.MakeNoZero", "internal/reflectlite.ValueOf", "(internal/reflectlite.Value).Type", "(internal/reflectlite.Value).IsNil", "internal/reflectlite.TypeOf", "(internal/reflectlite.Value).Elem", "(internal/reflectlite.Value).Set"], unfollowed := true, recurses := true, named := ["twine/sum.firstWords", "twine/sum.roundWords", "twine/sum.halfSums", "errors.errorType"], loops := true, apart := false, laid := [("errors.errorType", laid_errors_errorType), ("twine/sum.halfSums", laid_twine_sum_halfSums), ("twine/sum.firstWords", laid_twine_sum_firstWords), ("twine/sum.roundWords", laid_twine_sum_roundWords)] }
def CodecMostSaid : Prop := codecMostRow.holds Tryz.pinned (OpenSpec.ofChange codecMostSpec)

/-- ITS FALSE NEIGHBOUR: 'it returns false'. Refute it at one input. -/
def codecMostWrong : ChangeSpec := { name := "codecMost", fn := fun _ => fun
  | [d1, d2, d3, d4] => { results := [.lit (.bool false)], args := [d1, d2, d3, d4] }
  | _ => none }
def CodecMostWrongFalsely : Prop := codecMostRow.holds Tryz.pinned (OpenSpec.ofChange codecMostWrong)

/-- 'twinelaw7.LiftSame': WHATEVER THE INPUT: true; the input reads as it did. -/
def liftSameSpec : ChangeSpec := { name := "liftSame", fn := fun _ => fun
  | [d1, d2, d3, d4] => { results := [.lit (.bool true)], args := [d1, d2, d3, d4] }
  | _ => none }
def liftSameRow : OpenClaim := { program := "ytjikkhbcbfpocaagreatdoor", sum := "338b40c490d967a55cc5e3819f0c754479be483cf5df06537311d3f25d64e21b", func := "twine/twinelaw7.LiftSame", spec := "liftSame", inPlace := ["internal/abi.NoEscape", "internal/bytealg.MakeNoZero", "internal/reflectlite.ValueOf", "(internal/reflectlite.Value).Type", "(internal/reflectlite.Value).IsNil", "internal/reflectlite.TypeOf", "(internal/reflectlite.Value).Elem", "(internal/reflectlite.Value).Set", "internal/bytealg.CountString", "internal/bytealg.IndexByteString", "internal/bytealg.IndexString"], unfollowed := true, recurses := true, named := ["twine/sum.firstWords", "twine/sum.roundWords", "twine/sum.halfSums", "errors.errorType", "internal/bytealg.MaxLen"], loops := true, apart := false, laid := [("errors.errorType", laid_errors_errorType), ("twine/sum.halfSums", laid_twine_sum_halfSums), ("twine/sum.firstWords", laid_twine_sum_firstWords), ("twine/sum.roundWords", laid_twine_sum_roundWords)] }
def LiftSameSaid : Prop := liftSameRow.holds Tryz.pinned (OpenSpec.ofChange liftSameSpec)

/-- ITS FALSE NEIGHBOUR: 'it returns false'. Refute it at one input. -/
def liftSameWrong : ChangeSpec := { name := "liftSame", fn := fun _ => fun
  | [d1, d2, d3, d4] => { results := [.lit (.bool false)], args := [d1, d2, d3, d4] }
  | _ => none }
def LiftSameWrongFalsely : Prop := liftSameRow.holds Tryz.pinned (OpenSpec.ofChange liftSameWrong)

/-- 'twinelaw7.LiftTwice': WHATEVER THE INPUT: true; the input reads as it did. -/
def liftTwiceSpec : ChangeSpec := { name := "liftTwice", fn := fun _ => fun
  | [d1, d2, d3] => { results := [.lit (.bool true)], args := [d1, d2, d3] }
  | _ => none }
def liftTwiceRow : OpenClaim := { program := "ytjikkhbcbfpocaagreatdoor", sum := "338b40c490d967a55cc5e3819f0c754479be483cf5df06537311d3f25d64e21b", func := "twine/twinelaw7.LiftTwice", spec := "liftTwice", inPlace := ["internal/abi.NoEscape", "internal/bytealg.MakeNoZero", "internal/reflectlite.ValueOf", "(internal/reflectlite.Value).Type", "(internal/reflectlite.Value).IsNil", "internal/reflectlite.TypeOf", "(internal/reflectlite.Value).Elem", "(internal/reflectlite.Value).Set", "internal/bytealg.CountString", "internal/bytealg.IndexByteString", "internal/bytealg.IndexString"], unfollowed := true, recurses := true, named := ["twine/sum.firstWords", "twine/sum.roundWords", "twine/sum.halfSums", "errors.errorType", "internal/bytealg.MaxLen"], loops := true, apart := false, laid := [("errors.errorType", laid_errors_errorType), ("twine/sum.halfSums", laid_twine_sum_halfSums), ("twine/sum.firstWords", laid_twine_sum_firstWords), ("twine/sum.roundWords", laid_twine_sum_roundWords)] }
def LiftTwiceSaid : Prop := liftTwiceRow.holds Tryz.pinned (OpenSpec.ofChange liftTwiceSpec)

/-- ITS FALSE NEIGHBOUR: 'it returns false'. Refute it at one input. -/
def liftTwiceWrong : ChangeSpec := { name := "liftTwice", fn := fun _ => fun
  | [d1, d2, d3] => { results := [.lit (.bool false)], args := [d1, d2, d3] }
  | _ => none }
def LiftTwiceWrongFalsely : Prop := liftTwiceRow.holds Tryz.pinned (OpenSpec.ofChange liftTwiceWrong)

/- THE SECOND FORM. 'bulk': how many values and letters a reading holds, each counted each time it is reached (what is shared counts as often as it is met; a slice's spare places count too). A statement '..UptoSaid' is the law's where the arguments, and the package variables that the reading takes, are together of bulk at most 1048576: NARROWER than '..Said'. Prove '..Said' where nothing that the law and all that it calls make is longer than what came in: it says more and counts as full. Else prove '..UptoSaid'. A law counts once. -/
mutual
def uptoBulk {H : Type} : DataW H → Nat
  | .lit (.string bytes) => bytes.length + 1
  | .lit _ => 1
  | .nil => 1
  | .ptr d => uptoBulk d + 1
  | .slice elems spare => uptoBulkAll elems + uptoBulkAll spare + 1
  | .agg parts => uptoBulkAll parts + 1
  | .iface _ d => uptoBulk d + 1
  | .map entries => uptoBulkEntries entries + 1
  | .held _ => 1
def uptoBulkAll {H : Type} : List (DataW H) → Nat
  | [] => 0
  | d :: r => uptoBulk d + uptoBulkAll r
def uptoBulkEntries {H : Type} : List (Lit × DataW H) → Nat
  | [] => 0
  | x :: r => uptoBulkEntry x + uptoBulkEntries r
def uptoBulkEntry {H : Type} : Lit × DataW H → Nat
  | (.string bytes, d) => bytes.length + uptoBulk d + 1
  | (_, d) => uptoBulk d + 1
 end
def uptoSmall : (H : Type) → List (DataW H) → Bool := fun _ ds => decide (uptoBulkAll ds ≤ 1048576)
def OpenSpec.upto (s : _root_.Go.ChangeSpec) : _root_.Go.OpenSpec := { _root_.Go.OpenSpec.ofChange s with cond := some uptoSmall }

/-- 'twinelaw6.CodecBack', WHERE WHAT IT READS IS OF BULK AT MOST 1048576: true; the input reads as it did. -/
def codecBackUptoRow : OpenClaim := { program := "ytjikkhbcbfpocaagreatdoor", sum := "338b40c490d967a55cc5e3819f0c754479be483cf5df06537311d3f25d64e21b", func := "twine/twinelaw6.CodecBack", spec := "codecBack", inPlace := ["internal/abi.NoEscape", "internal/bytealg.MakeNoZero", "internal/reflectlite.ValueOf", "(internal/reflectlite.Value).Type", "(internal/reflectlite.Value).IsNil", "internal/reflectlite.TypeOf", "(internal/reflectlite.Value).Elem", "(internal/reflectlite.Value).Set"], unfollowed := true, recurses := true, named := ["twine/sum.firstWords", "twine/sum.roundWords", "twine/sum.halfSums", "errors.errorType"], loops := true, apart := false, laid := [("errors.errorType", laid_errors_errorType), ("twine/sum.halfSums", laid_twine_sum_halfSums), ("twine/sum.firstWords", laid_twine_sum_firstWords), ("twine/sum.roundWords", laid_twine_sum_roundWords)], narrowed := true }
def CodecBackUptoSaid : Prop := codecBackUptoRow.holds Tryz.pinned (OpenSpec.upto codecBackSpec)

/-- 'twinelaw6.CodecForm', WHERE WHAT IT READS IS OF BULK AT MOST 1048576: true; the input reads as it did. -/
def codecFormUptoRow : OpenClaim := { program := "ytjikkhbcbfpocaagreatdoor", sum := "338b40c490d967a55cc5e3819f0c754479be483cf5df06537311d3f25d64e21b", func := "twine/twinelaw6.CodecForm", spec := "codecForm", inPlace := ["internal/abi.NoEscape", "internal/bytealg.MakeNoZero", "internal/reflectlite.ValueOf", "(internal/reflectlite.Value).Type", "(internal/reflectlite.Value).IsNil", "internal/reflectlite.TypeOf", "(internal/reflectlite.Value).Elem", "(internal/reflectlite.Value).Set"], unfollowed := true, recurses := true, named := ["twine/sum.firstWords", "twine/sum.roundWords", "twine/sum.halfSums", "errors.errorType"], apart := false, laid := [("errors.errorType", laid_errors_errorType), ("twine/sum.halfSums", laid_twine_sum_halfSums), ("twine/sum.firstWords", laid_twine_sum_firstWords), ("twine/sum.roundWords", laid_twine_sum_roundWords)], narrowed := true }
def CodecFormUptoSaid : Prop := codecFormUptoRow.holds Tryz.pinned (OpenSpec.upto codecFormSpec)

/-- 'twinelaw6.CodecDamage', WHERE WHAT IT READS IS OF BULK AT MOST 1048576: true; the input reads as it did. -/
def codecDamageUptoRow : OpenClaim := { program := "ytjikkhbcbfpocaagreatdoor", sum := "338b40c490d967a55cc5e3819f0c754479be483cf5df06537311d3f25d64e21b", func := "twine/twinelaw6.CodecDamage", spec := "codecDamage", inPlace := ["internal/abi.NoEscape", "internal/bytealg.MakeNoZero", "internal/reflectlite.ValueOf", "(internal/reflectlite.Value).Type", "(internal/reflectlite.Value).IsNil", "internal/reflectlite.TypeOf", "(internal/reflectlite.Value).Elem", "(internal/reflectlite.Value).Set"], unfollowed := true, recurses := true, named := ["twine/sum.firstWords", "twine/sum.roundWords", "twine/sum.halfSums", "errors.errorType"], loops := true, apart := false, laid := [("errors.errorType", laid_errors_errorType), ("twine/sum.halfSums", laid_twine_sum_halfSums), ("twine/sum.firstWords", laid_twine_sum_firstWords), ("twine/sum.roundWords", laid_twine_sum_roundWords)], narrowed := true }
def CodecDamageUptoSaid : Prop := codecDamageUptoRow.holds Tryz.pinned (OpenSpec.upto codecDamageSpec)

/-- 'twinelaw6.CodecMost', WHERE WHAT IT READS IS OF BULK AT MOST 1048576: true; the input reads as it did. -/
def codecMostUptoRow : OpenClaim := { program := "ytjikkhbcbfpocaagreatdoor", sum := "338b40c490d967a55cc5e3819f0c754479be483cf5df06537311d3f25d64e21b", func := "twine/twinelaw6.CodecMost", spec := "codecMost", inPlace := ["internal/abi.NoEscape", "internal/bytealg.MakeNoZero", "internal/reflectlite.ValueOf", "(internal/reflectlite.Value).Type", "(internal/reflectlite.Value).IsNil", "internal/reflectlite.TypeOf", "(internal/reflectlite.Value).Elem", "(internal/reflectlite.Value).Set"], unfollowed := true, recurses := true, named := ["twine/sum.firstWords", "twine/sum.roundWords", "twine/sum.halfSums", "errors.errorType"], loops := true, apart := false, laid := [("errors.errorType", laid_errors_errorType), ("twine/sum.halfSums", laid_twine_sum_halfSums), ("twine/sum.firstWords", laid_twine_sum_firstWords), ("twine/sum.roundWords", laid_twine_sum_roundWords)], narrowed := true }
def CodecMostUptoSaid : Prop := codecMostUptoRow.holds Tryz.pinned (OpenSpec.upto codecMostSpec)

/-- 'twinelaw7.LiftSame', WHERE WHAT IT READS IS OF BULK AT MOST 1048576: true; the input reads as it did. -/
def liftSameUptoRow : OpenClaim := { program := "ytjikkhbcbfpocaagreatdoor", sum := "338b40c490d967a55cc5e3819f0c754479be483cf5df06537311d3f25d64e21b", func := "twine/twinelaw7.LiftSame", spec := "liftSame", inPlace := ["internal/abi.NoEscape", "internal/bytealg.MakeNoZero", "internal/reflectlite.ValueOf", "(internal/reflectlite.Value).Type", "(internal/reflectlite.Value).IsNil", "internal/reflectlite.TypeOf", "(internal/reflectlite.Value).Elem", "(internal/reflectlite.Value).Set", "internal/bytealg.CountString", "internal/bytealg.IndexByteString", "internal/bytealg.IndexString"], unfollowed := true, recurses := true, named := ["twine/sum.firstWords", "twine/sum.roundWords", "twine/sum.halfSums", "errors.errorType", "internal/bytealg.MaxLen"], loops := true, apart := false, laid := [("errors.errorType", laid_errors_errorType), ("twine/sum.halfSums", laid_twine_sum_halfSums), ("twine/sum.firstWords", laid_twine_sum_firstWords), ("twine/sum.roundWords", laid_twine_sum_roundWords)], narrowed := true }
def LiftSameUptoSaid : Prop := liftSameUptoRow.holds Tryz.pinned (OpenSpec.upto liftSameSpec)

/-- 'twinelaw7.LiftTwice', WHERE WHAT IT READS IS OF BULK AT MOST 1048576: true; the input reads as it did. -/
def liftTwiceUptoRow : OpenClaim := { program := "ytjikkhbcbfpocaagreatdoor", sum := "338b40c490d967a55cc5e3819f0c754479be483cf5df06537311d3f25d64e21b", func := "twine/twinelaw7.LiftTwice", spec := "liftTwice", inPlace := ["internal/abi.NoEscape", "internal/bytealg.MakeNoZero", "internal/reflectlite.ValueOf", "(internal/reflectlite.Value).Type", "(internal/reflectlite.Value).IsNil", "internal/reflectlite.TypeOf", "(internal/reflectlite.Value).Elem", "(internal/reflectlite.Value).Set", "internal/bytealg.CountString", "internal/bytealg.IndexByteString", "internal/bytealg.IndexString"], unfollowed := true, recurses := true, named := ["twine/sum.firstWords", "twine/sum.roundWords", "twine/sum.halfSums", "errors.errorType", "internal/bytealg.MaxLen"], loops := true, apart := false, laid := [("errors.errorType", laid_errors_errorType), ("twine/sum.halfSums", laid_twine_sum_halfSums), ("twine/sum.firstWords", laid_twine_sum_firstWords), ("twine/sum.roundWords", laid_twine_sum_roundWords)], narrowed := true }
def LiftTwiceUptoSaid : Prop := liftTwiceUptoRow.holds Tryz.pinned (OpenSpec.upto liftTwiceSpec)

end Rows
end Go.Proofs.YtjikkhbcbfpocaaGreatDoor
