/-
  NARROWER THAN 'FOR EVERY INPUT', by the rows' own cells (each row's printed sentence says how): RuleNexts: laid · RuleRaws: laid · RuleAlls: laid · RuleSpans: laid · RuleKeeps: laid · RuleBack: laid.
  DERIVED. THE GIVEN ROWS OF THIS SEAT. 6 by the template 'for every input the law returns true; each argument reads behind the call as it read before'; 0 by the template 'total and deterministic' (their statements: YtjgmbjfijpmhdaaGreatDoorTotals.lean).
  GIVEN WITH THE SEED: the statements are not yours to turn. If you find one false, say at which input.
  Laid BY PROGRAM, IN A SANDBOX (cutbox-rows.mjs): the forced cells as the released guide's own fill.sh prints them over the translation e06c5c2e2393fce3… (all of the seat's roots in one cut). By AI agents, Wed Nov 11 2026. No macro, syntax, notation, axiom, sorry.
-/
import Derived.Test.YtjgmbjfijpmhdaaGreatDoorChecked
import GoSem.PinnedTables
import GoSem.Claim
import GoSem.ClaimJoined
import GoSem.ClaimMapViews
import Derived.JoinedTies
import Derived.KernelRfl
namespace Go.Proofs.YtjgmbjfijpmhdaaGreatDoor
/- THE CELL 'sum', in the pinned program and in every row, IS THE sha256 OF THE DUMP (.gsa) THAT YtjgmbjfijpmhdaaGreatDoorProg.lean LOADS. Nothing in Lean hashes anything: it is a label: what it is worth is what the hold of that sum in a sandbox is worth. -/
noncomputable def Tryz.pinned : Pinned := { name := "ytjgmbjfijpmhdaagreatdoor", sum := "e06c5c2e2393fce3588c51b77faf1ac94933a4457050f22302299d0641552dff", checked := Tryz.checked }
namespace Rows
def none {H : Type} : Left H := { results := [], args := [] }

/- WHAT THE LISTED PACKAGE-LEVEL VARIABLES READ AS WHEN THE CALL BEGINS. Each datum BY PROGRAM (the guide's laid-datum.mjs) off the statement by which the dump's own 'gosem.cut.vars' lays the variable. In a bare row this is a premise. The card (YtjgmbjfijpmhdaaGreatDoorCards.lean) ties it to the program's text. -/
def laid_math_bits_deBruijn32tab {H : Type} : DataW H := .agg [.lit (.int .u8 0), .lit (.int .u8 1), .lit (.int .u8 28), .lit (.int .u8 2), .lit (.int .u8 29), .lit (.int .u8 14), .lit (.int .u8 24), .lit (.int .u8 3), .lit (.int .u8 30), .lit (.int .u8 22), .lit (.int .u8 20), .lit (.int .u8 15), .lit (.int .u8 25), .lit (.int .u8 17), .lit (.int .u8 4), .lit (.int .u8 8), .lit (.int .u8 31), .lit (.int .u8 27), .lit (.int .u8 13), .lit (.int .u8 23), .lit (.int .u8 21), .lit (.int .u8 19), .lit (.int .u8 16), .lit (.int .u8 7), .lit (.int .u8 26), .lit (.int .u8 12), .lit (.int .u8 18), .lit (.int .u8 6), .lit (.int .u8 11), .lit (.int .u8 5), .lit (.int .u8 10), .lit (.int .u8 9)]
def laid_math_bits_deBruijn64tab {H : Type} : DataW H := .agg [.lit (.int .u8 0), .lit (.int .u8 1), .lit (.int .u8 56), .lit (.int .u8 2), .lit (.int .u8 57), .lit (.int .u8 49), .lit (.int .u8 28), .lit (.int .u8 3), .lit (.int .u8 61), .lit (.int .u8 58), .lit (.int .u8 42), .lit (.int .u8 50), .lit (.int .u8 38), .lit (.int .u8 29), .lit (.int .u8 17), .lit (.int .u8 4), .lit (.int .u8 62), .lit (.int .u8 47), .lit (.int .u8 59), .lit (.int .u8 36), .lit (.int .u8 45), .lit (.int .u8 43), .lit (.int .u8 51), .lit (.int .u8 22), .lit (.int .u8 53), .lit (.int .u8 39), .lit (.int .u8 33), .lit (.int .u8 30), .lit (.int .u8 24), .lit (.int .u8 18), .lit (.int .u8 12), .lit (.int .u8 5), .lit (.int .u8 63), .lit (.int .u8 55), .lit (.int .u8 48), .lit (.int .u8 27), .lit (.int .u8 60), .lit (.int .u8 41), .lit (.int .u8 37), .lit (.int .u8 16), .lit (.int .u8 46), .lit (.int .u8 35), .lit (.int .u8 44), .lit (.int .u8 21), .lit (.int .u8 52), .lit (.int .u8 32), .lit (.int .u8 23), .lit (.int .u8 11), .lit (.int .u8 54), .lit (.int .u8 26), .lit (.int .u8 40), .lit (.int .u8 15), .lit (.int .u8 34), .lit (.int .u8 20), .lit (.int .u8 31), .lit (.int .u8 10), .lit (.int .u8 25), .lit (.int .u8 14), .lit (.int .u8 19), .lit (.int .u8 9), .lit (.int .u8 13), .lit (.int .u8 8), .lit (.int .u8 7), .lit (.int .u8 6)]
def laid_internal_strconv_uint64pow10 {H : Type} : DataW H := .agg [.lit (.int .u64 1), .lit (.int .u64 10), .lit (.int .u64 100), .lit (.int .u64 1000), .lit (.int .u64 10000), .lit (.int .u64 100000), .lit (.int .u64 1000000), .lit (.int .u64 10000000), .lit (.int .u64 100000000), .lit (.int .u64 1000000000), .lit (.int .u64 10000000000), .lit (.int .u64 100000000000), .lit (.int .u64 1000000000000), .lit (.int .u64 10000000000000), .lit (.int .u64 100000000000000), .lit (.int .u64 1000000000000000), .lit (.int .u64 10000000000000000), .lit (.int .u64 100000000000000000), .lit (.int .u64 1000000000000000000), .lit (.int .u64 10000000000000000000)]
def laid_unicode_utf8_acceptRanges {H : Type} : DataW H := .agg [.agg [.lit (.int .u8 128), .lit (.int .u8 191)], .agg [.lit (.int .u8 160), .lit (.int .u8 191)], .agg [.lit (.int .u8 128), .lit (.int .u8 159)], .agg [.lit (.int .u8 144), .lit (.int .u8 191)], .agg [.lit (.int .u8 128), .lit (.int .u8 143)], .agg [.lit (.int .u8 0), .lit (.int .u8 0)], .agg [.lit (.int .u8 0), .lit (.int .u8 0)], .agg [.lit (.int .u8 0), .lit (.int .u8 0)], .agg [.lit (.int .u8 0), .lit (.int .u8 0)], .agg [.lit (.int .u8 0), .lit (.int .u8 0)], .agg [.lit (.int .u8 0), .lit (.int .u8 0)], .agg [.lit (.int .u8 0), .lit (.int .u8 0)], .agg [.lit (.int .u8 0), .lit (.int .u8 0)], .agg [.lit (.int .u8 0), .lit (.int .u8 0)], .agg [.lit (.int .u8 0), .lit (.int .u8 0)], .agg [.lit (.int .u8 0), .lit (.int .u8 0)]]
def laid_strconv_ErrRange {H : Type} : DataW H := .iface "*errors.errorString" (.ptr (.agg [.lit (.string [118, 97, 108, 117, 101, 32, 111, 117, 116, 32, 111, 102, 32, 114, 97, 110, 103, 101])]))
def laid_strconv_ErrSyntax {H : Type} : DataW H := .iface "*errors.errorString" (.ptr (.agg [.lit (.string [105, 110, 118, 97, 108, 105, 100, 32, 115, 121, 110, 116, 97, 120])]))
def laid_transposal_day_lengths {H : Type} : DataW H := .agg [.lit (.int .i64 31), .lit (.int .i64 28), .lit (.int .i64 31), .lit (.int .i64 30), .lit (.int .i64 31), .lit (.int .i64 30), .lit (.int .i64 31), .lit (.int .i64 31), .lit (.int .i64 30), .lit (.int .i64 31), .lit (.int .i64 30), .lit (.int .i64 31)]
def laid_transposal_script_words {H : Type} : DataW H := .agg [.lit (.string [114, 101, 110, 117, 109, 98, 101, 114]), .lit (.string [114, 101, 110, 97, 109, 101]), .lit (.string [114, 101, 112, 97, 114, 101, 110, 116]), .lit (.string [109, 101, 114, 103, 101]), .lit (.string [115, 112, 108, 105, 116]), .lit (.string [114, 101, 99, 111, 100, 101]), .lit (.string [106, 111, 105, 110]), .lit (.string [99, 97, 108, 101, 110, 100, 97, 114])]
def laid_transposal_script_links {H : Type} : DataW H := .agg [.lit (.string [116, 111]), .lit (.string []), .lit (.string [117, 110, 100, 101, 114]), .lit (.string [105, 110, 116, 111]), .lit (.string [105, 110, 116, 111]), .lit (.string [116, 111]), .lit (.string [105, 110, 116, 111]), .lit (.string [117, 110, 116, 105, 108])]
/-- One of Go's own tables, pinned by name: the form's constant. -/
def laid_unicode_utf8_first : DataW Unit := Go.Pinned.utf8First

/-- 'transposallaw15.RuleNexts': WHATEVER THE INPUT: true; the input reads as it did. -/
def ruleNextsSpec : ChangeSpec := { name := "ruleNexts", fn := fun _ => fun
  | [d1, d2, d3, d4, d5, d6] => { results := [.lit (.bool true)], args := [d1, d2, d3, d4, d5, d6] }
  | _ => none }
def ruleNextsRow : OpenClaim := { program := "ytjgmbjfijpmhdaagreatdoor", sum := "e06c5c2e2393fce3588c51b77faf1ac94933a4457050f22302299d0641552dff", func := "transposal/transposallaw15.RuleNexts", spec := "ruleNexts", inPlace := ["slices.overlaps[uint16]", "internal/bytealg.IndexByteString", "internal/bytealg.IndexString", "internal/abi.NoEscape", "internal/bytealg.MakeNoZero"], unfollowed := true, recurses := true, named := ["transposal/day.lengths", "internal/bytealg.MaxLen", "internal/strconv.uint64pow10", "math/bits.deBruijn32tab", "math/bits.deBruijn64tab", "strconv.ErrSyntax", "strconv.ErrRange", "transposal/script.words", "transposal/script.links", "unicode/utf8.first", "unicode/utf8.acceptRanges"], apart := false, laid := [("math/bits.deBruijn32tab", laid_math_bits_deBruijn32tab), ("math/bits.deBruijn64tab", laid_math_bits_deBruijn64tab), ("internal/strconv.uint64pow10", laid_internal_strconv_uint64pow10), ("unicode/utf8.acceptRanges", laid_unicode_utf8_acceptRanges), ("strconv.ErrRange", laid_strconv_ErrRange), ("strconv.ErrSyntax", laid_strconv_ErrSyntax), ("transposal/day.lengths", laid_transposal_day_lengths), ("transposal/script.words", laid_transposal_script_words), ("transposal/script.links", laid_transposal_script_links), ("unicode/utf8.first", laid_unicode_utf8_first)] }
def RuleNextsSaid : Prop := ruleNextsRow.holds Tryz.pinned (OpenSpec.ofChange ruleNextsSpec)

/-- ITS FALSE NEIGHBOUR: 'it returns false'. Refute it at one input. -/
def ruleNextsWrong : ChangeSpec := { name := "ruleNexts", fn := fun _ => fun
  | [d1, d2, d3, d4, d5, d6] => { results := [.lit (.bool false)], args := [d1, d2, d3, d4, d5, d6] }
  | _ => none }
def RuleNextsWrongFalsely : Prop := ruleNextsRow.holds Tryz.pinned (OpenSpec.ofChange ruleNextsWrong)

/-- 'transposallaw15.RuleRaws': WHATEVER THE INPUT: true; the input reads as it did. -/
def ruleRawsSpec : ChangeSpec := { name := "ruleRaws", fn := fun _ => fun
  | [d1, d2, d3] => { results := [.lit (.bool true)], args := [d1, d2, d3] }
  | _ => none }
def ruleRawsRow : OpenClaim := { program := "ytjgmbjfijpmhdaagreatdoor", sum := "e06c5c2e2393fce3588c51b77faf1ac94933a4457050f22302299d0641552dff", func := "transposal/transposallaw15.RuleRaws", spec := "ruleRaws", inPlace := ["slices.overlaps[uint16]", "internal/bytealg.IndexByteString", "internal/bytealg.IndexString", "internal/abi.NoEscape", "internal/bytealg.MakeNoZero"], unfollowed := true, recurses := true, named := ["transposal/day.lengths", "internal/bytealg.MaxLen", "internal/strconv.uint64pow10", "math/bits.deBruijn32tab", "math/bits.deBruijn64tab", "strconv.ErrSyntax", "strconv.ErrRange", "transposal/script.words", "transposal/script.links", "unicode/utf8.first", "unicode/utf8.acceptRanges"], apart := false, laid := [("math/bits.deBruijn32tab", laid_math_bits_deBruijn32tab), ("math/bits.deBruijn64tab", laid_math_bits_deBruijn64tab), ("internal/strconv.uint64pow10", laid_internal_strconv_uint64pow10), ("unicode/utf8.acceptRanges", laid_unicode_utf8_acceptRanges), ("strconv.ErrRange", laid_strconv_ErrRange), ("strconv.ErrSyntax", laid_strconv_ErrSyntax), ("transposal/day.lengths", laid_transposal_day_lengths), ("transposal/script.words", laid_transposal_script_words), ("transposal/script.links", laid_transposal_script_links), ("unicode/utf8.first", laid_unicode_utf8_first)] }
def RuleRawsSaid : Prop := ruleRawsRow.holds Tryz.pinned (OpenSpec.ofChange ruleRawsSpec)

/-- ITS FALSE NEIGHBOUR: 'it returns false'. Refute it at one input. -/
def ruleRawsWrong : ChangeSpec := { name := "ruleRaws", fn := fun _ => fun
  | [d1, d2, d3] => { results := [.lit (.bool false)], args := [d1, d2, d3] }
  | _ => none }
def RuleRawsWrongFalsely : Prop := ruleRawsRow.holds Tryz.pinned (OpenSpec.ofChange ruleRawsWrong)

/-- 'transposallaw15.RuleAlls': WHATEVER THE INPUT: true; the input reads as it did. -/
def ruleAllsSpec : ChangeSpec := { name := "ruleAlls", fn := fun _ => fun
  | [d1, d2, d3] => { results := [.lit (.bool true)], args := [d1, d2, d3] }
  | _ => none }
def ruleAllsRow : OpenClaim := { program := "ytjgmbjfijpmhdaagreatdoor", sum := "e06c5c2e2393fce3588c51b77faf1ac94933a4457050f22302299d0641552dff", func := "transposal/transposallaw15.RuleAlls", spec := "ruleAlls", inPlace := ["slices.overlaps[uint16]", "internal/bytealg.IndexByteString", "internal/bytealg.IndexString", "internal/abi.NoEscape", "internal/bytealg.MakeNoZero"], unfollowed := true, recurses := true, named := ["transposal/day.lengths", "internal/bytealg.MaxLen", "internal/strconv.uint64pow10", "math/bits.deBruijn32tab", "math/bits.deBruijn64tab", "strconv.ErrSyntax", "strconv.ErrRange", "transposal/script.words", "transposal/script.links", "unicode/utf8.first", "unicode/utf8.acceptRanges"], apart := false, laid := [("math/bits.deBruijn32tab", laid_math_bits_deBruijn32tab), ("math/bits.deBruijn64tab", laid_math_bits_deBruijn64tab), ("internal/strconv.uint64pow10", laid_internal_strconv_uint64pow10), ("unicode/utf8.acceptRanges", laid_unicode_utf8_acceptRanges), ("strconv.ErrRange", laid_strconv_ErrRange), ("strconv.ErrSyntax", laid_strconv_ErrSyntax), ("transposal/day.lengths", laid_transposal_day_lengths), ("transposal/script.words", laid_transposal_script_words), ("transposal/script.links", laid_transposal_script_links), ("unicode/utf8.first", laid_unicode_utf8_first)] }
def RuleAllsSaid : Prop := ruleAllsRow.holds Tryz.pinned (OpenSpec.ofChange ruleAllsSpec)

/-- ITS FALSE NEIGHBOUR: 'it returns false'. Refute it at one input. -/
def ruleAllsWrong : ChangeSpec := { name := "ruleAlls", fn := fun _ => fun
  | [d1, d2, d3] => { results := [.lit (.bool false)], args := [d1, d2, d3] }
  | _ => none }
def RuleAllsWrongFalsely : Prop := ruleAllsRow.holds Tryz.pinned (OpenSpec.ofChange ruleAllsWrong)

/-- 'transposallaw15.RuleSpans': WHATEVER THE INPUT: true; the input reads as it did. -/
def ruleSpansSpec : ChangeSpec := { name := "ruleSpans", fn := fun _ => fun
  | [d] => { results := [.lit (.bool true)], args := [d] }
  | _ => none }
def ruleSpansRow : OpenClaim := { program := "ytjgmbjfijpmhdaagreatdoor", sum := "e06c5c2e2393fce3588c51b77faf1ac94933a4457050f22302299d0641552dff", func := "transposal/transposallaw15.RuleSpans", spec := "ruleSpans", inPlace := ["slices.overlaps[uint16]", "internal/bytealg.IndexByteString", "internal/bytealg.IndexString", "internal/abi.NoEscape", "internal/bytealg.MakeNoZero"], unfollowed := true, recurses := true, named := ["transposal/day.lengths", "internal/bytealg.MaxLen", "internal/strconv.uint64pow10", "math/bits.deBruijn32tab", "math/bits.deBruijn64tab", "strconv.ErrSyntax", "strconv.ErrRange", "transposal/script.words", "transposal/script.links"], apart := false, laid := [("math/bits.deBruijn32tab", laid_math_bits_deBruijn32tab), ("math/bits.deBruijn64tab", laid_math_bits_deBruijn64tab), ("internal/strconv.uint64pow10", laid_internal_strconv_uint64pow10), ("strconv.ErrRange", laid_strconv_ErrRange), ("strconv.ErrSyntax", laid_strconv_ErrSyntax), ("transposal/day.lengths", laid_transposal_day_lengths), ("transposal/script.words", laid_transposal_script_words), ("transposal/script.links", laid_transposal_script_links)] }
def RuleSpansSaid : Prop := ruleSpansRow.holds Tryz.pinned (OpenSpec.ofChange ruleSpansSpec)

/-- ITS FALSE NEIGHBOUR: 'it returns false'. Refute it at one input. -/
def ruleSpansWrong : ChangeSpec := { name := "ruleSpans", fn := fun _ => fun
  | [d] => { results := [.lit (.bool false)], args := [d] }
  | _ => none }
def RuleSpansWrongFalsely : Prop := ruleSpansRow.holds Tryz.pinned (OpenSpec.ofChange ruleSpansWrong)

/-- 'transposallaw15.RuleKeeps': WHATEVER THE INPUT: true; the input reads as it did. -/
def ruleKeepsSpec : ChangeSpec := { name := "ruleKeeps", fn := fun _ => fun
  | [d1, d2] => { results := [.lit (.bool true)], args := [d1, d2] }
  | _ => none }
def ruleKeepsRow : OpenClaim := { program := "ytjgmbjfijpmhdaagreatdoor", sum := "e06c5c2e2393fce3588c51b77faf1ac94933a4457050f22302299d0641552dff", func := "transposal/transposallaw15.RuleKeeps", spec := "ruleKeeps", inPlace := ["slices.overlaps[uint16]", "internal/bytealg.IndexByteString", "internal/bytealg.IndexString", "internal/abi.NoEscape", "internal/bytealg.MakeNoZero"], unfollowed := true, recurses := true, named := ["transposal/day.lengths", "internal/bytealg.MaxLen", "internal/strconv.uint64pow10", "math/bits.deBruijn32tab", "math/bits.deBruijn64tab", "strconv.ErrSyntax", "strconv.ErrRange", "transposal/script.words", "transposal/script.links"], apart := false, laid := [("math/bits.deBruijn32tab", laid_math_bits_deBruijn32tab), ("math/bits.deBruijn64tab", laid_math_bits_deBruijn64tab), ("internal/strconv.uint64pow10", laid_internal_strconv_uint64pow10), ("strconv.ErrRange", laid_strconv_ErrRange), ("strconv.ErrSyntax", laid_strconv_ErrSyntax), ("transposal/day.lengths", laid_transposal_day_lengths), ("transposal/script.words", laid_transposal_script_words), ("transposal/script.links", laid_transposal_script_links)] }
def RuleKeepsSaid : Prop := ruleKeepsRow.holds Tryz.pinned (OpenSpec.ofChange ruleKeepsSpec)

/-- ITS FALSE NEIGHBOUR: 'it returns false'. Refute it at one input. -/
def ruleKeepsWrong : ChangeSpec := { name := "ruleKeeps", fn := fun _ => fun
  | [d1, d2] => { results := [.lit (.bool false)], args := [d1, d2] }
  | _ => none }
def RuleKeepsWrongFalsely : Prop := ruleKeepsRow.holds Tryz.pinned (OpenSpec.ofChange ruleKeepsWrong)

/-- 'transposallaw15.RuleBack': WHATEVER THE INPUT: true; the input reads as it did. -/
def ruleBackSpec : ChangeSpec := { name := "ruleBack", fn := fun _ => fun
  | [d1, d2, d3, d4] => { results := [.lit (.bool true)], args := [d1, d2, d3, d4] }
  | _ => none }
def ruleBackRow : OpenClaim := { program := "ytjgmbjfijpmhdaagreatdoor", sum := "e06c5c2e2393fce3588c51b77faf1ac94933a4457050f22302299d0641552dff", func := "transposal/transposallaw15.RuleBack", spec := "ruleBack", inPlace := ["slices.overlaps[uint16]", "internal/bytealg.IndexByteString", "internal/bytealg.IndexString", "internal/abi.NoEscape", "internal/bytealg.MakeNoZero"], unfollowed := true, recurses := true, named := ["transposal/day.lengths", "internal/bytealg.MaxLen", "internal/strconv.uint64pow10", "math/bits.deBruijn32tab", "math/bits.deBruijn64tab", "strconv.ErrSyntax", "strconv.ErrRange", "transposal/script.words", "transposal/script.links"], apart := false, laid := [("math/bits.deBruijn32tab", laid_math_bits_deBruijn32tab), ("math/bits.deBruijn64tab", laid_math_bits_deBruijn64tab), ("internal/strconv.uint64pow10", laid_internal_strconv_uint64pow10), ("strconv.ErrRange", laid_strconv_ErrRange), ("strconv.ErrSyntax", laid_strconv_ErrSyntax), ("transposal/day.lengths", laid_transposal_day_lengths), ("transposal/script.words", laid_transposal_script_words), ("transposal/script.links", laid_transposal_script_links)] }
def RuleBackSaid : Prop := ruleBackRow.holds Tryz.pinned (OpenSpec.ofChange ruleBackSpec)

/-- ITS FALSE NEIGHBOUR: 'it returns false'. Refute it at one input. -/
def ruleBackWrong : ChangeSpec := { name := "ruleBack", fn := fun _ => fun
  | [d1, d2, d3, d4] => { results := [.lit (.bool false)], args := [d1, d2, d3, d4] }
  | _ => none }
def RuleBackWrongFalsely : Prop := ruleBackRow.holds Tryz.pinned (OpenSpec.ofChange ruleBackWrong)

/- THE SECOND FORM. 'bulk': how many values and letters a reading holds, each counted each time it is reached (what is shared counts as often as it is met; a slice's spare places count too). A statement '..UptoSaid' is the law's where the arguments, and the package variables that the reading takes, are together of bulk at most 1048576: NARROWER than '..Said'. Prove '..Said' where nothing that the law and all that it calls make is longer than what came in: it says more and counts as full. Else prove '..UptoSaid'. A law counts once. -/
mutual
def uptoBulk {H : Type} : DataW H → Nat
  | .lit (.string bytes) => bytes.length + 1
  | .lit _ => 1
  | .nil => 1
  | .ptr d => uptoBulk d + 1
  | .slice elems spare => uptoBulkAll elems + uptoBulkAll spare + 1
  | .agg parts => uptoBulkAll parts + 1
  | .iface _ d => uptoBulk d + 1
  | .map entries => uptoBulkEntries entries + 1
  | .held _ => 1
def uptoBulkAll {H : Type} : List (DataW H) → Nat
  | [] => 0
  | d :: r => uptoBulk d + uptoBulkAll r
def uptoBulkEntries {H : Type} : List (Lit × DataW H) → Nat
  | [] => 0
  | x :: r => uptoBulkEntry x + uptoBulkEntries r
def uptoBulkEntry {H : Type} : Lit × DataW H → Nat
  | (.string bytes, d) => bytes.length + uptoBulk d + 1
  | (_, d) => uptoBulk d + 1
 end
def uptoSmall : (H : Type) → List (DataW H) → Bool := fun _ ds => decide (uptoBulkAll ds ≤ 1048576)
def OpenSpec.upto (s : _root_.Go.ChangeSpec) : _root_.Go.OpenSpec := { _root_.Go.OpenSpec.ofChange s with cond := some uptoSmall }

/-- 'transposallaw15.RuleNexts', WHERE WHAT IT READS IS OF BULK AT MOST 1048576: true; the input reads as it did. -/
def ruleNextsUptoRow : OpenClaim := { program := "ytjgmbjfijpmhdaagreatdoor", sum := "e06c5c2e2393fce3588c51b77faf1ac94933a4457050f22302299d0641552dff", func := "transposal/transposallaw15.RuleNexts", spec := "ruleNexts", inPlace := ["slices.overlaps[uint16]", "internal/bytealg.IndexByteString", "internal/bytealg.IndexString", "internal/abi.NoEscape", "internal/bytealg.MakeNoZero"], unfollowed := true, recurses := true, named := ["transposal/day.lengths", "internal/bytealg.MaxLen", "internal/strconv.uint64pow10", "math/bits.deBruijn32tab", "math/bits.deBruijn64tab", "strconv.ErrSyntax", "strconv.ErrRange", "transposal/script.words", "transposal/script.links", "unicode/utf8.first", "unicode/utf8.acceptRanges"], apart := false, laid := [("math/bits.deBruijn32tab", laid_math_bits_deBruijn32tab), ("math/bits.deBruijn64tab", laid_math_bits_deBruijn64tab), ("internal/strconv.uint64pow10", laid_internal_strconv_uint64pow10), ("unicode/utf8.acceptRanges", laid_unicode_utf8_acceptRanges), ("strconv.ErrRange", laid_strconv_ErrRange), ("strconv.ErrSyntax", laid_strconv_ErrSyntax), ("transposal/day.lengths", laid_transposal_day_lengths), ("transposal/script.words", laid_transposal_script_words), ("transposal/script.links", laid_transposal_script_links), ("unicode/utf8.first", laid_unicode_utf8_first)], narrowed := true }
def RuleNextsUptoSaid : Prop := ruleNextsUptoRow.holds Tryz.pinned (OpenSpec.upto ruleNextsSpec)

/-- 'transposallaw15.RuleRaws', WHERE WHAT IT READS IS OF BULK AT MOST 1048576: true; the input reads as it did. -/
def ruleRawsUptoRow : OpenClaim := { program := "ytjgmbjfijpmhdaagreatdoor", sum := "e06c5c2e2393fce3588c51b77faf1ac94933a4457050f22302299d0641552dff", func := "transposal/transposallaw15.RuleRaws", spec := "ruleRaws", inPlace := ["slices.overlaps[uint16]", "internal/bytealg.IndexByteString", "internal/bytealg.IndexString", "internal/abi.NoEscape", "internal/bytealg.MakeNoZero"], unfollowed := true, recurses := true, named := ["transposal/day.lengths", "internal/bytealg.MaxLen", "internal/strconv.uint64pow10", "math/bits.deBruijn32tab", "math/bits.deBruijn64tab", "strconv.ErrSyntax", "strconv.ErrRange", "transposal/script.words", "transposal/script.links", "unicode/utf8.first", "unicode/utf8.acceptRanges"], apart := false, laid := [("math/bits.deBruijn32tab", laid_math_bits_deBruijn32tab), ("math/bits.deBruijn64tab", laid_math_bits_deBruijn64tab), ("internal/strconv.uint64pow10", laid_internal_strconv_uint64pow10), ("unicode/utf8.acceptRanges", laid_unicode_utf8_acceptRanges), ("strconv.ErrRange", laid_strconv_ErrRange), ("strconv.ErrSyntax", laid_strconv_ErrSyntax), ("transposal/day.lengths", laid_transposal_day_lengths), ("transposal/script.words", laid_transposal_script_words), ("transposal/script.links", laid_transposal_script_links), ("unicode/utf8.first", laid_unicode_utf8_first)], narrowed := true }
def RuleRawsUptoSaid : Prop := ruleRawsUptoRow.holds Tryz.pinned (OpenSpec.upto ruleRawsSpec)

/-- 'transposallaw15.RuleAlls', WHERE WHAT IT READS IS OF BULK AT MOST 1048576: true; the input reads as it did. -/
def ruleAllsUptoRow : OpenClaim := { program := "ytjgmbjfijpmhdaagreatdoor", sum := "e06c5c2e2393fce3588c51b77faf1ac94933a4457050f22302299d0641552dff", func := "transposal/transposallaw15.RuleAlls", spec := "ruleAlls", inPlace := ["slices.overlaps[uint16]", "internal/bytealg.IndexByteString", "internal/bytealg.IndexString", "internal/abi.NoEscape", "internal/bytealg.MakeNoZero"], unfollowed := true, recurses := true, named := ["transposal/day.lengths", "internal/bytealg.MaxLen", "internal/strconv.uint64pow10", "math/bits.deBruijn32tab", "math/bits.deBruijn64tab", "strconv.ErrSyntax", "strconv.ErrRange", "transposal/script.words", "transposal/script.links", "unicode/utf8.first", "unicode/utf8.acceptRanges"], apart := false, laid := [("math/bits.deBruijn32tab", laid_math_bits_deBruijn32tab), ("math/bits.deBruijn64tab", laid_math_bits_deBruijn64tab), ("internal/strconv.uint64pow10", laid_internal_strconv_uint64pow10), ("unicode/utf8.acceptRanges", laid_unicode_utf8_acceptRanges), ("strconv.ErrRange", laid_strconv_ErrRange), ("strconv.ErrSyntax", laid_strconv_ErrSyntax), ("transposal/day.lengths", laid_transposal_day_lengths), ("transposal/script.words", laid_transposal_script_words), ("transposal/script.links", laid_transposal_script_links), ("unicode/utf8.first", laid_unicode_utf8_first)], narrowed := true }
def RuleAllsUptoSaid : Prop := ruleAllsUptoRow.holds Tryz.pinned (OpenSpec.upto ruleAllsSpec)

/-- 'transposallaw15.RuleSpans', WHERE WHAT IT READS IS OF BULK AT MOST 1048576: true; the input reads as it did. -/
def ruleSpansUptoRow : OpenClaim := { program := "ytjgmbjfijpmhdaagreatdoor", sum := "e06c5c2e2393fce3588c51b77faf1ac94933a4457050f22302299d0641552dff", func := "transposal/transposallaw15.RuleSpans", spec := "ruleSpans", inPlace := ["slices.overlaps[uint16]", "internal/bytealg.IndexByteString", "internal/bytealg.IndexString", "internal/abi.NoEscape", "internal/bytealg.MakeNoZero"], unfollowed := true, recurses := true, named := ["transposal/day.lengths", "internal/bytealg.MaxLen", "internal/strconv.uint64pow10", "math/bits.deBruijn32tab", "math/bits.deBruijn64tab", "strconv.ErrSyntax", "strconv.ErrRange", "transposal/script.words", "transposal/script.links"], apart := false, laid := [("math/bits.deBruijn32tab", laid_math_bits_deBruijn32tab), ("math/bits.deBruijn64tab", laid_math_bits_deBruijn64tab), ("internal/strconv.uint64pow10", laid_internal_strconv_uint64pow10), ("strconv.ErrRange", laid_strconv_ErrRange), ("strconv.ErrSyntax", laid_strconv_ErrSyntax), ("transposal/day.lengths", laid_transposal_day_lengths), ("transposal/script.words", laid_transposal_script_words), ("transposal/script.links", laid_transposal_script_links)], narrowed := true }
def RuleSpansUptoSaid : Prop := ruleSpansUptoRow.holds Tryz.pinned (OpenSpec.upto ruleSpansSpec)

/-- 'transposallaw15.RuleKeeps', WHERE WHAT IT READS IS OF BULK AT MOST 1048576: true; the input reads as it did. -/
def ruleKeepsUptoRow : OpenClaim := { program := "ytjgmbjfijpmhdaagreatdoor", sum := "e06c5c2e2393fce3588c51b77faf1ac94933a4457050f22302299d0641552dff", func := "transposal/transposallaw15.RuleKeeps", spec := "ruleKeeps", inPlace := ["slices.overlaps[uint16]", "internal/bytealg.IndexByteString", "internal/bytealg.IndexString", "internal/abi.NoEscape", "internal/bytealg.MakeNoZero"], unfollowed := true, recurses := true, named := ["transposal/day.lengths", "internal/bytealg.MaxLen", "internal/strconv.uint64pow10", "math/bits.deBruijn32tab", "math/bits.deBruijn64tab", "strconv.ErrSyntax", "strconv.ErrRange", "transposal/script.words", "transposal/script.links"], apart := false, laid := [("math/bits.deBruijn32tab", laid_math_bits_deBruijn32tab), ("math/bits.deBruijn64tab", laid_math_bits_deBruijn64tab), ("internal/strconv.uint64pow10", laid_internal_strconv_uint64pow10), ("strconv.ErrRange", laid_strconv_ErrRange), ("strconv.ErrSyntax", laid_strconv_ErrSyntax), ("transposal/day.lengths", laid_transposal_day_lengths), ("transposal/script.words", laid_transposal_script_words), ("transposal/script.links", laid_transposal_script_links)], narrowed := true }
def RuleKeepsUptoSaid : Prop := ruleKeepsUptoRow.holds Tryz.pinned (OpenSpec.upto ruleKeepsSpec)

/-- 'transposallaw15.RuleBack', WHERE WHAT IT READS IS OF BULK AT MOST 1048576: true; the input reads as it did. -/
def ruleBackUptoRow : OpenClaim := { program := "ytjgmbjfijpmhdaagreatdoor", sum := "e06c5c2e2393fce3588c51b77faf1ac94933a4457050f22302299d0641552dff", func := "transposal/transposallaw15.RuleBack", spec := "ruleBack", inPlace := ["slices.overlaps[uint16]", "internal/bytealg.IndexByteString", "internal/bytealg.IndexString", "internal/abi.NoEscape", "internal/bytealg.MakeNoZero"], unfollowed := true, recurses := true, named := ["transposal/day.lengths", "internal/bytealg.MaxLen", "internal/strconv.uint64pow10", "math/bits.deBruijn32tab", "math/bits.deBruijn64tab", "strconv.ErrSyntax", "strconv.ErrRange", "transposal/script.words", "transposal/script.links"], apart := false, laid := [("math/bits.deBruijn32tab", laid_math_bits_deBruijn32tab), ("math/bits.deBruijn64tab", laid_math_bits_deBruijn64tab), ("internal/strconv.uint64pow10", laid_internal_strconv_uint64pow10), ("strconv.ErrRange", laid_strconv_ErrRange), ("strconv.ErrSyntax", laid_strconv_ErrSyntax), ("transposal/day.lengths", laid_transposal_day_lengths), ("transposal/script.words", laid_transposal_script_words), ("transposal/script.links", laid_transposal_script_links)], narrowed := true }
def RuleBackUptoSaid : Prop := ruleBackUptoRow.holds Tryz.pinned (OpenSpec.upto ruleBackSpec)

end Rows
end Go.Proofs.YtjgmbjfijpmhdaaGreatDoor
