/-
  No cell of these rows narrows 'for every input' (looked for: loops, veiled, ifaces, maps, wideKeys, modest, calm, conditions, laid).
  DERIVED. THE GIVEN ROWS OF THIS SEAT. 6 by the template 'for every input the law returns true; each argument reads behind the call as it read before'; 0 by the template 'total and deterministic' (their statements: YtfdmpahgoooepaaTotals.lean).
  GIVEN WITH THE SEED: the statements are not yours to turn. If you find one false, say at which input.
  Laid BY PROGRAM, IN A SANDBOX (cutbox-rows.mjs): the forced cells as the released guide's own fill.sh prints them over the translation c71bd6f7ac410027… (all of the seat's roots in one cut). By AI agents, Wed Nov 11 2026. No macro, syntax, notation, axiom, sorry.
-/
import Derived.Test.YtfdmpahgoooepaaChecked
import GoSem.Claim
import GoSem.ClaimJoined
import GoSem.ClaimMapViews
import Derived.JoinedTies
import Derived.KernelRfl
namespace Go.Proofs.Ytfdmpahgoooepaa
/- THE CELL 'sum', in the pinned program and in every row, IS THE sha256 OF THE DUMP (.gsa) THAT YtfdmpahgoooepaaProg.lean LOADS. Nothing in Lean hashes anything: it is a label: what it is worth is what the hold of that sum in a sandbox is worth. -/
noncomputable def Try.pinned : Pinned := { name := "ytfdmpahgoooepaa", sum := "c71bd6f7ac4100279b5f7d695e9ab334249af2bb94defb667ff9df5398de505d", checked := Try.checked }
namespace Rows
def none {H : Type} : Left H := { results := [], args := [] }

/-- 'selkielaw01.TallyCounts': WHATEVER THE INPUT: true; the input reads as it did. -/
def tallyCountsSpec : ChangeSpec := { name := "tallyCounts", fn := fun _ => fun
  | [d1, d2] => { results := [.lit (.bool true)], args := [d1, d2] }
  | _ => none }
def tallyCountsRow : OpenClaim := { program := "ytfdmpahgoooepaa", sum := "c71bd6f7ac4100279b5f7d695e9ab334249af2bb94defb667ff9df5398de505d", func := "selkie/selkielaw01.TallyCounts", spec := "tallyCounts", apart := false }
def TallyCountsSaid : Prop := tallyCountsRow.holds Try.pinned (OpenSpec.ofChange tallyCountsSpec)

/-- ITS FALSE NEIGHBOUR: 'it returns false'. Refute it at one input. -/
def tallyCountsWrong : ChangeSpec := { name := "tallyCounts", fn := fun _ => fun
  | [d1, d2] => { results := [.lit (.bool false)], args := [d1, d2] }
  | _ => none }
def TallyCountsWrongFalsely : Prop := tallyCountsRow.holds Try.pinned (OpenSpec.ofChange tallyCountsWrong)

/-- 'selkielaw01.TallySums': WHATEVER THE INPUT: true; the input reads as it did. -/
def tallySumsSpec : ChangeSpec := { name := "tallySums", fn := fun _ => fun
  | [d] => { results := [.lit (.bool true)], args := [d] }
  | _ => none }
def tallySumsRow : OpenClaim := { program := "ytfdmpahgoooepaa", sum := "c71bd6f7ac4100279b5f7d695e9ab334249af2bb94defb667ff9df5398de505d", func := "selkie/selkielaw01.TallySums", spec := "tallySums", apart := false }
def TallySumsSaid : Prop := tallySumsRow.holds Try.pinned (OpenSpec.ofChange tallySumsSpec)

/-- ITS FALSE NEIGHBOUR: 'it returns false'. Refute it at one input. -/
def tallySumsWrong : ChangeSpec := { name := "tallySums", fn := fun _ => fun
  | [d] => { results := [.lit (.bool false)], args := [d] }
  | _ => none }
def TallySumsWrongFalsely : Prop := tallySumsRow.holds Try.pinned (OpenSpec.ofChange tallySumsWrong)

/-- 'selkielaw01.TallyAmounts': WHATEVER THE INPUT: true; the input reads as it did. -/
def tallyAmountsSpec : ChangeSpec := { name := "tallyAmounts", fn := fun _ => fun
  | [d1, d2] => { results := [.lit (.bool true)], args := [d1, d2] }
  | _ => none }
def tallyAmountsRow : OpenClaim := { program := "ytfdmpahgoooepaa", sum := "c71bd6f7ac4100279b5f7d695e9ab334249af2bb94defb667ff9df5398de505d", func := "selkie/selkielaw01.TallyAmounts", spec := "tallyAmounts", apart := false }
def TallyAmountsSaid : Prop := tallyAmountsRow.holds Try.pinned (OpenSpec.ofChange tallyAmountsSpec)

/-- ITS FALSE NEIGHBOUR: 'it returns false'. Refute it at one input. -/
def tallyAmountsWrong : ChangeSpec := { name := "tallyAmounts", fn := fun _ => fun
  | [d1, d2] => { results := [.lit (.bool false)], args := [d1, d2] }
  | _ => none }
def TallyAmountsWrongFalsely : Prop := tallyAmountsRow.holds Try.pinned (OpenSpec.ofChange tallyAmountsWrong)

/-- 'selkielaw01.TallySizes': WHATEVER THE INPUT: true; the input reads as it did. -/
def tallySizesSpec : ChangeSpec := { name := "tallySizes", fn := fun _ => fun
  | [d1, d2] => { results := [.lit (.bool true)], args := [d1, d2] }
  | _ => none }
def tallySizesRow : OpenClaim := { program := "ytfdmpahgoooepaa", sum := "c71bd6f7ac4100279b5f7d695e9ab334249af2bb94defb667ff9df5398de505d", func := "selkie/selkielaw01.TallySizes", spec := "tallySizes", apart := false }
def TallySizesSaid : Prop := tallySizesRow.holds Try.pinned (OpenSpec.ofChange tallySizesSpec)

/-- ITS FALSE NEIGHBOUR: 'it returns false'. Refute it at one input. -/
def tallySizesWrong : ChangeSpec := { name := "tallySizes", fn := fun _ => fun
  | [d1, d2] => { results := [.lit (.bool false)], args := [d1, d2] }
  | _ => none }
def TallySizesWrongFalsely : Prop := tallySizesRow.holds Try.pinned (OpenSpec.ofChange tallySizesWrong)

/-- 'selkielaw01.TallyAnyhow': WHATEVER THE INPUT: true; the input reads as it did. -/
def tallyAnyhowSpec : ChangeSpec := { name := "tallyAnyhow", fn := fun _ => fun
  | [d1, d2, d3, d4] => { results := [.lit (.bool true)], args := [d1, d2, d3, d4] }
  | _ => none }
def tallyAnyhowRow : OpenClaim := { program := "ytfdmpahgoooepaa", sum := "c71bd6f7ac4100279b5f7d695e9ab334249af2bb94defb667ff9df5398de505d", func := "selkie/selkielaw01.TallyAnyhow", spec := "tallyAnyhow", apart := false }
def TallyAnyhowSaid : Prop := tallyAnyhowRow.holds Try.pinned (OpenSpec.ofChange tallyAnyhowSpec)

/-- ITS FALSE NEIGHBOUR: 'it returns false'. Refute it at one input. -/
def tallyAnyhowWrong : ChangeSpec := { name := "tallyAnyhow", fn := fun _ => fun
  | [d1, d2, d3, d4] => { results := [.lit (.bool false)], args := [d1, d2, d3, d4] }
  | _ => none }
def TallyAnyhowWrongFalsely : Prop := tallyAnyhowRow.holds Try.pinned (OpenSpec.ofChange tallyAnyhowWrong)

/-- 'selkielaw01.TallyBack': WHATEVER THE INPUT: true; the input reads as it did. -/
def tallyBackSpec : ChangeSpec := { name := "tallyBack", fn := fun _ => fun
  | [d1, d2] => { results := [.lit (.bool true)], args := [d1, d2] }
  | _ => none }
def tallyBackRow : OpenClaim := { program := "ytfdmpahgoooepaa", sum := "c71bd6f7ac4100279b5f7d695e9ab334249af2bb94defb667ff9df5398de505d", func := "selkie/selkielaw01.TallyBack", spec := "tallyBack", apart := false }
def TallyBackSaid : Prop := tallyBackRow.holds Try.pinned (OpenSpec.ofChange tallyBackSpec)

/-- ITS FALSE NEIGHBOUR: 'it returns false'. Refute it at one input. -/
def tallyBackWrong : ChangeSpec := { name := "tallyBack", fn := fun _ => fun
  | [d1, d2] => { results := [.lit (.bool false)], args := [d1, d2] }
  | _ => none }
def TallyBackWrongFalsely : Prop := tallyBackRow.holds Try.pinned (OpenSpec.ofChange tallyBackWrong)

/- THE SECOND FORM. 'bulk': how many values and letters a reading holds, each counted each time it is reached (what is shared counts as often as it is met; a slice's spare places count too). A statement '..UptoSaid' is the law's where the arguments, and the package variables that the reading takes, are together of bulk at most 1048576: NARROWER than '..Said'. Prove '..Said' where nothing that the law and all that it calls make is longer than what came in: it says more and counts as full. Else prove '..UptoSaid'. A law counts once. -/
mutual
def uptoBulk {H : Type} : DataW H → Nat
  | .lit (.string bytes) => bytes.length + 1
  | .lit _ => 1
  | .nil => 1
  | .ptr d => uptoBulk d + 1
  | .slice elems spare => uptoBulkAll elems + uptoBulkAll spare + 1
  | .agg parts => uptoBulkAll parts + 1
  | .iface _ d => uptoBulk d + 1
  | .map entries => uptoBulkEntries entries + 1
  | .held _ => 1
def uptoBulkAll {H : Type} : List (DataW H) → Nat
  | [] => 0
  | d :: r => uptoBulk d + uptoBulkAll r
def uptoBulkEntries {H : Type} : List (Lit × DataW H) → Nat
  | [] => 0
  | x :: r => uptoBulkEntry x + uptoBulkEntries r
def uptoBulkEntry {H : Type} : Lit × DataW H → Nat
  | (.string bytes, d) => bytes.length + uptoBulk d + 1
  | (_, d) => uptoBulk d + 1
 end
def uptoSmall : (H : Type) → List (DataW H) → Bool := fun _ ds => decide (uptoBulkAll ds ≤ 1048576)
def OpenSpec.upto (s : _root_.Go.ChangeSpec) : _root_.Go.OpenSpec := { _root_.Go.OpenSpec.ofChange s with cond := some uptoSmall }

/-- 'selkielaw01.TallyCounts', WHERE WHAT IT READS IS OF BULK AT MOST 1048576: true; the input reads as it did. -/
def tallyCountsUptoRow : OpenClaim := { program := "ytfdmpahgoooepaa", sum := "c71bd6f7ac4100279b5f7d695e9ab334249af2bb94defb667ff9df5398de505d", func := "selkie/selkielaw01.TallyCounts", spec := "tallyCounts", apart := false, narrowed := true }
def TallyCountsUptoSaid : Prop := tallyCountsUptoRow.holds Try.pinned (OpenSpec.upto tallyCountsSpec)

/-- 'selkielaw01.TallySums', WHERE WHAT IT READS IS OF BULK AT MOST 1048576: true; the input reads as it did. -/
def tallySumsUptoRow : OpenClaim := { program := "ytfdmpahgoooepaa", sum := "c71bd6f7ac4100279b5f7d695e9ab334249af2bb94defb667ff9df5398de505d", func := "selkie/selkielaw01.TallySums", spec := "tallySums", apart := false, narrowed := true }
def TallySumsUptoSaid : Prop := tallySumsUptoRow.holds Try.pinned (OpenSpec.upto tallySumsSpec)

/-- 'selkielaw01.TallyAmounts', WHERE WHAT IT READS IS OF BULK AT MOST 1048576: true; the input reads as it did. -/
def tallyAmountsUptoRow : OpenClaim := { program := "ytfdmpahgoooepaa", sum := "c71bd6f7ac4100279b5f7d695e9ab334249af2bb94defb667ff9df5398de505d", func := "selkie/selkielaw01.TallyAmounts", spec := "tallyAmounts", apart := false, narrowed := true }
def TallyAmountsUptoSaid : Prop := tallyAmountsUptoRow.holds Try.pinned (OpenSpec.upto tallyAmountsSpec)

/-- 'selkielaw01.TallySizes', WHERE WHAT IT READS IS OF BULK AT MOST 1048576: true; the input reads as it did. -/
def tallySizesUptoRow : OpenClaim := { program := "ytfdmpahgoooepaa", sum := "c71bd6f7ac4100279b5f7d695e9ab334249af2bb94defb667ff9df5398de505d", func := "selkie/selkielaw01.TallySizes", spec := "tallySizes", apart := false, narrowed := true }
def TallySizesUptoSaid : Prop := tallySizesUptoRow.holds Try.pinned (OpenSpec.upto tallySizesSpec)

/-- 'selkielaw01.TallyAnyhow', WHERE WHAT IT READS IS OF BULK AT MOST 1048576: true; the input reads as it did. -/
def tallyAnyhowUptoRow : OpenClaim := { program := "ytfdmpahgoooepaa", sum := "c71bd6f7ac4100279b5f7d695e9ab334249af2bb94defb667ff9df5398de505d", func := "selkie/selkielaw01.TallyAnyhow", spec := "tallyAnyhow", apart := false, narrowed := true }
def TallyAnyhowUptoSaid : Prop := tallyAnyhowUptoRow.holds Try.pinned (OpenSpec.upto tallyAnyhowSpec)

/-- 'selkielaw01.TallyBack', WHERE WHAT IT READS IS OF BULK AT MOST 1048576: true; the input reads as it did. -/
def tallyBackUptoRow : OpenClaim := { program := "ytfdmpahgoooepaa", sum := "c71bd6f7ac4100279b5f7d695e9ab334249af2bb94defb667ff9df5398de505d", func := "selkie/selkielaw01.TallyBack", spec := "tallyBack", apart := false, narrowed := true }
def TallyBackUptoSaid : Prop := tallyBackUptoRow.holds Try.pinned (OpenSpec.upto tallyBackSpec)

end Rows
end Go.Proofs.Ytfdmpahgoooepaa
