/-
  No cell of these rows narrows 'for every input' (looked for: loops, veiled, ifaces, maps, wideKeys, modest, calm, conditions, laid).
  DERIVED. THE GIVEN ROWS OF THIS SEAT. 12 by the template 'for every input the law returns true; each argument reads behind the call as it read before'; 0 by the template 'total and deterministic' (their statements: YtmjlcajcobbcgaaTotals.lean).
  GIVEN WITH THE SEED: the statements are not yours to turn. If you find one false, say at which input.
  Laid BY PROGRAM, IN A SANDBOX (cutbox-rows.mjs): the forced cells as the released guide's own fill.sh prints them over the translation 61595b6797f8feb7… (all of the seat's roots in one cut). By AI agents, Wed Nov 11 2026. No macro, syntax, notation, axiom, sorry.
-/
import Derived.Test.YtmjlcajcobbcgaaChecked
import GoSem.Claim
import GoSem.ClaimJoined
import GoSem.ClaimMapViews
import Derived.JoinedTies
import Derived.KernelRfl
namespace Go.Proofs.Ytmjlcajcobbcgaa
/- THE CELL 'sum', in the pinned program and in every row, IS THE sha256 OF THE DUMP (.gsa) THAT YtmjlcajcobbcgaaProg.lean LOADS. Nothing in Lean hashes anything: it is a label: what it is worth is what the hold of that sum in a sandbox is worth. -/
noncomputable def Try.pinned : Pinned := { name := "ytmjlcajcobbcgaa", sum := "61595b6797f8feb7420e5aca94ee96c5d7549097fdebc844f9d3c76815216dce", checked := Try.checked }
namespace Rows
def none {H : Type} : Left H := { results := [], args := [] }

/-- 'aliaslaw.Texts': WHATEVER THE INPUT: true; the input reads as it did. -/
def textsSpec : ChangeSpec := { name := "texts", fn := fun _ => fun
  | [d] => { results := [.lit (.bool true)], args := [d] }
  | _ => none }
def textsRow : OpenClaim := { program := "ytmjlcajcobbcgaa", sum := "61595b6797f8feb7420e5aca94ee96c5d7549097fdebc844f9d3c76815216dce", func := "alias/aliaslaw.Texts", spec := "texts", recurses := true, apart := false }
def TextsSaid : Prop := textsRow.holds Try.pinned (OpenSpec.ofChange textsSpec)

/-- ITS FALSE NEIGHBOUR: 'it returns false'. Refute it at one input. -/
def textsWrong : ChangeSpec := { name := "texts", fn := fun _ => fun
  | [d] => { results := [.lit (.bool false)], args := [d] }
  | _ => none }
def TextsWrongFalsely : Prop := textsRow.holds Try.pinned (OpenSpec.ofChange textsWrong)

/-- 'aliaslaw.Prints': WHATEVER THE INPUT: true; the input reads as it did. -/
def printsSpec : ChangeSpec := { name := "prints", fn := fun _ => fun
  | [d] => { results := [.lit (.bool true)], args := [d] }
  | _ => none }
def printsRow : OpenClaim := { program := "ytmjlcajcobbcgaa", sum := "61595b6797f8feb7420e5aca94ee96c5d7549097fdebc844f9d3c76815216dce", func := "alias/aliaslaw.Prints", spec := "prints", recurses := true, apart := false }
def PrintsSaid : Prop := printsRow.holds Try.pinned (OpenSpec.ofChange printsSpec)

/-- ITS FALSE NEIGHBOUR: 'it returns false'. Refute it at one input. -/
def printsWrong : ChangeSpec := { name := "prints", fn := fun _ => fun
  | [d] => { results := [.lit (.bool false)], args := [d] }
  | _ => none }
def PrintsWrongFalsely : Prop := printsRow.holds Try.pinned (OpenSpec.ofChange printsWrong)

/-- 'aliaslaw.Still': WHATEVER THE INPUT: true; the input reads as it did. -/
def stillSpec : ChangeSpec := { name := "still", fn := fun _ => fun
  | [d] => { results := [.lit (.bool true)], args := [d] }
  | _ => none }
def stillRow : OpenClaim := { program := "ytmjlcajcobbcgaa", sum := "61595b6797f8feb7420e5aca94ee96c5d7549097fdebc844f9d3c76815216dce", func := "alias/aliaslaw.Still", spec := "still", apart := false }
def StillSaid : Prop := stillRow.holds Try.pinned (OpenSpec.ofChange stillSpec)

/-- ITS FALSE NEIGHBOUR: 'it returns false'. Refute it at one input. -/
def stillWrong : ChangeSpec := { name := "still", fn := fun _ => fun
  | [d] => { results := [.lit (.bool false)], args := [d] }
  | _ => none }
def StillWrongFalsely : Prop := stillRow.holds Try.pinned (OpenSpec.ofChange stillWrong)

/-- 'aliaslaw.Pointed': WHATEVER THE INPUT: true; the input reads as it did. -/
def pointedSpec : ChangeSpec := { name := "pointed", fn := fun _ => fun
  | [d] => { results := [.lit (.bool true)], args := [d] }
  | _ => none }
def pointedRow : OpenClaim := { program := "ytmjlcajcobbcgaa", sum := "61595b6797f8feb7420e5aca94ee96c5d7549097fdebc844f9d3c76815216dce", func := "alias/aliaslaw.Pointed", spec := "pointed", recurses := true, apart := false }
def PointedSaid : Prop := pointedRow.holds Try.pinned (OpenSpec.ofChange pointedSpec)

/-- ITS FALSE NEIGHBOUR: 'it returns false'. Refute it at one input. -/
def pointedWrong : ChangeSpec := { name := "pointed", fn := fun _ => fun
  | [d] => { results := [.lit (.bool false)], args := [d] }
  | _ => none }
def PointedWrongFalsely : Prop := pointedRow.holds Try.pinned (OpenSpec.ofChange pointedWrong)

/-- 'aliaslaw.Closed': WHATEVER THE INPUT: true; the input reads as it did. -/
def closedSpec : ChangeSpec := { name := "closed", fn := fun _ => fun
  | [d] => { results := [.lit (.bool true)], args := [d] }
  | _ => none }
def closedRow : OpenClaim := { program := "ytmjlcajcobbcgaa", sum := "61595b6797f8feb7420e5aca94ee96c5d7549097fdebc844f9d3c76815216dce", func := "alias/aliaslaw.Closed", spec := "closed", apart := false }
def ClosedSaid : Prop := closedRow.holds Try.pinned (OpenSpec.ofChange closedSpec)

/-- ITS FALSE NEIGHBOUR: 'it returns false'. Refute it at one input. -/
def closedWrong : ChangeSpec := { name := "closed", fn := fun _ => fun
  | [d] => { results := [.lit (.bool false)], args := [d] }
  | _ => none }
def ClosedWrongFalsely : Prop := closedRow.holds Try.pinned (OpenSpec.ofChange closedWrong)

/-- 'aliaslaw.Least': WHATEVER THE INPUT: true; the input reads as it did. -/
def leastSpec : ChangeSpec := { name := "least", fn := fun _ => fun
  | [d] => { results := [.lit (.bool true)], args := [d] }
  | _ => none }
def leastRow : OpenClaim := { program := "ytmjlcajcobbcgaa", sum := "61595b6797f8feb7420e5aca94ee96c5d7549097fdebc844f9d3c76815216dce", func := "alias/aliaslaw.Least", spec := "least", apart := false }
def LeastSaid : Prop := leastRow.holds Try.pinned (OpenSpec.ofChange leastSpec)

/-- ITS FALSE NEIGHBOUR: 'it returns false'. Refute it at one input. -/
def leastWrong : ChangeSpec := { name := "least", fn := fun _ => fun
  | [d] => { results := [.lit (.bool false)], args := [d] }
  | _ => none }
def LeastWrongFalsely : Prop := leastRow.holds Try.pinned (OpenSpec.ofChange leastWrong)

/-- 'aliaslaw.Narrower': WHATEVER THE INPUT: true; the input reads as it did. -/
def narrowerSpec : ChangeSpec := { name := "narrower", fn := fun _ => fun
  | [d] => { results := [.lit (.bool true)], args := [d] }
  | _ => none }
def narrowerRow : OpenClaim := { program := "ytmjlcajcobbcgaa", sum := "61595b6797f8feb7420e5aca94ee96c5d7549097fdebc844f9d3c76815216dce", func := "alias/aliaslaw.Narrower", spec := "narrower", apart := false }
def NarrowerSaid : Prop := narrowerRow.holds Try.pinned (OpenSpec.ofChange narrowerSpec)

/-- ITS FALSE NEIGHBOUR: 'it returns false'. Refute it at one input. -/
def narrowerWrong : ChangeSpec := { name := "narrower", fn := fun _ => fun
  | [d] => { results := [.lit (.bool false)], args := [d] }
  | _ => none }
def NarrowerWrongFalsely : Prop := narrowerRow.holds Try.pinned (OpenSpec.ofChange narrowerWrong)

/-- 'aliaslaw.Aliases': WHATEVER THE INPUT: true; the input reads as it did. -/
def aliasesSpec : ChangeSpec := { name := "aliases", fn := fun _ => fun
  | [d] => { results := [.lit (.bool true)], args := [d] }
  | _ => none }
def aliasesRow : OpenClaim := { program := "ytmjlcajcobbcgaa", sum := "61595b6797f8feb7420e5aca94ee96c5d7549097fdebc844f9d3c76815216dce", func := "alias/aliaslaw.Aliases", spec := "aliases", recurses := true, apart := false }
def AliasesSaid : Prop := aliasesRow.holds Try.pinned (OpenSpec.ofChange aliasesSpec)

/-- ITS FALSE NEIGHBOUR: 'it returns false'. Refute it at one input. -/
def aliasesWrong : ChangeSpec := { name := "aliases", fn := fun _ => fun
  | [d] => { results := [.lit (.bool false)], args := [d] }
  | _ => none }
def AliasesWrongFalsely : Prop := aliasesRow.holds Try.pinned (OpenSpec.ofChange aliasesWrong)

/-- 'aliaslaw.Batches': WHATEVER THE INPUT: true; the input reads as it did. -/
def batchesSpec : ChangeSpec := { name := "batches", fn := fun _ => fun
  | [d] => { results := [.lit (.bool true)], args := [d] }
  | _ => none }
def batchesRow : OpenClaim := { program := "ytmjlcajcobbcgaa", sum := "61595b6797f8feb7420e5aca94ee96c5d7549097fdebc844f9d3c76815216dce", func := "alias/aliaslaw.Batches", spec := "batches", recurses := true, apart := false }
def BatchesSaid : Prop := batchesRow.holds Try.pinned (OpenSpec.ofChange batchesSpec)

/-- ITS FALSE NEIGHBOUR: 'it returns false'. Refute it at one input. -/
def batchesWrong : ChangeSpec := { name := "batches", fn := fun _ => fun
  | [d] => { results := [.lit (.bool false)], args := [d] }
  | _ => none }
def BatchesWrongFalsely : Prop := batchesRow.holds Try.pinned (OpenSpec.ofChange batchesWrong)

/-- 'aliaslaw.Grows': WHATEVER THE INPUT: true; the input reads as it did. -/
def growsSpec : ChangeSpec := { name := "grows", fn := fun _ => fun
  | [d] => { results := [.lit (.bool true)], args := [d] }
  | _ => none }
def growsRow : OpenClaim := { program := "ytmjlcajcobbcgaa", sum := "61595b6797f8feb7420e5aca94ee96c5d7549097fdebc844f9d3c76815216dce", func := "alias/aliaslaw.Grows", spec := "grows", apart := false }
def GrowsSaid : Prop := growsRow.holds Try.pinned (OpenSpec.ofChange growsSpec)

/-- ITS FALSE NEIGHBOUR: 'it returns false'. Refute it at one input. -/
def growsWrong : ChangeSpec := { name := "grows", fn := fun _ => fun
  | [d] => { results := [.lit (.bool false)], args := [d] }
  | _ => none }
def GrowsWrongFalsely : Prop := growsRow.holds Try.pinned (OpenSpec.ofChange growsWrong)

/-- 'aliaslaw.Anew': WHATEVER THE INPUT: true; the input reads as it did. -/
def anewSpec : ChangeSpec := { name := "anew", fn := fun _ => fun
  | [d] => { results := [.lit (.bool true)], args := [d] }
  | _ => none }
def anewRow : OpenClaim := { program := "ytmjlcajcobbcgaa", sum := "61595b6797f8feb7420e5aca94ee96c5d7549097fdebc844f9d3c76815216dce", func := "alias/aliaslaw.Anew", spec := "anew", apart := false }
def AnewSaid : Prop := anewRow.holds Try.pinned (OpenSpec.ofChange anewSpec)

/-- ITS FALSE NEIGHBOUR: 'it returns false'. Refute it at one input. -/
def anewWrong : ChangeSpec := { name := "anew", fn := fun _ => fun
  | [d] => { results := [.lit (.bool false)], args := [d] }
  | _ => none }
def AnewWrongFalsely : Prop := anewRow.holds Try.pinned (OpenSpec.ofChange anewWrong)

/-- 'aliaslaw.Refines': WHATEVER THE INPUT: true; the input reads as it did. -/
def refinesSpec : ChangeSpec := { name := "refines", fn := fun _ => fun
  | [d] => { results := [.lit (.bool true)], args := [d] }
  | _ => none }
def refinesRow : OpenClaim := { program := "ytmjlcajcobbcgaa", sum := "61595b6797f8feb7420e5aca94ee96c5d7549097fdebc844f9d3c76815216dce", func := "alias/aliaslaw.Refines", spec := "refines", recurses := true, apart := false }
def RefinesSaid : Prop := refinesRow.holds Try.pinned (OpenSpec.ofChange refinesSpec)

/-- ITS FALSE NEIGHBOUR: 'it returns false'. Refute it at one input. -/
def refinesWrong : ChangeSpec := { name := "refines", fn := fun _ => fun
  | [d] => { results := [.lit (.bool false)], args := [d] }
  | _ => none }
def RefinesWrongFalsely : Prop := refinesRow.holds Try.pinned (OpenSpec.ofChange refinesWrong)

/- THE SECOND FORM. 'bulk': how many values and letters a reading holds, each counted each time it is reached (what is shared counts as often as it is met; a slice's spare places count too). A statement '..UptoSaid' is the law's where the arguments, and the package variables that the reading takes, are together of bulk at most 1048576: NARROWER than '..Said'. Prove '..Said' where nothing that the law and all that it calls make is longer than what came in: it says more and counts as full. Else prove '..UptoSaid'. A law counts once. -/
mutual
def uptoBulk {H : Type} : DataW H → Nat
  | .lit (.string bytes) => bytes.length + 1
  | .lit _ => 1
  | .nil => 1
  | .ptr d => uptoBulk d + 1
  | .slice elems spare => uptoBulkAll elems + uptoBulkAll spare + 1
  | .agg parts => uptoBulkAll parts + 1
  | .iface _ d => uptoBulk d + 1
  | .map entries => uptoBulkEntries entries + 1
  | .held _ => 1
def uptoBulkAll {H : Type} : List (DataW H) → Nat
  | [] => 0
  | d :: r => uptoBulk d + uptoBulkAll r
def uptoBulkEntries {H : Type} : List (Lit × DataW H) → Nat
  | [] => 0
  | x :: r => uptoBulkEntry x + uptoBulkEntries r
def uptoBulkEntry {H : Type} : Lit × DataW H → Nat
  | (.string bytes, d) => bytes.length + uptoBulk d + 1
  | (_, d) => uptoBulk d + 1
 end
def uptoSmall : (H : Type) → List (DataW H) → Bool := fun _ ds => decide (uptoBulkAll ds ≤ 1048576)
def OpenSpec.upto (s : _root_.Go.ChangeSpec) : _root_.Go.OpenSpec := { _root_.Go.OpenSpec.ofChange s with cond := some uptoSmall }

/-- 'aliaslaw.Texts', WHERE WHAT IT READS IS OF BULK AT MOST 1048576: true; the input reads as it did. -/
def textsUptoRow : OpenClaim := { program := "ytmjlcajcobbcgaa", sum := "61595b6797f8feb7420e5aca94ee96c5d7549097fdebc844f9d3c76815216dce", func := "alias/aliaslaw.Texts", spec := "texts", recurses := true, apart := false, narrowed := true }
def TextsUptoSaid : Prop := textsUptoRow.holds Try.pinned (OpenSpec.upto textsSpec)

/-- 'aliaslaw.Prints', WHERE WHAT IT READS IS OF BULK AT MOST 1048576: true; the input reads as it did. -/
def printsUptoRow : OpenClaim := { program := "ytmjlcajcobbcgaa", sum := "61595b6797f8feb7420e5aca94ee96c5d7549097fdebc844f9d3c76815216dce", func := "alias/aliaslaw.Prints", spec := "prints", recurses := true, apart := false, narrowed := true }
def PrintsUptoSaid : Prop := printsUptoRow.holds Try.pinned (OpenSpec.upto printsSpec)

/-- 'aliaslaw.Still', WHERE WHAT IT READS IS OF BULK AT MOST 1048576: true; the input reads as it did. -/
def stillUptoRow : OpenClaim := { program := "ytmjlcajcobbcgaa", sum := "61595b6797f8feb7420e5aca94ee96c5d7549097fdebc844f9d3c76815216dce", func := "alias/aliaslaw.Still", spec := "still", apart := false, narrowed := true }
def StillUptoSaid : Prop := stillUptoRow.holds Try.pinned (OpenSpec.upto stillSpec)

/-- 'aliaslaw.Pointed', WHERE WHAT IT READS IS OF BULK AT MOST 1048576: true; the input reads as it did. -/
def pointedUptoRow : OpenClaim := { program := "ytmjlcajcobbcgaa", sum := "61595b6797f8feb7420e5aca94ee96c5d7549097fdebc844f9d3c76815216dce", func := "alias/aliaslaw.Pointed", spec := "pointed", recurses := true, apart := false, narrowed := true }
def PointedUptoSaid : Prop := pointedUptoRow.holds Try.pinned (OpenSpec.upto pointedSpec)

/-- 'aliaslaw.Closed', WHERE WHAT IT READS IS OF BULK AT MOST 1048576: true; the input reads as it did. -/
def closedUptoRow : OpenClaim := { program := "ytmjlcajcobbcgaa", sum := "61595b6797f8feb7420e5aca94ee96c5d7549097fdebc844f9d3c76815216dce", func := "alias/aliaslaw.Closed", spec := "closed", apart := false, narrowed := true }
def ClosedUptoSaid : Prop := closedUptoRow.holds Try.pinned (OpenSpec.upto closedSpec)

/-- 'aliaslaw.Least', WHERE WHAT IT READS IS OF BULK AT MOST 1048576: true; the input reads as it did. -/
def leastUptoRow : OpenClaim := { program := "ytmjlcajcobbcgaa", sum := "61595b6797f8feb7420e5aca94ee96c5d7549097fdebc844f9d3c76815216dce", func := "alias/aliaslaw.Least", spec := "least", apart := false, narrowed := true }
def LeastUptoSaid : Prop := leastUptoRow.holds Try.pinned (OpenSpec.upto leastSpec)

/-- 'aliaslaw.Narrower', WHERE WHAT IT READS IS OF BULK AT MOST 1048576: true; the input reads as it did. -/
def narrowerUptoRow : OpenClaim := { program := "ytmjlcajcobbcgaa", sum := "61595b6797f8feb7420e5aca94ee96c5d7549097fdebc844f9d3c76815216dce", func := "alias/aliaslaw.Narrower", spec := "narrower", apart := false, narrowed := true }
def NarrowerUptoSaid : Prop := narrowerUptoRow.holds Try.pinned (OpenSpec.upto narrowerSpec)

/-- 'aliaslaw.Aliases', WHERE WHAT IT READS IS OF BULK AT MOST 1048576: true; the input reads as it did. -/
def aliasesUptoRow : OpenClaim := { program := "ytmjlcajcobbcgaa", sum := "61595b6797f8feb7420e5aca94ee96c5d7549097fdebc844f9d3c76815216dce", func := "alias/aliaslaw.Aliases", spec := "aliases", recurses := true, apart := false, narrowed := true }
def AliasesUptoSaid : Prop := aliasesUptoRow.holds Try.pinned (OpenSpec.upto aliasesSpec)

/-- 'aliaslaw.Batches', WHERE WHAT IT READS IS OF BULK AT MOST 1048576: true; the input reads as it did. -/
def batchesUptoRow : OpenClaim := { program := "ytmjlcajcobbcgaa", sum := "61595b6797f8feb7420e5aca94ee96c5d7549097fdebc844f9d3c76815216dce", func := "alias/aliaslaw.Batches", spec := "batches", recurses := true, apart := false, narrowed := true }
def BatchesUptoSaid : Prop := batchesUptoRow.holds Try.pinned (OpenSpec.upto batchesSpec)

/-- 'aliaslaw.Grows', WHERE WHAT IT READS IS OF BULK AT MOST 1048576: true; the input reads as it did. -/
def growsUptoRow : OpenClaim := { program := "ytmjlcajcobbcgaa", sum := "61595b6797f8feb7420e5aca94ee96c5d7549097fdebc844f9d3c76815216dce", func := "alias/aliaslaw.Grows", spec := "grows", apart := false, narrowed := true }
def GrowsUptoSaid : Prop := growsUptoRow.holds Try.pinned (OpenSpec.upto growsSpec)

/-- 'aliaslaw.Anew', WHERE WHAT IT READS IS OF BULK AT MOST 1048576: true; the input reads as it did. -/
def anewUptoRow : OpenClaim := { program := "ytmjlcajcobbcgaa", sum := "61595b6797f8feb7420e5aca94ee96c5d7549097fdebc844f9d3c76815216dce", func := "alias/aliaslaw.Anew", spec := "anew", apart := false, narrowed := true }
def AnewUptoSaid : Prop := anewUptoRow.holds Try.pinned (OpenSpec.upto anewSpec)

/-- 'aliaslaw.Refines', WHERE WHAT IT READS IS OF BULK AT MOST 1048576: true; the input reads as it did. -/
def refinesUptoRow : OpenClaim := { program := "ytmjlcajcobbcgaa", sum := "61595b6797f8feb7420e5aca94ee96c5d7549097fdebc844f9d3c76815216dce", func := "alias/aliaslaw.Refines", spec := "refines", recurses := true, apart := false, narrowed := true }
def RefinesUptoSaid : Prop := refinesUptoRow.holds Try.pinned (OpenSpec.upto refinesSpec)

end Rows
end Go.Proofs.Ytmjlcajcobbcgaa
