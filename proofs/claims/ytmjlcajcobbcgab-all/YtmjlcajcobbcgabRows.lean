/-
  No cell of these rows narrows 'for every input' (looked for: loops, veiled, ifaces, maps, wideKeys, modest, calm, conditions, laid).
  DERIVED. THE GIVEN ROWS OF THIS SEAT. 5 by the template 'for every input the law returns true; each argument reads behind the call as it read before'; 0 by the template 'total and deterministic' (their statements: YtmjlcajcobbcgabTotals.lean).
  GIVEN WITH THE SEED: the statements are not yours to turn. If you find one false, say at which input.
  Laid BY PROGRAM, IN A SANDBOX (cutbox-rows.mjs): the forced cells as the released guide's own fill.sh prints them over the translation f16324ccb70af416… (all of the seat's roots in one cut). By AI agents, Wed Nov 11 2026. No macro, syntax, notation, axiom, sorry.
-/
import Derived.Test.YtmjlcajcobbcgabChecked
import GoSem.Claim
import GoSem.ClaimJoined
import GoSem.ClaimMapViews
import Derived.JoinedTies
import Derived.KernelRfl
namespace Go.Proofs.Ytmjlcajcobbcgab
/- THE CELL 'sum', in the pinned program and in every row, IS THE sha256 OF THE DUMP (.gsa) THAT YtmjlcajcobbcgabProg.lean LOADS. Nothing in Lean hashes anything: it is a label: what it is worth is what the hold of that sum in a sandbox is worth. -/
noncomputable def Try.pinned : Pinned := { name := "ytmjlcajcobbcgab", sum := "f16324ccb70af416b7d3fe87236f54e5a015f8b13b86797819fb98333995420f", checked := Try.checked }
namespace Rows
def none {H : Type} : Left H := { results := [], args := [] }

/-- 'aliaslaw.Fewest': WHATEVER THE INPUT: true; the input reads as it did. -/
def fewestSpec : ChangeSpec := { name := "fewest", fn := fun _ => fun
  | [d] => { results := [.lit (.bool true)], args := [d] }
  | _ => none }
def fewestRow : OpenClaim := { program := "ytmjlcajcobbcgab", sum := "f16324ccb70af416b7d3fe87236f54e5a015f8b13b86797819fb98333995420f", func := "alias/aliaslaw.Fewest", spec := "fewest", apart := false }
def FewestSaid : Prop := fewestRow.holds Try.pinned (OpenSpec.ofChange fewestSpec)

/-- ITS FALSE NEIGHBOUR: 'it returns false'. Refute it at one input. -/
def fewestWrong : ChangeSpec := { name := "fewest", fn := fun _ => fun
  | [d] => { results := [.lit (.bool false)], args := [d] }
  | _ => none }
def FewestWrongFalsely : Prop := fewestRow.holds Try.pinned (OpenSpec.ofChange fewestWrong)

/-- 'aliaslaw.Whys': WHATEVER THE INPUT: true; the input reads as it did. -/
def whysSpec : ChangeSpec := { name := "whys", fn := fun _ => fun
  | [d] => { results := [.lit (.bool true)], args := [d] }
  | _ => none }
def whysRow : OpenClaim := { program := "ytmjlcajcobbcgab", sum := "f16324ccb70af416b7d3fe87236f54e5a015f8b13b86797819fb98333995420f", func := "alias/aliaslaw.Whys", spec := "whys", recurses := true, apart := false }
def WhysSaid : Prop := whysRow.holds Try.pinned (OpenSpec.ofChange whysSpec)

/-- ITS FALSE NEIGHBOUR: 'it returns false'. Refute it at one input. -/
def whysWrong : ChangeSpec := { name := "whys", fn := fun _ => fun
  | [d] => { results := [.lit (.bool false)], args := [d] }
  | _ => none }
def WhysWrongFalsely : Prop := whysRow.holds Try.pinned (OpenSpec.ofChange whysWrong)

/-- 'aliaslaw.Told': WHATEVER THE INPUT: true; the input reads as it did. -/
def toldSpec : ChangeSpec := { name := "told", fn := fun _ => fun
  | [d] => { results := [.lit (.bool true)], args := [d] }
  | _ => none }
def toldRow : OpenClaim := { program := "ytmjlcajcobbcgab", sum := "f16324ccb70af416b7d3fe87236f54e5a015f8b13b86797819fb98333995420f", func := "alias/aliaslaw.Told", spec := "told", apart := false }
def ToldSaid : Prop := toldRow.holds Try.pinned (OpenSpec.ofChange toldSpec)

/-- ITS FALSE NEIGHBOUR: 'it returns false'. Refute it at one input. -/
def toldWrong : ChangeSpec := { name := "told", fn := fun _ => fun
  | [d] => { results := [.lit (.bool false)], args := [d] }
  | _ => none }
def ToldWrongFalsely : Prop := toldRow.holds Try.pinned (OpenSpec.ofChange toldWrong)

/-- 'aliaslaw.All': WHATEVER THE INPUT: true; the input reads as it did. -/
def allSpec : ChangeSpec := { name := "all", fn := fun _ => fun
  | [d] => { results := [.lit (.bool true)], args := [d] }
  | _ => none }
def allRow : OpenClaim := { program := "ytmjlcajcobbcgab", sum := "f16324ccb70af416b7d3fe87236f54e5a015f8b13b86797819fb98333995420f", func := "alias/aliaslaw.All", spec := "all", recurses := true, apart := false }
def AllSaid : Prop := allRow.holds Try.pinned (OpenSpec.ofChange allSpec)

/-- ITS FALSE NEIGHBOUR: 'it returns false'. Refute it at one input. -/
def allWrong : ChangeSpec := { name := "all", fn := fun _ => fun
  | [d] => { results := [.lit (.bool false)], args := [d] }
  | _ => none }
def AllWrongFalsely : Prop := allRow.holds Try.pinned (OpenSpec.ofChange allWrong)

/-- 'aliaslaw.Many': WHATEVER THE INPUT: true; the input reads as it did. -/
def manySpec : ChangeSpec := { name := "many", fn := fun _ => fun
  | [d] => { results := [.lit (.bool true)], args := [d] }
  | _ => none }
def manyRow : OpenClaim := { program := "ytmjlcajcobbcgab", sum := "f16324ccb70af416b7d3fe87236f54e5a015f8b13b86797819fb98333995420f", func := "alias/aliaslaw.Many", spec := "many", recurses := true, apart := false }
def ManySaid : Prop := manyRow.holds Try.pinned (OpenSpec.ofChange manySpec)

/-- ITS FALSE NEIGHBOUR: 'it returns false'. Refute it at one input. -/
def manyWrong : ChangeSpec := { name := "many", fn := fun _ => fun
  | [d] => { results := [.lit (.bool false)], args := [d] }
  | _ => none }
def ManyWrongFalsely : Prop := manyRow.holds Try.pinned (OpenSpec.ofChange manyWrong)

/- THE SECOND FORM. 'bulk': how many values and letters a reading holds, each counted each time it is reached (what is shared counts as often as it is met; a slice's spare places count too). A statement '..UptoSaid' is the law's where the arguments, and the package variables that the reading takes, are together of bulk at most 1048576: NARROWER than '..Said'. Prove '..Said' where nothing that the law and all that it calls make is longer than what came in: it says more and counts as full. Else prove '..UptoSaid'. A law counts once. -/
mutual
def uptoBulk {H : Type} : DataW H → Nat
  | .lit (.string bytes) => bytes.length + 1
  | .lit _ => 1
  | .nil => 1
  | .ptr d => uptoBulk d + 1
  | .slice elems spare => uptoBulkAll elems + uptoBulkAll spare + 1
  | .agg parts => uptoBulkAll parts + 1
  | .iface _ d => uptoBulk d + 1
  | .map entries => uptoBulkEntries entries + 1
  | .held _ => 1
def uptoBulkAll {H : Type} : List (DataW H) → Nat
  | [] => 0
  | d :: r => uptoBulk d + uptoBulkAll r
def uptoBulkEntries {H : Type} : List (Lit × DataW H) → Nat
  | [] => 0
  | x :: r => uptoBulkEntry x + uptoBulkEntries r
def uptoBulkEntry {H : Type} : Lit × DataW H → Nat
  | (.string bytes, d) => bytes.length + uptoBulk d + 1
  | (_, d) => uptoBulk d + 1
 end
def uptoSmall : (H : Type) → List (DataW H) → Bool := fun _ ds => decide (uptoBulkAll ds ≤ 1048576)
def OpenSpec.upto (s : _root_.Go.ChangeSpec) : _root_.Go.OpenSpec := { _root_.Go.OpenSpec.ofChange s with cond := some uptoSmall }

/-- 'aliaslaw.Fewest', WHERE WHAT IT READS IS OF BULK AT MOST 1048576: true; the input reads as it did. -/
def fewestUptoRow : OpenClaim := { program := "ytmjlcajcobbcgab", sum := "f16324ccb70af416b7d3fe87236f54e5a015f8b13b86797819fb98333995420f", func := "alias/aliaslaw.Fewest", spec := "fewest", apart := false, narrowed := true }
def FewestUptoSaid : Prop := fewestUptoRow.holds Try.pinned (OpenSpec.upto fewestSpec)

/-- 'aliaslaw.Whys', WHERE WHAT IT READS IS OF BULK AT MOST 1048576: true; the input reads as it did. -/
def whysUptoRow : OpenClaim := { program := "ytmjlcajcobbcgab", sum := "f16324ccb70af416b7d3fe87236f54e5a015f8b13b86797819fb98333995420f", func := "alias/aliaslaw.Whys", spec := "whys", recurses := true, apart := false, narrowed := true }
def WhysUptoSaid : Prop := whysUptoRow.holds Try.pinned (OpenSpec.upto whysSpec)

/-- 'aliaslaw.Told', WHERE WHAT IT READS IS OF BULK AT MOST 1048576: true; the input reads as it did. -/
def toldUptoRow : OpenClaim := { program := "ytmjlcajcobbcgab", sum := "f16324ccb70af416b7d3fe87236f54e5a015f8b13b86797819fb98333995420f", func := "alias/aliaslaw.Told", spec := "told", apart := false, narrowed := true }
def ToldUptoSaid : Prop := toldUptoRow.holds Try.pinned (OpenSpec.upto toldSpec)

/-- 'aliaslaw.All', WHERE WHAT IT READS IS OF BULK AT MOST 1048576: true; the input reads as it did. -/
def allUptoRow : OpenClaim := { program := "ytmjlcajcobbcgab", sum := "f16324ccb70af416b7d3fe87236f54e5a015f8b13b86797819fb98333995420f", func := "alias/aliaslaw.All", spec := "all", recurses := true, apart := false, narrowed := true }
def AllUptoSaid : Prop := allUptoRow.holds Try.pinned (OpenSpec.upto allSpec)

/-- 'aliaslaw.Many', WHERE WHAT IT READS IS OF BULK AT MOST 1048576: true; the input reads as it did. -/
def manyUptoRow : OpenClaim := { program := "ytmjlcajcobbcgab", sum := "f16324ccb70af416b7d3fe87236f54e5a015f8b13b86797819fb98333995420f", func := "alias/aliaslaw.Many", spec := "many", recurses := true, apart := false, narrowed := true }
def ManyUptoSaid : Prop := manyUptoRow.holds Try.pinned (OpenSpec.upto manySpec)

end Rows
end Go.Proofs.Ytmjlcajcobbcgab
