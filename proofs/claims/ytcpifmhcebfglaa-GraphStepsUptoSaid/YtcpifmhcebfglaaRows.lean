/-
  No cell of these rows narrows 'for every input' (looked for: loops, veiled, ifaces, maps, wideKeys, modest, calm, conditions, laid).
  DERIVED. THE GIVEN ROWS OF THIS SEAT. 12 by the template 'for every input the law returns true; each argument reads behind the call as it read before'; 0 by the template 'total and deterministic' (their statements: YtcpifmhcebfglaaTotals.lean).
  GIVEN WITH THE SEED: the statements are not yours to turn. If you find one false, say at which input.
  Laid BY PROGRAM, IN A SANDBOX (cutbox-rows.mjs): the forced cells as the released guide's own fill.sh prints them over the translation 7d2b859a37828def… (all of the seat's roots in one cut). By AI agents, Wed Nov 11 2026. No macro, syntax, notation, axiom, sorry.
-/
import Derived.Test.YtcpifmhcebfglaaChecked
import GoSem.Claim
import GoSem.ClaimJoined
import GoSem.ClaimMapViews
import Derived.JoinedTies
import Derived.KernelRfl
namespace Go.Proofs.Ytcpifmhcebfglaa
/- THE CELL 'sum', in the pinned program and in every row, IS THE sha256 OF THE DUMP (.gsa) THAT YtcpifmhcebfglaaProg.lean LOADS. Nothing in Lean hashes anything: it is a label: what it is worth is what the hold of that sum in a sandbox is worth. -/
noncomputable def Try.pinned : Pinned := { name := "ytcpifmhcebfglaa", sum := "7d2b859a37828def3aa05d0283051e173f25a7f311f9a691536448b35b936916", checked := Try.checked }
namespace Rows
def none {H : Type} : Left H := { results := [], args := [] }

/-- 'maskkeep3.GraphSteps': WHATEVER THE INPUT: true; the input reads as it did. -/
def graphStepsSpec : ChangeSpec := { name := "graphSteps", fn := fun _ => fun
  | [d1, d2] => { results := [.lit (.bool true)], args := [d1, d2] }
  | _ => none }
def graphStepsRow : OpenClaim := { program := "ytcpifmhcebfglaa", sum := "7d2b859a37828def3aa05d0283051e173f25a7f311f9a691536448b35b936916", func := "maskwright/maskkeep3.GraphSteps", spec := "graphSteps", unfollowed := true, recurses := true, plainKeys := false, apart := false }
def GraphStepsSaid : Prop := graphStepsRow.holds Try.pinned (OpenSpec.ofChange graphStepsSpec)

/-- ITS FALSE NEIGHBOUR: 'it returns false'. Refute it at one input. -/
def graphStepsWrong : ChangeSpec := { name := "graphSteps", fn := fun _ => fun
  | [d1, d2] => { results := [.lit (.bool false)], args := [d1, d2] }
  | _ => none }
def GraphStepsWrongFalsely : Prop := graphStepsRow.holds Try.pinned (OpenSpec.ofChange graphStepsWrong)

/-- 'maskkeep3.GraphLanes': WHATEVER THE INPUT: true; the input reads as it did. -/
def graphLanesSpec : ChangeSpec := { name := "graphLanes", fn := fun _ => fun
  | [d] => { results := [.lit (.bool true)], args := [d] }
  | _ => none }
def graphLanesRow : OpenClaim := { program := "ytcpifmhcebfglaa", sum := "7d2b859a37828def3aa05d0283051e173f25a7f311f9a691536448b35b936916", func := "maskwright/maskkeep3.GraphLanes", spec := "graphLanes", unfollowed := true, recurses := true, plainKeys := false, apart := false }
def GraphLanesSaid : Prop := graphLanesRow.holds Try.pinned (OpenSpec.ofChange graphLanesSpec)

/-- ITS FALSE NEIGHBOUR: 'it returns false'. Refute it at one input. -/
def graphLanesWrong : ChangeSpec := { name := "graphLanes", fn := fun _ => fun
  | [d] => { results := [.lit (.bool false)], args := [d] }
  | _ => none }
def GraphLanesWrongFalsely : Prop := graphLanesRow.holds Try.pinned (OpenSpec.ofChange graphLanesWrong)

/-- 'maskkeep3.GraphTidies': WHATEVER THE INPUT: true; the input reads as it did. -/
def graphTidiesSpec : ChangeSpec := { name := "graphTidies", fn := fun _ => fun
  | [d] => { results := [.lit (.bool true)], args := [d] }
  | _ => none }
def graphTidiesRow : OpenClaim := { program := "ytcpifmhcebfglaa", sum := "7d2b859a37828def3aa05d0283051e173f25a7f311f9a691536448b35b936916", func := "maskwright/maskkeep3.GraphTidies", spec := "graphTidies", unfollowed := true, recurses := true, plainKeys := false, apart := false }
def GraphTidiesSaid : Prop := graphTidiesRow.holds Try.pinned (OpenSpec.ofChange graphTidiesSpec)

/-- ITS FALSE NEIGHBOUR: 'it returns false'. Refute it at one input. -/
def graphTidiesWrong : ChangeSpec := { name := "graphTidies", fn := fun _ => fun
  | [d] => { results := [.lit (.bool false)], args := [d] }
  | _ => none }
def GraphTidiesWrongFalsely : Prop := graphTidiesRow.holds Try.pinned (OpenSpec.ofChange graphTidiesWrong)

/-- 'maskkeep3.GraphBeside': WHATEVER THE INPUT: true; the input reads as it did. -/
def graphBesideSpec : ChangeSpec := { name := "graphBeside", fn := fun _ => fun
  | [d] => { results := [.lit (.bool true)], args := [d] }
  | _ => none }
def graphBesideRow : OpenClaim := { program := "ytcpifmhcebfglaa", sum := "7d2b859a37828def3aa05d0283051e173f25a7f311f9a691536448b35b936916", func := "maskwright/maskkeep3.GraphBeside", spec := "graphBeside", unfollowed := true, recurses := true, plainKeys := false, apart := false }
def GraphBesideSaid : Prop := graphBesideRow.holds Try.pinned (OpenSpec.ofChange graphBesideSpec)

/-- ITS FALSE NEIGHBOUR: 'it returns false'. Refute it at one input. -/
def graphBesideWrong : ChangeSpec := { name := "graphBeside", fn := fun _ => fun
  | [d] => { results := [.lit (.bool false)], args := [d] }
  | _ => none }
def GraphBesideWrongFalsely : Prop := graphBesideRow.holds Try.pinned (OpenSpec.ofChange graphBesideWrong)

/-- 'maskkeep3.GraphTables': WHATEVER THE INPUT: true; the input reads as it did. -/
def graphTablesSpec : ChangeSpec := { name := "graphTables", fn := fun _ => fun
  | [d1, d2, d3] => { results := [.lit (.bool true)], args := [d1, d2, d3] }
  | _ => none }
def graphTablesRow : OpenClaim := { program := "ytcpifmhcebfglaa", sum := "7d2b859a37828def3aa05d0283051e173f25a7f311f9a691536448b35b936916", func := "maskwright/maskkeep3.GraphTables", spec := "graphTables", unfollowed := true, recurses := true, plainKeys := false, apart := false }
def GraphTablesSaid : Prop := graphTablesRow.holds Try.pinned (OpenSpec.ofChange graphTablesSpec)

/-- ITS FALSE NEIGHBOUR: 'it returns false'. Refute it at one input. -/
def graphTablesWrong : ChangeSpec := { name := "graphTables", fn := fun _ => fun
  | [d1, d2, d3] => { results := [.lit (.bool false)], args := [d1, d2, d3] }
  | _ => none }
def GraphTablesWrongFalsely : Prop := graphTablesRow.holds Try.pinned (OpenSpec.ofChange graphTablesWrong)

/-- 'maskkeep3.NetlistHolds': WHATEVER THE INPUT: true; the input reads as it did. -/
def netlistHoldsSpec : ChangeSpec := { name := "netlistHolds", fn := fun _ => fun
  | [d] => { results := [.lit (.bool true)], args := [d] }
  | _ => none }
def netlistHoldsRow : OpenClaim := { program := "ytcpifmhcebfglaa", sum := "7d2b859a37828def3aa05d0283051e173f25a7f311f9a691536448b35b936916", func := "maskwright/maskkeep3.NetlistHolds", spec := "netlistHolds", unfollowed := true, recurses := true, plainKeys := false, apart := false }
def NetlistHoldsSaid : Prop := netlistHoldsRow.holds Try.pinned (OpenSpec.ofChange netlistHoldsSpec)

/-- ITS FALSE NEIGHBOUR: 'it returns false'. Refute it at one input. -/
def netlistHoldsWrong : ChangeSpec := { name := "netlistHolds", fn := fun _ => fun
  | [d] => { results := [.lit (.bool false)], args := [d] }
  | _ => none }
def NetlistHoldsWrongFalsely : Prop := netlistHoldsRow.holds Try.pinned (OpenSpec.ofChange netlistHoldsWrong)

/-- 'maskkeep3.NetlistTidy': WHATEVER THE INPUT: true; the input reads as it did. -/
def netlistTidySpec : ChangeSpec := { name := "netlistTidy", fn := fun _ => fun
  | [d] => { results := [.lit (.bool true)], args := [d] }
  | _ => none }
def netlistTidyRow : OpenClaim := { program := "ytcpifmhcebfglaa", sum := "7d2b859a37828def3aa05d0283051e173f25a7f311f9a691536448b35b936916", func := "maskwright/maskkeep3.NetlistTidy", spec := "netlistTidy", unfollowed := true, recurses := true, plainKeys := false, apart := false }
def NetlistTidySaid : Prop := netlistTidyRow.holds Try.pinned (OpenSpec.ofChange netlistTidySpec)

/-- ITS FALSE NEIGHBOUR: 'it returns false'. Refute it at one input. -/
def netlistTidyWrong : ChangeSpec := { name := "netlistTidy", fn := fun _ => fun
  | [d] => { results := [.lit (.bool false)], args := [d] }
  | _ => none }
def NetlistTidyWrongFalsely : Prop := netlistTidyRow.holds Try.pinned (OpenSpec.ofChange netlistTidyWrong)

/-- 'maskkeep3.NetlistUses': WHATEVER THE INPUT: true; the input reads as it did. -/
def netlistUsesSpec : ChangeSpec := { name := "netlistUses", fn := fun _ => fun
  | [d] => { results := [.lit (.bool true)], args := [d] }
  | _ => none }
def netlistUsesRow : OpenClaim := { program := "ytcpifmhcebfglaa", sum := "7d2b859a37828def3aa05d0283051e173f25a7f311f9a691536448b35b936916", func := "maskwright/maskkeep3.NetlistUses", spec := "netlistUses", unfollowed := true, recurses := true, plainKeys := false, apart := false }
def NetlistUsesSaid : Prop := netlistUsesRow.holds Try.pinned (OpenSpec.ofChange netlistUsesSpec)

/-- ITS FALSE NEIGHBOUR: 'it returns false'. Refute it at one input. -/
def netlistUsesWrong : ChangeSpec := { name := "netlistUses", fn := fun _ => fun
  | [d] => { results := [.lit (.bool false)], args := [d] }
  | _ => none }
def NetlistUsesWrongFalsely : Prop := netlistUsesRow.holds Try.pinned (OpenSpec.ofChange netlistUsesWrong)

/-- 'maskkeep3.NetlistBack': WHATEVER THE INPUT: true; the input reads as it did. -/
def netlistBackSpec : ChangeSpec := { name := "netlistBack", fn := fun _ => fun
  | [d] => { results := [.lit (.bool true)], args := [d] }
  | _ => none }
def netlistBackRow : OpenClaim := { program := "ytcpifmhcebfglaa", sum := "7d2b859a37828def3aa05d0283051e173f25a7f311f9a691536448b35b936916", func := "maskwright/maskkeep3.NetlistBack", spec := "netlistBack", unfollowed := true, recurses := true, plainKeys := false, apart := false }
def NetlistBackSaid : Prop := netlistBackRow.holds Try.pinned (OpenSpec.ofChange netlistBackSpec)

/-- ITS FALSE NEIGHBOUR: 'it returns false'. Refute it at one input. -/
def netlistBackWrong : ChangeSpec := { name := "netlistBack", fn := fun _ => fun
  | [d] => { results := [.lit (.bool false)], args := [d] }
  | _ => none }
def NetlistBackWrongFalsely : Prop := netlistBackRow.holds Try.pinned (OpenSpec.ofChange netlistBackWrong)

/-- 'masklaw3.GraphRuns': WHATEVER THE INPUT: true; the input reads as it did. -/
def graphRunsSpec : ChangeSpec := { name := "graphRuns", fn := fun _ => fun
  | [d1, d2] => { results := [.lit (.bool true)], args := [d1, d2] }
  | _ => none }
def graphRunsRow : OpenClaim := { program := "ytcpifmhcebfglaa", sum := "7d2b859a37828def3aa05d0283051e173f25a7f311f9a691536448b35b936916", func := "maskwright/masklaw3.GraphRuns", spec := "graphRuns", unfollowed := true, recurses := true, plainKeys := false, apart := false }
def GraphRunsSaid : Prop := graphRunsRow.holds Try.pinned (OpenSpec.ofChange graphRunsSpec)

/-- ITS FALSE NEIGHBOUR: 'it returns false'. Refute it at one input. -/
def graphRunsWrong : ChangeSpec := { name := "graphRuns", fn := fun _ => fun
  | [d1, d2] => { results := [.lit (.bool false)], args := [d1, d2] }
  | _ => none }
def GraphRunsWrongFalsely : Prop := graphRunsRow.holds Try.pinned (OpenSpec.ofChange graphRunsWrong)

/-- 'masklaw3.GraphLevels': WHATEVER THE INPUT: true; the input reads as it did. -/
def graphLevelsSpec : ChangeSpec := { name := "graphLevels", fn := fun _ => fun
  | [d] => { results := [.lit (.bool true)], args := [d] }
  | _ => none }
def graphLevelsRow : OpenClaim := { program := "ytcpifmhcebfglaa", sum := "7d2b859a37828def3aa05d0283051e173f25a7f311f9a691536448b35b936916", func := "maskwright/masklaw3.GraphLevels", spec := "graphLevels", unfollowed := true, recurses := true, plainKeys := false, apart := false }
def GraphLevelsSaid : Prop := graphLevelsRow.holds Try.pinned (OpenSpec.ofChange graphLevelsSpec)

/-- ITS FALSE NEIGHBOUR: 'it returns false'. Refute it at one input. -/
def graphLevelsWrong : ChangeSpec := { name := "graphLevels", fn := fun _ => fun
  | [d] => { results := [.lit (.bool false)], args := [d] }
  | _ => none }
def GraphLevelsWrongFalsely : Prop := graphLevelsRow.holds Try.pinned (OpenSpec.ofChange graphLevelsWrong)

/-- 'masklaw3.NetlistCleans': WHATEVER THE INPUT: true; the input reads as it did. -/
def netlistCleansSpec : ChangeSpec := { name := "netlistCleans", fn := fun _ => fun
  | [d] => { results := [.lit (.bool true)], args := [d] }
  | _ => none }
def netlistCleansRow : OpenClaim := { program := "ytcpifmhcebfglaa", sum := "7d2b859a37828def3aa05d0283051e173f25a7f311f9a691536448b35b936916", func := "maskwright/masklaw3.NetlistCleans", spec := "netlistCleans", unfollowed := true, recurses := true, plainKeys := false, apart := false }
def NetlistCleansSaid : Prop := netlistCleansRow.holds Try.pinned (OpenSpec.ofChange netlistCleansSpec)

/-- ITS FALSE NEIGHBOUR: 'it returns false'. Refute it at one input. -/
def netlistCleansWrong : ChangeSpec := { name := "netlistCleans", fn := fun _ => fun
  | [d] => { results := [.lit (.bool false)], args := [d] }
  | _ => none }
def NetlistCleansWrongFalsely : Prop := netlistCleansRow.holds Try.pinned (OpenSpec.ofChange netlistCleansWrong)

/- THE SECOND FORM. 'bulk': how many values and letters a reading holds, each counted each time it is reached (what is shared counts as often as it is met; a slice's spare places count too). A statement '..UptoSaid' is the law's where the arguments, and the package variables that the reading takes, are together of bulk at most 1048576: NARROWER than '..Said'. Prove '..Said' where nothing that the law and all that it calls make is longer than what came in: it says more and counts as full. Else prove '..UptoSaid'. A law counts once. -/
mutual
def uptoBulk {H : Type} : DataW H → Nat
  | .lit (.string bytes) => bytes.length + 1
  | .lit _ => 1
  | .nil => 1
  | .ptr d => uptoBulk d + 1
  | .slice elems spare => uptoBulkAll elems + uptoBulkAll spare + 1
  | .agg parts => uptoBulkAll parts + 1
  | .iface _ d => uptoBulk d + 1
  | .map entries => uptoBulkEntries entries + 1
  | .held _ => 1
def uptoBulkAll {H : Type} : List (DataW H) → Nat
  | [] => 0
  | d :: r => uptoBulk d + uptoBulkAll r
def uptoBulkEntries {H : Type} : List (Lit × DataW H) → Nat
  | [] => 0
  | x :: r => uptoBulkEntry x + uptoBulkEntries r
def uptoBulkEntry {H : Type} : Lit × DataW H → Nat
  | (.string bytes, d) => bytes.length + uptoBulk d + 1
  | (_, d) => uptoBulk d + 1
 end
def uptoSmall : (H : Type) → List (DataW H) → Bool := fun _ ds => decide (uptoBulkAll ds ≤ 1048576)
def OpenSpec.upto (s : _root_.Go.ChangeSpec) : _root_.Go.OpenSpec := { _root_.Go.OpenSpec.ofChange s with cond := some uptoSmall }

/-- 'maskkeep3.GraphSteps', WHERE WHAT IT READS IS OF BULK AT MOST 1048576: true; the input reads as it did. -/
def graphStepsUptoRow : OpenClaim := { program := "ytcpifmhcebfglaa", sum := "7d2b859a37828def3aa05d0283051e173f25a7f311f9a691536448b35b936916", func := "maskwright/maskkeep3.GraphSteps", spec := "graphSteps", unfollowed := true, recurses := true, plainKeys := false, apart := false, narrowed := true }
def GraphStepsUptoSaid : Prop := graphStepsUptoRow.holds Try.pinned (OpenSpec.upto graphStepsSpec)

/-- 'maskkeep3.GraphLanes', WHERE WHAT IT READS IS OF BULK AT MOST 1048576: true; the input reads as it did. -/
def graphLanesUptoRow : OpenClaim := { program := "ytcpifmhcebfglaa", sum := "7d2b859a37828def3aa05d0283051e173f25a7f311f9a691536448b35b936916", func := "maskwright/maskkeep3.GraphLanes", spec := "graphLanes", unfollowed := true, recurses := true, plainKeys := false, apart := false, narrowed := true }
def GraphLanesUptoSaid : Prop := graphLanesUptoRow.holds Try.pinned (OpenSpec.upto graphLanesSpec)

/-- 'maskkeep3.GraphTidies', WHERE WHAT IT READS IS OF BULK AT MOST 1048576: true; the input reads as it did. -/
def graphTidiesUptoRow : OpenClaim := { program := "ytcpifmhcebfglaa", sum := "7d2b859a37828def3aa05d0283051e173f25a7f311f9a691536448b35b936916", func := "maskwright/maskkeep3.GraphTidies", spec := "graphTidies", unfollowed := true, recurses := true, plainKeys := false, apart := false, narrowed := true }
def GraphTidiesUptoSaid : Prop := graphTidiesUptoRow.holds Try.pinned (OpenSpec.upto graphTidiesSpec)

/-- 'maskkeep3.GraphBeside', WHERE WHAT IT READS IS OF BULK AT MOST 1048576: true; the input reads as it did. -/
def graphBesideUptoRow : OpenClaim := { program := "ytcpifmhcebfglaa", sum := "7d2b859a37828def3aa05d0283051e173f25a7f311f9a691536448b35b936916", func := "maskwright/maskkeep3.GraphBeside", spec := "graphBeside", unfollowed := true, recurses := true, plainKeys := false, apart := false, narrowed := true }
def GraphBesideUptoSaid : Prop := graphBesideUptoRow.holds Try.pinned (OpenSpec.upto graphBesideSpec)

/-- 'maskkeep3.GraphTables', WHERE WHAT IT READS IS OF BULK AT MOST 1048576: true; the input reads as it did. -/
def graphTablesUptoRow : OpenClaim := { program := "ytcpifmhcebfglaa", sum := "7d2b859a37828def3aa05d0283051e173f25a7f311f9a691536448b35b936916", func := "maskwright/maskkeep3.GraphTables", spec := "graphTables", unfollowed := true, recurses := true, plainKeys := false, apart := false, narrowed := true }
def GraphTablesUptoSaid : Prop := graphTablesUptoRow.holds Try.pinned (OpenSpec.upto graphTablesSpec)

/-- 'maskkeep3.NetlistHolds', WHERE WHAT IT READS IS OF BULK AT MOST 1048576: true; the input reads as it did. -/
def netlistHoldsUptoRow : OpenClaim := { program := "ytcpifmhcebfglaa", sum := "7d2b859a37828def3aa05d0283051e173f25a7f311f9a691536448b35b936916", func := "maskwright/maskkeep3.NetlistHolds", spec := "netlistHolds", unfollowed := true, recurses := true, plainKeys := false, apart := false, narrowed := true }
def NetlistHoldsUptoSaid : Prop := netlistHoldsUptoRow.holds Try.pinned (OpenSpec.upto netlistHoldsSpec)

/-- 'maskkeep3.NetlistTidy', WHERE WHAT IT READS IS OF BULK AT MOST 1048576: true; the input reads as it did. -/
def netlistTidyUptoRow : OpenClaim := { program := "ytcpifmhcebfglaa", sum := "7d2b859a37828def3aa05d0283051e173f25a7f311f9a691536448b35b936916", func := "maskwright/maskkeep3.NetlistTidy", spec := "netlistTidy", unfollowed := true, recurses := true, plainKeys := false, apart := false, narrowed := true }
def NetlistTidyUptoSaid : Prop := netlistTidyUptoRow.holds Try.pinned (OpenSpec.upto netlistTidySpec)

/-- 'maskkeep3.NetlistUses', WHERE WHAT IT READS IS OF BULK AT MOST 1048576: true; the input reads as it did. -/
def netlistUsesUptoRow : OpenClaim := { program := "ytcpifmhcebfglaa", sum := "7d2b859a37828def3aa05d0283051e173f25a7f311f9a691536448b35b936916", func := "maskwright/maskkeep3.NetlistUses", spec := "netlistUses", unfollowed := true, recurses := true, plainKeys := false, apart := false, narrowed := true }
def NetlistUsesUptoSaid : Prop := netlistUsesUptoRow.holds Try.pinned (OpenSpec.upto netlistUsesSpec)

/-- 'maskkeep3.NetlistBack', WHERE WHAT IT READS IS OF BULK AT MOST 1048576: true; the input reads as it did. -/
def netlistBackUptoRow : OpenClaim := { program := "ytcpifmhcebfglaa", sum := "7d2b859a37828def3aa05d0283051e173f25a7f311f9a691536448b35b936916", func := "maskwright/maskkeep3.NetlistBack", spec := "netlistBack", unfollowed := true, recurses := true, plainKeys := false, apart := false, narrowed := true }
def NetlistBackUptoSaid : Prop := netlistBackUptoRow.holds Try.pinned (OpenSpec.upto netlistBackSpec)

/-- 'masklaw3.GraphRuns', WHERE WHAT IT READS IS OF BULK AT MOST 1048576: true; the input reads as it did. -/
def graphRunsUptoRow : OpenClaim := { program := "ytcpifmhcebfglaa", sum := "7d2b859a37828def3aa05d0283051e173f25a7f311f9a691536448b35b936916", func := "maskwright/masklaw3.GraphRuns", spec := "graphRuns", unfollowed := true, recurses := true, plainKeys := false, apart := false, narrowed := true }
def GraphRunsUptoSaid : Prop := graphRunsUptoRow.holds Try.pinned (OpenSpec.upto graphRunsSpec)

/-- 'masklaw3.GraphLevels', WHERE WHAT IT READS IS OF BULK AT MOST 1048576: true; the input reads as it did. -/
def graphLevelsUptoRow : OpenClaim := { program := "ytcpifmhcebfglaa", sum := "7d2b859a37828def3aa05d0283051e173f25a7f311f9a691536448b35b936916", func := "maskwright/masklaw3.GraphLevels", spec := "graphLevels", unfollowed := true, recurses := true, plainKeys := false, apart := false, narrowed := true }
def GraphLevelsUptoSaid : Prop := graphLevelsUptoRow.holds Try.pinned (OpenSpec.upto graphLevelsSpec)

/-- 'masklaw3.NetlistCleans', WHERE WHAT IT READS IS OF BULK AT MOST 1048576: true; the input reads as it did. -/
def netlistCleansUptoRow : OpenClaim := { program := "ytcpifmhcebfglaa", sum := "7d2b859a37828def3aa05d0283051e173f25a7f311f9a691536448b35b936916", func := "maskwright/masklaw3.NetlistCleans", spec := "netlistCleans", unfollowed := true, recurses := true, plainKeys := false, apart := false, narrowed := true }
def NetlistCleansUptoSaid : Prop := netlistCleansUptoRow.holds Try.pinned (OpenSpec.upto netlistCleansSpec)

end Rows
end Go.Proofs.Ytcpifmhcebfglaa
