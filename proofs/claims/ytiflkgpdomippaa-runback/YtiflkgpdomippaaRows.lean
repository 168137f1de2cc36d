/-
  No cell of these rows narrows 'for every input' (looked for: loops, veiled, ifaces, maps, wideKeys, modest, calm, conditions, laid).
  DERIVED. THE GIVEN ROWS OF THIS SEAT. 6 by the template 'for every input the law returns true; each argument reads behind the call as it read before'; 0 by the template 'total and deterministic' (their statements: YtiflkgpdomippaaTotals.lean).
  GIVEN WITH THE SEED: the statements are not yours to turn. If you find one false, say at which input.
  Laid BY PROGRAM, IN A SANDBOX (cutbox-rows.mjs): the forced cells as the released guide's own fill.sh prints them over the translation 87f987951132cdeb… (all of the seat's roots in one cut). By AI agents, Wed Nov 11 2026. No macro, syntax, notation, axiom, sorry.
-/
import Derived.Test.YtiflkgpdomippaaChecked
import GoSem.Claim
import GoSem.ClaimJoined
import GoSem.ClaimMapViews
import Derived.JoinedTies
import Derived.KernelRfl
namespace Go.Proofs.Ytiflkgpdomippaa
/- THE CELL 'sum', in the pinned program and in every row, IS THE sha256 OF THE DUMP (.gsa) THAT YtiflkgpdomippaaProg.lean LOADS. Nothing in Lean hashes anything: it is a label: what it is worth is what the hold of that sum in a sandbox is worth. -/
noncomputable def Try.pinned : Pinned := { name := "ytiflkgpdomippaa", sum := "87f987951132cdeb4e7130a11c14e873b45ff230d21b7acb57d3c8f0a27d0537", checked := Try.checked }
namespace Rows
def none {H : Type} : Left H := { results := [], args := [] }

/-- 'wherrylaw07.RunBuilds': WHATEVER THE INPUT: true; the input reads as it did. -/
def runBuildsSpec : ChangeSpec := { name := "runBuilds", fn := fun _ => fun
  | [d1, d2] => { results := [.lit (.bool true)], args := [d1, d2] }
  | _ => none }
def runBuildsRow : OpenClaim := { program := "ytiflkgpdomippaa", sum := "87f987951132cdeb4e7130a11c14e873b45ff230d21b7acb57d3c8f0a27d0537", func := "wherry/wherrylaw07.RunBuilds", spec := "runBuilds", inPlace := ["internal/bytealg.abigen_runtime_cmpstring"], unfollowed := true, recurses := true, apart := false }
def RunBuildsSaid : Prop := runBuildsRow.holds Try.pinned (OpenSpec.ofChange runBuildsSpec)

/-- ITS FALSE NEIGHBOUR: 'it returns false'. Refute it at one input. -/
def runBuildsWrong : ChangeSpec := { name := "runBuilds", fn := fun _ => fun
  | [d1, d2] => { results := [.lit (.bool false)], args := [d1, d2] }
  | _ => none }
def RunBuildsWrongFalsely : Prop := runBuildsRow.holds Try.pinned (OpenSpec.ofChange runBuildsWrong)

/-- 'wherrylaw07.RunOpens': WHATEVER THE INPUT: true; the input reads as it did. -/
def runOpensSpec : ChangeSpec := { name := "runOpens", fn := fun _ => fun
  | [d1, d2] => { results := [.lit (.bool true)], args := [d1, d2] }
  | _ => none }
def runOpensRow : OpenClaim := { program := "ytiflkgpdomippaa", sum := "87f987951132cdeb4e7130a11c14e873b45ff230d21b7acb57d3c8f0a27d0537", func := "wherry/wherrylaw07.RunOpens", spec := "runOpens", inPlace := ["internal/bytealg.abigen_runtime_cmpstring"], unfollowed := true, recurses := true, apart := false }
def RunOpensSaid : Prop := runOpensRow.holds Try.pinned (OpenSpec.ofChange runOpensSpec)

/-- ITS FALSE NEIGHBOUR: 'it returns false'. Refute it at one input. -/
def runOpensWrong : ChangeSpec := { name := "runOpens", fn := fun _ => fun
  | [d1, d2] => { results := [.lit (.bool false)], args := [d1, d2] }
  | _ => none }
def RunOpensWrongFalsely : Prop := runOpensRow.holds Try.pinned (OpenSpec.ofChange runOpensWrong)

/-- 'wherrylaw07.RunBack': WHATEVER THE INPUT: true; the input reads as it did. -/
def runBackSpec : ChangeSpec := { name := "runBack", fn := fun _ => fun
  | [d] => { results := [.lit (.bool true)], args := [d] }
  | _ => none }
def runBackRow : OpenClaim := { program := "ytiflkgpdomippaa", sum := "87f987951132cdeb4e7130a11c14e873b45ff230d21b7acb57d3c8f0a27d0537", func := "wherry/wherrylaw07.RunBack", spec := "runBack", inPlace := ["internal/bytealg.abigen_runtime_cmpstring"], unfollowed := true, recurses := true, apart := false }
def RunBackSaid : Prop := runBackRow.holds Try.pinned (OpenSpec.ofChange runBackSpec)

/-- ITS FALSE NEIGHBOUR: 'it returns false'. Refute it at one input. -/
def runBackWrong : ChangeSpec := { name := "runBack", fn := fun _ => fun
  | [d] => { results := [.lit (.bool false)], args := [d] }
  | _ => none }
def RunBackWrongFalsely : Prop := runBackRow.holds Try.pinned (OpenSpec.ofChange runBackWrong)

/-- 'wherrylaw07.RunSizes': WHATEVER THE INPUT: true; the input reads as it did. -/
def runSizesSpec : ChangeSpec := { name := "runSizes", fn := fun _ => fun
  | [d1, d2, d3] => { results := [.lit (.bool true)], args := [d1, d2, d3] }
  | _ => none }
def runSizesRow : OpenClaim := { program := "ytiflkgpdomippaa", sum := "87f987951132cdeb4e7130a11c14e873b45ff230d21b7acb57d3c8f0a27d0537", func := "wherry/wherrylaw07.RunSizes", spec := "runSizes", inPlace := ["internal/bytealg.abigen_runtime_cmpstring"], unfollowed := true, recurses := true, apart := false }
def RunSizesSaid : Prop := runSizesRow.holds Try.pinned (OpenSpec.ofChange runSizesSpec)

/-- ITS FALSE NEIGHBOUR: 'it returns false'. Refute it at one input. -/
def runSizesWrong : ChangeSpec := { name := "runSizes", fn := fun _ => fun
  | [d1, d2, d3] => { results := [.lit (.bool false)], args := [d1, d2, d3] }
  | _ => none }
def RunSizesWrongFalsely : Prop := runSizesRow.holds Try.pinned (OpenSpec.ofChange runSizesWrong)

/-- 'wherrylaw07.RunNil': WHATEVER THE INPUT: true; the input reads as it did. -/
def runNilSpec : ChangeSpec := { name := "runNil", fn := fun _ => fun
  | [d1, d2] => { results := [.lit (.bool true)], args := [d1, d2] }
  | _ => none }
def runNilRow : OpenClaim := { program := "ytiflkgpdomippaa", sum := "87f987951132cdeb4e7130a11c14e873b45ff230d21b7acb57d3c8f0a27d0537", func := "wherry/wherrylaw07.RunNil", spec := "runNil", inPlace := ["internal/bytealg.abigen_runtime_cmpstring"], unfollowed := true, recurses := true, apart := false }
def RunNilSaid : Prop := runNilRow.holds Try.pinned (OpenSpec.ofChange runNilSpec)

/-- ITS FALSE NEIGHBOUR: 'it returns false'. Refute it at one input. -/
def runNilWrong : ChangeSpec := { name := "runNil", fn := fun _ => fun
  | [d1, d2] => { results := [.lit (.bool false)], args := [d1, d2] }
  | _ => none }
def RunNilWrongFalsely : Prop := runNilRow.holds Try.pinned (OpenSpec.ofChange runNilWrong)

/-- 'wherrylaw07.RunBlocks': WHATEVER THE INPUT: true; the input reads as it did. -/
def runBlocksSpec : ChangeSpec := { name := "runBlocks", fn := fun _ => fun
  | [d] => { results := [.lit (.bool true)], args := [d] }
  | _ => none }
def runBlocksRow : OpenClaim := { program := "ytiflkgpdomippaa", sum := "87f987951132cdeb4e7130a11c14e873b45ff230d21b7acb57d3c8f0a27d0537", func := "wherry/wherrylaw07.RunBlocks", spec := "runBlocks", inPlace := ["internal/bytealg.abigen_runtime_cmpstring"], unfollowed := true, recurses := true, apart := false }
def RunBlocksSaid : Prop := runBlocksRow.holds Try.pinned (OpenSpec.ofChange runBlocksSpec)

/-- ITS FALSE NEIGHBOUR: 'it returns false'. Refute it at one input. -/
def runBlocksWrong : ChangeSpec := { name := "runBlocks", fn := fun _ => fun
  | [d] => { results := [.lit (.bool false)], args := [d] }
  | _ => none }
def RunBlocksWrongFalsely : Prop := runBlocksRow.holds Try.pinned (OpenSpec.ofChange runBlocksWrong)

/- THE SECOND FORM. 'bulk': how many values and letters a reading holds, each counted each time it is reached (what is shared counts as often as it is met; a slice's spare places count too). A statement '..UptoSaid' is the law's where the arguments, and the package variables that the reading takes, are together of bulk at most 1048576: NARROWER than '..Said'. Prove '..Said' where nothing that the law and all that it calls make is longer than what came in: it says more and counts as full. Else prove '..UptoSaid'. A law counts once. -/
mutual
def uptoBulk {H : Type} : DataW H → Nat
  | .lit (.string bytes) => bytes.length + 1
  | .lit _ => 1
  | .nil => 1
  | .ptr d => uptoBulk d + 1
  | .slice elems spare => uptoBulkAll elems + uptoBulkAll spare + 1
  | .agg parts => uptoBulkAll parts + 1
  | .iface _ d => uptoBulk d + 1
  | .map entries => uptoBulkEntries entries + 1
  | .held _ => 1
def uptoBulkAll {H : Type} : List (DataW H) → Nat
  | [] => 0
  | d :: r => uptoBulk d + uptoBulkAll r
def uptoBulkEntries {H : Type} : List (Lit × DataW H) → Nat
  | [] => 0
  | x :: r => uptoBulkEntry x + uptoBulkEntries r
def uptoBulkEntry {H : Type} : Lit × DataW H → Nat
  | (.string bytes, d) => bytes.length + uptoBulk d + 1
  | (_, d) => uptoBulk d + 1
 end
def uptoSmall : (H : Type) → List (DataW H) → Bool := fun _ ds => decide (uptoBulkAll ds ≤ 1048576)
def OpenSpec.upto (s : _root_.Go.ChangeSpec) : _root_.Go.OpenSpec := { _root_.Go.OpenSpec.ofChange s with cond := some uptoSmall }

/-- 'wherrylaw07.RunBuilds', WHERE WHAT IT READS IS OF BULK AT MOST 1048576: true; the input reads as it did. -/
def runBuildsUptoRow : OpenClaim := { program := "ytiflkgpdomippaa", sum := "87f987951132cdeb4e7130a11c14e873b45ff230d21b7acb57d3c8f0a27d0537", func := "wherry/wherrylaw07.RunBuilds", spec := "runBuilds", inPlace := ["internal/bytealg.abigen_runtime_cmpstring"], unfollowed := true, recurses := true, apart := false, narrowed := true }
def RunBuildsUptoSaid : Prop := runBuildsUptoRow.holds Try.pinned (OpenSpec.upto runBuildsSpec)

/-- 'wherrylaw07.RunOpens', WHERE WHAT IT READS IS OF BULK AT MOST 1048576: true; the input reads as it did. -/
def runOpensUptoRow : OpenClaim := { program := "ytiflkgpdomippaa", sum := "87f987951132cdeb4e7130a11c14e873b45ff230d21b7acb57d3c8f0a27d0537", func := "wherry/wherrylaw07.RunOpens", spec := "runOpens", inPlace := ["internal/bytealg.abigen_runtime_cmpstring"], unfollowed := true, recurses := true, apart := false, narrowed := true }
def RunOpensUptoSaid : Prop := runOpensUptoRow.holds Try.pinned (OpenSpec.upto runOpensSpec)

/-- 'wherrylaw07.RunBack', WHERE WHAT IT READS IS OF BULK AT MOST 1048576: true; the input reads as it did. -/
def runBackUptoRow : OpenClaim := { program := "ytiflkgpdomippaa", sum := "87f987951132cdeb4e7130a11c14e873b45ff230d21b7acb57d3c8f0a27d0537", func := "wherry/wherrylaw07.RunBack", spec := "runBack", inPlace := ["internal/bytealg.abigen_runtime_cmpstring"], unfollowed := true, recurses := true, apart := false, narrowed := true }
def RunBackUptoSaid : Prop := runBackUptoRow.holds Try.pinned (OpenSpec.upto runBackSpec)

/-- 'wherrylaw07.RunSizes', WHERE WHAT IT READS IS OF BULK AT MOST 1048576: true; the input reads as it did. -/
def runSizesUptoRow : OpenClaim := { program := "ytiflkgpdomippaa", sum := "87f987951132cdeb4e7130a11c14e873b45ff230d21b7acb57d3c8f0a27d0537", func := "wherry/wherrylaw07.RunSizes", spec := "runSizes", inPlace := ["internal/bytealg.abigen_runtime_cmpstring"], unfollowed := true, recurses := true, apart := false, narrowed := true }
def RunSizesUptoSaid : Prop := runSizesUptoRow.holds Try.pinned (OpenSpec.upto runSizesSpec)

/-- 'wherrylaw07.RunNil', WHERE WHAT IT READS IS OF BULK AT MOST 1048576: true; the input reads as it did. -/
def runNilUptoRow : OpenClaim := { program := "ytiflkgpdomippaa", sum := "87f987951132cdeb4e7130a11c14e873b45ff230d21b7acb57d3c8f0a27d0537", func := "wherry/wherrylaw07.RunNil", spec := "runNil", inPlace := ["internal/bytealg.abigen_runtime_cmpstring"], unfollowed := true, recurses := true, apart := false, narrowed := true }
def RunNilUptoSaid : Prop := runNilUptoRow.holds Try.pinned (OpenSpec.upto runNilSpec)

/-- 'wherrylaw07.RunBlocks', WHERE WHAT IT READS IS OF BULK AT MOST 1048576: true; the input reads as it did. -/
def runBlocksUptoRow : OpenClaim := { program := "ytiflkgpdomippaa", sum := "87f987951132cdeb4e7130a11c14e873b45ff230d21b7acb57d3c8f0a27d0537", func := "wherry/wherrylaw07.RunBlocks", spec := "runBlocks", inPlace := ["internal/bytealg.abigen_runtime_cmpstring"], unfollowed := true, recurses := true, apart := false, narrowed := true }
def RunBlocksUptoSaid : Prop := runBlocksUptoRow.holds Try.pinned (OpenSpec.upto runBlocksSpec)

end Rows
end Go.Proofs.Ytiflkgpdomippaa
