/-
  No cell of these rows narrows 'for every input' (looked for: loops, veiled, ifaces, maps, wideKeys, modest, calm, conditions, laid).
  DERIVED. THE GIVEN ROWS OF THIS SEAT. 9 by the template 'for every input the law returns true; each argument reads behind the call as it read before'; 0 by the template 'total and deterministic' (their statements: YticjjnmmedmbiabTotals.lean).
  GIVEN WITH THE SEED: the statements are not yours to turn. If you find one false, say at which input.
  Laid BY PROGRAM, IN A SANDBOX (cutbox-rows.mjs): the forced cells as the released guide's own fill.sh prints them over the translation dcfee87e60bd5a4d… (all of the seat's roots in one cut). By AI agents, Wed Nov 11 2026. No macro, syntax, notation, axiom, sorry.
-/
import Derived.Test.YticjjnmmedmbiabChecked
import GoSem.Claim
import GoSem.ClaimJoined
import GoSem.ClaimMapViews
import Derived.JoinedTies
import Derived.KernelRfl
namespace Go.Proofs.Yticjjnmmedmbiab
/- THE CELL 'sum', in the pinned program and in every row, IS THE sha256 OF THE DUMP (.gsa) THAT YticjjnmmedmbiabProg.lean LOADS. Nothing in Lean hashes anything: it is a label: what it is worth is what the hold of that sum in a sandbox is worth. -/
noncomputable def Try.pinned : Pinned := { name := "yticjjnmmedmbiab", sum := "dcfee87e60bd5a4d749ba6d2f0dbfce6f7198d3dc7495fe1495b14d1b7b679f5", checked := Try.checked }
namespace Rows
def none {H : Type} : Left H := { results := [], args := [] }

/-- 'coachhousetop.TopGoal': WHATEVER THE INPUT: true; the input reads as it did. -/
def topGoalSpec : ChangeSpec := { name := "topGoal", fn := fun _ => fun
  | [d1, d2, d3] => { results := [.lit (.bool true)], args := [d1, d2, d3] }
  | _ => none }
def topGoalRow : OpenClaim := { program := "yticjjnmmedmbiab", sum := "dcfee87e60bd5a4d749ba6d2f0dbfce6f7198d3dc7495fe1495b14d1b7b679f5", func := "coachhouse/coachhousetop.TopGoal", spec := "topGoal", plainKeys := false, apart := false }
def TopGoalSaid : Prop := topGoalRow.holds Try.pinned (OpenSpec.ofChange topGoalSpec)

/-- ITS FALSE NEIGHBOUR: 'it returns false'. Refute it at one input. -/
def topGoalWrong : ChangeSpec := { name := "topGoal", fn := fun _ => fun
  | [d1, d2, d3] => { results := [.lit (.bool false)], args := [d1, d2, d3] }
  | _ => none }
def TopGoalWrongFalsely : Prop := topGoalRow.holds Try.pinned (OpenSpec.ofChange topGoalWrong)

/-- 'coachhousetop.TopFetch': WHATEVER THE INPUT: true; the input reads as it did. -/
def topFetchSpec : ChangeSpec := { name := "topFetch", fn := fun _ => fun
  | [d1, d2, d3] => { results := [.lit (.bool true)], args := [d1, d2, d3] }
  | _ => none }
def topFetchRow : OpenClaim := { program := "yticjjnmmedmbiab", sum := "dcfee87e60bd5a4d749ba6d2f0dbfce6f7198d3dc7495fe1495b14d1b7b679f5", func := "coachhouse/coachhousetop.TopFetch", spec := "topFetch", plainKeys := false, apart := false }
def TopFetchSaid : Prop := topFetchRow.holds Try.pinned (OpenSpec.ofChange topFetchSpec)

/-- ITS FALSE NEIGHBOUR: 'it returns false'. Refute it at one input. -/
def topFetchWrong : ChangeSpec := { name := "topFetch", fn := fun _ => fun
  | [d1, d2, d3] => { results := [.lit (.bool false)], args := [d1, d2, d3] }
  | _ => none }
def TopFetchWrongFalsely : Prop := topFetchRow.holds Try.pinned (OpenSpec.ofChange topFetchWrong)

/-- 'coachhousetop.TopBring': WHATEVER THE INPUT: true; the input reads as it did. -/
def topBringSpec : ChangeSpec := { name := "topBring", fn := fun _ => fun
  | [d1, d2, d3] => { results := [.lit (.bool true)], args := [d1, d2, d3] }
  | _ => none }
def topBringRow : OpenClaim := { program := "yticjjnmmedmbiab", sum := "dcfee87e60bd5a4d749ba6d2f0dbfce6f7198d3dc7495fe1495b14d1b7b679f5", func := "coachhouse/coachhousetop.TopBring", spec := "topBring", plainKeys := false, apart := false }
def TopBringSaid : Prop := topBringRow.holds Try.pinned (OpenSpec.ofChange topBringSpec)

/-- ITS FALSE NEIGHBOUR: 'it returns false'. Refute it at one input. -/
def topBringWrong : ChangeSpec := { name := "topBring", fn := fun _ => fun
  | [d1, d2, d3] => { results := [.lit (.bool false)], args := [d1, d2, d3] }
  | _ => none }
def TopBringWrongFalsely : Prop := topBringRow.holds Try.pinned (OpenSpec.ofChange topBringWrong)

/-- 'coachhousetop.TopPass': WHATEVER THE INPUT: true; the input reads as it did. -/
def topPassSpec : ChangeSpec := { name := "topPass", fn := fun _ => fun
  | [d1, d2, d3] => { results := [.lit (.bool true)], args := [d1, d2, d3] }
  | _ => none }
def topPassRow : OpenClaim := { program := "yticjjnmmedmbiab", sum := "dcfee87e60bd5a4d749ba6d2f0dbfce6f7198d3dc7495fe1495b14d1b7b679f5", func := "coachhouse/coachhousetop.TopPass", spec := "topPass", plainKeys := false, apart := false }
def TopPassSaid : Prop := topPassRow.holds Try.pinned (OpenSpec.ofChange topPassSpec)

/-- ITS FALSE NEIGHBOUR: 'it returns false'. Refute it at one input. -/
def topPassWrong : ChangeSpec := { name := "topPass", fn := fun _ => fun
  | [d1, d2, d3] => { results := [.lit (.bool false)], args := [d1, d2, d3] }
  | _ => none }
def TopPassWrongFalsely : Prop := topPassRow.holds Try.pinned (OpenSpec.ofChange topPassWrong)

/-- 'coachhouselaw.DeskSays': WHATEVER THE INPUT: true; the input reads as it did. -/
def deskSaysSpec : ChangeSpec := { name := "deskSays", fn := fun _ => fun
  | [d1, d2, d3, d4, d5] => { results := [.lit (.bool true)], args := [d1, d2, d3, d4, d5] }
  | _ => none }
def deskSaysRow : OpenClaim := { program := "yticjjnmmedmbiab", sum := "dcfee87e60bd5a4d749ba6d2f0dbfce6f7198d3dc7495fe1495b14d1b7b679f5", func := "coachhouse/coachhouselaw.DeskSays", spec := "deskSays", unfollowed := true, recurses := true, plainKeys := false, apart := false }
def DeskSaysSaid : Prop := deskSaysRow.holds Try.pinned (OpenSpec.ofChange deskSaysSpec)

/-- ITS FALSE NEIGHBOUR: 'it returns false'. Refute it at one input. -/
def deskSaysWrong : ChangeSpec := { name := "deskSays", fn := fun _ => fun
  | [d1, d2, d3, d4, d5] => { results := [.lit (.bool false)], args := [d1, d2, d3, d4, d5] }
  | _ => none }
def DeskSaysWrongFalsely : Prop := deskSaysRow.holds Try.pinned (OpenSpec.ofChange deskSaysWrong)

/-- 'coachhousetop.TopPick': WHATEVER THE INPUT: true; the input reads as it did. -/
def topPickSpec : ChangeSpec := { name := "topPick", fn := fun _ => fun
  | [d1, d2, d3] => { results := [.lit (.bool true)], args := [d1, d2, d3] }
  | _ => none }
def topPickRow : OpenClaim := { program := "yticjjnmmedmbiab", sum := "dcfee87e60bd5a4d749ba6d2f0dbfce6f7198d3dc7495fe1495b14d1b7b679f5", func := "coachhouse/coachhousetop.TopPick", spec := "topPick", unfollowed := true, recurses := true, plainKeys := false, apart := false }
def TopPickSaid : Prop := topPickRow.holds Try.pinned (OpenSpec.ofChange topPickSpec)

/-- ITS FALSE NEIGHBOUR: 'it returns false'. Refute it at one input. -/
def topPickWrong : ChangeSpec := { name := "topPick", fn := fun _ => fun
  | [d1, d2, d3] => { results := [.lit (.bool false)], args := [d1, d2, d3] }
  | _ => none }
def TopPickWrongFalsely : Prop := topPickRow.holds Try.pinned (OpenSpec.ofChange topPickWrong)

/-- 'coachhousetop.TopPark': WHATEVER THE INPUT: true; the input reads as it did. -/
def topParkSpec : ChangeSpec := { name := "topPark", fn := fun _ => fun
  | [d1, d2, d3] => { results := [.lit (.bool true)], args := [d1, d2, d3] }
  | _ => none }
def topParkRow : OpenClaim := { program := "yticjjnmmedmbiab", sum := "dcfee87e60bd5a4d749ba6d2f0dbfce6f7198d3dc7495fe1495b14d1b7b679f5", func := "coachhouse/coachhousetop.TopPark", spec := "topPark", unfollowed := true, recurses := true, plainKeys := false, apart := false }
def TopParkSaid : Prop := topParkRow.holds Try.pinned (OpenSpec.ofChange topParkSpec)

/-- ITS FALSE NEIGHBOUR: 'it returns false'. Refute it at one input. -/
def topParkWrong : ChangeSpec := { name := "topPark", fn := fun _ => fun
  | [d1, d2, d3] => { results := [.lit (.bool false)], args := [d1, d2, d3] }
  | _ => none }
def TopParkWrongFalsely : Prop := topParkRow.holds Try.pinned (OpenSpec.ofChange topParkWrong)

/-- 'coachhousetop.TopOver': WHATEVER THE INPUT: true; the input reads as it did. -/
def topOverSpec : ChangeSpec := { name := "topOver", fn := fun _ => fun
  | [d1, d2, d3, d4] => { results := [.lit (.bool true)], args := [d1, d2, d3, d4] }
  | _ => none }
def topOverRow : OpenClaim := { program := "yticjjnmmedmbiab", sum := "dcfee87e60bd5a4d749ba6d2f0dbfce6f7198d3dc7495fe1495b14d1b7b679f5", func := "coachhouse/coachhousetop.TopOver", spec := "topOver", unfollowed := true, recurses := true, plainKeys := false, apart := false }
def TopOverSaid : Prop := topOverRow.holds Try.pinned (OpenSpec.ofChange topOverSpec)

/-- ITS FALSE NEIGHBOUR: 'it returns false'. Refute it at one input. -/
def topOverWrong : ChangeSpec := { name := "topOver", fn := fun _ => fun
  | [d1, d2, d3, d4] => { results := [.lit (.bool false)], args := [d1, d2, d3, d4] }
  | _ => none }
def TopOverWrongFalsely : Prop := topOverRow.holds Try.pinned (OpenSpec.ofChange topOverWrong)

/-- 'coachhouselaw.DiskSays': WHATEVER THE INPUT: true; the input reads as it did. -/
def diskSaysSpec : ChangeSpec := { name := "diskSays", fn := fun _ => fun
  | [d1, d2] => { results := [.lit (.bool true)], args := [d1, d2] }
  | _ => none }
def diskSaysRow : OpenClaim := { program := "yticjjnmmedmbiab", sum := "dcfee87e60bd5a4d749ba6d2f0dbfce6f7198d3dc7495fe1495b14d1b7b679f5", func := "coachhouse/coachhouselaw.DiskSays", spec := "diskSays", unfollowed := true, recurses := true, plainKeys := false, apart := false }
def DiskSaysSaid : Prop := diskSaysRow.holds Try.pinned (OpenSpec.ofChange diskSaysSpec)

/-- ITS FALSE NEIGHBOUR: 'it returns false'. Refute it at one input. -/
def diskSaysWrong : ChangeSpec := { name := "diskSays", fn := fun _ => fun
  | [d1, d2] => { results := [.lit (.bool false)], args := [d1, d2] }
  | _ => none }
def DiskSaysWrongFalsely : Prop := diskSaysRow.holds Try.pinned (OpenSpec.ofChange diskSaysWrong)

/- THE SECOND FORM. 'bulk': how many values and letters a reading holds, each counted each time it is reached (what is shared counts as often as it is met; a slice's spare places count too). A statement '..UptoSaid' is the law's where the arguments, and the package variables that the reading takes, are together of bulk at most 1048576: NARROWER than '..Said'. Prove '..Said' where nothing that the law and all that it calls make is longer than what came in: it says more and counts as full. Else prove '..UptoSaid'. A law counts once. -/
mutual
def uptoBulk {H : Type} : DataW H → Nat
  | .lit (.string bytes) => bytes.length + 1
  | .lit _ => 1
  | .nil => 1
  | .ptr d => uptoBulk d + 1
  | .slice elems spare => uptoBulkAll elems + uptoBulkAll spare + 1
  | .agg parts => uptoBulkAll parts + 1
  | .iface _ d => uptoBulk d + 1
  | .map entries => uptoBulkEntries entries + 1
  | .held _ => 1
def uptoBulkAll {H : Type} : List (DataW H) → Nat
  | [] => 0
  | d :: r => uptoBulk d + uptoBulkAll r
def uptoBulkEntries {H : Type} : List (Lit × DataW H) → Nat
  | [] => 0
  | x :: r => uptoBulkEntry x + uptoBulkEntries r
def uptoBulkEntry {H : Type} : Lit × DataW H → Nat
  | (.string bytes, d) => bytes.length + uptoBulk d + 1
  | (_, d) => uptoBulk d + 1
 end
def uptoSmall : (H : Type) → List (DataW H) → Bool := fun _ ds => decide (uptoBulkAll ds ≤ 1048576)
def OpenSpec.upto (s : _root_.Go.ChangeSpec) : _root_.Go.OpenSpec := { _root_.Go.OpenSpec.ofChange s with cond := some uptoSmall }

/-- 'coachhousetop.TopGoal', WHERE WHAT IT READS IS OF BULK AT MOST 1048576: true; the input reads as it did. -/
def topGoalUptoRow : OpenClaim := { program := "yticjjnmmedmbiab", sum := "dcfee87e60bd5a4d749ba6d2f0dbfce6f7198d3dc7495fe1495b14d1b7b679f5", func := "coachhouse/coachhousetop.TopGoal", spec := "topGoal", plainKeys := false, apart := false, narrowed := true }
def TopGoalUptoSaid : Prop := topGoalUptoRow.holds Try.pinned (OpenSpec.upto topGoalSpec)

/-- 'coachhousetop.TopFetch', WHERE WHAT IT READS IS OF BULK AT MOST 1048576: true; the input reads as it did. -/
def topFetchUptoRow : OpenClaim := { program := "yticjjnmmedmbiab", sum := "dcfee87e60bd5a4d749ba6d2f0dbfce6f7198d3dc7495fe1495b14d1b7b679f5", func := "coachhouse/coachhousetop.TopFetch", spec := "topFetch", plainKeys := false, apart := false, narrowed := true }
def TopFetchUptoSaid : Prop := topFetchUptoRow.holds Try.pinned (OpenSpec.upto topFetchSpec)

/-- 'coachhousetop.TopBring', WHERE WHAT IT READS IS OF BULK AT MOST 1048576: true; the input reads as it did. -/
def topBringUptoRow : OpenClaim := { program := "yticjjnmmedmbiab", sum := "dcfee87e60bd5a4d749ba6d2f0dbfce6f7198d3dc7495fe1495b14d1b7b679f5", func := "coachhouse/coachhousetop.TopBring", spec := "topBring", plainKeys := false, apart := false, narrowed := true }
def TopBringUptoSaid : Prop := topBringUptoRow.holds Try.pinned (OpenSpec.upto topBringSpec)

/-- 'coachhousetop.TopPass', WHERE WHAT IT READS IS OF BULK AT MOST 1048576: true; the input reads as it did. -/
def topPassUptoRow : OpenClaim := { program := "yticjjnmmedmbiab", sum := "dcfee87e60bd5a4d749ba6d2f0dbfce6f7198d3dc7495fe1495b14d1b7b679f5", func := "coachhouse/coachhousetop.TopPass", spec := "topPass", plainKeys := false, apart := false, narrowed := true }
def TopPassUptoSaid : Prop := topPassUptoRow.holds Try.pinned (OpenSpec.upto topPassSpec)

/-- 'coachhouselaw.DeskSays', WHERE WHAT IT READS IS OF BULK AT MOST 1048576: true; the input reads as it did. -/
def deskSaysUptoRow : OpenClaim := { program := "yticjjnmmedmbiab", sum := "dcfee87e60bd5a4d749ba6d2f0dbfce6f7198d3dc7495fe1495b14d1b7b679f5", func := "coachhouse/coachhouselaw.DeskSays", spec := "deskSays", unfollowed := true, recurses := true, plainKeys := false, apart := false, narrowed := true }
def DeskSaysUptoSaid : Prop := deskSaysUptoRow.holds Try.pinned (OpenSpec.upto deskSaysSpec)

/-- 'coachhousetop.TopPick', WHERE WHAT IT READS IS OF BULK AT MOST 1048576: true; the input reads as it did. -/
def topPickUptoRow : OpenClaim := { program := "yticjjnmmedmbiab", sum := "dcfee87e60bd5a4d749ba6d2f0dbfce6f7198d3dc7495fe1495b14d1b7b679f5", func := "coachhouse/coachhousetop.TopPick", spec := "topPick", unfollowed := true, recurses := true, plainKeys := false, apart := false, narrowed := true }
def TopPickUptoSaid : Prop := topPickUptoRow.holds Try.pinned (OpenSpec.upto topPickSpec)

/-- 'coachhousetop.TopPark', WHERE WHAT IT READS IS OF BULK AT MOST 1048576: true; the input reads as it did. -/
def topParkUptoRow : OpenClaim := { program := "yticjjnmmedmbiab", sum := "dcfee87e60bd5a4d749ba6d2f0dbfce6f7198d3dc7495fe1495b14d1b7b679f5", func := "coachhouse/coachhousetop.TopPark", spec := "topPark", unfollowed := true, recurses := true, plainKeys := false, apart := false, narrowed := true }
def TopParkUptoSaid : Prop := topParkUptoRow.holds Try.pinned (OpenSpec.upto topParkSpec)

/-- 'coachhousetop.TopOver', WHERE WHAT IT READS IS OF BULK AT MOST 1048576: true; the input reads as it did. -/
def topOverUptoRow : OpenClaim := { program := "yticjjnmmedmbiab", sum := "dcfee87e60bd5a4d749ba6d2f0dbfce6f7198d3dc7495fe1495b14d1b7b679f5", func := "coachhouse/coachhousetop.TopOver", spec := "topOver", unfollowed := true, recurses := true, plainKeys := false, apart := false, narrowed := true }
def TopOverUptoSaid : Prop := topOverUptoRow.holds Try.pinned (OpenSpec.upto topOverSpec)

/-- 'coachhouselaw.DiskSays', WHERE WHAT IT READS IS OF BULK AT MOST 1048576: true; the input reads as it did. -/
def diskSaysUptoRow : OpenClaim := { program := "yticjjnmmedmbiab", sum := "dcfee87e60bd5a4d749ba6d2f0dbfce6f7198d3dc7495fe1495b14d1b7b679f5", func := "coachhouse/coachhouselaw.DiskSays", spec := "diskSays", unfollowed := true, recurses := true, plainKeys := false, apart := false, narrowed := true }
def DiskSaysUptoSaid : Prop := diskSaysUptoRow.holds Try.pinned (OpenSpec.upto diskSaysSpec)

end Rows
end Go.Proofs.Yticjjnmmedmbiab
