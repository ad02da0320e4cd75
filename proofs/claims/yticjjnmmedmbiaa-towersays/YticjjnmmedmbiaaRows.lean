/-
  No cell of these rows narrows 'for every input' (looked for: loops, veiled, ifaces, maps, wideKeys, modest, calm, conditions, laid).
  DERIVED. THE GIVEN ROWS OF THIS SEAT. 11 by the template 'for every input the law returns true; each argument reads behind the call as it read before'; 0 by the template 'total and deterministic' (their statements: YticjjnmmedmbiaaTotals.lean).
  GIVEN WITH THE SEED: the statements are not yours to turn. If you find one false, say at which input.
  Laid BY PROGRAM, IN A SANDBOX (cutbox-rows.mjs): the forced cells as the released guide's own fill.sh prints them over the translation d48696af87a66707… (all of the seat's roots in one cut). By AI agents, Wed Nov 11 2026. No macro, syntax, notation, axiom, sorry.
-/
import Derived.Test.YticjjnmmedmbiaaChecked
import GoSem.Claim
import GoSem.ClaimJoined
import GoSem.ClaimMapViews
import Derived.JoinedTies
import Derived.KernelRfl
namespace Go.Proofs.Yticjjnmmedmbiaa
/- THE CELL 'sum', in the pinned program and in every row, IS THE sha256 OF THE DUMP (.gsa) THAT YticjjnmmedmbiaaProg.lean LOADS. Nothing in Lean hashes anything: it is a label: what it is worth is what the hold of that sum in a sandbox is worth. -/
noncomputable def Try.pinned : Pinned := { name := "yticjjnmmedmbiaa", sum := "d48696af87a667077f19b037c2db49d8a7c9f3a1ce051fb1af1ab46c0ead095a", checked := Try.checked }
namespace Rows
def none {H : Type} : Left H := { results := [], args := [] }

/-- 'coachhouselaw.TowerSays': WHATEVER THE INPUT: true; the input reads as it did. -/
def towerSaysSpec : ChangeSpec := { name := "towerSays", fn := fun _ => fun
  | [d1, d2, d3, d4] => { results := [.lit (.bool true)], args := [d1, d2, d3, d4] }
  | _ => none }
def towerSaysRow : OpenClaim := { program := "yticjjnmmedmbiaa", sum := "d48696af87a667077f19b037c2db49d8a7c9f3a1ce051fb1af1ab46c0ead095a", func := "coachhouse/coachhouselaw.TowerSays", spec := "towerSays", plainKeys := false, apart := false }
def TowerSaysSaid : Prop := towerSaysRow.holds Try.pinned (OpenSpec.ofChange towerSaysSpec)

/-- ITS FALSE NEIGHBOUR: 'it returns false'. Refute it at one input. -/
def towerSaysWrong : ChangeSpec := { name := "towerSays", fn := fun _ => fun
  | [d1, d2, d3, d4] => { results := [.lit (.bool false)], args := [d1, d2, d3, d4] }
  | _ => none }
def TowerSaysWrongFalsely : Prop := towerSaysRow.holds Try.pinned (OpenSpec.ofChange towerSaysWrong)

/-- 'coachhouselaw.PlantSays': WHATEVER THE INPUT: true; the input reads as it did. -/
def plantSaysSpec : ChangeSpec := { name := "plantSays", fn := fun _ => fun
  | [d1, d2] => { results := [.lit (.bool true)], args := [d1, d2] }
  | _ => none }
def plantSaysRow : OpenClaim := { program := "yticjjnmmedmbiaa", sum := "d48696af87a667077f19b037c2db49d8a7c9f3a1ce051fb1af1ab46c0ead095a", func := "coachhouse/coachhouselaw.PlantSays", spec := "plantSays", plainKeys := false, apart := false }
def PlantSaysSaid : Prop := plantSaysRow.holds Try.pinned (OpenSpec.ofChange plantSaysSpec)

/-- ITS FALSE NEIGHBOUR: 'it returns false'. Refute it at one input. -/
def plantSaysWrong : ChangeSpec := { name := "plantSays", fn := fun _ => fun
  | [d1, d2] => { results := [.lit (.bool false)], args := [d1, d2] }
  | _ => none }
def PlantSaysWrongFalsely : Prop := plantSaysRow.holds Try.pinned (OpenSpec.ofChange plantSaysWrong)

/-- 'coachhouselaw.GuardSays': WHATEVER THE INPUT: true; the input reads as it did. -/
def guardSaysSpec : ChangeSpec := { name := "guardSays", fn := fun _ => fun
  | [d1, d2] => { results := [.lit (.bool true)], args := [d1, d2] }
  | _ => none }
def guardSaysRow : OpenClaim := { program := "yticjjnmmedmbiaa", sum := "d48696af87a667077f19b037c2db49d8a7c9f3a1ce051fb1af1ab46c0ead095a", func := "coachhouse/coachhouselaw.GuardSays", spec := "guardSays", plainKeys := false, apart := false }
def GuardSaysSaid : Prop := guardSaysRow.holds Try.pinned (OpenSpec.ofChange guardSaysSpec)

/-- ITS FALSE NEIGHBOUR: 'it returns false'. Refute it at one input. -/
def guardSaysWrong : ChangeSpec := { name := "guardSays", fn := fun _ => fun
  | [d1, d2] => { results := [.lit (.bool false)], args := [d1, d2] }
  | _ => none }
def GuardSaysWrongFalsely : Prop := guardSaysRow.holds Try.pinned (OpenSpec.ofChange guardSaysWrong)

/-- 'coachhouselaw.GoalSays': WHATEVER THE INPUT: true; the input reads as it did. -/
def goalSaysSpec : ChangeSpec := { name := "goalSays", fn := fun _ => fun
  | [d1, d2] => { results := [.lit (.bool true)], args := [d1, d2] }
  | _ => none }
def goalSaysRow : OpenClaim := { program := "yticjjnmmedmbiaa", sum := "d48696af87a667077f19b037c2db49d8a7c9f3a1ce051fb1af1ab46c0ead095a", func := "coachhouse/coachhouselaw.GoalSays", spec := "goalSays", plainKeys := false, apart := false }
def GoalSaysSaid : Prop := goalSaysRow.holds Try.pinned (OpenSpec.ofChange goalSaysSpec)

/-- ITS FALSE NEIGHBOUR: 'it returns false'. Refute it at one input. -/
def goalSaysWrong : ChangeSpec := { name := "goalSays", fn := fun _ => fun
  | [d1, d2] => { results := [.lit (.bool false)], args := [d1, d2] }
  | _ => none }
def GoalSaysWrongFalsely : Prop := goalSaysRow.holds Try.pinned (OpenSpec.ofChange goalSaysWrong)

/-- 'coachhouselaw.PlanSays': WHATEVER THE INPUT: true; the input reads as it did. -/
def planSaysSpec : ChangeSpec := { name := "planSays", fn := fun _ => fun
  | [d] => { results := [.lit (.bool true)], args := [d] }
  | _ => none }
def planSaysRow : OpenClaim := { program := "yticjjnmmedmbiaa", sum := "d48696af87a667077f19b037c2db49d8a7c9f3a1ce051fb1af1ab46c0ead095a", func := "coachhouse/coachhouselaw.PlanSays", spec := "planSays", plainKeys := false, apart := false }
def PlanSaysSaid : Prop := planSaysRow.holds Try.pinned (OpenSpec.ofChange planSaysSpec)

/-- ITS FALSE NEIGHBOUR: 'it returns false'. Refute it at one input. -/
def planSaysWrong : ChangeSpec := { name := "planSays", fn := fun _ => fun
  | [d] => { results := [.lit (.bool false)], args := [d] }
  | _ => none }
def PlanSaysWrongFalsely : Prop := planSaysRow.holds Try.pinned (OpenSpec.ofChange planSaysWrong)

/-- 'coachhousetop.TopPlaces': WHATEVER THE INPUT: true; the input reads as it did. -/
def topPlacesSpec : ChangeSpec := { name := "topPlaces", fn := fun _ => fun
  | [d] => { results := [.lit (.bool true)], args := [d] }
  | _ => none }
def topPlacesRow : OpenClaim := { program := "yticjjnmmedmbiaa", sum := "d48696af87a667077f19b037c2db49d8a7c9f3a1ce051fb1af1ab46c0ead095a", func := "coachhouse/coachhousetop.TopPlaces", spec := "topPlaces", plainKeys := false, apart := false }
def TopPlacesSaid : Prop := topPlacesRow.holds Try.pinned (OpenSpec.ofChange topPlacesSpec)

/-- ITS FALSE NEIGHBOUR: 'it returns false'. Refute it at one input. -/
def topPlacesWrong : ChangeSpec := { name := "topPlaces", fn := fun _ => fun
  | [d] => { results := [.lit (.bool false)], args := [d] }
  | _ => none }
def TopPlacesWrongFalsely : Prop := topPlacesRow.holds Try.pinned (OpenSpec.ofChange topPlacesWrong)

/-- 'coachhousetop.TopExt': WHATEVER THE INPUT: true; the input reads as it did. -/
def topExtSpec : ChangeSpec := { name := "topExt", fn := fun _ => fun
  | [d1, d2] => { results := [.lit (.bool true)], args := [d1, d2] }
  | _ => none }
def topExtRow : OpenClaim := { program := "yticjjnmmedmbiaa", sum := "d48696af87a667077f19b037c2db49d8a7c9f3a1ce051fb1af1ab46c0ead095a", func := "coachhouse/coachhousetop.TopExt", spec := "topExt", plainKeys := false, apart := false }
def TopExtSaid : Prop := topExtRow.holds Try.pinned (OpenSpec.ofChange topExtSpec)

/-- ITS FALSE NEIGHBOUR: 'it returns false'. Refute it at one input. -/
def topExtWrong : ChangeSpec := { name := "topExt", fn := fun _ => fun
  | [d1, d2] => { results := [.lit (.bool false)], args := [d1, d2] }
  | _ => none }
def TopExtWrongFalsely : Prop := topExtRow.holds Try.pinned (OpenSpec.ofChange topExtWrong)

/-- 'coachhousetop.TopFits': WHATEVER THE INPUT: true; the input reads as it did. -/
def topFitsSpec : ChangeSpec := { name := "topFits", fn := fun _ => fun
  | [d1, d2, d3, d4] => { results := [.lit (.bool true)], args := [d1, d2, d3, d4] }
  | _ => none }
def topFitsRow : OpenClaim := { program := "yticjjnmmedmbiaa", sum := "d48696af87a667077f19b037c2db49d8a7c9f3a1ce051fb1af1ab46c0ead095a", func := "coachhouse/coachhousetop.TopFits", spec := "topFits", plainKeys := false, apart := false }
def TopFitsSaid : Prop := topFitsRow.holds Try.pinned (OpenSpec.ofChange topFitsSpec)

/-- ITS FALSE NEIGHBOUR: 'it returns false'. Refute it at one input. -/
def topFitsWrong : ChangeSpec := { name := "topFits", fn := fun _ => fun
  | [d1, d2, d3, d4] => { results := [.lit (.bool false)], args := [d1, d2, d3, d4] }
  | _ => none }
def TopFitsWrongFalsely : Prop := topFitsRow.holds Try.pinned (OpenSpec.ofChange topFitsWrong)

/-- 'coachhousetop.TopStay': WHATEVER THE INPUT: true; the input reads as it did. -/
def topStaySpec : ChangeSpec := { name := "topStay", fn := fun _ => fun
  | [d1, d2] => { results := [.lit (.bool true)], args := [d1, d2] }
  | _ => none }
def topStayRow : OpenClaim := { program := "yticjjnmmedmbiaa", sum := "d48696af87a667077f19b037c2db49d8a7c9f3a1ce051fb1af1ab46c0ead095a", func := "coachhouse/coachhousetop.TopStay", spec := "topStay", plainKeys := false, apart := false }
def TopStaySaid : Prop := topStayRow.holds Try.pinned (OpenSpec.ofChange topStaySpec)

/-- ITS FALSE NEIGHBOUR: 'it returns false'. Refute it at one input. -/
def topStayWrong : ChangeSpec := { name := "topStay", fn := fun _ => fun
  | [d1, d2] => { results := [.lit (.bool false)], args := [d1, d2] }
  | _ => none }
def TopStayWrongFalsely : Prop := topStayRow.holds Try.pinned (OpenSpec.ofChange topStayWrong)

/-- 'coachhousetop.TopSafe': WHATEVER THE INPUT: true; the input reads as it did. -/
def topSafeSpec : ChangeSpec := { name := "topSafe", fn := fun _ => fun
  | [d1, d2] => { results := [.lit (.bool true)], args := [d1, d2] }
  | _ => none }
def topSafeRow : OpenClaim := { program := "yticjjnmmedmbiaa", sum := "d48696af87a667077f19b037c2db49d8a7c9f3a1ce051fb1af1ab46c0ead095a", func := "coachhouse/coachhousetop.TopSafe", spec := "topSafe", plainKeys := false, apart := false }
def TopSafeSaid : Prop := topSafeRow.holds Try.pinned (OpenSpec.ofChange topSafeSpec)

/-- ITS FALSE NEIGHBOUR: 'it returns false'. Refute it at one input. -/
def topSafeWrong : ChangeSpec := { name := "topSafe", fn := fun _ => fun
  | [d1, d2] => { results := [.lit (.bool false)], args := [d1, d2] }
  | _ => none }
def TopSafeWrongFalsely : Prop := topSafeRow.holds Try.pinned (OpenSpec.ofChange topSafeWrong)

/-- 'coachhousetop.TopFree': WHATEVER THE INPUT: true; the input reads as it did. -/
def topFreeSpec : ChangeSpec := { name := "topFree", fn := fun _ => fun
  | [d1, d2, d3] => { results := [.lit (.bool true)], args := [d1, d2, d3] }
  | _ => none }
def topFreeRow : OpenClaim := { program := "yticjjnmmedmbiaa", sum := "d48696af87a667077f19b037c2db49d8a7c9f3a1ce051fb1af1ab46c0ead095a", func := "coachhouse/coachhousetop.TopFree", spec := "topFree", plainKeys := false, apart := false }
def TopFreeSaid : Prop := topFreeRow.holds Try.pinned (OpenSpec.ofChange topFreeSpec)

/-- ITS FALSE NEIGHBOUR: 'it returns false'. Refute it at one input. -/
def topFreeWrong : ChangeSpec := { name := "topFree", fn := fun _ => fun
  | [d1, d2, d3] => { results := [.lit (.bool false)], args := [d1, d2, d3] }
  | _ => none }
def TopFreeWrongFalsely : Prop := topFreeRow.holds Try.pinned (OpenSpec.ofChange topFreeWrong)

/- THE SECOND FORM. 'bulk': how many values and letters a reading holds, each counted each time it is reached (what is shared counts as often as it is met; a slice's spare places count too). A statement '..UptoSaid' is the law's where the arguments, and the package variables that the reading takes, are together of bulk at most 1048576: NARROWER than '..Said'. Prove '..Said' where nothing that the law and all that it calls make is longer than what came in: it says more and counts as full. Else prove '..UptoSaid'. A law counts once. -/
mutual
def uptoBulk {H : Type} : DataW H → Nat
  | .lit (.string bytes) => bytes.length + 1
  | .lit _ => 1
  | .nil => 1
  | .ptr d => uptoBulk d + 1
  | .slice elems spare => uptoBulkAll elems + uptoBulkAll spare + 1
  | .agg parts => uptoBulkAll parts + 1
  | .iface _ d => uptoBulk d + 1
  | .map entries => uptoBulkEntries entries + 1
  | .held _ => 1
def uptoBulkAll {H : Type} : List (DataW H) → Nat
  | [] => 0
  | d :: r => uptoBulk d + uptoBulkAll r
def uptoBulkEntries {H : Type} : List (Lit × DataW H) → Nat
  | [] => 0
  | x :: r => uptoBulkEntry x + uptoBulkEntries r
def uptoBulkEntry {H : Type} : Lit × DataW H → Nat
  | (.string bytes, d) => bytes.length + uptoBulk d + 1
  | (_, d) => uptoBulk d + 1
 end
def uptoSmall : (H : Type) → List (DataW H) → Bool := fun _ ds => decide (uptoBulkAll ds ≤ 1048576)
def OpenSpec.upto (s : _root_.Go.ChangeSpec) : _root_.Go.OpenSpec := { _root_.Go.OpenSpec.ofChange s with cond := some uptoSmall }

/-- 'coachhouselaw.TowerSays', WHERE WHAT IT READS IS OF BULK AT MOST 1048576: true; the input reads as it did. -/
def towerSaysUptoRow : OpenClaim := { program := "yticjjnmmedmbiaa", sum := "d48696af87a667077f19b037c2db49d8a7c9f3a1ce051fb1af1ab46c0ead095a", func := "coachhouse/coachhouselaw.TowerSays", spec := "towerSays", plainKeys := false, apart := false, narrowed := true }
def TowerSaysUptoSaid : Prop := towerSaysUptoRow.holds Try.pinned (OpenSpec.upto towerSaysSpec)

/-- 'coachhouselaw.PlantSays', WHERE WHAT IT READS IS OF BULK AT MOST 1048576: true; the input reads as it did. -/
def plantSaysUptoRow : OpenClaim := { program := "yticjjnmmedmbiaa", sum := "d48696af87a667077f19b037c2db49d8a7c9f3a1ce051fb1af1ab46c0ead095a", func := "coachhouse/coachhouselaw.PlantSays", spec := "plantSays", plainKeys := false, apart := false, narrowed := true }
def PlantSaysUptoSaid : Prop := plantSaysUptoRow.holds Try.pinned (OpenSpec.upto plantSaysSpec)

/-- 'coachhouselaw.GuardSays', WHERE WHAT IT READS IS OF BULK AT MOST 1048576: true; the input reads as it did. -/
def guardSaysUptoRow : OpenClaim := { program := "yticjjnmmedmbiaa", sum := "d48696af87a667077f19b037c2db49d8a7c9f3a1ce051fb1af1ab46c0ead095a", func := "coachhouse/coachhouselaw.GuardSays", spec := "guardSays", plainKeys := false, apart := false, narrowed := true }
def GuardSaysUptoSaid : Prop := guardSaysUptoRow.holds Try.pinned (OpenSpec.upto guardSaysSpec)

/-- 'coachhouselaw.GoalSays', WHERE WHAT IT READS IS OF BULK AT MOST 1048576: true; the input reads as it did. -/
def goalSaysUptoRow : OpenClaim := { program := "yticjjnmmedmbiaa", sum := "d48696af87a667077f19b037c2db49d8a7c9f3a1ce051fb1af1ab46c0ead095a", func := "coachhouse/coachhouselaw.GoalSays", spec := "goalSays", plainKeys := false, apart := false, narrowed := true }
def GoalSaysUptoSaid : Prop := goalSaysUptoRow.holds Try.pinned (OpenSpec.upto goalSaysSpec)

/-- 'coachhouselaw.PlanSays', WHERE WHAT IT READS IS OF BULK AT MOST 1048576: true; the input reads as it did. -/
def planSaysUptoRow : OpenClaim := { program := "yticjjnmmedmbiaa", sum := "d48696af87a667077f19b037c2db49d8a7c9f3a1ce051fb1af1ab46c0ead095a", func := "coachhouse/coachhouselaw.PlanSays", spec := "planSays", plainKeys := false, apart := false, narrowed := true }
def PlanSaysUptoSaid : Prop := planSaysUptoRow.holds Try.pinned (OpenSpec.upto planSaysSpec)

/-- 'coachhousetop.TopPlaces', WHERE WHAT IT READS IS OF BULK AT MOST 1048576: true; the input reads as it did. -/
def topPlacesUptoRow : OpenClaim := { program := "yticjjnmmedmbiaa", sum := "d48696af87a667077f19b037c2db49d8a7c9f3a1ce051fb1af1ab46c0ead095a", func := "coachhouse/coachhousetop.TopPlaces", spec := "topPlaces", plainKeys := false, apart := false, narrowed := true }
def TopPlacesUptoSaid : Prop := topPlacesUptoRow.holds Try.pinned (OpenSpec.upto topPlacesSpec)

/-- 'coachhousetop.TopExt', WHERE WHAT IT READS IS OF BULK AT MOST 1048576: true; the input reads as it did. -/
def topExtUptoRow : OpenClaim := { program := "yticjjnmmedmbiaa", sum := "d48696af87a667077f19b037c2db49d8a7c9f3a1ce051fb1af1ab46c0ead095a", func := "coachhouse/coachhousetop.TopExt", spec := "topExt", plainKeys := false, apart := false, narrowed := true }
def TopExtUptoSaid : Prop := topExtUptoRow.holds Try.pinned (OpenSpec.upto topExtSpec)

/-- 'coachhousetop.TopFits', WHERE WHAT IT READS IS OF BULK AT MOST 1048576: true; the input reads as it did. -/
def topFitsUptoRow : OpenClaim := { program := "yticjjnmmedmbiaa", sum := "d48696af87a667077f19b037c2db49d8a7c9f3a1ce051fb1af1ab46c0ead095a", func := "coachhouse/coachhousetop.TopFits", spec := "topFits", plainKeys := false, apart := false, narrowed := true }
def TopFitsUptoSaid : Prop := topFitsUptoRow.holds Try.pinned (OpenSpec.upto topFitsSpec)

/-- 'coachhousetop.TopStay', WHERE WHAT IT READS IS OF BULK AT MOST 1048576: true; the input reads as it did. -/
def topStayUptoRow : OpenClaim := { program := "yticjjnmmedmbiaa", sum := "d48696af87a667077f19b037c2db49d8a7c9f3a1ce051fb1af1ab46c0ead095a", func := "coachhouse/coachhousetop.TopStay", spec := "topStay", plainKeys := false, apart := false, narrowed := true }
def TopStayUptoSaid : Prop := topStayUptoRow.holds Try.pinned (OpenSpec.upto topStaySpec)

/-- 'coachhousetop.TopSafe', WHERE WHAT IT READS IS OF BULK AT MOST 1048576: true; the input reads as it did. -/
def topSafeUptoRow : OpenClaim := { program := "yticjjnmmedmbiaa", sum := "d48696af87a667077f19b037c2db49d8a7c9f3a1ce051fb1af1ab46c0ead095a", func := "coachhouse/coachhousetop.TopSafe", spec := "topSafe", plainKeys := false, apart := false, narrowed := true }
def TopSafeUptoSaid : Prop := topSafeUptoRow.holds Try.pinned (OpenSpec.upto topSafeSpec)

/-- 'coachhousetop.TopFree', WHERE WHAT IT READS IS OF BULK AT MOST 1048576: true; the input reads as it did. -/
def topFreeUptoRow : OpenClaim := { program := "yticjjnmmedmbiaa", sum := "d48696af87a667077f19b037c2db49d8a7c9f3a1ce051fb1af1ab46c0ead095a", func := "coachhouse/coachhousetop.TopFree", spec := "topFree", plainKeys := false, apart := false, narrowed := true }
def TopFreeUptoSaid : Prop := topFreeUptoRow.holds Try.pinned (OpenSpec.upto topFreeSpec)

end Rows
end Go.Proofs.Yticjjnmmedmbiaa
