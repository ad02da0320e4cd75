/-
  No cell of these rows narrows 'for every input' (looked for: loops, veiled, ifaces, maps, wideKeys, modest, calm, conditions, laid).
  DERIVED. THE GIVEN ROWS OF THIS SEAT. 7 by the template 'for every input the law returns true; each argument reads behind the call as it read before'; 0 by the template 'total and deterministic' (their statements: YtihapeagjikiaaaTotals.lean).
  GIVEN WITH THE SEED: the statements are not yours to turn. If you find one false, say at which input.
  Laid BY PROGRAM, IN A SANDBOX (cutbox-rows.mjs): the forced cells as the released guide's own fill.sh prints them over the translation 502676b6191e03a0… (all of the seat's roots in one cut). By AI agents, Wed Nov 11 2026. No macro, syntax, notation, axiom, sorry.
-/
import Derived.Test.YtihapeagjikiaaaChecked
import GoSem.Claim
import GoSem.ClaimJoined
import GoSem.ClaimMapViews
import Derived.JoinedTies
import Derived.KernelRfl
namespace Go.Proofs.Ytihapeagjikiaaa
/- THE CELL 'sum', in the pinned program and in every row, IS THE sha256 OF THE DUMP (.gsa) THAT YtihapeagjikiaaaProg.lean LOADS. Nothing in Lean hashes anything: it is a label: what it is worth is what the hold of that sum in a sandbox is worth. -/
noncomputable def Try.pinned : Pinned := { name := "ytihapeagjikiaaa", sum := "502676b6191e03a07d8020b1455580884d3c8621ddcb53a74b8494a3c74fdb6b", checked := Try.checked }
namespace Rows
def none {H : Type} : Left H := { results := [], args := [] }

/-- 'coachhouselaw.DeskSays': WHATEVER THE INPUT: true; the input reads as it did. -/
def deskSaysSpec : ChangeSpec := { name := "deskSays", fn := fun _ => fun
  | [d1, d2, d3, d4, d5] => { results := [.lit (.bool true)], args := [d1, d2, d3, d4, d5] }
  | _ => none }
def deskSaysRow : OpenClaim := { program := "ytihapeagjikiaaa", sum := "502676b6191e03a07d8020b1455580884d3c8621ddcb53a74b8494a3c74fdb6b", func := "coachhouse/coachhouselaw.DeskSays", spec := "deskSays", unfollowed := true, recurses := true, plainKeys := false, apart := false }
def DeskSaysSaid : Prop := deskSaysRow.holds Try.pinned (OpenSpec.ofChange deskSaysSpec)

/-- ITS FALSE NEIGHBOUR: 'it returns false'. Refute it at one input. -/
def deskSaysWrong : ChangeSpec := { name := "deskSays", fn := fun _ => fun
  | [d1, d2, d3, d4, d5] => { results := [.lit (.bool false)], args := [d1, d2, d3, d4, d5] }
  | _ => none }
def DeskSaysWrongFalsely : Prop := deskSaysRow.holds Try.pinned (OpenSpec.ofChange deskSaysWrong)

/-- 'coachhousetop.TopPick': WHATEVER THE INPUT: true; the input reads as it did. -/
def topPickSpec : ChangeSpec := { name := "topPick", fn := fun _ => fun
  | [d1, d2, d3] => { results := [.lit (.bool true)], args := [d1, d2, d3] }
  | _ => none }
def topPickRow : OpenClaim := { program := "ytihapeagjikiaaa", sum := "502676b6191e03a07d8020b1455580884d3c8621ddcb53a74b8494a3c74fdb6b", func := "coachhouse/coachhousetop.TopPick", spec := "topPick", unfollowed := true, recurses := true, plainKeys := false, apart := false }
def TopPickSaid : Prop := topPickRow.holds Try.pinned (OpenSpec.ofChange topPickSpec)

/-- ITS FALSE NEIGHBOUR: 'it returns false'. Refute it at one input. -/
def topPickWrong : ChangeSpec := { name := "topPick", fn := fun _ => fun
  | [d1, d2, d3] => { results := [.lit (.bool false)], args := [d1, d2, d3] }
  | _ => none }
def TopPickWrongFalsely : Prop := topPickRow.holds Try.pinned (OpenSpec.ofChange topPickWrong)

/-- 'coachhousetop.TopPark': WHATEVER THE INPUT: true; the input reads as it did. -/
def topParkSpec : ChangeSpec := { name := "topPark", fn := fun _ => fun
  | [d1, d2, d3] => { results := [.lit (.bool true)], args := [d1, d2, d3] }
  | _ => none }
def topParkRow : OpenClaim := { program := "ytihapeagjikiaaa", sum := "502676b6191e03a07d8020b1455580884d3c8621ddcb53a74b8494a3c74fdb6b", func := "coachhouse/coachhousetop.TopPark", spec := "topPark", unfollowed := true, recurses := true, plainKeys := false, apart := false }
def TopParkSaid : Prop := topParkRow.holds Try.pinned (OpenSpec.ofChange topParkSpec)

/-- ITS FALSE NEIGHBOUR: 'it returns false'. Refute it at one input. -/
def topParkWrong : ChangeSpec := { name := "topPark", fn := fun _ => fun
  | [d1, d2, d3] => { results := [.lit (.bool false)], args := [d1, d2, d3] }
  | _ => none }
def TopParkWrongFalsely : Prop := topParkRow.holds Try.pinned (OpenSpec.ofChange topParkWrong)

/-- 'coachhousetop.TopOver': WHATEVER THE INPUT: true; the input reads as it did. -/
def topOverSpec : ChangeSpec := { name := "topOver", fn := fun _ => fun
  | [d1, d2, d3, d4] => { results := [.lit (.bool true)], args := [d1, d2, d3, d4] }
  | _ => none }
def topOverRow : OpenClaim := { program := "ytihapeagjikiaaa", sum := "502676b6191e03a07d8020b1455580884d3c8621ddcb53a74b8494a3c74fdb6b", func := "coachhouse/coachhousetop.TopOver", spec := "topOver", unfollowed := true, recurses := true, plainKeys := false, apart := false }
def TopOverSaid : Prop := topOverRow.holds Try.pinned (OpenSpec.ofChange topOverSpec)

/-- ITS FALSE NEIGHBOUR: 'it returns false'. Refute it at one input. -/
def topOverWrong : ChangeSpec := { name := "topOver", fn := fun _ => fun
  | [d1, d2, d3, d4] => { results := [.lit (.bool false)], args := [d1, d2, d3, d4] }
  | _ => none }
def TopOverWrongFalsely : Prop := topOverRow.holds Try.pinned (OpenSpec.ofChange topOverWrong)

/-- 'coachhouselaw.DiskSays': WHATEVER THE INPUT: true; the input reads as it did. -/
def diskSaysSpec : ChangeSpec := { name := "diskSays", fn := fun _ => fun
  | [d1, d2] => { results := [.lit (.bool true)], args := [d1, d2] }
  | _ => none }
def diskSaysRow : OpenClaim := { program := "ytihapeagjikiaaa", sum := "502676b6191e03a07d8020b1455580884d3c8621ddcb53a74b8494a3c74fdb6b", func := "coachhouse/coachhouselaw.DiskSays", spec := "diskSays", unfollowed := true, recurses := true, plainKeys := false, apart := false }
def DiskSaysSaid : Prop := diskSaysRow.holds Try.pinned (OpenSpec.ofChange diskSaysSpec)

/-- ITS FALSE NEIGHBOUR: 'it returns false'. Refute it at one input. -/
def diskSaysWrong : ChangeSpec := { name := "diskSays", fn := fun _ => fun
  | [d1, d2] => { results := [.lit (.bool false)], args := [d1, d2] }
  | _ => none }
def DiskSaysWrongFalsely : Prop := diskSaysRow.holds Try.pinned (OpenSpec.ofChange diskSaysWrong)

/-- 'coachhousetop.TopDisk': WHATEVER THE INPUT: true; the input reads as it did. -/
def topDiskSpec : ChangeSpec := { name := "topDisk", fn := fun _ => fun
  | [d1, d2, d3] => { results := [.lit (.bool true)], args := [d1, d2, d3] }
  | _ => none }
def topDiskRow : OpenClaim := { program := "ytihapeagjikiaaa", sum := "502676b6191e03a07d8020b1455580884d3c8621ddcb53a74b8494a3c74fdb6b", func := "coachhouse/coachhousetop.TopDisk", spec := "topDisk", unfollowed := true, recurses := true, plainKeys := false, apart := false }
def TopDiskSaid : Prop := topDiskRow.holds Try.pinned (OpenSpec.ofChange topDiskSpec)

/-- ITS FALSE NEIGHBOUR: 'it returns false'. Refute it at one input. -/
def topDiskWrong : ChangeSpec := { name := "topDisk", fn := fun _ => fun
  | [d1, d2, d3] => { results := [.lit (.bool false)], args := [d1, d2, d3] }
  | _ => none }
def TopDiskWrongFalsely : Prop := topDiskRow.holds Try.pinned (OpenSpec.ofChange topDiskWrong)

/-- 'coachhouselaw.TurnSays': WHATEVER THE INPUT: true; the input reads as it did. -/
def turnSaysSpec : ChangeSpec := { name := "turnSays", fn := fun _ => fun
  | [d1, d2, d3] => { results := [.lit (.bool true)], args := [d1, d2, d3] }
  | _ => none }
def turnSaysRow : OpenClaim := { program := "ytihapeagjikiaaa", sum := "502676b6191e03a07d8020b1455580884d3c8621ddcb53a74b8494a3c74fdb6b", func := "coachhouse/coachhouselaw.TurnSays", spec := "turnSays", unfollowed := true, recurses := true, plainKeys := false, apart := false }
def TurnSaysSaid : Prop := turnSaysRow.holds Try.pinned (OpenSpec.ofChange turnSaysSpec)

/-- ITS FALSE NEIGHBOUR: 'it returns false'. Refute it at one input. -/
def turnSaysWrong : ChangeSpec := { name := "turnSays", fn := fun _ => fun
  | [d1, d2, d3] => { results := [.lit (.bool false)], args := [d1, d2, d3] }
  | _ => none }
def TurnSaysWrongFalsely : Prop := turnSaysRow.holds Try.pinned (OpenSpec.ofChange turnSaysWrong)

/- THE SECOND FORM. 'bulk': how many values and letters a reading holds, each counted each time it is reached (what is shared counts as often as it is met; a slice's spare places count too). A statement '..UptoSaid' is the law's where the arguments, and the package variables that the reading takes, are together of bulk at most 1048576: NARROWER than '..Said'. Prove '..Said' where nothing that the law and all that it calls make is longer than what came in: it says more and counts as full. Else prove '..UptoSaid'. A law counts once. -/
mutual
def uptoBulk {H : Type} : DataW H → Nat
  | .lit (.string bytes) => bytes.length + 1
  | .lit _ => 1
  | .nil => 1
  | .ptr d => uptoBulk d + 1
  | .slice elems spare => uptoBulkAll elems + uptoBulkAll spare + 1
  | .agg parts => uptoBulkAll parts + 1
  | .iface _ d => uptoBulk d + 1
  | .map entries => uptoBulkEntries entries + 1
  | .held _ => 1
def uptoBulkAll {H : Type} : List (DataW H) → Nat
  | [] => 0
  | d :: r => uptoBulk d + uptoBulkAll r
def uptoBulkEntries {H : Type} : List (Lit × DataW H) → Nat
  | [] => 0
  | x :: r => uptoBulkEntry x + uptoBulkEntries r
def uptoBulkEntry {H : Type} : Lit × DataW H → Nat
  | (.string bytes, d) => bytes.length + uptoBulk d + 1
  | (_, d) => uptoBulk d + 1
 end
def uptoSmall : (H : Type) → List (DataW H) → Bool := fun _ ds => decide (uptoBulkAll ds ≤ 1048576)
def OpenSpec.upto (s : _root_.Go.ChangeSpec) : _root_.Go.OpenSpec := { _root_.Go.OpenSpec.ofChange s with cond := some uptoSmall }

/-- 'coachhouselaw.DeskSays', WHERE WHAT IT READS IS OF BULK AT MOST 1048576: true; the input reads as it did. -/
def deskSaysUptoRow : OpenClaim := { program := "ytihapeagjikiaaa", sum := "502676b6191e03a07d8020b1455580884d3c8621ddcb53a74b8494a3c74fdb6b", func := "coachhouse/coachhouselaw.DeskSays", spec := "deskSays", unfollowed := true, recurses := true, plainKeys := false, apart := false, narrowed := true }
def DeskSaysUptoSaid : Prop := deskSaysUptoRow.holds Try.pinned (OpenSpec.upto deskSaysSpec)

/-- 'coachhousetop.TopPick', WHERE WHAT IT READS IS OF BULK AT MOST 1048576: true; the input reads as it did. -/
def topPickUptoRow : OpenClaim := { program := "ytihapeagjikiaaa", sum := "502676b6191e03a07d8020b1455580884d3c8621ddcb53a74b8494a3c74fdb6b", func := "coachhouse/coachhousetop.TopPick", spec := "topPick", unfollowed := true, recurses := true, plainKeys := false, apart := false, narrowed := true }
def TopPickUptoSaid : Prop := topPickUptoRow.holds Try.pinned (OpenSpec.upto topPickSpec)

/-- 'coachhousetop.TopPark', WHERE WHAT IT READS IS OF BULK AT MOST 1048576: true; the input reads as it did. -/
def topParkUptoRow : OpenClaim := { program := "ytihapeagjikiaaa", sum := "502676b6191e03a07d8020b1455580884d3c8621ddcb53a74b8494a3c74fdb6b", func := "coachhouse/coachhousetop.TopPark", spec := "topPark", unfollowed := true, recurses := true, plainKeys := false, apart := false, narrowed := true }
def TopParkUptoSaid : Prop := topParkUptoRow.holds Try.pinned (OpenSpec.upto topParkSpec)

/-- 'coachhousetop.TopOver', WHERE WHAT IT READS IS OF BULK AT MOST 1048576: true; the input reads as it did. -/
def topOverUptoRow : OpenClaim := { program := "ytihapeagjikiaaa", sum := "502676b6191e03a07d8020b1455580884d3c8621ddcb53a74b8494a3c74fdb6b", func := "coachhouse/coachhousetop.TopOver", spec := "topOver", unfollowed := true, recurses := true, plainKeys := false, apart := false, narrowed := true }
def TopOverUptoSaid : Prop := topOverUptoRow.holds Try.pinned (OpenSpec.upto topOverSpec)

/-- 'coachhouselaw.DiskSays', WHERE WHAT IT READS IS OF BULK AT MOST 1048576: true; the input reads as it did. -/
def diskSaysUptoRow : OpenClaim := { program := "ytihapeagjikiaaa", sum := "502676b6191e03a07d8020b1455580884d3c8621ddcb53a74b8494a3c74fdb6b", func := "coachhouse/coachhouselaw.DiskSays", spec := "diskSays", unfollowed := true, recurses := true, plainKeys := false, apart := false, narrowed := true }
def DiskSaysUptoSaid : Prop := diskSaysUptoRow.holds Try.pinned (OpenSpec.upto diskSaysSpec)

/-- 'coachhousetop.TopDisk', WHERE WHAT IT READS IS OF BULK AT MOST 1048576: true; the input reads as it did. -/
def topDiskUptoRow : OpenClaim := { program := "ytihapeagjikiaaa", sum := "502676b6191e03a07d8020b1455580884d3c8621ddcb53a74b8494a3c74fdb6b", func := "coachhouse/coachhousetop.TopDisk", spec := "topDisk", unfollowed := true, recurses := true, plainKeys := false, apart := false, narrowed := true }
def TopDiskUptoSaid : Prop := topDiskUptoRow.holds Try.pinned (OpenSpec.upto topDiskSpec)

/-- 'coachhouselaw.TurnSays', WHERE WHAT IT READS IS OF BULK AT MOST 1048576: true; the input reads as it did. -/
def turnSaysUptoRow : OpenClaim := { program := "ytihapeagjikiaaa", sum := "502676b6191e03a07d8020b1455580884d3c8621ddcb53a74b8494a3c74fdb6b", func := "coachhouse/coachhouselaw.TurnSays", spec := "turnSays", unfollowed := true, recurses := true, plainKeys := false, apart := false, narrowed := true }
def TurnSaysUptoSaid : Prop := turnSaysUptoRow.holds Try.pinned (OpenSpec.upto turnSaysSpec)

end Rows
end Go.Proofs.Ytihapeagjikiaaa
