/- Chapter 6: the disk: a step, armed or not, down or not; contract for the laws of stage 3. -/
import Derived.Test.YtmojjjikaaclpaaDiskJ
namespace Go.Proofs.Ytmojjjikaaclpaa
open Go.Shelf Go.Lib Go.ChangeShapes Go.WideShapes Go.ChangeAt Go.RowKit
set_option maxRecDepth 100000
set_option linter.unusedSimpArgs false
set_option linter.unusedVariables false

namespace Dk
open Bk
/-- A cell of the disk's own block is another. -/
theorem DiskAt.head {w : World} {base db sb : Nat} {secs : List Sec} {bit bit' : Int} {armed armed' : Bool} {left left' : Int} {down down' : Bool} (h : DiskAt w base db sb secs bit armed left down) (o : Nat) (v : Value)
    (e : (#[.slice (some ⟨sb, 0, none⟩) secs.length secs.length, .int .i64 bit, .bool armed, .int .i64 left, .bool down] : Array Value).setIfInBounds o v = #[.slice (some ⟨sb, 0, none⟩) secs.length secs.length, .int .i64 bit', .bool armed', .int .i64 left', .bool down']) : DiskAt (w.setCell ⟨db, o, none⟩ v) base db sb secs bit' armed' left' down' := by
  have hdb : db ≠ sb := fun e => by
    have h1 := h.d
    rw [e] at h1
    exact absurd (blk_typeD h1 h.s) (by decide)
  refine ⟨e ▸ h.d.set o v, h.s.other hdb _ _, fun i hi => (h.own i hi).grown (grown_set w db o _) (fun g e1 e' => ?_), h.ne, h.hb⟩
  injection e' with e'
  subst e'
  exact own_neD (h.own i hi) h.d (by decide) e1
def downB (armed : Bool) (left : Int) (down : Bool) : Bool := down || (armed && left == 0)
def leftN (armed : Bool) (left : Int) (down : Bool) : Int := if (armed && !downB armed left down) = true then left - 1 else left
def stepN (armed : Bool) (left : Int) (down : Bool) : Int := if downB armed left down = true then 9 else 0

set_option maxHeartbeats 2000000 in
theorem step_any (base db sb : Nat) (secs : List Sec) (bit : Int) (armed : Bool) (left : Int) (down : Bool) (w : World) (h : DiskAt w base db sb secs bit armed left down) (hbase : base ≤ w.heap.size) (hl : 0 ≤ left ∨ armed = false) (hl2 : left ≤ 9223372036854775807) :
    Calls Try.prog 22 #[.pointer (some ⟨db, 0, none⟩)] w fun e w' => e = .returned (errV (stepN armed left down)) ∧ DiskAt w' base db sb secs bit armed (leftN armed left down) (downB armed left down) ∧ DFr base w w' := by
  have c2 := h.d.cell 2
  have c3 := h.d.cell 3
  have c4 := h.d.cell 4
  simp only [List.getElem?_toArray, List.getElem?_cons_succ, List.getElem?_cons_zero] at c2 c3 c4
  have H0 : Hid (DiskAt w base db sb secs bit armed left down) := h
  have ff := h.d.free
  clear h
  cases armed
  · cases down
    · go_enter Try.func22, Try.ntmps22
      go_wp2
      go_returns
      exact ⟨rfl, H0.out, DFr.refl _ _⟩
    · go_enter Try.func22, Try.ntmps22
      go_wp2
      go_returns
      exact ⟨rfl, H0.out, DFr.refl _ _⟩
  · cases hz : (left == 0)
    · have hlp : 1 ≤ left := by
        have : left ≠ 0 := by simpa using hz
        rcases hl with h | h
        · omega
        · cases h
      have HLN : Hid (leftN true left false = left - 1 ∧ downB true left false = false ∧ stepN true left false = 0) := by unfold leftN stepN downB; rw [hz]; exact ⟨rfl, rfl, rfl⟩
      have HLD : Hid (leftN true left true = left ∧ downB true left true = true ∧ stepN true left true = 9) := by unfold leftN stepN downB; rw [hz]; exact ⟨rfl, rfl, rfl⟩
      cases down
      · rw [HLN.out.1, HLN.out.2.1, HLN.out.2.2]
        have X : Hid (DiskAt (w.setCell ⟨db, 3, none⟩ (.int .i64 (left - 1))) base db sb secs bit true (left - 1) false ∧ DFr base w (w.setCell ⟨db, 3, none⟩ (.int .i64 (left - 1)))) := ⟨H0.out.head 3 _ rfl, DFr.of_set H0.out.d H0.out.hb.1 3 _⟩
        clear HLN HLD
        go_enter Try.func22, Try.ntmps22
        go_wp2
        go_returns
        exact ⟨rfl, X.out.1, X.out.2⟩
      · rw [HLD.out.1, HLD.out.2.1, HLD.out.2.2]
        clear HLN HLD
        go_enter Try.func22, Try.ntmps22
        go_wp2
        go_returns
        exact ⟨rfl, H0.out, DFr.refl _ _⟩
    · have hl0 : left = 0 := by simpa using hz
      subst hl0
      have HLD : Hid (leftN true 0 down = 0 ∧ downB true 0 down = true ∧ stepN true 0 down = 9) := by cases down <;> exact ⟨rfl, rfl, rfl⟩
      rw [HLD.out.1, HLD.out.2.1, HLD.out.2.2]
      have X : Hid (DiskAt (w.setCell ⟨db, 4, none⟩ (.bool true)) base db sb secs bit true 0 true ∧ DFr base w (w.setCell ⟨db, 4, none⟩ (.bool true))) := ⟨H0.out.head 4 _ rfl, DFr.of_set H0.out.d H0.out.hb.1 4 _⟩
      clear HLD hz
      go_enter Try.func22, Try.ntmps22
      go_wp2
      go_returns
      exact ⟨rfl, X.out.1, X.out.2⟩

end Dk
end Go.Proofs.Ytmojjjikaaclpaa
