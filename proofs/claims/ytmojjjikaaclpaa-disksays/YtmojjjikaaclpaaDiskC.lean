/- Chapter 6: the disk: a write is laid beside those that aren't kept; contracts for the laws of stage 3. -/
import Derived.Test.YtmojjjikaaclpaaDiskB
import Derived.Deep.AppendLies
import Derived.Deep.RegionHeld3
import Derived.Laws.EntriesVeiled
import Derived.Shelf.SlicesE.DeleteFunc
namespace Go.Proofs.Ytmojjjikaaclpaa
open Go.Shelf Go.Lib Go.ChangeShapes Go.WideShapes Go.ChangeAt Go.RowKit
set_option maxRecDepth 100000
set_option linter.unusedSimpArgs false
set_option linter.unusedVariables false

def Try.liw_ren : Go.Shelf.Ren := ⟨fun | 6 => 30 | n => n, fun | 22 => 72 | 23 => 70 | 25 => 82 | 3 => 3 | 0 => 0 | 4 => 4 | n => n, fun | n => n⟩
theorem Try.liw : Go.Proofs.SlLaysH0.n6 Try.prog Try.liw_ren := {
  mixed := by kernel_rfl
  f6 := ⟨Try.f30.name, by decide, Try.func30.trans (congrArg some (by kernel_rfl))⟩
  t0 := Try.underlying0
  a0 := Try.isAgg0
  z0 := Try.sizeOf0
  v0 := Try.zeroValue0
  t3 := Try.underlying3
  a3 := Try.isAgg3
  z3 := Try.sizeOf3
  v3 := Try.zeroValue3
  t4 := Try.underlying4
  a4 := Try.isAgg4
  z4 := Try.sizeOf4
  v4 := Try.zeroValue4
  t22 := Try.underlying72
  a22 := Try.isAgg72
  z22 := Try.sizeOf72
  v22 := Try.zeroValue72
  t25 := Try.underlying82
  a25 := Try.isAgg82
  z25 := Try.sizeOf82
  v25 := Try.zeroValue82 }

namespace Dk
open Bk
set_option maxHeartbeats 1000000 in
theorem add1_any (x : Wr) (t : Int) (P0 : Nat) (w : World) (hl : P0 < w.heap.size) (h0 : w.cell? ⟨P0, 0, none⟩ = some (.int .i64 t)) :
    Calls Try.prog 28 #[.agg (Wr.enc x).toArray, .pointer (some ⟨P0, 0, none⟩)] w fun e w' => e = .returned (.bool (x.bit == t)) ∧ Below w.heap.size w w' := by
  obtain ⟨L, hL⟩ : ∃ L, (Wr.enc x).toArray = L := ⟨_, rfl⟩
  rw [hL]
  obtain ⟨w1, hw1⟩ : ∃ w1, w.alloc (.cells L 70) = w1 := ⟨_, rfl⟩
  have X1 : Hid (Below w.heap.size w w1) := by show Below _ _ _; rw [← hw1]; exact B.new1 _ _
  have c0 : w1.cell? ⟨P0, 0, none⟩ = some (.int .i64 t) := (X1.out.cell hl).trans h0
  have c1 : w1.cell? ⟨w.heap.size, 0, none⟩ = some (.int .i64 x.bit) := by rw [← hw1, (Blk.new _ _ _).cell, ← hL]; rfl
  clear hL h0
  go_enter Try.func28, Try.ntmps28
  go_wp2
  go_returns
  exact ⟨rfl, X1.out⟩

set_option maxHeartbeats 1000000 in
theorem idxW_none (a : Option Addr) (cap : Nat) (v : Value) (w : World) :
    Calls Try.prog 30 #[.slice a 0 cap, v] w fun e w' => e = .returned (.int .i64 (-1)) ∧ w' = w := by
  go_enter Try.func30, Try.ntmps30
  go_wp2
  refine wp_loop_rounds 1 ?_
  rw [rounds_succ]
  go_wp2
  go_returns
  exact ⟨rfl, rfl⟩

set_option maxHeartbeats 2000000 in
/-- Where none goes, all stays as it was. -/
theorem delW_none (p : Wr → Bool) (gf : Nat) (lb : Array Value) (eg : ∀ args w, (callFunc gf args).run Try.prog w = .ok (.enter gf args) w) (base : Nat) (v : Value) (l : List Wr) (w : World) (h : OwnAt w base 70 65 Wr.enc v l) (hl : l.length ≤ 1000)
    (hp : PredBelow Try.prog gf lb (fun x : Wr => .agg (Wr.enc x).toArray) p w) (hall : ∀ y ∈ l, p y = false) :
    Calls Try.prog 27 #[v, .func (.func gf) #[] lb] w fun e w' => e = .returned v ∧ Below w.heap.size w w' := by
  rcases h with ⟨rfl, rfl⟩ | ⟨g, cap, cur, rfl, hg, hk, hlc, hm, hs, hr⟩
  · clear hp eg hall
    go_enter Try.func27, Try.ntmps27
    go_wp2_with fail
    refine (idxW_none _ _ _ _).mono ?_
    rintro e w1 ⟨rfl, rfl⟩
    go_wp2
    go_returns
    exact ⟨rfl, Below.refl _ _⟩
  · unfold maxLen at hm
    have HI : Hid (Calls Try.prog 30 #[.slice (some ⟨g, 0, none⟩) l.length cap, .func (.func gf) #[] lb] w fun e w' => e = .returned (.int .i64 (-1)) ∧ Below w.heap.size w w') := by
      have := AnyQ.slices_IndexFunc Try.liw 65 Try.isAgg70 Try.sizeOf70 Wr.enc Wr.enc_len p gf lb eg g 0 l.length cap l w hp (Nat.le_refl _) (by omega) hk.lt (fun j hj i u hu => by rw [hk.cell, Nat.zero_add]; exact hr j hj i u hu)
      rw [List.take_length] at this
      rcases idxByFrom_spec (fun _ y => p y) default l 0 with ⟨e1, _⟩ | ⟨k0, hk0, e1, ht, _⟩
      · have e2 : Lib.idxBy (fun _ y => p y) l default = -1 := e1
        rw [e2] at this
        exact this
      · have := hall l[k0]! (by rw [getElem!_pos l k0 hk0]; exact List.getElem_mem hk0)
        have ht' : p l[k0]! = true := ht
        rw [this] at ht'
        cases ht'
    clear hp hall hr hs hk
    go_enter Try.func27, Try.ntmps27
    go_wp2_with fail
    refine HI.out.mono ?_
    rintro e w1 ⟨rfl, b1⟩
    have B1 : Hid (Below w.heap.size w w1) := b1
    clear b1
    go_wp2
    go_returns
    exact ⟨rfl, B1.out⟩

end Dk
end Go.Proofs.Ytmojjjikaaclpaa
