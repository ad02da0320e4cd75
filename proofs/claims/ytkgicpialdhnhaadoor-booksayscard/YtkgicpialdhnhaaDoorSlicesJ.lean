/- The library's functions on lists that the program calls (Contains, IndexFunc, ContainsFunc at stays, jobs and places), by the shelf's contracts; contracts for the laws of stage 2. -/
import Derived.Test.YtkgicpialdhnhaaDoorBook
import Derived.Shelf.SlicesQ.IndexFunc
import Derived.Shelf.SlicesQ.Contains
import Derived.Laws.StructEq
import Derived.Ground.SlgqProg
import Derived.Ground.SlgfProg
namespace Go.Proofs.YtkgicpialdhnhaaDoor
open Go.Shelf Go.Lib Go.ChangeShapes Go.WideShapes Go.ChangeAt Go.RowKit
set_option maxRecDepth 100000
set_option linter.unusedSimpArgs false
set_option linter.unusedVariables false

def Tryd.lcp_ren : Go.Shelf.Ren := ⟨fun | 7 => 38 | 6 => 52 | n => n, fun | 22 => 49 | 24 => 45 | 4 => 4 | 0 => 0 | 3 => 3 | n => n, fun | n => n⟩
theorem Tryd.lcp : Go.Proofs.SlLaysQ.n7 Tryd.prog Tryd.lcp_ren := {
  mixed := by kernel_rfl
  f6 := ⟨Tryd.f52.name, by decide, Tryd.func52.trans (congrArg some (by kernel_rfl))⟩
  f7 := ⟨Tryd.f38.name, by decide, Tryd.func38.trans (congrArg some (by kernel_rfl))⟩
  t0 := Tryd.underlying0
  a0 := Tryd.isAgg0
  z0 := Tryd.sizeOf0
  v0 := Tryd.zeroValue0
  t3 := Tryd.underlying3
  a3 := Tryd.isAgg3
  z3 := Tryd.sizeOf3
  v3 := Tryd.zeroValue3
  t4 := Tryd.underlying4
  a4 := Tryd.isAgg4
  z4 := Tryd.sizeOf4
  v4 := Tryd.zeroValue4
  t22 := Tryd.underlying49
  a22 := Tryd.isAgg49
  z22 := Tryd.sizeOf49
  v22 := Tryd.zeroValue49 }

def Tryd.lis_ren : Go.Shelf.Ren := ⟨fun | 6 => 32 | n => n, fun | 22 => 22 | 23 => 47 | 25 => 73 | 3 => 3 | 0 => 0 | 4 => 4 | n => n, fun | n => n⟩
theorem Tryd.lis : Go.Proofs.SlLaysH0.n6 Tryd.prog Tryd.lis_ren := {
  mixed := by kernel_rfl
  f6 := ⟨Tryd.f32.name, by decide, Tryd.func32.trans (congrArg some (by kernel_rfl))⟩
  t0 := Tryd.underlying0
  a0 := Tryd.isAgg0
  z0 := Tryd.sizeOf0
  v0 := Tryd.zeroValue0
  t3 := Tryd.underlying3
  a3 := Tryd.isAgg3
  z3 := Tryd.sizeOf3
  v3 := Tryd.zeroValue3
  t4 := Tryd.underlying4
  a4 := Tryd.isAgg4
  z4 := Tryd.sizeOf4
  v4 := Tryd.zeroValue4
  t22 := Tryd.underlying22
  a22 := Tryd.isAgg22
  z22 := Tryd.sizeOf22
  v22 := Tryd.zeroValue22
  t25 := Tryd.underlying73
  a25 := Tryd.isAgg73
  z25 := Tryd.sizeOf73
  v25 := Tryd.zeroValue73 }

def Tryd.lcs_ren : Go.Shelf.Ren := ⟨fun | 8 => 40 | 6 => 32 | n => n, fun | 22 => 22 | 23 => 47 | 25 => 73 | 4 => 4 | 3 => 3 | 0 => 0 | n => n, fun | n => n⟩
theorem Tryd.lcs : Go.Proofs.SlLaysH0.n8 Tryd.prog Tryd.lcs_ren := {
  mixed := by kernel_rfl
  f6 := ⟨Tryd.f32.name, by decide, Tryd.func32.trans (congrArg some (by kernel_rfl))⟩
  f8 := ⟨Tryd.f40.name, by decide, Tryd.func40.trans (congrArg some (by kernel_rfl))⟩
  t0 := Tryd.underlying0
  a0 := Tryd.isAgg0
  z0 := Tryd.sizeOf0
  v0 := Tryd.zeroValue0
  t3 := Tryd.underlying3
  a3 := Tryd.isAgg3
  z3 := Tryd.sizeOf3
  v3 := Tryd.zeroValue3
  t4 := Tryd.underlying4
  a4 := Tryd.isAgg4
  z4 := Tryd.sizeOf4
  v4 := Tryd.zeroValue4
  t22 := Tryd.underlying22
  a22 := Tryd.isAgg22
  z22 := Tryd.sizeOf22
  v22 := Tryd.zeroValue22
  t25 := Tryd.underlying73
  a25 := Tryd.isAgg73
  z25 := Tryd.sizeOf73
  v25 := Tryd.zeroValue73 }

namespace Bk
def encP (p : Int × Int × Int) : List Value := [.int .i64 p.1, .int .i64 p.2.1, .int .i64 p.2.2]

theorem eqJob : EqlAt Tryd.prog 54 (fun x : Job => .agg x.enc.toArray) (fun x y => x.t == y.t && x.f == y.f) := by
  refine ⟨fun x y w => ?_, GuardAt.agg _ (by kernel_rfl)⟩
  have u3 := Tryd.underlying3
  have a3 := Tryd.isAgg3
  have z3 := Tryd.sizeOf3
  have u4 := Tryd.underlying4
  have a4 := Tryd.isAgg4
  have z4 := Tryd.sizeOf4
  have hS : Tryd.prog.underlying 54 = some (.struct (Tryd.prog.fieldsOf 54)) := by kernel_rfl
  have hp : Tryd.prog.stoodInHeld 54 = false := by kernel_rfl
  simp only [Job.enc]
  rw [run_eql_struct, show (10000 : Nat) = 9999 + 1 from rfl, run_equalIn_agg w 9999 54 _ _ hS hp]
  simp only [Program.fieldsOf, Tryd.underlying54]
  go_simp
  by_cases h1 : x.t = y.t <;> by_cases h2 : x.f = y.f <;> simp [h1, h2]

theorem eqPlace : EqlAt Tryd.prog 45 (fun x : Int × Int × Int => .agg (encP x).toArray) (fun x y => x.1 == y.1 && x.2.1 == y.2.1 && x.2.2 == y.2.2) := by
  refine ⟨fun x y w => ?_, GuardAt.agg _ (by kernel_rfl)⟩
  have u3 := Tryd.underlying3
  have a3 := Tryd.isAgg3
  have z3 := Tryd.sizeOf3
  have hS : Tryd.prog.underlying 45 = some (.struct (Tryd.prog.fieldsOf 45)) := by kernel_rfl
  have hp : Tryd.prog.stoodInHeld 45 = false := by kernel_rfl
  simp only [encP]
  rw [run_eql_struct, show (10000 : Nat) = 9999 + 1 from rfl, run_equalIn_agg w 9999 45 _ _ hS hp]
  simp only [Program.fieldsOf, Tryd.underlying45]
  go_simp
  by_cases h1 : x.1 = y.1 <;> by_cases h2 : x.2.1 = y.2.1 <;> by_cases h3 : x.2.2 = y.2.2 <;> simp [h1, h2, h3]

/-- Is a job in the list? -/
def hasJob (l : List Job) (j : Job) : Bool := l.any fun y => j.t == y.t && j.f == y.f

def jobIdx (l : List Job) (j : Job) : Int := Lib.idxBy (fun x y : Job => x.t == y.t && x.f == y.f) (l.take l.length) j

set_option maxHeartbeats 2000000 in
theorem idxJob_some (b off cap : Nat) (l : List Job) (t : Int) (f : Bool) (w : World) (hb : b < w.heap.size) (hm : l.length ≤ 9223372036854775807) (hc : ∀ j, j < l.length → ∀ i v, (Job.enc l[j]!)[i]? = some v → w.cell? ⟨b, off + j * 2 + i, none⟩ = some v) :
    Calls Tryd.prog 42 #[.slice (some ⟨b, off, none⟩) l.length cap, .agg #[.int .i64 t, .bool f]] w fun e w' => e = .returned (.int .i64 (jobIdx l ⟨t, f⟩)) ∧ Below w.heap.size w w' := by
  have heq' : ∀ (x y : Job) (w : World), Sem.run Tryd.prog (binOp .eql 54 (.agg #[.int .i64 x.t, .bool x.f]) (.agg #[.int .i64 y.t, .bool y.f])) w = .ok (.bool (x.t == y.t && x.f == y.f)) w := eqJob.1
  have hgd' : ∀ (op : BinOp) (a b : Operand) (x y : Job) (w : World), Sem.run Tryd.prog (eqGuard op 54 a b (.agg #[.int .i64 x.t, .bool x.f]) (.agg #[.int .i64 y.t, .bool y.f])) w = .ok () w := eqJob.2
  have HC : Hid (∀ j, j < l.length → ∀ i v, (Job.enc l[j]!)[i]? = some v → w.cell? ⟨b, off + j * 2 + i, none⟩ = some v) := hc
  clear hc
  have bl := hb
  go_enter Tryd.func42, Tryd.ntmps42
  go_wp2
  go_loopg [5, 8] l.length (fun g _ s8 wr => ∃ kk : Nat, kk ≤ l.length ∧ l.length - kk ≤ g ∧ s8 = .int .i64 kk ∧ Hid (Below w.heap.size w wr ∧ w.heap.size < wr.heap.size ∧ ∀ o, wr.cell? ⟨w.heap.size, o, none⟩ = (#[.int .i64 t, .bool f] : Array Value)[o]?) ∧ Hid (∀ j, j < kk → (t == l[j]!.t && f == l[j]!.f) = false))
  case atStart => exact ⟨0, Nat.zero_le _, by omega, rfl, ⟨B.new1 _ _, by simp, B.row_new _ _ _⟩, fun j hj => absurd hj (Nat.not_lt_zero _)⟩
  case round =>
    obtain ⟨kk, hkk, hg, rfl, BW, A⟩ := hrel
    by_cases hlt : kk < l.length
    · have hltz : (kk : Int) < (l.length : Int) := by omega
      have c0 : wr.cell? ⟨b, off + kk * 2, none⟩ = some (.int .i64 l[kk]!.t) := (BW.out.1.cell (p := ⟨b, _, none⟩) bl).trans (HC.out kk hlt 0 _ rfl)
      have c1 : wr.cell? ⟨b, off + kk * 2 + 1, none⟩ = some (.bool l[kk]!.f) := (BW.out.1.cell (p := ⟨b, _, none⟩) bl).trans (HC.out kk hlt 1 _ rfl)
      have r0 := BW.out.2.2
      have BY : Hid (∀ y, y = l[kk]! → (t == l[kk]!.t && f == l[kk]!.f) = (t == y.t && f == y.f)) := fun y e => by rw [e]
      generalize hy : l[kk]! = y at c0 c1 BY
      have HY : Hid (l[kk]! = y) := hy
      clear hy
      have e1 := heq' ⟨t, f⟩ y
      have e2 := fun op a b => hgd' op a b ⟨t, f⟩ y
      simp only at e1 e2
      clear heq' hgd'
      cases hq : (t == y.t && f == y.f) with
      | true =>
        rw [hq] at e1
        have HQ : Hid ((t == y.t && f == y.f) = true) := hq
        clear hq
        go_wp2_with fail
        go_region
        go_wp2
        go_returns
        refine ⟨?_, by have := BW.out.1; go_grown⟩
        unfold jobIdx
        rw [Lib.idxBy_hit (fun x y : Job => x.t == y.t && x.f == y.f) l l.length kk ⟨t, f⟩ hlt (Nat.le_refl _) (by show (t == l[kk]!.t && f == l[kk]!.f) = true; rw [HY.out]; exact HQ.out) A.out]
        rfl
      | false =>
        rw [hq] at e1
        have HQ : Hid ((t == y.t && f == y.f) = false) := hq
        clear hq
        go_wp2_with fail
        go_region
        go_wp2
        go_roundg (l.length - (kk + 1))
        case measure => omega
        case rel =>
          refine ⟨kk + 1, by omega, by omega, by go_num, ⟨BW.out.1.drew, by simpa using BW.out.2.1, by simpa using BW.out.2.2⟩, (show Hid _ from fun j hj => ?_)⟩
          by_cases e : j = kk
          · subst e
            rw [HY.out]; exact HQ.out
          · exact A.out j (by omega)
    · have hltz : ¬ (kk : Int) < (l.length : Int) := by omega
      have hk : kk = l.length := by omega
      go_wp2
      go_returns
      refine ⟨?_, BW.out.1⟩
      unfold jobIdx
      rw [Lib.idxBy_miss (fun x y : Job => x.t == y.t && x.f == y.f) l l.length ⟨t, f⟩ (by rw [← hk]; exact A.out)]
      rfl

set_option maxHeartbeats 1000000 in
theorem idxJob_none (a : Option Addr) (cap : Nat) (t : Int) (f : Bool) (w : World) :
    Calls Tryd.prog 42 #[.slice a 0 cap, .agg #[.int .i64 t, .bool f]] w fun e w' => e = .returned (.int .i64 (-1)) ∧ Below w.heap.size w w' := by
  go_enter Tryd.func42, Tryd.ntmps42
  go_wp2
  refine wp_loop_rounds 1 ?_
  rw [rounds_succ]
  go_wp2
  go_returns
  exact ⟨rfl, B.new1 _ _⟩

theorem idxJob_any (a : Option Addr) (cap : Nat) (l : List Job) (t : Int) (f : Bool) (w : World) (h : RowsAt w a cap 2 Job.enc l) :
    Calls Tryd.prog 42 #[.slice a l.length cap, .agg #[.int .i64 t, .bool f]] w fun e w' => ∃ r, e = .returned (.int .i64 r) ∧ decide (0 ≤ r) = hasJob l ⟨t, f⟩ ∧ Below w.heap.size w w' := by
  obtain ⟨hl, hm, hc⟩ := h
  unfold maxLen at hm
  by_cases h0 : 0 < l.length
  · obtain ⟨b, off, rfl, hb, hcell⟩ := hc h0
    refine (idxJob_some b off cap l t f w hb (by omega) hcell).mono ?_
    rintro e w' ⟨rfl, h2⟩
    refine ⟨_, rfl, ?_, h2⟩
    unfold jobIdx
    rw [Lib.idxBy_nonneg_iff, List.take_length]
    rfl
  · have : l = [] := List.length_eq_zero_iff.1 (by omega)
    subst this
    refine (idxJob_none a cap t f w).mono ?_
    rintro e w' ⟨rfl, h2⟩
    exact ⟨_, rfl, rfl, h2⟩

set_option maxHeartbeats 1000000 in
theorem hasJob_any (a : Option Addr) (cap : Nat) (l : List Job) (t : Int) (f : Bool) (w : World) (h : RowsAt w a cap 2 Job.enc l) :
    Calls Tryd.prog 22 #[.slice a l.length cap, .agg #[.int .i64 t, .bool f]] w fun e w' => e = .returned (.bool (hasJob l ⟨t, f⟩)) ∧ Below w.heap.size w w' := by
  have H : Hid (∀ o, Calls Tryd.prog 42 #[.slice a l.length cap, .agg #[.int .i64 t, .bool f]] (w.alloc o) fun e w' => ∃ r, e = .returned (.int .i64 r) ∧ decide (0 ≤ r) = hasJob l ⟨t, f⟩ ∧ Below (w.alloc o).heap.size (w.alloc o) w') := fun o => idxJob_any a cap l t f _ (h.below (B.new1 w o))
  clear h
  go_enter Tryd.func22, Tryd.ntmps22
  go_wp2_with fail
  refine (H.out _).mono ?_
  rintro e w' ⟨r, rfl, hr, hb⟩
  have B1 : Hid (Below w.heap.size w w') := B.next (B.new1 _ _) hb (by simp)
  have HR : Hid (decide (0 ≤ r) = hasJob l ⟨t, f⟩) := hr
  clear hb hr
  go_wp2
  all_goals go_returns
  all_goals refine ⟨?_, B1.out⟩
  all_goals rw [← HR.out]
  all_goals rfl

theorem RowsAt.take {α : Type} [Inhabited α] {W : World} {a : Option Addr} {cap k : Nat} {enc : α → List Value} {zs : List α} (h : RowsAt W a cap k enc zs) (n : Nat) (hn : n ≤ zs.length) : RowsAt W a cap k enc (zs.take n) := by
  obtain ⟨hl, hm, hc⟩ := h
  refine ⟨by simp; omega, hm, fun h0 => ?_⟩
  simp only [List.length_take] at h0 ⊢
  obtain ⟨b, off, ha, hb, hcell⟩ := hc (by omega)
  refine ⟨b, off, ha, hb, fun j hj i v hv => hcell j (by omega) i v ?_⟩
  have e : (zs.take n)[j]! = zs[j]! := by
    rw [getElem!_pos _ _ (by simp; omega), getElem!_pos _ _ (by omega), List.getElem_take]
  rw [e] at hv
  exact hv

/-- The first stay of which p holds; below 0: there is none. -/
def stayIdx (p : Stay → Bool) (l : List Stay) : Int := Lib.idxBy (fun _ y => p y) l default
theorem stayIdx_nonneg (p : Stay → Bool) (l : List Stay) : decide (0 ≤ stayIdx p l) = l.any p := Lib.idxBy_nonneg_iff (fun _ y => p y) l default
theorem stayIdx_nil (p : Stay → Bool) : stayIdx p [] = -1 := by unfold stayIdx; exact Lib.idxBy_miss (fun _ y => p y) [] 0 default (fun j hj => absurd hj (Nat.not_lt_zero _))

set_option maxHeartbeats 1000000 in
theorem idxStay_none (a : Option Addr) (cap : Nat) (v : Value) (w : World) :
    Calls Tryd.prog 32 #[.slice a 0 cap, v] w fun e w' => e = .returned (.int .i64 (-1)) ∧ w' = w := by
  go_enter Tryd.func32, Tryd.ntmps32
  go_wp2
  refine wp_loop_rounds 1 ?_
  rw [rounds_succ]
  go_wp2
  go_returns
  exact ⟨rfl, rfl⟩

theorem idxStay_any (p : Stay → Bool) (g : Nat) (lb : Array Value) (eg : ∀ args w, (callFunc g args).run Tryd.prog w = .ok (.enter g args) w) (a : Option Addr) (cap : Nat) (l : List Stay) (w : World) (h : RowsAt w a cap 8 Stay.enc l)
    (hp : PredBelow Tryd.prog g lb (fun x : Stay => .agg x.enc.toArray) p w) :
    Calls Tryd.prog 32 #[.slice a l.length cap, .func (.func g) #[] lb] w fun e w' => e = .returned (.int .i64 (stayIdx p l)) ∧ Below w.heap.size w w' := by
  obtain ⟨hl, hm, hc⟩ := h
  unfold maxLen at hm
  by_cases h0 : 0 < l.length
  · obtain ⟨b, off, rfl, hb, hcell⟩ := hc h0
    have := AnyQ.slices_IndexFunc Tryd.lis 8 Tryd.isAgg47 Tryd.sizeOf47 Stay.enc (fun _ => rfl) p g lb eg b off l.length cap l w hp (Nat.le_refl _) (by omega) hb hcell
    rw [List.take_length] at this
    exact this
  · have : l = [] := List.length_eq_zero_iff.1 (by omega)
    subst this
    refine (idxStay_none a cap _ w).mono ?_
    rintro e w' ⟨rfl, rfl⟩
    exact ⟨by rw [stayIdx_nil], Below.refl _ _⟩

set_option maxHeartbeats 1000000 in
theorem hasStay_any (p : Stay → Bool) (g : Nat) (lb : Array Value) (eg : ∀ args w, (callFunc g args).run Tryd.prog w = .ok (.enter g args) w) (a : Option Addr) (cap : Nat) (l : List Stay) (w : World) (h : RowsAt w a cap 8 Stay.enc l)
    (hp : PredBelow Tryd.prog g lb (fun x : Stay => .agg x.enc.toArray) p w) :
    Calls Tryd.prog 40 #[.slice a l.length cap, .func (.func g) #[] lb] w fun e w' => e = .returned (.bool (l.any p)) ∧ Below w.heap.size w w' := by
  have H : Hid (Calls Tryd.prog 32 #[.slice a l.length cap, .func (.func g) #[] lb] w fun e w' => e = .returned (.int .i64 (stayIdx p l)) ∧ Below w.heap.size w w') := idxStay_any p g lb eg a cap l w h hp
  rw [← stayIdx_nonneg]
  generalize stayIdx p l = r at *
  clear h hp eg
  go_enter Tryd.func40, Tryd.ntmps40
  go_wp2_with fail
  refine H.out.mono ?_
  rintro e w' ⟨rfl, hb⟩
  have B1 : Hid (Below w.heap.size w w') := hb
  clear hb
  go_wp2
  all_goals go_returns
  all_goals exact ⟨rfl, B1.out⟩

/-- Is a place in the list? -/
def hasPlace (l : List (Int × Int × Int)) (p : Int × Int × Int) : Bool := l.any fun y => p.1 == y.1 && p.2.1 == y.2.1 && p.2.2 == y.2.2

theorem hasPlace_some (b off cap : Nat) (l : List (Int × Int × Int)) (x y z : Int) (w : World) (hm : l.length ≤ 9223372036854775807) (hc : ∀ j, j < l.length → ∀ i v, (encP l[j]!)[i]? = some v → w.cell? ⟨b, off + j * 3 + i, none⟩ = some v) :
    Calls Tryd.prog 38 #[.slice (some ⟨b, off, none⟩) l.length cap, .agg #[.int .i64 x, .int .i64 y, .int .i64 z]] w fun e w' => e = .returned (.bool (hasPlace l (x, y, z))) ∧ Below w.heap.size w w' := by
  have := AnyQ.slices_Contains Tryd.lcp 3 Tryd.isAgg45 Tryd.sizeOf45 encP (fun _ => rfl) _ eqPlace b off l.length cap l (x, y, z) w (Nat.le_refl _) hm hc
  rw [List.take_length] at this
  exact this

end Bk
end Go.Proofs.YtkgicpialdhnhaaDoor
