/- The library's functions on lists that the program calls (Contains, IndexFunc, ContainsFunc at stays, jobs and places), by the shelf's contracts; contracts for the laws of stage 2. -/
import Derived.Test.YtaikbojdmfkbhaaGreatDoorBook
import Derived.Shelf.SlicesQ.IndexFunc
import Derived.Shelf.SlicesQ.Contains
import Derived.Laws.StructEq
import Derived.Ground.SlgqProg
import Derived.Ground.SlgfProg
namespace Go.Proofs.YtaikbojdmfkbhaaGreatDoor
open Go.Shelf Go.Lib Go.ChangeShapes Go.WideShapes Go.ChangeAt Go.RowKit
set_option maxRecDepth 100000
set_option linter.unusedSimpArgs false
set_option linter.unusedVariables false

def Tryz.lcp_ren : Go.Shelf.Ren := ⟨fun | 7 => 104 | 6 => 139 | n => n, fun | 22 => 109 | 24 => 82 | 4 => 4 | 0 => 0 | 3 => 3 | n => n, fun | n => n⟩
theorem Tryz.lcp : Go.Proofs.SlLaysQ.n7 Tryz.prog Tryz.lcp_ren := {
  mixed := by kernel_rfl
  f6 := ⟨Tryz.f139.name, by decide, Tryz.func139.trans (congrArg some (by kernel_rfl))⟩
  f7 := ⟨Tryz.f104.name, by decide, Tryz.func104.trans (congrArg some (by kernel_rfl))⟩
  t0 := Tryz.underlying0
  a0 := Tryz.isAgg0
  z0 := Tryz.sizeOf0
  v0 := Tryz.zeroValue0
  t3 := Tryz.underlying3
  a3 := Tryz.isAgg3
  z3 := Tryz.sizeOf3
  v3 := Tryz.zeroValue3
  t4 := Tryz.underlying4
  a4 := Tryz.isAgg4
  z4 := Tryz.sizeOf4
  v4 := Tryz.zeroValue4
  t22 := Tryz.underlying109
  a22 := Tryz.isAgg109
  z22 := Tryz.sizeOf109
  v22 := Tryz.zeroValue109 }

def Tryz.lis_ren : Go.Shelf.Ren := ⟨fun | 6 => 79 | n => n, fun | 22 => 35 | 23 => 84 | 25 => 139 | 3 => 3 | 0 => 0 | 4 => 4 | n => n, fun | n => n⟩
theorem Tryz.lis : Go.Proofs.SlLaysH0.n6 Tryz.prog Tryz.lis_ren := {
  mixed := by kernel_rfl
  f6 := ⟨Tryz.f79.name, by decide, Tryz.func79.trans (congrArg some (by kernel_rfl))⟩
  t0 := Tryz.underlying0
  a0 := Tryz.isAgg0
  z0 := Tryz.sizeOf0
  v0 := Tryz.zeroValue0
  t3 := Tryz.underlying3
  a3 := Tryz.isAgg3
  z3 := Tryz.sizeOf3
  v3 := Tryz.zeroValue3
  t4 := Tryz.underlying4
  a4 := Tryz.isAgg4
  z4 := Tryz.sizeOf4
  v4 := Tryz.zeroValue4
  t22 := Tryz.underlying35
  a22 := Tryz.isAgg35
  z22 := Tryz.sizeOf35
  v22 := Tryz.zeroValue35
  t25 := Tryz.underlying139
  a25 := Tryz.isAgg139
  z25 := Tryz.sizeOf139
  v25 := Tryz.zeroValue139 }

def Tryz.lcs_ren : Go.Shelf.Ren := ⟨fun | 8 => 105 | 6 => 79 | n => n, fun | 22 => 35 | 23 => 84 | 25 => 139 | 4 => 4 | 3 => 3 | 0 => 0 | n => n, fun | n => n⟩
theorem Tryz.lcs : Go.Proofs.SlLaysH0.n8 Tryz.prog Tryz.lcs_ren := {
  mixed := by kernel_rfl
  f6 := ⟨Tryz.f79.name, by decide, Tryz.func79.trans (congrArg some (by kernel_rfl))⟩
  f8 := ⟨Tryz.f105.name, by decide, Tryz.func105.trans (congrArg some (by kernel_rfl))⟩
  t0 := Tryz.underlying0
  a0 := Tryz.isAgg0
  z0 := Tryz.sizeOf0
  v0 := Tryz.zeroValue0
  t3 := Tryz.underlying3
  a3 := Tryz.isAgg3
  z3 := Tryz.sizeOf3
  v3 := Tryz.zeroValue3
  t4 := Tryz.underlying4
  a4 := Tryz.isAgg4
  z4 := Tryz.sizeOf4
  v4 := Tryz.zeroValue4
  t22 := Tryz.underlying35
  a22 := Tryz.isAgg35
  z22 := Tryz.sizeOf35
  v22 := Tryz.zeroValue35
  t25 := Tryz.underlying139
  a25 := Tryz.isAgg139
  z25 := Tryz.sizeOf139
  v25 := Tryz.zeroValue139 }

namespace Bk
def encP (p : Int × Int × Int) : List Value := [.int .i64 p.1, .int .i64 p.2.1, .int .i64 p.2.2]

theorem eqJob : EqlAt Tryz.prog 114 (fun x : Job => .agg x.enc.toArray) (fun x y => x.t == y.t && x.f == y.f) := by
  refine ⟨fun x y w => ?_, GuardAt.agg _ (by kernel_rfl)⟩
  have u3 := Tryz.underlying3
  have a3 := Tryz.isAgg3
  have z3 := Tryz.sizeOf3
  have u4 := Tryz.underlying4
  have a4 := Tryz.isAgg4
  have z4 := Tryz.sizeOf4
  have hS : Tryz.prog.underlying 114 = some (.struct (Tryz.prog.fieldsOf 114)) := by kernel_rfl
  have hp : Tryz.prog.stoodInHeld 114 = false := by kernel_rfl
  simp only [Job.enc]
  rw [run_eql_struct, show (10000 : Nat) = 9999 + 1 from rfl, run_equalIn_agg w 9999 114 _ _ hS hp]
  simp only [Program.fieldsOf, Tryz.underlying114]
  go_simp
  by_cases h1 : x.t = y.t <;> by_cases h2 : x.f = y.f <;> simp [h1, h2]

theorem eqPlace : EqlAt Tryz.prog 82 (fun x : Int × Int × Int => .agg (encP x).toArray) (fun x y => x.1 == y.1 && x.2.1 == y.2.1 && x.2.2 == y.2.2) := by
  refine ⟨fun x y w => ?_, GuardAt.agg _ (by kernel_rfl)⟩
  have u3 := Tryz.underlying3
  have a3 := Tryz.isAgg3
  have z3 := Tryz.sizeOf3
  have hS : Tryz.prog.underlying 82 = some (.struct (Tryz.prog.fieldsOf 82)) := by kernel_rfl
  have hp : Tryz.prog.stoodInHeld 82 = false := by kernel_rfl
  simp only [encP]
  rw [run_eql_struct, show (10000 : Nat) = 9999 + 1 from rfl, run_equalIn_agg w 9999 82 _ _ hS hp]
  simp only [Program.fieldsOf, Tryz.underlying82]
  go_simp
  by_cases h1 : x.1 = y.1 <;> by_cases h2 : x.2.1 = y.2.1 <;> by_cases h3 : x.2.2 = y.2.2 <;> simp [h1, h2, h3]

/-- Is a job in the list? -/
def hasJob (l : List Job) (j : Job) : Bool := l.any fun y => j.t == y.t && j.f == y.f

def jobIdx (l : List Job) (j : Job) : Int := Lib.idxBy (fun x y : Job => x.t == y.t && x.f == y.f) (l.take l.length) j

set_option maxHeartbeats 2000000 in
theorem idxJob_some (b off cap : Nat) (l : List Job) (t : Int) (f : Bool) (w : World) (hb : b < w.heap.size) (hm : l.length ≤ 9223372036854775807) (hc : ∀ j, j < l.length → ∀ i v, (Job.enc l[j]!)[i]? = some v → w.cell? ⟨b, off + j * 2 + i, none⟩ = some v) :
    Calls Tryz.prog 107 #[.slice (some ⟨b, off, none⟩) l.length cap, .agg #[.int .i64 t, .bool f]] w fun e w' => e = .returned (.int .i64 (jobIdx l ⟨t, f⟩)) ∧ Below w.heap.size w w' := by
  have heq' : ∀ (x y : Job) (w : World), Sem.run Tryz.prog (binOp .eql 114 (.agg #[.int .i64 x.t, .bool x.f]) (.agg #[.int .i64 y.t, .bool y.f])) w = .ok (.bool (x.t == y.t && x.f == y.f)) w := eqJob.1
  have hgd' : ∀ (op : BinOp) (a b : Operand) (x y : Job) (w : World), Sem.run Tryz.prog (eqGuard op 114 a b (.agg #[.int .i64 x.t, .bool x.f]) (.agg #[.int .i64 y.t, .bool y.f])) w = .ok () w := eqJob.2
  have HC : Hid (∀ j, j < l.length → ∀ i v, (Job.enc l[j]!)[i]? = some v → w.cell? ⟨b, off + j * 2 + i, none⟩ = some v) := hc
  clear hc
  have bl := hb
  go_enter Tryz.func107, Tryz.ntmps107
  go_wp2
  go_loopg [5, 8] l.length (fun g _ s8 wr => ∃ kk : Nat, kk ≤ l.length ∧ l.length - kk ≤ g ∧ s8 = .int .i64 kk ∧ Hid (Below w.heap.size w wr ∧ w.heap.size < wr.heap.size ∧ ∀ o, wr.cell? ⟨w.heap.size, o, none⟩ = (#[.int .i64 t, .bool f] : Array Value)[o]?) ∧ Hid (∀ j, j < kk → (t == l[j]!.t && f == l[j]!.f) = false))
  case atStart => exact ⟨0, Nat.zero_le _, by omega, rfl, ⟨B.new1 _ _, by simp, B.row_new _ _ _⟩, fun j hj => absurd hj (Nat.not_lt_zero _)⟩
  case round =>
    obtain ⟨kk, hkk, hg, rfl, BW, A⟩ := hrel
    by_cases hlt : kk < l.length
    · have hltz : (kk : Int) < (l.length : Int) := by omega
      have c0 : wr.cell? ⟨b, off + kk * 2, none⟩ = some (.int .i64 l[kk]!.t) := (BW.out.1.cell (p := ⟨b, _, none⟩) bl).trans (HC.out kk hlt 0 _ rfl)
      have c1 : wr.cell? ⟨b, off + kk * 2 + 1, none⟩ = some (.bool l[kk]!.f) := (BW.out.1.cell (p := ⟨b, _, none⟩) bl).trans (HC.out kk hlt 1 _ rfl)
      have r0 := BW.out.2.2
      have BY : Hid (∀ y, y = l[kk]! → (t == l[kk]!.t && f == l[kk]!.f) = (t == y.t && f == y.f)) := fun y e => by rw [e]
      generalize hy : l[kk]! = y at c0 c1 BY
      have HY : Hid (l[kk]! = y) := hy
      clear hy
      have e1 := heq' ⟨t, f⟩ y
      have e2 := fun op a b => hgd' op a b ⟨t, f⟩ y
      simp only at e1 e2
      clear heq' hgd'
      cases hq : (t == y.t && f == y.f) with
      | true =>
        rw [hq] at e1
        have HQ : Hid ((t == y.t && f == y.f) = true) := hq
        clear hq
        go_wp2_with fail
        go_region
        go_wp2
        go_returns
        refine ⟨?_, by have := BW.out.1; go_grown⟩
        unfold jobIdx
        rw [Lib.idxBy_hit (fun x y : Job => x.t == y.t && x.f == y.f) l l.length kk ⟨t, f⟩ hlt (Nat.le_refl _) (by show (t == l[kk]!.t && f == l[kk]!.f) = true; rw [HY.out]; exact HQ.out) A.out]
        rfl
      | false =>
        rw [hq] at e1
        have HQ : Hid ((t == y.t && f == y.f) = false) := hq
        clear hq
        go_wp2_with fail
        go_region
        go_wp2
        go_roundg (l.length - (kk + 1))
        case measure => omega
        case rel =>
          refine ⟨kk + 1, by omega, by omega, by go_num, ⟨BW.out.1.drew, by simpa using BW.out.2.1, by simpa using BW.out.2.2⟩, (show Hid _ from fun j hj => ?_)⟩
          by_cases e : j = kk
          · subst e
            rw [HY.out]; exact HQ.out
          · exact A.out j (by omega)
    · have hltz : ¬ (kk : Int) < (l.length : Int) := by omega
      have hk : kk = l.length := by omega
      go_wp2
      go_returns
      refine ⟨?_, BW.out.1⟩
      unfold jobIdx
      rw [Lib.idxBy_miss (fun x y : Job => x.t == y.t && x.f == y.f) l l.length ⟨t, f⟩ (by rw [← hk]; exact A.out)]
      rfl

set_option maxHeartbeats 1000000 in
theorem idxJob_none (a : Option Addr) (cap : Nat) (t : Int) (f : Bool) (w : World) :
    Calls Tryz.prog 107 #[.slice a 0 cap, .agg #[.int .i64 t, .bool f]] w fun e w' => e = .returned (.int .i64 (-1)) ∧ Below w.heap.size w w' := by
  go_enter Tryz.func107, Tryz.ntmps107
  go_wp2
  refine wp_loop_rounds 1 ?_
  rw [rounds_succ]
  go_wp2
  go_returns
  exact ⟨rfl, B.new1 _ _⟩

theorem idxJob_any (a : Option Addr) (cap : Nat) (l : List Job) (t : Int) (f : Bool) (w : World) (h : RowsAt w a cap 2 Job.enc l) :
    Calls Tryz.prog 107 #[.slice a l.length cap, .agg #[.int .i64 t, .bool f]] w fun e w' => ∃ r, e = .returned (.int .i64 r) ∧ decide (0 ≤ r) = hasJob l ⟨t, f⟩ ∧ Below w.heap.size w w' := by
  obtain ⟨hl, hm, hc⟩ := h
  unfold maxLen at hm
  by_cases h0 : 0 < l.length
  · obtain ⟨b, off, rfl, hb, hcell⟩ := hc h0
    refine (idxJob_some b off cap l t f w hb (by omega) hcell).mono ?_
    rintro e w' ⟨rfl, h2⟩
    refine ⟨_, rfl, ?_, h2⟩
    unfold jobIdx
    rw [Lib.idxBy_nonneg_iff, List.take_length]
    rfl
  · have : l = [] := List.length_eq_zero_iff.1 (by omega)
    subst this
    refine (idxJob_none a cap t f w).mono ?_
    rintro e w' ⟨rfl, h2⟩
    exact ⟨_, rfl, rfl, h2⟩

set_option maxHeartbeats 1000000 in
theorem hasJob_any (a : Option Addr) (cap : Nat) (l : List Job) (t : Int) (f : Bool) (w : World) (h : RowsAt w a cap 2 Job.enc l) :
    Calls Tryz.prog 65 #[.slice a l.length cap, .agg #[.int .i64 t, .bool f]] w fun e w' => e = .returned (.bool (hasJob l ⟨t, f⟩)) ∧ Below w.heap.size w w' := by
  have H : Hid (∀ o, Calls Tryz.prog 107 #[.slice a l.length cap, .agg #[.int .i64 t, .bool f]] (w.alloc o) fun e w' => ∃ r, e = .returned (.int .i64 r) ∧ decide (0 ≤ r) = hasJob l ⟨t, f⟩ ∧ Below (w.alloc o).heap.size (w.alloc o) w') := fun o => idxJob_any a cap l t f _ (h.below (B.new1 w o))
  clear h
  go_enter Tryz.func65, Tryz.ntmps65
  go_wp2_with fail
  refine (H.out _).mono ?_
  rintro e w' ⟨r, rfl, hr, hb⟩
  have B1 : Hid (Below w.heap.size w w') := B.next (B.new1 _ _) hb (by simp)
  have HR : Hid (decide (0 ≤ r) = hasJob l ⟨t, f⟩) := hr
  clear hb hr
  go_wp2
  all_goals go_returns
  all_goals refine ⟨?_, B1.out⟩
  all_goals rw [← HR.out]
  all_goals rfl

theorem RowsAt.take {α : Type} [Inhabited α] {W : World} {a : Option Addr} {cap k : Nat} {enc : α → List Value} {zs : List α} (h : RowsAt W a cap k enc zs) (n : Nat) (hn : n ≤ zs.length) : RowsAt W a cap k enc (zs.take n) := by
  obtain ⟨hl, hm, hc⟩ := h
  refine ⟨by simp; omega, hm, fun h0 => ?_⟩
  simp only [List.length_take] at h0 ⊢
  obtain ⟨b, off, ha, hb, hcell⟩ := hc (by omega)
  refine ⟨b, off, ha, hb, fun j hj i v hv => hcell j (by omega) i v ?_⟩
  have e : (zs.take n)[j]! = zs[j]! := by
    rw [getElem!_pos _ _ (by simp; omega), getElem!_pos _ _ (by omega), List.getElem_take]
  rw [e] at hv
  exact hv

/-- The first stay of which p holds; below 0: there is none. -/
def stayIdx (p : Stay → Bool) (l : List Stay) : Int := Lib.idxBy (fun _ y => p y) l default
theorem stayIdx_nonneg (p : Stay → Bool) (l : List Stay) : decide (0 ≤ stayIdx p l) = l.any p := Lib.idxBy_nonneg_iff (fun _ y => p y) l default
theorem stayIdx_nil (p : Stay → Bool) : stayIdx p [] = -1 := by unfold stayIdx; exact Lib.idxBy_miss (fun _ y => p y) [] 0 default (fun j hj => absurd hj (Nat.not_lt_zero _))

set_option maxHeartbeats 1000000 in
theorem idxStay_none (a : Option Addr) (cap : Nat) (v : Value) (w : World) :
    Calls Tryz.prog 79 #[.slice a 0 cap, v] w fun e w' => e = .returned (.int .i64 (-1)) ∧ w' = w := by
  go_enter Tryz.func79, Tryz.ntmps79
  go_wp2
  refine wp_loop_rounds 1 ?_
  rw [rounds_succ]
  go_wp2
  go_returns
  exact ⟨rfl, rfl⟩

theorem idxStay_any (p : Stay → Bool) (g : Nat) (lb : Array Value) (eg : ∀ args w, (callFunc g args).run Tryz.prog w = .ok (.enter g args) w) (a : Option Addr) (cap : Nat) (l : List Stay) (w : World) (h : RowsAt w a cap 8 Stay.enc l)
    (hp : PredBelow Tryz.prog g lb (fun x : Stay => .agg x.enc.toArray) p w) :
    Calls Tryz.prog 79 #[.slice a l.length cap, .func (.func g) #[] lb] w fun e w' => e = .returned (.int .i64 (stayIdx p l)) ∧ Below w.heap.size w w' := by
  obtain ⟨hl, hm, hc⟩ := h
  unfold maxLen at hm
  by_cases h0 : 0 < l.length
  · obtain ⟨b, off, rfl, hb, hcell⟩ := hc h0
    have := AnyQ.slices_IndexFunc Tryz.lis 8 Tryz.isAgg84 Tryz.sizeOf84 Stay.enc (fun _ => rfl) p g lb eg b off l.length cap l w hp (Nat.le_refl _) (by omega) hb hcell
    rw [List.take_length] at this
    exact this
  · have : l = [] := List.length_eq_zero_iff.1 (by omega)
    subst this
    refine (idxStay_none a cap _ w).mono ?_
    rintro e w' ⟨rfl, rfl⟩
    exact ⟨by rw [stayIdx_nil], Below.refl _ _⟩

set_option maxHeartbeats 1000000 in
theorem hasStay_any (p : Stay → Bool) (g : Nat) (lb : Array Value) (eg : ∀ args w, (callFunc g args).run Tryz.prog w = .ok (.enter g args) w) (a : Option Addr) (cap : Nat) (l : List Stay) (w : World) (h : RowsAt w a cap 8 Stay.enc l)
    (hp : PredBelow Tryz.prog g lb (fun x : Stay => .agg x.enc.toArray) p w) :
    Calls Tryz.prog 105 #[.slice a l.length cap, .func (.func g) #[] lb] w fun e w' => e = .returned (.bool (l.any p)) ∧ Below w.heap.size w w' := by
  have H : Hid (Calls Tryz.prog 79 #[.slice a l.length cap, .func (.func g) #[] lb] w fun e w' => e = .returned (.int .i64 (stayIdx p l)) ∧ Below w.heap.size w w') := idxStay_any p g lb eg a cap l w h hp
  rw [← stayIdx_nonneg]
  generalize stayIdx p l = r at *
  clear h hp eg
  go_enter Tryz.func105, Tryz.ntmps105
  go_wp2_with fail
  refine H.out.mono ?_
  rintro e w' ⟨rfl, hb⟩
  have B1 : Hid (Below w.heap.size w w') := hb
  clear hb
  go_wp2
  all_goals go_returns
  all_goals exact ⟨rfl, B1.out⟩

/-- Is a place in the list? -/
def hasPlace (l : List (Int × Int × Int)) (p : Int × Int × Int) : Bool := l.any fun y => p.1 == y.1 && p.2.1 == y.2.1 && p.2.2 == y.2.2

theorem hasPlace_some (b off cap : Nat) (l : List (Int × Int × Int)) (x y z : Int) (w : World) (hm : l.length ≤ 9223372036854775807) (hc : ∀ j, j < l.length → ∀ i v, (encP l[j]!)[i]? = some v → w.cell? ⟨b, off + j * 3 + i, none⟩ = some v) :
    Calls Tryz.prog 104 #[.slice (some ⟨b, off, none⟩) l.length cap, .agg #[.int .i64 x, .int .i64 y, .int .i64 z]] w fun e w' => e = .returned (.bool (hasPlace l (x, y, z))) ∧ Below w.heap.size w w' := by
  have := AnyQ.slices_Contains Tryz.lcp 3 Tryz.isAgg82 Tryz.sizeOf82 encP (fun _ => rfl) _ eqPlace b off l.length cap l (x, y, z) w (Nat.le_refl _) hm hc
  rw [List.take_length] at this
  exact this

end Bk
end Go.Proofs.YtaikbojdmfkbhaaGreatDoor
