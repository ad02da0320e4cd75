/- SlicesJ Quiet BookFind. -/
import Derived.Test.YtopgllmjeliklaaGreatDoorKtShelfL
import Derived.Shelf.SlicesQ.IndexFunc
import Derived.Shelf.SlicesQ.Contains
import Derived.Laws.StructEq
import Derived.Ground.SlgqProg
import Derived.Ground.SlgfProg
import Derived.Shelf.RegionOpenPlain
set_option maxRecDepth 100000
set_option linter.unusedSimpArgs false
set_option linter.unusedVariables false
namespace Go.Proofs.YtopgllmjeliklaaGreatDoor
open Go.Shelf Go.Lib Go.ChangeShapes Go.WideShapes Go.ChangeAt Go.RowKit
def Tryz.lcp_ren : Go.Shelf.Ren := ⟨fun | 7 => 93 | 6 => 138 | n => n, fun | 22 => 113 | 24 => 65 | 4 => 4 | 0 => 0 | 3 => 3 | n => n, fun | n => n⟩
theorem Tryz.lcp : Go.Proofs.SlLaysQ.n7 Tryz.prog Tryz.lcp_ren := {
 mixed := by kernel_rfl
 f6 := ⟨Tryz.f138.name, by decide, Tryz.func138.trans (congrArg some (by kernel_rfl))⟩
 f7 := ⟨Tryz.f93.name, by decide, Tryz.func93.trans (congrArg some (by kernel_rfl))⟩
 t0 := Tryz.underlying0
 a0 := Tryz.isAgg0
 z0 := Tryz.sizeOf0
 v0 := Tryz.zeroValue0
 t3 := Tryz.underlying3
 a3 := Tryz.isAgg3
 z3 := Tryz.sizeOf3
 v3 := Tryz.zeroValue3
 t4 := Tryz.underlying4
 a4 := Tryz.isAgg4
 z4 := Tryz.sizeOf4
 v4 := Tryz.zeroValue4
 t22 := Tryz.underlying113
 a22 := Tryz.isAgg113
 z22 := Tryz.sizeOf113
 v22 := Tryz.zeroValue113 }
def Tryz.lis_ren : Go.Shelf.Ren := ⟨fun | 6 => 58 | n => n, fun | 22 => 36 | 23 => 67 | 25 => 108 | 3 => 3 | 0 => 0 | 4 => 4 | n => n, fun | n => n⟩
theorem Tryz.lis : Go.Proofs.SlLaysH0.n6 Tryz.prog Tryz.lis_ren := {
 mixed := by kernel_rfl
 f6 := ⟨Tryz.f58.name, by decide, Tryz.func58.trans (congrArg some (by kernel_rfl))⟩
 t0 := Tryz.underlying0
 a0 := Tryz.isAgg0
 z0 := Tryz.sizeOf0
 v0 := Tryz.zeroValue0
 t3 := Tryz.underlying3
 a3 := Tryz.isAgg3
 z3 := Tryz.sizeOf3
 v3 := Tryz.zeroValue3
 t4 := Tryz.underlying4
 a4 := Tryz.isAgg4
 z4 := Tryz.sizeOf4
 v4 := Tryz.zeroValue4
 t22 := Tryz.underlying36
 a22 := Tryz.isAgg36
 z22 := Tryz.sizeOf36
 v22 := Tryz.zeroValue36
 t25 := Tryz.underlying108
 a25 := Tryz.isAgg108
 z25 := Tryz.sizeOf108
 v25 := Tryz.zeroValue108 }
def Tryz.lcs_ren : Go.Shelf.Ren := ⟨fun | 8 => 94 | 6 => 58 | n => n, fun | 22 => 36 | 23 => 67 | 25 => 108 | 4 => 4 | 3 => 3 | 0 => 0 | n => n, fun | n => n⟩
namespace Bk
def encP (p : Int × Int × Int) : List Value := [.int .i64 p.1, .int .i64 p.2.1, .int .i64 p.2.2]
theorem eqJob : EqlAt Tryz.prog 88 (fun x : Job => .agg x.enc.toArray) (fun x y => x.t == y.t && x.f == y.f) := by
 refine ⟨fun x y w => ?_, GuardAt.agg _ (by kernel_rfl)⟩
 have u3 := Tryz.underlying3; have a3 := Tryz.isAgg3; have z3 := Tryz.sizeOf3; have u4 := Tryz.underlying4; have a4 := Tryz.isAgg4; have z4 := Tryz.sizeOf4; have hS : Tryz.prog.underlying 88 = some (.struct (Tryz.prog.fieldsOf 88)) := by kernel_rfl
 have hp : Tryz.prog.stoodInHeld 88 = false := by kernel_rfl
 simp only [Job.enc]; rw [run_eql_struct, show (10000 : Nat) = 9999 + 1 from rfl, run_equalIn_agg w 9999 88 _ _ hS hp]
 simp only [Program.fieldsOf, Tryz.underlying88]
 go_simp
 by_cases h1 : x.t = y.t <;> by_cases h2 : x.f = y.f <;> simp [h1, h2]
theorem eqPlace : EqlAt Tryz.prog 65 (fun x : Int × Int × Int => .agg (encP x).toArray) (fun x y => x.1 == y.1 && x.2.1 == y.2.1 && x.2.2 == y.2.2) := by
 refine ⟨fun x y w => ?_, GuardAt.agg _ (by kernel_rfl)⟩
 have u3 := Tryz.underlying3; have a3 := Tryz.isAgg3; have z3 := Tryz.sizeOf3; have hS : Tryz.prog.underlying 65 = some (.struct (Tryz.prog.fieldsOf 65)) := by kernel_rfl
 have hp : Tryz.prog.stoodInHeld 65 = false := by kernel_rfl
 simp only [encP]; rw [run_eql_struct, show (10000 : Nat) = 9999 + 1 from rfl, run_equalIn_agg w 9999 65 _ _ hS hp]
 simp only [Program.fieldsOf, Tryz.underlying65]
 go_simp
 by_cases h1 : x.1 = y.1 <;> by_cases h2 : x.2.1 = y.2.1 <;> by_cases h3 : x.2.2 = y.2.2 <;> simp [h1, h2, h3]
def hasJob (l : List Job) (j : Job) : Bool := l.any fun y => j.t == y.t && j.f == y.f
def jobIdx (l : List Job) (j : Job) : Int := Lib.idxBy (fun x y : Job => x.t == y.t && x.f == y.f) (l.take l.length) j
set_option maxHeartbeats 2000000 in
theorem idxJob_some (b off cap : Nat) (l : List Job) (t : Int) (f : Bool) (w : World) (hb : b < w.heap.size) (hm : l.length ≤ 9223372036854775807) (hc : ∀ j, j < l.length → ∀ i v, (Job.enc l[j]!)[i]? = some v → w.cell? ⟨b, off + j * 2 + i, none⟩ = some v) :
  Calls Tryz.prog 96 #[.slice (some ⟨b, off, none⟩) l.length cap, .agg #[.int .i64 t, .bool f]] w fun e w' => e = .returned (.int .i64 (jobIdx l ⟨t, f⟩)) ∧ Below w.heap.size w w' := by
 have heq' : ∀ (x y : Job) (w : World), Sem.run Tryz.prog (binOp .eql 88 (.agg #[.int .i64 x.t, .bool x.f]) (.agg #[.int .i64 y.t, .bool y.f])) w = .ok (.bool (x.t == y.t && x.f == y.f)) w := eqJob.1
 have hgd' : ∀ (op : BinOp) (a b : Operand) (x y : Job) (w : World), Sem.run Tryz.prog (eqGuard op 88 a b (.agg #[.int .i64 x.t, .bool x.f]) (.agg #[.int .i64 y.t, .bool y.f])) w = .ok () w := eqJob.2
 have HC : Hid (∀ j, j < l.length → ∀ i v, (Job.enc l[j]!)[i]? = some v → w.cell? ⟨b, off + j * 2 + i, none⟩ = some v) := hc
 clear hc; have bl := hb
 go_enter Tryz.func96, Tryz.ntmps96
 go_wp2
 go_loopg [5, 8] l.length (fun g _ s8 wr => ∃ kk : Nat, kk ≤ l.length ∧ l.length - kk ≤ g ∧ s8 = .int .i64 kk ∧ Hid (Below w.heap.size w wr ∧ w.heap.size < wr.heap.size ∧ ∀ o, wr.cell? ⟨w.heap.size, o, none⟩ = (#[.int .i64 t, .bool f] : Array Value)[o]?) ∧ Hid (∀ j, j < kk → (t == l[j]!.t && f == l[j]!.f) = false))
 case atStart => exact ⟨0, Nat.zero_le _, by omega, rfl, ⟨B.new1 _ _, by simp, B.row_new _ _ _⟩, fun j hj => absurd hj (Nat.not_lt_zero _)⟩
 case round =>
  obtain ⟨kk, hkk, hg, rfl, BW, A⟩ := hrel
  by_cases hlt : kk < l.length
  ·have hltz : (kk : Int) < (l.length : Int) := by omega
   have c0 : wr.cell? ⟨b, off + kk * 2, none⟩ = some (.int .i64 l[kk]!.t) := (BW.out.1.cell (p := ⟨b, _, none⟩) bl).trans (HC.out kk hlt 0 _ rfl); have c1 : wr.cell? ⟨b, off + kk * 2 + 1, none⟩ = some (.bool l[kk]!.f) := (BW.out.1.cell (p := ⟨b, _, none⟩) bl).trans (HC.out kk hlt 1 _ rfl); have r0 := BW.out.2.2; have BY : Hid (∀ y, y = l[kk]! → (t == l[kk]!.t && f == l[kk]!.f) = (t == y.t && f == y.f)) := fun y e => by rw [e]
   generalize hy : l[kk]! = y at c0 c1 BY; have HY : Hid (l[kk]! = y) := hy; clear hy; have e1 := heq' ⟨t, f⟩ y; have e2 := fun op a b => hgd' op a b ⟨t, f⟩ y
   simp only at e1 e2; clear heq' hgd'
   cases hq : (t == y.t && f == y.f) with
   | true =>
     rw [hq] at e1; have HQ : Hid ((t == y.t && f == y.f) = true) := hq; clear hq; go_wp2_with fail
     go_region
     go_wp2; go_returns; refine ⟨?_, by have := BW.out.1; go_grown⟩
     unfold jobIdx; rw [Lib.idxBy_hit (fun x y : Job => x.t == y.t && x.f == y.f) l l.length kk ⟨t, f⟩ hlt (Nat.le_refl _) (by show (t == l[kk]!.t && f == l[kk]!.f) = true; rw [HY.out]; exact HQ.out) A.out]
     rfl
   | false =>
     rw [hq] at e1; have HQ : Hid ((t == y.t && f == y.f) = false) := hq; clear hq; go_wp2_with fail
     go_region
     go_wp2
     go_roundg (l.length - (kk + 1))
     case measure => omega
     case rel =>
      refine ⟨kk + 1, by omega, by omega, by go_num, ⟨BW.out.1.drew, by simpa using BW.out.2.1, by simpa using BW.out.2.2⟩, (show Hid _ from fun j hj => ?_)⟩
      by_cases e : j = kk
      ·subst e
       rw [HY.out]; exact HQ.out
      ·exact A.out j (by omega)
  ·have hltz : ¬ (kk : Int) < (l.length : Int) := by omega
   have hk : kk = l.length := by omega
   go_wp2; go_returns; refine ⟨?_, BW.out.1⟩; unfold jobIdx; rw [Lib.idxBy_miss (fun x y : Job => x.t == y.t && x.f == y.f) l l.length ⟨t, f⟩ (by rw [← hk]; exact A.out)]
   rfl
set_option maxHeartbeats 1000000 in
theorem idxJob_none (a : Option Addr) (cap : Nat) (t : Int) (f : Bool) (w : World) :
  Calls Tryz.prog 96 #[.slice a 0 cap, .agg #[.int .i64 t, .bool f]] w fun e w' => e = .returned (.int .i64 (-1)) ∧ Below w.heap.size w w' := by
 go_enter Tryz.func96, Tryz.ntmps96
 go_wp2; refine wp_loop_rounds 1 ?_; rw [rounds_succ]; go_wp2; go_returns; exact ⟨rfl, B.new1 _ _⟩
theorem idxJob_any (a : Option Addr) (cap : Nat) (l : List Job) (t : Int) (f : Bool) (w : World) (h : RowsAt w a cap 2 Job.enc l) :
  Calls Tryz.prog 96 #[.slice a l.length cap, .agg #[.int .i64 t, .bool f]] w fun e w' => ∃ r, e = .returned (.int .i64 r) ∧ decide (0 ≤ r) = hasJob l ⟨t, f⟩ ∧ Below w.heap.size w w' := by
 obtain ⟨hl, hm, hc⟩ := h; unfold maxLen at hm
 by_cases h0 : 0 < l.length
 ·obtain ⟨b, off, rfl, hb, hcell⟩ := hc h0
  refine (idxJob_some b off cap l t f w hb (by omega) hcell).mono ?_; rintro e w' ⟨rfl, h2⟩; refine ⟨_, rfl, ?_, h2⟩; unfold jobIdx; rw [Lib.idxBy_nonneg_iff, List.take_length]
  rfl
 ·have : l = [] := List.length_eq_zero_iff.1 (by omega)
  subst this; refine (idxJob_none a cap t f w).mono ?_; rintro e w' ⟨rfl, h2⟩; exact ⟨_, rfl, rfl, h2⟩
set_option maxHeartbeats 1000000 in
theorem hasJob_any (a : Option Addr) (cap : Nat) (l : List Job) (t : Int) (f : Bool) (w : World) (h : RowsAt w a cap 2 Job.enc l) :
  Calls Tryz.prog 62 #[.slice a l.length cap, .agg #[.int .i64 t, .bool f]] w fun e w' => e = .returned (.bool (hasJob l ⟨t, f⟩)) ∧ Below w.heap.size w w' := by
 have H : Hid (∀ o, Calls Tryz.prog 96 #[.slice a l.length cap, .agg #[.int .i64 t, .bool f]] (w.alloc o) fun e w' => ∃ r, e = .returned (.int .i64 r) ∧ decide (0 ≤ r) = hasJob l ⟨t, f⟩ ∧ Below (w.alloc o).heap.size (w.alloc o) w') := fun o => idxJob_any a cap l t f _ (h.below (B.new1 w o))
 clear h
 go_enter Tryz.func62, Tryz.ntmps62
 go_wp2_with fail; refine (H.out _).mono ?_; rintro e w' ⟨r, rfl, hr, hb⟩; have B1 : Hid (Below w.heap.size w w') := B.next (B.new1 _ _) hb (by simp); have HR : Hid (decide (0 ≤ r) = hasJob l ⟨t, f⟩) := hr; clear hb hr; go_wp2
 all_goals go_returns
 all_goals refine ⟨?_, B1.out⟩
 all_goals rw [← HR.out]
 all_goals rfl
theorem RowsAt.take {α : Type} [Inhabited α] {W : World} {a : Option Addr} {cap k : Nat} {enc : α → List Value} {zs : List α} (h : RowsAt W a cap k enc zs) (n : Nat) (hn : n ≤ zs.length) : RowsAt W a cap k enc (zs.take n) := by
 obtain ⟨hl, hm, hc⟩ := h; refine ⟨by simp; omega, hm, fun h0 => ?_⟩
 simp only [List.length_take] at h0 ⊢; obtain ⟨b, off, ha, hb, hcell⟩ := hc (by omega); refine ⟨b, off, ha, hb, fun j hj i v hv => hcell j (by omega) i v ?_⟩
 have e : (zs.take n)[j]! = zs[j]! := by
  rw [getElem!_pos _ _ (by simp; omega), getElem!_pos _ _ (by omega), List.getElem_take]
 rw [e] at hv; exact hv
def stayIdx (p : Stay → Bool) (l : List Stay) : Int := Lib.idxBy (fun _ y => p y) l default
theorem stayIdx_nonneg (p : Stay → Bool) (l : List Stay) : decide (0 ≤ stayIdx p l) = l.any p := Lib.idxBy_nonneg_iff (fun _ y => p y) l default
theorem stayIdx_nil (p : Stay → Bool) : stayIdx p [] = -1 := by unfold stayIdx; exact Lib.idxBy_miss (fun _ y => p y) [] 0 default (fun j hj => absurd hj (Nat.not_lt_zero _))
set_option maxHeartbeats 1000000 in
theorem idxStay_none (a : Option Addr) (cap : Nat) (v : Value) (w : World) :
  Calls Tryz.prog 58 #[.slice a 0 cap, v] w fun e w' => e = .returned (.int .i64 (-1)) ∧ w' = w := by
 go_enter Tryz.func58, Tryz.ntmps58
 go_wp2; refine wp_loop_rounds 1 ?_; rw [rounds_succ]; go_wp2; go_returns; exact ⟨rfl, rfl⟩
theorem idxStay_any (p : Stay → Bool) (g : Nat) (lb : Array Value) (eg : ∀ args w, (callFunc g args).run Tryz.prog w = .ok (.enter g args) w) (a : Option Addr) (cap : Nat) (l : List Stay) (w : World) (h : RowsAt w a cap 8 Stay.enc l)
  (hp : PredBelow Tryz.prog g lb (fun x : Stay => .agg x.enc.toArray) p w) :
  Calls Tryz.prog 58 #[.slice a l.length cap, .func (.func g) #[] lb] w fun e w' => e = .returned (.int .i64 (stayIdx p l)) ∧ Below w.heap.size w w' := by
 obtain ⟨hl, hm, hc⟩ := h; unfold maxLen at hm
 by_cases h0 : 0 < l.length
 ·obtain ⟨b, off, rfl, hb, hcell⟩ := hc h0
  have := AnyQ.slices_IndexFunc Tryz.lis 8 Tryz.isAgg67 Tryz.sizeOf67 Stay.enc (fun _ => rfl) p g lb eg b off l.length cap l w hp (Nat.le_refl _) (by omega) hb hcell
  rw [List.take_length] at this; exact this
 ·have : l = [] := List.length_eq_zero_iff.1 (by omega)
  subst this; refine (idxStay_none a cap _ w).mono ?_; rintro e w' ⟨rfl, rfl⟩; exact ⟨by rw [stayIdx_nil], Below.refl _ _⟩
set_option maxHeartbeats 1000000 in
theorem hasStay_any (p : Stay → Bool) (g : Nat) (lb : Array Value) (eg : ∀ args w, (callFunc g args).run Tryz.prog w = .ok (.enter g args) w) (a : Option Addr) (cap : Nat) (l : List Stay) (w : World) (h : RowsAt w a cap 8 Stay.enc l)
  (hp : PredBelow Tryz.prog g lb (fun x : Stay => .agg x.enc.toArray) p w) :
  Calls Tryz.prog 94 #[.slice a l.length cap, .func (.func g) #[] lb] w fun e w' => e = .returned (.bool (l.any p)) ∧ Below w.heap.size w w' := by
 have H : Hid (Calls Tryz.prog 58 #[.slice a l.length cap, .func (.func g) #[] lb] w fun e w' => e = .returned (.int .i64 (stayIdx p l)) ∧ Below w.heap.size w w') := idxStay_any p g lb eg a cap l w h hp
 rw [← stayIdx_nonneg]; generalize stayIdx p l = r at *; clear h hp eg
 go_enter Tryz.func94, Tryz.ntmps94
 go_wp2_with fail; refine H.out.mono ?_; rintro e w' ⟨rfl, hb⟩; have B1 : Hid (Below w.heap.size w w') := hb; clear hb; go_wp2
 all_goals go_returns
 all_goals exact ⟨rfl, B1.out⟩
def hasPlace (l : List (Int × Int × Int)) (p : Int × Int × Int) : Bool := l.any fun y => p.1 == y.1 && p.2.1 == y.2.1 && p.2.2 == y.2.2
theorem hasPlace_some (b off cap : Nat) (l : List (Int × Int × Int)) (x y z : Int) (w : World) (hm : l.length ≤ 9223372036854775807) (hc : ∀ j, j < l.length → ∀ i v, (encP l[j]!)[i]? = some v → w.cell? ⟨b, off + j * 3 + i, none⟩ = some v) :
  Calls Tryz.prog 93 #[.slice (some ⟨b, off, none⟩) l.length cap, .agg #[.int .i64 x, .int .i64 y, .int .i64 z]] w fun e w' => e = .returned (.bool (hasPlace l (x, y, z))) ∧ Below w.heap.size w w' := by
 have := AnyQ.slices_Contains Tryz.lcp 3 Tryz.isAgg65 Tryz.sizeOf65 encP (fun _ => rfl) _ eqPlace b off l.length cap l (x, y, z) w (Nat.le_refl _) hm hc
 rw [List.take_length] at this; exact this
end Bk
end Go.Proofs.YtopgllmjeliklaaGreatDoor
namespace Go.Proofs.YtopgllmjeliklaaGreatDoor
open Go.ChangeShapes Go.WideShapes Go.ChangeAt Go.RowKit
structure BelowW (w : World) where
 wd : World
 hb : Below w.heap.size w wd
instance belowW_inhabited (w : World) : Inhabited (BelowW w) := ⟨⟨w, Below.refl _ _⟩⟩
theorem wp_region_below {P : Program} {id : Nat} {Q : Exit → Act → World → Prop} {a : Act} {w : World} {l : List Oper} (hm : P.follows .mixedOrders = true) (hB : Region.lexB .any l.toArray = true)
  (h : wpQuiet P l.toArray (fun w' => ∃ p : BelowW w, w' = p.wd) (fun a' => ∀ w', (∃ p : BelowW w, w' = p.wd) → Q .normal a' w') l a) : (Code.region id l.toArray true).wp P Q a w :=
 wp_region_quiet (C := fun w' => ∃ p : BelowW w, w' = p.wd) hm hB ⟨⟨w.drew, (Below.refl _ _).drew⟩, rfl⟩ (by simpa using h)
theorem wpAny_below {P : Program} {l0 : List Oper} {Q : Exit → Act → World → Prop} {a : Act} {w : World} {fuel : Nat} {listed : Array Bool} (k : Nat) (hf : (l0.drop k).length = fuel) (hs : Region.noSelect l0.toArray = true)
  (hB : Region.lexFrom .any l0.toArray fuel k listed = true) (h : wpQuiet P l0.toArray (fun w' => ∃ p : BelowW w, w' = p.wd) (fun a' => ∀ w', (∃ p : BelowW w, w' = p.wd) → Q .normal a' w') (l0.drop k) a) : wpAny P .any l0.toArray Q fuel listed a w := by
 subst hf; exact wpAny_of_quiet (Q := fun a' => ∀ w', (∃ p : BelowW w, w' = p.wd) → Q .normal a' w') (fun _ w' hw' h => h w' hw') _ _ _ _ ⟨⟨w, Below.refl _ _⟩, rfl⟩ (wpAnyQ_lex hs (l0.drop k) k listed a (fun j => by simp) hB h)
theorem wpQuiet_skip {P : Program} {ops : Array Oper} {C : World → Prop} {Q : Act → Prop} {a : Act} {o : Oper} {rest : List Oper} (hw : Region.wanted o (yielded ops a.tmps) = false) (h : wpQuiet P ops C Q rest (a.put o.dst undef)) : wpQuiet P ops C Q (o :: rest) a := by
 refine wpQuiet_step (fun K hK => ?_)
 rw [if_neg (by rw [hw]; decide)]; exact hK _ h
theorem Calls.wof {P : Program} {f : FuncId} {args : Array Value} {w : World} {p : BelowW w} {v : Value}
  (h : Calls P f args p.wd fun e w' => e = .returned v ∧ Below p.wd.heap.size p.wd w') : Calls P f args p.wd fun e w'' => e = .returned v ∧ ∃ q : BelowW w, w'' = q.wd :=
 h.mono fun _ w' ⟨he, hb⟩ => ⟨he, ⟨w', B.next p.hb hb p.hb.size⟩, rfl⟩
def Blk (w : World) (b : Nat) (arr : Array Value) (t : TypeId) : Prop := w.heap[b]? = some (.cells arr t (0, 0))
theorem Blk.lt {w : World} {b : Nat} {arr : Array Value} {t : TypeId} (h : Blk w b arr t) : b < w.heap.size := (Array.getElem?_eq_some_iff.1 h).1
theorem Blk.cell {w : World} {b : Nat} {arr : Array Value} {t : TypeId} (h : Blk w b arr t) (o : Nat) : w.cell? ⟨b, o, none⟩ = arr[o]? := by simp [World.cell?, (show w.heap[b]? = _ from h)]
theorem Blk.free {w : World} {b : Nat} {arr : Array Value} {t : TypeId} (h : Blk w b arr t) (o : Nat) : w.frozen? ⟨b, o, none⟩ = false := by simp [World.frozen?, (show w.heap[b]? = _ from h)]
theorem Blk.below {w w' : World} {b : Nat} {arr : Array Value} {t : TypeId} (h : Blk w b arr t) (hb : Below w.heap.size w w') : Blk w' b arr t := (hb.block b h.lt).trans h
theorem Blk.set {w : World} {b : Nat} {arr : Array Value} {t : TypeId} (h : Blk w b arr t) (o : Nat) (v : Value) : Blk (w.setCell ⟨b, o, none⟩ v) b (arr.setIfInBounds o v) t := by
 have := (show w.heap[b]? = _ from h)
 show (w.setCell ⟨b, o, none⟩ v).heap[b]? = _
 simp [World.setCell, Array.getElem?_modify, this]
theorem Blk.other {w : World} {b c : Nat} {arr : Array Value} {t : TypeId} (h : Blk w b arr t) (hc : c ≠ b) (o : Nat) (v : Value) : Blk (w.setCell ⟨c, o, none⟩ v) b arr t := by
 have := (show w.heap[b]? = _ from h)
 show (w.setCell ⟨c, o, none⟩ v).heap[b]? = _
 simp [World.setCell, Array.getElem?_modify, this, hc]
theorem Blk.new (w : World) (arr : Array Value) (t : TypeId) : Blk (w.alloc (.cells arr t (0, 0))) w.heap.size arr t := by
 show (w.heap.push _)[w.heap.size]? = _
 exact Array.getElem?_push_size
theorem Blk.new1 {w : World} {N : Nat} (h : N = w.heap.size) (arr : Array Value) (t : TypeId) : Blk (w.alloc (.cells arr t (0, 0))) N arr t := by
 subst h; exact Blk.new w arr t
theorem Blk.old {w : World} {b : Nat} {arr : Array Value} {t : TypeId} (h : Blk w b arr t) (o : Obj) : Blk (w.alloc o) b arr t := h.below (B.new1 w o)
theorem size_setCell (w : World) (a : Addr) (v : Value) : (w.setCell a v).heap.size = w.heap.size := by
 simp [World.setCell]
theorem set3_0 {w : World} {b : Nat} {a0 a1 a2 : Value} (g : ∀ o, w.cell? ⟨b, o, none⟩ = #[a0, a1, a2][o]?) (x y z : Value) : (((w.setCell ⟨b, 0, none⟩ x).setCell ⟨b, 1, none⟩ y).setCell ⟨b, 2, none⟩ z).cell? ⟨b, 0, none⟩ = some x := by
 have h0 := g 0; have h1 := g 1; have h2 := g 2
 simp at h0 h1 h2
 simp [World.cell?_setCell_same', World.cell?_setCell_other, h0, h1, h2]
theorem set3_1 {w : World} {b : Nat} {a0 a1 a2 : Value} (g : ∀ o, w.cell? ⟨b, o, none⟩ = #[a0, a1, a2][o]?) (x y z : Value) : (((w.setCell ⟨b, 0, none⟩ x).setCell ⟨b, 1, none⟩ y).setCell ⟨b, 2, none⟩ z).cell? ⟨b, 1, none⟩ = some y := by
 have h0 := g 0; have h1 := g 1; have h2 := g 2
 simp at h0 h1 h2
 simp [World.cell?_setCell_same', World.cell?_setCell_other, h0, h1, h2]
theorem set3_2 {w : World} {b : Nat} {a0 a1 a2 : Value} (g : ∀ o, w.cell? ⟨b, o, none⟩ = #[a0, a1, a2][o]?) (x y z : Value) : (((w.setCell ⟨b, 0, none⟩ x).setCell ⟨b, 1, none⟩ y).setCell ⟨b, 2, none⟩ z).cell? ⟨b, 2, none⟩ = some z := by
 have h0 := g 0; have h1 := g 1; have h2 := g 2
 simp at h0 h1 h2
 simp [World.cell?_setCell_same', World.cell?_setCell_other, h0, h1, h2]
end Go.Proofs.YtopgllmjeliklaaGreatDoor
namespace Go.Proofs.YtopgllmjeliklaaGreatDoor
open Go.Shelf Go.Lib Go.ChangeShapes Go.WideShapes Go.ChangeAt Go.RowKit
namespace Bk
set_option maxHeartbeats 400000 in
theorem bwithin_any (n l m : Int) (w : World) : Calls Tryz.prog 60 #[.int .i64 n, .int .i64 l, .int .i64 m] w fun e w' => e = .returned (.bool (decide (l ≤ n ∧ n ≤ m))) ∧ w = w' := by
 go_enter Tryz.func60, Tryz.ntmps60
 go_wp2
 all_goals
  go_returns; refine ⟨B.ret_bool ?_, rfl⟩
  go_light
  first | (simp [*]; done) | (simp [*]; omega) | (simp; omega)
theorem makeFunc_run (fn : Fn) (first cap : Array Value) (w : World) : (Instr.makeFunc fn first cap).run Tryz.prog w = .ok (.func fn first cap) w := rfl
set_option maxHeartbeats 1000000 in
theorem find1_any (k : Int) (P0 : Nat) (s : Stay) (w : World) (hP : P0 < w.heap.size) (hc : w.cell? ⟨P0, 0, none⟩ = some (.int .i64 k)) :
  Calls Tryz.prog 59 #[.agg #[.int .i64 s.t, .int .i64 s.id, .int .i64 s.a, .int .i64 s.b, .int .i64 s.c, .int .i64 s.x, .int .i64 s.y, .int .i64 s.z], .pointer (some ⟨P0, 0, none⟩)] w fun e w' => e = .returned (.bool (s.t == k)) ∧ Below w.heap.size w w' := by
 have c0 : ∀ o, (w.alloc o).cell? ⟨P0, 0, none⟩ = some (.int .i64 k) := fun o => ((B.new1 w o).cell (p := ⟨P0, 0, none⟩) hP).trans hc
 have hne : ¬ P0 = w.heap.size := by omega
 go_enter Tryz.func59, Tryz.ntmps59
 go_wp2
 all_goals go_returns
 all_goals exact ⟨B.ret_bool (by simp [*]), by go_grown⟩
set_option maxHeartbeats 1000000 in
theorem of1_any (k : Int) (P0 : Nat) (s : Stay) (w : World) (hP : P0 < w.heap.size) (hc : w.cell? ⟨P0, 0, none⟩ = some (.int .i64 k)) :
  Calls Tryz.prog 137 #[.agg #[.int .i64 s.t, .int .i64 s.id, .int .i64 s.a, .int .i64 s.b, .int .i64 s.c, .int .i64 s.x, .int .i64 s.y, .int .i64 s.z], .pointer (some ⟨P0, 0, none⟩)] w fun e w' => e = .returned (.bool (s.id == k)) ∧ Below w.heap.size w w' := by
 have c0 : ∀ o, (w.alloc o).cell? ⟨P0, 0, none⟩ = some (.int .i64 k) := fun o => ((B.new1 w o).cell (p := ⟨P0, 0, none⟩) hP).trans hc
 have hne : ¬ P0 = w.heap.size := by omega
 go_enter Tryz.func137, Tryz.ntmps137
 go_wp2
 all_goals go_returns
 all_goals exact ⟨B.ret_bool (by simp [*]), by go_grown⟩
def findI (b : Book) (k : Int) : Int := stayIdx (fun s => s.t == k) b.stays
def ofI (b : Book) (k : Int) : Int := stayIdx (fun s => s.id == k) b.stays
set_option maxHeartbeats 1000000 in
theorem find_any (b : Book) (k : Int) (w : World) (h : b.At w) :
  Calls Tryz.prog 30 #[b.val, .int .i64 k] w fun e w' => e = .returned (.int .i64 (findI b k)) ∧ Below w.heap.size w w' := by
 unfold findI; obtain ⟨last, sa, sc, ja, jc, stays, jobs⟩ := b; obtain ⟨h1, h2⟩ := h; simp only [Book.val] at *; obtain ⟨w1, hw1⟩ : ∃ w1, (w.alloc (.cells #[.int .i64 last, .slice sa stays.length sc, .slice ja jobs.length jc] 39)).alloc (.cells #[.int .i64 k] 3) = w1 := ⟨_, rfl⟩
 have NB : Below w.heap.size w w1 := by rw [← hw1]; exact (B.new1 _ _).alloc (by simp) _
 have K0 : Blk w1 w.heap.size #[.int .i64 last, .slice sa stays.length sc, .slice ja jobs.length jc] 39 := by rw [← hw1]; exact (Blk.new _ _ _).old _
 have K1 : Blk w1 (w.heap.size + 1) #[.int .i64 k] 3 := by rw [← hw1]; exact Blk.new1 (by simp) _ _
 have HP : PredBelow Tryz.prog 59 #[.pointer (some ⟨w.heap.size + 1, 0, none⟩)] (fun x : Stay => .agg x.enc.toArray) (fun s => s.t == k) w1 := fun W x hb =>
  (find1_any k (w.heap.size + 1) x W (K1.below hb).lt ((K1.below hb).cell 0)).mono fun e w' ⟨he, hb'⟩ => ⟨he, B.next hb hb' hb.size⟩
 have HC : Hid (Calls Tryz.prog 58 #[.slice sa stays.length sc, .func (.func 59) #[] #[.pointer (some ⟨w.heap.size + 1, 0, none⟩)]] w1 fun e w' => e = .returned (.int .i64 (stayIdx (fun s => s.t == k) stays)) ∧ Below w1.heap.size w1 w') :=
  idxStay_any (fun s => s.t == k) 59 _ (enters_of Tryz.func59 (by kernel_rfl) rfl) sa sc stays w1 (h1.below NB) HP
 have NH : Hid (Below w.heap.size w w1) := NB; have hmf := makeFunc_run; have r0 := K0.cell 1; clear h1 h2 HP NB K0 K1; generalize stayIdx (fun s => s.t == k) stays = r at *
 go_enter Tryz.func30, Tryz.ntmps30
 go_wp2_with fail; refine HC.out.mono ?_; rintro e w' ⟨rfl, hb⟩; have NC : Hid (Below w.heap.size w w') := B.next NH.out hb NH.out.size; clear hb; go_wp2; go_returns; exact ⟨rfl, NC.out⟩
set_option maxHeartbeats 1000000 in
theorem of_any (b : Book) (k : Int) (w : World) (h : b.At w) :
  Calls Tryz.prog 91 #[b.val, .int .i64 k] w fun e w' => e = .returned (.int .i64 (ofI b k)) ∧ Below w.heap.size w w' := by
 unfold ofI; obtain ⟨last, sa, sc, ja, jc, stays, jobs⟩ := b; obtain ⟨h1, h2⟩ := h; simp only [Book.val] at *; obtain ⟨w1, hw1⟩ : ∃ w1, (w.alloc (.cells #[.int .i64 last, .slice sa stays.length sc, .slice ja jobs.length jc] 39)).alloc (.cells #[.int .i64 k] 3) = w1 := ⟨_, rfl⟩
 have NB : Below w.heap.size w w1 := by rw [← hw1]; exact (B.new1 _ _).alloc (by simp) _
 have K0 : Blk w1 w.heap.size #[.int .i64 last, .slice sa stays.length sc, .slice ja jobs.length jc] 39 := by rw [← hw1]; exact (Blk.new _ _ _).old _
 have K1 : Blk w1 (w.heap.size + 1) #[.int .i64 k] 3 := by rw [← hw1]; exact Blk.new1 (by simp) _ _
 have HP : PredBelow Tryz.prog 137 #[.pointer (some ⟨w.heap.size + 1, 0, none⟩)] (fun x : Stay => .agg x.enc.toArray) (fun s => s.id == k) w1 := fun W x hb =>
  (of1_any k (w.heap.size + 1) x W (K1.below hb).lt ((K1.below hb).cell 0)).mono fun e w' ⟨he, hb'⟩ => ⟨he, B.next hb hb' hb.size⟩
 have HC : Hid (Calls Tryz.prog 58 #[.slice sa stays.length sc, .func (.func 137) #[] #[.pointer (some ⟨w.heap.size + 1, 0, none⟩)]] w1 fun e w' => e = .returned (.int .i64 (stayIdx (fun s => s.id == k) stays)) ∧ Below w1.heap.size w1 w') :=
  idxStay_any (fun s => s.id == k) 137 _ (enters_of Tryz.func137 (by kernel_rfl) rfl) sa sc stays w1 (h1.below NB) HP
 have NH : Hid (Below w.heap.size w w1) := NB; have hmf := makeFunc_run; have r0 := K0.cell 1; clear h1 h2 HP NB K0 K1; generalize stayIdx (fun s => s.id == k) stays = r at *
 go_enter Tryz.func91, Tryz.ntmps91
 go_wp2_with fail; refine HC.out.mono ?_; rintro e w' ⟨rfl, hb⟩; have NC : Hid (Below w.heap.size w w') := B.next NH.out hb NH.out.size; clear hb; go_wp2; go_returns; exact ⟨rfl, NC.out⟩
end Bk
end Go.Proofs.YtopgllmjeliklaaGreatDoor
