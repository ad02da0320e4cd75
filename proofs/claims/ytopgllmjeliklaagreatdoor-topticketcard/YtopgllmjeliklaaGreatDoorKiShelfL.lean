/- ShelfL Kit Base Tower Sizes Book. -/
import Derived.Test.YtopgllmjeliklaaGreatDoorKiShelf
import Derived.Shelf.Strings.Trim
import Derived.Shelf.Strings.Builder1
import Derived.Test.YtopgllmjeliklaaGreatDoorRows
import Derived.WalkKit
import Derived.ProofKit
import Derived.OpenShut
import Derived.Handy
import Derived.WalkSpells
import Derived.WalkLawsBesides
import Derived.Deep.QuietTactic
import Derived.BigQuiet
import Derived.Deep.RegionWith
import Derived.Deep.Light
import Derived.Deep.Slices
import Derived.Deep.Strs
set_option maxRecDepth 100000
set_option linter.unusedSimpArgs false
set_option linter.unusedVariables false
namespace Go.Proofs.YtopgllmjeliklaaGreatDoor
open Go.Shelf
def Tryz.lTrimR_ren : Go.Shelf.Ren := ⟨fun | 162 => 155 | 232 => 164 | 227 => 165 | 234 => 166 | 236 => 167 | 228 => 178 | 271 => 179 | 151 => 180 | 120 => 194 | 197 => 195 | 152 => 196 | 260 => 205 | 137 => 206 | 119 => 207 | 224 => 208 | 225 => 209 | 217 => 210 | 266 => 214 | n => n, fun | 9 => 9 | 4 => 4 | 3 => 3 | 5 => 5 | 117 => 210 | 116 => 209 | 0 => 0 | 124 => 213 | 21 => 21 | 105 => 226 | 46 => 241 | 119 => 259 | 139 => 262 | 138 => 261 | n => n, fun | 3 => 6 | 4 => 7 | n => n⟩
theorem Tryz.lTrimR : Go.Proofs.Lays.n162 Tryz.prog Tryz.lTrimR_ren := {
 mixed := by kernel_rfl
 f119 := Tryz.func207.trans (congrArg some (by kernel_rfl))
 f120 := Tryz.func194.trans (congrArg some (by kernel_rfl))
 f137 := Tryz.func206.trans (congrArg some (by kernel_rfl))
 f151 := Tryz.func180.trans (congrArg some (by kernel_rfl))
 f152 := Tryz.func196.trans (congrArg some (by kernel_rfl))
 f162 := Tryz.func155.trans (congrArg some (by kernel_rfl))
 f197 := Tryz.func195.trans (congrArg some (by kernel_rfl))
 f217 := Tryz.func210.trans (congrArg some (by kernel_rfl))
 f224 := Tryz.func208.trans (congrArg some (by kernel_rfl))
 f225 := Tryz.func209.trans (congrArg some (by kernel_rfl))
 f227 := Tryz.func165.trans (congrArg some (by kernel_rfl))
 f228 := Tryz.func178.trans (congrArg some (by kernel_rfl))
 f232 := Tryz.func164.trans (congrArg some (by kernel_rfl))
 f234 := Tryz.func166.trans (congrArg some (by kernel_rfl))
 f236 := Tryz.func167.trans (congrArg some (by kernel_rfl))
 f260 := Tryz.func205.trans (congrArg some (by kernel_rfl))
 f266 := Tryz.func214.trans (congrArg some (by kernel_rfl))
 f271 := Tryz.func179.trans (congrArg some (by kernel_rfl))
 t0 := Tryz.underlying0
 a0 := Tryz.isAgg0
 z0 := Tryz.sizeOf0
 v0 := Tryz.zeroValue0
 t3 := Tryz.underlying3
 a3 := Tryz.isAgg3
 z3 := Tryz.sizeOf3
 v3 := Tryz.zeroValue3
 t4 := Tryz.underlying4
 a4 := Tryz.isAgg4
 z4 := Tryz.sizeOf4
 v4 := Tryz.zeroValue4
 t5 := Tryz.underlying5
 a5 := Tryz.isAgg5
 z5 := Tryz.sizeOf5
 v5 := Tryz.zeroValue5
 t9 := Tryz.underlying9
 a9 := Tryz.isAgg9
 z9 := Tryz.sizeOf9
 v9 := Tryz.zeroValue9
 t21 := Tryz.underlying21
 a21 := Tryz.isAgg21
 z21 := Tryz.sizeOf21
 v21 := Tryz.zeroValue21
 t46 := Tryz.underlying241
 a46 := Tryz.isAgg241
 z46 := Tryz.sizeOf241
 v46 := Tryz.zeroValue241
 t105 := Tryz.underlying226
 a105 := Tryz.isAgg226
 z105 := Tryz.sizeOf226
 v105 := Tryz.zeroValue226
 t116 := Tryz.underlying209
 a116 := Tryz.isAgg209
 z116 := Tryz.sizeOf209
 t117 := Tryz.underlying210
 a117 := Tryz.isAgg210
 z117 := Tryz.sizeOf210
 v117 := Tryz.zeroValue210
 t119 := Tryz.underlying259
 a119 := Tryz.isAgg259
 z119 := Tryz.sizeOf259
 t124 := Tryz.underlying213
 a124 := Tryz.isAgg213
 z124 := Tryz.sizeOf213
 v124 := Tryz.zeroValue213
 t138 := Tryz.underlying261
 a138 := Tryz.isAgg261
 z138 := Tryz.sizeOf261
 v138 := Tryz.zeroValue261
 t139 := Tryz.underlying262
 a139 := Tryz.isAgg262
 z139 := Tryz.sizeOf262
 v139 := Tryz.zeroValue262
 g3 := by kernel_rfl
 g4 := by kernel_rfl }
def Tryz.lWS_ren : Go.Shelf.Ren := ⟨fun | 166 => 141 | 240 => 156 | 276 => 168 | n => n, fun | 0 => 0 | 3 => 3 | 4 => 4 | 5 => 5 | 9 => 9 | 20 => 20 | 37 => 183 | 70 => 182 | 72 => 185 | 75 => 50 | 80 => 187 | 164 => 214 | n => n, fun | n => n⟩
theorem Tryz.lWS : Go.Proofs.Lays.n166 Tryz.prog Tryz.lWS_ren := {
 mixed := by kernel_rfl
 f166 := Tryz.func141.trans (congrArg some (by kernel_rfl))
 f240 := Tryz.func156.trans (congrArg some (by kernel_rfl))
 f276 := Tryz.func168.trans (congrArg some (by kernel_rfl))
 t0 := Tryz.underlying0
 a0 := Tryz.isAgg0
 z0 := Tryz.sizeOf0
 v0 := Tryz.zeroValue0
 t3 := Tryz.underlying3
 a3 := Tryz.isAgg3
 z3 := Tryz.sizeOf3
 v3 := Tryz.zeroValue3
 t4 := Tryz.underlying4
 a4 := Tryz.isAgg4
 z4 := Tryz.sizeOf4
 v4 := Tryz.zeroValue4
 t9 := Tryz.underlying9
 a9 := Tryz.isAgg9
 z9 := Tryz.sizeOf9
 v9 := Tryz.zeroValue9
 t20 := Tryz.underlying20
 a20 := Tryz.isAgg20
 z20 := Tryz.sizeOf20
 v20 := Tryz.zeroValue20
 t37 := Tryz.underlying183
 a37 := Tryz.isAgg183
 z37 := Tryz.sizeOf183
 v37 := Tryz.zeroValue183
 t70 := Tryz.underlying182
 a70 := Tryz.isAgg182
 z70 := Tryz.sizeOf182
 v70 := Tryz.zeroValue182
 t72 := Tryz.underlying185
 a72 := Tryz.isAgg185
 z72 := Tryz.sizeOf185
 v72 := Tryz.zeroValue185
 t75 := Tryz.underlying50
 a75 := Tryz.isAgg50
 z75 := Tryz.sizeOf50
 v75 := Tryz.zeroValue50
 t164 := Tryz.underlying214
 a164 := Tryz.isAgg214
 z164 := Tryz.sizeOf214
 v164 := Tryz.zeroValue214 }
def Tryz.lBStr_ren : Go.Shelf.Ren := ⟨fun | 169 => 142 | n => n, fun | 70 => 182 | 9 => 9 | 0 => 0 | 72 => 185 | 37 => 183 | 127 => 201 | 3 => 3 | 5 => 5 | n => n, fun | n => n⟩
theorem Tryz.lBStr : Go.Proofs.Lays.n169 Tryz.prog Tryz.lBStr_ren := {
 mixed := by kernel_rfl
 f169 := Tryz.func142.trans (congrArg some (by kernel_rfl))
 t0 := Tryz.underlying0
 a0 := Tryz.isAgg0
 z0 := Tryz.sizeOf0
 v0 := Tryz.zeroValue0
 t3 := Tryz.underlying3
 a3 := Tryz.isAgg3
 z3 := Tryz.sizeOf3
 v3 := Tryz.zeroValue3
 t9 := Tryz.underlying9
 a9 := Tryz.isAgg9
 z9 := Tryz.sizeOf9
 v9 := Tryz.zeroValue9
 t37 := Tryz.underlying183
 a37 := Tryz.isAgg183
 z37 := Tryz.sizeOf183
 v37 := Tryz.zeroValue183
 t70 := Tryz.underlying182
 a70 := Tryz.isAgg182
 z70 := Tryz.sizeOf182
 v70 := Tryz.zeroValue182
 t72 := Tryz.underlying185
 a72 := Tryz.isAgg185
 z72 := Tryz.sizeOf185
 v72 := Tryz.zeroValue185
 t127 := Tryz.underlying201
 a127 := Tryz.isAgg201
 z127 := Tryz.sizeOf201
 v127 := Tryz.zeroValue201 }
end Go.Proofs.YtopgllmjeliklaaGreatDoor
namespace Go.Proofs.YtopgllmjeliklaaGreatDoor
open Go.ChangeShapes Go.WideShapes Go.ChangeAt Go.RowKit
theorem Tryz.own : ownKnob Tryz.prog.godebug = none := by kernel_rfl
theorem Tryz.laidOut : laidOutB Tryz.prog = true := by kernel_rfl
theorem trodAll_below {H : Type} {enc : TypeId × Value → H} {P : Program} (hl : laidOutB P = true) {W W' : World} (hb : Below W.heap.size W W') :
  ∀ {ts : List TypeId} {vs : List Value} {ds : List (DataW H)} {ps : List MemPlace}, ts.all (fun t => P.readableRec t && decide (t < P.types.size)) = true →
   DataW.TrodAll enc P W 0 (fun _ => true) true ts vs ds ps → (∀ x ∈ ps, x.block < W.heap.size) → DataW.TrodAll enc P W' 0 (fun b => decide (b < W.heap.size)) true ts vs ds ps
 | [], _, _, _, _, h, _ => by
   obtain ⟨rfl, rfl, rfl⟩ := trodAll_nil h
   rfl
 | t :: ts, _, _, _, hts, h, hlt => by
   obtain ⟨v, vs1, d, ds1, a, b, rfl, rfl, rfl, h1, h2⟩ := trodAll_cons h; simp only [List.all_cons, Bool.and_eq_true, decide_eq_true_eq] at hts; exact ⟨a, b, Below.trod hl hts.1.1 hts.1.2 h1 hb (fun x hx => hlt x (by simp [hx])), trodAll_below hl hb hts.2 h2 (fun x hx => hlt x (by simp [hx])), rfl⟩
theorem trodAll_length {H : Type} {enc : TypeId × Value → H} {P : Program} {w : World} {b : Nat} {sp : Nat → Bool} {hd : Bool} :
  ∀ {ts : List TypeId} {vs : List Value} {ds : List (DataW H)} {ps : List MemPlace}, DataW.TrodAll enc P w b sp hd ts vs ds ps → vs.length = ts.length ∧ ds.length = ts.length
 | [], _, _, _, h => by
   obtain ⟨rfl, rfl, rfl⟩ := trodAll_nil h; exact ⟨rfl, rfl⟩
 | t :: ts, _, _, _, h => by
   obtain ⟨v, vs1, d, ds1, a, b, rfl, rfl, rfl, h1, h2⟩ := trodAll_cons h; have := trodAll_length h2
   simp [this.1, this.2]
theorem cell_int {P : Program} {w : World} {b : Nat} {t : TypeId} {k : IntKind} {v : Value} (ht : P.underlying t = some (.int k)) (h : Cell.okWide P w .any b t v) : ∃ n, v = .int k n ∧ k.has n := by
 cases v <;> simp [Cell.okWide, Cell.ok, ht] at h
 obtain ⟨rfl, h⟩ := h; exact ⟨_, rfl, h⟩
theorem val_int {P : Program} {w : World} {b : Nat} {t : TypeId} {k : IntKind} {v : Value} (ht : P.underlying t = some (.int k)) (h : Value.okWide P w .any b t v) : ∃ n, v = .int k n ∧ k.has n := by
 unfold Value.okWide at h; rw [ht] at h; exact cell_int ht h
theorem val_struct {P : Program} {w : World} {b : Nat} {t : TypeId} {fs : Array Field} {ts : List TypeId} {v : Value} (ht : P.underlying t = some (.struct fs)) (hc : P.cellTypes P.depth t = some ts) (hn : P.cellsOf t = ts.length)
  (h : Value.okWide P w .any b t v) : ∃ cs : Array Value, v = .agg cs ∧ cs.size = ts.length ∧ ∀ (i : Nat) u x, ts[i]? = some u → cs[i]? = some x → Cell.okWide P w .any b u x := by
 unfold Value.okWide at h; rw [ht] at h; obtain ⟨cs, rfl, hs, ts', hc', _, hh⟩ := h; rw [hc] at hc'
 cases hc'
 refine ⟨cs, rfl, hs.trans hn, fun i u x hu hx => ?_⟩
 have hi : i < ts.length := by
  rcases Nat.lt_or_ge i ts.length with h | h
  ·exact h
  ·rw [List.getElem?_eq_none h] at hu; cases hu
 obtain ⟨u', hu', h⟩ := hh i x hx; rw [Nat.mod_eq_of_lt hi, hu] at hu'
 cases hu'
 exact h
theorem array_of_size3 {α : Type} {cs : Array α} (h : cs.size = 3) : ∃ a b c, cs = #[a, b, c] := by
 obtain ⟨l⟩ := cs
 match l, h with
 | [a, b, c], _ => exact ⟨a, b, c, rfl⟩
theorem array_of_size4 {α : Type} {cs : Array α} (h : cs.size = 4) : ∃ a b c d, cs = #[a, b, c, d] := by
 obtain ⟨l⟩ := cs
 match l, h with
 | [a, b, c, d], _ => exact ⟨a, b, c, d, rfl⟩
theorem open_car {w : World} {b : Nat} {v : Value} (h : Value.okWide Tryz.prog w .any b 34 v) :
  ∃ i x y z, v = .agg #[.int .i64 i, .int .i64 x, .int .i64 y, .int .i64 z] ∧ IntKind.i64.has i ∧ IntKind.i64.has x ∧ IntKind.i64.has y ∧ IntKind.i64.has z := by
 obtain ⟨cs, rfl, hs, hh⟩ := val_struct (ts := [3, 3, 3, 3]) Tryz.underlying34 (by kernel_rfl) (by kernel_rfl) h; obtain ⟨c0, c1, c2, c3, rfl⟩ := array_of_size4 hs; obtain ⟨i, rfl, wi⟩ := cell_int Tryz.underlying3 (hh 0 _ _ rfl rfl); obtain ⟨x, rfl, wx⟩ := cell_int Tryz.underlying3 (hh 1 _ _ rfl rfl); obtain ⟨y, rfl, wy⟩ := cell_int Tryz.underlying3 (hh 2 _ _ rfl rfl); obtain ⟨z, rfl, wz⟩ := cell_int Tryz.underlying3 (hh 3 _ _ rfl rfl); exact ⟨i, x, y, z, rfl, wi, wx, wy, wz⟩
namespace B
theorem i64_bounds {n : Int} (h : IntKind.i64.has n) : -9223372036854775808 ≤ n ∧ n ≤ 9223372036854775807 := by
 simpa [IntKind.has, IntKind.min, IntKind.max, IntKind.bits, IntKind.signed] using h
theorem has_of {n : Int} (h : -9223372036854775808 ≤ n ∧ n ≤ 9223372036854775807) : IntKind.i64.has n := by
 simpa [IntKind.has, IntKind.min, IntKind.max, IntKind.bits, IntKind.signed] using h
theorem ret_bool {a b : Bool} (h : a = b) : Ending.returned (.bool a) = .returned (.bool b) := by rw [h]
theorem ret_int {k : IntKind} {a b : Int} (h : a = b) : Ending.returned (.int k a) = .returned (.int k b) := by rw [h]
theorem ret_pair {k : IntKind} {a b : Int} {c d : Bool} (h : a = b) (h2 : c = d) : Ending.returned (.tuple #[.int k a, .bool c]) = .returned (.tuple #[.int k b, .bool d]) := by rw [h, h2]
theorem cell {W w1 : World} (hb : Below W.heap.size W w1) : ∀ b o, b < W.heap.size → w1.cell? ⟨b, o, none⟩ = W.cell? ⟨b, o, none⟩ := fun b o h => hb.cell (p := ⟨b, o, none⟩) h
theorem frozen {W w1 : World} (hb : Below W.heap.size W w1) : ∀ b o, b < W.heap.size → w1.frozen? ⟨b, o, none⟩ = W.frozen? ⟨b, o, none⟩ := fun b o h => hb.frozen (p := ⟨b, o, none⟩) h
theorem next {B : Nat} {w w1 w2 : World} (h : Below B w w1) (k : Below w1.heap.size w1 w2) (hB : B ≤ w1.heap.size) : Below B w w2 := h.trans (k.mono hB)
theorem new1 (w : World) (o : Obj) : Below w.heap.size w (w.alloc o) := (Below.refl _ _).alloc (Nat.le_refl _) o
theorem new_size (w : World) (o : Obj) : (w.alloc o).heap.size = w.heap.size + 1 := by simp
theorem row {W w1 : World} {b : Nat} {C : Array Value} (hb : Below W.heap.size W w1) (h : ∀ o, W.cell? ⟨b, o, none⟩ = C[o]?) (hlt : b < W.heap.size) : ∀ o, w1.cell? ⟨b, o, none⟩ = C[o]? :=
 fun o => (hb.cell (p := ⟨b, o, none⟩) hlt).trans (h o)
theorem row_new (w : World) (C : Array Value) (t : TypeId) : ∀ o, (w.alloc (.cells C t)).cell? ⟨w.heap.size, o, none⟩ = C[o]? := fun o => World.cell?_alloc_mark w C t (0, 0) o
theorem row_old {w : World} {b : Nat} {C : Array Value} (x : Obj) (h : ∀ o, w.cell? ⟨b, o, none⟩ = C[o]?) (hlt : b < w.heap.size) : ∀ o, (w.alloc x).cell? ⟨b, o, none⟩ = C[o]? :=
 row (new1 w x) h hlt
end B
def errV (n : Int) : Value := if n = 0 then .nilIface else .iface 103 (.int .i64 n)
theorem errV0 : errV 0 = .nilIface := rfl
theorem errV_ne {n : Int} (h : n ≠ 0) : errV n = .iface 103 (.int .i64 n) := by simp [errV, h]
def faultN (b : Bool) : Int := if b = true then 0 else 1
theorem faultN_t : faultN true = 0 := rfl
theorem faultN_f : faultN false = 1 := rfl
def placeB (x y z lv : Int) : Bool := decide (1 ≤ x ∧ x ≤ lv ∧ 0 ≤ y ∧ y ≤ 1 ∧ 0 ≤ z ∧ z ≤ 1)
def sizeB (x y z : Int) : Bool := decide (1 ≤ x ∧ x ≤ 99 ∧ 1 ≤ y ∧ y ≤ 99 ∧ 1 ≤ z ∧ z ≤ 99)
def fitsB (a b c x y z : Int) : Bool := decide (a ≤ x ∧ b ≤ y ∧ c ≤ z)
def extI (y z : Int) : Int := if y = 0 then -(z + 1) else z + 1
set_option maxHeartbeats 400000 in
theorem within_any (n l m : Int) (w : World) : Calls Tryz.prog 63 #[.int .i64 n, .int .i64 l, .int .i64 m] w fun e w' => e = .returned (.bool (decide (l ≤ n ∧ n ≤ m))) ∧ w' = w := by
 go_enter Tryz.func63, Tryz.ntmps63
 go_wp2
 all_goals
  go_returns; refine ⟨B.ret_bool ?_, rfl⟩
  go_light
  first | (simp [*]; done) | (simp [*]; omega) | (simp; omega)
set_option maxHeartbeats 400000 in
theorem checkPlace_any (x y z lv : Int) (w : World) :
  Calls Tryz.prog 92 #[.agg #[.int .i64 x, .int .i64 y, .int .i64 z], .int .i64 lv] w fun e w' => e = .returned (errV (faultN (placeB x y z lv))) ∧ Below w.heap.size w w' := by
 go_enter Tryz.func92, Tryz.ntmps92
 go_wp2
 all_goals
  go_returns; refine ⟨?_, by go_grown⟩
  go_light
  cases k : placeB x y z lv <;> first | rfl | (simp [errV, faultN]; done) | (exfalso; simp only [placeB, decide_eq_false_iff_not, decide_eq_true_eq] at k; omega)
set_option maxHeartbeats 400000 in
theorem checkSize_any (x y z : Int) (w : World) :
  Calls Tryz.prog 64 #[.agg #[.int .i64 x, .int .i64 y, .int .i64 z]] w fun e w' => e = .returned (errV (faultN (sizeB x y z))) ∧ Below w.heap.size w w' := by
 go_enter Tryz.func64, Tryz.ntmps64
 go_wp2
 all_goals
  go_returns; refine ⟨?_, by go_grown⟩
  go_light
  cases k : sizeB x y z <;> first | rfl | (simp [errV, faultN]; done) | (exfalso; simp only [sizeB, decide_eq_false_iff_not, decide_eq_true_eq] at k; omega)
set_option maxHeartbeats 400000 in
theorem ext_any (x y z : Int) (w : World) (h0 : 0 ≤ z) (h1 : z ≤ 1) :
  Calls Tryz.prog 146 #[.agg #[.int .i64 x, .int .i64 y, .int .i64 z]] w fun e w' => e = .returned (.int .i64 (extI y z)) ∧ Below w.heap.size w w' := by
 by_cases hy : y = 0
 ·subst hy
  go_enter Tryz.func146, Tryz.ntmps146
  go_wp2; go_returns; exact ⟨B.ret_int (by simp [extI]), by go_grown⟩
 ·have hy' : (y == 0) = false := by simpa using hy
  have K : Hid (extI y z = z + 1) := by show _ = _; simp [extI, hy]
  clear hy
  go_enter Tryz.func146, Tryz.ntmps146
  go_wp2; go_returns; exact ⟨B.ret_int K.out.symm, by go_grown⟩
-- left out: this seat has not what it speaks of
set_option maxHeartbeats 400000 in
theorem front_any (x y z : Int) (w : World) :
  Calls Tryz.prog 98 #[.agg #[.int .i64 x, .int .i64 y, .int .i64 z]] w fun e w' => e = .returned (.agg #[.int .i64 x, .int .i64 y, .int .i64 0]) ∧ Below w.heap.size w w' := by
 go_enter Tryz.func98, Tryz.ntmps98
 go_wp2; go_returns; exact ⟨rfl, by go_grown⟩
set_option maxHeartbeats 400000 in
theorem fits_any (a b c x y z : Int) (w : World) :
  Calls Tryz.prog 33 #[.agg #[.int .i64 a, .int .i64 b, .int .i64 c], .agg #[.int .i64 x, .int .i64 y, .int .i64 z]] w fun e w' => e = .returned (.bool (fitsB a b c x y z)) ∧ Below w.heap.size w w' := by
 go_enter Tryz.func33, Tryz.ntmps33
 go_wp2
 all_goals
  go_returns; refine ⟨B.ret_bool ?_, by go_grown⟩
  go_light
  cases k : fitsB a b c x y z <;> first | rfl | (simp only [fitsB, decide_eq_false_iff_not, decide_eq_true_eq] at k; simp; omega) | (exfalso; simp only [fitsB, decide_eq_false_iff_not, decide_eq_true_eq] at k; omega)
-- left out: this seat has not what it speaks of
set_option maxHeartbeats 400000 in
theorem spare_any (n : Int) (w : World) :
  Calls Tryz.prog 49 #[.int .i64 n] w fun e w' => e = .returned (.agg #[.int .i64 n, .int .i64 1, .int .i64 0]) ∧ Below w.heap.size w w' := by
 go_enter Tryz.func49, Tryz.ntmps49
 go_wp2; go_returns; exact ⟨rfl, by go_grown⟩
-- left out: this seat has not what it speaks of
-- left out: this seat has not what it speaks of
-- left out: this seat has not what it speaks of
def carN (i x y z : Int) : Int := faultN (decide (1 ≤ i ∧ i ≤ 999) && sizeB x y z)
set_option maxHeartbeats 1000000 in
theorem checkCar_any (i x y z : Int) (w : World) :
  Calls Tryz.prog 35 #[.agg #[.int .i64 i, .int .i64 x, .int .i64 y, .int .i64 z]] w fun e w' => e = .returned (errV (carN i x y z)) ∧ Below w.heap.size w w' := by
 go_enter Tryz.func35, Tryz.ntmps35
 go_wp2
 all_goals
  go_returns; refine ⟨?_, by go_grown⟩
  go_light
  cases k : sizeB x y z <;> by_cases k2 : 1 ≤ i ∧ i ≤ 999 <;> first | (simp [errV, faultN, carN, k, k2]; done) | (exfalso; simp only [sizeB, decide_eq_false_iff_not, decide_eq_true_eq] at k; omega) | (exfalso; simp only [sizeB, Bool.not_eq_true', Bool.not_eq_false', decide_eq_false_iff_not, decide_eq_true_eq] at *; omega)
-- left out: this seat has not what it speaks of
-- left out: this seat has not what it speaks of
-- left out: this seat has not what it speaks of
-- left out: this seat has not what it speaks of
def SizesAt (W : World) (v : Value) (len : Nat) (f : Nat → Int × Int × Int) : Prop :=
 ∃ (a : Option Addr) (cap : Nat), v = .slice a len cap ∧ len ≤ cap ∧ cap ≤ maxLen ∧
  (0 < len → ∃ b off, a = some ⟨b, off, none⟩ ∧ b < W.heap.size ∧ ∀ i, i < len →
    W.cell? ⟨b, off + i * 3, none⟩ = some (.int .i64 (f i).1) ∧ W.cell? ⟨b, off + i * 3 + 1, none⟩ = some (.int .i64 (f i).2.1) ∧ W.cell? ⟨b, off + i * 3 + 2, none⟩ = some (.int .i64 (f i).2.2))
theorem SizesAt.below {W W' : World} {v : Value} {len : Nat} {f : Nat → Int × Int × Int} (h : SizesAt W v len f) (hb : Below W.heap.size W W') : SizesAt W' v len f := by
 obtain ⟨a, cap, hv, hl, hm, hc⟩ := h; refine ⟨a, cap, hv, hl, hm, fun h0 => ?_⟩
 obtain ⟨b, off, ha, hlt, hcell⟩ := hc h0; refine ⟨b, off, ha, Nat.lt_of_lt_of_le hlt hb.size, fun i hi => ?_⟩
 obtain ⟨c0, c1, c2⟩ := hcell i hi; exact ⟨(hb.cell (p := ⟨b, _, none⟩) hlt).trans c0, (hb.cell (p := ⟨b, _, none⟩) hlt).trans c1, (hb.cell (p := ⟨b, _, none⟩) hlt).trans c2⟩
theorem cell_spot {w : World} {a : Addr} {v : Value} (h : w.cell? a = some v) : a.spot = none := by
 unfold World.cell? at h
 cases hs : a.spot with
 | none => rfl
 | some s =>
   simp [hs] at h
   split at h <;> cases h
theorem size_elem {H : Type} {enc : TypeId × Value → H} {w : World} {base : Nat} {spare : Nat → Bool} {held : Bool} {n : Nat} {cs : List Value} {y : DataW H × List MemPlace}
  (h : DataW.trod enc Tryz.prog w base spare held n 32 cs = some y) (hl : cs.length = 3) : ∃ x y z, cs = [.int .i64 x, .int .i64 y, .int .i64 z] := by
 obtain ⟨y0, y1, y2, k, _, _, h0, h1, h2⟩ := Deep.trod_struct3 Tryz.underlying32 h
 match cs, hl with
 | [c0, c1, c2], _ =>
   have k3 : Tryz.prog.cellsOf 3 = 1 := by kernel_rfl
   obtain ⟨x, e0, _, _⟩ := DataW.trod_int Tryz.underlying3 h0; obtain ⟨y, e1, _, _⟩ := DataW.trod_int Tryz.underlying3 h1; obtain ⟨z, e2, _, _⟩ := DataW.trod_int Tryz.underlying3 h2
   simp [k3] at e0 e1 e2
   exact ⟨x, y, z, by rw [e0, e1, e2]⟩
theorem open_sizes {H : Type} {enc : TypeId × Value → H} {W : World} {b0 : Nat} {v : Value} {d : DataW H} {p : List MemPlace} (hv : Value.okWide Tryz.prog W .any b0 22 v)
  (h : DataW.Trod enc Tryz.prog W 0 (fun _ => true) true 22 v d p) (hlt : ∀ x ∈ p, x.block < W.heap.size) : ∃ len f, SizesAt W v len f := by
 obtain ⟨a0, len0, cap0, rfl⟩ := okWide_slice Tryz.underlying22 hv; obtain ⟨fuel, hf⟩ := h; have ce : Tryz.prog.cellsOf 32 = 3 := by kernel_rfl
 rcases Deep.open_slice Tryz.underlying22 (by simpa [Value.cells] using hf) with ⟨hcs, _⟩ | ⟨a, len, cap, m, n, D, Pl, hcs, _, hl, hm, hmm, hx, hel⟩
 ·simp at hcs
  obtain ⟨rfl, rfl, rfl⟩ := hcs; exact ⟨0, fun _ => (0, 0, 0), none, 0, rfl, Nat.le_refl _, Nat.zero_le _, fun h => absurd h (Nat.lt_irrefl _)⟩
 ·simp at hcs hmm
  obtain ⟨rfl, rfl, rfl⟩ := hcs
  have each : ∀ i, i < len0 → ∃ q : Int × Int × Int, W.cell? (a.add (i * 3)) = some (.int .i64 q.1) ∧ W.cell? (a.add (i * 3 + 1)) = some (.int .i64 q.2.1) ∧ W.cell? (a.add (i * 3 + 2)) = some (.int .i64 q.2.2) := by
   intro i hi
   obtain ⟨cs', h1, h2⟩ := hel i (by omega); rw [ce] at h1; obtain ⟨_, hlen, hcell⟩ := World.cells?_some h1; obtain ⟨x, y, z, rfl⟩ := size_elem h2 hlen; have e0 := hcell 0 (by omega); have e1 := hcell 1 (by omega); have e2 := hcell 2 (by omega); rw [Deep.add_add] at e0 e1 e2; exact ⟨(x, y, z), by simpa using e0, by simpa using e1, by simpa using e2⟩
  obtain ⟨f, hq⟩ := Deep.choose_lt each; refine ⟨len0, f, some a, cap0, rfl, hl, hm, fun h0 => ?_⟩
  have hs : a.spot = none := by
   have := cell_spot (hq 0 h0).1
   simpa [Addr.add] using this
  obtain ⟨b, off, sp⟩ := a; simp only at hs; subst hs
  have hmem : MemPlace.cell b off ∈ p := by
   simp only [Prod.mk.injEq] at hx; rw [hx.2]; refine List.mem_append_left _ ?_; simp only [MemPlace.row, List.mem_map, List.mem_range]; exact ⟨0, by rw [ce]; omega, by simp⟩
  refine ⟨b, off, rfl, hlt _ hmem, fun i hi => ?_⟩
  obtain ⟨c0, c1, c2⟩ := hq i hi
  have ad : ∀ k, (Addr.add ⟨b, off, none⟩ k) = ⟨b, off + k, none⟩ := by
   intro k
   unfold Addr.add
   split
   ·rename_i h; subst h; rfl
   ·rfl
  rw [ad] at c0 c1 c2; exact ⟨c0, by rw [Nat.add_assoc]; exact c1, by rw [Nat.add_assoc]; exact c2⟩
def levelN (s l : Int × Int × Int) : Int := if sizeB s.1 s.2.1 s.2.2 = true then (if fitsB s.1 s.2.1 s.2.2 l.1 l.2.1 l.2.2 = true then 0 else 3) else 1
def levelsFrom (f : Nat → Int × Int × Int) (l : Int × Int × Int) : Nat → Nat → Int
 | 0, _ => 0
 | n + 1, i => if levelN (f i) l = 0 then levelsFrom f l n (i + 1) else levelN (f i) l
def levelsN (len : Nat) (f : Nat → Int × Int × Int) : Int := if 1 ≤ len ∧ len ≤ 4 then levelsFrom f (f (len - 1)) len 0 else 2
theorem within_any' (n l m : Int) (w : World) : Calls Tryz.prog 63 #[.int .i64 n, .int .i64 l, .int .i64 m] w fun e w' => e = .returned (.bool (decide (l ≤ n ∧ n ≤ m))) ∧ w = w' :=
 (within_any n l m w).mono fun e w' h => ⟨h.1, h.2.symm⟩
set_option maxHeartbeats 400000 in
theorem check_many (v : Value) (len : Nat) (f : Nat → Int × Int × Int) (w : World) (hs : SizesAt w v len f) (hn : ¬ (1 ≤ len ∧ len ≤ 4)) :
  Calls Tryz.prog 45 #[v] w fun e w' => e = .returned (errV (levelsN len f)) ∧ Below w.heap.size w w' := by
 obtain ⟨a, cap, rfl, hl, hm, _⟩ := hs; unfold maxLen at hm; have K : Hid (levelsN len f = 2) := by show _ = _; simp [levelsN, hn]
 have hd : decide ((1 : Int) ≤ (len : Int) ∧ (len : Int) ≤ 4) = false := by simp only [decide_eq_false_iff_not]; omega
 clear hn
 go_enter Tryz.func45, Tryz.ntmps45
 go_wp2_with (go_at_call 63; refine (within_any _ _ _ _).mono ?_; rw [hd]; rintro e w' ⟨rfl, rfl⟩)
 go_returns; exact ⟨by rw [K.out]; rfl, by go_grown⟩
set_option maxHeartbeats 1000000 in
theorem check_few (b off len cap : Nat) (f : Nat → Int × Int × Int) (w : World) (h1 : 1 ≤ len) (h4 : len ≤ 4) (hb : b < w.heap.size)
  (hc : ∀ i, i < len → w.cell? ⟨b, off + i * 3, none⟩ = some (.int .i64 (f i).1) ∧ w.cell? ⟨b, off + i * 3 + 1, none⟩ = some (.int .i64 (f i).2.1) ∧ w.cell? ⟨b, off + i * 3 + 2, none⟩ = some (.int .i64 (f i).2.2)) :
  Calls Tryz.prog 45 #[.slice (some ⟨b, off, none⟩) len cap] w fun e w' => e = .returned (errV (levelsN len f)) ∧ Below w.heap.size w w' := by
 have HC : Hid _ := hc; clear hc; have hd : decide ((1 : Int) ≤ (len : Int) ∧ (len : Int) ≤ 4) = true := by simp only [decide_eq_true_eq]; omega
 obtain ⟨l0, l1, l2⟩ := HC.out (len - 1) (by omega); have L : Hid (levelsN len f = levelsFrom f (f (len - 1)) len 0) := by show _ = _; simp [levelsN, h1, h4]
 have bl := hb; generalize hl : f (len - 1) = l at *; have HL : Hid (f (len - 1) = l) := hl; clear hl
 go_enter Tryz.func45, Tryz.ntmps45
 go_wp2_with (go_at_call 63; refine (within_any' _ _ _ _).mono ?_; rw [hd]; rintro e wx ⟨rfl, hwx⟩; subst hwx)
 clear l0 l1 l2 hd
 go_loopw [20] (fun i wr => ∃ k : Nat, k ≤ len ∧ i = .int .i64 k ∧ Hid (levelsFrom f l len 0 = levelsFrom f l (len - k) k) ∧ Below w.heap.size w wr ∧ w.heap.size < wr.heap.size ∧ (∀ o, wr.cell? ⟨w.heap.size, o, none⟩ = (#[.int .i64 l.1, .int .i64 l.2.1, .int .i64 l.2.2] : Array Value)[o]?))
  (fun i _ => len - (intOf i).toNat)
 case atStart => exact ⟨0, Nat.zero_le _, rfl, rfl, B.new1 _ _, by simp, B.row_new _ _ _⟩
 case round =>
  obtain ⟨k, hk, rfl, HF, hB, hz, hrow⟩ := hrel
  by_cases hlt : k < len
  ·obtain ⟨c0, c1, c2⟩ := HC.out k hlt
   rw [← hB.cell (p := ⟨b, _, none⟩) bl] at c0 c1 c2
   have hs : Hid (levelsFrom f l (len - k) k = if levelN (f k) l = 0 then levelsFrom f l (len - (k + 1)) (k + 1) else levelN (f k) l) := by
    show _ = _
    rw [show len - k = (len - (k + 1)) + 1 from by omega]
    rfl
   generalize hfk : f k = s at *; have HK : Hid (f k = s) := hfk; clear hfk
   cases hsz : sizeB s.1 s.2.1 s.2.2
   ·have HN : Hid (levelN s l = 1) := by show _ = _; simp [levelN, hsz]
    have HS : Hid (sizeB s.1 s.2.1 s.2.2 = false) := hsz; clear hsz; go_wp2_with fail; refine (checkSize_any _ _ _ _).mono ?_; rintro e w1 ⟨rfl, hb1⟩; rw [HS.out, faultN_f, errV_ne (by decide)]; go_wp2; go_returns; refine ⟨?_, B.next (hB.alloc (Nat.le_of_lt hz) _) hb1 (by simp; omega)⟩; rw [L.out, HF.out, hs.out, HN.out]
    rfl
   ·have HS : Hid (sizeB s.1 s.2.1 s.2.2 = true) := hsz
    clear hsz
    cases hft : fitsB s.1 s.2.1 s.2.2 l.1 l.2.1 l.2.2
    ·have HN : Hid (levelN s l = 3) := by show _ = _; simp [levelN, HS.out, hft]
     have HT : Hid (fitsB s.1 s.2.1 s.2.2 l.1 l.2.1 l.2.2 = false) := hft; clear hft; go_wp2_with fail; refine (checkSize_any _ _ _ _).mono ?_; rintro e w1 ⟨rfl, hb1⟩; rw [HS.out, faultN_t, errV0]; have z1 : wr.heap.size + 1 ≤ w1.heap.size := by have := hb1.size; simp at this; omega
     have r1 := B.row hb1 (B.row_old _ hrow hz) (by simp; omega); have e1 := B.row hb1 (B.row_new wr _ _) (by simp); have B1 : Hid (Below w.heap.size w w1) := B.next (hB.alloc (Nat.le_of_lt hz) _) hb1 (by simp; omega); clear hb1 hrow; go_wp2_with fail; refine (fits_any _ _ _ _ _ _ _).mono ?_; rintro e w2 ⟨rfl, hb2⟩; rw [HT.out]; go_wp2; go_returns; refine ⟨?_, B.next B1.out hb2 (by omega)⟩; rw [L.out, HF.out, hs.out, HN.out]
     rfl
    ·have HN : Hid (levelN s l = 0) := by show _ = _; simp [levelN, HS.out, hft]
     have HT : Hid (fitsB s.1 s.2.1 s.2.2 l.1 l.2.1 l.2.2 = true) := hft; clear hft; go_wp2_with fail; refine (checkSize_any _ _ _ _).mono ?_; rintro e w1 ⟨rfl, hb1⟩; rw [HS.out, faultN_t, errV0]; have z1 : wr.heap.size + 1 ≤ w1.heap.size := by have := hb1.size; simp at this; omega
     have r1 := B.row hb1 (B.row_old _ hrow hz) (by simp; omega); have e1 := B.row hb1 (B.row_new wr _ _) (by simp); have B1 : Hid (Below w.heap.size w w1) := B.next (hB.alloc (Nat.le_of_lt hz) _) hb1 (by simp; omega); clear hb1 hrow; go_wp2_with fail; refine (fits_any _ _ _ _ _ _ _).mono ?_; rintro e w2 ⟨rfl, hb2⟩; rw [HT.out]; have z2 := hb2.size; have r2 := B.row hb2 r1 (by omega); have B2 : Hid (Below w.heap.size w w2) := B.next B1.out hb2 (by omega); clear hb2 r1 e1 B1; go_wp2
     go_roundw
     case rel => exact ⟨k + 1, by omega, by go_num, by show _ = _; rw [HF.out, hs.out, HN.out, if_pos rfl], B2.out, by omega, r2⟩
     case measure => simp [intOf]; omega
  ·go_wp2
   go_returns; refine ⟨?_, hB⟩; rw [L.out, HF.out, show len - k = 0 from by omega]
   rfl
namespace Bk
structure Stay where
 t : Int
 id : Int
 a : Int
 b : Int
 c : Int
 x : Int
 y : Int
 z : Int
deriving DecidableEq, Inhabited
structure Job where
 t : Int
 f : Bool
deriving DecidableEq, Inhabited
def Stay.enc (s : Stay) : List Value := [.int .i64 s.t, .int .i64 s.id, .int .i64 s.a, .int .i64 s.b, .int .i64 s.c, .int .i64 s.x, .int .i64 s.y, .int .i64 s.z]
def Job.enc (j : Job) : List Value := [.int .i64 j.t, .bool j.f]
def RowsAt {α : Type} [Inhabited α] (W : World) (a : Option Addr) (cap k : Nat) (enc : α → List Value) (zs : List α) : Prop :=
 zs.length ≤ cap ∧ cap ≤ maxLen ∧ (0 < zs.length → ∃ b off, a = some ⟨b, off, none⟩ ∧ b < W.heap.size ∧ ∀ j, j < zs.length → ∀ i v, (enc zs[j]!)[i]? = some v → W.cell? ⟨b, off + j * k + i, none⟩ = some v)
theorem RowsAt.below {α : Type} [Inhabited α] {W W' : World} {a : Option Addr} {cap k : Nat} {enc : α → List Value} {zs : List α} (h : RowsAt W a cap k enc zs) (hb : Below W.heap.size W W') : RowsAt W' a cap k enc zs := by
 obtain ⟨hl, hm, hc⟩ := h; refine ⟨hl, hm, fun h0 => ?_⟩
 obtain ⟨b, off, ha, hlt, hcell⟩ := hc h0; exact ⟨b, off, ha, Nat.lt_of_lt_of_le hlt hb.size, fun j hj i v hv => (hb.cell (p := ⟨b, _, none⟩) hlt).trans (hcell j hj i v hv)⟩
theorem add_none (b off k : Nat) : (Addr.add ⟨b, off, none⟩ k) = ⟨b, off + k, none⟩ := by
 unfold Addr.add
 split
 ·rename_i h; subst h; rfl
 ·rfl
structure Book where
 last : Int
 sa : Option Addr
 sc : Nat
 ja : Option Addr
 jc : Nat
 stays : List Stay
 jobs : List Job
def Book.val (b : Book) : Value := .agg #[.int .i64 b.last, .slice b.sa b.stays.length b.sc, .slice b.ja b.jobs.length b.jc]
def Book.At (b : Book) (W : World) : Prop := RowsAt W b.sa b.sc 8 Stay.enc b.stays ∧ RowsAt W b.ja b.jc 2 Job.enc b.jobs
theorem Book.At.below {b : Book} {W W' : World} (h : b.At W) (hb : Below W.heap.size W W') : b.At W' := ⟨h.1.below hb, h.2.below hb⟩
end Bk
end Go.Proofs.YtopgllmjeliklaaGreatDoor
