/- PlantK PlantL PlantM TopPick TopPickB TopOverA RStayOf PlantN. -/
import Derived.Test.YtopgllmjeliklaaGreatDoorKhPlantI
import Derived.ChangeKeys
import Derived.Maps.Views
import Derived.Maps.RangeWalk
set_option maxRecDepth 100000
set_option linter.unusedSimpArgs false
set_option linter.unusedVariables false
namespace Go.Proofs.YtopgllmjeliklaaGreatDoor
open Go.ChangeShapes Go.WideShapes Go.ChangeAt Go.RowKit Go.Maps
namespace Pl
theorem key_inv {v : Value} {kl : Lit} (h : keyOf Tryz.prog 65 v = some kl) :
  ∃ x y z : Int, v = .agg #[.int .i64 x, .int .i64 y, .int .i64 z] ∧ kl = pk x y z ∧ (Lit.int .i64 x).wf = true ∧ (Lit.int .i64 y).wf = true ∧ (Lit.int .i64 z).wf = true := by
 have hn : ∃ m, Tryz.prog.types.size + 1 = m + 2 := ⟨Tryz.prog.types.size - 1, by have h1 : (65 : Nat) < Tryz.prog.types.size := rowP; omega⟩
 obtain ⟨m, hm⟩ := hn; have hk : Tryz.prog.keyType 65 = true := deepP
 have one : ∀ a l, Tryz.prog.keyLits (m + 1) 3 [a] = some l → ∃ x : Int, a = .int .i64 x ∧ l = [.int .i64 x] ∧ (Lit.int .i64 x).wf = true := by
  intro a l hl
  cases a <;> simp [Program.keyLits, Tryz.underlying3] at hl
  obtain ⟨⟨rfl, hw⟩, rfl⟩ := hl; exact ⟨_, rfl, rfl, hw⟩
 cases v with
 | agg cs =>
   by_cases hs : cs.size = 3
   ·obtain ⟨a, b, c, rfl⟩ := array_of_size3 hs
    have hf : (Value.agg #[a, b, c]).formed Tryz.prog 65 = true := by simp [Value.formed, Tryz.underlying65, cellsP]
    unfold keyOf at h; rw [Tryz.underlying65] at h; simp only [hk, hf, Bool.and_self, if_true, hm] at h; rw [Option.map_eq_some_iff] at h; obtain ⟨ls, hls, rfl⟩ := h; unfold Program.keyLits at hls; simp only [Tryz.underlying65] at hls
    simp [cellsP, Value.cells, cellsI] at hls
    cases ha : Tryz.prog.keyLits (m + 1) 3 [a] with
    | none => simp [ha] at hls
    | some la =>
      cases hb : Tryz.prog.keyLits (m + 1) 3 [b] with
      | none => simp [ha, hb] at hls
      | some lb =>
        cases hc : Tryz.prog.keyLits (m + 1) 3 [c] with
        | none => simp [ha, hb, hc] at hls
        | some lc =>
          obtain ⟨x, rfl, rfl, wx⟩ := one _ _ ha; obtain ⟨y, rfl, rfl, wy⟩ := one _ _ hb; obtain ⟨z, rfl, rfl, wz⟩ := one _ _ hc
          simp [ha, hb, hc] at hls
          exact ⟨x, y, z, rfl, by rw [← hls]; rfl, wx, wy, wz⟩
   ·unfold keyOf at h
    rw [Tryz.underlying65] at h
    simp [Value.formed, Tryz.underlying65, cellsP, hs] at h
 | _ =>
   unfold keyOf at h; rw [Tryz.underlying65] at h
   simp [Value.formed, Tryz.underlying65] at h
theorem pk_inj {x y z x' y' z' : Int} (hx : (Lit.int .i64 x).wf = true) (hy : (Lit.int .i64 y).wf = true) (hz : (Lit.int .i64 z).wf = true) (hx' : (Lit.int .i64 x').wf = true) (hy' : (Lit.int .i64 y').wf = true) (hz' : (Lit.int .i64 z').wf = true)
  (h : pk x y z = pk x' y' z') : x = x' ∧ y = y' ∧ z = z' := by
 have h' : keyBytes [.int .i64 x, .int .i64 y, .int .i64 z] = keyBytes [.int .i64 x', .int .i64 y', .int .i64 z'] := by simpa [pk] using h
 have := keyBytes_inj (l := [.int .i64 x, .int .i64 y, .int .i64 z]) (l' := [.int .i64 x', .int .i64 y', .int .i64 z']) ⟨rfl, rfl, rfl, trivial⟩ (by simp [Lit.keyWf, hx, hy, hz]) (by simp [Lit.keyWf, hx', hy', hz']) h'
 simpa using this
theorem pk_key (x y z : Int) : WideAt.IsKeyLit (pk x y z) := trivial
structure DOk (lv : Int) (D : DataW Unit) : Prop where
 isMap : IsMap D
 keys : ∀ k, has D k = true → ∃ x y z : Int, k = pk x y z ∧ (1 ≤ x ∧ x ≤ lv) ∧ (0 ≤ y ∧ y ≤ 1) ∧ (0 ≤ z ∧ z ≤ 1) ∧ ∃ c : Int, (∀ zd, D.atKey k zd = .lit (.int .i64 c)) ∧ 1 ≤ c ∧ c ≤ 999
theorem DOk.empty (lv : Int) : DOk lv (.map []) := ⟨isMap_empty, fun k h => by simp [has] at h⟩
theorem carOf_put {D : DataW Unit} (hD : IsMap D) {X Y Z x y z c : Int} (hX : (Lit.int .i64 X).wf = true) (hY : (Lit.int .i64 Y).wf = true) (hZ : (Lit.int .i64 Z).wf = true) (hx : (Lit.int .i64 x).wf = true) (hy : (Lit.int .i64 y).wf = true) (hz : (Lit.int .i64 z).wf = true) :
  carOf (D.put (pk X Y Z) (.lit (.int .i64 c))) x y z = if x = X ∧ y = Y ∧ z = Z then c else carOf D x y z := by
 by_cases h : x = X ∧ y = Y ∧ z = Z
 ·obtain ⟨rfl, rfl, rfl⟩ := h
  rw [if_pos ⟨rfl, rfl, rfl⟩]; exact carOf_of (atKey_put_same hD (pk_key _ _ _) _ _)
 ·rw [if_neg h]
  have hne : pk x y z ≠ pk X Y Z := fun e => h (pk_inj hx hy hz hX hY hZ e)
  simp only [carOf, atKey_put_other hne]
theorem carOf_del {D : DataW Unit} {X Y Z x y z : Int} (hX : (Lit.int .i64 X).wf = true) (hY : (Lit.int .i64 Y).wf = true) (hZ : (Lit.int .i64 Z).wf = true) (hx : (Lit.int .i64 x).wf = true) (hy : (Lit.int .i64 y).wf = true) (hz : (Lit.int .i64 z).wf = true) :
  carOf (D.del (pk X Y Z)) x y z = if x = X ∧ y = Y ∧ z = Z then 0 else carOf D x y z := by
 by_cases h : x = X ∧ y = Y ∧ z = Z
 ·obtain ⟨rfl, rfl, rfl⟩ := h
  rw [if_pos ⟨rfl, rfl, rfl⟩]; exact carOf_of (atKey_del_same _)
 ·rw [if_neg h]
  have hne : pk x y z ≠ pk X Y Z := fun e => h (pk_inj hx hy hz hX hY hZ e)
  simp only [carOf, atKey_del_other hne]
theorem DOk.put {lv : Int} {D : DataW Unit} (h : DOk lv D) {X Y Z c : Int} (hX : 1 ≤ X ∧ X ≤ lv) (hY : 0 ≤ Y ∧ Y ≤ 1) (hZ : 0 ≤ Z ∧ Z ≤ 1) (hc : 1 ≤ c ∧ c ≤ 999) : DOk lv (D.put (pk X Y Z) (.lit (.int .i64 c))) := by
 refine ⟨h.isMap.put _ _, fun k hk => ?_⟩
 by_cases e : k = pk X Y Z
 ·subst e
  exact ⟨X, Y, Z, rfl, hX, hY, hZ, c, fun zd => atKey_put_same h.isMap (pk_key _ _ _) _ _, hc⟩
 ·rw [has_put_other e] at hk
  obtain ⟨x, y, z, rfl, h1, h2, h3, c', h4, h5⟩ := h.keys k hk; exact ⟨x, y, z, rfl, h1, h2, h3, c', fun zd => by rw [atKey_put_other e]; exact h4 zd, h5⟩
theorem DOk.del {lv : Int} {D : DataW Unit} (h : DOk lv D) (k0 : Lit) : DOk lv (D.del k0) := by
 refine ⟨h.isMap.del _, fun k hk => ?_⟩
 by_cases e : k = k0
 ·subst e
  rw [has_del_same] at hk
  cases hk
 ·rw [has_del_other e] at hk
  obtain ⟨x, y, z, rfl, h1, h2, h3, c', h4, h5⟩ := h.keys k hk; exact ⟨x, y, z, rfl, h1, h2, h3, c', fun zd => by rw [atKey_del_other e]; exact h4 zd, h5⟩
theorem DOk.car {lv : Int} {D : DataW Unit} (h : DOk lv D) (x y z : Int) : 0 ≤ carOf D x y z ∧ carOf D x y z ≤ 999 := by
 cases k : has D (pk x y z) with
 | true =>
   obtain ⟨_, _, _, _, _, _, _, c, hc, h1, h2⟩ := h.keys _ k; rw [carOf_of (hc _)]
   omega
 | false =>
   rw [carOf_of (c := 0) (atKey_of_not_has k _)]
   omega
theorem DOk.has_iff {lv : Int} {D : DataW Unit} (h : DOk lv D) (x y z : Int) : has D (pk x y z) = true ↔ carOf D x y z ≠ 0 := by
 cases k : has D (pk x y z) with
 | true =>
   obtain ⟨_, _, _, _, _, _, _, c, hc, h1, h2⟩ := h.keys _ k; rw [carOf_of (hc _)]
   simp; omega
 | false =>
   rw [carOf_of (c := 0) (atKey_of_not_has k _)]
   simp
theorem DOk.place {lv : Int} {D : DataW Unit} (h : DOk lv D) (h4 : lv ≤ 4) {x y z : Int} (hx : (Lit.int .i64 x).wf = true) (hy : (Lit.int .i64 y).wf = true) (hz : (Lit.int .i64 z).wf = true) (hc : carOf D x y z ≠ 0) : (1 ≤ x ∧ x ≤ lv) ∧ (0 ≤ y ∧ y ≤ 1) ∧ (0 ≤ z ∧ z ≤ 1) := by
 obtain ⟨x', y', z', e, h1, h2, h3, _⟩ := h.keys _ ((h.has_iff x y z).2 hc); obtain ⟨rfl, rfl, rfl⟩ := pk_inj hx hy hz (wfI (by omega)) (wfI (by omega)) (wfI (by omega)) e; exact ⟨h1, h2, h3⟩
end Pl
namespace Pl
def mkP (p : Int × Int × Int) : Value := .agg #[.int .i64 p.1, .int .i64 p.2.1, .int .i64 p.2.2]
theorem invP (key : Value) (kl : Lit) (h : keyOf Tryz.prog 65 key = some kl) : ∃ p, key = mkP p := by
 obtain ⟨x, y, z, rfl, _⟩ := key_inv h; exact ⟨(x, y, z), rfl⟩
theorem invI (v : Value) (y : DataW Unit × List MemPlace) (h : plainElem Tryz.prog 3 v = some y) : ∃ c, v = Value.int .i64 c := by
 obtain ⟨c, rfl, _⟩ := plainElem_int_inv Tryz.underlying3 h; exact ⟨c, rfl⟩
def WhereP (D : DataW Unit) (id : Int) (x y z : Int) (b : Bool) : Prop :=
 (b = true ∧ has D (pk x y z) = true ∧ (∀ zd, D.atKey (pk x y z) zd = .lit (.int .i64 id)) ∧ (Lit.int .i64 x).wf = true ∧ (Lit.int .i64 y).wf = true ∧ (Lit.int .i64 z).wf = true) ∨
 (b = false ∧ x = 0 ∧ y = 0 ∧ z = 0 ∧ ∀ k, has D k = true → ∀ c, (∀ zd, D.atKey k zd = .lit (.int .i64 c)) → c ≠ id)
theorem grown_below {a b : World} (h : a.grownBy b none) : Below a.heap.size a b := ⟨h.os, h.tape, h.output, h.size, fun k hk => h.block k hk (by simp)⟩
theorem grown_new {a b c : World} {r : Nat} (h : Below a.heap.size a b) (k : b.grownBy c (some r)) (hr : a.heap.size ≤ r) : Below a.heap.size a c :=
 ⟨k.os.trans h.os, k.tape.trans h.tape, k.output.trans h.output, Nat.le_trans h.size k.size, fun i hi => (k.block i (Nat.lt_of_lt_of_le hi h.size) (by simp; omega)).trans (h.block i hi)⟩
set_option maxHeartbeats 2000000 in
theorem where_any (pb mb n : Nat) (s : St) (id : Int) (w : World) (hp : IsP w pb mb n s) :
  Calls Tryz.prog 31 #[.pointer (some ⟨pb, 0, none⟩), .int .i64 id] w fun e w' => ∃ x y z b, e = .returned (.tuple #[.agg #[.int .i64 x, .int .i64 y, .int .i64 z], .bool b]) ∧ WhereP s.D id x y z b ∧ Below w.heap.size w w' := by
 have hlt : pb < w.heap.size := hp.lt; have c7 : ∀ o, (w.alloc o).cell? ⟨pb, 7, none⟩ = some (.map (some mb)) := fun o => ((B.cell (B.new1 w o)) pb 7 hlt).trans hp.c7
 have hown : ∀ o, Cars (w.alloc o) mb n s.D := fun o => World.ownsMap.alloc hp.cars o
 generalize s.D = D at hown ⊢; clear hp
 go_enter Tryz.func31, Tryz.ntmps31
 go_wp2_with (first
  | (at_range; refine wpList_range_own _ rfl _ 90 rfl 65 3 law Tryz.underlying90 _ mb n _ rfl (hown _) ?_; intro w0 hrg0 hg0 hs0)
  | go_in)
 go_frame
 have e1 : (w.alloc (.cells #[.int .i64 0, .int .i64 0, .int .i64 0] 65)).heap.size = w.heap.size + 1 := by simp
 rw [e1] at hrg0 hs0; simp only [e1]; have b0 : Below w.heap.size w w0 := B.next (B.new1 w _) (grown_below hg0) (by simp); have g0 : ∀ o, w0.cell? ⟨w.heap.size, o, none⟩ = (#[.int .i64 0, .int .i64 0, .int .i64 0] : Array Value)[o]? := B.row (grown_below hg0) (B.row_new w _ _) (by simp)
 have f0 : ∀ o, w0.frozen? ⟨w.heap.size, o, none⟩ = false := fun o => (B.frozen (grown_below hg0) _ o (by simp)).trans (by simp)
 clear hown c7 hg0
 go_loopw [7] (fun _ wr => ∃ (left : Lit → Bool) (cnt : Nat), wr.ranges Tryz.prog 65 (plainElem Tryz.prog 3) mb (w.heap.size + 1) n D left cnt ∧ Below w.heap.size w wr ∧ w.heap.size + 2 ≤ wr.heap.size ∧
   (∀ o, wr.cell? ⟨w.heap.size, o, none⟩ = (#[.int .i64 0, .int .i64 0, .int .i64 0] : Array Value)[o]?) ∧ (∀ o, wr.frozen? ⟨w.heap.size, o, none⟩ = false) ∧ (∀ k, left k = true → has D k = true) ∧
   (∀ k, has D k = true → left k = true ∨ ∀ c, (∀ zd, D.atKey k zd = .lit (.int .i64 c)) → c ≠ id))
  (fun _ wr => wr.rangeLeft mb (w.heap.size + 1))
 case atStart => exact ⟨_, _, hrg0, b0, by omega, g0, f0, fun k hk => hk, fun k hk => Or.inl hk⟩
 case round =>
  obtain ⟨left, cnt, hrg, hb, hz, hg, hf, hle, hno⟩ := hrel; have HB : Hid (Below w.heap.size w wr) := hb; have HNO : Hid (∀ k, has D k = true → left k = true ∨ ∀ c, (∀ zd, D.atKey k zd = .lit (.int .i64 c)) → c ≠ id) := hno
  have HLE : Hid (∀ k, left k = true → has D k = true) := hle
  have HG : Hid (∀ o, wr.cell? ⟨w.heap.size, o, none⟩ = (#[.int .i64 0, .int .i64 0, .int .i64 0] : Array Value)[o]?) := hg
  have HF : Hid (∀ o, wr.frozen? ⟨w.heap.size, o, none⟩ = false) := hf
  clear hb hno hle hg hf g0 f0 b0
  go_wp2_with (first
   | (at_next; refine wpList_next_ranges _ rfl _ rfl 65 law (plainElem Tryz.prog 3) mkP (Value.int .i64) invP invI mb (w.heap.size + 1) n _ _ _ rfl hrg ?_ ?_)
   | go_in)
  ·intro _ hl0
   have q0 := set3_0 HG.out; have q1 := set3_1 HG.out; have q2 := set3_2 HG.out; have g0 := HG.out 0; have g1 := HG.out 1; have g2 := HG.out 2; have f0 := HF.out 0; have f1 := HF.out 1; have f2 := HF.out 2
   simp at g0 g1 g2
   have HL0 : Hid (∀ kl, left kl = false) := hl0
   clear hl0 hrg; go_wp2
   (try simp only [Exit.inBlock, Exit.then])
   refine bodyPost_ret (by simp [results, Tryz.results31, go_sem, q0, q1, q2]; try rfl) rfl ?_; refine ⟨0, 0, 0, false, by simp, Or.inr ⟨rfl, rfl, rfl, rfl, fun k hk => ?_⟩, by have := HB.out; go_grown⟩
   rcases HNO.out k hk with h | h
   ·rw [HL0.out k] at h; cases h
   ·exact h
  ·intro x y z c kl v vp w1 cnt1 hkey hlx hv hat hrg1 hlt1 hg1 hs1 hen
   obtain ⟨x', y', z', e', hkl, wx, wy, wz⟩ := key_inv hkey; simp only [mkP, Value.agg.injEq, Array.mk.injEq, List.cons.injEq, Value.int.injEq, true_and, and_true] at e'; obtain ⟨rfl, rfl, rfl⟩ := e'; subst hkl; obtain ⟨c', ec, ev, wc⟩ := plainElem_int_inv Tryz.underlying3 hv
   cases ec
   cases ev
   simp only [mkP] at hen ⊢; have HB1 : Hid (Below w.heap.size w w1) := grown_new HB.out hg1 (by omega)
   have HG1 : Hid (∀ o, w1.cell? ⟨w.heap.size, o, none⟩ = (#[.int .i64 0, .int .i64 0, .int .i64 0] : Array Value)[o]?) := fun o => by
    have := hg1.block w.heap.size (by omega) (by simp); rw [← HG.out o]; simp only [World.cell?, this]
   have HF1 : Hid (∀ o, w1.frozen? ⟨w.heap.size, o, none⟩ = false) := fun o => by
    have := hg1.block w.heap.size (by omega) (by simp); rw [← HF.out o]; simp only [World.frozen?, this]
   have HAT : Hid (∀ zd, D.atKey (pk x y z) zd = .lit (.int .i64 c)) := hat
   have HLX : Hid (left (pk x y z) = true) := hlx; have HRG : Hid (wr.ranges Tryz.prog 65 (plainElem Tryz.prog 3) mb (w.heap.size + 1) n D left cnt) := hrg; have HRG1 : Hid (w1.ranges Tryz.prog 65 (plainElem Tryz.prog 3) mb (w.heap.size + 1) n D (fun z' => left z' && !z'.sameKey (pk x y z)) cnt1) := hrg1
   clear hat hlx hrg hrg1 hg1 hv hkey; have z1 : w.heap.size < w1.heap.size := by omega
   have HG2 : Hid (∀ o' o, (w1.alloc o').cell? ⟨w.heap.size, o, none⟩ = (#[.int .i64 0, .int .i64 0, .int .i64 0] : Array Value)[o]?) := fun o' o => (B.cell (B.new1 w1 o') _ o z1).trans (HG1.out o)
   have HF2 : Hid (∀ o' o, (w1.alloc o').frozen? ⟨w.heap.size, o, none⟩ = false) := fun o' o => (B.frozen (B.new1 w1 o') _ o z1).trans (HF1.out o)
   have g0 : ∀ o', (w1.alloc o').cell? ⟨w.heap.size, 0, none⟩ = some (.int .i64 0) := fun o' => HG2.out o' 0
   have g1 : ∀ o', (w1.alloc o').cell? ⟨w.heap.size, 1, none⟩ = some (.int .i64 0) := fun o' => HG2.out o' 1
   have g2 : ∀ o', (w1.alloc o').cell? ⟨w.heap.size, 2, none⟩ = some (.int .i64 0) := fun o' => HG2.out o' 2
   have f0 : ∀ o', (w1.alloc o').frozen? ⟨w.heap.size, 0, none⟩ = false := fun o' => HF2.out o' 0
   have f1 : ∀ o', (w1.alloc o').frozen? ⟨w.heap.size, 1, none⟩ = false := fun o' => HF2.out o' 1
   have f2 : ∀ o', (w1.alloc o').frozen? ⟨w.heap.size, 2, none⟩ = false := fun o' => HF2.out o' 2
   have q0 := fun o' => set3_0 (HG2.out o')
   have q1 := fun o' => set3_1 (HG2.out o')
   have q2 := fun o' => set3_2 (HG2.out o')
   by_cases hc : c = id
   ·subst hc
    go_wp2
    (try simp only [Exit.inBlock, Exit.then])
    refine bodyPost_ret (by simp [results, Tryz.results31, go_sem, q0, q1, q2]; try rfl) rfl ?_; exact ⟨x, y, z, true, by simp, Or.inl ⟨rfl, HLE.out _ HLX.out, HAT.out, wx, wy, wz⟩, by have := HB1.out; go_grown⟩
   ·have hc' : (c == id) = false := by simpa using hc
    have HC : Hid (c ≠ id) := hc; clear hc; go_wp2; refine ⟨⟨_, cnt1, World.ranges.alloc HRG1.out _, HB1.out.alloc (by omega) _, by simp; omega, fun o => HG2.out _ o, fun o => HF2.out _ o, fun k hk => ?_, fun k hk => ?_⟩, ?_⟩
    ·simp only [Bool.and_eq_true] at hk
     exact HLE.out k hk.1
    ·by_cases hkk : k = pk x y z
     ·subst hkk
      exact Or.inr fun c2 h2 e2 => HC.out (by have := (h2 (.lit (.int .i64 0))).symm.trans (HAT.out _); simp at this; omega)
     ·rcases HNO.out k hk with h | h
      ·exact Or.inl (by rw [h, sameKey_ne hkk]; rfl)
      ·exact Or.inr h
    ·rw [(World.ranges.alloc HRG1.out _).left_eq, HRG.out.left_eq]
     exact hlt1
def whereB (D : DataW Unit) (id : Int) : Prop := ∃ x y z, WhereP D id x y z true
theorem WhereP.iff {D : DataW Unit} {id x y z : Int} {b : Bool} (h : WhereP D id x y z b) : b = true ↔ whereB D id := by
 rcases h with ⟨rfl, h1, h2, h3⟩ | ⟨rfl, h0, h1, h2, h3⟩
 ·exact ⟨fun _ => ⟨x, y, z, Or.inl ⟨rfl, h1, h2, h3⟩⟩, fun _ => rfl⟩
 ·refine ⟨fun h => absurd h (by simp), fun ⟨x', y', z', h'⟩ => ?_⟩
  rcases h' with ⟨_, k1, k2, _⟩ | ⟨k, _⟩
  ·exact absurd rfl (h3 _ k1 _ k2)
  ·cases k
end Pl
namespace Pl
def spots : List (Int × Int × Int) := [(1, 0, 0), (1, 0, 1), (1, 1, 0), (1, 1, 1), (2, 0, 0), (2, 0, 1), (2, 1, 0), (2, 1, 1), (3, 0, 0), (3, 0, 1), (3, 1, 0), (3, 1, 1), (4, 0, 0), (4, 0, 1), (4, 1, 0), (4, 1, 1)]
def atB (D : DataW Unit) (id : Int) : Bool := spots.any fun p => carOf D p.1 p.2.1 p.2.2 == id
def hasB (s : St) (id : Int) : Bool := id != 0 && (atB s.D id || s.li == id || s.ba == id)
theorem spots_in : ∀ p ∈ spots, (1 ≤ p.1 ∧ p.1 ≤ 4) ∧ (0 ≤ p.2.1 ∧ p.2.1 ≤ 1) ∧ (0 ≤ p.2.2 ∧ p.2.2 ≤ 1) := by decide
theorem mem_spots {x y z : Int} : (x, y, z) ∈ spots ↔ (1 ≤ x ∧ x ≤ 4) ∧ (0 ≤ y ∧ y ≤ 1) ∧ (0 ≤ z ∧ z ≤ 1) := by
 refine ⟨fun h => spots_in _ h, fun ⟨h1, h2, h3⟩ => ?_⟩
 have hx : x = 1 ∨ x = 2 ∨ x = 3 ∨ x = 4 := by omega
 have hy : y = 0 ∨ y = 1 := by omega
 have hz : z = 0 ∨ z = 1 := by omega
 rcases hx with rfl | rfl | rfl | rfl <;> rcases hy with rfl | rfl <;> rcases hz with rfl | rfl <;> decide
theorem atB_iff {D : DataW Unit} {id : Int} : atB D id = true ↔ ∃ x y z, ((1 ≤ x ∧ x ≤ 4) ∧ (0 ≤ y ∧ y ≤ 1) ∧ (0 ≤ z ∧ z ≤ 1)) ∧ carOf D x y z = id := by
 simp only [atB, List.any_eq_true, beq_iff_eq]
 constructor
 ·rintro ⟨⟨x, y, z⟩, h, e⟩
  exact ⟨x, y, z, mem_spots.1 h, e⟩
 ·rintro ⟨x, y, z, h, e⟩
  exact ⟨(x, y, z), mem_spots.2 h, e⟩
theorem whereB_iff {lv : Int} {D : DataW Unit} (h : DOk lv D) (h4 : lv ≤ 4) {id : Int} (h0 : id ≠ 0) : whereB D id ↔ atB D id = true := by
 rw [atB_iff]
 constructor
 ·rintro ⟨x, y, z, h' | ⟨k, _⟩⟩
  ·obtain ⟨_, k1, k2, wx, wy, wz⟩ := h'
   have hc : carOf D x y z = id := carOf_of (k2 _); have := h.place h4 wx wy wz (by rw [hc]; exact h0); exact ⟨x, y, z, by omega, hc⟩
  ·cases k
 ·rintro ⟨x, y, z, hp, hc⟩
  have hh := (h.has_iff x y z).2 (by rw [hc]; exact h0); obtain ⟨_, _, _, _, _, _, _, c, hat, _⟩ := h.keys _ hh; have : c = id := by rw [← hc]; exact (carOf_of (hat _)).symm
  subst this; exact ⟨x, y, z, Or.inl ⟨rfl, hh, hat, wfI (by omega), wfI (by omega), wfI (by omega)⟩⟩
structure Inv (s : St) : Prop where
 ok : Ok s
 pe : 0 ≤ s.pe ∧ s.pe ≤ 9
 st : 0 ≤ s.st ∧ s.st ≤ 5
 li : 0 ≤ s.li ∧ s.li ≤ 999
 ba : 0 ≤ s.ba ∧ s.ba ≤ 999
 D : DOk s.lv s.D
theorem Inv.wf {s : St} (h : Inv s) : (Lit.int .i64 s.li).wf = true := wfI (by have := h.li; omega)
set_option maxHeartbeats 1000000 in
theorem has_any (pb mb n : Nat) (s : St) (id : Int) (w : World) (hp : IsP w pb mb n s) (iv : Inv s) :
  Calls Tryz.prog 56 #[.pointer (some ⟨pb, 0, none⟩), .int .i64 id] w fun e w' => e = .returned (.bool (hasB s id)) ∧ Below w.heap.size w w' := by
 by_cases h0 : id = 0
 ·have K : Hid (hasB s id = false) := by show _ = _; simp [hasB, h0]
  rw [K.out]; clear K; subst h0; clear hp iv
  go_enter Tryz.func56, Tryz.ntmps56
  go_wp2; go_returns; exact ⟨rfl, Below.refl _ _⟩
 ·have P : Hid (IsP w pb mb n s) := hp
  have HW := where_any pb mb n s id w hp
  have HI : Hid (∀ x y z b, WhereP s.D id x y z b → b = atB s.D id) := fun x y z b h => by
   have := h.iff.trans (whereB_iff iv.D iv.ok.lv4 h0)
   cases b <;> cases hk : atB s.D id <;> simp [hk] at this ⊢
  have HV : Hid (hasB s id = (atB s.D id || s.li == id || s.ba == id)) := by show _ = _; simp [hasB, h0]
  rw [HV.out]; have HW' : Hid (Calls _ _ _ _ _) := HW; generalize atB s.D id = q at HI ⊢; have c5 : ∀ w1, Below w.heap.size w w1 → ∀ o, (w1.alloc o).cell? ⟨pb, 5, none⟩ = some (.int .i64 s.li) := fun w1 hb o => ((P.out.below hb).below (B.new1 w1 o)).c5
  have c6 : ∀ w1, Below w.heap.size w w1 → ∀ o, (w1.alloc o).cell? ⟨pb, 6, none⟩ = some (.int .i64 s.ba) := fun w1 hb o => ((P.out.below hb).below (B.new1 w1 o)).c6
  have C5 : Hid (∀ w1, Below w.heap.size w w1 → ∀ o, (w1.alloc o).cell? ⟨pb, 5, none⟩ = some (.int .i64 s.li)) := c5
  have C6 : Hid (∀ w1, Below w.heap.size w w1 → ∀ o, (w1.alloc o).cell? ⟨pb, 6, none⟩ = some (.int .i64 s.ba)) := c6
  generalize s.li = li at C5 ⊢; generalize s.ba = ba at C6 ⊢; generalize s.D = D at HI HW'; clear hp iv HV HW P c5 c6
  go_enter Tryz.func56, Tryz.ntmps56
  go_wp2_with fail; refine HW'.out.mono ?_; rintro e w1 ⟨x, y, z, b, rfl, hw, hb⟩; have hq := HI.out _ _ _ _ hw; subst hq; have d5 := C5.out w1 hb; have d6 := C6.out w1 hb; have HB : Hid (Below w.heap.size w w1) := hb; clear hb hw HI HW' C5 C6
  cases b <;> cases k1 : (li == id) <;> cases k2 : (ba == id)
  all_goals
   go_wp2; go_returns; exact ⟨B.ret_bool (by simp [k1, k2]), HB.out.alloc HB.out.size _⟩
def arriveB (id : Int) (s : St) : Bool := decide (1 ≤ id ∧ id ≤ 999) && s.op && s.ba == 0 && !hasB s id
def arriveE (id : Int) (s : St) : Value := if 1 ≤ id ∧ id ≤ 999 then (if s.op = true ∧ s.ba = 0 then (if hasB s id = true then errV 6 else .nilIface) else errV 7) else errV 1
def arriveS (id : Int) (s : St) : St := if arriveB id s = true then { s with ba := id } else s
set_option maxHeartbeats 1000000 in
theorem arrive_any (pb mb n : Nat) (s : St) (id : Int) (w : World) (hp : IsP w pb mb n s) (iv : Inv s) :
  Calls Tryz.prog 25 #[.pointer (some ⟨pb, 0, none⟩), .int .i64 id] w fun e w' => e = .returned (arriveE id s) ∧ IsP w' pb mb n (arriveS id s) ∧ Turn pb mb w w' := by
 have HH : Hid (Calls Tryz.prog 56 #[.pointer (some ⟨pb, 0, none⟩), .int .i64 id] w fun e w' => e = .returned (.bool (hasB s id)) ∧ Below w.heap.size w w') := has_any pb mb n s id w hp iv
 have P : Hid (IsP w pb mb n s) := hp; have c3 := hp.c3; have c6 := hp.c6; have HP : Hid (∀ w1, Below w.heap.size w w1 → IsP w1 pb mb n s) := fun w1 hb => P.out.below hb
 by_cases hi : 1 ≤ id ∧ id ≤ 999
 ·by_cases hs : s.op = true ∧ s.ba = 0
  ·obtain ⟨h1, h2⟩ := hs
   cases hk : hasB s id with
   | true =>
     have E1 : Hid (arriveE id s = errV 6) := by show _ = _; simp [arriveE, hi, h1, h2, hk]
     have E2 : Hid (arriveS id s = s) := by show _ = _; simp [arriveS, arriveB, hk]
     rw [E1.out, E2.out, errV_ne (by decide)]; rw [hk] at HH; rw [h1] at c3; rw [h2] at c6; obtain ⟨i1, i2⟩ := hi; clear hp iv hk h1 h2 E1 E2
     go_enter Tryz.func25, Tryz.ntmps25
     go_wp2_with fail; refine HH.out.mono ?_; rintro e w1 ⟨rfl, hb⟩; have HB : Hid (Below w.heap.size w w1) := hb; clear hb; go_wp2; go_returns; exact ⟨rfl, HP.out _ HB.out, Turn.of_below HB.out⟩
   | false =>
     have E1 : Hid (arriveE id s = .nilIface) := by show _ = _; simp [arriveE, hi, h1, h2, hk]
     have E2 : Hid (arriveS id s = { s with ba := id }) := by show _ = _; simp [arriveS, arriveB, hi, h1, h2, hk]
     have HS : Hid (∀ w1, IsP w1 pb mb n s → IsP (w1.setCell ⟨pb, 6, none⟩ (.int .i64 id)) pb mb n { s with ba := id }) := fun w1 h => h.set 6 _ rfl rfl
     rw [E1.out, E2.out]; rw [hk] at HH; rw [h1] at c3; rw [h2] at c6; obtain ⟨i1, i2⟩ := hi; generalize ({ s with ba := id } : St) = s' at HS ⊢; clear hp iv hk h1 h2 E1 E2
     go_enter Tryz.func25, Tryz.ntmps25
     go_wp2_with fail; refine HH.out.mono ?_; rintro e w1 ⟨rfl, hb⟩; have d6 := (HP.out _ hb).c6; have f6 := (HP.out _ hb).free 6; have HB : Hid (Below w.heap.size w w1) := hb; clear hb c6; go_wp2; go_returns; exact ⟨rfl, HS.out _ (HP.out _ HB.out), (Turn.of_below HB.out).trans (Turn.set _ _ _)⟩
  ·have E1 : Hid (arriveE id s = errV 7) := by show _ = _; simp only [arriveE, hi, hs, and_self, if_true, if_false]
   have E2 : Hid (arriveS id s = s) := by
    show _ = _
    have : (s.op && s.ba == 0) = false := by cases h : s.op <;> simp [h] at hs ⊢; exact hs
    simp only [arriveS, arriveB, Bool.and_assoc]; rw [← Bool.and_assoc s.op, this]
    simp
   have HS : Hid (¬(s.op = true ∧ s.ba = 0)) := hs; rw [E1.out, E2.out, errV_ne (by decide)]; obtain ⟨i1, i2⟩ := hi; generalize s.op = op at c3 HS; generalize s.ba = ba at c6 HS; clear hp iv E1 E2 hs HH
   by_cases kb : ba = 0
   ·have ho : op = false := by have := HS.out; cases op <;> simp [kb] at this ⊢
    subst ho; subst kb
    go_enter Tryz.func25, Tryz.ntmps25
    go_wp2; go_returns; exact ⟨rfl, P.out, Turn.refl _ _ _⟩
   ·cases op <;> (
     go_enter Tryz.func25, Tryz.ntmps25
     go_wp2; go_returns; exact ⟨rfl, P.out, Turn.refl _ _ _⟩)
 ·have E1 : Hid (arriveE id s = errV 1) := by show _ = _; simp only [arriveE, hi, if_false]
  have E2 : Hid (arriveS id s = s) := by show _ = _; simp [arriveS, arriveB, hi]
  have HK : Hid (¬(1 ≤ id ∧ id ≤ 999)) := hi; rw [E1.out, E2.out, errV_ne (by decide)]; clear hp iv E1 E2 hi HH c3 c6
  go_enter Tryz.func25, Tryz.ntmps25
  go_wp2_with fail
  all_goals first
   | (exfalso; go_light; have := HK.out; omega)
   | (go_returns; exact ⟨rfl, P.out, Turn.refl _ _ _⟩)
end Pl
end Go.Proofs.YtopgllmjeliklaaGreatDoor
namespace Go.Proofs.YtopgllmjeliklaaGreatDoor
open Go.Shelf Go.Lib Go.ChangeShapes Go.WideShapes Go.ChangeAt Go.RowKit
namespace Bk
def noBook : Book := ⟨0, none, 0, none, 0, [], []⟩
end Bk
namespace Bk
def noJob (t : Int) (f : Bool) (k : Int) : Bool := !(t == k && f == false)
def jobsTo (jobs : List Job) (s : Stay) (p : Int × Int × Int) (q : Bool) : Nat → Bool
 | 0 => q
 | n + 1 => jobsTo jobs s p q n && (noJob jobs[n]!.t jobs[n]!.f s.t || !eqP s.x s.y 0 p.1 p.2.1 p.2.2)
def freeTo (b : Book) (p : Int × Int × Int) (q : Bool) : Nat → Bool
 | 0 => q
 | k + 1 => jobsTo b.jobs b.stays[k]! p (freeTo b p q k && !eqP b.stays[k]!.x b.stays[k]!.y b.stays[k]!.z p.1 p.2.1 p.2.2 && !eqP b.stays[k]!.x b.stays[k]!.y b.stays[k]!.z p.1 p.2.1 0) b.jobs.length
end Bk
namespace Bk
theorem rows_cell {α : Type} [Inhabited α] {W : World} {b off cap k : Nat} {enc : α → List Value} {zs : List α} (h : RowsAt W (some ⟨b, off, none⟩) cap k enc zs) (j : Nat) (hj : j < zs.length) (i : Nat) (v : Value) (hv : (enc zs[j]!)[i]? = some v) : W.cell? ⟨b, off + j * k + i, none⟩ = some v := by
 obtain ⟨_, _, hc⟩ := h; obtain ⟨b', off', e, _, hcell⟩ := hc (by omega)
 cases e
 exact hcell j hj i v hv
theorem rows_some {α : Type} [Inhabited α] {W : World} {a : Option Addr} {cap k : Nat} {enc : α → List Value} {zs : List α} (h : RowsAt W a cap k enc zs) (h0 : 0 < zs.length) : ∃ b off, a = some ⟨b, off, none⟩ := by
 obtain ⟨b, off, e, _⟩ := h.2.2 h0; exact ⟨b, off, e⟩
end Bk
namespace Bk
def stayIs (t c : Int) (s : Stay) : Bool := s.t == t || (t == 0 && s.id == c)
def stayO (b : Book) (t c : Int) : Option Stay := b.stays.find? (stayIs t c)
def stayA : Option Stay → Array Value
 | none => #[.int .i64 0, .int .i64 0, .int .i64 0, .int .i64 0, .int .i64 0, .int .i64 0, .int .i64 0, .int .i64 0]
 | some sv => #[.int .i64 sv.t, .int .i64 sv.id, .int .i64 sv.a, .int .i64 sv.b, .int .i64 sv.c, .int .i64 sv.x, .int .i64 sv.y, .int .i64 sv.z]
theorem find_upto {p : Stay → Bool} : ∀ (l : List Stay) (k : Nat), k < l.length → (∀ i, i < k → p l[i]! = false) → p l[k]! = true → l.find? p = some l[k]!
 | [], k, h, _, _ => by simp at h
 | x :: l, 0, _, _, h => by
   have h' : p x = true := h
   simp [List.find?, h']
 | x :: l, k + 1, hk, hn, h => by
   have h0 : p x = false := hn 0 (Nat.succ_pos _); have := find_upto (p := p) l k (by simpa using hk) (fun i hi => by have := hn (i + 1) (by omega); simpa using this) (by simpa using h)
   simp [List.find?, h0, this]
theorem find_not {p : Stay → Bool} (l : List Stay) (hn : ∀ i, i < l.length → p l[i]! = false) : l.find? p = none := by
 rw [List.find?_eq_none]
 intro x hx
 obtain ⟨i, hi, rfl⟩ := List.getElem_of_mem hx; have := hn i hi; rw [getElem!_pos l i hi] at this
 simp [this]
def StayOfPost (b : Book) (t c : Int) (w : World) (e : Ending) (w' : World) : Prop :=
 e = .returned (.tuple #[.agg (stayA (stayO b t c)), .bool (stayO b t c).isSome]) ∧ Below w.heap.size w w'
-- left out: this seat has not what it speaks of
end Bk
end Go.Proofs.YtopgllmjeliklaaGreatDoor
namespace Go.Proofs.YtopgllmjeliklaaGreatDoor
open Go.ChangeShapes Go.WideShapes Go.ChangeAt Go.RowKit Go.Maps
namespace Pl
theorem endB_in {lv h ex : Int} (k : endB lv h ex = true) : (1 ≤ endX lv h ex ∧ endX lv h ex ≤ lv) ∧ (0 ≤ endY lv h ex ∧ endY lv h ex ≤ 1) ∧ (0 ≤ endZ lv h ex ∧ endZ lv h ex ≤ 1) := by
 simp only [endX, endY, endZ, k, if_true]; simp only [endB, placeB, Bool.and_eq_true, decide_eq_true_eq] at k; obtain ⟨_, k⟩ := k
 by_cases h0 : ex < 0 <;> simp only [h0, if_true, if_false] at k ⊢ <;> omega
theorem Inv.new {lv : Int} (h1 : 1 ≤ lv) (h4 : lv ≤ 4) : Inv (newS lv) := by
 refine ⟨⟨h1, h4, ?_, ?_, ?_, ?_⟩, ?_, ?_, ?_, ?_, DOk.empty _⟩ <;> simp only [newS] <;> omega
theorem Inv.hurt {s : St} (h : Inv s) (b : Bool) : Inv { s with hu := b } := ⟨⟨h.ok.lv1, h.ok.lv4, h.ok.h0, h.ok.h12, h.ok.e0, h.ok.e2⟩, h.pe, h.st, h.li, h.ba, h.D⟩
theorem Inv.raise {s : St} (h : Inv s) (b : Int) : Inv (raiseS b s) := by
 have h1 := h.ok.lv1; have h4 := h.ok.lv4; have h0 := h.ok.h0; have h12 := h.ok.h12; exact ⟨⟨h1, h4, by simp only [raiseS]; omega, by simp only [raiseS]; omega, h.ok.e0, h.ok.e2⟩, h.pe, h.st, h.li, h.ba, h.D⟩
theorem Inv.slide {s : St} (h : Inv s) (b : Int) : Inv (slideS b s) := by
 unfold slideS
 split
 ·rename_i k
  exact ⟨⟨h.ok.lv1, h.ok.lv4, h.ok.h0, h.ok.h12, k.1, k.2⟩, h.pe, h.st, h.li, h.ba, h.D⟩
 ·exact h
theorem Inv.grab {s : St} (h : Inv s) : Inv (grabS s) := by
 unfold grabS
 split
 ·exact ⟨⟨h.ok.lv1, h.ok.lv4, h.ok.h0, h.ok.h12, h.ok.e0, h.ok.e2⟩, h.pe, h.st, h.D.car _ _ _, h.ba, h.D.del _⟩
 ·exact h
theorem Inv.put {s : St} (h : Inv s) : Inv (putS s) := by
 unfold putS
 split
 ·rename_i k
  simp only [putB, Bool.and_eq_true, bne_iff_ne, ne_eq] at k; obtain ⟨p1, p2, p3⟩ := endB_in k.1.1; have hl := h.li; have k2 := k.1.2; exact ⟨⟨h.ok.lv1, h.ok.lv4, h.ok.h0, h.ok.h12, h.ok.e0, h.ok.e2⟩, h.pe, h.st, by simp, h.ba, h.D.put p1 p2 p3 (by omega)⟩
 ·exact h
theorem Inv.open {s : St} (h : Inv s) : Inv (openS s) := ⟨⟨h.ok.lv1, h.ok.lv4, h.ok.h0, h.ok.h12, h.ok.e0, h.ok.e2⟩, h.pe, h.st, h.li, h.ba, h.D⟩
theorem Inv.shut {s : St} (h : Inv s) : Inv (shutS s) := ⟨⟨h.ok.lv1, h.ok.lv4, h.ok.h0, h.ok.h12, h.ok.e0, h.ok.e2⟩, h.pe, h.st, h.li, h.ba, h.D⟩
theorem Inv.takeIn {s : St} (h : Inv s) : Inv (takeInS s) := by
 unfold takeInS
 split
 ·exact ⟨⟨h.ok.lv1, h.ok.lv4, h.ok.h0, h.ok.h12, h.ok.e0, h.ok.e2⟩, h.pe, h.st, h.ba, by simp, h.D⟩
 ·exact h.hurt _
theorem Inv.giveOut {s : St} (h : Inv s) : Inv (giveOutS s) := by
 unfold giveOutS
 split
 ·exact ⟨⟨h.ok.lv1, h.ok.lv4, h.ok.h0, h.ok.h12, h.ok.e0, h.ok.e2⟩, h.pe, h.st, by simp, h.li, h.D⟩
 ·exact h.hurt _
theorem Inv.do {s : St} (h : Inv s) (c : Int) : Inv (doS c s) := by
 unfold doS
 split; · exact h.raise 1
 split; · exact h.raise (-1)
 split; · exact h.slide (-1)
 split; · exact h.slide 1
 split; · exact h.grab
 split; · exact h.put
 split; · exact h.open
 split; · exact h.shut
 split; · exact h.takeIn
 split; · exact h.giveOut
 exact h
theorem Inv.step {s : St} (h : Inv s) (c : Int) : Inv (stepS c s) := by
 unfold stepS
 split
 ·rename_i k
  have := h.st; exact ⟨⟨h.ok.lv1, h.ok.lv4, h.ok.h0, h.ok.h12, h.ok.e0, h.ok.e2⟩, h.pe, by simp only; omega, h.li, h.ba, h.D⟩
 ·exact h.do c
theorem Inv.walk {s : St} (h : Inv s) (k : Int) : Inv (walkS k s) := by
 unfold walkS
 split
 ·exact ⟨⟨h.ok.lv1, h.ok.lv4, h.ok.h0, h.ok.h12, h.ok.e0, h.ok.e2⟩, by simp only; omega, h.st, h.li, h.ba, h.D⟩
 ·exact h
theorem Inv.arrive {s : St} (h : Inv s) (id : Int) : Inv (arriveS id s) := by
 unfold arriveS
 split
 ·rename_i k
  simp only [arriveB, Bool.and_eq_true, decide_eq_true_eq] at k; exact ⟨⟨h.ok.lv1, h.ok.lv4, h.ok.h0, h.ok.h12, h.ok.e0, h.ok.e2⟩, h.pe, h.st, h.li, by simp only; omega, h.D⟩
 ·exact h
theorem Inv.leave {s : St} (h : Inv s) : Inv (leaveS s) := by
 unfold leaveS
 split
 ·exact ⟨⟨h.ok.lv1, h.ok.lv4, h.ok.h0, h.ok.h12, h.ok.e0, h.ok.e2⟩, h.pe, h.st, h.li, by simp, h.D⟩
 ·exact h
theorem Inv.stall {s : St} (h : Inv s) (k : Int) : Inv (stallS k s) := by
 unfold stallS
 split
 ·exact ⟨⟨h.ok.lv1, h.ok.lv4, h.ok.h0, h.ok.h12, h.ok.e0, h.ok.e2⟩, h.pe, by simp only; omega, h.li, h.ba, h.D⟩
 ·exact h
end Pl
end Go.Proofs.YtopgllmjeliklaaGreatDoor
