/- One act on a machine and on the document's machine: both answer alike, and become alike (B3, B4); contract of the statement's own function. -/
import Derived.Test.YtihapeagjikiaaaJRefPlantI
import Derived.Test.YtihapeagjikiaaaJRefSlots
import Derived.Test.YtihapeagjikiaaaJRefPlantF
namespace Go.Proofs.Ytihapeagjikiaaa
open Go.ChangeShapes Go.WideShapes Go.ChangeAt Go.RowKit Go.Maps
set_option maxRecDepth 100000
set_option linter.unusedSimpArgs false
set_option linter.unusedVariables false

namespace Pl
open Ac
set_option maxHeartbeats 1000000 in
theorem rarrive_any (rb : Nat) (s : St) (id : Int) (w : World) (hr : IsR w rb s) (iv : Inv s) :
    Calls Try.prog 87 #[.pointer (some ⟨rb, 0, none⟩), .int .i64 id] w fun e w' => e = .returned (.int .i64 (arriveN id s)) ∧ IsR w' rb (arriveS id s) ∧ Turn rb rb w w' := by
  have c3 : w.cell? ⟨rb, 3, none⟩ = some (.bool s.op) := hr.cell 3
  have c6 : w.cell? ⟨rb, 6, none⟩ = some (.int .i64 s.ba) := hr.cell 6
  have P : Hid (IsR w rb s) := hr
  by_cases hid : 1 ≤ id ∧ id ≤ 999
  · obtain ⟨h1, h2⟩ := hid
    have HH : Hid (Calls Try.prog 111 #[.pointer (some ⟨rb, 0, none⟩), .int .i64 id] w fun e w' => e = .returned (.bool (hasB s id)) ∧ Below w.heap.size w w') := rhas_any rb s id w hr (by omega)
    cases ho : s.op with
    | false =>
      have K : Hid (arriveN id s = 7 ∧ arriveS id s = s) := by show _ ∧ _; simp [arriveN, arriveS, arriveB, ho, h1, h2]
      rw [K.out.1, K.out.2]
      rw [ho] at c3
      generalize s.ba = ba at *
      clear hr iv ho K HH
      go_enter Try.func87, Try.ntmps87
      go_wp2
      all_goals (go_returns; exact ⟨rfl, P.out, Turn.refl _ _ _⟩)
    | true =>
      rw [ho] at c3
      by_cases hb : s.ba = 0
      · rw [hb] at c6
        cases hq : hasB s id with
        | false =>
          have K : Hid (arriveN id s = 0 ∧ arriveS id s = { s with ba := id }) := by show _ ∧ _; simp [arriveN, arriveS, arriveB, ho, h1, h2, hb, hq]
          rw [K.out.1, K.out.2]
          rw [hq] at HH
          have HS : Hid (∀ w1, Below w.heap.size w w1 → IsR (w1.setCell ⟨rb, 6, none⟩ (.int .i64 id)) rb { s with ba := id }) := fun w1 hb => (P.out.below hb).sba id
          have HC : Hid (∀ w1, Below w.heap.size w w1 → w1.cell? ⟨rb, 6, none⟩ = some (.int .i64 s.ba) ∧ w1.frozen? ⟨rb, 6, none⟩ = false) := fun w1 hb => ⟨(P.out.below hb).cell 6, (P.out.below hb).free 6⟩
          generalize ({ s with ba := id } : St) = s2 at *
          generalize s.ba = ba at HC
          clear hr iv ho hb hq K
          go_enter Try.func87, Try.ntmps87
          go_wp2_with fail
          refine HH.out.mono ?_
          rintro e w1 ⟨rfl, b1⟩
          have B1 : Hid (Below w.heap.size w w1) := b1
          obtain ⟨d6, g6⟩ := HC.out w1 b1
          clear b1 c3 c6 HC HH
          go_wp2
          go_returns
          exact ⟨rfl, HS.out _ B1.out, (Turn.of_below B1.out).thenSet _ _⟩
        | true =>
          have K : Hid (arriveN id s = 6 ∧ arriveS id s = s) := by show _ ∧ _; simp [arriveN, arriveS, arriveB, ho, h1, h2, hb, hq]
          rw [K.out.1, K.out.2]
          rw [hq] at HH
          clear hr iv ho hb hq K
          go_enter Try.func87, Try.ntmps87
          go_wp2_with fail
          refine HH.out.mono ?_
          rintro e w1 ⟨rfl, b1⟩
          have B1 : Hid (Below w.heap.size w w1) := b1
          clear b1 c3 c6 HH
          go_wp2
          go_returns
          exact ⟨rfl, P.out.below B1.out, Turn.of_below B1.out⟩
      · have K : Hid (arriveN id s = 7 ∧ arriveS id s = s) := by show _ ∧ _; simp [arriveN, arriveS, arriveB, ho, h1, h2, hb]
        rw [K.out.1, K.out.2]
        have hb' : (s.ba == 0) = false := by simpa using hb
        generalize s.ba = ba at *
        clear hr iv ho K HH hb
        go_enter Try.func87, Try.ntmps87
        go_wp2
        all_goals (go_returns; exact ⟨rfl, P.out, Turn.refl _ _ _⟩)
  · have HN : Hid (¬ (1 ≤ id ∧ id ≤ 999)) := hid
    have K : Hid (arriveN id s = 1 ∧ arriveS id s = s) := by show _ ∧ _; simp [arriveN, arriveS, arriveB, hid]
    rw [K.out.1, K.out.2]
    clear hr iv K hid c3 c6
    go_enter Try.func87, Try.ntmps87
    go_wp2
    all_goals first
      | (exfalso; go_light; have := HN.out; omega)
      | (go_returns; exact ⟨rfl, P.out, Turn.refl _ _ _⟩)

/-! ### both machines -/
/-- Nothing has turned but the two machines' own blocks, and what is new. -/
structure Turn3 (pb mb rb : Nat) (w w' : World) : Prop where
  os : w'.os = w.os
  tape : w'.tape = w.tape
  output : w'.output = w.output
  size : w.heap.size ≤ w'.heap.size
  block : ∀ k, k < w.heap.size → k ≠ pb → k ≠ mb → k ≠ rb → w'.heap[k]? = w.heap[k]?
theorem Turn3.of_p {pb mb rb : Nat} {w w' : World} (h : Turn pb mb w w') : Turn3 pb mb rb w w' := ⟨h.os, h.tape, h.output, h.size, fun k hk h1 h2 _ => h.block k hk h1 h2⟩
theorem Turn3.of_r {pb mb rb : Nat} {w w' : World} (h : Turn rb rb w w') : Turn3 pb mb rb w w' := ⟨h.os, h.tape, h.output, h.size, fun k hk _ _ h3 => h.block k hk h3 h3⟩
theorem Turn3.of_below {pb mb rb : Nat} {w w' : World} (h : Below w.heap.size w w') : Turn3 pb mb rb w w' := .of_p (Turn.of_below h)
theorem Turn3.trans {pb mb rb : Nat} {a b c : World} (h : Turn3 pb mb rb a b) (k : Turn3 pb mb rb b c) : Turn3 pb mb rb a c :=
  ⟨k.os.trans h.os, k.tape.trans h.tape, k.output.trans h.output, Nat.le_trans h.size k.size, fun i hi h1 h2 h3 => (k.block i (Nat.lt_of_lt_of_le hi h.size) h1 h2 h3).trans (h.block i hi h1 h2 h3)⟩
theorem Turn3.new {N pb mb rb : Nat} {w w1 w2 : World} (h : Below N w w1) (t : Turn3 pb mb rb w1 w2) (h1 : N ≤ pb) (h2 : N ≤ mb) (h3 : N ≤ rb) (hN : N ≤ w1.heap.size) : Below N w w2 :=
  ⟨t.os.trans h.os, t.tape.trans h.tape, t.output.trans h.output, Nat.le_trans h.size t.size, fun k hk => (t.block k (by omega) (by omega) (by omega) (by omega)).trans (h.block k hk)⟩

/-- Both machines, and a block beside them. -/
structure Two (pb mb rb n : Nat) (w0 w : World) (sp sr : St) (N : Nat) (o : Obj) : Prop where
  p : IsP w pb mb n sp
  r : IsR w rb sr
  t : Turn3 pb mb rb w0 w
  b : w.heap[N]? = some o
theorem Two.ne {pb mb rb n : Nat} {w0 w : World} {sp sr : St} {N : Nat} {o : Obj} (h : Two pb mb rb n w0 w sp sr N o) : rb ≠ pb ∧ rb ≠ mb := by
  refine ⟨fun e => ?_, fun e => ?_⟩
  · have h1 := h.p.row
    have h2 : w.heap[rb]? = _ := h.r
    rw [e, h1] at h2
    simp [arr, rarr] at h2
  · obtain ⟨es, clock, hm, _⟩ := h.p.cars
    have h2 : w.heap[rb]? = _ := h.r
    rw [e, hm] at h2
    simp at h2
theorem Two.turn_p {pb mb rb n n' : Nat} {w0 w w' : World} {sp sp' sr : St} {N : Nat} {o : Obj} (h : Two pb mb rb n w0 w sp sr N o) (hN : N ≠ pb ∧ N ≠ mb ∧ N ≠ rb) (hp : IsP w' pb mb n' sp') (t : Turn pb mb w w') : Two pb mb rb n' w0 w' sp' sr N o := by
  obtain ⟨n1, n2⟩ := h.ne
  exact ⟨hp, (t.block rb h.r.lt n1 n2).trans h.r, h.t.trans (.of_p t), (t.block N (Array.getElem?_eq_some_iff.1 h.b).1 hN.1 hN.2.1).trans h.b⟩
theorem IsP.turn_r {w w' : World} {pb mb rb n : Nat} {s : St} (h : IsP w pb mb n s) (t : Turn rb rb w w') (h1 : pb ≠ rb) (h2 : mb ≠ rb) : IsP w' pb mb n s := by
  refine ⟨(t.block pb h.lt h1 h1).trans h.row, ?_⟩
  obtain ⟨es, clock, hm, r⟩ := h.cars
  exact ⟨es, clock, (t.block mb (Array.getElem?_eq_some_iff.1 hm).1 h2 h2).trans hm, r⟩
theorem Two.turn_r {pb mb rb n : Nat} {w0 w w' : World} {sp sr sr' : St} {N : Nat} {o : Obj} (h : Two pb mb rb n w0 w sp sr N o) (hN : N ≠ pb ∧ N ≠ mb ∧ N ≠ rb) (hr : IsR w' rb sr') (t : Turn rb rb w w') : Two pb mb rb n w0 w' sp sr' N o := by
  obtain ⟨n1, n2⟩ := h.ne
  exact ⟨h.p.turn_r t (Ne.symm n1) (Ne.symm n2), hr, h.t.trans (.of_r t), (t.block N (Array.getElem?_eq_some_iff.1 h.b).1 hN.2.2 hN.2.2).trans h.b⟩
theorem Two.cell {pb mb rb n : Nat} {w0 w : World} {sp sr : St} {N : Nat} {a : Array Value} {T : TypeId} (h : Two pb mb rb n w0 w sp sr N (.cells a T (0, 0))) (o : Nat) : w.cell? ⟨N, o, none⟩ = a[o]? := by simp [World.cell?, h.b]

theorem walkE_N (k : Int) (s : St) : walkE k s = errV (walkN k s) := by unfold walkE walkN; (repeat' split) <;> rfl
theorem arriveE_N (k : Int) (s : St) : arriveE k s = errV (arriveN k s) := by unfold arriveE arriveN; (repeat' split) <;> rfl
theorem stallE_N (k : Int) : stallE k = errV (if 0 ≤ k ∧ k ≤ 5 then 0 else 1) := by unfold stallE faultN; by_cases h : 0 ≤ k ∧ k ≤ 5 <;> simp [h]
theorem walkN_0 (k : Int) (s : St) : 0 ≤ walkN k s := by unfold walkN; (repeat' split) <;> omega
theorem arriveN_0 (k : Int) (s : St) : 0 ≤ arriveN k s := by unfold arriveN; (repeat' split) <;> omega

end Pl
end Go.Proofs.Ytihapeagjikiaaa

namespace Go.Proofs.Ytihapeagjikiaaa
open Go.ChangeShapes Go.WideShapes Go.ChangeAt Go.RowKit Go.Maps
set_option maxRecDepth 100000
set_option linter.unusedSimpArgs false
set_option linter.unusedVariables false

namespace Pl
open Ac
theorem Two.drew {pb mb rb n : Nat} {w0 w : World} {sp sr : St} {N : Nat} {o : Obj} (h : Two pb mb rb n w0 w sp sr N o) : Two pb mb rb n w0 w.drew sp sr N o :=
  ⟨h.p.drew, h.r.drew, h.t.trans (.of_below (Below.refl _ _).drew), (((Below.refl w.heap.size w).drew).block N (Array.getElem?_eq_some_iff.1 h.b).1).trans h.b⟩

set_option maxHeartbeats 4000000 in
theorem lout_any (pb mb rb n : Nat) (s : St) (x : ActC) (w : World) (hp : IsP w pb mb n s) (hr : IsR w rb s) (iv : Inv s) (hn : n < maxLen) :
    Calls Try.prog 49 #[.pointer (some ⟨pb, 0, none⟩), .pointer (some ⟨rb, 0, none⟩), .agg x.vals] w fun e w' => e = .returned (.bool true) ∧ IsP w' pb mb (n + 1) (outS x s) ∧ IsR w' rb (outS x s) ∧ Turn3 pb mb rb w w' := by
  unfold ActC.vals
  have hN : w.heap.size ≠ pb ∧ w.heap.size ≠ mb ∧ w.heap.size ≠ rb := ⟨by have := hp.lt; omega, by have := hp.ltm; omega, by have := hr.lt; omega⟩
  obtain ⟨w0, hw0⟩ : ∃ w0, w.alloc (.cells #[.string x.kind, .int .i64 x.a, .int .i64 x.b, .int .i64 x.c0, .int .i64 x.c1, .int .i64 x.c2, .int .i64 x.c3, .string x.s, .int .u64 x.k, .int .i64 x.last, .slice x.sa x.sl x.sc, .slice x.ja x.jl x.jc] 77 (0, 0)) = w0 := ⟨_, rfl⟩
  have T0 : Hid (Two pb mb rb n w w0 s s w.heap.size (.cells #[.string x.kind, .int .i64 x.a, .int .i64 x.b, .int .i64 x.c0, .int .i64 x.c1, .int .i64 x.c2, .int .i64 x.c3, .string x.s, .int .u64 x.k, .int .i64 x.last, .slice x.sa x.sl x.sc, .slice x.ja x.jl x.jc] 77 (0, 0))) := by
    show Two _ _ _ _ _ _ _ _ _ _
    rw [← hw0]
    exact ⟨hp.below (B.new1 _ _), hr.below (B.new1 _ _), .of_below (B.new1 _ _), Array.getElem?_push_size⟩
  have WP : Hid (∀ wx sr, Two pb mb rb n w wx s sr w.heap.size (.cells #[.string x.kind, .int .i64 x.a, .int .i64 x.b, .int .i64 x.c0, .int .i64 x.c1, .int .i64 x.c2, .int .i64 x.c3, .string x.s, .int .u64 x.k, .int .i64 x.last, .slice x.sa x.sl x.sc, .slice x.ja x.jl x.jc] 77 (0, 0)) → Calls Try.prog 84 #[.pointer (some ⟨pb, 0, none⟩), .int .i64 x.a] wx fun e w' => e = .returned (errV (walkN x.a s)) ∧ Two pb mb rb n w w' (walkS x.a s) sr w.heap.size (.cells #[.string x.kind, .int .i64 x.a, .int .i64 x.b, .int .i64 x.c0, .int .i64 x.c1, .int .i64 x.c2, .int .i64 x.c3, .string x.s, .int .u64 x.k, .int .i64 x.last, .slice x.sa x.sl x.sc, .slice x.ja x.jl x.jc] 77 (0, 0))) := fun wx sr h => by
    refine (walk_any pb mb n s x.a wx h.p iv.pe.1 iv.pe.2).mono ?_
    rintro e w1 ⟨rfl, p1, t1⟩
    exact ⟨by rw [walkE_N], h.turn_p hN p1 t1⟩
  have WR : Hid (∀ wx sp, Two pb mb rb n w wx sp s w.heap.size (.cells #[.string x.kind, .int .i64 x.a, .int .i64 x.b, .int .i64 x.c0, .int .i64 x.c1, .int .i64 x.c2, .int .i64 x.c3, .string x.s, .int .u64 x.k, .int .i64 x.last, .slice x.sa x.sl x.sc, .slice x.ja x.jl x.jc] 77 (0, 0)) → Calls Try.prog 85 #[.pointer (some ⟨rb, 0, none⟩), .int .i64 x.a] wx fun e w' => e = .returned (.int .i64 (walkN x.a s)) ∧ Two pb mb rb n w w' sp (walkS x.a s) w.heap.size (.cells #[.string x.kind, .int .i64 x.a, .int .i64 x.b, .int .i64 x.c0, .int .i64 x.c1, .int .i64 x.c2, .int .i64 x.c3, .string x.s, .int .u64 x.k, .int .i64 x.last, .slice x.sa x.sl x.sc, .slice x.ja x.jl x.jc] 77 (0, 0))) := fun wx sp h => by
    refine (rwalk_any rb s x.a wx h.r iv.pe.1 iv.pe.2).mono ?_
    rintro e w1 ⟨rfl, r1, t1⟩
    exact ⟨rfl, h.turn_r hN r1 t1⟩
  have AP : Hid (∀ wx sr, Two pb mb rb n w wx s sr w.heap.size (.cells #[.string x.kind, .int .i64 x.a, .int .i64 x.b, .int .i64 x.c0, .int .i64 x.c1, .int .i64 x.c2, .int .i64 x.c3, .string x.s, .int .u64 x.k, .int .i64 x.last, .slice x.sa x.sl x.sc, .slice x.ja x.jl x.jc] 77 (0, 0)) → Calls Try.prog 86 #[.pointer (some ⟨pb, 0, none⟩), .int .i64 x.a] wx fun e w' => e = .returned (errV (arriveN x.a s)) ∧ Two pb mb rb n w w' (arriveS x.a s) sr w.heap.size (.cells #[.string x.kind, .int .i64 x.a, .int .i64 x.b, .int .i64 x.c0, .int .i64 x.c1, .int .i64 x.c2, .int .i64 x.c3, .string x.s, .int .u64 x.k, .int .i64 x.last, .slice x.sa x.sl x.sc, .slice x.ja x.jl x.jc] 77 (0, 0))) := fun wx sr h => by
    refine (arrive_any pb mb n s x.a wx h.p iv).mono ?_
    rintro e w1 ⟨rfl, p1, t1⟩
    exact ⟨by rw [arriveE_N], h.turn_p hN p1 t1⟩
  have AR : Hid (∀ wx sp, Two pb mb rb n w wx sp s w.heap.size (.cells #[.string x.kind, .int .i64 x.a, .int .i64 x.b, .int .i64 x.c0, .int .i64 x.c1, .int .i64 x.c2, .int .i64 x.c3, .string x.s, .int .u64 x.k, .int .i64 x.last, .slice x.sa x.sl x.sc, .slice x.ja x.jl x.jc] 77 (0, 0)) → Calls Try.prog 87 #[.pointer (some ⟨rb, 0, none⟩), .int .i64 x.a] wx fun e w' => e = .returned (.int .i64 (arriveN x.a s)) ∧ Two pb mb rb n w w' sp (arriveS x.a s) w.heap.size (.cells #[.string x.kind, .int .i64 x.a, .int .i64 x.b, .int .i64 x.c0, .int .i64 x.c1, .int .i64 x.c2, .int .i64 x.c3, .string x.s, .int .u64 x.k, .int .i64 x.last, .slice x.sa x.sl x.sc, .slice x.ja x.jl x.jc] 77 (0, 0))) := fun wx sp h => by
    refine (rarrive_any rb s x.a wx h.r iv).mono ?_
    rintro e w1 ⟨rfl, r1, t1⟩
    exact ⟨rfl, h.turn_r hN r1 t1⟩
  have SP : Hid (∀ wx sr, Two pb mb rb n w wx s sr w.heap.size (.cells #[.string x.kind, .int .i64 x.a, .int .i64 x.b, .int .i64 x.c0, .int .i64 x.c1, .int .i64 x.c2, .int .i64 x.c3, .string x.s, .int .u64 x.k, .int .i64 x.last, .slice x.sa x.sl x.sc, .slice x.ja x.jl x.jc] 77 (0, 0)) → Calls Try.prog 90 #[.pointer (some ⟨pb, 0, none⟩), .int .i64 x.a] wx fun e w' => e = .returned (errV (if 0 ≤ x.a ∧ x.a ≤ 5 then 0 else 1)) ∧ Two pb mb rb n w w' (stallS x.a s) sr w.heap.size (.cells #[.string x.kind, .int .i64 x.a, .int .i64 x.b, .int .i64 x.c0, .int .i64 x.c1, .int .i64 x.c2, .int .i64 x.c3, .string x.s, .int .u64 x.k, .int .i64 x.last, .slice x.sa x.sl x.sc, .slice x.ja x.jl x.jc] 77 (0, 0))) := fun wx sr h => by
    refine (stall_any pb mb n s x.a wx h.p).mono ?_
    rintro e w1 ⟨rfl, p1, t1⟩
    exact ⟨by rw [stallE_N], h.turn_p hN p1 t1⟩
  have SR : Hid (∀ wx sp, Two pb mb rb n w wx sp s w.heap.size (.cells #[.string x.kind, .int .i64 x.a, .int .i64 x.b, .int .i64 x.c0, .int .i64 x.c1, .int .i64 x.c2, .int .i64 x.c3, .string x.s, .int .u64 x.k, .int .i64 x.last, .slice x.sa x.sl x.sc, .slice x.ja x.jl x.jc] 77 (0, 0)) → Calls Try.prog 91 #[.pointer (some ⟨rb, 0, none⟩), .int .i64 x.a] wx fun e w' => e = .returned (.int .i64 (if 0 ≤ x.a ∧ x.a ≤ 5 then 0 else 1)) ∧ Two pb mb rb n w w' sp (stallS x.a s) w.heap.size (.cells #[.string x.kind, .int .i64 x.a, .int .i64 x.b, .int .i64 x.c0, .int .i64 x.c1, .int .i64 x.c2, .int .i64 x.c3, .string x.s, .int .u64 x.k, .int .i64 x.last, .slice x.sa x.sl x.sc, .slice x.ja x.jl x.jc] 77 (0, 0))) := fun wx sp h => by
    refine (rstall_any rb s x.a wx h.r).mono ?_
    rintro e w1 ⟨rfl, r1, t1⟩
    exact ⟨rfl, h.turn_r hN r1 t1⟩
  have LP : Hid (∀ wx sr, Two pb mb rb n w wx s sr w.heap.size (.cells #[.string x.kind, .int .i64 x.a, .int .i64 x.b, .int .i64 x.c0, .int .i64 x.c1, .int .i64 x.c2, .int .i64 x.c3, .string x.s, .int .u64 x.k, .int .i64 x.last, .slice x.sa x.sl x.sc, .slice x.ja x.jl x.jc] 77 (0, 0)) → Calls Try.prog 88 #[.pointer (some ⟨pb, 0, none⟩)] wx fun e w' => e = .returned (.tuple #[.int .i64 (if leaveB s = true then s.ba else 0), errV (if leaveB s = true then 0 else 7)]) ∧ Two pb mb rb n w w' (leaveS s) sr w.heap.size (.cells #[.string x.kind, .int .i64 x.a, .int .i64 x.b, .int .i64 x.c0, .int .i64 x.c1, .int .i64 x.c2, .int .i64 x.c3, .string x.s, .int .u64 x.k, .int .i64 x.last, .slice x.sa x.sl x.sc, .slice x.ja x.jl x.jc] 77 (0, 0))) := fun wx sr h => by
    refine (leave_any pb mb n s wx h.p).mono ?_
    rintro e w1 ⟨rfl, p1, t1⟩
    exact ⟨by unfold leaveV; split <;> rfl, h.turn_p hN p1 t1⟩
  have LR : Hid (∀ wx sp, Two pb mb rb n w wx sp s w.heap.size (.cells #[.string x.kind, .int .i64 x.a, .int .i64 x.b, .int .i64 x.c0, .int .i64 x.c1, .int .i64 x.c2, .int .i64 x.c3, .string x.s, .int .u64 x.k, .int .i64 x.last, .slice x.sa x.sl x.sc, .slice x.ja x.jl x.jc] 77 (0, 0)) → Calls Try.prog 89 #[.pointer (some ⟨rb, 0, none⟩)] wx fun e w' => e = .returned (.tuple #[.int .i64 (if leaveB s = true then s.ba else 0), .int .i64 (if leaveB s = true then 0 else 7)]) ∧ Two pb mb rb n w w' sp (leaveS s) w.heap.size (.cells #[.string x.kind, .int .i64 x.a, .int .i64 x.b, .int .i64 x.c0, .int .i64 x.c1, .int .i64 x.c2, .int .i64 x.c3, .string x.s, .int .u64 x.k, .int .i64 x.last, .slice x.sa x.sl x.sc, .slice x.ja x.jl x.jc] 77 (0, 0))) := fun wx sp h => by
    refine (rleave_any rb s wx h.r).mono ?_
    rintro e w1 ⟨rfl, r1, t1⟩
    exact ⟨rfl, h.turn_r hN r1 t1⟩
  have PP : Hid (∀ wx sr c, Two pb mb rb n w wx s sr w.heap.size (.cells #[.string x.kind, .int .i64 x.a, .int .i64 x.b, .int .i64 x.c0, .int .i64 x.c1, .int .i64 x.c2, .int .i64 x.c3, .string x.s, .int .u64 x.k, .int .i64 x.last, .slice x.sa x.sl x.sc, .slice x.ja x.jl x.jc] 77 (0, 0)) → Calls Try.prog 82 #[.pointer (some ⟨pb, 0, none⟩), .int .u8 c] wx fun e w' => e = .returned (.tuple #[]) ∧ Two pb mb rb (n + 1) w w' (stepS c s) sr w.heap.size (.cells #[.string x.kind, .int .i64 x.a, .int .i64 x.b, .int .i64 x.c0, .int .i64 x.c1, .int .i64 x.c2, .int .i64 x.c3, .string x.s, .int .u64 x.k, .int .i64 x.last, .slice x.sa x.sl x.sc, .slice x.ja x.jl x.jc] 77 (0, 0))) := fun wx sr c h => by
    refine (step_any pb mb n s c wx h.p iv.ok hn iv.wf iv.st.2).mono ?_
    rintro e w1 ⟨rfl, p1, t1⟩
    exact ⟨rfl, h.turn_p hN p1 t1⟩
  have PR : Hid (∀ wx sp c, Two pb mb rb (n + 1) w wx sp s w.heap.size (.cells #[.string x.kind, .int .i64 x.a, .int .i64 x.b, .int .i64 x.c0, .int .i64 x.c1, .int .i64 x.c2, .int .i64 x.c3, .string x.s, .int .u64 x.k, .int .i64 x.last, .slice x.sa x.sl x.sc, .slice x.ja x.jl x.jc] 77 (0, 0)) → Calls Try.prog 83 #[.pointer (some ⟨rb, 0, none⟩), .int .u8 c] wx fun e w' => e = .returned (.tuple #[]) ∧ Two pb mb rb (n + 1) w w' sp (stepS c s) w.heap.size (.cells #[.string x.kind, .int .i64 x.a, .int .i64 x.b, .int .i64 x.c0, .int .i64 x.c1, .int .i64 x.c2, .int .i64 x.c3, .string x.s, .int .u64 x.k, .int .i64 x.last, .slice x.sa x.sl x.sc, .slice x.ja x.jl x.jc] 77 (0, 0))) := fun wx sp c h => by
    refine (rstep_any rb s c wx h.r iv).mono ?_
    rintro e w1 ⟨rfl, r1, t1⟩
    exact ⟨rfl, h.turn_r hN r1 t1⟩
  have SW : Hid (∀ wx, Calls Try.prog 18 #[errV (walkN x.a s), .int .i64 (walkN x.a s)] wx fun e w' => e = .returned (.bool true) ∧ w' = wx) := fun wx => same_any _ wx (walkN_0 _ _)
  have SA : Hid (∀ wx, Calls Try.prog 18 #[errV (arriveN x.a s), .int .i64 (arriveN x.a s)] wx fun e w' => e = .returned (.bool true) ∧ w' = wx) := fun wx => same_any _ wx (arriveN_0 _ _)
  have SS : Hid (∀ wx, Calls Try.prog 18 #[errV (if 0 ≤ x.a ∧ x.a ≤ 5 then 0 else 1), .int .i64 (if 0 ≤ x.a ∧ x.a ≤ 5 then 0 else 1)] wx fun e w' => e = .returned (.bool true) ∧ w' = wx) := fun wx => same_any _ wx (by split <;> omega)
  have SL : Hid (∀ wx, Calls Try.prog 18 #[errV (if leaveB s = true then 0 else 7), .int .i64 (if leaveB s = true then 0 else 7)] wx fun e w' => e = .returned (.bool true) ∧ w' = wx) := fun wx => same_any _ wx (by split <;> omega)
  generalize errV (walkN x.a s) = e1 at *
  generalize walkN x.a s = k1 at *
  generalize errV (arriveN x.a s) = e2 at *
  generalize arriveN x.a s = k2 at *
  generalize errV (if 0 ≤ x.a ∧ x.a ≤ 5 then 0 else 1) = e3 at *
  generalize (if 0 ≤ x.a ∧ x.a ≤ 5 then (0 : Int) else 1) = k3 at *
  generalize errV (if leaveB s = true then 0 else 7) = e4 at *
  generalize (if leaveB s = true then (0 : Int) else 7) = k4 at *
  generalize (if leaveB s = true then s.ba else 0) = k5 at *
  have bx := T0.out.cell
  clear hp hr iv hn
  go_enter Try.func49, Try.ntmps49
  go_wp2_with fail
  · rw [byte0_of]
    refine (PP.out _ _ _ T0.out).mono ?_
    rintro e w1 ⟨rfl, t1⟩
    have T1 : Hid (Two _ _ _ _ _ w1 _ _ _ _) := t1
    clear t1
    go_wp2_with fail
    refine (PR.out _ _ _ T1.out).mono ?_
    rintro e w2 ⟨rfl, t2⟩
    have T2 : Hid (Two _ _ _ _ _ w2 _ _ _ _) := t2
    clear t2
    go_wp2
    go_returns
    exact ⟨rfl, by rw [outS_step ‹_›]; exact T2.out.p, by rw [outS_step ‹_›]; exact T2.out.r, T2.out.t⟩
  · refine (PP.out _ _ _ T0.out).mono ?_
    rintro e w1 ⟨rfl, t1⟩
    have T1 : Hid (Two _ _ _ _ _ w1 _ _ _ _) := t1
    clear t1
    go_wp2_with fail
    refine (PR.out _ _ _ T1.out).mono ?_
    rintro e w2 ⟨rfl, t2⟩
    have T2 : Hid (Two _ _ _ _ _ w2 _ _ _ _) := t2
    clear t2
    go_wp2
    go_returns
    exact ⟨rfl, by rw [outS_step ‹_›, byte0_none ‹_›]; exact T2.out.p, by rw [outS_step ‹_›, byte0_none ‹_›]; exact T2.out.r, T2.out.t⟩
  · go_region_with (first
      | (go_at_call 84; refine (WP.out _ _ (by first | exact T1.out | exact T0.out.drew)).mono ?_; rintro e w1 ⟨rfl, t1⟩; have T1 : Hid (Two _ _ _ _ _ w1 _ _ _ _) := t1; have bx1 := t1.cell; clear t1)
      | (go_at_call 85; refine (WR.out _ _ (by first | exact T1.out | exact T0.out.drew)).mono ?_; rintro e w1 ⟨rfl, t1⟩; have T1 : Hid (Two _ _ _ _ _ w1 _ _ _ _) := t1; have bx1 := t1.cell; clear t1)
      | (go_at_call 18; refine ((SW.out _).mono ?_); rintro e w1 ⟨rfl, rfl⟩))
    all_goals go_wp2
    all_goals go_returns
    all_goals exact ⟨rfl, by rw [outS_walk ‹_› ‹_›]; exact T1.out.p.mono, by rw [outS_walk ‹_› ‹_›]; exact T1.out.r, T1.out.t⟩
  · go_region_with (first
      | (go_at_call 86; refine (AP.out _ _ (by first | exact T1.out | exact T0.out.drew)).mono ?_; rintro e w1 ⟨rfl, t1⟩; have T1 : Hid (Two _ _ _ _ _ w1 _ _ _ _) := t1; have bx1 := t1.cell; clear t1)
      | (go_at_call 87; refine (AR.out _ _ (by first | exact T1.out | exact T0.out.drew)).mono ?_; rintro e w1 ⟨rfl, t1⟩; have T1 : Hid (Two _ _ _ _ _ w1 _ _ _ _) := t1; have bx1 := t1.cell; clear t1)
      | (go_at_call 18; refine ((SA.out _).mono ?_); rintro e w1 ⟨rfl, rfl⟩))
    all_goals go_wp2
    all_goals go_returns
    all_goals exact ⟨rfl, by rw [outS_arrive ‹_› ‹_› ‹_›]; exact T1.out.p.mono, by rw [outS_arrive ‹_› ‹_› ‹_›]; exact T1.out.r, T1.out.t⟩
  · refine (LP.out _ _ T0.out).mono ?_
    rintro e w1 ⟨rfl, t1⟩
    have T1 : Hid (Two _ _ _ _ _ w1 _ _ _ _) := t1
    clear t1
    go_wp2_with fail
    refine (LR.out _ _ T1.out).mono ?_
    rintro e w2 ⟨rfl, t2⟩
    have T2 : Hid (Two _ _ _ _ _ w2 _ _ _ _) := t2
    clear t2
    go_wp2_with fail
    refine (SL.out _).mono ?_
    rintro e w3 ⟨rfl, rfl⟩
    go_wp2
    go_returns
    exact ⟨rfl, by rw [outS_leave ‹_› ‹_› ‹_› ‹_›]; exact T2.out.p.mono, by rw [outS_leave ‹_› ‹_› ‹_› ‹_›]; exact T2.out.r, T2.out.t⟩
  · go_region_with (first
      | (go_at_call 90; refine (SP.out _ _ (by first | exact T1.out | exact T0.out.drew)).mono ?_; rintro e w1 ⟨rfl, t1⟩; have T1 : Hid (Two _ _ _ _ _ w1 _ _ _ _) := t1; have bx1 := t1.cell; clear t1)
      | (go_at_call 91; refine (SR.out _ _ (by first | exact T1.out | exact T0.out.drew)).mono ?_; rintro e w1 ⟨rfl, t1⟩; have T1 : Hid (Two _ _ _ _ _ w1 _ _ _ _) := t1; have bx1 := t1.cell; clear t1)
      | (go_at_call 18; refine ((SS.out _).mono ?_); rintro e w1 ⟨rfl, rfl⟩))
    all_goals go_wp2
    all_goals go_returns
    all_goals exact ⟨rfl, by rw [outS_stall ‹_› ‹_› ‹_› ‹_› ‹_›]; exact T1.out.p.mono, by rw [outS_stall ‹_› ‹_› ‹_› ‹_› ‹_›]; exact T1.out.r, T1.out.t⟩
  · go_returns
    exact ⟨rfl, by rw [outS_else ‹_› ‹_› ‹_› ‹_› ‹_›]; exact T0.out.p.mono, by rw [outS_else ‹_› ‹_› ‹_› ‹_› ‹_›]; exact T0.out.r, T0.out.t⟩

end Pl
end Go.Proofs.Ytihapeagjikiaaa
