/- Chapter 7: what a place that is free is, as the statement 'TopPick' reckons it; pure. -/
import Derived.Test.YtkgicpialdhnhaaDoorTopPick
namespace Go.Proofs.YtkgicpialdhnhaaDoor
open Go.Shelf Go.Lib Go.ChangeShapes Go.WideShapes Go.ChangeAt Go.RowKit
set_option maxRecDepth 100000
set_option linter.unusedSimpArgs false
set_option linter.unusedVariables false

namespace Bk
theorem neqP_run (a b c x y z : Int) (w : World) : Sem.run Tryd.prog (binOp .neq 45 (.agg #[.int .i64 a, .int .i64 b, .int .i64 c]) (.agg #[.int .i64 x, .int .i64 y, .int .i64 z])) w = .ok (.bool (!eqP a b c x y z)) w := by
  have u3 := Tryd.underlying3
  have a3 := Tryd.isAgg3
  have z3 := Tryd.sizeOf3
  have hS : Tryd.prog.underlying 45 = some (.struct (Tryd.prog.fieldsOf 45)) := by kernel_rfl
  have hp : Tryd.prog.stoodInHeld 45 = false := by kernel_rfl
  rw [run_neq_struct, show (10000 : Nat) = 9999 + 1 from rfl, run_equalIn_agg w 9999 45 _ _ hS hp]
  simp only [Program.fieldsOf, Tryd.underlying45]
  go_simp
  unfold eqP
  by_cases h1 : a = x <;> by_cases h2 : b = y <;> by_cases h3 : c = z <;> simp [h1, h2, h3]

/-- A job, by its two cells: it isn't the one that puts a ticket away. -/
def noJob (t : Int) (f : Bool) (k : Int) : Bool := !(t == k && f == false)
theorem neqJ_run (t k : Int) (f : Bool) (w : World) : Sem.run Tryd.prog (binOp .neq 54 (.agg #[.int .i64 t, .bool f]) (.agg #[.int .i64 k, .bool false])) w = .ok (.bool (noJob t f k)) w := by
  have u3 := Tryd.underlying3
  have a3 := Tryd.isAgg3
  have z3 := Tryd.sizeOf3
  have u4 := Tryd.underlying4
  have a4 := Tryd.isAgg4
  have z4 := Tryd.sizeOf4
  have hS : Tryd.prog.underlying 54 = some (.struct (Tryd.prog.fieldsOf 54)) := by kernel_rfl
  have hp : Tryd.prog.stoodInHeld 54 = false := by kernel_rfl
  rw [run_neq_struct, show (10000 : Nat) = 9999 + 1 from rfl, run_equalIn_agg w 9999 54 _ _ hS hp]
  simp only [Program.fieldsOf, Tryd.underlying54]
  go_simp
  unfold noJob
  by_cases h1 : t = k <;> cases f <;> simp [h1]
theorem neqJ_guard (t k : Int) (f : Bool) (op : BinOp) (u v : Operand) (w : World) : Sem.run Tryd.prog (eqGuard op 54 u v (.agg #[.int .i64 t, .bool f]) (.agg #[.int .i64 k, .bool false])) w = .ok () w := eqJob.2 op u v ⟨t, f⟩ ⟨k, false⟩ w

/-- Behind so many jobs. -/
def jobsTo (jobs : List Job) (s : Stay) (p : Int × Int × Int) (q : Bool) : Nat → Bool
  | 0 => q
  | n + 1 => jobsTo jobs s p q n && (noJob jobs[n]!.t jobs[n]!.f s.t || !eqP s.x s.y 0 p.1 p.2.1 p.2.2)
/-- Behind so many stays. -/
def freeTo (b : Book) (p : Int × Int × Int) (q : Bool) : Nat → Bool
  | 0 => q
  | k + 1 => jobsTo b.jobs b.stays[k]! p (freeTo b p q k && !eqP b.stays[k]!.x b.stays[k]!.y b.stays[k]!.z p.1 p.2.1 p.2.2 && !eqP b.stays[k]!.x b.stays[k]!.y b.stays[k]!.z p.1 p.2.1 0) b.jobs.length

theorem beq_sym (a b : Int) : (a == b) = (b == a) := by
  by_cases h : a = b
  · subst h; rfl
  · have h' : ¬ b = a := fun e => h e.symm
    rw [show (a == b) = false from by simpa using h, show (b == a) = false from by simpa using h']
theorem jobsTo_eq (jobs : List Job) (s : Stay) (p : Int × Int × Int) (q : Bool) : ∀ n, n ≤ jobs.length → jobsTo jobs s p q n = (q && !(eqP s.x s.y 0 p.1 p.2.1 p.2.2 && hasJob (jobs.take n) ⟨s.t, false⟩))
  | 0, _ => by simp [jobsTo, hasJob]
  | n + 1, h => by
    have ih := jobsTo_eq jobs s p q n (by omega)
    have hn : n < jobs.length := by omega
    unfold jobsTo
    rw [ih, List.take_succ_eq_append_getElem hn]
    have e : jobs[n]! = jobs[n] := getElem!_pos jobs n hn
    rw [e]
    generalize jobs[n] = j
    simp only [hasJob, List.any_append, List.any_cons, List.any_nil, Bool.or_false, noJob]
    generalize (jobs.take n).any _ = r
    have c1 : (s.t == j.t) = (j.t == s.t) := beq_sym _ _
    have c2 : (false == j.f) = (j.f == false) := by cases j.f <;> rfl
    rw [c1, c2]
    generalize (j.t == s.t) = r1
    generalize (j.f == false) = r2
    generalize eqP s.x s.y 0 p.1 p.2.1 p.2.2 = r3
    cases q <;> cases r <;> cases r1 <;> cases r2 <;> cases r3 <;> rfl

theorem freeTo_eq (b : Book) (p : Int × Int × Int) (q : Bool) : ∀ k, k ≤ b.stays.length → freeTo b p q k = (q && !(b.stays.take k).any (barP p.1 p.2.1 p.2.2 b.jobs))
  | 0, _ => by simp [freeTo]
  | k + 1, h => by
    have ih := freeTo_eq b p q k (by omega)
    have hk : k < b.stays.length := by omega
    unfold freeTo
    rw [ih, jobsTo_eq _ _ _ _ _ (Nat.le_refl _), List.take_length, List.take_succ_eq_append_getElem hk]
    have e : b.stays[k]! = b.stays[k] := getElem!_pos b.stays k hk
    rw [e]
    generalize b.stays[k] = s
    simp only [List.any_append, List.any_cons, List.any_nil, Bool.or_false, barP]
    generalize (b.stays.take k).any _ = r
    generalize eqP s.x s.y s.z p.1 p.2.1 p.2.2 = r1
    generalize eqP s.x s.y s.z p.1 p.2.1 0 = r2
    generalize eqP s.x s.y 0 p.1 p.2.1 p.2.2 = r3
    generalize hasJob b.jobs _ = r4
    cases q <;> cases r <;> cases r1 <;> cases r2 <;> cases r3 <;> cases r4 <;> rfl

theorem freeTo_ok (b : Book) (f : Nat → Int × Int × Int) (ca cb cc : Int) (p : Int × Int × Int) (j : Nat) (hj : (p.1 - 1).toNat = j) : freeTo b p (fitsB ca cb cc (f j).1 (f j).2.1 (f j).2.2) b.stays.length = okP b f ca cb cc p := by
  rw [freeTo_eq _ _ _ _ (Nat.le_refl _), List.take_length]
  unfold okP barredB
  rw [hj]

end Bk
end Go.Proofs.YtkgicpialdhnhaaDoor
