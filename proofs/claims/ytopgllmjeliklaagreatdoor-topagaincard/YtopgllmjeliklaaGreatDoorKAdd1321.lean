/- what this law wants besides. -/
import Derived.Test.YtopgllmjeliklaaGreatDoorKPlantK
namespace Go.Proofs.YtopgllmjeliklaaGreatDoor
open Go.Shelf Go.Lib Go.ChangeShapes Go.WideShapes Go.ChangeAt Go.RowKit
set_option maxRecDepth 100000
set_option linter.unusedSimpArgs false
set_option linter.unusedVariables false
namespace Bk
open Bk Pl
theorem eqIn3 (T : TypeId) (d : Nat) (a b c : Int) (w : World) (hS : Tryz.prog.underlying T = some (.struct (Tryz.prog.fieldsOf T))) (hp : Tryz.prog.stoodInHeld T = false) (hc : Tryz.prog.fieldsOf T = Tryz.prog.fieldsOf 65 ∨ Tryz.prog.fieldsOf T = Tryz.prog.fieldsOf 32) :
  Sem.run Tryz.prog (Op.equalIn (d + 2) T (.agg #[.int .i64 a, .int .i64 b, .int .i64 c]) (.agg #[.int .i64 a, .int .i64 b, .int .i64 c])) w = .ok true w := by
 have u3 := Tryz.underlying3; have a3 := Tryz.isAgg3; have z3 := Tryz.sizeOf3; rw [run_equalIn_agg w (d + 1) T _ _ hS hp]
 rcases hc with hc | hc
 ·rw [hc]
  simp only [Program.fieldsOf, Tryz.underlying65]
  go_simp
 ·rw [hc]
  simp only [Program.fieldsOf, Tryz.underlying32]
  go_simp
end Bk
namespace Bk
open Bk Pl
theorem neqStay_run (s : Stay) (w : World) : Sem.run Tryz.prog (binOp .neq 67 (.agg #[.int .i64 s.t, .int .i64 s.id, .int .i64 s.a, .int .i64 s.b, .int .i64 s.c, .int .i64 s.x, .int .i64 s.y, .int .i64 s.z]) (.agg #[.int .i64 s.t, .int .i64 s.id, .int .i64 s.a, .int .i64 s.b, .int .i64 s.c, .int .i64 s.x, .int .i64 s.y, .int .i64 s.z])) w = .ok (.bool false) w := by
 obtain ⟨t, id, a, b, c, x, y, z⟩ := s; have u3 := Tryz.underlying3; have a3 := Tryz.isAgg3; have z3 := Tryz.sizeOf3; have hS : Tryz.prog.underlying 67 = some (.struct (Tryz.prog.fieldsOf 67)) := by kernel_rfl
 have hp : Tryz.prog.stoodInHeld 67 = false := by kernel_rfl
 have hS2 : Tryz.prog.underlying 34 = some (.struct (Tryz.prog.fieldsOf 34)) := by kernel_rfl
 have hp2 : Tryz.prog.stoodInHeld 34 = false := by kernel_rfl
 have e1 : ∀ (d : Nat) (w : World), Sem.run Tryz.prog (Op.equalIn (d + 2) 32 (.agg #[.int .i64 a, .int .i64 b, .int .i64 c]) (.agg #[.int .i64 a, .int .i64 b, .int .i64 c])) w = .ok true w := fun d w => eqIn3 32 d a b c w (by kernel_rfl) (by kernel_rfl) (Or.inr rfl)
 have e2 : ∀ (d : Nat) (w : World), Sem.run Tryz.prog (Op.equalIn (d + 2) 65 (.agg #[.int .i64 x, .int .i64 y, .int .i64 z]) (.agg #[.int .i64 x, .int .i64 y, .int .i64 z])) w = .ok true w := fun d w => eqIn3 65 d x y z w (by kernel_rfl) (by kernel_rfl) (Or.inl rfl)
 have aC := Tryz.isAgg34; have zC := Tryz.sizeOf34; have aP := Tryz.isAgg65; have zP := Tryz.sizeOf65; have aZ := Tryz.isAgg32; have zZ := Tryz.sizeOf32
 have e3 : Sem.run Tryz.prog (Op.equalIn 9999 34 (.agg #[.int .i64 id, .int .i64 a, .int .i64 b, .int .i64 c]) (.agg #[.int .i64 id, .int .i64 a, .int .i64 b, .int .i64 c])) w = .ok true w := by
  rw [show (9999 : Nat) = 9998 + 1 from rfl, run_equalIn_agg w 9998 34 _ _ hS2 hp2]
  simp only [Program.fieldsOf, Tryz.underlying34]; have e1' : ∀ w, Sem.run Tryz.prog (Op.equalIn 9998 32 (.agg #[.int .i64 a, .int .i64 b, .int .i64 c]) (.agg #[.int .i64 a, .int .i64 b, .int .i64 c])) w = .ok true w := fun w => e1 9996 w
  clear e1 e2
  go_simp
 rw [run_neq_struct, show (10000 : Nat) = 9999 + 1 from rfl, run_equalIn_agg w 9999 67 _ _ hS hp]
 simp only [Program.fieldsOf, Tryz.underlying67]; have e2' : ∀ w, Sem.run Tryz.prog (Op.equalIn 9999 65 (.agg #[.int .i64 x, .int .i64 y, .int .i64 z]) (.agg #[.int .i64 x, .int .i64 y, .int .i64 z])) w = .ok true w := fun w => e2 9997 w
 clear e1 e2 hS hp hS2 hp2
 go_simp
end Bk
namespace Bk
open Bk Pl
theorem guardStay_run (op : BinOp) (u v : Operand) (a b : Array Value) (w : World) : Sem.run Tryz.prog (eqGuard op 67 u v (.agg a) (.agg b)) w = .ok () w := run_eqGuard_agg w op 67 u v a b (by kernel_rfl)
end Bk
namespace Bk
open Bk Pl
theorem neqJJ_run (t k : Int) (f g : Bool) (w : World) : Sem.run Tryz.prog (binOp .neq 88 (.agg #[.int .i64 t, .bool f]) (.agg #[.int .i64 k, .bool g])) w = .ok (.bool (!(t == k && f == g))) w := by
 have u3 := Tryz.underlying3; have a3 := Tryz.isAgg3; have z3 := Tryz.sizeOf3; have u4 := Tryz.underlying4; have a4 := Tryz.isAgg4; have z4 := Tryz.sizeOf4; have hS : Tryz.prog.underlying 88 = some (.struct (Tryz.prog.fieldsOf 88)) := by kernel_rfl
 have hp : Tryz.prog.stoodInHeld 88 = false := by kernel_rfl
 rw [run_neq_struct, show (10000 : Nat) = 9999 + 1 from rfl, run_equalIn_agg w 9999 88 _ _ hS hp]
 simp only [Program.fieldsOf, Tryz.underlying88]
 go_simp
 by_cases h1 : t = k <;> by_cases h2 : f = g <;> simp [h1, h2]
end Bk
end Go.Proofs.YtopgllmjeliklaaGreatDoor
