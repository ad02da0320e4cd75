/- Chapter 7: what the statement 'TopOver' asks besides: two stays that are the same. -/
import Derived.Test.YtaikbojdmfkbhaaGreatDoorBookPure
import Derived.Test.YtaikbojdmfkbhaaGreatDoorTopPickB
namespace Go.Proofs.YtaikbojdmfkbhaaGreatDoor
open Go.Shelf Go.Lib Go.ChangeShapes Go.WideShapes Go.ChangeAt Go.RowKit
set_option maxRecDepth 100000
set_option linter.unusedSimpArgs false
set_option linter.unusedVariables false

namespace Bk
theorem eqIn3 (T : TypeId) (d : Nat) (a b c : Int) (w : World) (hS : Tryz.prog.underlying T = some (.struct (Tryz.prog.fieldsOf T))) (hp : Tryz.prog.stoodInHeld T = false) (hc : Tryz.prog.fieldsOf T = Tryz.prog.fieldsOf 82 ∨ Tryz.prog.fieldsOf T = Tryz.prog.fieldsOf 40) :
    Sem.run Tryz.prog (Op.equalIn (d + 2) T (.agg #[.int .i64 a, .int .i64 b, .int .i64 c]) (.agg #[.int .i64 a, .int .i64 b, .int .i64 c])) w = .ok true w := by
  have u3 := Tryz.underlying3
  have a3 := Tryz.isAgg3
  have z3 := Tryz.sizeOf3
  rw [run_equalIn_agg w (d + 1) T _ _ hS hp]
  rcases hc with hc | hc
  · rw [hc]
    simp only [Program.fieldsOf, Tryz.underlying82]
    go_simp
  · rw [hc]
    simp only [Program.fieldsOf, Tryz.underlying40]
    go_simp
theorem neqStay_run (s : Stay) (w : World) : Sem.run Tryz.prog (binOp .neq 84 (.agg #[.int .i64 s.t, .int .i64 s.id, .int .i64 s.a, .int .i64 s.b, .int .i64 s.c, .int .i64 s.x, .int .i64 s.y, .int .i64 s.z]) (.agg #[.int .i64 s.t, .int .i64 s.id, .int .i64 s.a, .int .i64 s.b, .int .i64 s.c, .int .i64 s.x, .int .i64 s.y, .int .i64 s.z])) w = .ok (.bool false) w := by
  obtain ⟨t, id, a, b, c, x, y, z⟩ := s
  have u3 := Tryz.underlying3
  have a3 := Tryz.isAgg3
  have z3 := Tryz.sizeOf3
  have hS : Tryz.prog.underlying 84 = some (.struct (Tryz.prog.fieldsOf 84)) := by kernel_rfl
  have hp : Tryz.prog.stoodInHeld 84 = false := by kernel_rfl
  have hS2 : Tryz.prog.underlying 42 = some (.struct (Tryz.prog.fieldsOf 42)) := by kernel_rfl
  have hp2 : Tryz.prog.stoodInHeld 42 = false := by kernel_rfl
  have e1 : ∀ (d : Nat) (w : World), Sem.run Tryz.prog (Op.equalIn (d + 2) 40 (.agg #[.int .i64 a, .int .i64 b, .int .i64 c]) (.agg #[.int .i64 a, .int .i64 b, .int .i64 c])) w = .ok true w := fun d w => eqIn3 40 d a b c w (by kernel_rfl) (by kernel_rfl) (Or.inr rfl)
  have e2 : ∀ (d : Nat) (w : World), Sem.run Tryz.prog (Op.equalIn (d + 2) 82 (.agg #[.int .i64 x, .int .i64 y, .int .i64 z]) (.agg #[.int .i64 x, .int .i64 y, .int .i64 z])) w = .ok true w := fun d w => eqIn3 82 d x y z w (by kernel_rfl) (by kernel_rfl) (Or.inl rfl)
  have aC := Tryz.isAgg42
  have zC := Tryz.sizeOf42
  have aP := Tryz.isAgg82
  have zP := Tryz.sizeOf82
  have aZ := Tryz.isAgg40
  have zZ := Tryz.sizeOf40
  have e3 : Sem.run Tryz.prog (Op.equalIn 9999 42 (.agg #[.int .i64 id, .int .i64 a, .int .i64 b, .int .i64 c]) (.agg #[.int .i64 id, .int .i64 a, .int .i64 b, .int .i64 c])) w = .ok true w := by
    rw [show (9999 : Nat) = 9998 + 1 from rfl, run_equalIn_agg w 9998 42 _ _ hS2 hp2]
    simp only [Program.fieldsOf, Tryz.underlying42]
    have e1' : ∀ w, Sem.run Tryz.prog (Op.equalIn 9998 40 (.agg #[.int .i64 a, .int .i64 b, .int .i64 c]) (.agg #[.int .i64 a, .int .i64 b, .int .i64 c])) w = .ok true w := fun w => e1 9996 w
    clear e1 e2
    go_simp
  rw [run_neq_struct, show (10000 : Nat) = 9999 + 1 from rfl, run_equalIn_agg w 9999 84 _ _ hS hp]
  simp only [Program.fieldsOf, Tryz.underlying84]
  have e2' : ∀ w, Sem.run Tryz.prog (Op.equalIn 9999 82 (.agg #[.int .i64 x, .int .i64 y, .int .i64 z]) (.agg #[.int .i64 x, .int .i64 y, .int .i64 z])) w = .ok true w := fun w => e2 9997 w
  clear e1 e2 hS hp hS2 hp2
  go_simp
theorem guardStay_run (op : BinOp) (u v : Operand) (a b : Array Value) (w : World) : Sem.run Tryz.prog (eqGuard op 84 u v (.agg a) (.agg b)) w = .ok () w := run_eqGuard_agg w op 84 u v a b (by kernel_rfl)

theorem rows_cell {α : Type} [Inhabited α] {W : World} {b off cap k : Nat} {enc : α → List Value} {zs : List α} (h : RowsAt W (some ⟨b, off, none⟩) cap k enc zs) (j : Nat) (hj : j < zs.length) (i : Nat) (v : Value) (hv : (enc zs[j]!)[i]? = some v) : W.cell? ⟨b, off + j * k + i, none⟩ = some v := by
  obtain ⟨_, _, hc⟩ := h
  obtain ⟨b', off', e, _, hcell⟩ := hc (by omega)
  cases e
  exact hcell j hj i v hv
theorem rows_some {α : Type} [Inhabited α] {W : World} {a : Option Addr} {cap k : Nat} {enc : α → List Value} {zs : List α} (h : RowsAt W a cap k enc zs) (h0 : 0 < zs.length) : ∃ b off, a = some ⟨b, off, none⟩ := by
  obtain ⟨b, off, e, _⟩ := h.2.2 h0
  exact ⟨b, off, e⟩
theorem neqJJ_run (t k : Int) (f g : Bool) (w : World) : Sem.run Tryz.prog (binOp .neq 114 (.agg #[.int .i64 t, .bool f]) (.agg #[.int .i64 k, .bool g])) w = .ok (.bool (!(t == k && f == g))) w := by
  have u3 := Tryz.underlying3
  have a3 := Tryz.isAgg3
  have z3 := Tryz.sizeOf3
  have u4 := Tryz.underlying4
  have a4 := Tryz.isAgg4
  have z4 := Tryz.sizeOf4
  have hS : Tryz.prog.underlying 114 = some (.struct (Tryz.prog.fieldsOf 114)) := by kernel_rfl
  have hp : Tryz.prog.stoodInHeld 114 = false := by kernel_rfl
  rw [run_neq_struct, show (10000 : Nat) = 9999 + 1 from rfl, run_equalIn_agg w 9999 114 _ _ hS hp]
  simp only [Program.fieldsOf, Tryz.underlying114]
  go_simp
  by_cases h1 : t = k <;> by_cases h2 : f = g <;> simp [h1, h2]
theorem findI_filter (b : Book) (last : Int) (sx jx : Option Addr) (cx dx : Nat) (J : List Job) (kp : Stay → Bool) (hp : b.stays.Pairwise (fun a s => a.t < s.t ∧ clash s a = false)) (i : Nat) (hi : i < b.stays.length) (hk : kp b.stays[i] = true) :
    findI ⟨last, sx, cx, jx, dx, b.stays.filter kp, J⟩ b.stays[i].t = posOf kp b.stays i := by
  have h := filter_at kp b.stays i hi hk
  obtain ⟨hlt, he⟩ := List.getElem?_eq_some_iff.1 h
  have := findI_at ⟨last, sx, cx, jx, dx, b.stays.filter kp, J⟩ (posOf kp b.stays i) hlt (hp.filter _)
  simp only at this
  rw [he] at this
  exact this

end Bk
end Go.Proofs.YtaikbojdmfkbhaaGreatDoor
