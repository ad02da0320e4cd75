/- Chapter 7: what the statement 'TopOver' asks besides: two stays that are the same. -/
import Derived.Test.YtkgicpialdhnhaaDoorBookPure
import Derived.Test.YtkgicpialdhnhaaDoorTopPickB
namespace Go.Proofs.YtkgicpialdhnhaaDoor
open Go.Shelf Go.Lib Go.ChangeShapes Go.WideShapes Go.ChangeAt Go.RowKit
set_option maxRecDepth 100000
set_option linter.unusedSimpArgs false
set_option linter.unusedVariables false

namespace Bk
theorem eqIn3 (T : TypeId) (d : Nat) (a b c : Int) (w : World) (hS : Tryd.prog.underlying T = some (.struct (Tryd.prog.fieldsOf T))) (hp : Tryd.prog.stoodInHeld T = false) (hc : Tryd.prog.fieldsOf T = Tryd.prog.fieldsOf 45 ∨ Tryd.prog.fieldsOf T = Tryd.prog.fieldsOf 41) :
    Sem.run Tryd.prog (Op.equalIn (d + 2) T (.agg #[.int .i64 a, .int .i64 b, .int .i64 c]) (.agg #[.int .i64 a, .int .i64 b, .int .i64 c])) w = .ok true w := by
  have u3 := Tryd.underlying3
  have a3 := Tryd.isAgg3
  have z3 := Tryd.sizeOf3
  rw [run_equalIn_agg w (d + 1) T _ _ hS hp]
  rcases hc with hc | hc
  · rw [hc]
    simp only [Program.fieldsOf, Tryd.underlying45]
    go_simp
  · rw [hc]
    simp only [Program.fieldsOf, Tryd.underlying41]
    go_simp
theorem neqStay_run (s : Stay) (w : World) : Sem.run Tryd.prog (binOp .neq 47 (.agg #[.int .i64 s.t, .int .i64 s.id, .int .i64 s.a, .int .i64 s.b, .int .i64 s.c, .int .i64 s.x, .int .i64 s.y, .int .i64 s.z]) (.agg #[.int .i64 s.t, .int .i64 s.id, .int .i64 s.a, .int .i64 s.b, .int .i64 s.c, .int .i64 s.x, .int .i64 s.y, .int .i64 s.z])) w = .ok (.bool false) w := by
  obtain ⟨t, id, a, b, c, x, y, z⟩ := s
  have u3 := Tryd.underlying3
  have a3 := Tryd.isAgg3
  have z3 := Tryd.sizeOf3
  have hS : Tryd.prog.underlying 47 = some (.struct (Tryd.prog.fieldsOf 47)) := by kernel_rfl
  have hp : Tryd.prog.stoodInHeld 47 = false := by kernel_rfl
  have hS2 : Tryd.prog.underlying 43 = some (.struct (Tryd.prog.fieldsOf 43)) := by kernel_rfl
  have hp2 : Tryd.prog.stoodInHeld 43 = false := by kernel_rfl
  have e1 : ∀ (d : Nat) (w : World), Sem.run Tryd.prog (Op.equalIn (d + 2) 41 (.agg #[.int .i64 a, .int .i64 b, .int .i64 c]) (.agg #[.int .i64 a, .int .i64 b, .int .i64 c])) w = .ok true w := fun d w => eqIn3 41 d a b c w (by kernel_rfl) (by kernel_rfl) (Or.inr rfl)
  have e2 : ∀ (d : Nat) (w : World), Sem.run Tryd.prog (Op.equalIn (d + 2) 45 (.agg #[.int .i64 x, .int .i64 y, .int .i64 z]) (.agg #[.int .i64 x, .int .i64 y, .int .i64 z])) w = .ok true w := fun d w => eqIn3 45 d x y z w (by kernel_rfl) (by kernel_rfl) (Or.inl rfl)
  have aC := Tryd.isAgg43
  have zC := Tryd.sizeOf43
  have aP := Tryd.isAgg45
  have zP := Tryd.sizeOf45
  have aZ := Tryd.isAgg41
  have zZ := Tryd.sizeOf41
  have e3 : Sem.run Tryd.prog (Op.equalIn 9999 43 (.agg #[.int .i64 id, .int .i64 a, .int .i64 b, .int .i64 c]) (.agg #[.int .i64 id, .int .i64 a, .int .i64 b, .int .i64 c])) w = .ok true w := by
    rw [show (9999 : Nat) = 9998 + 1 from rfl, run_equalIn_agg w 9998 43 _ _ hS2 hp2]
    simp only [Program.fieldsOf, Tryd.underlying43]
    have e1' : ∀ w, Sem.run Tryd.prog (Op.equalIn 9998 41 (.agg #[.int .i64 a, .int .i64 b, .int .i64 c]) (.agg #[.int .i64 a, .int .i64 b, .int .i64 c])) w = .ok true w := fun w => e1 9996 w
    clear e1 e2
    go_simp
  rw [run_neq_struct, show (10000 : Nat) = 9999 + 1 from rfl, run_equalIn_agg w 9999 47 _ _ hS hp]
  simp only [Program.fieldsOf, Tryd.underlying47]
  have e2' : ∀ w, Sem.run Tryd.prog (Op.equalIn 9999 45 (.agg #[.int .i64 x, .int .i64 y, .int .i64 z]) (.agg #[.int .i64 x, .int .i64 y, .int .i64 z])) w = .ok true w := fun w => e2 9997 w
  clear e1 e2 hS hp hS2 hp2
  go_simp
theorem guardStay_run (op : BinOp) (u v : Operand) (a b : Array Value) (w : World) : Sem.run Tryd.prog (eqGuard op 47 u v (.agg a) (.agg b)) w = .ok () w := run_eqGuard_agg w op 47 u v a b (by kernel_rfl)

theorem rows_cell {α : Type} [Inhabited α] {W : World} {b off cap k : Nat} {enc : α → List Value} {zs : List α} (h : RowsAt W (some ⟨b, off, none⟩) cap k enc zs) (j : Nat) (hj : j < zs.length) (i : Nat) (v : Value) (hv : (enc zs[j]!)[i]? = some v) : W.cell? ⟨b, off + j * k + i, none⟩ = some v := by
  obtain ⟨_, _, hc⟩ := h
  obtain ⟨b', off', e, _, hcell⟩ := hc (by omega)
  cases e
  exact hcell j hj i v hv
theorem rows_some {α : Type} [Inhabited α] {W : World} {a : Option Addr} {cap k : Nat} {enc : α → List Value} {zs : List α} (h : RowsAt W a cap k enc zs) (h0 : 0 < zs.length) : ∃ b off, a = some ⟨b, off, none⟩ := by
  obtain ⟨b, off, e, _⟩ := h.2.2 h0
  exact ⟨b, off, e⟩
theorem neqJJ_run (t k : Int) (f g : Bool) (w : World) : Sem.run Tryd.prog (binOp .neq 54 (.agg #[.int .i64 t, .bool f]) (.agg #[.int .i64 k, .bool g])) w = .ok (.bool (!(t == k && f == g))) w := by
  have u3 := Tryd.underlying3
  have a3 := Tryd.isAgg3
  have z3 := Tryd.sizeOf3
  have u4 := Tryd.underlying4
  have a4 := Tryd.isAgg4
  have z4 := Tryd.sizeOf4
  have hS : Tryd.prog.underlying 54 = some (.struct (Tryd.prog.fieldsOf 54)) := by kernel_rfl
  have hp : Tryd.prog.stoodInHeld 54 = false := by kernel_rfl
  rw [run_neq_struct, show (10000 : Nat) = 9999 + 1 from rfl, run_equalIn_agg w 9999 54 _ _ hS hp]
  simp only [Program.fieldsOf, Tryd.underlying54]
  go_simp
  by_cases h1 : t = k <;> by_cases h2 : f = g <;> simp [h1, h2]
theorem findI_filter (b : Book) (last : Int) (sx jx : Option Addr) (cx dx : Nat) (J : List Job) (kp : Stay → Bool) (hp : b.stays.Pairwise (fun a s => a.t < s.t ∧ clash s a = false)) (i : Nat) (hi : i < b.stays.length) (hk : kp b.stays[i] = true) :
    findI ⟨last, sx, cx, jx, dx, b.stays.filter kp, J⟩ b.stays[i].t = posOf kp b.stays i := by
  have h := filter_at kp b.stays i hi hk
  obtain ⟨hlt, he⟩ := List.getElem?_eq_some_iff.1 h
  have := findI_at ⟨last, sx, cx, jx, dx, b.stays.filter kp, J⟩ (posOf kp b.stays i) hlt (hp.filter _)
  simp only at this
  rw [he] at this
  exact this

end Bk
end Go.Proofs.YtkgicpialdhnhaaDoor
