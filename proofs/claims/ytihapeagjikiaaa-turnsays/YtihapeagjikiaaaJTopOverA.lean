/- Chapter 7: what the statement 'TopOver' asks besides: two stays that are the same. -/
import Derived.Test.YtihapeagjikiaaaJBookPure
import Derived.Test.YtihapeagjikiaaaJTopPickA
namespace Go.Proofs.Ytihapeagjikiaaa
open Go.Shelf Go.Lib Go.ChangeShapes Go.WideShapes Go.ChangeAt Go.RowKit
set_option maxRecDepth 100000
set_option linter.unusedSimpArgs false
set_option linter.unusedVariables false

namespace Bk
theorem eqIn3 (T : TypeId) (d : Nat) (a b c : Int) (w : World) (hS : Try.prog.underlying T = some (.struct (Try.prog.fieldsOf T))) (hp : Try.prog.stoodInHeld T = false) (hc : Try.prog.fieldsOf T = Try.prog.fieldsOf 38 ∨ Try.prog.fieldsOf T = Try.prog.fieldsOf 28) :
    Sem.run Try.prog (Op.equalIn (d + 2) T (.agg #[.int .i64 a, .int .i64 b, .int .i64 c]) (.agg #[.int .i64 a, .int .i64 b, .int .i64 c])) w = .ok true w := by
  have u3 := Try.underlying3
  have a3 := Try.isAgg3
  have z3 := Try.sizeOf3
  rw [run_equalIn_agg w (d + 1) T _ _ hS hp]
  rcases hc with hc | hc
  · rw [hc]
    simp only [Program.fieldsOf, Try.underlying38]
    go_simp
  · rw [hc]
    simp only [Program.fieldsOf, Try.underlying28]
    go_simp
theorem neqStay_run (s : Stay) (w : World) : Sem.run Try.prog (binOp .neq 62 (.agg #[.int .i64 s.t, .int .i64 s.id, .int .i64 s.a, .int .i64 s.b, .int .i64 s.c, .int .i64 s.x, .int .i64 s.y, .int .i64 s.z]) (.agg #[.int .i64 s.t, .int .i64 s.id, .int .i64 s.a, .int .i64 s.b, .int .i64 s.c, .int .i64 s.x, .int .i64 s.y, .int .i64 s.z])) w = .ok (.bool false) w := by
  obtain ⟨t, id, a, b, c, x, y, z⟩ := s
  have u3 := Try.underlying3
  have a3 := Try.isAgg3
  have z3 := Try.sizeOf3
  have hS : Try.prog.underlying 62 = some (.struct (Try.prog.fieldsOf 62)) := by kernel_rfl
  have hp : Try.prog.stoodInHeld 62 = false := by kernel_rfl
  have hS2 : Try.prog.underlying 30 = some (.struct (Try.prog.fieldsOf 30)) := by kernel_rfl
  have hp2 : Try.prog.stoodInHeld 30 = false := by kernel_rfl
  have e1 : ∀ (d : Nat) (w : World), Sem.run Try.prog (Op.equalIn (d + 2) 28 (.agg #[.int .i64 a, .int .i64 b, .int .i64 c]) (.agg #[.int .i64 a, .int .i64 b, .int .i64 c])) w = .ok true w := fun d w => eqIn3 28 d a b c w (by kernel_rfl) (by kernel_rfl) (Or.inr rfl)
  have e2 : ∀ (d : Nat) (w : World), Sem.run Try.prog (Op.equalIn (d + 2) 38 (.agg #[.int .i64 x, .int .i64 y, .int .i64 z]) (.agg #[.int .i64 x, .int .i64 y, .int .i64 z])) w = .ok true w := fun d w => eqIn3 38 d x y z w (by kernel_rfl) (by kernel_rfl) (Or.inl rfl)
  have aC := Try.isAgg30
  have zC := Try.sizeOf30
  have aP := Try.isAgg38
  have zP := Try.sizeOf38
  have aZ := Try.isAgg28
  have zZ := Try.sizeOf28
  have e3 : Sem.run Try.prog (Op.equalIn 9999 30 (.agg #[.int .i64 id, .int .i64 a, .int .i64 b, .int .i64 c]) (.agg #[.int .i64 id, .int .i64 a, .int .i64 b, .int .i64 c])) w = .ok true w := by
    rw [show (9999 : Nat) = 9998 + 1 from rfl, run_equalIn_agg w 9998 30 _ _ hS2 hp2]
    simp only [Program.fieldsOf, Try.underlying30]
    have e1' : ∀ w, Sem.run Try.prog (Op.equalIn 9998 28 (.agg #[.int .i64 a, .int .i64 b, .int .i64 c]) (.agg #[.int .i64 a, .int .i64 b, .int .i64 c])) w = .ok true w := fun w => e1 9996 w
    clear e1 e2
    go_simp
  rw [run_neq_struct, show (10000 : Nat) = 9999 + 1 from rfl, run_equalIn_agg w 9999 62 _ _ hS hp]
  simp only [Program.fieldsOf, Try.underlying62]
  have e2' : ∀ w, Sem.run Try.prog (Op.equalIn 9999 38 (.agg #[.int .i64 x, .int .i64 y, .int .i64 z]) (.agg #[.int .i64 x, .int .i64 y, .int .i64 z])) w = .ok true w := fun w => e2 9997 w
  clear e1 e2 hS hp hS2 hp2
  go_simp
theorem guardStay_run (op : BinOp) (u v : Operand) (a b : Array Value) (w : World) : Sem.run Try.prog (eqGuard op 62 u v (.agg a) (.agg b)) w = .ok () w := run_eqGuard_agg w op 62 u v a b (by kernel_rfl)

theorem rows_cell {α : Type} [Inhabited α] {W : World} {b off cap k : Nat} {enc : α → List Value} {zs : List α} (h : RowsAt W (some ⟨b, off, none⟩) cap k enc zs) (j : Nat) (hj : j < zs.length) (i : Nat) (v : Value) (hv : (enc zs[j]!)[i]? = some v) : W.cell? ⟨b, off + j * k + i, none⟩ = some v := by
  obtain ⟨_, _, hc⟩ := h
  obtain ⟨b', off', e, _, hcell⟩ := hc (by omega)
  cases e
  exact hcell j hj i v hv
theorem rows_some {α : Type} [Inhabited α] {W : World} {a : Option Addr} {cap k : Nat} {enc : α → List Value} {zs : List α} (h : RowsAt W a cap k enc zs) (h0 : 0 < zs.length) : ∃ b off, a = some ⟨b, off, none⟩ := by
  obtain ⟨b, off, e, _⟩ := h.2.2 h0
  exact ⟨b, off, e⟩
theorem neqJJ_run (t k : Int) (f g : Bool) (w : World) : Sem.run Try.prog (binOp .neq 32 (.agg #[.int .i64 t, .bool f]) (.agg #[.int .i64 k, .bool g])) w = .ok (.bool (!(t == k && f == g))) w := by
  have u3 := Try.underlying3
  have a3 := Try.isAgg3
  have z3 := Try.sizeOf3
  have u4 := Try.underlying4
  have a4 := Try.isAgg4
  have z4 := Try.sizeOf4
  have hS : Try.prog.underlying 32 = some (.struct (Try.prog.fieldsOf 32)) := by kernel_rfl
  have hp : Try.prog.stoodInHeld 32 = false := by kernel_rfl
  rw [run_neq_struct, show (10000 : Nat) = 9999 + 1 from rfl, run_equalIn_agg w 9999 32 _ _ hS hp]
  simp only [Program.fieldsOf, Try.underlying32]
  go_simp
  by_cases h1 : t = k <;> by_cases h2 : f = g <;> simp [h1, h2]
theorem findI_filter (b : Book) (last : Int) (sx jx : Option Addr) (cx dx : Nat) (J : List Job) (kp : Stay → Bool) (hp : b.stays.Pairwise (fun a s => a.t < s.t ∧ clash s a = false)) (i : Nat) (hi : i < b.stays.length) (hk : kp b.stays[i] = true) :
    findI ⟨last, sx, cx, jx, dx, b.stays.filter kp, J⟩ b.stays[i].t = posOf kp b.stays i := by
  have h := filter_at kp b.stays i hi hk
  obtain ⟨hlt, he⟩ := List.getElem?_eq_some_iff.1 h
  have := findI_at ⟨last, sx, cx, jx, dx, b.stays.filter kp, J⟩ (posOf kp b.stays i) hlt (hp.filter _)
  simp only at this
  rw [he] at this
  exact this

end Bk
end Go.Proofs.Ytihapeagjikiaaa

namespace Go.Proofs.Ytihapeagjikiaaa
open Go.Shelf Go.Lib Go.ChangeShapes Go.WideShapes Go.ChangeAt Go.RowKit
set_option maxRecDepth 100000
set_option linter.unusedSimpArgs false
set_option linter.unusedVariables false

namespace Bk
theorem blk_type {w : World} {g : Nat} {a a' : Array Value} {T T' : TypeId} (h : Blk w g a T) (h' : Blk w g a' T') : T = T' := by
  have h1 : w.heap[g]? = _ := h
  have h2 : w.heap[g]? = _ := h'
  rw [h1] at h2
  simp at h2
  exact h2.2
theorem own_ne {α : Type} [Inhabited α] {w : World} {b : Nat} {T T' : TypeId} {k : Nat} {enc : α → List Value} {v : Value} {l : List α} {n : Nat} {a : Array Value} (h : OwnAt w b T k enc v l) (hk : Blk w n a T') (hT : T ≠ T') : v.ownBlock ≠ some n := by
  intro e
  rcases h with ⟨rfl, _⟩ | ⟨g, cap, cur, rfl, hg, hb, _⟩
  · simp [Value.ownBlock] at e
  · simp [Value.ownBlock] at e
    subst e
    exact hT (blk_type hb hk)
theorem news_cells {w : World} {N : Nat} (h : N = w.heap.size) (news : List Value) (T : TypeId) : ∀ j u, news[j]? = some u → (w.alloc (.cells news.toArray T (0, 0))).cell? ((⟨N, 0, none⟩ : Addr).add j) = some u := by
  intro j u hu
  rw [add_none, Nat.zero_add, (Blk.new1 h _ _).cell]
  simpa using hu
theorem carN_pos {ci ca cb cc : Int} (h : carN ci ca cb cc ≠ 0) : 0 < carN ci ca cb cc := by
  unfold carN faultN at *
  split <;> simp_all
theorem any_upto {α : Type} [Inhabited α] (p : α → Bool) (l : List α) (i : Nat) (h : i < l.length) : (l.take (i + 1)).any p = ((l.take i).any p || p l[i]!) := by
  rw [List.take_succ_eq_append_getElem h, List.any_append, getElem!_pos l i h]
  simp

end Bk
end Go.Proofs.Ytihapeagjikiaaa
