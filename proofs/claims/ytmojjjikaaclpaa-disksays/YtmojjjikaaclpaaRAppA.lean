/- append, a list copied behind nil, and one more: as a run's equation and as a step of a region; for the laws. -/
import Derived.Test.YtmojjjikaaclpaaCopy
import Derived.Deep.AppendLies
import Derived.Laws.OwnMore
namespace Go.Proofs.Ytmojjjikaaclpaa
open Go.Shelf Go.Lib Go.ChangeShapes Go.WideShapes Go.ChangeAt Go.RowKit
set_option maxRecDepth 100000
set_option linter.unusedSimpArgs false
set_option linter.unusedVariables false

namespace Bk
section
variable {α : Type} [Inhabited α] {P : Program} {T e : TypeId} {i0 : TypeInfo} {z : Value} {k bytes : Nat} {enc : α → List Value}
/-- An append's run. -/
structure AppRun (P : Program) (t ty : TypeId) (v1 v2 : Value) (w : World) (v' : Value) (w' : World) : Prop where
  run : (Builtin.append_ #[t, t] ty #[v1, v2]).run P w = .ok v' w'
/-- What a run's equation gives to a step. -/
theorem step_of_run {ops : Array Oper} {o : Oper} {a : Act} {w : World} {K : Act → World → Prop} {Q : Exit → Act → World → Prop} {E : Prop}
    (hg : o.guard = none) (s x : Operand) (t : TypeId) (hop : o.op = Op.call { callee := Callee.builtin Builtin.append, args := #[s, x], argTypes := #[t, t] })
    (v1 v2 : Value) (h1 : a.eval s = v1) (h2 : a.eval x = v2) (v' : Value) (w' : World) (hr : AppRun P t o.type v1 v2 w v' w') (hK : K (a.put o.dst v') w') :
    if Region.wanted o (yielded ops a.tmps) = true then Oper.wp P o a w K Q else E := by
  have hw : Region.wanted o (yielded ops a.tmps) = true := by simp [Region.wanted, hg]
  rw [if_pos hw]
  have hrun := hr.run
  unfold Oper.wp
  simp [execOp, hop, resolve, invoke, builtin, h1, h2, hrun, Result.andThen]
  exact hK
/-- A list copied behind nil. -/
theorem run_rows (hk : ∀ x, (enc x).length = k) (hone : ∀ l : List α, ∀ u ∈ l.flatMap enc, u.oneCell' = true) (ty : TypeId) (ht : P.underlying T = some (.slice e)) (hi : P.info? e = some i0) (hz : i0.zero = some z) (hsize : i0.size = k) (hby : i0.bytes = bytes) (hzs : z.cells.size = k) (hk0 : 0 < k) (hb : bytes ≤ 1000)
    (a : Option Addr) (cap : Nat) (l : List α) (w : World) (h : RowsAt w a cap k enc l) (hl : l.length ≤ 1000) :
    ∃ v' w', AppRun P T ty (.slice none 0 0) (.slice a l.length cap) w v' w' ∧ OwnAt w' w.heap.size e k enc v' l ∧ w.grownBy w' none := by
  cases a with
  | none =>
    have h0 : l = [] := by
      rcases l with _ | ⟨x, l⟩
      · rfl
      · obtain ⟨b, off, e, _⟩ := h.2.2 (by simp)
        cases e
    subst h0
    refine ⟨.slice none 0 0, w, ⟨?_⟩, Or.inl ⟨rfl, rfl⟩, World.grownBy.refl _ _⟩
    simp [Builtin.append_, run_underlying ht, sizeOf, typeInfo, hi, Builtin.lenOf, Builtin.firstCells]
  | some ad =>
    have hle : (0 + l.length) * bytes ≤ 140737488355328 := by
      have : l.length * bytes ≤ 1000 * 1000 := Nat.mul_le_mul hl hb
      rw [Nat.zero_add]
      omega
    obtain ⟨v', w', hrun, ho, hg, _⟩ := run_append_own (P := P) w w.heap.size T ty e i0 z k bytes ht hi hz hsize hby hzs hk0 (.slice none 0 0) 0 [] (World.ownsRow_nil _ _ _ _) ad l.length cap (l.flatMap enc) (flat_len enc k hk l) (h.flat hk) (hone l) (by unfold maxLen; omega) hle (Nat.le_refl _)
    refine ⟨v', w', ⟨hrun⟩, OwnAt.of_owns hk (by simpa using ho), hg⟩
/-- One more. -/
theorem run_more (hk : ∀ x, (enc x).length = k) (hone : ∀ l : List α, ∀ u ∈ l.flatMap enc, u.oneCell' = true) (ty : TypeId) (ht : P.underlying T = some (.slice e)) (hi : P.info? e = some i0) (hz : i0.zero = some z) (hsize : i0.size = k) (hby : i0.bytes = bytes) (hzs : z.cells.size = k) (hk0 : 0 < k) (hb : bytes ≤ 1000)
    (v : Value) (l : List α) (base B : Nat) (x : α) (w : World) (h : OwnAt w base e k enc v l) (hl : l.length ≤ 1000) (hB : Blk w B (enc x).toArray e) (hbase : base ≤ w.heap.size) :
    ∃ v' w', AppRun P T ty v (.slice (some ⟨B, 0, none⟩) 1 1) w v' w' ∧ OwnAt w' base e k enc v' (l ++ [x]) ∧ w.grownBy w' v.ownBlock := by
  have hle : (l.length + 1) * bytes ≤ 140737488355328 := by
    have : (l.length + 1) * bytes ≤ 1001 * 1000 := Nat.mul_le_mul (by omega) hb
    omega
  obtain ⟨v', w', hrun, ho, hg, _⟩ := run_append_own (P := P) w base T ty e i0 z k bytes ht hi hz hsize hby hzs hk0 v l.length (l.flatMap enc) (h.to_owns hk) ⟨B, 0, none⟩ 1 1 (enc x) (by rw [hk]; omega) (fun j u hj => World.news_of_block (show w.heap[B]? = _ from hB) j u (by simpa using hj)) (fun u hu => hone [x] u (by simpa using hu)) (by unfold maxLen; omega) hle hbase
  exact ⟨v', w', ⟨hrun⟩, OwnAt.of_owns hk (by rw [List.length_append, List.flatMap_append]; simpa using ho), hg⟩
end

end Bk
end Go.Proofs.Ytmojjjikaaclpaa
