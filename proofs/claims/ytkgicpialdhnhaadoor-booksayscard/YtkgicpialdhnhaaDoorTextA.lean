/- Chapter 6: a book's text: what the library's functions are called with; contracts for the laws of stages 2 to 4. -/
import Derived.Test.YtkgicpialdhnhaaDoorShelf
import Derived.Test.YtkgicpialdhnhaaDoorCopy
import Derived.Lib.LaidTab
import Derived.Deep.LoopGhost
import Derived.Laws.MakeOwn
namespace Go.Proofs.YtkgicpialdhnhaaDoor
open Go.Shelf Go.ChangeShapes Go.WideShapes Go.ChangeAt Go.RowKit
set_option maxRecDepth 100000
set_option linter.unusedSimpArgs false
set_option linter.unusedVariables false

theorem Tryd.xJoin : Builder.Extra Tryd.prog Tryd.lJoin_ren where
  sizeBuilder := by kernel_rfl
  liesBuilder := by kernel_rfl
  t5 := Tryd.underlying5
  a5 := Tryd.isAgg5
  z5 := Tryd.sizeOf5
  v5 := Tryd.zeroValue5
  infoByte := by kernel_rfl
  cellsByte := by kernel_rfl
  sizeByte := by kernel_rfl
  neB5 := by decide

namespace Tx
open Bk
/-- What the library reads of its own variables. -/
structure Glob (w : World) : Prop where
  hn : Tryd.prog.globals.size ≤ w.heap.size
  tab : Lib.TabIs Tryd.prog w "internal/strconv.uint64pow10" .u64 Lib.pow10Tab
  len : ∃ m, w.cell? ⟨Tryd.lSplitN_ren.g 1, 0, none⟩ = some (.int .i64 m)
  syn : ∃ ev, w.cell? ⟨Tryd.lAtoi_ren.g 15, 0, none⟩ = some ev ∧ (ev = .nilIface ∨ ∃ te pe, ev = .iface te pe)
  rng : ∃ ev, w.cell? ⟨Tryd.lAtoi_ren.g 16, 0, none⟩ = some ev ∧ (ev = .nilIface ∨ ∃ te pe, ev = .iface te pe)
theorem g1_lt : Tryd.lSplitN_ren.g 1 < Tryd.prog.globals.size := of_decide_eq_true (by kernel_rfl)
theorem g15_lt : Tryd.lAtoi_ren.g 15 < Tryd.prog.globals.size := of_decide_eq_true (by kernel_rfl)
theorem g16_lt : Tryd.lAtoi_ren.g 16 < Tryd.prog.globals.size := of_decide_eq_true (by kernel_rfl)
theorem pow_named : ∃ g, Tryd.prog.globalNamed "internal/strconv.uint64pow10" = some g ∧ g < Tryd.prog.globals.size := by
  have h : ((Tryd.prog.globalNamed "internal/strconv.uint64pow10").map fun g => decide (g < Tryd.prog.globals.size)) = some true := by kernel_rfl
  cases hg : Tryd.prog.globalNamed "internal/strconv.uint64pow10" with
  | none => rw [hg] at h; cases h
  | some g =>
    rw [hg] at h
    simp only [Option.map_some, Option.some.injEq, decide_eq_true_eq] at h
    exact ⟨g, rfl, h⟩
theorem Glob.same {w w' : World} (h : Glob w) (hs : w.heap.size ≤ w'.heap.size) (hb : ∀ k, k < Tryd.prog.globals.size → w'.heap[k]? = w.heap[k]?) : Glob w' := by
  have hc : ∀ g o, g < Tryd.prog.globals.size → w'.cell? ⟨g, o, none⟩ = w.cell? ⟨g, o, none⟩ := fun g o hg => World.cell?_of_block (hb g hg)
  refine ⟨Nat.le_trans h.hn hs, ?_, ?_, ?_, ?_⟩
  · obtain ⟨g, hg, hl⟩ := pow_named
    have := h.tab
    unfold Lib.TabIs World.var? at this ⊢
    rw [hg] at this ⊢
    simp only [Option.bind_some] at this ⊢
    rw [hb g hl]
    exact this
  · rw [hc _ _ g1_lt]; exact h.len
  · rw [hc _ _ g15_lt]; exact h.syn
  · rw [hc _ _ g16_lt]; exact h.rng
theorem Glob.below {w w' : World} {B : Nat} (h : Glob w) (hb : Below B w w') (hB : Tryd.prog.globals.size ≤ B) : Glob w' := h.same hb.size fun k hk => hb.block k (by omega)
theorem Glob.new {w w' : World} (h : Glob w) (hb : Below w.heap.size w w') : Glob w' := h.below hb h.hn

theorem itoa_any (n : Int) (w : World) (h0 : -9223372036854775808 ≤ n) (h1 : n ≤ 9223372036854775807) (G : Glob w) :
    Calls Tryd.prog 27 #[.int .i64 n] w fun e w' => e = .returned (.string ⟨(Lib.itoa n).toArray⟩) ∧ Below w.heap.size w w' := by
  refine (show Calls Tryd.prog 27 #[.int .i64 n] w _ from Any.strconv_Itoa Tryd.lItoa n h0 h1 w G.tab).mono fun e w' h => ?_
  obtain ⟨rfl, k, os, rfl⟩ := h
  refine ⟨rfl, rfl, rfl, rfl, by simp [Sort.grow], fun j hj => ?_⟩
  simp only [Sort.grow, World.heap_drewN]
  rw [Array.getElem?_append_left hj]

theorem join_any (bk c : Nat) (xs : List ByteArray) (w : World) (hcells : ∀ (j : Nat) x, xs[j]? = some x → w.cell? ⟨bk, j, none⟩ = some (.string x)) (hbk : bk < w.heap.size) (hN : xs.length ≤ 100000) (hcap : xs.length ≤ c)
    (hlen : (Lib.join (xs.map (·.data.toList)) [32]).length ≤ 100000000) :
    Calls Tryd.prog 28 #[.slice (some ⟨bk, 0, none⟩) xs.length c, .string ⟨#[32]⟩] w fun e w' => e = .returned (.string ⟨(Lib.join (xs.map (·.data.toList)) [32]).toArray⟩) ∧ Below w.heap.size w w' :=
  Any.strings_Join Tryd.lJoin Tryd.xJoin bk 0 c xs ⟨#[32]⟩ w (fun j x hx => by rw [Nat.zero_add]; exact hcells j x hx) hbk (by omega) hcap (by show (Lib.join _ [32]).length ≤ _; omega)

end Tx
end Go.Proofs.YtkgicpialdhnhaaDoor
