/- Chapter 6: the disk: text laid into a content; the step of a disk that isn't armed; contracts for the laws of stage 3. -/
import Derived.Test.YtmojjjikaaclpaaDiskD
namespace Go.Proofs.Ytmojjjikaaclpaa
open Go.Shelf Go.Lib Go.ChangeShapes Go.WideShapes Go.ChangeAt Go.RowKit
set_option maxRecDepth 100000
set_option linter.unusedSimpArgs false
set_option linter.unusedVariables false

namespace Dk
open Bk
/-- A text, filled up with noughts. -/
def padF (S : ByteArray) (i : Nat) : Int := if i < S.size then ((S.data[i]!).toNat : Int) else 0
theorem text_cells (S : ByteArray) : ((S.extract 0 S.size).data.map fun b => Value.int .u8 b.toNat).toList = (List.range S.size).map fun i => Value.int .u8 (padF S i) := by
  have h : (S.extract 0 S.size).data = S.data := by
    rw [ByteArray.data_extract]
    show S.data.extract 0 S.data.size = S.data
    simp
  rw [h]
  apply List.ext_getElem?
  intro i
  simp only [Array.toList_map, List.getElem?_map]
  by_cases hi : i < S.size
  · have hi' : i < S.data.size := hi
    rw [List.getElem?_range hi]
    simp only [Option.map_some]
    rw [List.getElem?_eq_getElem (by simpa using hi')]
    simp only [Option.map_some, padF, if_pos hi]
    rw [getElem!_pos S.data i hi']
    simp
  · have hi' : ¬ i < S.data.size := hi
    rw [List.getElem?_eq_none (by simpa using hi'), List.getElem?_eq_none (by simpa using hi)]
    rfl
theorem con_at (c : Nat → Int) (i : Nat) : (conV c)[i]? = if i < 64 then some (.int .u8 (c i)) else none := by
  unfold conV
  by_cases h : i < 64
  · rw [if_pos h, List.getElem?_map, List.getElem?_range h]; rfl
  · rw [if_neg h, List.getElem?_eq_none (by simp; omega)]
theorem copied (bit : Int) (S : ByteArray) (hs : S.size ≤ 64) : (Wr.enc ⟨bit, fun _ => 0⟩).take 1 ++ ((List.range S.size).map fun i => Value.int .u8 (padF S i)) ++ (Wr.enc ⟨bit, fun _ => 0⟩).drop (1 + S.size) = Wr.enc ⟨bit, padF S⟩ := by
  unfold Wr.enc
  simp only [List.take_succ_cons, List.take_zero, List.cons_append, List.nil_append, Nat.add_comm 1, List.drop_succ_cons]
  congr 1
  apply List.ext_getElem?
  intro i
  rw [con_at]
  by_cases hi : i < S.size
  · rw [List.getElem?_append_left (by simpa using hi), List.getElem?_map, List.getElem?_range hi, if_pos (by omega)]
    rfl
  · rw [List.getElem?_append_right (by simpa using hi), List.getElem?_drop, con_at]
    simp only [List.length_map, List.length_range]
    rw [show S.size + (i - S.size) = i from by omega]
    by_cases h64 : i < 64
    · rw [if_pos h64, if_pos h64]
      simp [padF, hi]
    · rw [if_neg h64, if_neg h64]
/-- The built-in copy of a text into a write's content. -/
theorem run_copy_text (w : World) (r : Nat) (bit : Int) (S : ByteArray) (hs : S.size ≤ 64) (hB : Blk w r (Wr.enc ⟨bit, fun _ => 0⟩).toArray 70) (ty : TypeId) :
    ∃ w', (Builtin.copy_ #[71, 9] ty #[.slice (some ⟨r, 1, none⟩) 64 64, .string S]).run Try.prog w = .ok (goInt S.size) w' ∧ Blk w' r (Wr.enc ⟨bit, padF S⟩).toArray 70 ∧ w.grownBy w' (some r) := by
  have hu : Try.prog.underlying 71 = some (.slice 5) := by kernel_rfl
  have hi : (Try.prog.info? 5).map (·.size) = some 1 := by kernel_rfl
  have hsc := run_storeCells_cells (P := Try.prog) r 1 ((List.range S.size).map fun i => Value.int .u8 (padF S i)) 0 w (fun j hj => by
    rw [hB.cell, Array.getElem?_eq_getElem (by simp [Wr.enc_len] at hj ⊢; omega)]; rfl) (fun j hj => hB.free _) (fun v hv => by
    obtain ⟨i, _, rfl⟩ := List.mem_map.1 hv
    rfl)
  refine ⟨w.setCells r 1 ((List.range S.size).map fun i => Value.int .u8 (padF S i)), ?_, ?_, grown_setCells r _ _ _⟩
  rotate_left
  · have := blk_setCells ((List.range S.size).map fun i => Value.int .u8 (padF S i)) (Wr.enc ⟨bit, fun _ => 0⟩).toArray 1 hB
    have e : setRow (Wr.enc ⟨bit, fun _ => 0⟩).toArray 1 ((List.range S.size).map fun i => Value.int .u8 (padF S i)) = (Wr.enc ⟨bit, padF S⟩).toArray := by
      rw [← copied bit S hs]
      apply Array.ext_getElem?
      intro j
      by_cases h1 : j < 1
      · rw [setRow_out _ _ _ _ (Or.inl h1)]
        have : j = 0 := by omega
        subst this
        rfl
      · by_cases h2 : j < 1 + S.size
        · obtain ⟨c, rfl⟩ : ∃ c, j = 1 + c := ⟨j - 1, by omega⟩
          rw [setRow_in _ _ _ _ (by simp; omega) (by simp [Wr.enc_len]; omega), List.getElem?_toArray, List.append_assoc, List.getElem?_append_right (by simp [Wr.enc_len]), List.getElem?_append_left (by simp [Wr.enc_len]; omega)]
          simp [Wr.enc_len]
        · rw [setRow_out _ _ _ _ (Or.inr (by simp; omega)), List.getElem?_toArray, List.getElem?_toArray, List.getElem?_append_right (by simp [Wr.enc_len]; omega), List.getElem?_drop]
          congr 1
          simp [Wr.enc_len]
          omega
    rw [e] at this
    exact this
  · have hmin : Nat.min S.size 64 = S.size := Nat.min_eq_left hs
    have hz : (sizeOf 5).run Try.prog w = .ok 1 w := by kernel_rfl
    simp only [Nat.add_zero] at hsc
    have e := text_cells S
    simp at e
    simp [Builtin.copy_, run_underlying hu, Builtin.lenOf, Builtin.firstCells, hz, hmin]
    rw [e, List.take_of_length_le (by simp), hsc]
    rfl

set_option maxHeartbeats 2000000 in
/-- A step of a disk that isn't armed, nor down. -/
theorem step_quiet (db : Nat) (w : World) (c2 : w.cell? ⟨db, 2, none⟩ = some (.bool false)) (c4 : w.cell? ⟨db, 4, none⟩ = some (.bool false)) :
    Calls Try.prog 22 #[.pointer (some ⟨db, 0, none⟩)] w fun e w' => e = .returned .nilIface ∧ w' = w := by
  go_enter Try.func22, Try.ntmps22
  go_wp2
  go_returns
  exact ⟨rfl, rfl⟩

end Dk
end Go.Proofs.Ytmojjjikaaclpaa
