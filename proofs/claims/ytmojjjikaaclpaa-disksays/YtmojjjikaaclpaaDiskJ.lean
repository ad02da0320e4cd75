/- Chapter 6: the disk: new; flushed; begun anew; while it is neither armed nor down; contracts for the laws of stage 3. -/
import Derived.Test.YtmojjjikaaclpaaDiskI
import Derived.Laws.MakeOwn
namespace Go.Proofs.Ytmojjjikaaclpaa
open Go.Shelf Go.Lib Go.ChangeShapes Go.WideShapes Go.ChangeAt Go.RowKit
set_option maxRecDepth 100000
set_option linter.unusedSimpArgs false
set_option linter.unusedVariables false

namespace Dk
open Bk
def secZ : Sec := ⟨fun _ => 0, .slice none 0 0, []⟩
theorem sec_info : ∃ i, Try.prog.info? 74 = some i ∧ i.zero = some (.agg (Sec.enc secZ).toArray) ∧ i.size = 65 ∧ i.bytes = 88 := by
  have h : (Try.prog.info? 74).map (fun i => (i.zero, i.size, i.bytes)) = some (some (.agg (Sec.enc secZ).toArray), 65, 88) := by kernel_rfl
  cases hi : Try.prog.info? 74 with
  | none => rw [hi] at h; cases h
  | some i =>
    rw [hi] at h
    simp only [Option.map_some, Option.some.injEq, Prod.mk.injEq] at h
    exact ⟨i, rfl, h.1, h.2.1, h.2.2⟩
theorem made_secs (n : Nat) : madeCells (Value.agg (Sec.enc secZ).toArray).cells (n * 65) = ((List.replicate n secZ).flatMap Sec.enc).toArray := by
  refine flat_of _ _ (by simp [madeCells]) (fun j hj r hr => ?_)
  rw [List.length_replicate] at hj
  have e : (List.replicate n secZ)[j]! = secZ := by rw [getElem!_pos _ j (by simpa using hj)]; simp
  have hs : (Value.agg (Sec.enc secZ).toArray).cells.size = 65 := by simp [Value.cells, Sec.enc_len]
  have hlt : j * 65 + r < n * 65 := by omega
  rw [e]
  unfold madeCells
  rw [Array.getElem?_map, Array.getElem?_range, if_pos hlt]
  simp only [Option.map_some]
  rw [hs, show (j * 65 + r) % 65 = r from by omega]
  simp only [Value.cells]
  rw [getElem!_pos (Sec.enc secZ).toArray r (by simp [Sec.enc_len]; exact hr), List.getElem?_eq_getElem (by rw [Sec.enc_len]; exact hr)]
  simp
theorem make_secs (n : Nat) (hn : n ≤ 1000) (W : World) : (Instr.makeSlice 61 (.int .i64 n) (.int .i64 n)).run Try.prog W = .ok (.slice (some ⟨W.heap.size, 0, none⟩) n n) (W.alloc (.cells ((List.replicate n secZ).flatMap Sec.enc).toArray 74)) := by
  obtain ⟨i, hi, hz, hs, hb⟩ := sec_info
  have := run_make W 61 74 i _ (by kernel_rfl) hi hz .i64 .i64 n n (by omega) (Int.le_refl _) (by rw [hb]; omega) (by omega)
  rw [hs, Int.toNat_natCast, made_secs] at this
  exact this

set_option maxHeartbeats 2000000 in
theorem diskNew_any (n : Nat) (w : World) (h1 : 1 ≤ n) (h40 : n ≤ 40) :
    Calls Try.prog 6 #[.int .i64 n] w fun e w' => e = .returned (.tuple #[.pointer (some ⟨w.heap.size + 1, 0, none⟩), .nilIface]) ∧ DiskAt w' w.heap.size (w.heap.size + 1) w.heap.size (List.replicate n secZ) 0 false 0 false ∧ Below w.heap.size w w' := by
  have hmk := make_secs n (by omega)
  obtain ⟨C, hC⟩ : ∃ C, ((List.replicate n secZ).flatMap Sec.enc).toArray = C := ⟨_, rfl⟩
  rw [hC] at hmk
  have HD : Hid (DiskAt ((w.alloc (.cells C 74)).alloc (.cells #[.slice (some ⟨w.heap.size, 0, none⟩) n n, .int .i64 0, .bool false, .int .i64 0, .bool false] 63)) w.heap.size (w.heap.size + 1) w.heap.size (List.replicate n secZ) 0 false 0 false) := by
    have hv : ∀ i, i < (List.replicate n secZ).length → (List.replicate n secZ)[i]! = secZ := fun i hi => by rw [getElem!_pos _ i hi]; simp
    refine ⟨?_, ?_, fun i hi => ?_, fun i j hi hj _ g hg => ?_, by omega, Nat.le_refl _⟩
    · rw [List.length_replicate]; exact Blk.new1 (by simp) _ _
    · rw [hC]; exact (Blk.new _ _ _).old _
    · rw [hv i hi]; exact Or.inl ⟨rfl, rfl⟩
    · rw [hv i hi] at hg; simp [secZ, Value.ownBlock] at hg
  have hz1 : ¬ (n : Int) < 1 := by omega
  have hz2 : ¬ (40 : Int) < (n : Int) := by omega
  clear hC
  go_enter Try.func6, Try.ntmps6
  go_wp2
  go_returns
  exact ⟨rfl, HD.out, (B.new1 _ _).alloc (by simp) _⟩

set_option maxHeartbeats 2000000 in
theorem flush_any (base db sb : Nat) (secs : List Sec) (bit left : Int) (w : World) (h : DiskAt w base db sb secs bit false left false) (hbase : base ≤ w.heap.size) (hl : ∀ i, i < secs.length → secs[i]!.wr.length ≤ 1000) (hbit : ∀ i, i < secs.length → ∀ y ∈ secs[i]!.wr, 0 ≤ y.bit ∧ y.bit < 64) (hn : secs.length ≤ 1000) :
    Calls Try.prog 14 #[.pointer (some ⟨db, 0, none⟩)] w fun e w' => e = .returned .nilIface ∧ DiskAt w' base db sb (stl 18446744073709551615 secs secs.length) 0 false left false ∧ DFr base w w' := by
  have HST : Hid (Calls Try.prog 22 #[.pointer (some ⟨db, 0, none⟩)] w fun e w' => e = .returned .nilIface ∧ w' = w) := step_quiet db w (h.d.cell 2) (h.d.cell 4)
  have HSE := settle_any base db sb secs bit false left false 18446744073709551615 w h hbase hl hbit hn
  have HSE2 : Hid (Calls Try.prog 26 #[.pointer (some ⟨db, 0, none⟩), .int .u64 18446744073709551615] w fun e w' => e = .returned (.tuple #[]) ∧ DiskAt w' base db sb (stl 18446744073709551615 secs secs.length) 0 false left false ∧ DFr base w w') := HSE
  clear HSE hbit hl h
  go_enter Try.func14, Try.ntmps14
  go_wp2_with fail
  refine HST.out.mono ?_
  rintro e w1 ⟨rfl, rfl⟩
  go_wp2_with fail
  refine HSE2.out.mono ?_
  rintro e w2 ⟨rfl, hD, hF⟩
  have X : Hid (DiskAt w2 base db sb (stl 18446744073709551615 secs secs.length) 0 false left false ∧ DFr base w1 w2) := ⟨hD, hF⟩
  clear hD hF
  go_wp2
  go_returns
  exact ⟨rfl, X.out.1, X.out.2⟩

/-- It stands, and is not armed. -/
theorem DiskAt.calm {w : World} {base db sb : Nat} {secs : List Sec} {bit : Int} {armed : Bool} {left : Int} {down : Bool} (h : DiskAt w base db sb secs bit armed left down) : DiskAt ((w.setCell ⟨db, 4, none⟩ (.bool false)).setCell ⟨db, 2, none⟩ (.bool false)) base db sb secs bit false left false := by
  have hdb : db ≠ sb := fun e => by
    have h1 := h.d
    rw [e] at h1
    exact absurd (blk_typeD h1 h.s) (by decide)
  refine ⟨(h.d.set 4 (.bool false)).set 2 (.bool false), (h.s.other hdb _ _).other hdb _ _, fun i hi => ?_, h.ne, h.hb⟩
  have k : ∀ g, secs[i]!.v.ownBlock = some g → some db ≠ some g := fun g e e' => by
    injection e' with e'
    subst e'
    exact own_neD (h.own i hi) h.d (by decide) e
  exact ((h.own i hi).grown (grown_set w db 4 _) k).grown (grown_set _ db 2 _) k

set_option maxHeartbeats 2000000 in
theorem restart_any (base db sb : Nat) (secs : List Sec) (bit : Int) (armed : Bool) (left : Int) (down : Bool) (K : Int) (w : World) (h : DiskAt w base db sb secs bit armed left down) (hbase : base ≤ w.heap.size) (hl : ∀ i, i < secs.length → secs[i]!.wr.length ≤ 1000) (hbit : ∀ i, i < secs.length → ∀ y ∈ secs[i]!.wr, 0 ≤ y.bit ∧ y.bit < 64) (hn : secs.length ≤ 1000) :
    Calls Try.prog 17 #[.pointer (some ⟨db, 0, none⟩), .int .u64 K] w fun e w' => e = .returned (.tuple #[]) ∧ DiskAt w' base db sb (stl K secs secs.length) 0 false left false ∧ DFr base w w' := by
  have HSE : Hid (Calls Try.prog 26 #[.pointer (some ⟨db, 0, none⟩), .int .u64 K] w fun e w' => e = .returned (.tuple #[]) ∧ DiskAt w' base db sb (stl K secs secs.length) 0 armed left down ∧ DFr base w w') := settle_any base db sb secs bit armed left down K w h hbase hl hbit hn
  clear hbit hl h
  go_enter Try.func17, Try.ntmps17
  go_wp2_with fail
  refine HSE.out.mono ?_
  rintro e w2 ⟨rfl, hD, hF⟩
  have X : Hid (DiskAt ((w2.setCell ⟨db, 4, none⟩ (.bool false)).setCell ⟨db, 2, none⟩ (.bool false)) base db sb (stl K secs secs.length) 0 false left false ∧ DFr base w ((w2.setCell ⟨db, 4, none⟩ (.bool false)).setCell ⟨db, 2, none⟩ (.bool false))) := by
    refine ⟨hD.calm, ((hF.trans (DFr.of_set hD.d hD.hb.1 4 _) hbase).trans (DFr.of_set (hD.d.set 4 (.bool false)) hD.hb.1 2 _) hbase)⟩
  have rd := hD.d.cell
  have fd := hD.d.free
  clear hD hF
  go_wp2
  go_returns
  exact ⟨rfl, X.out.1, X.out.2⟩

set_option maxHeartbeats 400000 in
theorem sectors_any (base db sb : Nat) (secs : List Sec) (bit : Int) (armed : Bool) (left : Int) (down : Bool) (w : World) (h : DiskAt w base db sb secs bit armed left down) :
    Calls Try.prog 9 #[.pointer (some ⟨db, 0, none⟩)] w fun e w' => e = .returned (.int .i64 secs.length) ∧ w' = w := by
  have rd := h.d.cell
  clear h
  go_enter Try.func9, Try.ntmps9
  go_wp2
  go_returns
  exact ⟨rfl, rfl⟩

end Dk
end Go.Proofs.Ytmojjjikaaclpaa
