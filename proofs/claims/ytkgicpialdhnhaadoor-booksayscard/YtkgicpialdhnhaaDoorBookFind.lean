/- Chapter 6: whose stay is where (E1); contracts for the laws. -/
import Derived.Test.YtkgicpialdhnhaaDoorSlicesJ
import Derived.Test.YtkgicpialdhnhaaDoorQuiet
namespace Go.Proofs.YtkgicpialdhnhaaDoor
open Go.Shelf Go.Lib Go.ChangeShapes Go.WideShapes Go.ChangeAt Go.RowKit
set_option maxRecDepth 100000
set_option linter.unusedSimpArgs false
set_option linter.unusedVariables false

namespace Bk
set_option maxHeartbeats 400000 in
theorem bwithin_any (n l m : Int) (w : World) : Calls Tryd.prog 20 #[.int .i64 n, .int .i64 l, .int .i64 m] w fun e w' => e = .returned (.bool (decide (l ≤ n ∧ n ≤ m))) ∧ w = w' := by
  go_enter Tryd.func20, Tryd.ntmps20
  go_wp2
  all_goals
    go_returns
    refine ⟨B.ret_bool ?_, rfl⟩
    go_light
    first | (simp [*]; done) | (simp [*]; omega) | (simp; omega)

theorem makeFunc_run (fn : Fn) (first cap : Array Value) (w : World) : (Instr.makeFunc fn first cap).run Tryd.prog w = .ok (.func fn first cap) w := rfl

set_option maxHeartbeats 1000000 in
theorem find1_any (k : Int) (P0 : Nat) (s : Stay) (w : World) (hP : P0 < w.heap.size) (hc : w.cell? ⟨P0, 0, none⟩ = some (.int .i64 k)) :
    Calls Tryd.prog 33 #[.agg #[.int .i64 s.t, .int .i64 s.id, .int .i64 s.a, .int .i64 s.b, .int .i64 s.c, .int .i64 s.x, .int .i64 s.y, .int .i64 s.z], .pointer (some ⟨P0, 0, none⟩)] w fun e w' => e = .returned (.bool (s.t == k)) ∧ Below w.heap.size w w' := by
  have c0 : ∀ o, (w.alloc o).cell? ⟨P0, 0, none⟩ = some (.int .i64 k) := fun o => ((B.new1 w o).cell (p := ⟨P0, 0, none⟩) hP).trans hc
  have hne : ¬ P0 = w.heap.size := by omega
  go_enter Tryd.func33, Tryd.ntmps33
  go_wp2
  all_goals go_returns
  all_goals exact ⟨B.ret_bool (by simp [*]), by go_grown⟩

set_option maxHeartbeats 1000000 in
theorem of1_any (k : Int) (P0 : Nat) (s : Stay) (w : World) (hP : P0 < w.heap.size) (hc : w.cell? ⟨P0, 0, none⟩ = some (.int .i64 k)) :
    Calls Tryd.prog 34 #[.agg #[.int .i64 s.t, .int .i64 s.id, .int .i64 s.a, .int .i64 s.b, .int .i64 s.c, .int .i64 s.x, .int .i64 s.y, .int .i64 s.z], .pointer (some ⟨P0, 0, none⟩)] w fun e w' => e = .returned (.bool (s.id == k)) ∧ Below w.heap.size w w' := by
  have c0 : ∀ o, (w.alloc o).cell? ⟨P0, 0, none⟩ = some (.int .i64 k) := fun o => ((B.new1 w o).cell (p := ⟨P0, 0, none⟩) hP).trans hc
  have hne : ¬ P0 = w.heap.size := by omega
  go_enter Tryd.func34, Tryd.ntmps34
  go_wp2
  all_goals go_returns
  all_goals exact ⟨B.ret_bool (by simp [*]), by go_grown⟩

/-- Which stay has the ticket; whose car it is. -/
def findI (b : Book) (k : Int) : Int := stayIdx (fun s => s.t == k) b.stays
def ofI (b : Book) (k : Int) : Int := stayIdx (fun s => s.id == k) b.stays

set_option maxHeartbeats 1000000 in
theorem find_any (b : Book) (k : Int) (w : World) (h : b.At w) :
    Calls Tryd.prog 15 #[b.val, .int .i64 k] w fun e w' => e = .returned (.int .i64 (findI b k)) ∧ Below w.heap.size w w' := by
  unfold findI
  obtain ⟨last, sa, sc, ja, jc, stays, jobs⟩ := b
  obtain ⟨h1, h2⟩ := h
  simp only [Book.val] at *
  obtain ⟨w1, hw1⟩ : ∃ w1, (w.alloc (.cells #[.int .i64 last, .slice sa stays.length sc, .slice ja jobs.length jc] 25)).alloc (.cells #[.int .i64 k] 3) = w1 := ⟨_, rfl⟩
  have NB : Below w.heap.size w w1 := by rw [← hw1]; exact (B.new1 _ _).alloc (by simp) _
  have K0 : Blk w1 w.heap.size #[.int .i64 last, .slice sa stays.length sc, .slice ja jobs.length jc] 25 := by rw [← hw1]; exact (Blk.new _ _ _).old _
  have K1 : Blk w1 (w.heap.size + 1) #[.int .i64 k] 3 := by rw [← hw1]; exact Blk.new1 (by simp) _ _
  have HP : PredBelow Tryd.prog 33 #[.pointer (some ⟨w.heap.size + 1, 0, none⟩)] (fun x : Stay => .agg x.enc.toArray) (fun s => s.t == k) w1 := fun W x hb =>
    (find1_any k (w.heap.size + 1) x W (K1.below hb).lt ((K1.below hb).cell 0)).mono fun e w' ⟨he, hb'⟩ => ⟨he, B.next hb hb' hb.size⟩
  have HC : Hid (Calls Tryd.prog 32 #[.slice sa stays.length sc, .func (.func 33) #[] #[.pointer (some ⟨w.heap.size + 1, 0, none⟩)]] w1 fun e w' => e = .returned (.int .i64 (stayIdx (fun s => s.t == k) stays)) ∧ Below w1.heap.size w1 w') :=
    idxStay_any (fun s => s.t == k) 33 _ (enters_of Tryd.func33 (by kernel_rfl) rfl) sa sc stays w1 (h1.below NB) HP
  have NH : Hid (Below w.heap.size w w1) := NB
  have hmf := makeFunc_run
  have r0 := K0.cell 1
  clear h1 h2 HP NB K0 K1
  generalize stayIdx (fun s => s.t == k) stays = r at *
  go_enter Tryd.func15, Tryd.ntmps15
  go_wp2_with fail
  refine HC.out.mono ?_
  rintro e w' ⟨rfl, hb⟩
  have NC : Hid (Below w.heap.size w w') := B.next NH.out hb NH.out.size
  clear hb
  go_wp2
  go_returns
  exact ⟨rfl, NC.out⟩

set_option maxHeartbeats 1000000 in
theorem of_any (b : Book) (k : Int) (w : World) (h : b.At w) :
    Calls Tryd.prog 16 #[b.val, .int .i64 k] w fun e w' => e = .returned (.int .i64 (ofI b k)) ∧ Below w.heap.size w w' := by
  unfold ofI
  obtain ⟨last, sa, sc, ja, jc, stays, jobs⟩ := b
  obtain ⟨h1, h2⟩ := h
  simp only [Book.val] at *
  obtain ⟨w1, hw1⟩ : ∃ w1, (w.alloc (.cells #[.int .i64 last, .slice sa stays.length sc, .slice ja jobs.length jc] 25)).alloc (.cells #[.int .i64 k] 3) = w1 := ⟨_, rfl⟩
  have NB : Below w.heap.size w w1 := by rw [← hw1]; exact (B.new1 _ _).alloc (by simp) _
  have K0 : Blk w1 w.heap.size #[.int .i64 last, .slice sa stays.length sc, .slice ja jobs.length jc] 25 := by rw [← hw1]; exact (Blk.new _ _ _).old _
  have K1 : Blk w1 (w.heap.size + 1) #[.int .i64 k] 3 := by rw [← hw1]; exact Blk.new1 (by simp) _ _
  have HP : PredBelow Tryd.prog 34 #[.pointer (some ⟨w.heap.size + 1, 0, none⟩)] (fun x : Stay => .agg x.enc.toArray) (fun s => s.id == k) w1 := fun W x hb =>
    (of1_any k (w.heap.size + 1) x W (K1.below hb).lt ((K1.below hb).cell 0)).mono fun e w' ⟨he, hb'⟩ => ⟨he, B.next hb hb' hb.size⟩
  have HC : Hid (Calls Tryd.prog 32 #[.slice sa stays.length sc, .func (.func 34) #[] #[.pointer (some ⟨w.heap.size + 1, 0, none⟩)]] w1 fun e w' => e = .returned (.int .i64 (stayIdx (fun s => s.id == k) stays)) ∧ Below w1.heap.size w1 w') :=
    idxStay_any (fun s => s.id == k) 34 _ (enters_of Tryd.func34 (by kernel_rfl) rfl) sa sc stays w1 (h1.below NB) HP
  have NH : Hid (Below w.heap.size w w1) := NB
  have hmf := makeFunc_run
  have r0 := K0.cell 1
  clear h1 h2 HP NB K0 K1
  generalize stayIdx (fun s => s.id == k) stays = r at *
  go_enter Tryd.func16, Tryd.ntmps16
  go_wp2_with fail
  refine HC.out.mono ?_
  rintro e w' ⟨rfl, hb⟩
  have NC : Hid (Below w.heap.size w w') := B.next NH.out hb NH.out.size
  clear hb
  go_wp2
  go_returns
  exact ⟨rfl, NC.out⟩

end Bk
end Go.Proofs.YtkgicpialdhnhaaDoor
