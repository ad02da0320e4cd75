/- The document's machine: what is seen (B2); contract for PlantSays. -/
import Derived.Test.YticjjnmmedmbiaaRefPlantE
namespace Go.Proofs.Yticjjnmmedmbiaa
open Go.ChangeShapes Go.WideShapes Go.ChangeAt Go.RowKit Go.Maps
set_option maxRecDepth 100000
set_option linter.unusedSimpArgs false
set_option linter.unusedVariables false

namespace Pl
open Ac
/-- Block b has these cells. -/
def Blk (w : World) (b : Nat) (arr : Array Value) (t : TypeId) : Prop := w.heap[b]? = some (.cells arr t (0, 0))
theorem Blk.lt {w : World} {b : Nat} {arr : Array Value} {t : TypeId} (h : Blk w b arr t) : b < w.heap.size := (Array.getElem?_eq_some_iff.1 h).1
theorem Blk.cell {w : World} {b : Nat} {arr : Array Value} {t : TypeId} (h : Blk w b arr t) (o : Nat) : w.cell? ⟨b, o, none⟩ = arr[o]? := by simp [World.cell?, (show w.heap[b]? = _ from h)]
theorem Blk.free {w : World} {b : Nat} {arr : Array Value} {t : TypeId} (h : Blk w b arr t) (o : Nat) : w.frozen? ⟨b, o, none⟩ = false := by simp [World.frozen?, (show w.heap[b]? = _ from h)]
theorem Blk.below {w w' : World} {b : Nat} {arr : Array Value} {t : TypeId} (h : Blk w b arr t) (hb : Below w.heap.size w w') : Blk w' b arr t := (hb.block b h.lt).trans h
theorem Blk.set {w : World} {b : Nat} {arr : Array Value} {t : TypeId} (h : Blk w b arr t) (o : Nat) (v : Value) : Blk (w.setCell ⟨b, o, none⟩ v) b (arr.setIfInBounds o v) t := by
  have := (show w.heap[b]? = _ from h)
  show (w.setCell ⟨b, o, none⟩ v).heap[b]? = _
  simp [World.setCell, Array.getElem?_modify, this]
theorem Blk.other {w : World} {b c : Nat} {arr : Array Value} {t : TypeId} (h : Blk w b arr t) (hc : c ≠ b) (o : Nat) (v : Value) : Blk (w.setCell ⟨c, o, none⟩ v) b arr t := by
  have := (show w.heap[b]? = _ from h)
  show (w.setCell ⟨c, o, none⟩ v).heap[b]? = _
  simp [World.setCell, Array.getElem?_modify, this, hc]
theorem Blk.new (w : World) (arr : Array Value) (t : TypeId) : Blk (w.alloc (.cells arr t (0, 0))) w.heap.size arr t := by
  show (w.heap.push _)[w.heap.size]? = _
  exact Array.getElem?_push_size
theorem size_setCell (w : World) (a : Addr) (v : Value) : (w.setCell a v).heap.size = w.heap.size := by
  simp [World.setCell]

set_option maxHeartbeats 4000000 in
theorem rsense_any (rb : Nat) (s : St) (w : World) (hr : IsR w rb s) (iv : Inv s) :
    Calls Try.prog 78 #[.pointer (some ⟨rb, 0, none⟩)] w fun e w' => e = .returned (senseV s) ∧ Below w.heap.size w w' := by
  have hlt := hr.lt
  have HR : Hid (∀ w1, Below w.heap.size w w1 → IsR w1 rb s) := fun w1 hb => hr.below hb
  have c1 : ∀ o, (w.alloc o).cell? ⟨rb, 1, none⟩ = some (.int .i64 s.h) := fun o => (hr.below (B.new1 w o)).cell 1
  have c2 : ∀ o, (w.alloc o).cell? ⟨rb, 2, none⟩ = some (.int .i64 s.ex) := fun o => (hr.below (B.new1 w o)).cell 2
  have c3 : ∀ o, (w.alloc o).cell? ⟨rb, 3, none⟩ = some (.bool s.op) := fun o => (hr.below (B.new1 w o)).cell 3
  have c4 : ∀ o, (w.alloc o).cell? ⟨rb, 4, none⟩ = some (.int .i64 s.pe) := fun o => (hr.below (B.new1 w o)).cell 4
  have c5 : ∀ o, (w.alloc o).cell? ⟨rb, 5, none⟩ = some (.int .i64 s.li) := fun o => (hr.below (B.new1 w o)).cell 5
  have c6 : ∀ o, (w.alloc o).cell? ⟨rb, 6, none⟩ = some (.int .i64 s.ba) := fun o => (hr.below (B.new1 w o)).cell 6
  have C2 : Hid (∀ w1, Below w.heap.size w w1 → w1.cell? ⟨rb, 2, none⟩ = some (.int .i64 s.ex)) := fun w1 hb => (hr.below hb).cell 2
  have F0 : Hid (∀ w1, Below w.heap.size w w1 → ∀ x, -3 ≤ x ∧ x ≤ 3 → Calls Try.prog 100 #[.pointer (some ⟨rb, 0, none⟩), .int .i64 x] w1 fun e w' => e = .returned (.bool (carAtI s.D s.lv s.h x != 0)) ∧ Below w1.heap.size w1 w') := fun w1 hb x hx => rfull_any rb s x w1 (hr.below hb) iv hx.1 hx.2
  have KV : Hid (senseV s = .agg #[.int .i64 s.h, .int .i64 s.ex, .bool s.op, .int .i64 s.pe, .int .i64 s.li, .int .i64 s.ba, .bool (carAtI s.D s.lv s.h s.ex != 0), .bool (carAtI s.D s.lv s.h (s.ex - 1) != 0), .bool (carAtI s.D s.lv s.h (s.ex + 1) != 0)]) := rfl
  have e0 := iv.ok.e0; have e2 := iv.ok.e2
  rw [KV.out]
  have F1 : Hid (∀ w1, Below w.heap.size w w1 → Calls Try.prog 100 #[.pointer (some ⟨rb, 0, none⟩), .int .i64 s.ex] w1 fun e w' => e = .returned (.bool (carAtI s.D s.lv s.h s.ex != 0)) ∧ Below w1.heap.size w1 w') := fun w1 hb => F0.out w1 hb _ (by omega)
  obtain ⟨x1, HX1⟩ : ∃ x : Int, Hid (x = s.ex - 1) := ⟨_, rfl⟩
  obtain ⟨x2, HX2⟩ : ∃ x : Int, Hid (x = s.ex + 1) := ⟨_, rfl⟩
  have m1 : IntKind.i64.wrap (s.ex - 1) = x1 := by rw [IntKind.wrap_i64, HX1.out]; omega
  have m2 : IntKind.i64.wrap (s.ex + 1) = x2 := by rw [IntKind.wrap_i64, HX2.out]; omega
  have F2 : Hid (∀ w1, Below w.heap.size w w1 → Calls Try.prog 100 #[.pointer (some ⟨rb, 0, none⟩), .int .i64 (s.ex - 1)] w1 fun e w' => e = .returned (.bool (carAtI s.D s.lv s.h (s.ex - 1) != 0)) ∧ Below w1.heap.size w1 w') := fun w1 hb => F0.out w1 hb _ (by omega)
  have F3 : Hid (∀ w1, Below w.heap.size w w1 → Calls Try.prog 100 #[.pointer (some ⟨rb, 0, none⟩), .int .i64 (s.ex + 1)] w1 fun e w' => e = .returned (.bool (carAtI s.D s.lv s.h (s.ex + 1) != 0)) ∧ Below w1.heap.size w1 w') := fun w1 hb => F0.out w1 hb _ (by omega)
  clear F0 KV hr iv
  rw [← HX1.out] at F2 ⊢
  rw [← HX2.out] at F3 ⊢
  clear HX1 HX2
  generalize (carAtI s.D s.lv s.h s.ex != 0) = q1 at *
  generalize (carAtI s.D s.lv s.h x1 != 0) = q2 at *
  generalize (carAtI s.D s.lv s.h x2 != 0) = q3 at *
  generalize s.h = h at *
  generalize s.ex = ex at *
  generalize s.op = op at *
  generalize s.pe = pe at *
  generalize s.li = li at *
  generalize s.ba = ba at *
  go_enter Try.func78, Try.ntmps78
  go_wp2_with fail
  go_region
  obtain ⟨W0, hW0⟩ : ∃ W0, ((w.alloc (.cells #[.int .i64 0, .int .i64 0, .bool false, .int .i64 0, .int .i64 0, .int .i64 0, .bool false, .bool false, .bool false] 71)).alloc (.cells #[.int .i64 h, .int .i64 ex, .bool op, .int .i64 pe, .int .i64 li, .int .i64 ba, .bool false, .bool false, .bool false] 71)).drew = W0 := ⟨_, rfl⟩
  have N0 : Blk W0 w.heap.size #[.int .i64 0, .int .i64 0, .bool false, .int .i64 0, .int .i64 0, .int .i64 0, .bool false, .bool false, .bool false] 71 := by rw [← hW0]; exact ((Blk.new w _ _).below (B.new1 _ _)).below ((Below.refl _ _).drew)
  have S0 : Blk W0 (w.heap.size + 1) #[.int .i64 h, .int .i64 ex, .bool op, .int .i64 pe, .int .i64 li, .int .i64 ba, .bool false, .bool false, .bool false] 71 := by
    rw [← hW0]
    have := (Blk.new (w.alloc (.cells #[.int .i64 0, .int .i64 0, .bool false, .int .i64 0, .int .i64 0, .int .i64 0, .bool false, .bool false, .bool false] 71)) #[.int .i64 h, .int .i64 ex, .bool op, .int .i64 pe, .int .i64 li, .int .i64 ba, .bool false, .bool false, .bool false] 71).below ((Below.refl _ _).drew)
    simpa using this
  have B0 : Below w.heap.size w W0 := by rw [← hW0]; exact (((Below.refl _ w).alloc (Nat.le_refl _) _).alloc (by simp) _).drew
  rw [hW0]
  clear hW0
  have k0 := C2.out W0 B0
  clear c1 c2 c3 c4 c5 c6
  go_wp2_with fail
  refine (F1.out _ B0).mono ?_
  rintro e W1 ⟨rfl, b1⟩
  have B1 : Hid (Below w.heap.size w W1) := B.next B0 b1 B0.size
  have N1 : Hid (Blk W1 w.heap.size #[.int .i64 0, .int .i64 0, .bool false, .int .i64 0, .int .i64 0, .int .i64 0, .bool false, .bool false, .bool false] 71) := N0.below b1
  have S1 : Hid (Blk W1 (w.heap.size + 1) #[.int .i64 h, .int .i64 ex, .bool op, .int .i64 pe, .int .i64 li, .int .i64 ba, .bool false, .bool false, .bool false] 71) := S0.below b1
  have s1c := S1.out.cell 6
  have s1f := S1.out.free 6
  have k1 := C2.out _ (B1.out.setCell (p := ⟨w.heap.size + 1, 6, none⟩) (Nat.le_succ _) (.bool q1))
  clear B0 N0 S0 b1 k0 F1
  go_wp2_with fail
  refine (F2.out _ (B1.out.setCell (p := ⟨w.heap.size + 1, 6, none⟩) (Nat.le_succ _) (.bool q1))).mono ?_
  rintro e W2 ⟨rfl, b2⟩
  have B2 : Hid (Below w.heap.size w W2) := B.next (B1.out.setCell (p := ⟨w.heap.size + 1, 6, none⟩) (Nat.le_succ _) (.bool q1)) b2 (by rw [size_setCell]; exact B1.out.size)
  have N2 : Hid (Blk W2 w.heap.size #[.int .i64 0, .int .i64 0, .bool false, .int .i64 0, .int .i64 0, .int .i64 0, .bool false, .bool false, .bool false] 71) := (N1.out.other (by omega) _ _).below b2
  have S2 : Hid (Blk W2 (w.heap.size + 1) #[.int .i64 h, .int .i64 ex, .bool op, .int .i64 pe, .int .i64 li, .int .i64 ba, .bool q1, .bool false, .bool false] 71) := (S1.out.set 6 (.bool q1)).below b2
  have s2c := S2.out.cell 7
  have s2f := S2.out.free 7
  have k2 := C2.out _ (B2.out.setCell (p := ⟨w.heap.size + 1, 7, none⟩) (Nat.le_succ _) (.bool q2))
  clear B1 N1 S1 b2 s1c s1f k1 F2
  go_wp2_with fail
  refine (F3.out _ (B2.out.setCell (p := ⟨w.heap.size + 1, 7, none⟩) (Nat.le_succ _) (.bool q2))).mono ?_
  rintro e W3 ⟨rfl, b3⟩
  have B3 : Hid (Below w.heap.size w (W3.setCell ⟨w.heap.size + 1, 8, none⟩ (.bool q3))) := (B.next (B2.out.setCell (p := ⟨w.heap.size + 1, 7, none⟩) (Nat.le_succ _) (.bool q2)) b3 (by rw [size_setCell]; exact B2.out.size)).setCell (p := ⟨w.heap.size + 1, 8, none⟩) (Nat.le_succ _) (.bool q3)
  have N3 : Hid (Blk (W3.setCell ⟨w.heap.size + 1, 8, none⟩ (.bool q3)) w.heap.size #[.int .i64 0, .int .i64 0, .bool false, .int .i64 0, .int .i64 0, .int .i64 0, .bool false, .bool false, .bool false] 71) := ((N2.out.other (by omega) _ _).below b3).other (by omega) _ _
  have S3 : Hid (Blk W3 (w.heap.size + 1) #[.int .i64 h, .int .i64 ex, .bool op, .int .i64 pe, .int .i64 li, .int .i64 ba, .bool q1, .bool q2, .bool false] 71) := (S2.out.set 7 (.bool q2)).below b3
  have S4 : Hid (Blk (W3.setCell ⟨w.heap.size + 1, 8, none⟩ (.bool q3)) (w.heap.size + 1) #[.int .i64 h, .int .i64 ex, .bool op, .int .i64 pe, .int .i64 li, .int .i64 ba, .bool q1, .bool q2, .bool q3] 71) := S3.out.set 8 (.bool q3)
  have s3c := S3.out.cell 8
  have s3f := S3.out.free 8
  have s4 := S4.out.cell
  have gc := N3.out.cell
  have fc := N3.out.free
  clear B2 N2 S2 S3 S4 b3 s2c s2f k2 F3
  go_wp2
  (try simp only [Exit.inBlock, Exit.then])
  refine bodyPost_ret (by simp [results, Try.results78, go_sem, set9_0 gc, set9_1 gc, set9_2 gc, set9_3 gc, set9_4 gc, set9_5 gc, set9_6 gc, set9_7 gc, set9_8 gc]; try rfl) rfl ?_
  exact ⟨rfl, set9_below B3.out _ _ _ _ _ _ _ _ _⟩

end Pl
end Go.Proofs.Yticjjnmmedmbiaa
