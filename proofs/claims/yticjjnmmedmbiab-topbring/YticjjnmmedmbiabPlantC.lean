/- Chapter 2: what is seen (B2); contract of Sense. -/
import Derived.Test.YticjjnmmedmbiabPlantB
namespace Go.Proofs.Yticjjnmmedmbiab
open Go.ChangeShapes Go.WideShapes Go.ChangeAt Go.RowKit Go.Maps
set_option maxRecDepth 100000
set_option linter.unusedSimpArgs false
set_option linter.unusedVariables false

namespace Pl
theorem set9_0 {w : World} {b : Nat} {a0 a1 a2 a3 a4 a5 a6 a7 a8 : Value} (g : ∀ o, w.cell? ⟨b, o, none⟩ = (#[a0, a1, a2, a3, a4, a5, a6, a7, a8] : Array Value)[o]?) (v0 v1 v2 v3 v4 v5 v6 v7 v8 : Value) : (((((((((w.setCell ⟨b, 0, none⟩ v0).setCell ⟨b, 1, none⟩ v1).setCell ⟨b, 2, none⟩ v2).setCell ⟨b, 3, none⟩ v3).setCell ⟨b, 4, none⟩ v4).setCell ⟨b, 5, none⟩ v5).setCell ⟨b, 6, none⟩ v6).setCell ⟨b, 7, none⟩ v7).setCell ⟨b, 8, none⟩ v8).cell? ⟨b, 0, none⟩ = some v0 := by
  have h0 := g 0
  simp at h0
  simp [World.cell?_setCell_same', World.cell?_setCell_other, h0]
theorem set9_1 {w : World} {b : Nat} {a0 a1 a2 a3 a4 a5 a6 a7 a8 : Value} (g : ∀ o, w.cell? ⟨b, o, none⟩ = (#[a0, a1, a2, a3, a4, a5, a6, a7, a8] : Array Value)[o]?) (v0 v1 v2 v3 v4 v5 v6 v7 v8 : Value) : (((((((((w.setCell ⟨b, 0, none⟩ v0).setCell ⟨b, 1, none⟩ v1).setCell ⟨b, 2, none⟩ v2).setCell ⟨b, 3, none⟩ v3).setCell ⟨b, 4, none⟩ v4).setCell ⟨b, 5, none⟩ v5).setCell ⟨b, 6, none⟩ v6).setCell ⟨b, 7, none⟩ v7).setCell ⟨b, 8, none⟩ v8).cell? ⟨b, 1, none⟩ = some v1 := by
  have h1 := g 1
  simp at h1
  simp [World.cell?_setCell_same', World.cell?_setCell_other, h1]
theorem set9_2 {w : World} {b : Nat} {a0 a1 a2 a3 a4 a5 a6 a7 a8 : Value} (g : ∀ o, w.cell? ⟨b, o, none⟩ = (#[a0, a1, a2, a3, a4, a5, a6, a7, a8] : Array Value)[o]?) (v0 v1 v2 v3 v4 v5 v6 v7 v8 : Value) : (((((((((w.setCell ⟨b, 0, none⟩ v0).setCell ⟨b, 1, none⟩ v1).setCell ⟨b, 2, none⟩ v2).setCell ⟨b, 3, none⟩ v3).setCell ⟨b, 4, none⟩ v4).setCell ⟨b, 5, none⟩ v5).setCell ⟨b, 6, none⟩ v6).setCell ⟨b, 7, none⟩ v7).setCell ⟨b, 8, none⟩ v8).cell? ⟨b, 2, none⟩ = some v2 := by
  have h2 := g 2
  simp at h2
  simp [World.cell?_setCell_same', World.cell?_setCell_other, h2]
theorem set9_3 {w : World} {b : Nat} {a0 a1 a2 a3 a4 a5 a6 a7 a8 : Value} (g : ∀ o, w.cell? ⟨b, o, none⟩ = (#[a0, a1, a2, a3, a4, a5, a6, a7, a8] : Array Value)[o]?) (v0 v1 v2 v3 v4 v5 v6 v7 v8 : Value) : (((((((((w.setCell ⟨b, 0, none⟩ v0).setCell ⟨b, 1, none⟩ v1).setCell ⟨b, 2, none⟩ v2).setCell ⟨b, 3, none⟩ v3).setCell ⟨b, 4, none⟩ v4).setCell ⟨b, 5, none⟩ v5).setCell ⟨b, 6, none⟩ v6).setCell ⟨b, 7, none⟩ v7).setCell ⟨b, 8, none⟩ v8).cell? ⟨b, 3, none⟩ = some v3 := by
  have h3 := g 3
  simp at h3
  simp [World.cell?_setCell_same', World.cell?_setCell_other, h3]
theorem set9_4 {w : World} {b : Nat} {a0 a1 a2 a3 a4 a5 a6 a7 a8 : Value} (g : ∀ o, w.cell? ⟨b, o, none⟩ = (#[a0, a1, a2, a3, a4, a5, a6, a7, a8] : Array Value)[o]?) (v0 v1 v2 v3 v4 v5 v6 v7 v8 : Value) : (((((((((w.setCell ⟨b, 0, none⟩ v0).setCell ⟨b, 1, none⟩ v1).setCell ⟨b, 2, none⟩ v2).setCell ⟨b, 3, none⟩ v3).setCell ⟨b, 4, none⟩ v4).setCell ⟨b, 5, none⟩ v5).setCell ⟨b, 6, none⟩ v6).setCell ⟨b, 7, none⟩ v7).setCell ⟨b, 8, none⟩ v8).cell? ⟨b, 4, none⟩ = some v4 := by
  have h4 := g 4
  simp at h4
  simp [World.cell?_setCell_same', World.cell?_setCell_other, h4]
theorem set9_5 {w : World} {b : Nat} {a0 a1 a2 a3 a4 a5 a6 a7 a8 : Value} (g : ∀ o, w.cell? ⟨b, o, none⟩ = (#[a0, a1, a2, a3, a4, a5, a6, a7, a8] : Array Value)[o]?) (v0 v1 v2 v3 v4 v5 v6 v7 v8 : Value) : (((((((((w.setCell ⟨b, 0, none⟩ v0).setCell ⟨b, 1, none⟩ v1).setCell ⟨b, 2, none⟩ v2).setCell ⟨b, 3, none⟩ v3).setCell ⟨b, 4, none⟩ v4).setCell ⟨b, 5, none⟩ v5).setCell ⟨b, 6, none⟩ v6).setCell ⟨b, 7, none⟩ v7).setCell ⟨b, 8, none⟩ v8).cell? ⟨b, 5, none⟩ = some v5 := by
  have h5 := g 5
  simp at h5
  simp [World.cell?_setCell_same', World.cell?_setCell_other, h5]
theorem set9_6 {w : World} {b : Nat} {a0 a1 a2 a3 a4 a5 a6 a7 a8 : Value} (g : ∀ o, w.cell? ⟨b, o, none⟩ = (#[a0, a1, a2, a3, a4, a5, a6, a7, a8] : Array Value)[o]?) (v0 v1 v2 v3 v4 v5 v6 v7 v8 : Value) : (((((((((w.setCell ⟨b, 0, none⟩ v0).setCell ⟨b, 1, none⟩ v1).setCell ⟨b, 2, none⟩ v2).setCell ⟨b, 3, none⟩ v3).setCell ⟨b, 4, none⟩ v4).setCell ⟨b, 5, none⟩ v5).setCell ⟨b, 6, none⟩ v6).setCell ⟨b, 7, none⟩ v7).setCell ⟨b, 8, none⟩ v8).cell? ⟨b, 6, none⟩ = some v6 := by
  have h6 := g 6
  simp at h6
  simp [World.cell?_setCell_same', World.cell?_setCell_other, h6]
theorem set9_7 {w : World} {b : Nat} {a0 a1 a2 a3 a4 a5 a6 a7 a8 : Value} (g : ∀ o, w.cell? ⟨b, o, none⟩ = (#[a0, a1, a2, a3, a4, a5, a6, a7, a8] : Array Value)[o]?) (v0 v1 v2 v3 v4 v5 v6 v7 v8 : Value) : (((((((((w.setCell ⟨b, 0, none⟩ v0).setCell ⟨b, 1, none⟩ v1).setCell ⟨b, 2, none⟩ v2).setCell ⟨b, 3, none⟩ v3).setCell ⟨b, 4, none⟩ v4).setCell ⟨b, 5, none⟩ v5).setCell ⟨b, 6, none⟩ v6).setCell ⟨b, 7, none⟩ v7).setCell ⟨b, 8, none⟩ v8).cell? ⟨b, 7, none⟩ = some v7 := by
  have h7 := g 7
  simp at h7
  simp [World.cell?_setCell_same', World.cell?_setCell_other, h7]
theorem set9_8 {w : World} {b : Nat} {a0 a1 a2 a3 a4 a5 a6 a7 a8 : Value} (g : ∀ o, w.cell? ⟨b, o, none⟩ = (#[a0, a1, a2, a3, a4, a5, a6, a7, a8] : Array Value)[o]?) (v0 v1 v2 v3 v4 v5 v6 v7 v8 : Value) : (((((((((w.setCell ⟨b, 0, none⟩ v0).setCell ⟨b, 1, none⟩ v1).setCell ⟨b, 2, none⟩ v2).setCell ⟨b, 3, none⟩ v3).setCell ⟨b, 4, none⟩ v4).setCell ⟨b, 5, none⟩ v5).setCell ⟨b, 6, none⟩ v6).setCell ⟨b, 7, none⟩ v7).setCell ⟨b, 8, none⟩ v8).cell? ⟨b, 8, none⟩ = some v8 := by
  have h8 := g 8
  simp at h8
  simp [World.cell?_setCell_same', World.cell?_setCell_other, h8]
theorem set9_below {w0 w : World} {b : Nat} (h : Below b w0 w) (v0 v1 v2 v3 v4 v5 v6 v7 v8 : Value) : Below b w0 (((((((((w.setCell ⟨b, 0, none⟩ v0).setCell ⟨b, 1, none⟩ v1).setCell ⟨b, 2, none⟩ v2).setCell ⟨b, 3, none⟩ v3).setCell ⟨b, 4, none⟩ v4).setCell ⟨b, 5, none⟩ v5).setCell ⟨b, 6, none⟩ v6).setCell ⟨b, 7, none⟩ v7).setCell ⟨b, 8, none⟩ v8) := ((((((((h.setCell (Nat.le_refl _) _).setCell (Nat.le_refl _) _).setCell (Nat.le_refl _) _).setCell (Nat.le_refl _) _).setCell (Nat.le_refl _) _).setCell (Nat.le_refl _) _).setCell (Nat.le_refl _) _).setCell (Nat.le_refl _) _).setCell (Nat.le_refl _) _

set_option maxHeartbeats 4000000 in
theorem sense_any (pb mb n : Nat) (s : St) (w : World) (hp : IsP w pb mb n s) (ok : Ok s) :
    Calls Try.prog 16 #[.pointer (some ⟨pb, 0, none⟩)] w fun e w' => e = .returned (senseV s) ∧ Below w.heap.size w w' := by
  obtain ⟨lv, h, ex, op, pe, li, ba, D, st, hu⟩ := s
  obtain ⟨lv1, lv4, h0, h12, e0, e2⟩ := ok
  simp only at lv1 lv4 h0 h12 e0 e2
  obtain ⟨x1, HX1⟩ : ∃ x : Int, Hid (x = ex - 1) := ⟨_, rfl⟩
  obtain ⟨x2, HX2⟩ : ∃ x : Int, Hid (x = ex + 1) := ⟨_, rfl⟩
  have m1 : IntKind.i64.wrap (ex - 1) = x1 := by rw [IntKind.wrap_i64, HX1.out]; omega
  have m2 : IntKind.i64.wrap (ex + 1) = x2 := by rw [IntKind.wrap_i64, HX2.out]; omega
  have b1 : Hid (-3 ≤ x1 ∧ x1 ≤ 3) := by show _ ∧ _; rw [HX1.out]; omega
  have b2 : Hid (-3 ≤ x2 ∧ x2 ≤ 3) := by show _ ∧ _; rw [HX2.out]; omega
  generalize ha : carAtI D lv h ex = a
  generalize hb : carAtI D lv h x1 = b
  generalize hc : carAtI D lv h x2 = c
  have KV : Hid (senseV ⟨lv, h, ex, op, pe, li, ba, D, st, hu⟩ = .agg #[.int .i64 h, .int .i64 ex, .bool op, .int .i64 pe, .int .i64 li, .int .i64 ba, .bool (a != 0), .bool (b != 0), .bool (c != 0)]) := by
    show _ = _
    simp only [senseV, ← HX1.out, ← HX2.out, ha, hb, hc]
  have HA : Hid (carAtI D lv h ex = a) := ha
  have HB : Hid (carAtI D lv h x1 = b) := hb
  have HC : Hid (carAtI D lv h x2 = c) := hc
  clear ha hb hc
  have P0 : Hid (IsP w pb mb n ⟨lv, h, ex, op, pe, li, ba, D, st, hu⟩) := hp
  have hlt := hp.lt
  have P1 : Hid (IsP (w.alloc (.cells #[.int .i64 0, .int .i64 0, .bool false, .int .i64 0, .int .i64 0, .int .i64 0, .bool false, .bool false, .bool false] 45)) pb mb n ⟨lv, h, ex, op, pe, li, ba, D, st, hu⟩) := hp.below (B.new1 w _)
  have c0 := P1.out.c0; have c1 := P1.out.c1; have c2 := P1.out.c2; have c3 := P1.out.c3; have c4 := P1.out.c4; have c5 := P1.out.c5; have c6 := P1.out.c6
  simp only at c0 c1 c2 c3 c4 c5 c6
  have npb : w.heap.size ≠ pb := by omega
  clear hp
  go_enter Try.func16, Try.ntmps16
  go_wp2_with fail
  go_region_held3 (fun wx => wx.cell? ⟨pb, 1, none⟩ = some (.int .i64 h) ∧ wx.cell? ⟨pb, 2, none⟩ = some (.int .i64 ex) ∧ wx.cell? ⟨pb, 3, none⟩ = some (.bool op) ∧ wx.cell? ⟨pb, 4, none⟩ = some (.int .i64 pe) ∧ wx.cell? ⟨pb, 5, none⟩ = some (.int .i64 li) ∧ wx.cell? ⟨pb, 6, none⟩ = some (.int .i64 ba)) (go_keep)
    (first
      | (go_at_call_of 68 (Value.int .i64 ex); refine (carAt_any pb mb n D lv h ex _ (P1.out.below ((Below.refl _ _).drew)).c0 (P1.out.below ((Below.refl _ _).drew)).c1 (P1.out.below ((Below.refl _ _).drew)).c7 (P1.out.below ((Below.refl _ _).drew)).cars h0 (by omega) (by omega) (by omega)).mono ?_; rw [HA.out]; rintro e wa ⟨rfl, hbwa⟩
         have Pwa : Hid (IsP wa pb mb n ⟨lv, h, ex, op, pe, li, ba, D, st, hu⟩) := (P1.out.below ((Below.refl _ _).drew)).below hbwa
         have Zwa : Hid (Below w.heap.size w wa) := B.next (B.new1 w _).drew hbwa (by simp)
         have Gwa : Hid (w.heap.size < wa.heap.size ∧ (∀ o, wa.cell? ⟨w.heap.size, o, none⟩ = (#[.int .i64 0, .int .i64 0, .bool false, .int .i64 0, .int .i64 0, .int .i64 0, .bool false, .bool false, .bool false] : Array Value)[o]?) ∧ ∀ o, wa.frozen? ⟨w.heap.size, o, none⟩ = false) := ⟨by have := hbwa.size; simp at this; omega, B.row hbwa (B.row_new w _ _) (by simp), fun o => (B.frozen hbwa _ o (by simp)).trans (by simp)⟩
         have d1wa := Pwa.out.c1; have d2wa := Pwa.out.c2; have d3wa := Pwa.out.c3; have d4wa := Pwa.out.c4; have d5wa := Pwa.out.c5; have d6wa := Pwa.out.c6
         simp only at d1wa d2wa d3wa d4wa d5wa d6wa
         clear hbwa)
      | (go_at_call_of 68 (Value.int .i64 x1); refine (carAt_any pb mb n D lv h x1 _ (Pwa.out).c0 (Pwa.out).c1 (Pwa.out).c7 (Pwa.out).cars h0 (by omega) b1.out.1 b1.out.2).mono ?_; rw [HB.out]; rintro e wb ⟨rfl, hbwb⟩
         have Pwb : Hid (IsP wb pb mb n ⟨lv, h, ex, op, pe, li, ba, D, st, hu⟩) := (Pwa.out).below hbwb
         have Zwb : Hid (Below w.heap.size w wb) := B.next Zwa.out hbwb Zwa.out.size
         have Gwb : Hid (w.heap.size < wb.heap.size ∧ (∀ o, wb.cell? ⟨w.heap.size, o, none⟩ = (#[.int .i64 0, .int .i64 0, .bool false, .int .i64 0, .int .i64 0, .int .i64 0, .bool false, .bool false, .bool false] : Array Value)[o]?) ∧ ∀ o, wb.frozen? ⟨w.heap.size, o, none⟩ = false) := ⟨Nat.lt_of_lt_of_le Gwa.out.1 hbwb.size, B.row hbwb Gwa.out.2.1 Gwa.out.1, fun o => (B.frozen hbwb _ o Gwa.out.1).trans (Gwa.out.2.2 o)⟩
         have d1wb := Pwb.out.c1; have d2wb := Pwb.out.c2; have d3wb := Pwb.out.c3; have d4wb := Pwb.out.c4; have d5wb := Pwb.out.c5; have d6wb := Pwb.out.c6
         simp only at d1wb d2wb d3wb d4wb d5wb d6wb
         clear hbwb)
      | (go_at_call_of 68 (Value.int .i64 x2); refine (carAt_any pb mb n D lv h x2 _ (Pwb.out).c0 (Pwb.out).c1 (Pwb.out).c7 (Pwb.out).cars h0 (by omega) b2.out.1 b2.out.2).mono ?_; rw [HC.out]; rintro e wc ⟨rfl, hbwc⟩
         have Pwc : Hid (IsP wc pb mb n ⟨lv, h, ex, op, pe, li, ba, D, st, hu⟩) := (Pwb.out).below hbwc
         have Zwc : Hid (Below w.heap.size w wc) := B.next Zwb.out hbwc Zwb.out.size
         have Gwc : Hid (w.heap.size < wc.heap.size ∧ (∀ o, wc.cell? ⟨w.heap.size, o, none⟩ = (#[.int .i64 0, .int .i64 0, .bool false, .int .i64 0, .int .i64 0, .int .i64 0, .bool false, .bool false, .bool false] : Array Value)[o]?) ∧ ∀ o, wc.frozen? ⟨w.heap.size, o, none⟩ = false) := ⟨Nat.lt_of_lt_of_le Gwb.out.1 hbwc.size, B.row hbwc Gwb.out.2.1 Gwb.out.1, fun o => (B.frozen hbwc _ o Gwb.out.1).trans (Gwb.out.2.2 o)⟩
         have d1wc := Pwc.out.c1; have d2wc := Pwc.out.c2; have d3wc := Pwc.out.c3; have d4wc := Pwc.out.c4; have d5wc := Pwc.out.c5; have d6wc := Pwc.out.c6
         simp only at d1wc d2wc d3wc d4wc d5wc d6wc
         have gc := Gwc.out.2.1
         have fc := Gwc.out.2.2
         clear hbwc))
  go_wp2
  (try simp only [Exit.inBlock, Exit.then])
  refine bodyPost_ret (by simp [results, Try.results16, go_sem, set9_0 gc, set9_1 gc, set9_2 gc, set9_3 gc, set9_4 gc, set9_5 gc, set9_6 gc, set9_7 gc, set9_8 gc]; try rfl) rfl ?_
  exact ⟨by rw [KV.out], set9_below Zwc.out _ _ _ _ _ _ _ _ _⟩

end Pl
end Go.Proofs.Yticjjnmmedmbiab
