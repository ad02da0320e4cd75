/- Chapter 2: where a car is (B2); contracts of Where and Has. -/
import Derived.Test.YticjjnmmedmbiabPlantK
namespace Go.Proofs.Yticjjnmmedmbiab
open Go.ChangeShapes Go.WideShapes Go.ChangeAt Go.RowKit Go.Maps
set_option maxRecDepth 100000
set_option linter.unusedSimpArgs false
set_option linter.unusedVariables false

namespace Pl
def mkP (p : Int × Int × Int) : Value := .agg #[.int .i64 p.1, .int .i64 p.2.1, .int .i64 p.2.2]
theorem invP (key : Value) (kl : Lit) (h : keyOf Try.prog 52 key = some kl) : ∃ p, key = mkP p := by
  obtain ⟨x, y, z, rfl, _⟩ := key_inv h
  exact ⟨(x, y, z), rfl⟩
theorem invI (v : Value) (y : DataW Unit × List MemPlace) (h : plainElem Try.prog 3 v = some y) : ∃ c, v = Value.int .i64 c := by
  obtain ⟨c, rfl, _⟩ := plainElem_int_inv Try.underlying3 h
  exact ⟨c, rfl⟩

/-- What Where answers: a place that has the car; or none has. -/
def WhereP (D : DataW Unit) (id : Int) (x y z : Int) (b : Bool) : Prop :=
  (b = true ∧ has D (pk x y z) = true ∧ (∀ zd, D.atKey (pk x y z) zd = .lit (.int .i64 id)) ∧ (Lit.int .i64 x).wf = true ∧ (Lit.int .i64 y).wf = true ∧ (Lit.int .i64 z).wf = true) ∨
  (b = false ∧ x = 0 ∧ y = 0 ∧ z = 0 ∧ ∀ k, has D k = true → ∀ c, (∀ zd, D.atKey k zd = .lit (.int .i64 c)) → c ≠ id)

theorem grown_below {a b : World} (h : a.grownBy b none) : Below a.heap.size a b := ⟨h.os, h.tape, h.output, h.size, fun k hk => h.block k hk (by simp)⟩
theorem grown_new {a b c : World} {r : Nat} (h : Below a.heap.size a b) (k : b.grownBy c (some r)) (hr : a.heap.size ≤ r) : Below a.heap.size a c :=
  ⟨k.os.trans h.os, k.tape.trans h.tape, k.output.trans h.output, Nat.le_trans h.size k.size, fun i hi => (k.block i (Nat.lt_of_lt_of_le hi h.size) (by simp; omega)).trans (h.block i hi)⟩

set_option maxHeartbeats 2000000 in
theorem where_any (pb mb n : Nat) (s : St) (id : Int) (w : World) (hp : IsP w pb mb n s) :
    Calls Try.prog 130 #[.pointer (some ⟨pb, 0, none⟩), .int .i64 id] w fun e w' => ∃ x y z b, e = .returned (.tuple #[.agg #[.int .i64 x, .int .i64 y, .int .i64 z], .bool b]) ∧ WhereP s.D id x y z b ∧ Below w.heap.size w w' := by
  have hlt : pb < w.heap.size := hp.lt
  have c7 : ∀ o, (w.alloc o).cell? ⟨pb, 7, none⟩ = some (.map (some mb)) := fun o => ((B.cell (B.new1 w o)) pb 7 hlt).trans hp.c7
  have hown : ∀ o, Cars (w.alloc o) mb n s.D := fun o => World.ownsMap.alloc hp.cars o
  generalize s.D = D at hown ⊢
  clear hp
  go_enter Try.func130, Try.ntmps130
  go_wp2_with (first
    | (at_range; refine wpList_range_own _ rfl _ 118 rfl 52 3 law Try.underlying118 _ mb n _ rfl (hown _) ?_; intro w0 hrg0 hg0 hs0)
    | go_in)
  go_frame
  have e1 : (w.alloc (.cells #[.int .i64 0, .int .i64 0, .int .i64 0] 52)).heap.size = w.heap.size + 1 := by simp
  rw [e1] at hrg0 hs0
  simp only [e1]
  have b0 : Below w.heap.size w w0 := B.next (B.new1 w _) (grown_below hg0) (by simp)
  have g0 : ∀ o, w0.cell? ⟨w.heap.size, o, none⟩ = (#[.int .i64 0, .int .i64 0, .int .i64 0] : Array Value)[o]? := B.row (grown_below hg0) (B.row_new w _ _) (by simp)
  have f0 : ∀ o, w0.frozen? ⟨w.heap.size, o, none⟩ = false := fun o => (B.frozen (grown_below hg0) _ o (by simp)).trans (by simp)
  clear hown c7 hg0
  go_loopw [7] (fun _ wr => ∃ (left : Lit → Bool) (cnt : Nat), wr.ranges Try.prog 52 (plainElem Try.prog 3) mb (w.heap.size + 1) n D left cnt ∧ Below w.heap.size w wr ∧ w.heap.size + 2 ≤ wr.heap.size ∧
      (∀ o, wr.cell? ⟨w.heap.size, o, none⟩ = (#[.int .i64 0, .int .i64 0, .int .i64 0] : Array Value)[o]?) ∧ (∀ o, wr.frozen? ⟨w.heap.size, o, none⟩ = false) ∧ (∀ k, left k = true → has D k = true) ∧
      (∀ k, has D k = true → left k = true ∨ ∀ c, (∀ zd, D.atKey k zd = .lit (.int .i64 c)) → c ≠ id))
    (fun _ wr => wr.rangeLeft mb (w.heap.size + 1))
  case atStart => exact ⟨_, _, hrg0, b0, by omega, g0, f0, fun k hk => hk, fun k hk => Or.inl hk⟩
  case round =>
    obtain ⟨left, cnt, hrg, hb, hz, hg, hf, hle, hno⟩ := hrel
    have HB : Hid (Below w.heap.size w wr) := hb
    have HNO : Hid (∀ k, has D k = true → left k = true ∨ ∀ c, (∀ zd, D.atKey k zd = .lit (.int .i64 c)) → c ≠ id) := hno
    have HLE : Hid (∀ k, left k = true → has D k = true) := hle
    have HG : Hid (∀ o, wr.cell? ⟨w.heap.size, o, none⟩ = (#[.int .i64 0, .int .i64 0, .int .i64 0] : Array Value)[o]?) := hg
    have HF : Hid (∀ o, wr.frozen? ⟨w.heap.size, o, none⟩ = false) := hf
    clear hb hno hle hg hf g0 f0 b0
    go_wp2_with (first
      | (at_next; refine wpList_next_ranges _ rfl _ rfl 52 law (plainElem Try.prog 3) mkP (Value.int .i64) invP invI mb (w.heap.size + 1) n _ _ _ rfl hrg ?_ ?_)
      | go_in)
    · intro _ hl0
      have q0 := set3_0 HG.out
      have q1 := set3_1 HG.out
      have q2 := set3_2 HG.out
      have g0 := HG.out 0; have g1 := HG.out 1; have g2 := HG.out 2
      have f0 := HF.out 0; have f1 := HF.out 1; have f2 := HF.out 2
      simp at g0 g1 g2
      have HL0 : Hid (∀ kl, left kl = false) := hl0
      clear hl0 hrg
      go_wp2
      (try simp only [Exit.inBlock, Exit.then])
      refine bodyPost_ret (by simp [results, Try.results130, go_sem, q0, q1, q2]; try rfl) rfl ?_
      refine ⟨0, 0, 0, false, by simp, Or.inr ⟨rfl, rfl, rfl, rfl, fun k hk => ?_⟩, by have := HB.out; go_grown⟩
      rcases HNO.out k hk with h | h
      · rw [HL0.out k] at h; cases h
      · exact h
    · intro x y z c kl v vp w1 cnt1 hkey hlx hv hat hrg1 hlt1 hg1 hs1 hen
      obtain ⟨x', y', z', e', hkl, wx, wy, wz⟩ := key_inv hkey
      simp only [mkP, Value.agg.injEq, Array.mk.injEq, List.cons.injEq, Value.int.injEq, true_and, and_true] at e'
      obtain ⟨rfl, rfl, rfl⟩ := e'
      subst hkl
      obtain ⟨c', ec, ev, wc⟩ := plainElem_int_inv Try.underlying3 hv
      cases ec
      cases ev
      simp only [mkP] at hen ⊢
      have HB1 : Hid (Below w.heap.size w w1) := grown_new HB.out hg1 (by omega)
      have HG1 : Hid (∀ o, w1.cell? ⟨w.heap.size, o, none⟩ = (#[.int .i64 0, .int .i64 0, .int .i64 0] : Array Value)[o]?) := fun o => by
        have := hg1.block w.heap.size (by omega) (by simp)
        rw [← HG.out o]; simp only [World.cell?, this]
      have HF1 : Hid (∀ o, w1.frozen? ⟨w.heap.size, o, none⟩ = false) := fun o => by
        have := hg1.block w.heap.size (by omega) (by simp)
        rw [← HF.out o]; simp only [World.frozen?, this]
      have HAT : Hid (∀ zd, D.atKey (pk x y z) zd = .lit (.int .i64 c)) := hat
      have HLX : Hid (left (pk x y z) = true) := hlx
      have HRG : Hid (wr.ranges Try.prog 52 (plainElem Try.prog 3) mb (w.heap.size + 1) n D left cnt) := hrg
      have HRG1 : Hid (w1.ranges Try.prog 52 (plainElem Try.prog 3) mb (w.heap.size + 1) n D (fun z' => left z' && !z'.sameKey (pk x y z)) cnt1) := hrg1
      clear hat hlx hrg hrg1 hg1 hv hkey
      have z1 : w.heap.size < w1.heap.size := by omega
      have HG2 : Hid (∀ o' o, (w1.alloc o').cell? ⟨w.heap.size, o, none⟩ = (#[.int .i64 0, .int .i64 0, .int .i64 0] : Array Value)[o]?) := fun o' o => (B.cell (B.new1 w1 o') _ o z1).trans (HG1.out o)
      have HF2 : Hid (∀ o' o, (w1.alloc o').frozen? ⟨w.heap.size, o, none⟩ = false) := fun o' o => (B.frozen (B.new1 w1 o') _ o z1).trans (HF1.out o)
      have g0 : ∀ o', (w1.alloc o').cell? ⟨w.heap.size, 0, none⟩ = some (.int .i64 0) := fun o' => HG2.out o' 0
      have g1 : ∀ o', (w1.alloc o').cell? ⟨w.heap.size, 1, none⟩ = some (.int .i64 0) := fun o' => HG2.out o' 1
      have g2 : ∀ o', (w1.alloc o').cell? ⟨w.heap.size, 2, none⟩ = some (.int .i64 0) := fun o' => HG2.out o' 2
      have f0 : ∀ o', (w1.alloc o').frozen? ⟨w.heap.size, 0, none⟩ = false := fun o' => HF2.out o' 0
      have f1 : ∀ o', (w1.alloc o').frozen? ⟨w.heap.size, 1, none⟩ = false := fun o' => HF2.out o' 1
      have f2 : ∀ o', (w1.alloc o').frozen? ⟨w.heap.size, 2, none⟩ = false := fun o' => HF2.out o' 2
      have q0 := fun o' => set3_0 (HG2.out o')
      have q1 := fun o' => set3_1 (HG2.out o')
      have q2 := fun o' => set3_2 (HG2.out o')
      by_cases hc : c = id
      · subst hc
        go_wp2
        (try simp only [Exit.inBlock, Exit.then])
        refine bodyPost_ret (by simp [results, Try.results130, go_sem, q0, q1, q2]; try rfl) rfl ?_
        exact ⟨x, y, z, true, by simp, Or.inl ⟨rfl, HLE.out _ HLX.out, HAT.out, wx, wy, wz⟩, by have := HB1.out; go_grown⟩
      · have hc' : (c == id) = false := by simpa using hc
        have HC : Hid (c ≠ id) := hc
        clear hc
        go_wp2
        refine ⟨⟨_, cnt1, World.ranges.alloc HRG1.out _, HB1.out.alloc (by omega) _, by simp; omega, fun o => HG2.out _ o, fun o => HF2.out _ o, fun k hk => ?_, fun k hk => ?_⟩, ?_⟩
        · simp only [Bool.and_eq_true] at hk
          exact HLE.out k hk.1
        · by_cases hkk : k = pk x y z
          · subst hkk
            exact Or.inr fun c2 h2 e2 => HC.out (by have := (h2 (.lit (.int .i64 0))).symm.trans (HAT.out _); simp at this; omega)
          · rcases HNO.out k hk with h | h
            · exact Or.inl (by rw [h, sameKey_ne hkk]; rfl)
            · exact Or.inr h
        · rw [(World.ranges.alloc HRG1.out _).left_eq, HRG.out.left_eq]
          exact hlt1

/-- Is a car in some place? -/
def whereB (D : DataW Unit) (id : Int) : Prop := ∃ x y z, WhereP D id x y z true

theorem WhereP.iff {D : DataW Unit} {id x y z : Int} {b : Bool} (h : WhereP D id x y z b) : b = true ↔ whereB D id := by
  rcases h with ⟨rfl, h1, h2, h3⟩ | ⟨rfl, h0, h1, h2, h3⟩
  · exact ⟨fun _ => ⟨x, y, z, Or.inl ⟨rfl, h1, h2, h3⟩⟩, fun _ => rfl⟩
  · refine ⟨fun h => absurd h (by simp), fun ⟨x', y', z', h'⟩ => ?_⟩
    rcases h' with ⟨_, k1, k2, _⟩ | ⟨k, _⟩
    · exact absurd rfl (h3 _ k1 _ k2)
    · cases k

end Pl
end Go.Proofs.Yticjjnmmedmbiab
