/- Chapter 7: which places are barred (E3); contracts for the laws. -/
import Derived.Test.YtopgllmjeliklaaGreatDoorJSlicesJ
import Derived.Test.YtopgllmjeliklaaGreatDoorJRead
import Derived.Deep.RegionHeld3
import Derived.Deep.DeepCutAuto
import Derived.Deep.LoopGhost
namespace Go.Proofs.YtopgllmjeliklaaGreatDoor
open Go.Shelf Go.Lib Go.ChangeShapes Go.WideShapes Go.ChangeAt Go.RowKit
set_option maxRecDepth 100000
set_option linter.unusedSimpArgs false
set_option linter.unusedVariables false

namespace Bk
/-- The places' equality. -/
def eqP (a b c x y z : Int) : Bool := a == x && b == y && c == z
theorem eqP_run (a b c x y z : Int) (w : World) : Sem.run Tryz.prog (binOp .eql 65 (.agg #[.int .i64 a, .int .i64 b, .int .i64 c]) (.agg #[.int .i64 x, .int .i64 y, .int .i64 z])) w = .ok (.bool (eqP a b c x y z)) w := eqPlace.1 (a, b, c) (x, y, z) w
theorem eqP_guard (a b c x y z : Int) (op : BinOp) (u v : Operand) (w : World) : Sem.run Tryz.prog (eqGuard op 65 u v (.agg #[.int .i64 a, .int .i64 b, .int .i64 c]) (.agg #[.int .i64 x, .int .i64 y, .int .i64 z])) w = .ok () w := eqPlace.2 op u v (a, b, c) (x, y, z) w

/-- A stay bars a place. -/
def barP (px py pz : Int) (jobs : List Job) (s : Stay) : Bool :=
  eqP s.x s.y s.z px py pz || eqP s.x s.y s.z px py 0 || (eqP s.x s.y 0 px py pz && hasJob jobs ⟨s.t, false⟩)

set_option maxHeartbeats 2000000 in
theorem barred1_any (px py pz : Int) (jobs : List Job) (ja : Option Addr) (jc : Nat) (B0 P0 : Nat) (s : Stay) (w : World) (hB : B0 < w.heap.size) (hP : P0 < w.heap.size)
    (hp : ∀ o, w.cell? ⟨P0, o, none⟩ = (#[.int .i64 px, .int .i64 py, .int .i64 pz] : Array Value)[o]?) (hj : w.cell? ⟨B0, 2, none⟩ = some (.slice ja jobs.length jc)) (hr : RowsAt w ja jc 2 Job.enc jobs) :
    Calls Tryz.prog 97 #[.agg #[.int .i64 s.t, .int .i64 s.id, .int .i64 s.a, .int .i64 s.b, .int .i64 s.c, .int .i64 s.x, .int .i64 s.y, .int .i64 s.z], .pointer (some ⟨P0, 0, none⟩), .pointer (some ⟨B0, 0, none⟩)] w fun e w' => e = .returned (.bool (barP px py pz jobs s)) ∧ Below w.heap.size w w' := by
  obtain ⟨t, id, a, b, c, x, y, z⟩ := s
  simp only
  obtain ⟨wa, hwa⟩ : ∃ wa, w.alloc (.cells #[.int .i64 t, .int .i64 id, .int .i64 a, .int .i64 b, .int .i64 c, .int .i64 x, .int .i64 y, .int .i64 z] 67) = wa := ⟨_, rfl⟩
  have NB : Below w.heap.size w wa := by rw [← hwa]; exact B.new1 _ _
  have NS : w.heap.size < wa.heap.size := by rw [← hwa]; simp
  have rp : ∀ o, wa.cell? ⟨P0, o, none⟩ = (#[.int .i64 px, .int .i64 py, .int .i64 pz] : Array Value)[o]? := B.row NB hp hP
  have rj : wa.cell? ⟨B0, 2, none⟩ = some (.slice ja jobs.length jc) := (NB.cell (p := ⟨B0, 2, none⟩) hB).trans hj
  have rs : ∀ o, wa.cell? ⟨w.heap.size, o, none⟩ = (#[.int .i64 t, .int .i64 id, .int .i64 a, .int .i64 b, .int .i64 c, .int .i64 x, .int .i64 y, .int .i64 z] : Array Value)[o]? := by rw [← hwa]; exact B.row_new _ _ _
  have HJ : Hid (RowsAt wa ja jc 2 Job.enc jobs) := hr.below NB
  have e1 := eqP_run x y z px py pz
  have g1 := eqP_guard x y z px py pz
  have e2 := eqP_run x y z px py 0
  have g2 := eqP_guard x y z px py 0
  have e3 := eqP_run x y 0 px py pz
  have g3 := eqP_guard x y 0 px py pz
  have KB : Hid (barP px py pz jobs ⟨t, id, a, b, c, x, y, z⟩ = (eqP x y z px py pz || eqP x y z px py 0 || (eqP x y 0 px py pz && hasJob jobs ⟨t, false⟩))) := rfl
  rw [KB.out]
  clear KB hp hj hr
  generalize eqP x y z px py pz = q1 at *
  generalize eqP x y z px py 0 = q2 at *
  generalize eqP x y 0 px py pz = q3 at *
  have CX : Hid (∀ wx, Below wa.heap.size wa wx → wx.cell? ⟨P0, 0, none⟩ = some (.int .i64 px) ∧ wx.cell? ⟨P0, 1, none⟩ = some (.int .i64 py) ∧ wx.cell? ⟨P0, 2, none⟩ = some (.int .i64 pz) ∧ wx.cell? ⟨w.heap.size, 0, none⟩ = some (.int .i64 t) ∧ wx.cell? ⟨w.heap.size, 5, none⟩ = some (.int .i64 x) ∧ wx.cell? ⟨w.heap.size, 6, none⟩ = some (.int .i64 y) ∧ wx.cell? ⟨w.heap.size, 7, none⟩ = some (.int .i64 z) ∧ wx.cell? ⟨B0, 2, none⟩ = some (.slice ja jobs.length jc)) := fun wx hb => by
    have hz := NB.size
    have a1 := B.row hb rp (by omega)
    have a2 := B.row hb rs NS
    exact ⟨a1 0, a1 1, a1 2, a2 0, a2 5, a2 6, a2 7, (hb.cell (p := ⟨B0, 2, none⟩) (by show B0 < _; omega)).trans rj⟩
  have NBH : Hid (Below w.heap.size w wa) := NB
  have JX : Hid (∀ wx, Below wa.heap.size wa wx → RowsAt wx ja jc 2 Job.enc jobs) := fun wx hb => HJ.out.below hb
  clear rp rs rj NB HJ
  have p0 := fun p : BelowW wa => (CX.out p.wd p.hb).1
  have p1 := fun p : BelowW wa => (CX.out p.wd p.hb).2.1
  have p2 := fun p : BelowW wa => (CX.out p.wd p.hb).2.2.1
  have s5 := fun p : BelowW wa => (CX.out p.wd p.hb).2.2.2.2.1
  have s6 := fun p : BelowW wa => (CX.out p.wd p.hb).2.2.2.2.2.1
  have s7 := fun p : BelowW wa => (CX.out p.wd p.hb).2.2.2.2.2.2.1
  have j2 := fun p : BelowW wa => (CX.out p.wd p.hb).2.2.2.2.2.2.2
  have s0 := fun p : BelowW wa => (CX.out p.wd p.hb).2.2.2.1
  clear hB hP NS
  generalize hq4 : hasJob jobs ⟨t, false⟩ = q4
  have Q4 : Hid (hasJob jobs ⟨t, false⟩ = q4) := hq4
  clear hq4
  cases q1
  · cases q2
    · go_enter Tryz.func97, Tryz.ntmps97
      go_wp2_with fail
      refine wp_region_below (by kernel_rfl) (by kernel_rfl) ?_
      repeat (quiet_step (first | (go_at_call 98; exact Calls.wof (front_any _ _ _ _))))
      refine wpQuiet_nil ?_
      rintro wb ⟨⟨_, NB⟩, rfl⟩
      go_wp2_with fail
      have B1 : Hid (Below w.heap.size w wb) := B.next NBH.out NB NBH.out.size
      have CY : Hid (∀ p : BelowW wb, Below wa.heap.size wa p.wd) := fun p => B.next NB p.hb NB.size
      clear p0 p1 p2 s0 s5 s6 s7 j2
      have p0 := fun p : BelowW wb => (CX.out p.wd (CY.out p)).1
      have p1 := fun p : BelowW wb => (CX.out p.wd (CY.out p)).2.1
      have p2 := fun p : BelowW wb => (CX.out p.wd (CY.out p)).2.2.1
      have s0 := fun p : BelowW wb => (CX.out p.wd (CY.out p)).2.2.2.1
      have s5 := fun p : BelowW wb => (CX.out p.wd (CY.out p)).2.2.2.2.1
      have s6 := fun p : BelowW wb => (CX.out p.wd (CY.out p)).2.2.2.2.2.1
      have s7 := fun p : BelowW wb => (CX.out p.wd (CY.out p)).2.2.2.2.2.2.1
      have j2 := fun p : BelowW wb => (CX.out p.wd (CY.out p)).2.2.2.2.2.2.2
      cases q3
      · refine wp_region_below (by kernel_rfl) (by kernel_rfl) ?_
        repeat (quiet_step (first | (go_at_call 98; exact Calls.wof (front_any _ _ _ _))))
        refine wpQuiet_nil ?_
        rintro wc ⟨⟨_, NC⟩, rfl⟩
        go_wp2
        go_returns
        exact ⟨rfl, B.next B1.out NC B1.out.size⟩
      · refine wp_region_below (by kernel_rfl) (by kernel_rfl) ?_
        repeat (quiet_step (first | (go_at_call 98; exact Calls.wof (front_any _ _ _ _)) | (go_at_call 62; exact Calls.wof (hasJob_any _ _ _ _ _ _ (JX.out _ (CY.out _))))))
        refine wpQuiet_nil ?_
        rintro wc ⟨⟨_, NC⟩, rfl⟩
        go_wp2
        go_returns
        refine ⟨?_, B.next B1.out NC B1.out.size⟩
        rw [← Q4.out]
        rfl
    · go_enter Tryz.func97, Tryz.ntmps97
      go_wp2_with fail
      refine wp_region_below (by kernel_rfl) (by kernel_rfl) ?_
      repeat (quiet_step (first | (go_at_call 98; exact Calls.wof (front_any _ _ _ _))))
      refine wpQuiet_nil ?_
      rintro wb ⟨⟨_, NB⟩, rfl⟩
      go_wp2
      go_returns
      exact ⟨rfl, B.next NBH.out NB NBH.out.size⟩
  · go_enter Tryz.func97, Tryz.ntmps97
    go_wp2_with fail
    refine wp_region_below (by kernel_rfl) (by kernel_rfl) ?_
    repeat (quiet_step (fail))
    refine wpQuiet_nil ?_
    rintro wb ⟨⟨_, NB⟩, rfl⟩
    go_wp2
    go_returns
    exact ⟨rfl, B.next NBH.out NB NBH.out.size⟩

/-- Is a place barred? -/
def barredB (px py pz : Int) (b : Book) : Bool := b.stays.any (barP px py pz b.jobs)

set_option maxHeartbeats 2000000 in
theorem barred_any (px py pz : Int) (b : Book) (w : World) (h : b.At w) :
    Calls Tryz.prog 66 #[b.val, .agg #[.int .i64 px, .int .i64 py, .int .i64 pz]] w fun e w' => e = .returned (.bool (barredB px py pz b)) ∧ Below w.heap.size w w' := by
  unfold barredB
  obtain ⟨last, sa, sc, ja, jc, stays, jobs⟩ := b
  obtain ⟨h1, h2⟩ := h
  simp only [Book.val] at *
  obtain ⟨w1, hw1⟩ : ∃ w1, (w.alloc (.cells #[.int .i64 last, .slice sa stays.length sc, .slice ja jobs.length jc] 39)).alloc (.cells #[.int .i64 px, .int .i64 py, .int .i64 pz] 65) = w1 := ⟨_, rfl⟩
  have z1 : w1.heap.size = w.heap.size + 2 := by rw [← hw1]; simp
  have NB : Below w.heap.size w w1 := by rw [← hw1]; exact (B.new1 _ _).alloc (by simp) _
  have r0 : ∀ o, w1.cell? ⟨w.heap.size, o, none⟩ = (#[.int .i64 last, .slice sa stays.length sc, .slice ja jobs.length jc] : Array Value)[o]? := by rw [← hw1]; exact B.row_old _ (B.row_new _ _ _) (by simp)
  have r1 : ∀ o, w1.cell? ⟨w.heap.size + 1, o, none⟩ = (#[.int .i64 px, .int .i64 py, .int .i64 pz] : Array Value)[o]? := by
    rw [← hw1, ← B.new_size w (.cells #[.int .i64 last, .slice sa stays.length sc, .slice ja jobs.length jc] 39)]
    exact B.row_new _ _ _
  have HP : PredBelow Tryz.prog 97 #[.pointer (some ⟨w.heap.size + 1, 0, none⟩), .pointer (some ⟨w.heap.size, 0, none⟩)] (fun x : Stay => .agg x.enc.toArray) (barP px py pz jobs) w1 := fun W x hb => by
    refine (barred1_any px py pz jobs ja jc w.heap.size (w.heap.size + 1) x W (by have := hb.size; omega) (by have := hb.size; omega) (B.row hb r1 (by omega)) ?_ (h2.below (B.next NB hb (by omega)))).mono ?_
    · exact (hb.cell (p := ⟨w.heap.size, 2, none⟩) (by show w.heap.size < _; omega)).trans (r0 2)
    · rintro e w' ⟨rfl, hb'⟩
      exact ⟨rfl, B.next hb hb' hb.size⟩
  have HC : Hid (Calls Tryz.prog 94 #[.slice sa stays.length sc, .func (.func 97) #[] #[.pointer (some ⟨w.heap.size + 1, 0, none⟩), .pointer (some ⟨w.heap.size, 0, none⟩)]] w1 fun e w' => e = .returned (.bool (stays.any (barP px py pz jobs))) ∧ Below w1.heap.size w1 w') :=
    hasStay_any (barP px py pz jobs) 97 _ (enters_of Tryz.func97 (by kernel_rfl) rfl) sa sc stays w1 (h1.below NB) HP
  have hmf : ∀ (fn : Fn) (first cap : Array Value) (w : World), (Instr.makeFunc fn first cap).run Tryz.prog w = .ok (.func fn first cap) w := fun _ _ _ _ => rfl
  have NH : Hid (Below w.heap.size w w1 ∧ w1.heap.size = w.heap.size + 2) := ⟨NB, z1⟩
  clear h1 h2 HP NB z1
  generalize stays.any (barP px py pz jobs) = r at *
  go_enter Tryz.func66, Tryz.ntmps66
  go_wp2_with fail
  refine HC.out.mono ?_
  rintro e w' ⟨rfl, hb⟩
  have NC : Hid (Below w.heap.size w w') := B.next NH.out.1 hb (by have := NH.out.2; omega)
  clear hb
  go_wp2
  go_returns
  exact ⟨rfl, NC.out⟩

end Bk
end Go.Proofs.YtopgllmjeliklaaGreatDoor

namespace Go.Proofs.YtopgllmjeliklaaGreatDoor
open Go.ChangeShapes Go.WideShapes Go.ChangeAt Go.RowKit
set_option maxRecDepth 100000
set_option linter.unusedSimpArgs false
set_option linter.unusedVariables false

theorem flatP_0 : ∀ (l : List (Int × Int × Int)) (k : Nat) (h : k < l.length), (flatP l)[k * 3]? = some (.int .i64 l[k].1)
  | g :: l, 0, _ => rfl
  | g :: l, k + 1, h => by
    rw [show (k + 1) * 3 = k * 3 + 1 + 1 + 1 from by omega]
    simpa [flatP] using flatP_0 l k (by simpa using h)
theorem flatP_1 : ∀ (l : List (Int × Int × Int)) (k : Nat) (h : k < l.length), (flatP l)[k * 3 + 1]? = some (.int .i64 l[k].2.1)
  | g :: l, 0, _ => rfl
  | g :: l, k + 1, h => by
    rw [show (k + 1) * 3 + 1 = k * 3 + 1 + 1 + 1 + 1 from by omega]
    simpa [flatP] using flatP_1 l k (by simpa using h)
theorem flatP_2 : ∀ (l : List (Int × Int × Int)) (k : Nat) (h : k < l.length), (flatP l)[k * 3 + 2]? = some (.int .i64 l[k].2.2)
  | g :: l, 0, _ => rfl
  | g :: l, k + 1, h => by
    rw [show (k + 1) * 3 + 2 = k * 3 + 2 + 1 + 1 + 1 from by omega]
    simpa [flatP] using flatP_2 l k (by simpa using h)

/-- A list of places lies there, by its numbers. -/
def PlacesAt (w : World) (g m : Nat) (f : Nat → Int × Int × Int) : Prop :=
  g < w.heap.size ∧ ∀ k, k < m → w.cell? ⟨g, k * 3, none⟩ = some (.int .i64 (f k).1) ∧ w.cell? ⟨g, k * 3 + 1, none⟩ = some (.int .i64 (f k).2.1) ∧ w.cell? ⟨g, k * 3 + 2, none⟩ = some (.int .i64 (f k).2.2)
theorem PlacesOwn.at {w w' : World} {v : Value} {l : List (Int × Int × Int)} (h : PlacesOwn w w' v l) (h0 : 0 < l.length) : ∃ g cap, v = .slice (some ⟨g, 0, none⟩) l.length cap ∧ PlacesAt w' g l.length (fun k => l.getD k (0, 0, 0)) := by
  obtain ⟨ho, hb⟩ := h
  have ho' := ho
  rcases ho.2 with ⟨_, hn⟩ | ⟨g, cap, cur, rfl, hg, hblk, _⟩
  · omega
  · have e : ∀ k (h : k < l.length), l.getD k (0, 0, 0) = l[k] := fun k h => by simp [List.getD, h]
    refine ⟨g, cap, rfl, ?_, fun k hk => ⟨?_, ?_, ?_⟩⟩
    · rcases Nat.lt_or_ge g w'.heap.size with h | h
      · exact h
      · rw [Array.getElem?_eq_none h] at hblk; cases hblk
    · rw [ho'.cellAt _ (by omega), flatP_0 l k hk, ← e k hk]
    · rw [ho'.cellAt _ (by omega), flatP_1 l k hk, ← e k hk]
    · rw [ho'.cellAt _ (by omega), flatP_2 l k hk, ← e k hk]
theorem PlacesAt.below {w w' : World} {g m : Nat} {f : Nat → Int × Int × Int} (h : PlacesAt w g m f) (hb : Below w.heap.size w w') : PlacesAt w' g m f := by
  obtain ⟨hg, hc⟩ := h
  refine ⟨Nat.lt_of_lt_of_le hg hb.size, fun k hk => ?_⟩
  exact ⟨(hb.cell (p := ⟨g, _, none⟩) hg).trans (hc k hk).1, (hb.cell (p := ⟨g, _, none⟩) hg).trans (hc k hk).2.1, (hb.cell (p := ⟨g, _, none⟩) hg).trans (hc k hk).2.2⟩

theorem places_one_len : (placesTo 1 (2 * 1)).length = 2 := by decide
/-- The list of places, as it is to be: how many; each a place; none spare, nor behind it; behind ahead of in front; each once. -/
theorem places_len (n : Nat) (h1 : 1 ≤ n) (h4 : n ≤ 4) : (placesTo n (2 * n)).length = 4 * n - 2 := by
  rcases (show n = 1 ∨ n = 2 ∨ n = 3 ∨ n = 4 from by omega) with rfl | rfl | rfl | rfl <;> decide
def goodAt (n i : Nat) (f : Nat → Int × Int × Int) : Prop :=
  placeB (f i).1 (f i).2.1 (f i).2.2 n = true ∧ ¬ ((f i).1 = n ∧ (f i).2.1 = 1) ∧ (f i).2.2 = 1 - ((i % 2 : Nat) : Int) ∧ ∀ k, k < i → ¬ ((f k).1 = (f i).1 ∧ (f k).2.1 = (f i).2.1 ∧ (f k).2.2 = (f i).2.2)
theorem places_good (n : Nat) (h1 : 1 ≤ n) (h4 : n ≤ 4) : ∀ i, i < 4 * n - 2 → goodAt n i (fun k => (placesTo n (2 * n)).getD k (0, 0, 0)) := by
  rcases (show n = 1 ∨ n = 2 ∨ n = 3 ∨ n = 4 from by omega) with rfl | rfl | rfl | rfl <;> (unfold goodAt; decide)

theorem depth_ok (d : Int) (k : Nat) (h : d = 1 - ((k % 2 : Nat) : Int)) : (d != IntKind.i64.wrap (1 - (k : Int).tmod 2)) = false := by
  have e : (k : Int).tmod 2 = ((k % 2 : Nat) : Int) := by rw [Int.tmod_eq_emod_of_nonneg (by omega)]; omega
  rw [e, IntKind.wrap_i64, h]
  simp only [bne_eq_false_iff_eq]
  omega

-- left out: this seat has not what it speaks of

/-- What the loops hold: the list, the spare place, and what lies below. -/
def TP (w wx : World) (g m N n : Nat) (f : Nat → Int × Int × Int) : Prop :=
  PlacesAt wx g m f ∧ Below w.heap.size w wx ∧ w.heap.size ≤ N ∧ N + 1 ≤ wx.heap.size ∧ ∀ o, wx.cell? ⟨N, o, none⟩ = (#[.int .i64 n, .int .i64 1, .int .i64 0] : Array Value)[o]?
theorem TP.below {w wx W : World} {g m N n : Nat} {f : Nat → Int × Int × Int} (h : TP w wx g m N n f) (hb : Below wx.heap.size wx W) : TP w W g m N n f := by
  obtain ⟨h0, h1, h2, h3, h4⟩ := h
  have hz := hb.size
  exact ⟨h0.below hb, B.next h1 hb (by omega), h2, by omega, B.row hb h4 (by omega)⟩
theorem TP.drew {w wx : World} {g m N n : Nat} {f : Nat → Int × Int × Int} (h : TP w wx g m N n f) : TP w wx.drew g m N n f := by
  refine h.below ⟨rfl, rfl, rfl, Nat.le_refl _, fun _ _ => rfl⟩
theorem TP.drewN {w wx : World} {g m N n : Nat} {f : Nat → Int × Int × Int} (h : TP w wx g m N n f) (q : Nat) : TP w (wx.drewN q) g m N n f := by
  refine h.below ⟨rfl, rfl, rfl, Nat.le_refl _, fun _ _ => rfl⟩

-- left out: this seat has not what it speaks of

-- left out: this seat has not what it speaks of

-- left out: this seat has not what it speaks of

end Go.Proofs.YtopgllmjeliklaaGreatDoor
