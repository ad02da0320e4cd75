/- All cars that a machine has, anywhere: contract of the laws' own function 'cars'. -/
import Derived.Test.YtihapeagjikiaaaJPlaces
import Derived.Test.YtihapeagjikiaaaJOutside
namespace Go.Proofs.Ytihapeagjikiaaa
open Go.ChangeShapes Go.WideShapes Go.ChangeAt Go.RowKit Go.Maps
set_option maxRecDepth 100000
set_option linter.unusedSimpArgs false
set_option linter.unusedVariables false

namespace Pl
open Ac
def ints (l : List Int) : List Value := l.map (Value.int .i64)
theorem ints_length (l : List Int) : (ints l).length = l.length * 1 := by simp [ints]
theorem ints_append (l m : List Int) : ints (l ++ m) = ints l ++ ints m := by simp [ints]
/-- The car at the place number m. -/
def carN (s : St) (m : Nat) : Int := carOf s.D (((m / 4 : Nat) : Int) + 1) ((m % 4 / 2 : Nat) : Int) ((m % 2 : Nat) : Int)
def headL (s : St) : List Int := (if s.li = 0 then [] else [s.li]) ++ (if s.ba = 0 then [] else [s.ba])
/-- The cars on the lift, in the bay, and in the first m places. -/
def carsTo (s : St) : Nat → List Int
  | 0 => headL s
  | m + 1 => if carN s m = 0 then carsTo s m else carsTo s m ++ [carN s m]
def carsL (s : St) : List Int := carsTo s 16
theorem headL_le (s : St) : (headL s).length ≤ 2 := by
  unfold headL
  split <;> split <;> simp
theorem carsTo_le (s : St) : ∀ m, (carsTo s m).length ≤ m + 2
  | 0 => headL_le s
  | m + 1 => by
    have := carsTo_le s m
    unfold carsTo
    split
    · omega
    · simp; omega
theorem carN_at (s : St) (k j : Nat) (hj : j < 4) : carN s (4 * k + j) = carOf s.D ((k : Int) + 1) ((j / 2 : Nat) : Int) ((j % 2 : Nat) : Int) := by
  unfold carN
  rw [show (4 * k + j) / 4 = k from by omega, show (4 * k + j) % 4 = j from by omega, show (4 * k + j) % 2 = j % 2 from by omega]

/-- A list of numbers of the call's own. -/
def IntsOwn (w w' : World) (v : Value) (l : List Int) : Prop := w'.ownsRow w.heap.size 3 1 v l.length (ints l) ∧ Below w.heap.size w w'
theorem IntsOwn.below {w wx W : World} {v : Value} {l : List Int} (h : IntsOwn w wx v l) (hb : Below wx.heap.size wx W) : IntsOwn w W v l :=
  ⟨owns_below h.1 hb, B.next h.2 hb h.2.size⟩
theorem IntsOwn.grown {w W w3 : World} {v v' : Value} {l : List Int} {x : Int} (h : IntsOwn w W v l) (ho : w3.ownsRow w.heap.size 3 1 v' (l.length + 1) (ints l ++ [.int .i64 x])) (hg : W.grownBy w3 v.ownBlock) : IntsOwn w w3 v' (l ++ [x]) := by
  refine ⟨?_, Below.grown h.2 hg h.2.size (fun k hk => (h.1.lt k hk).1)⟩
  rw [ints_append, List.length_append]
  exact ho
theorem IntsOwn.nil {w W : World} (h : Below w.heap.size w W) : IntsOwn w W (.slice none 0 0) [] := ⟨World.ownsRow_nil _ _ _ _, h⟩
theorem Try.infoInt : (Try.prog.info? 3).map (fun i => (i.zero, i.size, i.bytes)) = some (some (.int .i64 0), 1, 8) := by kernel_rfl

-- left out: this seat has not what it speaks of

end Pl
end Go.Proofs.Ytihapeagjikiaaa

namespace Go.Proofs.Ytihapeagjikiaaa
open Go.ChangeShapes Go.WideShapes Go.ChangeAt Go.RowKit Go.Maps
set_option maxRecDepth 100000
set_option linter.unusedSimpArgs false
set_option linter.unusedVariables false

namespace Pl
open Ac
/-- A list of numbers lies in memory. -/
def IntsAt (w : World) (v : Value) (l : List Int) : Prop :=
  ∃ (ad : Option Addr) (cap : Nat), v = .slice ad l.length cap ∧ l.length ≤ cap ∧ cap ≤ maxLen ∧
    (0 < l.length → ∃ b off, ad = some ⟨b, off, none⟩ ∧ b < w.heap.size ∧ ∀ i, i < l.length → w.cell? ⟨b, off + i, none⟩ = some (.int .i64 (l.getD i 0)))
theorem IntsAt.below {w w' : World} {v : Value} {l : List Int} (h : IntsAt w v l) (hb : Below w.heap.size w w') : IntsAt w' v l := by
  obtain ⟨ad, cap, hv, h1, h2, hc⟩ := h
  refine ⟨ad, cap, hv, h1, h2, fun h0 => ?_⟩
  obtain ⟨b, off, ha, hlt, hcell⟩ := hc h0
  exact ⟨b, off, ha, Nat.lt_of_lt_of_le hlt hb.size, fun i hi => (hb.cell (p := ⟨b, _, none⟩) hlt).trans (hcell i hi)⟩
theorem IntsOwn.at {w w' : World} {v : Value} {l : List Int} (h : IntsOwn w w' v l) : IntsAt w' v l := by
  rcases h.1.2 with ⟨rfl, h0⟩ | ⟨g, cap, cur, rfl, hg, r⟩
  · exact ⟨none, 0, by rw [h0], by omega, Nat.zero_le _, fun h => by omega⟩
  · have hlt := (h.1.lt g rfl).2
    refine ⟨some ⟨g, 0, none⟩, cap, rfl, ?_, ?_, fun h0 => ⟨g, 0, rfl, hlt, fun i hi => ?_⟩⟩
    · exact r.2.1
    · exact r.2.2.1
    · have := h.1.cells (g := g) rfl i (.int .i64 (l.getD i 0)) (by simp [ints, List.getD, List.getElem?_eq_getElem hi])
      have ad : (⟨g, 0, none⟩ : Addr).add i = ⟨g, 0 + i, none⟩ := by
        unfold Addr.add
        split
        · rename_i h; subst h; rfl
        · simp
      rw [ad] at this
      exact this

theorem count_take (l : List Int) (x : Int) (j : Nat) (hj : j < l.length) : (l.take (j + 1)).count x = (l.take j).count x + (if l.getD j 0 = x then 1 else 0) := by
  rw [List.take_add_one, List.getElem?_eq_getElem hj, List.count_append]
  have : l.getD j 0 = l[j] := by simp [List.getD, List.getElem?_eq_getElem hj]
  rw [this]
  simp [List.count_cons]

/-- How much oftener a number is in the first j of one list than of the other. -/
def more (a b : List Int) (x : Int) (j : Nat) : Int := ((a.take j).count x : Int) - ((b.take j).count x : Int)
theorem more_le (a b : List Int) (x : Int) (j : Nat) : -(j : Int) ≤ more a b x j ∧ more a b x j ≤ j := by
  have h1 := List.count_le_length (a := x) (l := a.take j)
  have h2 := List.count_le_length (a := x) (l := b.take j)
  rw [List.length_take] at h1 h2
  unfold more
  omega
theorem more_step (a b : List Int) (x : Int) (j : Nat) (ha : j < a.length) (hb : j < b.length) : more a b x (j + 1) = more a b x j + (if a.getD j 0 = x then 1 else 0) - (if b.getD j 0 = x then 1 else 0) := by
  unfold more
  rw [count_take a x j ha, count_take b x j hb]
  split <;> split <;> simp <;> omega
theorem more_all (a b : List Int) (x : Int) (h : ∀ x, a.count x = b.count x) (hl : a.length = b.length) : more a b x a.length = 0 := by
  unfold more
  rw [List.take_length, hl, List.take_length, h x]
  omega

-- left out: this seat has not what it speaks of

theorem contains_take (l : List Int) (x : Int) (j : Nat) (hj : j < l.length) : (l.take (j + 1)).contains x = ((l.take j).contains x || (l.getD j 0 == x)) := by
  have h1 : l.getD j 0 = l[j] := by simp [List.getD, List.getElem?_eq_getElem hj]
  rw [List.take_add_one, List.getElem?_eq_getElem hj, h1, Bool.eq_iff_iff, List.contains_iff_mem, Bool.or_eq_true, List.contains_iff_mem, beq_iff_eq, List.mem_append]
  exact ⟨fun h => h.elim Or.inl (fun h => Or.inr (List.mem_singleton.1 h).symm), fun h => h.elim Or.inl (fun h => Or.inr (List.mem_singleton.2 h.symm))⟩

-- left out: this seat has not what it speaks of

end Pl
end Go.Proofs.Ytihapeagjikiaaa

namespace Go.Proofs.Ytihapeagjikiaaa
open Go.ChangeShapes Go.WideShapes Go.ChangeAt Go.RowKit Go.Maps
set_option maxRecDepth 100000
set_option linter.unusedSimpArgs false
set_option linter.unusedVariables false

namespace Pl
open Ac
def one (a x : Int) : Nat := if a = x then 1 else 0
/-- In how many of the first m places a car stands. -/
def countN (g : Nat → Int) (x : Int) : Nat → Nat
  | 0 => 0
  | m + 1 => countN g x m + one (g m) x
/-- How often a car is there. -/
def cnt (s : St) (x : Int) : Nat := one s.li x + one s.ba x + countN (carN s) x 16

theorem one_self (a : Int) : one a a = 1 := by simp [one]
theorem one_ne {a x : Int} (h : a ≠ x) : one a x = 0 := by simp [one, h]

theorem head_count (s : St) (x : Int) (hx : x ≠ 0) : (headL s).count x = one s.li x + one s.ba x := by
  unfold headL one
  by_cases h1 : s.li = 0 <;> by_cases h2 : s.ba = 0 <;> simp [h1, h2, List.count_cons] <;> (repeat' split) <;> simp_all <;> omega
theorem carsTo_count (s : St) (x : Int) (hx : x ≠ 0) : ∀ m, (carsTo s m).count x = one s.li x + one s.ba x + countN (carN s) x m
  | 0 => by simp [carsTo, countN, head_count s x hx]
  | m + 1 => by
    have ih := carsTo_count s x hx m
    unfold carsTo countN
    split
    · rename_i h
      rw [ih, h, one_ne (a := 0) (x := x) (by omega)]
      omega
    · rw [List.count_append, ih]
      simp only [List.count_cons, List.count_nil, one, beq_iff_eq]
      omega
theorem carsTo_zero (s : St) : ∀ m, (carsTo s m).count 0 = 0
  | 0 => by
    unfold carsTo headL
    by_cases h1 : s.li = 0 <;> by_cases h2 : s.ba = 0 <;> simp [h1, h2, List.count_cons]
  | m + 1 => by
    unfold carsTo
    split
    · exact carsTo_zero s m
    · rename_i h
      rw [List.count_append, carsTo_zero s m]
      simp [List.count_cons, h]
theorem carsL_count (s : St) (x : Int) : (carsL s).count x = if x = 0 then 0 else cnt s x := by
  split
  · rename_i h; subst h; exact carsTo_zero s 16
  · rename_i h; exact carsTo_count s x h 16

theorem countN_congr {g g' : Nat → Int} {x : Int} : ∀ m, (∀ j, j < m → g j = g' j) → countN g x m = countN g' x m
  | 0, _ => rfl
  | m + 1, h => by
    unfold countN
    rw [countN_congr m (fun j hj => h j (by omega)), h m (by omega)]
/-- One place is turned. -/
theorem countN_set {g g' : Nat → Int} {x : Int} {m0 : Nat} : ∀ m, m0 < m → (∀ j, j ≠ m0 → g' j = g j) → countN g' x m + one (g m0) x = countN g x m + one (g' m0) x
  | 0, h, _ => by omega
  | m + 1, h, hg => by
    unfold countN
    by_cases e : m = m0
    · subst e
      rw [countN_congr (g := g') (g' := g) m (fun j hj => hg j (by omega))]
      omega
    · have := countN_set (g := g) (g' := g') (x := x) m (by omega) hg
      rw [hg m e]
      omega

/-- A place's number. -/
theorem spot_idx {X Y Z : Int} (hX : 1 ≤ X ∧ X ≤ 4) (hY : 0 ≤ Y ∧ Y ≤ 1) (hZ : 0 ≤ Z ∧ Z ≤ 1) :
    ∃ m0, m0 < 16 ∧ (((m0 / 4 : Nat) : Int) + 1 = X ∧ ((m0 % 4 / 2 : Nat) : Int) = Y ∧ ((m0 % 2 : Nat) : Int) = Z) ∧ ∀ j, j ≠ m0 → ¬ (((j / 4 : Nat) : Int) + 1 = X ∧ ((j % 4 / 2 : Nat) : Int) = Y ∧ ((j % 2 : Nat) : Int) = Z) := by
  refine ⟨4 * (X - 1).toNat + 2 * Y.toNat + Z.toNat, by omega, by omega, fun j hj => by omega⟩

theorem carN_wf (j : Nat) (h : j < 1000000) : (Lit.int .i64 (((j / 4 : Nat) : Int) + 1)).wf = true ∧ (Lit.int .i64 ((j % 4 / 2 : Nat) : Int)).wf = true ∧ (Lit.int .i64 ((j % 2 : Nat) : Int)).wf = true :=
  ⟨wfI (by omega), wfI (by omega), wfI (by omega)⟩

/-- A car is taken out of a place, or laid into one: the others stay. -/
theorem cnt_del {s s' : St} {X Y Z : Int} (x : Int) (hX : 1 ≤ X ∧ X ≤ 4) (hY : 0 ≤ Y ∧ Y ≤ 1) (hZ : 0 ≤ Z ∧ Z ≤ 1) (hD : s'.D = s.D.del (pk X Y Z)) (hx : x ≠ 0) :
    countN (carN s') x 16 + one (carOf s.D X Y Z) x = countN (carN s) x 16 := by
  obtain ⟨m0, hm, ⟨e1, e2, e3⟩, hu⟩ := spot_idx hX hY hZ
  have key : ∀ j, j < 1000000 → carN s' j = if (((j / 4 : Nat) : Int) + 1 = X ∧ ((j % 4 / 2 : Nat) : Int) = Y ∧ ((j % 2 : Nat) : Int) = Z) then 0 else carN s j := fun j hj => by
    obtain ⟨w1, w2, w3⟩ := carN_wf j hj
    unfold carN
    rw [hD, carOf_del (wfI (by omega)) (wfI (by omega)) (wfI (by omega)) w1 w2 w3]
  have h0 : carN s m0 = carOf s.D X Y Z := by unfold carN; rw [e1, e2, e3]
  have h1 : carN s' m0 = 0 := by rw [key m0 (by omega), if_pos ⟨e1, e2, e3⟩]
  have := countN_set (g := carN s) (g' := fun j => if j < 1000000 then carN s' j else carN s j) (x := x) (m0 := m0) 16 hm (fun j hj => by
    by_cases hl : j < 1000000
    · simp only [hl, if_true]; rw [key j hl, if_neg (hu j hj)]
    · simp only [hl, if_false])
  rw [countN_congr (g := fun j => if j < 1000000 then carN s' j else carN s j) (g' := carN s') 16 (fun j hj => by rw [if_pos (by omega)])] at this
  simp only [show m0 < 1000000 from by omega, if_true] at this
  rw [h0, h1, one_ne (a := 0) (by omega)] at this
  omega
theorem cnt_put {s s' : St} {X Y Z c : Int} (x : Int) (hX : 1 ≤ X ∧ X ≤ 4) (hY : 0 ≤ Y ∧ Y ≤ 1) (hZ : 0 ≤ Z ∧ Z ≤ 1) (hM : IsMap s.D) (hD : s'.D = s.D.put (pk X Y Z) (.lit (.int .i64 c))) (hf : carOf s.D X Y Z = 0) (hx : x ≠ 0) :
    countN (carN s') x 16 = countN (carN s) x 16 + one c x := by
  obtain ⟨m0, hm, ⟨e1, e2, e3⟩, hu⟩ := spot_idx hX hY hZ
  have key : ∀ j, j < 1000000 → carN s' j = if (((j / 4 : Nat) : Int) + 1 = X ∧ ((j % 4 / 2 : Nat) : Int) = Y ∧ ((j % 2 : Nat) : Int) = Z) then c else carN s j := fun j hj => by
    obtain ⟨w1, w2, w3⟩ := carN_wf j hj
    unfold carN
    rw [hD, carOf_put hM (wfI (by omega)) (wfI (by omega)) (wfI (by omega)) w1 w2 w3]
  have h0 : carN s m0 = 0 := by unfold carN; rw [e1, e2, e3]; exact hf
  have h1 : carN s' m0 = c := by rw [key m0 (by omega), if_pos ⟨e1, e2, e3⟩]
  have := countN_set (g := carN s) (g' := fun j => if j < 1000000 then carN s' j else carN s j) (x := x) (m0 := m0) 16 hm (fun j hj => by
    by_cases hl : j < 1000000
    · simp only [hl, if_true]; rw [key j hl, if_neg (hu j hj)]
    · simp only [hl, if_false])
  rw [countN_congr (g := fun j => if j < 1000000 then carN s' j else carN s j) (g' := carN s') 16 (fun j hj => by rw [if_pos (by omega)])] at this
  simp only [show m0 < 1000000 from by omega, if_true] at this
  rw [h0, h1, one_ne (a := 0) (by omega)] at this
  omega

theorem cnt_same {s s' : St} (h1 : s'.li = s.li) (h2 : s'.ba = s.ba) (h3 : s'.D = s.D) (x : Int) : cnt s' x = cnt s x := by
  have : carN s' = carN s := by funext j; simp [carN, h3]
  simp [cnt, h1, h2, this]

theorem cnt_grab {s : St} (iv : Inv s) (x : Int) (hx : x ≠ 0) : cnt (grabS s) x = cnt s x := by
  unfold grabS
  split
  · rename_i k
    simp only [grabB, Bool.and_eq_true, beq_iff_eq] at k
    obtain ⟨p1, p2, p3⟩ := endB_in k.1
    have h4 := iv.ok.lv4
    have := cnt_del (s := s) (s' := { s with li := carOf s.D (endX s.lv s.h s.ex) (endY s.lv s.h s.ex) (endZ s.lv s.h s.ex), D := s.D.del (pk (endX s.lv s.h s.ex) (endY s.lv s.h s.ex) (endZ s.lv s.h s.ex)) }) x ⟨p1.1, by omega⟩ p2 p3 rfl hx
    simp only [cnt, k.2] at this ⊢
    rw [one_ne (a := 0) (by omega)]
    omega
  · rfl
theorem cnt_putS {s : St} (iv : Inv s) (x : Int) (hx : x ≠ 0) : cnt (putS s) x = cnt s x := by
  unfold putS
  split
  · rename_i k
    simp only [putB, Bool.and_eq_true, beq_iff_eq] at k
    obtain ⟨p1, p2, p3⟩ := endB_in k.1.1
    have h4 := iv.ok.lv4
    have hf : carOf s.D (endX s.lv s.h s.ex) (endY s.lv s.h s.ex) (endZ s.lv s.h s.ex) = 0 := by simpa [carAtI, k.1.1] using k.2
    have := cnt_put (s := s) (s' := { s with li := 0, D := s.D.put (pk (endX s.lv s.h s.ex) (endY s.lv s.h s.ex) (endZ s.lv s.h s.ex)) (.lit (.int .i64 s.li)) }) x ⟨p1.1, by omega⟩ p2 p3 iv.D.isMap rfl hf hx
    simp only [cnt] at this ⊢
    rw [one_ne (a := 0) (by omega)]
    omega
  · rfl
theorem cnt_takeIn (s : St) (x : Int) (hx : x ≠ 0) : cnt (takeInS s) x = cnt s x := by
  unfold takeInS
  split
  · rename_i k
    have : carN { s with hu := s.hu || (s.op || s.pe != 0), li := s.ba, ba := 0 } = carN s := rfl
    simp only [cnt, this, k.2.2]
    rw [one_ne (a := 0) (by omega)]
    omega
  · rfl
theorem cnt_giveOut (s : St) (x : Int) (hx : x ≠ 0) : cnt (giveOutS s) x = cnt s x := by
  unfold giveOutS
  split
  · rename_i k
    have : carN { s with hu := s.hu || (s.op || s.pe != 0), ba := s.li, li := 0 } = carN s := rfl
    simp only [cnt, this, k.2.2]
    rw [one_ne (a := 0) (by omega)]
    omega
  · rfl
theorem cnt_do {s : St} (iv : Inv s) (c x : Int) (hx : x ≠ 0) : cnt (doS c s) x = cnt s x := by
  unfold doS
  split; · rfl
  split; · rfl
  split; · unfold slideS; split <;> rfl
  split; · unfold slideS; split <;> rfl
  split; · exact cnt_grab iv x hx
  split; · exact cnt_putS iv x hx
  split; · rfl
  split; · rfl
  split; · exact cnt_takeIn s x hx
  split; · exact cnt_giveOut s x hx
  rfl
theorem cnt_step {s : St} (iv : Inv s) (c x : Int) (hx : x ≠ 0) : cnt (stepS c s) x = cnt s x := by
  unfold stepS
  split
  · rfl
  · exact cnt_do iv c x hx

/-- What comes from outside, but for cars that come and leave. -/
theorem cnt_out {s : St} (iv : Inv s) (y : ActC) (x : Int) (hx : x ≠ 0) (h1 : (y.kind.toList == [97, 114, 114, 105, 118, 101]) = false) (h2 : (y.kind.toList == [108, 101, 97, 118, 101]) = false) : cnt (outS y s) x = cnt s x := by
  unfold outS
  split; · exact cnt_step iv _ x hx
  split; · unfold walkS; split <;> rfl
  rw [if_neg (by simp [h1]), if_neg (by simp [h2])]
  split; · unfold stallS; split <;> rfl
  rfl

theorem countN_pos {g : Nat → Int} {x : Int} : ∀ m, 0 < countN g x m ↔ ∃ j, j < m ∧ g j = x
  | 0 => by simp [countN]
  | m + 1 => by
    have ih := countN_pos (g := g) (x := x) m
    unfold countN one
    constructor
    · intro h
      by_cases e : g m = x
      · exact ⟨m, by omega, e⟩
      · rw [if_neg e] at h
        obtain ⟨j, hj, e⟩ := ih.1 (by omega)
        exact ⟨j, by omega, e⟩
    · rintro ⟨j, hj, e⟩
      by_cases em : j = m
      · subst em; rw [if_pos e]; omega
      · have := ih.2 ⟨j, by omega, e⟩; omega

theorem atB_pos {s : St} {x : Int} : atB s.D x = true ↔ 0 < countN (carN s) x 16 := by
  rw [countN_pos, atB_iff]
  constructor
  · rintro ⟨X, Y, Z, ⟨h1, h2, h3⟩, e⟩
    obtain ⟨m0, hm, ⟨e1, e2, e3⟩, _⟩ := spot_idx h1 h2 h3
    exact ⟨m0, hm, by unfold carN; rw [e1, e2, e3]; exact e⟩
  · rintro ⟨j, hj, e⟩
    exact ⟨_, _, _, by omega, e⟩
theorem hasB_pos {s : St} {x : Int} (hx : x ≠ 0) : hasB s x = true ↔ 0 < cnt s x := by
  have := atB_pos (s := s) (x := x)
  unfold hasB cnt one
  simp only [Bool.and_eq_true, bne_iff_ne, ne_eq, hx, not_false_eq_true, true_and, Bool.or_eq_true, beq_iff_eq, this]
  by_cases h1 : s.li = x <;> by_cases h2 : s.ba = x <;> simp [h1, h2] <;> omega

/-- No car is there twice. -/
def Uniq (s : St) : Prop := ∀ x, x ≠ 0 → cnt s x ≤ 1

theorem Uniq.new (lv : Int) : Uniq (newS lv) := fun x hx => by
  have h : ∀ j, carN (newS lv) j = 0 := fun j => carOf_of rfl
  have h2 : countN (carN (newS lv)) x 16 = 0 := by
    have := countN_pos (g := carN (newS lv)) (x := x) 16
    rcases Nat.eq_zero_or_pos (countN (carN (newS lv)) x 16) with h0 | h0
    · exact h0
    · obtain ⟨j, _, e⟩ := this.1 h0
      rw [h j] at e; omega
  simp only [cnt, newS, h2] at h2 ⊢
  rw [one_ne (a := 0) (by omega)]
  omega
theorem Uniq.of {s s' : St} (h : Uniq s) (e : ∀ x, x ≠ 0 → cnt s' x = cnt s x) : Uniq s' := fun x hx => by rw [e x hx]; exact h x hx

theorem cnt_arrive {s : St} (id x : Int) (hx : x ≠ 0) (ha : arriveB id s = true) : cnt (arriveS id s) x = cnt s x + one id x := by
  unfold arriveS
  rw [if_pos ha]
  simp only [arriveB, Bool.and_eq_true, beq_iff_eq] at ha
  have : carN { s with ba := id } = carN s := rfl
  simp only [cnt, this, ha.1.2]
  rw [one_ne (a := 0) (by omega)]
  omega
theorem Uniq.arrive {s : St} (h : Uniq s) (id : Int) (ha : arriveB id s = true) : Uniq (arriveS id s) := fun x hx => by
  rw [cnt_arrive id x hx ha]
  simp only [arriveB, Bool.and_eq_true, beq_iff_eq, Bool.not_eq_true'] at ha
  by_cases e : id = x
  · subst e
    have hp := hasB_pos (s := s) hx
    rw [ha.2] at hp
    simp at hp
    rw [hp, one_self]
    omega
  · rw [one_ne e]; exact h x hx
theorem cnt_leave {s : St} (x : Int) (hx : x ≠ 0) (hl : leaveB s = true) : cnt (leaveS s) x + one s.ba x = cnt s x := by
  unfold leaveS
  rw [if_pos hl]
  have : carN { s with ba := 0 } = carN s := rfl
  simp only [cnt, this]
  rw [one_ne (a := 0) (by omega)]
  omega

/-- Two lists with the same cars are alike. -/
theorem alike_of {s : St} {l : List Int} (h : ∀ x, l.count x = if x = 0 then 0 else cnt s x) : (carsL s).length = l.length ∧ ∀ x, (carsL s).count x = l.count x := by
  have e : ∀ x, (carsL s).count x = l.count x := fun x => by rw [carsL_count, h]
  exact ⟨(List.perm_iff_count.2 e).length_eq, e⟩

/-- Each car that is told is there, and was not told ahead. -/
theorem told {s : St} (hu : Uniq s) (k : Nat) (hk : k < (carsL s).length) : hasB s ((carsL s).getD k 0) = true ∧ ((carsL s).take k).contains ((carsL s).getD k 0) = false := by
  have h1 := count_take (carsL s) ((carsL s).getD k 0) k hk
  rw [if_pos rfl] at h1
  have h2 : ((carsL s).take (k + 1)).count ((carsL s).getD k 0) ≤ (carsL s).count ((carsL s).getD k 0) := (List.take_sublist (k + 1) (carsL s)).count_le _
  rw [carsL_count] at h2
  generalize (carsL s).getD k 0 = x at *
  by_cases hx : x = 0
  · rw [if_pos hx] at h2; omega
  · rw [if_neg hx] at h2
    have h3 := hu x hx
    refine ⟨(hasB_pos hx).2 (by omega), ?_⟩
    have h4 : ((carsL s).take k).count x = 0 := by omega
    rw [← Bool.not_eq_true, List.contains_iff_mem]
    exact List.count_eq_zero.1 h4

end Pl
end Go.Proofs.Ytihapeagjikiaaa
