/- Two lists that are copied and get one more each, in one statement that draws its order: whatever order is drawn; for the laws. -/
import Derived.Test.YtihapeagjikiaaaRApp
import Derived.Test.YtihapeagjikiaaaRDone
import Derived.Deep.RegionHeld3
namespace Go.Proofs.Ytihapeagjikiaaa
open Go.Shelf Go.Lib Go.ChangeShapes Go.WideShapes Go.ChangeAt Go.RowKit
set_option maxRecDepth 100000
set_option linter.unusedSimpArgs false
set_option linter.unusedVariables false

namespace Bk
/-- A list's three operations: the copy (1), the new element (2), the two joined (3); how far it has come: 0, the copy alone: 1, the element alone: 2, both: 3, all: 4. -/
def chSteps (i1 i2 i3 : Nat) : Nat → List (Nat × Nat)
  | 0 => [(i1, 1), (i2, 2)]
  | 1 => [(i2, 3)]
  | 2 => [(i1, 3)]
  | 3 => [(i3, 4)]
  | _ => []
def chLeft : Nat → Nat
  | 0 => 3
  | 1 => 2
  | 2 => 2
  | 3 => 1
  | _ => 0
def chMark (i1 i2 i3 : Nat) (L : Array Bool) : Nat → Array Bool
  | 0 => L
  | 1 => L.setIfInBounds i1 true
  | 2 => L.setIfInBounds i2 true
  | 3 => (L.setIfInBounds i1 true).setIfInBounds i2 true
  | _ => ((L.setIfInBounds i1 true).setIfInBounds i2 true).setIfInBounds i3 true
def chList (i1 i2 i3 j1 j2 j3 : Nat) (L : Array Bool) (p q : Nat) : Array Bool := chMark j1 j2 j3 (chMark i1 i2 i3 L p) q
def chOne (md : Region.Mode) (ops : Array Oper) (i1 i2 i3 j1 j2 j3 : Nat) (L : Array Bool) (p q : Nat) : Bool :=
  !(Region.ready md ops (chList i1 i2 i3 j1 j2 j3 L p q)).isEmpty && (Region.ready md ops (chList i1 i2 i3 j1 j2 j3 L p q)).all fun i =>
    (chSteps i1 i2 i3 p).any (fun x => x.1 == i && (chList i1 i2 i3 j1 j2 j3 L x.2 q).toList == ((chList i1 i2 i3 j1 j2 j3 L p q).setIfInBounds i true).toList && chLeft x.2 + 1 == chLeft p && decide (x.2 < 5)) ||
    (chSteps j1 j2 j3 q).any (fun x => x.1 == i && (chList i1 i2 i3 j1 j2 j3 L p x.2).toList == ((chList i1 i2 i3 j1 j2 j3 L p q).setIfInBounds i true).toList && chLeft x.2 + 1 == chLeft q && decide (x.2 < 5))
def chAll (md : Region.Mode) (ops : Array Oper) (i1 i2 i3 j1 j2 j3 : Nat) (L : Array Bool) : Bool :=
  (List.range 5).all fun p => (List.range 5).all fun q => (p == 4 && q == 4) || chOne md ops i1 i2 i3 j1 j2 j3 L p q
theorem chLeft_zero {p : Nat} (h : p < 5) (e : chLeft p = 0) : p = 4 := by
  match p, h with
  | 0, _ => cases e
  | 1, _ => cases e
  | 2, _ => cases e
  | 3, _ => cases e
  | 4, _ => rfl

theorem two_chains {P : Program} {md : Region.Mode} {ops : Array Oper} {Q : Exit → Act → World → Prop} {S : World → Prop} (i1 i2 i3 j1 j2 j3 : Nat) (L : Array Bool) (tail : Nat) (hchk : chAll md ops i1 i2 i3 j1 j2 j3 L = true) (Inv : Nat → Nat → Act → World → Prop)
    (sA : ∀ p q x, x ∈ chSteps i1 i2 i3 p → ∀ a w, Inv p q a w → wpOp P ops Q x.1 (fun a' w' => S w' ∧ Inv x.2 q a' w') a w)
    (sB : ∀ p q x, x ∈ chSteps j1 j2 j3 q → ∀ a w, Inv p q a w → wpOp P ops Q x.1 (fun a' w' => S w' ∧ Inv p x.2 a' w') a w)
    (hend : ∀ a w, Inv 4 4 a w → wpAnyH P md ops Q S tail (chList i1 i2 i3 j1 j2 j3 L 4 4) a w) :
    ∀ n p q, p < 5 → q < 5 → chLeft p + chLeft q = n → ∀ a w, Inv p q a w → wpAnyH P md ops Q S (n + tail) (chList i1 i2 i3 j1 j2 j3 L p q) a w := by
  intro n
  induction n with
  | zero =>
    intro p q hp hq hn a w hI
    obtain rfl := chLeft_zero hp (by omega)
    obtain rfl := chLeft_zero hq (by omega)
    rw [Nat.zero_add]
    exact hend a w hI
  | succ n ih =>
    intro p q hp hq hn a w hI
    have h1 : chOne md ops i1 i2 i3 j1 j2 j3 L p q = true := by
      unfold chAll at hchk
      rw [List.all_eq_true] at hchk
      have h2 := hchk p (List.mem_range.2 hp)
      rw [List.all_eq_true] at h2
      have h3 := h2 q (List.mem_range.2 hq)
      rw [Bool.or_eq_true] at h3
      rcases h3 with h3 | h3
      · simp only [Bool.and_eq_true, beq_iff_eq] at h3
        rw [h3.1, h3.2] at hn
        simp [chLeft] at hn
      · exact h3
    unfold chOne at h1
    rw [Bool.and_eq_true, List.all_eq_true] at h1
    obtain ⟨hne, hall⟩ := h1
    rw [show n + 1 + tail = n + tail + 1 from by omega]
    refine ⟨fun e => ?_, fun i hi => ?_⟩
    · rw [e] at hne
      simp at hne
    · have h4 := hall i hi
      rw [Bool.or_eq_true, List.any_eq_true, List.any_eq_true] at h4
      rcases h4 with ⟨x, hx, h5⟩ | ⟨x, hx, h5⟩
      · simp only [Bool.and_eq_true, beq_iff_eq, decide_eq_true_eq] at h5
        obtain ⟨⟨⟨rfl, h6⟩, h7⟩, h8⟩ := h5
        refine wpOp_mono (fun a' w' h => ⟨h.1, ?_⟩) (sA p q x hx a w hI)
        rw [← Array.toList_inj.1 h6]
        exact ih x.2 q h8 hq (by omega) a' w' h.2
      · simp only [Bool.and_eq_true, beq_iff_eq, decide_eq_true_eq] at h5
        obtain ⟨⟨⟨rfl, h6⟩, h7⟩, h8⟩ := h5
        refine wpOp_mono (fun a' w' h => ⟨h.1, ?_⟩) (sB p q x hx a w hI)
        rw [← Array.toList_inj.1 h6]
        exact ih p x.2 hp h8 (by omega) a' w' h.2

/-- The frame at hand, named. -/
theorem with_act {C : Act → Prop} {a0 : Act} (h : ∀ A0, A0 = a0 → C A0) : C a0 := h a0 rfl
/-- A frame with the six slots of two lists filled. -/
def mk6 (A : Act) (x1 x2 x3 x4 x5 x6 : Value) : Act := (((((A.put (some 57) x1).put (some 62) x2).put (some 63) x3).put (some 66) x4).put (some 69) x5).put (some 70) x6
theorem eval_put_ne {a : Act} {d s : Nat} {v : Value} (h : s ≠ d) : (a.put (some d) v).eval (.tmp s) = a.eval (.tmp s) := by
  show (a.tmps.setIfInBounds d v).getD s undef = a.tmps.getD s undef
  simp [Array.getD_eq_getD_getElem?, Array.getElem?_setIfInBounds_ne (Ne.symm h)]
theorem eval_put_eq {a : Act} {d : Nat} {v : Value} (h : d < a.tmps.size) : (a.put (some d) v).eval (.tmp d) = v := by
  show (a.tmps.setIfInBounds d v).getD d undef = v
  simp [Array.getD_eq_getD_getElem?, h]
theorem size_put {a : Act} {d : Option Nat} {v : Value} : (a.put d v).tmps.size = a.tmps.size := by
  cases d <;> simp [Act.put]

theorem put_comm' (A : Act) {i j : Nat} (u v : Value) (h : i ≠ j) : (A.put (some i) u).put (some j) v = (A.put (some j) v).put (some i) u := by
  simp only [Act.put]
  rw [Array.setIfInBounds_comm _ _ h]
theorem put_same (A : Act) {i : Nat} (u v : Value) : (A.put (some i) u).put (some i) v = A.put (some i) v := by
  simp [Act.put]
theorem put_self (A : Act) (i : Nat) : A.put (some i) (A.eval (.tmp i)) = A := by
  obtain ⟨t, d⟩ := A
  show Act.mk (t.setIfInBounds i (t.getD i undef)) d = Act.mk t d
  congr 1
  apply Array.ext_getElem?
  intro j
  by_cases h : i = j
  · subst h
    by_cases hl : i < t.size
    · simp [hl]
    · simp [hl]
  · rw [Array.getElem?_setIfInBounds_ne h]
theorem mk6_self (A : Act) : A = mk6 A (A.eval (.tmp 57)) (A.eval (.tmp 62)) (A.eval (.tmp 63)) (A.eval (.tmp 66)) (A.eval (.tmp 69)) (A.eval (.tmp 70)) := by
  unfold mk6
  rw [put_self, put_self, put_self, put_self, put_self, put_self]
theorem mk6_eval (A : Act) (x1 x2 x3 x4 x5 x6 : Value) {s : Nat} (h1 : s ≠ 57) (h2 : s ≠ 62) (h3 : s ≠ 63) (h4 : s ≠ 66) (h5 : s ≠ 69) (h6 : s ≠ 70) : (mk6 A x1 x2 x3 x4 x5 x6).eval (.tmp s) = A.eval (.tmp s) := by
  unfold mk6
  rw [eval_put_ne h6, eval_put_ne h5, eval_put_ne h4, eval_put_ne h3, eval_put_ne h2, eval_put_ne h1]
theorem mk6_size (A : Act) (x1 x2 x3 x4 x5 x6 : Value) : (mk6 A x1 x2 x3 x4 x5 x6).tmps.size = A.tmps.size := by
  unfold mk6
  rw [size_put, size_put, size_put, size_put, size_put, size_put]
theorem mk6_put (A : Act) (x1 x2 x3 x4 x5 x6 v : Value) : (mk6 A x1 x2 x3 x4 x5 x6).put (some 57) v = mk6 A v x2 x3 x4 x5 x6 ∧ (mk6 A x1 x2 x3 x4 x5 x6).put (some 62) v = mk6 A x1 v x3 x4 x5 x6 ∧ (mk6 A x1 x2 x3 x4 x5 x6).put (some 63) v = mk6 A x1 x2 v x4 x5 x6 ∧ (mk6 A x1 x2 x3 x4 x5 x6).put (some 66) v = mk6 A x1 x2 x3 v x5 x6 ∧ (mk6 A x1 x2 x3 x4 x5 x6).put (some 69) v = mk6 A x1 x2 x3 x4 v x6 ∧ (mk6 A x1 x2 x3 x4 x5 x6).put (some 70) v = mk6 A x1 x2 x3 x4 x5 v := by
  unfold mk6
  refine ⟨?_, ?_, ?_, ?_, ?_, ?_⟩
  · rw [put_comm' _ x6 v (show (70 : Nat) ≠ 57 by decide), put_comm' _ x5 v (show (69 : Nat) ≠ 57 by decide), put_comm' _ x4 v (show (66 : Nat) ≠ 57 by decide), put_comm' _ x3 v (show (63 : Nat) ≠ 57 by decide), put_comm' _ x2 v (show (62 : Nat) ≠ 57 by decide), put_same]
  · rw [put_comm' _ x6 v (show (70 : Nat) ≠ 62 by decide), put_comm' _ x5 v (show (69 : Nat) ≠ 62 by decide), put_comm' _ x4 v (show (66 : Nat) ≠ 62 by decide), put_comm' _ x3 v (show (63 : Nat) ≠ 62 by decide), put_same]
  · rw [put_comm' _ x6 v (show (70 : Nat) ≠ 63 by decide), put_comm' _ x5 v (show (69 : Nat) ≠ 63 by decide), put_comm' _ x4 v (show (66 : Nat) ≠ 63 by decide), put_same]
  · rw [put_comm' _ x6 v (show (70 : Nat) ≠ 66 by decide), put_comm' _ x5 v (show (69 : Nat) ≠ 66 by decide), put_same]
  · rw [put_comm' _ x6 v (show (70 : Nat) ≠ 69 by decide), put_same]
  · rw [put_same]

section
variable {α : Type} [Inhabited α]
/-- How far one list has come. -/
def ChAt (base : Nat) (e : TypeId) (k : Nat) (enc : α → List Value) (l : List α) (x : α) (d1 d2 d3 : Nat) : Nat → Act → World → Prop
  | 0, _, _ => True
  | 1, a, w => OwnAt w base e k enc (a.eval (.tmp d1)) l
  | 2, a, w => ∃ B, a.eval (.tmp d2) = .slice (some ⟨B, 0, none⟩) 1 1 ∧ base ≤ B ∧ Blk w B (enc x).toArray e
  | 3, a, w => OwnAt w base e k enc (a.eval (.tmp d1)) l ∧ ∃ B, a.eval (.tmp d2) = .slice (some ⟨B, 0, none⟩) 1 1 ∧ base ≤ B ∧ Blk w B (enc x).toArray e
  | _, a, w => OwnAt w base e k enc (a.eval (.tmp d3)) (l ++ [x])
theorem OwnAt.keep {w w' : World} {base : Nat} {e : TypeId} {k : Nat} {enc : α → List Value} {v : Value} {l : List α} (h : OwnAt w base e k enc v l) (hw : ∀ n arr, Blk w n arr e → Blk w' n arr e) : OwnAt w' base e k enc v l := by
  rcases h with h | ⟨g, cap, cur, hv, hg, hk, r⟩
  · exact Or.inl h
  · exact Or.inr ⟨g, cap, cur, hv, hg, hw _ _ hk, r⟩
theorem ChAt.keep {base : Nat} {e : TypeId} {k : Nat} {enc : α → List Value} {l : List α} {x : α} {d1 d2 d3 : Nat} {a a' : Act} {w w' : World} {p : Nat} (h : ChAt base e k enc l x d1 d2 d3 p a w)
    (h1 : a'.eval (.tmp d1) = a.eval (.tmp d1)) (h2 : a'.eval (.tmp d2) = a.eval (.tmp d2)) (h3 : a'.eval (.tmp d3) = a.eval (.tmp d3)) (hw : ∀ n arr, Blk w n arr e → Blk w' n arr e) : ChAt base e k enc l x d1 d2 d3 p a' w' := by
  match p with
  | 0 => trivial
  | 1 => show OwnAt _ _ _ _ _ _ _; rw [h1]; exact OwnAt.keep h hw
  | 2 =>
    obtain ⟨B, e1, e2, e3⟩ := h
    exact ⟨B, by rw [h2]; exact e1, e2, hw _ _ e3⟩
  | 3 =>
    obtain ⟨h', B, e1, e2, e3⟩ := h
    exact ⟨by rw [h1]; exact OwnAt.keep h' hw, B, by rw [h2]; exact e1, e2, hw _ _ e3⟩
  | p + 4 => show OwnAt _ _ _ _ _ _ _; rw [h3]; exact OwnAt.keep h hw

/-- One list's operations, as the region has them. -/
structure ChOps (P : Program) (ops : Array Oper) (T e : TypeId) (k : Nat) (enc : α → List Value) (l : List α) (x : α) (ad : Option Addr) (cap src el d1 d2 d3 i1 i2 i3 : Nat) : Prop where
  o1 : ∃ o, ops[i1]? = some o ∧ o.guard = none ∧ o.dst = some d1 ∧ o.op = Op.call { callee := Callee.builtin Builtin.append, args := #[.const (.slice none 0 0), .tmp src], argTypes := #[T, T] } ∧ o.type = T
  o2 : ∃ o, ops[i2]? = some o ∧ o.guard = none ∧ o.dst = some d2 ∧ ∀ (a : Act) (w : World), a.eval (.tmp el) = .agg (enc x).toArray → (execOp a.eval o).run P w = .ok (.value (.slice (some ⟨w.heap.size, 0, none⟩) 1 1)) (w.alloc (.cells (enc x).toArray e))
  o3 : ∃ o, ops[i3]? = some o ∧ o.guard = none ∧ o.dst = some d3 ∧ o.op = Op.call { callee := Callee.builtin Builtin.append, args := #[.tmp d1, .tmp d2], argTypes := #[T, T] } ∧ o.type = T
  rows : ∀ w, RowsAt w ad cap k enc l → ∃ v' w', AppRun P T T (.slice none 0 0) (.slice ad l.length cap) w v' w' ∧ OwnAt w' w.heap.size e k enc v' l ∧ w.grownBy w' none
  more : ∀ w v base B, OwnAt w base e k enc v l → Blk w B (enc x).toArray e → base ≤ w.heap.size → ∃ v' w', AppRun P T T v (.slice (some ⟨B, 0, none⟩) 1 1) w v' w' ∧ OwnAt w' base e k enc v' (l ++ [x]) ∧ w.grownBy w' v.ownBlock

/-- A step of one list: what it does to the frame, and to memory. -/
theorem ChOps.step {P : Program} {ops : Array Oper} {T e : TypeId} {k : Nat} {enc : α → List Value} {l : List α} {x : α} {ad : Option Addr} {cap src el d1 d2 d3 i1 i2 i3 : Nat} (H : ChOps P ops T e k enc l x ad cap src el d1 d2 d3 i1 i2 i3)
    {Q : Exit → Act → World → Prop} {K : Act → World → Prop} {base p : Nat} {y : Nat × Nat} (hy : y ∈ chSteps i1 i2 i3 p) {a : Act} {w : World} (hsz : d1 < a.tmps.size ∧ d2 < a.tmps.size ∧ d3 < a.tmps.size) (hd : d1 ≠ d2)
    (hsrc : a.eval (.tmp src) = .slice ad l.length cap) (hel : a.eval (.tmp el) = .agg (enc x).toArray) (hrows : RowsAt w ad cap k enc l) (hb : base ≤ w.heap.size) (hI : ChAt base e k enc l x d1 d2 d3 p a w)
    (hK : ∀ d v w', (d = d1 ∨ d = d2 ∨ d = d3) → ChAt base e k enc l x d1 d2 d3 y.2 (a.put (some d) v) w' → Below base w w' → (∀ n arr e', e ≠ e' → Blk w n arr e' → Blk w' n arr e') → K (a.put (some d) v) w') : wpOp P ops Q y.1 K a w := by
  obtain ⟨o1, q1, g1, t1, c1, ty1⟩ := H.o1
  obtain ⟨o2, q2, g2, t2, c2⟩ := H.o2
  obtain ⟨o3, q3, g3, t3, c3, ty3⟩ := H.o3
  have stepA : (∀ v w', OwnAt w' base e k enc v l → w.grownBy w' none → K (a.put (some d1) v) w') → wpOp P ops Q i1 K a w := fun h => by
    obtain ⟨v', w', hr, ho, hg⟩ := H.rows w hrows
    refine wpOp_step q1 (fun K' hK' => step_of_run g1 _ _ T c1 _ _ rfl hsrc v' w' (by rw [ty1]; exact hr) (hK' _ _ ?_))
    rw [t1]
    exact h v' w' (ho.base hb) hg
  have stepB : K (a.put (some d2) (.slice (some ⟨w.heap.size, 0, none⟩) 1 1)) (w.alloc (.cells (enc x).toArray e)) → wpOp P ops Q i2 K a w := fun h => by
    refine wpOp_step q2 (fun K' hK' => ?_)
    have hw : Region.wanted o2 (yielded ops a.tmps) = true := by simp [Region.wanted, g2]
    rw [if_pos hw]
    unfold Oper.wp
    rw [c2 a w hel]
    show K' (a.put o2.dst _) _
    rw [t2]
    exact hK' _ _ h
  have stepC : ∀ B, OwnAt w base e k enc (a.eval (.tmp d1)) l → a.eval (.tmp d2) = .slice (some ⟨B, 0, none⟩) 1 1 → Blk w B (enc x).toArray e → (∀ v w', OwnAt w' base e k enc v (l ++ [x]) → w.grownBy w' (a.eval (.tmp d1)).ownBlock → K (a.put (some d3) v) w') → wpOp P ops Q i3 K a w := fun B h1 h2 h3 h => by
    obtain ⟨v', w', hr, ho, hg⟩ := H.more w _ base B h1 h3 hb
    refine wpOp_step q3 (fun K' hK' => step_of_run g3 _ _ T c3 _ _ rfl h2 v' w' (by rw [ty3]; exact hr) (hK' _ _ ?_))
    rw [t3]
    exact h v' w' ho hg
  have bn : ∀ {w'}, w.grownBy w' none → Below base w w' := fun hg => grown_below' (Below.refl _ _) hg (fun g e => by cases e) hb
  have kn : ∀ {w'}, w.grownBy w' none → ∀ n arr e', Blk w n arr e' → Blk w' n arr e' := fun hg n arr e' hk => (hg.block n hk.lt (fun e => by cases e)).trans hk
  match p, hy, hI with
  | 0, hy, hI =>
    simp only [chSteps, List.mem_cons, List.not_mem_nil, or_false] at hy
    rcases hy with rfl | rfl
    · refine stepA fun v w' ho hg => hK d1 v w' (Or.inl rfl) ?_ (bn hg) (fun n arr e' _ => kn hg n arr e')
      show OwnAt _ _ _ _ _ _ _
      rw [eval_put_eq hsz.1]; exact ho
    · refine stepB (hK d2 _ _ (Or.inr (Or.inl rfl)) ⟨w.heap.size, eval_put_eq hsz.2.1, hb, Blk.new _ _ _⟩ ((Below.refl _ _).alloc hb _) (fun n arr e' _ hk => hk.old _))
  | 1, hy, hI =>
    simp only [chSteps, List.mem_cons, List.not_mem_nil, or_false] at hy
    subst hy
    refine stepB (hK d2 _ _ (Or.inr (Or.inl rfl)) ⟨?_, w.heap.size, eval_put_eq hsz.2.1, hb, Blk.new _ _ _⟩ ((Below.refl _ _).alloc hb _) (fun n arr e' _ hk => hk.old _))
    rw [eval_put_ne hd]
    exact OwnAt.keep hI (fun n arr hk => hk.old _)
  | 2, hy, hI =>
    simp only [chSteps, List.mem_cons, List.not_mem_nil, or_false] at hy
    subst hy
    obtain ⟨B, e1, e2, e3⟩ := hI
    refine stepA fun v w' ho hg => hK d1 v w' (Or.inl rfl) ⟨?_, B, ?_, e2, kn hg _ _ _ e3⟩ (bn hg) (fun n arr e' _ => kn hg n arr e')
    · rw [eval_put_eq hsz.1]; exact ho
    · rw [eval_put_ne (Ne.symm hd)]; exact e1
  | 3, hy, hI =>
    simp only [chSteps, List.mem_cons, List.not_mem_nil, or_false] at hy
    subst hy
    obtain ⟨h', B, e1, e2, e3⟩ := hI
    refine stepC B h' e1 e3 fun v w' ho hg => hK d3 v w' (Or.inr (Or.inr rfl)) ?_ (grown_below' (Below.refl _ _) hg (fun g e => (h'.ge g e).1) hb) (fun n arr e' he hk => (hg.block n hk.lt (fun e4 => own_ne h' hk he e4.symm)).trans hk)
    show OwnAt _ _ _ _ _ _ _
    rw [eval_put_eq hsz.2.2]; exact ho
  | p + 4, hy, hI => simp [chSteps] at hy
end

end Bk
end Go.Proofs.Ytihapeagjikiaaa
