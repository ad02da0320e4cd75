/- Chapter 7: a job is done (E5); contract for the laws. -/
import Derived.Test.YtkgicpialdhnhaaDoorDelJ
import Derived.Test.YtkgicpialdhnhaaDoorDelS
namespace Go.Proofs.YtkgicpialdhnhaaDoor
open Go.Shelf Go.Lib Go.ChangeShapes Go.WideShapes Go.ChangeAt Go.RowKit
set_option maxRecDepth 100000
set_option linter.unusedSimpArgs false
set_option linter.unusedVariables false

namespace Bk
/-- Which jobs go, when one is done; en: a stay ends. -/
def goesJ (t : Int) (f en : Bool) (x : Job) : Bool := (x.t == t && x.f == f) || (en && x.t == t)
def doneJobs (t : Int) (f en : Bool) (jobs : List Job) : List Job := jobs.filter fun x => !goesJ t f en x
def doneStays (t : Int) (en : Bool) (stays : List Stay) : List Stay := if en = true then stays.filter (fun x => !(x.t == t)) else stays

theorem eqJ_run (t k : Int) (f g : Bool) (w : World) : Sem.run Tryd.prog (binOp .eql 54 (.agg #[.int .i64 t, .bool f]) (.agg #[.int .i64 k, .bool g])) w = .ok (.bool (t == k && f == g)) w := eqJob.1 ⟨t, f⟩ ⟨k, g⟩ w
theorem eqJ_guard (t k : Int) (f g : Bool) (op : BinOp) (u v : Operand) (w : World) : Sem.run Tryd.prog (eqGuard op 54 u v (.agg #[.int .i64 t, .bool f]) (.agg #[.int .i64 k, .bool g])) w = .ok () w := eqJob.2 op u v ⟨t, f⟩ ⟨k, g⟩ w

-- left out: this seat has not what it speaks of

-- left out: this seat has not what it speaks of

/-- What Done holds from the copy on. -/
structure DoneI (w wx : World) (b0 X : Nat) (last : Int) (vs vj : Value) (t : Int) (f en : Bool) (S : List Stay) (J : List Job) : Prop where
  below : Below w.heap.size w wx
  jb : Blk wx (w.heap.size + 1) #[.int .i64 t, .bool f] 54
  rb : Blk wx (w.heap.size + 2) #[.int .i64 0, .slice none 0 0, .slice none 0 0] 25
  nb : Blk wx X #[.int .i64 last, vs, vj] 25
  eb : Blk wx (X + 1) #[.bool en] 4
  own : OwnBook wx b0 vs vj S J
  ltX : ∀ g, vs.ownBlock = some g ∨ vj.ownBlock = some g → g < X
theorem DoneI.ne {w wx : World} {b0 X : Nat} {last : Int} {vs vj : Value} {t : Int} {f en : Bool} {S : List Stay} {J : List Job} (h : DoneI w wx b0 X last vs vj t f en S J) (hb : w.heap.size + 2 < b0) : ∀ g, vs.ownBlock = some g ∨ vj.ownBlock = some g → g ≠ w.heap.size + 1 ∧ g ≠ w.heap.size + 2 ∧ g ≠ X ∧ g ≠ X + 1 ∧ w.heap.size ≤ g := fun g hg => by
  have h1 : b0 ≤ g := by
    rcases hg with hg | hg
    · exact (h.own.s.block g hg).1
    · exact (h.own.j.block g hg).1
  have h2 := h.ltX g hg
  omega

theorem grown_below' {N : Nat} {a b c : World} {row : Option Nat} (h : Below N a b) (k : b.grownBy c row) (hg : ∀ g, row = some g → N ≤ g) (hN : N ≤ b.heap.size) : Below N a c :=
  ⟨k.os.trans h.os, k.tape.trans h.tape, k.output.trans h.output, Nat.le_trans h.size k.size, fun i hi => (k.block i (by omega) (fun e => by have := hg i e.symm; omega)).trans (h.block i hi)⟩

/-- The jobs that go have gone. -/
theorem DoneI.jobs {w wx wy : World} {b0 X : Nat} {last : Int} {vs vj vj' : Value} {t : Int} {f en : Bool} {S : List Stay} {J J' : List Job} (h : DoneI w wx b0 X last vs vj t f en S J) (hb : w.heap.size + 2 < b0) (hX : w.heap.size + 2 < X) (ho : OwnAt wy b0 54 2 Job.enc vj' J') (hg : wx.grownBy wy vj.ownBlock) (hv : ∀ g, vj'.ownBlock = some g → vj.ownBlock = some g) :
    DoneI w (wy.setCell ⟨X, 2, none⟩ vj') b0 X last vs vj' t f en S J' := by
  have hne := h.ne hb
  have nj : ∀ g, vj.ownBlock = some g → g ≠ w.heap.size + 1 ∧ g ≠ w.heap.size + 2 ∧ g ≠ X ∧ g ≠ X + 1 ∧ w.heap.size ≤ g := fun g e => hne g (Or.inr e)
  have kb : ∀ {n : Nat} {a : Array Value} {T : TypeId}, Blk wx n a T → vj.ownBlock ≠ some n → Blk wy n a T := fun hk hn => (hg.block _ hk.lt (fun e => hn e.symm)).trans hk
  have hN : w.heap.size ≤ wx.heap.size := h.below.size
  refine ⟨(grown_below' h.below hg (fun g e => (nj g e).2.2.2.2) hN).setCell (p := ⟨X, 2, none⟩) (by show w.heap.size ≤ X; omega) _, (kb h.jb (fun e => (nj _ e).1 rfl)).other (by omega) _ _, (kb h.rb (fun e => (nj _ e).2.1 rfl)).other (by omega) _ _, (kb h.nb (fun e => (nj _ e).2.2.1 rfl)).set 2 _, (kb h.eb (fun e => (nj _ e).2.2.2.1 rfl)).other (by omega) _ _, ?_, ?_⟩
  · refine ⟨?_, ?_, fun g e e' => h.own.ne g e (hv g e')⟩
    · rcases h.own.s.grown hg (fun g e e' => h.own.ne g e e') with h' | ⟨g, cap, cur, rfl, hg', hk, r⟩
      · exact Or.inl h'
      · exact Or.inr ⟨g, cap, cur, rfl, hg', hk.other (by have := h.ltX g (Or.inl rfl); omega) _ _, r⟩
    · rcases ho with h' | ⟨g, cap, cur, rfl, hg', hk, r⟩
      · exact Or.inl h'
      · exact Or.inr ⟨g, cap, cur, rfl, hg', hk.other (by have := h.ltX g (Or.inr (hv g rfl)); omega) _ _, r⟩
  · intro g e
    rcases e with e | e
    · exact h.ltX g (Or.inl e)
    · exact h.ltX g (Or.inr (hv g e))
/-- The stays that go have gone. -/
theorem DoneI.stays {w wx wy : World} {b0 X : Nat} {last : Int} {vs vj vs' : Value} {t : Int} {f en : Bool} {S S' : List Stay} {J : List Job} (h : DoneI w wx b0 X last vs vj t f en S J) (hb : w.heap.size + 2 < b0) (hX : w.heap.size + 2 < X) (ho : OwnAt wy b0 47 8 Stay.enc vs' S') (hg : wx.grownBy wy vs.ownBlock) (hv : ∀ g, vs'.ownBlock = some g → vs.ownBlock = some g) :
    DoneI w (wy.setCell ⟨X, 1, none⟩ vs') b0 X last vs' vj t f en S' J := by
  have hne := h.ne hb
  have nj : ∀ g, vs.ownBlock = some g → g ≠ w.heap.size + 1 ∧ g ≠ w.heap.size + 2 ∧ g ≠ X ∧ g ≠ X + 1 ∧ w.heap.size ≤ g := fun g e => hne g (Or.inl e)
  have kb : ∀ {n : Nat} {a : Array Value} {T : TypeId}, Blk wx n a T → vs.ownBlock ≠ some n → Blk wy n a T := fun hk hn => (hg.block _ hk.lt (fun e => hn e.symm)).trans hk
  have hN : w.heap.size ≤ wx.heap.size := h.below.size
  refine ⟨(grown_below' h.below hg (fun g e => (nj g e).2.2.2.2) hN).setCell (p := ⟨X, 1, none⟩) (by show w.heap.size ≤ X; omega) _, (kb h.jb (fun e => (nj _ e).1 rfl)).other (by omega) _ _, (kb h.rb (fun e => (nj _ e).2.1 rfl)).other (by omega) _ _, (kb h.nb (fun e => (nj _ e).2.2.1 rfl)).set 1 _, (kb h.eb (fun e => (nj _ e).2.2.2.1 rfl)).other (by omega) _ _, ?_, ?_⟩
  · refine ⟨?_, ?_, fun g e e' => h.own.ne g (hv g e) e'⟩
    · rcases ho with h' | ⟨g, cap, cur, rfl, hg', hk, r⟩
      · exact Or.inl h'
      · exact Or.inr ⟨g, cap, cur, rfl, hg', hk.other (by have := h.ltX g (Or.inl (hv g rfl)); omega) _ _, r⟩
    · rcases h.own.j.grown hg (fun g e e' => h.own.ne g e' e) with h' | ⟨g, cap, cur, rfl, hg', hk, r⟩
      · exact Or.inl h'
      · exact Or.inr ⟨g, cap, cur, rfl, hg', hk.other (by have := h.ltX g (Or.inr rfl); omega) _ _, r⟩
  · intro g e
    rcases e with e | e
    · exact h.ltX g (Or.inl (hv g e))
    · exact h.ltX g (Or.inr e)

-- left out: this seat has not what it speaks of

-- left out: this seat has not what it speaks of

-- left out: this seat has not what it speaks of

-- left out: this seat has not what it speaks of

end Bk
end Go.Proofs.YtkgicpialdhnhaaDoor
