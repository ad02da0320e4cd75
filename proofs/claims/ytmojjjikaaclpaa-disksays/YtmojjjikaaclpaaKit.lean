/- What every law of this seat has in common: from 'the call returns true and below the old memory nothing has turned' to the given row; and how arguments that are plain structs read. -/
import Derived.Test.YtmojjjikaaclpaaRows
import Derived.WalkKit
import Derived.ProofKit
import Derived.OpenShut
import Derived.Handy
namespace Go.Proofs.Ytmojjjikaaclpaa
open Go.ChangeShapes Go.WideShapes Go.ChangeAt Go.RowKit
set_option maxRecDepth 100000

theorem Try.own : ownKnob Try.prog.godebug = none := by kernel_rfl
theorem Try.laidOut : laidOutB Try.prog = true := by kernel_rfl

/-- All arguments read behind the call as they read before it. -/
theorem trodAll_below {H : Type} {enc : TypeId × Value → H} {P : Program} (hl : laidOutB P = true) {W W' : World} (hb : Below W.heap.size W W') :
    ∀ {ts : List TypeId} {vs : List Value} {ds : List (DataW H)} {ps : List MemPlace}, ts.all (fun t => P.readableRec t && decide (t < P.types.size)) = true →
      DataW.TrodAll enc P W 0 (fun _ => true) true ts vs ds ps → (∀ x ∈ ps, x.block < W.heap.size) → DataW.TrodAll enc P W' 0 (fun b => decide (b < W.heap.size)) true ts vs ds ps
  | [], _, _, _, _, h, _ => by
    obtain ⟨rfl, rfl, rfl⟩ := trodAll_nil h
    rfl
  | t :: ts, _, _, _, hts, h, hlt => by
    obtain ⟨v, vs1, d, ds1, a, b, rfl, rfl, rfl, h1, h2⟩ := trodAll_cons h
    simp only [List.all_cons, Bool.and_eq_true, decide_eq_true_eq] at hts
    exact ⟨a, b, Below.trod hl hts.1.1 hts.1.2 h1 hb (fun x hx => hlt x (by simp [hx])), trodAll_below hl hb hts.2 h2 (fun x hx => hlt x (by simp [hx])), rfl⟩

theorem trodAll_length {H : Type} {enc : TypeId × Value → H} {P : Program} {w : World} {b : Nat} {sp : Nat → Bool} {hd : Bool} :
    ∀ {ts : List TypeId} {vs : List Value} {ds : List (DataW H)} {ps : List MemPlace}, DataW.TrodAll enc P w b sp hd ts vs ds ps → vs.length = ts.length ∧ ds.length = ts.length
  | [], _, _, _, h => by
    obtain ⟨rfl, rfl, rfl⟩ := trodAll_nil h
    exact ⟨rfl, rfl⟩
  | t :: ts, _, _, _, h => by
    obtain ⟨v, vs1, d, ds1, a, b, rfl, rfl, rfl, h1, h2⟩ := trodAll_cons h
    have := trodAll_length h2
    simp [this.1, this.2]

/-- The row's own step, for whichever law of this seat: what is left is the contract. -/
theorem law_lifted {F : FuncId} {fn : Func} {s : ChangeSpec} (os : Os) (started : os.Started) (H : Type) (enc : TypeId × Value → H)
    (noInit : Try.prog.inits.idxOf? F = none) (hfn : Try.prog.funcs[F]? = some fn)
    (witness : ∃ (w : World) (tape : Tape) (i : Input), w.os = os ∧ (w.forCall tape i).Shaped Try.checked.prog ∧ i.vars = [] ∧ Input.okWide Try.checked.prog (w.forCall tape i) .any w.heap.size F i ∧
      s.pre6 enc Try.checked.prog fn [] false (w.forCall tape i).memory i.args ∧ Assume.holds {} Try.checked.prog (lone (Frame.enter Try.checked.prog F i.args .normal) [] (w.forCall tape i)))
    (hts : fn.params.toList.all (fun t => Try.prog.readableRec t && decide (t < Try.prog.types.size)) = true) (hr : fn.resultTypes = #[4]) (hvars : s.vars = [])
    (hspec : ∀ ds : List (DataW H), ds.length = fn.params.toList.length → s.fn H ds = { results := [.lit (.bool true)], args := ds })
    (contract : ∀ (W : World) (base : Nat) (args : Array Value) (ds : List (DataW H)) (p : List MemPlace),
      (∀ (j : Nat) t v, fn.params[j]? = some t → args[j]? = some v → Value.okWide Try.prog W .any base t v) → args.size = fn.params.size →
      DataW.TrodAll enc Try.prog W 0 (fun _ => true) true fn.params.toList args.toList ds p → (∀ x ∈ p, x.block < W.heap.size) →
      Calls Try.prog F args W fun e W' => e = .returned (.bool true) ∧ Below W.heap.size W W') :
    ReturnsInHanded {} Try.checked os F .any (s.pre6 enc Try.prog fn [] false) (s.post enc Try.prog fn false true false false) := by
  refine returnsInHanded_of_change (C := Try.checked) Try.own started noInit hfn witness ?_
  intro W base args ds gs before hval hW _ _
  have hW' := hW
  obtain ⟨p, q, hA, hV, rfl, hfz, hnd⟩ := hW
  rw [hvars] at hV
  obtain ⟨rfl, rfl⟩ := trodVars_none hV
  have hlt : ∀ x ∈ p, x.block < W.heap.size := fun x hx => by simpa using hW'.lt x (by simp [hx])
  have hlen := trodAll_length hA
  have hsz : args.size = fn.params.size := by simpa using hlen.1
  refine (contract W base args ds p hval hsz hA hlt).mono fun e W' ⟨he, hb⟩ => ?_
  subst he
  have hsp := hspec ds hlen.2
  refine ⟨_, rfl, ds, [], p ++ [], [], p, [], hW', ?_, ?_, ?_, ?_, fun h => by cases h⟩
  · rw [List.append_nil, hsp, hr]
    exact trodAll_mk1 (shut_bool Try.underlying4 _)
  · rw [List.append_nil, hsp]
    exact trodAll_below Try.laidOut hb hts hA hlt
  · rw [hvars, List.append_nil, hsp]
    rfl
  · exact hb.frame _

/-! ### Arguments that are plain structs: the cells written out -/

theorem cell_int {P : Program} {w : World} {b : Nat} {t : TypeId} {k : IntKind} {v : Value} (ht : P.underlying t = some (.int k)) (h : Cell.okWide P w .any b t v) : ∃ n, v = .int k n ∧ k.has n := by
  cases v <;> simp [Cell.okWide, Cell.ok, ht] at h
  obtain ⟨rfl, h⟩ := h
  exact ⟨_, rfl, h⟩

theorem cell_bool {P : Program} {w : World} {b : Nat} {t : TypeId} {v : Value} (ht : P.underlying t = some .bool) (h : Cell.okWide P w .any b t v) : ∃ x, v = .bool x := by
  cases v <;> simp [Cell.okWide, Cell.ok, ht] at h
  exact ⟨_, rfl⟩

theorem val_int {P : Program} {w : World} {b : Nat} {t : TypeId} {k : IntKind} {v : Value} (ht : P.underlying t = some (.int k)) (h : Value.okWide P w .any b t v) : ∃ n, v = .int k n ∧ k.has n := by
  unfold Value.okWide at h
  rw [ht] at h
  exact cell_int ht h

theorem val_bool {P : Program} {w : World} {b : Nat} {t : TypeId} {v : Value} (ht : P.underlying t = some .bool) (h : Value.okWide P w .any b t v) : ∃ x, v = .bool x := by
  unfold Value.okWide at h
  rw [ht] at h
  exact cell_bool ht h

theorem val_struct {P : Program} {w : World} {b : Nat} {t : TypeId} {fs : Array Field} {ts : List TypeId} {v : Value} (ht : P.underlying t = some (.struct fs)) (hc : P.cellTypes P.depth t = some ts) (hn : P.cellsOf t = ts.length)
    (h : Value.okWide P w .any b t v) : ∃ cs : Array Value, v = .agg cs ∧ cs.size = ts.length ∧ ∀ (i : Nat) u x, ts[i]? = some u → cs[i]? = some x → Cell.okWide P w .any b u x := by
  unfold Value.okWide at h
  rw [ht] at h
  obtain ⟨cs, rfl, hs, ts', hc', _, hh⟩ := h
  rw [hc] at hc'
  cases hc'
  refine ⟨cs, rfl, hs.trans hn, fun i u x hu hx => ?_⟩
  have hi : i < ts.length := by
    rcases Nat.lt_or_ge i ts.length with h | h
    · exact h
    · rw [List.getElem?_eq_none h] at hu; cases hu
  obtain ⟨u', hu', h⟩ := hh i x hx
  rw [Nat.mod_eq_of_lt hi, hu] at hu'
  cases hu'
  exact h

theorem array_of_size2 {α : Type} {cs : Array α} (h : cs.size = 2) : ∃ a b, cs = #[a, b] := by
  obtain ⟨l⟩ := cs
  match l, h with
  | [a, b], _ => exact ⟨a, b, rfl⟩
theorem array_of_size3 {α : Type} {cs : Array α} (h : cs.size = 3) : ∃ a b c, cs = #[a, b, c] := by
  obtain ⟨l⟩ := cs
  match l, h with
  | [a, b, c], _ => exact ⟨a, b, c, rfl⟩
theorem array_of_size4 {α : Type} {cs : Array α} (h : cs.size = 4) : ∃ a b c d, cs = #[a, b, c, d] := by
  obtain ⟨l⟩ := cs
  match l, h with
  | [a, b, c, d], _ => exact ⟨a, b, c, d, rfl⟩
theorem array_of_size9 {α : Type} {cs : Array α} (h : cs.size = 9) : ∃ a b c d e f g i j, cs = #[a, b, c, d, e, f, g, i, j] := by
  obtain ⟨l⟩ := cs
  match l, h with
  | [a, b, c, d, e, f, g, i, j], _ => exact ⟨a, b, c, d, e, f, g, i, j, rfl⟩

/-- A place, or a size: three numbers. -/
theorem open_three {w : World} {b : Nat} {t : TypeId} {fs : Array Field} {v : Value} (ht : Try.prog.underlying t = some (.struct fs)) (hc : Try.prog.cellTypes Try.prog.depth t = some [3, 3, 3]) (hn : Try.prog.cellsOf t = 3) (h : Value.okWide Try.prog w .any b t v) :
    ∃ x y z, v = .agg #[.int .i64 x, .int .i64 y, .int .i64 z] ∧ IntKind.i64.has x ∧ IntKind.i64.has y ∧ IntKind.i64.has z := by
  obtain ⟨cs, rfl, hs, hh⟩ := val_struct ht hc hn h
  obtain ⟨c0, c1, c2, rfl⟩ := array_of_size3 hs
  obtain ⟨x, rfl, wx⟩ := cell_int Try.underlying3 (hh 0 _ _ rfl rfl)
  obtain ⟨y, rfl, wy⟩ := cell_int Try.underlying3 (hh 1 _ _ rfl rfl)
  obtain ⟨z, rfl, wz⟩ := cell_int Try.underlying3 (hh 2 _ _ rfl rfl)
  exact ⟨x, y, z, rfl, wx, wy, wz⟩

theorem open_place {w : World} {b : Nat} {v : Value} (h : Value.okWide Try.prog w .any b 100 v) :
    ∃ x y z, v = .agg #[.int .i64 x, .int .i64 y, .int .i64 z] ∧ IntKind.i64.has x ∧ IntKind.i64.has y ∧ IntKind.i64.has z :=
  open_three Try.underlying100 (by kernel_rfl) (by kernel_rfl) h

theorem open_size {w : World} {b : Nat} {v : Value} (h : Value.okWide Try.prog w .any b 36 v) :
    ∃ x y z, v = .agg #[.int .i64 x, .int .i64 y, .int .i64 z] ∧ IntKind.i64.has x ∧ IntKind.i64.has y ∧ IntKind.i64.has z :=
  open_three Try.underlying36 (by kernel_rfl) (by kernel_rfl) h

-- left out: this seat has not what it speaks of

theorem open_car {w : World} {b : Nat} {v : Value} (h : Value.okWide Try.prog w .any b 38 v) :
    ∃ i x y z, v = .agg #[.int .i64 i, .int .i64 x, .int .i64 y, .int .i64 z] ∧ IntKind.i64.has i ∧ IntKind.i64.has x ∧ IntKind.i64.has y ∧ IntKind.i64.has z := by
  obtain ⟨cs, rfl, hs, hh⟩ := val_struct (ts := [3, 3, 3, 3]) Try.underlying38 (by kernel_rfl) (by kernel_rfl) h
  obtain ⟨c0, c1, c2, c3, rfl⟩ := array_of_size4 hs
  obtain ⟨i, rfl, wi⟩ := cell_int Try.underlying3 (hh 0 _ _ rfl rfl)
  obtain ⟨x, rfl, wx⟩ := cell_int Try.underlying3 (hh 1 _ _ rfl rfl)
  obtain ⟨y, rfl, wy⟩ := cell_int Try.underlying3 (hh 2 _ _ rfl rfl)
  obtain ⟨z, rfl, wz⟩ := cell_int Try.underlying3 (hh 3 _ _ rfl rfl)
  exact ⟨i, x, y, z, rfl, wi, wx, wy, wz⟩

-- left out: this seat has not what it speaks of

theorem array_args2 {args : Array Value} (h : args.size = 2) : ∃ a b, args = #[a, b] := array_of_size2 h
theorem array_args1 {args : Array Value} (h : args.size = 1) : ∃ a, args = #[a] := by
  obtain ⟨l⟩ := args
  match l, h with
  | [a], _ => exact ⟨a, rfl⟩

end Go.Proofs.Ytmojjjikaaclpaa
