/- Chapter 10: whom to welcome, what is over, what is put away; contracts for the laws. -/
import Derived.Test.YtopgllmjeliklaaGreatDoorJBookPure
import Derived.Test.YtopgllmjeliklaaGreatDoorJParse
import Derived.Test.YtopgllmjeliklaaGreatDoorJKept
import Derived.Test.YtopgllmjeliklaaGreatDoorJPlantM
import Derived.Test.YtopgllmjeliklaaGreatDoorJPlantN
namespace Go.Proofs.YtopgllmjeliklaaGreatDoor
open Go.Shelf Go.Lib Go.ChangeShapes Go.WideShapes Go.ChangeAt Go.RowKit
set_option maxRecDepth 100000
set_option linter.unusedSimpArgs false
set_option linter.unusedVariables false

namespace Tn
open Bk Pl
/-- A list of goals, maybe none. -/
def Goals (w : World) (v : Value) (l : List (Int × Int)) : Prop := (v = .slice none 0 0 ∧ l = []) ∨ GoalsAt w v l
theorem Goals.nil (w : World) : Goals w (.slice none 0 0) [] := Or.inl ⟨rfl, rfl⟩
theorem Goals.below {w w' : World} {v : Value} {l : List (Int × Int)} (h : Goals w v l) (hb : Below w.heap.size w w') : Goals w' v l := by
  rcases h with h | ⟨g, cap, hv, hg, hl, hc⟩
  · exact Or.inl h
  · refine Or.inr ⟨g, cap, hv, Nat.lt_of_lt_of_le hg hb.size, ⟨hl.1, hl.2.1, hl.2.2.1, hl.2.2.2.imp fun _ hk => (hb.block g hg).trans hk⟩, fun k hk => ?_⟩
    exact ⟨(hb.cell (p := ⟨g, k * 2, none⟩) hg).trans (hc k hk).1, (hb.cell (p := ⟨g, k * 2 + 1, none⟩) hg).trans (hc k hk).2⟩
def gGive : List (Int × Int) := [(2, 0), (5, 0), (1, 0), (8, 0), (6, 0)]
def gWel : List (Int × Int) := [(2, 0), (5, 0), (1, 0), (6, 0)]
def gTake : List (Int × Int) := [(2, 0), (5, 0), (1, 0), (7, 0)]
def gThere (kind x y z : Int) : List (Int × Int) := [(2, 0), (5, 0), (1, x * 3), (2, extI y z), (kind, 0), (2, 0)]
def welG (s : St) : List (Int × Int) := if s.op = true then [] else gWel
def overB (s : St) (jf : Bool) (vs : Stay) : Bool := !hasB s vs.id || (if jf = true then s.ba == vs.id else carOf s.D vs.x vs.y vs.z == vs.id)
def putG (s : St) (vs : Stay) : List (Int × Int) := if (s.ba == vs.id) = true then gTake else []

set_option maxHeartbeats 2000000 in
theorem vwelcome_any (vb pb mb n : Nat) (s : St) (b : Book) (q1 q2 q3 bz : Bool) (jt : Int) (jf : Bool) (vs : Stay) (w : World) (h : ViewAt w vb pb mb n s b q1 q2 q3 bz jt jf vs) :
    Calls Tryz.prog 82 #[.pointer (some ⟨vb, 0, none⟩)] w fun e w' => ∃ v, e = .returned v ∧ Goals w' v (welG s) ∧ Below w.heap.size w w' := by
  have rv := h.v.cell
  unfold vArr at rv
  clear h
  have KW : Hid (welG s = if s.op = true then [] else gWel) := rfl
  have HP : Hid (∀ v w', Goals w' v (welG s) → Below w.heap.size w w' → ∃ v', Ending.returned v = .returned v' ∧ Goals w' v' (welG s) ∧ Below w.heap.size w w') := fun v w' h1 h2 => ⟨v, rfl, h1, h2⟩
  generalize hPP : (fun (e : Ending) (w' : World) => ∃ v, e = .returned v ∧ Goals w' v (welG s) ∧ Below w.heap.size w w') = PP
  have HP2 : Hid (∀ v w', Goals w' v (welG s) → Below w.heap.size w w' → PP (.returned v) w') := fun v w' h1 h2 => by rw [← hPP]; exact HP.out v w' h1 h2
  clear hPP HP
  have HP := HP2
  clear HP2
  cases hop : s.op
  · rw [hop] at rv
    have KW2 : Hid (welG s = gWel) := by show _ = _; rw [KW.out, hop]; rfl
    rw [KW2.out] at HP
    clear KW KW2 hop
    go_enter Tryz.func82, Tryz.ntmps82
    go_wp2_with fail
    refine (welcome_any _).mono ?_
    rintro e w2 ⟨v, rfl, ho⟩
    have X : Hid (Goals w2 v gWel ∧ Below w.heap.size w w2) := ⟨Or.inr (ho.at (by decide) (by decide)), ho.2⟩
    clear ho
    go_wp2
    exact HP.out _ _ X.out.1 X.out.2
  · rw [hop] at rv
    have KW2 : Hid (welG s = []) := by show _ = _; rw [KW.out, hop]; rfl
    rw [KW2.out] at HP
    clear KW KW2 hop
    go_enter Tryz.func82, Tryz.ntmps82
    go_wp2
    exact HP.out _ _ (Goals.nil _) (Below.refl _ _)

set_option maxHeartbeats 2000000 in
theorem vputAway_any (vb pb mb n : Nat) (s : St) (b : Book) (q1 q2 q3 bz : Bool) (jt : Int) (jf : Bool) (vs : Stay) (w : World) (h : ViewAt w vb pb mb n s b q1 q2 q3 bz jt jf vs) :
    Calls Tryz.prog 86 #[.pointer (some ⟨vb, 0, none⟩)] w fun e w' => ∃ v, e = .returned v ∧ Goals w' v (putG s vs) ∧ Below w.heap.size w w' := by
  have HVC : Hid (∀ p : BelowW w, Blk p.wd vb (vArr b s pb q1 q2 q3 bz jt jf vs) 135) := fun p => h.v.below p.hb
  have v8 := fun p : BelowW w => (HVC.out p).cell 8
  have v19 := fun p : BelowW w => (HVC.out p).cell 19
  simp only [vArr] at v8 v19
  clear h HVC
  have KW : Hid (putG s vs = if (s.ba == vs.id) = true then gTake else []) := rfl
  have HP : Hid (∀ v w', Goals w' v (putG s vs) → Below w.heap.size w w' → ∃ v', Ending.returned v = .returned v' ∧ Goals w' v' (putG s vs) ∧ Below w.heap.size w w') := fun v w' h1 h2 => ⟨v, rfl, h1, h2⟩
  generalize hPP : (fun (e : Ending) (w' : World) => ∃ v, e = .returned v ∧ Goals w' v (putG s vs) ∧ Below w.heap.size w w') = PP
  have HP2 : Hid (∀ v w', Goals w' v (putG s vs) → Below w.heap.size w w' → PP (.returned v) w') := fun v w' h1 h2 => by rw [← hPP]; exact HP.out v w' h1 h2
  clear hPP HP
  have HP := HP2
  clear HP2
  go_enter Tryz.func86, Tryz.ntmps86
  go_upto_region 1 with fail
  refine wp_region_below (by kernel_rfl) (by kernel_rfl) ?_
  repeat (go_big_quiet_step (fail))
  refine wpQuiet_nil ?_
  rintro wb ⟨⟨_, NQ⟩, rfl⟩
  clear v8 v19
  cases hc : (s.ba == vs.id)
  · have KW2 : Hid (putG s vs = []) := by show _ = _; rw [KW.out, hc]; rfl
    rw [KW2.out] at HP
    clear KW KW2
    go_wp2
    exact HP.out _ _ (Goals.nil _) NQ
  · have KW2 : Hid (putG s vs = gTake) := by show _ = _; rw [KW.out, hc]; rfl
    rw [KW2.out] at HP
    clear KW KW2
    go_wp2_with fail
    refine (takeIn_any _).mono ?_
    rintro e w2 ⟨v, rfl, ho⟩
    have X : Hid (Goals w2 v gTake ∧ Below w.heap.size w w2) := ⟨Or.inr (ho.at (by decide) (by decide)), B.next NQ ho.2 NQ.size⟩
    clear ho
    go_wp2
    exact HP.out _ _ X.out.1 X.out.2

set_option maxHeartbeats 4000000 in
theorem vover_any (vb pb mb n : Nat) (s : St) (b : Book) (q1 q2 q3 bz : Bool) (jt : Int) (jf : Bool) (vs : Stay) (w : World) (h : ViewAt w vb pb mb n s b q1 q2 q3 bz jt jf vs) (hs : sOk vs) (iv : Inv s) :
    Calls Tryz.prog 83 #[.pointer (some ⟨vb, 0, none⟩)] w fun e w' => e = .returned (.bool (overB s jf vs)) ∧ Below w.heap.size w w' := by
  have HAT : Hid (∀ wx, Below w.heap.size w wx → Calls Tryz.prog 34 #[.pointer (some ⟨pb, 0, none⟩), .agg #[.int .i64 vs.x, .int .i64 vs.y, .int .i64 vs.z]] wx fun e w' => e = .returned (.int .i64 (carOf s.D vs.x vs.y vs.z)) ∧ Below wx.heap.size wx w') := fun wx hx => vat_any vb pb mb n s b q1 q2 q3 bz jt jf vs vs.x vs.y vs.z wx (h.next hx) ⟨hs.1, hs.2.1⟩ ⟨hs.2.2.1, hs.2.2.2.1⟩ ⟨hs.2.2.2.2.1, hs.2.2.2.2.2⟩
  have HHA : Hid (Calls Tryz.prog 56 #[.pointer (some ⟨pb, 0, none⟩), .int .i64 vs.id] w fun e w' => e = .returned (.bool (hasB s vs.id)) ∧ Below w.heap.size w w') := has_any pb mb n s vs.id w h.p iv
  have HV : Hid (∀ wx, Below w.heap.size w wx → Blk wx vb (vArr b s pb q1 q2 q3 bz jt jf vs) 135) := fun wx hx => h.v.below hx
  have rv := h.v.cell
  unfold vArr at rv
  clear h
  have KO : Hid (overB s jf vs = (!hasB s vs.id || (if jf = true then s.ba == vs.id else carOf s.D vs.x vs.y vs.z == vs.id))) := rfl
  generalize hPP : (fun (e : Ending) (w' : World) => e = .returned (.bool (overB s jf vs)) ∧ Below w.heap.size w w') = PP
  have HP : Hid (∀ (q : Bool) w', q = overB s jf vs → Below w.heap.size w w' → PP (.returned (.bool q)) w') := fun q w' h1 h2 => by rw [← hPP]; subst h1; exact ⟨rfl, h2⟩
  clear hPP
  generalize overB s jf vs = oo at *
  generalize carOf s.D vs.x vs.y vs.z = cv at *
  go_enter Tryz.func83, Tryz.ntmps83
  go_wp2_with fail
  clear rv
  refine HHA.out.mono ?_
  rintro e w1 ⟨rfl, b1⟩
  obtain ⟨hq, hhq⟩ : ∃ hq, hasB s vs.id = hq := ⟨_, rfl⟩
  rw [hhq] at KO ⊢
  clear hhq
  cases hq
  · have K2 : Hid (oo = true) := by show _ = _; rw [KO.out]; rfl
    go_wp2
    exact HP.out _ _ (by rw [K2.out]) b1
  · have rv := (HV.out _ b1).cell
    unfold vArr at rv
    cases jf
    · have K2 : Hid (oo = (cv == vs.id)) := by show _ = _; rw [KO.out]; rfl
      have HAQ : Hid (∀ p : BelowW w1, Calls Tryz.prog 34 #[.pointer (some ⟨pb, 0, none⟩), .agg #[.int .i64 vs.x, .int .i64 vs.y, .int .i64 vs.z]] p.wd fun e w' => e = .returned (.int .i64 cv) ∧ Below p.wd.heap.size p.wd w') := fun p => HAT.out _ (B.next b1 p.hb b1.size)
      have HVC : Hid (∀ p : BelowW w1, Blk p.wd vb (vArr b s pb q1 q2 q3 bz jt false vs) 135) := fun p => HV.out _ (B.next b1 p.hb b1.size)
      have v12 := fun p : BelowW w1 => (HVC.out p).cell 12
      have v23 := fun p : BelowW w1 => (HVC.out p).cell 23
      have v24 := fun p : BelowW w1 => (HVC.out p).cell 24
      have v25 := fun p : BelowW w1 => (HVC.out p).cell 25
      simp only [vArr] at v12 v23 v24 v25
      go_upto_region 6 with fail
      clear rv
      refine wp_region_below (by kernel_rfl) (by kernel_rfl) ?_
      repeat (go_big_quiet_step (first | (go_at_call 34; exact Calls.wof (HAQ.out _))))
      refine wpQuiet_nil ?_
      rintro wb ⟨⟨_, NQ⟩, rfl⟩
      go_wp2
      exact HP.out _ _ (by rw [K2.out]) (B.next b1 NQ b1.size)
    · have K2 : Hid (oo = (s.ba == vs.id)) := by show _ = _; rw [KO.out]; rfl
      go_wp2
      exact HP.out _ _ (by rw [K2.out]) b1

end Tn
end Go.Proofs.YtopgllmjeliklaaGreatDoor

namespace Go.Proofs.YtopgllmjeliklaaGreatDoor
open Go.Shelf Go.Lib Go.ChangeShapes Go.WideShapes Go.ChangeAt Go.RowKit
set_option maxRecDepth 100000
set_option linter.unusedSimpArgs false
set_option linter.unusedVariables false

namespace Hs
open Bk Lg Pl Dk Tx
theorem size_len (p : Int × Int × Int) : (Bk.encP p).length = 3 := rfl
theorem size_one : ∀ (l : List (Int × Int × Int)), ∀ u ∈ l.flatMap Bk.encP, u.oneCell' = true
  | [], u, h => by simp at h
  | x :: l, u, h => by
    rw [List.flatMap_cons, List.mem_append] at h
    rcases h with h | h
    · simp [Bk.encP] at h
      rcases h with rfl | rfl | rfl <;> rfl
    · exact size_one l u h
theorem infoSize : ∃ i0 : TypeInfo, Tryz.prog.info? 32 = some i0 ∧ i0.zero = some (.agg #[.int .i64 0, .int .i64 0, .int .i64 0]) ∧ i0.size = 3 ∧ i0.bytes = 24 := ⟨_, rfl, by kernel_rfl, by kernel_rfl, by kernel_rfl⟩
/-- The levels as a list. -/
def rowsOf (f : Nat → Int × Int × Int) (n : Nat) : List (Int × Int × Int) := (List.range n).map f
theorem rowsOf_len (f : Nat → Int × Int × Int) (n : Nat) : (rowsOf f n).length = n := by simp [rowsOf]
theorem rowsOf_at (f : Nat → Int × Int × Int) (n i : Nat) (h : i < n) : (rowsOf f n)[i]! = f i := by
  rw [getElem!_pos _ i (by rw [rowsOf_len]; exact h)]
  simp [rowsOf]
theorem rows_of_sizes {w : World} {v : Value} {len : Nat} {f : Nat → Int × Int × Int} (h : SizesAt w v len f) : ∃ a cap, v = .slice a (rowsOf f len).length cap ∧ RowsAt w a cap 3 Bk.encP (rowsOf f len) := by
  obtain ⟨a, cap, rfl, h1, h2, h3⟩ := h
  refine ⟨a, cap, by rw [rowsOf_len], ?_⟩
  refine ⟨by rw [rowsOf_len]; exact h1, h2, fun h0 => ?_⟩
  rw [rowsOf_len] at h0
  obtain ⟨b, off, rfl, hb, hc⟩ := h3 h0
  refine ⟨b, off, rfl, hb, fun j hj i u hu => ?_⟩
  rw [rowsOf_len] at hj
  rw [rowsOf_at f len j hj] at hu
  obtain ⟨c0, c1, c2⟩ := hc j hj
  match i, hu with
  | 0, hu => simp [Bk.encP] at hu; subst hu; exact c0
  | 1, hu => simp [Bk.encP] at hu; subst hu; exact c1
  | 2, hu => simp [Bk.encP] at hu; subst hu; exact c2
theorem own_sizes {w : World} {base : Nat} {v : Value} {len : Nat} {f : Nat → Int × Int × Int} (h : OwnAt w base 32 3 Bk.encP v (rowsOf f len)) : SizesAt w v len f := by
  obtain ⟨a, cap, rfl, h1, h2, h3⟩ := h.rows
  rw [rowsOf_len] at h1 ⊢
  refine ⟨a, cap, rfl, h1, h2, fun h0 => ?_⟩
  obtain ⟨b, off, rfl, hb, hc⟩ := h3 (by rw [rowsOf_len]; exact h0)
  refine ⟨b, off, rfl, hb, fun i hi => ?_⟩
  have h := hc i (by rw [rowsOf_len]; exact hi)
  rw [rowsOf_at f len i hi] at h
  exact ⟨h 0 _ rfl, h 1 _ rfl, h 2 _ rfl⟩

set_option maxHeartbeats 1000000 in
theorem cloneZ_any (a : Option Addr) (cap : Nat) (l : List (Int × Int × Int)) (w : World) (h : RowsAt w a cap 3 Bk.encP l) (hl : l.length ≤ 1000) :
    Calls Tryz.prog 69 #[.slice a l.length cap] w fun e w' => ∃ v, e = .returned v ∧ OwnAt w' w.heap.size 32 3 Bk.encP v l ∧ Below w.heap.size w w' := by
  obtain ⟨i0, hi, hz0, hz1, hz2⟩ := infoSize
  have q22 : ∀ (w : World) (a : Option Addr) (n c n' c' : Nat), (binOp .eql 22 (.slice a n c) (.slice none n' c')).run Tryz.prog w = .ok (.bool a.isNone) w := fun w a n c n' c' => Lib.run_eql_slice_nil w _ _ a n c n' c' Tryz.underlying22
  cases a with
  | none =>
    have h0 : l = [] := by
      rcases l with _ | ⟨x, l⟩
      · rfl
      · obtain ⟨b, off, e, _⟩ := h.2.2 (by simp)
        cases e
    subst h0
    clear h hi hz0 hz1 hz2
    go_enter Tryz.func69, Tryz.ntmps69
    go_wp2
    go_returns
    exact ⟨_, rfl, Or.inl ⟨rfl, rfl⟩, Below.refl _ _⟩
  | some ad =>
    have HA : Hid (∀ j u, (l.flatMap Bk.encP)[j]? = some u → w.cell? (ad.add j) = some u) := h.flat size_len
    have HL : Hid ((l.flatMap Bk.encP).length = l.length * 3) := flat_len Bk.encP 3 size_len l
    have H1 : Hid (∀ u ∈ l.flatMap Bk.encP, u.oneCell' = true) := size_one l
    clear h
    go_enter Tryz.func69, Tryz.ntmps69
    go_wp2_with (at_builtin; refine wpList_append_own _ rfl _ _ 22 rfl w.heap.size 32 i0 _ 3 24 Tryz.underlying22 hi hz0 hz1 hz2 rfl (by omega) _ _ _ rfl (World.ownsRow_made w #[] 0 (Nat.le_refl _) (Nat.zero_le _) (by simp)) ad l.length cap (l.flatMap Bk.encP) rfl ?qc1 ?qc2 ?qc3 ?qc4 ?qc5 ?qc6 ?_)
    case qc1 => exact HL.out
    case qc2 => intro j u hj; exact Lib.cell?_alloc_some _ (HA.out j u hj)
    case qc3 => exact H1.out
    case qc4 => unfold maxLen; omega
    case qc5 => omega
    case qc6 => simp
    intro v' w1 hown hgrow hnil
    have o1 : w1.ownsRow w.heap.size 32 3 v' l.length (l.flatMap Bk.encP) := by simpa using hown
    have O1 : Hid (w1.ownsRow w.heap.size 32 3 v' l.length (l.flatMap Bk.encP)) := o1
    clear o1
    have G1 : Hid (Below w.heap.size w w1) := ((Below.refl _ w).alloc (Nat.le_refl _) _).grown hgrow (by simp) (by intro k hk; simp [Value.ownBlock] at hk; omega)
    clear hown hgrow hnil
    go_wp2
    go_returns
    exact ⟨v', rfl, OwnAt.of_owns size_len O1.out, G1.out⟩
end Hs
end Go.Proofs.YtopgllmjeliklaaGreatDoor

namespace Go.Proofs.YtopgllmjeliklaaGreatDoor
open Go.Shelf Go.Lib Go.ChangeShapes Go.WideShapes Go.ChangeAt Go.RowKit
set_option maxRecDepth 100000
set_option linter.unusedSimpArgs false
set_option linter.unusedVariables false

namespace Hs
open Bk Lg Pl Dk Tx
/-- Goals that a house has: maybe the last ones of a longer list. -/
def GoalsH (w : World) (v : Value) (l : List (Int × Int)) : Prop :=
  ∃ (ad : Option Addr) (cap : Nat), v = .slice ad l.length cap ∧ l.length ≤ 100 ∧ l.length ≤ cap ∧ cap ≤ maxLen ∧
    (0 < l.length → ∃ g off cur, ad = some ⟨g, off, none⟩ ∧ Blk w g cur 102 ∧ ∀ i, i < l.length → cur[off + i * 2]? = some (.int .i64 (l.getD i (0, 0)).1) ∧ cur[off + i * 2 + 1]? = some (.int .i64 (l.getD i (0, 0)).2))
theorem GoalsH.nil (w : World) : GoalsH w (.slice none 0 0) [] := ⟨none, 0, rfl, Nat.zero_le _, Nat.le_refl _, Nat.zero_le _, fun h => absurd h (Nat.lt_irrefl 0)⟩
theorem GoalsH.far {w w' : World} {v : Value} {l : List (Int × Int)} (h : GoalsH w v l) (hf : ∀ g arr, Blk w g arr 102 → Blk w' g arr 102) : GoalsH w' v l := by
  obtain ⟨ad, cap, hv, h1, h2, h3, hc⟩ := h
  refine ⟨ad, cap, hv, h1, h2, h3, fun h0 => ?_⟩
  obtain ⟨g, off, cur, ha, hk, hcell⟩ := hc h0
  exact ⟨g, off, cur, ha, hf g cur hk, hcell⟩
theorem goalsH_of {w : World} {v : Value} {l : List (Int × Int)} (h : Tn.Goals w v l) : GoalsH w v l := by
  rcases h with ⟨rfl, rfl⟩ | ⟨g, cap, hv, hg, ⟨h1, h2, h3, cur, hk⟩, hc⟩
  · exact GoalsH.nil w
  · have hk' : Blk w g cur 102 := hk
    refine ⟨_, cap, hv, h1, h2, h3, fun h0 => ⟨g, 0, cur, rfl, hk', fun i hi => ?_⟩⟩
    have e : l.getD i (0, 0) = l[i] := by simp [List.getD, hi]
    obtain ⟨c0, c1⟩ := hc i hi
    rw [hk'.cell] at c0 c1
    rw [e, show 0 + i * 2 = i * 2 from by omega]
    exact ⟨c0, c1⟩
theorem GoalsH.tail {w : World} {ad : Option Addr} {n cap : Nat} {g : Int × Int} {l : List (Int × Int)} (h : GoalsH w (.slice ad n cap) (g :: l)) :
    ∃ b off, ad = some ⟨b, off, none⟩ ∧ n = l.length + 1 ∧ l.length + 1 ≤ cap ∧ GoalsH w (.slice (some ⟨b, off + 2, none⟩) l.length (cap - 1)) l := by
  obtain ⟨ad', cap', hv, h1, h2, h3, hc⟩ := h
  injection hv with e1 e2 e3
  subst e1 e3
  obtain ⟨b, off, cur, ha, hk, hcell⟩ := hc (by simp)
  refine ⟨b, off, ha, e2, h2, _, _, rfl, by simp at h1; omega, by simp at h2; omega, by omega, fun h0 => ⟨b, off + 2, cur, rfl, hk, fun i hi => ?_⟩⟩
  have := hcell (i + 1) (by simpa using hi)
  rw [show off + (i + 1) * 2 = off + 2 + i * 2 from by omega] at this
  simpa using this
/-- What an operation on a house leaves alone. -/
structure HFr (base : Nat) (w w' : World) : Prop where
  b : Below base w w'
  far : ∀ k arr T, T ≠ 124 → T ≠ 157 → T ≠ 194 → T ≠ 133 → T ≠ 92 → T ≠ 96 → Blk w k arr T → Blk w' k arr T
theorem HFr.refl (base : Nat) (w : World) : HFr base w w := ⟨Below.refl _ _, fun _ _ _ _ _ _ _ _ _ h => h⟩
theorem HFr.trans {base : Nat} {a b c : World} (h : HFr base a b) (k : HFr base b c) : HFr base a c := ⟨⟨k.b.os.trans h.b.os, k.b.tape.trans h.b.tape, k.b.output.trans h.b.output, Nat.le_trans h.b.size k.b.size, fun q hq => (k.b.block q hq).trans (h.b.block q hq)⟩, fun q arr T h1 h2 h3 h4 h5 h6 hk => k.far q arr T h1 h2 h3 h4 h5 h6 (h.far q arr T h1 h2 h3 h4 h5 h6 hk)⟩
theorem HFr.of_l {base : Nat} {w w' : World} (h : LFr base w w') : HFr base w w' := ⟨h.b, fun k arr T h1 h2 h3 h4 _ _ hk => h.far k arr T h1 h2 h3 h4 hk⟩
theorem HFr.of_below {base : Nat} {w w' : World} (h : Below w.heap.size w w') (hb : base ≤ w.heap.size) : HFr base w w' := ⟨⟨h.os, h.tape, h.output, h.size, fun k hk => h.block k (by omega)⟩, fun _ _ _ _ _ _ _ _ _ hk => hk.below h⟩
theorem turn_far {w w' : World} {pb mb n : Nat} {s : St} (h : IsP w pb mb n s) (t : Turn pb mb w w') : ∀ k arr T, T ≠ 92 → Blk w k arr T → Blk w' k arr T := fun k arr T hT hk => (t.block k hk.lt (fun e => by
  subst e
  exact hT (blk_typeD hk h.row)) (fun e => by
  subst e
  obtain ⟨es, clock, hm, r⟩ := h.cars
  have h1 : w.heap[k]? = _ := hk
  rw [hm] at h1
  cases h1)).trans hk
theorem HFr.of_turn {base : Nat} {w w' : World} {pb mb n : Nat} {s : St} (h : IsP w pb mb n s) (hp : base ≤ pb) (hm : base ≤ mb) (hb : base ≤ w.heap.size) (t : Turn pb mb w w') : HFr base w w' := ⟨⟨t.os, t.tape, t.output, t.size, fun k hk => t.block k (by omega) (by omega) (by omega)⟩, fun k arr T _ _ _ _ h5 _ hk => turn_far h t k arr T h5 hk⟩
theorem isP_l {base : Nat} {w w' : World} {pb mb n : Nat} {s : St} (h : IsP w pb mb n s) (f : LFr base w w') : IsP w' pb mb n s := by
  refine ⟨f.far pb _ _ (by decide) (by decide) (by decide) (by decide) h.row, ?_⟩
  obtain ⟨es, clock, hm, r⟩ := h.cars
  exact ⟨es, clock, f.oth.same mb _ hm rfl, r⟩
theorem OwnAt.far2 {α : Type} [Inhabited α] {w w' : World} {base : Nat} {T : TypeId} {k : Nat} {enc : α → List Value} {v : Value} {l : List α} (h : OwnAt w base T k enc v l) (hf : ∀ g arr, Blk w g arr T → Blk w' g arr T) : OwnAt w' base T k enc v l := Lg.OwnAt.far h hf
theorem LedS.far {w w' : World} {base db sb : Nat} {secs : List Sec} {armed : Bool} {left : Int} {L n : Nat} {b : PB} (h : LedS w base db sb secs armed left L n b) (hf : ∀ k arr T, T ≠ 92 → T ≠ 96 → Blk w k arr T → Blk w' k arr T) : LedS w' base db sb secs armed left L n b := by
  obtain ⟨vs, vj, h1, h2⟩ := h.l
  exact ⟨⟨hf _ _ _ (by decide) (by decide) h.d.d, hf _ _ _ (by decide) (by decide) h.d.s, fun i hi => OwnAt.far2 (h.d.own i hi) (fun g arr hk => hf _ _ _ (by decide) (by decide) hk), h.d.ne, h.d.hb⟩, h.len, h.few, h.wr, h.lo, ⟨vs, vj, hf _ _ _ (by decide) (by decide) h1, ⟨OwnAt.far2 h2.s (fun g arr hk => hf _ _ _ (by decide) (by decide) hk), OwnAt.far2 h2.j (fun g arr hk => hf _ _ _ (by decide) (by decide) hk), h2.ne⟩⟩, h.hL, h.op⟩
/-- A house, its machine and its ledger, in blocks that don't lie below base. -/
structure HouseS (w : World) (base pb mb n db sb L hb : Nat) (secs : List Sec) (armed : Bool) (left : Int) (lv : List (Int × Int × Int)) (s : St) (b : PB) (gs : List (Int × Int)) : Prop where
  h : ∃ vl vg, Blk w hb #[vl, .pointer (some ⟨pb, 0, none⟩), .pointer (some ⟨L, 0, none⟩), vg] 96 ∧ OwnAt w base 32 3 Bk.encP vl lv ∧ GoalsH w vg gs
  p : IsP w pb mb n s
  iv : Inv s
  l : LedS w base db sb secs armed left L lv.length b
  hpb : base ≤ pb
  hmb : base ≤ mb
  hhb : base ≤ hb
  hsz : base ≤ w.heap.size
  n1 : 1 ≤ lv.length
  n4 : lv.length ≤ 4
  ok : BookOK b.last lv.length b.stays b.jobs
section
variable {w w' : World} {base pb mb n db sb L hb : Nat} {secs : List Sec} {armed : Bool} {left : Int} {lv : List (Int × Int × Int)} {s : St} {b : PB} {gs : List (Int × Int)}
theorem HouseS.below (h : HouseS w base pb mb n db sb L hb secs armed left lv s b gs) (hB : Below w.heap.size w w') : HouseS w' base pb mb n db sb L hb secs armed left lv s b gs := by
  obtain ⟨vl, vg, h1, h2, h3⟩ := h.h
  exact ⟨⟨vl, vg, h1.below hB, h2.below hB, h3.far fun _ _ hk => hk.below hB⟩, h.p.below hB, h.iv, h.l.below hB, h.hpb, h.hmb, h.hhb, Nat.le_trans h.hsz hB.size, h.n1, h.n4, h.ok⟩
/-- The machine moved. -/
theorem HouseS.turned {n' : Nat} {s' : St} (h : HouseS w base pb mb n db sb L hb secs armed left lv s b gs) (t : Turn pb mb w w') (hp : IsP w' pb mb n' s') (iv : Inv s') : HouseS w' base pb mb n' db sb L hb secs armed left lv s' b gs := by
  obtain ⟨vl, vg, h1, h2, h3⟩ := h.h
  have hf := turn_far h.p t
  exact ⟨⟨vl, vg, hf _ _ _ (by decide) h1, OwnAt.far2 h2 fun _ _ hk => hf _ _ _ (by decide) hk, h3.far fun _ _ hk => hf _ _ _ (by decide) hk⟩, hp, iv, LedS.far h.l fun k arr T h1 _ hk => hf k arr T h1 hk, h.hpb, h.hmb, h.hhb, Nat.le_trans h.hsz t.size, h.n1, h.n4, h.ok⟩
/-- Another book is kept. -/
theorem HouseS.kept {secs' : List Sec} {left' : Int} {b' : PB} (h : HouseS w base pb mb n db sb L hb secs armed left lv s b gs) (f : LFr base w w') (hl : LedS w' base db sb secs' armed left' L lv.length b') (ok : BookOK b'.last lv.length b'.stays b'.jobs) : HouseS w' base pb mb n db sb L hb secs' armed left' lv s b' gs := by
  obtain ⟨vl, vg, h1, h2, h3⟩ := h.h
  exact ⟨⟨vl, vg, f.far _ _ _ (by decide) (by decide) (by decide) (by decide) h1, OwnAt.far2 h2 fun _ _ hk => f.far _ _ _ (by decide) (by decide) (by decide) (by decide) hk, h3.far fun _ _ hk => f.far _ _ _ (by decide) (by decide) (by decide) (by decide) hk⟩, isP_l h.p f, h.iv, hl, h.hpb, h.hmb, h.hhb, Nat.le_trans h.hsz f.b.size, h.n1, h.n4, ok⟩
/-- Other goals are set. -/
theorem HouseS.goals {v : Value} {gs' : List (Int × Int)} (h : HouseS w base pb mb n db sb L hb secs armed left lv s b gs) (hg : GoalsH w v gs') : HouseS (w.setCell ⟨hb, 3, none⟩ v) base pb mb n db sb L hb secs armed left lv s b gs' ∧ HFr base w (w.setCell ⟨hb, 3, none⟩ v) := by
  obtain ⟨vl, vg, h1, h2, h3⟩ := h.h
  have hf : ∀ k arr T, T ≠ 96 → Blk w k arr T → Blk (w.setCell ⟨hb, 3, none⟩ v) k arr T := fun k arr T hT hk => hk.other (fun e => hT (blk_typeD hk (e ▸ h1))) _ _
  have hB : Below base w (w.setCell ⟨hb, 3, none⟩ v) := (Below.refl _ _).setCell (p := ⟨hb, 3, none⟩) h.hhb v
  refine ⟨⟨⟨vl, v, h1.set 3 v, OwnAt.far2 h2 fun _ _ hk => hf _ _ _ (by decide) hk, hg.far fun _ _ hk => hf _ _ _ (by decide) hk⟩, ⟨hf _ _ _ (by decide) h.p.row, ?_⟩, h.iv, LedS.far h.l fun k arr T _ h1 hk => hf k arr T h1 hk, h.hpb, h.hmb, h.hhb, Nat.le_trans h.hsz hB.size, h.n1, h.n4, h.ok⟩, hB, fun k arr T _ _ _ _ _ h6 hk => hf k arr T h6 hk⟩
  obtain ⟨es, clock, hm, r⟩ := h.p.cars
  exact ⟨es, clock, (KeepsOthers.setCell w _ v).same mb _ hm rfl, r⟩
end
end Hs
end Go.Proofs.YtopgllmjeliklaaGreatDoor

namespace Go.Proofs.YtopgllmjeliklaaGreatDoor
open Go.Shelf Go.Lib Go.ChangeShapes Go.WideShapes Go.ChangeAt Go.RowKit
set_option maxRecDepth 100000
set_option linter.unusedSimpArgs false
set_option linter.unusedVariables false

namespace Hs
open Bk Lg Pl Dk Tx
set_option maxHeartbeats 2000000 in
theorem hbook_any (base pb mb n db sb L hb : Nat) (secs : List Sec) (armed : Bool) (left : Int) (lv : List (Int × Int × Int)) (s : St) (b : PB) (gs : List (Int × Int)) (w : World) (h : HouseS w base pb mb n db sb L hb secs armed left lv s b gs) :
    Calls Tryz.prog 20 #[.pointer (some ⟨hb, 0, none⟩)] w fun e w' => ∃ vs vj, e = .returned (.agg #[.int .i64 b.last, vs, vj]) ∧ OwnBook w' w.heap.size vs vj b.stays b.jobs ∧ Below w.heap.size w w' := by
  obtain ⟨w0, hw0⟩ : ∃ w0, w.alloc (.cells #[.int .i64 0, .slice none 0 0, .slice none 0 0] 39) = w0 := ⟨_, rfl⟩
  obtain ⟨vl, vg, h1, h2, h3⟩ := h.h
  have N0 : Hid (Below w.heap.size w w0 ∧ Blk w0 w.heap.size #[.int .i64 0, .slice none 0 0, .slice none 0 0] 39 ∧ Blk w0 hb #[vl, .pointer (some ⟨pb, 0, none⟩), .pointer (some ⟨L, 0, none⟩), vg] 96) := by
    show _ ∧ _ ∧ _
    rw [← hw0]
    exact ⟨B.new1 _ _, Blk.new _ _ _, h1.old _⟩
  have HC : Hid (Calls Tryz.prog 51 #[.pointer (some ⟨L, 0, none⟩)] w0 fun e w' => ∃ vs vj, e = .returned (.agg #[.int .i64 b.last, vs, vj]) ∧ OwnBook w' w0.heap.size vs vj b.stays b.jobs ∧ Below w0.heap.size w0 w') := bookS base db sb secs armed left L lv.length b w0 (h.l.below N0.out.1) (by have := h.ok.fewS; omega) (by have := h.ok.fewJ; omega)
  have c0 := N0.out.2.2.cell
  generalize hPP : (fun (e : Ending) (w' : World) => ∃ vs vj, e = .returned (.agg #[.int .i64 b.last, vs, vj]) ∧ OwnBook w' w.heap.size vs vj b.stays b.jobs ∧ Below w.heap.size w w') = PP
  have HP : Hid (∀ vs vj w', OwnBook w' w.heap.size vs vj b.stays b.jobs → Below w.heap.size w w' → PP (.returned (.agg #[.int .i64 b.last, vs, vj])) w') := fun vs vj w' ho hb => by rw [← hPP]; exact ⟨vs, vj, rfl, ho, hb⟩
  clear hPP h h1 h2 h3
  generalize b.last = last at *
  generalize b.stays = stays at *
  generalize b.jobs = jobs at *
  go_enter Tryz.func20, Tryz.ntmps20
  go_wp2_with fail
  clear hw0
  refine HC.out.mono ?_
  rintro e w1 ⟨vs, vj, rfl, ho, b1⟩
  have N1 : Hid (Below w.heap.size w w1 ∧ Blk w1 w.heap.size #[.int .i64 0, .slice none 0 0, .slice none 0 0] 39) := ⟨B.next N0.out.1 b1 N0.out.1.size, N0.out.2.1.below b1⟩
  have r1 := N1.out.2.cell
  have f1 := N1.out.2.free
  have HF : Hid (PP (.returned (.agg #[.int .i64 last, vs, vj])) (((w1.setCell ⟨w.heap.size, 0, none⟩ (.int .i64 last)).setCell ⟨w.heap.size, 1, none⟩ vs).setCell ⟨w.heap.size, 2, none⟩ vj)) := by
    have hlt : w.heap.size < w0.heap.size := N0.out.2.1.lt
    exact HP.out vs vj _ (bookDown (bookSet (bookSet (bookSet ho _ hlt) _ hlt) _ hlt) (Nat.le_of_lt hlt)) (((N1.out.1.setCell (p := ⟨w.heap.size, 0, none⟩) (Nat.le_refl _) _).setCell (p := ⟨w.heap.size, 1, none⟩) (Nat.le_refl _) _).setCell (p := ⟨w.heap.size, 2, none⟩) (Nat.le_refl _) _)
  obtain ⟨sx, cx, hvs, _⟩ := ho.s.rows
  obtain ⟨jx, dx, hvj, _⟩ := ho.j.rows
  subst hvs hvj
  clear N0 N1 b1 ho HP HC c0
  go_wp2
  (try simp only [Exit.inBlock, Exit.then])
  refine bodyPost_ret (v := .agg #[.int .i64 last, .slice sx stays.length cx, .slice jx jobs.length dx]) (by simp [results, Tryz.results20, go_sem, set3_0 r1, set3_1 r1, set3_2 r1]; try rfl) rfl ?_
  exact HF.out

/-- What New makes: a house over that machine and that disk. -/
def NewPost (base pb mb n db sb : Nat) (secs : List Sec) (armed : Bool) (left : Int) (lv : List (Int × Int × Int)) (s : St) (b : PB) (w : World) (e : Ending) (w' : World) : Prop :=
  Below w.heap.size w w' ∧ ∃ L hb, e = .returned (.tuple #[.pointer (some ⟨hb, 0, none⟩), .nilIface]) ∧ HouseS w' base pb mb n db sb L hb secs armed left lv s b []
set_option maxHeartbeats 4000000 in
theorem hnew_any (base pb mb n db sb : Nat) (secs : List Sec) (armed : Bool) (left : Int) (len : Nat) (f : Nat → Int × Int × Int) (lvv : Value) (s : St) (b : PB) (w : World) (hs : SizesAt w lvv len f) (hlv : levelsN len f = 0) (hp : IsP w pb mb n s) (iv : Inv s) (hpb : base ≤ pb) (hmb : base ≤ mb) (hbase : base ≤ w.heap.size)
    (h : DiskAt w base db sb secs 0 armed left false) (h22 : 22 ≤ secs.length) (hn : secs.length ≤ 1000) (hw : ∀ j, j < secs.length → secs[j]!.wr = []) (hlo : LeftOk armed left) (hop : openP secs len = some b) (ok : BookOK b.last len b.stays b.jobs) (G : Glob w) :
    Calls Tryz.prog 39 #[lvv, .pointer (some ⟨pb, 0, none⟩), .pointer (some ⟨db, 0, none⟩)] w (NewPost base pb mb n db sb secs armed left (rowsOf f len) s b w) := by
  have hln := levelsN_zero hlv
  have HCK : Hid (Calls Tryz.prog 45 #[lvv] w fun e w' => e = .returned .nilIface ∧ Below w.heap.size w w') := (check_any lvv len f w hs).mono (by rintro e w' ⟨rfl, hb⟩; rw [hlv]; exact ⟨rfl, hb⟩)
  have HOP : Hid (∀ W, Below w.heap.size w W → Calls Tryz.prog 68 #[.pointer (some ⟨db, 0, none⟩), .int .i64 len] W (OpenS base db sb secs armed left len b W)) := fun W hb => openS base db sb secs armed left len b W (h.below hb) (Nat.le_trans hbase hb.size) h22 hn hw hlo hop (G.new hb) hln.1 hln.2.1
  obtain ⟨a, cap, hv, hrows⟩ := rows_of_sizes hs
  have HCL : Hid (∀ W, Below w.heap.size w W → Calls Tryz.prog 69 #[.slice a len cap] W fun e w' => ∃ v, e = .returned v ∧ OwnAt w' W.heap.size 32 3 Bk.encP v (rowsOf f len) ∧ Below W.heap.size W w') := fun W hb => by
    have := cloneZ_any a cap (rowsOf f len) W (hrows.below hb) (by rw [rowsOf_len]; have := hln.2.1; omega)
    rw [rowsOf_len] at this
    exact this
  have HFIN : Hid (∀ L hb vl W, Below w.heap.size w W → LedS W base db sb secs armed left L len b → w.heap.size ≤ hb → Blk W hb #[vl, .pointer (some ⟨pb, 0, none⟩), .pointer (some ⟨L, 0, none⟩), .slice none 0 0] 96 → OwnAt W w.heap.size 32 3 Bk.encP vl (rowsOf f len) → NewPost base pb mb n db sb secs armed left (rowsOf f len) s b w (.returned (.tuple #[.pointer (some ⟨hb, 0, none⟩), .nilIface])) W) := fun L hb vl W hB hl hhb hk ho =>
    ⟨hB, L, hb, rfl, ⟨⟨vl, _, hk, ho.base hbase, GoalsH.nil W⟩, hp.below hB, iv, by rw [rowsOf_len]; exact hl, hpb, hmb, Nat.le_trans hbase hhb, Nat.le_trans hbase hB.size, by rw [rowsOf_len]; exact hln.1, by rw [rowsOf_len]; exact hln.2.1, by rw [rowsOf_len]; exact ok⟩⟩
  rw [rowsOf_len] at hv
  subst hv
  generalize NewPost base pb mb n db sb secs armed left (rowsOf f len) s b w = PP at *
  generalize rowsOf f len = rows at *
  have hlen4 : len ≤ 4 := hln.2.1
  clear hs hlv hp iv hpb hmb h h22 hn hw hlo hop ok G hln hrows
  go_enter Tryz.func39, Tryz.ntmps39
  go_wp2_with fail
  refine HCK.out.mono ?_
  rintro e w1 ⟨rfl, b1⟩
  have X1 : Hid (Below w.heap.size w w1) := b1
  have HO1 := hidd (HOP.out w1 b1)
  clear HCK HOP b1
  go_wp2_with fail
  refine HO1.out.mono ?_
  rintro e w2 ⟨b2, L, rfl, hl⟩
  have X2 : Hid (Below w.heap.size w w2 ∧ LedS w2 base db sb secs armed left L len b) := ⟨B.next X1.out b2 X1.out.size, hl⟩
  have HC2 := hidd (HCL.out w2 X2.out.1)
  clear HO1 b2 hl X1 HCL
  go_wp2_with fail
  refine HC2.out.mono ?_
  rintro e w3 ⟨vl, rfl, ho, b3⟩
  obtain ⟨xa, xc, hvl, _⟩ := ho.rows
  have X3 : Hid (Below w.heap.size w w3 ∧ LedS w3 base db sb secs armed left L len b ∧ OwnAt w3 w.heap.size 32 3 Bk.encP vl rows) := ⟨B.next X2.out.1 b3 X2.out.1.size, X2.out.2.below b3, ho.base X2.out.1.size⟩
  have HF : Hid (PP (.returned (.tuple #[.pointer (some ⟨w3.heap.size, 0, none⟩), .nilIface])) (w3.alloc (.cells #[vl, .pointer (some ⟨pb, 0, none⟩), .pointer (some ⟨L, 0, none⟩), .slice none 0 0] 96))) :=
    have hb : Below w3.heap.size w3 (w3.alloc (.cells #[vl, .pointer (some ⟨pb, 0, none⟩), .pointer (some ⟨L, 0, none⟩), .slice none 0 0] 96)) := B.new1 _ _
    HFIN.out L _ vl _ (B.next X3.out.1 hb X3.out.1.size) (X3.out.2.1.below hb) X3.out.1.size (Blk.new _ _ _) (X3.out.2.2.below hb)
  subst hvl
  clear X2 HC2 b3 ho X3 HFIN
  go_wp2
  exact HF.out
end Hs
end Go.Proofs.YtopgllmjeliklaaGreatDoor
