/- The statement 'Names': the constants and errors of package api have the numbers that the document names; a closed fact, tied to the program's tables (a card). -/
import Derived.Test.YticjjnmmedmbiaaDoorCards
import Derived.Test.YticjjnmmedmbiaaDoorTie
import Derived.WalkKit
import Derived.ProofKit
import Derived.OpenShut
import Derived.Handy
import Derived.WalkSpells
import Derived.WalkLawsBesides
import Derived.BigQuiet
import Derived.Deep.QuietTactic
import Derived.Deep.DeepAppendRoom
import Derived.ArgAppend
import Derived.Deep.LoopGhost
import Derived.Deep.DeepHandedRow
import Derived.Lib.LaidTab
namespace Go.Proofs.YticjjnmmedmbiaaDoor
open Go.ChangeShapes Go.WideShapes Go.ChangeAt Go.RowKit
set_option maxRecDepth 100000
set_option linter.unusedSimpArgs false
set_option linter.unusedVariables false

theorem Tryd.own : ownKnob Tryd.prog.godebug = none := by kernel_rfl
theorem Tryd.infoInt : (Tryd.prog.info? 3).map (fun i => (i.zero, i.size, i.bytes)) = some (some (.int .i64 0), 1, 8) := by kernel_rfl
theorem owns_le {w : World} {base base' : Nat} {e : TypeId} {size : Nat} {v : Value} {n : Nat} {xs : List Value} (h : w.ownsRow base e size v n xs) (hb : base' ≤ base) : w.ownsRow base' e size v n xs :=
  ⟨h.1, h.2.elim Or.inl (fun ⟨g, cap, cur, hv, hg, r⟩ => Or.inr ⟨g, cap, cur, hv, Nat.le_trans hb hg, r⟩)⟩
theorem add_block (g j : Nat) : (⟨g, 0, none⟩ : Addr).add j = ⟨g, j, none⟩ := by
  unfold Addr.add
  split
  · rename_i h0; subst h0; rfl
  · simp
theorem news_new (w : World) (l : List Value) (t : TypeId) (n : Nat) (hn : n = w.heap.size) : ∀ j u, l[j]? = some u → (w.alloc (.cells l.toArray t)).cell? ((⟨n, 0, none⟩ : Addr).add j) = some u := by
  subst hn
  intro j u h
  rw [add_block, World.cell?_alloc_mark]
  simpa using h
theorem ints_one (l : List Int) : ∀ u ∈ l.map (Value.int .i64), u.oneCell' = true := by
  intro u hu
  obtain ⟨n, _, rfl⟩ := List.mem_map.1 hu
  rfl
theorem new1 (w : World) (o : Obj) : Below w.heap.size w (w.alloc o) := (Below.refl _ _).alloc (Nat.le_refl _) o

/-- A slice of the call's own, appended to: in place, or in a new block. -/
theorem append_either {P : Program} (w : World) {ops : Array Oper} {rest : List Oper} {o : Oper} {a : Act} {Q : Exit → Act → World → Prop} (hgd : o.guard = none) (s x : Operand) (t : TypeId)
    (ho : o.op = .call { callee := .builtin .append, args := #[s, x], argTypes := #[t, t] })
    (base : Nat) (e : TypeId) (i : TypeInfo) (z : Value) (bytes : Nat) (ht : P.underlying t = some (.slice e)) (hi : P.info? e = some i) (hz : i.zero = some z) (hsize : i.size = 1) (hby : i.bytes = bytes) (hzs : z.cells.size = 1)
    (g n cap : Nat) (xs : List Value) (hs : a.eval s = .slice (some ⟨g, 0, none⟩) n cap) (hown : w.ownsRow base e 1 (.slice (some ⟨g, 0, none⟩) n cap) n xs)
    (ad : Addr) (m c : Nat) (news : List Value) (hx : a.eval x = .slice (some ad) m c) (hl : news.length = m * 1) (hnews : ∀ j u, news[j]? = some u → w.cell? (ad.add j) = some u) (h1 : ∀ u ∈ news, u.oneCell' = true)
    (hm : 0 < m) (b1 : n + m ≤ maxLen) (b2 : (n + m) * bytes ≤ 140737488355328)
    (h : ∀ g' cap' w', w'.ownsRow base e 1 (.slice (some ⟨g', 0, none⟩) (n + m) cap') (n + m) (xs ++ news) → (g' = g ∨ w.heap.size ≤ g') → w.grownBy w' (some g) → wpList P ops Q rest (a.put o.dst (.slice (some ⟨g', 0, none⟩) (n + m) cap')) w') :
    wpList P ops Q (o :: rest) a w := by
  by_cases hr : n + m ≤ cap
  · exact wpList_append_own_spare w hgd s x t ho base e i 1 ht hi hsize g n cap xs hs hown ad m c news hx hl hnews h1 hr (fun w' h2 h3 => h g cap w' h2 (Or.inl rfl) h3)
  · refine wpList_append_grows w hgd s x t ho e i z 1 bytes ht hi hz hsize hby hzs (by omega) (some ⟨g, 0, none⟩) n cap xs hs (fun h => by cases h) hown.1 (fun b hb j u hj => by cases hb; exact hown.cells rfl j u hj) ad m c news hx hl hnews h1 (by omega) b1 b2 ?_
    intro v' w' h2 h3
    have hlt := hown.lt g rfl
    rcases h2.2 with ⟨_, h0⟩ | ⟨g', cap', cur, rfl, hg', r⟩
    · omega
    · exact h g' cap' w' (owns_le h2 (by omega)) (Or.inr hg') ⟨h3.os, h3.tape, h3.output, h3.size, fun k hk _ => h3.block k hk (by simp)⟩

/-- Two lists of the call's own, the first one appended to: the second one is as it was, and elsewhere. -/
theorem other_kept {W w' : World} {base ga gb g' na nb ca cb : Nat} {xa xb : List Value} {e : TypeId} (Oa : W.ownsRow base e 1 (.slice (some ⟨ga, 0, none⟩) na ca) na xa) (Ob : W.ownsRow base e 1 (.slice (some ⟨gb, 0, none⟩) nb cb) nb xb) (hne : ga ≠ gb)
    (hd : g' = ga ∨ W.heap.size ≤ g') (hg : W.grownBy w' (some ga)) : w'.ownsRow base e 1 (.slice (some ⟨gb, 0, none⟩) nb cb) nb xb ∧ g' ≠ gb := by
  refine ⟨Ob.kept hg (Or.inr (fun h => hne (by simpa [Value.ownBlock] using h.symm))), fun h => ?_⟩
  have := (Ob.lt gb rfl).2
  rcases hd with hd | hd
  · exact hne (by rw [← hd, h])
  · omega

set_option maxHeartbeats 1000000 in
theorem same_err (n : Int) (w : World) (hf : 0 < n) : Calls Tryd.prog 4 #[.iface 23 (.int .i64 n), .int .i64 n] w fun e w' => e = .returned (.bool true) ∧ w = w' := by
  have ta : ∀ w : World, Sem.run Tryd.prog (Instr.typeAssert (.iface 23 (.int .i64 n)) 27 23 true) w = .ok (.tuple #[.int .i64 n, .bool true]) w := fun _ => by kernel_rfl
  go_enter Tryd.func4, Tryd.ntmps4
  go_wp2
  go_returns
  exact ⟨by simp, rfl⟩

set_option maxHeartbeats 1000000 in
theorem sameNumbers_any (g1 g2 cap1 cap2 n : Nat) (xs : List Value) (f : Nat → Int) (w : World) (hn : n ≤ 100) (hf : ∀ k, k < n → xs[k]? = some (.int .i64 (f k)))
    (h1 : w.ownsRow 0 3 1 (.slice (some ⟨g1, 0, none⟩) n cap1) n xs) (h2 : w.ownsRow 0 3 1 (.slice (some ⟨g2, 0, none⟩) n cap2) n xs) :
    Calls Tryd.prog 5 #[.slice (some ⟨g1, 0, none⟩) n cap1, .slice (some ⟨g2, 0, none⟩) n cap2] w fun e w' => e = .returned (.bool true) ∧ Below w.heap.size w w' := by
  have l1 := (h1.lt g1 rfl).2
  have l2 := (h2.lt g2 rfl).2
  have H1 : Hid (∀ k, k < n → w.cell? ⟨g1, k, none⟩ = some (.int .i64 (f k))) := fun k hk => (h1.cellAt k (by omega)).trans (hf k hk)
  have H2 : Hid (∀ k, k < n → w.cell? ⟨g2, k, none⟩ = some (.int .i64 (f k))) := fun k hk => (h2.cellAt k (by omega)).trans (hf k hk)
  clear h1 h2 hf
  go_enter Tryd.func5, Tryd.ntmps5
  go_wp2
  go_loopg [5] n (fun q i wr => ∃ k : Nat, k + q = n ∧ i = .int .i64 k ∧ Below w.heap.size w wr)
  case atStart => exact ⟨0, by omega, rfl, Below.refl _ _⟩
  case round =>
    obtain ⟨k, hk, rfl, hB⟩ := hrel
    by_cases hlt : k < n
    · have a0 := H1.out k hlt
      have b0 := H2.out k hlt
      rw [← hB.cell (p := ⟨g1, _, none⟩) l1] at a0
      rw [← hB.cell (p := ⟨g2, _, none⟩) l2] at b0
      generalize f k = x at *
      have HK : Hid (k + gk = n) := hk
      clear hk
      have i4 : (k : Int) < (n : Int) := by omega
      go_wp2_with fail
      go_quiet (fail)
      go_wp2
      go_roundg (gk - 1)
      case measure => have := HK.out; omega
      case rel => exact ⟨k + 1, by have := HK.out; omega, by go_num, hB.trans ⟨rfl, rfl, rfl, Nat.le_refl _, fun _ _ => rfl⟩⟩
    · go_wp2
      go_returns
      exact ⟨rfl, hB⟩

set_option maxHeartbeats 1000000 in
theorem error_any (w : World) : Calls Tryd.prog 6 #[.int .i64 9] w fun e w' => e = .returned (.string ⟨#[99, 111, 97, 99, 104, 104, 111, 117, 115, 101, 58, 32, 101, 114, 114, 111, 114, 32, 57]⟩) ∧ Below w.heap.size w w' := by
  go_enter Tryd.func6, Tryd.ntmps6
  go_wp2
  go_returns
  exact ⟨by first | rfl | (simp; done) | (congr 1), by go_grown⟩

theorem errs_at (k : Nat) (hk : k < 9) : (#[.iface 23 (.int .i64 1), .iface 23 (.int .i64 2), .iface 23 (.int .i64 3), .iface 23 (.int .i64 4), .iface 23 (.int .i64 5), .iface 23 (.int .i64 6), .iface 23 (.int .i64 7), .iface 23 (.int .i64 8), .iface 23 (.int .i64 9)] : Array Value)[k]? = some (.iface 23 (.int .i64 ((k : Int) + 1))) := by
  rcases (show k = 0 ∨ k = 1 ∨ k = 2 ∨ k = 3 ∨ k = 4 ∨ k = 5 ∨ k = 6 ∨ k = 7 ∨ k = 8 from by omega) with rfl | rfl | rfl | rfl | rfl | rfl | rfl | rfl | rfl <;> rfl
theorem all_at (k : Nat) (hk : k < 32) : (([.int .i64 4, .int .i64 3, .int .i64 2, .int .i64 99, .int .i64 999, .int .i64 999999, .int .i64 8, .int .i64 9, .int .i64 5, .int .i64 64, .int .i64 40, .int .i64 80, .int .i64 60] ++ [.int .i64 45, .int .i64 117, .int .i64 100, .int .i64 108, .int .i64 114, .int .i64 103, .int .i64 112, .int .i64 111, .int .i64 99, .int .i64 110, .int .i64 120]) ++ [.int .i64 1, .int .i64 2, .int .i64 3, .int .i64 4, .int .i64 5, .int .i64 6, .int .i64 7, .int .i64 8] : List Value)[k]? = some (.int .i64 ([4, 3, 2, 99, 999, 999999, 8, 9, 5, 64, 40, 80, 60, 45, 117, 100, 108, 114, 103, 112, 111, 99, 110, 120, 1, 2, 3, 4, 5, 6, 7, 8].getD k 0)) := by
  rcases (show k = 0 ∨ k = 1 ∨ k = 2 ∨ k = 3 ∨ k = 4 ∨ k = 5 ∨ k = 6 ∨ k = 7 ∨ k = 8 ∨ k = 9 ∨ k = 10 ∨ k = 11 ∨ k = 12 ∨ k = 13 ∨ k = 14 ∨ k = 15 ∨ k = 16 ∨ k = 17 ∨ k = 18 ∨ k = 19 ∨ k = 20 ∨ k = 21 ∨ k = 22 ∨ k = 23 ∨ k = 24 ∨ k = 25 ∨ k = 26 ∨ k = 27 ∨ k = 28 ∨ k = 29 ∨ k = 30 ∨ k = 31 from by omega) with rfl | rfl | rfl | rfl | rfl | rfl | rfl | rfl | rfl | rfl | rfl | rfl | rfl | rfl | rfl | rfl | rfl | rfl | rfl | rfl | rfl | rfl | rfl | rfl | rfl | rfl | rfl | rfl | rfl | rfl | rfl | rfl <;> rfl

set_option maxHeartbeats 4000000 in
theorem names_any (w : World) : Calls Tryd.prog 3 #[] w fun e w' => e = .returned (.bool true) ∧ Below w.heap.size w w' := by
  obtain ⟨i0, hi, hz0, hz1, hz2⟩ := info_parts Tryd.infoInt
  have O1 : Hid (((w.alloc (.cells #[.int .i64 4, .int .i64 3, .int .i64 2, .int .i64 99, .int .i64 999, .int .i64 999999, .int .i64 8, .int .i64 9, .int .i64 5, .int .i64 64, .int .i64 40, .int .i64 80, .int .i64 60] 3)).alloc (.cells #[.int .i64 4, .int .i64 3, .int .i64 2, .int .i64 99, .int .i64 999, .int .i64 999999, .int .i64 8, .int .i64 9, .int .i64 5, .int .i64 64, .int .i64 40, .int .i64 80, .int .i64 60] 3)).ownsRow w.heap.size 3 1 (.slice (some ⟨w.heap.size, 0, none⟩) 13 13) 13 ([.int .i64 4, .int .i64 3, .int .i64 2, .int .i64 99, .int .i64 999, .int .i64 999999, .int .i64 8, .int .i64 9, .int .i64 5, .int .i64 64, .int .i64 40, .int .i64 80, .int .i64 60])) := World.ownsRow.alloc (World.ownsRow_lit (base := w.heap.size) (e := 3) (size := 1) w #[.int .i64 4, .int .i64 3, .int .i64 2, .int .i64 99, .int .i64 999, .int .i64 999999, .int .i64 8, .int .i64 9, .int .i64 5, .int .i64 64, .int .i64 40, .int .i64 80, .int .i64 60] 13 (Nat.le_refl _) (by unfold maxLen; omega) rfl) _
  have O2 : Hid (((w.alloc (.cells #[.int .i64 4, .int .i64 3, .int .i64 2, .int .i64 99, .int .i64 999, .int .i64 999999, .int .i64 8, .int .i64 9, .int .i64 5, .int .i64 64, .int .i64 40, .int .i64 80, .int .i64 60] 3)).alloc (.cells #[.int .i64 4, .int .i64 3, .int .i64 2, .int .i64 99, .int .i64 999, .int .i64 999999, .int .i64 8, .int .i64 9, .int .i64 5, .int .i64 64, .int .i64 40, .int .i64 80, .int .i64 60] 3)).ownsRow w.heap.size 3 1 (.slice (some ⟨w.heap.size + 1, 0, none⟩) 13 13) 13 ([.int .i64 4, .int .i64 3, .int .i64 2, .int .i64 99, .int .i64 999, .int .i64 999999, .int .i64 8, .int .i64 9, .int .i64 5, .int .i64 64, .int .i64 40, .int .i64 80, .int .i64 60])) := by
    have h := World.ownsRow_lit (base := w.heap.size) (e := 3) (size := 1) (w.alloc (.cells #[.int .i64 4, .int .i64 3, .int .i64 2, .int .i64 99, .int .i64 999, .int .i64 999999, .int .i64 8, .int .i64 9, .int .i64 5, .int .i64 64, .int .i64 40, .int .i64 80, .int .i64 60] 3)) #[.int .i64 4, .int .i64 3, .int .i64 2, .int .i64 99, .int .i64 999, .int .i64 999999, .int .i64 8, .int .i64 9, .int .i64 5, .int .i64 64, .int .i64 40, .int .i64 80, .int .i64 60] 13 (by simp) (by unfold maxLen; omega) rfl
    rw [show (w.alloc (.cells #[.int .i64 4, .int .i64 3, .int .i64 2, .int .i64 99, .int .i64 999, .int .i64 999999, .int .i64 8, .int .i64 9, .int .i64 5, .int .i64 64, .int .i64 40, .int .i64 80, .int .i64 60] 3)).heap.size = w.heap.size + 1 from by simp] at h
    exact h
  have B0 : Hid (Below w.heap.size w ((w.alloc (.cells #[.int .i64 4, .int .i64 3, .int .i64 2, .int .i64 99, .int .i64 999, .int .i64 999999, .int .i64 8, .int .i64 9, .int .i64 5, .int .i64 64, .int .i64 40, .int .i64 80, .int .i64 60] 3)).alloc (.cells #[.int .i64 4, .int .i64 3, .int .i64 2, .int .i64 99, .int .i64 999, .int .i64 999999, .int .i64 8, .int .i64 9, .int .i64 5, .int .i64 64, .int .i64 40, .int .i64 80, .int .i64 60] 3))) := (new1 _ _).trans ((new1 _ _).mono (by simp))
  go_enter Tryd.func3, Tryd.ntmps3
  go_wp2_with (first
    | (at_builtin; refine append_either _ rfl _ _ 22 rfl w.heap.size 3 i0 (.int .i64 0) 8 Tryd.underlying22 hi hz0 hz1 hz2 rfl w.heap.size 13 13 ([.int .i64 4, .int .i64 3, .int .i64 2, .int .i64 99, .int .i64 999, .int .i64 999999, .int .i64 8, .int .i64 9, .int .i64 5, .int .i64 64, .int .i64 40, .int .i64 80, .int .i64 60]) rfl (O1.out.alloc _) ⟨w.heap.size + 1 + 1, 0, none⟩ 11 11 [.int .i64 45, .int .i64 117, .int .i64 100, .int .i64 108, .int .i64 114, .int .i64 103, .int .i64 112, .int .i64 111, .int .i64 99, .int .i64 110, .int .i64 120] rfl rfl (news_new _ _ _ _ (by simp)) (ints_one [45, 117, 100, 108, 114, 103, 112, 111, 99, 110, 120]) (by omega) (by unfold maxLen; omega) (by omega) ?_
       intro g1 c1 w1 ho1 hd1 hg1
       have X1 := other_kept (O1.out.alloc _) (O2.out.alloc _) (by omega) hd1 hg1
       have P1 : Hid ((w1).ownsRow w.heap.size 3 1 (.slice (some ⟨g1, 0, none⟩) 24 c1) 24 ([.int .i64 4, .int .i64 3, .int .i64 2, .int .i64 99, .int .i64 999, .int .i64 999999, .int .i64 8, .int .i64 9, .int .i64 5, .int .i64 64, .int .i64 40, .int .i64 80, .int .i64 60] ++ [.int .i64 45, .int .i64 117, .int .i64 100, .int .i64 108, .int .i64 114, .int .i64 103, .int .i64 112, .int .i64 111, .int .i64 99, .int .i64 110, .int .i64 120])) := ho1
       have Q1 : Hid ((w1).ownsRow w.heap.size 3 1 (.slice (some ⟨w.heap.size + 1, 0, none⟩) 13 13) 13 ([.int .i64 4, .int .i64 3, .int .i64 2, .int .i64 99, .int .i64 999, .int .i64 999999, .int .i64 8, .int .i64 9, .int .i64 5, .int .i64 64, .int .i64 40, .int .i64 80, .int .i64 60])) := X1.1
       have N1 : Hid (g1 ≠ w.heap.size + 1) := X1.2
       have B1 : Hid (Below w.heap.size w w1) := Below.grown (B0.out.alloc (by simp; omega) _) hg1 (by simp; omega) (fun k hk => by cases hk; omega)
       have Z1 : Hid (w.heap.size ≤ w1.heap.size) := B1.out.size
       clear ho1 hd1 hg1 X1)
    | (at_builtin; refine append_either _ rfl _ _ 22 rfl w.heap.size 3 i0 (.int .i64 0) 8 Tryd.underlying22 hi hz0 hz1 hz2 rfl (w.heap.size + 1) 13 13 ([.int .i64 4, .int .i64 3, .int .i64 2, .int .i64 99, .int .i64 999, .int .i64 999999, .int .i64 8, .int .i64 9, .int .i64 5, .int .i64 64, .int .i64 40, .int .i64 80, .int .i64 60]) rfl (Q1.out.alloc _) ⟨w1.heap.size, 0, none⟩ 11 11 [.int .i64 45, .int .i64 117, .int .i64 100, .int .i64 108, .int .i64 114, .int .i64 103, .int .i64 112, .int .i64 111, .int .i64 99, .int .i64 110, .int .i64 120] rfl rfl (news_new _ _ _ _ (by simp)) (ints_one [45, 117, 100, 108, 114, 103, 112, 111, 99, 110, 120]) (by omega) (by unfold maxLen; omega) (by omega) ?_
       intro g2 c2 w2 ho2 hd2 hg2
       have X2 := other_kept (Q1.out.alloc _) (P1.out.alloc _) (fun h => N1.out h.symm) hd2 hg2
       have Q2 : Hid ((w2).ownsRow w.heap.size 3 1 (.slice (some ⟨g2, 0, none⟩) 24 c2) 24 ([.int .i64 4, .int .i64 3, .int .i64 2, .int .i64 99, .int .i64 999, .int .i64 999999, .int .i64 8, .int .i64 9, .int .i64 5, .int .i64 64, .int .i64 40, .int .i64 80, .int .i64 60] ++ [.int .i64 45, .int .i64 117, .int .i64 100, .int .i64 108, .int .i64 114, .int .i64 103, .int .i64 112, .int .i64 111, .int .i64 99, .int .i64 110, .int .i64 120])) := ho2
       have P2 : Hid ((w2).ownsRow w.heap.size 3 1 (.slice (some ⟨g1, 0, none⟩) 24 c1) 24 ([.int .i64 4, .int .i64 3, .int .i64 2, .int .i64 99, .int .i64 999, .int .i64 999999, .int .i64 8, .int .i64 9, .int .i64 5, .int .i64 64, .int .i64 40, .int .i64 80, .int .i64 60] ++ [.int .i64 45, .int .i64 117, .int .i64 100, .int .i64 108, .int .i64 114, .int .i64 103, .int .i64 112, .int .i64 111, .int .i64 99, .int .i64 110, .int .i64 120])) := X2.1
       have N2 : Hid (g1 ≠ g2) := fun h => X2.2 h.symm
       have B2 : Hid (Below w.heap.size w w2) := Below.grown (B1.out.alloc Z1.out _) hg2 (by have := Z1.out; simp; omega) (fun k hk => by cases hk; omega)
       have Z2 : Hid (w.heap.size ≤ w2.heap.size) := B2.out.size
       clear ho2 hd2 hg2 X2)
    | (at_builtin; refine append_either _ rfl _ _ 22 rfl w.heap.size 3 i0 (.int .i64 0) 8 Tryd.underlying22 hi hz0 hz1 hz2 rfl g1 24 c1 ([.int .i64 4, .int .i64 3, .int .i64 2, .int .i64 99, .int .i64 999, .int .i64 999999, .int .i64 8, .int .i64 9, .int .i64 5, .int .i64 64, .int .i64 40, .int .i64 80, .int .i64 60] ++ [.int .i64 45, .int .i64 117, .int .i64 100, .int .i64 108, .int .i64 114, .int .i64 103, .int .i64 112, .int .i64 111, .int .i64 99, .int .i64 110, .int .i64 120]) rfl (P2.out.alloc _) ⟨w2.heap.size, 0, none⟩ 8 8 [.int .i64 1, .int .i64 2, .int .i64 3, .int .i64 4, .int .i64 5, .int .i64 6, .int .i64 7, .int .i64 8] rfl rfl (news_new _ _ _ _ (by simp)) (ints_one [1, 2, 3, 4, 5, 6, 7, 8]) (by omega) (by unfold maxLen; omega) (by omega) ?_
       intro g3 c3 w3 ho3 hd3 hg3
       have X3 := other_kept (P2.out.alloc _) (Q2.out.alloc _) N2.out hd3 hg3
       have P3 : Hid ((w3).ownsRow w.heap.size 3 1 (.slice (some ⟨g3, 0, none⟩) 32 c3) 32 (([.int .i64 4, .int .i64 3, .int .i64 2, .int .i64 99, .int .i64 999, .int .i64 999999, .int .i64 8, .int .i64 9, .int .i64 5, .int .i64 64, .int .i64 40, .int .i64 80, .int .i64 60] ++ [.int .i64 45, .int .i64 117, .int .i64 100, .int .i64 108, .int .i64 114, .int .i64 103, .int .i64 112, .int .i64 111, .int .i64 99, .int .i64 110, .int .i64 120]) ++ [.int .i64 1, .int .i64 2, .int .i64 3, .int .i64 4, .int .i64 5, .int .i64 6, .int .i64 7, .int .i64 8])) := ho3
       have Q3 : Hid ((w3).ownsRow w.heap.size 3 1 (.slice (some ⟨g2, 0, none⟩) 24 c2) 24 ([.int .i64 4, .int .i64 3, .int .i64 2, .int .i64 99, .int .i64 999, .int .i64 999999, .int .i64 8, .int .i64 9, .int .i64 5, .int .i64 64, .int .i64 40, .int .i64 80, .int .i64 60] ++ [.int .i64 45, .int .i64 117, .int .i64 100, .int .i64 108, .int .i64 114, .int .i64 103, .int .i64 112, .int .i64 111, .int .i64 99, .int .i64 110, .int .i64 120])) := X3.1
       have N3 : Hid (g3 ≠ g2) := X3.2
       have B3 : Hid (Below w.heap.size w w3) := Below.grown (B2.out.alloc Z2.out _) hg3 (by have := Z2.out; simp; omega) (fun k hk => by cases hk; exact (P2.out.lt g1 rfl).1)
       have Z3 : Hid (w.heap.size ≤ w3.heap.size) := B3.out.size
       clear ho3 hd3 hg3 X3)
    | (at_builtin; refine append_either _ rfl _ _ 22 rfl w.heap.size 3 i0 (.int .i64 0) 8 Tryd.underlying22 hi hz0 hz1 hz2 rfl g2 24 c2 ([.int .i64 4, .int .i64 3, .int .i64 2, .int .i64 99, .int .i64 999, .int .i64 999999, .int .i64 8, .int .i64 9, .int .i64 5, .int .i64 64, .int .i64 40, .int .i64 80, .int .i64 60] ++ [.int .i64 45, .int .i64 117, .int .i64 100, .int .i64 108, .int .i64 114, .int .i64 103, .int .i64 112, .int .i64 111, .int .i64 99, .int .i64 110, .int .i64 120]) rfl (Q3.out.alloc _) ⟨w3.heap.size, 0, none⟩ 8 8 [.int .i64 1, .int .i64 2, .int .i64 3, .int .i64 4, .int .i64 5, .int .i64 6, .int .i64 7, .int .i64 8] rfl rfl (news_new _ _ _ _ (by simp)) (ints_one [1, 2, 3, 4, 5, 6, 7, 8]) (by omega) (by unfold maxLen; omega) (by omega) ?_
       intro g4 c4 w4 ho4 hd4 hg4
       have X4 := other_kept (Q3.out.alloc _) (P3.out.alloc _) (fun h => N3.out h.symm) hd4 hg4
       have Q4 : Hid ((w4).ownsRow w.heap.size 3 1 (.slice (some ⟨g4, 0, none⟩) 32 c4) 32 (([.int .i64 4, .int .i64 3, .int .i64 2, .int .i64 99, .int .i64 999, .int .i64 999999, .int .i64 8, .int .i64 9, .int .i64 5, .int .i64 64, .int .i64 40, .int .i64 80, .int .i64 60] ++ [.int .i64 45, .int .i64 117, .int .i64 100, .int .i64 108, .int .i64 114, .int .i64 103, .int .i64 112, .int .i64 111, .int .i64 99, .int .i64 110, .int .i64 120]) ++ [.int .i64 1, .int .i64 2, .int .i64 3, .int .i64 4, .int .i64 5, .int .i64 6, .int .i64 7, .int .i64 8])) := ho4
       have P4 : Hid ((w4).ownsRow w.heap.size 3 1 (.slice (some ⟨g3, 0, none⟩) 32 c3) 32 (([.int .i64 4, .int .i64 3, .int .i64 2, .int .i64 99, .int .i64 999, .int .i64 999999, .int .i64 8, .int .i64 9, .int .i64 5, .int .i64 64, .int .i64 40, .int .i64 80, .int .i64 60] ++ [.int .i64 45, .int .i64 117, .int .i64 100, .int .i64 108, .int .i64 114, .int .i64 103, .int .i64 112, .int .i64 111, .int .i64 99, .int .i64 110, .int .i64 120]) ++ [.int .i64 1, .int .i64 2, .int .i64 3, .int .i64 4, .int .i64 5, .int .i64 6, .int .i64 7, .int .i64 8])) := X4.1
       have B4 : Hid (Below w.heap.size w w4) := Below.grown (B3.out.alloc Z3.out _) hg4 (by have := Z3.out; simp; omega) (fun k hk => by cases hk; exact (Q3.out.lt g2 rfl).1)
       clear ho4 hd4 hg4 X4)
  )
  have HE : Hid (∀ k, k < 9 → (w4.alloc (.cells #[.iface 23 (.int .i64 1), .iface 23 (.int .i64 2), .iface 23 (.int .i64 3), .iface 23 (.int .i64 4), .iface 23 (.int .i64 5), .iface 23 (.int .i64 6), .iface 23 (.int .i64 7), .iface 23 (.int .i64 8), .iface 23 (.int .i64 9)] 27)).cell? ⟨w4.heap.size, k, none⟩ = some (.iface 23 (.int .i64 ((k : Int) + 1)))) := fun k hk => by
    rw [World.cell?_alloc_mark]
    exact errs_at k hk
  have P5 : Hid ((w4.alloc (.cells #[.iface 23 (.int .i64 1), .iface 23 (.int .i64 2), .iface 23 (.int .i64 3), .iface 23 (.int .i64 4), .iface 23 (.int .i64 5), .iface 23 (.int .i64 6), .iface 23 (.int .i64 7), .iface 23 (.int .i64 8), .iface 23 (.int .i64 9)] 27)).ownsRow w.heap.size 3 1 (.slice (some ⟨g3, 0, none⟩) 32 c3) 32 (([.int .i64 4, .int .i64 3, .int .i64 2, .int .i64 99, .int .i64 999, .int .i64 999999, .int .i64 8, .int .i64 9, .int .i64 5, .int .i64 64, .int .i64 40, .int .i64 80, .int .i64 60] ++ [.int .i64 45, .int .i64 117, .int .i64 100, .int .i64 108, .int .i64 114, .int .i64 103, .int .i64 112, .int .i64 111, .int .i64 99, .int .i64 110, .int .i64 120]) ++ [.int .i64 1, .int .i64 2, .int .i64 3, .int .i64 4, .int .i64 5, .int .i64 6, .int .i64 7, .int .i64 8])) := P4.out.alloc _
  have Q5 : Hid ((w4.alloc (.cells #[.iface 23 (.int .i64 1), .iface 23 (.int .i64 2), .iface 23 (.int .i64 3), .iface 23 (.int .i64 4), .iface 23 (.int .i64 5), .iface 23 (.int .i64 6), .iface 23 (.int .i64 7), .iface 23 (.int .i64 8), .iface 23 (.int .i64 9)] 27)).ownsRow w.heap.size 3 1 (.slice (some ⟨g4, 0, none⟩) 32 c4) 32 (([.int .i64 4, .int .i64 3, .int .i64 2, .int .i64 99, .int .i64 999, .int .i64 999999, .int .i64 8, .int .i64 9, .int .i64 5, .int .i64 64, .int .i64 40, .int .i64 80, .int .i64 60] ++ [.int .i64 45, .int .i64 117, .int .i64 100, .int .i64 108, .int .i64 114, .int .i64 103, .int .i64 112, .int .i64 111, .int .i64 99, .int .i64 110, .int .i64 120]) ++ [.int .i64 1, .int .i64 2, .int .i64 3, .int .i64 4, .int .i64 5, .int .i64 6, .int .i64 7, .int .i64 8])) := Q4.out.alloc _
  have B5 : Hid (Below w.heap.size w (w4.alloc (.cells #[.iface 23 (.int .i64 1), .iface 23 (.int .i64 2), .iface 23 (.int .i64 3), .iface 23 (.int .i64 4), .iface 23 (.int .i64 5), .iface 23 (.int .i64 6), .iface 23 (.int .i64 7), .iface 23 (.int .i64 8), .iface 23 (.int .i64 9)] 27))) := B4.out.alloc B4.out.size _
  clear O1 O2 B0 P1 Q1 N1 B1 Z1 P2 Q2 N2 B2 Z2 P3 Q3 N3 B3 Z3 P4 Q4 B4
  go_loopg [4] 9 (fun q i wr => ∃ k : Nat, k + q = 9 ∧ i = .int .i64 k ∧ wr = w4.alloc (.cells #[.iface 23 (.int .i64 1), .iface 23 (.int .i64 2), .iface 23 (.int .i64 3), .iface 23 (.int .i64 4), .iface 23 (.int .i64 5), .iface 23 (.int .i64 6), .iface 23 (.int .i64 7), .iface 23 (.int .i64 8), .iface 23 (.int .i64 9)] 27))
  case atStart => exact ⟨0, by omega, rfl, rfl⟩
  case round =>
    obtain ⟨k, hk, rfl, rfl⟩ := hrel
    by_cases hlt : k < 9
    · have c0 := HE.out k hlt
      have HK : Hid (k + gk = 9) := hk
      clear hk
      have i4 : (k : Int) < 9 := by omega
      generalize hW : w4.alloc (.cells #[.iface 23 (.int .i64 1), .iface 23 (.int .i64 2), .iface 23 (.int .i64 3), .iface 23 (.int .i64 4), .iface 23 (.int .i64 5), .iface 23 (.int .i64 6), .iface 23 (.int .i64 7), .iface 23 (.int .i64 8), .iface 23 (.int .i64 9)] 27) = W at *
      have HW : Hid (w4.alloc (.cells #[.iface 23 (.int .i64 1), .iface 23 (.int .i64 2), .iface 23 (.int .i64 3), .iface 23 (.int .i64 4), .iface 23 (.int .i64 5), .iface 23 (.int .i64 6), .iface 23 (.int .i64 7), .iface 23 (.int .i64 8), .iface 23 (.int .i64 9)] 27) = W) := hW
      clear hW
      go_wp2_with fail
      refine (same_err _ _ (by omega)).mono ?_
      rintro e wx ⟨rfl, hwx⟩
      subst hwx
      go_wp2_with fail
      go_roundg (gk - 1)
      case measure => have := HK.out; omega
      case rel => exact ⟨k + 1, by have := HK.out; omega, by go_num, by first | rfl | exact HW.out.symm⟩
    · go_wp2_with fail
      refine (sameNumbers_any g3 g4 c3 c4 32 (([.int .i64 4, .int .i64 3, .int .i64 2, .int .i64 99, .int .i64 999, .int .i64 999999, .int .i64 8, .int .i64 9, .int .i64 5, .int .i64 64, .int .i64 40, .int .i64 80, .int .i64 60] ++ [.int .i64 45, .int .i64 117, .int .i64 100, .int .i64 108, .int .i64 114, .int .i64 103, .int .i64 112, .int .i64 111, .int .i64 99, .int .i64 110, .int .i64 120]) ++ [.int .i64 1, .int .i64 2, .int .i64 3, .int .i64 4, .int .i64 5, .int .i64 6, .int .i64 7, .int .i64 8]) (fun k => [4, 3, 2, 99, 999, 999999, 8, 9, 5, 64, 40, 80, 60, 45, 117, 100, 108, 114, 103, 112, 111, 99, 110, 120, 1, 2, 3, 4, 5, 6, 7, 8].getD k 0) _ (by omega) (fun k hk => all_at k hk) (owns_le P5.out (by omega)) (owns_le Q5.out (by omega))).mono ?_
      rintro e w6 ⟨rfl, hb6⟩
      have B6 : Hid (Below w.heap.size w w6) := B5.out.trans (hb6.mono (by have := B5.out.size; omega))
      clear hb6
      go_wp2_with fail
      refine (error_any _).mono ?_
      rintro e w7 ⟨rfl, hb7⟩
      have B7 : Hid (Below w.heap.size w w7) := B6.out.trans (hb7.mono B6.out.size)
      clear hb7
      go_wp2
      go_returns
      exact ⟨rfl, B7.out⟩

end Go.Proofs.YticjjnmmedmbiaaDoor
