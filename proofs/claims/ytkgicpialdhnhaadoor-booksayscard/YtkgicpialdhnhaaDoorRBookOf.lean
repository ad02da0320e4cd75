/- Chapter 6: the document's reading of a text (3): the book. -/
import Derived.Test.YtkgicpialdhnhaaDoorRWords
import Derived.Test.YtkgicpialdhnhaaDoorRNat
import Derived.Test.YtkgicpialdhnhaaDoorRBookEq
import Derived.Test.YtkgicpialdhnhaaDoorSameBook
import Derived.Test.YtkgicpialdhnhaaDoorRAppA
namespace Go.Proofs.YtkgicpialdhnhaaDoor
open Go.Shelf Go.ChangeShapes Go.WideShapes Go.ChangeAt Go.RowKit
set_option maxRecDepth 100000
set_option linter.unusedSimpArgs false
set_option linter.unusedVariables false

namespace Tx
open Bk
theorem wordsP_size : ∀ (l v : List UInt8), ∀ x ∈ wordsP l v, x.length ≤ v.length + l.length
  | [], v, x, h => by
    simp [wordsP] at h
    subst h
    omega
  | b :: r, v, x, h => by
    unfold wordsP at h
    split at h
    · rcases List.mem_cons.1 h with rfl | h
      · omega
      · have := wordsP_size r [] x h
        simp at this ⊢
        omega
    · have := wordsP_size r (v ++ [b]) x h
      simp at this ⊢
      omega
/-- What BookOf holds: its book lies at the head of what came behind wd. -/
structure FK (wd wx : World) (last : Int) (vs vj : Value) (S : List Stay) (J : List Job) : Prop where
  below : Below wd.heap.size wd wx
  b1 : Blk wx wd.heap.size #[.int .i64 last, vs, vj] 25
  s : OwnAt wx (wd.heap.size + 1) 47 8 Stay.enc vs S
  j : OwnAt wx (wd.heap.size + 1) 54 2 Job.enc vj J
theorem FK.next {wd wx : World} {last : Int} {vs vj : Value} {S : List Stay} {J : List Job} (h : FK wd wx last vs vj S J) {wy : World} (hb : Below wx.heap.size wx wy) : FK wd wy last vs vj S J :=
  ⟨B.next h.below hb h.below.size, h.b1.below hb, h.s.below hb, h.j.below hb⟩
theorem FK.apart {wd wx : World} {last : Int} {vs vj : Value} {S : List Stay} {J : List Job} (h : FK wd wx last vs vj S J) : ∀ g, vs.ownBlock = some g → vj.ownBlock ≠ some g := fun g e e' => by
  rcases h.j with ⟨rfl, _⟩ | ⟨g', cap, cur, rfl, hg, hk, _⟩
  · cases e'
  · simp [Value.ownBlock] at e'
    subst e'
    exact ownNeT h.s hk (by decide) e
theorem FK.moreS {wd wx : World} {last : Int} {vs vj : Value} {S : List Stay} {J : List Job} (h : FK wd wx last vs vj S J) {wy : World} {vs' : Value} {S' : List Stay} (g : wx.grownBy wy vs.ownBlock) (ho : OwnAt wy (wd.heap.size + 1) 47 8 Stay.enc vs' S') : FK wd (wy.setCell ⟨wd.heap.size, 1, none⟩ vs') last vs' vj S' J := by
  have kb : ∀ {n : Nat} {a : Array Value} {T : TypeId}, Blk wx n a T → n < wd.heap.size + 1 → Blk wy n a T := fun hk hn => (g.block _ hk.lt (fun e => by have := (ownGe h.s _ e.symm).1; omega)).trans hk
  exact ⟨(grown_below' h.below g (fun n e => Nat.le_trans (by omega) (ownGe h.s n e).1) h.below.size).setCell (p := ⟨wd.heap.size, 1, none⟩) (Nat.le_refl _) _, (kb h.b1 (by omega)).set 1 _, ownSet ho _ (by omega), ownSet (h.j.grown g (fun n e e' => h.apart n e' e)) _ (by omega)⟩
theorem FK.moreJ {wd wx : World} {last : Int} {vs vj : Value} {S : List Stay} {J : List Job} (h : FK wd wx last vs vj S J) {wy : World} {vj' : Value} {J' : List Job} (g : wx.grownBy wy vj.ownBlock) (ho : OwnAt wy (wd.heap.size + 1) 54 2 Job.enc vj' J') : FK wd (wy.setCell ⟨wd.heap.size, 2, none⟩ vj') last vs vj' S J' := by
  have kb : ∀ {n : Nat} {a : Array Value} {T : TypeId}, Blk wx n a T → n < wd.heap.size + 1 → Blk wy n a T := fun hk hn => (g.block _ hk.lt (fun e => by have := (ownGe h.j _ e.symm).1; omega)).trans hk
  exact ⟨(grown_below' h.below g (fun n e => Nat.le_trans (by omega) (ownGe h.j n e).1) h.below.size).setCell (p := ⟨wd.heap.size, 2, none⟩) (Nat.le_refl _) _, (kb h.b1 (by omega)).set 2 _, ownSet (h.s.grown g (fun n e e' => h.apart n e e')) _ (by omega), ownSet ho _ (by omega)⟩
theorem FK.appS {wd wx : World} {last : Int} {vs vj : Value} {S : List Stay} {J : List Job} (h : FK wd wx last vs vj S J) {wy : World} {t id a b c x y z : Int} {g cap : Nat} (hg : wx.grownBy wy vs.ownBlock) (ho : wy.ownsRow (wd.heap.size + 1) 47 8 (.slice (some ⟨g, 0, none⟩) (S.length + 1) cap) (S.length + 1) (S.flatMap Stay.enc ++ [.int .i64 t, .int .i64 id, .int .i64 a, .int .i64 b, .int .i64 c, .int .i64 x, .int .i64 y, .int .i64 z])) : FK wd (wy.setCell ⟨wd.heap.size, 1, none⟩ (.slice (some ⟨g, 0, none⟩) (S.length + 1) cap)) last (.slice (some ⟨g, 0, none⟩) (S.length + 1) cap) vj (S ++ [⟨t, id, a, b, c, x, y, z⟩]) J :=
  h.moreS hg (OwnAt.of_owns stay_len (by rw [List.length_append, List.flatMap_append]; exact ho))
theorem FK.appJ {wd wx : World} {last : Int} {vs vj : Value} {S : List Stay} {J : List Job} (h : FK wd wx last vs vj S J) {wy : World} {a : Int} {q : Bool} {g cap : Nat} (hg : wx.grownBy wy vj.ownBlock) (ho : wy.ownsRow (wd.heap.size + 1) 54 2 (.slice (some ⟨g, 0, none⟩) (J.length + 1) cap) (J.length + 1) (J.flatMap Job.enc ++ [.int .i64 a, .bool q])) : FK wd (wy.setCell ⟨wd.heap.size, 2, none⟩ (.slice (some ⟨g, 0, none⟩) (J.length + 1) cap)) last vs (.slice (some ⟨g, 0, none⟩) (J.length + 1) cap) S (J ++ [⟨a, q⟩]) :=
  h.moreJ hg (OwnAt.of_owns job_len (by rw [List.length_append, List.flatMap_append]; exact ho))
def RefPost (s : List UInt8) (n : Nat) (w : World) (e : Ending) (w' : World) : Prop := Below w.heap.size w w' ∧
  ((refP s n = none ∧ e = .returned (.tuple #[.agg #[.int .i64 0, .slice none 0 0, .slice none 0 0], .int .i64 4])) ∨
   ∃ (b : PB) (sa : Option Addr) (sc : Nat) (ja : Option Addr) (jc : Nat), refP s n = some b ∧ e = .returned (.tuple #[.agg #[.int .i64 b.last, .slice sa b.stays.length sc, .slice ja b.jobs.length jc], .int .i64 0]) ∧ Book.At ⟨b.last, sa, sc, ja, jc, b.stays, b.jobs⟩ w')
theorem own_grown_belowI {w wr w' : World} {v : Value} {l : List Int} (ho : OwnAt wr w.heap.size 3 1 intE v l) (hb : Below w.heap.size w wr) (hg : wr.grownBy w' v.ownBlock) : Below w.heap.size w w' :=
  hb.grown hg hb.size fun k hk => (ho.block k hk).1
theorem own_moreI {w' : World} {base : Nat} {v : Value} {l : List Int} {x : Int} (ho : w'.ownsRow base 3 1 v (l.length + 1) (l.flatMap intE ++ [.int .i64 x])) : OwnAt w' base 3 1 intE v (l ++ [x]) :=
  OwnAt.of_owns intE_len (by rw [List.length_append, List.flatMap_append]; exact ho)
theorem set3_below {w wr : World} (h : Below w.heap.size w wr) (a b c : Value) : Below w.heap.size w (((wr.setCell ⟨w.heap.size, 0, none⟩ a).setCell ⟨w.heap.size, 1, none⟩ b).setCell ⟨w.heap.size, 2, none⟩ c) :=
  ((h.setCell (p := ⟨w.heap.size, 0, none⟩) (Nat.le_refl _) _).setCell (p := ⟨w.heap.size, 1, none⟩) (Nat.le_refl _) _).setCell (p := ⟨w.heap.size, 2, none⟩) (Nat.le_refl _) _

theorem stayN_nn' (last : Int) (n : Nat) (l : List Stay) (s : Stay) : 0 ≤ stayN last n l s := by
  unfold stayN
  repeat' split
  all_goals decide
theorem staysF_nn' (last : Int) (n : Nat) (l : List Stay) : ∀ m i, 0 ≤ staysF last n l m i
  | 0, _ => Int.le_refl _
  | m + 1, i => by
    unfold staysF
    split
    · exact staysF_nn' last n l m (i + 1)
    · exact stayN_nn' _ _ _ _
theorem jobsF_nn' (b : Book) : ∀ m i, 0 ≤ jobsF b m i
  | 0, _ => Int.le_refl _
  | m + 1, i => by
    unfold jobsF
    split
    · decide
    · exact jobsF_nn' b m (i + 1)
theorem bookN_nn' (b : Book) (n : Nat) : 0 ≤ bookN b n := by
  unfold bookN
  repeat' split
  · decide
  · decide
  · exact staysF_nn' _ _ _ _ _
  · exact jobsF_nn' _ _ _
theorem flags_bad : ∀ (B k : Nat) (L : List Int), k < B → 1 < (L.drop (2 * k)).getD 1 0 → flagsOK B L = false
  | 0, k, L, h, _ => absurd h (Nat.not_lt_zero _)
  | B + 1, 0, L, _, h => by
    unfold flagsOK
    rw [decide_eq_false (by simpa using h)]
    rfl
  | B + 1, k + 1, L, h, h1 => by
    unfold flagsOK
    rw [flags_bad B k (L.drop 2) (by omega) (by rw [List.drop_drop, show 2 + 2 * k = 2 * (k + 1) from by omega]; exact h1), Bool.and_false]
theorem flags_all : ∀ (B : Nat) (L : List Int), (∀ i, i < B → (L.drop (2 * i)).getD 1 0 ≤ 1) → flagsOK B L = true
  | 0, L, _ => rfl
  | B + 1, L, h => by
    unfold flagsOK
    rw [flags_all B (L.drop 2) (fun i hi => by rw [List.drop_drop, show 2 + 2 * i = 2 * (i + 1) from by omega]; exact h (i + 1) (by omega)), decide_eq_true (by simpa using h 0 (by omega))]
    rfl

set_option maxHeartbeats 8000000 in
theorem rbookOf_any (s : ByteArray) (n : Nat) (w : World) (hs : s.size ≤ 1000) (n1 : 1 ≤ n) (n4 : n ≤ 4) :
    Calls Tryd.prog 10 #[.string s, .int .i64 n] w (RefPost s.data.toList n w) := by
  have HNO : Hid (refP s.data.toList n = none → ∀ w', Below w.heap.size w w' → RefPost s.data.toList n w (.returned (.tuple #[.agg #[.int .i64 0, .slice none 0 0, .slice none 0 0], .int .i64 4])) w') := fun hf w' hb => ⟨hb, Or.inl ⟨hf, rfl⟩⟩
  have HYES : Hid (∀ (b : PB) (sa : Option Addr) (sc : Nat) (ja : Option Addr) (jc : Nat) w', refP s.data.toList n = some b → Book.At ⟨b.last, sa, sc, ja, jc, b.stays, b.jobs⟩ w' → Below w.heap.size w w' → RefPost s.data.toList n w (.returned (.tuple #[.agg #[.int .i64 b.last, .slice sa b.stays.length sc, .slice ja b.jobs.length jc], .int .i64 0])) w') := fun b sa sc ja jc w' h1 h2 h3 => ⟨h3, Or.inr ⟨b, sa, sc, ja, jc, h1, rfl, h2⟩⟩
  generalize RefPost s.data.toList n w = PP at *
  obtain ⟨w0, hw0⟩ : ∃ w0, w.alloc (.cells #[.int .i64 0, .slice none 0 0, .slice none 0 0] 25) = w0 := ⟨_, rfl⟩
  have N0 : Hid (Below w.heap.size w w0 ∧ Blk w0 w.heap.size #[.int .i64 0, .slice none 0 0, .slice none 0 0] 25) := by
    show _ ∧ _
    rw [← hw0]
    exact ⟨B.new1 _ _, Blk.new _ _ _⟩
  have HWD : Hid (Calls Tryd.prog 25 #[.string s] w0 fun e w' => ∃ v ws, e = .returned v ∧ OwnAt w' w0.heap.size 9 1 strE v ws ∧ ws.map (·.data.toList) = wordsP s.data.toList [] ∧ Below w0.heap.size w0 w') := rwords_any s w0 hs
  obtain ⟨i0, ii, iz, is, ib⟩ := intInfo
  go_enter Tryd.func10, Tryd.ntmps10
  go_wp2_with fail
  clear hw0
  refine HWD.out.mono ?_
  rintro e w1 ⟨vw, ws, rfl, hown, hws, b1⟩
  obtain ⟨wa, wc, rfl, hrows⟩ := hown.rows
  have X1 : Hid (Below w.heap.size w w1 ∧ Blk w1 w.heap.size #[.int .i64 0, .slice none 0 0, .slice none 0 0] 25 ∧ RowsAt w1 wa wc 1 strE ws ∧ w.heap.size < w1.heap.size) := ⟨B.next N0.out.1 b1 N0.out.1.size, N0.out.2.below b1, hrows, Nat.lt_of_lt_of_le N0.out.2.lt b1.size⟩
  have HRP : Hid (∀ r, refP s.data.toList n = r ↔ (if (ws.map (·.data.toList)).all (fun x => decide (0 ≤ natP x)) = true then (refB ((ws.map (·.data.toList)).map natP)).bind fun b => if bookN b.book n = 0 then some b else none else none) = r) := fun r => by
    rw [hws]
    exact Iff.rfl
  have HWL : Hid (ws.length ≤ 1001 ∧ 1 ≤ ws.length ∧ ∀ x ∈ ws, x.size ≤ 1000) := by
    have h1 := wordsP_len s.data.toList []
    have h2 := wordsP_ne s.data.toList []
    have h3 := wordsP_size s.data.toList []
    have h5 : s.data.toList.length = s.size := by simp
    rw [← hws] at h1 h2 h3
    rw [List.length_map] at h1
    refine ⟨by omega, ?_, fun x hx => ?_⟩
    · rcases Nat.eq_zero_or_pos ws.length with h | h
      · rw [List.length_eq_zero_iff] at h
        rw [h] at h2
        exact absurd rfl h2
      · exact h
    · have h4 := h3 x.data.toList (List.mem_map.2 ⟨x, hx, rfl⟩)
      have h6 : x.data.toList.length = x.size := by simp
      simp only [List.length_nil] at h4
      omega
  clear hown hws hrows b1 HWD N0
  go_wp2_with fail
  generalize hNW : ws.length = nw at *
  have hnw1 : nw ≤ 1001 := HWL.out.1
  go_loopg [7, 8] nw (fun gg s7 s8 wr => ∃ k : Nat, k ≤ nw ∧ nw - k ≤ gg ∧ s8 = .int .i64 k ∧ Hid (∀ x ∈ ws.take k, 0 ≤ natP x.data.toList) ∧ Hid (OwnAt wr w1.heap.size 3 1 intE s7 ((ws.take k).map fun x => natP x.data.toList) ∧ Below w1.heap.size w1 wr))
  case atStart => exact ⟨0, Nat.zero_le _, by omega, rfl, fun x hx => by simp at hx, ⟨Or.inl ⟨rfl, rfl⟩, Below.refl _ _⟩⟩
  case round =>
    obtain ⟨k, hk, hg, rfl, HA, M⟩ := hrel
    by_cases hlt : k < nw
    · have hltz : (k : Int) < (nw : Int) := by omega
      have hltl : k < ws.length := by omega
      obtain ⟨sb, soff, rfl⟩ := rowsSome (X1.out.2.2.1.below M.out.2) (by omega)
      have cg := rowsCell (X1.out.2.2.1.below M.out.2) k hltl 0 _ rfl
      have hmem : ws[k]! ∈ ws := by rw [getElem!_pos ws k hltl]; exact List.getElem_mem hltl
      have HTK : Hid (ws.take (k + 1) = ws.take k ++ [ws[k]!]) := by show _ = _; rw [List.take_succ_eq_append_getElem hltl, getElem!_pos ws k hltl]
      have HXS := HWL.out.2.2 _ hmem
      have HNT : Hid (Calls Tryd.prog 26 #[.string ws[k]!, .int .i64 999999] wr fun e w' => e = .returned (.int .i64 (natP ws[k]!.data.toList)) ∧ w' = wr) := rnatural_any _ wr HXS
      have HBAD : Hid (natP ws[k]!.data.toList < 0 → refP s.data.toList n = none) := fun hneg => by
        rw [HRP.out, if_neg]
        rw [List.all_map, List.all_eq_true]
        intro h
        have := h _ hmem
        simp only [Function.comp, decide_eq_true_eq] at this
        omega
      have HKL : Hid (((ws.take k).map fun x => natP x.data.toList).length = k) := by show _ = _; rw [List.length_map, List.length_take]; omega
      have HMP : Hid ((ws.take (k + 1)).map (fun x => natP x.data.toList) = (ws.take k).map (fun x => natP x.data.toList) ++ [natP ws[k]!.data.toList]) := by show _ = _; rw [HTK.out, List.map_append]; rfl
      have HAN : Hid (0 ≤ natP ws[k]!.data.toList → ∀ x ∈ ws.take (k + 1), 0 ≤ natP x.data.toList) := fun h x hx => by
        rw [HTK.out] at hx
        rcases List.mem_append.1 hx with h2 | h2
        · exact HA.out x h2
        · exact (List.mem_singleton.1 h2) ▸ h
      simp only [Nat.mul_one, Nat.add_zero] at cg
      generalize ws[k]! = x at *
      generalize natP x.data.toList = v at *
      go_wp2_with fail
      refine HNT.out.mono ?_
      rintro e w2 ⟨rfl, hw2⟩
      subst hw2
      have Z : Hid (Below w.heap.size w w2 ∧ Blk w2 w.heap.size #[.int .i64 0, .slice none 0 0, .slice none 0 0] 25) := ⟨B.next X1.out.1 M.out.2 X1.out.1.size, X1.out.2.1.below M.out.2⟩
      by_cases hneg : v < 0
      · have z2 := Z.out.2.cell
        have fz2 := Z.out.2.free
        have HF2 : Hid (PP (.returned (.tuple #[.agg #[.int .i64 0, .slice none 0 0, .slice none 0 0], .int .i64 4])) (((w2.setCell ⟨w.heap.size, 0, none⟩ (.int .i64 0)).setCell ⟨w.heap.size, 1, none⟩ (.slice none 0 0)).setCell ⟨w.heap.size, 2, none⟩ (.slice none 0 0))) := HNO.out (HBAD.out hneg) _ (set3_below Z.out.1 _ _ _)
        clear HNO HYES HRP HWL HA M HNT HBAD HKL HMP HAN X1 Z cg HTK
        go_wp2
        (try simp only [Exit.inBlock, Exit.then])
        refine bodyPost_ret (v := .tuple #[.agg #[.int .i64 0, .slice none 0 0, .slice none 0 0], .int .i64 4]) (by simp [results, Tryd.results10, go_sem, set3_0 z2, set3_1 z2, set3_2 z2]; try rfl) rfl ?_
        exact HF2.out
      · obtain ⟨wq, hwq⟩ : ∃ wq, w2.alloc (.cells #[.int .i64 v] 3) = wq := ⟨_, rfl⟩
        have NB : Hid (OwnAt wq w1.heap.size 3 1 intE u7 ((ws.take k).map fun x => natP x.data.toList) ∧ (∀ j u, ([.int .i64 v] : List Value)[j]? = some u → wq.cell? ((⟨w2.heap.size, 0, none⟩ : Addr).add j) = some u) ∧ w1.heap.size ≤ wq.heap.size ∧ Below w1.heap.size w1 wq) := by
          have hb : Below w2.heap.size w2 wq := by rw [← hwq]; exact B.new1 _ _
          refine ⟨M.out.1.below hb, ?_, Nat.le_trans M.out.2.size hb.size, B.next M.out.2 hb M.out.2.size⟩
          rw [← hwq]
          exact news_new w2 [.int .i64 v] 3 _ rfl
        have hbb := NB.out.2.2.1
        have HA2 : Hid (∀ x ∈ ws.take (k + 1), 0 ≤ natP x.data.toList) := HAN.out (by omega)
        have hkl := HKL.out
        generalize (ws.take k).map (fun x => natP x.data.toList) = LK at *
        clear HNO HYES HRP HWL HA M HNT HBAD HAN Z cg HTK
        go_wp2_with (at_builtin; refine wpList_append_own _ rfl _ _ 60 rfl w1.heap.size 3 i0 (.int .i64 0) 1 8 Tryd.underlying60 ii iz is ib rfl (by decide) u7 LK.length (LK.flatMap intE) rfl (NB.out.1.to_owns intE_len) ⟨w2.heap.size, 0, none⟩ 1 1 [.int .i64 v] rfl rfl NB.out.2.1 (ints_one [v]) (by unfold maxLen; omega) (by omega) hbb ?_; intro v' w' ho hgr hnil)
        have N2 : Hid (OwnAt w' w1.heap.size 3 1 intE v' (LK ++ [v]) ∧ Below w1.heap.size w1 w') := ⟨own_moreI ho, own_grown_belowI NB.out.1 NB.out.2.2.2 hgr⟩
        rw [← HMP.out] at N2
        clear ho hgr hnil NB
        go_wp2
        go_roundg (nw - (k + 1))
        case measure => omega
        case rel => exact ⟨k + 1, by omega, by omega, by go_num, HA2, N2⟩
    · have hltz : ¬ (k : Int) < (nw : Int) := by omega
      have hke : k = nw := by omega
      subst hke
      rw [← hNW, List.take_length] at HA M
      go_wp2_with fail
      obtain ⟨L, hL⟩ : ∃ L, ws.map (fun x => natP x.data.toList) = L := ⟨_, rfl⟩
      have HRQ : Hid (refP s.data.toList n = (refB L).bind fun b => if bookN b.book n = 0 then some b else none) := by
        refine (HRP.out _).2 ?_
        rw [if_pos (by
          rw [List.all_map, List.all_eq_true]
          intro x hx
          simp only [Function.comp, decide_eq_true_eq]
          exact HA.out x hx), List.map_map]
        rw [← hL]
        rfl
      have HLP : Hid (∀ x ∈ L, 0 ≤ x ∧ x ≤ 999999) := fun x hx => by
        rw [← hL] at hx
        obtain ⟨y, hy, rfl⟩ := List.mem_map.1 hx
        exact ⟨HA.out y hy, (natP_some (HA.out y hy)).2⟩
      have hLl : L.length = k := by rw [← hL, List.length_map, hNW]
      rw [hL] at M
      have HK1 := HWL.out.2.1
      obtain ⟨g, cap, cur, rfl, hgb, hkB, hlc, hcm, hsz, hir⟩ := M.out.1.resolve_left (fun e => by have := e.2; rw [this] at hLl; simp at hLl; omega)
      have HNU : Hid (NumsAt wr g 0 L) := fun j hj => by
        rw [hkB.cell, Nat.zero_add]
        have := hir j hj 0 (.int .i64 L[j]!) rfl
        rw [Nat.mul_one, Nat.add_zero] at this
        rw [this, getElem!_pos L j hj, List.getD_eq_getElem?_getD, List.getElem?_eq_getElem hj]
        rfl
      have Z : Hid (Below w.heap.size w wr ∧ Blk wr w.heap.size #[.int .i64 0, .slice none 0 0, .slice none 0 0] 25 ∧ w.heap.size < wr.heap.size) := ⟨B.next X1.out.1 M.out.2 X1.out.1.size, X1.out.2.1.below M.out.2, Nat.lt_of_lt_of_le X1.out.2.2.2 M.out.2.size⟩
      have hgl : g < wr.heap.size := hkB.lt
      unfold maxLen at hcm
      clear hir hsz hkB HWL HRP HA M X1 hNW hL
      have z2 := Z.out.2.1.cell
      have fz2 := Z.out.2.1.free
      by_cases h3 : L.length < 3
      · have h3z : (k : Int) < 3 := by omega
        have hno : refP s.data.toList n = none := by
          rw [HRQ.out]
          unfold refB
          rw [if_pos (by unfold countB; rw [decide_eq_true h3]; rfl)]
          rfl
        have HF2 : Hid (∀ W, Below w.heap.size w W → PP (.returned (.tuple #[.agg #[.int .i64 0, .slice none 0 0, .slice none 0 0], .int .i64 4])) W) := fun W hb => HNO.out hno W hb
        rw [← hLl] at h3z
        have HZ3 : Hid (Below w.heap.size w (((wr.setCell ⟨w.heap.size, 0, none⟩ (.int .i64 0)).setCell ⟨w.heap.size, 1, none⟩ (.slice none 0 0)).setCell ⟨w.heap.size, 2, none⟩ (.slice none 0 0))) := set3_below Z.out.1 _ _ _
        clear HNO HYES HRQ HLP HNU Z
        subst hLl
        go_region
        all_goals go_wp2
        all_goals (try simp only [Exit.inBlock, Exit.then])
        all_goals refine bodyPost_ret (v := .tuple #[.agg #[.int .i64 0, .slice none 0 0, .slice none 0 0], .int .i64 4]) (by simp [results, Tryd.results10, go_sem, set3_0 z2, set3_1 z2, set3_2 z2]; try rfl) rfl ?_
        all_goals exact HF2.out _ HZ3.out.drew
      have h3z : ¬ (k : Int) < 3 := by omega
      obtain ⟨a, HAa⟩ : ∃ a, Hid (L.getD 1 0 = a) := ⟨_, rfl⟩
      obtain ⟨b, HBb⟩ : ∃ b, Hid (L.getD 2 0 = b) := ⟨_, rfl⟩
      obtain ⟨last, HLa⟩ : ∃ last, Hid (L.getD 0 0 = last) := ⟨_, rfl⟩
      have hget : ∀ i, i < L.length → 0 ≤ L.getD i 0 ∧ L.getD i 0 ≤ 999999 := fun i hi => by
        rw [List.getD_eq_getElem?_getD, List.getElem?_eq_getElem hi]
        exact HLP.out _ (List.getElem_mem hi)
      have ha := hget 1 (by omega)
      have hb := hget 2 (by omega)
      have hla := hget 0 (by omega)
      rw [HAa.out] at ha
      rw [HBb.out] at hb
      rw [HLa.out] at hla
      have s0 := HNU.out 0 (by omega)
      have s1 := HNU.out 1 (by omega)
      have s2 := HNU.out 2 (by omega)
      rw [HLa.out] at s0
      rw [HAa.out] at s1
      rw [HBb.out] at s2
      simp only [Nat.zero_add] at s0 s1 s2
      have i0' : 0 < k := by omega
      have i1 : (1 : Int) < (k : Int) := by omega
      have i2 : (2 : Int) < (k : Int) := by omega
      have e8 : IntKind.i64.wrap (8 * a) = 8 * a := by rw [IntKind.wrap_i64]; omega
      have e38 : IntKind.i64.wrap (3 + 8 * a) = 3 + 8 * a := by rw [IntKind.wrap_i64]; omega
      have e2 : IntKind.i64.wrap (2 * b) = 2 * b := by rw [IntKind.wrap_i64]; omega
      have es : IntKind.i64.wrap (3 + 8 * a + 2 * b) = 3 + 8 * a + 2 * b := by rw [IntKind.wrap_i64]; omega
      clear hget
      by_cases heq : (k : Int) = 3 + 8 * a + 2 * b
      case neg =>
        have hno : refP s.data.toList n = none := by
          rw [HRQ.out]
          unfold refB
          rw [if_pos (by unfold countB; rw [HAa.out, HBb.out, hLl, decide_eq_true heq, Bool.or_true])]
          rfl
        have HF2 : Hid (∀ W, Below w.heap.size w W → PP (.returned (.tuple #[.agg #[.int .i64 0, .slice none 0 0, .slice none 0 0], .int .i64 4])) W) := fun W hb => HNO.out hno W hb
        have HZ3 : Hid (Below w.heap.size w (((wr.setCell ⟨w.heap.size, 0, none⟩ (.int .i64 0)).setCell ⟨w.heap.size, 1, none⟩ (.slice none 0 0)).setCell ⟨w.heap.size, 2, none⟩ (.slice none 0 0))) := set3_below Z.out.1 _ _ _
        have hq : ((k : Int) == 3 + 8 * a + 2 * b) = false := beq_eq_false_iff_ne.2 heq
        clear HNO HYES HRQ HLP HNU Z heq
        go_region
        all_goals go_wp2
        all_goals (try simp only [Exit.inBlock, Exit.then])
        all_goals refine bodyPost_ret (v := .tuple #[.agg #[.int .i64 0, .slice none 0 0, .slice none 0 0], .int .i64 4]) (by simp [results, Tryd.results10, go_sem, set3_0 z2, set3_1 z2, set3_2 z2]; try rfl) rfl ?_
        all_goals exact HF2.out _ HZ3.out.drew
      have hq : ((k : Int) == 3 + 8 * a + 2 * b) = true := beq_iff_eq.2 heq
      have HEQ : Hid ((k : Int) = 3 + 8 * a + 2 * b) := heq
      clear heq
      have NF : Hid (FK wr (wr.alloc (.cells #[.int .i64 last, .slice none 0 0, .slice none 0 0] 25)).drew last (.slice none 0 0) (.slice none 0 0) [] []) :=
        ⟨(B.new1 _ _).drew, Blk.new wr _ _, Or.inl ⟨rfl, rfl⟩, Or.inl ⟨rfl, rfl⟩⟩
      go_region
      all_goals go_wp2_with fail
      obtain ⟨A, rfl⟩ : ∃ A : Nat, a = (A : Int) := ⟨a.toNat, by omega⟩
      obtain ⟨Bn, rfl⟩ : ∃ Bn : Nat, b = (Bn : Int) := ⟨b.toNat, by omega⟩
      have HAB : Hid (k = 3 + 8 * A + 2 * Bn) := by show _ = _; have := HEQ.out; omega
      clear e8 e38 e2 es hq HEQ s0 s1 s2 z2 fz2 i1 i2 h3z
      generalize (wr.alloc (.cells #[.int .i64 last, .slice none 0 0, .slice none 0 0] 25)).drew = wf at *
      obtain ⟨wd, hwd⟩ : ∃ wd, wd = wr := ⟨_, rfl⟩
      rw [← hwd] at NF HNU Z hgl
      have Z6 : w.heap.size < wd.heap.size := Z.out.2.2
      (try rw [← hwd])
      clear hwd
      go_loopg [11] A (fun gg s11 wr => ∃ (j : Nat) (vs : Value), j ≤ A ∧ A - j ≤ gg ∧ s11 = .int .i64 j ∧ Hid (FK wd wr last vs (.slice none 0 0) (staysP j (L.drop 3)) []))
      case atStart => exact ⟨0, _, Nat.zero_le _, by omega, rfl, NF⟩
      case round =>
        clear NF
        obtain ⟨j, vs, hj, hgg, rfl, M⟩ := hrel
        have s1 := (M.out.below.cell (p := ⟨g, 0 + 1, none⟩) hgl).trans (HNU.out 1 (by have := HAB.out; omega))
        rw [HAa.out] at s1
        simp only [Nat.zero_add] at s1
        have i1 : (1 : Int) < (k : Int) := by have := HAB.out; omega
        by_cases hlt : j < A
        · have hltz : (j : Int) < (A : Int) := by omega
          have e8 : IntKind.i64.wrap (8 * (j : Int)) = 8 * (j : Int) := by have := HAB.out; rw [IntKind.wrap_i64]; omega
          have e38 : IntKind.i64.wrap (3 + 8 * (j : Int)) = ((3 + 8 * j : Nat) : Int) := by have := HAB.out; rw [IntKind.wrap_i64]; omega
          have hnn := (HNU.out.below hgl M.out.below).drop (3 + 8 * j)
          rw [Nat.zero_add] at hnn
          have hll : (L.drop (3 + 8 * j)).length = k - (3 + 8 * j) := by rw [List.length_drop, hLl]
          have u0 := hnn 0 (by have := HAB.out; omega)
          have u1 := hnn 1 (by have := HAB.out; omega)
          have u2 := hnn 2 (by have := HAB.out; omega)
          have u3 := hnn 3 (by have := HAB.out; omega)
          have u4 := hnn 4 (by have := HAB.out; omega)
          have u5 := hnn 5 (by have := HAB.out; omega)
          have u6 := hnn 6 (by have := HAB.out; omega)
          have u7 := hnn 7 (by have := HAB.out; omega)
          rw [Nat.add_zero] at u0
          clear hnn hll
          have HSS : Hid (staysP (j + 1) (L.drop 3) = staysP j (L.drop 3) ++ [stayP (L.drop (3 + 8 * j))]) := by
            show _ = _
            rw [staysP_succ, List.drop_drop]
          have HSL : Hid ((staysP j (L.drop 3)).length = j) := staysP_len _ _
          have HSP : Hid (stayP (L.drop (3 + 8 * j)) = ⟨(L.drop (3 + 8 * j)).getD 0 0, (L.drop (3 + 8 * j)).getD 1 0, (L.drop (3 + 8 * j)).getD 2 0, (L.drop (3 + 8 * j)).getD 3 0, (L.drop (3 + 8 * j)).getD 4 0, (L.drop (3 + 8 * j)).getD 5 0, (L.drop (3 + 8 * j)).getD 6 0, (L.drop (3 + 8 * j)).getD 7 0⟩) := rfl
          generalize staysP j (L.drop 3) = S at *
          generalize (L.drop (3 + 8 * j)).getD 0 0 = x0 at *
          generalize (L.drop (3 + 8 * j)).getD 1 0 = x1 at *
          generalize (L.drop (3 + 8 * j)).getD 2 0 = x2 at *
          generalize (L.drop (3 + 8 * j)).getD 3 0 = x3 at *
          generalize (L.drop (3 + 8 * j)).getD 4 0 = x4 at *
          generalize (L.drop (3 + 8 * j)).getD 5 0 = x5 at *
          generalize (L.drop (3 + 8 * j)).getD 6 0 = x6 at *
          generalize (L.drop (3 + 8 * j)).getD 7 0 = x7 at *
          obtain ⟨nl, hnl⟩ : ∃ nl, k - (3 + 8 * j) = nl := ⟨_, rfl⟩
          have hnl8 : 8 ≤ nl := by have := HAB.out; omega
          have n0 : 0 < nl := by omega
          have n0' : (0 : Int) < (nl : Int) := by omega
          have n1' : (1 : Int) < (nl : Int) := by omega
          have n2 : (2 : Int) < (nl : Int) := by omega
          have n3 : (3 : Int) < (nl : Int) := by omega
          have n4' : (4 : Int) < (nl : Int) := by omega
          have n5 : (5 : Int) < (nl : Int) := by omega
          have n6 : (6 : Int) < (nl : Int) := by omega
          have n7 : (7 : Int) < (nl : Int) := by omega
          have hle1 : 3 + 8 * j ≤ k := by have := HAB.out; omega
          have ra1 : wr.cell? ⟨wd.heap.size, 1, none⟩ = some vs := M.out.b1.cell 1
          have GE : Hid (∀ g, vs.ownBlock = some g → wd.heap.size + 1 ≤ g) := fun g e => (ownGe M.out.s g e).1
          have kl : S.length ≤ 1000 := by have := HSL.out; omega
          obtain ⟨iS, hiS, hzS0, hzS1, hzS2⟩ := Tryd.infoStay
          have HIS : Hid (Tryd.prog.info? 47 = some iS) := hiS
          have HZS : Hid (iS.zero = some (.agg #[.int .i64 0, .int .i64 0, .int .i64 0, .int .i64 0, .int .i64 0, .int .i64 0, .int .i64 0, .int .i64 0]) ∧ iS.size = 8 ∧ iS.bytes = 64) := ⟨hzS0, hzS1, hzS2⟩
          clear hiS hzS0 hzS1 hzS2
          have hlw : wd.heap.size < wr.heap.size := M.out.b1.lt
          obtain ⟨WA, hWA⟩ : ∃ WA, wr.drew.alloc (.cells #[.int .i64 x0, .int .i64 x1, .int .i64 x2, .int .i64 x3, .int .i64 x4, .int .i64 x5, .int .i64 x6, .int .i64 x7] 47) = WA := ⟨_, rfl⟩
          have FA : Hid (FK wd WA last vs (.slice none 0 0) S [] ∧ (∀ j u, ([.int .i64 x0, .int .i64 x1, .int .i64 x2, .int .i64 x3, .int .i64 x4, .int .i64 x5, .int .i64 x6, .int .i64 x7] : List Value)[j]? = some u → WA.cell? ((⟨wr.heap.size, 0, none⟩ : Addr).add j) = some u) ∧ wd.heap.size + 1 ≤ WA.heap.size) := by
            show _ ∧ _ ∧ _
            rw [← hWA]
            refine ⟨(M.out.next ((Below.refl _ wr).drew)).next (B.new1 _ _), news_new wr.drew [.int .i64 x0, .int .i64 x1, .int .i64 x2, .int .i64 x3, .int .i64 x4, .int .i64 x5, .int .i64 x6, .int .i64 x7] 47 _ rfl, ?_⟩
            have h3 : (wr.drew.alloc (.cells #[.int .i64 x0, .int .i64 x1, .int .i64 x2, .int .i64 x3, .int .i64 x4, .int .i64 x5, .int .i64 x6, .int .i64 x7] 47)).heap.size = wr.heap.size + 1 := by simp
            omega
          have hbA : Below wr.heap.size wr WA := by rw [← hWA]; exact ((Below.refl _ wr).drew).alloc (Nat.le_refl _) _
          have hgw : g < wr.heap.size := Nat.lt_of_lt_of_le hgl M.out.below.size
          have ra2 : WA.cell? ⟨wd.heap.size, 1, none⟩ = some vs := FA.out.1.b1.cell 1
          have v0 := (hbA.cell (p := ⟨g, 3 + 8 * j, none⟩) hgw).trans u0
          have v1 := (hbA.cell (p := ⟨g, 3 + 8 * j + 1, none⟩) hgw).trans u1
          have v2 := (hbA.cell (p := ⟨g, 3 + 8 * j + 2, none⟩) hgw).trans u2
          have v3 := (hbA.cell (p := ⟨g, 3 + 8 * j + 3, none⟩) hgw).trans u3
          have v4 := (hbA.cell (p := ⟨g, 3 + 8 * j + 4, none⟩) hgw).trans u4
          have v5 := (hbA.cell (p := ⟨g, 3 + 8 * j + 5, none⟩) hgw).trans u5
          have v6 := (hbA.cell (p := ⟨g, 3 + 8 * j + 6, none⟩) hgw).trans u6
          have v7 := (hbA.cell (p := ⟨g, 3 + 8 * j + 7, none⟩) hgw).trans u7
          have HM1 : Hid (∀ u ∈ ([.int .i64 x0, .int .i64 x1, .int .i64 x2, .int .i64 x3, .int .i64 x4, .int .i64 x5, .int .i64 x6, .int .i64 x7] : List Value), u.oneCell' = true) := by
            intro u hu
            simp only [List.mem_cons, List.not_mem_nil, or_false] at hu
            rcases hu with rfl | rfl | rfl | rfl | rfl | rfl | rfl | rfl <;> rfl
          obtain ⟨v9, w9, hrun, ho9, hg9⟩ := run_more (P := Tryd.prog) (T := 22) (e := 47) (i0 := iS) (z := .agg #[.int .i64 0, .int .i64 0, .int .i64 0, .int .i64 0, .int .i64 0, .int .i64 0, .int .i64 0, .int .i64 0]) (k := 8) (bytes := 64) (enc := Stay.enc) stay_len stay_one 22 Tryd.underlying22 HIS.out HZS.out.1 HZS.out.2.1 HZS.out.2.2 rfl (by decide) (by decide) vs S (wd.heap.size + 1) wr.heap.size ⟨x0, x1, x2, x3, x4, x5, x6, x7⟩ WA FA.out.1.s kl (by rw [← hWA]; exact Blk.new1 rfl _ _) FA.out.2.2
          obtain ⟨a9, c9, hv9, _⟩ := ho9.rows
          subst hv9
          generalize hl9 : (S ++ [(⟨x0, x1, x2, x3, x4, x5, x6, x7⟩ : Stay)]).length = l9 at hrun
          rw [hl9] at ho9
          have HRA : Hid (AppRun Tryd.prog 22 22 vs (.slice (some ⟨wr.heap.size, 0, none⟩) 1 1) WA (.slice a9 l9 c9) w9) := hrun
          have ra9 : w9.cell? ⟨wd.heap.size, 1, none⟩ = some vs := (hg9.cell_far ⟨wd.heap.size, 1, none⟩ (FA.out.1.b1.lt) (fun e => by have := GE.out _ e.symm; simp only at this; omega)).trans (FA.out.1.b1.cell 1)
          have fa9 : w9.frozen? ⟨wd.heap.size, 1, none⟩ = false := (hg9.frozen_far ⟨wd.heap.size, 1, none⟩ (FA.out.1.b1.lt) (fun e => by have := GE.out _ e.symm; simp only at this; omega)).trans (FA.out.1.b1.free 1)
          have X : Hid (FK wd (w9.setCell ⟨wd.heap.size, 1, none⟩ (.slice a9 l9 c9)) last (.slice a9 l9 c9) (.slice none 0 0) (S ++ [⟨x0, x1, x2, x3, x4, x5, x6, x7⟩]) []) := FA.out.1.moreS hg9 ho9
          have HSB : Hid (∀ W, Below wd.heap.size wd W → W.cell? ⟨g, 3 + 8 * j, none⟩ = some (.int .i64 x0) ∧ W.cell? ⟨g, 3 + 8 * j + 1, none⟩ = some (.int .i64 x1) ∧ W.cell? ⟨g, 3 + 8 * j + 2, none⟩ = some (.int .i64 x2) ∧ W.cell? ⟨g, 3 + 8 * j + 3, none⟩ = some (.int .i64 x3) ∧ W.cell? ⟨g, 3 + 8 * j + 4, none⟩ = some (.int .i64 x4) ∧ W.cell? ⟨g, 3 + 8 * j + 5, none⟩ = some (.int .i64 x5) ∧ W.cell? ⟨g, 3 + 8 * j + 6, none⟩ = some (.int .i64 x6) ∧ W.cell? ⟨g, 3 + 8 * j + 7, none⟩ = some (.int .i64 x7)) := fun W hb => by
            have e : ∀ o, W.cell? ⟨g, o, none⟩ = wr.cell? ⟨g, o, none⟩ := fun o => (hb.cell (p := ⟨g, o, none⟩) hgl).trans (M.out.below.cell (p := ⟨g, o, none⟩) hgl).symm
            exact ⟨(e _).trans u0, (e _).trans u1, (e _).trans u2, (e _).trans u3, (e _).trans u4, (e _).trans u5, (e _).trans u6, (e _).trans u7⟩
          have HSD := HSB.out wr.drew M.out.below.drew
          have HSA := HSB.out WA FA.out.1.below
          have HS9 := HSB.out w9 (grown_below' FA.out.1.below hg9 (fun n e => Nat.le_trans (by omega) (ownGe FA.out.1.s n e).1) FA.out.1.below.size)
          have HSF := HSB.out _ X.out.below
          have HSD : Hid _ := HSD
          have HSA : Hid _ := HSA
          have HS9 : Hid _ := HS9
          have HSF : Hid _ := HSF
          rw [← HSP.out, ← HSS.out] at X
          clear M hbA HNO HYES HRQ HLP HNU Z u0 u1 u2 u3 u4 u5 u6 u7 v0 v1 v2 v3 v4 v5 v6 v7 HSB hg9 ho9 hrun
          go_wp2_with fail
          -- region 17 (make/rbookof.py)
          refine wp_region_held (S := fun W => W.cell? ⟨g, 3 + 8 * j, none⟩ = some (.int .i64 x0) ∧ W.cell? ⟨g, 3 + 8 * j + 1, none⟩ = some (.int .i64 x1) ∧ W.cell? ⟨g, 3 + 8 * j + 2, none⟩ = some (.int .i64 x2) ∧ W.cell? ⟨g, 3 + 8 * j + 3, none⟩ = some (.int .i64 x3) ∧ W.cell? ⟨g, 3 + 8 * j + 4, none⟩ = some (.int .i64 x4) ∧ W.cell? ⟨g, 3 + 8 * j + 5, none⟩ = some (.int .i64 x5) ∧ W.cell? ⟨g, 3 + 8 * j + 6, none⟩ = some (.int .i64 x6) ∧ W.cell? ⟨g, 3 + 8 * j + 7, none⟩ = some (.int .i64 x7)) (by kernel_rfl) ?_
          refine wpAnyH_take (fuel := 33) (i := 0) (v := .pointer (some ⟨wd.heap.size, 1, none⟩)) rfl (by kernel_rfl) (by kernel_rfl) (by kernel_rfl) (fun _ _ _ h => h) (Or.inl ⟨by rfl, ?_⟩) HSD.out ?_
          · intro W hSw
            clear hSw
            go_simp
            try rfl
          (try simp only [Act.put, List.setIfInBounds_toArray, List.set_cons_zero, List.set_cons_succ, List.getElem_toArray, List.getElem_cons_zero, List.getElem_cons_succ])
          refine wpAnyH_take (fuel := 32) (i := 2) (v := .slice (some ⟨g, 3 + 8 * j, none⟩) nl (cap - (3 + 8 * j))) rfl (by kernel_rfl) (by kernel_rfl) (by kernel_rfl) (fun _ _ _ h => h) (Or.inl ⟨by rfl, ?_⟩) HSD.out ?_
          · intro W hSw
            clear hSw
            go_simp
            try rfl
          (try simp only [Act.put, List.setIfInBounds_toArray, List.set_cons_zero, List.set_cons_succ, List.getElem_toArray, List.getElem_cons_zero, List.getElem_cons_succ])
          refine wpAnyH_take (fuel := 31) (i := 3) (v := .pointer (some ⟨g, 3 + 8 * j, none⟩)) rfl (by kernel_rfl) (by kernel_rfl) (by kernel_rfl) (fun _ _ _ h => h) (Or.inl ⟨by rfl, ?_⟩) HSD.out ?_
          · intro W hSw
            clear hSw
            go_simp
            try rfl
          (try simp only [Act.put, List.setIfInBounds_toArray, List.set_cons_zero, List.set_cons_succ, List.getElem_toArray, List.getElem_cons_zero, List.getElem_cons_succ])
          refine wpAnyH_take (fuel := 30) (i := 4) (v := .int .i64 x0) rfl (by kernel_rfl) (by kernel_rfl) (by kernel_rfl) (fun _ _ _ h => h) (Or.inl ⟨by rfl, ?_⟩) HSD.out ?_
          · intro W hSw
            have q0 := hSw.1; clear hSw
            go_simp
            try rfl
          (try simp only [Act.put, List.setIfInBounds_toArray, List.set_cons_zero, List.set_cons_succ, List.getElem_toArray, List.getElem_cons_zero, List.getElem_cons_succ])
          refine wpAnyH_take (fuel := 29) (i := 5) (v := .slice (some ⟨g, 3 + 8 * j, none⟩) nl (cap - (3 + 8 * j))) rfl (by kernel_rfl) (by kernel_rfl) (by kernel_rfl) (fun _ _ _ h => h) (Or.inl ⟨by rfl, ?_⟩) HSD.out ?_
          · intro W hSw
            clear hSw
            go_simp
            try rfl
          (try simp only [Act.put, List.setIfInBounds_toArray, List.set_cons_zero, List.set_cons_succ, List.getElem_toArray, List.getElem_cons_zero, List.getElem_cons_succ])
          refine wpAnyH_take (fuel := 28) (i := 6) (v := .pointer (some ⟨g, 3 + 8 * j + 1, none⟩)) rfl (by kernel_rfl) (by kernel_rfl) (by kernel_rfl) (fun _ _ _ h => h) (Or.inl ⟨by rfl, ?_⟩) HSD.out ?_
          · intro W hSw
            clear hSw
            go_simp
            try rfl
          (try simp only [Act.put, List.setIfInBounds_toArray, List.set_cons_zero, List.set_cons_succ, List.getElem_toArray, List.getElem_cons_zero, List.getElem_cons_succ])
          refine wpAnyH_take (fuel := 27) (i := 7) (v := .int .i64 x1) rfl (by kernel_rfl) (by kernel_rfl) (by kernel_rfl) (fun _ _ _ h => h) (Or.inl ⟨by rfl, ?_⟩) HSD.out ?_
          · intro W hSw
            have q1 := hSw.2.1; clear hSw
            go_simp
            try rfl
          (try simp only [Act.put, List.setIfInBounds_toArray, List.set_cons_zero, List.set_cons_succ, List.getElem_toArray, List.getElem_cons_zero, List.getElem_cons_succ])
          refine wpAnyH_take (fuel := 26) (i := 8) (v := .slice (some ⟨g, 3 + 8 * j, none⟩) nl (cap - (3 + 8 * j))) rfl (by kernel_rfl) (by kernel_rfl) (by kernel_rfl) (fun _ _ _ h => h) (Or.inl ⟨by rfl, ?_⟩) HSD.out ?_
          · intro W hSw
            clear hSw
            go_simp
            try rfl
          (try simp only [Act.put, List.setIfInBounds_toArray, List.set_cons_zero, List.set_cons_succ, List.getElem_toArray, List.getElem_cons_zero, List.getElem_cons_succ])
          refine wpAnyH_take (fuel := 25) (i := 9) (v := .pointer (some ⟨g, 3 + 8 * j + 2, none⟩)) rfl (by kernel_rfl) (by kernel_rfl) (by kernel_rfl) (fun _ _ _ h => h) (Or.inl ⟨by rfl, ?_⟩) HSD.out ?_
          · intro W hSw
            clear hSw
            go_simp
            try rfl
          (try simp only [Act.put, List.setIfInBounds_toArray, List.set_cons_zero, List.set_cons_succ, List.getElem_toArray, List.getElem_cons_zero, List.getElem_cons_succ])
          refine wpAnyH_take (fuel := 24) (i := 10) (v := .int .i64 x2) rfl (by kernel_rfl) (by kernel_rfl) (by kernel_rfl) (fun _ _ _ h => h) (Or.inl ⟨by rfl, ?_⟩) HSD.out ?_
          · intro W hSw
            have q2 := hSw.2.2.1; clear hSw
            go_simp
            try rfl
          (try simp only [Act.put, List.setIfInBounds_toArray, List.set_cons_zero, List.set_cons_succ, List.getElem_toArray, List.getElem_cons_zero, List.getElem_cons_succ])
          refine wpAnyH_take (fuel := 23) (i := 11) (v := .slice (some ⟨g, 3 + 8 * j, none⟩) nl (cap - (3 + 8 * j))) rfl (by kernel_rfl) (by kernel_rfl) (by kernel_rfl) (fun _ _ _ h => h) (Or.inl ⟨by rfl, ?_⟩) HSD.out ?_
          · intro W hSw
            clear hSw
            go_simp
            try rfl
          (try simp only [Act.put, List.setIfInBounds_toArray, List.set_cons_zero, List.set_cons_succ, List.getElem_toArray, List.getElem_cons_zero, List.getElem_cons_succ])
          refine wpAnyH_take (fuel := 22) (i := 12) (v := .pointer (some ⟨g, 3 + 8 * j + 3, none⟩)) rfl (by kernel_rfl) (by kernel_rfl) (by kernel_rfl) (fun _ _ _ h => h) (Or.inl ⟨by rfl, ?_⟩) HSD.out ?_
          · intro W hSw
            clear hSw
            go_simp
            try rfl
          (try simp only [Act.put, List.setIfInBounds_toArray, List.set_cons_zero, List.set_cons_succ, List.getElem_toArray, List.getElem_cons_zero, List.getElem_cons_succ])
          refine wpAnyH_take (fuel := 21) (i := 13) (v := .int .i64 x3) rfl (by kernel_rfl) (by kernel_rfl) (by kernel_rfl) (fun _ _ _ h => h) (Or.inl ⟨by rfl, ?_⟩) HSD.out ?_
          · intro W hSw
            have q3 := hSw.2.2.2.1; clear hSw
            go_simp
            try rfl
          (try simp only [Act.put, List.setIfInBounds_toArray, List.set_cons_zero, List.set_cons_succ, List.getElem_toArray, List.getElem_cons_zero, List.getElem_cons_succ])
          refine wpAnyH_take (fuel := 20) (i := 14) (v := .slice (some ⟨g, 3 + 8 * j, none⟩) nl (cap - (3 + 8 * j))) rfl (by kernel_rfl) (by kernel_rfl) (by kernel_rfl) (fun _ _ _ h => h) (Or.inl ⟨by rfl, ?_⟩) HSD.out ?_
          · intro W hSw
            clear hSw
            go_simp
            try rfl
          (try simp only [Act.put, List.setIfInBounds_toArray, List.set_cons_zero, List.set_cons_succ, List.getElem_toArray, List.getElem_cons_zero, List.getElem_cons_succ])
          refine wpAnyH_take (fuel := 19) (i := 15) (v := .pointer (some ⟨g, 3 + 8 * j + 4, none⟩)) rfl (by kernel_rfl) (by kernel_rfl) (by kernel_rfl) (fun _ _ _ h => h) (Or.inl ⟨by rfl, ?_⟩) HSD.out ?_
          · intro W hSw
            clear hSw
            go_simp
            try rfl
          (try simp only [Act.put, List.setIfInBounds_toArray, List.set_cons_zero, List.set_cons_succ, List.getElem_toArray, List.getElem_cons_zero, List.getElem_cons_succ])
          refine wpAnyH_take (fuel := 18) (i := 16) (v := .int .i64 x4) rfl (by kernel_rfl) (by kernel_rfl) (by kernel_rfl) (fun _ _ _ h => h) (Or.inl ⟨by rfl, ?_⟩) HSD.out ?_
          · intro W hSw
            have q4 := hSw.2.2.2.2.1; clear hSw
            go_simp
            try rfl
          (try simp only [Act.put, List.setIfInBounds_toArray, List.set_cons_zero, List.set_cons_succ, List.getElem_toArray, List.getElem_cons_zero, List.getElem_cons_succ])
          refine wpAnyH_take (fuel := 17) (i := 19) (v := .slice (some ⟨g, 3 + 8 * j, none⟩) nl (cap - (3 + 8 * j))) rfl (by kernel_rfl) (by kernel_rfl) (by kernel_rfl) (fun _ _ _ h => h) (Or.inl ⟨by rfl, ?_⟩) HSD.out ?_
          · intro W hSw
            clear hSw
            go_simp
            try rfl
          (try simp only [Act.put, List.setIfInBounds_toArray, List.set_cons_zero, List.set_cons_succ, List.getElem_toArray, List.getElem_cons_zero, List.getElem_cons_succ])
          refine wpAnyH_take (fuel := 16) (i := 20) (v := .pointer (some ⟨g, 3 + 8 * j + 5, none⟩)) rfl (by kernel_rfl) (by kernel_rfl) (by kernel_rfl) (fun _ _ _ h => h) (Or.inl ⟨by rfl, ?_⟩) HSD.out ?_
          · intro W hSw
            clear hSw
            go_simp
            try rfl
          (try simp only [Act.put, List.setIfInBounds_toArray, List.set_cons_zero, List.set_cons_succ, List.getElem_toArray, List.getElem_cons_zero, List.getElem_cons_succ])
          refine wpAnyH_take (fuel := 15) (i := 21) (v := .int .i64 x5) rfl (by kernel_rfl) (by kernel_rfl) (by kernel_rfl) (fun _ _ _ h => h) (Or.inl ⟨by rfl, ?_⟩) HSD.out ?_
          · intro W hSw
            have q5 := hSw.2.2.2.2.2.1; clear hSw
            go_simp
            try rfl
          (try simp only [Act.put, List.setIfInBounds_toArray, List.set_cons_zero, List.set_cons_succ, List.getElem_toArray, List.getElem_cons_zero, List.getElem_cons_succ])
          refine wpAnyH_take (fuel := 14) (i := 22) (v := .slice (some ⟨g, 3 + 8 * j, none⟩) nl (cap - (3 + 8 * j))) rfl (by kernel_rfl) (by kernel_rfl) (by kernel_rfl) (fun _ _ _ h => h) (Or.inl ⟨by rfl, ?_⟩) HSD.out ?_
          · intro W hSw
            clear hSw
            go_simp
            try rfl
          (try simp only [Act.put, List.setIfInBounds_toArray, List.set_cons_zero, List.set_cons_succ, List.getElem_toArray, List.getElem_cons_zero, List.getElem_cons_succ])
          refine wpAnyH_take (fuel := 13) (i := 23) (v := .pointer (some ⟨g, 3 + 8 * j + 6, none⟩)) rfl (by kernel_rfl) (by kernel_rfl) (by kernel_rfl) (fun _ _ _ h => h) (Or.inl ⟨by rfl, ?_⟩) HSD.out ?_
          · intro W hSw
            clear hSw
            go_simp
            try rfl
          (try simp only [Act.put, List.setIfInBounds_toArray, List.set_cons_zero, List.set_cons_succ, List.getElem_toArray, List.getElem_cons_zero, List.getElem_cons_succ])
          refine wpAnyH_take (fuel := 12) (i := 24) (v := .int .i64 x6) rfl (by kernel_rfl) (by kernel_rfl) (by kernel_rfl) (fun _ _ _ h => h) (Or.inl ⟨by rfl, ?_⟩) HSD.out ?_
          · intro W hSw
            have q6 := hSw.2.2.2.2.2.2.1; clear hSw
            go_simp
            try rfl
          (try simp only [Act.put, List.setIfInBounds_toArray, List.set_cons_zero, List.set_cons_succ, List.getElem_toArray, List.getElem_cons_zero, List.getElem_cons_succ])
          refine wpAnyH_take (fuel := 11) (i := 25) (v := .slice (some ⟨g, 3 + 8 * j, none⟩) nl (cap - (3 + 8 * j))) rfl (by kernel_rfl) (by kernel_rfl) (by kernel_rfl) (fun _ _ _ h => h) (Or.inl ⟨by rfl, ?_⟩) HSD.out ?_
          · intro W hSw
            clear hSw
            go_simp
            try rfl
          (try simp only [Act.put, List.setIfInBounds_toArray, List.set_cons_zero, List.set_cons_succ, List.getElem_toArray, List.getElem_cons_zero, List.getElem_cons_succ])
          refine wpAnyH_take (fuel := 10) (i := 26) (v := .pointer (some ⟨g, 3 + 8 * j + 7, none⟩)) rfl (by kernel_rfl) (by kernel_rfl) (by kernel_rfl) (fun _ _ _ h => h) (Or.inl ⟨by rfl, ?_⟩) HSD.out ?_
          · intro W hSw
            clear hSw
            go_simp
            try rfl
          (try simp only [Act.put, List.setIfInBounds_toArray, List.set_cons_zero, List.set_cons_succ, List.getElem_toArray, List.getElem_cons_zero, List.getElem_cons_succ])
          refine wpAnyH_take (fuel := 9) (i := 27) (v := .int .i64 x7) rfl (by kernel_rfl) (by kernel_rfl) (by kernel_rfl) (fun _ _ _ h => h) (Or.inl ⟨by rfl, ?_⟩) HSD.out ?_
          · intro W hSw
            have q7 := hSw.2.2.2.2.2.2.2; clear hSw
            go_simp
            try rfl
          (try simp only [Act.put, List.setIfInBounds_toArray, List.set_cons_zero, List.set_cons_succ, List.getElem_toArray, List.getElem_cons_zero, List.getElem_cons_succ])
          refine wpAnyH_take (fuel := 8) (i := 17) (v := .agg #[.int .i64 x2, .int .i64 x3, .int .i64 x4]) rfl (by kernel_rfl) (by kernel_rfl) (by kernel_rfl) (fun _ _ _ h => h) (Or.inl ⟨by rfl, ?_⟩) HSD.out ?_
          · intro W hSw
            clear hSw
            go_simp
            try rfl
          (try simp only [Act.put, List.setIfInBounds_toArray, List.set_cons_zero, List.set_cons_succ, List.getElem_toArray, List.getElem_cons_zero, List.getElem_cons_succ])
          refine wpAnyH_take (fuel := 7) (i := 18) (v := .agg #[.int .i64 x1, .int .i64 x2, .int .i64 x3, .int .i64 x4]) rfl (by kernel_rfl) (by kernel_rfl) (by kernel_rfl) (fun _ _ _ h => h) (Or.inl ⟨by rfl, ?_⟩) HSD.out ?_
          · intro W hSw
            clear hSw
            go_simp
            try rfl
          (try simp only [Act.put, List.setIfInBounds_toArray, List.set_cons_zero, List.set_cons_succ, List.getElem_toArray, List.getElem_cons_zero, List.getElem_cons_succ])
          refine wpAnyH_take (fuel := 6) (i := 28) (v := .agg #[.int .i64 x5, .int .i64 x6, .int .i64 x7]) rfl (by kernel_rfl) (by kernel_rfl) (by kernel_rfl) (fun _ _ _ h => h) (Or.inl ⟨by rfl, ?_⟩) HSD.out ?_
          · intro W hSw
            clear hSw
            go_simp
            try rfl
          (try simp only [Act.put, List.setIfInBounds_toArray, List.set_cons_zero, List.set_cons_succ, List.getElem_toArray, List.getElem_cons_zero, List.getElem_cons_succ])
          refine wpAnyH_take (fuel := 5) (i := 29) (v := .agg #[.int .i64 x0, .int .i64 x1, .int .i64 x2, .int .i64 x3, .int .i64 x4, .int .i64 x5, .int .i64 x6, .int .i64 x7]) rfl (by kernel_rfl) (by kernel_rfl) (by kernel_rfl) (fun _ _ _ h => h) (Or.inl ⟨by rfl, ?_⟩) HSD.out ?_
          · intro W hSw
            clear hSw
            go_simp
            try rfl
          (try simp only [Act.put, List.setIfInBounds_toArray, List.set_cons_zero, List.set_cons_succ, List.getElem_toArray, List.getElem_cons_zero, List.getElem_cons_succ])
          refine wpAnyH_ready (fuel := 4) (rs := [1, 30]) (by kernel_rfl) (by simp) ?_
          refine AllReadyH.cons rfl (fun K hK => ?_) (AllReadyH.cons rfl (fun K hK => ?_) AllReadyH.nil)
          · go_simp
            refine hK.out _ _ HSD.out (fun _ => ?_)
            clear hK K
            refine wpAnyH_ready (fuel := 3) (rs := [30]) (by kernel_rfl) (by simp) ?_
            refine AllReadyH.cons rfl (fun K hK => ?_) AllReadyH.nil
            go_simp
            refine hK.out _ _ HSA.out (fun _ => ?_)
            clear hK K
            refine wpAnyH_ready (fuel := 2) (rs := [31]) (by kernel_rfl) (by simp) ?_
            refine AllReadyH.cons rfl (fun K hK => ?_) AllReadyH.nil
            refine step_of_run (by rfl) _ _ _ (by rfl) _ _ (by rfl) (by rfl) _ _ HRA.out ?_
            refine hK.out _ _ HS9.out (fun _ => ?_)
            clear hK K
            (try simp only [Act.put, List.setIfInBounds_toArray, List.set_cons_zero, List.set_cons_succ, List.getElem_toArray, List.getElem_cons_zero, List.getElem_cons_succ])
            refine wpAnyH_take (fuel := 1) (i := 32) (v := .pointer (some ⟨wd.heap.size, 1, none⟩)) rfl (by kernel_rfl) (by kernel_rfl) (by kernel_rfl) (fun _ _ _ h => h) (Or.inl ⟨by rfl, ?_⟩) HS9.out ?_
            · intro W hSw
              clear hSw
              go_simp
              try rfl
            (try simp only [Act.put, List.setIfInBounds_toArray, List.set_cons_zero, List.set_cons_succ, List.getElem_toArray, List.getElem_cons_zero, List.getElem_cons_succ])
            refine wpAnyH_ready (fuel := 0) (rs := [33]) (by kernel_rfl) (by simp) ?_
            refine AllReadyH.cons rfl (fun K hK => ?_) AllReadyH.nil
            go_simp
            refine hK.out _ _ HSF.out (fun _ => ?_)
            clear hK K
            refine wpAnyH_done (by kernel_rfl) ?_ _
            (try simp only [Act.put])
            go_wp2
            go_roundg (A - (j + 1))
            case measure => omega
            case rel => exact ⟨j + 1, _, by omega, by omega, by go_num, X⟩
          · go_simp
            refine hK.out _ _ HSA.out (fun _ => ?_)
            clear hK K
            refine wpAnyH_ready (fuel := 3) (rs := [1]) (by kernel_rfl) (by simp) ?_
            refine AllReadyH.cons rfl (fun K hK => ?_) AllReadyH.nil
            go_simp
            refine hK.out _ _ HSA.out (fun _ => ?_)
            clear hK K
            refine wpAnyH_ready (fuel := 2) (rs := [31]) (by kernel_rfl) (by simp) ?_
            refine AllReadyH.cons rfl (fun K hK => ?_) AllReadyH.nil
            refine step_of_run (by rfl) _ _ _ (by rfl) _ _ (by rfl) (by rfl) _ _ HRA.out ?_
            refine hK.out _ _ HS9.out (fun _ => ?_)
            clear hK K
            (try simp only [Act.put, List.setIfInBounds_toArray, List.set_cons_zero, List.set_cons_succ, List.getElem_toArray, List.getElem_cons_zero, List.getElem_cons_succ])
            refine wpAnyH_take (fuel := 1) (i := 32) (v := .pointer (some ⟨wd.heap.size, 1, none⟩)) rfl (by kernel_rfl) (by kernel_rfl) (by kernel_rfl) (fun _ _ _ h => h) (Or.inl ⟨by rfl, ?_⟩) HS9.out ?_
            · intro W hSw
              clear hSw
              go_simp
              try rfl
            (try simp only [Act.put, List.setIfInBounds_toArray, List.set_cons_zero, List.set_cons_succ, List.getElem_toArray, List.getElem_cons_zero, List.getElem_cons_succ])
            refine wpAnyH_ready (fuel := 0) (rs := [33]) (by kernel_rfl) (by simp) ?_
            refine AllReadyH.cons rfl (fun K hK => ?_) AllReadyH.nil
            go_simp
            refine hK.out _ _ HSF.out (fun _ => ?_)
            clear hK K
            refine wpAnyH_done (by kernel_rfl) ?_ _
            (try simp only [Act.put])
            go_wp2
            go_roundg (A - (j + 1))
            case measure => omega
            case rel => exact ⟨j + 1, _, by omega, by omega, by go_num, X⟩
          -- region 17 ends
        · have hltz : ¬ (j : Int) < (A : Int) := by omega
          obtain rfl : A = j := by omega
          clear hlt hj hgg
          go_wp2_with fail
          clear s1
          obtain ⟨S, HSS⟩ : ∃ S, Hid (staysP A (L.drop 3) = S) := ⟨_, rfl⟩
          rw [HSS.out] at M
          go_loopg [13] Bn (fun gg s13 wr => ∃ (j : Nat) (vj : Value), j ≤ Bn ∧ Bn - j ≤ gg ∧ s13 = .int .i64 j ∧ Hid (∀ q, q < j → ((L.drop (3 + 8 * A)).drop (2 * q)).getD 1 0 ≤ 1) ∧ Hid (FK wd wr last vs vj S (jobsP j (L.drop (3 + 8 * A)))))
          case atStart => exact ⟨0, _, Nat.zero_le _, by omega, rfl, fun q hq => absurd hq (Nat.not_lt_zero _), M⟩
          case round =>
            clear M
            obtain ⟨j, vj, hj, hgg, rfl, HFL, M⟩ := hrel
            have s1 := (M.out.below.cell (p := ⟨g, 0 + 1, none⟩) hgl).trans (HNU.out 1 (by have := HAB.out; omega))
            rw [HAa.out] at s1
            have s2 := (M.out.below.cell (p := ⟨g, 0 + 2, none⟩) hgl).trans (HNU.out 2 (by have := HAB.out; omega))
            rw [HBb.out] at s2
            simp only [Nat.zero_add] at s1 s2
            have i2 : (2 : Int) < (k : Int) := by have := HAB.out; omega
            have Z5 : Hid (Below w.heap.size w wr ∧ Blk wr w.heap.size #[.int .i64 0, .slice none 0 0, .slice none 0 0] 25) := ⟨B.next Z.out.1 M.out.below Z.out.1.size, Z.out.2.1.below M.out.below⟩
            by_cases hlt : j < Bn
            · have hltz : (j : Int) < (Bn : Int) := by omega
              have e8 : IntKind.i64.wrap (8 * (A : Int)) = 8 * (A : Int) := by have := HAB.out; rw [IntKind.wrap_i64]; omega
              have e38 : IntKind.i64.wrap (3 + 8 * (A : Int)) = 3 + 8 * (A : Int) := by have := HAB.out; rw [IntKind.wrap_i64]; omega
              have e2 : IntKind.i64.wrap (2 * (j : Int)) = 2 * (j : Int) := by have := HAB.out; rw [IntKind.wrap_i64]; omega
              have es : IntKind.i64.wrap (3 + 8 * (A : Int) + 2 * (j : Int)) = ((3 + 8 * A + 2 * j : Nat) : Int) := by have := HAB.out; rw [IntKind.wrap_i64]; omega
              have hnn := (HNU.out.below hgl M.out.below).drop (3 + 8 * A + 2 * j)
              rw [Nat.zero_add] at hnn
              have hll : (L.drop (3 + 8 * A + 2 * j)).length = k - (3 + 8 * A + 2 * j) := by rw [List.length_drop, hLl]
              have u0 := hnn 0 (by have := HAB.out; omega)
              have u1 := hnn 1 (by have := HAB.out; omega)
              rw [Nat.add_zero] at u0
              clear hnn hll
              have HJS : Hid (jobsP (j + 1) (L.drop (3 + 8 * A)) = jobsP j (L.drop (3 + 8 * A)) ++ [jobP (L.drop (3 + 8 * A + 2 * j))]) := by
                show _ = _
                rw [jobsP_succ, List.drop_drop]
              have HJL : Hid ((jobsP j (L.drop (3 + 8 * A))).length = j) := jobsP_len _ _
              have HJP : Hid (jobP (L.drop (3 + 8 * A + 2 * j)) = ⟨(L.drop (3 + 8 * A + 2 * j)).getD 0 0, decide ((L.drop (3 + 8 * A + 2 * j)).getD 1 0 = 1)⟩) := rfl
              have HDD : Hid ((L.drop (3 + 8 * A)).drop (2 * j) = L.drop (3 + 8 * A + 2 * j)) := by show _ = _; rw [List.drop_drop]
              have HBAD : Hid (1 < (L.drop (3 + 8 * A + 2 * j)).getD 1 0 → refP s.data.toList n = none) := fun h => by
                rw [HRQ.out]
                unfold refB
                rw [HAa.out, HBb.out]
                simp only [Int.toNat_natCast]
                rw [if_neg (by unfold countB; rw [HAa.out, HBb.out, hLl]; have := HAB.out; simp only [Bool.or_eq_true, decide_eq_true_eq]; omega), if_neg (by rw [flags_bad Bn j _ hlt (by rw [HDD.out]; exact h)]; decide)]
                rfl
              have HFN : Hid ((L.drop (3 + 8 * A + 2 * j)).getD 1 0 ≤ 1 → ∀ q, q < j + 1 → ((L.drop (3 + 8 * A)).drop (2 * q)).getD 1 0 ≤ 1) := fun h q hq => by
                by_cases hqj : q = j
                · subst hqj; rw [HDD.out]; exact h
                · exact HFL.out q (by omega)
              generalize jobsP j (L.drop (3 + 8 * A)) = J at *
              generalize (L.drop (3 + 8 * A + 2 * j)).getD 0 0 = x0 at *
              generalize (L.drop (3 + 8 * A + 2 * j)).getD 1 0 = x1 at *
              obtain ⟨nl, hnl⟩ : ∃ nl, k - (3 + 8 * A + 2 * j) = nl := ⟨_, rfl⟩
              have hnl2 : 2 ≤ nl := by have := HAB.out; omega
              have n0 : 0 < nl := by omega
              have n0' : (0 : Int) < (nl : Int) := by omega
              have n1' : (1 : Int) < (nl : Int) := by omega
              have hle1 : 3 + 8 * A + 2 * j ≤ k := by have := HAB.out; omega
              by_cases hx1 : 1 < x1
              · have hno := HBAD.out hx1
                have z2 := Z5.out.2.cell
                have fz2 := Z5.out.2.free
                have HF2 : Hid (PP (.returned (.tuple #[.agg #[.int .i64 0, .slice none 0 0, .slice none 0 0], .int .i64 4])) (((wr.setCell ⟨w.heap.size, 0, none⟩ (.int .i64 0)).setCell ⟨w.heap.size, 1, none⟩ (.slice none 0 0)).setCell ⟨w.heap.size, 2, none⟩ (.slice none 0 0))) := HNO.out hno _ (set3_below Z5.out.1 _ _ _)
                clear HNO HYES HRQ HLP HNU Z Z5 M HJS HJL HJP HDD HBAD HFN HFL
                go_wp2
                (try simp only [Exit.inBlock, Exit.then])
                refine bodyPost_ret (v := .tuple #[.agg #[.int .i64 0, .slice none 0 0, .slice none 0 0], .int .i64 4]) (by simp [results, Tryd.results10, go_sem, set3_0 z2, set3_1 z2, set3_2 z2]; try rfl) rfl ?_
                exact HF2.out
              have HFL2 : Hid (∀ q, q < j + 1 → ((L.drop (3 + 8 * A)).drop (2 * q)).getD 1 0 ≤ 1) := HFN.out (by omega)
              obtain ⟨q, hq⟩ : ∃ q, decide (x1 = 1) = q := ⟨_, rfl⟩
              have hq' : (x1 == 1) = q := by rw [← hq]; rfl
              rw [hq] at HJP
              have ra1 : wr.cell? ⟨wd.heap.size, 2, none⟩ = some vj := M.out.b1.cell 2
              have GE : Hid (∀ g, vj.ownBlock = some g → wd.heap.size + 1 ≤ g) := fun g e => (ownGe M.out.j g e).1
              have kl : J.length ≤ 1000 := by have := HJL.out; have := HAB.out; omega
              obtain ⟨iJ, hiJ, hzJ0, hzJ1, hzJ2⟩ := Tryd.infoJob
              have hlw : wd.heap.size < wr.heap.size := M.out.b1.lt
              obtain ⟨WA, hWA⟩ : ∃ WA, wr.drew.alloc (.cells #[.int .i64 x0, .bool q] 54) = WA := ⟨_, rfl⟩
              have FA : Hid (FK wd WA last vs vj S J ∧ wd.heap.size + 1 ≤ WA.heap.size) := by
                show _ ∧ _
                rw [← hWA]
                refine ⟨(M.out.next ((Below.refl _ wr).drew)).next (B.new1 _ _), ?_⟩
                have h3 : (wr.drew.alloc (.cells #[.int .i64 x0, .bool q] 54)).heap.size = wr.heap.size + 1 := by simp
                omega
              have hgw : g < wr.heap.size := Nat.lt_of_lt_of_le hgl M.out.below.size
              have ra2 : WA.cell? ⟨wd.heap.size, 2, none⟩ = some vj := FA.out.1.b1.cell 2
              obtain ⟨v9, w9, hrun, ho9, hg9⟩ := run_more (P := Tryd.prog) (T := 23) (e := 54) (i0 := iJ) (z := .agg #[.int .i64 0, .bool false]) (k := 2) (bytes := 16) (enc := Job.enc) job_len job_one 23 Tryd.underlying23 hiJ hzJ0 hzJ1 hzJ2 rfl (by decide) (by decide) vj J (wd.heap.size + 1) wr.heap.size ⟨x0, q⟩ WA FA.out.1.j kl (by rw [← hWA]; exact Blk.new1 rfl _ _) FA.out.2
              obtain ⟨a9, c9, hv9, _⟩ := ho9.rows
              subst hv9
              generalize hl9 : (J ++ [(⟨x0, q⟩ : Job)]).length = l9 at hrun
              rw [hl9] at ho9
              have HRA : Hid (AppRun Tryd.prog 23 23 vj (.slice (some ⟨wr.heap.size, 0, none⟩) 1 1) WA (.slice a9 l9 c9) w9) := hrun
              have ra9 : w9.cell? ⟨wd.heap.size, 2, none⟩ = some vj := (hg9.cell_far ⟨wd.heap.size, 2, none⟩ (FA.out.1.b1.lt) (fun e => by have := GE.out _ e.symm; simp only at this; omega)).trans (FA.out.1.b1.cell 2)
              have fa9 : w9.frozen? ⟨wd.heap.size, 2, none⟩ = false := (hg9.frozen_far ⟨wd.heap.size, 2, none⟩ (FA.out.1.b1.lt) (fun e => by have := GE.out _ e.symm; simp only at this; omega)).trans (FA.out.1.b1.free 2)
              have X : Hid (FK wd (w9.setCell ⟨wd.heap.size, 2, none⟩ (.slice a9 l9 c9)) last vs (.slice a9 l9 c9) S (J ++ [⟨x0, q⟩])) := FA.out.1.moreJ hg9 ho9
              have HSB : Hid (∀ W, Below wd.heap.size wd W → W.cell? ⟨g, 3 + 8 * A + 2 * j, none⟩ = some (.int .i64 x0) ∧ W.cell? ⟨g, 3 + 8 * A + 2 * j + 1, none⟩ = some (.int .i64 x1)) := fun W hb => by
                have e : ∀ o, W.cell? ⟨g, o, none⟩ = wr.cell? ⟨g, o, none⟩ := fun o => (hb.cell (p := ⟨g, o, none⟩) hgl).trans (M.out.below.cell (p := ⟨g, o, none⟩) hgl).symm
                exact ⟨(e _).trans u0, (e _).trans u1⟩
              have HSD := HSB.out wr.drew M.out.below.drew
              have HSA := HSB.out WA FA.out.1.below
              have HS9 := HSB.out w9 (grown_below' FA.out.1.below hg9 (fun n e => Nat.le_trans (by omega) (ownGe FA.out.1.j n e).1) FA.out.1.below.size)
              have HSF := HSB.out _ X.out.below
              have HSD : Hid _ := HSD
              have HSA : Hid _ := HSA
              have HS9 : Hid _ := HS9
              have HSF : Hid _ := HSF
              rw [← HJP.out, ← HJS.out] at X
              clear M HNO HYES HRQ HLP HNU Z Z5 HJS HJL HJP HDD HBAD HFN HFL hg9 ho9 hrun HSB hiJ hzJ0 hzJ1 hzJ2 hq
              go_wp2_with fail
              clear u0 u1 s1 s2
              -- region 24 (make/rbookofj.py)
              refine wp_region_held (S := fun W => W.cell? ⟨g, 3 + 8 * A + 2 * j, none⟩ = some (.int .i64 x0) ∧ W.cell? ⟨g, 3 + 8 * A + 2 * j + 1, none⟩ = some (.int .i64 x1)) (by kernel_rfl) ?_
              refine wpAnyH_take (fuel := 13) (i := 0) (v := .pointer (some ⟨wd.heap.size, 2, none⟩)) rfl (by kernel_rfl) (by kernel_rfl) (by kernel_rfl) (fun _ _ _ h => h) (Or.inl ⟨by rfl, ?_⟩) HSD.out ?_
              · intro W hSw
                clear hSw
                go_simp
                try rfl
              (try simp only [Act.put, List.setIfInBounds_toArray, List.set_cons_zero, List.set_cons_succ, List.getElem_toArray, List.getElem_cons_zero, List.getElem_cons_succ])
              refine wpAnyH_take (fuel := 12) (i := 2) (v := .slice (some ⟨g, 3 + 8 * A + 2 * j, none⟩) nl (cap - (3 + 8 * A + 2 * j))) rfl (by kernel_rfl) (by kernel_rfl) (by kernel_rfl) (fun _ _ _ h => h) (Or.inl ⟨by rfl, ?_⟩) HSD.out ?_
              · intro W hSw
                clear hSw
                go_simp
                try rfl
              (try simp only [Act.put, List.setIfInBounds_toArray, List.set_cons_zero, List.set_cons_succ, List.getElem_toArray, List.getElem_cons_zero, List.getElem_cons_succ])
              refine wpAnyH_take (fuel := 11) (i := 3) (v := .pointer (some ⟨g, 3 + 8 * A + 2 * j, none⟩)) rfl (by kernel_rfl) (by kernel_rfl) (by kernel_rfl) (fun _ _ _ h => h) (Or.inl ⟨by rfl, ?_⟩) HSD.out ?_
              · intro W hSw
                clear hSw
                go_simp
                try rfl
              (try simp only [Act.put, List.setIfInBounds_toArray, List.set_cons_zero, List.set_cons_succ, List.getElem_toArray, List.getElem_cons_zero, List.getElem_cons_succ])
              refine wpAnyH_take (fuel := 10) (i := 4) (v := .int .i64 x0) rfl (by kernel_rfl) (by kernel_rfl) (by kernel_rfl) (fun _ _ _ h => h) (Or.inl ⟨by rfl, ?_⟩) HSD.out ?_
              · intro W hSw
                have q0 := hSw.1; clear hSw
                go_simp
                try rfl
              (try simp only [Act.put, List.setIfInBounds_toArray, List.set_cons_zero, List.set_cons_succ, List.getElem_toArray, List.getElem_cons_zero, List.getElem_cons_succ])
              refine wpAnyH_take (fuel := 9) (i := 5) (v := .slice (some ⟨g, 3 + 8 * A + 2 * j, none⟩) nl (cap - (3 + 8 * A + 2 * j))) rfl (by kernel_rfl) (by kernel_rfl) (by kernel_rfl) (fun _ _ _ h => h) (Or.inl ⟨by rfl, ?_⟩) HSD.out ?_
              · intro W hSw
                clear hSw
                go_simp
                try rfl
              (try simp only [Act.put, List.setIfInBounds_toArray, List.set_cons_zero, List.set_cons_succ, List.getElem_toArray, List.getElem_cons_zero, List.getElem_cons_succ])
              refine wpAnyH_take (fuel := 8) (i := 6) (v := .pointer (some ⟨g, 3 + 8 * A + 2 * j + 1, none⟩)) rfl (by kernel_rfl) (by kernel_rfl) (by kernel_rfl) (fun _ _ _ h => h) (Or.inl ⟨by rfl, ?_⟩) HSD.out ?_
              · intro W hSw
                clear hSw
                go_simp
                try rfl
              (try simp only [Act.put, List.setIfInBounds_toArray, List.set_cons_zero, List.set_cons_succ, List.getElem_toArray, List.getElem_cons_zero, List.getElem_cons_succ])
              refine wpAnyH_take (fuel := 7) (i := 7) (v := .int .i64 x1) rfl (by kernel_rfl) (by kernel_rfl) (by kernel_rfl) (fun _ _ _ h => h) (Or.inl ⟨by rfl, ?_⟩) HSD.out ?_
              · intro W hSw
                have q1 := hSw.2; clear hSw
                go_simp
                try rfl
              (try simp only [Act.put, List.setIfInBounds_toArray, List.set_cons_zero, List.set_cons_succ, List.getElem_toArray, List.getElem_cons_zero, List.getElem_cons_succ])
              refine wpAnyH_take (fuel := 6) (i := 8) (v := .bool q) rfl (by kernel_rfl) (by kernel_rfl) (by kernel_rfl) (fun _ _ _ h => h) (Or.inl ⟨by rfl, ?_⟩) HSD.out ?_
              · intro W hSw
                clear hSw
                go_simp
                try rfl
              (try simp only [Act.put, List.setIfInBounds_toArray, List.set_cons_zero, List.set_cons_succ, List.getElem_toArray, List.getElem_cons_zero, List.getElem_cons_succ])
              refine wpAnyH_take (fuel := 5) (i := 9) (v := .agg #[.int .i64 x0, .bool q]) rfl (by kernel_rfl) (by kernel_rfl) (by kernel_rfl) (fun _ _ _ h => h) (Or.inl ⟨by rfl, ?_⟩) HSD.out ?_
              · intro W hSw
                clear hSw
                go_simp
                try rfl
              (try simp only [Act.put, List.setIfInBounds_toArray, List.set_cons_zero, List.set_cons_succ, List.getElem_toArray, List.getElem_cons_zero, List.getElem_cons_succ])
              refine wpAnyH_ready (fuel := 4) (rs := [1, 10]) (by kernel_rfl) (by simp) ?_
              refine AllReadyH.cons rfl (fun K hK => ?_) (AllReadyH.cons rfl (fun K hK => ?_) AllReadyH.nil)
              · go_simp
                refine hK.out _ _ HSD.out (fun _ => ?_)
                clear hK K
                refine wpAnyH_ready (fuel := 3) (rs := [10]) (by kernel_rfl) (by simp) ?_
                refine AllReadyH.cons rfl (fun K hK => ?_) AllReadyH.nil
                go_simp
                refine hK.out _ _ HSA.out (fun _ => ?_)
                clear hK K
                refine wpAnyH_ready (fuel := 2) (rs := [11]) (by kernel_rfl) (by simp) ?_
                refine AllReadyH.cons rfl (fun K hK => ?_) AllReadyH.nil
                refine step_of_run (by rfl) _ _ _ (by rfl) _ _ (by rfl) (by rfl) _ _ HRA.out ?_
                refine hK.out _ _ HS9.out (fun _ => ?_)
                clear hK K
                (try simp only [Act.put, List.setIfInBounds_toArray, List.set_cons_zero, List.set_cons_succ, List.getElem_toArray, List.getElem_cons_zero, List.getElem_cons_succ])
                refine wpAnyH_take (fuel := 1) (i := 12) (v := .pointer (some ⟨wd.heap.size, 2, none⟩)) rfl (by kernel_rfl) (by kernel_rfl) (by kernel_rfl) (fun _ _ _ h => h) (Or.inl ⟨by rfl, ?_⟩) HS9.out ?_
                · intro W hSw
                  clear hSw
                  go_simp
                  try rfl
                (try simp only [Act.put, List.setIfInBounds_toArray, List.set_cons_zero, List.set_cons_succ, List.getElem_toArray, List.getElem_cons_zero, List.getElem_cons_succ])
                refine wpAnyH_ready (fuel := 0) (rs := [13]) (by kernel_rfl) (by simp) ?_
                refine AllReadyH.cons rfl (fun K hK => ?_) AllReadyH.nil
                go_simp
                refine hK.out _ _ HSF.out (fun _ => ?_)
                clear hK K
                refine wpAnyH_done (by kernel_rfl) ?_ _
                (try simp only [Act.put])
                go_wp2
                go_roundg (Bn - (j + 1))
                case measure => omega
                case rel => exact ⟨j + 1, _, by omega, by omega, by go_num, HFL2, X⟩
              · go_simp
                refine hK.out _ _ HSA.out (fun _ => ?_)
                clear hK K
                refine wpAnyH_ready (fuel := 3) (rs := [1]) (by kernel_rfl) (by simp) ?_
                refine AllReadyH.cons rfl (fun K hK => ?_) AllReadyH.nil
                go_simp
                refine hK.out _ _ HSA.out (fun _ => ?_)
                clear hK K
                refine wpAnyH_ready (fuel := 2) (rs := [11]) (by kernel_rfl) (by simp) ?_
                refine AllReadyH.cons rfl (fun K hK => ?_) AllReadyH.nil
                refine step_of_run (by rfl) _ _ _ (by rfl) _ _ (by rfl) (by rfl) _ _ HRA.out ?_
                refine hK.out _ _ HS9.out (fun _ => ?_)
                clear hK K
                (try simp only [Act.put, List.setIfInBounds_toArray, List.set_cons_zero, List.set_cons_succ, List.getElem_toArray, List.getElem_cons_zero, List.getElem_cons_succ])
                refine wpAnyH_take (fuel := 1) (i := 12) (v := .pointer (some ⟨wd.heap.size, 2, none⟩)) rfl (by kernel_rfl) (by kernel_rfl) (by kernel_rfl) (fun _ _ _ h => h) (Or.inl ⟨by rfl, ?_⟩) HS9.out ?_
                · intro W hSw
                  clear hSw
                  go_simp
                  try rfl
                (try simp only [Act.put, List.setIfInBounds_toArray, List.set_cons_zero, List.set_cons_succ, List.getElem_toArray, List.getElem_cons_zero, List.getElem_cons_succ])
                refine wpAnyH_ready (fuel := 0) (rs := [13]) (by kernel_rfl) (by simp) ?_
                refine AllReadyH.cons rfl (fun K hK => ?_) AllReadyH.nil
                go_simp
                refine hK.out _ _ HSF.out (fun _ => ?_)
                clear hK K
                refine wpAnyH_done (by kernel_rfl) ?_ _
                (try simp only [Act.put])
                go_wp2
                go_roundg (Bn - (j + 1))
                case measure => omega
                case rel => exact ⟨j + 1, _, by omega, by omega, by go_num, HFL2, X⟩
              -- region 24 ends
            · have hltz : ¬ (j : Int) < (Bn : Int) := by omega
              obtain rfl : Bn = j := by omega
              obtain ⟨J, HJ⟩ : ∃ J, Hid (jobsP Bn (L.drop (3 + 8 * A)) = J) := ⟨_, rfl⟩
              rw [HJ.out] at M
              have HREF : Hid (refP s.data.toList n = if bookN (PB.book ⟨last, S, J⟩) n = 0 then some ⟨last, S, J⟩ else none) := by
                show _ = _
                rw [HRQ.out]
                unfold refB
                rw [HAa.out, HBb.out, HLa.out]
                simp only [Int.toNat_natCast]
                rw [if_neg (by unfold countB; rw [HAa.out, HBb.out, hLl]; have := HAB.out; simp only [Bool.or_eq_true, decide_eq_true_eq]; omega), if_pos (flags_all Bn _ HFL.out), HSS.out, HJ.out]
                rfl
              obtain ⟨sa, sc, hvs, hrs⟩ := M.out.s.rows
              obtain ⟨ja, jc, hvj, hrj⟩ := M.out.j.rows
              subst hvs hvj
              have HBF : Hid (Calls Tryd.prog 6 #[.agg #[.int .i64 last, .slice sa S.length sc, .slice ja J.length jc], .int .i64 n] wr fun e w' => e = .returned (.int .i64 (bookN (PB.book ⟨last, S, J⟩) n)) ∧ Below wr.heap.size wr w') := by
                have := rbookFault_eq ⟨last, sa, sc, ja, jc, S, J⟩ n wr ⟨hrs, hrj⟩ n1 n4
                rw [bookN_pure] at this
                exact this
              have rb := M.out.b1.cell
              have hnn := bookN_nn' (PB.book ⟨last, S, J⟩) n
              clear HRQ HLP HNU Z HFL hrs hrj
              go_wp2_with fail
              refine HBF.out.mono ?_
              rintro e w5 ⟨rfl, b5⟩
              have Y : Hid (Below w.heap.size w w5 ∧ Blk w5 w.heap.size #[.int .i64 0, .slice none 0 0, .slice none 0 0] 25 ∧ FK wd w5 last (.slice sa S.length sc) (.slice ja J.length jc) S J) := ⟨B.next Z5.out.1 b5 Z5.out.1.size, Z5.out.2.below b5, M.out.next b5⟩
              clear b5 M Z5 HBF rb s1 s2
              have z2 := Y.out.2.1.cell
              have fz2 := Y.out.2.1.free
              have rb := Y.out.2.2.b1.cell
              by_cases hz : bookN (PB.book ⟨last, S, J⟩) n = 0
              · have HYY : Hid (refP s.data.toList n = some ⟨last, S, J⟩) := by show _ = _; rw [HREF.out, if_pos hz]
                rw [hz]
                have hlt0 : w.heap.size < wd.heap.size + 1 := by have := Y.out.1.size; have := Y.out.2.1.lt; have := Z6; omega
                have HFIN : Hid (PP (.returned (.tuple #[.agg #[.int .i64 last, .slice sa S.length sc, .slice ja J.length jc], .int .i64 0])) (((w5.setCell ⟨w.heap.size, 0, none⟩ (.int .i64 last)).setCell ⟨w.heap.size, 1, none⟩ (.slice sa S.length sc)).setCell ⟨w.heap.size, 2, none⟩ (.slice ja J.length jc))) := by
                  refine HYES.out ⟨last, S, J⟩ sa sc ja jc _ HYY.out ⟨?_, ?_⟩ (set3_below Y.out.1 _ _ _)
                  · have h1 := ownSet (ownSet (ownSet Y.out.2.2.s (b := w.heap.size) (o := 0) (.int .i64 last) hlt0) (b := w.heap.size) (o := 1) (.slice sa S.length sc) hlt0) (b := w.heap.size) (o := 2) (.slice ja J.length jc) hlt0
                    obtain ⟨a', c', e', hr'⟩ := h1.rows
                    cases e'
                    exact hr'
                  · have h1 := ownSet (ownSet (ownSet Y.out.2.2.j (b := w.heap.size) (o := 0) (.int .i64 last) hlt0) (b := w.heap.size) (o := 1) (.slice sa S.length sc) hlt0) (b := w.heap.size) (o := 2) (.slice ja J.length jc) hlt0
                    obtain ⟨a', c', e', hr'⟩ := h1.rows
                    cases e'
                    exact hr'
                clear HNO HYES HREF HYY Y hz hnn HSS HJ
                go_wp2
                (try simp only [Exit.inBlock, Exit.then])
                refine bodyPost_ret (v := .tuple #[.agg #[.int .i64 last, .slice sa S.length sc, .slice ja J.length jc], .int .i64 0]) (by simp [results, Tryd.results10, go_sem, set3_0 z2, set3_1 z2, set3_2 z2]; try rfl) rfl ?_
                exact HFIN.out
              · have HYY : refP s.data.toList n = none := by rw [HREF.out, if_neg hz]
                have hgt : 0 < bookN (PB.book ⟨last, S, J⟩) n := by omega
                have HF2 : Hid (PP (.returned (.tuple #[.agg #[.int .i64 0, .slice none 0 0, .slice none 0 0], .int .i64 4])) (((w5.setCell ⟨w.heap.size, 0, none⟩ (.int .i64 0)).setCell ⟨w.heap.size, 1, none⟩ (.slice none 0 0)).setCell ⟨w.heap.size, 2, none⟩ (.slice none 0 0))) := HNO.out HYY _ (set3_below Y.out.1 _ _ _)
                clear HNO HYES HREF HYY Y HSS HJ
                generalize bookN (PB.book ⟨last, S, J⟩) n = qn at *
                go_wp2
                (try simp only [Exit.inBlock, Exit.then])
                refine bodyPost_ret (v := .tuple #[.agg #[.int .i64 0, .slice none 0 0, .slice none 0 0], .int .i64 4]) (by simp [results, Tryd.results10, go_sem, set3_0 z2, set3_1 z2, set3_2 z2]; try rfl) rfl ?_
                exact HF2.out

end Tx
end Go.Proofs.YtkgicpialdhnhaaDoor
