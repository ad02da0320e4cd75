/- Lists of numbers that the laws hold against each other: contracts of 'alike' and 'has'. -/
import Derived.Test.YticjjnmmedmbiaaCars
namespace Go.Proofs.Yticjjnmmedmbiaa
open Go.ChangeShapes Go.WideShapes Go.ChangeAt Go.RowKit Go.Maps
set_option maxRecDepth 100000
set_option linter.unusedSimpArgs false
set_option linter.unusedVariables false

namespace Pl
open Ac
/-- A list of numbers lies in memory. -/
def IntsAt (w : World) (v : Value) (l : List Int) : Prop :=
  ∃ (ad : Option Addr) (cap : Nat), v = .slice ad l.length cap ∧ l.length ≤ cap ∧ cap ≤ maxLen ∧
    (0 < l.length → ∃ b off, ad = some ⟨b, off, none⟩ ∧ b < w.heap.size ∧ ∀ i, i < l.length → w.cell? ⟨b, off + i, none⟩ = some (.int .i64 (l.getD i 0)))
theorem IntsAt.below {w w' : World} {v : Value} {l : List Int} (h : IntsAt w v l) (hb : Below w.heap.size w w') : IntsAt w' v l := by
  obtain ⟨ad, cap, hv, h1, h2, hc⟩ := h
  refine ⟨ad, cap, hv, h1, h2, fun h0 => ?_⟩
  obtain ⟨b, off, ha, hlt, hcell⟩ := hc h0
  exact ⟨b, off, ha, Nat.lt_of_lt_of_le hlt hb.size, fun i hi => (hb.cell (p := ⟨b, _, none⟩) hlt).trans (hcell i hi)⟩
theorem IntsOwn.at {w w' : World} {v : Value} {l : List Int} (h : IntsOwn w w' v l) : IntsAt w' v l := by
  rcases h.1.2 with ⟨rfl, h0⟩ | ⟨g, cap, cur, rfl, hg, r⟩
  · exact ⟨none, 0, by rw [h0], by omega, Nat.zero_le _, fun h => by omega⟩
  · have hlt := (h.1.lt g rfl).2
    refine ⟨some ⟨g, 0, none⟩, cap, rfl, ?_, ?_, fun h0 => ⟨g, 0, rfl, hlt, fun i hi => ?_⟩⟩
    · exact r.2.1
    · exact r.2.2.1
    · have := h.1.cells (g := g) rfl i (.int .i64 (l.getD i 0)) (by simp [ints, List.getD, List.getElem?_eq_getElem hi])
      have ad : (⟨g, 0, none⟩ : Addr).add i = ⟨g, 0 + i, none⟩ := by
        unfold Addr.add
        split
        · rename_i h; subst h; rfl
        · simp
      rw [ad] at this
      exact this

theorem count_take (l : List Int) (x : Int) (j : Nat) (hj : j < l.length) : (l.take (j + 1)).count x = (l.take j).count x + (if l.getD j 0 = x then 1 else 0) := by
  rw [List.take_add_one, List.getElem?_eq_getElem hj, List.count_append]
  have : l.getD j 0 = l[j] := by simp [List.getD, List.getElem?_eq_getElem hj]
  rw [this]
  simp [List.count_cons]

/-- How much oftener a number is in the first j of one list than of the other. -/
def more (a b : List Int) (x : Int) (j : Nat) : Int := ((a.take j).count x : Int) - ((b.take j).count x : Int)
theorem more_le (a b : List Int) (x : Int) (j : Nat) : -(j : Int) ≤ more a b x j ∧ more a b x j ≤ j := by
  have h1 := List.count_le_length (a := x) (l := a.take j)
  have h2 := List.count_le_length (a := x) (l := b.take j)
  rw [List.length_take] at h1 h2
  unfold more
  omega
theorem more_step (a b : List Int) (x : Int) (j : Nat) (ha : j < a.length) (hb : j < b.length) : more a b x (j + 1) = more a b x j + (if a.getD j 0 = x then 1 else 0) - (if b.getD j 0 = x then 1 else 0) := by
  unfold more
  rw [count_take a x j ha, count_take b x j hb]
  split <;> split <;> simp <;> omega
theorem more_all (a b : List Int) (x : Int) (h : ∀ x, a.count x = b.count x) (hl : a.length = b.length) : more a b x a.length = 0 := by
  unfold more
  rw [List.take_length, hl, List.take_length, h x]
  omega

set_option maxHeartbeats 4000000 in
theorem alike_any (va vb : Value) (a b : List Int) (w : World) (ha : IntsAt w va a) (hb : IntsAt w vb b) (hl : a.length = b.length) (h : ∀ x, a.count x = b.count x) (hs : a.length ≤ 1000) :
    Calls Try.prog 66 #[va, vb] w fun e w' => e = .returned (.bool true) ∧ Below w.heap.size w w' := by
  have HA : Hid (IntsAt w va a) := ha
  have HB : Hid (IntsAt w vb b) := hb
  have HM : Hid (∀ x, more a b x a.length = 0) := fun x => more_all a b x h hl
  obtain ⟨aa, ca, rfl, a1, a2, _⟩ := ha
  obtain ⟨ab, cb, rfl, b1, b2, _⟩ := hb
  have HT : Hid (∀ x j, j < a.length → more a b x (j + 1) = more a b x j + (if a.getD j 0 = x then 1 else 0) - (if b.getD j 0 = x then 1 else 0)) := fun x j hj => more_step a b x j hj (by omega)
  have HR : Hid (∀ (x : Int) (j : Nat), -(j : Int) ≤ more a b x j ∧ more a b x j ≤ j) := fun x j => more_le a b x j
  have H0 : Hid (∀ x, more a b x 0 = 0) := fun x => by show _ = _; simp [more]
  generalize more a b = M at HM HT HR H0
  rw [← hl] at b1 ⊢
  generalize hla : a.length = N at *
  have HLB : Hid (b.length = N) := hl.symm
  have HLA : Hid (a.length = N) := hla
  unfold maxLen at a2 b2
  clear hl h hla
  go_enter Try.func66, Try.ntmps66
  go_wp2_with fail
  go_loopw [5] (fun i wr => ∃ k : Nat, k ≤ N ∧ i = .int .i64 k ∧ Hid (Below w.heap.size w wr)) (fun i _ => N - (intOf i).toNat)
  case atStart => exact ⟨0, Nat.zero_le _, rfl, Below.refl _ _⟩
  case round =>
    obtain ⟨k, hk, rfl, PB⟩ := hrel
    by_cases hlt : k < N
    · obtain ⟨X, HX⟩ : ∃ X, Hid (a.getD k 0 = X) := ⟨_, rfl⟩
      have HK : Hid (k < N) := hlt
      go_wp2_with fail
      go_loopw [6, 7] (fun n i wx => ∃ j : Nat, j ≤ N ∧ i = .int .i64 j ∧ n = .int .i64 (M X j) ∧ Hid (Below w.heap.size w wx)) (fun _ i _ => N - (intOf i).toNat)
      case atStart => exact ⟨0, Nat.zero_le _, rfl, by rw [H0.out], PB⟩
      case round =>
        obtain ⟨j, hj, rfl, rfl, PX⟩ := hrel
        by_cases hltj : j < N
        · obtain ⟨ad1, cap1, e1, _, _, hc1⟩ := HA.out.below PX.out
          rw [HLA.out] at e1 hc1
          cases e1
          obtain ⟨ba, oa, rfl, hlta, hca⟩ := hc1 (by omega)
          have c1 := hca j hltj
          have c2 := hca k HK.out
          rw [HX.out] at c2
          obtain ⟨ad2, cap2, e2, _, _, hc2⟩ := HB.out.below PX.out
          rw [HLB.out] at e2 hc2
          cases e2
          obtain ⟨bb, ob, rfl, hltb, hcb⟩ := hc2 (by omega)
          have c3 := hcb j hltj
          have hstep := HT.out X j hltj
          have hr := HR.out X j
          generalize a.getD j 0 = Y at c1 hstep
          generalize b.getD j 0 = Z at c3 hstep
          generalize M X j = m at hstep hr ⊢
          have HS : Hid (M X (j + 1) = m + (if Y = X then 1 else 0) - (if Z = X then 1 else 0)) := hstep
          clear hca hcb hc1 hc2 hstep
          have w1 : IntKind.i64.wrap (m + 1) = m + 1 := by rw [IntKind.wrap_i64]; omega
          have w2 : IntKind.i64.wrap (m - 1) = m - 1 := by rw [IntKind.wrap_i64]; omega
          have w3 : IntKind.i64.wrap (m + 1 - 1) = m + 1 - 1 := by rw [IntKind.wrap_i64]; omega
          have W4 : Hid (wrap64 m = m) := by show _ = _; unfold wrap64; omega
          cases hy : (Y == X) <;> cases hz : (Z == X)
          all_goals
            have KY : Hid ((if Y = X then (1 : Int) else 0) = if (Y == X) = true then 1 else 0) := by show _ = _; simp
            have KZ : Hid ((if Z = X then (1 : Int) else 0) = if (Z == X) = true then 1 else 0) := by show _ = _; simp
            rw [KY.out, KZ.out, hy, hz] at HS
            clear KY KZ hr
            go_wp2_with fail
            go_region
            all_goals go_wp2_with fail
            all_goals go_region
            all_goals go_wp2
            all_goals go_roundw
            all_goals first
              | exact ⟨j + 1, by omega, by go_num, by rw [HS.out]; (first | (simp; done) | (simp; exact W4.out) | (simp; omega)), PX.out.drew.drew⟩
              | (simp [intOf]; omega)
        · have hjN : j = N := by omega
          subst hjN
          rw [HM.out X]
          go_wp2
          go_roundw
          case rel => exact ⟨k + 1, by omega, by go_num, PX⟩
          case measure => simp [intOf]; omega
    · go_wp2
      go_returns
      exact ⟨rfl, PB.out⟩

theorem contains_take (l : List Int) (x : Int) (j : Nat) (hj : j < l.length) : (l.take (j + 1)).contains x = ((l.take j).contains x || (l.getD j 0 == x)) := by
  have h1 : l.getD j 0 = l[j] := by simp [List.getD, List.getElem?_eq_getElem hj]
  rw [List.take_add_one, List.getElem?_eq_getElem hj, h1, Bool.eq_iff_iff, List.contains_iff_mem, Bool.or_eq_true, List.contains_iff_mem, beq_iff_eq, List.mem_append]
  exact ⟨fun h => h.elim Or.inl (fun h => Or.inr (List.mem_singleton.1 h).symm), fun h => h.elim Or.inl (fun h => Or.inr (List.mem_singleton.2 h.symm))⟩

set_option maxHeartbeats 4000000 in
theorem hasL_any (v : Value) (l : List Int) (x : Int) (w : World) (hv : IntsAt w v l) :
    Calls Try.prog 64 #[v, .int .i64 x] w fun e w' => e = .returned (.bool (l.contains x)) ∧ Below w.heap.size w w' := by
  have HV : Hid (IntsAt w v l) := hv
  obtain ⟨ad, cap, rfl, a1, a2, _⟩ := hv
  have HT : Hid (∀ j, j < l.length → (l.take (j + 1)).contains x = ((l.take j).contains x || (l.getD j 0 == x))) := fun j hj => contains_take l x j hj
  have HE : Hid (l.contains x = (l.take l.length).contains x) := by show _ = _; rw [List.take_length]
  have HM : Hid (∀ j, j < l.length → l.getD j 0 = x → l.contains x = true) := fun j hj e => by
    have h1 : l.getD j 0 = l[j] := by simp [List.getD, List.getElem?_eq_getElem hj]
    rw [h1] at e
    rw [List.contains_iff_mem, ← e]
    exact List.getElem_mem hj
  have H0 : Hid ((l.take 0).contains x = false) := by show _ = _; simp
  generalize hN : l.length = N at *
  have HN : Hid (l.length = N) := hN
  unfold maxLen at a2
  clear hN
  generalize l.contains x = R at *
  go_enter Try.func64, Try.ntmps64
  go_wp2_with fail
  go_loopw [5] (fun i wr => ∃ k : Nat, k ≤ N ∧ i = .int .i64 k ∧ Hid ((l.take k).contains x = false) ∧ Hid (Below w.heap.size w wr)) (fun i _ => N - (intOf i).toNat)
  case atStart => exact ⟨0, Nat.zero_le _, rfl, H0, Below.refl _ _⟩
  case round =>
    obtain ⟨k, hk, rfl, PC, PB⟩ := hrel
    by_cases hlt : k < N
    · obtain ⟨ad1, cap1, e1, _, _, hc1⟩ := HV.out.below PB.out
      rw [HN.out] at e1 hc1
      cases e1
      obtain ⟨b, off, rfl, hlb, hca⟩ := hc1 (by omega)
      have c1 := hca k hlt
      have hm := HM.out k hlt
      have ht := HT.out k hlt
      have HM1 : Hid (l.getD k 0 = x → R = true) := hm
      have HT1 : Hid ((l.take (k + 1)).contains x = ((l.take k).contains x || (l.getD k 0 == x))) := ht
      clear hca hc1 hm ht
      generalize l.getD k 0 = Y at *
      cases hy : (Y == x)
      · have HY : Hid ((Y == x) = false) := hy
        go_wp2
        go_roundw
        case rel => exact ⟨k + 1, by omega, by go_num, by show _ = _; rw [HT1.out, PC.out, HY.out]; rfl, PB⟩
        case measure => simp [intOf]; omega
      · have HY : Hid (R = true) := HM1.out (by simpa using hy)
        go_wp2
        go_returns
        exact ⟨B.ret_bool HY.out.symm, PB.out⟩
    · have hkN : k = N := by omega
      subst hkN
      rw [PC.out] at HE
      go_wp2
      go_returns
      exact ⟨B.ret_bool HE.out.symm, PB.out⟩

end Pl
end Go.Proofs.Yticjjnmmedmbiaa
