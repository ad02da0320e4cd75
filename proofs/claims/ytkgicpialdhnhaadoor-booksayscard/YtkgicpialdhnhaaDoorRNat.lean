/- Chapter 6: the document's reading of a text (2): a natural number. -/
import Derived.Test.YtkgicpialdhnhaaDoorRParseP
namespace Go.Proofs.YtkgicpialdhnhaaDoor
open Go.Shelf Go.ChangeShapes Go.WideShapes Go.ChangeAt Go.RowKit
set_option maxRecDepth 100000
set_option linter.unusedSimpArgs false
set_option linter.unusedVariables false

namespace Tx
open Bk
theorem dec_step {s : List UInt8} {k : Nat} (h : k < s.length) (m : Nat) (h1 : 48 ≤ (s[k]).toNat) (h2 : (s[k]).toNat ≤ 57) : Lib.decFrom m (s.drop k) = Lib.decFrom (m * 10 + ((s[k]).toNat - 48)) (s.drop (k + 1)) := by
  rw [List.drop_eq_getElem_cons h]
  conv => lhs; unfold Lib.decFrom
  have : Lib.digitVal s[k] = some ((s[k]).toNat - 48) := by
    unfold Lib.digitVal
    rw [if_pos ⟨h1, h2⟩]
  rw [this]
theorem dec_stop {s : List UInt8} {k : Nat} (h : k < s.length) (m : Nat) (h1 : ¬ (48 ≤ (s[k]).toNat ∧ (s[k]).toNat ≤ 57)) : Lib.decFrom m (s.drop k) = none := by
  rw [List.drop_eq_getElem_cons h]
  unfold Lib.decFrom
  have : Lib.digitVal s[k] = none := by
    unfold Lib.digitVal
    rw [if_neg h1]
  rw [this]
theorem pow9 {k : Nat} (h : k ≤ 9) : 10 ^ k ≤ 1000000000 := by
  have := Nat.pow_le_pow_right (n := 10) (by decide) h
  exact this

set_option maxHeartbeats 4000000 in
theorem rnatural_any (s : ByteArray) (w : World) (hs : s.size ≤ 1000) :
    Calls Tryd.prog 26 #[.string s, .int .i64 999999] w fun e w' => e = .returned (.int .i64 (natP s.data.toList)) ∧ w' = w := by
  obtain ⟨L, hL⟩ : ∃ L, s.data.toList = L := ⟨_, rfl⟩
  have hsz : s.size = L.length := by rw [← hL]; simp
  have HG : Hid (∀ (k : Nat) (h : k < s.size), s[k]'h = L[k]'(by omega)) := fun k h => by
    subst hL
    rfl
  rw [hL]
  have HM1 : Hid (natHead L = true → (fun (e : Ending) (w' : World) => e = .returned (.int .i64 (natP L)) ∧ w' = w) (.returned (.int .i64 (-1))) w) := fun h => ⟨by unfold natP; rw [if_pos h], rfl⟩
  have HM2 : Hid (natHead L = false → Lib.decFrom 0 L = none → (fun (e : Ending) (w' : World) => e = .returned (.int .i64 (natP L)) ∧ w' = w) (.returned (.int .i64 (-1))) w) := fun h h2 => ⟨by unfold natP; rw [if_neg (by rw [h]; decide), h2], rfl⟩
  have HM3 : Hid (∀ m, natHead L = false → Lib.decFrom 0 L = some m → ¬ m ≤ 999999 → (fun (e : Ending) (w' : World) => e = .returned (.int .i64 (natP L)) ∧ w' = w) (.returned (.int .i64 (-1))) w) := fun m h h2 h3 => ⟨by unfold natP; rw [if_neg (by rw [h]; decide), h2]; show _ = Ending.returned (.int .i64 (if m ≤ 999999 then (m : Int) else -1)); rw [if_neg h3], rfl⟩
  have HM4 : Hid (∀ m : Nat, natHead L = false → Lib.decFrom 0 L = some m → m ≤ 999999 → (fun (e : Ending) (w' : World) => e = .returned (.int .i64 (natP L)) ∧ w' = w) (.returned (.int .i64 (m : Int))) w) := fun m h h2 h3 => ⟨by unfold natP; rw [if_neg (by rw [h]; decide), h2]; show _ = Ending.returned (.int .i64 (if m ≤ 999999 then (m : Int) else -1)); rw [if_pos h3], rfl⟩
  generalize (fun (e : Ending) (w' : World) => e = .returned (.int .i64 (natP L)) ∧ w' = w) = PP at *
  have HNH : Hid (natHead L = (decide (L.length < 1) || (decide (9 < L.length) || (L.getD 0 0 == 48 && decide (1 < L.length))))) := rfl
  clear hL
  by_cases q1 : s.size < 1
  · have HF := HM1.out (by rw [HNH.out, decide_eq_true (show L.length < 1 by omega)]; rfl)
    have q1z : (s.size : Int) < 1 := by omega
    clear HM1 HM2 HM3 HM4 HNH HG
    go_enter Tryd.func26, Tryd.ntmps26
    go_wp2
    exact HF
  by_cases q2 : 9 < s.size
  · have HF := HM1.out (by rw [HNH.out, decide_eq_true (show 9 < L.length by omega)]; simp)
    have q1z : ¬ (s.size : Int) < 1 := by omega
    have q2z : (9 : Int) < (s.size : Int) := by omega
    clear HM1 HM2 HM3 HM4 HNH HG
    go_enter Tryd.func26, Tryd.ntmps26
    go_wp2
    exact HF
  have q1z : ¬ (s.size : Int) < 1 := by omega
  have q2z : ¬ (9 : Int) < (s.size : Int) := by omega
  have q0 : 0 < s.size := by omega
  have q0z : (0 : Int) < (s.size : Int) := by omega
  have HGD : Hid (L.getD 0 0 = s[0]'q0) := by
    show _ = _
    rw [HG.out 0 q0, List.getD_eq_getElem?_getD, List.getElem?_eq_getElem (by omega)]
    rfl
  by_cases q3 : s[0]'q0 = 48 ∧ 1 < s.size
  · have HF := HM1.out (by
      rw [HNH.out, HGD.out, q3.1]
      have := q3.2
      simp
      omega)
    have e1 : (((s[0]'q0).toNat : Int) == 48) = true := by rw [q3.1]; rfl
    have e2 : (1 : Int) < (s.size : Int) := by have := q3.2; omega
    clear HM1 HM2 HM3 HM4 HNH HG HGD q3
    go_enter Tryd.func26, Tryd.ntmps26
    go_wp2
    exact HF
  have HN : Hid (natHead L = false) := by
    show _ = _
    rw [HNH.out, HGD.out, Bool.or_eq_false_iff, Bool.or_eq_false_iff, Bool.and_eq_false_iff]
    refine ⟨decide_eq_false (by omega), decide_eq_false (by omega), ?_⟩
    by_cases h : s[0]'q0 = 48
    · right
      have : ¬ 1 < s.size := fun h2 => q3 ⟨h, h2⟩
      simp; omega
    · left
      exact beq_eq_false_iff_ne.2 h
  clear HM1 HNH
  have HLOOP : Hid ((((s[0]'q0).toNat : Int) == 48) = true ∧ ¬ (1 : Int) < (s.size : Int) ∨ (((s[0]'q0).toNat : Int) == 48) = false) := by
    by_cases h : s[0]'q0 = 48
    · left
      have : ¬ 1 < s.size := fun h2 => q3 ⟨h, h2⟩
      exact ⟨by rw [h]; rfl, by omega⟩
    · right
      refine beq_eq_false_iff_ne.2 fun e => h ?_
      apply UInt8.toNat_inj.1
      have : (48 : UInt8).toNat = 48 := rfl
      omega
  have hlen9 : s.size ≤ 9 := by omega
  clear q3 HGD
  rcases HLOOP.out with ⟨e1, e2⟩ | e1
  all_goals
    clear HLOOP
    go_enter Tryd.func26, Tryd.ntmps26
    go_wp2_with fail
    clear e1
    (try clear e2)
    go_loopg [5, 6] s.size (fun gg s5 s6 wr => ∃ k m : Nat, k ≤ s.size ∧ s.size - k ≤ gg ∧ s6 = .int .i64 k ∧ s5 = .int .i64 m ∧ wr = w ∧ Hid (Lib.decFrom 0 L = Lib.decFrom m (L.drop k) ∧ m < 10 ^ k))
    case atStart => exact ⟨0, 0, Nat.zero_le _, by omega, rfl, rfl, rfl, ⟨by simp, by decide⟩⟩
    case round =>
      obtain ⟨k, m, hk, hg, rfl, rfl, rfl, V⟩ := hrel
      have hp := pow9 (Nat.le_trans hk hlen9)
      have hm9 := V.out.2
      by_cases hlt : k < s.size
      · have hltz : (k : Int) < (s.size : Int) := by omega
        have hlL : k < L.length := by omega
        have HGK := HG.out k hlt
        have HST : Hid (48 ≤ (L[k]).toNat → (L[k]).toNat ≤ 57 → Lib.decFrom 0 L = Lib.decFrom (m * 10 + ((L[k]).toNat - 48)) (L.drop (k + 1)) ∧ m * 10 + ((L[k]).toNat - 48) < 10 ^ (k + 1)) := fun h1 h2 => ⟨by rw [V.out.1, dec_step hlL m h1 h2], by rw [Nat.pow_succ]; omega⟩
        have HSP : Hid (¬ (48 ≤ (L[k]).toNat ∧ (L[k]).toNat ≤ 57) → Lib.decFrom 0 L = none) := fun h1 => by rw [V.out.1]; exact dec_stop hlL m h1
        rw [← HGK] at HST HSP
        obtain ⟨c, hc⟩ : ∃ c, (s[k]'hlt).toNat = c := ⟨_, rfl⟩
        rw [hc] at HST HSP
        clear V HGK
        by_cases h1 : c < 48
        · have HF := HM2.out HN.out (HSP.out (by omega))
          have h1z : (((s[k]'hlt).toNat : Int)) < 48 := by omega
          clear HM2 HM3 HM4 HG HST HSP
          go_wp2
          exact HF
        by_cases h2 : 57 < c
        · have HF := HM2.out HN.out (HSP.out (by omega))
          have h1z : ¬ (((s[k]'hlt).toNat : Int)) < 48 := by omega
          have h2z : (57 : Int) < (((s[k]'hlt).toNat : Int)) := by omega
          clear HM2 HM3 HM4 HG HST HSP
          go_wp2
          exact HF
        have h1z : ¬ (((s[k]'hlt).toNat : Int)) < 48 := by omega
        have h2z : ¬ (57 : Int) < (((s[k]'hlt).toNat : Int)) := by omega
        have h3 := HST.out (by omega) (by omega)
        have V2 : Hid (Lib.decFrom 0 L = Lib.decFrom (m * 10 + (c - 48)) (L.drop (k + 1)) ∧ m * 10 + (c - 48) < 10 ^ (k + 1)) := h3
        have w1 : IntKind.i64.wrap (10 * (m : Int)) = 10 * (m : Int) := by rw [IntKind.wrap_i64]; omega
        have w2 : IntKind.u8.wrap (((s[k]'hlt).toNat : Int) - 48) = ((s[k]'hlt).toNat : Int) - 48 := by rw [IntKind.wrap_u8]; omega
        have w4 : IntKind.i64.wrap (((s[k]'hlt).toNat : Int) - 48) = ((s[k]'hlt).toNat : Int) - 48 := by rw [IntKind.wrap_i64]; omega
        have w3 : IntKind.i64.wrap (10 * (m : Int) + (((s[k]'hlt).toNat : Int) - 48)) = ((m * 10 + (c - 48) : Nat) : Int) := by rw [IntKind.wrap_i64]; omega
        clear HM2 HM3 HM4 HG HST HSP h3
        go_wp2
        go_roundg (s.size - (k + 1))
        case measure => omega
        case rel => exact ⟨k + 1, m * 10 + (c - 48), by omega, by omega, by go_num, congrArg (Value.int .i64) (by omega), rfl, V2⟩
      · have hltz : ¬ (k : Int) < (s.size : Int) := by omega
        have hke : k = s.size := by omega
        subst hke
        have hd := V.out.1
        rw [List.drop_of_length_le (by omega)] at hd
        have hd2 : Lib.decFrom 0 L = some m := hd
        by_cases h1 : m ≤ 999999
        · have HF := HM4.out m HN.out hd2 h1
          have h1z : ¬ (999999 : Int) < (m : Int) := by omega
          clear HM2 HM3 HM4 HG V hd hd2
          go_wp2
          exact HF
        · have HF := HM3.out m HN.out hd2 h1
          have h1z : (999999 : Int) < (m : Int) := by omega
          clear HM2 HM3 HM4 HG V hd hd2
          go_wp2
          exact HF

end Tx
end Go.Proofs.YtkgicpialdhnhaaDoor
