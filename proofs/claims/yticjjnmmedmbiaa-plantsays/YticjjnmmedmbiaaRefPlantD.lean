/- The document's machine: people come and leave; a new one (B1, B4); contracts for PlantSays. -/
import Derived.Test.YticjjnmmedmbiaaRefPlantC
namespace Go.Proofs.Yticjjnmmedmbiaa
open Go.ChangeShapes Go.WideShapes Go.ChangeAt Go.RowKit Go.Maps
set_option maxRecDepth 100000
set_option linter.unusedSimpArgs false
set_option linter.unusedVariables false

namespace Pl
open Ac
def walkN (k : Int) (s : St) : Int := if -9 ≤ k ∧ k ≤ 9 then (if s.op = true then 0 else 7) else 1
set_option maxHeartbeats 2000000 in
theorem rwalk_any (rb : Nat) (s : St) (k : Int) (w : World) (hr : IsR w rb s) (p0 : 0 ≤ s.pe) (p9 : s.pe ≤ 9) :
    Calls Try.prog 73 #[.pointer (some ⟨rb, 0, none⟩), .int .i64 k] w fun e w' => e = .returned (.int .i64 (walkN k s)) ∧ IsR w' rb (walkS k s) ∧ Turn rb rb w w' := by
  have c3 : w.cell? ⟨rb, 3, none⟩ = some (.bool s.op) := hr.cell 3
  have c4 : w.cell? ⟨rb, 4, none⟩ = some (.int .i64 s.pe) := hr.cell 4
  have f4 := hr.free 4
  have P : Hid (IsR w rb s) := hr
  by_cases hk : -9 ≤ k ∧ k ≤ 9
  · cases ho : s.op with
    | false =>
      have K : Hid (walkS k s = s) := by show _ = _; simp [walkS, ho]
      have K2 : Hid (walkN k s = 7) := by show _ = _; simp [walkN, ho, hk]
      rw [K.out, K2.out]
      rw [ho] at c3
      obtain ⟨k1, k2⟩ := hk
      generalize s.pe = pe at *
      clear hr ho K K2
      go_enter Try.func73, Try.ntmps73
      go_wp2
      all_goals first
        | (exfalso; go_light; omega)
        | (go_returns; exact ⟨rfl, P.out, Turn.refl _ _ _⟩)
    | true =>
      have HA : Hid (∀ w1 v, IsR w1 rb { s with pe := v } → ∀ v2, IsR (w1.setCell ⟨rb, 4, none⟩ (.int .i64 v2)) rb { s with pe := v2 }) := fun w1 v h v2 => h.set 4 _ rfl
      have K : Hid (walkS k s = { s with pe := min (max (s.pe + k) 0) 9 }) := by show _ = _; simp [walkS, ho, hk]
      have K2 : Hid (walkN k s = 0) := by show _ = _; simp [walkN, ho, hk]
      rw [K.out, K2.out]
      rw [ho] at c3
      obtain ⟨k1, k2⟩ := hk
      have P1 : Hid (IsR (w.setCell ⟨rb, 4, none⟩ (.int .i64 (s.pe + k))) rb { s with pe := s.pe + k }) := hr.set 4 _ rfl
      have m1 : IntKind.i64.wrap (s.pe + k) = s.pe + k := by rw [IntKind.wrap_i64]; omega
      generalize s.pe = pe at *
      clear hr ho K K2
      by_cases hneg : pe + k < 0
      · have P2 : Hid (IsR ((w.setCell ⟨rb, 4, none⟩ (.int .i64 (pe + k))).setCell ⟨rb, 4, none⟩ (.int .i64 0)) rb { s with pe := min (max (pe + k) 0) 9 }) := by
          rw [show min (max (pe + k) 0) 9 = 0 from by omega]
          exact HA.out _ _ P1.out 0
        generalize ({ s with pe := min (max (pe + k) 0) 9 } : St) = s2 at *
        clear HA P1
        go_enter Try.func73, Try.ntmps73
        go_wp2
        all_goals first
          | (exfalso; go_light; omega)
          | (go_returns; exact ⟨rfl, P2.out, (Turn.set _ _ _).trans (Turn.set _ _ _)⟩)
      · by_cases hbig : 9 < pe + k
        · have P2 : Hid (IsR ((w.setCell ⟨rb, 4, none⟩ (.int .i64 (pe + k))).setCell ⟨rb, 4, none⟩ (.int .i64 9)) rb { s with pe := min (max (pe + k) 0) 9 }) := by
            rw [show min (max (pe + k) 0) 9 = 9 from by omega]
            exact HA.out _ _ P1.out 9
          generalize ({ s with pe := min (max (pe + k) 0) 9 } : St) = s2 at *
          clear HA P1
          go_enter Try.func73, Try.ntmps73
          go_wp2
          all_goals first
            | (exfalso; go_light; omega)
            | (go_returns; exact ⟨rfl, P2.out, (Turn.set _ _ _).trans (Turn.set _ _ _)⟩)
        · have P2 : Hid (IsR (w.setCell ⟨rb, 4, none⟩ (.int .i64 (pe + k))) rb { s with pe := min (max (pe + k) 0) 9 }) := by
            rw [show min (max (pe + k) 0) 9 = pe + k from by omega]
            exact P1.out
          generalize ({ s with pe := min (max (pe + k) 0) 9 } : St) = s2 at *
          clear HA P1
          go_enter Try.func73, Try.ntmps73
          go_wp2
          all_goals first
            | (exfalso; go_light; omega)
            | (go_returns; exact ⟨rfl, P2.out, Turn.set _ _ _⟩)
  · have K : Hid (walkS k s = s) := by show _ = _; simp [walkS, hk]
    have K2 : Hid (walkN k s = 1) := by show _ = _; simp [walkN, hk]
    rw [K.out, K2.out]
    have HK : Hid (¬(-9 ≤ k ∧ k ≤ 9)) := hk
    clear hr hk K K2 c3 c4
    go_enter Try.func73, Try.ntmps73
    go_wp2
    all_goals first
      | (exfalso; go_light; have := HK.out; omega)
      | (go_returns; exact ⟨rfl, P.out, Turn.refl _ _ _⟩)

end Pl
end Go.Proofs.Yticjjnmmedmbiaa
