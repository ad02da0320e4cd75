/- Chapter 6: the document's text of a book (1): a number's text. -/
import Derived.Test.YtkgicpialdhnhaaDoorRParseP
namespace Go.Proofs.YtkgicpialdhnhaaDoor
open Go.Shelf Go.ChangeShapes Go.WideShapes Go.ChangeAt Go.RowKit
set_option maxRecDepth 100000
set_option linter.unusedSimpArgs false
set_option linter.unusedVariables false

namespace Tx
open Bk
theorem conv_one {W : World} {b : Nat} {x : Int} {T : TypeId} (h : Blk W b #[.int .u8 x] T) : (convert 85 9 (.slice (some ⟨b, 0, none⟩) 1 1)).run Tryd.prog W = .ok (.string ⟨#[UInt8.ofNat x.toNat]⟩) W := by
  rw [run_convert_bytes_string W 85 9 5 _ _ _ (by kernel_rfl) (by kernel_rfl) (by kernel_rfl)]
  refine run_bytesToString W _ _ _ [x] ?_
  have := run_loadCells_list (P := Tryd.prog) W ⟨b, 0, none⟩ [.int .u8 x] (fun j v hv => by rw [Addr.add_mid, Nat.zero_add, h.cell]; simpa using hv)
  exact this
theorem dec_snoc {u : Nat} (h : ¬ u < 10) : (⟨(Lib.decDigits (u / 10)).toArray⟩ : ByteArray) ++ ⟨#[UInt8.ofNat (48 + u % 10)]⟩ = ⟨(Lib.decDigits u).toArray⟩ := by
  apply ByteArray.ext
  rw [ByteArray.data_append]
  conv => rhs; rw [Lib.decDigits, dif_neg h]
  simp
theorem dec_one {u : Nat} (h : u < 10) : (⟨#[UInt8.ofNat (48 + u)]⟩ : ByteArray) = ⟨(Lib.decDigits u).toArray⟩ := by
  rw [Lib.decDigits_one h]

set_option maxHeartbeats 2000000 in
theorem rdecimal_nat (u : Nat) : ∀ (w : World), u ≤ 999999999 → Calls Tryd.prog 29 #[.int .i64 (u : Int)] w fun e w' => e = .returned (.string ⟨(Lib.decDigits u).toArray⟩) ∧ Below w.heap.size w w' := by
  induction u using Nat.strongRecOn with
  | _ u ih0 =>
    intro w hu
    have IH : Hid (∀ m, m < u → ∀ (w : World), Calls Tryd.prog 29 #[.int .i64 (m : Int)] w fun e w' => e = .returned (.string ⟨(Lib.decDigits m).toArray⟩) ∧ Below w.heap.size w w') := fun m hm w => ih0 m hm w (by omega)
    clear ih0
    have HP : Hid (∀ w', Below w.heap.size w w' → (fun (e : Ending) (w' : World) => e = .returned (.string ⟨(Lib.decDigits u).toArray⟩) ∧ Below w.heap.size w w') (.returned (.string ⟨(Lib.decDigits u).toArray⟩)) w') := fun w' hb => ⟨rfl, hb⟩
    generalize (fun (e : Ending) (w' : World) => e = .returned (.string ⟨(Lib.decDigits u).toArray⟩) ∧ Below w.heap.size w w') = PP at *
    have h0 : ¬ (u : Int) < 0 := by omega
    by_cases h10 : u < 10
    · have h10z : (u : Int) < 10 := by omega
      have e1 : IntKind.i64.wrap (48 + (u : Int)) = 48 + (u : Int) := by rw [IntKind.wrap_i64]; omega
      have e2 : IntKind.u8.wrap (48 + (u : Int)) = 48 + (u : Int) := by rw [IntKind.wrap_u8]; omega
      obtain ⟨wa, hwa⟩ : ∃ wa, w.alloc (.cells #[.int .u8 (48 + (u : Int))] 5) = wa := ⟨_, rfl⟩
      have HB : Hid (Blk wa w.heap.size #[.int .u8 (48 + (u : Int))] 5 ∧ Below w.heap.size w wa) := by
        show _ ∧ _
        rw [← hwa]
        exact ⟨Blk.new _ _ _, B.new1 _ _⟩
      have hc := conv_one HB.out.1
      have e3 : (48 + (u : Int)).toNat = 48 + u := by omega
      rw [e3, dec_one h10] at hc
      have HF : Hid (PP (.returned (.string ⟨(Lib.decDigits u).toArray⟩)) wa) := HP.out _ HB.out.2
      generalize (⟨(Lib.decDigits u).toArray⟩ : ByteArray) = S at *
      clear HP IH HB e3
      go_enter Tryd.func29, Tryd.ntmps29
      go_wp2
      exact HF.out
    · have h10z : ¬ (u : Int) < 10 := by omega
      have e1 : (u : Int).tdiv 10 = ((u / 10 : Nat) : Int) := by rw [Int.tdiv_eq_ediv_of_nonneg (by omega)]; omega
      have e2 : (u : Int).tmod 10 = ((u % 10 : Nat) : Int) := by rw [Int.tmod_eq_emod_of_nonneg (by omega)]; omega
      have e3 : IntKind.i64.wrap (48 + ((u % 10 : Nat) : Int)) = 48 + ((u % 10 : Nat) : Int) := by rw [IntKind.wrap_i64]; omega
      have e4 : IntKind.u8.wrap (48 + ((u % 10 : Nat) : Int)) = 48 + ((u % 10 : Nat) : Int) := by rw [IntKind.wrap_u8]; omega
      have e1w : IntKind.i64.wrap ((u / 10 : Nat) : Int) = ((u / 10 : Nat) : Int) := by rw [IntKind.wrap_i64]; omega
      have e1v : IntKind.i64.wrap ((u : Int).tdiv 10) = ((u / 10 : Nat) : Int) := by rw [e1, e1w]
      have e2w : IntKind.i64.wrap ((u % 10 : Nat) : Int) = ((u % 10 : Nat) : Int) := by rw [IntKind.wrap_i64]; omega
      have hm : u / 10 < u := by omega
      have HD : Hid (∀ W, Calls Tryd.prog 29 #[.int .i64 ((u / 10 : Nat) : Int)] W fun e w' => e = .returned (.string ⟨(Lib.decDigits (u / 10)).toArray⟩) ∧ Below W.heap.size W w') := fun W => IH.out _ hm W
      have HCV : Hid (∀ W b, Blk W b #[.int .u8 (48 + ((u % 10 : Nat) : Int))] 5 → (convert 85 9 (.slice (some ⟨b, 0, none⟩) 1 1)).run Tryd.prog W = .ok (.string ⟨#[UInt8.ofNat (48 + u % 10)]⟩) W) := fun W b h => by
        have := conv_one h
        rwa [show (48 + ((u % 10 : Nat) : Int)).toNat = 48 + u % 10 from by omega] at this
      have HSN := dec_snoc h10
      have hl1 : (⟨(Lib.decDigits (u / 10)).toArray⟩ : ByteArray).size ≤ 10 := by
        show (Lib.decDigits (u / 10)).toArray.size ≤ 10
        rw [List.size_toArray]
        have := digits_len 8 (u / 10) (by omega)
        omega
      have hl2 : (⟨#[UInt8.ofNat (48 + u % 10)]⟩ : ByteArray).size = 1 := rfl
      generalize (⟨#[UInt8.ofNat (48 + u % 10)]⟩ : ByteArray) = S2 at *
      generalize (⟨(Lib.decDigits (u / 10)).toArray⟩ : ByteArray) = S1 at *
      generalize (⟨(Lib.decDigits u).toArray⟩ : ByteArray) = S at *
      have hcat : ¬ S1.size + S2.size > 9223372036854775807 := by omega
      generalize ((u % 10 : Nat) : Int) = r at *
      generalize ((u / 10 : Nat) : Int) = q at *
      have hw1 : Hid (Below w.heap.size w w.drew) := (Below.refl _ w).drew
      have hb0 : Hid (Below w.heap.size w (w.alloc (.cells #[.int .u8 (48 + r)] 5)).drew) := (B.new1 w _).drew
      clear IH
      go_enter Tryd.func29, Tryd.ntmps29
      go_wp2_with fail
      have hbk0 : Blk ((w.alloc (.cells #[.int .u8 (48 + r)] 5)).drew) w.heap.size #[.int .u8 (48 + r)] 5 := Blk.new w _ _
      have hcv0 := HCV.out ((w.alloc (.cells #[.int .u8 (48 + r)] 5)).drew) w.heap.size hbk0
      go_region_with (go_at_call 29; refine (HD.out _).mono ?_; rintro e wx ⟨rfl, hbx⟩; have hcv1 := HCV.out (wx.alloc (.cells #[.int .u8 (48 + r)] 5)) wx.heap.size (Blk.new _ _ _); (try have hcv2 := HCV.out wx w.heap.size (hbk0.below hbx)))
      all_goals go_wp2
      all_goals go_returns
      all_goals first
        | exact HP.out _ ((B.next hw1.out hbx (Nat.le_refl _)).alloc (Nat.le_trans (Nat.le_refl _) hbx.size) _)
        | exact HP.out _ (B.next hb0.out hbx hb0.out.size)
theorem rdecimal_any (n : Int) (w : World) (h0 : 0 ≤ n) (h1 : n ≤ 999999999) : Calls Tryd.prog 29 #[.int .i64 n] w fun e w' => e = .returned (.string ⟨(Lib.itoa n).toArray⟩) ∧ Below w.heap.size w w' := by
  have := rdecimal_nat n.toNat w (by omega)
  rw [Int.toNat_of_nonneg h0] at this
  rw [itoa_pos h0]
  exact this

end Tx
end Go.Proofs.YtkgicpialdhnhaaDoor
