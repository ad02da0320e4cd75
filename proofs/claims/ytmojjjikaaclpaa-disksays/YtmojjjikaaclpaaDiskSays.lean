/- DiskSays: any disk, any acts; the walk. -/
import Derived.Test.YtmojjjikaaclpaaDiskR
import Derived.Deep.CutRange
import Derived.Deep.CutBlock
import Derived.Deep.DeepCutAuto
import Derived.Deep.LoopGhost
namespace Go.Proofs.Ytmojjjikaaclpaa
open Go.Shelf Go.Lib Go.ChangeShapes Go.WideShapes Go.ChangeAt Go.RowKit
set_option maxRecDepth 100000
set_option linter.unusedSimpArgs false
set_option linter.unusedVariables false

namespace Dk
open Bk Ac
theorem now_spins : ((List.replicate 3 (strN 64)).set 1 (padS ⟨#[120, 121]⟩))[1]! = padS ⟨#[120, 121]⟩ := by
  rw [set_at _ 1 1 _ (by simp), if_pos rfl]
theorem pad_size (S : ByteArray) (h : S.size ≤ 64) : (padS S).size = 64 := by
  unfold padS
  rw [ByteArray.size_append, strN_size]
  omega

set_option maxHeartbeats 4000000 in
theorem spins_any (w : World) : Calls Try.prog 4 #[] w fun e w' => e = .returned (.bool true) ∧ Below w.heap.size w w' := by
  have HP : Hid (∀ w', Below w.heap.size w w' → (fun (e : Ending) (w' : World) => e = .returned (.bool true) ∧ Below w.heap.size w w') (.returned (.bool true)) w') := fun w' hb => ⟨rfl, hb⟩
  generalize (fun (e : Ending) (w' : World) => e = .returned (.bool true) ∧ Below w.heap.size w w') = PP at *
  have HN : Hid (Calls Try.prog 6 #[.int .i64 3] w fun e w' => e = .returned (.tuple #[.pointer (some ⟨w.heap.size + 1, 0, none⟩), .nilIface]) ∧ DiskAt w' w.heap.size (w.heap.size + 1) w.heap.size (List.replicate 3 secZ) 0 false 0 false ∧ Below w.heap.size w w') := diskNew_any 3 w (by decide) (by decide)
  have HQ : Hid (PR (List.replicate 3 secZ) 0 false 0 false (List.replicate 3 (strN 64)) (List.replicate 3 (strN 64)) [] (-1) 0) := PR.new 3 (by decide)
  have HL : Hid ((List.replicate 3 secZ).length = 3) := List.length_replicate
  generalize List.replicate 3 secZ = secs0 at *
  generalize hdb : w.heap.size + 1 = db at *
  generalize hB : w.heap.size = B1 at *
  go_enter Try.func4, Try.ntmps4
  go_wp2_with fail
  refine HN.out.mono ?_
  rintro e w1 ⟨rfl, hD, hb⟩
  have X1 : Hid (DiskAt w1 B1 db B1 secs0 0 false 0 false ∧ Below B1 w w1 ∧ B1 ≤ w1.heap.size) := ⟨hD, hb, by rw [← hB]; exact hb.size⟩
  have HW : Hid (Calls Try.prog 10 #[.pointer (some ⟨db, 0, none⟩), .int .i64 1, .string ⟨#[120, 121]⟩] w1 (WriteW B1 db B1 secs0 0 false 0 false 1 ⟨#[120, 121]⟩ w1)) := writeW_any B1 db B1 secs0 0 false 0 false 1 _ w1 X1.out.1 X1.out.2.2 (Or.inr rfl) (by decide) (by decide) (by decide) (fun i hi => by have := (HQ.out.wr i hi).1; simp only [List.length_nil] at this; omega) (by rw [HL.out]; decide) (by decide)
  clear hD hb HN hB hdb
  go_wp2_with fail
  refine HW.out.mono ?_
  rintro e w2 hw
  have HR : Hid (e = .returned .nilIface ∧ ∃ v', DFr B1 w1 w2 ∧ DiskAt w2 B1 db B1 (secs0.set 1 ⟨secs0[1]!.kept, v', moreW secs0[1]!.wr ⟨0, padF ⟨#[120, 121]⟩⟩⟩) ((0 + 1) % 64) false 0 false) := by
    rcases hw with ⟨h1, _⟩ | ⟨_, h1, _⟩ | ⟨_, _, h1, h2, v', h3⟩
    · rw [HL.out] at h1; exact absurd h1 (by decide)
    · exact absurd h1 (by decide)
    · exact ⟨h1, v', h2, h3⟩
  obtain ⟨rfl, v', hF, hD⟩ := HR.out
  have HQ2 : Hid (PR (secs0.set 1 ⟨secs0[1]!.kept, v', moreW secs0[1]!.wr ⟨0, padF ⟨#[120, 121]⟩⟩⟩) ((0 + 1) % 64) false 0 false (List.replicate 3 (strN 64)) ((List.replicate 3 (strN 64)).set 1 (padS ⟨#[120, 121]⟩)) ([] ++ [⟨((1 : Nat) : Int), padS ⟨#[120, 121]⟩⟩]) (-1) (0 + 1)) := HQ.out.write 1 (by rw [HL.out]; decide) ⟨#[120, 121]⟩ (by decide) v'
  have HL2 : Hid ((secs0.set 1 ⟨secs0[1]!.kept, v', moreW secs0[1]!.wr ⟨0, padF ⟨#[120, 121]⟩⟩⟩).length = 3) := by show _ = _; rw [List.length_set]; exact HL.out
  generalize secs0.set 1 ⟨secs0[1]!.kept, v', moreW secs0[1]!.wr ⟨0, padF ⟨#[120, 121]⟩⟩⟩ = secs2 at *
  generalize ((0 : Int) + 1) % 64 = bit2 at *
  generalize ([] : List Wt) ++ [⟨((1 : Nat) : Int), padS ⟨#[120, 121]⟩⟩] = wait2 at *
  have X2 : Hid (DiskAt w2 B1 db B1 secs2 bit2 false 0 false ∧ Below B1 w w2 ∧ B1 ≤ w2.heap.size) := ⟨hD, belowTrans X1.out.2.1 hF.b, Nat.le_trans X1.out.2.2 hF.b.size⟩
  clear hw HR hF hD X1 HW HQ HL
  have HFL : Hid (Calls Try.prog 14 #[.pointer (some ⟨db, 0, none⟩)] w2 (FlushG B1 db B1 secs2 bit2 false 0 false w2)) := flushG_any B1 db B1 secs2 bit2 false 0 false w2 X2.out.1 X2.out.2.2 (Or.inr rfl) (by decide) (fun i hi => by have := (HQ2.out.wr i hi).1; have := HQ2.out.wl; omega) (fun i hi => (HQ2.out.wr i hi).2) (by rw [HL2.out]; decide)
  go_wp2_with fail
  refine HFL.out.mono ?_
  rintro e w3 hf
  have HR : Hid (e = .returned .nilIface ∧ DFr B1 w2 w3 ∧ DiskAt w3 B1 db B1 (stl 18446744073709551615 secs2 secs2.length) 0 false 0 false) := by
    rcases hf with ⟨h1, _⟩ | ⟨_, h1, h2, h3⟩
    · exact absurd h1 (by decide)
    · exact ⟨h1, h2, h3⟩
  obtain ⟨rfl, hF, hD⟩ := HR.out
  have HQ3 : Hid (PR (stl 18446744073709551615 secs2 secs2.length) 0 false 0 false ((List.replicate 3 (strN 64)).set 1 (padS ⟨#[120, 121]⟩)) ((List.replicate 3 (strN 64)).set 1 (padS ⟨#[120, 121]⟩)) [] (-1) (0 + 1)) := HQ2.out.flush
  have HL3 : Hid ((stl 18446744073709551615 secs2 secs2.length).length = 3) := by show _ = _; rw [stl_len]; exact HL2.out
  generalize stl 18446744073709551615 secs2 secs2.length = secs3 at *
  have X3 : Hid (DiskAt w3 B1 db B1 secs3 0 false 0 false ∧ Below B1 w w3 ∧ B1 ≤ w3.heap.size) := ⟨hD, belowTrans X2.out.2.1 hF.b, Nat.le_trans X2.out.2.2 hF.b.size⟩
  clear hf HR hF hD X2 HFL HQ2 HL2
  have HRS : Hid (Calls Try.prog 17 #[.pointer (some ⟨db, 0, none⟩), .int .u64 0] w3 fun e w' => e = .returned (.tuple #[]) ∧ DiskAt w' B1 db B1 (stl 0 secs3 secs3.length) 0 false 0 false ∧ DFr B1 w3 w') := restart_any B1 db B1 secs3 0 false 0 false 0 w3 X3.out.1 X3.out.2.2 (fun i hi => by have := (HQ3.out.wr i hi).1; have := HQ3.out.wl; omega) (fun i hi => (HQ3.out.wr i hi).2) (by rw [HL3.out]; decide)
  go_wp2_with fail
  refine HRS.out.mono ?_
  rintro e w4 ⟨rfl, hD, hF⟩
  have HQ4 : Hid (PR (stl 0 secs3 secs3.length) 0 false 0 false ((List.replicate 3 (strN 64)).set 1 (padS ⟨#[120, 121]⟩)) ((List.replicate 3 (strN 64)).set 1 (padS ⟨#[120, 121]⟩)) [] (-1) (0 + 1)) := HQ3.out.restart 0
  have HL4 : Hid ((stl 0 secs3 secs3.length).length = 3) := by show _ = _; rw [stl_len]; exact HL3.out
  generalize stl 0 secs3 secs3.length = secs4 at *
  have X4 : Hid (DiskAt w4 B1 db B1 secs4 0 false 0 false ∧ Below B1 w w4 ∧ B1 ≤ w4.heap.size) := ⟨hD, belowTrans X3.out.2.1 hF.b, Nat.le_trans X3.out.2.2 hF.b.size⟩
  clear hF hD X3 HRS HQ3 HL3
  have HRD : Hid (Calls Try.prog 12 #[.pointer (some ⟨db, 0, none⟩), .int .i64 1] w4 fun e w' => e = .returned (.tuple #[.string (padS ⟨#[120, 121]⟩), .nilIface]) ∧ Below w4.heap.size w4 w') := by
    have := read_any B1 db B1 secs4 0 false 0 false 1 w4 X4.out.1 (fun i hi => by have := (HQ4.out.wr i hi).1; have := HQ4.out.wl; omega) (by rw [HL4.out]; decide)
    have hr := HQ4.out.read 1
    rw [hr.1, HL4.out] at this
    have e1 : rreadS ((List.replicate 3 (strN 64)).set 1 (padS ⟨#[120, 121]⟩)) false 1 = padS ⟨#[120, 121]⟩ := by
      unfold rreadS
      rw [if_neg (by decide), if_pos (by rw [List.length_set, List.length_replicate]; decide)]
      exact now_spins
    rw [e1] at this
    exact this
  have hsz := pad_size ⟨#[120, 121]⟩ (by decide)
  have hex : (((padS ⟨#[120, 121]⟩).extract 0 2).toList == [120, 121]) = true := by
    have : (padS ⟨#[120, 121]⟩).extract 0 2 = ⟨#[120, 121]⟩ := by
      apply ByteArray.ext
      unfold padS
      rw [ByteArray.data_extract, ByteArray.data_append]
      apply Array.ext'
      simp
    rw [this, ByteArray.toList_eq]
    rfl
  generalize padS ⟨#[120, 121]⟩ = T at *
  go_wp2_with fail
  refine HRD.out.mono ?_
  rintro e w5 ⟨rfl, b5⟩
  have X5 : Hid (DiskAt w5 B1 db B1 secs4 0 false 0 false ∧ Below B1 w w5) := ⟨X4.out.1.below b5, belowTrans X4.out.2.1 (belowUnder b5 X4.out.2.2)⟩
  have HSM : Hid (Calls Try.prog 8 #[.nilIface, .int .i64 0] w5 fun e w' => e = .returned (.bool true) ∧ w' = w5) := same_any 0 w5 (by decide)
  have HSC : Hid (Calls Try.prog 9 #[.pointer (some ⟨db, 0, none⟩)] w5 fun e w' => e = .returned (.int .i64 3) ∧ w' = w5) := by
    have := sectors_any B1 db B1 secs4 0 false 0 false w5 X5.out.1
    rw [HL4.out] at this
    exact this
  have HF := HP.out w5 X5.out.2
  clear X4 b5 HRD HP HQ4 HL4 X5
  go_wp2_with fail
  refine HSM.out.mono ?_
  rintro e w6 ⟨rfl, hw6⟩
  subst hw6
  go_wp2_with fail
  refine HSM.out.mono ?_
  rintro e w7 ⟨rfl, hw7⟩
  subst hw7
  go_wp2_with fail
  refine HSM.out.mono ?_
  rintro e w8 ⟨rfl, hw8⟩
  subst hw8
  go_wp2_with fail
  refine HSC.out.mono ?_
  rintro e w9 ⟨rfl, hw9⟩
  subst hw9
  go_wp2
  exact HF

theorem act_cells12 {w : World} {v : Value} {len : Nat} {f : Nat → ActC} (h : ActsAt w v len f) (h0 : 0 < len) : ∃ b off cap, v = .slice (some ⟨b, off, none⟩) len cap ∧ len ≤ cap ∧ cap ≤ maxLen ∧ ∀ wx, Below w.heap.size w wx → ∀ k, k < len → (∀ j, j < 12 → wx.cell? ⟨b, off + k * 12 + j, none⟩ = (f k).vals[j]?) ∧ (f k).Ok := by
  obtain ⟨a, cap, hv, hl, hm, hk, hc⟩ := h
  obtain ⟨b, off, ha, hlt, hcell⟩ := hc h0
  subst ha
  exact ⟨b, off, cap, hv, hl, hm, fun wx hb k hk' => ⟨fun j hj => (hb.cell (p := ⟨b, _, none⟩) hlt).trans (hcell k hk' j hj), hk k hk'⟩⟩

set_option maxHeartbeats 16000000 in
theorem diskSays_run (sn : Int) (v : Value) (len : Nat) (f : Nat → ActC) (w : World) (hs : ActsAt w v len f) :
    Calls Try.prog 3 #[.int .i64 sn, v] w fun e w' => e = .returned (.bool true) ∧ Below w.heap.size w w' := by
  have HP : Hid (∀ w', Below w.heap.size w w' → (fun (e : Ending) (w' : World) => e = .returned (.bool true) ∧ Below w.heap.size w w') (.returned (.bool true)) w') := fun w' hb => ⟨rfl, hb⟩
  generalize (fun (e : Ending) (w' : World) => e = .returned (.bool true) ∧ Below w.heap.size w w') = PP at *
  have HSA : Hid (∀ W, Below w.heap.size w W → ActsAt W v len f) := fun W hb => hs.below hb
  have HSP : Hid (Calls Try.prog 4 #[] w fun e w' => e = .returned (.bool true) ∧ Below w.heap.size w w') := spins_any w
  obtain ⟨a0, cap0, rfl⟩ : ∃ a0 cap0, v = .slice a0 len cap0 := by
    obtain ⟨a, c, h, _⟩ := hs
    exact ⟨a, c, h⟩
  clear hs
  go_enter Try.func3, Try.ntmps3
  go_wp2_with fail
  refine HSP.out.mono ?_
  rintro e w1 ⟨rfl, b1⟩
  have Y1 : Hid (Below w.heap.size w w1) := b1
  have HF1 := HP.out _ b1
  have HF1 : Hid (PP (.returned (.bool true)) w1) := HF1
  have HLA : Hid (Calls Try.prog 5 #[.slice a0 len cap0, .int .i64 80] w1 (LightPost len f 80 w1)) := light_any _ len f 80 w1 (HSA.out _ b1)
  clear b1 HSP
  go_wp2_with fail
  refine HLA.out.mono ?_
  rintro e w2 ⟨q, rfl, hq, hw2⟩
  subst hw2
  cases q
  · clear HLA HSA
    go_wp2
    exact HF1.out
  have h80 : len ≤ 80 := by have := (hq rfl).1; omega
  clear HLA hq
  by_cases hsn : sn < 1 ∨ 40 < sn
  · have HDN : Hid (Calls Try.prog 6 #[.int .i64 sn] w2 fun e w' => e = .returned (.tuple #[.pointer none, errV 1]) ∧ w' = w2) := diskNo_anyQ sn w2 hsn
    have HRN : Hid (Calls Try.prog 7 #[.int .i64 sn] w2 fun e w' => e = .returned (.tuple #[.pointer none, .int .i64 1]) ∧ w' = w2) := rdNo_any sn w2 hsn
    have HSM : Hid (Calls Try.prog 8 #[.iface 60 (.int .i64 1), .int .i64 1] w2 fun e w' => e = .returned (.bool true) ∧ w' = w2) := same_any 1 w2 (by decide)
    clear HSA
    rw [errV_ne (by decide)] at HDN
    go_wp2_with fail
    refine HDN.out.mono ?_
    rintro e w3 ⟨rfl, hw3⟩
    subst hw3
    go_wp2_with fail
    refine HRN.out.mono ?_
    rintro e w3 ⟨rfl, hw3⟩
    subst hw3
    go_wp2_with fail
    refine HSM.out.mono ?_
    rintro e w3 ⟨rfl, hw3⟩
    subst hw3
    go_wp2
    exact HF1.out
  obtain ⟨n, rfl⟩ : ∃ n : Nat, sn = (n : Int) := ⟨sn.toNat, by omega⟩
  have k1 : 1 ≤ n := by omega
  have k40 : n ≤ 40 := by omega
  clear hsn HF1
  have HDN : Hid (Calls Try.prog 6 #[.int .i64 n] w2 fun e w' => e = .returned (.tuple #[.pointer (some ⟨w2.heap.size + 1, 0, none⟩), .nilIface]) ∧ DiskAt w' w2.heap.size (w2.heap.size + 1) w2.heap.size (List.replicate n secZ) 0 false 0 false ∧ Below w2.heap.size w2 w') := diskNew_any n w2 k1 k40
  have HNB : Hid (w.heap.size ≤ w2.heap.size) := Y1.out.size
  obtain ⟨B1, hB1⟩ : ∃ B1, w2.heap.size = B1 := ⟨_, rfl⟩
  rw [hB1] at HDN HNB
  have HBW : Hid (B1 ≤ w2.heap.size) := by show _ ≤ _; omega
  generalize hdb : B1 + 1 = db at *
  clear hB1 hdb
  go_wp2_with fail
  refine HDN.out.mono ?_
  rintro e w3 ⟨rfl, hD, b3⟩
  have HRN : Hid (Calls Try.prog 7 #[.int .i64 n] w3 fun e w' => e = .returned (.tuple #[.pointer (some ⟨w3.heap.size, 0, none⟩), .int .i64 0]) ∧ RD w' w3.heap.size w3.heap.size (List.replicate n (strN 64)) (List.replicate n (strN 64)) [] (-1) false ∧ Below w3.heap.size w3 w') := rdnew_any n k1 k40 w3
  have X3 : Hid (DiskAt w3 B1 db B1 (List.replicate n secZ) 0 false 0 false ∧ Below w.heap.size w w3 ∧ B1 ≤ w3.heap.size) := ⟨hD, belowTrans Y1.out (belowUnder b3 HNB.out), Nat.le_trans HBW.out b3.size⟩
  clear hD b3 HDN Y1 HBW
  go_wp2_with fail
  refine HRN.out.mono ?_
  rintro e w4 ⟨rfl, hR, b4⟩
  have hNw3 : w.heap.size ≤ w3.heap.size := Nat.le_trans HNB.out X3.out.2.2
  have X4 : Hid (STx w4 w.heap.size B1 db B1 w3.heap.size w3.heap.size n 0 ∧ Below w.heap.size w w4) := ⟨⟨_, _, _, _, _, _, _, _, _, X3.out.1.below b4, hR, PR.new n k40, Nat.le_trans X3.out.2.2 b4.size, b4.size, HNB.out, hNw3, List.length_replicate⟩, belowTrans X3.out.2.1 (belowUnder b4 hNw3)⟩
  clear hR b4 HRN X3 hNw3
  generalize w3.heap.size = rb at *
  have HSC : Hid (Calls Try.prog 9 #[.pointer (some ⟨db, 0, none⟩)] w4 fun e w' => e = .returned (.int .i64 n) ∧ w' = w4) := by
    obtain ⟨secs, bit, armed, left, down, kept, now, wait, fuse, h⟩ := X4.out.1
    have := sectors_any B1 db B1 secs bit armed left down w4 h.p
    rw [h.len] at this
    exact this
  go_wp2_with fail
  refine HSC.out.mono ?_
  rintro e w5 ⟨rfl, hw5⟩
  subst hw5
  clear HSC
  go_wp2_with fail
  generalize hN : w.heap.size = N at *
  go_loopg [10] len (fun gg s10 wr => ∃ k : Nat, k ≤ len ∧ len - k ≤ gg ∧ s10 = .int .i64 k ∧ Hid (STx wr N B1 db B1 rb rb n k ∧ Below N w wr))
  case atStart => exact ⟨0, Nat.zero_le _, by omega, rfl, X4⟩
  case round =>
    clear X4
    obtain ⟨k, hk, hgg, rfl, M⟩ := hrel
    have hNwr : N ≤ wr.heap.size := by have := M.out.2.size; omega
    by_cases hlt : k < len
    · have hltz : (k : Int) < (len : Int) := by omega
      obtain ⟨bb, off, cap, hv, hl, hm, hc⟩ := act_cells12 (HSA.out wr M.out.2) (by omega)
      cases hv
      unfold maxLen at hm
      obtain ⟨hcell, hok⟩ := hc wr (Below.refl _ _) k hlt
      have c0 : wr.cell? ⟨bb, off + k * 12, none⟩ = some (.string (f k).kind) := hcell 0 (by decide)
      have c1 : wr.cell? ⟨bb, off + k * 12 + 1, none⟩ = some (.int .i64 (f k).a) := hcell 1 (by decide)
      have c2 : wr.cell? ⟨bb, off + k * 12 + 2, none⟩ = some (.int .i64 (f k).b) := hcell 2 (by decide)
      have c3 : wr.cell? ⟨bb, off + k * 12 + 3, none⟩ = some (.int .i64 (f k).c0) := hcell 3 (by decide)
      have c4 : wr.cell? ⟨bb, off + k * 12 + 4, none⟩ = some (.int .i64 (f k).c1) := hcell 4 (by decide)
      have c5 : wr.cell? ⟨bb, off + k * 12 + 5, none⟩ = some (.int .i64 (f k).c2) := hcell 5 (by decide)
      have c6 : wr.cell? ⟨bb, off + k * 12 + 6, none⟩ = some (.int .i64 (f k).c3) := hcell 6 (by decide)
      have c7 : wr.cell? ⟨bb, off + k * 12 + 7, none⟩ = some (.string (f k).s) := hcell 7 (by decide)
      have c8 : wr.cell? ⟨bb, off + k * 12 + 8, none⟩ = some (.int .u64 (f k).k) := hcell 8 (by decide)
      have c9 : wr.cell? ⟨bb, off + k * 12 + 9, none⟩ = some (.int .i64 (f k).last) := hcell 9 (by decide)
      have c10 : wr.cell? ⟨bb, off + k * 12 + 10, none⟩ = some (.slice (f k).sa (f k).sl (f k).sc) := hcell 10 (by decide)
      have c11 : wr.cell? ⟨bb, off + k * 12 + 11, none⟩ = some (.slice (f k).ja (f k).jl (f k).jc) := hcell 11 (by decide)
      have HSS : Hid ((f k).s.size ≤ maxLen) := hok.s
      have HAX : Hid ((f k).a ≤ 9223372036854775807) := by
        have := hok.a
        simp [Lit.wf, IntKind.min, IntKind.max, IntKind.signed, IntKind.bits] at this
        show _ ≤ _
        omega
      generalize f k = x at *
      obtain ⟨kind, a, b1, q0, q1, q2, q3, S, K, last, sa, sl, sc, ja, jl, jc⟩ := x
      simp only at c0 c1 c2 c3 c4 c5 c6 c7 c8 c9 c10 c11 HSS HAX
      obtain ⟨wa, hwa⟩ : ∃ wa, wr.alloc (.cells #[.string kind, .int .i64 a, .int .i64 b1, .int .i64 q0, .int .i64 q1, .int .i64 q2, .int .i64 q3, .string S, .int .u64 K, .int .i64 last, .slice sa sl sc, .slice ja jl jc] 45) = wa := ⟨_, rfl⟩
      have NA : Hid (STx wa N B1 db B1 rb rb n k ∧ Below N w wa ∧ Blk wa wr.heap.size #[.string kind, .int .i64 a, .int .i64 b1, .int .i64 q0, .int .i64 q1, .int .i64 q2, .int .i64 q3, .string S, .int .u64 K, .int .i64 last, .slice sa sl sc, .slice ja jl jc] 45 ∧ N ≤ wa.heap.size) := by
        show _ ∧ _ ∧ _ ∧ _
        rw [← hwa]
        exact ⟨M.out.1.below (B.new1 _ _), belowTrans M.out.2 (belowUnder (B.new1 _ _) hNwr), Blk.new _ _ _, by simp; omega⟩
      have ra := NA.out.2.2.1.cell
      clear hcell hok hc M
      have hk80 : k ≤ 80 := by omega
      go_upto_block 2 with fail
      clear c0 c1 c2 c3 c4 c5 c6 c7 c8 c9 c10 c11
      generalize wr.heap.size = ab at *
      go_cut [12] (fun s12 wx => s12 = .bool true ∧ Hid (STx wx N B1 db B1 rb rb n (k + 1) ∧ Below N w wx ∧ N ≤ wx.heap.size))
      case first =>
        have HCELL : Hid (∀ W, Fr N wa W → W.cell? ⟨ab, 0, none⟩ = some (.string kind) ∧ W.cell? ⟨ab, 1, none⟩ = some (.int .i64 a) ∧ W.cell? ⟨ab, 7, none⟩ = some (.string S) ∧ W.cell? ⟨ab, 8, none⟩ = some (.int .u64 K)) := fun W hf => ⟨(hf.act _ _ NA.out.2.2.1).cell 0, (hf.act _ _ NA.out.2.2.1).cell 1, (hf.act _ _ NA.out.2.2.1).cell 7, (hf.act _ _ NA.out.2.2.1).cell 8⟩
        cases ka : (kind.toList == [119, 114, 105, 116, 101])
        · cases kb : (kind.toList == [114, 101, 97, 100])
          · cases kc : (kind.toList == [102, 108, 117, 115, 104])
            · cases kd : (kind.toList == [97, 114, 109])
              · have HRS : Hid (Calls Try.prog 17 #[.pointer (some ⟨db, 0, none⟩), .int .u64 K] wa fun e w' => e = .returned (.tuple #[]) ∧ Fr N wa w' ∧
                  ∀ w3, Below w'.heap.size w' w3 → Calls Try.prog 18 #[.pointer (some ⟨rb, 0, none⟩), .int .u64 K] w3 fun e2 w2 => e2 = .returned (.tuple #[]) ∧ Fr N w3 w2 ∧ STx w2 N B1 db B1 rb rb n k) := restart_two NA.out.1 hk80 K
                go_wp2_with fail
                clear ra
                refine HRS.out.mono ?_
                rintro e w5 ⟨rfl, hF5, hR5⟩
                have F5 : Hid (Fr N wa w5) := hF5
                have r5 := (HCELL.out w5 hF5).2.2.2
                have R5 : Hid (Calls Try.prog 18 #[.pointer (some ⟨rb, 0, none⟩), .int .u64 K] w5 fun e2 w2 => e2 = .returned (.tuple #[]) ∧ Fr N w5 w2 ∧ STx w2 N B1 db B1 rb rb n k) := hR5 w5 (Below.refl _ _)
                clear hF5 hR5 HRS HCELL
                go_wp2_with fail
                refine R5.out.mono ?_
                rintro e w6 ⟨rfl, hF6, hX6⟩
                have X6 : Hid (STx w6 N B1 db B1 rb rb n (k + 1) ∧ Below N w w6 ∧ N ≤ w6.heap.size) := ⟨hX6.more (Nat.le_succ _), belowTrans NA.out.2.1 (F5.out.trans hF6).b, Nat.le_trans NA.out.2.2.2 (F5.out.trans hF6).b.size⟩
                clear hF6 hX6 R5
                go_wp2_with fail
                go_meet
                case rel => exact ⟨rfl, X6.out⟩
              · have HAR : Hid (Calls Try.prog 16 #[.pointer (some ⟨db, 0, none⟩), .int .i64 a] wa fun e w' => e = .returned (.tuple #[]) ∧ Fr N wa w' ∧ (∃ f, w'.cell? ⟨rb, 3, none⟩ = some (.int .i64 f)) ∧ w'.frozen? ⟨rb, 3, none⟩ = false ∧ Fr N w' (w'.setCell ⟨rb, 3, none⟩ (.int .i64 (max a (-1)))) ∧ STx (w'.setCell ⟨rb, 3, none⟩ (.int .i64 (max a (-1)))) N B1 db B1 rb rb n k) := arm_two NA.out.1 a HAX.out
                go_wp2_with fail
                clear ra
                refine HAR.out.mono ?_
                rintro e w5 ⟨rfl, hF5, ⟨fu, hc5⟩, hf5, hF6, hX6⟩
                have r5 := (HCELL.out w5 hF5).2.1
                have X6 : Hid (STx (w5.setCell ⟨rb, 3, none⟩ (.int .i64 (max a (-1)))) N B1 db B1 rb rb n (k + 1) ∧ Below N w (w5.setCell ⟨rb, 3, none⟩ (.int .i64 (max a (-1)))) ∧ N ≤ (w5.setCell ⟨rb, 3, none⟩ (.int .i64 (max a (-1)))).heap.size) := ⟨hX6.more (Nat.le_succ _), belowTrans NA.out.2.1 (hF5.trans hF6).b, Nat.le_trans NA.out.2.2.2 (hF5.trans hF6).b.size⟩
                clear hF5 hF6 hX6 HAR HCELL
                go_wp2_with fail
                go_meet
                case rel => exact ⟨rfl, X6.out⟩
            · have HFT : Hid (Calls Try.prog 14 #[.pointer (some ⟨db, 0, none⟩)] wa fun e w' => ∃ E1 : Int, 0 ≤ E1 ∧ e = .returned (errV E1) ∧ Fr N wa w' ∧
                Calls Try.prog 15 #[.pointer (some ⟨rb, 0, none⟩)] w' fun e2 w2 => e2 = .returned (.int .i64 E1) ∧ Fr N w' w2 ∧ STx w2 N B1 db B1 rb rb n k) := flush_two NA.out.1 hk80
              clear HCELL
              go_wp2_with fail
              clear ra
              refine HFT.out.mono ?_
              rintro e w5 ⟨E1, hE0, rfl, hF5, hR5⟩
              have F5 : Hid (Fr N wa w5) := hF5
              have R5 : Hid (Calls Try.prog 15 #[.pointer (some ⟨rb, 0, none⟩)] w5 fun e2 w2 => e2 = .returned (.int .i64 E1) ∧ Fr N w5 w2 ∧ STx w2 N B1 db B1 rb rb n k) := hR5
              have SM : Hid (∀ W, Calls Try.prog 8 #[errV E1, .int .i64 E1] W fun e w' => e = .returned (.bool true) ∧ w' = W) := fun W => same_any E1 W hE0
              generalize errV E1 = ev at *
              clear hF5 hR5 hE0 HFT
              go_wp2_with fail
              refine R5.out.mono ?_
              rintro e w6 ⟨rfl, hF6, hX6⟩
              have X6 : Hid (STx w6 N B1 db B1 rb rb n (k + 1) ∧ Below N w w6 ∧ N ≤ w6.heap.size) := ⟨hX6.more (Nat.le_succ _), belowTrans NA.out.2.1 (F5.out.trans hF6).b, Nat.le_trans NA.out.2.2.2 (F5.out.trans hF6).b.size⟩
              have SM6 : Hid (Calls Try.prog 8 #[ev, .int .i64 E1] w6 fun e w' => e = .returned (.bool true) ∧ w' = w6) := SM.out w6
              clear hF6 hX6 R5 SM
              go_wp2_with fail
              refine SM6.out.mono ?_
              rintro e w7 ⟨rfl, hw7⟩
              subst hw7
              go_wp2_with fail
              go_meet
              case rel => exact ⟨rfl, X6.out⟩
          · obtain ⟨RS, RE, hRE, hR1, hR2⟩ := read_two NA.out.1 hk80 a
            have HR1 : Hid (Calls Try.prog 12 #[.pointer (some ⟨db, 0, none⟩), .int .i64 a] wa fun e w' => e = .returned (.tuple #[.string RS, errV RE]) ∧ Below wa.heap.size wa w') := hR1
            have HR2 : Hid (∀ W, Below wa.heap.size wa W → Calls Try.prog 13 #[.pointer (some ⟨rb, 0, none⟩), .int .i64 a] W fun e w' => e = .returned (.tuple #[.string RS, .int .i64 RE]) ∧ w' = W) := hR2
            have SM : Hid (∀ W, Calls Try.prog 8 #[errV RE, .int .i64 RE] W fun e w' => e = .returned (.bool true) ∧ w' = W) := fun W => same_any RE W hRE
            have eS : (RS.toList == RS.toList) = true := by simp
            generalize errV RE = ev at *
            clear hR1 hR2
            go_wp2_with fail
            clear ra
            refine HR1.out.mono ?_
            rintro e w5 ⟨rfl, b5⟩
            have r5 := (NA.out.2.2.1.below b5).cell
            have HR5 : Hid (Calls Try.prog 13 #[.pointer (some ⟨rb, 0, none⟩), .int .i64 a] w5 fun e w' => e = .returned (.tuple #[.string RS, .int .i64 RE]) ∧ w' = w5) := HR2.out w5 b5
            have X5 : Hid (STx w5 N B1 db B1 rb rb n (k + 1) ∧ Below N w w5 ∧ N ≤ w5.heap.size) := ⟨(NA.out.1.below b5).more (Nat.le_succ _), belowTrans NA.out.2.1 (belowUnder b5 NA.out.2.2.2), Nat.le_trans NA.out.2.2.2 b5.size⟩
            clear b5 HR1 HR2 HCELL
            go_wp2_with fail
            refine HR5.out.mono ?_
            rintro e w6 ⟨rfl, hw6⟩
            subst hw6
            have SM6 : Hid (Calls Try.prog 8 #[ev, .int .i64 RE] w6 fun e w' => e = .returned (.bool true) ∧ w' = w6) := SM.out w6
            clear SM HR5
            go_wp2_with fail
            refine SM6.out.mono ?_
            rintro e w7 ⟨rfl, hw7⟩
            subst hw7
            go_wp2_with fail
            go_meet
            case rel => exact ⟨rfl, X5.out⟩
        · have F0 : Hid (Fr N wa wa.drew) := Fr.of_below (Below.refl _ wa).drew NA.out.2.2.2
          have HWT : Hid (Calls Try.prog 10 #[.pointer (some ⟨db, 0, none⟩), .int .i64 a, .string S] wa.drew fun e w' => ∃ E1 : Int, 0 ≤ E1 ∧ e = .returned (errV E1) ∧ Fr N wa.drew w' ∧
            Calls Try.prog 11 #[.pointer (some ⟨rb, 0, none⟩), .int .i64 a, .string S] w' fun e2 w2 => e2 = .returned (.int .i64 E1) ∧ Fr N w' w2 ∧ STx w2 N B1 db B1 rb rb n (k + 1)) := write_two (NA.out.1.below (Below.refl _ wa).drew) hk80 a S HSS.out
          have HS : Hid (∀ W, Fr N wa W → W.cell? ⟨ab, 1, none⟩ = some (.int .i64 a) ∧ W.cell? ⟨ab, 7, none⟩ = some (.string S)) := fun W hf => ⟨(HCELL.out W hf).2.1, (HCELL.out W hf).2.2.1⟩
          clear HCELL
          go_wp2_with fail
          go_region_held3 (fun W => W.cell? ⟨ab, 1, none⟩ = some (.int .i64 a) ∧ W.cell? ⟨ab, 7, none⟩ = some (.string S)) (first | with_reducible exact HS.out _ F0.out | with_reducible exact HS.out _ F6.out | with_reducible exact HS.out _ F5.out)
            (first
              | (go_at_call 10; refine HWT.out.mono ?_; rintro e w5 ⟨E1, hE0, rfl, hF5, hR5⟩; have F5 : Hid (Fr N wa w5) := F0.out.trans hF5; have R5 : Hid (Calls Try.prog 11 #[.pointer (some ⟨rb, 0, none⟩), .int .i64 a, .string S] w5 fun e2 w2 => e2 = .returned (.int .i64 E1) ∧ Fr N w5 w2 ∧ STx w2 N B1 db B1 rb rb n (k + 1)) := hR5; have SM : Hid (∀ W, Calls Try.prog 8 #[errV E1, .int .i64 E1] W fun e w' => e = .returned (.bool true) ∧ w' = W) := fun W => same_any E1 W hE0; clear hF5 hR5 hE0)
              | (go_at_call 11; refine R5.out.mono ?_; rintro e w6 ⟨rfl, hF6, hX6⟩; have F6 : Hid (Fr N wa w6) := F5.out.trans hF6; have X6 : Hid (STx w6 N B1 db B1 rb rb n (k + 1)) := hX6; clear hF6 hX6)
              | (go_at_call 8; refine (SM.out _).mono ?_; rintro e w7 ⟨rfl, hw7⟩; subst hw7))
          go_wp2_with fail
          go_meet
          case rel => exact ⟨rfl, X6.out, belowTrans NA.out.2.1 F6.out.b, Nat.le_trans NA.out.2.2.2 F6.out.b.size⟩
      case rest =>
        obtain ⟨rfl, M⟩ := hcut
        clear NA HSS HAX
        obtain ⟨q, hd, hc⟩ := down_two M.out.1
        have HDQ : Hid (∀ p : BelowW wc, Calls Try.prog 19 #[.pointer (some ⟨db, 0, none⟩)] p.wd fun e w' => e = .returned (.bool q) ∧ Below p.wd.heap.size p.wd w') := fun p => (hd p.wd p.hb).mono fun e w' h => ⟨h.1, by rw [h.2]; exact Below.refl _ _⟩
        have r4 : ∀ p : BelowW wc, p.wd.cell? ⟨rb, 4, none⟩ = some (.bool q) := fun p => hc p.wd p.hb
        clear hd hc
        cases q
        all_goals
          go_wp2_with fail
          refine wp_region_below (by kernel_rfl) (by kernel_rfl) ?_
          repeat (go_big_quiet_step (first | (go_at_call 19; with_reducible exact Calls.wof (HDQ.out _))))
          refine wpQuiet_nil ?_
          rintro wb ⟨⟨_, NQ⟩, rfl⟩
          have X : Hid (STx wb N B1 db B1 rb rb n (k + 1) ∧ Below N w wb) := ⟨M.out.1.below NQ, belowTrans M.out.2.1 (belowUnder NQ M.out.2.2)⟩
          clear M NQ HDQ r4
          go_wp2
          go_roundg (len - (k + 1))
          case measure => omega
          case rel => exact ⟨k + 1, by omega, by omega, by go_num, X⟩
    · have hltz : ¬ (k : Int) < (len : Int) := by omega
      obtain rfl : k = len := by omega
      clear HSA
      go_wp2_with fail
      have M2 : Hid (STx wr N B1 db B1 rb rb n k ∧ Below N w wr ∧ N ≤ wr.heap.size) := ⟨M.out.1, M.out.2, hNwr⟩
      clear M hNwr
      go_loopg [17] (n + 2) (fun gg s17 wr => ∃ j : Nat, j ≤ n + 2 ∧ n + 2 - j ≤ gg ∧ s17 = .int .i64 ((j : Int) - 1) ∧ Hid (STx wr N B1 db B1 rb rb n k ∧ Below N w wr ∧ N ≤ wr.heap.size))
      case atStart => exact ⟨0, Nat.zero_le _, by omega, rfl, M2⟩
      case round =>
        clear M2
        obtain ⟨j, hj, hgj, rfl, M⟩ := hrel
        by_cases hjl : j < n + 2
        · have hjz : (j : Int) - 1 ≤ (n : Int) := by omega
          obtain ⟨RS, RE, hRE, hR1, hR2⟩ := read_two M.out.1 h80 ((j : Int) - 1)
          have HR1 : Hid (Calls Try.prog 12 #[.pointer (some ⟨db, 0, none⟩), .int .i64 ((j : Int) - 1)] wr fun e w' => e = .returned (.tuple #[.string RS, errV RE]) ∧ Below wr.heap.size wr w') := hR1
          have HR2 : Hid (∀ W, Below wr.heap.size wr W → Calls Try.prog 13 #[.pointer (some ⟨rb, 0, none⟩), .int .i64 ((j : Int) - 1)] W fun e w' => e = .returned (.tuple #[.string RS, .int .i64 RE]) ∧ w' = W) := hR2
          have SM : Hid (∀ W, Calls Try.prog 8 #[errV RE, .int .i64 RE] W fun e w' => e = .returned (.bool true) ∧ w' = W) := fun W => same_any RE W hRE
          have eS : (RS.toList == RS.toList) = true := by simp
          have ew : IntKind.i64.wrap ((j : Int) - 1 + 1) = ((j + 1 : Nat) : Int) - 1 := by rw [IntKind.wrap_i64]; omega
          generalize errV RE = ev at *
          clear hR1 hR2
          go_wp2_with fail
          refine HR1.out.mono ?_
          rintro e w5 ⟨rfl, b5⟩
          have HR5 : Hid (Calls Try.prog 13 #[.pointer (some ⟨rb, 0, none⟩), .int .i64 ((j : Int) - 1)] w5 fun e w' => e = .returned (.tuple #[.string RS, .int .i64 RE]) ∧ w' = w5) := HR2.out w5 b5
          have X5 : Hid (STx w5 N B1 db B1 rb rb n k ∧ Below N w w5 ∧ N ≤ w5.heap.size) := ⟨M.out.1.below b5, belowTrans M.out.2.1 (belowUnder b5 M.out.2.2), Nat.le_trans M.out.2.2 b5.size⟩
          clear b5 HR1 HR2 M
          go_wp2_with fail
          refine HR5.out.mono ?_
          rintro e w6 ⟨rfl, hw6⟩
          subst hw6
          have SM6 : Hid (Calls Try.prog 8 #[ev, .int .i64 RE] w6 fun e w' => e = .returned (.bool true) ∧ w' = w6) := SM.out w6
          clear SM HR5
          go_wp2_with fail
          refine SM6.out.mono ?_
          rintro e w7 ⟨rfl, hw7⟩
          subst hw7
          go_wp2
          go_roundg (n + 2 - (j + 1))
          case measure => omega
          case rel => exact ⟨j + 1, by omega, by omega, congrArg (Value.int .i64) (by omega), X5⟩
        · have hjz : ¬ (j : Int) - 1 ≤ (n : Int) := by omega
          have HF := HP.out wr M.out.2.1
          clear M HP
          go_wp2
          exact HF

end Dk
end Go.Proofs.Ytmojjjikaaclpaa
