/- DiskM LedgerA LedgerB StoreA. -/
import Derived.Test.YtopgllmjeliklaaGreatDoorKtDiskI
import Derived.RangeFuncNested
import Derived.RangeFuncBound
import Derived.RangeFuncCalls
import Derived.RangeFuncLeaves
import Derived.RangeFuncBox
import Derived.Shelf.Abstract
import Derived.Shelf.RegionOpen
import Derived.OwnWalkIn
import Derived.TacticsInMore
import Derived.LoopNIn
import Derived.LoopIn
set_option maxRecDepth 100000
set_option linter.unusedSimpArgs false
set_option linter.unusedVariables false
namespace Go.Proofs.YtopgllmjeliklaaGreatDoor
open Go.Shelf Go.Lib Go.ChangeShapes Go.WideShapes Go.ChangeAt Go.RowKit
namespace Dk
open Bk
def FlushG (base db sb : Nat) (secs : List Sec) (bit : Int) (armed : Bool) (left : Int) (down : Bool) (w : World) (e : Ending) (w' : World) : Prop :=
 (downB armed left down = true ∧ e = .returned (errV 9) ∧ DFr base w w' ∧ DiskAt w' base db sb secs bit armed (leftN armed left down) true) ∨
 (downB armed left down = false ∧ e = .returned .nilIface ∧ DFr base w w' ∧ DiskAt w' base db sb (stl 18446744073709551615 secs secs.length) 0 armed (leftN armed left down) false)
set_option maxHeartbeats 2000000 in
theorem flushG_any (base db sb : Nat) (secs : List Sec) (bit : Int) (armed : Bool) (left : Int) (down : Bool) (w : World) (h : DiskAt w base db sb secs bit armed left down) (hbase : base ≤ w.heap.size) (hlo : 0 ≤ left ∨ armed = false) (hlh : left ≤ 9223372036854775807) (hl : ∀ i, i < secs.length → secs[i]!.wr.length ≤ 1000) (hbit : ∀ i, i < secs.length → ∀ y ∈ secs[i]!.wr, 0 ≤ y.bit ∧ y.bit < 64) (hn : secs.length ≤ 1000) :
  Calls Tryz.prog 127 #[.pointer (some ⟨db, 0, none⟩)] w (FlushG base db sb secs bit armed left down w) := by
 have HST : Hid (Calls Tryz.prog 150 #[.pointer (some ⟨db, 0, none⟩)] w fun e w' => e = .returned (errV (stepN armed left down)) ∧ DiskAt w' base db sb secs bit armed (leftN armed left down) (downB armed left down) ∧ DFr base w w') := step_any base db sb secs bit armed left down w h hbase hlo hlh
 have HSN : Hid (stepN armed left down = if downB armed left down = true then 9 else 0) := rfl
 have HD0 : Hid (downB armed left down = true → ∀ w', DFr base w w' → DiskAt w' base db sb secs bit armed (leftN armed left down) true → FlushG base db sb secs bit armed left down w (.returned (.iface 103 (.int .i64 9))) w') := fun e' w' h1 h2 => Or.inl ⟨e', rfl, h1, h2⟩
 have HG0 : Hid (downB armed left down = false → ∀ w', DFr base w w' → DiskAt w' base db sb (stl 18446744073709551615 secs secs.length) 0 armed (leftN armed left down) false → FlushG base db sb secs bit armed left down w (.returned .nilIface) w') := fun e' w' h1 h2 => Or.inr ⟨e', rfl, h1, h2⟩
 generalize FlushG base db sb secs bit armed left down w = PP at *
 have HSE : Hid (∀ left2 W, DiskAt W base db sb secs bit armed left2 false → base ≤ W.heap.size → Calls Tryz.prog 70 #[.pointer (some ⟨db, 0, none⟩), .int .u64 18446744073709551615] W fun e w' => e = .returned (.tuple #[]) ∧ DiskAt w' base db sb (stl 18446744073709551615 secs secs.length) 0 armed left2 false ∧ DFr base W w') := fun left2 W h hb => settle_any base db sb secs bit armed left2 false 18446744073709551615 W h hb hl hbit hn
 generalize leftN armed left down = left2 at *
 generalize downB armed left down = dn at *
 generalize stepN armed left down = sn at *
 clear h hlo hlh hl hbit
 go_enter Tryz.func127, Tryz.ntmps127
 go_wp2_with fail; refine HST.out.mono ?_; rintro e w10 ⟨rfl, hD10, hF10⟩; have XD : Hid (DiskAt w10 base db sb secs bit armed left2 dn ∧ DFr base w w10) := ⟨hD10, hF10⟩; clear hD10 hF10 HST
 cases dn
 case true =>
  obtain rfl : sn = 9 := HSN.out; have HF : Hid (PP (.returned (.iface 103 (.int .i64 9))) w10) := HD0.out rfl _ XD.out.2 XD.out.1; clear HD0 HG0 HSE; rw [show errV 9 = .iface 103 (.int .i64 9) from rfl]
  go_wp2; exact HF.out
 obtain rfl : sn = 0 := HSN.out; have HS2 : Hid (Calls Tryz.prog 70 #[.pointer (some ⟨db, 0, none⟩), .int .u64 18446744073709551615] w10 fun e w' => e = .returned (.tuple #[]) ∧ DiskAt w' base db sb (stl 18446744073709551615 secs secs.length) 0 armed left2 false ∧ DFr base w10 w') := HSE.out _ _ XD.out.1 (Nat.le_trans hbase XD.out.2.b.size)
 rw [errV0]; clear HSE HSN HD0; go_wp2_with fail; refine HS2.out.mono ?_; rintro e w2 ⟨rfl, hD, hF⟩; have HF : Hid (PP (.returned .nilIface) w2) := HG0.out (by simp) _ (XD.out.2.trans hF hbase) hD; clear hD hF HS2 HG0; go_wp2; exact HF.out
end Dk
theorem Tryz.xWS : Builder.Extra Tryz.prog Tryz.lWS_ren where
 sizeBuilder := by kernel_rfl
 liesBuilder := by kernel_rfl
 t5 := Tryz.underlying5
 a5 := Tryz.isAgg5
 z5 := Tryz.sizeOf5
 v5 := Tryz.zeroValue5
 infoByte := by kernel_rfl
 cellsByte := by kernel_rfl
 sizeByte := by kernel_rfl
 neB5 := by decide
theorem Tryz.xBStr : Builder.Extra Tryz.prog Tryz.lBStr_ren where
 sizeBuilder := by kernel_rfl
 liesBuilder := by kernel_rfl
 t5 := Tryz.underlying5
 a5 := Tryz.isAgg5
 z5 := Tryz.sizeOf5
 v5 := Tryz.zeroValue5
 infoByte := by kernel_rfl
 cellsByte := by kernel_rfl
 sizeByte := by kernel_rfl
 neB5 := by decide
namespace Lg
open Bk Dk Tx
def bareB (s : ByteArray) : ByteArray := ⟨(Lib.trimRightB s.data.toList 0).toArray⟩
def preB : ByteArray := ⟨#[99, 111, 97, 99, 104, 104, 111, 117, 115, 101, 32, 108, 101, 100, 103, 101, 114, 32]⟩
def nameB (k : Int) : ByteArray := preB ++ ⟨(Lib.itoa k).toArray⟩
set_option maxHeartbeats 1000000 in
theorem bare_any (s : ByteArray) (w : World) (hs : s.size ≤ 100000000) : Calls Tryz.prog 140 #[.string s] w fun e w' => e = .returned (.string (bareB s)) ∧ w' = w := by
 have HT : Hid (Calls Tryz.prog 155 #[.string s, .string ⟨#[0]⟩] w fun e w' => e = .returned (.string (bareB s)) ∧ w' = w) := Any.strings_TrimRight_one Tryz.lTrimR s 0 (by decide) w (by omega)
 generalize bareB s = T at *
 go_enter Tryz.func140, Tryz.ntmps140
 go_wp2_with fail; refine HT.out.mono ?_; rintro e w1 ⟨rfl, rfl⟩; go_wp2; go_returns; exact ⟨rfl, rfl⟩
set_option maxHeartbeats 1000000 in
theorem name_any (k : Int) (w : World) (h0 : 0 ≤ k) (h1 : k ≤ 9) (G : Glob w) : Calls Tryz.prog 128 #[.int .i64 k] w fun e w' => e = .returned (.string (nameB k)) ∧ Below w.heap.size w w' := by
 have HT : Hid (Calls Tryz.prog 129 #[.int .i64 k] w fun e w' => e = .returned (.string ⟨(Lib.itoa k).toArray⟩) ∧ Below w.heap.size w w') := itoa_any k w (by omega) (by omega) G
 have HN : Hid (∀ T : ByteArray, (⟨(Lib.itoa k).toArray⟩ : ByteArray) = T → nameB k = ⟨#[99, 111, 97, 99, 104, 104, 111, 117, 115, 101, 32, 108, 101, 100, 103, 101, 114, 32]⟩ ++ T) := fun T h => by rw [← h]; rfl
 generalize hPP : (fun (e : Ending) (w' : World) => e = .returned (.string (nameB k)) ∧ Below w.heap.size w w') = PP
 have HP : Hid (∀ w', Below w.heap.size w w' → PP (.returned (.string (nameB k))) w') := fun w' hb => by rw [← hPP]; exact ⟨rfl, hb⟩
 clear hPP
 have hts : (⟨(Lib.itoa k).toArray⟩ : ByteArray).size ≤ 21 := by
  show (Lib.itoa k).toArray.size ≤ 21
  rw [List.size_toArray]; unfold Lib.itoa; rw [if_neg (by omega), Lib.decDigits_one (by omega), List.length_singleton]
  omega
 generalize hT : (⟨(Lib.itoa k).toArray⟩ : ByteArray) = T at *
 have hle : ¬ (⟨#[99, 111, 97, 99, 104, 104, 111, 117, 115, 101, 32, 108, 101, 100, 103, 101, 114, 32]⟩ : ByteArray).size + T.size > 9223372036854775807 := by
  have : (⟨#[99, 111, 97, 99, 104, 104, 111, 117, 115, 101, 32, 108, 101, 100, 103, 101, 114, 32]⟩ : ByteArray).size = 18 := rfl
  omega
 have hle2 : ¬ 9223372036854775807 < 18 + T.size := by omega
 have hle3 : 18 + T.size ≤ 9223372036854775807 := by omega
 go_enter Tryz.func128, Tryz.ntmps128
 go_wp2_with fail; refine HT.out.mono ?_; rintro e w1 ⟨rfl, b1⟩
 have HF : Hid (PP (.returned (.string (⟨#[99, 111, 97, 99, 104, 104, 111, 117, 115, 101, 32, 108, 101, 100, 103, 101, 114, 32]⟩ ++ T))) w1) := by
  have := HP.out _ b1; rw [HN.out T rfl] at this; exact this
 clear b1 HP HT HN; go_wp2; exact HF.out
set_option maxHeartbeats 1000000 in
theorem start_any (k : Int) (w : World) (h0 : 0 ≤ k) (h1 : k ≤ 9) : Calls Tryz.prog 126 #[.int .i64 k] w fun e w' => e = .returned (.int .i64 (1 + k * 10)) ∧ w' = w := by
 have e1 : IntKind.i64.wrap (k * 10) = k * 10 := by rw [IntKind.wrap_i64]; omega
 have e2 : IntKind.i64.wrap (1 + k * 10) = 1 + k * 10 := by rw [IntKind.wrap_i64]; omega
 go_enter Tryz.func126, Tryz.ntmps126
 go_wp2; go_returns; exact ⟨rfl, rfl⟩
def nameIs (c : Nat → Int) (k : Int) : Bool := (bareB (Dk.strOf c)).toList == (nameB k).toList
def slotP (c : Nat → Int) : Int := if nameIs c 0 = true then 0 else if nameIs c 1 = true then 1 else -1
def namedV (secs : List Sec) (down : Bool) : Value := if down = true then .tuple #[.int .i64 (-1), errV 9] else .tuple #[.int .i64 (slotP secs[0]!.now), .nilIface]
theorem strOf_size (c : Nat → Int) : (Dk.strOf c).size = 64 := by
 unfold Dk.strOf
 have : ∀ (l : List Int) (r : ByteArray), (l.foldl (fun r n => r.push (UInt8.ofNat n.toNat)) r).size = r.size + l.length := by
  intro l
  induction l with
  | nil => intro r; rfl
  | cons x l ih => intro r; rw [List.foldl_cons, ih, ByteArray.size_push, List.length_cons]; omega
 rw [this]
 simp
set_option maxHeartbeats 2000000 in
theorem named_any (base db sb : Nat) (secs : List Sec) (bit : Int) (armed : Bool) (left : Int) (down : Bool) (w : World) (h : DiskAt w base db sb secs bit armed left down) (hl : ∀ i, i < secs.length → secs[i]!.wr.length ≤ 1000) (hn : secs.length ≤ 1000) (h0 : 0 < secs.length) (G : Glob w) :
  Calls Tryz.prog 99 #[.pointer (some ⟨db, 0, none⟩)] w fun e w' => e = .returned (namedV secs down) ∧ Below w.heap.size w w' := by
 have HR : Hid (Calls Tryz.prog 139 #[.pointer (some ⟨db, 0, none⟩), .int .i64 0] w fun e w' => e = .returned (.tuple #[.string (readS secs down 0), errV (readN secs.length down 0)]) ∧ Below w.heap.size w w') := read_any base db sb secs bit armed left down 0 w h hl hn
 have HG : Hid (∀ W, Below w.heap.size w W → Glob W) := fun W hb => G.new hb
 have hhas : hasN secs.length 0 = true := by unfold hasN; simp; omega
 generalize hPP : (fun (e : Ending) (w' : World) => e = .returned (namedV secs down) ∧ Below w.heap.size w w') = PP
 have HP : Hid (∀ w', Below w.heap.size w w' → PP (.returned (namedV secs down)) w') := fun w' hb => by rw [← hPP]; exact ⟨rfl, hb⟩
 clear hPP h hl G
 cases down
 ·rw [show readS secs false 0 = Dk.strOf secs[0]!.now from by unfold readS; rw [hhas]; rfl, show readN secs.length false 0 = 0 from by unfold readN; rw [hhas]; rfl, errV0] at HR
  rw [show namedV secs false = .tuple #[.int .i64 (slotP secs[0]!.now), .nilIface] from rfl] at HP
  have hz := strOf_size secs[0]!.now; have HSL : Hid (slotP secs[0]!.now = if ((bareB (Dk.strOf secs[0]!.now)).toList == (nameB 0).toList) = true then 0 else if ((bareB (Dk.strOf secs[0]!.now)).toList == (nameB 1).toList) = true then 1 else -1) := rfl
  generalize slotP secs[0]!.now = sl at *; generalize Dk.strOf secs[0]!.now = S at *; clear hhas h0
  go_enter Tryz.func99, Tryz.ntmps99
  go_wp2_with fail; refine HR.out.mono ?_; rintro e w1 ⟨rfl, b1⟩; have B1 : Hid (Below w.heap.size w w1) := b1; clear b1 HR; go_wp2_with fail
  go_loopg [6, 15] 2 (fun gg s6 s15 wr => ∃ k : Nat, k ≤ 2 ∧ 2 - k ≤ gg ∧ s15 = .int .i64 k ∧ Hid (Below w.heap.size w wr) ∧ Hid (1 ≤ k → ((bareB S).toList == (nameB 0).toList) = false) ∧ Hid (2 ≤ k → ((bareB S).toList == (nameB 1).toList) = false))
  case atStart => exact ⟨0, by omega, by omega, rfl, B1, fun h => absurd h (by omega), fun h => absurd h (by omega)⟩
  case round =>
   clear B1; obtain ⟨k, hk, hgg, rfl, M, A0, A1⟩ := hrel
   by_cases hlt : k < 2
   ·have hltz : (k : Int) < 2 := by omega
    have HB : Hid (Calls Tryz.prog 140 #[.string S] wr fun e w' => e = .returned (.string (bareB S)) ∧ w' = wr) := bare_any S wr (by omega)
    have HN : Hid (Calls Tryz.prog 128 #[.int .i64 k] wr fun e w' => e = .returned (.string (nameB k)) ∧ Below wr.heap.size wr w') := name_any k wr (by omega) (by omega) (HG.out _ M.out)
    have hq : ∃ q, ((bareB S).toList == (nameB k).toList) = q := ⟨_, rfl⟩
    obtain ⟨q, hq⟩ := hq
    have HQ : Hid (q = true → sl = k) := fun e => by
     subst e; have : k = 0 ∨ k = 1 := by omega
     rcases this with rfl | rfl
     ·have hq' : ((bareB S).toList == (nameB 0).toList) = true := hq
      rw [HSL.out, if_pos hq']; rfl
     ·have hq' : ((bareB S).toList == (nameB 1).toList) = true := hq
      rw [HSL.out, if_neg (by rw [A0.out (by omega)]; decide), if_pos hq']; rfl
    have HQ0 : Hid (q = false → (1 ≤ k + 1 → ((bareB S).toList == (nameB 0).toList) = false) ∧ (2 ≤ k + 1 → ((bareB S).toList == (nameB 1).toList) = false)) := fun e => by
     subst e; have : k = 0 ∨ k = 1 := by omega
     rcases this with rfl | rfl
     ·exact ⟨fun _ => hq, fun h => absurd h (by omega)⟩
     ·exact ⟨fun _ => A0.out (by omega), fun _ => hq⟩
    clear A0 A1; generalize bareB S = BS at *; generalize nameB k = NK at *; go_wp2_with fail; refine HB.out.mono ?_; rintro e w2 ⟨rfl, rfl⟩; go_wp2_with fail; refine HN.out.mono ?_; rintro e w3 ⟨rfl, b3⟩; have M3 : Hid (Below w.heap.size w w3) := B.next M.out b3 M.out.size; clear b3 M HN HB
    cases q
    ·have X := (HQ0.out rfl)
     have X1 := X.1; have X2 := X.2; clear X; have HX1 : Hid (1 ≤ k + 1 → ((BS).toList == (nameB 0).toList) = false) := X1; have HX2 : Hid (2 ≤ k + 1 → ((BS).toList == (nameB 1).toList) = false) := X2; clear X1 X2 HQ HQ0; go_wp2
     go_roundg (2 - (k + 1))
     case measure => omega
     case rel => exact ⟨k + 1, by omega, by omega, by go_num, M3, HX1, HX2⟩
    ·have hsl : sl = k := HQ.out rfl
     have HF : Hid (PP (.returned (.tuple #[.int .i64 k, .nilIface])) w3) := by
      have := HP.out _ M3.out; rw [hsl] at this; exact this
     clear HQ HQ0 HP HSL hsl; go_wp2; exact HF.out
   ·have hltz : ¬ (k : Int) < 2 := by omega
    have hsl : sl = -1 := by
     rw [HSL.out, if_neg (by rw [A0.out (by omega)]; decide), if_neg (by rw [A1.out (by omega)]; decide)]
    have HF : Hid (PP (.returned (.tuple #[.int .i64 (-1), .nilIface])) wr) := by
     have := HP.out _ M.out; rw [hsl] at this; exact this
    clear HP HSL hsl A0 A1; go_wp2; exact HF.out
 ·rw [show readN secs.length true 0 = 9 from rfl, show errV 9 = .iface 103 (.int .i64 9) from rfl] at HR
  rw [show namedV secs true = .tuple #[.int .i64 (-1), .iface 103 (.int .i64 9)] from rfl] at HP
  generalize readS secs true 0 = S at *; clear hhas h0
  go_enter Tryz.func99, Tryz.ntmps99
  go_wp2_with fail; refine HR.out.mono ?_; rintro e w1 ⟨rfl, b1⟩; have HF : Hid (PP (.returned (.tuple #[.int .i64 (-1), .iface 103 (.int .i64 9)])) w1) := HP.out _ b1; clear b1 HR HP; go_wp2; exact HF.out
end Lg
namespace Lg
open Bk Dk Tx
def catP (secs : List Sec) (st : Nat) : Nat → List UInt8
 | 0 => []
 | k + 1 => catP secs st k ++ (Dk.strOf secs[st + k]!.now).data.toList
theorem catP_len (secs : List Sec) (st : Nat) : ∀ k, (catP secs st k).length = 64 * k
 | 0 => rfl
 | k + 1 => by
   have h2 : (Dk.strOf secs[st + k]!.now).size = 64 := strOf_size secs[st + k]!.now; rw [catP, List.length_append, catP_len secs st k]; generalize Dk.strOf secs[st + k]!.now = S at *; have h3 : S.data.toList.length = 64 := by rw [Array.length_toList]; exact h2
   omega
theorem builder_below {T e : TypeId} {B b : Nat} {bs : List Value} {w w' : World} (h : Lib.IsBuilder T e B b bs w) (hb : Below w.heap.size w w') : Lib.IsBuilder T e B b bs w' := by
 have k : ∀ p, Lib.BuilderAt T e B b p bs w → Lib.BuilderAt T e B b p bs w' := by
  rintro p ⟨hB, v, hk, ho, hn⟩; exact ⟨hB, v, (hb.block b (Array.getElem?_eq_some_iff.1 hk).1).trans hk, ho.kept (row := none) ⟨hb.os, hb.tape, hb.output, hb.size, fun k hk _ => hb.block k hk⟩ (by cases v.ownBlock <;> simp), hn⟩
 rcases h with h | h
 ·exact Or.inl (k _ h)
 ·exact Or.inr (k _ h)
set_option maxHeartbeats 2000000 in
theorem load_any (base db sb : Nat) (secs : List Sec) (bit : Int) (armed : Bool) (left : Int) (sl : Nat) (w : World) (h : DiskAt w base db sb secs bit armed left false) (hl : ∀ i, i < secs.length → secs[i]!.wr.length ≤ 1000) (hn : secs.length ≤ 1000) (h22 : 22 ≤ secs.length) (hsl : sl ≤ 1) :
  Calls Tryz.prog 101 #[.pointer (some ⟨db, 0, none⟩), .int .i64 sl] w fun e w' => e = .returned (.tuple #[.string (bareB ⟨(catP secs (1 + 10 * sl) 10).toArray⟩), .nilIface]) ∧ Below w.heap.size w w' := by
 have HD : Hid (∀ W, Below w.heap.size w W → DiskAt W base db sb secs bit armed left false) := fun W hb => h.below hb
 have HRD : Hid (∀ (k : Nat), k < 10 → ∀ W, Below w.heap.size w W → Calls Tryz.prog 139 #[.pointer (some ⟨db, 0, none⟩), .int .i64 (1 + (sl : Int) * 10 + k)] W fun e w' => e = .returned (.tuple #[.string (Dk.strOf secs[1 + 10 * sl + k]!.now), .nilIface]) ∧ Below W.heap.size W w') := fun k hk W hb => by
  have := read_any base db sb secs bit armed left false (1 + (sl : Int) * 10 + k) W (h.below hb) hl hn; have hx : hasN secs.length (1 + (sl : Int) * 10 + k) = true := by unfold hasN; simp; omega
  rw [show readS secs false (1 + (sl : Int) * 10 + k) = Dk.strOf secs[1 + 10 * sl + k]!.now from by unfold readS; rw [hx]; simp only [if_true, Bool.false_eq_true, if_false]; congr 4; omega, show readN secs.length false (1 + (sl : Int) * 10 + k) = 0 from by unfold readN; rw [hx]; rfl, errV0] at this
  exact this
 generalize hPP : (fun (e : Ending) (w' : World) => e = .returned (.tuple #[.string (bareB ⟨(catP secs (1 + 10 * sl) 10).toArray⟩), .nilIface]) ∧ Below w.heap.size w w') = PP
 have HP : Hid (∀ w', Below w.heap.size w w' → PP (.returned (.tuple #[.string (bareB ⟨(catP secs (1 + 10 * sl) 10).toArray⟩), .nilIface])) w') := fun w' hb => by rw [← hPP]; exact ⟨rfl, hb⟩
 clear hPP h hl; have ew : ∀ k : Nat, k < 10 → IntKind.i64.wrap (1 + (sl : Int) * 10 + k) = 1 + (sl : Int) * 10 + k := fun k hk => by rw [IntKind.wrap_i64]; omega
 obtain ⟨w0, hw0⟩ : ∃ w0, w.alloc (.cells #[.pointer none, .slice none 0 0] 185) = w0 := ⟨_, rfl⟩
 have N0 : Hid (Below w.heap.size w w0 ∧ Lib.IsBuilder 185 5 w.heap.size w.heap.size (Lib.byteCells (catP secs (1 + 10 * sl) 0)) w0) := by
  show _ ∧ _
  rw [← hw0]; exact ⟨B.new1 _ _, Lib.fresh_isBuilder _ _ _⟩
 go_enter Tryz.func101, Tryz.ntmps101
 go_wp2_with fail; clear hw0
 go_loopg [10] 10 (fun gg s10 wr => ∃ k : Nat, k ≤ 10 ∧ 10 - k ≤ gg ∧ s10 = .int .i64 k ∧ Hid (Below w.heap.size w wr ∧ Lib.IsBuilder 185 5 w.heap.size w.heap.size (Lib.byteCells (catP secs (1 + 10 * sl) k)) wr))
 case atStart => exact ⟨0, by omega, by omega, rfl, N0⟩
 case round =>
  clear N0; obtain ⟨k, hk, hgg, rfl, M⟩ := hrel
  by_cases hlt : k < 10
  ·have hltz : (k : Int) < 10 := by omega
   have HST : Hid (Calls Tryz.prog 126 #[.int .i64 sl] wr fun e w' => e = .returned (.int .i64 (1 + (sl : Int) * 10)) ∧ w' = wr) := start_any sl wr (by omega) (by omega)
   have HR : Hid (Calls Tryz.prog 139 #[.pointer (some ⟨db, 0, none⟩), .int .i64 (1 + (sl : Int) * 10 + k)] wr fun e w' => e = .returned (.tuple #[.string (Dk.strOf secs[1 + 10 * sl + k]!.now), .nilIface]) ∧ Below wr.heap.size wr w') := HRD.out k hlt wr M.out.1
   have HCT : Hid (catP secs (1 + 10 * sl) (k + 1) = catP secs (1 + 10 * sl) k ++ (Dk.strOf secs[1 + 10 * sl + k]!.now).data.toList) := rfl; have HCL : Hid ((catP secs (1 + 10 * sl) k).length = 64 * k) := catP_len _ _ _; have hsz : (Dk.strOf secs[1 + 10 * sl + k]!.now).size = 64 := strOf_size _; have ewk := ew k hlt; generalize Dk.strOf secs[1 + 10 * sl + k]!.now = S at *; go_wp2_with fail; refine HST.out.mono ?_; rintro e w1 ⟨rfl, hw1⟩; subst hw1; go_wp2_with fail; refine HR.out.mono ?_; rintro e w2 ⟨rfl, b2⟩; have M2 : Hid (Below w.heap.size w w2 ∧ Lib.IsBuilder 185 5 w.heap.size w.heap.size (Lib.byteCells (catP secs (1 + 10 * sl) k)) w2) := ⟨B.next M.out.1 b2 M.out.1.size, builder_below M.out.2 b2⟩
   have HW : Hid (Calls Tryz.prog 141 #[.pointer (some ⟨w.heap.size, 0, none⟩), .string S] w2 fun e w' => e = .returned (.tuple #[.int .i64 S.size, .nilIface]) ∧ (Lib.BuilderAt 185 5 w.heap.size w.heap.size (.pointer (some ⟨w.heap.size, 0, none⟩)) (Lib.byteCells (catP secs (1 + 10 * sl) k) ++ Lib.strCells S) w' ∧ Below w.heap.size w2 w')) :=
    Any.Builder_WriteString Tryz.lWS Tryz.xWS w.heap.size w.heap.size (Lib.byteCells (catP secs (1 + 10 * sl) k)) S w2 M2.out.2 (by rw [Lib.byteCells_length, HCL.out, hsz]; omega) M2.out.1.size
   clear M b2 HR HST; go_wp2_with fail; refine HW.out.mono ?_; rintro e w3 ⟨rfl, hbu, b3⟩
   have M3 : Hid (Below w.heap.size w w3 ∧ Lib.IsBuilder 185 5 w.heap.size w.heap.size (Lib.byteCells (catP secs (1 + 10 * sl) (k + 1))) w3) := by
    refine ⟨M2.out.1.trans b3, ?_⟩; rw [HCT.out]; refine Or.inr ?_; have e1 : Lib.byteCells (catP secs (1 + 10 * sl) k ++ S.data.toList) = Lib.byteCells (catP secs (1 + 10 * sl) k) ++ Lib.strCells S := by simp [Lib.byteCells, Lib.strCells]
    rw [e1]; exact hbu
   clear hbu b3 M2 HW; go_wp2
   go_roundg (10 - (k + 1))
   case measure => omega
   case rel => exact ⟨k + 1, by omega, by omega, by go_num, M3⟩
  ·have hltz : ¬ (k : Int) < 10 := by omega
   have hke : k = 10 := by omega
   subst hke; have hcl : (catP secs (1 + 10 * sl) 10).length = 640 := catP_len _ _ 10
   have HBS : Hid (Calls Tryz.prog 142 #[.pointer (some ⟨w.heap.size, 0, none⟩)] wr fun e w' => e = .returned (.string ⟨(catP secs (1 + 10 * sl) 10).toArray⟩) ∧ Below w.heap.size wr w') :=
    Any.Builder_String Tryz.lBStr Tryz.xBStr w.heap.size w.heap.size (catP secs (1 + 10 * sl) 10) wr M.out.2 (fun e => by rw [e] at hcl; cases hcl)
   have hts : (⟨(catP secs (1 + 10 * sl) 10).toArray⟩ : ByteArray).size = 640 := by show (catP secs (1 + 10 * sl) 10).toArray.size = 640; rw [List.size_toArray, hcl]
   generalize (⟨(catP secs (1 + 10 * sl) 10).toArray⟩ : ByteArray) = T at *; go_wp2_with fail; refine HBS.out.mono ?_; rintro e w2 ⟨rfl, b2⟩; have M2 : Hid (Below w.heap.size w w2) := M.out.1.trans b2; have HBA : Hid (Calls Tryz.prog 140 #[.string T] w2 fun e w' => e = .returned (.string (bareB T)) ∧ w' = w2) := bare_any T w2 (by omega)
   clear M b2 HBS; go_wp2_with fail; refine HBA.out.mono ?_; rintro e w3 ⟨rfl, hw3⟩; subst hw3; have HF : Hid (PP (.returned (.tuple #[.string (bareB T), .nilIface])) w3) := HP.out _ M2.out; clear HP M2 HBA; go_wp2; exact HF.out
end Lg
attribute [local go_sem] Oper.semAt_some
namespace Lg
open Bk Dk Tx
def restT (t : ByteArray) : Nat → ByteArray
 | 0 => t
 | k + 1 => (restT t k).extract (min (restT t k).size 64) (restT t k).size
def pieceT (t : ByteArray) (k : Nat) : ByteArray := (restT t k).extract 0 (min (restT t k).size 64)
theorem restT_le (t : ByteArray) : ∀ k, (restT t k).size ≤ t.size
 | 0 => Nat.le_refl _
 | k + 1 => by
   have := restT_le t k; rw [restT, ByteArray.size_extract]
   omega
theorem pieceT_le (t : ByteArray) (k : Nat) : (pieceT t k).size ≤ 64 := by
 unfold pieceT; rw [ByteArray.size_extract]
 omega
abbrev Pc := { x : Nat × ByteArray // x.1 < 10 ∧ x.2.size ≤ 64 }
def encP (x : Pc) : Array Value := #[.int .i64 (x.1.1 : Int), .string x.1.2]
def pcT (t : ByteArray) (k : Nat) : Pc := ⟨(k % 10, pieceT t k), Nat.mod_lt _ (by decide), pieceT_le t k⟩
def pcsT (t : ByteArray) (k : Nat) : List Pc := (List.range k).map (pcT t)
theorem pcsT_succ (t : ByteArray) (k : Nat) : pcsT t (k + 1) = pcsT t k ++ [pcT t k] := by
 unfold pcsT; rw [List.range_succ, List.map_append]
 rfl
set_option maxHeartbeats 4000000 in
theorem cut1_stops (F : Fence) (n : Nat) (hf : F.fn 148) (hro : F.round = none) (hn : 1 ≤ n) (b : Nat) (t : ByteArray) (ht : t.size ≤ 100000000) (w : World) (hb : b < w.heap.size) (hc : w.cell? ⟨b, 0, none⟩ = some (.string t)) :
  SeqStopsK F n Tryz.prog 148 #[.pointer (some ⟨b, 0, none⟩)] encP (fun _ _ => True) (fun ys => ys = pcsT t 10) (fun pre => ∃ k, k ≤ 10 ∧ pre = pcsT t k) 10 w := fun l J Jx W hW _ _ hY h0 => by
 have hc' := (hW.cell (p := ⟨b, 0, none⟩) hb).trans hc; refine callsIn_of_wp Tryz.func148 rfl hf ?_ hro; simp only [Tryz.ntmps148, List.size_toArray, List.length_cons, List.length_nil, Nat.reduceAdd, Nat.reduceSub, Array.replicate_succ, Array.replicate_zero, List.push_toArray, List.append_toArray, List.nil_append, List.cons_append]
 gi_wp2
 gi_loopw [3, 7] (fun s3 s7 wr => ∃ k : Nat, k ≤ 10 ∧ s7 = .int .i64 k ∧ s3 = .string (restT t k) ∧ J (pcsT t k) wr) (fun _ s7 _ => 10 - (intOf s7).toNat)
 case atStart => exact ⟨0, by omega, rfl, rfl, h0⟩
 case round =>
  obtain ⟨k, hk, rfl, rfl, hJs⟩ := hrel
  by_cases hlt : k < 10
  ·have hltz : (k : Int) < 10 := by omega
   have hy0 := hY _ (pcT t k) wr hJs (by unfold pcsT; rw [List.length_map, List.length_range]; exact hlt); obtain ⟨fn, tmps, assign, body, hy, hR⟩ := hy0; have hsz := restT_le t k; have hnext : restT t (k + 1) = (restT t k).extract (min (restT t k).size 64) (restT t k).size := rfl
   have hpt : (pcT t k).1 = (k, (restT t k).extract 0 (min (restT t k).size 64)) := by
    show (k % 10, pieceT t k) = _
    rw [Nat.mod_eq_of_lt hlt]
    rfl
   have hJn : ∀ W', J (pcsT t k ++ [pcT t k]) W' → J (pcsT t (k + 1)) W' := fun W' h => by rw [pcsT_succ]; exact h
   have hJx : ∀ W', Jx (pcsT t k ++ [pcT t k]) W' → Jx (pcsT t (k + 1)) W' := fun W' h => by rw [pcsT_succ]; exact h
   unfold encP at hy; rw [hpt] at hy; generalize restT t k = R at *
   by_cases h64 : R.size ≤ 64
   ·have hmn : min R.size 64 = R.size := by omega
    rw [hmn] at hnext hy; have hmz : (R.size : Int) ≤ 64 := by omega
    have hmz2 : min (R.size : Int) 64 = (R.size : Int) := by omega
    have hx : R.extract 0 R.size = R := by simp
    rw [hx] at hy
    gi_wp2
    refine hR.mono ?_; rintro e W3 (⟨rfl, hJ3, _⟩ | ⟨rfl, hJx3⟩)
    ·gi_wp2
     go_roundw
     case rel => exact ⟨k + 1, by omega, by simp, by rw [hnext]; simp, hJn _ hJ3⟩
     case measure => simp [intOf]; omega
    ·gi_wp2
     refine bodyPost_ret (results_none rfl _ _ _) rfl ?_; exact ⟨⟨_, rfl⟩, .inr ⟨_, ⟨k + 1, by omega, rfl⟩, hJx _ hJx3⟩⟩
   ·have hmn : min R.size 64 = 64 := by omega
    rw [hmn] at hnext hy; have hmz : ¬ (R.size : Int) ≤ 64 := by omega
    have hmz2 : min (R.size : Int) 64 = 64 := by omega
    have hmz3 : (64 : Int) ≤ (R.size : Int) := by omega
    have hmz4 : 64 ≤ R.size := by omega
    gi_wp2
    refine hR.mono ?_; rintro e W3 (⟨rfl, hJ3, _⟩ | ⟨rfl, hJx3⟩)
    ·gi_wp2
     go_roundw
     case rel => exact ⟨k + 1, by omega, by simp, by rw [hnext], hJn _ hJ3⟩
     case measure => simp [intOf]; omega
    ·gi_wp2
     refine bodyPost_ret (results_none rfl _ _ _) rfl ?_; exact ⟨⟨_, rfl⟩, .inr ⟨_, ⟨k + 1, by omega, rfl⟩, hJx _ hJx3⟩⟩
  ·obtain rfl : k = 10 := by omega
   gi_wp2
   go_end0
   exact ⟨⟨_, rfl⟩, .inl ⟨_, rfl, hJs⟩⟩
end Lg
end Go.Proofs.YtopgllmjeliklaaGreatDoor
