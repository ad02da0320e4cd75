/- Chapter 9: the ledger: names of slots, what is bare of noughts, which slot is named; contracts for the laws of stages 3 and 4. -/
import Derived.Test.YtaikbojdmfkbhaaGreatDoorShelfL
import Derived.Test.YtaikbojdmfkbhaaGreatDoorTextA
import Derived.Test.YtaikbojdmfkbhaaGreatDoorJDiskB
import Derived.Test.YtaikbojdmfkbhaaGreatDoorJDiskI
import Derived.Deep.LoopGhost
namespace Go.Proofs.YtaikbojdmfkbhaaGreatDoor
open Go.Shelf Go.Lib Go.ChangeShapes Go.WideShapes Go.ChangeAt Go.RowKit
set_option maxRecDepth 100000
set_option linter.unusedSimpArgs false
set_option linter.unusedVariables false

theorem Tryz.xWS : Builder.Extra Tryz.prog Tryz.lWS_ren where
  sizeBuilder := by kernel_rfl
  liesBuilder := by kernel_rfl
  t5 := Tryz.underlying5
  a5 := Tryz.isAgg5
  z5 := Tryz.sizeOf5
  v5 := Tryz.zeroValue5
  infoByte := by kernel_rfl
  cellsByte := by kernel_rfl
  sizeByte := by kernel_rfl
  neB5 := by decide

theorem Tryz.xBStr : Builder.Extra Tryz.prog Tryz.lBStr_ren where
  sizeBuilder := by kernel_rfl
  liesBuilder := by kernel_rfl
  t5 := Tryz.underlying5
  a5 := Tryz.isAgg5
  z5 := Tryz.sizeOf5
  v5 := Tryz.zeroValue5
  infoByte := by kernel_rfl
  cellsByte := by kernel_rfl
  sizeByte := by kernel_rfl
  neB5 := by decide

namespace Lg
open Bk Dk Tx
def bareB (s : ByteArray) : ByteArray := ⟨(Lib.trimRightB s.data.toList 0).toArray⟩
def preB : ByteArray := ⟨#[99, 111, 97, 99, 104, 104, 111, 117, 115, 101, 32, 108, 101, 100, 103, 101, 114, 32]⟩
def nameB (k : Int) : ByteArray := preB ++ ⟨(Lib.itoa k).toArray⟩

set_option maxHeartbeats 1000000 in
theorem bare_any (s : ByteArray) (w : World) (hs : s.size ≤ 100000000) : Calls Tryz.prog 88 #[.string s] w fun e w' => e = .returned (.string (bareB s)) ∧ w' = w := by
  have HT : Hid (Calls Tryz.prog 129 #[.string s, .string ⟨#[0]⟩] w fun e w' => e = .returned (.string (bareB s)) ∧ w' = w) := Any.strings_TrimRight_one Tryz.lTrimR s 0 (by decide) w (by omega)
  generalize bareB s = T at *
  go_enter Tryz.func88, Tryz.ntmps88
  go_wp2_with fail
  refine HT.out.mono ?_
  rintro e w1 ⟨rfl, rfl⟩
  go_wp2
  go_returns
  exact ⟨rfl, rfl⟩

set_option maxHeartbeats 1000000 in
theorem name_any (k : Int) (w : World) (h0 : 0 ≤ k) (h1 : k ≤ 9) (G : Glob w) : Calls Tryz.prog 89 #[.int .i64 k] w fun e w' => e = .returned (.string (nameB k)) ∧ Below w.heap.size w w' := by
  have HT : Hid (Calls Tryz.prog 98 #[.int .i64 k] w fun e w' => e = .returned (.string ⟨(Lib.itoa k).toArray⟩) ∧ Below w.heap.size w w') := itoa_any k w (by omega) (by omega) G
  have HN : Hid (∀ T : ByteArray, (⟨(Lib.itoa k).toArray⟩ : ByteArray) = T → nameB k = ⟨#[99, 111, 97, 99, 104, 104, 111, 117, 115, 101, 32, 108, 101, 100, 103, 101, 114, 32]⟩ ++ T) := fun T h => by rw [← h]; rfl
  generalize hPP : (fun (e : Ending) (w' : World) => e = .returned (.string (nameB k)) ∧ Below w.heap.size w w') = PP
  have HP : Hid (∀ w', Below w.heap.size w w' → PP (.returned (.string (nameB k))) w') := fun w' hb => by rw [← hPP]; exact ⟨rfl, hb⟩
  clear hPP
  have hts : (⟨(Lib.itoa k).toArray⟩ : ByteArray).size ≤ 21 := by
    show (Lib.itoa k).toArray.size ≤ 21
    rw [List.size_toArray]
    unfold Lib.itoa
    rw [if_neg (by omega), Lib.decDigits_one (by omega), List.length_singleton]
    omega
  generalize hT : (⟨(Lib.itoa k).toArray⟩ : ByteArray) = T at *
  have hle : ¬ (⟨#[99, 111, 97, 99, 104, 104, 111, 117, 115, 101, 32, 108, 101, 100, 103, 101, 114, 32]⟩ : ByteArray).size + T.size > 9223372036854775807 := by
    have : (⟨#[99, 111, 97, 99, 104, 104, 111, 117, 115, 101, 32, 108, 101, 100, 103, 101, 114, 32]⟩ : ByteArray).size = 18 := rfl
    omega
  have hle2 : ¬ 9223372036854775807 < 18 + T.size := by omega
  have hle3 : 18 + T.size ≤ 9223372036854775807 := by omega
  go_enter Tryz.func89, Tryz.ntmps89
  go_wp2_with fail
  refine HT.out.mono ?_
  rintro e w1 ⟨rfl, b1⟩
  have HF : Hid (PP (.returned (.string (⟨#[99, 111, 97, 99, 104, 104, 111, 117, 115, 101, 32, 108, 101, 100, 103, 101, 114, 32]⟩ ++ T))) w1) := by
    have := HP.out _ b1
    rw [HN.out T rfl] at this
    exact this
  clear b1 HP HT HN
  go_wp2
  exact HF.out

set_option maxHeartbeats 1000000 in
theorem start_any (k : Int) (w : World) (h0 : 0 ≤ k) (h1 : k ≤ 9) : Calls Tryz.prog 90 #[.int .i64 k] w fun e w' => e = .returned (.int .i64 (1 + k * 10)) ∧ w' = w := by
  have e1 : IntKind.i64.wrap (k * 10) = k * 10 := by rw [IntKind.wrap_i64]; omega
  have e2 : IntKind.i64.wrap (1 + k * 10) = 1 + k * 10 := by rw [IntKind.wrap_i64]; omega
  go_enter Tryz.func90, Tryz.ntmps90
  go_wp2
  go_returns
  exact ⟨rfl, rfl⟩

/-- Does a sector name a slot? -/
def nameIs (c : Nat → Int) (k : Int) : Bool := (bareB (Dk.strOf c)).toList == (nameB k).toList
def slotP (c : Nat → Int) : Int := if nameIs c 0 = true then 0 else if nameIs c 1 = true then 1 else -1
/-- What named answers. -/
def namedV (secs : List Sec) (down : Bool) : Value := if down = true then .tuple #[.int .i64 (-1), errV 9] else .tuple #[.int .i64 (slotP secs[0]!.now), .nilIface]
theorem strOf_size (c : Nat → Int) : (Dk.strOf c).size = 64 := by
  unfold Dk.strOf
  have : ∀ (l : List Int) (r : ByteArray), (l.foldl (fun r n => r.push (UInt8.ofNat n.toNat)) r).size = r.size + l.length := by
    intro l
    induction l with
    | nil => intro r; rfl
    | cons x l ih => intro r; rw [List.foldl_cons, ih, ByteArray.size_push, List.length_cons]; omega
  rw [this]
  simp

set_option maxHeartbeats 2000000 in
theorem named_any (base db sb : Nat) (secs : List Sec) (bit : Int) (armed : Bool) (left : Int) (down : Bool) (w : World) (h : DiskAt w base db sb secs bit armed left down) (hl : ∀ i, i < secs.length → secs[i]!.wr.length ≤ 1000) (hn : secs.length ≤ 1000) (h0 : 0 < secs.length) (G : Glob w) :
    Calls Tryz.prog 53 #[.pointer (some ⟨db, 0, none⟩)] w fun e w' => e = .returned (namedV secs down) ∧ Below w.heap.size w w' := by
  have HR : Hid (Calls Tryz.prog 87 #[.pointer (some ⟨db, 0, none⟩), .int .i64 0] w fun e w' => e = .returned (.tuple #[.string (readS secs down 0), errV (readN secs.length down 0)]) ∧ Below w.heap.size w w') := read_any base db sb secs bit armed left down 0 w h hl hn
  have HG : Hid (∀ W, Below w.heap.size w W → Glob W) := fun W hb => G.new hb
  have hhas : hasN secs.length 0 = true := by unfold hasN; simp; omega
  generalize hPP : (fun (e : Ending) (w' : World) => e = .returned (namedV secs down) ∧ Below w.heap.size w w') = PP
  have HP : Hid (∀ w', Below w.heap.size w w' → PP (.returned (namedV secs down)) w') := fun w' hb => by rw [← hPP]; exact ⟨rfl, hb⟩
  clear hPP h hl G
  cases down
  · rw [show readS secs false 0 = Dk.strOf secs[0]!.now from by unfold readS; rw [hhas]; rfl, show readN secs.length false 0 = 0 from by unfold readN; rw [hhas]; rfl, errV0] at HR
    rw [show namedV secs false = .tuple #[.int .i64 (slotP secs[0]!.now), .nilIface] from rfl] at HP
    have hz := strOf_size secs[0]!.now
    have HSL : Hid (slotP secs[0]!.now = if ((bareB (Dk.strOf secs[0]!.now)).toList == (nameB 0).toList) = true then 0 else if ((bareB (Dk.strOf secs[0]!.now)).toList == (nameB 1).toList) = true then 1 else -1) := rfl
    generalize slotP secs[0]!.now = sl at *
    generalize Dk.strOf secs[0]!.now = S at *
    clear hhas h0
    go_enter Tryz.func53, Tryz.ntmps53
    go_wp2_with fail
    refine HR.out.mono ?_
    rintro e w1 ⟨rfl, b1⟩
    have B1 : Hid (Below w.heap.size w w1) := b1
    clear b1 HR
    go_wp2_with fail
    go_loopg [6, 15] 2 (fun gg s6 s15 wr => ∃ k : Nat, k ≤ 2 ∧ 2 - k ≤ gg ∧ s15 = .int .i64 k ∧ Hid (Below w.heap.size w wr) ∧ Hid (1 ≤ k → ((bareB S).toList == (nameB 0).toList) = false) ∧ Hid (2 ≤ k → ((bareB S).toList == (nameB 1).toList) = false))
    case atStart => exact ⟨0, by omega, by omega, rfl, B1, fun h => absurd h (by omega), fun h => absurd h (by omega)⟩
    case round =>
      clear B1
      obtain ⟨k, hk, hgg, rfl, M, A0, A1⟩ := hrel
      by_cases hlt : k < 2
      · have hltz : (k : Int) < 2 := by omega
        have HB : Hid (Calls Tryz.prog 88 #[.string S] wr fun e w' => e = .returned (.string (bareB S)) ∧ w' = wr) := bare_any S wr (by omega)
        have HN : Hid (Calls Tryz.prog 89 #[.int .i64 k] wr fun e w' => e = .returned (.string (nameB k)) ∧ Below wr.heap.size wr w') := name_any k wr (by omega) (by omega) (HG.out _ M.out)
        have hq : ∃ q, ((bareB S).toList == (nameB k).toList) = q := ⟨_, rfl⟩
        obtain ⟨q, hq⟩ := hq
        have HQ : Hid (q = true → sl = k) := fun e => by
          subst e
          have : k = 0 ∨ k = 1 := by omega
          rcases this with rfl | rfl
          · have hq' : ((bareB S).toList == (nameB 0).toList) = true := hq
            rw [HSL.out, if_pos hq']; rfl
          · have hq' : ((bareB S).toList == (nameB 1).toList) = true := hq
            rw [HSL.out, if_neg (by rw [A0.out (by omega)]; decide), if_pos hq']; rfl
        have HQ0 : Hid (q = false → (1 ≤ k + 1 → ((bareB S).toList == (nameB 0).toList) = false) ∧ (2 ≤ k + 1 → ((bareB S).toList == (nameB 1).toList) = false)) := fun e => by
          subst e
          have : k = 0 ∨ k = 1 := by omega
          rcases this with rfl | rfl
          · exact ⟨fun _ => hq, fun h => absurd h (by omega)⟩
          · exact ⟨fun _ => A0.out (by omega), fun _ => hq⟩
        clear A0 A1
        generalize bareB S = BS at *
        generalize nameB k = NK at *
        go_wp2_with fail
        refine HB.out.mono ?_
        rintro e w2 ⟨rfl, rfl⟩
        go_wp2_with fail
        refine HN.out.mono ?_
        rintro e w3 ⟨rfl, b3⟩
        have M3 : Hid (Below w.heap.size w w3) := B.next M.out b3 M.out.size
        clear b3 M HN HB
        cases q
        · have X := (HQ0.out rfl)
          have X1 := X.1
          have X2 := X.2
          clear X
          have HX1 : Hid (1 ≤ k + 1 → ((BS).toList == (nameB 0).toList) = false) := X1
          have HX2 : Hid (2 ≤ k + 1 → ((BS).toList == (nameB 1).toList) = false) := X2
          clear X1 X2 HQ HQ0
          go_wp2
          go_roundg (2 - (k + 1))
          case measure => omega
          case rel => exact ⟨k + 1, by omega, by omega, by go_num, M3, HX1, HX2⟩
        · have hsl : sl = k := HQ.out rfl
          have HF : Hid (PP (.returned (.tuple #[.int .i64 k, .nilIface])) w3) := by
            have := HP.out _ M3.out
            rw [hsl] at this
            exact this
          clear HQ HQ0 HP HSL hsl
          go_wp2
          exact HF.out
      · have hltz : ¬ (k : Int) < 2 := by omega
        have hsl : sl = -1 := by
          rw [HSL.out, if_neg (by rw [A0.out (by omega)]; decide), if_neg (by rw [A1.out (by omega)]; decide)]
        have HF : Hid (PP (.returned (.tuple #[.int .i64 (-1), .nilIface])) wr) := by
          have := HP.out _ M.out
          rw [hsl] at this
          exact this
        clear HP HSL hsl A0 A1
        go_wp2
        exact HF.out
  · rw [show readN secs.length true 0 = 9 from rfl, show errV 9 = .iface 94 (.int .i64 9) from rfl] at HR
    rw [show namedV secs true = .tuple #[.int .i64 (-1), .iface 94 (.int .i64 9)] from rfl] at HP
    generalize readS secs true 0 = S at *
    clear hhas h0
    go_enter Tryz.func53, Tryz.ntmps53
    go_wp2_with fail
    refine HR.out.mono ?_
    rintro e w1 ⟨rfl, b1⟩
    have HF : Hid (PP (.returned (.tuple #[.int .i64 (-1), .iface 94 (.int .i64 9)])) w1) := HP.out _ b1
    clear b1 HR HP
    go_wp2
    exact HF.out

end Lg
end Go.Proofs.YtaikbojdmfkbhaaGreatDoor

namespace Go.Proofs.YtaikbojdmfkbhaaGreatDoor
open Go.Shelf Go.Lib Go.ChangeShapes Go.WideShapes Go.ChangeAt Go.RowKit
set_option maxRecDepth 100000
set_option linter.unusedSimpArgs false
set_option linter.unusedVariables false

namespace Lg
open Bk Dk Tx
/-- What some sectors hold, one behind the other. -/
def catP (secs : List Sec) (st : Nat) : Nat → List UInt8
  | 0 => []
  | k + 1 => catP secs st k ++ (Dk.strOf secs[st + k]!.now).data.toList
theorem catP_len (secs : List Sec) (st : Nat) : ∀ k, (catP secs st k).length = 64 * k
  | 0 => rfl
  | k + 1 => by
    have h2 : (Dk.strOf secs[st + k]!.now).size = 64 := strOf_size secs[st + k]!.now
    rw [catP, List.length_append, catP_len secs st k]
    generalize Dk.strOf secs[st + k]!.now = S at *
    have h3 : S.data.toList.length = 64 := by rw [Array.length_toList]; exact h2
    omega
theorem builder_below {T e : TypeId} {B b : Nat} {bs : List Value} {w w' : World} (h : Lib.IsBuilder T e B b bs w) (hb : Below w.heap.size w w') : Lib.IsBuilder T e B b bs w' := by
  have k : ∀ p, Lib.BuilderAt T e B b p bs w → Lib.BuilderAt T e B b p bs w' := by
    rintro p ⟨hB, v, hk, ho, hn⟩
    exact ⟨hB, v, (hb.block b (Array.getElem?_eq_some_iff.1 hk).1).trans hk, ho.kept (row := none) ⟨hb.os, hb.tape, hb.output, hb.size, fun k hk _ => hb.block k hk⟩ (by cases v.ownBlock <;> simp), hn⟩
  rcases h with h | h
  · exact Or.inl (k _ h)
  · exact Or.inr (k _ h)

set_option maxHeartbeats 2000000 in
theorem load_any (base db sb : Nat) (secs : List Sec) (bit : Int) (armed : Bool) (left : Int) (sl : Nat) (w : World) (h : DiskAt w base db sb secs bit armed left false) (hl : ∀ i, i < secs.length → secs[i]!.wr.length ≤ 1000) (hn : secs.length ≤ 1000) (h22 : 22 ≤ secs.length) (hsl : sl ≤ 1) :
    Calls Tryz.prog 55 #[.pointer (some ⟨db, 0, none⟩), .int .i64 sl] w fun e w' => e = .returned (.tuple #[.string (bareB ⟨(catP secs (1 + 10 * sl) 10).toArray⟩), .nilIface]) ∧ Below w.heap.size w w' := by
  have HD : Hid (∀ W, Below w.heap.size w W → DiskAt W base db sb secs bit armed left false) := fun W hb => h.below hb
  have HRD : Hid (∀ (k : Nat), k < 10 → ∀ W, Below w.heap.size w W → Calls Tryz.prog 87 #[.pointer (some ⟨db, 0, none⟩), .int .i64 (1 + (sl : Int) * 10 + k)] W fun e w' => e = .returned (.tuple #[.string (Dk.strOf secs[1 + 10 * sl + k]!.now), .nilIface]) ∧ Below W.heap.size W w') := fun k hk W hb => by
    have := read_any base db sb secs bit armed left false (1 + (sl : Int) * 10 + k) W (h.below hb) hl hn
    have hx : hasN secs.length (1 + (sl : Int) * 10 + k) = true := by unfold hasN; simp; omega
    rw [show readS secs false (1 + (sl : Int) * 10 + k) = Dk.strOf secs[1 + 10 * sl + k]!.now from by unfold readS; rw [hx]; simp only [if_true, Bool.false_eq_true, if_false]; congr 4; omega, show readN secs.length false (1 + (sl : Int) * 10 + k) = 0 from by unfold readN; rw [hx]; rfl, errV0] at this
    exact this
  generalize hPP : (fun (e : Ending) (w' : World) => e = .returned (.tuple #[.string (bareB ⟨(catP secs (1 + 10 * sl) 10).toArray⟩), .nilIface]) ∧ Below w.heap.size w w') = PP
  have HP : Hid (∀ w', Below w.heap.size w w' → PP (.returned (.tuple #[.string (bareB ⟨(catP secs (1 + 10 * sl) 10).toArray⟩), .nilIface])) w') := fun w' hb => by rw [← hPP]; exact ⟨rfl, hb⟩
  clear hPP h hl
  have ew : ∀ k : Nat, k < 10 → IntKind.i64.wrap (1 + (sl : Int) * 10 + k) = 1 + (sl : Int) * 10 + k := fun k hk => by rw [IntKind.wrap_i64]; omega
  obtain ⟨w0, hw0⟩ : ∃ w0, w.alloc (.cells #[.pointer none, .slice none 0 0] 150) = w0 := ⟨_, rfl⟩
  have N0 : Hid (Below w.heap.size w w0 ∧ Lib.IsBuilder 150 5 w.heap.size w.heap.size (Lib.byteCells (catP secs (1 + 10 * sl) 0)) w0) := by
    show _ ∧ _
    rw [← hw0]
    exact ⟨B.new1 _ _, Lib.fresh_isBuilder _ _ _⟩
  go_enter Tryz.func55, Tryz.ntmps55
  go_wp2_with fail
  clear hw0
  go_loopg [10] 10 (fun gg s10 wr => ∃ k : Nat, k ≤ 10 ∧ 10 - k ≤ gg ∧ s10 = .int .i64 k ∧ Hid (Below w.heap.size w wr ∧ Lib.IsBuilder 150 5 w.heap.size w.heap.size (Lib.byteCells (catP secs (1 + 10 * sl) k)) wr))
  case atStart => exact ⟨0, by omega, by omega, rfl, N0⟩
  case round =>
    clear N0
    obtain ⟨k, hk, hgg, rfl, M⟩ := hrel
    by_cases hlt : k < 10
    · have hltz : (k : Int) < 10 := by omega
      have HST : Hid (Calls Tryz.prog 90 #[.int .i64 sl] wr fun e w' => e = .returned (.int .i64 (1 + (sl : Int) * 10)) ∧ w' = wr) := start_any sl wr (by omega) (by omega)
      have HR : Hid (Calls Tryz.prog 87 #[.pointer (some ⟨db, 0, none⟩), .int .i64 (1 + (sl : Int) * 10 + k)] wr fun e w' => e = .returned (.tuple #[.string (Dk.strOf secs[1 + 10 * sl + k]!.now), .nilIface]) ∧ Below wr.heap.size wr w') := HRD.out k hlt wr M.out.1
      have HCT : Hid (catP secs (1 + 10 * sl) (k + 1) = catP secs (1 + 10 * sl) k ++ (Dk.strOf secs[1 + 10 * sl + k]!.now).data.toList) := rfl
      have HCL : Hid ((catP secs (1 + 10 * sl) k).length = 64 * k) := catP_len _ _ _
      have hsz : (Dk.strOf secs[1 + 10 * sl + k]!.now).size = 64 := strOf_size _
      have ewk := ew k hlt
      generalize Dk.strOf secs[1 + 10 * sl + k]!.now = S at *
      go_wp2_with fail
      refine HST.out.mono ?_
      rintro e w1 ⟨rfl, hw1⟩
      subst hw1
      go_wp2_with fail
      refine HR.out.mono ?_
      rintro e w2 ⟨rfl, b2⟩
      have M2 : Hid (Below w.heap.size w w2 ∧ Lib.IsBuilder 150 5 w.heap.size w.heap.size (Lib.byteCells (catP secs (1 + 10 * sl) k)) w2) := ⟨B.next M.out.1 b2 M.out.1.size, builder_below M.out.2 b2⟩
      have HW : Hid (Calls Tryz.prog 91 #[.pointer (some ⟨w.heap.size, 0, none⟩), .string S] w2 fun e w' => e = .returned (.tuple #[.int .i64 S.size, .nilIface]) ∧ (Lib.BuilderAt 150 5 w.heap.size w.heap.size (.pointer (some ⟨w.heap.size, 0, none⟩)) (Lib.byteCells (catP secs (1 + 10 * sl) k) ++ Lib.strCells S) w' ∧ Below w.heap.size w2 w')) :=
        Any.Builder_WriteString Tryz.lWS Tryz.xWS w.heap.size w.heap.size (Lib.byteCells (catP secs (1 + 10 * sl) k)) S w2 M2.out.2 (by rw [Lib.byteCells_length, HCL.out, hsz]; omega) M2.out.1.size
      clear M b2 HR HST
      go_wp2_with fail
      refine HW.out.mono ?_
      rintro e w3 ⟨rfl, hbu, b3⟩
      have M3 : Hid (Below w.heap.size w w3 ∧ Lib.IsBuilder 150 5 w.heap.size w.heap.size (Lib.byteCells (catP secs (1 + 10 * sl) (k + 1))) w3) := by
        refine ⟨M2.out.1.trans b3, ?_⟩
        rw [HCT.out]
        refine Or.inr ?_
        have e1 : Lib.byteCells (catP secs (1 + 10 * sl) k ++ S.data.toList) = Lib.byteCells (catP secs (1 + 10 * sl) k) ++ Lib.strCells S := by simp [Lib.byteCells, Lib.strCells]
        rw [e1]
        exact hbu
      clear hbu b3 M2 HW
      go_wp2
      go_roundg (10 - (k + 1))
      case measure => omega
      case rel => exact ⟨k + 1, by omega, by omega, by go_num, M3⟩
    · have hltz : ¬ (k : Int) < 10 := by omega
      have hke : k = 10 := by omega
      subst hke
      have hcl : (catP secs (1 + 10 * sl) 10).length = 640 := catP_len _ _ 10
      have HBS : Hid (Calls Tryz.prog 92 #[.pointer (some ⟨w.heap.size, 0, none⟩)] wr fun e w' => e = .returned (.string ⟨(catP secs (1 + 10 * sl) 10).toArray⟩) ∧ Below w.heap.size wr w') :=
        Any.Builder_String Tryz.lBStr Tryz.xBStr w.heap.size w.heap.size (catP secs (1 + 10 * sl) 10) wr M.out.2 (fun e => by rw [e] at hcl; cases hcl)
      have hts : (⟨(catP secs (1 + 10 * sl) 10).toArray⟩ : ByteArray).size = 640 := by show (catP secs (1 + 10 * sl) 10).toArray.size = 640; rw [List.size_toArray, hcl]
      generalize (⟨(catP secs (1 + 10 * sl) 10).toArray⟩ : ByteArray) = T at *
      go_wp2_with fail
      refine HBS.out.mono ?_
      rintro e w2 ⟨rfl, b2⟩
      have M2 : Hid (Below w.heap.size w w2) := M.out.1.trans b2
      have HBA : Hid (Calls Tryz.prog 88 #[.string T] w2 fun e w' => e = .returned (.string (bareB T)) ∧ w' = w2) := bare_any T w2 (by omega)
      clear M b2 HBS
      go_wp2_with fail
      refine HBA.out.mono ?_
      rintro e w3 ⟨rfl, hw3⟩
      subst hw3
      have HF : Hid (PP (.returned (.tuple #[.string (bareB T), .nilIface])) w3) := HP.out _ M2.out
      clear HP M2 HBA
      go_wp2
      exact HF.out

end Lg
end Go.Proofs.YtaikbojdmfkbhaaGreatDoor
