/- Chapter 6: the disk: which sectors there are, what is read; contracts for the laws of stage 3. -/
import Derived.Test.YtmojjjikaaclpaaDisk
namespace Go.Proofs.Ytmojjjikaaclpaa
open Go.Shelf Go.Lib Go.ChangeShapes Go.WideShapes Go.ChangeAt Go.RowKit
set_option maxRecDepth 100000
set_option linter.unusedSimpArgs false
set_option linter.unusedVariables false

namespace Dk
open Bk
/-- A disk lies in blocks of its own. -/
structure DiskAt (w : World) (base db sb : Nat) (secs : List Sec) (bit : Int) (armed : Bool) (left : Int) (down : Bool) : Prop where
  d : Blk w db #[.slice (some ⟨sb, 0, none⟩) secs.length secs.length, .int .i64 bit, .bool armed, .int .i64 left, .bool down] 63
  s : Blk w sb (secs.flatMap Sec.enc).toArray 74
  own : ∀ i, i < secs.length → OwnAt w base 70 65 Wr.enc secs[i]!.v secs[i]!.wr
  ne : ∀ i j, i < secs.length → j < secs.length → i ≠ j → ∀ g, secs[i]!.v.ownBlock = some g → secs[j]!.v.ownBlock ≠ some g
  hb : base ≤ db ∧ base ≤ sb
theorem DiskAt.below {w w' : World} {base db sb : Nat} {secs : List Sec} {bit : Int} {armed : Bool} {left : Int} {down : Bool} (h : DiskAt w base db sb secs bit armed left down) (hb : Below w.heap.size w w') : DiskAt w' base db sb secs bit armed left down :=
  ⟨h.d.below hb, h.s.below hb, fun i hi => (h.own i hi).below hb, h.ne, h.hb⟩
theorem DiskAt.sec {w : World} {base db sb : Nat} {secs : List Sec} {bit : Int} {armed : Bool} {left : Int} {down : Bool} (h : DiskAt w base db sb secs bit armed left down) {i : Nat} (hi : i < secs.length) : SecAt w base sb (i * 65) secs[i]! :=
  ⟨fun j v hv => by
    have hj : j < 65 := by rw [← Sec.enc_len secs[i]!]; exact (List.getElem?_eq_some_iff.1 hv).1
    rw [h.s.cell]
    have := flat_get Sec.enc 65 Sec.enc_len secs i j hi hj
    rw [List.getElem?_toArray, this, hv], h.own i hi⟩
def hasN (n : Nat) (x : Int) : Bool := decide (0 ≤ x) && decide (x < n)

set_option maxHeartbeats 2000000 in
theorem has_any (db sb n : Nat) (x : Int) (w : World) (c0 : w.cell? ⟨db, 0, none⟩ = some (.slice (some ⟨sb, 0, none⟩) n n)) :
    Calls Try.prog 21 #[.pointer (some ⟨db, 0, none⟩), .int .i64 x] w fun e w' => e = .returned (.bool (hasN n x)) ∧ w' = w := by
  by_cases h0 : 0 ≤ x
  · go_enter Try.func21, Try.ntmps21
    go_wp2
    go_returns
    exact ⟨by simp [hasN, h0], rfl⟩
  · go_enter Try.func21, Try.ntmps21
    go_wp2
    go_returns
    exact ⟨by simp [hasN]; omega, rfl⟩

/-- A content as text. -/
def strOf (c : Nat → Int) : ByteArray := ((List.range 64).map c).foldl (fun r n => r.push (UInt8.ofNat n.toNat)) ByteArray.empty
theorem conv_run {w : World} {b : Nat} {c : Nat → Int} {T : TypeId} (h : Blk w b (conV c).toArray T) : (convert 71 9 (.slice (some ⟨b, 0, none⟩) 64 64)).run Try.prog w = .ok (.string (strOf c)) w := by
  rw [run_convert_bytes_string w 71 9 5 _ _ _ (by kernel_rfl) (by kernel_rfl) (by kernel_rfl)]
  refine run_bytesToString w _ _ _ ((List.range 64).map c) ?_
  have := run_loadCells_list (P := Try.prog) w ⟨b, 0, none⟩ (conV c) (fun j v hv => by rw [Addr.add_mid]; exact blk_range h j v hv)
  rw [conV_len] at this
  rw [this]
  unfold conV
  rw [List.map_map]
  rfl
def readN (n : Nat) (down : Bool) (x : Int) : Int := if down = true then 9 else if hasN n x = true then 0 else 1
def readS (secs : List Sec) (down : Bool) (x : Int) : ByteArray := if down = true then ⟨#[]⟩ else if hasN secs.length x = true then strOf secs[x.toNat]!.now else ⟨#[]⟩

set_option maxHeartbeats 4000000 in
theorem read_any (base db sb : Nat) (secs : List Sec) (bit : Int) (armed : Bool) (left : Int) (down : Bool) (x : Int) (w : World) (h : DiskAt w base db sb secs bit armed left down) (hl : ∀ i, i < secs.length → secs[i]!.wr.length ≤ 1000) (hn : secs.length ≤ 1000) :
    Calls Try.prog 12 #[.pointer (some ⟨db, 0, none⟩), .int .i64 x] w fun e w' => e = .returned (.tuple #[.string (readS secs down x), errV (readN secs.length down x)]) ∧ Below w.heap.size w w' := by
  have rd := h.d.cell
  have HH : Hid (Calls Try.prog 21 #[.pointer (some ⟨db, 0, none⟩), .int .i64 x] w fun e w' => e = .returned (.bool (hasN secs.length x)) ∧ w' = w) := has_any db sb secs.length x w (h.d.cell 0)
  generalize hPP : (fun (e : Ending) (w' : World) => e = .returned (.tuple #[.string (readS secs down x), errV (readN secs.length down x)]) ∧ Below w.heap.size w w') = PP
  cases down
  case true =>
    have HP : Hid (PP (.returned (.tuple #[.string ⟨#[]⟩, .iface 60 (.int .i64 9)])) w) := by show PP _ _; rw [← hPP]; exact ⟨rfl, Below.refl _ _⟩
    clear hPP h HH
    go_enter Try.func12, Try.ntmps12
    go_wp2
    exact HP.out
  cases hx : hasN secs.length x
  · have HP : Hid (PP (.returned (.tuple #[.string ⟨#[]⟩, .iface 60 (.int .i64 1)])) w) := by
      show PP _ _
      rw [← hPP]
      unfold readS readN
      rw [hx]
      exact ⟨rfl, Below.refl _ _⟩
    rw [hx] at HH
    clear hPP h hx
    go_enter Try.func12, Try.ntmps12
    go_wp2_with fail
    refine HH.out.mono ?_
    rintro e w1 ⟨rfl, rfl⟩
    go_wp2
    exact HP.out
  · obtain ⟨i, rfl⟩ : ∃ i : Nat, x = (i : Int) := ⟨x.toNat, by simp [hasN] at hx; omega⟩
    have hi : i < secs.length := by simp [hasN] at hx; omega
    have hiz : (i : Int) < (secs.length : Int) := by omega
    have HP0 : Hid (∀ w', Below w.heap.size w w' → PP (.returned (.tuple #[.string (strOf secs[i]!.now), .nilIface])) w') := fun w' hb => by
      rw [← hPP]
      unfold readS readN
      rw [hx]
      exact ⟨rfl, hb⟩
    have HNW : Hid (Calls Try.prog 25 #[.pointer (some ⟨sb, i * 65, none⟩)] w fun e w' => e = .returned (.agg (conV secs[i]!.now).toArray) ∧ Below w.heap.size w w') := now_any base sb (i * 65) secs[i]! w (h.sec hi) (hl i hi)
    rw [hx] at HH
    obtain ⟨S, hS⟩ : ∃ S, strOf secs[i]!.now = S := ⟨_, rfl⟩
    rw [hS] at HP0
    obtain ⟨L, hL⟩ : ∃ L, conV secs[i]!.now = L := ⟨_, rfl⟩
    rw [hL] at HNW
    have HCV : Hid (∀ wx b T, Blk wx b L.toArray T → (convert 71 9 (.slice (some ⟨b, 0, none⟩) 64 64)).run Try.prog wx = .ok (.string S) wx) := fun wx b T hb => by
      rw [← hS]
      rw [← hL] at hb
      exact conv_run hb
    have hLs : L.toArray.size = 64 := by rw [← hL]; simp [conV_len]
    have hL1 : L.toArray.all (·.oneCell') = true := by rw [← hL]; exact all_oneCell_toArray (conV_one _)
    have hLj : (Try.prog.info? 68).map (·.size) = some L.toArray.size := by rw [hLs]; exact conI
    obtain ⟨ZC, hZ⟩ : ∃ ZC, (conV fun _ => 0).toArray = ZC := ⟨_, rfl⟩
    have hZC : ∀ w, (zeroValue 68).run Try.prog w = .ok (.agg ZC) w := fun w => by rw [← hZ]; exact conZ w
    have hZs : ZC.size = 64 := by rw [← hZ]; simp [conV_len]
    clear hPP h hx hl hS hL hZ
    go_enter Try.func12, Try.ntmps12
    go_wp2_with fail
    refine HH.out.mono ?_
    rintro e w1 ⟨rfl, rfl⟩
    go_wp2_with fail
    refine HNW.out.mono ?_
    rintro e w2 ⟨rfl, b2⟩
    obtain ⟨w3, hw3⟩ : ∃ w3, w2.alloc (.cells ZC 68) = w3 := ⟨_, rfl⟩
    have X3 : Hid (Below w1.heap.size w1 w3 ∧ Blk w3 w2.heap.size ZC 68) := by
      show _ ∧ _
      rw [← hw3]
      exact ⟨b2.alloc b2.size _, Blk.new _ _ _⟩
    obtain ⟨w4, hw4⟩ : ∃ w4, w3.setCells w2.heap.size 0 L.toArray.toList = w4 := ⟨_, rfl⟩
    have X4 : Hid (Below w1.heap.size w1 w4 ∧ Blk w4 w2.heap.size L.toArray 68) := by
      show _ ∧ _
      rw [← hw4]
      exact ⟨below_cells b2.size _ 0 X3.out.1, blk_all X3.out.2 (by rw [hZs, ← hLs]; simp)⟩
    have HT : Hid (w3.there w2.heap.size 0 L.toArray.size) := blk_there X3.out.2 0 _ (by rw [hZs, hLs]; exact Nat.le_refl _)
    have hW4 : Hid (w3.setCells w2.heap.size 0 L.toArray.toList = w4) := hw4
    have hcv := HCV.out w4 _ _ X4.out.2
    clear hw4 b2 HCV hZs hLs
    go_wp2_with (refine wpList_store_as rfl 68 _ _ rfl w2.heap.size 0 L.toArray rfl rfl HT.out hLj hL1 w4 hW4.out ?_)
    exact HP0.out _ X4.out.1

end Dk
end Go.Proofs.Ytmojjjikaaclpaa
