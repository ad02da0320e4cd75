/- BookSays: any book, any text; the walk. -/
import Derived.Test.YtkgicpialdhnhaaDoorRBookOf
import Derived.Test.YtkgicpialdhnhaaDoorRTextB
import Derived.Test.YtkgicpialdhnhaaDoorTopPickA
import Derived.Test.YtkgicpialdhnhaaDoorSameBook
import Derived.Test.YtkgicpialdhnhaaDoorCopy
namespace Go.Proofs.YtkgicpialdhnhaaDoor
open Go.Shelf Go.ChangeShapes Go.WideShapes Go.ChangeAt Go.RowKit
set_option maxRecDepth 100000
set_option linter.unusedSimpArgs false
set_option linter.unusedVariables false

namespace Tx
open Bk
def resB (r : Option PB) : PB := r.getD ⟨0, [], []⟩
def resE (r : Option PB) : Int := if r.isSome = true then 0 else 4
theorem at_nil (w : World) : Book.At ⟨0, none, 0, none, 0, [], []⟩ w := ⟨⟨Nat.le_refl _, Nat.zero_le _, fun h => absurd h (Nat.lt_irrefl _)⟩, ⟨Nat.le_refl _, Nat.zero_le _, fun h => absurd h (Nat.lt_irrefl _)⟩⟩
/-- A book, and an error's number. -/
def ResPost (r : Option PB) (ev : Int → Value) (w : World) (e : Ending) (w' : World) : Prop := Below w.heap.size w w' ∧ ∃ (sa : Option Addr) (sc : Nat) (ja : Option Addr) (jc : Nat), e = .returned (.tuple #[.agg #[.int .i64 (resB r).last, .slice sa (resB r).stays.length sc, .slice ja (resB r).jobs.length jc], ev (resE r)]) ∧ Book.At ⟨(resB r).last, sa, sc, ja, jc, (resB r).stays, (resB r).jobs⟩ w'
theorem parse_res (s : ByteArray) (n : Nat) (w : World) (hs : s.size ≤ 1000) (n1 : 1 ≤ n) (n4 : n ≤ 4) (G : Glob w) : Calls Tryd.prog 9 #[.string s, .int .i64 n] w (ResPost (parseP s n) errV w) := by
  refine (parse_any s n w (by omega) n1 n4 G).mono ?_
  rintro e w' ⟨hb, ⟨hno, rfl⟩ | ⟨b, vs, vj, hyes, rfl, ho⟩⟩
  · rw [hno]
    exact ⟨hb, none, 0, none, 0, rfl, at_nil w'⟩
  · rw [hyes]
    obtain ⟨sa, sc, rfl, h1⟩ := ho.s.rows
    obtain ⟨ja, jc, rfl, h2⟩ := ho.j.rows
    exact ⟨hb, sa, sc, ja, jc, rfl, h1, h2⟩
theorem bookOf_res (s : ByteArray) (n : Nat) (w : World) (hs : s.size ≤ 1000) (n1 : 1 ≤ n) (n4 : n ≤ 4) : Calls Tryd.prog 10 #[.string s, .int .i64 n] w (ResPost (parseP s n) (Value.int .i64) w) := by
  refine (rbookOf_any s n w hs n1 n4).mono ?_
  rw [← ref_parse s n n4]
  rintro e w' ⟨hb, ⟨hno, rfl⟩ | ⟨b, sa, sc, ja, jc, hyes, rfl, ho⟩⟩
  · rw [hno]
    exact ⟨hb, none, 0, none, 0, rfl, at_nil w'⟩
  · rw [hyes]
    exact ⟨hb, sa, sc, ja, jc, rfl, ho⟩
theorem text_books : textL 1 [⟨1, 7, 1, 1, 1, 1, 0, 1⟩] [⟨1, false⟩] = [49, 32, 49, 32, 49, 32, 49, 32, 55, 32, 49, 32, 49, 32, 49, 32, 49, 32, 48, 32, 49, 32, 49, 32, 48] := by
  have e7 : Lib.itoa 7 = [55] := by rw [itoa_pos (by decide)]; exact Lib.decDigits_one (by decide)
  have e1 : Lib.itoa 1 = [49] := by rw [itoa_pos (by decide)]; exact Lib.decDigits_one (by decide)
  have e0 : Lib.itoa 0 = [48] := by rw [itoa_pos (by decide)]; exact Lib.decDigits_one (by decide)
  show Lib.join (([1, ((1 : Nat) : Int), ((1 : Nat) : Int), 1, 7, 1, 1, 1, 1, 0, 1, 1, 0] : List Int).map Lib.itoa) [32] = _
  simp only [List.map_cons, List.map_nil, Int.natCast_one, e7, e1, e0]
  simp only [join_two, Lib.join_one]
  rfl
theorem parse_books : parseP ⟨#[49, 32, 49, 32, 49, 32, 49, 32, 55, 32, 49, 32, 49, 32, 49, 32, 49, 32, 48, 32, 49, 32, 49, 32, 48]⟩ 1 = some ⟨1, [⟨1, 7, 1, 1, 1, 1, 0, 1⟩], [⟨1, false⟩]⟩ := by
  have hz : bookN ⟨1, none, 0, none, 0, [⟨1, 7, 1, 1, 1, 1, 0, 1⟩], [⟨1, false⟩]⟩ 1 = 0 := by decide
  have h := parse_text (n := 1) (by decide) ((bookN_zero _ _).1 hz)
  simp only at h
  rw [text_books] at h
  exact h

set_option maxHeartbeats 2000000 in
theorem books_any (w : World) (G : Glob w) : Calls Tryd.prog 4 #[] w fun e w' => e = .returned (.bool true) ∧ Below w.heap.size w w' := by
  have HP : Hid (∀ w', Below w.heap.size w w' → (fun (e : Ending) (w' : World) => e = .returned (.bool true) ∧ Below w.heap.size w w') (.returned (.bool true)) w') := fun w' hb => ⟨rfl, hb⟩
  generalize (fun (e : Ending) (w' : World) => e = .returned (.bool true) ∧ Below w.heap.size w w') = PP at *
  have HPS : Hid (Calls Tryd.prog 9 #[.string ⟨#[49, 32, 49, 32, 49, 32, 49, 32, 55, 32, 49, 32, 49, 32, 49, 32, 49, 32, 48, 32, 49, 32, 49, 32, 48]⟩, .int .i64 1] w fun e w' => Below w.heap.size w w' ∧ ∃ (sa : Option Addr) (sc : Nat) (ja : Option Addr) (jc : Nat), e = .returned (.tuple #[.agg #[.int .i64 1, .slice sa 1 sc, .slice ja 1 jc], .nilIface]) ∧ Book.At ⟨1, sa, sc, ja, jc, [⟨1, 7, 1, 1, 1, 1, 0, 1⟩], [⟨1, false⟩]⟩ w') := by
    have h := parse_res ⟨#[49, 32, 49, 32, 49, 32, 49, 32, 55, 32, 49, 32, 49, 32, 49, 32, 49, 32, 48, 32, 49, 32, 49, 32, 48]⟩ 1 w (by decide) (by decide) (by decide) G
    rw [parse_books] at h
    exact h
  go_enter Tryd.func4, Tryd.ntmps4
  go_wp2_with fail
  refine HPS.out.mono ?_
  rintro e w1 ⟨b1, sa, sc, ja, jc, rfl, hat⟩
  obtain ⟨sb, soff, rfl⟩ := rowsSome hat.1 (by simp)
  have HC : Hid (∀ W, Below w1.heap.size w1 W → W.cell? ⟨sb, soff + 1, none⟩ = some (.int .i64 7)) := fun W hb => by
    have := rowsCell (hat.1.below hb) 0 (by simp) 1 _ rfl
    simpa using this
  obtain ⟨w2, hw2⟩ : ∃ w2, w1.alloc (.cells #[.int .i64 1, .slice (some ⟨sb, soff, none⟩) 1 sc, .slice ja 1 jc] 25) = w2 := ⟨_, rfl⟩
  have N2 : Hid (Below w.heap.size w w2 ∧ Blk w2 w1.heap.size #[.int .i64 1, .slice (some ⟨sb, soff, none⟩) 1 sc, .slice ja 1 jc] 25 ∧ Below w1.heap.size w1 w2) := by
    show _ ∧ _ ∧ _
    rw [← hw2]
    exact ⟨b1.alloc b1.size _, Blk.new _ _ _, B.new1 _ _⟩
  have HSM : Hid (Calls Tryd.prog 7 #[.nilIface, .int .i64 0] w2 fun e w' => e = .returned (.bool true) ∧ w' = w2) := same_any 0 w2 (by decide)
  have r2 := N2.out.2.1.cell
  have c2 := HC.out w2 N2.out.2.2
  have HF := HP.out w2 N2.out.1
  clear hat b1 HPS HC N2 HP
  go_wp2_with fail
  refine HSM.out.mono ?_
  rintro e w3 ⟨rfl, hw3⟩
  subst hw3
  go_wp2
  exact HF

/-- The first one that is so, from k on. -/
def upI (p : Stay → Bool) (l : List Stay) (k : Nat) : Int := Lib.idxByFrom (fun _ y => p y) default (l.drop k) k
theorem upI_end (p : Stay → Bool) (l : List Stay) : upI p l l.length = -1 := by
  unfold upI
  rw [List.drop_length]
  rfl
theorem upI_step (p : Stay → Bool) (l : List Stay) (k : Nat) (h : k < l.length) : upI p l k = if p l[k]! = true then (k : Int) else upI p l (k + 1) := by
  unfold upI
  rw [List.drop_eq_getElem_cons h, getElem!_pos l k h]
  rfl
theorem upI_find (b : Book) (t : Int) : upI (fun s => s.t == t) b.stays 0 = findI b t := rfl
theorem upI_of (b : Book) (t : Int) : upI (fun s => s.id == t) b.stays 0 = ofI b t := rfl

set_option maxHeartbeats 8000000 in
theorem bookSays_any (b : Book) (s : ByteArray) (lv t id : Int) (w : World) (h : b.At w) (G : Glob w) :
    Calls Tryd.prog 3 #[b.val, .string s, .int .i64 lv, .int .i64 t, .int .i64 id] w fun e w' => e = .returned (.bool true) ∧ Below w.heap.size w w' := by
  have HP : Hid (∀ w', Below w.heap.size w w' → (fun (e : Ending) (w' : World) => e = .returned (.bool true) ∧ Below w.heap.size w w') (.returned (.bool true)) w') := fun w' hb => ⟨rfl, hb⟩
  generalize (fun (e : Ending) (w' : World) => e = .returned (.bool true) ∧ Below w.heap.size w w') = PP at *
  obtain ⟨last, sa, sc, ja, jc, stays, jobs⟩ := b
  have HA : Hid (∀ W, Below w.heap.size w W → Book.At ⟨last, sa, sc, ja, jc, stays, jobs⟩ W) := fun W hb => h.below hb
  have HG : Hid (∀ W, Below w.heap.size w W → Glob W) := fun W hb => G.new hb
  obtain ⟨w0, hw0⟩ : ∃ w0, w.alloc (.cells #[.int .i64 last, .slice sa stays.length sc, .slice ja jobs.length jc] 25) = w0 := ⟨_, rfl⟩
  have N0 : Hid (Below w.heap.size w w0 ∧ Blk w0 w.heap.size #[.int .i64 last, .slice sa stays.length sc, .slice ja jobs.length jc] 25) := by
    show _ ∧ _
    rw [← hw0]
    exact ⟨B.new1 _ _, Blk.new _ _ _⟩
  have HB0 : Hid (Calls Tryd.prog 4 #[] w0 fun e w' => e = .returned (.bool true) ∧ Below w0.heap.size w0 w') := books_any w0 (HG.out _ N0.out.1)
  unfold Book.val
  clear h G
  go_enter Tryd.func3, Tryd.ntmps3
  go_wp2_with fail
  clear hw0
  refine HB0.out.mono ?_
  rintro e w1 ⟨rfl, b1⟩
  have N1 : Hid (Below w.heap.size w w1 ∧ Blk w1 w.heap.size #[.int .i64 last, .slice sa stays.length sc, .slice ja jobs.length jc] 25) := ⟨B.next N0.out.1 b1 N0.out.1.size, N0.out.2.below b1⟩
  clear N0 b1 HB0
  have r1 := N1.out.2.cell
  have HLB : Hid (Calls Tryd.prog 5 #[.agg #[.int .i64 last, .slice sa stays.length sc, .slice ja jobs.length jc]] w1 fun e w' => e = .returned (.bool (lightB ⟨last, sa, sc, ja, jc, stays, jobs⟩)) ∧ Below w1.heap.size w1 w') := lightBook_any ⟨last, sa, sc, ja, jc, stays, jobs⟩ w1 (HA.out _ N1.out.1)
  go_wp2_with fail
  refine HLB.out.mono ?_
  rintro e w2 ⟨rfl, b2⟩
  have N2 : Hid (Below w.heap.size w w2 ∧ Blk w2 w.heap.size #[.int .i64 last, .slice sa stays.length sc, .slice ja jobs.length jc] 25) := ⟨B.next N1.out.1 b2 N1.out.1.size, N1.out.2.below b2⟩
  clear N1 b2 HLB r1
  have r2 := N2.out.2.cell
  have HF2 : Hid (PP (.returned (.bool true)) w2) := HP.out _ N2.out.1
  cases hl : lightB ⟨last, sa, sc, ja, jc, stays, jobs⟩
  · clear HA HG N2
    go_wp2
    exact HF2.out
  have hl2 : stays.length ≤ 20 ∧ jobs.length ≤ 12 := by
    unfold lightB at hl
    simpa using hl
  clear hl
  by_cases hs8 : 800 < s.size
  · have hs8z : (800 : Int) < (s.size : Int) := by omega
    clear HA HG N2
    go_wp2
    exact HF2.out
  have hs8z : ¬ (800 : Int) < (s.size : Int) := by omega
  by_cases hlv1 : lv < 1
  · clear HA HG N2
    go_wp2
    exact HF2.out
  by_cases hlv4 : 4 < lv
  · clear HA HG N2
    go_wp2
    exact HF2.out
  obtain ⟨n, rfl⟩ : ∃ n : Nat, lv = (n : Int) := ⟨lv.toNat, by omega⟩
  have n1 : 1 ≤ n := by omega
  have n4 : n ≤ 4 := by omega
  have HBF : Hid (Calls Tryd.prog 6 #[.agg #[.int .i64 last, .slice sa stays.length sc, .slice ja jobs.length jc], .int .i64 n] w2 fun e w' => e = .returned (.int .i64 (bookN ⟨last, sa, sc, ja, jc, stays, jobs⟩ n)) ∧ Below w2.heap.size w2 w') := rbookFault_eq ⟨last, sa, sc, ja, jc, stays, jobs⟩ n w2 (HA.out _ N2.out.1) n1 n4
  have HNN := bookN_nn' ⟨last, sa, sc, ja, jc, stays, jobs⟩ n
  have HOK : Hid (bookN ⟨last, sa, sc, ja, jc, stays, jobs⟩ n = 0 → BookOK last n stays jobs) := fun hz => (bookN_zero _ _).1 hz
  have HCK : Hid (∀ W, Below w.heap.size w W → Calls Tryd.prog 8 #[.agg #[.int .i64 last, .slice sa stays.length sc, .slice ja jobs.length jc], .int .i64 n] W fun e w' => e = .returned (errV (bookN ⟨last, sa, sc, ja, jc, stays, jobs⟩ n)) ∧ Below W.heap.size W w') := fun W hb => bookCheck_any ⟨last, sa, sc, ja, jc, stays, jobs⟩ n W (HA.out _ hb) n1 n4
  generalize bookN ⟨last, sa, sc, ja, jc, stays, jobs⟩ n = qf at *
  clear HF2
  go_wp2_with fail
  refine HBF.out.mono ?_
  rintro e w3 ⟨rfl, b3⟩
  have N3 : Hid (Below w.heap.size w w3 ∧ Blk w3 w.heap.size #[.int .i64 last, .slice sa stays.length sc, .slice ja jobs.length jc] 25) := ⟨B.next N2.out.1 b3 N2.out.1.size, N2.out.2.below b3⟩
  clear N2 b3 HBF r2
  have r3 := N3.out.2.cell
  have HCK3 : Hid (Calls Tryd.prog 8 #[.agg #[.int .i64 last, .slice sa stays.length sc, .slice ja jobs.length jc], .int .i64 n] w3 fun e w' => e = .returned (errV qf) ∧ Below w3.heap.size w3 w') := HCK.out w3 N3.out.1
  clear HCK
  go_wp2_with fail
  refine HCK3.out.mono ?_
  rintro e w4 ⟨rfl, b4⟩
  have N4 : Hid (Below w.heap.size w w4 ∧ Blk w4 w.heap.size #[.int .i64 last, .slice sa stays.length sc, .slice ja jobs.length jc] 25) := ⟨B.next N3.out.1 b4 N3.out.1.size, N3.out.2.below b4⟩
  clear N3 b4 HCK3 r3
  have HSM : Hid (Calls Tryd.prog 7 #[errV qf, .int .i64 qf] w4 fun e w' => e = .returned (.bool true) ∧ w' = w4) := same_any qf w4 HNN
  have HPS : Hid (Calls Tryd.prog 9 #[.string s, .int .i64 n] w4 (ResPost (parseP s n) errV w4)) := parse_res s n w4 (by omega) n1 n4 (HG.out _ N4.out.1)
  have HBO : Hid (∀ W, Calls Tryd.prog 10 #[.string s, .int .i64 n] W fun e w' => Below W.heap.size W w' ∧ ∃ (sa : Option Addr) (sc : Nat) (ja : Option Addr) (jc : Nat), e = .returned (.tuple #[.agg #[.int .i64 (resB (parseP s n)).last, .slice sa (resB (parseP s n)).stays.length sc, .slice ja (resB (parseP s n)).jobs.length jc], .int .i64 (resE (parseP s n))]) ∧ Book.At ⟨(resB (parseP s n)).last, sa, sc, ja, jc, (resB (parseP s n)).stays, (resB (parseP s n)).jobs⟩ w') := fun W => bookOf_res s n W (by omega) n1 n4
  generalize parseP s n = r at *
  generalize errV qf = ev0 at *
  go_wp2_with fail
  refine HSM.out.mono ?_
  rintro e w5 ⟨rfl, hw5⟩
  subst hw5
  clear HSM
  go_wp2_with fail
  refine HPS.out.mono ?_
  rintro e w6 ⟨b6, xa, xc, ya, yc, rfl, hat⟩
  have hre : 0 ≤ resE r := by unfold resE; split <;> decide
  generalize resE r = er at *
  generalize resB r = br at *
  obtain ⟨bl, bs, bj⟩ := br
  simp only at *
  obtain ⟨w7, hw7⟩ : ∃ w7, w6.alloc (.cells #[.int .i64 bl, .slice xa bs.length xc, .slice ya bj.length yc] 25) = w7 := ⟨_, rfl⟩
  have N7 : Hid (Below w.heap.size w w7 ∧ Blk w7 w.heap.size #[.int .i64 last, .slice sa stays.length sc, .slice ja jobs.length jc] 25 ∧ Blk w7 w6.heap.size #[.int .i64 bl, .slice xa bs.length xc, .slice ya bj.length yc] 25 ∧ Book.At ⟨bl, xa, xc, ya, yc, bs, bj⟩ w7) := by
    show _ ∧ _ ∧ _ ∧ _
    rw [← hw7]
    have h6 := B.next N4.out.1 b6 N4.out.1.size
    exact ⟨h6.alloc h6.size _, (N4.out.2.below b6).old _, Blk.new _ _ _, hat.below (B.new1 _ _)⟩
  clear hat b6 HPS N4
  have HSME : Hid (∀ W, Calls Tryd.prog 7 #[errV er, .int .i64 er] W fun e w' => e = .returned (.bool true) ∧ w' = W) := fun W => same_any er W hre
  generalize errV er = ev at *
  go_wp2_with fail
  clear hw7
  generalize w6.heap.size = xb at *
  refine (HBO.out w7).mono ?_
  rintro e w8 ⟨b8, za, zc, va, vc, rfl, hat⟩
  obtain ⟨w9, hw9⟩ : ∃ w9, w8.alloc (.cells #[.int .i64 bl, .slice za bs.length zc, .slice va bj.length vc] 25) = w9 := ⟨_, rfl⟩
  have N9 : Hid (Below w.heap.size w w9 ∧ Blk w9 w.heap.size #[.int .i64 last, .slice sa stays.length sc, .slice ja jobs.length jc] 25 ∧ Blk w9 xb #[.int .i64 bl, .slice xa bs.length xc, .slice ya bj.length yc] 25 ∧ Book.At ⟨bl, xa, xc, ya, yc, bs, bj⟩ w9 ∧ Blk w9 w8.heap.size #[.int .i64 bl, .slice za bs.length zc, .slice va bj.length vc] 25 ∧ Book.At ⟨bl, za, zc, va, vc, bs, bj⟩ w9) := by
    show _ ∧ _ ∧ _ ∧ _ ∧ _ ∧ _
    rw [← hw9]
    have h8 := B.next N7.out.1 b8 N7.out.1.size
    exact ⟨h8.alloc h8.size _, (N7.out.2.1.below b8).old _, (N7.out.2.2.1.below b8).old _, (N7.out.2.2.2.below b8).below (B.new1 _ _), Blk.new _ _ _, hat.below (B.new1 _ _)⟩
  clear hat b8 HBO N7
  have HSM9 : Hid (Calls Tryd.prog 7 #[ev, .int .i64 er] w9 fun e w' => e = .returned (.bool true) ∧ w' = w9) := HSME.out w9
  clear HSME
  go_wp2_with fail
  clear hw9
  generalize w8.heap.size = yb at *
  refine HSM9.out.mono ?_
  rintro e w10 ⟨rfl, hw10⟩
  subst hw10
  have x9 := N9.out.2.2.1.cell
  have y9 := N9.out.2.2.2.2.1.cell
  have HSB : Hid (Calls Tryd.prog 11 #[.agg #[.int .i64 bl, .slice xa bs.length xc, .slice ya bj.length yc], .agg #[.int .i64 bl, .slice za bs.length zc, .slice va bj.length vc]] w10 fun e w' => e = .returned (.bool true) ∧ Below w10.heap.size w10 w') := sameBook_any bl bs bj xa ya za va xc yc zc vc w10 N9.out.2.2.2.1 N9.out.2.2.2.2.2
  clear HSM9
  go_wp2_with fail
  refine HSB.out.mono ?_
  rintro e w11 ⟨rfl, b11⟩
  have N11 : Hid (Below w.heap.size w w11 ∧ Blk w11 w.heap.size #[.int .i64 last, .slice sa stays.length sc, .slice ja jobs.length jc] 25) := ⟨B.next N9.out.1 b11 N9.out.1.size, N9.out.2.1.below b11⟩
  clear N9 b11 HSB x9 y9
  have HF2 : Hid (PP (.returned (.bool true)) w11) := HP.out _ N11.out.1
  by_cases hq0 : qf = 0
  case neg =>
    have hqp : 0 < qf := by omega
    clear HA HG N11 HOK
    go_wp2
    exact HF2.out
  have HOK2 : Hid (BookOK last n stays jobs) := HOK.out hq0
  have hqn : ¬ 0 < qf := by omega
  clear HF2 HOK HNN
  have HTX : Hid (∀ W, Below w11.heap.size w11 W → Calls Tryd.prog 12 #[.agg #[.int .i64 last, .slice sa stays.length sc, .slice ja jobs.length jc]] W fun e w' => e = .returned (.string ⟨(textL last stays jobs).toArray⟩) ∧ Below W.heap.size W w') := fun W hb => by
    have hw := B.next N11.out.1 hb N11.out.1.size
    exact text_any ⟨last, sa, sc, ja, jc, stays, jobs⟩ W (HA.out _ hw) (HG.out _ hw) (by show stays.length ≤ 1000; omega) (by show jobs.length ≤ 1000; omega) (ok_nums n4 HOK2.out) (by have := text_short n4 HOK2.out; show (textL last stays jobs).length ≤ _; omega)
  have HRT : Hid (∀ W, Below w11.heap.size w11 W → Calls Tryd.prog 13 #[.agg #[.int .i64 last, .slice sa stays.length sc, .slice ja jobs.length jc]] W fun e w' => e = .returned (.string ⟨(textL last stays jobs).toArray⟩) ∧ Below W.heap.size W w') := fun W hb => by
    have hw := B.next N11.out.1 hb N11.out.1.size
    exact rbookText_any ⟨last, sa, sc, ja, jc, stays, jobs⟩ W (HA.out _ hw) (by show stays.length ≤ 1000; omega) (by show jobs.length ≤ 1000; omega) (ok_nums n4 HOK2.out)
  have HCP : Hid (∀ W, Below w11.heap.size w11 W → Calls Tryd.prog 14 #[.agg #[.int .i64 last, .slice sa stays.length sc, .slice ja jobs.length jc]] W fun e w' => ∃ d1 d2 d3 d4, e = .returned (.agg #[.int .i64 last, .slice d1 stays.length d2, .slice d3 jobs.length d4]) ∧ Book.At ⟨last, d1, d2, d3, d4, stays, jobs⟩ w' ∧ Below w11.heap.size w11 w') := fun W hb => by
    have hw := B.next N11.out.1 hb N11.out.1.size
    refine (copy_any ⟨last, sa, sc, ja, jc, stays, jobs⟩ W (HA.out _ hw) (by show stays.length ≤ 1000; omega) (by show jobs.length ≤ 1000; omega)).mono ?_
    rintro e w' ⟨vs, vj, rfl, ho, hb'⟩
    obtain ⟨a1, c1, rfl, h1⟩ := ho.s.rows
    obtain ⟨a2, c2, rfl, h2⟩ := ho.j.rows
    exact ⟨a1, c1, a2, c2, rfl, ⟨h1, h2⟩, B.next hb hb' hb.size⟩
  have HS : Hid (∀ W, Below w11.heap.size w11 W → W.cell? ⟨w.heap.size, 0, none⟩ = some (.int .i64 last) ∧ W.cell? ⟨w.heap.size, 1, none⟩ = some (.slice sa stays.length sc) ∧ W.cell? ⟨w.heap.size, 2, none⟩ = some (.slice ja jobs.length jc)) := fun W hb => ⟨(N11.out.2.below hb).cell 0, (N11.out.2.below hb).cell 1, (N11.out.2.below hb).cell 2⟩
  have D0 : Hid (Below w11.heap.size w11 w11.drew) := (Below.refl _ _).drew
  have HAW : Hid (∀ W, Below w11.heap.size w11 W → Book.At ⟨last, sa, sc, ja, jc, stays, jobs⟩ W) := fun W hb => HA.out W (B.next N11.out.1 hb N11.out.1.size)
  generalize (⟨(textL last stays jobs).toArray⟩ : ByteArray) = T at *
  have eT : (T.toList == T.toList) = true := by simp
  clear HOK2
  go_wp2_with fail
  go_region_held3 (fun W => W.cell? ⟨w.heap.size, 0, none⟩ = some (.int .i64 last) ∧ W.cell? ⟨w.heap.size, 1, none⟩ = some (.slice sa stays.length sc) ∧ W.cell? ⟨w.heap.size, 2, none⟩ = some (.slice ja jobs.length jc)) (first | with_reducible exact HS.out _ D0.out | with_reducible exact HS.out _ BD.out | with_reducible exact HS.out _ BC.out | with_reducible exact HS.out _ BB.out | with_reducible exact HS.out _ BA.out)
    (first
      | (go_at_call 12; refine (HTX.out _ D0.out).mono ?_; rintro e wa ⟨rfl, ba⟩; have BA : Hid (Below w11.heap.size w11 wa) := B.next D0.out ba D0.out.size; clear ba)
      | (go_at_call 13; refine (HRT.out _ BA.out).mono ?_; rintro e wb ⟨rfl, bb⟩; have BB : Hid (Below w11.heap.size w11 wb) := B.next BA.out bb BA.out.size; clear bb)
      | (go_at_call 14; refine (HCP.out _ BB.out).mono ?_; rintro e wc ⟨d1, d2, d3, d4, rfl, hAt, bc⟩; have BC : Hid (Below w11.heap.size w11 wc) := bc; have AD : Hid (Book.At ⟨last, d1, d2, d3, d4, stays, jobs⟩ wc) := hAt; clear bc hAt)
      | (go_at_call 11; refine (sameBook_any last stays jobs d1 d3 sa ja d2 d4 sc jc _ AD.out (HAW.out _ BC.out)).mono ?_; rintro e wd ⟨rfl, bb⟩; have BD : Hid (Below w11.heap.size w11 wd) := B.next BC.out bb BC.out.size; clear bb))
  have ND : Hid (Below w.heap.size w wd ∧ Blk wd w.heap.size #[.int .i64 last, .slice sa stays.length sc, .slice ja jobs.length jc] 25 ∧ Book.At ⟨last, sa, sc, ja, jc, stays, jobs⟩ wd) := ⟨B.next N11.out.1 BD.out N11.out.1.size, N11.out.2.below BD.out, HAW.out _ BD.out⟩
  have rd := ND.out.2.1.cell
  have e1 : IntKind.i64.wrap ((stays.length : Int) - 1) = (stays.length : Int) - 1 := by rw [IntKind.wrap_i64]; omega
  clear AD BC BB BA BD HTX HRT HCP HS D0 HAW HG N11 eT
  go_wp2_with fail
  clear e1
  have HU1 : Hid (upI (fun s => s.t == t) stays stays.length = -1) := upI_end _ _
  have HU2 : Hid (upI (fun s => s.id == id) stays stays.length = -1) := upI_end _ _
  go_loopg [17, 18, 19] stays.length (fun gg s17 s18 s19 wr => ∃ k : Nat, k ≤ stays.length ∧ k ≤ gg ∧ s19 = .int .i64 ((k : Int) - 1) ∧ s17 = .int .i64 (upI (fun s => s.t == t) stays k) ∧ s18 = .int .i64 (upI (fun s => s.id == id) stays k) ∧ wr = wd)
  case atStart => exact ⟨stays.length, Nat.le_refl _, Nat.le_refl _, rfl, by rw [HU1.out], by rw [HU2.out], rfl⟩
  case round =>
    clear HU1 HU2
    obtain ⟨k, hk, hg, rfl, rfl, rfl, rfl⟩ := hrel
    cases k with
    | zero =>
      have HFD : Hid (Calls Tryd.prog 15 #[.agg #[.int .i64 last, .slice sa stays.length sc, .slice ja jobs.length jc], .int .i64 t] wr fun e w' => e = .returned (.int .i64 (upI (fun s => s.t == t) stays 0)) ∧ Below wr.heap.size wr w') := find_any ⟨last, sa, sc, ja, jc, stays, jobs⟩ t wr ND.out.2.2
      have HOF : Hid (∀ W, Below wr.heap.size wr W → Calls Tryd.prog 16 #[.agg #[.int .i64 last, .slice sa stays.length sc, .slice ja jobs.length jc], .int .i64 id] W fun e w' => e = .returned (.int .i64 (upI (fun s => s.id == id) stays 0)) ∧ Below W.heap.size W w') := fun W hb => of_any ⟨last, sa, sc, ja, jc, stays, jobs⟩ id W (ND.out.2.2.below hb)
      generalize upI (fun s => s.t == t) stays 0 = u1 at *
      generalize upI (fun s => s.id == id) stays 0 = u2 at *
      have e0 : ((0 : Nat) : Int) - 1 = -1 := rfl
      rw [e0]
      go_wp2_with fail
      refine HFD.out.mono ?_
      rintro e w1 ⟨rfl, b1⟩
      have NE : Hid (Below w.heap.size w w1 ∧ Blk w1 w.heap.size #[.int .i64 last, .slice sa stays.length sc, .slice ja jobs.length jc] 25) := ⟨B.next ND.out.1 b1 ND.out.1.size, ND.out.2.1.below b1⟩
      have HOF1 : Hid (Calls Tryd.prog 16 #[.agg #[.int .i64 last, .slice sa stays.length sc, .slice ja jobs.length jc], .int .i64 id] w1 fun e w' => e = .returned (.int .i64 u2) ∧ Below w1.heap.size w1 w') := HOF.out w1 b1
      clear HFD b1 ND rd HOF
      have re := NE.out.2.cell
      go_wp2_with fail
      refine HOF1.out.mono ?_
      rintro e w2 ⟨rfl, b2⟩
      have HF2 : Hid (PP (.returned (.bool true)) w2) := HP.out _ (B.next NE.out.1 b2 NE.out.1.size)
      clear NE HOF1 re b2
      go_wp2
      exact HF2.out
    | succ k =>
      have hlt : k < stays.length := by omega
      have hlt0 : ((k + 1 : Nat) : Int) - 1 = (k : Int) := by omega
      rw [hlt0]
      obtain ⟨sb, soff, rfl⟩ := rowsSome ND.out.2.2.1 (by show 0 < stays.length; omega)
      have s0 := rowsCell ND.out.2.2.1 k hlt 0 _ rfl
      have s1 := rowsCell ND.out.2.2.1 k hlt 1 _ rfl
      simp only [Nat.add_zero] at s0
      have hz : (0 : Int) ≤ (k : Int) := by omega
      have hltz : (k : Int) < (stays.length : Int) := by omega
      have e2 : IntKind.i64.wrap ((k : Int) - 1) = (k : Int) - 1 := by rw [IntKind.wrap_i64]; omega
      have HT1 := upI_step (fun s => s.t == t) stays k hlt
      have HT2 := upI_step (fun s => s.id == id) stays k hlt
      have HT1 : Hid (upI (fun s => s.t == t) stays k = if (stays[k]!.t == t) = true then (k : Int) else upI (fun s => s.t == t) stays (k + 1)) := HT1
      have HT2 : Hid (upI (fun s => s.id == id) stays k = if (stays[k]!.id == id) = true then (k : Int) else upI (fun s => s.id == id) stays (k + 1)) := HT2
      generalize stays[k]! = sv at *
      obtain ⟨t', id', q1, q2, q3, x, y, z⟩ := sv
      simp only at s0 s1 HT1 HT2
      generalize upI (fun s => s.t == t) stays (k + 1) = u1 at *
      generalize upI (fun s => s.id == id) stays (k + 1) = u2 at *
      obtain ⟨v1, hv1⟩ : ∃ v, upI (fun s => s.t == t) stays k = v := ⟨_, rfl⟩
      obtain ⟨v2, hv2⟩ : ∃ v, upI (fun s => s.id == id) stays k = v := ⟨_, rfl⟩
      have HV1 : Hid (upI (fun s => s.t == t) stays k = v1) := hv1
      have HV2 : Hid (upI (fun s => s.id == id) stays k = v2) := hv2
      rw [hv1] at HT1
      rw [hv2] at HT2
      clear hv1 hv2 hlt0
      cases c1 : (t' == t) <;> cases c2 : (id' == id)
      all_goals
        (try (have k1 := HT1.out; rw [c1] at k1; simp only [Bool.false_eq_true, if_false, if_true] at k1))
        (try (have k2 := HT2.out; rw [c2] at k2; simp only [Bool.false_eq_true, if_false, if_true] at k2))
        subst k1 k2
        clear HT1 HT2
        go_wp2
        go_roundg k
        case measure => omega
        case rel => exact ⟨k, by omega, Nat.le_refl _, rfl, by rw [HV1.out], by rw [HV2.out], rfl⟩

end Tx
end Go.Proofs.YtkgicpialdhnhaaDoor
