/- Chapter 6: the document's text of a book (2): the whole. -/
import Derived.Test.YtkgicpialdhnhaaDoorRTextA
import Derived.Test.YtkgicpialdhnhaaDoorRBookEq
namespace Go.Proofs.YtkgicpialdhnhaaDoor
open Go.Shelf Go.ChangeShapes Go.WideShapes Go.ChangeAt Go.RowKit
set_option maxRecDepth 100000
set_option linter.unusedSimpArgs false
set_option linter.unusedVariables false

namespace Tx
open Bk
def strJ (L : List Int) : ByteArray := ⟨(Lib.join (L.map Lib.itoa) [32]).toArray⟩
theorem join_snoc : ∀ (l : List (List UInt8)) (x : List UInt8), l ≠ [] → Lib.join (l ++ [x]) [32] = Lib.join l [32] ++ 32 :: x
  | [], _, h => absurd rfl h
  | [a], x, _ => by rw [List.singleton_append, join_two, Lib.join_one, Lib.join_one]
  | a :: b :: r, x, _ => by
    have ih := join_snoc (b :: r) x (by simp)
    rw [List.cons_append, List.cons_append, join_two, ← List.cons_append, ih, join_two]
    simp
theorem strJ_one (a : Int) : strJ [a] = ⟨(Lib.itoa a).toArray⟩ := by unfold strJ; rw [List.map_cons, List.map_nil, Lib.join_one]
theorem strJ_snoc (L : List Int) (a : Int) (h : L ≠ []) : (strJ L ++ ⟨#[32]⟩) ++ ⟨(Lib.itoa a).toArray⟩ = strJ (L ++ [a]) := by
  apply ByteArray.ext
  unfold strJ
  rw [ByteArray.data_append, ByteArray.data_append, List.map_append, List.map_cons, List.map_nil, join_snoc _ _ (by simpa using h)]
  simp
theorem strJ_flag (L : List Int) (f : Bool) (h : L ≠ []) : strJ L ++ (if f = true then ⟨#[32, 49]⟩ else ⟨#[32, 48]⟩) = strJ (L ++ [if f = true then 1 else 0]) := by
  have e1 : Lib.itoa 1 = [49] := by rw [itoa_pos (by decide)]; exact Lib.decDigits_one (by decide)
  have e0 : Lib.itoa 0 = [48] := by rw [itoa_pos (by decide)]; exact Lib.decDigits_one (by decide)
  rw [← strJ_snoc L _ h]
  apply ByteArray.ext
  cases f
  · simp only [Bool.false_eq_true, if_false]
    rw [e0]
    simp only [ByteArray.data_append]
    apply Array.ext'
    simp
  · simp only [if_true]
    rw [e1]
    simp only [ByteArray.data_append]
    apply Array.ext'
    simp
theorem strJ_size (L : List Int) (h : ∀ n ∈ L, 0 ≤ n ∧ n ≤ 999999) : (strJ L).size ≤ 7 * L.length := by
  show (Lib.join (L.map Lib.itoa) [32]).toArray.size ≤ _
  rw [List.size_toArray]
  refine Nat.le_trans (join_tot L) ?_
  induction L with
  | nil => simp [tot]
  | cons a r ih =>
    rw [tot_cons, List.length_cons]
    have := ih (fun n hn => h n (by simp [hn]))
    have h1 := h a (by simp)
    have := itoa_len 5 h1.1 (by omega)
    omega
theorem flat_take (l : List Stay) (k : Nat) : ((l.take k).flatMap stayNs).length ≤ 8 * l.length := by
  rw [stays_flat, List.length_take]; omega

set_option maxHeartbeats 4000000 in
theorem rbookText_any (b : Book) (w : World) (h : b.At w) (hs : b.stays.length ≤ 1000) (hj : b.jobs.length ≤ 1000) (hi : ∀ n ∈ numsOf b.last b.stays b.jobs, 0 ≤ n ∧ n ≤ 999999) :
    Calls Tryd.prog 13 #[b.val] w fun e w' => e = .returned (.string ⟨(textL b.last b.stays b.jobs).toArray⟩) ∧ Below w.heap.size w w' := by
  obtain ⟨last, sa, sc, ja, jc, stays, jobs⟩ := b
  have H1 : Hid (∀ W, Below w.heap.size w W → RowsAt W sa sc 8 Stay.enc stays) := fun W hb => h.1.below hb
  have H2 : Hid (∀ W, Below w.heap.size w W → RowsAt W ja jc 2 Job.enc jobs) := fun W hb => h.2.below hb
  have hsc := h.1.1; have hsm := h.1.2.1; have hjc := h.2.1; have hjm := h.2.2.1
  unfold maxLen at hsm hjm
  simp only at hs hj hi hsc hjc
  have HI : Hid (∀ n ∈ numsOf last stays jobs, 0 ≤ n ∧ n ≤ 999999) := hi
  clear h hi
  generalize hPP : (fun (e : Ending) (w' : World) => e = .returned (.string ⟨(textL last stays jobs).toArray⟩) ∧ Below w.heap.size w w') = PP
  have HP : Hid (∀ w', Below w.heap.size w w' → PP (.returned (.string (strJ (numsOf last stays jobs)))) w') := fun w' hb => by rw [← hPP]; exact ⟨rfl, hb⟩
  clear hPP
  have HD : Hid (∀ n, 0 ≤ n → n ≤ 999999 → ∀ W, Calls Tryd.prog 29 #[.int .i64 n] W fun e w' => e = .returned (.string ⟨(Lib.itoa n).toArray⟩) ∧ Below W.heap.size W w') := fun n h0 h1 W => rdecimal_any n W h0 (by omega)
  unfold Book.val
  simp only
  obtain ⟨w0, hw0⟩ : ∃ w0, w.alloc (.cells #[.int .i64 last, .slice sa stays.length sc, .slice ja jobs.length jc] 25) = w0 := ⟨_, rfl⟩
  have N0 : Hid (Below w.heap.size w w0 ∧ Blk w0 w.heap.size #[.int .i64 last, .slice sa stays.length sc, .slice ja jobs.length jc] 25) := by
    show _ ∧ _
    rw [← hw0]
    exact ⟨B.new1 _ _, Blk.new _ _ _⟩
  have hl := HI.out last (by simp [numsOf])
  have HD0 : Hid (∀ W, Calls Tryd.prog 29 #[.int .i64 last] W fun e w' => e = .returned (.string ⟨(Lib.itoa last).toArray⟩) ∧ Below W.heap.size W w') := HD.out last hl.1 hl.2
  have HD1 : Hid (∀ W, Calls Tryd.prog 29 #[.int .i64 (stays.length : Int)] W fun e w' => e = .returned (.string ⟨(Lib.itoa (stays.length : Int)).toArray⟩) ∧ Below W.heap.size W w') := HD.out _ (by omega) (by omega)
  have HD2 : Hid (∀ W, Calls Tryd.prog 29 #[.int .i64 (jobs.length : Int)] W fun e w' => e = .returned (.string ⟨(Lib.itoa (jobs.length : Int)).toArray⟩) ∧ Below W.heap.size W w') := HD.out _ (by omega) (by omega)
  have r0 := fun p : BelowW w0 => (N0.out.2.below p.hb).cell 0
  have r1 := fun p : BelowW w0 => (N0.out.2.below p.hb).cell 1
  have r2 := fun p : BelowW w0 => (N0.out.2.below p.hb).cell 2
  have hc1 : Hid ((⟨(Lib.itoa last).toArray⟩ : ByteArray) = strJ [last]) := (strJ_one _).symm
  have hc2 : Hid ((strJ [last] ++ ⟨#[32]⟩) ++ ⟨(Lib.itoa (stays.length : Int)).toArray⟩ = strJ [last, (stays.length : Int)]) := strJ_snoc [last] _ (by simp)
  have hc3 : Hid ((strJ [last, (stays.length : Int)] ++ ⟨#[32]⟩) ++ ⟨(Lib.itoa (jobs.length : Int)).toArray⟩ = strJ [last, (stays.length : Int), (jobs.length : Int)]) := strJ_snoc [last, (stays.length : Int)] _ (by simp)
  have k1 : (strJ [last]).size ≤ 7 := strJ_size [last] (by intro n hn; simp at hn; omega)
  have k2 : (strJ [last, (stays.length : Int)]).size ≤ 14 := strJ_size [last, (stays.length : Int)] (by intro n hn; simp at hn; omega)
  have k3 : (strJ [last, (stays.length : Int), (jobs.length : Int)]).size ≤ 21 := strJ_size [last, (stays.length : Int), (jobs.length : Int)] (by intro n hn; simp at hn; omega)
  have HL3 : Hid (strJ [last, (stays.length : Int), (jobs.length : Int)] = strJ ([last, (stays.length : Int), (jobs.length : Int)] ++ (stays.take 0).flatMap stayNs)) := by show _ = _; simp
  have s32 : (⟨#[32]⟩ : ByteArray).size = 1 := rfl
  have t0 : (⟨(Lib.itoa last).toArray⟩ : ByteArray).size ≤ 7 := by rw [hc1.out]; exact k1
  have t1 : (⟨(Lib.itoa (stays.length : Int)).toArray⟩ : ByteArray).size ≤ 7 := by rw [← strJ_one]; exact strJ_size [(stays.length : Int)] (by intro n hn; simp at hn; omega)
  have t2 : (⟨(Lib.itoa (jobs.length : Int)).toArray⟩ : ByteArray).size ≤ 7 := by rw [← strJ_one]; exact strJ_size [(jobs.length : Int)] (by intro n hn; simp at hn; omega)
  obtain ⟨L3, HL3'⟩ : ∃ L3, Hid ([last, (stays.length : Int), (jobs.length : Int)] = L3) := ⟨_, rfl⟩
  rw [hc1.out] at HD0
  generalize (⟨(Lib.itoa (stays.length : Int)).toArray⟩ : ByteArray) = T1 at *
  generalize (⟨(Lib.itoa (jobs.length : Int)).toArray⟩ : ByteArray) = T2 at *
  generalize hS3 : strJ [last, (stays.length : Int), (jobs.length : Int)] = S3 at *
  generalize strJ [last, (stays.length : Int)] = S2 at *
  generalize strJ [last] = S1 at *
  obtain ⟨A1, hA1⟩ : ∃ A, S1 ++ ⟨#[32]⟩ = A := ⟨_, rfl⟩
  obtain ⟨A2, hA2⟩ : ∃ A, S2 ++ ⟨#[32]⟩ = A := ⟨_, rfl⟩
  have z1 : A1.size ≤ 8 := by rw [← hA1, ByteArray.size_append, s32]; omega
  have z2 : A2.size ≤ 15 := by rw [← hA2, ByteArray.size_append, s32]; omega
  have hc2' := hc2.out
  have hc3' := hc3.out
  rw [hA1] at hc2'
  rw [hA2] at hc3'
  have c1 : ¬ S1.size + (⟨#[32]⟩ : ByteArray).size > 9223372036854775807 := by omega
  have c2 : ¬ A1.size + T1.size > 9223372036854775807 := by omega
  have c3 : ¬ S2.size + (⟨#[32]⟩ : ByteArray).size > 9223372036854775807 := by omega
  have c4 : ¬ A2.size + T2.size > 9223372036854775807 := by omega
  clear hc1 hc2 hc3 t0 t1 t2 k1 k2
  go_enter Tryd.func13, Tryd.ntmps13
  go_wp2_with fail
  refine wp_region_below (by kernel_rfl) (by kernel_rfl) ?_
  repeat (go_big_quiet_step (first | (go_at_call 29; first | with_reducible exact Calls.wof (HD0.out _) | with_reducible exact Calls.wof (HD1.out _) | with_reducible exact Calls.wof (HD2.out _))))
  refine wpQuiet_nil ?_
  rintro wb ⟨⟨_, NQ⟩, rfl⟩
  have M0 : Hid (Below w.heap.size w wb ∧ Blk wb w.heap.size #[.int .i64 last, .slice sa stays.length sc, .slice ja jobs.length jc] 25) := ⟨B.next N0.out.1 NQ N0.out.1.size, N0.out.2.below NQ⟩
  have HB3 : Hid (∀ n ∈ L3 ++ (stays.flatMap stayNs ++ jobs.flatMap jobNs), 0 ≤ n ∧ n ≤ 999999) := by
    intro n hn
    refine HI.out n ?_
    unfold numsOf
    rw [HL3'.out]
    simpa using hn
  have HNE : Hid (L3 ≠ []) := by show _ ≠ _; rw [← HL3'.out]; simp
  have HLE : Hid (L3.length = 3) := by show _ = _; rw [← HL3'.out]; rfl
  have HNS : Hid (numsOf last stays jobs = L3 ++ stays.flatMap stayNs ++ jobs.flatMap jobNs) := by show _ = _; unfold numsOf; rw [HL3'.out]
  rw [HL3'.out] at hS3 HL3
  rw [HNS.out] at HP
  clear HNS HI HL3' NQ N0 r0 r1 r2 HD0 HD1 HD2 c1 c2 c3 c4 hA1 hA2 hc2' hc3' z1 z2 hw0 hl
  go_wp2_with fail
  have HS3 : Hid (S3 = strJ (L3 ++ (stays.take 0).flatMap stayNs)) := HL3.out
  clear HL3 hS3 k3
  go_loopg [3, 4] stays.length (fun gg s3 s4 wr => ∃ k : Nat, k ≤ stays.length ∧ stays.length - k ≤ gg ∧ s4 = .int .i64 k ∧ s3 = .string (strJ (L3 ++ (stays.take k).flatMap stayNs)) ∧ Hid (Below w.heap.size w wr ∧ Blk wr w.heap.size #[.int .i64 last, .slice sa stays.length sc, .slice ja jobs.length jc] 25))
  case atStart => exact ⟨0, Nat.zero_le _, by omega, rfl, by rw [← HS3.out], M0⟩
  case round =>
    clear M0 HS3
    obtain ⟨k, hk, hg, rfl, rfl, M⟩ := hrel
    have rb1 := M.out.2.cell 1
    have rb2 := M.out.2.cell 2
    by_cases hlt : k < stays.length
    · have hltz : (k : Int) < (stays.length : Int) := by omega
      obtain ⟨sb, soff, rfl⟩ := rowsSome (H1.out _ M.out.1) (by omega)
      have s0 := rowsCell (H1.out _ M.out.1) k hlt 0 _ rfl
      have s1 := rowsCell (H1.out _ M.out.1) k hlt 1 _ rfl
      have s2 := rowsCell (H1.out _ M.out.1) k hlt 2 _ rfl
      have s3 := rowsCell (H1.out _ M.out.1) k hlt 3 _ rfl
      have s4 := rowsCell (H1.out _ M.out.1) k hlt 4 _ rfl
      have s5 := rowsCell (H1.out _ M.out.1) k hlt 5 _ rfl
      have s6 := rowsCell (H1.out _ M.out.1) k hlt 6 _ rfl
      have s7 := rowsCell (H1.out _ M.out.1) k hlt 7 _ rfl
      simp only [Nat.add_zero] at s0
      have HN : Hid (L3 ++ (stays.take (k + 1)).flatMap stayNs = (L3 ++ (stays.take k).flatMap stayNs) ++ stayNs stays[k]!) := by
        show _ = _
        rw [List.take_succ_eq_append_getElem hlt, getElem!_pos stays k hlt]
        simp only [List.flatMap_append, List.flatMap_singleton, List.append_assoc]
      have HBK : Hid (∀ n ∈ (L3 ++ (stays.take k).flatMap stayNs) ++ stayNs stays[k]!, 0 ≤ n ∧ n ≤ 999999) := fun n hn => HB3.out n (by
        rw [← HN.out] at hn
        rcases List.mem_append.1 hn with h | h
        · exact List.mem_append_left _ h
        · obtain ⟨x, hx, hxn⟩ := List.mem_flatMap.1 h
          exact List.mem_append_right _ (List.mem_append_left _ (List.mem_flatMap.2 ⟨x, List.mem_of_mem_take hx, hxn⟩)))
      have HLL : Hid ((L3 ++ (stays.take k).flatMap stayNs).length ≤ 9000) := by
        show _ ≤ _
        rw [List.length_append, HLE.out]
        have := flat_take stays k
        omega
      have HLN : Hid (L3 ++ (stays.take k).flatMap stayNs ≠ []) := by show _ ≠ _; have := HNE.out; simp [this]
      generalize stays[k]! = sv at *
      generalize L3 ++ (stays.take k).flatMap stayNs = L at *
      obtain ⟨t, id, a1, a2, a3, x, y, z⟩ := sv
      simp only at s0 s1 s2 s3 s4 s5 s6 s7
      obtain ⟨wa, hwa⟩ : ∃ wa, wr.alloc (.cells #[.int .i64 t, .int .i64 id, .int .i64 a1, .int .i64 a2, .int .i64 a3, .int .i64 x, .int .i64 y, .int .i64 z] 47) = wa := ⟨_, rfl⟩
      have NA : Hid (Below w.heap.size w wa ∧ Blk wa w.heap.size #[.int .i64 last, .slice (some ⟨sb, soff, none⟩) stays.length sc, .slice ja jobs.length jc] 25 ∧ Blk wa wr.heap.size #[.int .i64 t, .int .i64 id, .int .i64 a1, .int .i64 a2, .int .i64 a3, .int .i64 x, .int .i64 y, .int .i64 z] 47) := by
        show _ ∧ _ ∧ _
        rw [← hwa]
        exact ⟨M.out.1.alloc M.out.1.size _, M.out.2.old _, Blk.new _ _ _⟩
      have rv := NA.out.2.2.cell
      obtain ⟨wc, hwc⟩ : ∃ wc, wa.alloc (.cells #[.int .i64 t, .int .i64 id, .int .i64 a1, .int .i64 a2, .int .i64 a3, .int .i64 x, .int .i64 y, .int .i64 z] 3) = wc := ⟨_, rfl⟩
      have NC : Hid (Below w.heap.size w wc ∧ Blk wc w.heap.size #[.int .i64 last, .slice (some ⟨sb, soff, none⟩) stays.length sc, .slice ja jobs.length jc] 25 ∧ Blk wc wa.heap.size #[.int .i64 t, .int .i64 id, .int .i64 a1, .int .i64 a2, .int .i64 a3, .int .i64 x, .int .i64 y, .int .i64 z] 3) := by
        show _ ∧ _ ∧ _
        rw [← hwc]
        exact ⟨NA.out.1.alloc NA.out.1.size _, NA.out.2.1.old _, Blk.new _ _ _⟩
      clear M
      go_wp2_with fail
      clear hwa hwc rv NA s0 s1 s2 s3 s4 s5 s6 s7 rb1 rb2
      generalize wa.heap.size = nb at *
      have HSN : Hid (stayNs ⟨t, id, a1, a2, a3, x, y, z⟩ = [t, id, a1, a2, a3, x, y, z]) := rfl
      rw [HSN.out] at HN HBK
      clear HSN
      go_loopg [3, 7] 8 (fun gg s3 s7 wq => ∃ j : Nat, j ≤ 8 ∧ 8 - j ≤ gg ∧ s7 = .int .i64 j ∧ s3 = .string (strJ (L ++ ([t, id, a1, a2, a3, x, y, z] : List Int).take j)) ∧ Hid (Below w.heap.size w wq ∧ Blk wq w.heap.size #[.int .i64 last, .slice (some ⟨sb, soff, none⟩) stays.length sc, .slice ja jobs.length jc] 25 ∧ Blk wq nb #[.int .i64 t, .int .i64 id, .int .i64 a1, .int .i64 a2, .int .i64 a3, .int .i64 x, .int .i64 y, .int .i64 z] 3))
      case atStart => exact ⟨0, Nat.zero_le _, by omega, rfl, by simp, NC⟩
      case round =>
        clear NC
        obtain ⟨j, hj8, hgj, rfl, rfl, Q⟩ := hrel
        by_cases hjl : j < 8
        · have hjz : (j : Int) < 8 := by omega
          obtain ⟨n, hxj⟩ : ∃ n, ([t, id, a1, a2, a3, x, y, z] : List Int)[j]'(by simpa using hjl) = n := ⟨_, rfl⟩
          have HXJ : Hid (([t, id, a1, a2, a3, x, y, z] : List Int)[j]'(by simpa using hjl) = n) := hxj
          clear hxj
          have cj : wr.cell? ⟨nb, j, none⟩ = some (.int .i64 n) := by
            rw [Q.out.2.2.cell]
            have h1 : (#[.int .i64 t, .int .i64 id, .int .i64 a1, .int .i64 a2, .int .i64 a3, .int .i64 x, .int .i64 y, .int .i64 z] : Array Value)[j]? = (([t, id, a1, a2, a3, x, y, z] : List Int).map (Value.int .i64))[j]? := by simp
            rw [h1, List.getElem?_map, List.getElem?_eq_getElem (by simpa using hjl), HXJ.out]
            rfl
          have HTK : Hid (L ++ ([t, id, a1, a2, a3, x, y, z] : List Int).take (j + 1) = (L ++ ([t, id, a1, a2, a3, x, y, z] : List Int).take j) ++ [n]) := by
            show _ = _
            rw [List.take_succ_eq_append_getElem (by simpa using hjl), HXJ.out, List.append_assoc]
          have hn := HBK.out n (by rw [← HXJ.out]; exact List.mem_append_right _ (List.getElem_mem _))
          have hsz : (strJ (L ++ ([t, id, a1, a2, a3, x, y, z] : List Int).take j)).size ≤ 63056 := by
            refine Nat.le_trans (strJ_size _ (fun m hm => HBK.out m ?_)) ?_
            · rcases List.mem_append.1 hm with h | h
              · exact List.mem_append_left _ h
              · exact List.mem_append_right _ (List.mem_of_mem_take h)
            · rw [List.length_append, List.length_take]
              have := HLL.out
              omega
          have HSJ : Hid ((strJ (L ++ ([t, id, a1, a2, a3, x, y, z] : List Int).take j) ++ ⟨#[32]⟩) ++ ⟨(Lib.itoa n).toArray⟩ = strJ (L ++ ([t, id, a1, a2, a3, x, y, z] : List Int).take (j + 1))) := by
            show _ = _
            rw [HTK.out]
            exact strJ_snoc _ _ (by have := HLN.out; simp [this])
          have HDN : Hid (Calls Tryd.prog 29 #[.int .i64 n] wr fun e w' => e = .returned (.string ⟨(Lib.itoa n).toArray⟩) ∧ Below wr.heap.size wr w') := HD.out n hn.1 hn.2 wr
          have tn : (⟨(Lib.itoa n).toArray⟩ : ByteArray).size ≤ 7 := by
            show (Lib.itoa n).toArray.size ≤ 7
            rw [List.size_toArray]
            have := itoa_len 5 hn.1 (by omega)
            omega
          generalize (⟨(Lib.itoa n).toArray⟩ : ByteArray) = TN at *
          generalize strJ (L ++ ([t, id, a1, a2, a3, x, y, z] : List Int).take j) = SJ at *
          obtain ⟨AJ, hAJ⟩ : ∃ A, SJ ++ ⟨#[32]⟩ = A := ⟨_, rfl⟩
          have zj : AJ.size ≤ 63057 := by rw [← hAJ, ByteArray.size_append, s32]; omega
          have hSJ := HSJ.out
          rw [hAJ] at hSJ
          have c1 : ¬ SJ.size + (⟨#[32]⟩ : ByteArray).size > 9223372036854775807 := by omega
          have c2 : ¬ AJ.size + TN.size > 9223372036854775807 := by omega
          obtain ⟨SN, hSN⟩ : ∃ SN, strJ (L ++ ([t, id, a1, a2, a3, x, y, z] : List Int).take (j + 1)) = SN := ⟨_, rfl⟩
          have HSN2 : Hid (strJ (L ++ ([t, id, a1, a2, a3, x, y, z] : List Int).take (j + 1)) = SN) := hSN
          rw [hSN] at hSJ
          clear hSN
          clear HSJ HTK HXJ
          go_wp2_with fail
          refine HDN.out.mono ?_
          rintro e w5 ⟨rfl, b5⟩
          have Q5 : Hid (Below w.heap.size w w5 ∧ Blk w5 w.heap.size #[.int .i64 last, .slice (some ⟨sb, soff, none⟩) stays.length sc, .slice ja jobs.length jc] 25 ∧ Blk w5 nb #[.int .i64 t, .int .i64 id, .int .i64 a1, .int .i64 a2, .int .i64 a3, .int .i64 x, .int .i64 y, .int .i64 z] 3) := ⟨B.next Q.out.1 b5 Q.out.1.size, Q.out.2.1.below b5, Q.out.2.2.below b5⟩
          clear b5 Q HDN cj
          go_wp2
          go_roundg (8 - (j + 1))
          case measure => omega
          case rel => exact ⟨j + 1, by omega, by omega, by go_num, by rw [HSN2.out], Q5⟩
        · have hjz : ¬ (j : Int) < 8 := by omega
          have hje : j = 8 := by omega
          subst hje
          have HT8 : Hid (strJ (L ++ [t, id, a1, a2, a3, x, y, z]) = strJ (L3 ++ (stays.take (k + 1)).flatMap stayNs)) := by
            show _ = _
            rw [HN.out]
          have Q5 : Hid (Below w.heap.size w wr ∧ Blk wr w.heap.size #[.int .i64 last, .slice (some ⟨sb, soff, none⟩) stays.length sc, .slice ja jobs.length jc] 25) := ⟨Q.out.1, Q.out.2.1⟩
          clear Q
          go_wp2
          go_roundg (stays.length - (k + 1))
          case measure => omega
          case rel => exact ⟨k + 1, by omega, by omega, by go_num, by rw [HT8.out], Q5⟩
    · have hltz : ¬ (k : Int) < (stays.length : Int) := by omega
      have hke : k = stays.length := by omega
      subst hke
      rw [List.take_length]
      go_wp2_with fail
      have HLL : Hid ((L3 ++ stays.flatMap stayNs).length ≤ 9000) := by
        show _ ≤ _
        rw [List.length_append, HLE.out, stays_flat]
        omega
      have HLN : Hid (L3 ++ stays.flatMap stayNs ≠ []) := by show _ ≠ _; have := HNE.out; simp [this]
      rw [← List.append_assoc] at HB3
      clear H1 HLE HNE rb1
      generalize L3 ++ stays.flatMap stayNs = LS at *
      have HS0 : Hid (strJ LS = strJ (LS ++ (jobs.take 0).flatMap jobNs)) := by show _ = _; simp
      go_loopg [3, 8] jobs.length (fun gg s3 s8 wr => ∃ k : Nat, k ≤ jobs.length ∧ jobs.length - k ≤ gg ∧ s8 = .int .i64 k ∧ s3 = .string (strJ (LS ++ (jobs.take k).flatMap jobNs)) ∧ Hid (Below w.heap.size w wr ∧ Blk wr w.heap.size #[.int .i64 last, .slice sa stays.length sc, .slice ja jobs.length jc] 25))
      case atStart => exact ⟨0, Nat.zero_le _, by omega, rfl, by rw [← HS0.out], M⟩
      case round =>
        clear M HS0 rb2
        obtain ⟨k, hk, hg, rfl, rfl, M⟩ := hrel
        have rb2 := M.out.2.cell 2
        by_cases hlt : k < jobs.length
        · have hltz : (k : Int) < (jobs.length : Int) := by omega
          obtain ⟨sb, soff, rfl⟩ := rowsSome (H2.out _ M.out.1) (by omega)
          have HR2 : Hid (∀ W, Below w.heap.size w W → W.cell? ⟨sb, soff + k * 2, none⟩ = some (.int .i64 jobs[k]!.t) ∧ W.cell? ⟨sb, soff + k * 2 + 1, none⟩ = some (.bool jobs[k]!.f)) := fun W hb => by
            have h0 := rowsCell (H2.out W hb) k hlt 0 _ rfl
            have h1 := rowsCell (H2.out W hb) k hlt 1 _ rfl
            exact ⟨h0, h1⟩
          have HN : Hid (LS ++ (jobs.take (k + 1)).flatMap jobNs = (LS ++ (jobs.take k).flatMap jobNs) ++ jobNs jobs[k]!) := by
            show _ = _
            rw [List.take_succ_eq_append_getElem hlt, getElem!_pos jobs k hlt]
            simp only [List.flatMap_append, List.flatMap_singleton, List.append_assoc]
          have HBK : Hid (∀ n ∈ (LS ++ (jobs.take k).flatMap jobNs) ++ jobNs jobs[k]!, 0 ≤ n ∧ n ≤ 999999) := fun n hn => HB3.out n (by
            rw [← HN.out] at hn
            rcases List.mem_append.1 hn with h | h
            · exact List.mem_append_left _ h
            · obtain ⟨x, hx, hxn⟩ := List.mem_flatMap.1 h
              exact List.mem_append_right _ (List.mem_flatMap.2 ⟨x, List.mem_of_mem_take hx, hxn⟩))
          have HLK : Hid ((LS ++ (jobs.take k).flatMap jobNs).length ≤ 11000) := by
            show _ ≤ _
            rw [List.length_append, jobs_flat, List.length_take]
            have := HLL.out
            omega
          have HLM : Hid (LS ++ (jobs.take k).flatMap jobNs ≠ []) := by show _ ≠ _; have := HLN.out; simp [this]
          obtain ⟨SF, hSF⟩ : ∃ S, strJ (LS ++ (jobs.take (k + 1)).flatMap jobNs) = S := ⟨_, rfl⟩
          have HSF : Hid (strJ (LS ++ (jobs.take (k + 1)).flatMap jobNs) = SF) := hSF
          rw [HN.out] at hSF
          generalize jobs[k]! = jv at *
          generalize LS ++ (jobs.take k).flatMap jobNs = L at *
          obtain ⟨n, f⟩ := jv
          have HJN : Hid (jobNs ⟨n, f⟩ = [n, if f = true then 1 else 0]) := rfl
          rw [HJN.out] at hSF HBK
          have hn := HBK.out n (by simp)
          have hsz : (strJ L).size ≤ 77000 := by
            refine Nat.le_trans (strJ_size _ (fun m hm => HBK.out m (List.mem_append_left _ hm))) ?_
            have := HLK.out
            omega
          have hsz2 : (strJ (L ++ [n])).size ≤ 77007 := by
            refine Nat.le_trans (strJ_size _ (fun m hm => HBK.out m ?_)) ?_
            · rcases List.mem_append.1 hm with h | h
              · exact List.mem_append_left _ h
              · simp at h; simp [h]
            · rw [List.length_append]
              have := HLK.out
              simp only [List.length_cons, List.length_nil]
              omega
          have hSJ := strJ_snoc L n HLM.out
          have hSK := strJ_flag (L ++ [n]) f (by simp)
          rw [List.append_assoc] at hSK
          rw [show [n] ++ [if f = true then (1 : Int) else 0] = [n, if f = true then 1 else 0] from rfl, hSF] at hSK
          have HDN : Hid (Calls Tryd.prog 29 #[.int .i64 n] wr fun e w' => e = .returned (.string ⟨(Lib.itoa n).toArray⟩) ∧ Below wr.heap.size wr w') := HD.out n hn.1 hn.2 wr
          have tn : (⟨(Lib.itoa n).toArray⟩ : ByteArray).size ≤ 7 := by
            show (Lib.itoa n).toArray.size ≤ 7
            rw [List.size_toArray]
            have := itoa_len 5 hn.1 (by omega)
            omega
          generalize (⟨(Lib.itoa n).toArray⟩ : ByteArray) = TN at *
          generalize strJ L = SJ at *
          generalize strJ (L ++ [n]) = SN at *
          obtain ⟨AJ, hAJ⟩ : ∃ A, SJ ++ ⟨#[32]⟩ = A := ⟨_, rfl⟩
          have zj : AJ.size ≤ 77001 := by rw [← hAJ, ByteArray.size_append, s32]; omega
          rw [hAJ] at hSJ
          have c1 : ¬ SJ.size + (⟨#[32]⟩ : ByteArray).size > 9223372036854775807 := by omega
          have c2 : ¬ AJ.size + TN.size > 9223372036854775807 := by omega
          have s232 : (⟨#[32, 49]⟩ : ByteArray).size = 2 := rfl
          have s233 : (⟨#[32, 48]⟩ : ByteArray).size = 2 := rfl
          have c3 : ¬ SN.size + (⟨#[32, 49]⟩ : ByteArray).size > 9223372036854775807 := by omega
          have c4 : ¬ SN.size + (⟨#[32, 48]⟩ : ByteArray).size > 9223372036854775807 := by omega
          have q0 := (HR2.out wr M.out.1).1
          clear hSF HJN HN HBK HLK HLM
          go_wp2_with fail
          refine HDN.out.mono ?_
          rintro e w5 ⟨rfl, b5⟩
          have Q5 : Hid (Below w.heap.size w w5 ∧ Blk w5 w.heap.size #[.int .i64 last, .slice sa stays.length sc, .slice (some ⟨sb, soff, none⟩) jobs.length jc] 25) := ⟨B.next M.out.1 b5 M.out.1.size, M.out.2.below b5⟩
          have q1 := (HR2.out w5 Q5.out.1).2
          have q2 := Q5.out.2.cell 2
          clear b5 M HDN q0 rb2
          cases f
          · simp only [Bool.false_eq_true, if_false] at hSK
            go_wp2
            go_roundg (jobs.length - (k + 1))
            case measure => omega
            case rel => exact ⟨k + 1, by omega, by omega, by go_num, by rw [HSF.out], Q5⟩
          · simp only [if_true] at hSK
            go_wp2
            go_roundg (jobs.length - (k + 1))
            case measure => omega
            case rel => exact ⟨k + 1, by omega, by omega, by go_num, by rw [HSF.out], Q5⟩
        · have hltz : ¬ (k : Int) < (jobs.length : Int) := by omega
          have hke : k = jobs.length := by omega
          subst hke
          rw [List.take_length]
          have HF : Hid (PP (.returned (.string (strJ (LS ++ jobs.flatMap jobNs)))) wr) := HP.out _ M.out.1
          clear HP M HB3
          go_wp2
          exact HF.out

end Tx
end Go.Proofs.YtkgicpialdhnhaaDoor
