/- KeepD. -/
import Derived.Test.YtopgllmjeliklaaGreatDoorKlKept
set_option maxRecDepth 100000
set_option linter.unusedSimpArgs false
set_option linter.unusedVariables false
namespace Go.Proofs.YtopgllmjeliklaaGreatDoor
open Go.Shelf Go.Lib Go.ChangeShapes Go.WideShapes Go.ChangeAt Go.RowKit
namespace Lg
open Bk Dk Tx
set_option maxHeartbeats 4000000 in
theorem storeD (base db sb : Nat) (secs : List Sec) (bit : Int) (armed : Bool) (left : Int) (t : ByteArray) (w : World) (h : DiskAt w base db sb secs bit armed left true) (hw : ∀ j, j < secs.length -> secs[j]!.wr.length <= 1000) (h0 : 0 < secs.length) (hn : secs.length <= 1000) (G : Glob w) :
  Calls Tryz.prog 87 #[.pointer (some ⟨db, 0, none⟩), .string t] w fun e w' => e = .returned (.iface 103 (.int .i64 9)) /\ Below w.heap.size w w' := by
 obtain ⟨w0, hw0⟩ : ∃ w0, (w.alloc (.cells #[.pointer (some ⟨db, 0, none⟩)] 26)).alloc (.cells #[.nilIface] 50) = w0 := ⟨_, rfl⟩
 have N0 : Hid (Below w.heap.size w w0 /\ Blk w0 w.heap.size #[.pointer (some ⟨db, 0, none⟩)] 26 /\ Blk w0 (w.heap.size + 1) #[.nilIface] 50 /\ w0.heap.size = w.heap.size + 2) := by
  show _ /\ _ /\ _ /\ _
  rw [<- hw0]; exact ⟨(B.new1 _ _).alloc (by simp) _, (Blk.new _ _ _).old _, Blk.new1 (by simp) _ _, by simp⟩
 have HNM : Hid (Calls Tryz.prog 99 #[.pointer (some ⟨db, 0, none⟩)] w0 fun e w' => e = .returned (.tuple #[.int .i64 (-1), .iface 103 (.int .i64 9)]) /\ Below w0.heap.size w0 w') :=
  named_any base db sb secs bit armed left true w0 (h.below N0.out.1) hw hn h0 (G.new N0.out.1)
 have c0 := N0.out.2.1.cell 0; simp only [List.getElem?_toArray, List.getElem?_cons_zero] at c0; clear h G; refine (callsIn_wide (n := 8)).1 ?_; refine callsIn_of_wp_marks Tryz.func87 rfl trivial ?_ rfl; simp only [Tryz.ntmps87, List.size_toArray, List.length_cons, List.length_nil, Nat.reduceAdd, Nat.reduceSub, Array.replicate_succ, Array.replicate_zero, List.push_toArray, List.append_toArray, List.nil_append, List.cons_append]
 gi_wp2
 refine ⟨trivial, (callsIn_wide.2 HNM.out).mono ?_⟩; rintro e w1 ⟨rfl, b1⟩; have N1 : Hid (Below w.heap.size w w1 /\ Blk w1 (w.heap.size + 1) #[.nilIface] 50) := ⟨B.next N0.out.1 b1 N0.out.1.size, N0.out.2.2.1.below b1⟩; have f1 := N1.out.2.free; have c1 := N1.out.2.cell; have HQ : Hid (Below w.heap.size w (w1.setCell ⟨w.heap.size + 1, 0, none⟩ (.iface 103 (.int .i64 9))) /\ Blk (w1.setCell ⟨w.heap.size + 1, 0, none⟩ (.iface 103 (.int .i64 9))) (w.heap.size + 1) #[.iface 103 (.int .i64 9)] 50) := ⟨N1.out.1.setCell (p := ⟨_, 0, none⟩) (by show w.heap.size <= w.heap.size + 1; omega) _, N1.out.2.set 0 _⟩
 clear N0 b1 HNM hw0 c0; have kk : (w1.setCell ⟨w.heap.size + 1, 0, none⟩ (.iface 103 (.int .i64 9))).cell? ⟨w.heap.size + 1, 0, none⟩ = some (.iface 103 (.int .i64 9)) := HQ.out.2.cell 0
 gi_wp2
 exact ⟨_, (by simp [results, Tryz.results87, go_sem, kk]; try rfl), rfl, HQ.out.1⟩
set_option maxHeartbeats 4000000 in
theorem keepD (base db sb : Nat) (secs : List Sec) (bit : Int) (armed : Bool) (left : Int) (L n : Nat) (ol : Int) (ov oj : Value) (b : Book) (w : World) (h : DiskAt w base db sb secs bit armed left true) (hw : ∀ j, j < secs.length -> secs[j]!.wr.length <= 1000) (h0 : 0 < secs.length) (hn : secs.length <= 1000) (G : Glob w)
  (hL : Blk w L #[.pointer (some ⟨db, 0, none⟩), .int .i64 n, .int .i64 ol, ov, oj] 133) (hb : b.At w) (hb0 : bookN b n = 0) (n1 : 1 <= n) (n4 : n <= 4) :
  Calls Tryz.prog 53 #[.pointer (some ⟨L, 0, none⟩), b.val] w fun e w' => e = .returned (.iface 103 (.int .i64 9)) /\ Below w.heap.size w w' := by
 obtain ⟨last, sa, sc, ja, jc, stays, jobs⟩ := b; have ok : BookOK last n stays jobs := (bookN_zero _ _).1 hb0
 have HCK : Hid (∀ W, Below w.heap.size w W -> Calls Tryz.prog 32 #[.agg #[.int .i64 last, .slice sa stays.length sc, .slice ja jobs.length jc], .int .i64 n] W fun e w' => e = .returned .nilIface /\ Below W.heap.size W w') := fun W hx => by
  have := bookCheck_any ⟨last, sa, sc, ja, jc, stays, jobs⟩ n W (hb.below hx) n1 n4; rw [hb0, errV0] at this; exact this
 have HTX : Hid (∀ W, Below w.heap.size w W -> Calls Tryz.prog 88 #[.agg #[.int .i64 last, .slice sa stays.length sc, .slice ja jobs.length jc]] W fun e w' => e = .returned (.string ⟨(textL last stays jobs).toArray⟩) /\ Below W.heap.size W w') := fun W hx =>
  text_any ⟨last, sa, sc, ja, jc, stays, jobs⟩ W (hb.below hx) (G.new hx) (by have := ok.fewS; show stays.length <= 1000; omega) (by have := ok.fewJ; show jobs.length <= 1000; omega) (ok_nums n4 ok) (by have := text_500 n4 ok; show (textL last stays jobs).length <= _; omega)
 generalize hT : (⟨(textL last stays jobs).toArray⟩ : ByteArray) = T at *; have HST : Hid (∀ W, Below w.heap.size w W -> Calls Tryz.prog 87 #[.pointer (some ⟨db, 0, none⟩), .string T] W fun e w' => e = .returned (.iface 103 (.int .i64 9)) /\ Below W.heap.size W w') := fun W hx => storeD base db sb secs bit armed left T W (h.below hx) hw h0 hn (G.new hx)
 clear hT ok; obtain ⟨w0, hw0⟩ : ∃ w0, w.alloc (.cells #[.int .i64 last, .slice sa stays.length sc, .slice ja jobs.length jc] 39) = w0 := ⟨_, rfl⟩
 have N0 : Hid (Below w.heap.size w w0 /\ Blk w0 w.heap.size #[.int .i64 last, .slice sa stays.length sc, .slice ja jobs.length jc] 39 /\ Blk w0 L #[.pointer (some ⟨db, 0, none⟩), .int .i64 n, .int .i64 ol, ov, oj] 133) := by
  show _ /\ _ /\ _
  rw [<- hw0]; exact ⟨B.new1 _ _, Blk.new _ _ _, hL.old _⟩
 clear h G hL hb hb0 hw; have HC0 : Hid (∀ p : BelowW w0, Calls Tryz.prog 32 #[.agg #[.int .i64 last, .slice sa stays.length sc, .slice ja jobs.length jc], .int .i64 n] p.wd fun e w' => e = .returned .nilIface /\ Below p.wd.heap.size p.wd w') := fun p => HCK.out p.wd (B.next N0.out.1 p.hb N0.out.1.size)
 have l1 := fun p : BelowW w0 => (N0.out.2.2.below p.hb).cell 1
 have x0 := fun p : BelowW w0 => (N0.out.2.1.below p.hb).cell 0
 have x1 := fun p : BelowW w0 => (N0.out.2.1.below p.hb).cell 1
 have x2 := fun p : BelowW w0 => (N0.out.2.1.below p.hb).cell 2
 unfold Book.val; simp only
 go_enter Tryz.func53, Tryz.ntmps53
 go_upto_region 1 with fail
 (try simp only [hw0])
 clear hw0; refine wp_region_below (by kernel_rfl) (by kernel_rfl) ?_
 repeat (go_big_quiet_step (first | (go_at_call 32; with_reducible exact Calls.wof (HC0.out _))))
 refine wpQuiet_nil ?_; rintro wq ⟨⟨_, NQ⟩, rfl⟩; have XQ : Hid (Below w.heap.size w wq /\ Blk wq w.heap.size #[.int .i64 last, .slice sa stays.length sc, .slice ja jobs.length jc] 39 /\ Blk wq L #[.pointer (some ⟨db, 0, none⟩), .int .i64 n, .int .i64 ol, ov, oj] 133) := ⟨B.next N0.out.1 NQ N0.out.1.size, N0.out.2.1.below NQ, N0.out.2.2.below NQ⟩; clear HC0 HCK l1 x0 x1 x2 NQ N0; have HT0 : Hid (∀ p : BelowW wq, Calls Tryz.prog 88 #[.agg #[.int .i64 last, .slice sa stays.length sc, .slice ja jobs.length jc]] p.wd fun e w' => e = .returned (.string T) /\ Below p.wd.heap.size p.wd w') := fun p => HTX.out p.wd (B.next XQ.out.1 p.hb XQ.out.1.size)
 have HS0 : Hid (∀ p : BelowW wq, Calls Tryz.prog 87 #[.pointer (some ⟨db, 0, none⟩), .string T] p.wd fun e w' => e = .returned (.iface 103 (.int .i64 9)) /\ Below p.wd.heap.size p.wd w') := fun p => HST.out p.wd (B.next XQ.out.1 p.hb XQ.out.1.size)
 have l0 := fun p : BelowW wq => (XQ.out.2.2.below p.hb).cell 0
 have x0 := fun p : BelowW wq => (XQ.out.2.1.below p.hb).cell 0
 have x1 := fun p : BelowW wq => (XQ.out.2.1.below p.hb).cell 1
 have x2 := fun p : BelowW wq => (XQ.out.2.1.below p.hb).cell 2
 go_wp2_with fail; refine wp_region_below (by kernel_rfl) (by kernel_rfl) ?_
 repeat (go_big_quiet_step (first | (go_at_call 88; with_reducible exact Calls.wof (HT0.out _)) | (go_at_call 87; with_reducible exact Calls.wof (HS0.out _))))
 refine wpQuiet_nil ?_; rintro wz ⟨⟨_, NZ⟩, rfl⟩; have HQ : Hid (Below w.heap.size w wz) := B.next XQ.out.1 NZ XQ.out.1.size; clear HT0 HS0 HTX HST l0 x0 x1 x2 NZ XQ; go_wp2; go_returns; exact ⟨rfl, HQ.out⟩
end Lg
end Go.Proofs.YtopgllmjeliklaaGreatDoor
