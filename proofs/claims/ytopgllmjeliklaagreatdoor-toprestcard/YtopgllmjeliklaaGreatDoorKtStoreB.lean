/- StoreB DelJ DelS. -/
import Derived.Test.YtopgllmjeliklaaGreatDoorKtDiskM
set_option maxRecDepth 100000
set_option linter.unusedSimpArgs false
set_option linter.unusedVariables false
namespace Go.Proofs.YtopgllmjeliklaaGreatDoor
open Go.Shelf Go.Lib Go.ChangeShapes Go.WideShapes Go.ChangeAt Go.RowKit
namespace Lg
open Bk Dk Tx
def wrsAt (st j : Nat) : Nat → List Pc → List Wr
 | _, [] => []
 | k, x :: r => (if st + x.1.1 = j then [⟨k, padF x.1.2⟩] else []) ++ wrsAt st j (k + 1) r
theorem wrsAt_snoc (st j : Nat) (x : Pc) : ∀ (pre : List Pc) (k : Nat), wrsAt st j k (pre ++ [x]) = wrsAt st j k pre ++ (if st + x.1.1 = j then [⟨(k + pre.length : Nat), padF x.1.2⟩] else [])
 | [], k => by simp [wrsAt]
 | y :: pre, k => by
   rw [List.cons_append, wrsAt, wrsAt_snoc st j x pre (k + 1), wrsAt, List.length_cons, List.append_assoc, show k + 1 + pre.length = k + (pre.length + 1) from by omega]
theorem wrsAt_bit (st j : Nat) : ∀ (pre : List Pc) (k : Nat), ∀ y ∈ wrsAt st j k pre, (k : Int) ≤ y.bit ∧ y.bit < ((k + pre.length : Nat) : Int)
 | [], k, y, h => by simp [wrsAt] at h
 | x :: pre, k, y, h => by
   rw [wrsAt] at h; rw [List.length_cons]
   rcases List.mem_append.1 h with h | h
   ·split at h
    ·simp at h; subst h; simp only; omega
    ·simp at h
   ·have := wrsAt_bit st j pre (k + 1) y h
    omega
theorem wrsAt_len (st j : Nat) : ∀ (pre : List Pc) (k : Nat), (wrsAt st j k pre).length ≤ pre.length
 | [], k => by simp [wrsAt]
 | x :: pre, k => by
   have := wrsAt_len st j pre (k + 1); rw [wrsAt, List.length_append, List.length_cons]
   split <;> simp <;> omega
theorem wrsAt_far (st j : Nat) (hj : j < st ∨ st + 10 ≤ j) : ∀ (pre : List Pc) (k : Nat), wrsAt st j k pre = []
 | [], k => rfl
 | x :: pre, k => by
   have hx := x.2.1; rw [wrsAt, if_neg (by omega), wrsAt_far st j hj pre (k + 1)]
   rfl
theorem pcsT_len (t : ByteArray) (k : Nat) : (pcsT t k).length = k := by unfold pcsT; rw [List.length_map, List.length_range]
theorem wrsAt_all (st j : Nat) (t : ByteArray) : ∀ k, k ≤ 10 → wrsAt st j 0 (pcsT t k) = if st ≤ j ∧ j < st + k then [⟨((j - st : Nat) : Int), padF (pieceT t (j - st))⟩] else []
 | 0, _ => by rw [if_neg (by omega)]; rfl
 | k + 1, hk => by
   rw [pcsT_succ, wrsAt_snoc, wrsAt_all st j t k (by omega), pcsT_len, Nat.zero_add]; have e1 : (pcT t k).1.1 = k := by show k % 10 = k; omega
   have e2 : (pcT t k).1.2 = pieceT t k := rfl; rw [e1, e2]
   by_cases h : st + k = j
   ·rw [if_neg (by omega), if_pos h, if_pos (by omega), show j - st = k from by omega]
    rfl
   ·rw [if_neg h, List.append_nil]
    by_cases h2 : st ≤ j ∧ j < st + k
    ·rw [if_pos h2, if_pos (by omega)]
    ·rw [if_neg h2, if_neg (by omega)]
structure Wrd (secs secs' : List Sec) (st : Nat) (pre : List Pc) : Prop where
 len : secs'.length = secs.length
 kept : ∀ j, j < secs.length → secs'[j]!.kept = secs[j]!.kept
 wr : ∀ j, j < secs.length → secs'[j]!.wr = wrsAt st j 0 pre
theorem Wrd.zero {secs : List Sec} (h : ∀ j, j < secs.length → secs[j]!.wr = []) (st : Nat) : Wrd secs secs st [] := ⟨rfl, fun _ _ => rfl, fun j hj => h j hj⟩
theorem Wrd.more {secs secs' : List Sec} {st : Nat} {pre : List Pc} (h : Wrd secs secs' st pre) (x : Pc) (hx : st + x.1.1 < secs.length) (v' : Value) :
  Wrd secs (secs'.set (st + x.1.1) ⟨secs'[st + x.1.1]!.kept, v', secs'[st + x.1.1]!.wr ++ [⟨(pre.length : Nat), padF x.1.2⟩]⟩) st (pre ++ [x]) := by
 have hl := h.len; refine ⟨by rw [List.length_set, hl], fun j hj => ?_, fun j hj => ?_⟩
 ·rw [set_get secs' _ j _ (by omega) (by omega)]
  by_cases e : st + x.1.1 = j
  ·rw [if_pos e, e]; exact h.kept j hj
  ·rw [if_neg e]; exact h.kept j hj
 ·rw [set_get secs' _ j _ (by omega) (by omega), wrsAt_snoc, Nat.zero_add]
  by_cases e : st + x.1.1 = j
  ·rw [if_pos e, if_pos e, e, h.wr j hj]
  ·rw [if_neg e, if_neg e, List.append_nil]; exact h.wr j hj
theorem keep_all : ∀ b : Fin 64, keepB 18446744073709551615 (b.val : Int) = true := by decide +kernel
theorem keep_full {b : Int} (h0 : 0 ≤ b) (h1 : b < 64) : keepB 18446744073709551615 b = true := by
 have := keep_all ⟨b.toNat, by omega⟩
 rw [show ((⟨b.toNat, by omega⟩ : Fin 64).val : Int) = b from by show ((b.toNat : Nat) : Int) = b; omega] at this
 exact this
def storeC (secs : List Sec) (nx : Nat) (t : ByteArray) (j : Nat) : Nat → Int :=
 if j = 0 then padF (nameB nx) else if 1 + 10 * nx ≤ j ∧ j < 11 + 10 * nx then padF (pieceT t (j - (1 + 10 * nx))) else secs[j]!.kept
structure Stored (secs secs' : List Sec) (nx : Nat) (t : ByteArray) : Prop where
 len : secs'.length = secs.length
 wr : ∀ j, j < secs.length → secs'[j]!.wr = []
 kept : ∀ j, j < secs.length → secs'[j]!.kept = storeC secs nx t j
structure Fell (secs secs' : List Sec) (nx : Nat) (t : ByteArray) : Prop where
 len : secs'.length = secs.length
 bits : ∀ j, j < secs.length → ∀ y ∈ secs'[j]!.wr, 0 ≤ y.bit ∧ y.bit < 64
 few : ∀ j, j < secs.length → secs'[j]!.wr.length ≤ 900
 alt : ∀ K, (∀ j, j < secs.length → ¬ (1 + 10 * nx ≤ j ∧ j < 11 + 10 * nx) → settleC K secs'[j]!.kept secs'[j]!.wr = secs[j]!.kept) ∨ (∀ j, j < secs.length → settleC K secs'[j]!.kept secs'[j]!.wr = storeC secs nx t j)
theorem Wrd.fell {secs secs' : List Sec} {nx : Nat} {pre : List Pc} (h : Wrd secs secs' (1 + 10 * nx) pre) (hp : pre.length ≤ 10) (t : ByteArray) : Fell secs secs' nx t := by
 refine ⟨h.len, fun j hj y hy => ?_, fun j hj => ?_, fun K => Or.inl fun j hj hn => ?_⟩
 ·rw [h.wr j hj] at hy
  have := wrsAt_bit _ j pre 0 y hy
  omega
 ·rw [h.wr j hj]
  have := wrsAt_len (1 + 10 * nx) j pre 0
  omega
 ·rw [h.wr j hj, wrsAt_far _ j (by omega), h.kept j hj]
  rfl
structure Half (secs secs' : List Sec) (nx : Nat) (t : ByteArray) : Prop where
 len : secs'.length = secs.length
 wr : ∀ j, j < secs.length → secs'[j]!.wr = []
 kept : ∀ j, j < secs.length → secs'[j]!.kept = if 1 + 10 * nx ≤ j ∧ j < 11 + 10 * nx then padF (pieceT t (j - (1 + 10 * nx))) else secs[j]!.kept
theorem Wrd.half {secs secs' : List Sec} {nx : Nat} {t : ByteArray} (h : Wrd secs secs' (1 + 10 * nx) (pcsT t 10)) : Half secs (stl 18446744073709551615 secs' secs'.length) nx t := by
 have hg : ∀ j, j < secs.length → (stl 18446744073709551615 secs' secs'.length)[j]! = setSec 18446744073709551615 secs'[j]! := fun j hj => by
  have := h.len; rw [stl_get _ secs' j (by omega) _ (Nat.le_refl _), if_pos (by omega)]
 refine ⟨by rw [stl_len, h.len], fun j hj => by rw [hg j hj]; rfl, fun j hj => ?_⟩
 rw [hg j hj]
 show settleC _ secs'[j]!.kept secs'[j]!.wr = _
 rw [h.wr j hj, wrsAt_all _ j t 10 (Nat.le_refl _), h.kept j hj]
 by_cases e : 1 + 10 * nx ≤ j ∧ j < 11 + 10 * nx
 ·rw [if_pos (by omega), if_pos e]
  show (if keepB _ _ = true then _ else _) = _
  rw [if_pos (keep_full (by simp only; omega) (by simp only; omega))]
 ·rw [if_neg (by omega), if_neg e]
  rfl
theorem Half.fell {secs secs' : List Sec} {nx : Nat} {t : ByteArray} (h : Half secs secs' nx t) : Fell secs secs' nx t := by
 refine ⟨h.len, fun j hj y hy => by rw [h.wr j hj] at hy; simp at hy, fun j hj => by rw [h.wr j hj]; simp, fun K => Or.inl fun j hj hn => ?_⟩
 rw [h.wr j hj, h.kept j hj, if_neg hn]
 rfl
theorem setSec_one (K b : Int) (a d : Nat → Int) (v : Value) : (setSec K ⟨a, v, [⟨b, d⟩]⟩).kept = if keepB K b = true then d else a := rfl
theorem Half.named {secs secs' : List Sec} {nx : Nat} {t : ByteArray} (h : Half secs secs' nx t) (h0 : 0 < secs.length) (v' : Value) :
  Fell secs (secs'.set 0 ⟨secs'[0]!.kept, v', secs'[0]!.wr ++ [⟨0, padF (nameB nx)⟩]⟩) nx t ∧ Stored secs (stl 18446744073709551615 (secs'.set 0 ⟨secs'[0]!.kept, v', secs'[0]!.wr ++ [⟨0, padF (nameB nx)⟩]⟩) secs.length) nx t := by
 have hl := h.len
 have hg : ∀ j, j < secs.length → (secs'.set 0 ⟨secs'[0]!.kept, v', secs'[0]!.wr ++ [⟨0, padF (nameB nx)⟩]⟩)[j]! = if 0 = j then ⟨secs'[0]!.kept, v', [⟨0, padF (nameB nx)⟩]⟩ else secs'[j]! := fun j hj => by
  rw [set_get secs' 0 j _ (by omega) (by omega), h.wr 0 h0]
  rfl
 have hL : (secs'.set 0 ⟨secs'[0]!.kept, v', secs'[0]!.wr ++ [⟨0, padF (nameB nx)⟩]⟩).length = secs.length := by rw [List.length_set, hl]
 generalize (secs'.set 0 ⟨secs'[0]!.kept, v', secs'[0]!.wr ++ [⟨0, padF (nameB nx)⟩]⟩) = S3 at *
 have hk : ∀ j, j < secs.length → ¬ j = 0 → secs'[j]!.kept = storeC secs nx t j := fun j hj h' => by
  rw [h.kept j hj]; unfold storeC; rw [if_neg h']
 constructor
 ·refine ⟨hL, fun j hj y hy => ?_, fun j hj => ?_, fun K => ?_⟩
  ·rw [hg j hj] at hy
   split at hy
   ·simp at hy; subst hy; simp
   ·rw [h.wr j hj] at hy; simp at hy
  ·rw [hg j hj]
   split
   ·simp
   ·rw [h.wr j hj]; simp
  ·by_cases hK : keepB K 0 = true
   ·refine Or.inr fun j hj => ?_
    rw [hg j hj]
    by_cases e : 0 = j
    ·rw [if_pos e]
     subst e
     show (if keepB K 0 = true then padF (nameB nx) else _) = _
     rw [if_pos hK]
     rfl
    ·rw [if_neg e, h.wr j hj]
     exact hk j hj (fun e' => e e'.symm)
   ·refine Or.inl fun j hj hn => ?_
    rw [hg j hj]
    by_cases e : 0 = j
    ·rw [if_pos e]
     subst e
     show (if keepB K 0 = true then padF (nameB nx) else _) = _
     rw [if_neg hK, h.kept 0 hj, if_neg hn]
    ·rw [if_neg e, h.wr j hj, h.kept j hj, if_neg hn]
     rfl
 ·have hs : ∀ j, j < secs.length → (stl 18446744073709551615 S3 secs.length)[j]! = setSec 18446744073709551615 S3[j]! := fun j hj => by
   rw [stl_get _ S3 j (by omega) _ (by omega), if_pos hj]
  refine ⟨by rw [stl_len, hL], fun j hj => by rw [hs j hj]; rfl, fun j hj => ?_⟩
  rw [hs j hj, hg j hj]
  by_cases e : 0 = j
  ·rw [if_pos e]
   subst e; rw [setSec_one, if_pos (keep_full (by omega) (by omega))]
   rfl
  ·rw [if_neg e]
   show settleC _ secs'[j]!.kept secs'[j]!.wr = _
   rw [h.wr j hj]; exact hk j hj (fun e' => e e'.symm)
end Lg
namespace Bk
set_option maxHeartbeats 1000000 in
theorem idxJobF_none (a : Option Addr) (cap : Nat) (v : Value) (w : World) :
  Calls Tryz.prog 147 #[.slice a 0 cap, v] w fun e w' => e = .returned (.int .i64 (-1)) ∧ w' = w := by
 go_enter Tryz.func147, Tryz.ntmps147
 go_wp2; refine wp_loop_rounds 1 ?_; rw [rounds_succ]; go_wp2; go_returns; exact ⟨rfl, rfl⟩
theorem zeroJ_run (w : World) : (zeroValue 88).run Tryz.prog w = .ok (.agg #[.int .i64 0, .bool false]) w := by kernel_rfl
theorem zeroCellsJ (n : Nat) : ((Builtin.zeroCells (Value.agg #[.int .i64 0, .bool false]).cells n).toList).length = n * 2 ∧ ∀ v ∈ (Builtin.zeroCells (Value.agg #[.int .i64 0, .bool false]).cells n).toList, v.oneCell' = true := by
 refine ⟨by simp [Builtin.zeroCells, Value.cells, Nat.mul_comm], fun v hv => ?_⟩
 simp only [Builtin.zeroCells, Value.cells] at hv
 simp at hv
 obtain ⟨i, hi, rfl⟩ := hv; have h : i % 2 < 2 := Nat.mod_lt _ (by decide); generalize i % 2 = m at h; have hm : m = 0 ∨ m = 1 := by omega
 rcases hm with rfl | rfl <;> rfl
set_option maxHeartbeats 4000000 in
theorem delJ_any (p : Job → Bool) (gf : Nat) (lb : Array Value) (eg : ∀ args w, (callFunc gf args).run Tryz.prog w = .ok (.enter gf args) w) (base : Nat) (v : Value) (l : List Job) (w : World) (h : OwnAt w base 88 2 Job.enc v l) (hl : l.length ≤ 1000)
  (hp : ∀ W, w.grownBy W v.ownBlock → ∀ x : Job, Calls Tryz.prog gf (#[.agg #[.int .i64 x.t, .bool x.f]] ++ lb) W fun e w' => e = .returned (.bool (p x)) ∧ Below W.heap.size W w') :
  Calls Tryz.prog 119 #[v, .func (.func gf) #[] lb] w fun e w' => ∃ v', e = .returned v' ∧ OwnAt w' base 88 2 Job.enc v' (l.filter fun x => !p x) ∧ w.grownBy w' v.ownBlock ∧ (∀ g, v'.ownBlock = some g → v.ownBlock = some g) := by
 rcases h with ⟨rfl, rfl⟩ | ⟨g, cap, cur, rfl, hg, hk, hlc, hm, hs, hr⟩
 ·clear hp eg
  go_enter Tryz.func119, Tryz.ntmps119
  go_wp2_with fail; refine (idxJobF_none _ _ _ _).mono ?_; rintro e w1 ⟨rfl, rfl⟩; go_wp2; go_returns; exact ⟨_, rfl, Or.inl ⟨rfl, rfl⟩, grown_refl _ _, fun g h => h⟩
 ·unfold maxLen at hm
  have hPB : PredBelow Tryz.prog gf lb (fun x : Job => .agg x.enc.toArray) p w := fun W x hb =>
   (hp W (grown_of_below hb) x).mono fun e w' ⟨he, hb'⟩ => ⟨he, B.next hb hb' hb.size⟩
  have HI : Hid (Calls Tryz.prog 147 #[.slice (some ⟨g, 0, none⟩) l.length cap, .func (.func gf) #[] lb] w fun e w' => e = .returned (.int .i64 (Lib.idxBy (fun _ y => p y) l default)) ∧ Below w.heap.size w w') := by
   have := AnyQ.slices_IndexFunc Tryz.lij 2 Tryz.isAgg88 Tryz.sizeOf88 Job.enc (fun _ => rfl) p gf lb eg g 0 l.length cap l w hPB (Nat.le_refl _) (by omega) hk.lt (fun j hj i u hu => by rw [hk.cell, Nat.zero_add]; exact hr j hj i u hu)
   rw [List.take_length] at this; exact this
  have HP : Hid (∀ W, w.grownBy W (some g) → ∀ x : Job, Calls Tryz.prog gf (#[.agg #[.int .i64 x.t, .bool x.f]] ++ lb) W fun e w' => e = .returned (.bool (p x)) ∧ Below W.heap.size W w') := hp
  rcases idxByFrom_spec (fun _ y => p y) default l 0 with ⟨e1, hall⟩ | ⟨k0, hk0, e1, ht, hall⟩
  ·have e2 : Lib.idxBy (fun _ y => p y) l default = -1 := e1
   rw [e2] at HI
   have e3 : (l.filter fun x => !p x) = l := by
    rw [List.filter_eq_self]
    intro a ha
    obtain ⟨j, hj, rfl⟩ := List.getElem_of_mem ha; have := hall j hj; rw [getElem!_pos l j hj] at this
    simp [this]
   have HO : Hid (∀ w1, Below w.heap.size w w1 → OwnAt w1 base 88 2 Job.enc (.slice (some ⟨g, 0, none⟩) l.length cap) (l.filter fun x => !p x)) := fun w1 hb => by
    rw [e3]; exact Or.inr ⟨g, cap, cur, rfl, hg, hk.below hb, hlc, hm, hs, hr⟩
   clear hp hPB hall e1 e2 e3 hr hs hk HP
   go_enter Tryz.func119, Tryz.ntmps119
   go_wp2_with fail; refine HI.out.mono ?_; rintro e w1 ⟨rfl, b1⟩; have B1 : Hid (Below w.heap.size w w1) := b1; clear b1; go_wp2; go_returns; exact ⟨_, rfl, HO.out _ B1.out, grown_of_below B1.out, fun g h => h⟩
  ·have e2 : Lib.idxBy (fun _ y => p y) l default = (k0 : Int) := by unfold Lib.idxBy; rw [e1]; simp
   rw [e2] at HI; have hne1 : ((k0 : Int) == -1) = false := beq_eq_false_iff_ne.2 (by omega)
   have hft : (l.take k0).filter (fun x => !p x) = l.take k0 := by
    rw [List.filter_eq_self]
    intro a ha
    obtain ⟨j, hj, rfl⟩ := List.getElem_of_mem ha; simp only [List.length_take] at hj; have := hall j (by omega); rw [getElem!_pos l j (by omega)] at this
    simp [List.getElem_take, this]
   have ht' : p l[k0]! = true := ht
   have HD : Hid (∀ w1, Below w.heap.size w w1 → DelI w w1 g cap 2 88 Job.enc p l (k0 + 1) k0) := fun w1 hb => by
    have h0 : DelI w w g cap 2 88 Job.enc p l k0 k0 := ⟨grown_refl _ _, by rw [hft, List.length_take]; omega, cur, hk, hs, by
     rw [hft]
     intro j hj i u hu
     simp only [List.length_take] at hj; have e : (l.take k0)[j]! = l[j]! := by rw [getElem!_pos (l.take k0) j (by simp; omega), getElem!_pos l j (by omega), List.getElem_take]
     rw [e] at hu; exact hr j (by omega) i u hu, fun a _ ha => hr a ha⟩
    exact h0.skip hk0 ht' hb
   clear hp hPB hall e1 e2 hft hr hs hk ht ht'
   go_enter Tryz.func119, Tryz.ntmps119
   go_wp2_with fail; refine HI.out.mono ?_; rintro e w1 ⟨rfl, b1⟩; have D1 : Hid (DelI w w1 g cap 2 88 Job.enc p l (k0 + 1) k0) := HD.out w1 b1; clear b1 HD HI; go_wp2_with fail
   go_loopg [5, 6, 7] l.length (fun gg s5 s6 _ wr => ∃ i j : Nat, s5 = .int .i64 i ∧ s6 = .int .i64 j ∧ j ≤ l.length ∧ l.length - j ≤ gg ∧ i < j ∧ Hid (DelI w wr g cap 2 88 Job.enc p l j i))
   case atStart => exact ⟨k0, k0 + 1, rfl, by go_num, by omega, by omega, by omega, D1⟩
   case round =>
    clear D1; obtain ⟨i, j, rfl, rfl, hjl, hgg, hij, D⟩ := hrel; obtain ⟨cu, hb, hsz, _, hcu⟩ := D.out.cur; have KB : Hid (Blk wr g cu 88) := hb; have HZ : Hid (cu.size = cap * 2) := hsz
    by_cases hlt : j < l.length
    ·have hltz : (j : Int) < (l.length : Int) := by omega
     have hiz : (i : Int) < (l.length : Int) := by omega
     have HX : Hid (∀ c u, (Job.enc l[j]!)[c]? = some u → cu[j * 2 + c]? = some u) := hcu j (Nat.le_refl _) hlt
     have c0 := (hb.cell (j * 2 + 0)).trans (HX.out 0 _ rfl); have c1 := (hb.cell (j * 2 + 1)).trans (HX.out 1 _ rfl); obtain ⟨o0, ho0⟩ : ∃ o, cu[i * 2 + 0]? = some o := ⟨_, Array.getElem?_eq_getElem (by rw [HZ.out]; have : (i + 1) * 2 ≤ cap * 2 := Nat.mul_le_mul_right 2 (by omega); omega)⟩
     obtain ⟨o1, ho1⟩ : ∃ o, cu[i * 2 + 1]? = some o := ⟨_, Array.getElem?_eq_getElem (by rw [HZ.out]; have : (i + 1) * 2 ≤ cap * 2 := Nat.mul_le_mul_right 2 (by omega); omega)⟩
     clear hcu HX hb hsz; simp only [Nat.add_zero] at c0 ho0; have KS : Hid (∀ wx, Below wr.heap.size wr wx → p l[j]! = true → DelI w wx g cap 2 88 Job.enc p l (j + 1) i) := fun wx hb hp => D.out.skip hlt hp hb
     have KK : Hid (∀ wx, Below wr.heap.size wr wx → p l[j]! = false → DelI w (wx.setCells g (i * 2) (Job.enc l[j]!)) g cap 2 88 Job.enc p l (j + 1) (i + 1)) := fun wx hb hp => D.out.keep job_len hlt hlc hp hb
     have HG : Hid (w.grownBy wr (some g)) := D.out.grown; clear D; generalize l[j]! = x at *; obtain ⟨t, f⟩ := x; simp only at c0 c1; obtain ⟨wa, hwa⟩ : ∃ wa, wr.alloc (.cells #[.int .i64 t, .bool f] 88) = wa := ⟨_, rfl⟩
     have NA : Hid (Below wr.heap.size wr wa) := by show Below _ _ _; rw [← hwa]; exact B.new1 _ _
     have KA : Hid (Blk wa wr.heap.size #[.int .i64 t, .bool f] 88) := by show Blk _ _ _ _; rw [← hwa]; exact Blk.new _ _ _
     have HC : Hid (Calls Tryz.prog gf (#[.agg #[.int .i64 t, .bool f]] ++ lb) wa fun e w' => e = .returned (.bool (p ⟨t, f⟩)) ∧ Below wa.heap.size wa w') := HP.out wa (grown_trans HG.out (grown_of_below NA.out)) ⟨t, f⟩
     have ra := KA.out.cell
     cases hq : p ⟨t, f⟩
     ·rw [hq] at HC
      go_wp2_with fail; clear hwa ra; refine HC.out.mono ?_; rintro e wb ⟨rfl, bb⟩; have NB : Hid (Below wr.heap.size wr wb) := B.next NA.out bb NA.out.size; have rb := (KA.out.below bb).cell; have KBb := KB.out.below NB.out; have d0 : wb.cell? ⟨g, i * 2, none⟩ = some o0 := (KBb.cell _).trans ho0; have d1 : wb.cell? ⟨g, i * 2 + 1, none⟩ = some o1 := (KBb.cell _).trans ho1; have fz := KBb.free; have KN : Hid (DelI w (wb.setCells g (i * 2) (Job.enc ⟨t, f⟩)) g cap 2 88 Job.enc p l (j + 1) (i + 1)) := KK.out wb NB.out hq; clear bb KBb ho0 c0 ho1 c1 KS KK HC KA hq; go_wp2
      go_roundg (l.length - (j + 1))
      case measure => omega
      case rel => exact ⟨i + 1, j + 1, by go_num, by go_num, by omega, Nat.le_refl _, by omega, KN⟩
     ·rw [hq] at HC
      go_wp2_with fail; clear hwa ra; refine HC.out.mono ?_; rintro e wb ⟨rfl, bb⟩; have NB : Hid (Below wr.heap.size wr wb) := B.next NA.out bb NA.out.size; have KN : Hid (DelI w wb g cap 2 88 Job.enc p l (j + 1) i) := KS.out wb NB.out hq; clear bb ho0 c0 ho1 c1 KS KK HC KA hq; go_wp2
      go_roundg (l.length - (j + 1))
      case measure => omega
      case rel => exact ⟨i, j + 1, rfl, by go_num, by omega, Nat.le_refl _, by omega, KN⟩
    ·have hje : j = l.length := by omega
     subst hje; have hltz : ¬ (l.length : Int) < (l.length : Int) := by omega
     obtain ⟨zl, hzl⟩ : ∃ zl, (Builtin.zeroCells (Value.agg #[.int .i64 0, .bool false]).cells (l.length - i)).toList = zl := ⟨_, rfl⟩
     have hzz := zeroCellsJ (l.length - i); rw [hzl] at hzz
     have hcl : ∀ ty, (Builtin.clear_ #[37] ty #[.slice (some ⟨g, i * 2, none⟩) (l.length - i) (cap - i)]).run Tryz.prog wr = .ok (.tuple #[]) (wr.setCells g (i * 2) zl) :=
      fun ty => run_clear_rows wr _ _ ty _ Tryz.underlying37 zeroJ_run g (i * 2) _ _ (by omega) zl hzl (fun t ht => by
       rw [hb.cell, Array.getElem?_eq_getElem (by rw [hsz]; have : l.length * 2 ≤ cap * 2 := Nat.mul_le_mul_right 2 hlc; rw [hzz.1] at ht; have : (l.length - i) * 2 = l.length * 2 - i * 2 := Nat.sub_mul _ _ _; have : i * 2 ≤ l.length * 2 := Nat.mul_le_mul_right 2 (by omega); omega)]; rfl) (fun t ht => hb.free _) hzz.2
     have HF : Hid (OwnAt (wr.setCells g (i * 2) zl) base 88 2 Job.enc (.slice (some ⟨g, 0, none⟩) i cap) (l.filter fun x => !p x) ∧ w.grownBy (wr.setCells g (i * 2) zl) (some g)) := by
      obtain ⟨cu2, hb2, hs2, hin, _⟩ := D.out.cur; have hlen := D.out.len; rw [List.take_length] at hin hlen; refine ⟨Or.inr ⟨g, cap, setRow cu2 (i * 2) zl, by rw [hlen], hg, blk_setCells _ _ _ hb2, by rw [hlen]; omega, hm, by rw [setRow_size]; exact hs2, fun a ha c u hu => ?_⟩, grown_trans D.out.grown (grown_setCells g _ _ _)⟩
      have hc : c < 2 := by rw [← job_len (l.filter fun x => !p x)[a]!]; exact (List.getElem?_eq_some_iff.1 hu).1
      rw [hlen] at ha; rw [setRow_out _ _ _ _ (Or.inl (by have : (a + 1) * 2 ≤ i * 2 := Nat.mul_le_mul_right 2 ha; omega))]; exact hin a (by rw [hlen]; exact ha) c u hu
     have hiL : (i : Int) ≤ (l.length : Int) := by omega
     have hiC : (i : Int) ≤ (cap : Int) := by omega
     have hlC : (l.length : Int) ≤ (cap : Int) := by omega
     clear hb hsz hcu D KB HZ hzz hzl; generalize wr.setCells g (i * 2) zl = wz at *; go_wp2; go_returns; exact ⟨_, rfl, HF.out.1, HF.out.2, fun g h => h⟩
end Bk
namespace Bk
theorem zeroS_run (w : World) : (zeroValue 67).run Tryz.prog w = .ok (.agg #[.int .i64 0, .int .i64 0, .int .i64 0, .int .i64 0, .int .i64 0, .int .i64 0, .int .i64 0, .int .i64 0]) w := by kernel_rfl
theorem zeroCellsS (n : Nat) : ((Builtin.zeroCells (Value.agg #[.int .i64 0, .int .i64 0, .int .i64 0, .int .i64 0, .int .i64 0, .int .i64 0, .int .i64 0, .int .i64 0]).cells n).toList).length = n * 8 ∧ ∀ v ∈ (Builtin.zeroCells (Value.agg #[.int .i64 0, .int .i64 0, .int .i64 0, .int .i64 0, .int .i64 0, .int .i64 0, .int .i64 0, .int .i64 0]).cells n).toList, v.oneCell' = true := by
 refine ⟨by simp [Builtin.zeroCells, Value.cells, Nat.mul_comm], fun v hv => ?_⟩
 simp only [Builtin.zeroCells, Value.cells] at hv
 simp at hv
 obtain ⟨i, hi, rfl⟩ := hv; have h : i % 8 < 8 := Nat.mod_lt _ (by decide); generalize i % 8 = m at h; have hm : m = 0 ∨ m = 1 ∨ m = 2 ∨ m = 3 ∨ m = 4 ∨ m = 5 ∨ m = 6 ∨ m = 7 := by omega
 rcases hm with rfl | rfl | rfl | rfl | rfl | rfl | rfl | rfl <;> rfl
set_option maxHeartbeats 4000000 in
theorem delS_any (p : Stay → Bool) (gf : Nat) (lb : Array Value) (eg : ∀ args w, (callFunc gf args).run Tryz.prog w = .ok (.enter gf args) w) (base : Nat) (v : Value) (l : List Stay) (w : World) (h : OwnAt w base 67 8 Stay.enc v l) (hl : l.length ≤ 1000)
  (hp : ∀ W, w.grownBy W v.ownBlock → ∀ x : Stay, Calls Tryz.prog gf (#[.agg #[.int .i64 x.t, .int .i64 x.id, .int .i64 x.a, .int .i64 x.b, .int .i64 x.c, .int .i64 x.x, .int .i64 x.y, .int .i64 x.z]] ++ lb) W fun e w' => e = .returned (.bool (p x)) ∧ Below W.heap.size W w') :
  Calls Tryz.prog 121 #[v, .func (.func gf) #[] lb] w fun e w' => ∃ v', e = .returned v' ∧ OwnAt w' base 67 8 Stay.enc v' (l.filter fun x => !p x) ∧ w.grownBy w' v.ownBlock ∧ (∀ g, v'.ownBlock = some g → v.ownBlock = some g) := by
 rcases h with ⟨rfl, rfl⟩ | ⟨g, cap, cur, rfl, hg, hk, hlc, hm, hs, hr⟩
 ·clear hp eg
  go_enter Tryz.func121, Tryz.ntmps121
  go_wp2_with fail; refine (idxStay_none _ _ _ _).mono ?_; rintro e w1 ⟨rfl, rfl⟩; go_wp2; go_returns; exact ⟨_, rfl, Or.inl ⟨rfl, rfl⟩, grown_refl _ _, fun g h => h⟩
 ·unfold maxLen at hm
  have hPB : PredBelow Tryz.prog gf lb (fun x : Stay => .agg x.enc.toArray) p w := fun W x hb =>
   (hp W (grown_of_below hb) x).mono fun e w' ⟨he, hb'⟩ => ⟨he, B.next hb hb' hb.size⟩
  have HI : Hid (Calls Tryz.prog 58 #[.slice (some ⟨g, 0, none⟩) l.length cap, .func (.func gf) #[] lb] w fun e w' => e = .returned (.int .i64 (Lib.idxBy (fun _ y => p y) l default)) ∧ Below w.heap.size w w') := by
   have := AnyQ.slices_IndexFunc Tryz.lis 8 Tryz.isAgg67 Tryz.sizeOf67 Stay.enc (fun _ => rfl) p gf lb eg g 0 l.length cap l w hPB (Nat.le_refl _) (by omega) hk.lt (fun j hj i u hu => by rw [hk.cell, Nat.zero_add]; exact hr j hj i u hu)
   rw [List.take_length] at this; exact this
  have HP : Hid (∀ W, w.grownBy W (some g) → ∀ x : Stay, Calls Tryz.prog gf (#[.agg #[.int .i64 x.t, .int .i64 x.id, .int .i64 x.a, .int .i64 x.b, .int .i64 x.c, .int .i64 x.x, .int .i64 x.y, .int .i64 x.z]] ++ lb) W fun e w' => e = .returned (.bool (p x)) ∧ Below W.heap.size W w') := hp
  rcases idxByFrom_spec (fun _ y => p y) default l 0 with ⟨e1, hall⟩ | ⟨k0, hk0, e1, ht, hall⟩
  ·have e2 : Lib.idxBy (fun _ y => p y) l default = -1 := e1
   rw [e2] at HI
   have e3 : (l.filter fun x => !p x) = l := by
    rw [List.filter_eq_self]
    intro a ha
    obtain ⟨j, hj, rfl⟩ := List.getElem_of_mem ha; have := hall j hj; rw [getElem!_pos l j hj] at this
    simp [this]
   have HO : Hid (∀ w1, Below w.heap.size w w1 → OwnAt w1 base 67 8 Stay.enc (.slice (some ⟨g, 0, none⟩) l.length cap) (l.filter fun x => !p x)) := fun w1 hb => by
    rw [e3]; exact Or.inr ⟨g, cap, cur, rfl, hg, hk.below hb, hlc, hm, hs, hr⟩
   clear hp hPB hall e1 e2 e3 hr hs hk HP
   go_enter Tryz.func121, Tryz.ntmps121
   go_wp2_with fail; refine HI.out.mono ?_; rintro e w1 ⟨rfl, b1⟩; have B1 : Hid (Below w.heap.size w w1) := b1; clear b1; go_wp2; go_returns; exact ⟨_, rfl, HO.out _ B1.out, grown_of_below B1.out, fun g h => h⟩
  ·have e2 : Lib.idxBy (fun _ y => p y) l default = (k0 : Int) := by unfold Lib.idxBy; rw [e1]; simp
   rw [e2] at HI; have hne1 : ((k0 : Int) == -1) = false := beq_eq_false_iff_ne.2 (by omega)
   have hft : (l.take k0).filter (fun x => !p x) = l.take k0 := by
    rw [List.filter_eq_self]
    intro a ha
    obtain ⟨j, hj, rfl⟩ := List.getElem_of_mem ha; simp only [List.length_take] at hj; have := hall j (by omega); rw [getElem!_pos l j (by omega)] at this
    simp [List.getElem_take, this]
   have ht' : p l[k0]! = true := ht
   have HD : Hid (∀ w1, Below w.heap.size w w1 → DelI w w1 g cap 8 67 Stay.enc p l (k0 + 1) k0) := fun w1 hb => by
    have h0 : DelI w w g cap 8 67 Stay.enc p l k0 k0 := ⟨grown_refl _ _, by rw [hft, List.length_take]; omega, cur, hk, hs, by
     rw [hft]
     intro j hj i u hu
     simp only [List.length_take] at hj; have e : (l.take k0)[j]! = l[j]! := by rw [getElem!_pos (l.take k0) j (by simp; omega), getElem!_pos l j (by omega), List.getElem_take]
     rw [e] at hu; exact hr j (by omega) i u hu, fun a _ ha => hr a ha⟩
    exact h0.skip hk0 ht' hb
   clear hp hPB hall e1 e2 hft hr hs hk ht ht'
   go_enter Tryz.func121, Tryz.ntmps121
   go_wp2_with fail; refine HI.out.mono ?_; rintro e w1 ⟨rfl, b1⟩; have D1 : Hid (DelI w w1 g cap 8 67 Stay.enc p l (k0 + 1) k0) := HD.out w1 b1; clear b1 HD HI; go_wp2_with fail
   go_loopg [5, 6, 7] l.length (fun gg s5 s6 _ wr => ∃ i j : Nat, s5 = .int .i64 i ∧ s6 = .int .i64 j ∧ j ≤ l.length ∧ l.length - j ≤ gg ∧ i < j ∧ Hid (DelI w wr g cap 8 67 Stay.enc p l j i))
   case atStart => exact ⟨k0, k0 + 1, rfl, by go_num, by omega, by omega, by omega, D1⟩
   case round =>
    clear D1; obtain ⟨i, j, rfl, rfl, hjl, hgg, hij, D⟩ := hrel; obtain ⟨cu, hb, hsz, _, hcu⟩ := D.out.cur; have KB : Hid (Blk wr g cu 67) := hb; have HZ : Hid (cu.size = cap * 8) := hsz
    by_cases hlt : j < l.length
    ·have hltz : (j : Int) < (l.length : Int) := by omega
     have hiz : (i : Int) < (l.length : Int) := by omega
     have HX : Hid (∀ c u, (Stay.enc l[j]!)[c]? = some u → cu[j * 8 + c]? = some u) := hcu j (Nat.le_refl _) hlt
     have c0 := (hb.cell (j * 8 + 0)).trans (HX.out 0 _ rfl); have c1 := (hb.cell (j * 8 + 1)).trans (HX.out 1 _ rfl); have c2 := (hb.cell (j * 8 + 2)).trans (HX.out 2 _ rfl); have c3 := (hb.cell (j * 8 + 3)).trans (HX.out 3 _ rfl); have c4 := (hb.cell (j * 8 + 4)).trans (HX.out 4 _ rfl); have c5 := (hb.cell (j * 8 + 5)).trans (HX.out 5 _ rfl); have c6 := (hb.cell (j * 8 + 6)).trans (HX.out 6 _ rfl); have c7 := (hb.cell (j * 8 + 7)).trans (HX.out 7 _ rfl); obtain ⟨o0, ho0⟩ : ∃ o, cu[i * 8 + 0]? = some o := ⟨_, Array.getElem?_eq_getElem (by rw [HZ.out]; have : (i + 1) * 8 ≤ cap * 8 := Nat.mul_le_mul_right 8 (by omega); omega)⟩
     obtain ⟨o1, ho1⟩ : ∃ o, cu[i * 8 + 1]? = some o := ⟨_, Array.getElem?_eq_getElem (by rw [HZ.out]; have : (i + 1) * 8 ≤ cap * 8 := Nat.mul_le_mul_right 8 (by omega); omega)⟩
     obtain ⟨o2, ho2⟩ : ∃ o, cu[i * 8 + 2]? = some o := ⟨_, Array.getElem?_eq_getElem (by rw [HZ.out]; have : (i + 1) * 8 ≤ cap * 8 := Nat.mul_le_mul_right 8 (by omega); omega)⟩
     obtain ⟨o3, ho3⟩ : ∃ o, cu[i * 8 + 3]? = some o := ⟨_, Array.getElem?_eq_getElem (by rw [HZ.out]; have : (i + 1) * 8 ≤ cap * 8 := Nat.mul_le_mul_right 8 (by omega); omega)⟩
     obtain ⟨o4, ho4⟩ : ∃ o, cu[i * 8 + 4]? = some o := ⟨_, Array.getElem?_eq_getElem (by rw [HZ.out]; have : (i + 1) * 8 ≤ cap * 8 := Nat.mul_le_mul_right 8 (by omega); omega)⟩
     obtain ⟨o5, ho5⟩ : ∃ o, cu[i * 8 + 5]? = some o := ⟨_, Array.getElem?_eq_getElem (by rw [HZ.out]; have : (i + 1) * 8 ≤ cap * 8 := Nat.mul_le_mul_right 8 (by omega); omega)⟩
     obtain ⟨o6, ho6⟩ : ∃ o, cu[i * 8 + 6]? = some o := ⟨_, Array.getElem?_eq_getElem (by rw [HZ.out]; have : (i + 1) * 8 ≤ cap * 8 := Nat.mul_le_mul_right 8 (by omega); omega)⟩
     obtain ⟨o7, ho7⟩ : ∃ o, cu[i * 8 + 7]? = some o := ⟨_, Array.getElem?_eq_getElem (by rw [HZ.out]; have : (i + 1) * 8 ≤ cap * 8 := Nat.mul_le_mul_right 8 (by omega); omega)⟩
     clear hcu HX hb hsz; simp only [Nat.add_zero] at c0 ho0; have KS : Hid (∀ wx, Below wr.heap.size wr wx → p l[j]! = true → DelI w wx g cap 8 67 Stay.enc p l (j + 1) i) := fun wx hb hp => D.out.skip hlt hp hb
     have KK : Hid (∀ wx, Below wr.heap.size wr wx → p l[j]! = false → DelI w (wx.setCells g (i * 8) (Stay.enc l[j]!)) g cap 8 67 Stay.enc p l (j + 1) (i + 1)) := fun wx hb hp => D.out.keep stay_len hlt hlc hp hb
     have HG : Hid (w.grownBy wr (some g)) := D.out.grown; clear D; generalize l[j]! = x at *; obtain ⟨st, sid, sa, sb, sc, sx, sy, sz⟩ := x; simp only at c0 c1 c2 c3 c4 c5 c6 c7; obtain ⟨wa, hwa⟩ : ∃ wa, wr.alloc (.cells #[.int .i64 st, .int .i64 sid, .int .i64 sa, .int .i64 sb, .int .i64 sc, .int .i64 sx, .int .i64 sy, .int .i64 sz] 67) = wa := ⟨_, rfl⟩
     have NA : Hid (Below wr.heap.size wr wa) := by show Below _ _ _; rw [← hwa]; exact B.new1 _ _
     have KA : Hid (Blk wa wr.heap.size #[.int .i64 st, .int .i64 sid, .int .i64 sa, .int .i64 sb, .int .i64 sc, .int .i64 sx, .int .i64 sy, .int .i64 sz] 67) := by show Blk _ _ _ _; rw [← hwa]; exact Blk.new _ _ _
     have HC : Hid (Calls Tryz.prog gf (#[.agg #[.int .i64 st, .int .i64 sid, .int .i64 sa, .int .i64 sb, .int .i64 sc, .int .i64 sx, .int .i64 sy, .int .i64 sz]] ++ lb) wa fun e w' => e = .returned (.bool (p ⟨st, sid, sa, sb, sc, sx, sy, sz⟩)) ∧ Below wa.heap.size wa w') := HP.out wa (grown_trans HG.out (grown_of_below NA.out)) ⟨st, sid, sa, sb, sc, sx, sy, sz⟩
     have ra := KA.out.cell
     cases hq : p ⟨st, sid, sa, sb, sc, sx, sy, sz⟩
     ·rw [hq] at HC
      go_wp2_with fail; clear hwa ra; refine HC.out.mono ?_; rintro e wb ⟨rfl, bb⟩; have NB : Hid (Below wr.heap.size wr wb) := B.next NA.out bb NA.out.size; have rb := (KA.out.below bb).cell; have KBb := KB.out.below NB.out; have d0 : wb.cell? ⟨g, i * 8, none⟩ = some o0 := (KBb.cell _).trans ho0; have d1 : wb.cell? ⟨g, i * 8 + 1, none⟩ = some o1 := (KBb.cell _).trans ho1; have d2 : wb.cell? ⟨g, i * 8 + 2, none⟩ = some o2 := (KBb.cell _).trans ho2; have d3 : wb.cell? ⟨g, i * 8 + 3, none⟩ = some o3 := (KBb.cell _).trans ho3; have d4 : wb.cell? ⟨g, i * 8 + 4, none⟩ = some o4 := (KBb.cell _).trans ho4; have d5 : wb.cell? ⟨g, i * 8 + 5, none⟩ = some o5 := (KBb.cell _).trans ho5; have d6 : wb.cell? ⟨g, i * 8 + 6, none⟩ = some o6 := (KBb.cell _).trans ho6; have d7 : wb.cell? ⟨g, i * 8 + 7, none⟩ = some o7 := (KBb.cell _).trans ho7; have fz := KBb.free; have KN : Hid (DelI w (wb.setCells g (i * 8) (Stay.enc ⟨st, sid, sa, sb, sc, sx, sy, sz⟩)) g cap 8 67 Stay.enc p l (j + 1) (i + 1)) := KK.out wb NB.out hq; clear bb KBb ho0 c0 ho1 c1 ho2 c2 ho3 c3 ho4 c4 ho5 c5 ho6 c6 ho7 c7 KS KK HC KA hq; go_wp2
      go_roundg (l.length - (j + 1))
      case measure => omega
      case rel => exact ⟨i + 1, j + 1, by go_num, by go_num, by omega, Nat.le_refl _, by omega, KN⟩
     ·rw [hq] at HC
      go_wp2_with fail; clear hwa ra; refine HC.out.mono ?_; rintro e wb ⟨rfl, bb⟩; have NB : Hid (Below wr.heap.size wr wb) := B.next NA.out bb NA.out.size; have KN : Hid (DelI w wb g cap 8 67 Stay.enc p l (j + 1) i) := KS.out wb NB.out hq; clear bb ho0 c0 ho1 c1 ho2 c2 ho3 c3 ho4 c4 ho5 c5 ho6 c6 ho7 c7 KS KK HC KA hq; go_wp2
      go_roundg (l.length - (j + 1))
      case measure => omega
      case rel => exact ⟨i, j + 1, rfl, by go_num, by omega, Nat.le_refl _, by omega, KN⟩
    ·have hje : j = l.length := by omega
     subst hje; have hltz : ¬ (l.length : Int) < (l.length : Int) := by omega
     obtain ⟨zl, hzl⟩ : ∃ zl, (Builtin.zeroCells (Value.agg #[.int .i64 0, .int .i64 0, .int .i64 0, .int .i64 0, .int .i64 0, .int .i64 0, .int .i64 0, .int .i64 0]).cells (l.length - i)).toList = zl := ⟨_, rfl⟩
     have hzz := zeroCellsS (l.length - i); rw [hzl] at hzz
     have hcl : ∀ ty, (Builtin.clear_ #[36] ty #[.slice (some ⟨g, i * 8, none⟩) (l.length - i) (cap - i)]).run Tryz.prog wr = .ok (.tuple #[]) (wr.setCells g (i * 8) zl) :=
      fun ty => run_clear_rows wr _ _ ty _ Tryz.underlying36 zeroS_run g (i * 8) _ _ (by omega) zl hzl (fun t ht => by
       rw [hb.cell, Array.getElem?_eq_getElem (by rw [hsz]; have : l.length * 8 ≤ cap * 8 := Nat.mul_le_mul_right 8 hlc; rw [hzz.1] at ht; have : (l.length - i) * 8 = l.length * 8 - i * 8 := Nat.sub_mul _ _ _; have : i * 8 ≤ l.length * 8 := Nat.mul_le_mul_right 8 (by omega); omega)]; rfl) (fun t ht => hb.free _) hzz.2
     have HF : Hid (OwnAt (wr.setCells g (i * 8) zl) base 67 8 Stay.enc (.slice (some ⟨g, 0, none⟩) i cap) (l.filter fun x => !p x) ∧ w.grownBy (wr.setCells g (i * 8) zl) (some g)) := by
      obtain ⟨cu2, hb2, hs2, hin, _⟩ := D.out.cur; have hlen := D.out.len; rw [List.take_length] at hin hlen; refine ⟨Or.inr ⟨g, cap, setRow cu2 (i * 8) zl, by rw [hlen], hg, blk_setCells _ _ _ hb2, by rw [hlen]; omega, hm, by rw [setRow_size]; exact hs2, fun a ha c u hu => ?_⟩, grown_trans D.out.grown (grown_setCells g _ _ _)⟩
      have hc : c < 8 := by rw [← stay_len (l.filter fun x => !p x)[a]!]; exact (List.getElem?_eq_some_iff.1 hu).1
      rw [hlen] at ha; rw [setRow_out _ _ _ _ (Or.inl (by have : (a + 1) * 8 ≤ i * 8 := Nat.mul_le_mul_right 8 ha; omega))]; exact hin a (by rw [hlen]; exact ha) c u hu
     have hiL : (i : Int) ≤ (l.length : Int) := by omega
     have hiC : (i : Int) ≤ (cap : Int) := by omega
     have hlC : (l.length : Int) ≤ (cap : Int) := by omega
     clear hb hsz hcu D KB HZ hzz hzl; generalize wr.setCells g (i * 8) zl = wz at *; go_wp2; go_returns; exact ⟨_, rfl, HF.out.1, HF.out.2, fun g h => h⟩
end Bk
end Go.Proofs.YtopgllmjeliklaaGreatDoor
