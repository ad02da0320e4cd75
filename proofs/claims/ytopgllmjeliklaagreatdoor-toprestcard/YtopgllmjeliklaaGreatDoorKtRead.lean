/- Read Levels Places Desk TopPlaces. -/
import Derived.Test.YtopgllmjeliklaaGreatDoorKtPlan
import Derived.Deep.DeepCutAuto
set_option maxRecDepth 100000
set_option linter.unusedSimpArgs false
set_option linter.unusedVariables false
namespace Go.Proofs.YtopgllmjeliklaaGreatDoor
open Go.Shelf Go.ChangeShapes Go.WideShapes Go.ChangeAt Go.RowKit
namespace Tx
open Bk
def wordsB (s : ByteArray) : List ByteArray := Lib.splitB ⟨#[32]⟩ 0 (min 147 (s.size + 1) - 1) s
def atoiO (x : ByteArray) : Option Int := match Lib.atoiAll x.data.toList with | .ok v => some v | _ => none
theorem wordsB_len (s : ByteArray) : 1 ≤ (wordsB s).length ∧ (wordsB s).length ≤ min 147 (s.size + 1) := by
 constructor
 ·unfold wordsB
  generalize (min 147 (s.size + 1) - 1) = k
  cases k with
  | zero => simp [Lib.splitB]
  | succ k =>
    unfold Lib.splitB
    split <;> simp
 ·have := Lib.splitB_length_le ⟨#[32]⟩ 0 (min 147 (s.size + 1) - 1) s
  unfold wordsB
  omega
def AtoiPost (s : ByteArray) (w : World) (e : Ending) (w' : World) : Prop := Below w.heap.size w w' ∧ ((∃ v, atoiO s = some v ∧ e = .returned (.tuple #[.int .i64 v, .nilIface])) ∨ (atoiO s = none ∧ ∃ n T p, e = .returned (.tuple #[.int .i64 n, .iface T p])))
theorem atoi_any (s : ByteArray) (w : World) (hs : s.size ≤ 100000000) (G : Glob w) : Calls Tryz.prog 158 #[.string s] w (AtoiPost s w) := by
 cases h : Lib.atoiAll s.data.toList with
 | ok v =>
   refine (show Calls Tryz.prog 158 #[.string s] w _ from Any.strconv_Atoi_ok Tryz.lAtoi s (by omega) v h w).mono fun e w' hh => ?_
   obtain ⟨rfl, hw⟩ := hh; refine ⟨?_, Or.inl ⟨v, by unfold atoiO; rw [h], rfl⟩⟩
   rcases hw with rfl | ⟨t, rfl⟩
   ·exact Below.refl _ _
   ·exact Lib.bytesWorld_below _ _ _
 | «syntax» =>
   obtain ⟨ev, h1, h2⟩ := G.syn; refine (show Calls Tryz.prog 158 #[.string s] w _ from Any.strconv_Atoi_syntax Tryz.lAtoi s (by omega) h ev w h1 h2).mono fun e w' hh => ?_
   obtain ⟨N, rfl, _, _, hb⟩ := hh; exact ⟨hb, Or.inr ⟨by unfold atoiO; rw [h], _, _, _, rfl⟩⟩
 | range =>
   obtain ⟨ev, h1, h2⟩ := G.rng; refine (show Calls Tryz.prog 158 #[.string s] w _ from Any.strconv_Atoi_range Tryz.lAtoi s (by omega) h ev w h1 h2).mono fun e w' hh => ?_
   obtain ⟨N, rfl, _, _, hb⟩ := hh; exact ⟨hb, Or.inr ⟨by unfold atoiO; rw [h], _, _, _, rfl⟩⟩
theorem splitN_any (s : ByteArray) (w : World) (hs : s.size ≤ 100000000) (G : Glob w) : Calls Tryz.prog 157 #[.string s, .string ⟨#[32]⟩, .int .i64 147] w fun e w' =>
  e = .returned (.slice (some ⟨w.heap.size, 0, none⟩) (wordsB s).length (min 147 (s.size + 1))) ∧ w' = w.alloc (.cells (Lib.cellsOf (wordsB s) (min 147 (s.size + 1))) 9) := by
 obtain ⟨m, hm⟩ := G.len; exact Any.strings_SplitN (P := Tryz.prog) { Tryz.lSplitN with } Tryz.lSplitN.i9 s ⟨#[32]⟩ 147 m w (by omega) hm (by decide) (by decide) (by decide)
theorem wordsB_size (s : ByteArray) : ∀ x ∈ wordsB s, x.size ≤ s.size := by
 have : ∀ (k : Nat) (s : ByteArray), ∀ x ∈ Lib.splitB ⟨#[32]⟩ 0 k s, x.size ≤ s.size := by
  intro k
  induction k with
  | zero => intro s x hx; simp [Lib.splitB] at hx; subst hx; exact Nat.le_refl _
  | succ k ih =>
    intro s x hx
    unfold Lib.splitB at hx
    split at hx
    ·simp at hx; subst hx; exact Nat.le_refl _
    ·rcases List.mem_cons.1 hx with rfl | hx
     ·rw [ByteArray.size_extract]; omega
     ·have := ih _ x hx
      rw [ByteArray.size_extract] at this
      omega
 exact this _ s
def intsV (done : List Int) (N : Nat) : Array Value := (done.map (Value.int .i64) ++ List.replicate (N - done.length) (Value.int .i64 0)).toArray
theorem made_ints (n : Nat) : madeCells (Value.int .i64 0).cells n = intsV [] n := by
 apply Array.ext
 ·simp [madeCells, intsV]
 ·intro i h1 h2
  simp [madeCells, Value.cells, intsV, Nat.mod_one]
theorem make_ints (n : Nat) (hn : n ≤ 1000000) (W : World) : (Instr.makeSlice 56 (.int .i64 n) (.int .i64 n)).run Tryz.prog W = .ok (.slice (some ⟨W.heap.size, 0, none⟩) n n) (W.alloc (.cells (intsV [] n) 3)) := by
 obtain ⟨i, hi, hz, hs, hb⟩ := intInfo; have := run_make W 56 3 i _ (by kernel_rfl) hi hz .i64 .i64 n n (by omega) (Int.le_refl _) (by rw [hb]; omega) (by omega); rw [hs, Int.toNat_natCast, Nat.mul_one, made_ints] at this; exact this
def intsTo (l : List ByteArray) (k : Nat) : List Int := (l.take k).map fun x => (atoiO x).getD 0
theorem intsV_set {done : List Int} {N : Nat} (h : done.length < N) (x : Int) : (intsV done N).setIfInBounds done.length (.int .i64 x) = intsV (done ++ [x]) N := by
 obtain ⟨m, hm⟩ : ∃ m, N - done.length = m + 1 := ⟨N - done.length - 1, by omega⟩
 unfold intsV; rw [hm, List.length_append, List.length_singleton, show N - (done.length + 1) = m from by omega, List.replicate_succ, List.map_append]
 apply Array.ext'
 simp only [Array.toList_setIfInBounds]; rw [List.set_append_right _ _ (by simp)]
 simp
theorem intsV_next {done : List Int} {N : Nat} (h : done.length < N) : (intsV done N)[done.length]? = some (.int .i64 0) := by
 unfold intsV; rw [List.getElem?_toArray, List.getElem?_append_right (by simp), List.length_map, Nat.sub_self, List.getElem?_replicate, if_pos (by omega)]
def numsP (s : ByteArray) : Option (List Int) := (wordsB s).mapM atoiO
def ReadPost (s : ByteArray) (w : World) (e : Ending) (w' : World) : Prop := Below w.heap.size w w' ∧
 ((numsP s = none ∧ e = .returned (.tuple #[.slice none 0 0, .bool false])) ∨
  ∃ L g, numsP s = some L ∧ e = .returned (.tuple #[.slice (some ⟨g, 0, none⟩) L.length L.length, .bool true]) ∧ Blk w' g (L.map (Value.int .i64)).toArray 3 ∧ w.heap.size ≤ g)
theorem mapM_none {α β : Type} (f : α → Option β) : ∀ (l : List α) (x : α), x ∈ l → f x = none → l.mapM f = none
 | a :: l, x, hx, h => by
   rw [List.mapM_cons]
   rcases List.mem_cons.1 hx with rfl | hx
   ·rw [h]; rfl
   ·cases f a with
    | none => rfl
    | some v => simp [mapM_none f l x hx h]
theorem mapM_all {α β : Type} (f : α → Option β) (d : β) : ∀ (l : List α), (∀ x ∈ l, f x ≠ none) → l.mapM f = some (l.map fun x => (f x).getD d)
 | [], _ => rfl
 | a :: l, h => by
   rw [List.mapM_cons, mapM_all f d l (fun x hx => h x (by simp [hx]))]
   cases e : f a with
   | none => exact absurd e (h a (by simp))
   | some v => simp [e]
set_option maxHeartbeats 2000000 in
theorem readNumbers_any (s : ByteArray) (w : World) (hs : s.size ≤ 100000000) (G : Glob w) : Calls Tryz.prog 143 #[.string s] w (ReadPost s w) := by
 have HSP : Hid (Calls Tryz.prog 157 #[.string s, .string ⟨#[32]⟩, .int .i64 147] w fun e w' =>
  e = .returned (.slice (some ⟨w.heap.size, 0, none⟩) (wordsB s).length (min 147 (s.size + 1))) ∧ w' = w.alloc (.cells (Lib.cellsOf (wordsB s) (min 147 (s.size + 1))) 9)) := splitN_any s w hs G
 have HN : Hid (∀ x ∈ wordsB s, atoiO x = none → ∀ w', Below w.heap.size w w' → ReadPost s w (.returned (.tuple #[.slice none 0 0, .bool false])) w') := fun x hx h w' hb => ⟨hb, Or.inl ⟨mapM_none atoiO _ x hx h, rfl⟩⟩
 have HY : Hid ((∀ x ∈ wordsB s, atoiO x ≠ none) → ∀ g w', Below w.heap.size w w' → Blk w' g ((intsTo (wordsB s) (wordsB s).length).map (Value.int .i64)).toArray 3 → w.heap.size ≤ g → ReadPost s w (.returned (.tuple #[.slice (some ⟨g, 0, none⟩) (wordsB s).length (wordsB s).length, .bool true])) w') := fun h g w' hb hk hg => by
  refine ⟨hb, Or.inr ⟨intsTo (wordsB s) (wordsB s).length, g, ?_, ?_, hk, hg⟩⟩
  ·have := mapM_all atoiO 0 (wordsB s) h
   unfold numsP intsTo; rw [List.take_length]; exact this
  ·unfold intsTo; rw [List.length_map, List.take_length]
 obtain ⟨hl1, hl2⟩ := wordsB_len s; have HZ : Hid (∀ x ∈ wordsB s, x.size ≤ 100000000) := fun x hx => Nat.le_trans (wordsB_size s x hx) hs
 generalize wordsB s = L at *; generalize hmn : min 147 (s.size + 1) = cp at *; have hcp : cp ≤ 147 := by omega
 generalize ReadPost s w = PP at *; clear hmn; have hmk := make_ints L.length (by omega); have HGW : Hid (∀ W, Below w.heap.size w W → Glob W) := fun W hb => G.new hb
 go_enter Tryz.func143, Tryz.ntmps143
 go_wp2_with fail; refine HSP.out.mono ?_; rintro e w1 ⟨rfl, hw1⟩
 have X1 : Hid (Below w.heap.size w w1 ∧ Blk w1 w.heap.size (Lib.cellsOf L cp) 9) := by
  show _ ∧ _
  rw [hw1]; exact ⟨B.new1 _ _, Blk.new _ _ _⟩
 clear hw1 HSP; obtain ⟨w2, hw2⟩ : ∃ w2, w1.alloc (.cells (intsV [] L.length) 3) = w2 := ⟨_, rfl⟩
 have X2 : Hid (Below w.heap.size w w2 ∧ Blk w2 w.heap.size (Lib.cellsOf L cp) 9 ∧ Blk w2 w1.heap.size (intsV (intsTo L 0) L.length) 3) := by
  show _ ∧ _ ∧ _
  rw [← hw2]; exact ⟨X1.out.1.alloc X1.out.1.size _, X1.out.2.old _, Blk.new _ _ _⟩
 have hNW : w.heap.size ≤ w1.heap.size := X1.out.1.size; clear X1; go_wp2_with fail; clear hw2 hmk; generalize w1.heap.size = N1 at *
 go_loopg [17] L.length (fun gg s17 wr => ∃ k : Nat, k ≤ L.length ∧ L.length - k ≤ gg ∧ s17 = .int .i64 k ∧ Hid (∀ x ∈ L.take k, atoiO x ≠ none) ∧ Hid (Below w.heap.size w wr ∧ Blk wr w.heap.size (Lib.cellsOf L cp) 9 ∧ Blk wr N1 (intsV (intsTo L k) L.length) 3))
 case atStart => exact ⟨0, Nat.zero_le _, by omega, rfl, fun x hx => by simp at hx, X2⟩
 case round =>
  clear X2; obtain ⟨k, hk, hg, rfl, A, M⟩ := hrel
  by_cases hlt : k < L.length
  ·have hltz : (k : Int) < (L.length : Int) := by omega
   have hmem : L[k]! ∈ L := by rw [getElem!_pos L k hlt]; exact List.getElem_mem hlt
   have cg : wr.cell? ⟨w.heap.size, k, none⟩ = some (.string L[k]!) := by
    rw [M.out.2.1.cell]; unfold Lib.cellsOf; rw [List.getElem?_toArray, List.getElem?_append_left (by simpa using hlt), List.getElem?_map, List.getElem?_eq_getElem hlt, getElem!_pos L k hlt]
    rfl
   have HIL : Hid ((intsTo L k).length = k) := by show _ = _; unfold intsTo; rw [List.length_map, List.length_take]; omega
   have HA : Hid (Calls Tryz.prog 158 #[.string L[k]!] wr (AtoiPost L[k]! wr)) := atoi_any _ wr (HZ.out _ hmem) (HGW.out wr M.out.1); have HNK : Hid (atoiO L[k]! = none → ∀ w', Below w.heap.size w w' → PP (.returned (.tuple #[.slice none 0 0, .bool false])) w') := HN.out _ hmem
   have HTK : Hid (∀ v, atoiO L[k]! = some v → (∀ x ∈ L.take (k + 1), atoiO x ≠ none) ∧ intsTo L (k + 1) = intsTo L k ++ [v]) := fun v hv => by
    rw [getElem!_pos L k hlt] at hv
    constructor
    ·intro x hx
     rw [List.take_succ_eq_append_getElem hlt] at hx
     rcases List.mem_append.1 hx with hx | hx
     ·exact A.out x hx
     ·simp at hx; subst hx; rw [hv]; simp
    ·unfold intsTo
     rw [List.take_succ_eq_append_getElem hlt, List.map_append]
     simp [hv]
   generalize L[k]! = sv at *; go_wp2_with fail; refine HA.out.mono ?_; rintro e w3 ⟨b3, hres⟩; have N1' : Hid (Below w.heap.size w w3 ∧ Blk w3 w.heap.size (Lib.cellsOf L cp) 9 ∧ Blk w3 N1 (intsV (intsTo L k) L.length) 3) := ⟨B.next M.out.1 b3 M.out.1.size, M.out.2.1.below b3, M.out.2.2.below b3⟩; clear b3 M HA cg
   rcases hres with ⟨v, hv, rfl⟩ | ⟨hv, n, T, p, rfl⟩
   ·obtain ⟨hA2, hI2⟩ := HTK.out v hv
    have HA2 : Hid (∀ x ∈ L.take (k + 1), atoiO x ≠ none) := hA2
    have hfr := N1'.out.2.2.free
    have cn : w3.cell? ⟨N1, k, none⟩ = some (.int .i64 0) := by
     rw [N1'.out.2.2.cell]; have := intsV_next (done := intsTo L k) (N := L.length) (by rw [HIL.out]; exact hlt)
     rwa [HIL.out] at this
    have N2 : Hid (Below w.heap.size w (w3.setCell ⟨N1, k, none⟩ (.int .i64 v)) ∧ Blk (w3.setCell ⟨N1, k, none⟩ (.int .i64 v)) w.heap.size (Lib.cellsOf L cp) 9 ∧ Blk (w3.setCell ⟨N1, k, none⟩ (.int .i64 v)) N1 (intsV (intsTo L (k + 1)) L.length) 3) := by
     refine ⟨N1'.out.1.setCell (p := ⟨N1, k, none⟩) hNW _, N1'.out.2.1.other (fun e => ?_) _ _, ?_⟩
     ·have h1 := N1'.out.2.1
      rw [← e] at h1; exact absurd (blkType h1 N1'.out.2.2) (by decide)
     ·have h1 := N1'.out.2.2.set k (.int .i64 v)
      have h2 := intsV_set (done := intsTo L k) (N := L.length) (by rw [HIL.out]; exact hlt) v; rw [HIL.out] at h2; rw [h2, ← hI2] at h1; exact h1
    clear N1' hA2 hI2 HNK HTK hv HN HY; go_wp2
    go_roundg (L.length - (k + 1))
    case measure => omega
    case rel => exact ⟨k + 1, by omega, by omega, by go_num, HA2, N2⟩
   ·have HF : Hid (PP (.returned (.tuple #[.slice none 0 0, .bool false])) w3) := HNK.out hv _ N1'.out.1
    clear N1' HNK HTK hv HN HY; go_wp2; exact HF.out
  ·have hltz : ¬ (k : Int) < (L.length : Int) := by omega
   have hke : k = L.length := by omega
   subst hke
   have HF : Hid (PP (.returned (.tuple #[.slice (some ⟨N1, 0, none⟩) L.length L.length, .bool true])) wr) := by
    refine HY.out (by have := A.out; rwa [List.take_length] at this) N1 wr M.out.1 ?_ hNW; have h1 := M.out.2.2; have hil : (intsTo L L.length).length = L.length := by unfold intsTo; rw [List.length_map, List.take_length]
    unfold intsV at h1; rw [hil, Nat.sub_self] at h1
    simpa using h1
   clear HN HY A M; go_wp2; exact HF.out
end Tx
end Go.Proofs.YtopgllmjeliklaaGreatDoor
namespace Go.Proofs.YtopgllmjeliklaaGreatDoor
open Go.ChangeShapes Go.WideShapes Go.ChangeAt Go.RowKit
theorem check_any (v : Value) (len : Nat) (f : Nat → Int × Int × Int) (w : World) (hs : SizesAt w v len f) :
  Calls Tryz.prog 45 #[v] w fun e w' => e = .returned (errV (levelsN len f)) ∧ Below w.heap.size w w' := by
 by_cases h : 1 ≤ len ∧ len ≤ 4
 ·obtain ⟨a, cap, rfl, hl, hm, hc⟩ := hs
  obtain ⟨b, off, rfl, hb, hcell⟩ := hc (by omega); exact check_few b off len cap f w h.1 h.2 hb hcell
 ·exact check_many v len f w hs h
-- left out: this seat has not what it speaks of
-- left out: this seat has not what it speaks of
-- left out: this seat has not what it speaks of
theorem levelsFrom_zero (f : Nat → Int × Int × Int) (l : Int × Int × Int) : ∀ n i, levelsFrom f l n i = 0 → ∀ j, i ≤ j → j < i + n → levelN (f j) l = 0
 | 0, i, _, j, h1, h2 => by omega
 | n + 1, i, h, j, h1, h2 => by
   unfold levelsFrom at h
   split at h
   ·rename_i h0
    by_cases hj : j = i
    ·rw [hj]; exact h0
    ·exact levelsFrom_zero f l n (i + 1) h j (by omega) (by omega)
   ·rename_i h0
    exact absurd h h0
theorem levelsN_zero {len : Nat} {f : Nat → Int × Int × Int} (h : levelsN len f = 0) : 1 ≤ len ∧ len ≤ 4 ∧ ∀ i, i < len → fitsB (f i).1 (f i).2.1 (f i).2.2 (f (len - 1)).1 (f (len - 1)).2.1 (f (len - 1)).2.2 = true := by
 unfold levelsN at h
 split at h
 ·rename_i hl
  refine ⟨hl.1, hl.2, fun i hi => ?_⟩
  have := levelsFrom_zero f _ _ _ h i (by omega) (by omega); unfold levelN at this
  split at this
  ·split at this
   ·assumption
   ·omega
  ·omega
 ·omega
def flatP : List (Int × Int × Int) → List Value
 | [] => []
 | p :: l => .int .i64 p.1 :: .int .i64 p.2.1 :: .int .i64 p.2.2 :: flatP l
theorem flatP_append : ∀ l m, flatP (l ++ m) = flatP l ++ flatP m
 | [], m => rfl
 | p :: l, m => by simp [flatP, flatP_append l m]
def placesTo (n : Nat) : Nat → List (Int × Int × Int)
 | 0 => []
 | k + 1 => if k + 1 = 2 * n then placesTo n k else placesTo n k ++ [(((k / 2 : Nat) : Int) + 1, ((k % 2 : Nat) : Int), 1), (((k / 2 : Nat) : Int) + 1, ((k % 2 : Nat) : Int), 0)]
theorem placesTo_le (n : Nat) : ∀ k, (placesTo n k).length ≤ 2 * k
 | 0 => by simp [placesTo]
 | k + 1 => by
   have := placesTo_le n k; unfold placesTo
   split
   ·omega
   ·simp; omega
theorem placesTo_0 (n k : Nat) (h : k < n) : placesTo n (2 * k + 1) = placesTo n (2 * k) ++ [((k : Int) + 1, 0, 1), ((k : Int) + 1, 0, 0)] := by
 have e1 : (2 * k) / 2 = k := by omega
 have e2 : (2 * k) % 2 = 0 := by omega
 show (if 2 * k + 1 = 2 * n then _ else _) = _
 rw [if_neg (by omega), e1, e2]
 rfl
theorem placesTo_1 (n k : Nat) (h : k + 1 < n) : placesTo n (2 * k + 1 + 1) = placesTo n (2 * k + 1) ++ [((k : Int) + 1, 1, 1), ((k : Int) + 1, 1, 0)] := by
 have e1 : (2 * k + 1) / 2 = k := by omega
 have e2 : (2 * k + 1) % 2 = 1 := by omega
 show (if 2 * k + 1 + 1 = 2 * n then _ else _) = _
 rw [if_neg (by omega), e1, e2]
 rfl
theorem placesTo_l (n k : Nat) (h : k + 1 = n) : placesTo n (2 * k + 1 + 1) = placesTo n (2 * k + 1) := by
 show (if 2 * k + 1 + 1 = 2 * n then _ else _) = _
 rw [if_pos (by omega)]
def PlacesOwn (w w' : World) (v : Value) (l : List (Int × Int × Int)) : Prop := w'.ownsRow w.heap.size 65 3 v l.length (flatP l) ∧ Below w.heap.size w w'
theorem Tryz.infoPlace : (Tryz.prog.info? 65).map (fun i => (i.zero, i.size, i.bytes)) = some (some (.agg #[.int .i64 0, .int .i64 0, .int .i64 0]), 3, 24) := by kernel_rfl
def PL (w wx : World) (N n : Nat) (v : Value) (l : List (Int × Int × Int)) : Prop :=
 wx.ownsRow (N + 1) 65 3 v l.length (flatP l) ∧ Below w.heap.size w wx ∧ w.heap.size ≤ N ∧ N + 1 ≤ wx.heap.size ∧ ∀ o, wx.cell? ⟨N, o, none⟩ = (#[.int .i64 n, .int .i64 1, .int .i64 0] : Array Value)[o]?
theorem owns_below {w W : World} {base : Nat} {e : TypeId} {size : Nat} {v : Value} {n : Nat} {xs : List Value} (h : w.ownsRow base e size v n xs) (hb : Below w.heap.size w W) : W.ownsRow base e size v n xs := by
 refine ⟨h.1, h.2.elim Or.inl (fun ⟨g, cap, cur, hv, hg, hh, r⟩ => Or.inr ⟨g, cap, cur, hv, hg, ?_, r⟩)⟩
 rw [hb.block g ?_]
 ·exact hh
 ·rcases Nat.lt_or_ge g w.heap.size with h' | h'
  ·exact h'
  ·rw [Array.getElem?_eq_none h'] at hh; cases hh
theorem PL.below {w wx W : World} {N n : Nat} {v : Value} {l : List (Int × Int × Int)} (h : PL w wx N n v l) (hb : Below wx.heap.size wx W) : PL w W N n v l := by
 obtain ⟨h0, h1, h2, h3, h4⟩ := h; have hz := hb.size; exact ⟨owns_below h0 hb, B.next h1 hb (by omega), h2, by omega, B.row hb h4 (by omega)⟩
theorem PL.grown {w W w3 : World} {N n : Nat} {v v' : Value} {l : List (Int × Int × Int)} {p q : Int × Int × Int} (h : PL w W N n v l)
  (ho : w3.ownsRow (N + 1) 65 3 v' (l.length + 2) (flatP l ++ [.int .i64 p.1, .int .i64 p.2.1, .int .i64 p.2.2, .int .i64 q.1, .int .i64 q.2.1, .int .i64 q.2.2])) (hg : W.grownBy w3 v.ownBlock) : PL w w3 N n v' (l ++ [p, q]) := by
 obtain ⟨h0, h1, h2, h3, h4⟩ := h; have hz := hg.size; refine ⟨?_, Below.grown h1 hg (by omega) (fun k hk => by have := (h0.lt k hk).1; omega), h2, by omega, fun o => ?_⟩
 ·rw [flatP_append, List.length_append]
  exact ho
 ·rw [← h4 o]
  exact World.cell?_of_block (w := W) (hg.block N (by omega) (fun e => by have := (h0.lt N e.symm).1; omega))
set_option maxHeartbeats 4000000 in
theorem places_any (n : Nat) (w : World) (h1 : 1 ≤ n) (h4 : n ≤ 4) : Calls Tryz.prog 65 #[.int .i64 n] w fun e w' => ∃ v, e = .returned v ∧ PlacesOwn w w' v (placesTo n (2 * n)) := by
 obtain ⟨i0, hi, hi0, hi1, hi2⟩ := info_parts Tryz.infoPlace; have hd : decide ((1 : Int) ≤ (n : Int) ∧ (n : Int) ≤ 4) = true := by simp only [decide_eq_true_eq]; omega
 go_enter Tryz.func65, Tryz.ntmps65
 go_wp2_with (first
  | (go_at_call 63; refine (within_any' _ _ _ _).mono ?_; rw [hd]; rintro e wx ⟨rfl, hwx⟩; subst hwx)
  | (go_at_call 49; refine (spare_any _ _).mono ?_; rintro e w1 ⟨rfl, hb1⟩))
 have P0 : Hid (PL w (w1.alloc (.cells #[.int .i64 n, .int .i64 1, .int .i64 0] 65)) w1.heap.size n (.slice none 0 0) (placesTo n 0)) := ⟨World.ownsRow_nil _ _ _ _, hb1.alloc hb1.size _, hb1.size, by simp, B.row_new _ _ _⟩
 generalize w1.heap.size = N at *; clear hb1 hd
 go_loopg [4, 15] n (fun q v i wr => ∃ k : Nat, k + q = n ∧ i = .int .i64 k ∧ Hid (PL w wr N n v (placesTo n (2 * k))))
 case atStart => exact ⟨0, by omega, rfl, P0⟩
 case round =>
  obtain ⟨k, hk, rfl, PR⟩ := hrel; have HK : Hid (k + gk = n) := hk
  by_cases hlt : k < n
  ·clear hk P0
   have i4 : (k : Int) < (n : Int) := by omega
   go_wp2_with fail
   go_loopg [4, 18] 2 (fun q v s wr => ∃ j : Nat, j + q = 2 ∧ s = .int .i64 j ∧ Hid (PL w wr N n v (placesTo n (2 * k + j))))
   case atStart => exact ⟨0, by omega, rfl, PR⟩
   case round =>
    obtain ⟨j, hj, rfl, PI⟩ := hrel; have hJ : j = 0 ∨ j = 1 ∨ j = 2 := by omega
    rcases hJ with rfl | rfl | rfl
    ·obtain ⟨_, _, _, hNs, hsp⟩ := PI.out
     have hs2 := B.row_old (.cells #[.int .i64 ((k : Int) + 1), .int .i64 0, .int .i64 0] 65) hsp (by omega); have PA : Hid (PL w (((wr.alloc (.cells #[.int .i64 ((k : Int) + 1), .int .i64 0, .int .i64 0] 65)).alloc (.cells #[.int .i64 ((k : Int) + 1), .int .i64 0, .int .i64 1] 65)).alloc (.cells #[.int .i64 ((k : Int) + 1), .int .i64 0, .int .i64 1, .int .i64 ((k : Int) + 1), .int .i64 0, .int .i64 0] 65)) N n u4 (placesTo n (2 * k + 0))) := PI.out.below (((B.new1 _ _).trans ((B.new1 _ _).mono (by simp))).trans ((B.new1 _ _).mono (by simp; omega))); have hll := placesTo_le n (2 * k + 0); generalize hLL : placesTo n (2 * k + 0) = L at *; have HLL : Hid (placesTo n (2 * k + 0) = L) := hLL; clear hLL hsp
     go_wp2_with (first
      | (at_builtin; refine wpList_append_own _ rfl _ _ 113 rfl (N + 1) 65 i0 (.agg #[.int .i64 0, .int .i64 0, .int .i64 0]) 3 24 Tryz.underlying113 hi hi0 hi1 hi2 rfl (by decide) _ L.length (flatP L) rfl PA.out.1 ⟨wr.heap.size + 1 + 1, 0, none⟩ 2 2 [.int .i64 ((k : Int) + 1), .int .i64 0, .int .i64 1, .int .i64 ((k : Int) + 1), .int .i64 0, .int .i64 0] rfl rfl (news_new _ _ _ _ (by simp)) (ints_one [(k : Int) + 1, 0, 1, (k : Int) + 1, 0, 0]) (by unfold maxLen; omega) (by omega) (by have := PA.out.2.2.2.1; omega) ?_
         intro v' w3 hown' hgrow3 hnil3
         have X : Hid (PL w w3 N n v' (L ++ [((k : Int) + 1, 0, 1), ((k : Int) + 1, 0, 0)])) := PA.out.grown hown' hgrow3; clear hown' hgrow3 hnil3))
     go_roundg (gk - 1)
     case measure => omega
     case rel => exact ⟨0 + 1, by omega, by go_num, by show PL _ _ _ _ _ _; rw [show 2 * k + (0 + 1) = 2 * k + 0 + 1 from by omega, placesTo_0 n k hlt, show 2 * k = 2 * k + 0 from rfl, HLL.out]; exact X.out⟩
    ·by_cases hlast : k + 1 = n
     ·obtain ⟨_, _, _, hNs, hsp⟩ := PI.out
      have e1 : ((k : Int) + 1 == (n : Int)) = true := by simp; omega
      have hs2 := B.row_old (.cells #[.int .i64 ((k : Int) + 1), .int .i64 1, .int .i64 0] 65) hsp (by omega); have PA : Hid (PL w (wr.alloc (.cells #[.int .i64 ((k : Int) + 1), .int .i64 1, .int .i64 0] 65)) N n u4 (placesTo n (2 * k + 1))) := PI.out.below (B.new1 _ _); have HL : Hid (k + 1 = n) := hlast; clear hlast hsp; go_wp2_with fail
      go_roundg (gk - 1)
      case measure => omega
      case rel => exact ⟨1 + 1, by omega, by go_num, by show PL _ _ _ _ _ _; rw [show 2 * k + (1 + 1) = 2 * k + 1 + 1 from by omega, placesTo_l n k HL.out]; exact PA.out⟩
     have e1 : ((k : Int) + 1 == (n : Int)) = false := by simp; omega
     obtain ⟨_, _, _, hNs, hsp⟩ := PI.out; have hs2 := B.row_old (.cells #[.int .i64 ((k : Int) + 1), .int .i64 1, .int .i64 0] 65) hsp (by omega); have PA : Hid (PL w (((wr.alloc (.cells #[.int .i64 ((k : Int) + 1), .int .i64 1, .int .i64 0] 65)).alloc (.cells #[.int .i64 ((k : Int) + 1), .int .i64 1, .int .i64 1] 65)).alloc (.cells #[.int .i64 ((k : Int) + 1), .int .i64 1, .int .i64 1, .int .i64 ((k : Int) + 1), .int .i64 1, .int .i64 0] 65)) N n u4 (placesTo n (2 * k + 1))) := PI.out.below (((B.new1 _ _).trans ((B.new1 _ _).mono (by simp))).trans ((B.new1 _ _).mono (by simp; omega))); have hll := placesTo_le n (2 * k + 1); generalize hLL : placesTo n (2 * k + 1) = L at *; have HLL : Hid (placesTo n (2 * k + 1) = L) := hLL; clear hLL hsp
     go_wp2_with (first
      | (at_builtin; refine wpList_append_own _ rfl _ _ 113 rfl (N + 1) 65 i0 (.agg #[.int .i64 0, .int .i64 0, .int .i64 0]) 3 24 Tryz.underlying113 hi hi0 hi1 hi2 rfl (by decide) _ L.length (flatP L) rfl PA.out.1 ⟨wr.heap.size + 1 + 1, 0, none⟩ 2 2 [.int .i64 ((k : Int) + 1), .int .i64 1, .int .i64 1, .int .i64 ((k : Int) + 1), .int .i64 1, .int .i64 0] rfl rfl (news_new _ _ _ _ (by simp)) (ints_one [(k : Int) + 1, 1, 1, (k : Int) + 1, 1, 0]) (by unfold maxLen; omega) (by omega) (by have := PA.out.2.2.2.1; omega) ?_
         intro v' w3 hown' hgrow3 hnil3
         have X : Hid (PL w w3 N n v' (L ++ [((k : Int) + 1, 1, 1), ((k : Int) + 1, 1, 0)])) := PA.out.grown hown' hgrow3; clear hown' hgrow3 hnil3))
     go_roundg (gk - 1)
     case measure => omega
     case rel => exact ⟨1 + 1, by omega, by go_num, by show PL _ _ _ _ _ _; rw [show 2 * k + (1 + 1) = 2 * k + 1 + 1 from by omega, placesTo_1 n k (by omega), HLL.out]; exact X.out⟩
    ·go_wp2
     go_roundg (n - (k + 1))
     case measure => have := HK.out; omega
     case rel => exact ⟨k + 1, by omega, by go_num, by show PL _ _ _ _ _ _; rw [show 2 * (k + 1) = 2 * k + 2 from by omega]; exact PI.out⟩
  ·go_wp2
   go_returns; have hkn : k = n := by omega
   subst hkn; exact ⟨_, rfl, owns_le PR.out.1 (by have := PR.out.2.2.1; omega), PR.out.2.1⟩
end Go.Proofs.YtopgllmjeliklaaGreatDoor
namespace Go.Proofs.YtopgllmjeliklaaGreatDoor
open Go.Shelf Go.Lib Go.ChangeShapes Go.WideShapes Go.ChangeAt Go.RowKit
namespace Bk
def eqP (a b c x y z : Int) : Bool := a == x && b == y && c == z
theorem eqP_run (a b c x y z : Int) (w : World) : Sem.run Tryz.prog (binOp .eql 65 (.agg #[.int .i64 a, .int .i64 b, .int .i64 c]) (.agg #[.int .i64 x, .int .i64 y, .int .i64 z])) w = .ok (.bool (eqP a b c x y z)) w := eqPlace.1 (a, b, c) (x, y, z) w
theorem eqP_guard (a b c x y z : Int) (op : BinOp) (u v : Operand) (w : World) : Sem.run Tryz.prog (eqGuard op 65 u v (.agg #[.int .i64 a, .int .i64 b, .int .i64 c]) (.agg #[.int .i64 x, .int .i64 y, .int .i64 z])) w = .ok () w := eqPlace.2 op u v (a, b, c) (x, y, z) w
def barP (px py pz : Int) (jobs : List Job) (s : Stay) : Bool :=
 eqP s.x s.y s.z px py pz || eqP s.x s.y s.z px py 0 || (eqP s.x s.y 0 px py pz && hasJob jobs ⟨s.t, false⟩)
set_option maxHeartbeats 2000000 in
theorem barred1_any (px py pz : Int) (jobs : List Job) (ja : Option Addr) (jc : Nat) (B0 P0 : Nat) (s : Stay) (w : World) (hB : B0 < w.heap.size) (hP : P0 < w.heap.size)
  (hp : ∀ o, w.cell? ⟨P0, o, none⟩ = (#[.int .i64 px, .int .i64 py, .int .i64 pz] : Array Value)[o]?) (hj : w.cell? ⟨B0, 2, none⟩ = some (.slice ja jobs.length jc)) (hr : RowsAt w ja jc 2 Job.enc jobs) :
  Calls Tryz.prog 97 #[.agg #[.int .i64 s.t, .int .i64 s.id, .int .i64 s.a, .int .i64 s.b, .int .i64 s.c, .int .i64 s.x, .int .i64 s.y, .int .i64 s.z], .pointer (some ⟨P0, 0, none⟩), .pointer (some ⟨B0, 0, none⟩)] w fun e w' => e = .returned (.bool (barP px py pz jobs s)) ∧ Below w.heap.size w w' := by
 obtain ⟨t, id, a, b, c, x, y, z⟩ := s; simp only; obtain ⟨wa, hwa⟩ : ∃ wa, w.alloc (.cells #[.int .i64 t, .int .i64 id, .int .i64 a, .int .i64 b, .int .i64 c, .int .i64 x, .int .i64 y, .int .i64 z] 67) = wa := ⟨_, rfl⟩
 have NB : Below w.heap.size w wa := by rw [← hwa]; exact B.new1 _ _
 have NS : w.heap.size < wa.heap.size := by rw [← hwa]; simp
 have rp : ∀ o, wa.cell? ⟨P0, o, none⟩ = (#[.int .i64 px, .int .i64 py, .int .i64 pz] : Array Value)[o]? := B.row NB hp hP
 have rj : wa.cell? ⟨B0, 2, none⟩ = some (.slice ja jobs.length jc) := (NB.cell (p := ⟨B0, 2, none⟩) hB).trans hj; have rs : ∀ o, wa.cell? ⟨w.heap.size, o, none⟩ = (#[.int .i64 t, .int .i64 id, .int .i64 a, .int .i64 b, .int .i64 c, .int .i64 x, .int .i64 y, .int .i64 z] : Array Value)[o]? := by rw [← hwa]; exact B.row_new _ _ _
 have HJ : Hid (RowsAt wa ja jc 2 Job.enc jobs) := hr.below NB; have e1 := eqP_run x y z px py pz; have g1 := eqP_guard x y z px py pz; have e2 := eqP_run x y z px py 0; have g2 := eqP_guard x y z px py 0; have e3 := eqP_run x y 0 px py pz; have g3 := eqP_guard x y 0 px py pz; have KB : Hid (barP px py pz jobs ⟨t, id, a, b, c, x, y, z⟩ = (eqP x y z px py pz || eqP x y z px py 0 || (eqP x y 0 px py pz && hasJob jobs ⟨t, false⟩))) := rfl
 rw [KB.out]; clear KB hp hj hr; generalize eqP x y z px py pz = q1 at *; generalize eqP x y z px py 0 = q2 at *; generalize eqP x y 0 px py pz = q3 at *
 have CX : Hid (∀ wx, Below wa.heap.size wa wx → wx.cell? ⟨P0, 0, none⟩ = some (.int .i64 px) ∧ wx.cell? ⟨P0, 1, none⟩ = some (.int .i64 py) ∧ wx.cell? ⟨P0, 2, none⟩ = some (.int .i64 pz) ∧ wx.cell? ⟨w.heap.size, 0, none⟩ = some (.int .i64 t) ∧ wx.cell? ⟨w.heap.size, 5, none⟩ = some (.int .i64 x) ∧ wx.cell? ⟨w.heap.size, 6, none⟩ = some (.int .i64 y) ∧ wx.cell? ⟨w.heap.size, 7, none⟩ = some (.int .i64 z) ∧ wx.cell? ⟨B0, 2, none⟩ = some (.slice ja jobs.length jc)) := fun wx hb => by
  have hz := NB.size; have a1 := B.row hb rp (by omega); have a2 := B.row hb rs NS; exact ⟨a1 0, a1 1, a1 2, a2 0, a2 5, a2 6, a2 7, (hb.cell (p := ⟨B0, 2, none⟩) (by show B0 < _; omega)).trans rj⟩
 have NBH : Hid (Below w.heap.size w wa) := NB; have JX : Hid (∀ wx, Below wa.heap.size wa wx → RowsAt wx ja jc 2 Job.enc jobs) := fun wx hb => HJ.out.below hb
 clear rp rs rj NB HJ; have p0 := fun p : BelowW wa => (CX.out p.wd p.hb).1
 have p1 := fun p : BelowW wa => (CX.out p.wd p.hb).2.1
 have p2 := fun p : BelowW wa => (CX.out p.wd p.hb).2.2.1
 have s5 := fun p : BelowW wa => (CX.out p.wd p.hb).2.2.2.2.1
 have s6 := fun p : BelowW wa => (CX.out p.wd p.hb).2.2.2.2.2.1
 have s7 := fun p : BelowW wa => (CX.out p.wd p.hb).2.2.2.2.2.2.1
 have j2 := fun p : BelowW wa => (CX.out p.wd p.hb).2.2.2.2.2.2.2
 have s0 := fun p : BelowW wa => (CX.out p.wd p.hb).2.2.2.1
 clear hB hP NS; generalize hq4 : hasJob jobs ⟨t, false⟩ = q4; have Q4 : Hid (hasJob jobs ⟨t, false⟩ = q4) := hq4; clear hq4
 cases q1
 ·cases q2
  ·go_enter Tryz.func97, Tryz.ntmps97
   go_wp2_with fail; refine wp_region_below (by kernel_rfl) (by kernel_rfl) ?_
   repeat (quiet_step (first | (go_at_call 98; exact Calls.wof (front_any _ _ _ _))))
   refine wpQuiet_nil ?_; rintro wb ⟨⟨_, NB⟩, rfl⟩; go_wp2_with fail; have B1 : Hid (Below w.heap.size w wb) := B.next NBH.out NB NBH.out.size; have CY : Hid (∀ p : BelowW wb, Below wa.heap.size wa p.wd) := fun p => B.next NB p.hb NB.size
   clear p0 p1 p2 s0 s5 s6 s7 j2; have p0 := fun p : BelowW wb => (CX.out p.wd (CY.out p)).1
   have p1 := fun p : BelowW wb => (CX.out p.wd (CY.out p)).2.1
   have p2 := fun p : BelowW wb => (CX.out p.wd (CY.out p)).2.2.1
   have s0 := fun p : BelowW wb => (CX.out p.wd (CY.out p)).2.2.2.1
   have s5 := fun p : BelowW wb => (CX.out p.wd (CY.out p)).2.2.2.2.1
   have s6 := fun p : BelowW wb => (CX.out p.wd (CY.out p)).2.2.2.2.2.1
   have s7 := fun p : BelowW wb => (CX.out p.wd (CY.out p)).2.2.2.2.2.2.1
   have j2 := fun p : BelowW wb => (CX.out p.wd (CY.out p)).2.2.2.2.2.2.2
   cases q3
   ·refine wp_region_below (by kernel_rfl) (by kernel_rfl) ?_
    repeat (quiet_step (first | (go_at_call 98; exact Calls.wof (front_any _ _ _ _))))
    refine wpQuiet_nil ?_; rintro wc ⟨⟨_, NC⟩, rfl⟩; go_wp2; go_returns; exact ⟨rfl, B.next B1.out NC B1.out.size⟩
   ·refine wp_region_below (by kernel_rfl) (by kernel_rfl) ?_
    repeat (quiet_step (first | (go_at_call 98; exact Calls.wof (front_any _ _ _ _)) | (go_at_call 62; exact Calls.wof (hasJob_any _ _ _ _ _ _ (JX.out _ (CY.out _))))))
    refine wpQuiet_nil ?_; rintro wc ⟨⟨_, NC⟩, rfl⟩; go_wp2; go_returns; refine ⟨?_, B.next B1.out NC B1.out.size⟩; rw [← Q4.out]
    rfl
  ·go_enter Tryz.func97, Tryz.ntmps97
   go_wp2_with fail; refine wp_region_below (by kernel_rfl) (by kernel_rfl) ?_
   repeat (quiet_step (first | (go_at_call 98; exact Calls.wof (front_any _ _ _ _))))
   refine wpQuiet_nil ?_; rintro wb ⟨⟨_, NB⟩, rfl⟩; go_wp2; go_returns; exact ⟨rfl, B.next NBH.out NB NBH.out.size⟩
 ·go_enter Tryz.func97, Tryz.ntmps97
  go_wp2_with fail; refine wp_region_below (by kernel_rfl) (by kernel_rfl) ?_
  repeat (quiet_step (fail))
  refine wpQuiet_nil ?_; rintro wb ⟨⟨_, NB⟩, rfl⟩; go_wp2; go_returns; exact ⟨rfl, B.next NBH.out NB NBH.out.size⟩
def barredB (px py pz : Int) (b : Book) : Bool := b.stays.any (barP px py pz b.jobs)
set_option maxHeartbeats 2000000 in
theorem barred_any (px py pz : Int) (b : Book) (w : World) (h : b.At w) :
  Calls Tryz.prog 66 #[b.val, .agg #[.int .i64 px, .int .i64 py, .int .i64 pz]] w fun e w' => e = .returned (.bool (barredB px py pz b)) ∧ Below w.heap.size w w' := by
 unfold barredB; obtain ⟨last, sa, sc, ja, jc, stays, jobs⟩ := b; obtain ⟨h1, h2⟩ := h; simp only [Book.val] at *; obtain ⟨w1, hw1⟩ : ∃ w1, (w.alloc (.cells #[.int .i64 last, .slice sa stays.length sc, .slice ja jobs.length jc] 39)).alloc (.cells #[.int .i64 px, .int .i64 py, .int .i64 pz] 65) = w1 := ⟨_, rfl⟩
 have z1 : w1.heap.size = w.heap.size + 2 := by rw [← hw1]; simp
 have NB : Below w.heap.size w w1 := by rw [← hw1]; exact (B.new1 _ _).alloc (by simp) _
 have r0 : ∀ o, w1.cell? ⟨w.heap.size, o, none⟩ = (#[.int .i64 last, .slice sa stays.length sc, .slice ja jobs.length jc] : Array Value)[o]? := by rw [← hw1]; exact B.row_old _ (B.row_new _ _ _) (by simp)
 have r1 : ∀ o, w1.cell? ⟨w.heap.size + 1, o, none⟩ = (#[.int .i64 px, .int .i64 py, .int .i64 pz] : Array Value)[o]? := by
  rw [← hw1, ← B.new_size w (.cells #[.int .i64 last, .slice sa stays.length sc, .slice ja jobs.length jc] 39)]; exact B.row_new _ _ _
 have HP : PredBelow Tryz.prog 97 #[.pointer (some ⟨w.heap.size + 1, 0, none⟩), .pointer (some ⟨w.heap.size, 0, none⟩)] (fun x : Stay => .agg x.enc.toArray) (barP px py pz jobs) w1 := fun W x hb => by
  refine (barred1_any px py pz jobs ja jc w.heap.size (w.heap.size + 1) x W (by have := hb.size; omega) (by have := hb.size; omega) (B.row hb r1 (by omega)) ?_ (h2.below (B.next NB hb (by omega)))).mono ?_
  ·exact (hb.cell (p := ⟨w.heap.size, 2, none⟩) (by show w.heap.size < _; omega)).trans (r0 2)
  ·rintro e w' ⟨rfl, hb'⟩
   exact ⟨rfl, B.next hb hb' hb.size⟩
 have HC : Hid (Calls Tryz.prog 94 #[.slice sa stays.length sc, .func (.func 97) #[] #[.pointer (some ⟨w.heap.size + 1, 0, none⟩), .pointer (some ⟨w.heap.size, 0, none⟩)]] w1 fun e w' => e = .returned (.bool (stays.any (barP px py pz jobs))) ∧ Below w1.heap.size w1 w') :=
  hasStay_any (barP px py pz jobs) 97 _ (enters_of Tryz.func97 (by kernel_rfl) rfl) sa sc stays w1 (h1.below NB) HP
 have hmf : ∀ (fn : Fn) (first cap : Array Value) (w : World), (Instr.makeFunc fn first cap).run Tryz.prog w = .ok (.func fn first cap) w := fun _ _ _ _ => rfl
 have NH : Hid (Below w.heap.size w w1 ∧ w1.heap.size = w.heap.size + 2) := ⟨NB, z1⟩; clear h1 h2 HP NB z1; generalize stays.any (barP px py pz jobs) = r at *
 go_enter Tryz.func66, Tryz.ntmps66
 go_wp2_with fail; refine HC.out.mono ?_; rintro e w' ⟨rfl, hb⟩; have NC : Hid (Below w.heap.size w w') := B.next NH.out.1 hb (by have := NH.out.2; omega); clear hb; go_wp2; go_returns; exact ⟨rfl, NC.out⟩
end Bk
end Go.Proofs.YtopgllmjeliklaaGreatDoor
namespace Go.Proofs.YtopgllmjeliklaaGreatDoor
open Go.ChangeShapes Go.WideShapes Go.ChangeAt Go.RowKit
theorem flatP_0 : ∀ (l : List (Int × Int × Int)) (k : Nat) (h : k < l.length), (flatP l)[k * 3]? = some (.int .i64 l[k].1)
 | g :: l, 0, _ => rfl
 | g :: l, k + 1, h => by
   rw [show (k + 1) * 3 = k * 3 + 1 + 1 + 1 from by omega]
   simpa [flatP] using flatP_0 l k (by simpa using h)
theorem flatP_1 : ∀ (l : List (Int × Int × Int)) (k : Nat) (h : k < l.length), (flatP l)[k * 3 + 1]? = some (.int .i64 l[k].2.1)
 | g :: l, 0, _ => rfl
 | g :: l, k + 1, h => by
   rw [show (k + 1) * 3 + 1 = k * 3 + 1 + 1 + 1 + 1 from by omega]
   simpa [flatP] using flatP_1 l k (by simpa using h)
theorem flatP_2 : ∀ (l : List (Int × Int × Int)) (k : Nat) (h : k < l.length), (flatP l)[k * 3 + 2]? = some (.int .i64 l[k].2.2)
 | g :: l, 0, _ => rfl
 | g :: l, k + 1, h => by
   rw [show (k + 1) * 3 + 2 = k * 3 + 2 + 1 + 1 + 1 from by omega]
   simpa [flatP] using flatP_2 l k (by simpa using h)
def PlacesAt (w : World) (g m : Nat) (f : Nat → Int × Int × Int) : Prop :=
 g < w.heap.size ∧ ∀ k, k < m → w.cell? ⟨g, k * 3, none⟩ = some (.int .i64 (f k).1) ∧ w.cell? ⟨g, k * 3 + 1, none⟩ = some (.int .i64 (f k).2.1) ∧ w.cell? ⟨g, k * 3 + 2, none⟩ = some (.int .i64 (f k).2.2)
theorem PlacesOwn.at {w w' : World} {v : Value} {l : List (Int × Int × Int)} (h : PlacesOwn w w' v l) (h0 : 0 < l.length) : ∃ g cap, v = .slice (some ⟨g, 0, none⟩) l.length cap ∧ PlacesAt w' g l.length (fun k => l.getD k (0, 0, 0)) := by
 obtain ⟨ho, hb⟩ := h; have ho' := ho
 rcases ho.2 with ⟨_, hn⟩ | ⟨g, cap, cur, rfl, hg, hblk, _⟩
 ·omega
 ·have e : ∀ k (h : k < l.length), l.getD k (0, 0, 0) = l[k] := fun k h => by simp [List.getD, h]
  refine ⟨g, cap, rfl, ?_, fun k hk => ⟨?_, ?_, ?_⟩⟩
  ·rcases Nat.lt_or_ge g w'.heap.size with h | h
   ·exact h
   ·rw [Array.getElem?_eq_none h] at hblk; cases hblk
  ·rw [ho'.cellAt _ (by omega), flatP_0 l k hk, ← e k hk]
  ·rw [ho'.cellAt _ (by omega), flatP_1 l k hk, ← e k hk]
  ·rw [ho'.cellAt _ (by omega), flatP_2 l k hk, ← e k hk]
theorem PlacesAt.below {w w' : World} {g m : Nat} {f : Nat → Int × Int × Int} (h : PlacesAt w g m f) (hb : Below w.heap.size w w') : PlacesAt w' g m f := by
 obtain ⟨hg, hc⟩ := h; refine ⟨Nat.lt_of_lt_of_le hg hb.size, fun k hk => ?_⟩
 exact ⟨(hb.cell (p := ⟨g, _, none⟩) hg).trans (hc k hk).1, (hb.cell (p := ⟨g, _, none⟩) hg).trans (hc k hk).2.1, (hb.cell (p := ⟨g, _, none⟩) hg).trans (hc k hk).2.2⟩
theorem places_len (n : Nat) (h1 : 1 ≤ n) (h4 : n ≤ 4) : (placesTo n (2 * n)).length = 4 * n - 2 := by
 rcases (show n = 1 ∨ n = 2 ∨ n = 3 ∨ n = 4 from by omega) with rfl | rfl | rfl | rfl <;> decide
def goodAt (n i : Nat) (f : Nat → Int × Int × Int) : Prop :=
 placeB (f i).1 (f i).2.1 (f i).2.2 n = true ∧ ¬ ((f i).1 = n ∧ (f i).2.1 = 1) ∧ (f i).2.2 = 1 - ((i % 2 : Nat) : Int) ∧ ∀ k, k < i → ¬ ((f k).1 = (f i).1 ∧ (f k).2.1 = (f i).2.1 ∧ (f k).2.2 = (f i).2.2)
theorem places_good (n : Nat) (h1 : 1 ≤ n) (h4 : n ≤ 4) : ∀ i, i < 4 * n - 2 → goodAt n i (fun k => (placesTo n (2 * n)).getD k (0, 0, 0)) := by
 rcases (show n = 1 ∨ n = 2 ∨ n = 3 ∨ n = 4 from by omega) with rfl | rfl | rfl | rfl <;> (unfold goodAt; decide)
def TP (w wx : World) (g m N n : Nat) (f : Nat → Int × Int × Int) : Prop :=
 PlacesAt wx g m f ∧ Below w.heap.size w wx ∧ w.heap.size ≤ N ∧ N + 1 ≤ wx.heap.size ∧ ∀ o, wx.cell? ⟨N, o, none⟩ = (#[.int .i64 n, .int .i64 1, .int .i64 0] : Array Value)[o]?
end Go.Proofs.YtopgllmjeliklaaGreatDoor
