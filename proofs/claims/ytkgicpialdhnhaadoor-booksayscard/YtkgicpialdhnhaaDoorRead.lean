/- Chapter 6: the numbers that a text has; contract for the laws of stages 2 to 4. -/
import Derived.Test.YtkgicpialdhnhaaDoorText
namespace Go.Proofs.YtkgicpialdhnhaaDoor
open Go.Shelf Go.ChangeShapes Go.WideShapes Go.ChangeAt Go.RowKit
set_option maxRecDepth 100000
set_option linter.unusedSimpArgs false
set_option linter.unusedVariables false

namespace Tx
open Bk
/-- The words of a text, 147 at most: the last one is the rest. -/
def wordsB (s : ByteArray) : List ByteArray := Lib.splitB ⟨#[32]⟩ 0 (min 147 (s.size + 1) - 1) s
def atoiO (x : ByteArray) : Option Int := match Lib.atoiAll x.data.toList with | .ok v => some v | _ => none
theorem wordsB_len (s : ByteArray) : 1 ≤ (wordsB s).length ∧ (wordsB s).length ≤ min 147 (s.size + 1) := by
  constructor
  · unfold wordsB
    generalize (min 147 (s.size + 1) - 1) = k
    cases k with
    | zero => simp [Lib.splitB]
    | succ k =>
      unfold Lib.splitB
      split <;> simp
  · have := Lib.splitB_length_le ⟨#[32]⟩ 0 (min 147 (s.size + 1) - 1) s
    unfold wordsB
    omega
/-- strconv.Atoi, however it ends. -/
def AtoiPost (s : ByteArray) (w : World) (e : Ending) (w' : World) : Prop := Below w.heap.size w w' ∧ ((∃ v, atoiO s = some v ∧ e = .returned (.tuple #[.int .i64 v, .nilIface])) ∨ (atoiO s = none ∧ ∃ n T p, e = .returned (.tuple #[.int .i64 n, .iface T p])))
theorem atoi_any (s : ByteArray) (w : World) (hs : s.size ≤ 100000000) (G : Glob w) : Calls Tryd.prog 44 #[.string s] w (AtoiPost s w) := by
  cases h : Lib.atoiAll s.data.toList with
  | ok v =>
    refine (show Calls Tryd.prog 44 #[.string s] w _ from Any.strconv_Atoi_ok Tryd.lAtoi s (by omega) v h w).mono fun e w' hh => ?_
    obtain ⟨rfl, hw⟩ := hh
    refine ⟨?_, Or.inl ⟨v, by unfold atoiO; rw [h], rfl⟩⟩
    rcases hw with rfl | ⟨t, rfl⟩
    · exact Below.refl _ _
    · exact Lib.bytesWorld_below _ _ _
  | «syntax» =>
    obtain ⟨ev, h1, h2⟩ := G.syn
    refine (show Calls Tryd.prog 44 #[.string s] w _ from Any.strconv_Atoi_syntax Tryd.lAtoi s (by omega) h ev w h1 h2).mono fun e w' hh => ?_
    obtain ⟨N, rfl, _, _, hb⟩ := hh
    exact ⟨hb, Or.inr ⟨by unfold atoiO; rw [h], _, _, _, rfl⟩⟩
  | range =>
    obtain ⟨ev, h1, h2⟩ := G.rng
    refine (show Calls Tryd.prog 44 #[.string s] w _ from Any.strconv_Atoi_range Tryd.lAtoi s (by omega) h ev w h1 h2).mono fun e w' hh => ?_
    obtain ⟨N, rfl, _, _, hb⟩ := hh
    exact ⟨hb, Or.inr ⟨by unfold atoiO; rw [h], _, _, _, rfl⟩⟩
theorem splitN_any (s : ByteArray) (w : World) (hs : s.size ≤ 100000000) (G : Glob w) : Calls Tryd.prog 43 #[.string s, .string ⟨#[32]⟩, .int .i64 147] w fun e w' =>
    e = .returned (.slice (some ⟨w.heap.size, 0, none⟩) (wordsB s).length (min 147 (s.size + 1))) ∧ w' = w.alloc (.cells (Lib.cellsOf (wordsB s) (min 147 (s.size + 1))) 9) := by
  obtain ⟨m, hm⟩ := G.len
  exact Any.strings_SplitN (P := Tryd.prog) { Tryd.lSplitN with } Tryd.lSplitN.i9 s ⟨#[32]⟩ 147 m w (by omega) hm (by decide) (by decide) (by decide)
theorem wordsB_size (s : ByteArray) : ∀ x ∈ wordsB s, x.size ≤ s.size := by
  have : ∀ (k : Nat) (s : ByteArray), ∀ x ∈ Lib.splitB ⟨#[32]⟩ 0 k s, x.size ≤ s.size := by
    intro k
    induction k with
    | zero => intro s x hx; simp [Lib.splitB] at hx; subst hx; exact Nat.le_refl _
    | succ k ih =>
      intro s x hx
      unfold Lib.splitB at hx
      split at hx
      · simp at hx; subst hx; exact Nat.le_refl _
      · rcases List.mem_cons.1 hx with rfl | hx
        · rw [ByteArray.size_extract]; omega
        · have := ih _ x hx
          rw [ByteArray.size_extract] at this
          omega
  exact this _ s
def intsV (done : List Int) (N : Nat) : Array Value := (done.map (Value.int .i64) ++ List.replicate (N - done.length) (Value.int .i64 0)).toArray
theorem made_ints (n : Nat) : madeCells (Value.int .i64 0).cells n = intsV [] n := by
  apply Array.ext
  · simp [madeCells, intsV]
  · intro i h1 h2
    simp [madeCells, Value.cells, intsV, Nat.mod_one]
theorem make_ints (n : Nat) (hn : n ≤ 1000000) (W : World) : (Instr.makeSlice 60 (.int .i64 n) (.int .i64 n)).run Tryd.prog W = .ok (.slice (some ⟨W.heap.size, 0, none⟩) n n) (W.alloc (.cells (intsV [] n) 3)) := by
  obtain ⟨i, hi, hz, hs, hb⟩ := intInfo
  have := run_make W 60 3 i _ (by kernel_rfl) hi hz .i64 .i64 n n (by omega) (Int.le_refl _) (by rw [hb]; omega) (by omega)
  rw [hs, Int.toNat_natCast, Nat.mul_one, made_ints] at this
  exact this
/-- The numbers that are read so far, then noughts. -/
def intsTo (l : List ByteArray) (k : Nat) : List Int := (l.take k).map fun x => (atoiO x).getD 0
theorem intsV_set {done : List Int} {N : Nat} (h : done.length < N) (x : Int) : (intsV done N).setIfInBounds done.length (.int .i64 x) = intsV (done ++ [x]) N := by
  obtain ⟨m, hm⟩ : ∃ m, N - done.length = m + 1 := ⟨N - done.length - 1, by omega⟩
  unfold intsV
  rw [hm, List.length_append, List.length_singleton, show N - (done.length + 1) = m from by omega, List.replicate_succ, List.map_append]
  apply Array.ext'
  simp only [Array.toList_setIfInBounds]
  rw [List.set_append_right _ _ (by simp)]
  simp
theorem intsV_next {done : List Int} {N : Nat} (h : done.length < N) : (intsV done N)[done.length]? = some (.int .i64 0) := by
  unfold intsV
  rw [List.getElem?_toArray, List.getElem?_append_right (by simp), List.length_map, Nat.sub_self, List.getElem?_replicate, if_pos (by omega)]
/-- What readNumbers answers. -/
def numsP (s : ByteArray) : Option (List Int) := (wordsB s).mapM atoiO
def ReadPost (s : ByteArray) (w : World) (e : Ending) (w' : World) : Prop := Below w.heap.size w w' ∧
  ((numsP s = none ∧ e = .returned (.tuple #[.slice none 0 0, .bool false])) ∨
   ∃ L g, numsP s = some L ∧ e = .returned (.tuple #[.slice (some ⟨g, 0, none⟩) L.length L.length, .bool true]) ∧ Blk w' g (L.map (Value.int .i64)).toArray 3 ∧ w.heap.size ≤ g)
theorem mapM_none {α β : Type} (f : α → Option β) : ∀ (l : List α) (x : α), x ∈ l → f x = none → l.mapM f = none
  | a :: l, x, hx, h => by
    rw [List.mapM_cons]
    rcases List.mem_cons.1 hx with rfl | hx
    · rw [h]; rfl
    · cases f a with
      | none => rfl
      | some v => simp [mapM_none f l x hx h]
theorem mapM_all {α β : Type} (f : α → Option β) (d : β) : ∀ (l : List α), (∀ x ∈ l, f x ≠ none) → l.mapM f = some (l.map fun x => (f x).getD d)
  | [], _ => rfl
  | a :: l, h => by
    rw [List.mapM_cons, mapM_all f d l (fun x hx => h x (by simp [hx]))]
    cases e : f a with
    | none => exact absurd e (h a (by simp))
    | some v => simp [e]

set_option maxHeartbeats 2000000 in
theorem readNumbers_any (s : ByteArray) (w : World) (hs : s.size ≤ 100000000) (G : Glob w) : Calls Tryd.prog 23 #[.string s] w (ReadPost s w) := by
  have HSP : Hid (Calls Tryd.prog 43 #[.string s, .string ⟨#[32]⟩, .int .i64 147] w fun e w' =>
    e = .returned (.slice (some ⟨w.heap.size, 0, none⟩) (wordsB s).length (min 147 (s.size + 1))) ∧ w' = w.alloc (.cells (Lib.cellsOf (wordsB s) (min 147 (s.size + 1))) 9)) := splitN_any s w hs G
  have HN : Hid (∀ x ∈ wordsB s, atoiO x = none → ∀ w', Below w.heap.size w w' → ReadPost s w (.returned (.tuple #[.slice none 0 0, .bool false])) w') := fun x hx h w' hb => ⟨hb, Or.inl ⟨mapM_none atoiO _ x hx h, rfl⟩⟩
  have HY : Hid ((∀ x ∈ wordsB s, atoiO x ≠ none) → ∀ g w', Below w.heap.size w w' → Blk w' g ((intsTo (wordsB s) (wordsB s).length).map (Value.int .i64)).toArray 3 → w.heap.size ≤ g → ReadPost s w (.returned (.tuple #[.slice (some ⟨g, 0, none⟩) (wordsB s).length (wordsB s).length, .bool true])) w') := fun h g w' hb hk hg => by
    refine ⟨hb, Or.inr ⟨intsTo (wordsB s) (wordsB s).length, g, ?_, ?_, hk, hg⟩⟩
    · have := mapM_all atoiO 0 (wordsB s) h
      unfold numsP intsTo
      rw [List.take_length]
      exact this
    · unfold intsTo; rw [List.length_map, List.take_length]
  obtain ⟨hl1, hl2⟩ := wordsB_len s
  have HZ : Hid (∀ x ∈ wordsB s, x.size ≤ 100000000) := fun x hx => Nat.le_trans (wordsB_size s x hx) hs
  generalize wordsB s = L at *
  generalize hmn : min 147 (s.size + 1) = cp at *
  have hcp : cp ≤ 147 := by omega
  generalize ReadPost s w = PP at *
  clear hmn
  have hmk := make_ints L.length (by omega)
  have HGW : Hid (∀ W, Below w.heap.size w W → Glob W) := fun W hb => G.new hb
  go_enter Tryd.func23, Tryd.ntmps23
  go_wp2_with fail
  refine HSP.out.mono ?_
  rintro e w1 ⟨rfl, hw1⟩
  have X1 : Hid (Below w.heap.size w w1 ∧ Blk w1 w.heap.size (Lib.cellsOf L cp) 9) := by
    show _ ∧ _
    rw [hw1]
    exact ⟨B.new1 _ _, Blk.new _ _ _⟩
  clear hw1 HSP
  obtain ⟨w2, hw2⟩ : ∃ w2, w1.alloc (.cells (intsV [] L.length) 3) = w2 := ⟨_, rfl⟩
  have X2 : Hid (Below w.heap.size w w2 ∧ Blk w2 w.heap.size (Lib.cellsOf L cp) 9 ∧ Blk w2 w1.heap.size (intsV (intsTo L 0) L.length) 3) := by
    show _ ∧ _ ∧ _
    rw [← hw2]
    exact ⟨X1.out.1.alloc X1.out.1.size _, X1.out.2.old _, Blk.new _ _ _⟩
  have hNW : w.heap.size ≤ w1.heap.size := X1.out.1.size
  clear X1
  go_wp2_with fail
  clear hw2 hmk
  generalize w1.heap.size = N1 at *
  go_loopg [17] L.length (fun gg s17 wr => ∃ k : Nat, k ≤ L.length ∧ L.length - k ≤ gg ∧ s17 = .int .i64 k ∧ Hid (∀ x ∈ L.take k, atoiO x ≠ none) ∧ Hid (Below w.heap.size w wr ∧ Blk wr w.heap.size (Lib.cellsOf L cp) 9 ∧ Blk wr N1 (intsV (intsTo L k) L.length) 3))
  case atStart => exact ⟨0, Nat.zero_le _, by omega, rfl, fun x hx => by simp at hx, X2⟩
  case round =>
    clear X2
    obtain ⟨k, hk, hg, rfl, A, M⟩ := hrel
    by_cases hlt : k < L.length
    · have hltz : (k : Int) < (L.length : Int) := by omega
      have hmem : L[k]! ∈ L := by rw [getElem!_pos L k hlt]; exact List.getElem_mem hlt
      have cg : wr.cell? ⟨w.heap.size, k, none⟩ = some (.string L[k]!) := by
        rw [M.out.2.1.cell]
        unfold Lib.cellsOf
        rw [List.getElem?_toArray, List.getElem?_append_left (by simpa using hlt), List.getElem?_map, List.getElem?_eq_getElem hlt, getElem!_pos L k hlt]
        rfl
      have HIL : Hid ((intsTo L k).length = k) := by show _ = _; unfold intsTo; rw [List.length_map, List.length_take]; omega
      have HA : Hid (Calls Tryd.prog 44 #[.string L[k]!] wr (AtoiPost L[k]! wr)) := atoi_any _ wr (HZ.out _ hmem) (HGW.out wr M.out.1)
      have HNK : Hid (atoiO L[k]! = none → ∀ w', Below w.heap.size w w' → PP (.returned (.tuple #[.slice none 0 0, .bool false])) w') := HN.out _ hmem
      have HTK : Hid (∀ v, atoiO L[k]! = some v → (∀ x ∈ L.take (k + 1), atoiO x ≠ none) ∧ intsTo L (k + 1) = intsTo L k ++ [v]) := fun v hv => by
        rw [getElem!_pos L k hlt] at hv
        constructor
        · intro x hx
          rw [List.take_succ_eq_append_getElem hlt] at hx
          rcases List.mem_append.1 hx with hx | hx
          · exact A.out x hx
          · simp at hx; subst hx; rw [hv]; simp
        · unfold intsTo
          rw [List.take_succ_eq_append_getElem hlt, List.map_append]
          simp [hv]
      generalize L[k]! = sv at *
      go_wp2_with fail
      refine HA.out.mono ?_
      rintro e w3 ⟨b3, hres⟩
      have N1' : Hid (Below w.heap.size w w3 ∧ Blk w3 w.heap.size (Lib.cellsOf L cp) 9 ∧ Blk w3 N1 (intsV (intsTo L k) L.length) 3) := ⟨B.next M.out.1 b3 M.out.1.size, M.out.2.1.below b3, M.out.2.2.below b3⟩
      clear b3 M HA cg
      rcases hres with ⟨v, hv, rfl⟩ | ⟨hv, n, T, p, rfl⟩
      · obtain ⟨hA2, hI2⟩ := HTK.out v hv
        have HA2 : Hid (∀ x ∈ L.take (k + 1), atoiO x ≠ none) := hA2
        have hfr := N1'.out.2.2.free
        have cn : w3.cell? ⟨N1, k, none⟩ = some (.int .i64 0) := by
          rw [N1'.out.2.2.cell]
          have := intsV_next (done := intsTo L k) (N := L.length) (by rw [HIL.out]; exact hlt)
          rwa [HIL.out] at this
        have N2 : Hid (Below w.heap.size w (w3.setCell ⟨N1, k, none⟩ (.int .i64 v)) ∧ Blk (w3.setCell ⟨N1, k, none⟩ (.int .i64 v)) w.heap.size (Lib.cellsOf L cp) 9 ∧ Blk (w3.setCell ⟨N1, k, none⟩ (.int .i64 v)) N1 (intsV (intsTo L (k + 1)) L.length) 3) := by
          refine ⟨N1'.out.1.setCell (p := ⟨N1, k, none⟩) hNW _, N1'.out.2.1.other (fun e => ?_) _ _, ?_⟩
          · have h1 := N1'.out.2.1
            rw [← e] at h1
            exact absurd (blkType h1 N1'.out.2.2) (by decide)
          · have h1 := N1'.out.2.2.set k (.int .i64 v)
            have h2 := intsV_set (done := intsTo L k) (N := L.length) (by rw [HIL.out]; exact hlt) v
            rw [HIL.out] at h2
            rw [h2, ← hI2] at h1
            exact h1
        clear N1' hA2 hI2 HNK HTK hv HN HY
        go_wp2
        go_roundg (L.length - (k + 1))
        case measure => omega
        case rel => exact ⟨k + 1, by omega, by omega, by go_num, HA2, N2⟩
      · have HF : Hid (PP (.returned (.tuple #[.slice none 0 0, .bool false])) w3) := HNK.out hv _ N1'.out.1
        clear N1' HNK HTK hv HN HY
        go_wp2
        exact HF.out
    · have hltz : ¬ (k : Int) < (L.length : Int) := by omega
      have hke : k = L.length := by omega
      subst hke
      have HF : Hid (PP (.returned (.tuple #[.slice (some ⟨N1, 0, none⟩) L.length L.length, .bool true])) wr) := by
        refine HY.out (by have := A.out; rwa [List.take_length] at this) N1 wr M.out.1 ?_ hNW
        have h1 := M.out.2.2
        have hil : (intsTo L L.length).length = L.length := by unfold intsTo; rw [List.length_map, List.take_length]
        unfold intsV at h1
        rw [hil, Nat.sub_self] at h1
        simpa using h1
      clear HN HY A M
      go_wp2
      exact HF.out

end Tx
end Go.Proofs.YtkgicpialdhnhaaDoor
