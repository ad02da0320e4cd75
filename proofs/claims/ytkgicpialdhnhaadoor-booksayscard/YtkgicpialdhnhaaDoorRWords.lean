/- Chapter 6: the document's reading of a text (1): its words, and a number. -/
import Derived.Test.YtkgicpialdhnhaaDoorRParseP
namespace Go.Proofs.YtkgicpialdhnhaaDoor
open Go.Shelf Go.ChangeShapes Go.WideShapes Go.ChangeAt Go.RowKit
set_option maxRecDepth 100000
set_option linter.unusedSimpArgs false
set_option linter.unusedVariables false

namespace Tx
open Bk
def strE (s : ByteArray) : List Value := [.string s]
theorem strE_len (s : ByteArray) : (strE s).length = 1 := rfl
theorem str_one (s : ByteArray) : ∀ u ∈ ([.string s] : List Value), u.oneCell' = true := fun u hu => by
  simp only [List.mem_singleton] at hu
  subst hu
  rfl
theorem own_grown_below {w wr w' : World} {v : Value} {ws : List ByteArray} (ho : OwnAt wr w.heap.size 9 1 strE v ws) (hb : Below w.heap.size w wr) (hg : wr.grownBy w' v.ownBlock) : Below w.heap.size w w' :=
  hb.grown hg hb.size fun k hk => (ho.block k hk).1
theorem own_more {w' : World} {base : Nat} {v : Value} {ws : List ByteArray} {x : ByteArray} (ho : w'.ownsRow base 9 1 v (ws.length + 1) (ws.flatMap strE ++ [.string x])) : OwnAt w' base 9 1 strE v (ws ++ [x]) :=
  OwnAt.of_owns strE_len (by rw [List.length_append, List.flatMap_append]; exact ho)

set_option maxHeartbeats 4000000 in
theorem rwords_any (s : ByteArray) (w : World) (hs : s.size ≤ 1000) :
    Calls Tryd.prog 25 #[.string s] w fun e w' => ∃ v ws, e = .returned v ∧ OwnAt w' w.heap.size 9 1 strE v ws ∧ ws.map (·.data.toList) = wordsP s.data.toList [] ∧ Below w.heap.size w w' := by
  have HP : Hid (∀ v ws w', OwnAt w' w.heap.size 9 1 strE v ws → ws.map (·.data.toList) = wordsP s.data.toList [] → Below w.heap.size w w' → (fun (e : Ending) (w' : World) => ∃ v ws, e = .returned v ∧ OwnAt w' w.heap.size 9 1 strE v ws ∧ ws.map (·.data.toList) = wordsP s.data.toList [] ∧ Below w.heap.size w w') (.returned v) w') := fun v ws w' h1 h2 h3 => ⟨v, ws, rfl, h1, h2, h3⟩
  generalize (fun (e : Ending) (w' : World) => ∃ v ws, e = .returned v ∧ OwnAt w' w.heap.size 9 1 strE v ws ∧ ws.map (·.data.toList) = wordsP s.data.toList [] ∧ Below w.heap.size w w') = PP at *
  obtain ⟨i0, ii, iz, is, ib⟩ := strInfo
  go_enter Tryd.func25, Tryd.ntmps25
  go_wp2_with fail
  go_loopg [3, 4, 5] s.size (fun gg s3 s4 s5 wr => ∃ (k : Nat) (ws : List ByteArray) (cur : ByteArray), k ≤ s.size ∧ s.size - k ≤ gg ∧ s5 = .int .i64 k ∧ s4 = .string cur ∧ Hid (ws.map (·.data.toList) ++ wordsP (s.data.toList.drop k) cur.data.toList = wordsP s.data.toList [] ∧ ws.length ≤ k ∧ cur.size ≤ k) ∧ Hid (OwnAt wr w.heap.size 9 1 strE s3 ws ∧ Below w.heap.size w wr))
  case atStart => exact ⟨0, [], _, Nat.zero_le _, by omega, rfl, rfl, ⟨by simp, Nat.le_refl _, Nat.le_refl _⟩, ⟨Or.inl ⟨rfl, rfl⟩, Below.refl _ _⟩⟩
  case round =>
    obtain ⟨k, ws, cur, hk, hg, rfl, rfl, V, M⟩ := hrel
    have HMB := M.out.2.size
    have HWL := V.out.2.1
    have HCL := V.out.2.2
    obtain ⟨wa, hwa⟩ : ∃ wa, wr.alloc (.cells #[.string cur] 9) = wa := ⟨_, rfl⟩
    have NB : Hid (OwnAt wa w.heap.size 9 1 strE u3 ws ∧ (∀ j u, ([.string cur] : List Value)[j]? = some u → wa.cell? ((⟨wr.heap.size, 0, none⟩ : Addr).add j) = some u) ∧ w.heap.size ≤ wa.heap.size ∧ Below w.heap.size w wa) := by
      have hb : Below wr.heap.size wr wa := by rw [← hwa]; exact B.new1 _ _
      refine ⟨M.out.1.below hb, ?_, Nat.le_trans HMB hb.size, B.next M.out.2 hb HMB⟩
      rw [← hwa]
      exact news_new wr [.string cur] 9 _ rfl
    have hbb := NB.out.2.2.1
    by_cases hlt : k < s.size
    · have hltz : (k : Int) < (s.size : Int) := by omega
      obtain ⟨c, HC⟩ : ∃ c : UInt8, Hid (s[k]'hlt = c) := ⟨_, rfl⟩
      have HD : Hid (s.data.toList.drop k = c :: s.data.toList.drop (k + 1)) := by
        show _ = _
        rw [List.drop_eq_getElem_cons (by simpa using hlt), ← HC.out]
        rfl
      by_cases hc : c = 32
      · have V2 : Hid ((ws ++ [cur]).map (·.data.toList) ++ wordsP (s.data.toList.drop (k + 1)) [] = wordsP s.data.toList [] ∧ (ws ++ [cur]).length ≤ k + 1 ∧ (⟨#[]⟩ : ByteArray).size ≤ k + 1) := by
          constructor
          · rw [← V.out.1, HD.out, wordsP, if_pos hc]
            simp
          · refine ⟨by simp; omega, Nat.zero_le _⟩
        have e1 : (((s[k]'hlt).toNat : Int) == 32) = true := by rw [HC.out, hc]; rfl
        clear V
        go_wp2_with (at_builtin; refine wpList_append_own _ rfl _ _ 65 rfl w.heap.size 9 i0 (.string ByteArray.empty) 1 16 Tryd.underlying65 ii iz is ib rfl (by decide) u3 ws.length (ws.flatMap strE) rfl (NB.out.1.to_owns strE_len) ⟨wr.heap.size, 0, none⟩ 1 1 [.string cur] rfl rfl NB.out.2.1 (str_one _) (by unfold maxLen; omega) (by omega) hbb ?_; intro v' w' ho hgr hnil)
        have N2 : Hid (OwnAt w' w.heap.size 9 1 strE v' (ws ++ [cur]) ∧ Below w.heap.size w w') := ⟨own_more ho, own_grown_below NB.out.1 NB.out.2.2.2 hgr⟩
        clear ho hgr hnil NB M
        go_wp2
        go_roundg (s.size - (k + 1))
        case measure => omega
        case rel => exact ⟨k + 1, ws ++ [cur], _, by omega, by omega, by go_num, rfl, V2, N2⟩
      · have HX : Hid ((cur ++ s.extract k (k + 1)).data.toList = cur.data.toList ++ [c]) := by
          show _ = _
          rw [ByteArray.data_append, ByteArray.data_extract, Array.toList_append, Array.toList_extract]
          have h1 : List.extract s.data.toList k (k + 1) = [c] := by
            rw [List.extract_eq_take_drop, HD.out, show k + 1 - k = 1 from by omega]
            rfl
          rw [h1]
        have HXS : (s.extract k (k + 1)).size ≤ 1 := by rw [ByteArray.size_extract]; omega
        have hcat : ¬ cur.size + (s.extract k (k + 1)).size > 9223372036854775807 := by omega
        have V2 : Hid (ws.map (·.data.toList) ++ wordsP (s.data.toList.drop (k + 1)) (cur ++ s.extract k (k + 1)).data.toList = wordsP s.data.toList [] ∧ ws.length ≤ k + 1 ∧ (cur ++ s.extract k (k + 1)).size ≤ k + 1) := by
          refine ⟨?_, by omega, ?_⟩
          · rw [HX.out, ← V.out.1, HD.out, wordsP, if_neg hc]
          · rw [ByteArray.size_append]; omega
        have e1 : (((s[k]'hlt).toNat : Int) == 32) = false := by
          rw [HC.out]
          refine beq_eq_false_iff_ne.2 fun e => hc ?_
          apply UInt8.toNat_inj.1
          have : (32 : UInt8).toNat = 32 := rfl
          omega
        clear V NB hwa HX HXS
        go_wp2
        go_roundg (s.size - (k + 1))
        case measure => omega
        case rel => exact ⟨k + 1, ws, _, by omega, by omega, by go_num, rfl, V2, M⟩
    · have hltz : ¬ (k : Int) < (s.size : Int) := by omega
      have hke : k = s.size := by omega
      subst hke
      have V2 : Hid ((ws ++ [cur]).map (·.data.toList) = wordsP s.data.toList []) := by
        show _ = _
        rw [← V.out.1, List.drop_of_length_le (by simp), wordsP]
        simp
      clear V
      go_wp2_with (at_builtin; refine wpList_append_own _ rfl _ _ 65 rfl w.heap.size 9 i0 (.string ByteArray.empty) 1 16 Tryd.underlying65 ii iz is ib rfl (by decide) u3 ws.length (ws.flatMap strE) rfl (NB.out.1.to_owns strE_len) ⟨wr.heap.size, 0, none⟩ 1 1 [.string cur] rfl rfl NB.out.2.1 (str_one _) (by unfold maxLen; omega) (by omega) hbb ?_; intro v' w' ho hgr hnil)
      have HF : Hid (PP (.returned v') w') := HP.out v' (ws ++ [cur]) w' (own_more ho) V2.out (own_grown_below NB.out.1 NB.out.2.2.2 hgr)
      clear ho hgr hnil NB M
      go_wp2
      exact HF.out

end Tx
end Go.Proofs.YtkgicpialdhnhaaDoor
