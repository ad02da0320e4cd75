/- HsX. -/
import Derived.Test.YtopgllmjeliklaaGreatDoorKiHvH
set_option maxRecDepth 100000
set_option linter.unusedSimpArgs false
set_option linter.unusedVariables false
namespace Go.Proofs.YtopgllmjeliklaaGreatDoor
open Go.Shelf Go.Lib Go.ChangeShapes Go.WideShapes Go.ChangeAt Go.RowKit
namespace Hs
open Bk Lg Pl Dk Tx Tn Ac
def SettlePost (base pb mb db sb hb : Nat) (lv : List (Int × Int × Int)) (σ : Sg) (n : Nat) (w : World) (e : Ending) (w' : World) : Prop :=
 e = .returned (.tuple #[]) ∧ HFr base w w' ∧ ∃ σ', EndR lv.length σ σ' ∧ HX w' base pb mb db sb hb lv σ' (n + 2500)
theorem sense_some {base pb mb db sb hb n : Nat} {lv : List (Int × Int × Int)} {σ : Sg} {w : World} (h : HX w base pb mb db sb hb lv σ n) :
  Calls Tryz.prog 19 #[.pointer (some ⟨pb, 0, none⟩)] w fun e w' => (∃ x1 x2 x3 q1 q2 q3, e = .returned (.agg #[.int .i64 x1, .int .i64 x2, .bool σ.s.op, .int .i64 x3, .int .i64 σ.s.li, .int .i64 σ.s.ba, .bool q1, .bool q2, .bool q3])) ∧ Below w.heap.size w w' :=
 (sense_any pb mb n σ.s w h.p h.iv.ok).mono (by
   rintro e w' ⟨rfl, hb⟩; exact ⟨⟨_, _, _, _, _, _, rfl⟩, hb⟩)
theorem walkX {base pb mb db sb hb n : Nat} {lv : List (Int × Int × Int)} {σ : Sg} {w : World} (h : HX w base pb mb db sb hb lv σ n) (ho : σ.s.op = true) :
  Calls Tryz.prog 48 #[.pointer (some ⟨pb, 0, none⟩), .int .i64 (-9)] w fun e w' => e = .returned .nilIface ∧ HX w' base pb mb db sb hb lv ⟨walkS (-9) σ.s, σ.b, σ.gs⟩ n ∧ HFr base w w' :=
 (walk_any pb mb n σ.s (-9) w h.p h.iv.pe.1 h.iv.pe.2).mono (by
   rintro e w' ⟨rfl, p1, t1⟩; obtain ⟨a1, a2⟩ := h.turned t1 p1 (h.iv.walk (-9)); refine ⟨?_, a1, a2⟩; unfold walkE; rw [if_pos (by omega), if_pos ho])
theorem goalsX {base pb mb db sb hb n : Nat} {lv : List (Int × Int × Int)} {σ : Sg} {w : World} (h : HX w base pb mb db sb hb lv σ n) :
  Calls Tryz.prog 23 #[.pointer (some ⟨hb, 0, none⟩)] w fun e w' => ∃ a c, e = .returned (.slice a σ.gs.length c) ∧ Below w.heap.size w w' := by
 obtain ⟨L, secs, left, h⟩ := h; exact hgoals_any base pb mb n db sb L hb secs false left lv σ.s σ.b σ.gs w h
structure BkAt (w : World) (BB : Nat) (sa ja : Option Addr) (sc jc : Nat) (b : PB) : Prop where
 k : Blk w BB #[.int .i64 b.last, .slice sa b.stays.length sc, .slice ja b.jobs.length jc] 39
 a : Book.At ⟨b.last, sa, sc, ja, jc, b.stays, b.jobs⟩ w
theorem BkAt.below {w w' : World} {BB : Nat} {sa ja : Option Addr} {sc jc : Nat} {b : PB} (h : BkAt w BB sa ja sc jc b) (hB : Below w.heap.size w w') : BkAt w' BB sa ja sc jc b := ⟨h.k.below hB, h.a.below hB⟩
theorem bookX2 {base pb mb db sb hb n : Nat} {lv : List (Int × Int × Int)} {σ : Sg} {w : World} (h : HX w base pb mb db sb hb lv σ n) :
  Calls Tryz.prog 20 #[.pointer (some ⟨hb, 0, none⟩)] w fun e w' => ∃ sa sc ja jc, e = .returned (.agg #[.int .i64 σ.b.last, .slice sa σ.b.stays.length sc, .slice ja σ.b.jobs.length jc]) ∧ Book.At ⟨σ.b.last, sa, sc, ja, jc, σ.b.stays, σ.b.jobs⟩ w' ∧ Below w.heap.size w w' :=
 (bookX h).mono (by
   rintro e w' ⟨vs, vj, rfl, ho, hb⟩; obtain ⟨sa, sc, ja, jc, rfl, rfl, hat⟩ := own_at2 (last := σ.b.last) ho; exact ⟨sa, sc, ja, jc, rfl, hat, hb⟩)
theorem BkAt.stay {w : World} {BB : Nat} {sa ja : Option Addr} {sc jc : Nat} {b : PB} (h : BkAt w BB sa ja sc jc b) (i : Nat) (hi : i < b.stays.length) : ∃ g off, sa = some ⟨g, off, none⟩ ∧ ∀ j u, (Stay.enc b.stays[i]!)[j]? = some u → w.cell? ⟨g, off + i * 8 + j, none⟩ = some u := by
 obtain ⟨_, _, hc⟩ := h.a.1; obtain ⟨g, off, e, _, hcell⟩ := hc (by show 0 < b.stays.length; omega)
 exact ⟨g, off, e, fun j u hu => hcell i hi j u hu⟩
theorem BkAt.find {w : World} {BB : Nat} {sa ja : Option Addr} {sc jc : Nat} {b : PB} (h : BkAt w BB sa ja sc jc b) (t : Int) :
  Calls Tryz.prog 30 #[.agg #[.int .i64 b.last, .slice sa b.stays.length sc, .slice ja b.jobs.length jc], .int .i64 t] w fun e w' => e = .returned (.int .i64 (findI b.book t)) ∧ Below w.heap.size w w' :=
 find_any ⟨b.last, sa, sc, ja, jc, b.stays, b.jobs⟩ t w h.a
end Hs
end Go.Proofs.YtopgllmjeliklaaGreatDoor
