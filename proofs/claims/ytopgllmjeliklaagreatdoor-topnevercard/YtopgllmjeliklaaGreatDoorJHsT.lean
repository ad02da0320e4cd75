/- Chapter 11, the law TopNever: its walk. -/
import Derived.Test.YtopgllmjeliklaaGreatDoorJTopPickA
import Derived.Test.YtopgllmjeliklaaGreatDoorJHsK
namespace Go.Proofs.YtopgllmjeliklaaGreatDoor
open Go.Shelf Go.Lib Go.ChangeShapes Go.WideShapes Go.ChangeAt Go.RowKit
set_option maxRecDepth 100000
set_option linter.unusedSimpArgs false
set_option linter.unusedVariables false

namespace Hs
open Bk Lg Pl Dk Tx Tn Ac
set_option maxHeartbeats 8000000 in
theorem topNever_walk (len : Nat) (f : Nat → Int × Int × Int) (lvv : Value) (alen : Nat) (g : Nat → ActC) (v : Value) (w : World) (hs : SizesAt w lvv len f) (ha : ActsAt w v alen g) (G : Glob w)
    (hwk : ∀ W, Glob W → Calls Tryz.prog 14 #[] W fun e w' => e = .returned (.bool true) ∧ Below W.heap.size W w') :
    Calls Tryz.prog 5 #[lvv, v] w fun e w' => e = .returned (.bool true) ∧ Below w.heap.size w w' := by
  have HW : Hid (Calls Tryz.prog 14 #[] w fun e w' => e = .returned (.bool true) ∧ Below w.heap.size w w') := hwk w G
  have HR : Hid (∀ W, Below w.heap.size w W → Calls Tryz.prog 15 #[lvv, v] W (ReadyPost len f alen g W)) := fun W hB => ready_any len f lvv alen g v W (hs.below hB) (ha.below hB) (G.new hB)
  have HG : Hid (∀ W, HFr w.heap.size w W → Glob W) := fun W hf => G.below hf.b G.hn
  have hbg : Hid (Tryz.prog.globals.size ≤ w.heap.size) := G.hn
  have HA : Hid (∀ W, HFr w.heap.size w W → ActsAt W v alen g) := fun W hf => ha.below hf.b
  have HS : Hid (∀ W, HFr w.heap.size w W → SizesAt W lvv len f) := fun W hf => hs.below hf.b
  obtain ⟨a, cap, rfl, hl, hm, hok, hc⟩ := id ha
  have HOK : Hid (∀ i, i < alen → (g i).Ok) := hok
  clear hwk hs ha G hc hok hl
  unfold maxLen at hm
  go_enter Tryz.func5, Tryz.ntmps5
  go_wp2_with fail
  refine HW.out.mono ?_
  rintro e w1 ⟨rfl, b1⟩
  have X1 : Hid (Below w.heap.size w w1) := b1
  have HR1 := hidd (HR.out w1 b1)
  clear HW HR b1
  go_wp2_with fail
  refine HR1.out.mono ?_
  rintro e w2 ⟨b2, rfl | ⟨hlv, hlight, pb, mb, db, sb, hb, rfl, hx⟩⟩
  · have X2 : Hid (Below w.heap.size w w2) := B.next X1.out b2 X1.out.size
    clear HR1 b2 X1 HG HA HS HOK
    go_wp2
    go_returns
    exact ⟨rfl, X2.out⟩
  have F2 : Hid (HFr w.heap.size w w2) := (HFr.of_below X1.out (Nat.le_refl _)).trans (HFr.of_below b2 X1.out.size)
  have H2 : Hid (HX w2 w.heap.size pb mb db sb hb (rowsOf f len) ⟨newS len, ⟨0, [], []⟩, []⟩ (60 * 0)) := hx.down X1.out.size
  have hal : Hid ((alen : Int) ≤ 60) := hlight.1
  have HLV : Hid (levelsN len f = 0) := hlv
  clear HR1 b2 X1 hx hlight hlv
  go_wp2_with fail
  go_loopg [8, 9] alen (fun q h8 i wr => ∃ (k : Nat) (hb : Nat) (σ : Sg), k + q = alen ∧ i = .int .i64 k ∧ h8 = .pointer (some ⟨hb, 0, none⟩) ∧ Hid (HX wr w.heap.size pb mb db sb hb (rowsOf f len) σ (60 * k)) ∧ Hid (Well σ) ∧ Hid (HFr w.heap.size w wr))
  case atStart => exact ⟨0, hb, _, by omega, rfl, rfl, H2, Well.new _, F2⟩
  case round =>
    clear H2 F2
    obtain ⟨k, hb, σ, hk, rfl, rfl, HX1, HW1, HF1⟩ := hrel
    have HK : Hid (k + gk = alen) := hk
    by_cases hlt : k < alen
    · have hlt' : (k : Int) < (alen : Int) := by omega
      have hAc := HA.out wr HF1.out
      obtain ⟨a', cap', hv, _, _, _, hc⟩ := hAc
      obtain ⟨bq, off, hv2, hbl, hcell⟩ := hc (by omega)
      injection hv with e1 e2 e3
      subst hv2
      subst e1 e3
      have c0 : wr.cell? ⟨bq, off + k * 12 + 0, none⟩ = some (.string (g k).kind) := hcell k hlt 0 (by omega)
      have c1 : wr.cell? ⟨bq, off + k * 12 + 1, none⟩ = some (.int .i64 (g k).a) := hcell k hlt 1 (by omega)
      have c2 : wr.cell? ⟨bq, off + k * 12 + 2, none⟩ = some (.int .i64 (g k).b) := hcell k hlt 2 (by omega)
      have c3 : wr.cell? ⟨bq, off + k * 12 + 3, none⟩ = some (.int .i64 (g k).c0) := hcell k hlt 3 (by omega)
      have c4 : wr.cell? ⟨bq, off + k * 12 + 4, none⟩ = some (.int .i64 (g k).c1) := hcell k hlt 4 (by omega)
      have c5 : wr.cell? ⟨bq, off + k * 12 + 5, none⟩ = some (.int .i64 (g k).c2) := hcell k hlt 5 (by omega)
      have c6 : wr.cell? ⟨bq, off + k * 12 + 6, none⟩ = some (.int .i64 (g k).c3) := hcell k hlt 6 (by omega)
      have c7 : wr.cell? ⟨bq, off + k * 12 + 7, none⟩ = some (.string (g k).s) := hcell k hlt 7 (by omega)
      have c8 : wr.cell? ⟨bq, off + k * 12 + 8, none⟩ = some (.int .u64 (g k).k) := hcell k hlt 8 (by omega)
      have c9 : wr.cell? ⟨bq, off + k * 12 + 9, none⟩ = some (.int .i64 (g k).last) := hcell k hlt 9 (by omega)
      have c10 : wr.cell? ⟨bq, off + k * 12 + 10, none⟩ = some (.slice (g k).sa (g k).sl (g k).sc) := hcell k hlt 10 (by omega)
      have c11 : wr.cell? ⟨bq, off + k * 12 + 11, none⟩ = some (.slice (g k).ja (g k).jl (g k).jc) := hcell k hlt 11 (by omega)
      have hx := HOK.out k hlt
      have HPL := hidd (play_any w.heap.size pb mb db sb hb len f lvv σ (60 * k) (g k) wr HX1.out (HS.out wr HF1.out) HLV.out (by have := hal.out; unfold maxLen; omega) hx (HG.out wr HF1.out) hbg.out)
      clear hcell hc hk hx
      simp only [Nat.add_zero] at c0
      go_wp2_with fail
      · clear HPL c0 c1 c2 c3 c4 c5 c6 c7 c8 c9 c10 c11 hbl
        have HX0 : Hid (HX wr w.heap.size pb mb db sb hb (rowsOf f len) σ (60 * k + 0)) := HX1.out
        go_loopg [10, 11] 60 (fun q i p11 wr => ∃ (j : Nat) (τ : Sg), j + q = 60 ∧ i = .int .i64 j ∧ Hid (HX wr w.heap.size pb mb db sb hb (rowsOf f len) τ (60 * k + j)) ∧ Hid (Well τ) ∧ Hid (HFr w.heap.size w wr))
        case atStart => exact ⟨0, σ, by omega, rfl, HX0, HW1, HF1⟩
        case round =>
          clear HX0 HX1 HW1 HF1
          obtain ⟨j, τ, hj, rfl, HXi, HWi, HFi⟩ := hrel
          have HJ : Hid (j + gk = 60) := hj
          have hAc := HA.out wr HFi.out
          obtain ⟨a', cap', hv, _, _, _, hc⟩ := hAc
          obtain ⟨bq', off', hv2, hbl, hcell⟩ := hc (by omega)
          injection hv with e1 e2 e3
          subst e3
          have e4 := e1.trans hv2
          injection e4 with e4
          injection e4 with e5 e6 _
          subst e5 e6
          have c1 : wr.cell? ⟨bq, off + k * 12 + 1, none⟩ = some (.int .i64 (g k).a) := hcell k hlt 1 (by omega)
          clear hcell hc e1 hv2
          by_cases q1 : (j : Int) < (g k).a
          · by_cases q2 : j < 60
            · have q2' : (j : Int) < 60 := by omega
              have HT := hidd (tickX HXi.out (by have := hal.out; unfold maxLen; omega) (HG.out wr HFi.out) hbg.out)
              clear hj
              go_wp2_with fail
              refine HT.out.mono ?_
              rintro e w3 ⟨rfl, f3, τ', ht, hx3⟩
              have HX3 : Hid (HX w3 w.heap.size pb mb db sb hb (rowsOf f len) τ' (60 * k + (j + 1))) := hx3
              have HW3 : Hid (Well τ') := HWi.out.tick HXi.out.iv ht
              have HF3 : Hid (HFr w.heap.size w w3) := HFi.out.trans f3
              clear HT f3 ht hx3 HXi HWi HFi
              have HSe := hidd (sense_any pb mb _ τ'.s w3 HX3.out.p HX3.out.iv.ok)
              have HHu := hidd (fun W (hB : Below w3.heap.size w3 W) => hurt_any pb τ'.s.hu W (HX3.out.p.below hB).c9)
              have hu : τ'.s.hu = false := HW3.out.nv.hu
              have HNp : Hid (τ'.s.op = false → τ'.s.pe = 0) := HW3.out.nv.pe
              have HNl : Hid (τ'.s.li ≠ 0 → τ'.s.op = false) := HW3.out.nv.li
              have HV1 : Hid (senseV τ'.s = .agg #[.int .i64 τ'.s.h, .int .i64 τ'.s.ex, .bool τ'.s.op, .int .i64 τ'.s.pe, .int .i64 τ'.s.li, .int .i64 τ'.s.ba, .bool (carAtI τ'.s.D τ'.s.lv τ'.s.h τ'.s.ex != 0), .bool (carAtI τ'.s.D τ'.s.lv τ'.s.h (τ'.s.ex - 1) != 0), .bool (carAtI τ'.s.D τ'.s.lv τ'.s.h (τ'.s.ex + 1) != 0)]) := rfl
              rw [HV1.out] at HSe
              rw [hu] at HHu
              clear HV1 hu
              generalize (carAtI τ'.s.D τ'.s.lv τ'.s.h τ'.s.ex != 0) = z1 at *
              generalize (carAtI τ'.s.D τ'.s.lv τ'.s.h (τ'.s.ex - 1) != 0) = z2 at *
              generalize (carAtI τ'.s.D τ'.s.lv τ'.s.h (τ'.s.ex + 1) != 0) = z3 at *
              generalize τ'.s.li = li at *
              generalize τ'.s.ba = ba at *
              generalize τ'.s.h = h at *
              generalize τ'.s.ex = ex at *
              generalize τ'.s.op = op at *
              generalize τ'.s.pe = pe at *
              go_wp2_with fail
              refine HSe.out.mono ?_
              rintro e w5 ⟨rfl, b5⟩
              have B5 : Hid (Below w3.heap.size w3 w5) := b5
              have HHu5 := hidd (fun o => HHu.out (w5.alloc o) (B.next b5 (B.new1 w5 o) b5.size))
              have HX5 : Hid (∀ o, HX (w5.alloc o) w.heap.size pb mb db sb hb (rowsOf f len) τ' (60 * k + (j + 1)) ∧ HFr w.heap.size w (w5.alloc o)) := fun o => ⟨HX3.out.below (B.next b5 (B.new1 w5 o) b5.size), HF3.out.trans (HFr.of_below (B.next b5 (B.new1 w5 o) b5.size) HX3.out.sz)⟩
              clear HSe HHu b5 B5 HX3 HF3
              have HZ : Hid ((decide (0 < pe) && !op) = false ∧ ((li != 0) && op) = false) := by
                refine ⟨?_, ?_⟩
                · cases ho : op
                  · rw [HNp.out ho]; rfl
                  · simp
                · by_cases hl : li = 0
                  · rw [hl]; rfl
                  · rw [HNl.out hl]; simp
              cases op
              · have hp0 : pe = 0 := HNp.out rfl
                subst hp0
                clear HNp HNl HZ
                by_cases hl : li = 0
                · subst hl
                  go_wp2_with fail
                  refine (HHu5.out _).mono ?_
                  rintro e w6 ⟨rfl, rfl⟩
                  clear HHu5
                  go_wp2_with fail
                  go_roundg (gk - 1)
                  case measure => have := HJ.out; omega
                  case rel => exact ⟨j + 1, τ', by have := HJ.out; omega, by go_num, (HX5.out _).1, HW3, (HX5.out _).2⟩
                · have hl' : (li != 0) = true := by simpa using hl
                  go_wp2_with fail
                  refine (HHu5.out _).mono ?_
                  rintro e w6 ⟨rfl, rfl⟩
                  clear HHu5
                  go_wp2_with fail
                  go_roundg (gk - 1)
                  case measure => have := HJ.out; omega
                  case rel => exact ⟨j + 1, τ', by have := HJ.out; omega, by go_num, (HX5.out _).1, HW3, (HX5.out _).2⟩
              · have hl0 : li = 0 := Classical.byContradiction fun hl => by have := HNl.out hl; cases this
                subst hl0
                clear HNp HNl HZ
                by_cases hp : (0 : Int) < pe
                · go_wp2_with fail
                  refine (HHu5.out _).mono ?_
                  rintro e w6 ⟨rfl, rfl⟩
                  clear HHu5
                  go_wp2_with fail
                  go_roundg (gk - 1)
                  case measure => have := HJ.out; omega
                  case rel => exact ⟨j + 1, τ', by have := HJ.out; omega, by go_num, (HX5.out _).1, HW3, (HX5.out _).2⟩
                · go_wp2_with fail
                  refine (HHu5.out _).mono ?_
                  rintro e w6 ⟨rfl, rfl⟩
                  clear HHu5
                  go_wp2_with fail
                  go_roundg (gk - 1)
                  case measure => have := HJ.out; omega
                  case rel => exact ⟨j + 1, τ', by have := HJ.out; omega, by go_num, (HX5.out _).1, HW3, (HX5.out _).2⟩
            · have q2' : ¬ (j : Int) < 60 := by omega
              clear hj
              go_wp2_with fail
              go_roundg (alen - (k + 1))
              case measure => have := HK.out; omega
              case rel => exact ⟨k + 1, hb, τ, by omega, by go_num, rfl, HXi.out.le (by have := HJ.out; omega), HWi, HFi⟩
          · clear hj
            go_wp2_with fail
            go_roundg (alen - (k + 1))
            case measure => have := HK.out; omega
            case rel => exact ⟨k + 1, hb, τ, by omega, by go_num, rfl, HXi.out.le (by have := HJ.out; omega), HWi, HFi⟩
      · refine HPL.out.mono ?_
        rintro e w3 ⟨hb', σ', rfl, f3, hp, hx3⟩
        have HX3 : Hid (HX w3 w.heap.size pb mb db sb hb' (rowsOf f len) σ' (60 * (k + 1))) := by show HX _ _ _ _ _ _ _ _ _ _; rw [Nat.mul_succ]; exact hx3
        have HW3 : Hid (Well σ') := HW1.out.play HX1.out.iv hp
        have HF3 : Hid (HFr w.heap.size w w3) := HF1.out.trans f3
        have hu : σ'.s.hu = false := HW3.out.nv.hu
        have HU := hidd (hurt_any pb σ'.s.hu w3 HX3.out.p.c9)
        rw [hu] at HU
        clear HPL f3 hp hx3 HX1 HW1 HF1 hu c0 c1 c2 c3 c4 c5 c6 c7 c8 c9 c10 c11 hbl
        go_wp2_with fail
        refine HU.out.mono ?_
        rintro e w4 ⟨rfl, rfl⟩
        clear HU
        go_wp2_with fail
        go_roundg (gk - 1)
        case measure => have := HK.out; omega
        case rel => exact ⟨k + 1, hb', σ', by have := HK.out; omega, by go_num, rfl, HX3, HW3, HF3⟩
    · have hlt' : ¬ (k : Int) < (alen : Int) := by omega
      clear HA HS HOK hk
      go_wp2
      go_returns
      exact ⟨rfl, HF1.out.b⟩
end Hs
end Go.Proofs.YtopgllmjeliklaaGreatDoor

namespace Go.Proofs.YtopgllmjeliklaaGreatDoor
open Go.Shelf Go.Lib Go.ChangeShapes Go.WideShapes Go.ChangeAt Go.RowKit Go.Maps
set_option maxRecDepth 100000
set_option linter.unusedSimpArgs false
set_option linter.unusedVariables false

namespace Hs
open Bk Lg Pl Dk Tx Tn Ac
/-- What a tick comes to, where nothing is fetched. -/
def tickF (m : Nat) (σ : Sg) : Option Sg :=
  match σ.gs with
  | g :: l => some ⟨(followS (g :: l) σ.s).2, σ.b, (followS (g :: l) σ.s).1⟩
  | [] =>
    if σ.s.li ≠ 0 then some ⟨(followS (unloadG σ.b.book σ.s (vB σ.b.book) (vJ σ.b.book σ.s).t (vJ σ.b.book σ.s).f (vS σ.b.book σ.s) m 1 0) σ.s).2, σ.b, (followS (unloadG σ.b.book σ.s (vB σ.b.book) (vJ σ.b.book σ.s).t (vJ σ.b.book σ.s).f (vS σ.b.book σ.s) m 1 0) σ.s).1⟩
    else if spareB σ.b.book σ.s m (vB σ.b.book) (vJ σ.b.book σ.s).f (vS σ.b.book σ.s) = true then none
    else if vB σ.b.book = false then some ⟨(followS (welG σ.s) σ.s).2, σ.b, (followS (welG σ.s) σ.s).1⟩
    else if overB σ.s (vJ σ.b.book σ.s).f (vS σ.b.book σ.s) = true then some ⟨σ.s, overB2 σ.b σ.s, []⟩
    else if (vJ σ.b.book σ.s).f = true then none
    else some ⟨(followS (putG σ.s (vS σ.b.book σ.s)) σ.s).2, σ.b, (followS (putG σ.s (vS σ.b.book σ.s)) σ.s).1⟩
theorem tickF_is {m : Nat} {σ σ' τ : Sg} (h : TickR m σ σ') (k : tickF m σ = some τ) : σ' = τ := by
  obtain ⟨s, b, gs⟩ := σ
  unfold tickF at k
  rcases h with ⟨h1, rfl⟩ | ⟨h1, l, hl, rfl⟩ | ⟨h1, hc, rfl⟩
  · simp only at h1 k ⊢
    cases gs with
    | nil => exact absurd rfl h1
    | cons g l => simpa using k
  · simp only at h1 hl k ⊢
    subst h1
    unfold nextL NextL at hl
    simp only at k
    rcases hl with ⟨a, rfl⟩ | ⟨a, a1, rfl⟩ | ⟨a, a1, a2, rfl⟩ | ⟨a, a1, a2, a3, ⟨a4, _⟩ | ⟨a4, rfl⟩⟩
    · rw [if_pos a] at k; simpa using k
    · rw [if_neg (by simp [a]), if_pos a1] at k; cases k
    · rw [if_neg (by simp [a]), if_neg (by simp [a1]), if_pos a2] at k; simpa using k
    · rw [if_neg (by simp [a]), if_neg (by simp [a1]), if_neg (by simp [a2]), if_neg (by simp [a3]), if_pos a4] at k; cases k
    · rw [if_neg (by simp [a]), if_neg (by simp [a1]), if_neg (by simp [a2]), if_neg (by simp [a3]), if_neg (by simp [a4])] at k; simpa using k
  · simp only at h1 hc k ⊢
    subst h1
    obtain ⟨a, a1, a2, a3⟩ := hc
    simp only at k
    rw [if_neg (by simp [a]), if_neg (by simp [a1]), if_neg (by simp [a2]), if_pos a3] at k
    simpa using k
def ticksF (m : Nat) : Nat → Sg → Option Sg
  | 0, σ => some σ
  | j + 1, σ => (ticksF m j σ).bind (tickF m)
theorem ticksF_is {m : Nat} : ∀ (j : Nat) {σ σ' τ : Sg}, Ticks m j σ σ' → ticksF m j σ = some τ → σ' = τ
  | 0, σ, σ', τ, h, k => by rw [show σ' = σ from h]; simpa [ticksF] using k
  | j + 1, σ, σ', τ, ⟨ρ, h1, h2⟩, k => by
    unfold ticksF at k
    cases hj : ticksF m j σ with
    | none => rw [hj] at k; cases k
    | some ρ' =>
      rw [hj] at k
      have := ticksF_is j h1 hj
      subst this
      exact tickF_is h2 k
/-- A car of one came, and was parked. -/
def wk0 : Sg := ⟨{ newS 1 with ba := 7 }, ⟨1, [⟨1, 7, 1, 1, 1, 1, 0, 1⟩], [⟨1, false⟩]⟩, []⟩
theorem wk_pick : pickO (⟨0, [], []⟩ : PB).book (fOf [(99, 99, 99)]) 1 1 1 1 = some (1, 0, 1) := by decide +kernel
theorem wk_park : parkN (⟨0, [], []⟩ : PB).book (fOf [(99, 99, 99)]) 1 7 1 1 1 = 0 := by decide +kernel
theorem wk_arrive : arriveS 7 (newS 1) = { newS 1 with ba := 7 } := by
  have : arriveB 7 (newS 1) = true := by kernel_rfl
  unfold arriveS
  rw [if_pos this]
theorem wk_ticks : (ticksF 1 40 wk0).map (fun τ => carOf τ.s.D 1 0 1) = some 7 := by kernel_rfl
theorem wk_end {σ : Sg} (h : Ticks 1 40 wk0 σ) : carOf σ.s.D 1 0 1 = 7 := by
  have k := wk_ticks
  cases hj : ticksF 1 40 wk0 with
  | none => rw [hj] at k; cases k
  | some τ =>
    rw [hj] at k
    rw [ticksF_is 40 h hj]
    simpa using k
theorem wk_parked {σ : Sg} {t k : Int} (h : ParkR [(99, 99, 99)] 7 1 1 1 ⟨{ newS 1 with ba := 7 }, ⟨0, [], []⟩, []⟩ σ t k) : k = 0 ∧ t = 1 ∧ σ = wk0 := by
  rcases h with ⟨h0, _, _, h1 | h1⟩ | ⟨h0, h1, _, _, _, po, hpo, rfl⟩
  · rcases h1.2 with h | h
    · exact absurd h (by decide)
    · exact absurd rfl h
  · have := wk_park
    have e := h1.2.2
    rw [show (parkN (⟨0, [], []⟩ : PB).book (fOf [(99, 99, 99)]) [((99 : Int), (99 : Int), (99 : Int))].length 7 1 1 1) = 0 from this] at e
    exact absurd e.symm h0
  · have := wk_pick
    rw [show pickO (⟨0, [], []⟩ : PB).book (fOf [(99, 99, 99)]) 1 1 1 [((99 : Int), (99 : Int), (99 : Int))].length = some (1, 0, 1) from this] at hpo
    injection hpo with hpo
    subst hpo
    exact ⟨h0, h1, rfl⟩
end Hs
end Go.Proofs.YtopgllmjeliklaaGreatDoor

namespace Go.Proofs.YtopgllmjeliklaaGreatDoor
open Go.Shelf Go.Lib Go.ChangeShapes Go.WideShapes Go.ChangeAt Go.RowKit
set_option maxRecDepth 100000
set_option linter.unusedSimpArgs false
set_option linter.unusedVariables false

namespace Hs
open Bk Lg Pl Dk Tx Tn Ac
theorem wk_err : arriveE 7 (newS 1) = .nilIface := by
  have : arriveB 7 (newS 1) = true := by kernel_rfl
  simp only [arriveB, Bool.and_eq_true, decide_eq_true_eq, beq_iff_eq, Bool.not_eq_true'] at this
  unfold arriveE
  rw [if_pos this.1.1.1, if_pos ⟨this.1.1.2, this.1.2⟩, if_neg (by rw [this.2]; decide)]

set_option maxHeartbeats 8000000 in
theorem works_any (w : World) (G : Glob w) : Calls Tryz.prog 14 #[] w fun e w' => e = .returned (.bool true) ∧ Below w.heap.size w w' := by
  have HO : Hid (Calls Tryz.prog 44 #[] w fun e w' => ∃ v, e = .returned v ∧ SizesAt w' v 1 (fun _ => (99, 99, 99)) ∧ Below w.heap.size w w') := one_any w
  have HH : Hid (∀ v W, Below w.heap.size w W → SizesAt W v 1 (fun _ => (99, 99, 99)) → Calls Tryz.prog 43 #[v] W fun e w' => ∃ pb mb db sb hb, e = .returned (.tuple #[.pointer (some ⟨pb, 0, none⟩), .pointer (some ⟨db, 0, none⟩), .pointer (some ⟨hb, 0, none⟩), .bool true]) ∧ HX w' w.heap.size pb mb db sb hb [(99, 99, 99)] ⟨newS 1, ⟨0, [], []⟩, []⟩ 0 ∧ HFr w.heap.size w w') := fun v W hB hs => (housedX 1 (fun _ => (99, 99, 99)) v W hs (by decide +kernel) (G.new hB)).mono (by
    rintro e w' ⟨b1, pb, mb, db, sb, hb, rfl, hx⟩
    exact ⟨pb, mb, db, sb, hb, rfl, hx.down hB.size, (HFr.of_below hB (Nat.le_refl _)).trans (HFr.of_below b1 hB.size)⟩)
  have HG : Hid (∀ W, HFr w.heap.size w W → Glob W) := fun W hf => G.below hf.b G.hn
  have hbg : Tryz.prog.globals.size ≤ w.heap.size := G.hn
  have HA : Hid (∀ pb mb db sb hb W, HX W w.heap.size pb mb db sb hb [(99, 99, 99)] ⟨newS 1, ⟨0, [], []⟩, []⟩ 0 → HFr w.heap.size w W → Calls Tryz.prog 25 #[.pointer (some ⟨pb, 0, none⟩), .int .i64 7] W fun e w' => e = .returned .nilIface ∧ HX w' w.heap.size pb mb db sb hb [(99, 99, 99)] ⟨{ newS 1 with ba := 7 }, ⟨0, [], []⟩, []⟩ 0 ∧ HFr w.heap.size w w') := fun pb mb db sb hb W hx hf => (arrive_any pb mb 0 (newS 1) 7 W hx.p hx.iv).mono (by
    rintro e w' ⟨rfl, p1, t1⟩
    have iv := hx.iv.arrive 7
    rw [wk_arrive] at p1 iv
    obtain ⟨a1, a2⟩ := hx.turned t1 p1 iv
    exact ⟨by rw [wk_err], a1, hf.trans a2⟩)
  have HP : Hid (∀ pb mb db sb hb W, HX W w.heap.size pb mb db sb hb [(99, 99, 99)] ⟨{ newS 1 with ba := 7 }, ⟨0, [], []⟩, []⟩ 0 → HFr w.heap.size w W → Calls Tryz.prog 29 #[.pointer (some ⟨hb, 0, none⟩), .agg #[.int .i64 7, .int .i64 1, .int .i64 1, .int .i64 1]] W fun e w' => e = .returned (.tuple #[.int .i64 1, .nilIface]) ∧ HX w' w.heap.size pb mb db sb hb [(99, 99, 99)] wk0 0 ∧ HFr w.heap.size w w') := fun pb mb db sb hb W hx hf => (parkX 7 1 1 1 hx (HG.out W hf) hbg).mono (by
    rintro e w' ⟨t, k, rfl, f2, σ', hp, h2⟩
    obtain ⟨rfl, rfl, rfl⟩ := wk_parked hp
    exact ⟨rfl, h2, hf.trans f2⟩)
  have HT : Hid (∀ pb mb db sb hb τ j W, HX W w.heap.size pb mb db sb hb [(99, 99, 99)] τ j → j < 40 → HFr w.heap.size w W → Calls Tryz.prog 21 #[.pointer (some ⟨hb, 0, none⟩)] W fun e w' => e = .returned .nilIface ∧ HFr w.heap.size w w' ∧ ∃ σ', TickR 1 τ σ' ∧ HX w' w.heap.size pb mb db sb hb [(99, 99, 99)] σ' (j + 1)) := fun pb mb db sb hb τ j W hx hj hf => (tickX hx (by unfold maxLen; omega) (HG.out W hf) hbg).mono (by
    rintro e w' ⟨rfl, f2, σ', ht, h2⟩
    exact ⟨rfl, hf.trans f2, σ', ht, h2⟩)
  have HAT : Hid (∀ pb mb db sb hb σ n W, HX W w.heap.size pb mb db sb hb [(99, 99, 99)] σ n → carOf σ.s.D 1 0 1 = 7 → Calls Tryz.prog 34 #[.pointer (some ⟨pb, 0, none⟩), .agg #[.int .i64 1, .int .i64 0, .int .i64 1]] W fun e w' => e = .returned (.int .i64 7) ∧ Below W.heap.size W w') := fun pb mb db sb hb σ n W hx hc => by
    have := at_any pb mb n σ.s.D 1 0 1 W hx.p.c7 hx.p.cars (wfI (by omega)) (wfI (by omega)) (wfI (by omega))
    rwa [hc] at this
  clear hbg G
  go_enter Tryz.func14, Tryz.ntmps14
  go_wp2_with fail
  refine HO.out.mono ?_
  rintro e w1 ⟨v, rfl, hs, b1⟩
  have HH1 := hidd (HH.out v w1 b1 hs)
  clear HO HH hs b1
  go_wp2_with fail
  refine HH1.out.mono ?_
  rintro e w2 ⟨pb, mb, db, sb, hb, rfl, hx2, f2⟩
  have HA2 := hidd (HA.out pb mb db sb hb w2 hx2 f2)
  clear HH1 HA hx2 f2
  go_wp2_with fail
  refine HA2.out.mono ?_
  rintro e w3 ⟨rfl, hx3, f3⟩
  have HP3 := hidd (HP.out pb mb db sb hb w3 hx3 f3)
  clear HA2 HP hx3 f3
  go_wp2_with fail
  refine HP3.out.mono ?_
  rintro e w4 ⟨rfl, hx4, f4⟩
  have HX4 : Hid (HX w4 w.heap.size pb mb db sb hb [(99, 99, 99)] wk0 0) := hx4
  have HF4 : Hid (HFr w.heap.size w w4) := f4
  clear HP3 hx4 f4
  go_wp2_with fail
  go_loopg [7] 40 (fun q i wr => ∃ (j : Nat) (τ : Sg), j + q = 40 ∧ i = .int .i64 j ∧ Hid (HX wr w.heap.size pb mb db sb hb [(99, 99, 99)] τ j) ∧ Hid (Ticks 1 j wk0 τ) ∧ Hid (HFr w.heap.size w wr))
  case atStart => exact ⟨0, wk0, by omega, rfl, HX4, rfl, HF4⟩
  case round =>
    clear HX4 HF4
    obtain ⟨j, τ, hj, rfl, HXi, HTi, HFi⟩ := hrel
    have HJ : Hid (j + gk = 40) := hj
    by_cases hlt : j < 40
    · have hlt' : (j : Int) < 40 := by omega
      have HT1 := hidd (HT.out pb mb db sb hb τ j wr HXi.out hlt HFi.out)
      clear hj HT HAT
      go_wp2_with fail
      refine HT1.out.mono ?_
      rintro e w5 ⟨rfl, f5, σ', ht, hx5⟩
      have HX5 : Hid (HX w5 w.heap.size pb mb db sb hb [(99, 99, 99)] σ' (j + 1)) := hx5
      have HT5 : Hid (Ticks 1 (j + 1) wk0 σ') := ⟨τ, HTi.out, ht⟩
      have HF5 : Hid (HFr w.heap.size w w5) := f5
      clear HT1 f5 ht hx5 HXi HTi HFi
      go_wp2_with fail
      go_roundg (gk - 1)
      case measure => have := HJ.out; omega
      case rel => exact ⟨j + 1, σ', by have := HJ.out; omega, by go_num, HX5, HT5, HF5⟩
    · have hlt' : ¬ (j : Int) < 40 := by omega
      have hj40 : j = 40 := by have := HJ.out; omega
      have HAT1 := hidd (HAT.out pb mb db sb hb τ j wr HXi.out (wk_end (by rw [← hj40]; exact HTi.out)))
      have HX6 : Hid (∀ W, Below wr.heap.size wr W → Below w.heap.size w W) := fun W hB => B.next HFi.out.b hB (Nat.le_trans HXi.out.sz (Nat.le_refl _))
      clear hj HT HAT hj40 HXi HTi HFi
      go_wp2_with fail
      refine HAT1.out.mono ?_
      rintro e w6 ⟨rfl, b6⟩
      have HB6 : Hid (Below w.heap.size w w6) := HX6.out w6 b6
      clear HAT1 HX6 b6
      go_wp2
      go_returns
      exact ⟨rfl, HB6.out⟩
end Hs
end Go.Proofs.YtopgllmjeliklaaGreatDoor

namespace Go.Proofs.YtopgllmjeliklaaGreatDoor
open Go.Shelf Go.Lib Go.ChangeShapes Go.WideShapes Go.ChangeAt Go.RowKit
set_option maxRecDepth 100000
set_option linter.unusedVariables false

namespace Hs
open Bk Lg Pl Dk Tx Tn Ac
theorem topNever_law (len : Nat) (f : Nat → Int × Int × Int) (lvv : Value) (alen : Nat) (g : Nat → ActC) (v : Value) (w : World) (hs : SizesAt w lvv len f) (ha : ActsAt w v alen g) (G : Glob w) :
    Calls Tryz.prog 5 #[lvv, v] w fun e w' => e = .returned (.bool true) ∧ Below w.heap.size w w' := topNever_walk len f lvv alen g v w hs ha G works_any
end Hs
end Go.Proofs.YtopgllmjeliklaaGreatDoor
