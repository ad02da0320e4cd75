/- CardKit. -/
import Derived.Test.YtopgllmjeliklaaGreatDoorKtOwn
import Derived.Deep.DeepHandedRow
import Derived.Stop.LaidErr
import Derived.LaidSub
import Derived.LaidHandle
import Derived.MakeChecks
import Derived.Shelf.Vars
import Derived.Lay
set_option maxRecDepth 100000
set_option linter.unusedSimpArgs false
set_option linter.unusedVariables false
namespace Go.Proofs.YtopgllmjeliklaaGreatDoor
open Go.Shelf Go.ChangeShapes Go.WideShapes Go.ChangeAt Go.RowKit
namespace Tx
theorem star_err : "*" ++ "errors.errorString" = "*errors.errorString" := by decide
theorem err_row (u : TypeId) (h : Tryz.prog.typeName? 3 u = some "*errors.errorString") : u = 255 :=
 typeName_ptr_named (nm := "errors.errorString") (by rw [star_err]; kernel_rfl) (by kernel_rfl) (by decide) u (by rw [star_err]; exact h)
theorem cell_of_var {W : World} {name : String} {g : Nat} {v : Value} (hg : Tryz.prog.globalNamed name = some g) (h : W.var? Tryz.prog name = some #[v]) : W.cell? ⟨g, 0, none⟩ = some v := by
 unfold World.var? at h; rw [hg] at h; simp only [Option.bind_some] at h; unfold World.cell?
 cases hk : W.heap[g]? with
 | none => rw [hk] at h; cases h
 | some o =>
   rw [hk] at h
   cases o <;> simp_all
theorem glob_of {W : World} {laid : List (String × DataW Unit)} (h : laidMetH Tryz.prog laid W) (hs : W.ShapedOpen Tryz.prog) (hsz : Tryz.prog.globals.size ≤ W.heap.size) (hp : (laid.all fun x => x.2.handleName?.isNone) = true)
  (h1 : (laid.filter fun x => x.1 == "internal/strconv.uint64pow10") = [("internal/strconv.uint64pow10", Lib.tabData .u64 Lib.pow10Tab)])
  (h2 : (laid.filter fun x => x.1 == "strconv.ErrSyntax") = [("strconv.ErrSyntax", .iface "*errors.errorString" (.ptr (.agg [.lit (.string [105, 110, 118, 97, 108, 105, 100, 32, 115, 121, 110, 116, 97, 120])])))])
  (h3 : (laid.filter fun x => x.1 == "strconv.ErrRange") = [("strconv.ErrRange", .iface "*errors.errorString" (.ptr (.agg [.lit (.string [118, 97, 108, 117, 101, 32, 111, 117, 116, 32, 111, 102, 32, 114, 97, 110, 103, 101])])))]) : Glob W := by
 rw [Go.MakeChecks.laidMetH_plain _ _ _ hp] at h; refine ⟨hsz, ?_, ?_, ?_, ?_⟩
 ·have := h.filter fun x => x.1 == "internal/strconv.uint64pow10"
  rw [h1] at this; exact Lib.tabIs_of_head (g := 0) (t := 238) (e := 35) (n := 20) (by kernel_rfl) (by kernel_rfl) (by kernel_rfl) (by kernel_rfl) (by kernel_rfl) (by kernel_rfl) this
 ·exact cell_of_shapedOpen_int (g := 1) (t := 3) (zero := #[.int .i64 0]) hs (of_decide_eq_true (by kernel_rfl)) (by kernel_rfl) (by kernel_rfl) (by kernel_rfl) (by kernel_rfl) Tryz.underlying3
 ·have := h.filter fun x => x.1 == "strconv.ErrSyntax"
  rw [h2] at this; obtain ⟨a, s, hv, _⟩ := laid_sentinel (g := 2) this (by kernel_rfl) (by kernel_rfl) Tryz.underlying50 err_row Tryz.underlying255 Tryz.underlying257 rfl rfl Tryz.underlying9 (by kernel_rfl) (by kernel_rfl); exact ⟨_, cell_of_var (g := 2) (by kernel_rfl) hv, Or.inr ⟨_, _, rfl⟩⟩
 ·have := h.filter fun x => x.1 == "strconv.ErrRange"
  rw [h3] at this; obtain ⟨a, s, hv, _⟩ := laid_sentinel (g := 3) this (by kernel_rfl) (by kernel_rfl) Tryz.underlying50 err_row Tryz.underlying255 Tryz.underlying257 rfl rfl Tryz.underlying9 (by kernel_rfl) (by kernel_rfl); exact ⟨_, cell_of_var (g := 3) (by kernel_rfl) hv, Or.inr ⟨_, _, rfl⟩⟩
theorem size_of_shaped {W : World} (hs : W.ShapedOpen Tryz.prog) : Tryz.prog.globals.size ≤ W.heap.size := by
 rcases Nat.eq_zero_or_pos Tryz.prog.globals.size with h0 | h0
 ·omega
 have hb : ∀ g, g < Tryz.prog.globals.size → ∃ z t, (((begin Tryz.prog (fun _ _ => 0) default).world.heap[g]?).bind Obj.row?) = some (z, t) := by
  have : ((List.range Tryz.prog.globals.size).all fun g => ((((begin Tryz.prog (fun _ _ => 0) default).world.heap[g]?).bind Obj.row?)).isSome) = true := by kernel_rfl
  intro g hg
  have h1 := List.all_eq_true.1 this g (List.mem_range.2 hg); obtain ⟨⟨z, t⟩, hx⟩ := Option.isSome_iff_exists.1 h1; exact ⟨z, t, hx⟩
 obtain ⟨z, t, hz⟩ := hb (Tryz.prog.globals.size - 1) (by omega); obtain ⟨cs, hh, _⟩ := hs.1 _ z t (by omega) hz; have := (Array.getElem?_eq_some_iff.1 hh).1
 omega
theorem row_lifted {F : FuncId} {fn : Func} {s : ChangeSpec} {conds : List PathCond} {laid : List (String × DataW Unit)} (os : Os) (started : os.Started) (H : Type) (enc : TypeId × Value → H) (I : Stop.Interp)
  (noInit : Tryz.prog.inits.idxOf? F = none) (hfn : Tryz.prog.funcs[F]? = some fn)
  (witness : ∃ (w : World) (tape : Tape) (i : Input), w.os = os ∧ (w.forCall tape i).Shaped Tryz.checked.prog ∧ i.vars = [] ∧ Input.okWide Tryz.checked.prog (w.forCall tape i) .any w.heap.size F i ∧
    (OpenSpec.ofChange s).preRow enc Tryz.checked.prog fn conds false laid (w.forCall tape i).memory i.args ∧ Assume.holds {} Tryz.checked.prog (lone (Frame.enter Tryz.checked.prog F i.args .normal) [] (w.forCall tape i)))
  (hts : fn.params.toList.all (fun t => Tryz.prog.readableRec t && decide (t < Tryz.prog.types.size)) = true) (hr : fn.resultTypes = #[4]) (hvars : s.vars = [])
  (hspec : ∀ ds : List (DataW H), ds.length = fn.params.toList.length → s.fn H ds = { results := [.lit (.bool true)], args := ds })
  (hlp : (laid.all fun x => x.2.handleName?.isNone) = true)
  (h1 : (laid.filter fun x => x.1 == "internal/strconv.uint64pow10") = [("internal/strconv.uint64pow10", Lib.tabData .u64 Lib.pow10Tab)])
  (h2 : (laid.filter fun x => x.1 == "strconv.ErrSyntax") = [("strconv.ErrSyntax", .iface "*errors.errorString" (.ptr (.agg [.lit (.string [105, 110, 118, 97, 108, 105, 100, 32, 115, 121, 110, 116, 97, 120])])))])
  (h3 : (laid.filter fun x => x.1 == "strconv.ErrRange") = [("strconv.ErrRange", .iface "*errors.errorString" (.ptr (.agg [.lit (.string [118, 97, 108, 117, 101, 32, 111, 117, 116, 32, 111, 102, 32, 114, 97, 110, 103, 101])])))])
  (contract : ∀ (W : World) (base : Nat) (args : Array Value) (ds : List (DataW H)) (p : List MemPlace),
    (∀ (j : Nat) t v, fn.params[j]? = some t → args[j]? = some v → Value.okWide Tryz.prog W .any base t v) → args.size = fn.params.size →
    DataW.TrodAll enc Tryz.prog W 0 (fun _ => true) true fn.params.toList args.toList ds p → (∀ x ∈ p, x.block < W.heap.size) → Glob W →
    Calls Tryz.prog F args W fun e W' => e = .returned (.bool true) ∧ Below W.heap.size W W') :
  ReturnsInHanded {} Tryz.checked os F .any ((OpenSpec.ofChange s).preRow enc Tryz.prog fn conds false laid) (((OpenSpec.ofChange s).at I).post enc Tryz.prog fn false true false false) := by
 refine returnsInHanded_of_row (C := Tryz.checked) (s := OpenSpec.ofChange s) Tryz.own started noInit hfn witness ?_
 intro W base args ds gs before hval hW _ _ _ hL hsh _
 have hW' := hW; obtain ⟨p, q, hA, hV, rfl, hfz, hnd⟩ := hW; have hv0 : (OpenSpec.ofChange s).vars = [] := hvars; rw [hv0] at hV; obtain ⟨rfl, rfl⟩ := trodVars_none hV; have hlt : ∀ x ∈ p, x.block < W.heap.size := fun x hx => by simpa using hW'.lt x (by simp [hx])
 have hlen := trodAll_length hA; have hsz : args.size = fn.params.size := by simpa using hlen.1
 refine (contract W base args ds p hval hsz hA hlt (glob_of hL hsh (size_of_shaped hsh) hlp h1 h2 h3)).mono fun e W' ⟨he, hb⟩ => ?_
 subst he; have hsp := hspec ds hlen.2; refine ⟨_, rfl, ds, [], p ++ [], [], p, [], hW', ?_, ?_, ?_, ?_, fun h => by cases h⟩
 ·rw [List.append_nil]
  show DataW.TrodAll enc Tryz.prog W' _ _ _ fn.resultTypes.toList _ (s.fn H ds).results _
  rw [hsp, hr]; exact trodAll_mk1 (shut_bool Tryz.underlying4 _)
 ·rw [List.append_nil]
  show DataW.TrodAll enc Tryz.prog W' _ _ _ fn.params.toList _ (s.fn H ds).args _
  rw [hsp]; exact trodAll_below Tryz.laidOut hb hts hA hlt
 ·show DataW.TrodVars enc Tryz.prog W' _ s.vars (s.fn H (ds ++ [])).vars []
  rw [List.append_nil, hvars, hsp]
  rfl
 ·exact hb.frame _
end Tx
end Go.Proofs.YtopgllmjeliklaaGreatDoor
