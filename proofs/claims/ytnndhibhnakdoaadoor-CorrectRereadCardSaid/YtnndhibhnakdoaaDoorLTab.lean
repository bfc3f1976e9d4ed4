/- Stage 5: the tables, as the rows lay them. -/
import Derived.Test.YtnndhibhnakdoaaDoorA
import Derived.ProofKit
import Derived.LaidMore
import Derived.OpenShut
import Derived.Stop.Joined
set_option linter.unusedSimpArgs false
set_option linter.unusedVariables false
namespace Go.Proofs.YtnndhibhnakdoaaDoor
open Go.ChangeShapes Go.WideShapes Go.ChangeAt Go.WideElems Go.RowKit

def laids : List (String × DataW Unit) := [("math/bits.deBruijn32tab", Rows.laid_math_bits_deBruijn32tab), ("math/bits.deBruijn64tab", Rows.laid_math_bits_deBruijn64tab), ("platter/correct.powers", Rows.laid_platter_correct_powers), ("platter/correct.numbers", Rows.laid_platter_correct_numbers)]
/-- The door's own heap meets the condition. -/
theorem door_met (os : Os) (args : Array Value) : laidMetH Tryd.prog laids ((World.doorLaid Tryd.prog 400 os).forCall (fun _ _ => 0) ⟨#[], args, []⟩).memory :=
  laidMetH_of_parts3 (fuel := 8) (laidMet_of_run' 8 (by kernel_rfl) (by kernel_rfl)) (by kernel_rfl) (by kernel_rfl)
theorem g32 : Tryd.prog.globalNamed "math/bits.deBruijn32tab" = some 0 := by kernel_rfl
theorem g64 : Tryd.prog.globalNamed "math/bits.deBruijn64tab" = some 1 := by kernel_rfl
theorem gnu : Tryd.prog.globalNamed "platter/correct.numbers" = some 2 := by kernel_rfl
theorem gpo : Tryd.prog.globalNamed "platter/correct.powers" = some 3 := by kernel_rfl
theorem t64 : (Tryd.prog.globals[1]?).map (·.type) = some 128 := by kernel_rfl
theorem tnu : (Tryd.prog.globals[2]?).map (·.type) = some 130 := by kernel_rfl
theorem tpo : (Tryd.prog.globals[3]?).map (·.type) = some 132 := by kernel_rfl
theorem arr_at {H : Type} {enc : TypeId × Value → H} {w : World} {base : Nat} {spare : Nat → Bool} {held : Bool} {t e : TypeId} {n fuel : Nat} {k : IntKind} (hu : Tryd.prog.underlying t = some (.array n e)) (hc : Tryd.prog.cellsOf e = 1) (he : Tryd.prog.underlying e = some (.int k))
    {cs : List Value} {L : List Int} {p : List MemPlace} (h : DataW.trod enc Tryd.prog w base spare held fuel t cs = some (.agg (L.map fun z => .lit (.int k z)), p)) : ∀ j, j < n → cs[j]? = some (.int k (L[j]?.getD 0)) := by
  intro j hj
  obtain ⟨xs, m, _, hx, _, hn, hel⟩ := DataW.trod_array hu h
  simp only [Prod.mk.injEq, DataW.agg.injEq] at hx
  have h0 := hel j hj
  rw [hc, Nat.mul_one] at h0
  have hxj : xs[j]? = some xs[j] := List.getElem?_eq_getElem (by omega)
  rw [hxj] at h0
  obtain ⟨a, e1, e2, _⟩ := DataW.trod_int he h0
  have h1 : (L.map fun z => (DataW.lit (.int k z) : DataW H))[j]? = (xs.map (·.1))[j]? := by rw [hx.1]
  rw [List.getElem?_map, List.getElem?_map, hxj] at h1
  rw [e2] at h1
  cases hL : L[j]? with
  | none => rw [hL] at h1; cases h1
  | some z =>
    rw [hL] at h1
    simp only [Option.map_some, Option.some.injEq, DataW.lit.injEq, Lit.int.injEq] at h1
    have h2 := congrArg (fun l => l[0]?) e1
    simp only [List.getElem?_take, List.getElem?_drop] at h2
    rw [if_pos (by omega), Nat.add_zero] at h2
    rw [h2, ← h1.2]
    rfl
def Lp : List Int := [1, 2, 4, 8, 3, 6, 12, 11, 5, 10, 7, 14, 15, 13, 9]
def Ln : List Int := [0, 0, 1, 4, 2, 8, 5, 10, 3, 14, 9, 7, 6, 13, 11, 12]
theorem lp_all : ∀ i : Fin 15, Lp[i.val]?.getD 0 = (((Gf.pw i.val).val : Nat) : Int) := by decide +kernel
theorem ln_all : ∀ a : Gf.S, Ln[a.val]?.getD 0 = ((Gf.nm a : Nat) : Int) := by decide +kernel
theorem ld_all : ∀ i : Fin 64, (dbl.map fun x : Nat => (x : Int))[i.val]?.getD 0 = ((dbl[i.val]! : Nat) : Int) := by decide +kernel
theorem ep : (Rows.laid_platter_correct_powers : DataW Unit) = .agg (Lp.map fun z => .lit (.int .u8 z)) := rfl
theorem en : (Rows.laid_platter_correct_numbers : DataW Unit) = .agg (Ln.map fun z => .lit (.int .i64 z)) := rfl
theorem ed : (Rows.laid_math_bits_deBruijn64tab : DataW Unit) = .agg ((dbl.map fun x : Nat => (x : Int)).map fun z => .lit (.int .u8 z)) := rfl
theorem ce3 : Tryd.prog.cellsOf 3 = 1 := by kernel_rfl
theorem ce5 : Tryd.prog.cellsOf 5 = 1 := by kernel_rfl
theorem ce76 : Tryd.prog.cellsOf 76 = 1 := by kernel_rfl
/-- What the condition gives the walks. -/
theorem tab_of {W : World} (h : laidMetH Tryd.prog laids W) : Tab W := by
  rw [MakeChecks.laidMetH_plain _ _ _ (by kernel_rfl)] at h
  obtain ⟨ps, ⟨g0, t0, cs0, f0, p0, q0, hg0, ht0, hv0, hd0, ⟨g1, t1, cs1, f1, p1, q1, hg1, ht1, hv1, hd1, ⟨g2, t2, cs2, f2, p2, q2, hg2, ht2, hv2, hd2, ⟨g3, t3, cs3, f3, p3, q3, hg3, ht3, hv3, hd3, _, _⟩, _⟩, _⟩, _⟩, _, _⟩ := h
  obtain rfl := Option.some.inj (g64.symm.trans hg1)
  obtain rfl := Option.some.inj (gpo.symm.trans hg2)
  obtain rfl := Option.some.inj (gnu.symm.trans hg3)
  obtain rfl := Option.some.inj (t64.symm.trans ht1)
  obtain rfl := Option.some.inj (tpo.symm.trans ht2)
  obtain rfl := Option.some.inj (tnu.symm.trans ht3)
  rw [ed] at hd1
  rw [ep] at hd2
  rw [en] at hd3
  have a1 := arr_at Tryd.underlying128 ce5 Tryd.underlying5 hd1
  have a2 := arr_at Tryd.underlying132 ce76 Tryd.underlying76 hd2
  have a3 := arr_at Tryd.underlying130 ce3 Tryd.underlying3 hd3
  refine ⟨fun i hi => ?_, fun a => ?_, fun i hi => ?_, ?_⟩
  · have e := a2 i hi
    rw [World.var?_cell hg2 hv2 i]
    rw [Array.getElem?_toList] at e
    rw [e, lp_all ⟨i, hi⟩]
  · have e := a3 a.val a.isLt
    rw [World.var?_cell hg3 hv3 a.val]
    rw [Array.getElem?_toList] at e
    rw [e, ln_all a]
  · have e := a1 i hi
    rw [World.var?_cell hg1 hv1 i]
    rw [Array.getElem?_toList] at e
    rw [e, ld_all ⟨i, hi⟩]
  · have e := a2 0 (by decide)
    rw [Array.getElem?_toList, ← World.var?_cell hg2 hv2 0] at e
    exact World.block_lt_of_cell? W _ e
end Go.Proofs.YtnndhibhnakdoaaDoor
