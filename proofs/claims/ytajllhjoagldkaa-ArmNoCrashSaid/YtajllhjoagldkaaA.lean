/- Stage 6: states as keys of a map; a set of states and numbers of states in a map that the call has made; the smallest functions. -/
import Derived.Test.YtajllhjoagldkaaRows
import Derived.WalkKit
import Derived.WalkSpells
import Derived.WalkLawsBesides
import Derived.BigQuiet
import Derived.Handy
import Derived.IntWalk
import Derived.Deep.QuietTactic
import Derived.Laws.AppendOwnNone
import Derived.Deep.OwnRows
import Derived.Maps.OwnSet
import Derived.Maps.OwnOps
import Derived.DeepKeys4
import Derived.WideKeyPair
set_option linter.unusedSimpArgs false
set_option linter.unusedVariables false
namespace Go.Proofs.Ytajllhjoagldkaa
open Go.RowKit Go.Maps Go.WideMaps

theorem hid {p : Prop} (h : p) : Hid p := h

theorem bcell {W w1 : World} {B : Nat} (hb : Below B W w1) : (∀ b o, b < B → w1.cell? ⟨b, o, none⟩ = W.cell? ⟨b, o, none⟩) ∧ (∀ b o, b < B → w1.frozen? ⟨b, o, none⟩ = W.frozen? ⟨b, o, none⟩) :=
  ⟨fun b o h => hb.cell (p := ⟨b, o, none⟩) h, fun b o h => hb.frozen (p := ⟨b, o, none⟩) h⟩
theorem heap_new (w : World) (o : Obj) : (w.alloc o).heap[w.heap.size]? = some o := by show (w.heap.push o)[w.heap.size]? = _; simp

theorem laidOut' : laidOutB Try.prog = true := by kernel_rfl
theorem row25 : (25 : TypeId) < Try.prog.types.size := of_decide_eq_true (by kernel_rfl)
theorem wide25 : (match Try.prog.underlying 25 with | some (.array _ _) | some (.struct _) => true | _ => false) = true := by rw [Try.underlying25]
set_option maxRecDepth 1000000 in
theorem law25 : Keyed Try.prog 25 := Keyed.of_law (deep_law_laid laidOut' (m := 2) (by omega) row25 (by kernel_rfl) wide25)
set_option maxRecDepth 1000000 in
theorem tiled25 : Try.prog.tiled 2 25 = true := tiled_of_laidOut laidOut' 2 25 (by have := row25; simp only [isVar, Bool.and_eq_true, decide_eq_true_eq]; exact ⟨row25, by rw [Try.underlying25]; rfl⟩) (by kernel_rfl)
/-- A number that is small. -/
def Sm (x : Int) : Prop := -100000 ≤ x ∧ x ≤ 100000
theorem wfs {a : Int} (h : Sm a) : (Lit.int .i64 a).wf = true := by
  obtain ⟨h1, h2⟩ := h
  simp only [Lit.wf, Bool.and_eq_true, decide_eq_true_eq]
  have h1 : IntKind.i64.min = -9223372036854775808 := rfl
  have h2 : IntKind.i64.max = 9223372036854775807 := rfl
  omega
/-- A state's key. -/
def kS (p v : Int) : Lit := .string (keyBytes [.int .i64 p, .int .i64 v])
set_option maxRecDepth 1000000 in
theorem kt25 : Try.prog.keyType 25 = true := by kernel_rfl
set_option maxRecDepth 1000000 in
theorem cells25 : Try.prog.cellsOf 25 = 2 := by kernel_rfl
set_option maxRecDepth 1000000 in
theorem cells3 : Try.prog.cellsOf 3 = 1 := by kernel_rfl
set_option maxRecDepth 1000000 in
theorem key_kS {p v : Int} (hp : Sm p) (hv : Sm v) : keyOf Try.prog 25 (.agg #[.int .i64 p, .int .i64 v]) = some (kS p v) := by
  have hm : ∃ m, Try.prog.types.size = m + 1 := ⟨Try.prog.types.size - 1, (Nat.sub_add_cancel (Nat.lt_of_le_of_lt (Nat.zero_le _) row25)).symm⟩
  obtain ⟨m, hm⟩ := hm
  have wp := wfs hp
  have wv := wfs hv
  unfold keyOf
  simp only [Try.underlying25]
  rw [if_pos (by simp [kt25, Value.formed, Try.underlying25, cells25])]
  rw [hm]
  unfold Program.keyLits
  simp only [Try.underlying25, Value.cells]
  simp [Program.keyLits, Try.underlying3, wp, wv, cells25, cells3, kS, List.mapM_cons, List.mapM_nil]
set_option maxRecDepth 1000000 in
theorem kS_inj {p v p' v' : Int} (hp : Sm p) (hv : Sm v) (hp' : Sm p') (hv' : Sm v') (h : kS p v = kS p' v') : p = p' ∧ v = v' := by
  have h1 : (Value.agg #[.int .i64 p, .int .i64 v]) = .agg #[.int .i64 p', .int .i64 v'] := keyOf_inj_deep tiled25 wide25 (key_kS hp hv) ((key_kS hp' hv').trans (by rw [h]))
  simpa using h1
end Go.Proofs.Ytajllhjoagldkaa
