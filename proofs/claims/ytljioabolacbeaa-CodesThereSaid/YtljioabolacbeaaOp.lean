/- Stage 4: numbers, as a call is handed them. -/
import Derived.Test.YtljioabolacbeaaA
import Derived.ProofKit
import Derived.Deep.Slices
import Derived.Deep.Fields
import Derived.ChangeSame
import Derived.Lib.SmallJoins
set_option linter.unusedSimpArgs false
set_option linter.unusedVariables false
namespace Go.Proofs.Ytljioabolacbeaa
open Go.ChangeShapes Go.WideShapes Go.ChangeAt Go.RowKit Go.Deep Go.Joins

section
variable {H : Type} {enc : TypeId × Value → H} {w : World} {base : Nat} {spare : Nat → Bool} {held : Bool}

theorem k3 : Try.prog.cellsOf 3 = 1 := by kernel_rfl
theorem k25 : Try.prog.cellsOf 25 = 1 := by kernel_rfl
theorem one_int {fuel : Nat} {c : Value} {y : DataW H × List MemPlace} (h : DataW.trod enc Try.prog w base spare held fuel 3 [c] = some y) : ∃ a : Int, c = .int .i64 a := by
  obtain ⟨a, e, _, _⟩ := DataW.trod_int Try.underlying3 h
  cases e
  exact ⟨a, rfl⟩
theorem addr_spot {a : Addr} {v : Value} (h : w.cell? (a.add 0) = some v) : a.spot = none := by
  have := World.cell?_spot h
  simpa [Addr.add] using this
theorem addr_lt {a : Addr} {v : Value} (h : w.cell? (a.add 0) = some v) : a.block < w.heap.size := by
  have := World.block_lt_of_cell? w _ h
  simpa [Addr.add] using this
theorem addr_at {a : Addr} (hs : a.spot = none) (i : Nat) : a.add i = ⟨a.block, a.off + i, none⟩ := by
  unfold Addr.add
  split
  · rename_i h0
    rw [h0]
    cases a
    simp only at hs
    rw [hs]
    rfl
  · rfl
set_option maxRecDepth 100000 in
/-- A slice of numbers that came in. -/
theorem in_ints {fuel : Nat} {c : Value} {x : DataW H × List MemPlace} (h : DataW.trod enc Try.prog w base spare held fuel 25 [c] = some x) :
    ∃ (A : Option Addr) (b o n k : Nat) (f : Nat → Int), c = .slice A n k ∧ Ints w A b o n f ∧ (A = none → k = 0) := by
  rcases open_slice Try.underlying25 h with ⟨hc, _⟩ | ⟨a, len, cap, m, n, D, Pl, hc, hb, hl, hcap, hm, _, hi⟩
  · cases hc
    exact ⟨none, 0, 0, 0, 0, fun _ => 0, rfl, ⟨fun k hk => absurd hk (Nat.not_lt_zero _), fun k hk => absurd hk (Nat.not_lt_zero _), fun k hk => absurd hk (Nat.not_lt_zero _)⟩, fun _ => rfl⟩
  · cases hc
    have hlm : len ≤ m := by rw [hm]; split <;> omega
    have key : ∀ i, ∃ z : Int, i < len → w.cell? (a.add i) = some (.int .i64 z) := by
      intro i
      by_cases hil : i < len
      · obtain ⟨cs', hcs, ht⟩ := hi i (by omega)
        rw [k3, Nat.mul_one] at hcs
        obtain ⟨_, hlen, hat⟩ := World.cells?_some hcs
        match cs', hlen with
        | [c0], _ =>
          obtain ⟨u, rfl⟩ := one_int ht
          exact ⟨u, fun _ => by simpa [Addr.add] using hat 0 (by omega)⟩
      · exact ⟨0, fun h => absurd h hil⟩
    obtain ⟨f, hf⟩ := Classical.axiomOfChoice key
    refine ⟨some a, a.block, a.off, len, cap, f, rfl, ⟨fun k hk => ?_, fun k hk => addr_lt (hf 0 (by omega)), fun k hk => ?_⟩, fun h => by cases h⟩
    · have hs := addr_spot (hf 0 (by omega))
      cases a
      simp only at hs
      rw [hs]
    · have hs := addr_spot (hf 0 (by omega))
      rw [← addr_at hs]
      exact hf k hk
set_option maxRecDepth 100000 in
theorem open_path {r : Reach} {b0 : Nat} {v : Value} {d : DataW H} {p : List MemPlace} (hv : Value.okWide Try.prog w r b0 25 v) (h : DataW.Trod enc Try.prog w base spare held 25 v d p) :
    ∃ (A : Option Addr) (b o n k : Nat) (f : Nat → Int), v = .slice A n k ∧ Ints w A b o n f ∧ (A = none → k = 0) := by
  obtain ⟨a, len, cap, rfl⟩ := okWide_slice Try.underlying25 hv
  obtain ⟨fuel, hf⟩ := h
  exact in_ints (show DataW.trod enc Try.prog w base spare held fuel 25 [.slice a len cap] = some (d, p) from hf)
end
end Go.Proofs.Ytljioabolacbeaa
