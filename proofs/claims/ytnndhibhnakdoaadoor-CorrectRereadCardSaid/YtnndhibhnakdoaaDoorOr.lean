/- Stage 5: a list of words, as a call is handed it. -/
import Derived.Test.YtnndhibhnakdoaaDoorOp
import Derived.Test.YtnndhibhnakdoaaDoorAE
set_option linter.unusedSimpArgs false
set_option linter.unusedVariables false
namespace Go.Proofs.YtnndhibhnakdoaaDoor
open Go.ChangeShapes Go.WideShapes Go.ChangeAt Go.RowKit Go.Deep Go.Joins
section
variable {H : Type} {enc : TypeId × Value → H} {w : World} {base : Nat} {spare : Nat → Bool} {held : Bool}
set_option maxRecDepth 100000 in
theorem in_rows {fuel : Nat} {c : Value} {x : DataW H × List MemPlace} (h : DataW.trod enc Tryd.prog w base spare held fuel 47 [c] = some x) :
    ∃ (A : Option Addr) (b o n k : Nat), c = .slice A n k ∧ Mtx w A b o n := by
  rcases open_slice Tryd.underlying47 h with ⟨hc, _⟩ | ⟨a, len, cap, m, n, D, Pl, hc, hb, hl, hcap, hm, _, hi⟩
  · cases hc
    exact ⟨none, 0, 0, 0, 0, rfl, ⟨fun k hk => absurd hk (Nat.not_lt_zero _), fun k hk => absurd hk (Nat.not_lt_zero _), fun k hk => absurd hk (Nat.not_lt_zero _)⟩⟩
  · cases hc
    have hlm : len ≤ m := by rw [hm]; split <;> omega
    have key : ∀ i, i < len → ∃ (A' : Option Addr) (b' o' n' c' : Nat) (f : Nat → Int), w.cell? (a.add i) = some (.slice A' n' c') ∧ Sin w A' b' o' n' c' f := by
      intro i hil
      obtain ⟨cs', hcs, ht⟩ := hi i (by omega)
      rw [k24, Nat.mul_one] at hcs
      obtain ⟨_, hlen, hat⟩ := World.cells?_some hcs
      match cs', hlen with
      | [c0], _ =>
        obtain ⟨A', b', o', n', k', f, rfl, hz, hk, hn⟩ := in_ints ht
        exact ⟨A', b', o', n', k', f, by simpa [Addr.add] using hat 0 (by omega), hz, hk, hn⟩
    refine ⟨some a, a.block, a.off, len, cap, rfl, ⟨fun k hk => ?_, fun k hk => ?_, fun k hk => ?_⟩⟩
    · obtain ⟨_, _, _, _, _, _, h0, _⟩ := key 0 (by omega)
      have hs := addr_spot h0
      cases a
      simp only at hs
      rw [hs]
    · obtain ⟨_, _, _, _, _, _, h0, _⟩ := key 0 (by omega)
      exact addr_lt h0
    · obtain ⟨_, _, _, _, _, _, h0, _⟩ := key 0 (by omega)
      have hs := addr_spot h0
      rw [← addr_at hs]
      exact key k hk
set_option maxRecDepth 100000 in
theorem open_rows {r : Reach} {b0 : Nat} {v : Value} {d : DataW H} {p : List MemPlace} (hv : Value.okWide Tryd.prog w r b0 47 v) (h : DataW.Trod enc Tryd.prog w base spare held 47 v d p) :
    ∃ (A : Option Addr) (b o n k : Nat), v = .slice A n k ∧ Mtx w A b o n := by
  obtain ⟨a, len, cap, rfl⟩ := okWide_slice Tryd.underlying47 hv
  obtain ⟨fuel, hf⟩ := h
  exact in_rows (show DataW.trod enc Tryd.prog w base spare held fuel 47 [.slice a len cap] = some (d, p) from hf)
end
end Go.Proofs.YtnndhibhnakdoaaDoor
