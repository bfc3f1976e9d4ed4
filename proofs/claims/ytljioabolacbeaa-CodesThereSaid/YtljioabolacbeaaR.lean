/- Stage 4: the examples come out. -/
import Derived.Test.YtljioabolacbeaaQ
set_option linter.unusedSimpArgs false
set_option linter.unusedVariables false
namespace Go.Proofs.Ytljioabolacbeaa
open Go.RowKit

/-- The example's code, laid from the block a on. -/
@[reducible] def exQ (a : Nat) : Cd := ⟨1, 2, 1, 3, some ⟨a + 3, 0, none⟩, a + 3, 0, 2, 2, fun k => ⟨some ⟨a + 1 + k, 0, none⟩, a + 1 + k, 0, 2, 2, fun j => if k = 0 then (if j = 0 then 2 else 1) else (j : Int)⟩,
  some ⟨a + 6, 0, none⟩, a + 6, 0, 2, 2, fun k => ⟨some ⟨a + 4 + k, 0, none⟩, a + 4 + k, 0, 2, 2, fun j => (j : Int)⟩⟩
theorem two {k : Nat} (h : k < 2) : k = 0 ∨ k = 1 := by omega
theorem exQ_ok (a : Nat) : (exQ a).Ok := by
  refine ⟨Nat.le_refl 1, (by show (1 : Nat) ≤ 2; decide), (by show (1 : Nat) ≤ 2; decide), (by show (2 : Nat) ≤ 5; decide), (by show (0 : Int) ≤ 3; decide), (by show (3 : Int) ≤ 12; decide), (by show (0 : Int) ≤ 1; decide), (by show (1 : Int) ≤ 3; decide), (by show (1 : Nat) ≤ 2; decide), (by show (2 : Nat) ≤ 4; decide), rfl, fun _ _ => rfl, fun _ _ => rfl, fun k hk j hj => ?_, fun k hk j hj => ?_⟩
  · rcases two hk with rfl | rfl <;> rcases two hj with rfl | rfl <;> simp [bel]
  · rcases two hk with rfl | rfl <;> rcases two hj with rfl | rfl <;> simp [bel]
theorem exQ_dist (a : Nat) : ∀ s, s < (exQ a).wn → ∀ i j, i < ((exQ a).W s).n → j < ((exQ a).W s).n → ((exQ a).W s).f i = ((exQ a).W s).f j → i = j := by
  intro s hs i j hi hj h
  rcases two hs with rfl | rfl <;> rcases two hi with rfl | rfl <;> rcases two hj with rfl | rfl <;> simp at h ⊢
def ExRet (w : World) (e : Ending) (w' : World) : Prop := e = .returned (exQ w.heap.size).v ∧ (exQ w.heap.size).In w' ∧ Below w.heap.size w w'
set_option maxRecDepth 100000 in
set_option maxHeartbeats 2000000 in
theorem c43 (w : World) : Calls Try.prog 43 #[] w (ExRet w) := by
  go_enter Try.func43, Try.ntmps43
  go_wp2_with fail
  refine bodyPost_ret (v := (exQ w.heap.size).v) (by simp [results, Try.results43, go_sem]) rfl ?_
  refine ⟨rfl, ⟨⟨fun _ _ => rfl, fun _ _ => (by show w.heap.size + 3 < _; simp), fun k hk => ?_, fun k hk => ⟨fun _ _ => rfl, fun _ _ => (by show w.heap.size + 1 + k < _; have := two hk; simp; omega), fun j hj => ?_⟩⟩, ⟨fun _ _ => rfl, fun _ _ => (by show w.heap.size + 6 < _; simp), fun k hk => ?_, fun k hk => ⟨fun _ _ => rfl, fun _ _ => (by show w.heap.size + 4 + k < _; have := two hk; simp; omega), fun j hj => ?_⟩⟩⟩, ?_⟩
  · rcases two hk with rfl | rfl <;> simp [go_sem]
  · rcases two hk with rfl | rfl <;> rcases two hj with rfl | rfl <;> simp [go_sem]
  · rcases two hk with rfl | rfl <;> simp [go_sem]
  · rcases two hk with rfl | rfl <;> rcases two hj with rfl | rfl <;> simp [go_sem]
  · (repeat' (first | (with_reducible exact Below.refl _ _) | (with_reducible assumption) | (with_reducible refine Below.alloc ?_ ?_ _) | (with_reducible refine Below.drew ?_) | (with_reducible refine below_drewN ?_ _) | (with_reducible refine Below.setCell ?_ ?_ _) | (with_reducible refine Below.trans ?_ (Below.mono (by with_reducible assumption) ?_)) | go_size))
end Go.Proofs.Ytljioabolacbeaa
