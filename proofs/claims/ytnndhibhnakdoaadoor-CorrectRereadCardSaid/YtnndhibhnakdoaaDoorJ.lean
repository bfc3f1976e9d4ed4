/- Stage 5: two lists of positions as one. -/
import Derived.Test.YtnndhibhnakdoaaDoorI
import Derived.Lib.Walk
import Derived.Lib.AppendZerosOnto
set_option linter.unusedSimpArgs false
set_option linter.unusedVariables false
namespace Go.Proofs.YtnndhibhnakdoaaDoor
open Go.RowKit Go.BigFrame Go.Sort
open Gf (S)

theorem nums_li (p : Nat → Nat) (m : Nat) : nums (li p m) = vals m (fun k => (p k : Nat)) := by
  unfold nums vals li
  rw [List.map_map]
  rfl
set_option maxRecDepth 100000 in
set_option maxHeartbeats 2000000 in
theorem c113 (n : Nat) (w : World) (hn : n ≤ 1000) :
    Calls Tryd.prog 113 #[.slice none 0 0, .int .i64 (n : Nat)] w fun e w' => ∃ v, e = .returned v ∧ w'.ownsRow w.heap.size 3 1 v 0 [] ∧ Below w.heap.size w w' := by
  obtain ⟨i0, ie0, ie1, ie2, ie3⟩ := info_parts Tryd.info3
  by_cases h0 : n = 0
  · subst h0
    go_enter Tryd.func113, Tryd.ntmps113
    go_wp2_with fail
    go_returns
    exact ⟨_, rfl, World.ownsRow_nil _ _ _ _, Below.refl _ _⟩
  · have hpos : 0 < n := by omega
    clear h0
    have hold : (Builtin.firstCells i0.size 0 (.slice none 0 0)).run Tryd.prog w.drew = .ok [].toArray w.drew := run_firstCells_none w.drew i0.size 0 0 0
    have hrz : ∀ ty, (Builtin.append_ #[24, 3] ty #[.slice none 0 0, .int .i64 (n : Nat)]).run Tryd.prog w =
      .ok (.slice (some ⟨w.heap.size, 0, none⟩) n (grownCap w n 0 3)) (w.drew.alloc (.cells ([].toArray ++ Builtin.zeroCells (Value.int .i64 0).cells n ++ Builtin.zeroCells (Value.int .i64 0).cells (grownCap w n 0 3 - n)) 3)) := fun ty => by
      have h := Lib.run_append_grow_zeros w 24 3 ty 3 i0 (.int .i64 0) .i64 .i64 Tryd.underlying24 Tryd.underlying3 ie0 ie1 none 0 0 [] hold n (by omega) (by omega) (by omega) (by omega) (by rw [ie3]; omega) (by rw [Nat.zero_add]; exact growslice_fits (by omega) (by rw [ie3]; omega))
      simpa using h
    have hGn : n ≤ grownCap w n 0 3 := grownCap_ge w _ _ _
    obtain ⟨G, hG⟩ : ∃ G, G = grownCap w n 0 3 := ⟨_, rfl⟩
    have hG63 : G ≤ maxLen := by
      rw [hG]
      exact grownCap_le_maxLen w n 0 3 (by unfold maxLen; omega)
    rw [← hG] at hrz hGn
    clear hold hG
    go_enter Tryd.func113, Tryd.ntmps113
    go_wp2_with (at_builtin; refine Lib.wpList_append_run _ rfl _ _ _ _ rfl _ _ rfl rfl _ _ (hrz _) ?_)
    go_returns
    refine ⟨_, rfl, ⟨by simp, .inr ⟨w.heap.size, G, _, rfl, Nat.le_refl _, heap_new w.drew _, Nat.zero_le _, hG63, ?_, by simp⟩⟩, by (repeat' (first | (with_reducible exact Below.refl _ _) | (with_reducible assumption) | (with_reducible refine Below.alloc ?_ ?_ _) | (with_reducible refine Below.drew ?_) | (with_reducible refine below_drewN ?_ _) | (with_reducible refine Below.setCell ?_ ?_ _) | (with_reducible refine Below.trans ?_ (Below.mono (by with_reducible assumption) ?_)) | go_size))⟩
    simp [Builtin.zeroCells, Value.cells]
    omega
/-- How much the first k rows hold. -/
def szk (a b : Nat) : Nat → Nat
  | 0 => 0
  | 1 => a
  | _ => a + b
/-- What the first k rows hold. -/
def lsk (a b : List Nat) : Nat → List Nat
  | 0 => []
  | 1 => a
  | _ => a ++ b
set_option maxRecDepth 100000 in
set_option maxHeartbeats 4000000 in
theorem c93 (B : Nat) (A1 A2 : Option Addr) (b1 o1 m1 k1 b2 o2 m2 k2 : Nat) (p1 p2 : Nat → Nat) (w : World) (h0 : w.cell? ⟨B, 0, none⟩ = some (.slice A1 m1 k1)) (h1 : w.cell? ⟨B, 1, none⟩ = some (.slice A2 m2 k2)) (hBw : B < w.heap.size)
    (z1 : Ints w A1 b1 o1 m1 (fun k => (p1 k : Nat))) (z2 : Ints w A2 b2 o2 m2 (fun k => (p2 k : Nat))) (n1 : A1 = none → k1 = 0) (n2 : A2 = none → k2 = 0) (l1 : m1 ≤ 100) (l2 : m2 ≤ 100) :
    Calls Tryd.prog 93 #[.slice (some ⟨B, 0, none⟩) 2 2] w fun e w' => ∃ v, e = .returned v ∧ w'.ownsRow w.heap.size 3 1 v (m1 + m2) (nums (li p1 m1 ++ li p2 m2)) ∧ Below w.heap.size w w' := by
  obtain ⟨i0, ie0, ie1, ie2, ie3⟩ := info_parts Tryd.info3
  have z1h := hid z1
  have z2h := hid z2
  have n1h := hid n1
  have n2h := hid n2
  have h0h := hid h0
  have h1h := hid h1
  have x1 : Hid (A1 = none → m1 = 0 ∧ k1 = 0) := hid (fun e => ⟨z1.nil_ e, n1 e⟩)
  have x2 : Hid (A2 = none → m2 = 0 ∧ k2 = 0) := hid (fun e => ⟨z2.nil_ e, n2 e⟩)
  clear z1 z2 n1 n2
  go_enter Tryd.func93, Tryd.ntmps93
  go_wp2_with fail
  go_loop [3, 11] (fun sl iv => ∃ k : Nat, k ≤ 2 ∧ iv = .int .i64 k ∧ sl = .int .i64 (szk m1 m2 k : Nat)) (fun _ iv => 2 - (intOf iv).toNat)
  case atStart => exact ⟨0, by omega, rfl, rfl⟩
  case round =>
    obtain ⟨k, hk, rfl, rfl⟩ := hrel
    rcases (show k = 0 ∨ k = 1 ∨ k = 2 by omega) with rfl | rfl | rfl
    · rw [show szk m1 m2 0 = 0 from rfl]
      go_wp2_with fail
      go_round
      case rel => exact ⟨1, by omega, by go_num, by rw [show szk m1 m2 1 = m1 from rfl]⟩
      case measure => simp [intOf]
    · rw [show szk m1 m2 1 = m1 from rfl]
      go_wp2_with fail
      go_round
      case rel => exact ⟨2, by omega, by go_num, by rw [show szk m1 m2 2 = m1 + m2 from rfl]; go_num⟩
      case measure => simp [intOf]
    · rw [show szk m1 m2 2 = m1 + m2 from rfl]
      clear h0 h1
      go_wp2_with (go_at_call 113; refine (c113 (m1 + m2) _ (by omega)).mono ?_; rintro e w1 ⟨v, rfl, hown, hB⟩; have hown1 := hid hown; have hB1 := hid hB; clear hown hB)
      go_loopw [6, 27] (fun v iv wr => ∃ k : Nat, k ≤ 2 ∧ iv = .int .i64 k ∧ wr.ownsRow w.heap.size 3 1 v (szk m1 m2 k) (nums (lsk (li p1 m1) (li p2 m2) k)) ∧ Below w.heap.size w wr) (fun _ iv _ => 2 - (intOf iv).toNat)
      case atStart => exact ⟨0, by omega, rfl, hown1.out, hB1.out⟩
      case round =>
        clear hB1 hown1
        obtain ⟨k, hk, rfl, hown, hB⟩ := hrel
        rcases (show k = 0 ∨ k = 1 ∨ k = 2 by omega) with rfl | rfl | rfl
        · have g0 := (hB.cell (p := ⟨B, 0, none⟩) hBw).trans h0h.out
          have hoh : Hid (wr.ownsRow w.heap.size 3 1 u6 0 []) := hid hown
          have hBh := hid hB
          clear hown hB
          go_wp2_with (at_builtin; go_loud (refine app_src rfl (.tmp 31) (.tmp 32) 24 rfl w.heap.size 3 i0 (.int .i64 0) 1 8 Tryd.underlying24 ie0 ie1 ie2 ie3 rfl (by decide) _ _ _ rfl hoh.out A1 m1 k1 (vals m1 (fun k => (p1 k : Nat))) rfl x1.out (by rw [vals_len, Nat.mul_one]) (Ints.cells (z1h.out.below hBh.out (Nat.le_refl _))) (vals_one _ _) (by unfold maxLen; omega) (by omega) hBh.out.size ?_); intro v7 w7 hown7 hgr7 hn7; have hB7 : Below w.heap.size w w7 := hBh.out.grown hgr7 hBh.out.size (fun q e => (hoh.out.lt q e).1); have hown7h := hid hown7; clear hown7 hgr7 hn7)
          go_roundw
          case rel =>
            refine ⟨1, by omega, by go_num, ?_, hB7⟩
            have := hown7h.out
            rw [List.nil_append, ← nums_li, Nat.zero_add] at this
            exact this
          case measure => simp [intOf]
        · have g1 := (hB.cell (p := ⟨B, 1, none⟩) hBw).trans h1h.out
          have hoh : Hid (wr.ownsRow w.heap.size 3 1 u6 m1 (nums (li p1 m1))) := hid hown
          have hBh := hid hB
          clear hown hB
          go_wp2_with (at_builtin; go_loud (refine app_src rfl (.tmp 31) (.tmp 32) 24 rfl w.heap.size 3 i0 (.int .i64 0) 1 8 Tryd.underlying24 ie0 ie1 ie2 ie3 rfl (by decide) _ _ _ rfl hoh.out A2 m2 k2 (vals m2 (fun k => (p2 k : Nat))) rfl x2.out (by rw [vals_len, Nat.mul_one]) (Ints.cells (z2h.out.below hBh.out (Nat.le_refl _))) (vals_one _ _) (by unfold maxLen; omega) (by omega) hBh.out.size ?_); intro v7 w7 hown7 hgr7 hn7; have hB7 : Below w.heap.size w w7 := hBh.out.grown hgr7 hBh.out.size (fun q e => (hoh.out.lt q e).1); have hown7h := hid hown7; clear hown7 hgr7 hn7)
          go_roundw
          case rel =>
            refine ⟨2, by omega, by go_num, ?_, hB7⟩
            have := hown7h.out
            rw [← nums_li] at this
            show World.ownsRow _ _ _ _ _ (m1 + m2) (nums (li p1 m1 ++ li p2 m2))
            rw [show nums (li p1 m1 ++ li p2 m2) = nums (li p1 m1) ++ nums (li p2 m2) by simp [nums]]
            exact this
          case measure => simp [intOf]
        · go_wp2_with fail
          go_returns
          exact ⟨_, rfl, hown, hB⟩
end Go.Proofs.YtnndhibhnakdoaaDoor
