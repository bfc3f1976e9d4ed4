/- Stage 5: noise. -/
import Derived.Test.YtnndhibhnakdoaaDoorY3
set_option linter.unusedSimpArgs false
set_option linter.unusedVariables false
namespace Go.Proofs.YtnndhibhnakdoaaDoor
open Go.RowKit Go.BigFrame Go.Sort
open Gf (S)

/-- A slice that came in. -/
def Sin (w : World) (A : Option Addr) (b o n c : Nat) (f : Nat → Int) : Prop := Ints w A b o n f ∧ (A = none → c = 0) ∧ n ≤ 9223372036854775807
theorem Sin.below {w w' : World} {B : Nat} {A : Option Addr} {b o n c : Nat} {f : Nat → Int} (h : Sin w A b o n c f) (hb : Below B w w') (hB : w.heap.size ≤ B) : Sin w' A b o n c f := ⟨h.1.below hb hB, h.2.1, h.2.2⟩
/-- Noise has the right sizes. -/
def noiP (n r n1 n2 n3 : Nat) (f1 f2 f3 : Nat → Int) : Prop := n3 ≤ 30 ∧ (allS n1 f1 ∧ n1 = n - r) ∧ (allS n2 f2 ∧ n2 = n) ∧ asc (n : Nat) n3 f3
set_option maxRecDepth 100000 in
set_option maxHeartbeats 8000000 in
theorem c36 (n r : Nat) (A1 : Option Addr) (b1 o1 n1 c1 : Nat) (f1 : Nat → Int) (A2 : Option Addr) (b2 o2 n2 c2 : Nat) (f2 : Nat → Int) (A3 : Option Addr) (b3 o3 n3 c3 : Nat) (f3 : Nat → Int) (w : World) (hr : r ≤ n) (hn : n ≤ 15) (h1 : Sin w A1 b1 o1 n1 c1 f1) (h2 : Sin w A2 b2 o2 n2 c2 f2) (h3 : Sin w A3 b3 o3 n3 c3 f3) :
    Calls Tryd.prog 36 #[cv n r, .agg #[.slice A1 n1 c1, .slice A2 n2 c2, .slice A3 n3 c3]] w (RetBB (noiP n r n1 n2 n3 f1 f2 f3) w) := by
  have hB0 : Hid (Below w.heap.size w (((w.alloc (.cells #[.int .i64 (n : Nat), .int .i64 (r : Nat)] 23)).alloc (.cells #[.slice A1 n1 c1, .slice A2 n2 c2, .slice A3 n3 c3] 51)))) := hid (by (repeat' (first | (with_reducible exact Below.refl _ _) | (with_reducible assumption) | (with_reducible refine Below.alloc ?_ ?_ _) | (with_reducible refine Below.drew ?_) | (with_reducible refine below_drewN ?_ _) | (with_reducible refine Below.setCell ?_ ?_ _) | (with_reducible refine Below.trans ?_ (Below.mono (by with_reducible assumption) ?_)) | go_size)))
  have h1h := hid h1.1
  have h2h := hid h2.1
  have h3h := hid h3.1
  have m1 := hid h1.2.2
  have m2 := hid h2.2.2
  have er : (n : Int) - (r : Int) = ((n - r : Nat) : Int) := by omega
  obtain ⟨k, hk⟩ : ∃ k, k = n - r := ⟨_, rfl⟩
  rw [← hk] at er
  have hkh := hid hk
  clear h1 h2 h3 hk
  by_cases q3 : n3 ≤ 30
  · have d3 : decide ((n3 : Int) ≤ 30) = true := decide_eq_true (by omega)
    have d3' : decide (n3 ≤ 30) = true := decide_eq_true q3
    by_cases q1 : allS n1 f1 ∧ (n1 : Int) = (k : Int)
    · have q1h := hid q1
      clear q1
      by_cases q2 : allS n2 f2 ∧ (n2 : Int) = (n : Int)
      · have q2h := hid q2
        clear q2
        by_cases q4 : asc (n : Nat) n3 f3
        · have q4h := hid q4
          have q3h := hid q3
          clear q4
          go_enter Tryd.func36, Tryd.ntmps36
          go_wp2_with (first | (go_at_call 37; (with_reducible refine (c37 A2 b2 o2 n2 c2 f2 (n : Nat) _ (h2h.out.below hB0.out (Nat.le_refl _)) m2.out).mono ?_); intro e w1 hr; obtain ⟨rfl, rfl⟩ := hr.un.1 q2h.out; clear hr) | (go_at_call 37; (with_reducible refine (c37 A1 b1 o1 n1 c1 f1 (k : Nat) _ (h1h.out.below hB0.out (Nat.le_refl _)) m1.out).mono ?_); intro e w1 hr; obtain ⟨rfl, rfl⟩ := hr.un.1 q1h.out; clear hr) | (go_at_call 66; refine (c66 A3 b3 o3 n3 c3 f3 n _ (h3h.out.below hB0.out (Nat.le_refl _)) (by omega) (by omega)).mono ?_; intro e w2 hr; obtain ⟨rfl, hB2⟩ := hr.un.1 q4h.out; have hB2 := hid (hB0.out.trans (hB2.mono (by simp; omega))); clear hr))
          go_returns
          exact RetBB.yes ⟨q3h.out, ⟨q1h.out.1, by have := q1h.out.2; have := hkh.out; omega⟩, ⟨q2h.out.1, by have := q2h.out.2; omega⟩, q4h.out⟩ hB2.out
        · have q4h := hid q4
          clear q4
          go_enter Tryd.func36, Tryd.ntmps36
          go_wp2_with (first | (go_at_call 37; (with_reducible refine (c37 A2 b2 o2 n2 c2 f2 (n : Nat) _ (h2h.out.below hB0.out (Nat.le_refl _)) m2.out).mono ?_); intro e w1 hr; obtain ⟨rfl, rfl⟩ := hr.un.1 q2h.out; clear hr) | (go_at_call 37; (with_reducible refine (c37 A1 b1 o1 n1 c1 f1 (k : Nat) _ (h1h.out.below hB0.out (Nat.le_refl _)) m1.out).mono ?_); intro e w1 hr; obtain ⟨rfl, rfl⟩ := hr.un.1 q1h.out; clear hr) | (go_at_call 66; refine (c66 A3 b3 o3 n3 c3 f3 n _ (h3h.out.below hB0.out (Nat.le_refl _)) (by omega) (by omega)).mono ?_; intro e w2 hr; obtain ⟨rfl, hB2⟩ := hr.un.2 q4h.out; have hB2 := hid (hB0.out.trans (hB2.mono (by simp; omega))); clear hr))
          go_returns
          exact RetBB.no (fun h => q4h.out h.2.2.2) hB2.out
      · have q2h := hid q2
        clear q2
        go_enter Tryd.func36, Tryd.ntmps36
        go_wp2_with (first | (go_at_call 37; (with_reducible refine (c37 A2 b2 o2 n2 c2 f2 (n : Nat) _ (h2h.out.below hB0.out (Nat.le_refl _)) m2.out).mono ?_); intro e w1 hr; obtain ⟨rfl, rfl⟩ := hr.un.2 q2h.out; clear hr) | (go_at_call 37; (with_reducible refine (c37 A1 b1 o1 n1 c1 f1 (k : Nat) _ (h1h.out.below hB0.out (Nat.le_refl _)) m1.out).mono ?_); intro e w1 hr; obtain ⟨rfl, rfl⟩ := hr.un.1 q1h.out; clear hr))
        go_returns
        exact RetBB.no (fun h => q2h.out ⟨h.2.2.1.1, by rw [h.2.2.1.2]⟩) hB0.out
    · have q1h := hid q1
      clear q1
      go_enter Tryd.func36, Tryd.ntmps36
      go_wp2_with (go_at_call 37; (with_reducible refine (c37 A1 b1 o1 n1 c1 f1 (k : Nat) _ (h1h.out.below hB0.out (Nat.le_refl _)) m1.out).mono ?_); intro e w1 hr; obtain ⟨rfl, rfl⟩ := hr.un.2 q1h.out; clear hr)
      go_returns
      exact RetBB.no (fun h => q1h.out ⟨h.2.1.1, by rw [h.2.1.2, hkh.out]⟩) hB0.out
  · have d3 : decide ((n3 : Int) ≤ 30) = false := decide_eq_false (by omega)
    have d3' : decide (n3 ≤ 30) = false := decide_eq_false q3
    have q3h := hid q3
    clear q3
    go_enter Tryd.func36, Tryd.ntmps36
    go_wp2_with fail
    go_returns
    exact RetBB.no (fun h => q3h.out h.1) hB0.out
end Go.Proofs.YtnndhibhnakdoaaDoor
