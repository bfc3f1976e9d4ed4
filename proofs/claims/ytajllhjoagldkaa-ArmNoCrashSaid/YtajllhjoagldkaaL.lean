/- Stage 6: Stays and Safe. -/
import Derived.Test.YtajllhjoagldkaaK
set_option linter.unusedSimpArgs false
set_option linter.unusedVariables false
namespace Go.Proofs.Ytajllhjoagldkaa
open Go.RowKit Go.Maps Go.WideMaps

/-- The states of the greatest set are handed back, in order. -/
def RetL (a : Ar) (g : Int → Int → Bool) (w : World) (e : Ending) (w' : World) : Prop := ∃ v f, e = .returned (.tuple #[v, .int .i64 0]) ∧ Gr a g f ∧ w'.ownsRow w.heap.size 25 2 v (lst f (sts a)).length (flS (lst f (sts a))) ∧ Below w.heap.size w w'
set_option maxRecDepth 100000 in
set_option maxHeartbeats 4000000 in
theorem c15 (a : Ar) (t : Nat) (w : World) (ok : a.Ok) (ht : t ≤ a.la) : Calls Try.prog 15 #[a.v, .int .i64 (t : Nat)] w (RetL a (trB a t) w) := by
  have o1 := ok.l
  obtain ⟨W0, hW0⟩ : ∃ W0 : World, W0 = w.alloc (.cells #[.int .i64 (a.la : Nat), .int .i64 (a.sp : Nat), .int .i64 (a.fo : Nat), .int .i64 (a.sh : Nat), .int .i64 (a.ga : Nat), .int .i64 (a.sl : Nat)] 23) := ⟨_, rfl⟩
  have hB0 : Hid (Below w.heap.size w W0) := hid (by rw [hW0]; (repeat' (first | (with_reducible exact Below.refl _ _) | (with_reducible assumption) | (with_reducible refine Below.alloc ?_ ?_ _) | (with_reducible refine Below.drew ?_) | (with_reducible refine below_drewN ?_ _) | (with_reducible refine Below.setCell ?_ ?_ _) | (with_reducible refine Below.trans ?_ (Below.mono (by with_reducible assumption) ?_)) | go_size)))
  have hs0 : Hid (W0.heap.size = w.heap.size + 1) := hid (by rw [hW0]; simp)
  go_enter Try.func15, Try.ntmps15
  go_wp2_with (go_at_call 43; refine (c43 a t none 0 0 0 [] _ ok ht (Sps.nil _ _ _ _) (fun k h => absurd h (Nat.not_lt_zero _)) (by decide)).mono ?_; rintro e w1 ⟨rfl, hB1⟩; rw [← hW0] at hB1; have hs1 := hB1.size; rw [hs0.out] at hs1; have hBx := hid (hB0.out.trans (hB1.mono (by rw [hs0.out]; omega))); clear hB1)
  have hB2 : Hid (Below w.heap.size w (w1.alloc (.cells #[.int .i64 (a.la : Nat), .int .i64 (a.sp : Nat), .int .i64 (a.fo : Nat), .int .i64 (a.sh : Nat), .int .i64 (a.ga : Nat), .int .i64 (a.sl : Nat)] 77))) := hid (hBx.out.alloc (by omega) _)
  have hX2 : Hid (Abx a (w1.alloc (.cells #[.int .i64 (a.la : Nat), .int .i64 (a.sp : Nat), .int .i64 (a.fo : Nat), .int .i64 (a.sh : Nat), .int .i64 (a.ga : Nat), .int .i64 (a.sl : Nat)] 77)) w1.heap.size) := hid (Abx.newk a w1)
  have hs2 : (w1.alloc (.cells #[.int .i64 (a.la : Nat), .int .i64 (a.sp : Nat), .int .i64 (a.fo : Nat), .int .i64 (a.sh : Nat), .int .i64 (a.ga : Nat), .int .i64 (a.sl : Nat)] 77)).heap.size = w1.heap.size + 1 := by simp
  generalize w1.alloc (.cells #[.int .i64 (a.la : Nat), .int .i64 (a.sp : Nat), .int .i64 (a.fo : Nat), .int .i64 (a.sh : Nat), .int .i64 (a.ga : Nat), .int .i64 (a.sl : Nat)] 77) = w2 at hB2 hX2 hs2 ⊢
  have hk0 := hid hX2.out.all
  go_region_held3 (fun w' => w'.cell? ⟨w1.heap.size, 0, none⟩ = some (.int .i64 (a.la : Nat)) ∧ w'.cell? ⟨w1.heap.size, 1, none⟩ = some (.int .i64 (a.sp : Nat)) ∧ w'.cell? ⟨w1.heap.size, 2, none⟩ = some (.int .i64 (a.fo : Nat)) ∧ w'.cell? ⟨w1.heap.size, 3, none⟩ = some (.int .i64 (a.sh : Nat)) ∧ w'.cell? ⟨w1.heap.size, 4, none⟩ = some (.int .i64 (a.ga : Nat)) ∧ w'.cell? ⟨w1.heap.size, 5, none⟩ = some (.int .i64 (a.sl : Nat))) (first | exact hk0.out | exact hk3.out | exact hk4.out) (first | (go_at_call 45; refine (c45 a t _ ok (by omega)).mono ?_; rintro e w3 ⟨b, n, f, rfl, h1, h2, h3, h4, hB3⟩; have hB03 : Below w2.heap.size w2 w3 := (Below.refl _ _).drew.trans hB3; have hk3 := hid ((show Abx a w2 w1.heap.size from hk0.out).below hB03 (by omega)).all) | (go_at_call 44; refine (c44 a b n f w3 ok h1).mono ?_; rintro e w4 ⟨v, rfl, h5, hB4⟩; have hk4 := hid ((show Abx a w3 w1.heap.size from hk3.out).below hB4 (by have := hB03.size; omega)).all))
  go_wp2_with fail
  go_returns
  have hs3 := hB03.size
  exact ⟨v, f, rfl, h3, owns_base h5 (by have := hB2.out.size; omega), hB2.out.trans ((hB03.trans (hB4.mono hs3)).mono hB2.out.size)⟩
set_option maxRecDepth 100000 in
set_option maxHeartbeats 4000000 in
theorem c22 (a : Ar) (w : World) (ok : a.Ok) : Calls Try.prog 22 #[a.v] w (RetL a (fun _ _ => true) w) := by
  have o1 := ok.l
  obtain ⟨W0, hW0⟩ : ∃ W0 : World, W0 = w.alloc (.cells #[.int .i64 (a.la : Nat), .int .i64 (a.sp : Nat), .int .i64 (a.fo : Nat), .int .i64 (a.sh : Nat), .int .i64 (a.ga : Nat), .int .i64 (a.sl : Nat)] 23) := ⟨_, rfl⟩
  have hB0 : Hid (Below w.heap.size w W0) := hid (by rw [hW0]; (repeat' (first | (with_reducible exact Below.refl _ _) | (with_reducible assumption) | (with_reducible refine Below.alloc ?_ ?_ _) | (with_reducible refine Below.drew ?_) | (with_reducible refine below_drewN ?_ _) | (with_reducible refine Below.setCell ?_ ?_ _) | (with_reducible refine Below.trans ?_ (Below.mono (by with_reducible assumption) ?_)) | go_size)))
  have hs0 : Hid (W0.heap.size = w.heap.size + 1) := hid (by rw [hW0]; simp)
  go_enter Try.func22, Try.ntmps22
  go_wp2_with (go_at_call 52; refine (c52 a _ ok).mono ?_; rintro e w1 ⟨rfl, hB1⟩; rw [← hW0] at hB1; have hs1 := hB1.size; rw [hs0.out] at hs1; have hBx := hid (hB0.out.trans (hB1.mono (by rw [hs0.out]; omega))); clear hB1)
  have hB2 : Hid (Below w.heap.size w (w1.alloc (.cells #[.int .i64 (a.la : Nat), .int .i64 (a.sp : Nat), .int .i64 (a.fo : Nat), .int .i64 (a.sh : Nat), .int .i64 (a.ga : Nat), .int .i64 (a.sl : Nat)] 77))) := hid (hBx.out.alloc (by omega) _)
  have hX2 : Hid (Abx a (w1.alloc (.cells #[.int .i64 (a.la : Nat), .int .i64 (a.sp : Nat), .int .i64 (a.fo : Nat), .int .i64 (a.sh : Nat), .int .i64 (a.ga : Nat), .int .i64 (a.sl : Nat)] 77)) w1.heap.size) := hid (Abx.newk a w1)
  have hs2 : (w1.alloc (.cells #[.int .i64 (a.la : Nat), .int .i64 (a.sp : Nat), .int .i64 (a.fo : Nat), .int .i64 (a.sh : Nat), .int .i64 (a.ga : Nat), .int .i64 (a.sl : Nat)] 77)).heap.size = w1.heap.size + 1 := by simp
  generalize w1.alloc (.cells #[.int .i64 (a.la : Nat), .int .i64 (a.sp : Nat), .int .i64 (a.fo : Nat), .int .i64 (a.sh : Nat), .int .i64 (a.ga : Nat), .int .i64 (a.sl : Nat)] 77) = w2 at hB2 hX2 hs2 ⊢
  have hk0 := hid hX2.out.all
  go_region_held3 (fun w' => w'.cell? ⟨w1.heap.size, 0, none⟩ = some (.int .i64 (a.la : Nat)) ∧ w'.cell? ⟨w1.heap.size, 1, none⟩ = some (.int .i64 (a.sp : Nat)) ∧ w'.cell? ⟨w1.heap.size, 2, none⟩ = some (.int .i64 (a.fo : Nat)) ∧ w'.cell? ⟨w1.heap.size, 3, none⟩ = some (.int .i64 (a.sh : Nat)) ∧ w'.cell? ⟨w1.heap.size, 4, none⟩ = some (.int .i64 (a.ga : Nat)) ∧ w'.cell? ⟨w1.heap.size, 5, none⟩ = some (.int .i64 (a.sl : Nat))) (first | exact hk0.out | exact hk3.out | exact hk4.out) (first | (go_at_call 53; refine (c53 a _ ok).mono ?_; rintro e w3 ⟨b, n, f, rfl, h1, h2, h3, h4, hB3⟩; have hB03 : Below w2.heap.size w2 w3 := (Below.refl _ _).drew.trans hB3; have hk3 := hid ((show Abx a w2 w1.heap.size from hk0.out).below hB03 (by omega)).all) | (go_at_call 44; refine (c44 a b n f w3 ok h1).mono ?_; rintro e w4 ⟨v, rfl, h5, hB4⟩; have hk4 := hid ((show Abx a w3 w1.heap.size from hk3.out).below hB4 (by have := hB03.size; omega)).all))
  go_wp2_with fail
  go_returns
  have hs3 := hB03.size
  exact ⟨v, f, rfl, h3, owns_base h5 (by have := hB2.out.size; omega), hB2.out.trans ((hB03.trans (hB4.mono hs3)).mono hB2.out.size)⟩
end Go.Proofs.Ytajllhjoagldkaa
