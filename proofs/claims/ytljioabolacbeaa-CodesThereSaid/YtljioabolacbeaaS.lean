/- Stage 4: the examples come out. -/
import Derived.Test.YtljioabolacbeaaR
set_option linter.unusedSimpArgs false
set_option linter.unusedVariables false
namespace Go.Proofs.Ytljioabolacbeaa
open Go.RowKit

theorem ints_new (w : World) (cs : Array Value) (n : Nat) (f : Nat → Int) (h : ∀ k, k < n → cs[k]? = some (.int .i64 (f k))) : Ints (w.alloc (.cells cs 3)) (some ⟨w.heap.size, 0, none⟩) w.heap.size 0 n f :=
  ⟨fun _ _ => rfl, fun _ _ => by simp, fun k hk => by rw [Nat.zero_add, cell_of_row _ _ _ cs 3 (0, 0) (heap_new _ _)]; exact h k hk⟩
def dE (k : Nat) : Int := if k = 1 then 0 else 1
def eE (k : Nat) : Int := if k = 1 ∨ k = 5 then 1 else 0
def fE (k : Nat) : Int := if k = 0 ∨ k = 5 then 1 else 0
def gE (k : Nat) : Int := if k = 1 ∨ k = 6 ∨ k = 8 then 1 else 0
def lE (k : Nat) : Int := if k = 0 then 1 else 3
theorem smE (a : Nat) : ∀ i, i < 6 → sm (exQ a) 0 dE i = eE i := by
  intro i hi
  rcases (show i = 0 ∨ i = 1 ∨ i = 2 ∨ i = 3 ∨ i = 4 ∨ i = 5 by omega) with rfl | rfl | rfl | rfl | rfl | rfl <;> simp [sm, mdN, stN, bt, dE, eE]
theorem stE (a : Nat) : stN (exQ a) 0 dE 3 = 1 := rfl
theorem plE : plc 6 2 fE gE 4 = [1, 3] := by decide
theorem aE (n : Nat) (f : Nat → Int) (h : ∀ k, f k = 0 ∨ f k = 1) : allB 2 n f := fun k _ => by unfold bel; have := h k; omega
theorem dE01 (k : Nat) : dE k = 0 ∨ dE k = 1 := by unfold dE; split <;> simp
theorem dEB (a : Nat) : allB (2 ^ (exQ a).B : Nat) 3 dE := fun k _ => by
  have := dE01 k
  show bel ((2 ^ 1 : Nat) : Int) (dE k)
  unfold bel
  omega
theorem fE01 (k : Nat) : fE k = 0 ∨ fE k = 1 := by unfold fE; split <;> simp
theorem gE01 (k : Nat) : gE k = 0 ∨ gE k = 1 := by unfold gE; split <;> simp
theorem new3 (w : World) : Ints (w.alloc (.cells #[.int .i64 1, .int .i64 0, .int .i64 1] 3)) (some ⟨w.heap.size, 0, none⟩) w.heap.size 0 3 dE := ints_new w _ 3 dE (fun k hk => by rcases (show k = 0 ∨ k = 1 ∨ k = 2 by omega) with rfl | rfl | rfl <;> rfl)
theorem new6 (w : World) : Ints (w.alloc (.cells #[.int .i64 1, .int .i64 0, .int .i64 0, .int .i64 0, .int .i64 0, .int .i64 1] 3)) (some ⟨w.heap.size, 0, none⟩) w.heap.size 0 6 fE := ints_new w _ 6 fE (fun k hk => by rcases (show k = 0 ∨ k = 1 ∨ k = 2 ∨ k = 3 ∨ k = 4 ∨ k = 5 by omega) with rfl | rfl | rfl | rfl | rfl | rfl <;> rfl)
theorem newe (w : World) : Ints (w.alloc (.cells #[.int .i64 0, .int .i64 1, .int .i64 0, .int .i64 0, .int .i64 0, .int .i64 1] 3)) (some ⟨w.heap.size, 0, none⟩) w.heap.size 0 6 eE := ints_new w _ 6 eE (fun k hk => by rcases (show k = 0 ∨ k = 1 ∨ k = 2 ∨ k = 3 ∨ k = 4 ∨ k = 5 by omega) with rfl | rfl | rfl | rfl | rfl | rfl <;> rfl)
theorem new9 (w : World) : Ints (w.alloc (.cells #[.int .i64 0, .int .i64 1, .int .i64 0, .int .i64 0, .int .i64 0, .int .i64 0, .int .i64 1, .int .i64 0, .int .i64 1] 3)) (some ⟨w.heap.size, 0, none⟩) w.heap.size 0 9 gE := ints_new w _ 9 gE (fun k hk => by rcases (show k = 0 ∨ k = 1 ∨ k = 2 ∨ k = 3 ∨ k = 4 ∨ k = 5 ∨ k = 6 ∨ k = 7 ∨ k = 8 by omega) with rfl | rfl | rfl | rfl | rfl | rfl | rfl | rfl | rfl <;> rfl)
theorem new69 (w : World) : Ints ((w.alloc (.cells #[.int .i64 1, .int .i64 0, .int .i64 0, .int .i64 0, .int .i64 0, .int .i64 1] 3)).alloc (.cells #[.int .i64 0, .int .i64 1, .int .i64 0, .int .i64 0, .int .i64 0, .int .i64 0, .int .i64 1, .int .i64 0, .int .i64 1] 3)) (some ⟨w.heap.size + 1, 0, none⟩) (w.heap.size + 1) 0 9 gE := by
  have := new9 (w.alloc (.cells #[.int .i64 1, .int .i64 0, .int .i64 0, .int .i64 0, .int .i64 0, .int .i64 1] 3))
  rw [World.size_alloc] at this
  exact this
theorem newl (w : World) : Ints (w.alloc (.cells #[.int .i64 1, .int .i64 3] 3)) (some ⟨w.heap.size, 0, none⟩) w.heap.size 0 2 lE := ints_new w _ 2 lE (fun k hk => by rcases (show k = 0 ∨ k = 1 by omega) with rfl | rfl <;> rfl)
theorem nums_lE : nums [1, 3] = vals 2 lE := rfl
theorem below_one {w w' : World} {o : Obj} (h : Below (w.alloc o).heap.size (w.alloc o) w') : Below w.heap.size w w' :=
  Below.trans ((Below.refl w.heap.size w).alloc (Nat.le_refl _) o) (h.mono (by simp))
theorem below_two {w w' : World} {o o' : Obj} (h : Below ((w.alloc o).alloc o').heap.size ((w.alloc o).alloc o') w') : Below w.heap.size w w' :=
  below_one ((below_one h))
set_option maxRecDepth 100000 in
set_option maxHeartbeats 8000000 in
theorem c14 : Works := by
  intro w
  go_enter Try.func14, Try.ntmps14
  go_wp2_with (first | (go_at_call 43; refine (c43 w2).mono ?_; rintro e w3 ⟨rfl, hq3, hB3⟩; have hq3h := hid hq3; have hB3h := hid hB3; clear hq3 hB3) | (go_at_call 43; refine (c43 w).mono ?_; rintro e w1 ⟨rfl, hq, hB1⟩; have hqh := hid hq; have hB1h := hid hB1; clear hq hB1) | (go_at_call 16; refine (c16y (exQ w.heap.size) 0 (some ⟨w1.heap.size, 0, none⟩) w1.heap.size 0 3 3 dE _ (hqh.out.below ((Below.refl _ _).alloc (Nat.le_refl _) _) (Nat.le_refl _)) (exQ_ok _) (show (0 : Nat) < 2 by decide) (new3 w1) (by decide) (dEB w.heap.size)).mono ?_; rw [stE]; rintro e w2 ⟨v2, rfl, hown2, hB2⟩; obtain ⟨A2, g2, c2, rfl, hz2⟩ := own_ints (n := 6) (f := sm (exQ w.heap.size) 0 dE) hown2; have hz2h := hid (hz2.congr (smE w.heap.size)); have hB02 := hid (Below.trans (hB1h.out.alloc hB1h.out.size (.cells #[.int .i64 1, .int .i64 0, .int .i64 1] 3)) (hB2.mono (by simp; exact Nat.le_succ_of_le hB1h.out.size))); clear hown2 hz2 hB2) | (go_at_call 19; refine (c19e (exQ w2.heap.size) w3 hq3h.out (exQ_ok _) (exQ_dist _)).mono ?_; rintro e w4 ⟨rfl, hB4⟩; have hB24 := hid (hB3h.out.trans (hB4.mono hB3h.out.size)); clear hB4) | (go_at_call 27; refine (c27y (some ⟨w4.heap.size, 0, none⟩) w4.heap.size 0 6 6 (w4.heap.size + 1) 0 9 9 fE gE 2 _ ((new6 w4).below ((Below.refl _ _).alloc (Nat.le_refl _) _) (Nat.le_refl _)) (new69 w4) (by decide) ⟨by decide, by decide, aE _ _ fE01⟩ (by decide) (aE _ _ gE01) (by decide)).mono ?_; rintro e w5 ⟨v5, rfl, hown5, hB5⟩; rw [show plc 6 2 fE gE (9 + 1 - 6) = [1, 3] from plE, nums_lE] at hown5; obtain ⟨A5, g5, c5, rfl, hz5⟩ := own_ints (n := 2) (f := lE) hown5; have hz5h := hid hz5; have hB45 : Below w4.heap.size w4 w5 := below_two hB5; have hB25 := hid (hB24.out.trans (hB45.mono hB24.out.size)); clear hown5 hz5 hB5 hB45) | (go_at_call 21; refine (c21y A5 (some ⟨w6.heap.size, 0, none⟩) g5 w6.heap.size 0 0 2 c5 2 lE _ (hz5h.out.below (hB56.out.alloc hB56.out.size _) (Nat.le_refl _)) (newl w6) (by decide)).mono ?_; rintro e w7 ⟨rfl, hB7⟩; have hB67 : Hid (Below w6.heap.size w6 w7) := hid (below_one hB7); clear hB7) | (go_at_call 21; refine (c21y A2 (some ⟨w5.heap.size, 0, none⟩) g2 w5.heap.size 0 0 6 c2 6 eE _ (hz2h.out.below (hB25.out.alloc hB25.out.size _) (Nat.le_refl _)) (newe w5) (by decide)).mono ?_; rintro e w6 ⟨rfl, hB6⟩; have hB56 : Hid (Below w5.heap.size w5 w6) := hid (below_one hB6); clear hB6))
  go_returns
  have h5 := hB02.out.trans (hB25.out.mono hB02.out.size)
  have h6 := h5.trans (hB56.out.mono h5.size)
  exact ⟨rfl, h6.trans (hB67.out.mono h6.size)⟩
end Go.Proofs.Ytljioabolacbeaa
