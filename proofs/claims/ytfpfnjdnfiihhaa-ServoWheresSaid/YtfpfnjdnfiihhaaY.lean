/- Stage 2: the examples. -/
import Derived.Test.YtfpfnjdnfiihhaaX
set_option linter.unusedSimpArgs false
set_option linter.unusedVariables false
namespace Go.Proofs.Ytfpfnjdnfiihhaa
open Go.RowKit

@[reducible] def exS (b : Nat) : Sv := { tr := 4, st := 4, mv := 2, no := 1, wr := 0, ra := some ⟨b, 0, none⟩, rb := b, ro := 0, rn := 2, rc := 2, rf := fun k => if k = 1 then 1 else 0 }
@[reducible] def exG (b : Nat) : Wg := { wa := some ⟨b, 0, none⟩, wb := b, wo := 0, wn := 3, wk := 3, wc := fun k => if k = 2 then 3 else 1, wu := fun k => if k = 2 then -1 else if k = 1 then 1 else 0 }
theorem exS_ok (b : Nat) : (exS b).Ok := by
  refine ⟨?_, ?_, ?_, ?_, ?_, ?_, ?_, ?_, ?_, ?_, ?_, ?_, fun k _ => ?_⟩
  all_goals (try dsimp only)
  all_goals first | omega | (split <;> omega)
theorem exG_ok (b : Nat) : (exG b).Ok := by
  refine ⟨?_, fun k _ => ?_, fun k _ => ?_⟩
  all_goals (try dsimp only)
  all_goals first | omega | (split <;> first | omega | (split <;> omega))
theorem ex_N (a : Nat) : (exS a).N = 13 := by simp [Sv.N]
theorem ex_m (a : Nat) : (exS a).m = 2 := by simp [Sv.m]
theorem ex_fl (a b : Nat) : fl (exS a) (exG b) = fl (exS 0) (exG 0) := rfl
theorem ex_mn : mn 13 (fl (exS 0) (exG 0)) = 0 := by decide +kernel
theorem ex_sp : spn (fun p => decide (fl (exS 0) (exG 0) p ≤ 0)) 13 = [(6, 8)] := by decide +kernel
theorem ex_g0 : ∀ p : Nat, p < 13 → mvn 13 2 (fl (exS 0) (exG 0)) 0 p ≤ 0 → -5 ≤ (p : Int) - 8 ∧ (p : Int) - 8 ≤ 5 := by decide +kernel
theorem ex_g1 : ∀ p : Nat, p < 13 → mvn 13 2 (fl (exS 0) (exG 0)) 1 p ≤ 0 → -5 ≤ (p : Int) - 9 ∧ (p : Int) - 9 ≤ 5 := by decide +kernel
theorem ex_g2 : ¬ ∀ p : Nat, p < 13 → mvn 13 2 (fl (exS 0) (exG 0)) 2 p ≤ 0 → -5 ≤ (p : Int) - 8 ∧ (p : Int) - 8 ≤ 5 := by decide +kernel
theorem ex_gate (a b : Nat) : gate (exS a) (exG b) 2 5 = 2 := by
  have h0 : gtP (exS a) (exG b) 2 5 0 := by
    unfold gtP nearP
    rw [show (exS a).at_ 2 ((exG b).wn + 0 - 1) = 8 by simp [Sv.at_], ex_fl, ex_N, ex_m]; exact ex_g0
  have h1 : gtP (exS a) (exG b) 2 5 1 := by
    unfold gtP nearP
    rw [show (exS a).at_ 2 ((exG b).wn + 1 - 1) = 9 by simp [Sv.at_], ex_fl, ex_N, ex_m]; exact ex_g1
  have h2 : ¬ gtP (exS a) (exG b) 2 5 2 := by
    unfold gtP nearP
    rw [show (exS a).at_ 2 ((exG b).wn + 2 - 1) = 8 by simp [Sv.at_], ex_fl, ex_N, ex_m]; exact ex_g2
  unfold gate
  rw [show (24 : Nat) = 24 - 0 by omega, gtF_yes (by omega) h0, gtF_yes (by omega) h1, gtF_no (by omega) h2]
theorem ex_ahE (a b : Nat) (told : Prop) (h : told) : ahE (exS a) (exG b) told = 0 := ahE_ok (ckE_ok (exS_ok a) (exG_ok b)) h (by rw [ex_N, ex_fl, ex_mn]; exact Int.le_refl _)
theorem ex_ahL (a b : Nat) : ahL (exS a) (exG b) True 0 = [(6, 8)] := by rw [ahL_ok (ex_ahE a b True trivial)]; unfold aheadL; rw [ex_N, ex_m, ex_fl]; exact ex_sp
theorem ex_gtA (a b : Nat) : gtA (exS a) (exG b) 2 5 = 2 := by
  have h : ahE (exS a) (exG b) (((0 : Int) ≤ 2 ∧ (2 : Int) ≤ (exS a).tr - 1) ∧ ((0 : Int) ≤ 5 ∧ (5 : Int) ≤ 16)) = 0 := ex_ahE a b _ ⟨⟨by decide, by show (2 : Int) ≤ 4 - 1; decide⟩, ⟨by decide, by decide⟩⟩
  unfold gtA
  rw [if_pos h, ex_gate]; rfl
/-- The examples are handed back, in new memory. -/
def ExRet (w : World) (e : Ending) (w' : World) : Prop := ∃ a b : Nat, e = .returned (.tuple #[(exS a).v, (exG b).v]) ∧ (exS a).In w' ∧ (exG b).In w' ∧ Below w.heap.size w w'
set_option maxRecDepth 100000 in
set_option maxHeartbeats 1000000 in
theorem c45 (w : World) : Calls Try.prog 45 #[] w (ExRet w) := by
  go_enter Try.func45, Try.ntmps45
  go_wp2_with fail
  refine bodyPost_ret (v := .tuple #[(exS (w.heap.size + 1)).v, (exG (w.heap.size + 2)).v]) (by simp [results, Try.results45, go_sem]) rfl ?_
  refine ⟨w.heap.size + 1, w.heap.size + 2, rfl, ⟨fun _ _ => rfl, fun _ _ => by simp, fun k hk => ?_⟩, ⟨fun _ _ => rfl, fun _ _ => by simp, fun k hk => ?_, fun k hk => ?_⟩, by (repeat' (first | (with_reducible exact Below.refl _ _) | (with_reducible assumption) | (with_reducible refine Below.alloc ?_ ?_ _) | (with_reducible refine Below.drew ?_) | (with_reducible refine below_drewN ?_ _) | (with_reducible refine Below.setCell ?_ ?_ _) | (with_reducible refine Below.trans ?_ (Below.mono (by with_reducible assumption) ?_)) | go_size))⟩
  · rcases (show k = 0 ∨ k = 1 by dsimp only at hk; omega) with rfl | rfl <;> simp [go_sem]
  · rcases (show k = 0 ∨ k = 1 ∨ k = 2 by dsimp only at hk; omega) with rfl | rfl | rfl <;> simp [go_sem]
  · rcases (show k = 0 ∨ k = 1 ∨ k = 2 by dsimp only at hk; omega) with rfl | rfl | rfl <;> simp [go_sem]

theorem spin_new (w : World) (a b : Nat) : SpIn (w.alloc (.cells #[.int .i64 (a : Nat), .int .i64 (b : Nat)] 56)) (some ⟨w.heap.size, 0, none⟩) w.heap.size [(a, b)] := by
  refine ⟨fun _ _ => rfl, fun _ _ => by simp, fun k hk => ?_, fun k hk => ?_⟩ <;> (obtain rfl : k = 0 := by simpa using hk) <;> simp [go_sem, lo, hi]
set_option maxRecDepth 100000 in
set_option maxHeartbeats 2000000 in
theorem c13 (w : World) : Calls Try.prog 13 #[] w fun e w' => e = .returned (.bool true) ∧ Below w.heap.size w w' := by
  go_enter Try.func13, Try.ntmps13
  go_wp2_with (first | (go_at_call 45; refine (c45 _).mono ?_; rintro e w1 ⟨a, b, rfl, hS, hG, hB1⟩; have hSh := hid hS; have hGh := hid hG; clear hS hG; have hz1 := hB1.size; have h1b : Below w1.heap.size w1 (w1.alloc (.cells #[.int .i64 4, .int .i64 4, .int .i64 2, .int .i64 1, .int .i64 0, .slice (some ⟨a, 0, none⟩) 2 2] 30)) := ((Below.refl _ _).alloc (Nat.le_refl _) _)) | (go_at_call 18; refine (c18 (exS a) (exG b) _ (hSh.out.below h1b (Nat.le_refl _)) (hGh.out.below h1b (Nat.le_refl _)) (by simp) (by simp)).mono ?_; rw [ex_ahE a b True trivial, ex_ahL a b]; rintro e w2 ⟨v, rfl, hown, hB2⟩; obtain ⟨va, vg, vc, rfl, hsp⟩ := SpIn.of_owns (l := [(6, 8)]) hown; have hz2 : w1.heap.size + 1 ≤ w2.heap.size := (by have := hB2.size; simp at this; omega); have hw2 : Below w1.heap.size w1 w2 := h1b.trans (hB2.mono (by simp)); have sb2 := Svb.below (Svb.new (exS a) w1) hB2 (by simp); obtain ⟨k0, k1, k2, k3, k4, k5⟩ := sb2.all) | (go_at_call 25; refine (c25 (exS a) (exG b) 2 5 _ (hSh.out.below hw2 (Nat.le_refl _)) (hGh.out.below hw2 (Nat.le_refl _)) (by simp) (by simp)).mono ?_; rw [ex_gtA a b, ex_ahE a b _ ⟨⟨by decide, by show (2 : Int) ≤ 4 - 1; decide⟩, ⟨by decide, by decide⟩⟩]; rintro e w3 ⟨rfl, hB3⟩; have hz3 : w1.heap.size + 1 ≤ w3.heap.size := (by have := hB3.size; omega); have hsp3 := hsp.below hB3 (Nat.le_refl _)) | (go_at_call 15; refine (c15 3 (by omega) _).mono ?_; rw [show trk 3 = 2 by decide +kernel]; rintro e w' ⟨rfl, rfl⟩) | (go_at_call 30; refine (c30y va (some ⟨w3.heap.size, 0, none⟩) vg w3.heap.size vc 1 [(6, 8)] _ (hsp3.below ((Below.refl _ _).alloc (Nat.le_refl _) _) (Nat.le_refl _)) (spin_new w3 6 8) (by simp)).mono ?_; rintro e w4 ⟨rfl, hB4⟩))
  go_ret
  have hw3 : Below w1.heap.size w1 w3 := hw2.trans (hB3.mono hw2.size)
  exact ⟨rfl, hB1.trans ((hw3.trans (((Below.refl _ _).alloc (Nat.le_refl _) _).trans (hB4.mono (by simp)) |>.mono hw3.size)).mono hz1)⟩
end Go.Proofs.Ytfpfnjdnfiihhaa
