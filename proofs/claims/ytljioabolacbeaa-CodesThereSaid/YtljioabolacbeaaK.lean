/- Stage 4: Encode. -/
import Derived.Test.YtljioabolacbeaaJ
set_option linter.unusedSimpArgs false
set_option linter.unusedVariables false
namespace Go.Proofs.Ytljioabolacbeaa
open Go.RowKit

theorem own_base {w : World} {b b' e s n : Nat} {v : Value} {xs : List Value} (h : w.ownsRow b e s v n xs) (hb : b' ≤ b) : w.ownsRow b' e s v n xs := by
  obtain ⟨h1, h2⟩ := h
  refine ⟨h1, ?_⟩
  rcases h2 with h2 | ⟨g, cap, cur, h3, h4, h5⟩
  · exact .inl h2
  · exact .inr ⟨g, cap, cur, h3, Nat.le_trans hb h4, h5⟩
set_option maxRecDepth 100000 in
set_option maxHeartbeats 4000000 in
theorem c16y (q : Cd) (st : Nat) (A : Option Addr) (b o n c : Nat) (d : Nat → Int) (w : World) (hz : q.In w) (ok : q.Ok) (hst : st < q.wn) (hd : Ints w A b o n d) (hn : n ≤ 24) (ha : allB (2 ^ q.B : Nat) n d) :
    Calls Try.prog 16 #[q.v, .int .i64 (st : Nat), .slice A n c] w fun e w' => ∃ v, e = .returned (.tuple #[v, .int .i64 (stN q st d n : Nat), .int .i64 0]) ∧ w'.ownsRow w.heap.size 3 1 v (n * q.O) (vals (n * q.O) (sm q st d)) ∧ Below w.heap.size w w' := by
  have b1 := ok.b1; have b2 := ok.b2
  have pb := pow_b b2
  obtain ⟨dB, hdB⟩ : ∃ d : Nat, d = 2 ^ q.B := ⟨_, rfl⟩
  have eB : wrap64 ((2 : Int) ^ q.B) = (dB : Int) := by rw [hdB]; exact wpow (by omega)
  rw [← hdB] at pb
  have ha2 : Hid (allB (dB : Nat) n d) := hid (by rw [hdB]; exact ha)
  have okh := hid ok
  have hah := hid ha
  have hzh := hid hz
  have hdh := hid hd
  clear ok ha hz hd hdB
  have hB0 : Hid (Below w.heap.size w (w.alloc (.cells #[.int .i64 (q.B : Nat), .int .i64 (q.O : Nat), .int .i64 q.L, .int .i64 q.M, .slice q.wa q.wn q.wc, .slice q.na q.nn q.nc] 24))) := hid (by (repeat' (first | (with_reducible exact Below.refl _ _) | (with_reducible assumption) | (with_reducible refine Below.alloc ?_ ?_ _) | (with_reducible refine Below.drew ?_) | (with_reducible refine below_drewN ?_ _) | (with_reducible refine Below.setCell ?_ ?_ _) | (with_reducible refine Below.trans ?_ (Below.mono (by with_reducible assumption) ?_)) | go_size)))
  go_enter Try.func16, Try.ntmps16
  go_wp2_with (first | (go_at_call 46; refine ((c46y q st _ (hzh.out.below hB0.out (Nat.le_refl _)) okh.out hst : Calls Try.prog 46 #[q.v, .int .i64 (st : Nat)] _ fun e w' => e = .returned (.tuple #[.agg #[.int .i64 (q.B : Nat), .int .i64 (q.O : Nat), .int .i64 q.L, .int .i64 q.M, .slice q.wa q.wn q.wc, .slice q.na q.nn q.nc], .int .i64 0]) ∧ _)).mono ?_; rintro e w1 ⟨rfl, hB1⟩; have hB01 := hid (hB0.out.trans (hB1.mono (by simp))); have hz1 : w.heap.size < w1.heap.size := (by have := hB1.size; simp at this; omega); clear hB1) | (go_at_call 47; refine (c47 A b o n c d 24 (dB : Nat) _ (hdh.out.below (Below.alloc hB01.out hB01.out.size _) (Nat.le_refl _)) (by omega) (by omega)).mono ?_; rintro e w2 hr; obtain ⟨rfl, hB2⟩ := hr.un.1 ⟨by omega, ha2.out⟩; clear hr; have hX2 : Cbx q w2 w1.heap.size := (Cbx.newk q w1).below hB2 (by simp); obtain ⟨p0, p1, p2, p3, p4, p5⟩ := hX2; have hB02 := hid ((hB01.out.alloc hB01.out.size _).trans (hB2.mono (by simp; omega))); clear hB2) | (go_at_call 48; refine (c48 q st A b o n c d _ (hzh.out.below hB02.out (Nat.le_refl _)) okh.out hst (hdh.out.below hB02.out (Nat.le_refl _)) hn hah.out).mono ?_; rintro e w3 ⟨v, rfl, hown, hB3⟩; have hownh := hid hown; clear hown; have hB03 := hid (hB02.out.trans (hB3.mono hB02.out.size)); have hs3 := hB02.out.size; clear hB3))
  go_returns
  exact ⟨v, rfl, own_base hownh.out (by omega), hB03.out⟩
end Go.Proofs.Ytljioabolacbeaa
