/- Stage 4: the way back. -/
import Derived.Test.YtljioabolacbeaaS
set_option linter.unusedSimpArgs false
set_option linter.unusedVariables false
namespace Go.Proofs.Ytljioabolacbeaa
open Go.RowKit

set_option maxRecDepth 100000 in
set_option maxHeartbeats 4000000 in
theorem c6p (s : Nat) (A A2 : Option Addr) (b o n c b2 o2 c2 : Nat) (f g : Nat → Int) (w : World) (hz : Ints w (some ⟨b, o, none⟩) b o n f) (hg : Ints w (some ⟨b2, o2, none⟩) b2 o2 n g) (hn : 0 < n) (hm : n ≤ 128) (hs : 1 ≤ s ∧ s ≤ 127) (ha : allB 2 n f) (hb : allB 2 n g) :
    Calls Try.prog 6 #[.int .i64 (s : Nat), .slice (some ⟨b, o, none⟩) n c, .slice (some ⟨b2, o2, none⟩) n c2] w fun e w' => e = .returned (.bool true) ∧ Below w.heap.size w w' := by
  have hah := hid ha
  have hbh := hid hb
  have hd1 : decide ((128 : Int) < (n : Int)) = false := decide_eq_false (by omega)
  have hd2 : decide (128 < n) = false := decide_eq_false (by omega)
  have hwk := hid c14
  have hss : Hid (allB 2 n (scr s f)) := hid (fun k _ => by have := scr_bit s f k; unfold bel; omega)
  clear ha hb
  go_enter Try.func6, Try.ntmps6
  go_wp2_with (first | (go_at_call 23; refine (c23 _ _ _ _ _ _ _ (by first | exact hz | exact hg) (by omega)).mono ?_; intro e w1 hr; obtain ⟨rfl, rfl⟩ := hr.un.1 (by first | exact hah.out | exact hbh.out)) | (go_at_call 24; refine (c24 s x1 0 n k1 (scr s f) w2 (hR1.out.below hB2.out hR1.out.lt).ints hs hn hm hss.out).mono ?_; rintro e w3 ⟨x3, k3, rfl, hR3, hB3⟩; have hR3 := hid hR3; have hB23 := hid hB3; clear hB3) | (go_at_call 24; refine (c24 s b2 o2 n c2 g w1 (hg.below hB1.out (Nat.le_refl _)) hs hn hm hbh.out).mono ?_; rintro e w2 ⟨x2, k2, rfl, hR2, hB2⟩; have hR2 := hid hR2; have hB2 := hid hB2) | (go_at_call 24; refine (c24 s b o n c f w hz hs hn hm hah.out).mono ?_; rintro e w1 ⟨x1, k1, rfl, hR1, hB1⟩; have hR1 := hid hR1; have hB1 := hid hB1) | (go_at_call 21; refine (c21y (some ⟨x3, 0, none⟩) (some ⟨b, o, none⟩) x3 b 0 o n k3 c f _ (hR3.out.congr (fun i hi => scr_scr hah.out hi)).ints (hz.below (hB1.out.trans ((hB2.out.trans (hB23.out.mono hB2.out.size)).mono hB1.out.size)) (Nat.le_refl _)) (by omega)).mono ?_; rintro e w4 ⟨rfl, hB4⟩; have hB34 := hid hB4; clear hB4))
  have hB04 := hid ((hB1.out.trans ((hB2.out.trans (hB23.out.mono hB2.out.size)).mono hB1.out.size)).trans (hB34.out.mono (Nat.le_trans hB1.out.size (Nat.le_trans hB2.out.size hB23.out.size))))
  have i1 := hid ((hR1.out.below ((hB2.out.trans (hB23.out.mono hB2.out.size)).trans (hB34.out.mono (Nat.le_trans hB2.out.size hB23.out.size))) hR1.out.lt).ints)
  have i2 := hid ((hR2.out.below (hB23.out.trans (hB34.out.mono hB23.out.size)) hR2.out.lt).ints)
  have i3 := hid (hz.below hB04.out (Nat.le_refl _))
  have i4 := hid (hg.below hB04.out (Nat.le_refl _))
  have hs4 := hid (Nat.le_refl w4.heap.size)
  go_loopw [13] (fun iv wr => ∃ k : Nat, k ≤ n ∧ iv = .int .i64 (k : Nat) ∧ Below w4.heap.size w4 wr) (fun iv _ => n - (intOf iv).toNat)
  case atStart => exact ⟨0, Nat.zero_le _, rfl, Below.refl _ _⟩
  case round =>
    obtain ⟨k, hk, rfl, hB⟩ := hrel
    by_cases hlt : k < n
    · have j1 := i1.out.below hB (Nat.le_refl _)
      have j2 := i2.out.below hB (Nat.le_refl _)
      have j3 := i3.out.below hB (Nat.le_refl _)
      have j4 := i4.out.below hB (Nat.le_refl _)
      have a1 := j1.ce k hlt; have a2 := j2.ce k hlt; have a3 := j3.ce k hlt; have a4 := j4.ce k hlt
      have b1 := @Ints.ix _ _ _ _ _ k1 _ j1 _ hlt; have b2' := @Ints.ix _ _ _ _ _ k2 _ j2 _ hlt; have b3 := @Ints.ix _ _ _ _ _ c _ j3 _ hlt; have b4 := @Ints.ix _ _ _ _ _ c2 _ j4 _ hlt
      rw [Nat.zero_add] at a1 a2 b1 b2'
      have hsame := scr_same (s := s) hah.out hbh.out hlt
      have hq : Hid (((scr s f k == scr s g k) = true ∧ (f k == g k) = true) ∨ ((scr s f k == scr s g k) = false ∧ (f k == g k) = false)) := hid (by
        by_cases e : f k = g k
        · exact .inl ⟨beq_iff_eq.2 (hsame.2 e), beq_iff_eq.2 e⟩
        · exact .inr ⟨beq_eq_false_iff_ne.2 (fun h => e (hsame.1 h)), beq_eq_false_iff_ne.2 e⟩)
      clear hsame j1 j2 j3 j4
      rcases hq.out with ⟨q1, q2⟩ | ⟨q1, q2⟩
      · clear hq
        go_wp2_with fail
        go_quiet (fail)
        go_wp2_with fail
        go_roundw
        case rel => exact ⟨k + 1, by omega, by go_num, below_drewN hB _⟩
        case measure => simp [intOf]; omega
      · clear hq
        go_wp2_with fail
        go_quiet (fail)
        go_wp2_with fail
        go_roundw
        case rel => exact ⟨k + 1, by omega, by go_num, below_drewN hB _⟩
        case measure => simp [intOf]; omega
    · go_wp2_with (go_at_call 14; refine (hwk.out _).mono ?_; rintro e w5 ⟨rfl, hB5⟩)
      go_returns
      have h1 := hB04.out.trans (hB.mono hB04.out.size)
      exact ⟨rfl, h1.trans (hB5.mono h1.size)⟩
end Go.Proofs.Ytljioabolacbeaa
