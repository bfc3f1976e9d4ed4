/- Stage 6: an easier arm is moved. -/
import Derived.Test.YtajllhjoagldkaaX
set_option linter.unusedSimpArgs false
set_option linter.unusedVariables false
namespace Go.Proofs.Ytajllhjoagldkaa
open Go.RowKit Go.Maps Go.WideMaps

theorem IsN.le {a b : Ar} {t : Nat} {f f' : Int → Int → Bool} {p v : Int} {n n' : Nat} (e : Eas a b) (h : Gr a (trB a t) f) (h' : Gr b (trB b t) f') (hn : IsN a f p v n) (hn' : IsN b f' p v n') : n' ≤ n := hn'.2 n (e.lvl h h' n p v hn.1)
theorem c16le (a b : Ar) (t n1 : Nat) (p v : Int) (f0 : Int → Int → Bool) (w : World) (ok : b.Ok) (ht : t ≤ b.la) (hst : stB b p v = true) (e : Eas a b) (hG : Gr a (trB a t) f0) (hN : IsN a f0 p v n1) :
    Calls Try.prog 16 #[.agg #[.int .i64 (b.la : Nat), .int .i64 (b.sp : Nat), .int .i64 (b.fo : Nat), .int .i64 (b.sh : Nat), .int .i64 (b.ga : Nat), .int .i64 (b.sl : Nat)], .int .i64 (t : Nat), .agg #[.int .i64 p, .int .i64 v]] w fun e w' => (∃ (n2 : Nat) (c2 : Int), n2 ≤ n1 ∧ e = .returned (.tuple #[.int .i64 (n2 : Nat), .int .i64 c2, .int .i64 0])) ∧ Below w.heap.size w w' :=
  (c16 b t p v w ok ht hst).mono fun e2 w' hr => by
    obtain ⟨f', hG', hr, hB⟩ := hr
    rcases hr with ⟨hl, _⟩ | ⟨n2, _, hN2, rfl⟩
    · have h1 := e.lvl hG hG' n1 p v hN.1
      rw [hl n1] at h1
      cases h1
    · exact ⟨⟨n2, _, hN.le e hG hG' hN2, rfl⟩, hB⟩
theorem c16any (b : Ar) (t : Nat) (p v : Int) (w : World) (ok : b.Ok) (ht : t ≤ b.la) (hst : stB b p v = true) :
    Calls Try.prog 16 #[.agg #[.int .i64 (b.la : Nat), .int .i64 (b.sp : Nat), .int .i64 (b.fo : Nat), .int .i64 (b.sh : Nat), .int .i64 (b.ga : Nat), .int .i64 (b.sl : Nat)], .int .i64 (t : Nat), .agg #[.int .i64 p, .int .i64 v]] w fun e w' => ((∃ x y : Int, e = .returned (.tuple #[.int .i64 x, .int .i64 y, .int .i64 0])) ∨ ∃ x y : Int, e = .returned (.tuple #[.int .i64 x, .int .i64 y, .int .i64 3])) ∧ Below w.heap.size w w' :=
  (c16 b t p v w ok ht hst).mono fun e2 w' hr => by
    obtain ⟨f', hG', hr, hB⟩ := hr
    rcases hr with ⟨hl, rfl⟩ | ⟨n2, _, hN2, rfl⟩
    · exact ⟨.inr ⟨_, _, rfl⟩, hB⟩
    · exact ⟨.inl ⟨_, _, rfl⟩, hB⟩
set_option maxRecDepth 100000 in
set_option maxHeartbeats 8000000 in
theorem c5y (a : Ar) (x1 x2 x3 x4 t : Nat) (p v : Int) (A : Option Addr) (n c : Nat) (w : World) (ok : a.Ok) (ht : t ≤ a.la) (hst : stB a p v = true) (h1 : x1 ≤ 4) (h2 : x2 ≤ 2) (h3 : x3 ≤ 4) (h4 : x4 ≤ 8) (hV : Vld (a.la : Nat) (a.sp : Nat) (a.fo : Nat) (a.sh : Nat) (a.ga : Nat) (a.sl : Nat) (t : Nat) p v) :
    Calls Try.prog 5 #[a.v, .agg #[.int .i64 (x1 : Nat), .int .i64 (x2 : Nat), .int .i64 (x3 : Nat), .int .i64 (x4 : Nat)], .agg #[.int .i64 (t : Nat), .int .i64 p, .int .i64 v, .slice A n c]] w fun e w' => e = .returned (.bool true) ∧ Below w.heap.size w w' := by
  have o1 := ok.l; have o2 := ok.p; have o3 := ok.f; have o4 := ok.h; have o5 := ok.g; have o6 := ok.s
  have hVh := hid hV
  have hsth := hid hst
  have okh := hid ok
  obtain ⟨F, hF1, hF2, hF3⟩ : ∃ F : Nat, (if (a.fo : Int) + x1 < 4 then (a.fo : Int) + x1 else 4) = (F : Nat) ∧ a.fo ≤ F ∧ F ≤ 4 := by
    by_cases h : (a.fo : Int) + x1 < 4
    · exact ⟨a.fo + x1, by rw [if_pos h]; omega, by omega, by omega⟩
    · exact ⟨4, by rw [if_neg h]; rfl, by omega, by omega⟩
  obtain ⟨S, hS1, hS2⟩ : ∃ S : Nat, (if (0 : Int) < (a.sh : Int) - x2 then (a.sh : Int) - x2 else 0) = (S : Nat) ∧ S ≤ a.sh := by
    by_cases h : (0 : Int) < (a.sh : Int) - x2
    · exact ⟨a.sh - x2, by rw [if_pos h]; omega, by omega⟩
    · exact ⟨0, by rw [if_neg h]; rfl, by omega⟩
  have hS3 : (if x2 < a.sh then (a.sh : Int) - x2 else 0) = (S : Nat) := by rw [← hS1]; by_cases h : x2 < a.sh <;> simp [h]
  obtain ⟨G, hG1, hG2, hG3⟩ : ∃ G : Nat, (if (a.ga : Int) + x3 < 4 then (a.ga : Int) + x3 else 4) = (G : Nat) ∧ a.ga ≤ G ∧ G ≤ 4 := by
    by_cases h : (a.ga : Int) + x3 < 4
    · exact ⟨a.ga + x3, by rw [if_pos h]; omega, by omega, by omega⟩
    · exact ⟨4, by rw [if_neg h]; rfl, by omega, by omega⟩
  obtain ⟨L, hL1, hL2, hL3⟩ : ∃ L : Nat, (if (a.sl : Int) + x4 < a.sp then (a.sl : Int) + x4 else (a.sp : Int)) = (L : Nat) ∧ a.sl ≤ L ∧ L ≤ a.sp := by
    by_cases h : (a.sl : Int) + x4 < a.sp
    · exact ⟨a.sl + x4, by rw [if_pos h]; omega, by omega, by omega⟩
    · exact ⟨a.sp, by rw [if_neg h], by omega, by omega⟩
  obtain ⟨b, hb⟩ : ∃ b : Ar, b = ⟨a.la, a.sp, F, S, G, L⟩ := ⟨_, rfl⟩
  have he : Hid (Eas a b) := hid (by rw [hb]; exact ⟨rfl, rfl, hF2, hS2, hG2, hL2⟩)
  have hbo : Hid (b.Ok) := hid (by rw [hb]; exact ⟨by show a.la ≤ 40; omega, by show a.sp ≤ 8; omega, hF3, by show S ≤ 2; omega, hG3, by show L ≤ a.sp; omega⟩)
  have hbt : Hid (t ≤ b.la) := hid (by rw [hb]; exact ht)
  have hbs : Hid (stB b p v = true) := hid (by rw [hb]; exact hst)
  have kle : Hid (∀ (n1 : Nat) (f0 : Int → Int → Bool) (w : World), Gr a (trB a t) f0 → IsN a f0 p v n1 → Calls Try.prog 16 #[.agg #[.int .i64 (a.la : Nat), .int .i64 (a.sp : Nat), .int .i64 (F : Nat), .int .i64 (S : Nat), .int .i64 (G : Nat), .int .i64 (L : Nat)], .int .i64 (t : Nat), .agg #[.int .i64 p, .int .i64 v]] w fun e w' => (∃ (n2 : Nat) (c2 : Int), n2 ≤ n1 ∧ e = .returned (.tuple #[.int .i64 (n2 : Nat), .int .i64 c2, .int .i64 0])) ∧ Below w.heap.size w w') := hid fun n1 f0 w g1 g2 => by
    have := c16le a b t n1 p v f0 w hbo.out hbt.out hbs.out he.out g1 g2
    rw [hb] at this
    exact this
  have kany : Hid (∀ w : World, Calls Try.prog 16 #[.agg #[.int .i64 (a.la : Nat), .int .i64 (a.sp : Nat), .int .i64 (F : Nat), .int .i64 (S : Nat), .int .i64 (G : Nat), .int .i64 (L : Nat)], .int .i64 (t : Nat), .agg #[.int .i64 p, .int .i64 v]] w fun e w' => ((∃ x y : Int, e = .returned (.tuple #[.int .i64 x, .int .i64 y, .int .i64 0])) ∨ ∃ x y : Int, e = .returned (.tuple #[.int .i64 x, .int .i64 y, .int .i64 3])) ∧ Below w.heap.size w w') := hid fun w => by
    have := c16any b t p v w hbo.out hbt.out hbs.out
    rw [hb] at this
    exact this
  clear hV hst ok hb he hbo hbt hbs hF2 hS2 hG2 hL2
  go_enter Try.func5, Try.ntmps5
  go_wp2_with (first | (go_at_call 12; refine (c12y _ hVh.out).mono ?_; rintro e w1 ⟨rfl, hB1⟩; obtain ⟨hc1, hf1⟩ := bcell hB1; have hz1 : w.heap.size + 1 + 1 < w1.heap.size := (by have := hB1.size; simp at this; omega); have hz2 : w.heap.size + 1 < w1.heap.size := (by omega); have hz3 : w.heap.size < w1.heap.size := (by omega)) | (go_at_call 16; with_reducible refine (kle.out n1 f0 _ hGh.out hNh.out).mono ?_; rintro e w3 ⟨⟨n2, c2, hle, rfl⟩, hB3⟩; have hz8 : w.heap.size < w3.heap.size := (by have := hB3.size; omega); have hle2 : (n2 : Int) ≤ (n1 : Int) := (by omega)) | (go_at_call 16; with_reducible refine (kany.out _).mono ?_; rintro e w3 ⟨(⟨x5, y5, rfl⟩ | ⟨x5, y5, rfl⟩), hB3⟩ <;> (have hz8 : w.heap.size < w3.heap.size := (by have := hB3.size; omega))) | (go_at_call 16; refine (c16 a t p v _ okh.out ht hsth.out).mono ?_; rintro e w2 ⟨f0, hGr, (⟨hLo, rfl⟩ | ⟨n1, hn1, hN1, rfl⟩), hB2⟩ <;> (have hGh := hid hGr; obtain ⟨hc2, hf2⟩ := bcell hB2; have hz4 : w1.heap.size < w2.heap.size := (by have := hB2.size; simp [World.setCell] at this; omega); have hz5 : w.heap.size + 1 + 1 < w2.heap.size := (by omega); have hz6 : w.heap.size + 1 < w2.heap.size := (by omega); have hz7 : w.heap.size < w2.heap.size := (by omega); (try have hNh := hid hN1); (try clear hN1); clear hGr)) | (go_at_call 14; refine (c14 _).mono ?_; rintro e w4 ⟨rfl, hB4⟩))
  all_goals
    go_returns
    exact ⟨rfl, by (repeat' (first | (with_reducible exact Below.refl _ _) | (with_reducible assumption) | (with_reducible refine Below.alloc ?_ ?_ _) | (with_reducible refine Below.drew ?_) | (with_reducible refine below_drewN ?_ _) | (with_reducible refine Below.setCell ?_ ?_ _) | (with_reducible refine Below.trans ?_ (Below.mono (by with_reducible assumption) ?_)) | go_size))⟩
theorem c5 (la sp fo sh ga sl e1 e2 e3 e4 t p v : Int) (A : Option Addr) (n c : Nat) (w : World) : Calls Try.prog 5 #[.agg #[.int .i64 la, .int .i64 sp, .int .i64 fo, .int .i64 sh, .int .i64 ga, .int .i64 sl], .agg #[.int .i64 e1, .int .i64 e2, .int .i64 e3, .int .i64 e4], .agg #[.int .i64 t, .int .i64 p, .int .i64 v, .slice A n c]] w fun e w' => e = .returned (.bool true) ∧ Below w.heap.size w w' := by
  by_cases hV : Vld la sp fo sh ga sl t p v
  · by_cases hE : EzB e1 e2 e3 e4
    · have hV2 := hV
      obtain ⟨⟨⟨a1, a2⟩, ⟨b1, b2⟩, ⟨c1, c2⟩, ⟨d1, d2⟩, ⟨g1, g2⟩, g3, g4⟩, ⟨t1, t2⟩, ⟨⟨s1, s2⟩, s3, s4⟩, k1, k2⟩ := hV
      obtain ⟨q1, q2, q3, q4, q5, q6, q7, q8⟩ := hE
      obtain ⟨la, rfl⟩ := Int.eq_ofNat_of_zero_le a1
      obtain ⟨sp, rfl⟩ := Int.eq_ofNat_of_zero_le b1
      obtain ⟨fo, rfl⟩ := Int.eq_ofNat_of_zero_le c1
      obtain ⟨sh, rfl⟩ := Int.eq_ofNat_of_zero_le d1
      obtain ⟨ga, rfl⟩ := Int.eq_ofNat_of_zero_le g1
      obtain ⟨sl, rfl⟩ := Int.eq_ofNat_of_zero_le g3
      obtain ⟨t, rfl⟩ := Int.eq_ofNat_of_zero_le t1
      obtain ⟨x1, rfl⟩ := Int.eq_ofNat_of_zero_le (show 0 ≤ e1 by omega)
      obtain ⟨x2, rfl⟩ := Int.eq_ofNat_of_zero_le (show 0 ≤ e2 by omega)
      obtain ⟨x3, rfl⟩ := Int.eq_ofNat_of_zero_le (show 0 ≤ e3 by omega)
      obtain ⟨x4, rfl⟩ := Int.eq_ofNat_of_zero_le (show 0 ≤ e4 by omega)
      exact c5y ⟨la, sp, fo, sh, ga, sl⟩ x1 x2 x3 x4 t p v A n c w ⟨by show la ≤ 40; omega, by show sp ≤ 8; omega, by show fo ≤ 4; omega, by show sh ≤ 2; omega, by show ga ≤ 4; omega, by show sl ≤ sp; omega⟩ (by show t ≤ la; omega) (stB_iff.2 ⟨⟨s1, by show p ≤ (la : Int); omega⟩, by show -(sp : Int) ≤ v; omega, by show v ≤ (sp : Int); omega⟩) (by omega) (by omega) (by omega) (by omega) hV2
    · exact c5e la sp fo sh ga sl e1 e2 e3 e4 t p v A n c w hV hE
  · exact c5n la sp fo sh ga sl e1 e2 e3 e4 t p v A n c w hV
end Go.Proofs.Ytajllhjoagldkaa
