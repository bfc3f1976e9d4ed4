/- Stage 6: whether an arm, a target and a state are ones that statements look at. -/
import Derived.Test.YtajllhjoagldkaaT
set_option linter.unusedSimpArgs false
set_option linter.unusedVariables false
namespace Go.Proofs.Ytajllhjoagldkaa
open Go.RowKit Go.Maps Go.WideMaps

theorem c54y (la sp fo sh ga sl : Int) (t : Int) (w : World) (h : VA la sp fo sh ga sl) (ht : 0 ≤ t ∧ t ≤ la) : Calls Try.prog 54 #[.agg #[.int .i64 la, .int .i64 sp, .int .i64 fo, .int .i64 sh, .int .i64 ga, .int .i64 sl], .int .i64 t] w fun e w' => e = .returned (.int .i64 0) ∧ Below w.heap.size w w' := (c54 la sp fo sh ga sl t w).mono fun e w' hr => by
  obtain ⟨(⟨h1, rfl⟩ | ⟨h1, h2, rfl⟩ | ⟨h1, h2, rfl⟩), hB⟩ := hr
  · exact absurd h h1
  · exact absurd ht h2
  · exact ⟨rfl, hB⟩
theorem c54t (la sp fo sh ga sl : Int) (t : Int) (w : World) (h : VA la sp fo sh ga sl) (ht : ¬ (0 ≤ t ∧ t ≤ la)) : Calls Try.prog 54 #[.agg #[.int .i64 la, .int .i64 sp, .int .i64 fo, .int .i64 sh, .int .i64 ga, .int .i64 sl], .int .i64 t] w fun e w' => e = .returned (.int .i64 1) ∧ Below w.heap.size w w' := (c54 la sp fo sh ga sl t w).mono fun e w' hr => by
  obtain ⟨(⟨h1, rfl⟩ | ⟨h1, h2, rfl⟩ | ⟨h1, h2, rfl⟩), hB⟩ := hr
  · exact absurd h h1
  · exact ⟨rfl, hB⟩
  · exact absurd h2 ht
theorem c54n (la sp fo sh ga sl : Int) (t : Int) (w : World) (h : ¬ VA la sp fo sh ga sl) : Calls Try.prog 54 #[.agg #[.int .i64 la, .int .i64 sp, .int .i64 fo, .int .i64 sh, .int .i64 ga, .int .i64 sl], .int .i64 t] w fun e w' => e = .returned (.int .i64 60) ∧ Below w.heap.size w w' := (c54 la sp fo sh ga sl t w).mono fun e w' hr => by
  obtain ⟨(⟨h1, rfl⟩ | ⟨h1, h2, rfl⟩ | ⟨h1, h2, rfl⟩), hB⟩ := hr
  · exact ⟨rfl, hB⟩
  · exact absurd h1 h
  · exact absurd h1 h
set_option maxHeartbeats 4000000 in
theorem c34 (la sp fo sh ga sl : Int) (t p v : Int) (w : World) : Calls Try.prog 34 #[.agg #[.int .i64 la, .int .i64 sp, .int .i64 fo, .int .i64 sh, .int .i64 ga, .int .i64 sl], .int .i64 t, .agg #[.int .i64 p, .int .i64 v]] w fun e w' => ((VA la sp fo sh ga sl ∧ (0 ≤ t ∧ t ≤ la) ∧ VSt la sp p v ∧ e = .returned (.int .i64 0)) ∨ ((¬ (VA la sp fo sh ga sl ∧ (0 ≤ t ∧ t ≤ la) ∧ VSt la sp p v)) ∧ ∃ c : Int, 1 ≤ c ∧ c ≤ 61 ∧ e = .returned (.int .i64 c))) ∧ Below w.heap.size w w' := by
  by_cases h : VA la sp fo sh ga sl ∧ (0 ≤ t ∧ t ≤ la)
  · have hsp : -100 ≤ sp ∧ sp ≤ 100 := by have := h.1.2.1; omega
    by_cases hs : VSt la sp p v
    · have hh := hid h; have hsh := hid hs
      clear h hs
      go_enter Try.func34, Try.ntmps34
      go_wp2_with (first | (go_at_call 54; refine (c54y la sp fo sh ga sl t _ hh.out.1 hh.out.2).mono ?_; rintro e w1 ⟨rfl, hB1⟩; obtain ⟨hc1, hf1⟩ := bcell hB1; have hz1 : w.heap.size + 1 < w1.heap.size := (by have := hB1.size; simp at this; omega)) | (go_at_call 18; refine (c18y la sp fo sh ga sl p v _ hsh.out hsp).mono ?_; rintro e w2 ⟨rfl, hB2⟩))
      go_returns
      exact ⟨.inl ⟨hh.out.1, hh.out.2, hsh.out, rfl⟩, by (repeat' (first | (with_reducible exact Below.refl _ _) | (with_reducible assumption) | (with_reducible refine Below.alloc ?_ ?_ _) | (with_reducible refine Below.drew ?_) | (with_reducible refine below_drewN ?_ _) | (with_reducible refine Below.setCell ?_ ?_ _) | (with_reducible refine Below.trans ?_ (Below.mono (by with_reducible assumption) ?_)) | go_size))⟩
    · have hh := hid h; have hsh := hid hs
      clear h hs
      go_enter Try.func34, Try.ntmps34
      go_wp2_with (first | (go_at_call 54; refine (c54y la sp fo sh ga sl t _ hh.out.1 hh.out.2).mono ?_; rintro e w1 ⟨rfl, hB1⟩; obtain ⟨hc1, hf1⟩ := bcell hB1; have hz1 : w.heap.size + 1 < w1.heap.size := (by have := hB1.size; simp at this; omega)) | (go_at_call 18; refine (c18n la sp fo sh ga sl p v _ hsh.out hsp).mono ?_; rintro e w2 ⟨rfl, hB2⟩))
      go_returns
      exact ⟨.inr ⟨fun h => hsh.out h.2.2, 61, by omega, by omega, rfl⟩, by (repeat' (first | (with_reducible exact Below.refl _ _) | (with_reducible assumption) | (with_reducible refine Below.alloc ?_ ?_ _) | (with_reducible refine Below.drew ?_) | (with_reducible refine below_drewN ?_ _) | (with_reducible refine Below.setCell ?_ ?_ _) | (with_reducible refine Below.trans ?_ (Below.mono (by with_reducible assumption) ?_)) | go_size))⟩
  · have hh := hid h
    clear h
    by_cases hA : VA la sp fo sh ga sl
    · have hAh := hid hA
      clear hA
      go_enter Try.func34, Try.ntmps34
      go_wp2_with (go_at_call 54; refine (c54t la sp fo sh ga sl t _ hAh.out (fun h => hh.out ⟨hAh.out, h⟩)).mono ?_; rintro e w1 ⟨rfl, hB1⟩)
      go_returns
      exact ⟨.inr ⟨fun h => hh.out ⟨h.1, h.2.1⟩, 1, by omega, by omega, rfl⟩, by (repeat' (first | (with_reducible exact Below.refl _ _) | (with_reducible assumption) | (with_reducible refine Below.alloc ?_ ?_ _) | (with_reducible refine Below.drew ?_) | (with_reducible refine below_drewN ?_ _) | (with_reducible refine Below.setCell ?_ ?_ _) | (with_reducible refine Below.trans ?_ (Below.mono (by with_reducible assumption) ?_)) | go_size))⟩
    · have hAh := hid hA
      clear hA
      go_enter Try.func34, Try.ntmps34
      go_wp2_with (go_at_call 54; refine (c54n la sp fo sh ga sl t _ hAh.out).mono ?_; rintro e w1 ⟨rfl, hB1⟩)
      go_returns
      exact ⟨.inr ⟨fun h => hh.out ⟨h.1, h.2.1⟩, 60, by omega, by omega, rfl⟩, by (repeat' (first | (with_reducible exact Below.refl _ _) | (with_reducible assumption) | (with_reducible refine Below.alloc ?_ ?_ _) | (with_reducible refine Below.drew ?_) | (with_reducible refine below_drewN ?_ _) | (with_reducible refine Below.setCell ?_ ?_ _) | (with_reducible refine Below.trans ?_ (Below.mono (by with_reducible assumption) ?_)) | go_size))⟩
/-- The arm is larger than statements look at. -/
def Big (la sp fo : Int) : Prop := 10 < la ∨ 3 < sp ∨ 4 < fo
set_option maxHeartbeats 4000000 in
theorem c23 (la sp fo sh ga sl : Int) (w : World) : Calls Try.prog 23 #[.agg #[.int .i64 la, .int .i64 sp, .int .i64 fo, .int .i64 sh, .int .i64 ga, .int .i64 sl]] w fun e w' => ((VA la sp fo sh ga sl ∧ Big la sp fo ∧ e = .returned (.bool true)) ∨ ((¬ (VA la sp fo sh ga sl ∧ Big la sp fo)) ∧ e = .returned (.bool false))) ∧ Below w.heap.size w w' := by
  by_cases h : VA la sp fo sh ga sl
  · have hh := hid h
    clear h
    by_cases h1 : 10 < la
    · go_enter Try.func23, Try.ntmps23
      go_wp2_with (go_at_call 25; refine (c25y la sp fo sh ga sl _ hh.out).mono ?_; rintro e w1 ⟨rfl, hB1⟩; obtain ⟨hc1, hf1⟩ := bcell hB1)
      go_returns
      exact ⟨.inl ⟨hh.out, .inl h1, rfl⟩, by (repeat' (first | (with_reducible exact Below.refl _ _) | (with_reducible assumption) | (with_reducible refine Below.alloc ?_ ?_ _) | (with_reducible refine Below.drew ?_) | (with_reducible refine below_drewN ?_ _) | (with_reducible refine Below.setCell ?_ ?_ _) | (with_reducible refine Below.trans ?_ (Below.mono (by with_reducible assumption) ?_)) | go_size))⟩
    · by_cases h2 : 3 < sp
      · go_enter Try.func23, Try.ntmps23
        go_wp2_with (go_at_call 25; refine (c25y la sp fo sh ga sl _ hh.out).mono ?_; rintro e w1 ⟨rfl, hB1⟩; obtain ⟨hc1, hf1⟩ := bcell hB1)
        go_returns
        exact ⟨.inl ⟨hh.out, .inr (.inl h2), rfl⟩, by (repeat' (first | (with_reducible exact Below.refl _ _) | (with_reducible assumption) | (with_reducible refine Below.alloc ?_ ?_ _) | (with_reducible refine Below.drew ?_) | (with_reducible refine below_drewN ?_ _) | (with_reducible refine Below.setCell ?_ ?_ _) | (with_reducible refine Below.trans ?_ (Below.mono (by with_reducible assumption) ?_)) | go_size))⟩
      · by_cases h3 : 4 < fo
        · go_enter Try.func23, Try.ntmps23
          go_wp2_with (go_at_call 25; refine (c25y la sp fo sh ga sl _ hh.out).mono ?_; rintro e w1 ⟨rfl, hB1⟩; obtain ⟨hc1, hf1⟩ := bcell hB1)
          go_returns
          exact ⟨.inl ⟨hh.out, .inr (.inr h3), rfl⟩, by (repeat' (first | (with_reducible exact Below.refl _ _) | (with_reducible assumption) | (with_reducible refine Below.alloc ?_ ?_ _) | (with_reducible refine Below.drew ?_) | (with_reducible refine below_drewN ?_ _) | (with_reducible refine Below.setCell ?_ ?_ _) | (with_reducible refine Below.trans ?_ (Below.mono (by with_reducible assumption) ?_)) | go_size))⟩
        · go_enter Try.func23, Try.ntmps23
          go_wp2_with (go_at_call 25; refine (c25y la sp fo sh ga sl _ hh.out).mono ?_; rintro e w1 ⟨rfl, hB1⟩; obtain ⟨hc1, hf1⟩ := bcell hB1)
          go_returns
          refine ⟨.inr ⟨fun h => by rcases h.2 with h4 | h4 | h4 <;> omega, by first | rfl | simp [h1, h2, h3]⟩, by (repeat' (first | (with_reducible exact Below.refl _ _) | (with_reducible assumption) | (with_reducible refine Below.alloc ?_ ?_ _) | (with_reducible refine Below.drew ?_) | (with_reducible refine below_drewN ?_ _) | (with_reducible refine Below.setCell ?_ ?_ _) | (with_reducible refine Below.trans ?_ (Below.mono (by with_reducible assumption) ?_)) | go_size))⟩
  · have hh := hid h
    clear h
    go_enter Try.func23, Try.ntmps23
    go_wp2_with (go_at_call 25; refine (c25n la sp fo sh ga sl _ hh.out).mono ?_; rintro e w1 ⟨rfl, hB1⟩)
    go_returns
    exact ⟨.inr ⟨fun h => hh.out h.1, rfl⟩, by (repeat' (first | (with_reducible exact Below.refl _ _) | (with_reducible assumption) | (with_reducible refine Below.alloc ?_ ?_ _) | (with_reducible refine Below.drew ?_) | (with_reducible refine below_drewN ?_ _) | (with_reducible refine Below.setCell ?_ ?_ _) | (with_reducible refine Below.trans ?_ (Below.mono (by with_reducible assumption) ?_)) | go_size))⟩
/-- The law looks at it. -/
def Vld (la sp fo sh ga sl : Int) (t p v : Int) : Prop := VA la sp fo sh ga sl ∧ (0 ≤ t ∧ t ≤ la) ∧ VSt la sp p v ∧ la ≤ 10 ∧ sp ≤ 3
set_option maxHeartbeats 4000000 in
theorem c12 (la sp fo sh ga sl : Int) (t p v : Int) (w : World) : Calls Try.prog 12 #[.agg #[.int .i64 la, .int .i64 sp, .int .i64 fo, .int .i64 sh, .int .i64 ga, .int .i64 sl], .int .i64 t, .agg #[.int .i64 p, .int .i64 v]] w fun e w' => ((Vld la sp fo sh ga sl t p v ∧ e = .returned (.bool true)) ∨ ((¬ Vld la sp fo sh ga sl t p v) ∧ e = .returned (.bool false))) ∧ Below w.heap.size w w' := by
  go_enter Try.func12, Try.ntmps12
  go_wp2_with (first | (go_at_call 23; refine (c23 la sp fo sh ga sl _).mono ?_; rintro e w1 ⟨(⟨h1, h2, rfl⟩ | ⟨h1, rfl⟩), hB1⟩ <;> (obtain ⟨hc1, hf1⟩ := bcell hB1; have hz1 : w.heap.size + 1 < w1.heap.size := (by have := hB1.size; simp at this; omega))) | (go_at_call 34; refine (c34 la sp fo sh ga sl t p v _).mono ?_; rintro e w2 ⟨(⟨g1, g2, g3, rfl⟩ | ⟨g1, c, g2, g3, rfl⟩), hB2⟩))
  · go_returns
    refine ⟨.inr ⟨fun h => ?_, rfl⟩, by (repeat' (first | (with_reducible exact Below.refl _ _) | (with_reducible assumption) | (with_reducible refine Below.alloc ?_ ?_ _) | (with_reducible refine Below.drew ?_) | (with_reducible refine below_drewN ?_ _) | (with_reducible refine Below.setCell ?_ ?_ _) | (with_reducible refine Below.trans ?_ (Below.mono (by with_reducible assumption) ?_)) | go_size))⟩
    obtain ⟨k1, _, _, k4, k5⟩ := h
    have := k1.2.2.1
    rcases h2 with h2 | h2 | h2 <;> omega
  · go_returns
    exact ⟨.inl ⟨⟨g1, g2, g3, by
      rcases Int.lt_or_le 10 la with h | h
      · exact absurd ⟨g1, .inl h⟩ h1
      · exact h, by
      rcases Int.lt_or_le 3 sp with h | h
      · exact absurd ⟨g1, .inr (.inl h)⟩ h1
      · exact h⟩, rfl⟩, by (repeat' (first | (with_reducible exact Below.refl _ _) | (with_reducible assumption) | (with_reducible refine Below.alloc ?_ ?_ _) | (with_reducible refine Below.drew ?_) | (with_reducible refine below_drewN ?_ _) | (with_reducible refine Below.setCell ?_ ?_ _) | (with_reducible refine Below.trans ?_ (Below.mono (by with_reducible assumption) ?_)) | go_size))⟩
  · have hc : ((c : Int) == 0) = false := by simp only [beq_eq_false_iff_ne]; omega
    go_returns
    refine ⟨.inr ⟨fun h => g1 ⟨h.1, h.2.1, h.2.2.1⟩, by rw [hc]; rfl⟩, by (repeat' (first | (with_reducible exact Below.refl _ _) | (with_reducible assumption) | (with_reducible refine Below.alloc ?_ ?_ _) | (with_reducible refine Below.drew ?_) | (with_reducible refine below_drewN ?_ _) | (with_reducible refine Below.setCell ?_ ?_ _) | (with_reducible refine Below.trans ?_ (Below.mono (by with_reducible assumption) ?_)) | go_size))⟩
set_option maxHeartbeats 1000000 in
theorem c42 (w : World) : Calls Try.prog 42 #[] w fun e w' => e = .returned (.tuple #[.agg #[.int .i64 6, .int .i64 2, .int .i64 3, .int .i64 1, .int .i64 1, .int .i64 2], .agg #[.int .i64 6, .int .i64 2, .int .i64 3, .int .i64 0, .int .i64 0, .int .i64 0]]) ∧ Below w.heap.size w w' := by
  go_enter Try.func42, Try.ntmps42
  go_wp2_with fail
  go_returns
  exact ⟨rfl, by (repeat' (first | (with_reducible exact Below.refl _ _) | (with_reducible assumption) | (with_reducible refine Below.alloc ?_ ?_ _) | (with_reducible refine Below.drew ?_) | (with_reducible refine below_drewN ?_ _) | (with_reducible refine Below.setCell ?_ ?_ _) | (with_reducible refine Below.trans ?_ (Below.mono (by with_reducible assumption) ?_)) | go_size))⟩
end Go.Proofs.Ytajllhjoagldkaa
