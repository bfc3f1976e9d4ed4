/- Stage 6: what the references say of an arm, a target and a state. -/
import Derived.Test.YtajllhjoagldkaaL
set_option linter.unusedSimpArgs false
set_option linter.unusedVariables false
namespace Go.Proofs.Ytajllhjoagldkaa
open Go.RowKit Go.Maps Go.WideMaps

set_option maxHeartbeats 400000 in
theorem c41 (n l h : Int) (w : World) : Calls Try.prog 41 #[.int .i64 n, .int .i64 l, .int .i64 h] w fun e w' => e = .returned (.bool (decide (l ≤ n ∧ n ≤ h))) ∧ w = w' := by
  by_cases h1 : l ≤ n <;> by_cases h2 : n ≤ h <;> (go_enter Try.func41, Try.ntmps41; go_wp2; go_ret; simp [*])
theorem c41y {n l h : Int} (w : World) (p : l ≤ n ∧ n ≤ h) : Calls Try.prog 41 #[.int .i64 n, .int .i64 l, .int .i64 h] w fun e w' => e = .returned (.bool true) ∧ w = w' :=
  (c41 n l h w).mono fun _ _ hr => by rw [decide_eq_true p] at hr; exact hr
theorem c41n {n l h : Int} (w : World) (p : ¬ (l ≤ n ∧ n ≤ h)) : Calls Try.prog 41 #[.int .i64 n, .int .i64 l, .int .i64 h] w fun e w' => e = .returned (.bool false) ∧ w = w' :=
  (c41 n l h w).mono fun _ _ hr => by rw [decide_eq_false p] at hr; exact hr
/-- The numbers are those of a valid arm. -/
def VA (la sp fo sh ga sl : Int) : Prop := (0 ≤ la ∧ la ≤ 40) ∧ (0 ≤ sp ∧ sp ≤ 8) ∧ (0 ≤ fo ∧ fo ≤ 4) ∧ (0 ≤ sh ∧ sh ≤ 2) ∧ (0 ≤ ga ∧ ga ≤ 4) ∧ (0 ≤ sl ∧ sl ≤ sp)
set_option maxHeartbeats 2000000 in
theorem c25y (la sp fo sh ga sl : Int) (w : World) (h : VA la sp fo sh ga sl) : Calls Try.prog 25 #[.agg #[.int .i64 la, .int .i64 sp, .int .i64 fo, .int .i64 sh, .int .i64 ga, .int .i64 sl]] w fun e w' => e = .returned (.int .i64 0) ∧ Below w.heap.size w w' := by
  obtain ⟨h0, h1, h2, h3, h4, h5⟩ := h
  have k0 := hid h0
  have k1 := hid h1
  have k2 := hid h2
  have k3 := hid h3
  have k4 := hid h4
  have k5 := hid h5
  clear h0 h1 h2 h3 h4 h5
  go_enter Try.func25, Try.ntmps25
  go_wp2_with (go_at_call 41; first | (with_reducible refine (c41y _ k0.out).mono ?_; rintro e w' ⟨rfl, rfl⟩) | (with_reducible refine (c41y _ k1.out).mono ?_; rintro e w' ⟨rfl, rfl⟩) | (with_reducible refine (c41y _ k2.out).mono ?_; rintro e w' ⟨rfl, rfl⟩) | (with_reducible refine (c41y _ k3.out).mono ?_; rintro e w' ⟨rfl, rfl⟩) | (with_reducible refine (c41y _ k4.out).mono ?_; rintro e w' ⟨rfl, rfl⟩) | (with_reducible refine (c41y _ k5.out).mono ?_; rintro e w' ⟨rfl, rfl⟩))
  go_returns
  exact ⟨rfl, by (repeat' (first | (with_reducible exact Below.refl _ _) | (with_reducible assumption) | (with_reducible refine Below.alloc ?_ ?_ _) | (with_reducible refine Below.drew ?_) | (with_reducible refine below_drewN ?_ _) | (with_reducible refine Below.setCell ?_ ?_ _) | (with_reducible refine Below.trans ?_ (Below.mono (by with_reducible assumption) ?_)) | go_size))⟩
set_option maxHeartbeats 4000000 in
theorem c25n (la sp fo sh ga sl : Int) (w : World) (h : ¬ VA la sp fo sh ga sl) : Calls Try.prog 25 #[.agg #[.int .i64 la, .int .i64 sp, .int .i64 fo, .int .i64 sh, .int .i64 ga, .int .i64 sl]] w fun e w' => e = .returned (.int .i64 60) ∧ Below w.heap.size w w' := by
  by_cases h0 : (0 ≤ la ∧ la ≤ 40)
  case neg =>
    have n0 := hid h0
    clear h h0
    go_enter Try.func25, Try.ntmps25
    go_wp2_with (go_at_call 41; first  | (with_reducible refine (c41n _ n0.out).mono ?_; rintro e w' ⟨rfl, rfl⟩))
    go_returns
    exact ⟨rfl, by (repeat' (first | (with_reducible exact Below.refl _ _) | (with_reducible assumption) | (with_reducible refine Below.alloc ?_ ?_ _) | (with_reducible refine Below.drew ?_) | (with_reducible refine below_drewN ?_ _) | (with_reducible refine Below.setCell ?_ ?_ _) | (with_reducible refine Below.trans ?_ (Below.mono (by with_reducible assumption) ?_)) | go_size))⟩
  case pos =>
    by_cases h1 : (0 ≤ sp ∧ sp ≤ 8)
    case neg =>
      have n1 := hid h1
      have k0 := hid h0
      clear h h0 h1
      go_enter Try.func25, Try.ntmps25
      go_wp2_with (go_at_call 41; first | (with_reducible refine (c41y _ k0.out).mono ?_; rintro e w' ⟨rfl, rfl⟩) | (with_reducible refine (c41n _ n1.out).mono ?_; rintro e w' ⟨rfl, rfl⟩))
      go_returns
      exact ⟨rfl, by (repeat' (first | (with_reducible exact Below.refl _ _) | (with_reducible assumption) | (with_reducible refine Below.alloc ?_ ?_ _) | (with_reducible refine Below.drew ?_) | (with_reducible refine below_drewN ?_ _) | (with_reducible refine Below.setCell ?_ ?_ _) | (with_reducible refine Below.trans ?_ (Below.mono (by with_reducible assumption) ?_)) | go_size))⟩
    case pos =>
      by_cases h2 : (0 ≤ fo ∧ fo ≤ 4)
      case neg =>
        have n2 := hid h2
        have k0 := hid h0
        have k1 := hid h1
        clear h h0 h1 h2
        go_enter Try.func25, Try.ntmps25
        go_wp2_with (go_at_call 41; first | (with_reducible refine (c41y _ k0.out).mono ?_; rintro e w' ⟨rfl, rfl⟩) | (with_reducible refine (c41y _ k1.out).mono ?_; rintro e w' ⟨rfl, rfl⟩) | (with_reducible refine (c41n _ n2.out).mono ?_; rintro e w' ⟨rfl, rfl⟩))
        go_returns
        exact ⟨rfl, by (repeat' (first | (with_reducible exact Below.refl _ _) | (with_reducible assumption) | (with_reducible refine Below.alloc ?_ ?_ _) | (with_reducible refine Below.drew ?_) | (with_reducible refine below_drewN ?_ _) | (with_reducible refine Below.setCell ?_ ?_ _) | (with_reducible refine Below.trans ?_ (Below.mono (by with_reducible assumption) ?_)) | go_size))⟩
      case pos =>
        by_cases h3 : (0 ≤ sh ∧ sh ≤ 2)
        case neg =>
          have n3 := hid h3
          have k0 := hid h0
          have k1 := hid h1
          have k2 := hid h2
          clear h h0 h1 h2 h3
          go_enter Try.func25, Try.ntmps25
          go_wp2_with (go_at_call 41; first | (with_reducible refine (c41y _ k0.out).mono ?_; rintro e w' ⟨rfl, rfl⟩) | (with_reducible refine (c41y _ k1.out).mono ?_; rintro e w' ⟨rfl, rfl⟩) | (with_reducible refine (c41y _ k2.out).mono ?_; rintro e w' ⟨rfl, rfl⟩) | (with_reducible refine (c41n _ n3.out).mono ?_; rintro e w' ⟨rfl, rfl⟩))
          go_returns
          exact ⟨rfl, by (repeat' (first | (with_reducible exact Below.refl _ _) | (with_reducible assumption) | (with_reducible refine Below.alloc ?_ ?_ _) | (with_reducible refine Below.drew ?_) | (with_reducible refine below_drewN ?_ _) | (with_reducible refine Below.setCell ?_ ?_ _) | (with_reducible refine Below.trans ?_ (Below.mono (by with_reducible assumption) ?_)) | go_size))⟩
        case pos =>
          by_cases h4 : (0 ≤ ga ∧ ga ≤ 4)
          case neg =>
            have n4 := hid h4
            have k0 := hid h0
            have k1 := hid h1
            have k2 := hid h2
            have k3 := hid h3
            clear h h0 h1 h2 h3 h4
            go_enter Try.func25, Try.ntmps25
            go_wp2_with (go_at_call 41; first | (with_reducible refine (c41y _ k0.out).mono ?_; rintro e w' ⟨rfl, rfl⟩) | (with_reducible refine (c41y _ k1.out).mono ?_; rintro e w' ⟨rfl, rfl⟩) | (with_reducible refine (c41y _ k2.out).mono ?_; rintro e w' ⟨rfl, rfl⟩) | (with_reducible refine (c41y _ k3.out).mono ?_; rintro e w' ⟨rfl, rfl⟩) | (with_reducible refine (c41n _ n4.out).mono ?_; rintro e w' ⟨rfl, rfl⟩))
            go_returns
            exact ⟨rfl, by (repeat' (first | (with_reducible exact Below.refl _ _) | (with_reducible assumption) | (with_reducible refine Below.alloc ?_ ?_ _) | (with_reducible refine Below.drew ?_) | (with_reducible refine below_drewN ?_ _) | (with_reducible refine Below.setCell ?_ ?_ _) | (with_reducible refine Below.trans ?_ (Below.mono (by with_reducible assumption) ?_)) | go_size))⟩
          case pos =>
            by_cases h5 : (0 ≤ sl ∧ sl ≤ sp)
            case neg =>
              have n5 := hid h5
              have k0 := hid h0
              have k1 := hid h1
              have k2 := hid h2
              have k3 := hid h3
              have k4 := hid h4
              clear h h0 h1 h2 h3 h4 h5
              go_enter Try.func25, Try.ntmps25
              go_wp2_with (go_at_call 41; first | (with_reducible refine (c41y _ k0.out).mono ?_; rintro e w' ⟨rfl, rfl⟩) | (with_reducible refine (c41y _ k1.out).mono ?_; rintro e w' ⟨rfl, rfl⟩) | (with_reducible refine (c41y _ k2.out).mono ?_; rintro e w' ⟨rfl, rfl⟩) | (with_reducible refine (c41y _ k3.out).mono ?_; rintro e w' ⟨rfl, rfl⟩) | (with_reducible refine (c41y _ k4.out).mono ?_; rintro e w' ⟨rfl, rfl⟩) | (with_reducible refine (c41n _ n5.out).mono ?_; rintro e w' ⟨rfl, rfl⟩))
              go_returns
              exact ⟨rfl, by (repeat' (first | (with_reducible exact Below.refl _ _) | (with_reducible assumption) | (with_reducible refine Below.alloc ?_ ?_ _) | (with_reducible refine Below.drew ?_) | (with_reducible refine below_drewN ?_ _) | (with_reducible refine Below.setCell ?_ ?_ _) | (with_reducible refine Below.trans ?_ (Below.mono (by with_reducible assumption) ?_)) | go_size))⟩
            case pos =>
              exact absurd ⟨h0, h1, h2, h3, h4, h5⟩ h
set_option maxHeartbeats 2000000 in
theorem c54 (la sp fo sh ga sl : Int) (t : Int) (w : World) : Calls Try.prog 54 #[.agg #[.int .i64 la, .int .i64 sp, .int .i64 fo, .int .i64 sh, .int .i64 ga, .int .i64 sl], .int .i64 t] w fun e w' => (((¬ VA la sp fo sh ga sl) ∧ e = .returned (.int .i64 60)) ∨ (VA la sp fo sh ga sl ∧ ¬ (0 ≤ t ∧ t ≤ la) ∧ e = .returned (.int .i64 1)) ∨ (VA la sp fo sh ga sl ∧ (0 ≤ t ∧ t ≤ la) ∧ e = .returned (.int .i64 0))) ∧ Below w.heap.size w w' := by
  by_cases h : VA la sp fo sh ga sl
  · have hh := hid h
    by_cases ht : 0 ≤ t ∧ t ≤ la
    · have hth := hid ht
      clear h ht
      go_enter Try.func54, Try.ntmps54
      go_wp2_with (first | (go_at_call 25; refine (c25y la sp fo sh ga sl _ hh.out).mono ?_; rintro e w1 ⟨rfl, hB1⟩; obtain ⟨hc1, hf1⟩ := bcell hB1) | (go_at_call 41; refine (c41y _ hth.out).mono ?_; rintro e w' ⟨rfl, rfl⟩))
      go_returns
      exact ⟨.inr (.inr ⟨hh.out, hth.out, rfl⟩), by (repeat' (first | (with_reducible exact Below.refl _ _) | (with_reducible assumption) | (with_reducible refine Below.alloc ?_ ?_ _) | (with_reducible refine Below.drew ?_) | (with_reducible refine below_drewN ?_ _) | (with_reducible refine Below.setCell ?_ ?_ _) | (with_reducible refine Below.trans ?_ (Below.mono (by with_reducible assumption) ?_)) | go_size))⟩
    · have hth := hid ht
      clear h ht
      go_enter Try.func54, Try.ntmps54
      go_wp2_with (first | (go_at_call 25; refine (c25y la sp fo sh ga sl _ hh.out).mono ?_; rintro e w1 ⟨rfl, hB1⟩; obtain ⟨hc1, hf1⟩ := bcell hB1) | (go_at_call 41; refine (c41n _ hth.out).mono ?_; rintro e w' ⟨rfl, rfl⟩))
      go_returns
      exact ⟨.inr (.inl ⟨hh.out, hth.out, rfl⟩), by (repeat' (first | (with_reducible exact Below.refl _ _) | (with_reducible assumption) | (with_reducible refine Below.alloc ?_ ?_ _) | (with_reducible refine Below.drew ?_) | (with_reducible refine below_drewN ?_ _) | (with_reducible refine Below.setCell ?_ ?_ _) | (with_reducible refine Below.trans ?_ (Below.mono (by with_reducible assumption) ?_)) | go_size))⟩
  · have hh := hid h
    clear h
    go_enter Try.func54, Try.ntmps54
    go_wp2_with (go_at_call 25; refine (c25n la sp fo sh ga sl _ hh.out).mono ?_; rintro e w1 ⟨rfl, hB1⟩)
    go_returns
    exact ⟨.inl ⟨hh.out, rfl⟩, by (repeat' (first | (with_reducible exact Below.refl _ _) | (with_reducible assumption) | (with_reducible refine Below.alloc ?_ ?_ _) | (with_reducible refine Below.drew ?_) | (with_reducible refine below_drewN ?_ _) | (with_reducible refine Below.setCell ?_ ?_ _) | (with_reducible refine Below.trans ?_ (Below.mono (by with_reducible assumption) ?_)) | go_size))⟩
/-- The numbers are those of a state. -/
def VSt (la sp p v : Int) : Prop := (0 ≤ p ∧ p ≤ la) ∧ (-sp ≤ v ∧ v ≤ sp)
set_option maxHeartbeats 2000000 in
theorem c18y (la sp fo sh ga sl : Int) (p v : Int) (w : World) (h : VSt la sp p v) (hs : -100 ≤ sp ∧ sp ≤ 100) : Calls Try.prog 18 #[.agg #[.int .i64 la, .int .i64 sp, .int .i64 fo, .int .i64 sh, .int .i64 ga, .int .i64 sl], .agg #[.int .i64 p, .int .i64 v]] w (Bool1 true w) := by
  obtain ⟨h1, h2⟩ := h
  have k1 := hid h1; have k2 := hid h2
  clear h1 h2
  go_enter Try.func18, Try.ntmps18
  go_wp2_with (go_at_call 41; first | (with_reducible refine (c41y _ k1.out).mono ?_; rintro e w' ⟨rfl, rfl⟩) | (with_reducible refine (c41y _ k2.out).mono ?_; rintro e w' ⟨rfl, rfl⟩))
  go_returns
  exact ⟨rfl, by (repeat' (first | (with_reducible exact Below.refl _ _) | (with_reducible assumption) | (with_reducible refine Below.alloc ?_ ?_ _) | (with_reducible refine Below.drew ?_) | (with_reducible refine below_drewN ?_ _) | (with_reducible refine Below.setCell ?_ ?_ _) | (with_reducible refine Below.trans ?_ (Below.mono (by with_reducible assumption) ?_)) | go_size))⟩
set_option maxHeartbeats 2000000 in
theorem c18n (la sp fo sh ga sl : Int) (p v : Int) (w : World) (h : ¬ VSt la sp p v) (hs : -100 ≤ sp ∧ sp ≤ 100) : Calls Try.prog 18 #[.agg #[.int .i64 la, .int .i64 sp, .int .i64 fo, .int .i64 sh, .int .i64 ga, .int .i64 sl], .agg #[.int .i64 p, .int .i64 v]] w (Bool1 false w) := by
  by_cases h1 : 0 ≤ p ∧ p ≤ la
  · have h2 : ¬ (-sp ≤ v ∧ v ≤ sp) := fun h2 => h ⟨h1, h2⟩
    have k1 := hid h1; have k2 := hid h2
    clear h h1 h2
    go_enter Try.func18, Try.ntmps18
    go_wp2_with (go_at_call 41; first | (with_reducible refine (c41y _ k1.out).mono ?_; rintro e w' ⟨rfl, rfl⟩) | (with_reducible refine (c41n _ k2.out).mono ?_; rintro e w' ⟨rfl, rfl⟩))
    go_returns
    exact ⟨rfl, by (repeat' (first | (with_reducible exact Below.refl _ _) | (with_reducible assumption) | (with_reducible refine Below.alloc ?_ ?_ _) | (with_reducible refine Below.drew ?_) | (with_reducible refine below_drewN ?_ _) | (with_reducible refine Below.setCell ?_ ?_ _) | (with_reducible refine Below.trans ?_ (Below.mono (by with_reducible assumption) ?_)) | go_size))⟩
  · have k1 := hid h1
    clear h h1
    go_enter Try.func18, Try.ntmps18
    go_wp2_with (go_at_call 41; refine (c41n _ k1.out).mono ?_; rintro e w' ⟨rfl, rfl⟩)
    go_returns
    exact ⟨rfl, by (repeat' (first | (with_reducible exact Below.refl _ _) | (with_reducible assumption) | (with_reducible refine Below.alloc ?_ ?_ _) | (with_reducible refine Below.drew ?_) | (with_reducible refine below_drewN ?_ _) | (with_reducible refine Below.setCell ?_ ?_ _) | (with_reducible refine Below.trans ?_ (Below.mono (by with_reducible assumption) ?_)) | go_size))⟩
end Go.Proofs.Ytajllhjoagldkaa
