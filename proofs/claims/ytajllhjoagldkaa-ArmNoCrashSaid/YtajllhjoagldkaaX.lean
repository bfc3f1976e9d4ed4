/- Stage 6: easier arms. -/
import Derived.Test.YtajllhjoagldkaaW
set_option linter.unusedSimpArgs false
set_option linter.unusedVariables false
namespace Go.Proofs.Ytajllhjoagldkaa
open Go.RowKit Go.Maps Go.WideMaps

theorem c12y {la sp fo sh ga sl t p v : Int} (w : World) (h : Vld la sp fo sh ga sl t p v) : Calls Try.prog 12 #[.agg #[.int .i64 la, .int .i64 sp, .int .i64 fo, .int .i64 sh, .int .i64 ga, .int .i64 sl], .int .i64 t, .agg #[.int .i64 p, .int .i64 v]] w fun e w' => e = .returned (.bool true) ∧ Below w.heap.size w w' :=
  (c12 la sp fo sh ga sl t p v w).mono fun e w' hr => by
    obtain ⟨(⟨_, rfl⟩ | ⟨h1, _⟩), hB⟩ := hr
    · exact ⟨rfl, hB⟩
    · exact absurd h h1
theorem c12n {la sp fo sh ga sl t p v : Int} (w : World) (h : ¬ Vld la sp fo sh ga sl t p v) : Calls Try.prog 12 #[.agg #[.int .i64 la, .int .i64 sp, .int .i64 fo, .int .i64 sh, .int .i64 ga, .int .i64 sl], .int .i64 t, .agg #[.int .i64 p, .int .i64 v]] w fun e w' => e = .returned (.bool false) ∧ Below w.heap.size w w' :=
  (c12 la sp fo sh ga sl t p v w).mono fun e w' hr => by
    obtain ⟨(⟨h1, _⟩ | ⟨_, rfl⟩), hB⟩ := hr
    · exact absurd h1 h
    · exact ⟨rfl, hB⟩
set_option maxHeartbeats 4000000 in
theorem c5n (la sp fo sh ga sl e1 e2 e3 e4 t p v : Int) (A : Option Addr) (n c : Nat) (w : World) (h : ¬ Vld la sp fo sh ga sl t p v) : Calls Try.prog 5 #[.agg #[.int .i64 la, .int .i64 sp, .int .i64 fo, .int .i64 sh, .int .i64 ga, .int .i64 sl], .agg #[.int .i64 e1, .int .i64 e2, .int .i64 e3, .int .i64 e4], .agg #[.int .i64 t, .int .i64 p, .int .i64 v, .slice A n c]] w (fun e w' => e = .returned (.bool true) ∧ Below w.heap.size w w') := by
  have hh := hid h
  clear h
  go_enter Try.func5, Try.ntmps5
  go_wp2_with (first | (go_at_call 12; refine (c12n _ hh.out).mono ?_; rintro e w1 ⟨rfl, hB1⟩; have hz1 : w.heap.size + 2 < w1.heap.size := (by have := hB1.size; simp at this; omega)) | (go_at_call 14; refine (c14 _).mono ?_; rintro e w2 ⟨rfl, hB2⟩))
  go_returns
  exact ⟨rfl, by (repeat' (first | (with_reducible exact Below.refl _ _) | (with_reducible assumption) | (with_reducible refine Below.alloc ?_ ?_ _) | (with_reducible refine Below.drew ?_) | (with_reducible refine below_drewN ?_ _) | (with_reducible refine Below.setCell ?_ ?_ _) | (with_reducible refine Below.trans ?_ (Below.mono (by with_reducible assumption) ?_)) | go_size))⟩
/-- By how much an arm is easier. -/
def EzB (e1 e2 e3 e4 : Int) : Prop := (¬ e1 < 0) ∧ (¬ 4 < e1) ∧ (¬ e2 < 0) ∧ (¬ 2 < e2) ∧ (¬ e3 < 0) ∧ (¬ 4 < e3) ∧ (¬ e4 < 0) ∧ (¬ 8 < e4)
set_option maxHeartbeats 4000000 in
theorem c5e (la sp fo sh ga sl e1 e2 e3 e4 t p v : Int) (A : Option Addr) (n c : Nat) (w : World) (h : Vld la sp fo sh ga sl t p v) (he : ¬ EzB e1 e2 e3 e4) : Calls Try.prog 5 #[.agg #[.int .i64 la, .int .i64 sp, .int .i64 fo, .int .i64 sh, .int .i64 ga, .int .i64 sl], .agg #[.int .i64 e1, .int .i64 e2, .int .i64 e3, .int .i64 e4], .agg #[.int .i64 t, .int .i64 p, .int .i64 v, .slice A n c]] w (fun e w' => e = .returned (.bool true) ∧ Below w.heap.size w w') := by
  have hh := hid h
  clear h
  by_cases h0 : e1 < 0
  case pos =>
    clear he
    go_enter Try.func5, Try.ntmps5
    go_wp2_with (first | (go_at_call 12; refine (c12y _ hh.out).mono ?_; rintro e w1 ⟨rfl, hB1⟩; obtain ⟨hc1, hf1⟩ := bcell hB1; have hz1 : w.heap.size + 2 < w1.heap.size := (by have := hB1.size; simp at this; omega)) | (go_at_call 14; refine (c14 _).mono ?_; rintro e w2 ⟨rfl, hB2⟩))
    go_returns
    exact ⟨rfl, by (repeat' (first | (with_reducible exact Below.refl _ _) | (with_reducible assumption) | (with_reducible refine Below.alloc ?_ ?_ _) | (with_reducible refine Below.drew ?_) | (with_reducible refine below_drewN ?_ _) | (with_reducible refine Below.setCell ?_ ?_ _) | (with_reducible refine Below.trans ?_ (Below.mono (by with_reducible assumption) ?_)) | go_size))⟩
  case neg =>
    by_cases h1 : 4 < e1
    case pos =>
      clear he
      go_enter Try.func5, Try.ntmps5
      go_wp2_with (first | (go_at_call 12; refine (c12y _ hh.out).mono ?_; rintro e w1 ⟨rfl, hB1⟩; obtain ⟨hc1, hf1⟩ := bcell hB1; have hz1 : w.heap.size + 2 < w1.heap.size := (by have := hB1.size; simp at this; omega)) | (go_at_call 14; refine (c14 _).mono ?_; rintro e w2 ⟨rfl, hB2⟩))
      go_returns
      exact ⟨rfl, by (repeat' (first | (with_reducible exact Below.refl _ _) | (with_reducible assumption) | (with_reducible refine Below.alloc ?_ ?_ _) | (with_reducible refine Below.drew ?_) | (with_reducible refine below_drewN ?_ _) | (with_reducible refine Below.setCell ?_ ?_ _) | (with_reducible refine Below.trans ?_ (Below.mono (by with_reducible assumption) ?_)) | go_size))⟩
    case neg =>
      by_cases h2 : e2 < 0
      case pos =>
        clear he
        go_enter Try.func5, Try.ntmps5
        go_wp2_with (first | (go_at_call 12; refine (c12y _ hh.out).mono ?_; rintro e w1 ⟨rfl, hB1⟩; obtain ⟨hc1, hf1⟩ := bcell hB1; have hz1 : w.heap.size + 2 < w1.heap.size := (by have := hB1.size; simp at this; omega)) | (go_at_call 14; refine (c14 _).mono ?_; rintro e w2 ⟨rfl, hB2⟩))
        go_returns
        exact ⟨rfl, by (repeat' (first | (with_reducible exact Below.refl _ _) | (with_reducible assumption) | (with_reducible refine Below.alloc ?_ ?_ _) | (with_reducible refine Below.drew ?_) | (with_reducible refine below_drewN ?_ _) | (with_reducible refine Below.setCell ?_ ?_ _) | (with_reducible refine Below.trans ?_ (Below.mono (by with_reducible assumption) ?_)) | go_size))⟩
      case neg =>
        by_cases h3 : 2 < e2
        case pos =>
          clear he
          go_enter Try.func5, Try.ntmps5
          go_wp2_with (first | (go_at_call 12; refine (c12y _ hh.out).mono ?_; rintro e w1 ⟨rfl, hB1⟩; obtain ⟨hc1, hf1⟩ := bcell hB1; have hz1 : w.heap.size + 2 < w1.heap.size := (by have := hB1.size; simp at this; omega)) | (go_at_call 14; refine (c14 _).mono ?_; rintro e w2 ⟨rfl, hB2⟩))
          go_returns
          exact ⟨rfl, by (repeat' (first | (with_reducible exact Below.refl _ _) | (with_reducible assumption) | (with_reducible refine Below.alloc ?_ ?_ _) | (with_reducible refine Below.drew ?_) | (with_reducible refine below_drewN ?_ _) | (with_reducible refine Below.setCell ?_ ?_ _) | (with_reducible refine Below.trans ?_ (Below.mono (by with_reducible assumption) ?_)) | go_size))⟩
        case neg =>
          by_cases h4 : e3 < 0
          case pos =>
            clear he
            go_enter Try.func5, Try.ntmps5
            go_wp2_with (first | (go_at_call 12; refine (c12y _ hh.out).mono ?_; rintro e w1 ⟨rfl, hB1⟩; obtain ⟨hc1, hf1⟩ := bcell hB1; have hz1 : w.heap.size + 2 < w1.heap.size := (by have := hB1.size; simp at this; omega)) | (go_at_call 14; refine (c14 _).mono ?_; rintro e w2 ⟨rfl, hB2⟩))
            go_returns
            exact ⟨rfl, by (repeat' (first | (with_reducible exact Below.refl _ _) | (with_reducible assumption) | (with_reducible refine Below.alloc ?_ ?_ _) | (with_reducible refine Below.drew ?_) | (with_reducible refine below_drewN ?_ _) | (with_reducible refine Below.setCell ?_ ?_ _) | (with_reducible refine Below.trans ?_ (Below.mono (by with_reducible assumption) ?_)) | go_size))⟩
          case neg =>
            by_cases h5 : 4 < e3
            case pos =>
              clear he
              go_enter Try.func5, Try.ntmps5
              go_wp2_with (first | (go_at_call 12; refine (c12y _ hh.out).mono ?_; rintro e w1 ⟨rfl, hB1⟩; obtain ⟨hc1, hf1⟩ := bcell hB1; have hz1 : w.heap.size + 2 < w1.heap.size := (by have := hB1.size; simp at this; omega)) | (go_at_call 14; refine (c14 _).mono ?_; rintro e w2 ⟨rfl, hB2⟩))
              go_returns
              exact ⟨rfl, by (repeat' (first | (with_reducible exact Below.refl _ _) | (with_reducible assumption) | (with_reducible refine Below.alloc ?_ ?_ _) | (with_reducible refine Below.drew ?_) | (with_reducible refine below_drewN ?_ _) | (with_reducible refine Below.setCell ?_ ?_ _) | (with_reducible refine Below.trans ?_ (Below.mono (by with_reducible assumption) ?_)) | go_size))⟩
            case neg =>
              by_cases h6 : e4 < 0
              case pos =>
                clear he
                go_enter Try.func5, Try.ntmps5
                go_wp2_with (first | (go_at_call 12; refine (c12y _ hh.out).mono ?_; rintro e w1 ⟨rfl, hB1⟩; obtain ⟨hc1, hf1⟩ := bcell hB1; have hz1 : w.heap.size + 2 < w1.heap.size := (by have := hB1.size; simp at this; omega)) | (go_at_call 14; refine (c14 _).mono ?_; rintro e w2 ⟨rfl, hB2⟩))
                go_returns
                exact ⟨rfl, by (repeat' (first | (with_reducible exact Below.refl _ _) | (with_reducible assumption) | (with_reducible refine Below.alloc ?_ ?_ _) | (with_reducible refine Below.drew ?_) | (with_reducible refine below_drewN ?_ _) | (with_reducible refine Below.setCell ?_ ?_ _) | (with_reducible refine Below.trans ?_ (Below.mono (by with_reducible assumption) ?_)) | go_size))⟩
              case neg =>
                by_cases h7 : 8 < e4
                case pos =>
                  clear he
                  go_enter Try.func5, Try.ntmps5
                  go_wp2_with (first | (go_at_call 12; refine (c12y _ hh.out).mono ?_; rintro e w1 ⟨rfl, hB1⟩; obtain ⟨hc1, hf1⟩ := bcell hB1; have hz1 : w.heap.size + 2 < w1.heap.size := (by have := hB1.size; simp at this; omega)) | (go_at_call 14; refine (c14 _).mono ?_; rintro e w2 ⟨rfl, hB2⟩))
                  go_returns
                  exact ⟨rfl, by (repeat' (first | (with_reducible exact Below.refl _ _) | (with_reducible assumption) | (with_reducible refine Below.alloc ?_ ?_ _) | (with_reducible refine Below.drew ?_) | (with_reducible refine below_drewN ?_ _) | (with_reducible refine Below.setCell ?_ ?_ _) | (with_reducible refine Below.trans ?_ (Below.mono (by with_reducible assumption) ?_)) | go_size))⟩
                case neg =>
                  exact absurd ⟨h0, h1, h2, h3, h4, h5, h6, h7⟩ he
end Go.Proofs.Ytajllhjoagldkaa
