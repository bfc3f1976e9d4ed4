/- Stage 6: an arm as memory holds it; the functions that look at one state. -/
import Derived.Test.YtajllhjoagldkaaB
set_option linter.unusedSimpArgs false
set_option linter.unusedVariables false
namespace Go.Proofs.Ytajllhjoagldkaa
open Go.RowKit Go.Maps Go.WideMaps

/-- An arm. -/
structure Ar where
  la : Nat
  sp : Nat
  fo : Nat
  sh : Nat
  ga : Nat
  sl : Nat
@[reducible] def Ar.v (a : Ar) : Value := .agg #[.int .i64 (a.la : Nat), .int .i64 (a.sp : Nat), .int .i64 (a.fo : Nat), .int .i64 (a.sh : Nat), .int .i64 (a.ga : Nat), .int .i64 (a.sl : Nat)]
/-- An arm that is valid. -/
structure Ar.Ok (a : Ar) : Prop where
  l : a.la ≤ 40
  p : a.sp ≤ 8
  f : a.fo ≤ 4
  h : a.sh ≤ 2
  g : a.ga ≤ 4
  s : a.sl ≤ a.sp
def Abx (a : Ar) (w : World) (b : Nat) : Prop := w.cell? ⟨b, 0, none⟩ = some (.int .i64 (a.la : Nat)) ∧ w.cell? ⟨b, 1, none⟩ = some (.int .i64 (a.sp : Nat)) ∧ w.cell? ⟨b, 2, none⟩ = some (.int .i64 (a.fo : Nat)) ∧ w.cell? ⟨b, 3, none⟩ = some (.int .i64 (a.sh : Nat)) ∧ w.cell? ⟨b, 4, none⟩ = some (.int .i64 (a.ga : Nat)) ∧ w.cell? ⟨b, 5, none⟩ = some (.int .i64 (a.sl : Nat))
theorem Abx.all {a : Ar} {w : World} {b : Nat} (h : Abx a w b) : w.cell? ⟨b, 0, none⟩ = some (.int .i64 (a.la : Nat)) ∧ w.cell? ⟨b, 1, none⟩ = some (.int .i64 (a.sp : Nat)) ∧ w.cell? ⟨b, 2, none⟩ = some (.int .i64 (a.fo : Nat)) ∧ w.cell? ⟨b, 3, none⟩ = some (.int .i64 (a.sh : Nat)) ∧ w.cell? ⟨b, 4, none⟩ = some (.int .i64 (a.ga : Nat)) ∧ w.cell? ⟨b, 5, none⟩ = some (.int .i64 (a.sl : Nat)) := h
theorem Abx.keep {a : Ar} {w w' : World} {b : Nat} (h : Abx a w b) (k : ∀ o, w'.cell? ⟨b, o, none⟩ = w.cell? ⟨b, o, none⟩) : Abx a w' b := by
  obtain ⟨h1, h2, h3, h4, h5, h6⟩ := h.all
  exact ⟨(k _).trans h1, (k _).trans h2, (k _).trans h3, (k _).trans h4, (k _).trans h5, (k _).trans h6⟩
theorem Abx.below {a : Ar} {w w' : World} {b B : Nat} (h : Abx a w b) (hb : Below B w w') (hB : b < B) : Abx a w' b := h.keep fun o => hb.cell (p := ⟨b, o, none⟩) hB
theorem Abx.new (a : Ar) (w : World) : Abx a (w.alloc (.cells #[.int .i64 (a.la : Nat), .int .i64 (a.sp : Nat), .int .i64 (a.fo : Nat), .int .i64 (a.sh : Nat), .int .i64 (a.ga : Nat), .int .i64 (a.sl : Nat)] 23)) w.heap.size := by unfold Abx; simp
theorem Abx.newk (a : Ar) (w : World) : Abx a (w.alloc (.cells #[.int .i64 (a.la : Nat), .int .i64 (a.sp : Nat), .int .i64 (a.fo : Nat), .int .i64 (a.sh : Nat), .int .i64 (a.ga : Nat), .int .i64 (a.sl : Nat)] 77)) w.heap.size := by unfold Abx; simp

/-- p is a position of the arm, and v a speed of it. -/
def stB (a : Ar) (p v : Int) : Bool := decide (0 ≤ p ∧ p ≤ (a.la : Int)) && decide (-(a.sp : Int) ≤ v ∧ v ≤ (a.sp : Int))
theorem stB_iff {a : Ar} {p v : Int} : stB a p v = true ↔ (0 ≤ p ∧ p ≤ (a.la : Int)) ∧ (-(a.sp : Int) ≤ v ∧ v ≤ (a.sp : Int)) := by simp [stB]
/-- The arm is on track. -/
def trB (a : Ar) (t p v : Int) : Bool := decide (-(a.ga : Int) ≤ p - t ∧ p - t ≤ (a.ga : Int)) && decide (-(a.sl : Int) ≤ v ∧ v ≤ (a.sl : Int))

/-- Only new memory has been laid. -/
def Bool1 (x : Bool) (w : World) (e : Ending) (w' : World) : Prop := e = .returned (.bool x) ∧ Below w.heap.size w w'
set_option maxHeartbeats 400000 in
theorem c49 (n l h : Int) (w : World) : Calls Try.prog 49 #[.int .i64 n, .int .i64 l, .int .i64 h] w fun e w' => e = .returned (.bool (decide (l ≤ n ∧ n ≤ h))) ∧ w = w' := by
  by_cases h1 : l ≤ n <;> by_cases h2 : n ≤ h <;> (go_enter Try.func49, Try.ntmps49; go_wp2; go_ret; simp [*])
theorem c49y {n l h : Int} (w : World) (p : l ≤ n ∧ n ≤ h) : Calls Try.prog 49 #[.int .i64 n, .int .i64 l, .int .i64 h] w fun e w' => e = .returned (.bool true) ∧ w = w' :=
  (c49 n l h w).mono fun _ _ hr => by rw [decide_eq_true p] at hr; exact hr
theorem c49n {n l h : Int} (w : World) (p : ¬ (l ≤ n ∧ n ≤ h)) : Calls Try.prog 49 #[.int .i64 n, .int .i64 l, .int .i64 h] w fun e w' => e = .returned (.bool false) ∧ w = w' :=
  (c49 n l h w).mono fun _ _ hr => by rw [decide_eq_false p] at hr; exact hr
set_option maxHeartbeats 400000 in
theorem c51 (p v c : Int) (w : World) (hp : Sm p) (hv : -100 ≤ v ∧ v ≤ 100) (hc : -100 ≤ c ∧ c ≤ 100) : Calls Try.prog 51 #[.agg #[.int .i64 p, .int .i64 v], .int .i64 c] w fun e w' => e = .returned (.agg #[.int .i64 (p + (v + c)), .int .i64 (v + c)]) ∧ Below w.heap.size w w' := by
  obtain ⟨p1, p2⟩ := hp
  go_enter Try.func51, Try.ntmps51
  go_wp2_with fail
  go_returns
  exact ⟨rfl, by (repeat' (first | (with_reducible exact Below.refl _ _) | (with_reducible assumption) | (with_reducible refine Below.alloc ?_ ?_ _) | (with_reducible refine Below.drew ?_) | (with_reducible refine below_drewN ?_ _) | (with_reducible refine Below.setCell ?_ ?_ _) | (with_reducible refine Below.trans ?_ (Below.mono (by with_reducible assumption) ?_)) | go_size))⟩
set_option maxHeartbeats 1000000 in
theorem c67 (a : Ar) (p v : Int) (w : World) (ok : a.Ok) : Calls Try.prog 67 #[a.v, .agg #[.int .i64 p, .int .i64 v]] w (Bool1 (stB a p v) w) := by
  have l := ok.l; have s := ok.p
  by_cases h1 : 0 ≤ p ∧ p ≤ (a.la : Int)
  · have h1h := hid h1
    by_cases h2 : -(a.sp : Int) ≤ v ∧ v ≤ (a.sp : Int)
    · have hb : stB a p v = true := stB_iff.2 ⟨h1, h2⟩
      rw [hb]
      have h2h := hid h2
      clear h1 h2 hb
      go_enter Try.func67, Try.ntmps67
      go_wp2_with (go_at_call 49; refine (c49y _ (by first | exact h1h.out | exact h2h.out)).mono ?_; rintro e w' ⟨rfl, rfl⟩)
      go_returns
      exact ⟨rfl, by (repeat' (first | (with_reducible exact Below.refl _ _) | (with_reducible assumption) | (with_reducible refine Below.alloc ?_ ?_ _) | (with_reducible refine Below.drew ?_) | (with_reducible refine below_drewN ?_ _) | (with_reducible refine Below.setCell ?_ ?_ _) | (with_reducible refine Below.trans ?_ (Below.mono (by with_reducible assumption) ?_)) | go_size))⟩
    · have hb : stB a p v = false := by simp [stB, h2]
      rw [hb]
      have h2h := hid h2
      clear h1 h2 hb
      go_enter Try.func67, Try.ntmps67
      go_wp2_with (go_at_call 49; first | (with_reducible refine (c49y _ h1h.out).mono ?_; rintro e w' ⟨rfl, rfl⟩) | (with_reducible refine (c49n _ h2h.out).mono ?_; rintro e w' ⟨rfl, rfl⟩))
      go_returns
      exact ⟨rfl, by (repeat' (first | (with_reducible exact Below.refl _ _) | (with_reducible assumption) | (with_reducible refine Below.alloc ?_ ?_ _) | (with_reducible refine Below.drew ?_) | (with_reducible refine below_drewN ?_ _) | (with_reducible refine Below.setCell ?_ ?_ _) | (with_reducible refine Below.trans ?_ (Below.mono (by with_reducible assumption) ?_)) | go_size))⟩
  · have hb : stB a p v = false := by simp [stB, h1]
    rw [hb]
    have h1h := hid h1
    clear h1 hb
    go_enter Try.func67, Try.ntmps67
    go_wp2_with (go_at_call 49; refine (c49n _ h1h.out).mono ?_; rintro e w' ⟨rfl, rfl⟩)
    go_returns
    exact ⟨rfl, by (repeat' (first | (with_reducible exact Below.refl _ _) | (with_reducible assumption) | (with_reducible refine Below.alloc ?_ ?_ _) | (with_reducible refine Below.drew ?_) | (with_reducible refine below_drewN ?_ _) | (with_reducible refine Below.setCell ?_ ?_ _) | (with_reducible refine Below.trans ?_ (Below.mono (by with_reducible assumption) ?_)) | go_size))⟩
set_option maxHeartbeats 400000 in
theorem c69 {b n : Nat} {f : Int → Int → Bool} (p v : Int) (w : World) (h : SetM w b n f) (hp : Sm p) (hv : Sm v) : Calls Try.prog 69 #[.map (some b), .agg #[.int .i64 p, .int .i64 v]] w (Bool1 (f p v) w) := by
  have hl := (h.alloc (.cells #[.int .i64 p, .int .i64 v] 25)).look hp hv
  clear h hp hv
  go_enter Try.func69, Try.ntmps69
  go_wp2_with fail
  go_returns
  exact ⟨rfl, by (repeat' (first | (with_reducible exact Below.refl _ _) | (with_reducible assumption) | (with_reducible refine Below.alloc ?_ ?_ _) | (with_reducible refine Below.drew ?_) | (with_reducible refine below_drewN ?_ _) | (with_reducible refine Below.setCell ?_ ?_ _) | (with_reducible refine Below.trans ?_ (Below.mono (by with_reducible assumption) ?_)) | go_size))⟩
set_option maxHeartbeats 400000 in
theorem c76 (p v : Int) (w : World) : Calls Try.prog 76 #[.agg #[.int .i64 p, .int .i64 v]] w (Bool1 true w) := by
  go_enter Try.func76, Try.ntmps76
  go_wp2_with fail
  go_returns
  exact ⟨rfl, by (repeat' (first | (with_reducible exact Below.refl _ _) | (with_reducible assumption) | (with_reducible refine Below.alloc ?_ ?_ _) | (with_reducible refine Below.drew ?_) | (with_reducible refine below_drewN ?_ _) | (with_reducible refine Below.setCell ?_ ?_ _) | (with_reducible refine Below.trans ?_ (Below.mono (by with_reducible assumption) ?_)) | go_size))⟩
set_option maxHeartbeats 1000000 in
theorem c87 (a : Ar) (t : Nat) (p v : Int) (w : World) (x y : Nat) (ok : a.Ok) (hx : w.cell? ⟨x, 0, none⟩ = some (.int .i64 (t : Nat))) (hy : Abx a w y) (lx : x < w.heap.size) (ly : y < w.heap.size) (ht : t ≤ 1000) (hp : -1000 ≤ p ∧ p ≤ 1000) :
    Calls Try.prog 87 #[.agg #[.int .i64 p, .int .i64 v], .pointer (some ⟨x, 0, none⟩), .pointer (some ⟨y, 0, none⟩)] w (Bool1 (trB a t p v) w) := by
  have l := ok.g; have s := ok.s; have s1 := ok.p
  obtain ⟨y0, y1, y2, y3, y4, y5⟩ := hy.all
  clear y0 y1 y2 y3
  by_cases h1 : -(a.ga : Int) ≤ p - t ∧ p - t ≤ (a.ga : Int)
  · have h1h := hid h1
    by_cases h2 : -(a.sl : Int) ≤ v ∧ v ≤ (a.sl : Int)
    · have hb : trB a t p v = true := by simp [trB, h1, h2]
      rw [hb]
      have h2h := hid h2
      clear h1 h2 hb
      go_enter Try.func87, Try.ntmps87
      go_wp2_with (go_at_call 49; refine (c49y _ (by first | exact h1h.out | exact h2h.out)).mono ?_; rintro e w' ⟨rfl, rfl⟩)
      go_returns
      exact ⟨rfl, by (repeat' (first | (with_reducible exact Below.refl _ _) | (with_reducible assumption) | (with_reducible refine Below.alloc ?_ ?_ _) | (with_reducible refine Below.drew ?_) | (with_reducible refine below_drewN ?_ _) | (with_reducible refine Below.setCell ?_ ?_ _) | (with_reducible refine Below.trans ?_ (Below.mono (by with_reducible assumption) ?_)) | go_size))⟩
    · have hb : trB a t p v = false := by simp [trB, h2]
      rw [hb]
      have h2h := hid h2
      clear h1 h2 hb
      go_enter Try.func87, Try.ntmps87
      go_wp2_with (go_at_call 49; first | (with_reducible refine (c49y _ h1h.out).mono ?_; rintro e w' ⟨rfl, rfl⟩) | (with_reducible refine (c49n _ h2h.out).mono ?_; rintro e w' ⟨rfl, rfl⟩))
      go_returns
      exact ⟨rfl, by (repeat' (first | (with_reducible exact Below.refl _ _) | (with_reducible assumption) | (with_reducible refine Below.alloc ?_ ?_ _) | (with_reducible refine Below.drew ?_) | (with_reducible refine below_drewN ?_ _) | (with_reducible refine Below.setCell ?_ ?_ _) | (with_reducible refine Below.trans ?_ (Below.mono (by with_reducible assumption) ?_)) | go_size))⟩
  · have hb : trB a t p v = false := by simp only [trB, decide_eq_false h1, Bool.false_and]
    rw [hb]
    have h1h := hid h1
    clear h1 hb
    go_enter Try.func87, Try.ntmps87
    go_wp2_with (go_at_call 49; refine (c49n _ h1h.out).mono ?_; rintro e w' ⟨rfl, rfl⟩)
    go_returns
    exact ⟨rfl, by (repeat' (first | (with_reducible exact Below.refl _ _) | (with_reducible assumption) | (with_reducible refine Below.alloc ?_ ?_ _) | (with_reducible refine Below.drew ?_) | (with_reducible refine below_drewN ?_ _) | (with_reducible refine Below.setCell ?_ ?_ _) | (with_reducible refine Below.trans ?_ (Below.mono (by with_reducible assumption) ?_)) | go_size))⟩
end Go.Proofs.Ytajllhjoagldkaa
