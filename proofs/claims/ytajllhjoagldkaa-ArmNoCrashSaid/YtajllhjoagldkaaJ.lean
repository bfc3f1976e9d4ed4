/- Stage 6: the states in which the arm can stay, and those from which it need never crash; an arm that is known. -/
import Derived.Test.YtajllhjoagldkaaH
import Derived.Test.YtajllhjoagldkaaI
import Derived.Deep.RegionHeld3
set_option linter.unusedSimpArgs false
set_option linter.unusedVariables false
namespace Go.Proofs.Ytajllhjoagldkaa
open Go.RowKit Go.Maps Go.WideMaps

/-- A map is handed back that reads as the greatest set. -/
def RetG (a : Ar) (g : Int → Int → Bool) (w : World) (e : Ending) (w' : World) : Prop := ∃ b n f, e = .returned (.map (some b)) ∧ SetM w' b n f ∧ n ≤ 697 ∧ Gr a g f ∧ w.heap.size ≤ b ∧ Below w.heap.size w w'
set_option maxHeartbeats 400000 in
theorem c71 (a : Ar) (t : Nat) (w : World) : Calls Try.prog 71 #[a.v, .int .i64 (t : Nat)] w fun e w' => ∃ x y, e = .returned (.func (.func 87) #[] #[.pointer (some ⟨x, 0, none⟩), .pointer (some ⟨y, 0, none⟩)]) ∧ w'.cell? ⟨x, 0, none⟩ = some (.int .i64 (t : Nat)) ∧ Abx a w' y ∧ x < w'.heap.size ∧ y < w'.heap.size ∧ Below w.heap.size w w' := by
  go_enter Try.func71, Try.ntmps71
  go_wp2_with fail
  go_returns
  refine ⟨w.heap.size + 1, w.heap.size, rfl, ?_, (Abx.newk a w).below (B := w.heap.size + 1) ((Below.refl _ _).alloc (by simp) _) (by omega), by simp, by simp; omega, by (repeat' (first | (with_reducible exact Below.refl _ _) | (with_reducible assumption) | (with_reducible refine Below.alloc ?_ ?_ _) | (with_reducible refine Below.drew ?_) | (with_reducible refine below_drewN ?_ _) | (with_reducible refine Below.setCell ?_ ?_ _) | (with_reducible refine Below.trans ?_ (Below.mono (by with_reducible assumption) ?_)) | go_size))⟩
  have := (Boxed.new (w.alloc (.cells #[.int .i64 (a.la : Nat), .int .i64 (a.sp : Nat), .int .i64 (a.fo : Nat), .int .i64 (a.sh : Nat), .int .i64 (a.ga : Nat), .int .i64 (a.sl : Nat)] 77)) 3 (.int .i64 (t : Nat))).cell
  rw [World.size_alloc] at this
  exact this
set_option maxHeartbeats 1000000 in
theorem c53 (a : Ar) (w : World) (ok : a.Ok) : Calls Try.prog 53 #[a.v] w (RetG a (fun _ _ => true) w) := by
  go_enter Try.func53, Try.ntmps53
  go_wp2_with (go_at_call 70; refine (c70_76 a (fun _ _ => true) _ ok (fun w' _ P V _ => c76 P V w')).mono ?_; rintro e w1 ⟨b, n, f, rfl, h1, h2, h3, h4, h5⟩)
  go_returns
  exact ⟨b, n, f, rfl, h1, h2, h3, by simp at h4; omega, by (repeat' (first | (with_reducible exact Below.refl _ _) | (with_reducible assumption) | (with_reducible refine Below.alloc ?_ ?_ _) | (with_reducible refine Below.drew ?_) | (with_reducible refine below_drewN ?_ _) | (with_reducible refine Below.setCell ?_ ?_ _) | (with_reducible refine Below.trans ?_ (Below.mono (by with_reducible assumption) ?_)) | go_size))⟩
set_option maxHeartbeats 2000000 in
theorem c45 (a : Ar) (t : Nat) (w : World) (ok : a.Ok) (ht : t ≤ 1000) : Calls Try.prog 45 #[a.v, .int .i64 (t : Nat)] w (RetG a (trB a t) w) := by
  go_enter Try.func45, Try.ntmps45
  go_wp2_with fail
  have hB0 : Below w.heap.size w (w.alloc (.cells #[.int .i64 (a.la : Nat), .int .i64 (a.sp : Nat), .int .i64 (a.fo : Nat), .int .i64 (a.sh : Nat), .int .i64 (a.ga : Nat), .int .i64 (a.sl : Nat)] 77)) := by (repeat' (first | (with_reducible exact Below.refl _ _) | (with_reducible assumption) | (with_reducible refine Below.alloc ?_ ?_ _) | (with_reducible refine Below.drew ?_) | (with_reducible refine below_drewN ?_ _) | (with_reducible refine Below.setCell ?_ ?_ _) | (with_reducible refine Below.trans ?_ (Below.mono (by with_reducible assumption) ?_)) | go_size))
  have hX0 : Abx a (w.alloc (.cells #[.int .i64 (a.la : Nat), .int .i64 (a.sp : Nat), .int .i64 (a.fo : Nat), .int .i64 (a.sh : Nat), .int .i64 (a.ga : Nat), .int .i64 (a.sl : Nat)] 77)) w.heap.size := Abx.newk a w
  have hs0 : w.heap.size < (w.alloc (.cells #[.int .i64 (a.la : Nat), .int .i64 (a.sp : Nat), .int .i64 (a.fo : Nat), .int .i64 (a.sh : Nat), .int .i64 (a.ga : Nat), .int .i64 (a.sl : Nat)] 77)).heap.size := by simp
  generalize w.alloc (.cells #[.int .i64 (a.la : Nat), .int .i64 (a.sp : Nat), .int .i64 (a.fo : Nat), .int .i64 (a.sh : Nat), .int .i64 (a.ga : Nat), .int .i64 (a.sl : Nat)] 77) = w0 at hB0 hX0 hs0 ⊢
  have hk0 := hid hX0.all
  clear hX0
  go_region_held3 (fun w' => w'.cell? ⟨w.heap.size, 0, none⟩ = some (.int .i64 (a.la : Nat)) ∧ w'.cell? ⟨w.heap.size, 1, none⟩ = some (.int .i64 (a.sp : Nat)) ∧ w'.cell? ⟨w.heap.size, 2, none⟩ = some (.int .i64 (a.fo : Nat)) ∧ w'.cell? ⟨w.heap.size, 3, none⟩ = some (.int .i64 (a.sh : Nat)) ∧ w'.cell? ⟨w.heap.size, 4, none⟩ = some (.int .i64 (a.ga : Nat)) ∧ w'.cell? ⟨w.heap.size, 5, none⟩ = some (.int .i64 (a.sl : Nat))) (first | exact hk0.out | exact hk3.out | exact hk4.out) (first | (go_at_call 71; refine (c71 a t _).mono ?_; rintro e w3 ⟨x, y, rfl, hx, hy, lx, ly, hB3⟩; have hB03 : Below w0.heap.size w0 w3 := (Below.refl _ _).drew.trans hB3; have hk3 := hid ((show Abx a w0 w.heap.size from hk0.out).below hB03 hs0).all) | (go_at_call 70; refine (c70_87 a x y (trB a t) w3 ok (fun w' hb P V hP => c87 a t P V w' x y ok ((hb.cell (p := ⟨x, 0, none⟩) lx).trans hx) (hy.below hb ly) (Nat.lt_of_lt_of_le lx hb.size) (Nat.lt_of_lt_of_le ly hb.size) ht hP)).mono ?_; rintro e w4 ⟨b, n, f, rfl, h1, h2, h3, h4, h5⟩; have hk4 := hid ((show Abx a w3 w.heap.size from hk3.out).below h5 (Nat.lt_of_lt_of_le hs0 hB03.size)).all))
  go_wp2_with fail
  go_returns
  have hs3 := hB03.size
  exact ⟨b, n, f, rfl, h1, h2, h3, by omega, hB0.trans ((hB03.trans (h5.mono hs3)).mono (by omega))⟩
/-- A slice of states. -/
structure Sps (w : World) (A : Option Addr) (b o : Nat) (L : List (Int × Int)) : Prop where
  ad : ∀ k, k < L.length → A = some ⟨b, o, none⟩
  lt : ∀ k, k < L.length → b < w.heap.size
  c0 : ∀ k (h : k < L.length), w.cell? ⟨b, o + k * 2, none⟩ = some (.int .i64 L[k].1)
  c1 : ∀ k (h : k < L.length), w.cell? ⟨b, o + k * 2 + 1, none⟩ = some (.int .i64 L[k].2)
theorem Sps.below {w w' : World} {B : Nat} {A : Option Addr} {b o : Nat} {L : List (Int × Int)} (h : Sps w A b o L) (hb : Below B w w') (hB : w.heap.size ≤ B) : Sps w' A b o L :=
  ⟨h.ad, fun k hk => Nat.lt_of_lt_of_le (h.lt k hk) hb.size, fun k hk => (hb.cell (p := ⟨b, o + k * 2, none⟩) (Nat.lt_of_lt_of_le (h.lt k hk) hB)).trans (h.c0 k hk), fun k hk => (hb.cell (p := ⟨b, o + k * 2 + 1, none⟩) (Nat.lt_of_lt_of_le (h.lt k hk) hB)).trans (h.c1 k hk)⟩
theorem Sps.ix {w : World} {A : Option Addr} {b o c : Nat} {L : List (Int × Int)} (h : Sps w A b o L) {k : Nat} (hk : k < L.length) (w' : World) :
    (Instr.indexAt 32 (.slice A L.length c) (.int .i64 k)).run Try.prog w' = .ok (.pointer (some ⟨b, o + k * 2, none⟩)) w' := by
  have h2 : (k : Int) < (L.length : Int) := by omega
  rw [h.ad k hk]
  go_simp
theorem Sps.nil (w : World) (A : Option Addr) (b o : Nat) : Sps w A b o [] := ⟨fun k h => absurd h (Nat.not_lt_zero _), fun k h => absurd h (Nat.not_lt_zero _), fun k h => absurd h (Nat.not_lt_zero _), fun k h => absurd h (Nat.not_lt_zero _)⟩
theorem flS_get (L : List (Int × Int)) : ∀ k (h : k < L.length), (flS L)[k * 2]? = some (.int .i64 L[k].1) ∧ (flS L)[k * 2 + 1]? = some (.int .i64 L[k].2) := by
  induction L with
  | nil => intro k h; exact absurd h (Nat.not_lt_zero _)
  | cons s L ih =>
    intro k h
    have e : flS (s :: L) = .int .i64 s.1 :: .int .i64 s.2 :: flS L := rfl
    cases k with
    | zero => simp [e]
    | succ k =>
      rw [e, show (k + 1) * 2 = k * 2 + 1 + 1 by omega]
      simp only [List.getElem?_cons_succ]
      exact ih k (by simpa using h)
theorem Sps.of_owns {w : World} {base : Nat} {v : Value} {L : List (Int × Int)} (h : w.ownsRow base 25 2 v L.length (flS L)) : ∃ A b c, v = .slice A L.length c ∧ Sps w A b 0 L ∧ (0 < L.length → base ≤ b) := by
  obtain ⟨_, ⟨h1, h2⟩ | ⟨g, cap, cur, h1, h3, h4, h5, h6, h7⟩⟩ := id h
  · obtain rfl : L = [] := List.eq_nil_of_length_eq_zero h2
    exact ⟨none, 0, 0, h1, Sps.nil _ _ _ _, fun h => absurd h (Nat.lt_irrefl _)⟩
  · subst h1
    have hcell := fun j => World.ownsRow.cellAt h j
    refine ⟨_, g, _, rfl, ⟨fun _ _ => rfl, fun _ _ => (Array.getElem?_eq_some_iff.1 h4).1, fun k hk => ?_, fun k hk => ?_⟩, fun _ => h3⟩
    · have := hcell (k * 2) (by omega)
      rw [(flS_get L k hk).1] at this
      rw [Nat.zero_add]; exact this
    · have := hcell (k * 2 + 1) (by omega)
      rw [(flS_get L k hk).2] at this
      rw [Nat.zero_add]; exact this
end Go.Proofs.Ytajllhjoagldkaa
