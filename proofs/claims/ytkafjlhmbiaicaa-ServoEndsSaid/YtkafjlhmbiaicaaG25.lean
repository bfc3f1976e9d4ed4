/- Texts put together: Ri, Tl. -/
import Derived.Test.YtkafjlhmbiaicaaG20
import Derived.Test.YtkafjlhmbiaicaaG24
import Derived.Test.YtkafjlhmbiaicaaG14
/- Stage 2: the law of the write gate. -/
set_option linter.unusedSimpArgs false
set_option linter.unusedVariables false
namespace Go.Proofs.Ytkafjlhmbiaicaa
open Go.RowKit Go.Sort Go.BigFrame

theorem c17y {s : Sv} {g : Wg} {A : Option Addr} {b o n c : Nat} {f : Nat → Int} {A' : Option Addr} {b' o' m c' : Nat} {h : Nat → Int} {w : World} (hz : s.In w) (hg : g.In w) (hv : ValP s g) (hp : Ints w A b o n f) (hq : Ints w A' b' o' m h) (p : PosP s g f n h m) :
    Calls Try.prog 17 #[s.v, g.v, .agg #[.slice A n c, .slice A' m c']] w fun e w' => e = .returned (.bool true) ∧ Below w.heap.size w w' :=
  (c17 s g A b o n c f A' b' o' m c' h w hz hg hv hp hq).mono fun _ _ hr => by
    rcases hr with ⟨_, h1⟩ | ⟨h1, _⟩
    · exact h1
    · exact absurd p h1
theorem c17n {s : Sv} {g : Wg} {A : Option Addr} {b o n c : Nat} {f : Nat → Int} {A' : Option Addr} {b' o' m c' : Nat} {h : Nat → Int} {w : World} (hz : s.In w) (hg : g.In w) (hv : ValP s g) (hp : Ints w A b o n f) (hq : Ints w A' b' o' m h) (p : ¬ PosP s g f n h m) :
    Calls Try.prog 17 #[s.v, g.v, .agg #[.slice A n c, .slice A' m c']] w fun e w' => e = .returned (.bool false) ∧ Below w.heap.size w w' :=
  (c17 s g A b o n c f A' b' o' m c' h w hz hg hv hp hq).mono fun _ _ hr => by
    rcases hr with ⟨h1, _⟩ | ⟨_, h1⟩
    · exact absurd h1 p
    · exact h1

theorem PosP.flL {s : Sv} {g : Wg} {f : Nat → Int} {n : Nat} {h : Nat → Int} {m : Nat} (ok : s.Ok) (p : PosP s g f n h m) : fl s g (pos f (n - 1)) ≤ s.wr ∧ pos f (n - 1) < s.N := by
  have hx := (p.pth.1 (n - 1) (by have := p.n0; omega)).1.pos.2
  refine ⟨?_, hx⟩
  obtain ⟨k, hk⟩ : ∃ k, n = k + 1 := ⟨n - 1, by have := p.n0; omega⟩
  have h1 := p.mis
  have h2 := p.pth
  unfold fl
  rw [← h2.2, hk]
  rw [hk] at h1 h2 hx
  exact (flt_path k _ _ hx).2 ⟨pos f, h2.1.pth ok, rfl, h1⟩
theorem PosP.mnL {s : Sv} {g : Wg} {f : Nat → Int} {n : Nat} {h : Nat → Int} {m : Nat} (ok : s.Ok) (p : PosP s g f n h m) : mn s.N (fl s g) ≤ s.wr :=
  (mn_le (by have := ok.Nb.1; omega)).2 ⟨_, (p.flL ok).2, (p.flL ok).1⟩
/-- On a walk each further step is where the head can be then. -/
theorem PosP.mvnL {s : Sv} {g : Wg} {f : Nat → Int} {n : Nat} {h : Nat → Int} {m : Nat} (ok : s.Ok) (p : PosP s g f n h m) : ∀ k, k ≤ m → (0 ≤ wk f n h k ∧ (wk f n h k).toNat < s.N) ∧ mvn s.N s.m (fl s g) k (wk f n h k).toNat ≤ s.wr
  | 0, _ => by
    have h1 := p.flL ok
    have h2 := (p.pth.1 (n - 1) (by have := p.n0; omega)).1
    have e : wk f n h 0 = f (n - 1) := if_pos rfl
    rw [e]
    exact ⟨⟨h2.1, h1.2⟩, h1.1⟩
  | k + 1, hk => by
    have ih := PosP.mvnL ok p k (by omega)
    have hs := p.on k (by omega)
    have e : wk f n h (k + 1) = h k := by unfold wk; rw [if_neg (by omega)]; rfl
    have hm := ok.mb.1
    rw [e]
    have h1 := hs.1.1; have h2 := hs.1.2; have h3 := hs.2.1; have h4 := hs.2.2
    have hlt : (h k).toNat < s.N := by omega
    refine ⟨⟨h1, hlt⟩, (mvd_le hlt).2 ⟨_, ih.1.2, ?_, ?_, ih.2⟩⟩ <;> have := ih.1.1 <;> omega
theorem gtF_spec {s : Sv} {g : Wg} {t li : Int} : ∀ (d k0 : Nat), gtF s g t li d k0 ≤ k0 + d ∧ k0 ≤ gtF s g t li d k0 ∧ ∀ k, k0 ≤ k → k < gtF s g t li d k0 → gtP s g t li k
  | 0, k0 => ⟨Nat.le_refl _, Nat.le_refl _, fun k h1 h2 => by simp only [gtF] at h2; omega⟩
  | d + 1, k0 => by
    have ih := gtF_spec (s := s) (g := g) (t := t) (li := li) d (k0 + 1)
    simp only [gtF]
    by_cases hp : gtP s g t li k0
    · rw [if_pos hp]
      refine ⟨by omega, by omega, fun k h1 h2 => ?_⟩
      by_cases e : k = k0
      · subst e; exact hp
      · exact ih.2.2 k (by omega) h2
    · rw [if_neg hp]
      exact ⟨by omega, Nat.le_refl _, fun k h1 h2 => by omega⟩
theorem PosP.nearL {s : Sv} {g : Wg} {f : Nat → Int} {n : Nat} {h : Nat → Int} {m : Nat} (ok : s.Ok) (p : PosP s g f n h m) {t li : Int} {k : Nat} (hk : k < gate s g t li) (hm : k ≤ m) :
    -li ≤ wk f n h k - s.at_ t (g.wn + k - 1) ∧ wk f n h k - s.at_ t (g.wn + k - 1) ≤ li := by
  have h1 := (gtF_spec (s := s) (g := g) (t := t) (li := li) 24 0).2.2 k (by omega) hk
  have h2 := p.mvnL ok k hm
  have h3 := h1 _ h2.1.2 h2.2
  have e : ((wk f n h k).toNat : Int) = wk f n h k := by have := h2.1.1; omega
  rwa [e] at h3

set_option maxRecDepth 100000 in
set_option maxHeartbeats 4000000 in
theorem c5_skip (s : Sv) (g : Wg) (A : Option Addr) (b o n c : Nat) (f : Nat → Int) (A' : Option Addr) (b' o' m c' : Nat) (h : Nat → Int) (t li : Int) (w : World) (hz : s.In w) (hg : g.In w) (hp : Ints w A b o n f) (hq : Ints w A' b' o' m h)
    (hno : ¬ (ValP s g ∧ PosP s g f n h m ∧ (0 ≤ t ∧ t < s.tr) ∧ (0 ≤ li ∧ li ≤ 16))) :
    Calls Try.prog 5 #[s.v, g.v, .agg #[.slice A n c, .slice A' m c', .int .i64 t, .int .i64 li]] w fun e w' => e = .returned (.bool true) ∧ Below w.heap.size w w' := by
  by_cases hv0 : ValP s g
  · have hv := hid hv0
    by_cases hpo0 : PosP s g f n h m
    · have hpo := hid hpo0
      have hno' : ¬ ((0 ≤ t ∧ t < s.tr) ∧ (0 ≤ li ∧ li ≤ 16)) := fun hh => hno ⟨hv0, hpo0, hh⟩
      clear hno hv0 hpo0
      by_cases t1 : t < 0
      · have d1 : decide (t < 0) = true := by simpa using t1
        clear hno'
        go_enter Try.func5, Try.ntmps5
        go_wp2_with (first | (go_at_call 16; refine (c16y s g _ (hz.below (by (repeat' (first | (with_reducible exact Below.refl _ _) | (with_reducible assumption) | (with_reducible refine Below.alloc ?_ ?_ _) | (with_reducible refine Below.drew ?_) | (with_reducible refine below_drewN ?_ _) | (with_reducible refine Below.setCell ?_ ?_ _) | (with_reducible refine Below.trans ?_ (Below.mono (by with_reducible assumption) ?_)) | go_size))) (Nat.le_refl _)) (hg.below (by (repeat' (first | (with_reducible exact Below.refl _ _) | (with_reducible assumption) | (with_reducible refine Below.alloc ?_ ?_ _) | (with_reducible refine Below.drew ?_) | (with_reducible refine below_drewN ?_ _) | (with_reducible refine Below.setCell ?_ ?_ _) | (with_reducible refine Below.trans ?_ (Below.mono (by with_reducible assumption) ?_)) | go_size))) (Nat.le_refl _)) hv.out).mono ?_; rintro e w1 ⟨rfl, hB1⟩; have hz1 : w.heap.size + 2 ≤ w1.heap.size := (by have := hB1.size; simp at this; omega); have hBx : Below w.heap.size w w1 := Below.trans (by (repeat' (first | (with_reducible exact Below.refl _ _) | (with_reducible assumption) | (with_reducible refine Below.alloc ?_ ?_ _) | (with_reducible refine Below.drew ?_) | (with_reducible refine below_drewN ?_ _) | (with_reducible refine Below.setCell ?_ ?_ _) | (with_reducible refine Below.trans ?_ (Below.mono (by with_reducible assumption) ?_)) | go_size))) (hB1.mono (by simp; omega)); have sv1 := Svb.below ((Svb.new s w).below (B := w.heap.size + 1) (by (repeat' (first | (with_reducible exact Below.refl _ _) | (with_reducible assumption) | (with_reducible refine Below.alloc ?_ ?_ _) | (with_reducible refine Below.drew ?_) | (with_reducible refine below_drewN ?_ _) | (with_reducible refine Below.setCell ?_ ?_ _) | (with_reducible refine Below.trans ?_ (Below.mono (by with_reducible assumption) ?_)) | go_size))) (by omega)) hB1 (by simp; omega); obtain ⟨k0, k1, k2, k3, k4, k5⟩ := sv1.all; obtain ⟨hc1, _⟩ := bcell (hB1.mono (show w.heap.size + 2 ≤ _ by simp)); have x0 : w1.cell? ⟨w.heap.size + 1, 0, none⟩ = some (.slice A n c) := (by rw [hc1 _ _ (by omega)]; simp); have x1 : w1.cell? ⟨w.heap.size + 1, 1, none⟩ = some (.slice A' m c') := (by rw [hc1 _ _ (by omega)]; simp); have x2 : w1.cell? ⟨w.heap.size + 1, 2, none⟩ = some (.int .i64 t) := (by rw [hc1 _ _ (by omega)]; simp); have x3 : w1.cell? ⟨w.heap.size + 1, 3, none⟩ = some (.int .i64 li) := (by rw [hc1 _ _ (by omega)]; simp); clear hc1) | (go_at_call 17; refine (c17y (hz.below hBx (Nat.le_refl _)) (hg.below hBx (Nat.le_refl _)) hv.out (hp.below hBx (Nat.le_refl _)) (hq.below hBx (Nat.le_refl _)) hpo.out).mono ?_; rintro e w2 ⟨rfl, hB2⟩; have hBy : Below w.heap.size w w2 := hBx.trans (hB2.mono hBx.size); have sv2 := sv1.below hB2 (by omega); obtain ⟨j0, j1, j2, j3, j4, j5⟩ := sv2.all; obtain ⟨hc2, _⟩ := bcell hB2; have z0 : w2.cell? ⟨w.heap.size + 1, 0, none⟩ = some (.slice A n c) := (by rw [hc2 _ _ (by omega)]; exact x0); have z1 : w2.cell? ⟨w.heap.size + 1, 1, none⟩ = some (.slice A' m c') := (by rw [hc2 _ _ (by omega)]; exact x1); have z2 : w2.cell? ⟨w.heap.size + 1, 2, none⟩ = some (.int .i64 t) := (by rw [hc2 _ _ (by omega)]; exact x2); have z3 : w2.cell? ⟨w.heap.size + 1, 3, none⟩ = some (.int .i64 li) := (by rw [hc2 _ _ (by omega)]; exact x3); clear hc2) | (go_at_call 13; refine (c13 _).mono ?_; rintro e w9 ⟨rfl, hB9⟩))
        go_returns
        exact ⟨rfl, hBy.trans (hB9.mono hBy.size)⟩
      · have d1 : decide (t < 0) = false := by simpa using t1
        by_cases t2 : s.tr ≤ t
        · have d2 : decide (s.tr ≤ t) = true := by simpa using t2
          clear hno'
          go_enter Try.func5, Try.ntmps5
          go_wp2_with (first | (go_at_call 16; refine (c16y s g _ (hz.below (by (repeat' (first | (with_reducible exact Below.refl _ _) | (with_reducible assumption) | (with_reducible refine Below.alloc ?_ ?_ _) | (with_reducible refine Below.drew ?_) | (with_reducible refine below_drewN ?_ _) | (with_reducible refine Below.setCell ?_ ?_ _) | (with_reducible refine Below.trans ?_ (Below.mono (by with_reducible assumption) ?_)) | go_size))) (Nat.le_refl _)) (hg.below (by (repeat' (first | (with_reducible exact Below.refl _ _) | (with_reducible assumption) | (with_reducible refine Below.alloc ?_ ?_ _) | (with_reducible refine Below.drew ?_) | (with_reducible refine below_drewN ?_ _) | (with_reducible refine Below.setCell ?_ ?_ _) | (with_reducible refine Below.trans ?_ (Below.mono (by with_reducible assumption) ?_)) | go_size))) (Nat.le_refl _)) hv.out).mono ?_; rintro e w1 ⟨rfl, hB1⟩; have hz1 : w.heap.size + 2 ≤ w1.heap.size := (by have := hB1.size; simp at this; omega); have hBx : Below w.heap.size w w1 := Below.trans (by (repeat' (first | (with_reducible exact Below.refl _ _) | (with_reducible assumption) | (with_reducible refine Below.alloc ?_ ?_ _) | (with_reducible refine Below.drew ?_) | (with_reducible refine below_drewN ?_ _) | (with_reducible refine Below.setCell ?_ ?_ _) | (with_reducible refine Below.trans ?_ (Below.mono (by with_reducible assumption) ?_)) | go_size))) (hB1.mono (by simp; omega)); have sv1 := Svb.below ((Svb.new s w).below (B := w.heap.size + 1) (by (repeat' (first | (with_reducible exact Below.refl _ _) | (with_reducible assumption) | (with_reducible refine Below.alloc ?_ ?_ _) | (with_reducible refine Below.drew ?_) | (with_reducible refine below_drewN ?_ _) | (with_reducible refine Below.setCell ?_ ?_ _) | (with_reducible refine Below.trans ?_ (Below.mono (by with_reducible assumption) ?_)) | go_size))) (by omega)) hB1 (by simp; omega); obtain ⟨k0, k1, k2, k3, k4, k5⟩ := sv1.all; obtain ⟨hc1, _⟩ := bcell (hB1.mono (show w.heap.size + 2 ≤ _ by simp)); have x0 : w1.cell? ⟨w.heap.size + 1, 0, none⟩ = some (.slice A n c) := (by rw [hc1 _ _ (by omega)]; simp); have x1 : w1.cell? ⟨w.heap.size + 1, 1, none⟩ = some (.slice A' m c') := (by rw [hc1 _ _ (by omega)]; simp); have x2 : w1.cell? ⟨w.heap.size + 1, 2, none⟩ = some (.int .i64 t) := (by rw [hc1 _ _ (by omega)]; simp); have x3 : w1.cell? ⟨w.heap.size + 1, 3, none⟩ = some (.int .i64 li) := (by rw [hc1 _ _ (by omega)]; simp); clear hc1) | (go_at_call 17; refine (c17y (hz.below hBx (Nat.le_refl _)) (hg.below hBx (Nat.le_refl _)) hv.out (hp.below hBx (Nat.le_refl _)) (hq.below hBx (Nat.le_refl _)) hpo.out).mono ?_; rintro e w2 ⟨rfl, hB2⟩; have hBy : Below w.heap.size w w2 := hBx.trans (hB2.mono hBx.size); have sv2 := sv1.below hB2 (by omega); obtain ⟨j0, j1, j2, j3, j4, j5⟩ := sv2.all; obtain ⟨hc2, _⟩ := bcell hB2; have z0 : w2.cell? ⟨w.heap.size + 1, 0, none⟩ = some (.slice A n c) := (by rw [hc2 _ _ (by omega)]; exact x0); have z1 : w2.cell? ⟨w.heap.size + 1, 1, none⟩ = some (.slice A' m c') := (by rw [hc2 _ _ (by omega)]; exact x1); have z2 : w2.cell? ⟨w.heap.size + 1, 2, none⟩ = some (.int .i64 t) := (by rw [hc2 _ _ (by omega)]; exact x2); have z3 : w2.cell? ⟨w.heap.size + 1, 3, none⟩ = some (.int .i64 li) := (by rw [hc2 _ _ (by omega)]; exact x3); clear hc2) | (go_at_call 13; refine (c13 _).mono ?_; rintro e w9 ⟨rfl, hB9⟩))
          go_returns
          exact ⟨rfl, hBy.trans (hB9.mono hBy.size)⟩
        · have d2 : decide (s.tr ≤ t) = false := by simpa using t2
          by_cases l1 : li < 0
          · have d3 : decide (li < 0) = true := by simpa using l1
            clear hno'
            go_enter Try.func5, Try.ntmps5
            go_wp2_with (first | (go_at_call 16; refine (c16y s g _ (hz.below (by (repeat' (first | (with_reducible exact Below.refl _ _) | (with_reducible assumption) | (with_reducible refine Below.alloc ?_ ?_ _) | (with_reducible refine Below.drew ?_) | (with_reducible refine below_drewN ?_ _) | (with_reducible refine Below.setCell ?_ ?_ _) | (with_reducible refine Below.trans ?_ (Below.mono (by with_reducible assumption) ?_)) | go_size))) (Nat.le_refl _)) (hg.below (by (repeat' (first | (with_reducible exact Below.refl _ _) | (with_reducible assumption) | (with_reducible refine Below.alloc ?_ ?_ _) | (with_reducible refine Below.drew ?_) | (with_reducible refine below_drewN ?_ _) | (with_reducible refine Below.setCell ?_ ?_ _) | (with_reducible refine Below.trans ?_ (Below.mono (by with_reducible assumption) ?_)) | go_size))) (Nat.le_refl _)) hv.out).mono ?_; rintro e w1 ⟨rfl, hB1⟩; have hz1 : w.heap.size + 2 ≤ w1.heap.size := (by have := hB1.size; simp at this; omega); have hBx : Below w.heap.size w w1 := Below.trans (by (repeat' (first | (with_reducible exact Below.refl _ _) | (with_reducible assumption) | (with_reducible refine Below.alloc ?_ ?_ _) | (with_reducible refine Below.drew ?_) | (with_reducible refine below_drewN ?_ _) | (with_reducible refine Below.setCell ?_ ?_ _) | (with_reducible refine Below.trans ?_ (Below.mono (by with_reducible assumption) ?_)) | go_size))) (hB1.mono (by simp; omega)); have sv1 := Svb.below ((Svb.new s w).below (B := w.heap.size + 1) (by (repeat' (first | (with_reducible exact Below.refl _ _) | (with_reducible assumption) | (with_reducible refine Below.alloc ?_ ?_ _) | (with_reducible refine Below.drew ?_) | (with_reducible refine below_drewN ?_ _) | (with_reducible refine Below.setCell ?_ ?_ _) | (with_reducible refine Below.trans ?_ (Below.mono (by with_reducible assumption) ?_)) | go_size))) (by omega)) hB1 (by simp; omega); obtain ⟨k0, k1, k2, k3, k4, k5⟩ := sv1.all; obtain ⟨hc1, _⟩ := bcell (hB1.mono (show w.heap.size + 2 ≤ _ by simp)); have x0 : w1.cell? ⟨w.heap.size + 1, 0, none⟩ = some (.slice A n c) := (by rw [hc1 _ _ (by omega)]; simp); have x1 : w1.cell? ⟨w.heap.size + 1, 1, none⟩ = some (.slice A' m c') := (by rw [hc1 _ _ (by omega)]; simp); have x2 : w1.cell? ⟨w.heap.size + 1, 2, none⟩ = some (.int .i64 t) := (by rw [hc1 _ _ (by omega)]; simp); have x3 : w1.cell? ⟨w.heap.size + 1, 3, none⟩ = some (.int .i64 li) := (by rw [hc1 _ _ (by omega)]; simp); clear hc1) | (go_at_call 17; refine (c17y (hz.below hBx (Nat.le_refl _)) (hg.below hBx (Nat.le_refl _)) hv.out (hp.below hBx (Nat.le_refl _)) (hq.below hBx (Nat.le_refl _)) hpo.out).mono ?_; rintro e w2 ⟨rfl, hB2⟩; have hBy : Below w.heap.size w w2 := hBx.trans (hB2.mono hBx.size); have sv2 := sv1.below hB2 (by omega); obtain ⟨j0, j1, j2, j3, j4, j5⟩ := sv2.all; obtain ⟨hc2, _⟩ := bcell hB2; have z0 : w2.cell? ⟨w.heap.size + 1, 0, none⟩ = some (.slice A n c) := (by rw [hc2 _ _ (by omega)]; exact x0); have z1 : w2.cell? ⟨w.heap.size + 1, 1, none⟩ = some (.slice A' m c') := (by rw [hc2 _ _ (by omega)]; exact x1); have z2 : w2.cell? ⟨w.heap.size + 1, 2, none⟩ = some (.int .i64 t) := (by rw [hc2 _ _ (by omega)]; exact x2); have z3 : w2.cell? ⟨w.heap.size + 1, 3, none⟩ = some (.int .i64 li) := (by rw [hc2 _ _ (by omega)]; exact x3); clear hc2) | (go_at_call 13; refine (c13 _).mono ?_; rintro e w9 ⟨rfl, hB9⟩))
            go_returns
            exact ⟨rfl, hBy.trans (hB9.mono hBy.size)⟩
          · have d3 : decide (li < 0) = false := by simpa using l1
            have l2 : 16 < li := by omega
            have d4 : decide (16 < li) = true := by simpa using l2
            clear hno'
            go_enter Try.func5, Try.ntmps5
            go_wp2_with (first | (go_at_call 16; refine (c16y s g _ (hz.below (by (repeat' (first | (with_reducible exact Below.refl _ _) | (with_reducible assumption) | (with_reducible refine Below.alloc ?_ ?_ _) | (with_reducible refine Below.drew ?_) | (with_reducible refine below_drewN ?_ _) | (with_reducible refine Below.setCell ?_ ?_ _) | (with_reducible refine Below.trans ?_ (Below.mono (by with_reducible assumption) ?_)) | go_size))) (Nat.le_refl _)) (hg.below (by (repeat' (first | (with_reducible exact Below.refl _ _) | (with_reducible assumption) | (with_reducible refine Below.alloc ?_ ?_ _) | (with_reducible refine Below.drew ?_) | (with_reducible refine below_drewN ?_ _) | (with_reducible refine Below.setCell ?_ ?_ _) | (with_reducible refine Below.trans ?_ (Below.mono (by with_reducible assumption) ?_)) | go_size))) (Nat.le_refl _)) hv.out).mono ?_; rintro e w1 ⟨rfl, hB1⟩; have hz1 : w.heap.size + 2 ≤ w1.heap.size := (by have := hB1.size; simp at this; omega); have hBx : Below w.heap.size w w1 := Below.trans (by (repeat' (first | (with_reducible exact Below.refl _ _) | (with_reducible assumption) | (with_reducible refine Below.alloc ?_ ?_ _) | (with_reducible refine Below.drew ?_) | (with_reducible refine below_drewN ?_ _) | (with_reducible refine Below.setCell ?_ ?_ _) | (with_reducible refine Below.trans ?_ (Below.mono (by with_reducible assumption) ?_)) | go_size))) (hB1.mono (by simp; omega)); have sv1 := Svb.below ((Svb.new s w).below (B := w.heap.size + 1) (by (repeat' (first | (with_reducible exact Below.refl _ _) | (with_reducible assumption) | (with_reducible refine Below.alloc ?_ ?_ _) | (with_reducible refine Below.drew ?_) | (with_reducible refine below_drewN ?_ _) | (with_reducible refine Below.setCell ?_ ?_ _) | (with_reducible refine Below.trans ?_ (Below.mono (by with_reducible assumption) ?_)) | go_size))) (by omega)) hB1 (by simp; omega); obtain ⟨k0, k1, k2, k3, k4, k5⟩ := sv1.all; obtain ⟨hc1, _⟩ := bcell (hB1.mono (show w.heap.size + 2 ≤ _ by simp)); have x0 : w1.cell? ⟨w.heap.size + 1, 0, none⟩ = some (.slice A n c) := (by rw [hc1 _ _ (by omega)]; simp); have x1 : w1.cell? ⟨w.heap.size + 1, 1, none⟩ = some (.slice A' m c') := (by rw [hc1 _ _ (by omega)]; simp); have x2 : w1.cell? ⟨w.heap.size + 1, 2, none⟩ = some (.int .i64 t) := (by rw [hc1 _ _ (by omega)]; simp); have x3 : w1.cell? ⟨w.heap.size + 1, 3, none⟩ = some (.int .i64 li) := (by rw [hc1 _ _ (by omega)]; simp); clear hc1) | (go_at_call 17; refine (c17y (hz.below hBx (Nat.le_refl _)) (hg.below hBx (Nat.le_refl _)) hv.out (hp.below hBx (Nat.le_refl _)) (hq.below hBx (Nat.le_refl _)) hpo.out).mono ?_; rintro e w2 ⟨rfl, hB2⟩; have hBy : Below w.heap.size w w2 := hBx.trans (hB2.mono hBx.size); have sv2 := sv1.below hB2 (by omega); obtain ⟨j0, j1, j2, j3, j4, j5⟩ := sv2.all; obtain ⟨hc2, _⟩ := bcell hB2; have z0 : w2.cell? ⟨w.heap.size + 1, 0, none⟩ = some (.slice A n c) := (by rw [hc2 _ _ (by omega)]; exact x0); have z1 : w2.cell? ⟨w.heap.size + 1, 1, none⟩ = some (.slice A' m c') := (by rw [hc2 _ _ (by omega)]; exact x1); have z2 : w2.cell? ⟨w.heap.size + 1, 2, none⟩ = some (.int .i64 t) := (by rw [hc2 _ _ (by omega)]; exact x2); have z3 : w2.cell? ⟨w.heap.size + 1, 3, none⟩ = some (.int .i64 li) := (by rw [hc2 _ _ (by omega)]; exact x3); clear hc2) | (go_at_call 13; refine (c13 _).mono ?_; rintro e w9 ⟨rfl, hB9⟩))
            go_returns
            exact ⟨rfl, hBy.trans (hB9.mono hBy.size)⟩
    · have hpo := hid hpo0
      clear hno hv0 hpo0
      go_enter Try.func5, Try.ntmps5
      go_wp2_with (first | (go_at_call 16; refine (c16y s g _ (hz.below (by (repeat' (first | (with_reducible exact Below.refl _ _) | (with_reducible assumption) | (with_reducible refine Below.alloc ?_ ?_ _) | (with_reducible refine Below.drew ?_) | (with_reducible refine below_drewN ?_ _) | (with_reducible refine Below.setCell ?_ ?_ _) | (with_reducible refine Below.trans ?_ (Below.mono (by with_reducible assumption) ?_)) | go_size))) (Nat.le_refl _)) (hg.below (by (repeat' (first | (with_reducible exact Below.refl _ _) | (with_reducible assumption) | (with_reducible refine Below.alloc ?_ ?_ _) | (with_reducible refine Below.drew ?_) | (with_reducible refine below_drewN ?_ _) | (with_reducible refine Below.setCell ?_ ?_ _) | (with_reducible refine Below.trans ?_ (Below.mono (by with_reducible assumption) ?_)) | go_size))) (Nat.le_refl _)) hv.out).mono ?_; rintro e w1 ⟨rfl, hB1⟩; have hz1 : w.heap.size + 2 ≤ w1.heap.size := (by have := hB1.size; simp at this; omega); have hBx : Below w.heap.size w w1 := Below.trans (by (repeat' (first | (with_reducible exact Below.refl _ _) | (with_reducible assumption) | (with_reducible refine Below.alloc ?_ ?_ _) | (with_reducible refine Below.drew ?_) | (with_reducible refine below_drewN ?_ _) | (with_reducible refine Below.setCell ?_ ?_ _) | (with_reducible refine Below.trans ?_ (Below.mono (by with_reducible assumption) ?_)) | go_size))) (hB1.mono (by simp; omega)); have sv1 := Svb.below ((Svb.new s w).below (B := w.heap.size + 1) (by (repeat' (first | (with_reducible exact Below.refl _ _) | (with_reducible assumption) | (with_reducible refine Below.alloc ?_ ?_ _) | (with_reducible refine Below.drew ?_) | (with_reducible refine below_drewN ?_ _) | (with_reducible refine Below.setCell ?_ ?_ _) | (with_reducible refine Below.trans ?_ (Below.mono (by with_reducible assumption) ?_)) | go_size))) (by omega)) hB1 (by simp; omega); obtain ⟨k0, k1, k2, k3, k4, k5⟩ := sv1.all; obtain ⟨hc1, _⟩ := bcell (hB1.mono (show w.heap.size + 2 ≤ _ by simp)); have x0 : w1.cell? ⟨w.heap.size + 1, 0, none⟩ = some (.slice A n c) := (by rw [hc1 _ _ (by omega)]; simp); have x1 : w1.cell? ⟨w.heap.size + 1, 1, none⟩ = some (.slice A' m c') := (by rw [hc1 _ _ (by omega)]; simp); have x2 : w1.cell? ⟨w.heap.size + 1, 2, none⟩ = some (.int .i64 t) := (by rw [hc1 _ _ (by omega)]; simp); have x3 : w1.cell? ⟨w.heap.size + 1, 3, none⟩ = some (.int .i64 li) := (by rw [hc1 _ _ (by omega)]; simp); clear hc1) | (go_at_call 17; refine (c17n (hz.below hBx (Nat.le_refl _)) (hg.below hBx (Nat.le_refl _)) hv.out (hp.below hBx (Nat.le_refl _)) (hq.below hBx (Nat.le_refl _)) hpo.out).mono ?_; rintro e w2 ⟨rfl, hB2⟩; have hBy : Below w.heap.size w w2 := hBx.trans (hB2.mono hBx.size)) | (go_at_call 13; refine (c13 _).mono ?_; rintro e w9 ⟨rfl, hB9⟩))
      go_returns
      exact ⟨rfl, hBy.trans (hB9.mono hBy.size)⟩
  · have hv := hid hv0
    clear hno hv0
    go_enter Try.func5, Try.ntmps5
    go_wp2_with (first | (go_at_call 16; refine (c16n s g _ (hz.below (by (repeat' (first | (with_reducible exact Below.refl _ _) | (with_reducible assumption) | (with_reducible refine Below.alloc ?_ ?_ _) | (with_reducible refine Below.drew ?_) | (with_reducible refine below_drewN ?_ _) | (with_reducible refine Below.setCell ?_ ?_ _) | (with_reducible refine Below.trans ?_ (Below.mono (by with_reducible assumption) ?_)) | go_size))) (Nat.le_refl _)) (hg.below (by (repeat' (first | (with_reducible exact Below.refl _ _) | (with_reducible assumption) | (with_reducible refine Below.alloc ?_ ?_ _) | (with_reducible refine Below.drew ?_) | (with_reducible refine below_drewN ?_ _) | (with_reducible refine Below.setCell ?_ ?_ _) | (with_reducible refine Below.trans ?_ (Below.mono (by with_reducible assumption) ?_)) | go_size))) (Nat.le_refl _)) hv.out).mono ?_; rintro e w1 ⟨rfl, hB1⟩; have hBx : Below w.heap.size w w1 := Below.trans (by (repeat' (first | (with_reducible exact Below.refl _ _) | (with_reducible assumption) | (with_reducible refine Below.alloc ?_ ?_ _) | (with_reducible refine Below.drew ?_) | (with_reducible refine below_drewN ?_ _) | (with_reducible refine Below.setCell ?_ ?_ _) | (with_reducible refine Below.trans ?_ (Below.mono (by with_reducible assumption) ?_)) | go_size))) (hB1.mono (by simp; omega))) | (go_at_call 13; refine (c13 _).mono ?_; rintro e w9 ⟨rfl, hB9⟩))
    go_returns
    exact ⟨rfl, hBx.trans (hB9.mono hBx.size)⟩
end Go.Proofs.Ytkafjlhmbiaicaa

/- Stage 2: the law of the head: plain facts, and the skipped ways. -/
set_option linter.unusedSimpArgs false
set_option linter.unusedVariables false
namespace Go.Proofs.Ytkafjlhmbiaicaa
open Go.RowKit Go.Sort Go.BigFrame

theorem PosP.inL {s : Sv} {g : Wg} {f : Nat → Int} {n : Nat} {h : Nat → Int} {m : Nat} (ok : s.Ok) (p : PosP s g f n h m) {k : Nat} (hk : k ≤ m) : inSp (aheadL s g k) (wk f n h k) := by
  have h1 := p.mvnL ok k hk
  have e : ((wk f n h k).toNat : Int) = wk f n h k := by have := h1.1.1; omega
  rw [← e]
  exact (inSp_iff h1.1.2).2 (decide_eq_true h1.2)
theorem PosP.fwL {s : Sv} {g : Wg} {f : Nat → Int} {n : Nat} {h : Nat → Int} {m : Nat} (ok : s.Ok) (p : PosP s g f n h m) : mn s.N (fl s g) ≤ cst (agr s g) (pos f) n := by
  have hx := (p.pth.1 (n - 1) (by have := p.n0; omega)).1.pos.2
  obtain ⟨k, hk⟩ : ∃ k, n = k + 1 := ⟨n - 1, by have := p.n0; omega⟩
  have h2 := p.pth
  refine (mn_le (by omega)).2 ⟨_, hx, ?_⟩
  unfold fl
  rw [← h2.2, hk]
  rw [hk] at h2 hx
  exact (flt_path k _ _ hx).2 ⟨pos f, h2.1.pth ok, rfl, Int.le_refl _⟩
/-- The numbers below k for which p does not hold, one after the other. -/
theorem blL_get {p : Nat → Bool} : ∀ (k i : Nat), i < (blL p k).length → (blL p k).getD i 0 < k ∧ p ((blL p k).getD i 0) = false ∧ (0 < i → (blL p k).getD (i - 1) 0 < (blL p k).getD i 0)
  | 0, i, h => absurd h (Nat.not_lt_zero _)
  | k + 1, i, h => by
    cases hp : p k with
    | true =>
      rw [blL_yes hp] at h ⊢
      have ih := blL_get k i h
      exact ⟨by omega, ih.2⟩
    | false =>
      rw [blL_no hp] at h ⊢
      have hl : (blL p k ++ [k]).length = (blL p k).length + 1 := by simp
      by_cases e : i = (blL p k).length
      · subst e
        have e1 : (blL p k ++ [k]).getD (blL p k).length 0 = k := by simp
        rw [e1]
        refine ⟨by omega, hp, fun h0 => ?_⟩
        have e2 : (blL p k ++ [k]).getD ((blL p k).length - 1) 0 = (blL p k).getD ((blL p k).length - 1) 0 := by
          rw [List.getD_eq_getElem?_getD, List.getD_eq_getElem?_getD, List.getElem?_append_left (by omega)]
        rw [e2]
        exact (blL_get k ((blL p k).length - 1) (by omega)).1
      · have hi : i < (blL p k).length := by omega
        have ih := blL_get k i hi
        have e1 : (blL p k ++ [k]).getD i 0 = (blL p k).getD i 0 := by rw [List.getD_eq_getElem?_getD, List.getD_eq_getElem?_getD, List.getElem?_append_left hi]
        have e2 : (blL p k ++ [k]).getD (i - 1) 0 = (blL p k).getD (i - 1) 0 := by rw [List.getD_eq_getElem?_getD, List.getD_eq_getElem?_getD, List.getElem?_append_left (by omega)]
        rw [e1, e2]
        exact ⟨by omega, ih.2⟩
theorem PosP.blame {s : Sv} {g : Wg} {f : Nat → Int} {n : Nat} {h : Nat → Int} {m : Nat} (ok : s.Ok) (okg : g.Ok) (p : PosP s g f n h m) {i : Nat} (hi : i < g.wn) (hb : frB s g i = false) : agr s g i (pos f i) = false := by
  cases e : agr s g i (pos f i) with
  | false => rfl
  | true =>
    have h1 := p.pth.1.pth ok
    have h2 := p.mis
    rw [p.pth.2] at h1 h2
    rw [frB_path ok okg hi h1 h2 e] at hb
    cases hb
theorem c24k {s : Sv} {g : Wg} {k : Nat} {w : World} (hz : s.In w) (hg : g.In w) (hm : s.rn ≤ 1000000) (hm2 : g.wn ≤ 1000000) (ok : s.Ok) (okg : g.Ok) (hx : k + 1 ≤ 24) (hp : mn s.N (fl s g) ≤ s.wr) :
    Calls Try.prog 24 #[s.v, g.v, .int .i64 ((k : Int) + 1)] w (SpRet2 (aheadL s g (k + 1)) 0 w) := by
  have := c24_ok s g (k + 1) w hz hg hm hm2 ok okg hx hp
  rwa [show ((k + 1 : Nat) : Int) = (k : Int) + 1 by omega] at this
set_option maxRecDepth 100000 in
set_option maxHeartbeats 4000000 in
theorem c4_skip (s : Sv) (g : Wg) (A : Option Addr) (b o n c : Nat) (f : Nat → Int) (A' : Option Addr) (b' o' m c' : Nat) (h : Nat → Int) (w : World) (hz : s.In w) (hg : g.In w) (hp : Ints w A b o n f) (hq : Ints w A' b' o' m h)
    (hno : ¬ (ValP s g ∧ PosP s g f n h m)) :
    Calls Try.prog 4 #[s.v, g.v, .agg #[.slice A n c, .slice A' m c']] w fun e w' => e = .returned (.bool true) ∧ Below w.heap.size w w' := by
  have hB0 : Below w.heap.size w ((w.alloc (.cells #[.int .i64 s.tr, .int .i64 s.st, .int .i64 s.mv, .int .i64 s.no, .int .i64 s.wr, .slice s.ra s.rn s.rc] 30)).alloc (.cells #[.slice A n c, .slice A' m c'] 33)) := by (repeat' (first | (with_reducible exact Below.refl _ _) | (with_reducible assumption) | (with_reducible refine Below.alloc ?_ ?_ _) | (with_reducible refine Below.drew ?_) | (with_reducible refine below_drewN ?_ _) | (with_reducible refine Below.setCell ?_ ?_ _) | (with_reducible refine Below.trans ?_ (Below.mono (by with_reducible assumption) ?_)) | go_size))
  have sv0 : Svb s ((w.alloc (.cells #[.int .i64 s.tr, .int .i64 s.st, .int .i64 s.mv, .int .i64 s.no, .int .i64 s.wr, .slice s.ra s.rn s.rc] 30)).alloc (.cells #[.slice A n c, .slice A' m c'] 33)) w.heap.size := (Svb.new s w).below ((Below.refl _ _).alloc (Nat.le_refl _) _) (by simp)
  have gb0 : Wkb ((w.alloc (.cells #[.int .i64 s.tr, .int .i64 s.st, .int .i64 s.mv, .int .i64 s.no, .int .i64 s.wr, .slice s.ra s.rn s.rc] 30)).alloc (.cells #[.slice A n c, .slice A' m c'] 33)) (w.heap.size + 1) (.slice A n c) (.slice A' m c') := by
    constructor <;> simp
  by_cases hv0 : ValP s g
  · have hv := hid hv0
    have hpo : Hid (¬ PosP s g f n h m) := hid (fun hh => hno ⟨hv0, hh⟩)
    clear hno hv0
    go_enter Try.func4, Try.ntmps4
    go_wp2_with (first | (go_at_call 16; refine (c16y s g _ (hz.below hB0 (Nat.le_refl _)) (hg.below hB0 (Nat.le_refl _)) hv.out).mono ?_; rintro e w1 ⟨rfl, hB1⟩; have hz1 : w.heap.size + 2 ≤ w1.heap.size := (by have := hB1.size; simp at this; omega); have hBx : Below w.heap.size w w1 := hB0.trans (hB1.mono (by simp; omega)); have sv1 := sv0.below hB1 (by simp; omega); have gb1 := gb0.below hB1 (by simp); obtain ⟨k0, k1, k2, k3, k4, k5⟩ := sv1.all; obtain ⟨x0, x1⟩ := gb1) | (go_at_call 17; refine (c17n (hz.below hBx (Nat.le_refl _)) (hg.below hBx (Nat.le_refl _)) hv.out (hp.below hBx (Nat.le_refl _)) (hq.below hBx (Nat.le_refl _)) hpo.out).mono ?_; rintro e w2 ⟨rfl, hB2⟩; have hBy : Below w.heap.size w w2 := hBx.trans (hB2.mono hBx.size)) | (go_at_call 13; refine (c13 _).mono ?_; rintro e w9 ⟨rfl, hB9⟩))
    go_returns
    exact ⟨rfl, hBy.trans (hB9.mono hBy.size)⟩
  · have hv := hid hv0
    clear hno hv0
    go_enter Try.func4, Try.ntmps4
    go_wp2_with (first | (go_at_call 16; refine (c16n s g _ (hz.below hB0 (Nat.le_refl _)) (hg.below hB0 (Nat.le_refl _)) hv.out).mono ?_; rintro e w1 ⟨rfl, hB1⟩; have hBx : Below w.heap.size w w1 := hB0.trans (hB1.mono (by simp; omega))) | (go_at_call 13; refine (c13 _).mono ?_; rintro e w9 ⟨rfl, hB9⟩))
    go_returns
    exact ⟨rfl, hBx.trans (hB9.mono hBx.size)⟩
end Go.Proofs.Ytkafjlhmbiaicaa
