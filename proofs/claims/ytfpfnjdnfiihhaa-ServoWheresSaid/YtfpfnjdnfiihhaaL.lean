/- Stage 2: the faults before each wedge. -/
import Derived.Test.YtfpfnjdnfiihhaaK
import Derived.Deep.RegionHeld3
set_option linter.unusedSimpArgs false
set_option linter.unusedVariables false
namespace Go.Proofs.Ytfpfnjdnfiihhaa
open Go.RowKit

/-- The head's box. -/
def Hbx (s : Sv) (g : Wg) (w : World) (b : Nat) : Prop := w.cell? ⟨b, 0, none⟩ = some (.int .i64 s.tr) ∧ w.cell? ⟨b, 1, none⟩ = some (.int .i64 s.st) ∧ w.cell? ⟨b, 2, none⟩ = some (.int .i64 s.mv) ∧ w.cell? ⟨b, 3, none⟩ = some (.int .i64 s.no) ∧ w.cell? ⟨b, 4, none⟩ = some (.int .i64 s.wr) ∧ w.cell? ⟨b, 5, none⟩ = some (.slice s.ra s.rn s.rc) ∧ w.cell? ⟨b, 6, none⟩ = some (.slice g.wa g.wn g.wk)
theorem Hbx.all {s : Sv} {g : Wg} {w : World} {b : Nat} (h : Hbx s g w b) : w.cell? ⟨b, 0, none⟩ = some (.int .i64 s.tr) ∧ w.cell? ⟨b, 1, none⟩ = some (.int .i64 s.st) ∧ w.cell? ⟨b, 2, none⟩ = some (.int .i64 s.mv) ∧ w.cell? ⟨b, 3, none⟩ = some (.int .i64 s.no) ∧ w.cell? ⟨b, 4, none⟩ = some (.int .i64 s.wr) ∧ w.cell? ⟨b, 5, none⟩ = some (.slice s.ra s.rn s.rc) ∧ w.cell? ⟨b, 6, none⟩ = some (.slice g.wa g.wn g.wk) := h
theorem Hbx.keep {s : Sv} {g : Wg} {w w' : World} {b : Nat} (h : Hbx s g w b) (k : ∀ o, w'.cell? ⟨b, o, none⟩ = w.cell? ⟨b, o, none⟩) : Hbx s g w' b := by
  obtain ⟨b0, b1, b2, b3, b4, b5, b6⟩ := h
  exact ⟨(k _).trans b0, (k _).trans b1, (k _).trans b2, (k _).trans b3, (k _).trans b4, (k _).trans b5, (k _).trans b6⟩
theorem Hbx.below {s : Sv} {g : Wg} {w w' : World} {b B : Nat} (h : Hbx s g w b) (hb : Below B w w') (hB : b < B) : Hbx s g w' b := h.keep fun o => hb.cell (p := ⟨b, o, none⟩) hB
theorem Hbx.set {s : Sv} {g : Wg} {w : World} {b : Nat} (h : Hbx s g w b) {a : Addr} (ha : b ≠ a.block) (v : Value) : Hbx s g (w.setCell a v) b := h.keep fun o => World.cell?_of_block (w := w) (Below.heap_setCell w a v b ha)
theorem Hbx.grown {s : Sv} {g : Wg} {w w' : World} {b x : Nat} (h : Hbx s g w b) (hg : w.grownBy w' (some x)) (hb : b ≠ x) (hl : b < w.heap.size) : Hbx s g w' b := h.keep fun o => World.cell?_of_block (w := w) (hg.block b hl (by intro e; injection e with e; exact hb e))
theorem Hbx.new (s : Sv) (g : Wg) (w : World) : Hbx s g (w.alloc (.cells #[.int .i64 s.tr, .int .i64 s.st, .int .i64 s.mv, .int .i64 s.no, .int .i64 s.wr, .slice s.ra s.rn s.rc, .slice g.wa g.wn g.wk] 75)) w.heap.size := by
  unfold Hbx
  simp
/-- A slice value that holds the n numbers f. -/
def RowV (w : World) (base n : Nat) (f : Nat → Int) (v : Value) : Prop := ∃ x c, v = .slice (some ⟨x, 0, none⟩) n c ∧ base ≤ x ∧ n ≤ c ∧ RowF w x n f
theorem RowV.below {w w' : World} {B base n : Nat} {f : Nat → Int} {v : Value} (h : RowV w base n f v) (hb : Below B w w') (hB : w.heap.size ≤ B) : RowV w' base n f v := by
  obtain ⟨x, c, h1, h2, h3, h4⟩ := h
  exact ⟨x, c, h1, h2, h3, h4.below hb (by have := h4.lt; omega)⟩
theorem RowV.setOther {w : World} {base n : Nat} {f : Nat → Int} {v : Value} (h : RowV w base n f v) {a : Addr} (ha : a.block < base) (u : Value) : RowV (w.setCell a u) base n f v := by
  obtain ⟨x, c, h1, h2, h3, h4⟩ := h
  exact ⟨x, c, h1, h2, h3, h4.setOther (by omega) u⟩
theorem RowV.mono {w : World} {base base' n : Nat} {f : Nat → Int} {v : Value} (h : RowV w base n f v) (hb : base' ≤ base) : RowV w base' n f v := by
  obtain ⟨x, c, h1, h2, h3, h4⟩ := h
  exact ⟨x, c, h1, by omega, h3, h4⟩
/-- Block x holds, at each k below n, a slice of the N numbers fs k, or nil where p does not hold. -/
def RowsF (w : World) (x n base N : Nat) (p : Nat → Prop) (fs : Nat → Nat → Int) : Prop := ∃ F, w.rowIs x 28 n F ∧ (∀ k, k < n → ∃ A m c, F k = .slice A m c) ∧ ∀ k, k < n → p k → RowV w base N (fs k) (F k)
theorem rowIs_below {w w' : World} {B b t n : Nat} {f : Nat → Value} (h : w.rowIs b t n f) (hb : Below B w w') (hB : b < B) : w'.rowIs b t n f := h.of_block (hb.block b hB)
theorem RowsF.lt {w : World} {x n base N : Nat} {p : Nat → Prop} {fs : Nat → Nat → Int} (h : RowsF w x n base N p fs) : x < w.heap.size := by obtain ⟨F, h1, _⟩ := h; exact h1.lt
theorem RowsF.below {w w' : World} {B x n base N : Nat} {p : Nat → Prop} {fs : Nat → Nat → Int} (h : RowsF w x n base N p fs) (hb : Below B w w') (hB : w.heap.size ≤ B) : RowsF w' x n base N p fs := by
  obtain ⟨F, h1, h2, h3⟩ := h
  exact ⟨F, rowIs_below h1 hb (by have := h1.lt; omega), h2, fun k hk hp => (h3 k hk hp).below hb hB⟩
theorem RowsF.set {w : World} {x n base N k : Nat} {p p' : Nat → Prop} {fs : Nat → Nat → Int} {v : Value} (h : RowsF w x n base N p fs) (hx : x < base) (hk : k < n) (hv : RowV w base N (fs k) v) (hp : ∀ j, p' j → j = k ∨ p j) :
    RowsF (w.setCell ⟨x, k, none⟩ v) x n base N p' fs := by
  obtain ⟨F, h1, h2, h3⟩ := h
  refine ⟨_, h1.set k v, fun j hj => ?_, fun j hj hpj => ?_⟩
  · by_cases e : j = k
    · obtain ⟨y, c, h4, _⟩ := hv
      exact ⟨_, _, _, by simp only [e, if_pos]; exact h4⟩
    · simp only [e, if_neg, not_false_eq_true]; exact h2 j hj
  · by_cases e : j = k
    · subst e; simp only [if_pos]; exact hv.setOther hx v
    · simp only [e, if_neg, not_false_eq_true]
      exact (h3 j hj ((hp j hpj).resolve_left e)).setOther hx v
theorem RowsF.cell {w : World} {x n base N k : Nat} {p : Nat → Prop} {fs : Nat → Nat → Int} (h : RowsF w x n base N p fs) (hk : k < n) (hp : p k) : ∃ v, w.cell? ⟨x, k, none⟩ = some v ∧ RowV w base N (fs k) v := by
  obtain ⟨F, h1, h2, h3⟩ := h
  exact ⟨F k, h1.cell hk, h3 k hk hp⟩
theorem RowsF.old {w : World} {x n base N k : Nat} {p : Nat → Prop} {fs : Nat → Nat → Int} (h : RowsF w x n base N p fs) (hk : k < n) : (∃ A m c, w.cell? ⟨x, k, none⟩ = some (.slice A m c)) ∧ w.frozen? ⟨x, k, none⟩ = false := by
  obtain ⟨F, h1, h2, h3⟩ := h
  obtain ⟨A, m, c, e⟩ := h2 k hk
  exact ⟨⟨A, m, c, by rw [h1.cell hk, e]⟩, h1.frozen k⟩
theorem RowsF.made (w : World) (n base N : Nat) (p : Nat → Prop) (hp : ∀ k, k < n → ¬ p k) (fs : Nat → Nat → Int) : RowsF (w.alloc (.cells (madeCells #[.slice none 0 0] n) 28)) w.heap.size n base N p fs :=
  ⟨_, World.rowIs_made w _ n 28, fun _ _ => ⟨none, 0, 0, rfl⟩, fun k hk h => absurd h (hp k hk)⟩
theorem ixRows {x n c k : Nat} (hk : k < n) (w' : World) : (Instr.indexAt 79 (.slice (some ⟨x, 0, none⟩) n c) (.int .i64 k)).run Try.prog w' = .ok (.pointer (some ⟨x, k, none⟩)) w' := by
  have h2 : (k : Int) < (n : Int) := by omega
  go_simp
theorem Try.info28 : (Try.prog.info? 28).map (fun i => (i.zero, i.size, i.bytes)) = some (some (.slice none 0 0), 1, 24) := by kernel_rfl
/-- A new slice of n slices is handed back, each of N numbers. -/
def RowsRet (n N : Nat) (fs : Nat → Nat → Int) (w : World) (e : Ending) (w' : World) : Prop :=
  ∃ x base : Nat, e = .returned (.slice (some ⟨x, 0, none⟩) n n) ∧ w.heap.size ≤ x ∧ w.heap.size ≤ base ∧ RowsF w' x n base N (fun _ => True) fs ∧ Below w.heap.size w w'

theorem Fb_100 {s : Sv} {g : Wg} (okg : g.Ok) {i : Nat} (hi : i ≤ g.wn) : ∀ p, p < s.N → 0 ≤ Fb s.N s.m (agr s g) i p ∧ Fb s.N s.m (agr s g) i p ≤ 100 := fun p hp => by
  have h := Fb_bd (m := s.m) (ag := agr s g) i p hp
  have := okg.n2
  omega
theorem jdg_100 {s : Sv} {g : Wg} (okg : g.Ok) {i : Nat} (hi : i ≤ g.wn) (ag : Nat → Bool) : ∀ p, p < s.N → 0 ≤ jdg ag (Fb s.N s.m (agr s g) i) p ∧ jdg ag (Fb s.N s.m (agr s g) i) p ≤ 100 := fun p hp => by
  have h := jdg_bd (ag := ag) (Fb_bd (m := s.m) (ag := agr s g) i p hp)
  have := okg.n2
  omega

set_option maxRecDepth 100000 in
set_option maxHeartbeats 2000000 in
theorem c49 (s : Sv) (g : Wg) (w : World) (hz : s.In w) (hg : g.In w) (ok : s.Ok) (okg : g.Ok) :
    Calls Try.prog 49 #[hdv s g] w (RowsRet g.wn s.N (Fb s.N s.m (agr s g)) w) := by
  have hN := ok.Nb
  have hN1 := hN.1; have hN2 := hN.2.1
  have hn2 := okg.n2
  have okh := hid ok
  have okgh := hid okg
  obtain ⟨n, hn⟩ : ∃ n, n = s.N := ⟨_, rfl⟩
  have hmk := fun W => run_make_row' (P := Try.prog) 28 3 (.int .i64 0) 8 Try.underlying28 Try.info3 rfl .i64 .i64 s.N (by omega) (by omega) W
  have hmk2 := fun W => run_make_row' (P := Try.prog) 79 28 (.slice none 0 0) 24 Try.underlying79 Try.info28 rfl .i64 .i64 g.wn (by omega) (by omega) W
  clear hN ok okg hn
  go_enter Try.func49, Try.ntmps49
  go_wp2_with (go_at_call 52; refine (c52 s g _ okh.out).mono ?_; rintro e w1 ⟨rfl, hB1⟩; obtain ⟨hc1, hf1⟩ := bcell hB1; have hz1 := hB1.size)
  obtain ⟨W1, hW1⟩ : ∃ W1 : World, W1 = w1.alloc (.cells (madeCells #[.int .i64 0] s.N) 3) := ⟨_, rfl⟩
  have hBx : Below (w.heap.size + 2) ((w.alloc (.cells #[.int .i64 s.tr, .int .i64 s.st, .int .i64 s.mv, .int .i64 s.no, .int .i64 s.wr, .slice s.ra s.rn s.rc, .slice g.wa g.wn g.wk] 75)).alloc (.cells (madeCells #[.slice none 0 0] g.wn) 28)) W1 := by rw [hW1]; exact (hB1.mono (by simp)).alloc (by simp at hz1; omega) _
  have hB : Below w.heap.size w W1 := Below.trans (by (repeat' (first | (with_reducible exact Below.refl _ _) | (with_reducible assumption) | (with_reducible refine Below.alloc ?_ ?_ _) | (with_reducible refine Below.drew ?_) | (with_reducible refine below_drewN ?_ _) | (with_reducible refine Below.setCell ?_ ?_ _) | (with_reducible refine Below.trans ?_ (Below.mono (by with_reducible assumption) ?_)) | go_size))) (hBx.mono (by omega))
  have hsz : w.heap.size + 2 < W1.heap.size := by rw [hW1]; simp at hz1 ⊢; omega
  have hbx : W1.cell? ⟨w.heap.size, 0, none⟩ = some (.int .i64 s.tr) ∧ W1.cell? ⟨w.heap.size, 1, none⟩ = some (.int .i64 s.st) ∧ W1.cell? ⟨w.heap.size, 2, none⟩ = some (.int .i64 s.mv) ∧ W1.cell? ⟨w.heap.size, 3, none⟩ = some (.int .i64 s.no) ∧ W1.cell? ⟨w.heap.size, 4, none⟩ = some (.int .i64 s.wr) ∧ W1.cell? ⟨w.heap.size, 5, none⟩ = some (.slice s.ra s.rn s.rc) ∧ W1.cell? ⟨w.heap.size, 6, none⟩ = some (.slice g.wa g.wn g.wk) := by obtain ⟨hcx, _⟩ := bcell hBx; simp [hcx]
  have hR0 : RowV W1 (w.heap.size + 2) s.N (Fb s.N s.m (agr s g) 0) (.slice (some ⟨w1.heap.size, 0, none⟩) s.N s.N) := ⟨w1.heap.size, s.N, rfl, by simp at hz1; omega, Nat.le_refl _, by rw [hW1]; exact RowF.made w1 s.N⟩
  have hRows0 : RowsF W1 (w.heap.size + 1) g.wn (w.heap.size + 2) s.N (fun j => j < 0) (Fb s.N s.m (agr s g)) := by
    have := RowsF.made (w.alloc (.cells #[.int .i64 s.tr, .int .i64 s.st, .int .i64 s.mv, .int .i64 s.no, .int .i64 s.wr, .slice s.ra s.rn s.rc, .slice g.wa g.wn g.wk] 75)) g.wn (w.heap.size + 2) s.N (fun j => j < 0) (fun _ _ h => absurd h (Nat.not_lt_zero _)) (Fb s.N s.m (agr s g))
    simp only [World.size_alloc] at this
    exact this.below hBx (by simp)
  have hR0h := hid hR0
  have hRowsh := hid hRows0
  rw [← hW1]
  clear hmk hmk2 hc1 hf1 hz1 hB1 hR0 hRows0 hW1 hBx
  go_loopw [4, 5, 15] (fun fv _ iv wr => ∃ k : Nat, k ≤ g.wn ∧ iv = .int .i64 k ∧ RowV wr (w.heap.size + 2) s.N (Fb s.N s.m (agr s g) k) fv ∧ RowsF wr (w.heap.size + 1) g.wn (w.heap.size + 2) s.N (fun j => j < k) (Fb s.N s.m (agr s g)) ∧ (wr.cell? ⟨w.heap.size, 0, none⟩ = some (.int .i64 s.tr) ∧ wr.cell? ⟨w.heap.size, 1, none⟩ = some (.int .i64 s.st) ∧ wr.cell? ⟨w.heap.size, 2, none⟩ = some (.int .i64 s.mv) ∧ wr.cell? ⟨w.heap.size, 3, none⟩ = some (.int .i64 s.no) ∧ wr.cell? ⟨w.heap.size, 4, none⟩ = some (.int .i64 s.wr) ∧ wr.cell? ⟨w.heap.size, 5, none⟩ = some (.slice s.ra s.rn s.rc) ∧ wr.cell? ⟨w.heap.size, 6, none⟩ = some (.slice g.wa g.wn g.wk)) ∧ Below w.heap.size w wr ∧ w.heap.size + 2 < wr.heap.size) (fun _ _ iv _ => g.wn - (intOf iv).toNat)
  case atStart => exact ⟨0, Nat.zero_le _, rfl, hR0h.out, hRowsh.out, hbx, hB, hsz⟩
  case round =>
    clear hbx hB hsz hR0h hRowsh
    obtain ⟨k, hk, rfl, ⟨x, c, rfl, hx, hc, hR⟩, hRows, hbx, hB, hsz⟩ := hrel
    by_cases hlt : k < g.wn
    · obtain ⟨⟨A0, m0, c0, h1⟩, h2⟩ := hRows.old hlt
      have h4 := @ixRows (w.heap.size + 1) g.wn g.wn k hlt
      obtain ⟨W2, hW2⟩ : ∃ W2 : World, W2 = wr.setCell ⟨w.heap.size + 1, k, none⟩ (.slice (some ⟨x, 0, none⟩) s.N c) := ⟨_, rfl⟩
      have hR2 := hR.setOther (a := ⟨w.heap.size + 1, k, none⟩) (by simp; omega) (.slice (some ⟨x, 0, none⟩) s.N c)
      have hRows2 := hRows.set (k := k) (v := .slice (some ⟨x, 0, none⟩) s.N c) (p' := fun j => j < k + 1) (by omega) hlt ⟨x, c, rfl, hx, hc, hR⟩ (by intro j hj; omega)
      have hbx2 : Hbx s g W2 w.heap.size := by rw [hW2]; exact Hbx.set hbx (by simp) _
      have hBb : Below w.heap.size w W2 := by rw [hW2]; exact hB.setCell (by simp) _
      have hs2 : w.heap.size + 2 < W2.heap.size := by rw [hW2]; simpa using hsz
      rw [← hW2] at hR2 hRows2
      have hR2h := hid hR2
      have hRows2h := hid hRows2
      clear hR hRows hB hR2 hRows2 hbx hsz
      go_wp2_with fail
      rw [← hW2]
      clear hW2 h1 h2 h4
      go_region_held3 (fun w' => w'.cell? ⟨w.heap.size, 0, none⟩ = some (.int .i64 s.tr) ∧ w'.cell? ⟨w.heap.size, 1, none⟩ = some (.int .i64 s.st) ∧ w'.cell? ⟨w.heap.size, 2, none⟩ = some (.int .i64 s.mv) ∧ w'.cell? ⟨w.heap.size, 3, none⟩ = some (.int .i64 s.no) ∧ w'.cell? ⟨w.heap.size, 4, none⟩ = some (.int .i64 s.wr) ∧ w'.cell? ⟨w.heap.size, 5, none⟩ = some (.slice s.ra s.rn s.rc) ∧ w'.cell? ⟨w.heap.size, 6, none⟩ = some (.slice g.wa g.wn g.wk)) (first | exact hbx2.all | exact hk3.all | exact hk4.all) (first | (go_at_call 71; refine (c71 s g x c k _ _ (hz.below hBb.drew (Nat.le_refl _)) (hg.below hBb.drew (Nat.le_refl _)) okh.out okgh.out hlt (hR2h.out.of_block rfl) (Fb_100 okgh.out (by omega))).mono ?_; rintro e w3 ⟨g3, c3, rfl, hg3, hc3, hR3, hB3⟩; have hk3 : Hbx s g w3 w.heap.size := (Hbx.below (w := W2.drew) hbx2 hB3 (show w.heap.size < W2.heap.size by omega)); have hz3 : w.heap.size + 2 < w3.heap.size := Nat.lt_of_lt_of_le hs2 hB3.size; have hR3h := hid hR3; clear hR3) | (go_at_call 56; refine (c56 s g g3 c3 _ _ okh.out (hR3h.out.of_block rfl) hc3 (jdg_100 okgh.out (by omega) _)).mono ?_; rintro e w4 ⟨g4, c4, rfl, hg4, hc4, hR4, hB4⟩; have hk4 : Hbx s g w4 w.heap.size := (Hbx.below (w := w3) hk3 hB4 (by omega)); have hR4h := hid hR4; clear hR4))
      have hB24 : Below W2.heap.size W2 w4 := Below.trans (Below.trans (Below.refl _ _).drew hB3) (hB4.mono hB3.size)
      go_wp2
      go_roundw
      case rel => exact ⟨k + 1, by omega, by go_num, ⟨g4, c4, rfl, by omega, hc4, hR4h.out⟩, hRows2h.out.below hB24 (Nat.le_refl _), hk4.all, hBb.trans (hB24.mono hBb.size), Nat.lt_of_lt_of_le hz3 hB4.size⟩
      case measure => simp [intOf]; omega
    · have hRowsh := hid hRows
      clear hRows hR hbx
      go_wp2_with fail
      go_returns
      obtain rfl : k = g.wn := by omega
      obtain ⟨F, r1, r2, r3⟩ := hRowsh.out
      exact ⟨w.heap.size + 1, w.heap.size + 2, rfl, by omega, by omega, ⟨F, r1, r2, fun j hj _ => r3 j hj hj⟩, hB⟩
end Go.Proofs.Ytfpfnjdnfiihhaa
