/- Texts put together: O, Tc. -/
import Derived.Test.YtkafjlhmbiaicaaG03
import Derived.Test.YtkafjlhmbiaicaaG05
import Derived.Test.YtkafjlhmbiaicaaG04
/- Stage 2: the faults of all wedges; whether some path is possible. -/
set_option linter.unusedSimpArgs false
set_option linter.unusedVariables false
namespace Go.Proofs.Ytkafjlhmbiaicaa
open Go.RowKit Go.Sort

theorem cell_at {w : World} {b j : Nat} {cs : Array Value} {e : TypeId} {f : Nat × Nat} (h : w.heap[b]? = some (.cells cs e f)) : w.cell? ⟨b, j, none⟩ = cs[j]? := by
  simp [World.cell?, h]
theorem frozen_at {w : World} {b j : Nat} {cs : Array Value} {e : TypeId} (h : w.heap[b]? = some (.cells cs e (0, 0))) : w.frozen? ⟨b, j, none⟩ = false := by
  simp [World.frozen?, h]
theorem fl_zero {s : Sv} {g : Wg} (h : g.wn = 0) : fl s g = fun _ => 0 := by unfold fl flt; rw [if_pos h]
theorem fl_pos {s : Sv} {g : Wg} {m : Nat} (h : g.wn = m + 1) : fl s g = jdg (agr s g m) (Fb s.N s.m (agr s g) m) := by
  unfold fl flt
  rw [if_neg (by omega), h]; rfl
theorem fl_100 {s : Sv} {g : Wg} (okg : g.Ok) : ∀ p, p < s.N → 0 ≤ fl s g p ∧ fl s g p ≤ 100 := fun p hp => by
  have h := flt_bd (m := s.m) (ag := agr s g) (n := g.wn) hp
  have := okg.n2
  unfold fl
  omega

set_option maxRecDepth 100000 in
set_option maxHeartbeats 2000000 in
theorem c54 (s : Sv) (g : Wg) (w : World) (hz : s.In w) (hg : g.In w) (ok : s.Ok) (okg : g.Ok) :
    Calls Try.prog 54 #[hdv s g] w (IRet s.N (fl s g) w) := by
  have hN := ok.Nb
  have hN1 := hN.1; have hN2 := hN.2.1
  have hn2 := okg.n2
  have okh := hid ok
  have okgh := hid okg
  by_cases h0 : g.wn = 0
  · have hmk := fun W => run_make_row' (P := Try.prog) 28 3 (.int .i64 0) 8 Try.underlying28 Try.info3 rfl .i64 .i64 s.N (by omega) (by omega) W
    have hfl := hid (fl_zero (s := s) h0)
    have h0' : (g.wn : Int) - 1 < 0 := by omega
    clear hN ok okg h0
    go_enter Try.func54, Try.ntmps54
    go_wp2_with (go_at_call 52; refine (c52 s g _ okh.out).mono ?_; rintro e w1 ⟨rfl, hB1⟩; obtain ⟨hc1, hf1⟩ := bcell hB1; have hz1 := hB1.size)
    go_returns
    have hB : Below w.heap.size w w1 := Below.trans (by (repeat' (first | (with_reducible exact Below.refl _ _) | (with_reducible assumption) | (with_reducible refine Below.alloc ?_ ?_ _) | (with_reducible refine Below.drew ?_) | (with_reducible refine below_drewN ?_ _) | (with_reducible refine Below.setCell ?_ ?_ _) | (with_reducible refine Below.trans ?_ (Below.mono (by with_reducible assumption) ?_)) | go_size))) (hB1.mono (by simp))
    exact ⟨_, _, rfl, by simp at hz1; omega, Nat.le_refl _, by rw [hfl.out]; exact RowF.made w1 s.N, hB.alloc (by simp at hz1; omega) _⟩
  · obtain ⟨m, hm⟩ : ∃ m, g.wn = m + 1 := ⟨g.wn - 1, by omega⟩
    have hfl := hid (fl_pos (s := s) hm)
    have hmh := hid hm
    have hm24 : m < 24 := by omega
    have h0' : ¬ (g.wn : Int) - 1 < 0 := by omega
    have e1 : IntKind.i64.wrap ((g.wn : Int) - 1) = (m : Int) := by rw [IntWalk.i64_in _ (by omega)]; omega
    clear hN ok okg h0 hm
    go_enter Try.func54, Try.ntmps54
    go_wp2_with fail
    obtain ⟨W0, hW0⟩ : ∃ W0 : World, W0 = w.alloc (.cells #[.int .i64 s.tr, .int .i64 s.st, .int .i64 s.mv, .int .i64 s.no, .int .i64 s.wr, .slice s.ra s.rn s.rc, .slice g.wa g.wn g.wk] 75) := ⟨_, rfl⟩
    have hB0 : Below w.heap.size w W0 := by rw [hW0]; (repeat' (first | (with_reducible exact Below.refl _ _) | (with_reducible assumption) | (with_reducible refine Below.alloc ?_ ?_ _) | (with_reducible refine Below.drew ?_) | (with_reducible refine below_drewN ?_ _) | (with_reducible refine Below.setCell ?_ ?_ _) | (with_reducible refine Below.trans ?_ (Below.mono (by with_reducible assumption) ?_)) | go_size))
    have hbx : Hbx s g W0 w.heap.size := by rw [hW0]; exact Hbx.new s g w
    have hs0 : W0.heap.size = w.heap.size + 1 := by rw [hW0]; simp
    rw [← hW0]
    have hvb : W0.heap[w.heap.size]? = some (.cells #[.int .i64 s.tr, .int .i64 s.st, .int .i64 s.mv, .int .i64 s.no, .int .i64 s.wr, .slice s.ra s.rn s.rc, .slice g.wa g.wn g.wk] 75 (0, 0)) := by rw [hW0]; exact heap_new w _
    have hml : m < g.wn := by rw [hmh.out]; omega
    refine wpIn_wide.1 (wild_region (F := Fence.wide) (n := 0) (C := fun w' => Below W0.heap.size W0 w') (R := fun A B => Below A.heap.size A B) (G := fun i us w' => match i with
      | 0 => us 0 = hdv s g
      | 1 => us 1 = hdv s g
      | 2 => ∃ x base : Nat, us 2 = .slice (some ⟨x, 0, none⟩) g.wn g.wn ∧ RowsF w' x g.wn base s.N (fun _ => True) (Fb s.N s.m (agr s g))
      | 3 => us 3 = .int .i64 (m : Nat)
      | 4 => ∃ x base : Nat, us 4 = .pointer (some ⟨x, m, none⟩) ∧ RowsF w' x g.wn base s.N (fun _ => True) (Fb s.N s.m (agr s g))
      | 5 => ∃ base : Nat, RowV w' base s.N (Fb s.N s.m (agr s g) m) (us 5)
      | 6 => us 6 = .int .i64 (m : Nat)
      | 7 => RowV w' w.heap.size s.N (jdg (agr s g m) (Fb s.N s.m (agr s g) m)) (us 7)
      | 8 => RowV w' w.heap.size s.N (jdg (agr s g m) (Fb s.N s.m (agr s g) m)) (us 8)
      | _ => True) (by kernel_rfl) (by kernel_rfl) (by kernel_rfl) ?loc (Below.refl _ _).drew ?stab ?steps ?fin)
    case loc =>
      intro j us i v w' hij hdp hG
      rcases j with _ | _ | _ | _ | _ | _ | _ | _ | _ | j
      all_goals first | trivial | ((try dsimp only at hG ⊢); rw [upd_ne _ _ (Ne.symm hij)]; exact hG) | skip
    case stab =>
      intro i us A B hAB hG
      rcases i with _ | _ | _ | _ | _ | _ | _ | _ | _ | i <;> try exact hG
      · obtain ⟨x, base, h1, h2⟩ := hG
        exact ⟨x, base, h1, h2.below hAB (Nat.le_refl _)⟩
      · obtain ⟨x, base, h1, h2⟩ := hG
        exact ⟨x, base, h1, h2.below hAB (Nat.le_refl _)⟩
      · obtain ⟨base, h1⟩ := hG
        exact ⟨base, h1.below hAB (Nat.le_refl _)⟩
      · exact RowV.below hG hAB (Nat.le_refl _)
      · exact RowV.below hG hAB (Nat.le_refl _)
    case steps =>
      dsimp only [StepsW, StepW]
      refine ⟨?_, ?_, ?_, ?_, ?_, ?_, ?_, ?_, ?_, trivial⟩
      all_goals (intro A us W hA hC hG K hK; have hcw0 := fun j => cell_at (j := j) ((hC.block _ (by omega)).trans hvb); have hzw0 := (hz.below hB0 (Nat.le_refl _)).below hC (Nat.le_refl _); have hzw1 := (hg.below hB0 (Nat.le_refl _)).below hC (Nat.le_refl _); have hCs := hC.size; simp only [AfterW, Region.binds, true_implies, and_true, forall_const] at hG)
      · have h1 : A.tmps[1]?.getD undef = .pointer (some ⟨w.heap.size, 0, none⟩) := slot_none hA rfl rfl
        clear hA
        go_simp
        exact hK _ W hC (Below.refl _ _) (upd_same _ _ _)
      · have h1 : A.tmps[1]?.getD undef = .pointer (some ⟨w.heap.size, 0, none⟩) := slot_none hA rfl rfl
        clear hA
        go_simp
        exact hK _ W hC (Below.refl _ _) (upd_same _ _ _)
      · have h14 := slot_some (t := 14) (v := hdv s g) hA (by kernel_rfl) rfl (by simp) (by first | exact hG | exact hG.1 | exact hG.2 | exact hG.2.1 | exact hG.2.2 | exact hG.2.2.1 | exact hG.2.2.2 | exact hG.2.2.2.1 | exact hG.2.2.2.2 | exact hG.2.2.2.2.1 | exact hG.2.2.2.2.2 | exact hG.2.2.2.2.2.1 | exact hG.2.2.2.2.2.2.1)
        clear hA
        gi_wp2_with (refine ⟨trivial, rfl, ?_⟩; gi_at_call 49; refine (callsIn_wide.2 (c49 s g _ hzw0 hzw1 okh.out okgh.out)).mono ?_; rintro e w9 ⟨x, base, rfl, hx, hbase, hRows, hB9⟩)
        exact hK _ w9 (hC.trans (hB9.mono hC.size)) hB9 ⟨x, base, upd_same _ _ _, hRows⟩
      · have h3 : A.tmps[3]?.getD undef = .int .i64 (m : Nat) := slot_none hA rfl rfl
        clear hA
        go_simp
        exact hK _ W hC (Below.refl _ _) (upd_same _ _ _)
      · obtain ⟨⟨x, base, hG4, hp⟩, hG5⟩ := hG
        have h15 := slot_some (t := 15) hA (by kernel_rfl) rfl (by simp) hG4
        have h16 := slot_some (t := 16) hA (by kernel_rfl) rfl (by simp) hG5
        have hix := @ixRows x g.wn g.wn m hml
        clear hA
        go_simp
        exact hK _ W hC (Below.refl _ _) ⟨x, base, upd_same _ _ _, hp⟩
      · obtain ⟨x, base, hG4, hp⟩ := hG
        have h17 := slot_some (t := 17) hA (by kernel_rfl) rfl (by simp) hG4
        obtain ⟨v, hv, hrow⟩ := hp.cell hml trivial
        clear hA hp
        go_simp
        exact hK _ W hC (Below.refl _ _) ⟨base, by rw [upd_same]; exact hrow⟩
      · have h3 : A.tmps[3]?.getD undef = .int .i64 (m : Nat) := slot_none hA rfl rfl
        clear hA
        go_simp
        exact hK _ W hC (Below.refl _ _) (upd_same _ _ _)
      · obtain ⟨hG0, ⟨base, x, c, hG5, _, hcp, hR⟩, hG6, _⟩ := hG
        have h13 := slot_some (t := 13) hA (by kernel_rfl) rfl (by simp) hG0
        have h18 := slot_some (t := 18) hA (by kernel_rfl) rfl (by simp) hG5
        have h19 := slot_some (t := 19) hA (by kernel_rfl) rfl (by simp) hG6
        have hRh := hid hR
        clear hA hR
        gi_wp2_with (refine ⟨trivial, rfl, ?_⟩; gi_at_call 71; refine (callsIn_wide.2 (c71 s g x c m _ _ hzw0 hzw1 okh.out okgh.out hml hRh.out (Fb_100 okgh.out (by omega)))).mono ?_; rintro e w9 ⟨x9, c9, rfl, hx9, hc9, hR9, hB9⟩)
        exact hK _ w9 (hC.trans (hB9.mono hC.size)) hB9 (by rw [upd_same]; exact ⟨x9, c9, rfl, by omega, hc9, hR9⟩)
      · have hG7 : RowV W w.heap.size s.N (jdg (agr s g m) (Fb s.N s.m (agr s g) m)) (us 7) := (by first | exact hG | exact hG.1 | exact hG.2 | exact hG.2.1 | exact hG.2.2 | exact hG.2.2.1 | exact hG.2.2.2 | exact hG.2.2.2.1 | exact hG.2.2.2.2 | exact hG.2.2.2.2.1 | exact hG.2.2.2.2.2 | exact hG.2.2.2.2.2.1 | exact hG.2.2.2.2.2.2.1)
        have h20 := slot_some (t := 20) (v := us 7) hA (by kernel_rfl) rfl (by simp) rfl
        clear hA hG
        go_simp
        exact hK _ W hC (Below.refl _ _) (by rw [upd_same]; exact hG7)
    case fin =>
      intro us W hC hG
      have g8 : RowV W w.heap.size s.N (jdg (agr s g m) (Fb s.N s.m (agr s g) m)) (us 8) := hG 8 (by decide)
      obtain ⟨x8, c8, e8, hx8, hc8, hR8⟩ := g8
      simp only [frW, Nat.reduceAdd, Nat.zero_add, e8, Act.put, List.setIfInBounds_toArray, List.set_cons_succ, List.set_cons_zero]
      have hR8h := hid hR8
      clear hG hR8
      go_wp2
      go_returns
      exact ⟨x8, c8, rfl, hx8, hc8, by rw [hfl.out]; exact hR8h.out, hB0.trans (hC.mono (by omega))⟩
end Go.Proofs.Ytkafjlhmbiaicaa

/- Stage 2: the faults behind each wedge. -/
set_option linter.unusedSimpArgs false
set_option linter.unusedVariables false
namespace Go.Proofs.Ytkafjlhmbiaicaa
open Go.RowKit Go.Shelf Go.Sort

theorem Bh_100 {s : Sv} {g : Wg} (okg : g.Ok) {i : Nat} (hi : i ≤ g.wn) : ∀ p, p < s.N → 0 ≤ Bh s.N s.m (agr s g) g.wn i p ∧ Bh s.N s.m (agr s g) g.wn i p ≤ 100 := fun p hp => by
  have h := Bh_bd (m := s.m) (ag := agr s g) (n := g.wn) i p hp
  have := okg.n2
  omega
theorem jdB_100 {s : Sv} {g : Wg} (okg : g.Ok) {i : Nat} (hi : i ≤ g.wn) (ag : Nat → Bool) : ∀ p, p < s.N → 0 ≤ jdg ag (Bh s.N s.m (agr s g) g.wn i) p ∧ jdg ag (Bh s.N s.m (agr s g) g.wn i) p ≤ 100 := fun p hp => by
  have h := jdg_bd (ag := ag) (Bh_bd (m := s.m) (ag := agr s g) (n := g.wn) i p hp)
  have := okg.n2
  omega
/-- A slice value that holds the n numbers f, in a block of B. -/
def RowP (B : Nat → Prop) (w : World) (n : Nat) (f : Nat → Int) (v : Value) : Prop := ∃ x c, v = .slice (some ⟨x, 0, none⟩) n c ∧ B x ∧ n ≤ c ∧ RowF w x n f
theorem RowP.keep {B S : Nat → Prop} {w w' : World} {n : Nat} {f : Nat → Int} {v : Value} (h : RowP B w n f v) (hk : Keep S w w') (hS : ∀ x, B x → ¬ S x) : RowP B w' n f v := by
  obtain ⟨x, c, h1, h2, h3, h4⟩ := h
  exact ⟨x, c, h1, h2, h3, h4.of_block (hk.block x h4.lt (hS x h2))⟩
/-- Block x holds, at each k below n, a slice of the N numbers fs k, or nil where p does not hold. -/
def RowsP (B : Nat → Prop) (w : World) (x n N : Nat) (p : Nat → Prop) (fs : Nat → Nat → Int) : Prop := ∃ F, w.rowIs x 28 n F ∧ (∀ k, k < n → ∃ A m c, F k = .slice A m c) ∧ ∀ k, k < n → p k → RowP B w N (fs k) (F k)
theorem RowsP.keep {B S : Nat → Prop} {w w' : World} {x n N : Nat} {p : Nat → Prop} {fs : Nat → Nat → Int} (h : RowsP B w x n N p fs) (hk : Keep S w w') (hS : ∀ x, B x → ¬ S x) (hx : ¬ S x) : RowsP B w' x n N p fs := by
  obtain ⟨F, h1, h2, h3⟩ := h
  exact ⟨F, h1.of_block (hk.block x h1.lt hx), h2, fun k hk' hp => (h3 k hk' hp).keep hk hS⟩
theorem RowsP.set {B : Nat → Prop} {w : World} {x n N k : Nat} {p p' : Nat → Prop} {fs : Nat → Nat → Int} {v : Value} (h : RowsP B w x n N p fs) (hx : ∀ y, B y → y ≠ x) (hk : k < n) (hv : RowP B w N (fs k) v) (hp : ∀ j, p' j → j = k ∨ p j) :
    RowsP B (w.setCell ⟨x, k, none⟩ v) x n N p' fs := by
  obtain ⟨F, h1, h2, h3⟩ := h
  have hkp : Keep (fun y => y = x) w (w.setCell ⟨x, k, none⟩ v) := (Keep.refl (fun y => y = x) w).setCell (p := ⟨x, k, none⟩) (.inl rfl) v
  refine ⟨_, h1.set k v, fun j hj => ?_, fun j hj hpj => ?_⟩
  · by_cases e : j = k
    · obtain ⟨y, c, h4, _⟩ := hv
      exact ⟨_, _, _, by simp only [e, if_pos]; exact h4⟩
    · simp only [e, if_neg, not_false_eq_true]; exact h2 j hj
  · by_cases e : j = k
    · subst e; simp only [if_pos]; exact hv.keep hkp hx
    · simp only [e, if_neg, not_false_eq_true]
      exact (h3 j hj ((hp j hpj).resolve_left e)).keep hkp hx
theorem RowsP.old {B : Nat → Prop} {w : World} {x n N k : Nat} {p : Nat → Prop} {fs : Nat → Nat → Int} (h : RowsP B w x n N p fs) (hk : k < n) : (∃ A m c, w.cell? ⟨x, k, none⟩ = some (.slice A m c)) ∧ w.frozen? ⟨x, k, none⟩ = false := by
  obtain ⟨F, h1, h2, h3⟩ := h
  obtain ⟨A, m, c, e⟩ := h2 k hk
  exact ⟨⟨A, m, c, by rw [h1.cell hk, e]⟩, h1.frozen k⟩
theorem RowsP.lt {B : Nat → Prop} {w : World} {x n N : Nat} {p : Nat → Prop} {fs : Nat → Nat → Int} (h : RowsP B w x n N p fs) : x < w.heap.size := by obtain ⟨F, h1, _⟩ := h; exact h1.lt
theorem heap_setCell_same' {w : World} {b : Nat} {x : Value} {e : TypeId} {f : Nat × Nat} (h : w.heap[b]? = some (.cells #[x] e f)) (v : Value) : (w.setCell ⟨b, 0, none⟩ v).heap[b]? = some (.cells #[v] e f) := by
  simp [World.setCell, Array.getElem?_modify, h]
/-- The faults behind, as the loop goes. -/
structure BkI (s : Sv) (g : Wg) (B : Nat → Prop) (w0 : World) (xb fb l : Nat) (pre : List Nat) (W : World) : Prop where
  kp : Keep (fun k => k = xb ∨ k = fb ∨ k = l) w0 W
  rows : RowsP B W xb g.wn s.N (fun k => g.wn - pre.length ≤ k) (fun k => Bh s.N s.m (agr s g) g.wn (g.wn - 1 - k))
  fv : ∃ v, W.heap[fb]? = some (.cells #[v] 28 (0, 0)) ∧ RowP B W s.N (Bh s.N s.m (agr s g) g.wn pre.length) v

attribute [local go_sem] Oper.semAt_some
theorem c50_aux {s : Sv} {g : Wg} {w w1 : World} (hB1 : Below (((w.alloc (.cells #[.int .i64 s.tr, .int .i64 s.st, .int .i64 s.mv, .int .i64 s.no, .int .i64 s.wr, .slice s.ra s.rn s.rc, .slice g.wa g.wn g.wk] 75)).alloc (.cells (madeCells #[.slice none 0 0] g.wn) 28)).alloc (.cells #[.slice (some ⟨w.heap.size + 1, 0, none⟩) g.wn g.wn] 79)).heap.size (((w.alloc (.cells #[.int .i64 s.tr, .int .i64 s.st, .int .i64 s.mv, .int .i64 s.no, .int .i64 s.wr, .slice s.ra s.rn s.rc, .slice g.wa g.wn g.wk] 75)).alloc (.cells (madeCells #[.slice none 0 0] g.wn) 28)).alloc (.cells #[.slice (some ⟨w.heap.size + 1, 0, none⟩) g.wn g.wn] 79)) w1) :
    w.heap.size + 3 ≤ w1.heap.size ∧ w.heap.size + 1 + 1 < w1.heap.size ∧ w1.cell? ⟨w.heap.size + 1 + 1, 0, none⟩ = some (.slice (some ⟨w.heap.size + 1, 0, none⟩) g.wn g.wn) ∧ Below w.heap.size w w1 ∧
    w1.heap[w.heap.size]? = some (.cells #[.int .i64 s.tr, .int .i64 s.st, .int .i64 s.mv, .int .i64 s.no, .int .i64 s.wr, .slice s.ra s.rn s.rc, .slice g.wa g.wn g.wk] 75 (0, 0)) ∧ w1.heap[w.heap.size + 2]? = some (.cells #[.slice (some ⟨w.heap.size + 1, 0, none⟩) g.wn g.wn] 79 (0, 0)) ∧ ∀ B, RowsP B w1 (w.heap.size + 1) g.wn s.N (fun k => g.wn ≤ k) (fun k => Bh s.N s.m (agr s g) g.wn (g.wn - 1 - k)) := by
  have hz := hB1.size
  simp only [World.size_alloc] at hz
  have h2 : w1.heap[w.heap.size + 2]? = some (.cells #[.slice (some ⟨w.heap.size + 1, 0, none⟩) g.wn g.wn] 79 (0, 0)) := by
    have := heap_new ((w.alloc (.cells #[.int .i64 s.tr, .int .i64 s.st, .int .i64 s.mv, .int .i64 s.no, .int .i64 s.wr, .slice s.ra s.rn s.rc, .slice g.wa g.wn g.wk] 75)).alloc (.cells (madeCells #[.slice none 0 0] g.wn) 28)) (.cells #[.slice (some ⟨w.heap.size + 1, 0, none⟩) g.wn g.wn] 79)
    simp only [World.size_alloc] at this
    exact (hB1.block _ (by simp only [World.size_alloc]; omega)).trans this
  refine ⟨by omega, by omega, ?_, Below.trans (by (repeat' (first | (with_reducible exact Below.refl _ _) | (with_reducible assumption) | (with_reducible refine Below.alloc ?_ ?_ _) | (with_reducible refine Below.drew ?_) | (with_reducible refine below_drewN ?_ _) | (with_reducible refine Below.setCell ?_ ?_ _) | (with_reducible refine Below.trans ?_ (Below.mono (by with_reducible assumption) ?_)) | go_size))) (hB1.mono (by simp only [World.size_alloc]; omega)), ?_, h2, fun B => ?_⟩
  · exact (cell_at (j := 0) h2).trans rfl
  · refine (hB1.block _ (by simp only [World.size_alloc]; omega)).trans ?_
    rw [Below.heap_alloc _ _ _ (by simp only [World.size_alloc]; omega), Below.heap_alloc _ _ _ (by simp only [World.size_alloc]; omega)]
    exact heap_new w _
  · have h3 := World.rowIs_made (w.alloc (.cells #[.int .i64 s.tr, .int .i64 s.st, .int .i64 s.mv, .int .i64 s.no, .int .i64 s.wr, .slice s.ra s.rn s.rc, .slice g.wa g.wn g.wk] 75)) (.slice none 0 0) g.wn 28
    simp only [World.size_alloc] at h3
    refine ⟨_, h3.of_block ((hB1.block _ (by simp only [World.size_alloc]; omega)).trans (Below.heap_alloc _ _ _ (by simp only [World.size_alloc]; omega))), fun _ _ => ⟨none, 0, 0, rfl⟩, fun k hk h => by omega⟩

set_option maxRecDepth 100000 in
set_option maxHeartbeats 4000000 in
theorem c50 (s : Sv) (g : Wg) (w : World) (hz : s.In w) (hg : g.In w) (ok : s.Ok) (okg : g.Ok) :
    Calls Try.prog 50 #[hdv s g] w (RowsRet g.wn s.N (fun k => Bh s.N s.m (agr s g) g.wn (g.wn - 1 - k)) w) := by
  have hN := ok.Nb
  have hN1 := hN.1; have hN2 := hN.2.1
  have hn2 := okg.n2
  have okh := hid ok
  have okgh := hid okg
  have hmk := fun W => run_make_row' (P := Try.prog) 28 3 (.int .i64 0) 8 Try.underlying28 Try.info3 rfl .i64 .i64 s.N (by omega) (by omega) W
  have hmk2 := fun W => run_make_row' (P := Try.prog) 79 28 (.slice none 0 0) 24 Try.underlying79 Try.info28 rfl .i64 .i64 g.wn (by omega) (by omega) W
  clear hN ok okg
  refine callsIn_wide.1 (callsIn_of_wp_marks (F := Fence.wide) (n := 0) Try.func50 rfl trivial ?_ rfl)
  simp only [Try.ntmps50, List.size_toArray, List.length_cons, List.length_nil, Nat.reduceAdd, Nat.reduceSub, Array.replicate_succ, Array.replicate_zero, List.push_toArray, List.append_toArray, List.nil_append, List.cons_append]
  gi_wp2_with (first
    | (refine ⟨trivial, rfl, ?_⟩; gi_at_call 52; refine (callsIn_wide.2 (c52 s g _ okh.out)).mono ?_; rintro e w1 ⟨rfl, hB1⟩; obtain ⟨hc1, hf1⟩ := bcell hB1; obtain ⟨hz1, hz2, k79, hBw1, hh1, hv1, hrw1⟩ := c50_aux hB1; have hz3 : w.heap.size + 1 < w1.heap.size := Nat.lt_of_succ_lt hz2; have hz4 : w.heap.size < w1.heap.size := Nat.lt_of_succ_lt hz3; clear hc1 hf1)
    | (refine ⟨trivial, rfl, ?_⟩; gi_at_call 72; refine (callsIn_wide.2 (c72 _ _ _ _)).mono ?_; rintro e w2 ⟨rfl, rfl⟩))
  clear hmk hmk2 k79
  obtain ⟨W0, hW0⟩ : ∃ W0 : World, W0 = ((w1.alloc (.cells (madeCells #[.int .i64 0] s.N) 3)).alloc (.cells #[.slice (some ⟨w1.heap.size, 0, none⟩) s.N s.N] 28)).alloc (.cells #[.slice (some ⟨w.heap.size + 1, 0, none⟩) g.wn g.wn] 79) := ⟨_, rfl⟩
  rw [← hW0]
  have hs0 : w1.heap.size + 3 ≤ W0.heap.size := by rw [hW0]; simp
  have hs0' : W0.heap.size ≤ w1.heap.size + 3 := by rw [hW0]; simp
  have hb10 : Below w1.heap.size w1 W0 := by rw [hW0]; (repeat' (first | (with_reducible exact Below.refl _ _) | (with_reducible assumption) | (with_reducible refine Below.alloc ?_ ?_ _) | (with_reducible refine Below.drew ?_) | (with_reducible refine below_drewN ?_ _) | (with_reducible refine Below.setCell ?_ ?_ _) | (with_reducible refine Below.trans ?_ (Below.mono (by with_reducible assumption) ?_)) | go_size))
  have hb0 : Below w.heap.size w W0 := hBw1.trans (hb10.mono (by omega))
  have hh0 := (hb10.block _ hz4).trans hh1
  have hv0 := (hb10.block _ (by omega)).trans hv1
  have hx0 : W0.heap[w1.heap.size + 2]? = some (.cells #[.slice (some ⟨w.heap.size + 1, 0, none⟩) g.wn g.wn] 79 (0, 0)) := by
    have := heap_new ((w1.alloc (.cells (madeCells #[.int .i64 0] s.N) 3)).alloc (.cells #[.slice (some ⟨w1.heap.size, 0, none⟩) s.N s.N] 28)) (.cells #[.slice (some ⟨w.heap.size + 1, 0, none⟩) g.wn g.wn] 79)
    simp only [World.size_alloc] at this
    rw [hW0]; exact this
  obtain ⟨B, hB⟩ : ∃ B : Nat → Prop, B = fun y => w.heap.size ≤ y ∧ y ≠ w.heap.size + 1 ∧ y ≠ w1.heap.size + 1 ∧ y ≠ W0.heap.size + 1 ∧ y ≠ W0.heap.size := ⟨_, rfl⟩
  have hBh := hid hB
  have hI0 : BkI s g B W0 (w.heap.size + 1) (w1.heap.size + 1) (W0.heap.size + 1) [] W0 := by
    refine ⟨Keep.refl _ _, ?_, ?_⟩
    · exact (hrw1 B).keep (Keep.of_below (S := fun _ => False) hb10 (Nat.le_refl _)) (fun _ _ h => h) (fun h => h)
    · have hzr : RowF W0 w1.heap.size s.N (fun _ => 0) := by rw [hW0]; exact ((RowF.made w1 s.N).alloc _).alloc _
      refine ⟨.slice (some ⟨w1.heap.size, 0, none⟩) s.N s.N, ?_, w1.heap.size, s.N, rfl, ?_, Nat.le_refl _, hzr⟩
      · rw [hW0, Below.heap_alloc _ _ _ (by simp only [World.size_alloc]; omega)]
        have := heap_new (w1.alloc (.cells (madeCells #[.int .i64 0] s.N) 3)) (.cells #[.slice (some ⟨w1.heap.size, 0, none⟩) s.N s.N] 28)
        rwa [World.size_alloc] at this
      · rw [hB]; exact ⟨by omega, by omega, by omega, by omega, by omega⟩
  clear hW0 hrw1 hh1 hv1 hB1
  refine rf_law2 (S := fun k => k = w.heap.size + 1 ∨ k = w1.heap.size + 1) (xs := dw g.wn g.wn) (R := fun (k : Nat) args => ∃ v, args = #[.int .i64 k, v]) (gf := 83) (la := #[]) (lb := #[.pointer (some ⟨w1.heap.size + 1 + 1, 0, none⟩)]) rfl (enters_of Try.func83 (by kernel_rfl) rfl) (fun _ _ h => by obtain ⟨v, rfl⟩ := h; rfl) (fun k hk => by omega)
    (fun W _ _ => back83 (w1.heap.size + 1 + 1) (w.heap.size + 1) g.wn g.wn _ W (by omega))
    (BkI s g B W0 (w.heap.size + 1) (w1.heap.size + 1) (W0.heap.size + 1)) (fun _ _ => False) ?hI (fun _ _ _ h _ => h) ?hRd hI0 ?round ?done (fun _ _ h => h.elim)
  case hI =>
    rintro pre C D ⟨a1, a2, v, a3, a4⟩ hk
    have hBl : ∀ x, B x → ¬ x = W0.heap.size + 1 := fun x hx => by rw [hB] at hx; exact hx.2.2.2.1
    exact ⟨a1.trans (hk.imp fun _ _ h => .inr (.inr h)), a2.keep hk hBl (by omega), v, (hk.block _ (Array.getElem?_eq_some_iff.1 a3).1 (by omega)).trans a3, a4.keep hk hBl⟩
  case hRd =>
    rintro pre V ⟨a1, a2, _⟩
    refine ⟨?_, fun k hk => (a2.old hk).1⟩
    exact (cell_at (j := 0) ((a1.block _ (by omega) (by omega)).trans hx0)).trans rfl
  case round =>
    rintro pre x W hi hpre hsz hl args ⟨v0, rfl⟩
    gi_wp2
    refine ⟨Keep.refl _ _, hi, fun W₂ hs2' ho hl2 hi2 => ?_⟩
    obtain ⟨hpl, hx⟩ := dw_at hpre
    have hs2 : W.heap.size ≤ W₂.heap.size := by omega
    clear hi ho hl hs2'
    obtain ⟨a1, a2, v, a3, a4⟩ := hi2
    obtain ⟨y, c, rfl, hy, hc, hRy⟩ := a4
    have hxl : x < g.wn := by omega
    have hxx : Hid (g.wn - 1 - pre.length = x) := hid hx.symm
    have hBl : ∀ k, B k → k ≠ w.heap.size + 1 := fun k hk => by rw [hB] at hk; exact hk.2.1
    have hBf : ∀ k, B k → k ≠ w1.heap.size + 1 := fun k hk => by rw [hB] at hk; exact hk.2.2.1
    have hhd := (a1.block _ (show w.heap.size < W0.heap.size by omega) (by omega)).trans hh0
    have c79 : W₂.cell? ⟨w.heap.size + 1 + 1, 0, none⟩ = some (.slice (some ⟨w.heap.size + 1, 0, none⟩) g.wn g.wn) := (cell_at (j := 0) ((a1.block (w.heap.size + 2) (by omega) (by omega)).trans hv0)).trans rfl
    have c28 : W₂.cell? ⟨w1.heap.size + 1, 0, none⟩ = some (.slice (some ⟨y, 0, none⟩) s.N c) := (cell_at (j := 0) a3).trans rfl
    obtain ⟨⟨A0, m0, c0, h1⟩, h2⟩ := a2.old hxl
    have h4 := @ixRows (w.heap.size + 1) g.wn g.wn x hxl
    have hw2 : w.heap.size + 1 < W₂.heap.size := by omega
    have hBw : Below w.heap.size w W₂ := hb0.trans ((a1.to_below (B := w.heap.size + 1) (by omega) (by omega)).mono (by omega))
    obtain ⟨W3, hW3⟩ : ∃ W3 : World, W3 = W₂.setCell ⟨w.heap.size + 1, x, none⟩ (.slice (some ⟨y, 0, none⟩) s.N c) := ⟨_, rfl⟩
    have hk3 : Keep (fun k => k = w.heap.size + 1) W₂ W3 := by rw [hW3]; exact (Keep.refl (fun k => k = w.heap.size + 1) W₂).setCell (p := ⟨w.heap.size + 1, x, none⟩) (.inl rfl) _
    have hrw3 : RowsP B W3 (w.heap.size + 1) g.wn s.N (fun k => g.wn - (pre ++ [x]).length ≤ k) (fun k => Bh s.N s.m (agr s g) g.wn (g.wn - 1 - k)) := by
      rw [hW3]
      refine a2.set hBl hxl ⟨y, c, rfl, hy, hc, ?_⟩ (fun j hj => ?_)
      · rw [show g.wn - 1 - x = pre.length by omega]; exact hRy
      · simp only [List.length_append, List.length_singleton] at hj; omega
    have hs3 : W₂.heap.size ≤ W3.heap.size := by rw [hW3]; simp
    have hf3 := (hk3.block _ (Array.getElem?_eq_some_iff.1 a3).1 (show ¬ w1.heap.size + 1 = w.heap.size + 1 by omega)).trans a3
    have hh3 := (hk3.block _ (show w.heap.size < W₂.heap.size by omega) (show ¬ w.heap.size = w.heap.size + 1 by omega)).trans hhd
    have hR3 : RowF W3 y s.N (Bh s.N s.m (agr s g) g.wn pre.length) := hRy.of_block (hk3.block y hRy.lt (hBl y hy))
    have hB3 : Below w.heap.size w W3 := hBw.trans (hk3.to_below (B := w.heap.size) (by omega) (by omega))
    have hrwh := hid hrw3
    have hRh := hid hR3
    have hk3h := hid hk3
    have a1h := hid a1
    clear a1 a2 a3 hRy hhd hrw3 hR3 hk3 hx
    gi_wp2
    rw [← hW3]
    clear c79 c28 h1 h2 h4 hW3
    refine wild_tail (F := Fence.wide.inRound (W0.heap.size + 1)) (n := 0) (C := fun w' => Below W3.heap.size W3 w') (R := fun A B => Below A.heap.size A B) (G := fun i us w' => match i with
      | 0 => us 0 = hdv s g
      | 1 => us 1 = hdv s g
      | 2 => us 2 = .slice (some ⟨y, 0, none⟩) s.N c
      | 3 => us 3 = .int .i64 (x : Nat)
      | 4 => RowP B w' s.N (jdg (agr s g x) (Bh s.N s.m (agr s g) g.wn pre.length)) (us 4)
      | 5 => RowP B w' s.N (mvd s.N s.m (jdg (agr s g x) (Bh s.N s.m (agr s g) g.wn pre.length))) (us 5)
      | _ => True) (by kernel_rfl) (by kernel_rfl) (by kernel_rfl) ?loc (Below.refl _ _).drew ?stab ?steps ?fin
    case loc =>
      intro j us i v w' hij hdp hG
      rcases j with _ | _ | _ | _ | _ | _ | j
      all_goals first | trivial | ((try dsimp only at hG ⊢); rw [upd_ne _ _ (Ne.symm hij)]; exact hG) | skip
    case stab =>
      intro i us C D hCD hG
      rcases i with _ | _ | _ | _ | _ | _ | i <;> try exact hG
      · exact RowP.keep hG (Keep.of_below (S := fun _ => False) hCD (Nat.le_refl _)) (fun _ _ h => h)
      · exact RowP.keep hG (Keep.of_below (S := fun _ => False) hCD (Nat.le_refl _)) (fun _ _ h => h)
    case steps =>
      dsimp only [List.dropLast, StepsW, StepW]
      refine ⟨?_, ?_, ?_, ?_, ?_, ?_, trivial⟩
      all_goals (intro A us W5 hA hC hG K hK; have hcw0 := fun j => cell_at (j := j) ((hC.block _ (by omega)).trans hh3); have hcw1 := fun j => cell_at (j := j) ((hC.block _ (by omega)).trans hf3); have hzw0 := hz.below (hB3.trans (hC.mono (by omega))) (Nat.le_refl _); have hzw1 := hg.below (hB3.trans (hC.mono (by omega))) (Nat.le_refl _); have hCs := hC.size; simp only [AfterW, Region.binds, true_implies, and_true, forall_const] at hG)
      · have h1 : A.tmps[1]?.getD undef = .pointer (some ⟨w.heap.size, 0, none⟩) := slot_none hA rfl rfl
        clear hA
        gi_wp2
        exact hK _ W5 hC (Below.refl _ _) (upd_same _ _ _)
      · have h1 : A.tmps[1]?.getD undef = .pointer (some ⟨w.heap.size, 0, none⟩) := slot_none hA rfl rfl
        clear hA
        gi_wp2
        exact hK _ W5 hC (Below.refl _ _) (upd_same _ _ _)
      · have h1 : A.tmps[4]?.getD undef = .pointer (some ⟨w1.heap.size + 1, 0, none⟩) := slot_none hA rfl rfl
        clear hA
        gi_wp2
        exact hK _ W5 hC (Below.refl _ _) (upd_same _ _ _)
      · have h1 : A.tmps[5]?.getD undef = .int .i64 (x : Nat) := slot_none hA rfl rfl
        clear hA
        gi_wp2
        exact hK _ W5 hC (Below.refl _ _) (upd_same _ _ _)
      · obtain ⟨hG1, hG2, hG3⟩ := hG
        have h22 := slot_some (t := 22) (v := hdv s g) hA (by kernel_rfl) rfl (by simp) hG1
        have h23 := slot_some (t := 23) hA (by kernel_rfl) rfl (by simp) hG2
        have h24 := slot_some (t := 24) hA (by kernel_rfl) rfl (by simp) hG3
        clear hA
        gi_wp2_with (refine ⟨trivial, rfl, ?_⟩; gi_at_call 71; refine (CallsIn.inRound _ (callsIn_wide.2 (c71 s g y c x _ _ hzw0 hzw1 okh.out okgh.out hxl (hRh.out.below hC hRh.out.lt) (Bh_100 okgh.out (by omega))))).mono ?_; rintro e w9 ⟨x9, c9, rfl, hx9, hc9, hR9, hB9⟩)
        refine hK _ w9 (hC.trans (hB9.mono hC.size)) hB9 ?_
        rw [upd_same]
        exact ⟨x9, c9, rfl, by rw [hB]; exact ⟨by omega, by omega, by omega, by omega, by omega⟩, hc9, hR9⟩
      · obtain ⟨hG0, ⟨y9, c9, hG4, hy9, hc9, hR9⟩, _⟩ := hG
        have h21 := slot_some (t := 21) (v := hdv s g) hA (by kernel_rfl) rfl (by simp) hG0
        have h25 := slot_some (t := 25) hA (by kernel_rfl) rfl (by simp) hG4
        have hR9h := hid hR9
        clear hA hR9
        gi_wp2_with (refine ⟨trivial, rfl, ?_⟩; gi_at_call 56; refine (CallsIn.inRound _ (callsIn_wide.2 (c56 s g y9 c9 _ _ okh.out hR9h.out hc9 (jdB_100 okgh.out (by omega) _)))).mono ?_; rintro e w9 ⟨x9, d9, rfl, hx9, hd9, hRx, hB9⟩)
        refine hK _ w9 (hC.trans (hB9.mono hC.size)) hB9 ?_
        rw [upd_same]
        exact ⟨x9, d9, rfl, by rw [hB]; exact ⟨by omega, by omega, by omega, by omega, by omega⟩, hd9, hRx⟩
    case fin =>
      intro us W5 hC hG
      have g5 : RowP B W5 s.N (mvd s.N s.m (jdg (agr s g x) (Bh s.N s.m (agr s g) g.wn pre.length))) (us 5) := hG 5 (by decide)
      obtain ⟨x8, c8, e8, hx8, hc8, hR8⟩ := g5
      simp only [lastOp, frW, Nat.reduceAdd, Nat.zero_add, e8, Act.put, List.setIfInBounds_toArray, List.set_cons_succ, List.set_cons_zero]
      have hf5 := (hC.block _ (by omega)).trans hf3
      have k1 := cell_at (j := 0) hf5
      have k2 := frozen_at (j := 0) hf5
      have hs5 : w1.heap.size + 1 < W5.heap.size := (Array.getElem?_eq_some_iff.1 hf5).1
      have hR8h := hid hR8
      have hGh := hid hG
      clear hG hR8
      gi_wp2
      have hxB : B x8 := hx8
      have hKa : Keep (fun k => k = w.heap.size + 1 ∨ k = w1.heap.size + 1) W₂ (W5.setCell ⟨w1.heap.size + 1, 0, none⟩ (.slice (some ⟨x8, 0, none⟩) s.N c8)) := ((hk3h.out.imp (fun _ _ h => .inl h)).below hC (by omega)).setCell (p := ⟨w1.heap.size + 1, 0, none⟩) (.inl (.inr rfl)) _
      have hKb : Keep (fun k => k = w1.heap.size + 1) W3 (W5.setCell ⟨w1.heap.size + 1, 0, none⟩ (.slice (some ⟨x8, 0, none⟩) s.N c8)) := (Keep.of_below (S := fun k => k = w1.heap.size + 1) hC (Nat.le_refl _)).setCell (p := ⟨w1.heap.size + 1, 0, none⟩) (.inl rfl) _
      have hKc : Keep (fun k => k = w1.heap.size + 1) W5 (W5.setCell ⟨w1.heap.size + 1, 0, none⟩ (.slice (some ⟨x8, 0, none⟩) s.N c8)) := (Keep.refl (fun k => k = w1.heap.size + 1) W5).setCell (p := ⟨w1.heap.size + 1, 0, none⟩) (.inl rfl) _
      refine ⟨hKa, a1h.out.trans (hKa.imp fun _ _ h => h.imp id .inl), hrwh.out.keep hKb hBf (by omega), _, heap_setCell_same' hf5 _, ?_⟩
      refine RowP.keep ⟨x8, c8, rfl, hxB, hc8, ?_⟩ hKc hBf
      rw [List.length_append, List.length_singleton]
      show RowF W5 x8 s.N (mvd s.N s.m (jdg (agr s g (g.wn - 1 - pre.length)) (Bh s.N s.m (agr s g) g.wn pre.length)))
      rw [hxx.out]
      exact hR8h.out
  case done =>
    rintro W ⟨a1, a2, _⟩ hK hsz
    have c79 : W.cell? ⟨w.heap.size + 1 + 1, 0, none⟩ = some (.slice (some ⟨w.heap.size + 1, 0, none⟩) g.wn g.wn) := (cell_at (j := 0) ((a1.block (w.heap.size + 2) (by omega) (by omega)).trans hv0)).trans rfl
    have hsW : W0.heap.size < W.heap.size := by omega
    gi_wp2
    refine ⟨by simp, .inl ⟨_, _, rfl, run_takeDeferred (ds := []) hK, ?_⟩⟩
    refine ⟨.slice (some ⟨w.heap.size + 1, 0, none⟩) g.wn g.wn, by simp [results, Try.results50, go_sem], ?_⟩
    have hBd : ∀ x, B x → ¬ x = W0.heap.size := fun x hx => by rw [hB] at hx; exact hx.2.2.2.2
    have a3 := a2.keep ((Keep.refl (fun k => k = W0.heap.size) W).putObj W0.heap.size (.deferred none) (.inl rfl)) hBd (by omega)
    obtain ⟨F, f1, f2, f3⟩ := a3
    refine ⟨w.heap.size + 1, w.heap.size, rfl, by omega, Nat.le_refl _, ⟨F, f1, f2, fun k hk _ => ?_⟩, ?_⟩
    · obtain ⟨z, cz, g1, g2, g3, g4⟩ := f3 k hk (by rw [dw_len]; omega)
      exact ⟨z, cz, g1, by rw [hB] at g2; exact g2.1, g3, g4⟩
    · exact Below.putObj' (hb0.trans ((a1.to_below (B := w.heap.size + 1) (by omega) (by omega)).mono (by omega))) _ _ (by omega)
end Go.Proofs.Ytkafjlhmbiaicaa
