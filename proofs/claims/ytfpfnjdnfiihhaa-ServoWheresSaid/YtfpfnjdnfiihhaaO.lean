/- Stage 2: the faults of all wedges; whether some path is possible. -/
import Derived.Test.YtfpfnjdnfiihhaaL
import Derived.Test.YtfpfnjdnfiihhaaWd
set_option linter.unusedSimpArgs false
set_option linter.unusedVariables false
namespace Go.Proofs.Ytfpfnjdnfiihhaa
open Go.RowKit Go.Sort

theorem cell_at {w : World} {b j : Nat} {cs : Array Value} {e : TypeId} {f : Nat × Nat} (h : w.heap[b]? = some (.cells cs e f)) : w.cell? ⟨b, j, none⟩ = cs[j]? := by
  simp [World.cell?, h]
theorem frozen_at {w : World} {b j : Nat} {cs : Array Value} {e : TypeId} (h : w.heap[b]? = some (.cells cs e (0, 0))) : w.frozen? ⟨b, j, none⟩ = false := by
  simp [World.frozen?, h]
theorem fl_zero {s : Sv} {g : Wg} (h : g.wn = 0) : fl s g = fun _ => 0 := by unfold fl flt; rw [if_pos h]
theorem fl_pos {s : Sv} {g : Wg} {m : Nat} (h : g.wn = m + 1) : fl s g = jdg (agr s g m) (Fb s.N s.m (agr s g) m) := by
  unfold fl flt
  rw [if_neg (by omega), h]; rfl
theorem fl_100 {s : Sv} {g : Wg} (okg : g.Ok) : ∀ p, p < s.N → 0 ≤ fl s g p ∧ fl s g p ≤ 100 := fun p hp => by
  have h := flt_bd (m := s.m) (ag := agr s g) (n := g.wn) hp
  have := okg.n2
  unfold fl
  omega

set_option maxRecDepth 100000 in
set_option maxHeartbeats 2000000 in
theorem c54 (s : Sv) (g : Wg) (w : World) (hz : s.In w) (hg : g.In w) (ok : s.Ok) (okg : g.Ok) :
    Calls Try.prog 54 #[hdv s g] w (IRet s.N (fl s g) w) := by
  have hN := ok.Nb
  have hN1 := hN.1; have hN2 := hN.2.1
  have hn2 := okg.n2
  have okh := hid ok
  have okgh := hid okg
  by_cases h0 : g.wn = 0
  · have hmk := fun W => run_make_row' (P := Try.prog) 28 3 (.int .i64 0) 8 Try.underlying28 Try.info3 rfl .i64 .i64 s.N (by omega) (by omega) W
    have hfl := hid (fl_zero (s := s) h0)
    have h0' : (g.wn : Int) - 1 < 0 := by omega
    clear hN ok okg h0
    go_enter Try.func54, Try.ntmps54
    go_wp2_with (go_at_call 52; refine (c52 s g _ okh.out).mono ?_; rintro e w1 ⟨rfl, hB1⟩; obtain ⟨hc1, hf1⟩ := bcell hB1; have hz1 := hB1.size)
    go_returns
    have hB : Below w.heap.size w w1 := Below.trans (by (repeat' (first | (with_reducible exact Below.refl _ _) | (with_reducible assumption) | (with_reducible refine Below.alloc ?_ ?_ _) | (with_reducible refine Below.drew ?_) | (with_reducible refine below_drewN ?_ _) | (with_reducible refine Below.setCell ?_ ?_ _) | (with_reducible refine Below.trans ?_ (Below.mono (by with_reducible assumption) ?_)) | go_size))) (hB1.mono (by simp))
    exact ⟨_, _, rfl, by simp at hz1; omega, Nat.le_refl _, by rw [hfl.out]; exact RowF.made w1 s.N, hB.alloc (by simp at hz1; omega) _⟩
  · obtain ⟨m, hm⟩ : ∃ m, g.wn = m + 1 := ⟨g.wn - 1, by omega⟩
    have hfl := hid (fl_pos (s := s) hm)
    have hmh := hid hm
    have hm24 : m < 24 := by omega
    have h0' : ¬ (g.wn : Int) - 1 < 0 := by omega
    have e1 : IntKind.i64.wrap ((g.wn : Int) - 1) = (m : Int) := by rw [IntWalk.i64_in _ (by omega)]; omega
    clear hN ok okg h0 hm
    go_enter Try.func54, Try.ntmps54
    go_wp2_with fail
    obtain ⟨W0, hW0⟩ : ∃ W0 : World, W0 = w.alloc (.cells #[.int .i64 s.tr, .int .i64 s.st, .int .i64 s.mv, .int .i64 s.no, .int .i64 s.wr, .slice s.ra s.rn s.rc, .slice g.wa g.wn g.wk] 75) := ⟨_, rfl⟩
    have hB0 : Below w.heap.size w W0 := by rw [hW0]; (repeat' (first | (with_reducible exact Below.refl _ _) | (with_reducible assumption) | (with_reducible refine Below.alloc ?_ ?_ _) | (with_reducible refine Below.drew ?_) | (with_reducible refine below_drewN ?_ _) | (with_reducible refine Below.setCell ?_ ?_ _) | (with_reducible refine Below.trans ?_ (Below.mono (by with_reducible assumption) ?_)) | go_size))
    have hbx : Hbx s g W0 w.heap.size := by rw [hW0]; exact Hbx.new s g w
    have hs0 : W0.heap.size = w.heap.size + 1 := by rw [hW0]; simp
    rw [← hW0]
    have hvb : W0.heap[w.heap.size]? = some (.cells #[.int .i64 s.tr, .int .i64 s.st, .int .i64 s.mv, .int .i64 s.no, .int .i64 s.wr, .slice s.ra s.rn s.rc, .slice g.wa g.wn g.wk] 75 (0, 0)) := by rw [hW0]; exact heap_new w _
    have hml : m < g.wn := by rw [hmh.out]; omega
    refine wpIn_wide.1 (wild_region (F := Fence.wide) (n := 0) (C := fun w' => Below W0.heap.size W0 w') (R := fun A B => Below A.heap.size A B) (G := fun i us w' => match i with
      | 0 => us 0 = hdv s g
      | 1 => us 1 = hdv s g
      | 2 => ∃ x base : Nat, us 2 = .slice (some ⟨x, 0, none⟩) g.wn g.wn ∧ RowsF w' x g.wn base s.N (fun _ => True) (Fb s.N s.m (agr s g))
      | 3 => us 3 = .int .i64 (m : Nat)
      | 4 => ∃ x base : Nat, us 4 = .pointer (some ⟨x, m, none⟩) ∧ RowsF w' x g.wn base s.N (fun _ => True) (Fb s.N s.m (agr s g))
      | 5 => ∃ base : Nat, RowV w' base s.N (Fb s.N s.m (agr s g) m) (us 5)
      | 6 => us 6 = .int .i64 (m : Nat)
      | 7 => RowV w' w.heap.size s.N (jdg (agr s g m) (Fb s.N s.m (agr s g) m)) (us 7)
      | 8 => RowV w' w.heap.size s.N (jdg (agr s g m) (Fb s.N s.m (agr s g) m)) (us 8)
      | _ => True) (by kernel_rfl) (by kernel_rfl) (by kernel_rfl) ?loc (Below.refl _ _).drew ?stab ?steps ?fin)
    case loc =>
      intro j us i v w' hij hdp hG
      rcases j with _ | _ | _ | _ | _ | _ | _ | _ | _ | j
      all_goals first | trivial | ((try dsimp only at hG ⊢); rw [upd_ne _ _ (Ne.symm hij)]; exact hG) | skip
    case stab =>
      intro i us A B hAB hG
      rcases i with _ | _ | _ | _ | _ | _ | _ | _ | _ | i <;> try exact hG
      · obtain ⟨x, base, h1, h2⟩ := hG
        exact ⟨x, base, h1, h2.below hAB (Nat.le_refl _)⟩
      · obtain ⟨x, base, h1, h2⟩ := hG
        exact ⟨x, base, h1, h2.below hAB (Nat.le_refl _)⟩
      · obtain ⟨base, h1⟩ := hG
        exact ⟨base, h1.below hAB (Nat.le_refl _)⟩
      · exact RowV.below hG hAB (Nat.le_refl _)
      · exact RowV.below hG hAB (Nat.le_refl _)
    case steps =>
      dsimp only [StepsW, StepW]
      refine ⟨?_, ?_, ?_, ?_, ?_, ?_, ?_, ?_, ?_, trivial⟩
      all_goals (intro A us W hA hC hG K hK; have hcw0 := fun j => cell_at (j := j) ((hC.block _ (by omega)).trans hvb); have hzw0 := (hz.below hB0 (Nat.le_refl _)).below hC (Nat.le_refl _); have hzw1 := (hg.below hB0 (Nat.le_refl _)).below hC (Nat.le_refl _); have hCs := hC.size; simp only [AfterW, Region.binds, true_implies, and_true, forall_const] at hG)
      · have h1 : A.tmps[1]?.getD undef = .pointer (some ⟨w.heap.size, 0, none⟩) := slot_none hA rfl rfl
        clear hA
        go_simp
        exact hK _ W hC (Below.refl _ _) (upd_same _ _ _)
      · have h1 : A.tmps[1]?.getD undef = .pointer (some ⟨w.heap.size, 0, none⟩) := slot_none hA rfl rfl
        clear hA
        go_simp
        exact hK _ W hC (Below.refl _ _) (upd_same _ _ _)
      · have h14 := slot_some (t := 14) (v := hdv s g) hA (by kernel_rfl) rfl (by simp) (by first | exact hG | exact hG.1 | exact hG.2 | exact hG.2.1 | exact hG.2.2 | exact hG.2.2.1 | exact hG.2.2.2 | exact hG.2.2.2.1 | exact hG.2.2.2.2 | exact hG.2.2.2.2.1 | exact hG.2.2.2.2.2 | exact hG.2.2.2.2.2.1 | exact hG.2.2.2.2.2.2.1)
        clear hA
        gi_wp2_with (refine ⟨trivial, rfl, ?_⟩; gi_at_call 49; refine (callsIn_wide.2 (c49 s g _ hzw0 hzw1 okh.out okgh.out)).mono ?_; rintro e w9 ⟨x, base, rfl, hx, hbase, hRows, hB9⟩)
        exact hK _ w9 (hC.trans (hB9.mono hC.size)) hB9 ⟨x, base, upd_same _ _ _, hRows⟩
      · have h3 : A.tmps[3]?.getD undef = .int .i64 (m : Nat) := slot_none hA rfl rfl
        clear hA
        go_simp
        exact hK _ W hC (Below.refl _ _) (upd_same _ _ _)
      · obtain ⟨⟨x, base, hG4, hp⟩, hG5⟩ := hG
        have h15 := slot_some (t := 15) hA (by kernel_rfl) rfl (by simp) hG4
        have h16 := slot_some (t := 16) hA (by kernel_rfl) rfl (by simp) hG5
        have hix := @ixRows x g.wn g.wn m hml
        clear hA
        go_simp
        exact hK _ W hC (Below.refl _ _) ⟨x, base, upd_same _ _ _, hp⟩
      · obtain ⟨x, base, hG4, hp⟩ := hG
        have h17 := slot_some (t := 17) hA (by kernel_rfl) rfl (by simp) hG4
        obtain ⟨v, hv, hrow⟩ := hp.cell hml trivial
        clear hA hp
        go_simp
        exact hK _ W hC (Below.refl _ _) ⟨base, by rw [upd_same]; exact hrow⟩
      · have h3 : A.tmps[3]?.getD undef = .int .i64 (m : Nat) := slot_none hA rfl rfl
        clear hA
        go_simp
        exact hK _ W hC (Below.refl _ _) (upd_same _ _ _)
      · obtain ⟨hG0, ⟨base, x, c, hG5, _, hcp, hR⟩, hG6, _⟩ := hG
        have h13 := slot_some (t := 13) hA (by kernel_rfl) rfl (by simp) hG0
        have h18 := slot_some (t := 18) hA (by kernel_rfl) rfl (by simp) hG5
        have h19 := slot_some (t := 19) hA (by kernel_rfl) rfl (by simp) hG6
        have hRh := hid hR
        clear hA hR
        gi_wp2_with (refine ⟨trivial, rfl, ?_⟩; gi_at_call 71; refine (callsIn_wide.2 (c71 s g x c m _ _ hzw0 hzw1 okh.out okgh.out hml hRh.out (Fb_100 okgh.out (by omega)))).mono ?_; rintro e w9 ⟨x9, c9, rfl, hx9, hc9, hR9, hB9⟩)
        exact hK _ w9 (hC.trans (hB9.mono hC.size)) hB9 (by rw [upd_same]; exact ⟨x9, c9, rfl, by omega, hc9, hR9⟩)
      · have hG7 : RowV W w.heap.size s.N (jdg (agr s g m) (Fb s.N s.m (agr s g) m)) (us 7) := (by first | exact hG | exact hG.1 | exact hG.2 | exact hG.2.1 | exact hG.2.2 | exact hG.2.2.1 | exact hG.2.2.2 | exact hG.2.2.2.1 | exact hG.2.2.2.2 | exact hG.2.2.2.2.1 | exact hG.2.2.2.2.2 | exact hG.2.2.2.2.2.1 | exact hG.2.2.2.2.2.2.1)
        have h20 := slot_some (t := 20) (v := us 7) hA (by kernel_rfl) rfl (by simp) rfl
        clear hA hG
        go_simp
        exact hK _ W hC (Below.refl _ _) (by rw [upd_same]; exact hG7)
    case fin =>
      intro us W hC hG
      have g8 : RowV W w.heap.size s.N (jdg (agr s g m) (Fb s.N s.m (agr s g) m)) (us 8) := hG 8 (by decide)
      obtain ⟨x8, c8, e8, hx8, hc8, hR8⟩ := g8
      simp only [frW, Nat.reduceAdd, Nat.zero_add, e8, Act.put, List.setIfInBounds_toArray, List.set_cons_succ, List.set_cons_zero]
      have hR8h := hid hR8
      clear hG hR8
      go_wp2
      go_returns
      exact ⟨x8, c8, rfl, hx8, hc8, by rw [hfl.out]; exact hR8h.out, hB0.trans (hC.mono (by omega))⟩
end Go.Proofs.Ytfpfnjdnfiihhaa
