/- Stage 1: the reference's Wait, when it answers. -/
import Derived.Test.YthkbiplmfbcabaaG
import Derived.Test.YthkbiplmfbcabaaWd
import Derived.Test.YthkbiplmfbcabaaT
import Derived.TacticsIn
set_option linter.unusedSimpArgs false
set_option linter.unusedVariables false
namespace Go.Proofs.Ythkbiplmfbcabaa
open Go.RowKit Go.Sort

set_option maxRecDepth 100000 in
set_option maxHeartbeats 1000000 in
theorem c27_ok (d : Dk) (n : Nat) (tm : Int) (w : World) (hz : Zs w d) (ok : d.Ok) (hn : n < (places d).length) (tm0 : 0 ≤ tm) (tm1 : tm ≤ 1000000) :
    Calls Try.prog 27 #[d.v, .int .i64 n, .int .i64 tm] w fun e w' => e = .returned (.tuple #[.int .i64 ((begAt d (places d)[n] - tm) % d.tu), .int .i64 0]) ∧ Below w.heap.size w w' := by
  have hL := ok.lenPl
  have h0 := hid (Dk.secErr_yes ok (show 0 ≤ (n : Int) ∧ (n : Int) < d.count by have := ok.cntB; unfold lenPlaces at hL; omega))
  have okh := hid ok
  have hm : d.zs.length ≤ 1000000 := by have := ok.zl4; omega
  obtain ⟨m1, m2, m3, m4, m5, m6⟩ := mem_places (List.getElem_mem hn)
  obtain ⟨s1, s2, s3⟩ := ok.sec m1 m2
  have hd4 := ok.hd4
  have tu1 := ok.tu1
  have tu2 := ok.tu2
  obtain ⟨b1, b2⟩ := begAt_bd ok (places d)[n]
  clear ok hL s3
  go_enter Try.func27, Try.ntmps27
  go_wp2_with (first | (go_at_call 53; refine (c53 d n _ (by exact hz.below (by (repeat' (first | (with_reducible exact Below.refl _ _) | (with_reducible assumption) | (with_reducible refine Below.alloc ?_ ?_ _) | (with_reducible refine Below.drew ?_) | (with_reducible refine below_drewN ?_ _) | (with_reducible refine Below.setCell ?_ ?_ _) | (with_reducible refine Below.trans ?_ (Below.mono (by with_reducible assumption) ?_)) | go_size))) (Nat.le_refl _)) hm).mono ?_; rw [h0.out]; rintro e w1 ⟨rfl, hB1⟩; obtain ⟨hc1, hf1⟩ := bcell (hB1.mono (show w.heap.size + 1 ≤ _ by first | omega | ((try simp only [World.size_alloc, World.size_drew, World.size_setCell]); omega))); have hz1 : w.heap.size + 1 ≤ w1.heap.size := (by have := hB1.size; (try simp only [World.size_alloc, World.size_drew, World.size_setCell] at this); omega); have hy1 : w.heap.size < w1.heap.size := (by omega)) | (go_at_call 47; refine (c47y _ (by exact ⟨tm0, tm1⟩)).mono ?_; rintro e w9 ⟨rfl, rfl⟩))
  have hvb : w1.heap[w.heap.size]? = some (.cells #[.int .i64 d.hd, .int .i64 d.tu, .slice d.za d.zs.length d.zc, .int .i64 d.hs, .int .i64 d.cs, .int .i64 d.hl, .int .i64 d.hh, .int .i64 d.cl, .int .i64 d.ch] 26 (0, 0)) := by rw [hB1.block _ (by simp)]; exact heap_new w _
  have hb1 : Below w.heap.size w w1 := by (repeat' (first | (with_reducible exact Below.refl _ _) | (with_reducible assumption) | (with_reducible refine Below.alloc ?_ ?_ _) | (with_reducible refine Below.drew ?_) | (with_reducible refine below_drewN ?_ _) | (with_reducible refine Below.setCell ?_ ?_ _) | (with_reducible refine Below.trans ?_ (Below.mono (by with_reducible assumption) ?_)) | go_size))
  have hz1' : Zs w1 d := hz.below hb1 (Nat.le_refl _)
  clear hc1 hf1
  refine wpIn_wide.1 (wild_region (F := Fence.wide) (n := 0) (C := fun w' => Below w1.heap.size w1 w') (R := fun A B => Below A.heap.size A B) (G := fun i us w' => match i with
    | 0 => us 0 = d.v
    | 1 => us 1 = .int .i64 tm
    | 2 => us 2 = d.v
    | 3 => us 3 = d.v
    | 4 => ∃ g cap : Nat, us 4 = .slice (some ⟨g, 0, none⟩) (places d).length cap ∧ Pls w' g (places d)
    | 5 => us 5 = .int .i64 n
    | 6 => ∃ g : Nat, us 6 = .pointer (some ⟨g, n * 3, none⟩) ∧ Pls w' g (places d)
    | 7 => us 7 = .agg #[.int .i64 (places d)[n].1, .int .i64 (places d)[n].2.1, .int .i64 (places d)[n].2.2]
    | 8 => us 8 = .int .i64 (begAt d (places d)[n])
    | 9 => us 9 = .int .i64 ((begAt d (places d)[n] - tm) % d.tu)
    | 10 => us 10 = .int .i64 ((begAt d (places d)[n] - tm) % d.tu)
    | 11 => us 11 = .int .i64 0
    | _ => True) (by kernel_rfl) (by kernel_rfl) (by kernel_rfl) ?loc (Below.refl _ _).drew ?stab ?steps ?fin)
  case loc =>
    intro j us i v w' hij hdp hG
    rcases j with _ | _ | _ | _ | _ | _ | _ | _ | _ | _ | _ | _ | j
    all_goals first | trivial | ((try dsimp only at hG ⊢); rw [upd_ne _ _ (Ne.symm hij)]; exact hG)
  case stab =>
    intro i us A B hAB hG
    rcases i with _ | _ | _ | _ | _ | _ | _ | _ | _ | _ | _ | _ | i <;> try exact hG
    · obtain ⟨g, cap, h1, h2⟩ := hG
      exact ⟨g, cap, h1, h2.below hAB h2.lt⟩
    · obtain ⟨g, h1, h2⟩ := hG
      exact ⟨g, h1, h2.below hAB h2.lt⟩
  case steps =>
    dsimp only [StepsW, StepW]
    refine ⟨?_, ?_, ?_, ?_, ?_, ?_, ?_, ?_, ?_, ?_, ?_, ?_, trivial⟩
    all_goals (intro A us W hA hC hG K hK; have hcw := fun j => cell_at (j := j) ((hC.block _ (by omega)).trans hvb); have hzw : Zs W d := hz1'.below hC (Nat.le_refl _); have h3 : A.tmps[3]?.getD undef = .pointer (some ⟨w.heap.size, 0, none⟩) := slot_none hA rfl rfl; simp only [AfterW, Region.binds, true_implies, and_true, forall_const] at hG)
    · clear hA
      go_simp
      exact hK _ W hC (Below.refl _ _) (upd_same _ _ _)
    · have h2 : A.tmps[2]?.getD undef = .int .i64 tm := slot_none hA rfl rfl
      clear hA
      go_simp
      exact hK _ W hC (Below.refl _ _) (upd_same _ _ _)
    · clear hA
      go_simp
      exact hK _ W hC (Below.refl _ _) (upd_same _ _ _)
    · clear hA
      go_simp
      exact hK _ W hC (Below.refl _ _) (upd_same _ _ _)
    · have h21 := slot_some (t := 21) hA (by kernel_rfl) rfl (by simp) hG
      clear hA
      gi_wp2_with (refine ⟨trivial, rfl, ?_⟩; gi_at_call 51; refine (callsIn_wide.2 (c51 d _ hzw okh.out)).mono ?_; intro e w3 hr; obtain ⟨g, cap, rfl, hg, hp, hB3⟩ := hr.pos (by omega))
      exact hK _ w3 (hC.trans (hB3.mono hC.size)) hB3 ⟨g, cap, upd_same _ _ _, hp⟩
    · have h1 : A.tmps[1]?.getD undef = .int .i64 n := slot_none hA rfl rfl
      clear hA
      go_simp
      exact hK _ W hC (Below.refl _ _) (upd_same _ _ _)
    · obtain ⟨⟨g, cap, hG4, hp⟩, hG5⟩ := hG
      have h22 := slot_some (t := 22) hA (by kernel_rfl) rfl (by simp) hG4
      have h23 := slot_some (t := 23) hA (by kernel_rfl) rfl (by simp) hG5
      have hnl : (n : Int) < (places d).length := by omega
      clear hA
      go_simp
      exact hK _ W hC (Below.refl _ _) ⟨g, upd_same _ _ _, hp⟩
    · obtain ⟨g, hG6, hp⟩ := hG
      have h24 := slot_some (t := 24) hA (by kernel_rfl) rfl (by simp) hG6
      have p0 := hp.c0 n hn
      have p1 := hp.c1 n hn
      have p2 := hp.c2 n hn
      clear hA hp
      go_simp
      exact hK _ W hC (Below.refl _ _) (upd_same _ _ _)
    · have h20 := slot_some (t := 20) hA (by kernel_rfl) rfl (by simp) hG.1
      have h25 := slot_some (t := 25) hA (by kernel_rfl) rfl (by simp) hG.2.1
      clear hA
      gi_wp2_with (refine ⟨trivial, rfl, ?_⟩; gi_at_call 55; refine (callsIn_wide.2 (c55 d _ _ _ _ hzw okh.out m1 m2 m3 (by omega) m5 (by omega))).mono ?_; rintro e w3 ⟨rfl, hB3⟩)
      exact hK _ w3 (hC.trans (hB3.mono hC.size)) hB3 (upd_same _ _ _)
    · have h18 := slot_some (t := 18) hA (by kernel_rfl) rfl (by simp) hG.1
      have h19 := slot_some (t := 19) hA (by kernel_rfl) rfl (by simp) hG.2.1
      have h26 := slot_some (t := 26) hA (by kernel_rfl) rfl (by simp) hG.2.2.1
      clear hA
      gi_wp2_with (refine ⟨trivial, rfl, ?_⟩; gi_at_call 58; refine (callsIn_wide.2 (c58 d _ _ _ tu1 tu2 tm0 (by omega) (by omega) (by omega))).mono ?_; rintro e w3 ⟨rfl, hB3⟩)
      exact hK _ w3 (hC.trans (hB3.mono hC.size)) hB3 (upd_same _ _ _)
    · have h27 := slot_some (t := 27) hA (by kernel_rfl) rfl (by simp) hG.1
      clear hA
      go_simp
      exact hK _ W hC (Below.refl _ _) (upd_same _ _ _)
    · clear hA
      go_simp
      exact hK _ W hC (Below.refl _ _) (upd_same _ _ _)
  case fin =>
    intro us W hC hG
    have g10 : us 10 = .int .i64 ((begAt d (places d)[n] - tm) % d.tu) := hG 10 (by decide)
    have g11 : us 11 = .int .i64 0 := hG 11 (by decide)
    simp only [frW, Nat.reduceAdd, Nat.zero_add, g10, g11, Act.put, List.setIfInBounds_toArray, List.set_cons_succ, List.set_cons_zero]
    clear hG g10 g11
    go_wp2
    go_returns
    exact ⟨rfl, hb1.trans (hC.mono (by omega))⟩
end Go.Proofs.Ythkbiplmfbcabaa
