/- Stage 1: the law ZonesBest, walked. -/
import Derived.Test.YthkbiplmfbcabaaY2
import Derived.Test.YthkbiplmfbcabaaF3
set_option linter.unusedSimpArgs false
set_option linter.unusedVariables false
namespace Go.Proofs.Ythkbiplmfbcabaa
open Go.RowKit Go.Sort

theorem Zs.sk {w : World} {d : Dk} (h : Zs w d) (a b : Int) : Zs w (d.sk a b) := ⟨h.ad, h.lt, h.c1, h.c2, h.nl⟩
theorem run_sk {d : Dk} (ok : d.Ok) {a b : Int} (h0 : 0 ≤ a) (h1 : a < d.tu) (c0 : 0 ≤ b) (c1 : b < d.tu) (lo hi : Int) (hlo : lo = ((d.sk a b).run 0 d.count).1) (hhi : hi = ((d.sk a b).run 0 d.count).2) (w : World) (hz : Zs w d) :
    Calls Try.prog 28 #[(d.sk a b).v, .int .i64 0, .int .i64 d.count] w fun e w' => e = .returned (.tuple #[.agg #[.int .i64 lo, .int .i64 hi], .int .i64 0]) ∧ Below w.heap.size w w' := by
  have := c28_ok (d.sk a b) 0 d.count w (hz.sk a b) (Dk.sk_ok ok h0 h1 c0 c1) (all_isRun (d := d.sk a b) (Dk.sk_ok ok h0 h1 c0 c1))
  rwa [← hlo, ← hhi] at this

set_option maxRecDepth 100000 in
set_option maxHeartbeats 1000000 in
theorem c11_no (d : Dk) (st xh xc : Int) (w : World) (hz : Zs w d) (h : ¬ (¬ d.far ∧ d.Ok)) :
    Calls Try.prog 11 #[d.v, .int .i64 st, .agg #[.int .i64 xh, .int .i64 xc]] w fun e w' => e = .returned (.bool true) ∧ Below w.heap.size w w' := by
  have hh := hid h
  clear h
  go_enter Try.func11, Try.ntmps11
  go_wp2_with (first | (go_at_call 34; refine (c34n d _ (by exact hz.below (by (repeat' (first | (with_reducible exact Below.refl _ _) | (with_reducible assumption) | (with_reducible refine Below.alloc ?_ ?_ _) | (with_reducible refine Below.drew ?_) | (with_reducible refine below_drewN ?_ _) | (with_reducible refine Below.setCell ?_ ?_ _) | (with_reducible refine Below.trans ?_ (Below.mono (by with_reducible assumption) ?_)) | go_size))) (Nat.le_refl _)) hh.out).mono ?_; rintro e w1 ⟨rfl, hB1⟩; obtain ⟨hc1, hf1⟩ := bcell (hB1.mono (show w.heap.size + 2 ≤ _ by first | omega | ((try simp only [World.size_alloc, World.size_drew, World.size_setCell]); omega))); have hz1 : w.heap.size + 2 ≤ w1.heap.size := (by have := hB1.size; (try simp only [World.size_alloc, World.size_drew, World.size_setCell] at this); omega)) | (go_at_call 14; refine (c14 _).mono ?_; rintro e w2 ⟨rfl, hB2⟩; obtain ⟨hc2, hf2⟩ := bcell (hB2.mono (show w.heap.size + 2 ≤ _ by first | omega | ((try simp only [World.size_alloc, World.size_drew, World.size_setCell]); omega))); have hz2 : w.heap.size + 2 ≤ w2.heap.size := (by have := hB2.size; (try simp only [World.size_alloc, World.size_drew, World.size_setCell] at this); omega)))
  go_returns
  exact ⟨rfl, by (repeat' (first | (with_reducible exact Below.refl _ _) | (with_reducible assumption) | (with_reducible refine Below.alloc ?_ ?_ _) | (with_reducible refine Below.drew ?_) | (with_reducible refine below_drewN ?_ _) | (with_reducible refine Below.setCell ?_ ?_ _) | (with_reducible refine Below.trans ?_ (Below.mono (by with_reducible assumption) ?_)) | go_size))⟩
set_option maxRecDepth 100000 in
set_option maxHeartbeats 1000000 in
theorem c11_out (d : Dk) (st xh xc : Int) (w : World) (hz : Zs w d) (hf : ¬ d.far) (ok : d.Ok) (h : st < 1 ∨ d.tu < st) :
    Calls Try.prog 11 #[d.v, .int .i64 st, .agg #[.int .i64 xh, .int .i64 xc]] w fun e w' => e = .returned (.bool true) ∧ Below w.heap.size w w' := by
  have hh := hid hf
  have okh := hid ok
  clear hf ok
  rcases h with h | h
  · go_enter Try.func11, Try.ntmps11
    go_wp2_with (first | (go_at_call 34; refine (c34y d _ (by exact hz.below (by (repeat' (first | (with_reducible exact Below.refl _ _) | (with_reducible assumption) | (with_reducible refine Below.alloc ?_ ?_ _) | (with_reducible refine Below.drew ?_) | (with_reducible refine below_drewN ?_ _) | (with_reducible refine Below.setCell ?_ ?_ _) | (with_reducible refine Below.trans ?_ (Below.mono (by with_reducible assumption) ?_)) | go_size))) (Nat.le_refl _)) hh.out okh.out).mono ?_; rintro e w1 ⟨rfl, hB1⟩; obtain ⟨hc1, hf1⟩ := bcell (hB1.mono (show w.heap.size + 2 ≤ _ by first | omega | ((try simp only [World.size_alloc, World.size_drew, World.size_setCell]); omega))); have hz1 : w.heap.size + 2 ≤ w1.heap.size := (by have := hB1.size; (try simp only [World.size_alloc, World.size_drew, World.size_setCell] at this); omega); have hy1 : w.heap.size < w1.heap.size := (by omega)) | (go_at_call 14; refine (c14 _).mono ?_; rintro e w2 ⟨rfl, hB2⟩; obtain ⟨hc2, hf2⟩ := bcell (hB2.mono (show w.heap.size + 2 ≤ _ by first | omega | ((try simp only [World.size_alloc, World.size_drew, World.size_setCell]); omega))); have hz2 : w.heap.size + 2 ≤ w2.heap.size := (by have := hB2.size; (try simp only [World.size_alloc, World.size_drew, World.size_setCell] at this); omega)))
    go_returns
    exact ⟨rfl, by (repeat' (first | (with_reducible exact Below.refl _ _) | (with_reducible assumption) | (with_reducible refine Below.alloc ?_ ?_ _) | (with_reducible refine Below.drew ?_) | (with_reducible refine below_drewN ?_ _) | (with_reducible refine Below.setCell ?_ ?_ _) | (with_reducible refine Below.trans ?_ (Below.mono (by with_reducible assumption) ?_)) | go_size))⟩
  · have h2 := okh.out.tu1
    go_enter Try.func11, Try.ntmps11
    go_wp2_with (first | (go_at_call 34; refine (c34y d _ (by exact hz.below (by (repeat' (first | (with_reducible exact Below.refl _ _) | (with_reducible assumption) | (with_reducible refine Below.alloc ?_ ?_ _) | (with_reducible refine Below.drew ?_) | (with_reducible refine below_drewN ?_ _) | (with_reducible refine Below.setCell ?_ ?_ _) | (with_reducible refine Below.trans ?_ (Below.mono (by with_reducible assumption) ?_)) | go_size))) (Nat.le_refl _)) hh.out okh.out).mono ?_; rintro e w1 ⟨rfl, hB1⟩; obtain ⟨hc1, hf1⟩ := bcell (hB1.mono (show w.heap.size + 2 ≤ _ by first | omega | ((try simp only [World.size_alloc, World.size_drew, World.size_setCell]); omega))); have hz1 : w.heap.size + 2 ≤ w1.heap.size := (by have := hB1.size; (try simp only [World.size_alloc, World.size_drew, World.size_setCell] at this); omega); have hy1 : w.heap.size < w1.heap.size := (by omega)) | (go_at_call 14; refine (c14 _).mono ?_; rintro e w2 ⟨rfl, hB2⟩; obtain ⟨hc2, hf2⟩ := bcell (hB2.mono (show w.heap.size + 2 ≤ _ by first | omega | ((try simp only [World.size_alloc, World.size_drew, World.size_setCell]); omega))); have hz2 : w.heap.size + 2 ≤ w2.heap.size := (by have := hB2.size; (try simp only [World.size_alloc, World.size_drew, World.size_setCell] at this); omega)))
    go_returns
    exact ⟨rfl, by (repeat' (first | (with_reducible exact Below.refl _ _) | (with_reducible assumption) | (with_reducible refine Below.alloc ?_ ?_ _) | (with_reducible refine Below.drew ?_) | (with_reducible refine below_drewN ?_ _) | (with_reducible refine Below.setCell ?_ ?_ _) | (with_reducible refine Below.trans ?_ (Below.mono (by with_reducible assumption) ?_)) | go_size))⟩

set_option maxRecDepth 100000 in
set_option maxHeartbeats 4000000 in
theorem c11_yes (d : Dk) (st xh xc : Int) (w : World) (hz : Zs w d) (hf : ¬ d.far) (ok : d.Ok) (st0 : 1 ≤ st) (st1 : st ≤ d.tu) :
    Calls Try.prog 11 #[d.v, .int .i64 st, .agg #[.int .i64 xh, .int .i64 xc]] w fun e w' => e = .returned (.bool true) ∧ Below w.heap.size w w' := by
  have hh := hid hf
  have okh := hid ok
  have tu1 := ok.tu1
  have tu2 := ok.tu2
  obtain ⟨b1, b2⟩ := bestOf_bd (tu := d.tu) (n := (swOf d.ck.d.count (tracksOf d.ck)).1) (h := d.ck.h0) st0 ok.tu1
  obtain ⟨b3, b4⟩ := bestOf_bd (tu := d.tu) (n := (swOf d.ck.d.count (tracksOf d.ck)).2) (h := d.ck.h1) st0 ok.tu1
  have b1' : 0 ≤ d.b0 st := b1
  have b2' : d.b0 st < d.tu := b2
  have b3' : 0 ≤ d.b1 st := b3
  have b4' : d.b1 st < d.tu := b4
  have m0 : (d.b0 st % st != 0) = false := by
    have : d.b0 st % st = 0 := bestOf_mod st0
    simpa using this
  have m1 : (d.b1 st % st != 0) = false := by
    have : d.b1 st % st = 0 := bestOf_mod st0
    simpa using this
  clear b1 b2 b3 b4
  have hC32 := hid (fun W hzW => c32_ok d st W hzW ok st0 st1)
  have hT := skR_hi ok st0
  obtain ⟨tk, htk⟩ : ∃ x, x = (d.skR st).2 := ⟨_, rfl⟩
  obtain ⟨lo, hlo⟩ : ∃ x, x = ((d.sk (d.b0 st) (d.b1 st)).run 0 d.count).1 := ⟨_, rfl⟩
  have hR1 := hid (fun W hzW => run_sk ok b1' b2' b3' b4' lo tk hlo (htk.trans hT) W hzW)
  have hX : Hid (0 ≤ xh ∧ xh < d.tu ∧ xh % st = 0 → 0 ≤ xc ∧ xc < d.tu ∧ xc % st = 0 → (tk < ((d.sk xh xc).run 0 d.count).2 ∨ (((d.sk xh xc).run 0 d.count).2 = tk ∧ (d.b0 st < xh ∨ (xh = d.b0 st ∧ d.b1 st ≤ xc)))) ∧ ∀ W, Zs W d → Calls Try.prog 28 #[(d.sk xh xc).v, .int .i64 0, .int .i64 d.count] W fun e w' => e = .returned (.tuple #[.agg #[.int .i64 ((d.sk xh xc).run 0 d.count).1, .int .i64 ((d.sk xh xc).run 0 d.count).2], .int .i64 0]) ∧ Below W.heap.size W w') :=
    hid (fun hx hy => ⟨htk ▸ best_skews ok st0 hx.1 hx.2.1 hx.2.2 hy.1 hy.2.1 hy.2.2, fun W hzW => run_sk ok hx.1 hx.2.1 hy.1 hy.2.1 _ _ rfl rfl W hzW⟩)
  have hC32' : Hid (∀ W, Zs W d → Calls Try.prog 32 #[d.v, .int .i64 st] W fun e w' => e = .returned (.tuple #[.int .i64 (d.b0 st), .int .i64 (d.b1 st), .int .i64 tk, .int .i64 0]) ∧ Below W.heap.size W w') := hid (fun W hzW => by rw [htk]; exact hC32.out W hzW)
  clear hf ok hC32 hT htk hlo
  go_enter Try.func11, Try.ntmps11
  go_wp2_with (first | (go_at_call 34; refine (c34y d _ (by exact hz.below (by (repeat' (first | (with_reducible exact Below.refl _ _) | (with_reducible assumption) | (with_reducible refine Below.alloc ?_ ?_ _) | (with_reducible refine Below.drew ?_) | (with_reducible refine below_drewN ?_ _) | (with_reducible refine Below.setCell ?_ ?_ _) | (with_reducible refine Below.trans ?_ (Below.mono (by with_reducible assumption) ?_)) | go_size))) (Nat.le_refl _)) hh.out okh.out).mono ?_; rintro e w1 ⟨rfl, hB1⟩; obtain ⟨hc1, hf1⟩ := bcell (hB1.mono (show w.heap.size + 2 ≤ _ by first | omega | ((try simp only [World.size_alloc, World.size_drew, World.size_setCell]); omega))); have hz1 : w.heap.size + 2 ≤ w1.heap.size := (by have := hB1.size; (try simp only [World.size_alloc, World.size_drew, World.size_setCell] at this); omega); have hy1 : w.heap.size < w1.heap.size := (by omega)) | (go_at_call 32; refine (hC32'.out _ (by exact hz.below (by (repeat' (first | (with_reducible exact Below.refl _ _) | (with_reducible assumption) | (with_reducible refine Below.alloc ?_ ?_ _) | (with_reducible refine Below.drew ?_) | (with_reducible refine below_drewN ?_ _) | (with_reducible refine Below.setCell ?_ ?_ _) | (with_reducible refine Below.trans ?_ (Below.mono (by with_reducible assumption) ?_)) | go_size))) (Nat.le_refl _))).mono ?_; rintro e w2 ⟨rfl, hB2⟩; obtain ⟨hc2, hf2⟩ := bcell (hB2.mono (show w.heap.size + 2 ≤ _ by first | omega | ((try simp only [World.size_alloc, World.size_drew, World.size_setCell]); omega))); have hz2 : w.heap.size + 2 ≤ w2.heap.size := (by have := hB2.size; (try simp only [World.size_alloc, World.size_drew, World.size_setCell] at this); omega); have hy2 : w.heap.size < w2.heap.size := (by omega)))
  have hv3 : w2.heap[w.heap.size]? = some (.cells #[.int .i64 d.hd, .int .i64 d.tu, .slice d.za d.zs.length d.zc, .int .i64 d.hs, .int .i64 d.cs, .int .i64 d.hl, .int .i64 d.hh, .int .i64 d.cl, .int .i64 d.ch] 26 (0, 0)) := by
    rw [hB2.block _ hy1, hB1.block _ (by simp only [World.size_alloc]; omega), Below.heap_alloc _ _ _ (by simp)]; exact heap_new w _
  have hv5 : w2.heap[w.heap.size + 1]? = some (.cells #[.int .i64 xh, .int .i64 xc] 64 (0, 0)) := by
    rw [hB2.block _ (by omega), hB1.block _ (by simp only [World.size_alloc]; omega)]; have := heap_new (w.alloc (.cells #[.int .i64 d.hd, .int .i64 d.tu, .slice d.za d.zs.length d.zc, .int .i64 d.hs, .int .i64 d.cs, .int .i64 d.hl, .int .i64 d.hh, .int .i64 d.cl, .int .i64 d.ch] 26)) (.cells #[.int .i64 xh, .int .i64 xc] 64); rwa [World.size_alloc] at this
  have hb2 : Below w.heap.size w w2 := by (repeat' (first | (with_reducible exact Below.refl _ _) | (with_reducible assumption) | (with_reducible refine Below.alloc ?_ ?_ _) | (with_reducible refine Below.drew ?_) | (with_reducible refine below_drewN ?_ _) | (with_reducible refine Below.setCell ?_ ?_ _) | (with_reducible refine Below.trans ?_ (Below.mono (by with_reducible assumption) ?_)) | go_size))
  have hz2' : Zs w2 d := hz.below hb2 (Nat.le_refl _)
  have hw2 : w.heap.size + 1 < w2.heap.size := by omega
  clear hc1 hf1 hc2 hf2 hz2
  have hz2 := hz2'
  clear hz2'
  refine wpIn_wide.1 (wild_region (F := Fence.wide) (n := 0) (C := fun w' => Below w2.heap.size w2 w') (R := Turns1 w2.heap.size 24 2 (.cells #[.int .i64 lo, .int .i64 tk] 24)) (G := fun i us w' => match i with
    | 0 => us 0 = d.v
    | 1 => us 1 = .int .i64 (d.b0 st)
    | 2 => us 2 = .int .i64 (d.b1 st)
    | 3 => us 3 = (d.sk (d.b0 st) (d.b1 st)).v
    | 4 => us 4 = d.v
    | 5 => us 5 = .int .i64 d.count
    | 6 => us 6 = .tuple #[.agg #[.int .i64 lo, .int .i64 tk], .int .i64 0]
    | 7 => us 7 = .tuple #[.agg #[.int .i64 lo, .int .i64 tk], .int .i64 0]
    | 8 => us 8 = .agg #[.int .i64 lo, .int .i64 tk]
    | 9 => us 9 = .int .i64 0
    | 10 => ∃ b : Nat, us 10 = .pointer (some ⟨b, 0, none⟩) ∧ w2.heap.size ≤ b ∧ ∃ cs : Array Value, cs.size = 2 ∧ w'.heap[b]? = some (.cells cs 24 (0, 0))
    | 11 => ∃ b : Nat, us 10 = .pointer (some ⟨b, 0, none⟩) ∧ w2.heap.size ≤ b ∧ w'.heap[b]? = some (.cells #[.int .i64 lo, .int .i64 tk] 24 (0, 0))
    | 12 => us 12 = .int .i64 0
    | _ => True) (by kernel_rfl) (by kernel_rfl) (by kernel_rfl) ?loc1 (Below.refl _ _).drew ?stab1 ?steps1 ?fin1)
  case loc1 =>
    intro j us i v w' hij hdp hG
    rcases j with _ | _ | _ | _ | _ | _ | _ | _ | _ | _ | _ | _ | _ | j
    all_goals first | trivial | ((try dsimp only at hG ⊢); rw [upd_ne _ _ (Ne.symm hij)]; exact hG) | skip
    by_cases hia : i = 10
    · subst hia; exact absurd hdp (by decide)
    · (try dsimp only at hG ⊢); rw [upd_ne _ _ (Ne.symm hia)]; exact hG
  case stab1 =>
    intro i us A B hAB hG
    rcases i with _ | _ | _ | _ | _ | _ | _ | _ | _ | _ | _ | _ | _ | i <;> try exact hG
    · obtain ⟨b, h1, h2, cs, h3, h4⟩ := hG
      rcases hAB.2 b (Array.getElem?_eq_some_iff.1 h4).1 with h5 | ⟨_, _, h5⟩
      · exact ⟨b, h1, h2, cs, h3, h5.trans h4⟩
      · exact ⟨b, h1, h2, _, rfl, h5⟩
    · obtain ⟨b, h1, h2, h4⟩ := hG
      rcases hAB.2 b (Array.getElem?_eq_some_iff.1 h4).1 with h5 | ⟨_, _, h5⟩
      · exact ⟨b, h1, h2, h5.trans h4⟩
      · exact ⟨b, h1, h2, h5⟩
  case steps1 =>
    dsimp only [StepsW, StepW]
    refine ⟨?_, ?_, ?_, ?_, ?_, ?_, ?_, ?_, ?_, ?_, ?_, ?_, ?_, trivial⟩
    all_goals (intro A us W hA hC hG K hK; have hcw0 := fun j => cell_at (j := j) ((hC.block _ (by omega)).trans hv3); have hzw0 := hz2.below hC (Nat.le_refl _); have hCs := hC.size; simp only [AfterW, Region.binds, true_implies, and_true, forall_const] at hG)
    · have h3 : A.tmps[3]?.getD undef = .pointer (some ⟨w.heap.size, 0, none⟩) := slot_none hA rfl rfl
      clear hA
      go_simp
      exact hK _ W hC (.of_below (Below.refl _ _)) (upd_same _ _ _)
    · have h7 : A.tmps[7]?.getD undef = .int .i64 (d.b0 st) := slot_none hA rfl rfl
      clear hA
      go_simp
      exact hK _ W hC (.of_below (Below.refl _ _)) (upd_same _ _ _)
    · have h8 : A.tmps[8]?.getD undef = .int .i64 (d.b1 st) := slot_none hA rfl rfl
      clear hA
      go_simp
      exact hK _ W hC (.of_below (Below.refl _ _)) (upd_same _ _ _)
    · have h72 := slot_some (t := 72) (v := d.v) hA (by kernel_rfl) rfl (by simp) (by first | exact hG | exact hG.1 | exact hG.2 | exact hG.2.1 | exact hG.2.2 | exact hG.2.2.1 | exact hG.2.2.2 | exact hG.2.2.2.1 | exact hG.2.2.2.2 | exact hG.2.2.2.2.1 | exact hG.2.2.2.2.2 | exact hG.2.2.2.2.2.1 | exact hG.2.2.2.2.2.2.1)
      have h73 := slot_some (t := 73) (v := .int .i64 (d.b0 st)) hA (by kernel_rfl) rfl (by simp) (by first | exact hG | exact hG.1 | exact hG.2 | exact hG.2.1 | exact hG.2.2 | exact hG.2.2.1 | exact hG.2.2.2 | exact hG.2.2.2.1 | exact hG.2.2.2.2 | exact hG.2.2.2.2.1 | exact hG.2.2.2.2.2 | exact hG.2.2.2.2.2.1 | exact hG.2.2.2.2.2.2.1)
      have h74 := slot_some (t := 74) (v := .int .i64 (d.b1 st)) hA (by kernel_rfl) rfl (by simp) (by first | exact hG | exact hG.1 | exact hG.2 | exact hG.2.1 | exact hG.2.2 | exact hG.2.2.1 | exact hG.2.2.2 | exact hG.2.2.2.1 | exact hG.2.2.2.2 | exact hG.2.2.2.2.1 | exact hG.2.2.2.2.2 | exact hG.2.2.2.2.2.1 | exact hG.2.2.2.2.2.2.1)
      clear hA
      gi_wp2_with (refine ⟨trivial, rfl, ?_⟩; gi_at_call 43; refine (callsIn_wide.2 (c43 d _ _ _)).mono ?_; rintro e w9 ⟨rfl, hB9⟩)
      exact hK _ w9 (hC.trans (hB9.mono hC.size)) (.of_below hB9) (upd_same _ _ _)
    · have h3 : A.tmps[3]?.getD undef = .pointer (some ⟨w.heap.size, 0, none⟩) := slot_none hA rfl rfl
      clear hA
      go_simp
      exact hK _ W hC (.of_below (Below.refl _ _)) (upd_same _ _ _)
    · have h76 := slot_some (t := 76) (v := d.v) hA (by kernel_rfl) rfl (by simp) (by first | exact hG | exact hG.1 | exact hG.2 | exact hG.2.1 | exact hG.2.2 | exact hG.2.2.1 | exact hG.2.2.2 | exact hG.2.2.2.1 | exact hG.2.2.2.2 | exact hG.2.2.2.2.1 | exact hG.2.2.2.2.2 | exact hG.2.2.2.2.2.1 | exact hG.2.2.2.2.2.2.1)
      clear hA
      gi_wp2_with (refine ⟨trivial, rfl, ?_⟩; gi_at_call 42; refine (callsIn_wide.2 (c42 d _ hzw0 okh.out)).mono ?_; rintro e w9 ⟨rfl, hB9⟩)
      exact hK _ w9 (hC.trans (hB9.mono hC.size)) (.of_below hB9) (upd_same _ _ _)
    · have h75 := slot_some (t := 75) (v := (d.sk (d.b0 st) (d.b1 st)).v) hA (by kernel_rfl) rfl (by simp) (by first | exact hG | exact hG.1 | exact hG.2 | exact hG.2.1 | exact hG.2.2 | exact hG.2.2.1 | exact hG.2.2.2 | exact hG.2.2.2.1 | exact hG.2.2.2.2 | exact hG.2.2.2.2.1 | exact hG.2.2.2.2.2 | exact hG.2.2.2.2.2.1 | exact hG.2.2.2.2.2.2.1)
      have h77 := slot_some (t := 77) (v := .int .i64 d.count) hA (by kernel_rfl) rfl (by simp) (by first | exact hG | exact hG.1 | exact hG.2 | exact hG.2.1 | exact hG.2.2 | exact hG.2.2.1 | exact hG.2.2.2 | exact hG.2.2.2.1 | exact hG.2.2.2.2 | exact hG.2.2.2.2.1 | exact hG.2.2.2.2.2 | exact hG.2.2.2.2.2.1 | exact hG.2.2.2.2.2.2.1)
      clear hA
      gi_wp2_with (refine ⟨trivial, rfl, ?_⟩; gi_at_call 28; refine (callsIn_wide.2 (hR1.out _ hzw0)).mono ?_; rintro e w9 ⟨rfl, hB9⟩)
      exact hK _ w9 (hC.trans (hB9.mono hC.size)) (.of_below hB9) (upd_same _ _ _)
    · have h78 := slot_some (t := 78) (v := .tuple #[.agg #[.int .i64 lo, .int .i64 tk], .int .i64 0]) hA (by kernel_rfl) rfl (by simp) (by first | exact hG | exact hG.1 | exact hG.2 | exact hG.2.1 | exact hG.2.2 | exact hG.2.2.1 | exact hG.2.2.2 | exact hG.2.2.2.1 | exact hG.2.2.2.2 | exact hG.2.2.2.2.1 | exact hG.2.2.2.2.2 | exact hG.2.2.2.2.2.1 | exact hG.2.2.2.2.2.2.1)
      clear hA
      go_simp
      exact hK _ W hC (.of_below (Below.refl _ _)) (upd_same _ _ _)
    · have h71 := slot_some (t := 71) (v := .tuple #[.agg #[.int .i64 lo, .int .i64 tk], .int .i64 0]) hA (by kernel_rfl) rfl (by simp) (by first | exact hG | exact hG.1 | exact hG.2 | exact hG.2.1 | exact hG.2.2 | exact hG.2.2.1 | exact hG.2.2.2 | exact hG.2.2.2.1 | exact hG.2.2.2.2 | exact hG.2.2.2.2.1 | exact hG.2.2.2.2.2 | exact hG.2.2.2.2.2.1 | exact hG.2.2.2.2.2.2.1)
      clear hA
      go_simp
      exact hK _ W hC (.of_below (Below.refl _ _)) (upd_same _ _ _)
    · have h71 := slot_some (t := 71) (v := .tuple #[.agg #[.int .i64 lo, .int .i64 tk], .int .i64 0]) hA (by kernel_rfl) rfl (by simp) (by first | exact hG | exact hG.1 | exact hG.2 | exact hG.2.1 | exact hG.2.2 | exact hG.2.2.1 | exact hG.2.2.2 | exact hG.2.2.2.1 | exact hG.2.2.2.2 | exact hG.2.2.2.2.1 | exact hG.2.2.2.2.2 | exact hG.2.2.2.2.2.1 | exact hG.2.2.2.2.2.2.1)
      clear hA
      go_simp
      exact hK _ W hC (.of_below (Below.refl _ _)) (upd_same _ _ _)
    · clear hA
      gi_wp2
      exact hK (.pointer (some ⟨W.heap.size, 0, none⟩)) _ (hC.alloc hC.size _) (.of_below ((Below.refl _ _).alloc (Nat.le_refl _) _)) ⟨W.heap.size, upd_same _ _ _, hC.size, _, rfl, heap_new W _⟩
    · obtain ⟨b, g7, gb, cs, gs, gh⟩ : ∃ b : Nat, us 10 = .pointer (some ⟨b, 0, none⟩) ∧ w2.heap.size ≤ b ∧ ∃ cs : Array Value, cs.size = 2 ∧ W.heap[b]? = some (.cells cs 24 (0, 0)) := (by first | exact hG | exact hG.1 | exact hG.2 | exact hG.2.1 | exact hG.2.2 | exact hG.2.2.1 | exact hG.2.2.2 | exact hG.2.2.2.1 | exact hG.2.2.2.2 | exact hG.2.2.2.2.1 | exact hG.2.2.2.2.2 | exact hG.2.2.2.2.2.1 | exact hG.2.2.2.2.2.2.1)
      have ha := slot_some (t := 11) hA (by kernel_rfl) rfl (by simp) g7
      have h79 := slot_some (t := 79) (v := .agg #[.int .i64 lo, .int .i64 tk]) hA (by kernel_rfl) rfl (by simp) (by first | exact hG | exact hG.1 | exact hG.2 | exact hG.2.1 | exact hG.2.2 | exact hG.2.2.1 | exact hG.2.2.2 | exact hG.2.2.2.1 | exact hG.2.2.2.2 | exact hG.2.2.2.2.1 | exact hG.2.2.2.2.2 | exact hG.2.2.2.2.2.1 | exact hG.2.2.2.2.2.2.1)
      clear hA hcw0
      obtain ⟨l⟩ := cs
      match l, gs with
      | [v0, v1], _ =>
        have hcb := fun j => cell_at (j := j) gh
        have hfb : ∀ j, W.frozen? ⟨b, j, none⟩ = false := fun j => frozen_at (j := j) gh
        have hbs : b < W.heap.size := (Array.getElem?_eq_some_iff.1 gh).1
        have hp2 := put2 (v0 := .int .i64 lo) (v1 := .int .i64 tk) gh
        gi_wp2
        refine hK undef _ ((hC.setCell (by dsimp only; omega) _).setCell (by dsimp only; omega) _) ⟨by simp, fun k hk => ?_⟩ ⟨b, by rw [upd_ne _ _ (by omega)]; exact g7, gb, hp2⟩
        by_cases hkb : k = b
        · subst hkb; exact .inr ⟨gb, ⟨_, rfl, gh⟩, hp2⟩
        · left; rw [Below.heap_setCell _ _ _ _ (by dsimp only; omega), Below.heap_setCell _ _ _ _ (by dsimp only; omega)]
    · have h80 := slot_some (t := 80) (v := .int .i64 0) hA (by kernel_rfl) rfl (by simp) (by first | exact hG | exact hG.1 | exact hG.2 | exact hG.2.1 | exact hG.2.2 | exact hG.2.2.1 | exact hG.2.2.2 | exact hG.2.2.2.1 | exact hG.2.2.2.2 | exact hG.2.2.2.2.1 | exact hG.2.2.2.2.2 | exact hG.2.2.2.2.2.1 | exact hG.2.2.2.2.2.2.1)
      clear hA
      go_simp
      exact hK _ W hC (.of_below (Below.refl _ _)) (upd_same _ _ _)
  case fin1 =>
    intro us WX hC hG
    have hCs := hC.size
    obtain ⟨b, ga, gb, gh⟩ : ∃ b : Nat, us 10 = .pointer (some ⟨b, 0, none⟩) ∧ w2.heap.size ≤ b ∧ WX.heap[b]? = some (.cells #[.int .i64 lo, .int .i64 tk] 24 (0, 0)) := hG 11 (by decide)
    have g12 : us 12 = .int .i64 0 := hG 12 (by decide)
    simp only [frW, Nat.reduceAdd, Nat.zero_add, ga, g12, Act.put, List.setIfInBounds_toArray, List.set_cons_succ, List.set_cons_zero]
    clear hG ga g12
    have kx3 := (hC.block _ (by omega)).trans hv3
    have kx5 := (hC.block _ (by omega)).trans hv5
    have hbX : Below w.heap.size w WX := hb2.trans (hC.mono (by omega))
    have hzX : Zs WX d := hz2.below hC (Nat.le_refl _)
    have hc3 := fun j => cell_at (j := j) kx3
    have hc5 := fun j => cell_at (j := j) kx5
    have hcb := fun j => cell_at (j := j) gh
    have hXs := hbX.size
    have hX5 : w.heap.size + 1 < WX.heap.size := by omega
    have hX3 : w.heap.size < WX.heap.size := by omega
    clear hv3 hv5 hz2 hb2 hR1
    by_cases x1 : xh < 0
    · clear gh kx3 kx5 hC hzX
      go_wp2_with (go_at_call 14; refine (c14 _).mono ?_; rintro e w8 ⟨rfl, hB8⟩)
      go_returns
      exact ⟨rfl, by (repeat' (first | (with_reducible exact Below.refl _ _) | (with_reducible assumption) | (with_reducible refine Below.alloc ?_ ?_ _) | (with_reducible refine Below.drew ?_) | (with_reducible refine below_drewN ?_ _) | (with_reducible refine Below.setCell ?_ ?_ _) | (with_reducible refine Below.trans ?_ (Below.mono (by with_reducible assumption) ?_)) | go_size))⟩
    · by_cases x2 : d.tu ≤ xh
      · clear gh kx3 kx5 hC hzX
        go_wp2_with (go_at_call 14; refine (c14 _).mono ?_; rintro e w8 ⟨rfl, hB8⟩)
        go_returns
        exact ⟨rfl, by (repeat' (first | (with_reducible exact Below.refl _ _) | (with_reducible assumption) | (with_reducible refine Below.alloc ?_ ?_ _) | (with_reducible refine Below.drew ?_) | (with_reducible refine below_drewN ?_ _) | (with_reducible refine Below.setCell ?_ ?_ _) | (with_reducible refine Below.trans ?_ (Below.mono (by with_reducible assumption) ?_)) | go_size))⟩
      · by_cases x3 : xh % st = 0
        · have y3 : (xh % st != 0) = false := by simpa using x3
          by_cases x4 : xc < 0
          · clear gh kx3 kx5 hC hzX x3
            go_wp2_with (go_at_call 14; refine (c14 _).mono ?_; rintro e w8 ⟨rfl, hB8⟩)
            go_returns
            exact ⟨rfl, by (repeat' (first | (with_reducible exact Below.refl _ _) | (with_reducible assumption) | (with_reducible refine Below.alloc ?_ ?_ _) | (with_reducible refine Below.drew ?_) | (with_reducible refine below_drewN ?_ _) | (with_reducible refine Below.setCell ?_ ?_ _) | (with_reducible refine Below.trans ?_ (Below.mono (by with_reducible assumption) ?_)) | go_size))⟩
          · by_cases x5 : d.tu ≤ xc
            · clear gh kx3 kx5 hC hzX x3
              go_wp2_with (go_at_call 14; refine (c14 _).mono ?_; rintro e w8 ⟨rfl, hB8⟩)
              go_returns
              exact ⟨rfl, by (repeat' (first | (with_reducible exact Below.refl _ _) | (with_reducible assumption) | (with_reducible refine Below.alloc ?_ ?_ _) | (with_reducible refine Below.drew ?_) | (with_reducible refine below_drewN ?_ _) | (with_reducible refine Below.setCell ?_ ?_ _) | (with_reducible refine Below.trans ?_ (Below.mono (by with_reducible assumption) ?_)) | go_size))⟩
            · by_cases x6 : xc % st = 0
              · have y6 : (xc % st != 0) = false := by simpa using x6
                have hx := hX.out ⟨by omega, by omega, x3⟩ ⟨by omega, by omega, x6⟩
                obtain ⟨lo2, hlo2⟩ : ∃ x, x = ((d.sk xh xc).run 0 d.count).1 := ⟨_, rfl⟩
                obtain ⟨hi2, hhi2⟩ : ∃ x, x = ((d.sk xh xc).run 0 d.count).2 := ⟨_, rfl⟩
                have hbst := hid hx.1
                have hR2 := hid hx.2
                rw [← hhi2] at hbst
                rw [← hlo2, ← hhi2] at hR2
                clear x3 x6 hx hlo2 hhi2
                go_wp2
                refine wpIn_wide.1 (wild_region (F := Fence.wide) (n := 0) (C := fun w' => Below WX.heap.size WX w') (R := Turns1 WX.heap.size 24 2 (.cells #[.int .i64 lo2, .int .i64 hi2] 24)) (G := fun i us w' => match i with
                  | 0 => us 0 = d.v
                  | 1 => us 1 = .pointer (some ⟨w.heap.size + 1, 0, none⟩)
                  | 2 => us 2 = .int .i64 xh
                  | 3 => us 3 = .pointer (some ⟨w.heap.size + 1, 1, none⟩)
                  | 4 => us 4 = .int .i64 xc
                  | 5 => us 5 = (d.sk xh xc).v
                  | 6 => us 6 = d.v
                  | 7 => us 7 = .int .i64 d.count
                  | 8 => us 8 = .tuple #[.agg #[.int .i64 lo2, .int .i64 hi2], .int .i64 0]
                  | 9 => us 9 = .tuple #[.agg #[.int .i64 lo2, .int .i64 hi2], .int .i64 0]
                  | 10 => us 10 = .agg #[.int .i64 lo2, .int .i64 hi2]
                  | 11 => us 11 = .int .i64 0
                  | 12 => ∃ b : Nat, us 12 = .pointer (some ⟨b, 0, none⟩) ∧ WX.heap.size ≤ b ∧ ∃ cs : Array Value, cs.size = 2 ∧ w'.heap[b]? = some (.cells cs 24 (0, 0))
                  | 13 => ∃ b : Nat, us 12 = .pointer (some ⟨b, 0, none⟩) ∧ WX.heap.size ≤ b ∧ w'.heap[b]? = some (.cells #[.int .i64 lo2, .int .i64 hi2] 24 (0, 0))
                  | 14 => us 14 = .int .i64 0
                  | _ => True) (by kernel_rfl) (by kernel_rfl) (by kernel_rfl) ?loc2 (Below.refl _ _).drew ?stab2 ?steps2 ?fin2)
                case loc2 =>
                  intro j us i v w' hij hdp hG
                  rcases j with _ | _ | _ | _ | _ | _ | _ | _ | _ | _ | _ | _ | _ | _ | _ | j
                  all_goals first | trivial | ((try dsimp only at hG ⊢); rw [upd_ne _ _ (Ne.symm hij)]; exact hG) | skip
                  by_cases hia : i = 12
                  · subst hia; exact absurd hdp (by decide)
                  · (try dsimp only at hG ⊢); rw [upd_ne _ _ (Ne.symm hia)]; exact hG
                case stab2 =>
                  intro i us A B hAB hG
                  rcases i with _ | _ | _ | _ | _ | _ | _ | _ | _ | _ | _ | _ | _ | _ | _ | i <;> try exact hG
                  · obtain ⟨b, h1, h2, cs, h3, h4⟩ := hG
                    rcases hAB.2 b (Array.getElem?_eq_some_iff.1 h4).1 with h5 | ⟨_, _, h5⟩
                    · exact ⟨b, h1, h2, cs, h3, h5.trans h4⟩
                    · exact ⟨b, h1, h2, _, rfl, h5⟩
                  · obtain ⟨b, h1, h2, h4⟩ := hG
                    rcases hAB.2 b (Array.getElem?_eq_some_iff.1 h4).1 with h5 | ⟨_, _, h5⟩
                    · exact ⟨b, h1, h2, h5.trans h4⟩
                    · exact ⟨b, h1, h2, h5⟩
                case steps2 =>
                  dsimp only [StepsW, StepW]
                  refine ⟨?_, ?_, ?_, ?_, ?_, ?_, ?_, ?_, ?_, ?_, ?_, ?_, ?_, ?_, ?_, trivial⟩
                  all_goals (intro A us W hA hC hG K hK; have hcw0 := fun j => cell_at (j := j) ((hC.block _ (by omega)).trans kx3); have hcw1 := fun j => cell_at (j := j) ((hC.block _ (by omega)).trans kx5); have hzw0 := hzX.below hC (Nat.le_refl _); have hCs := hC.size; simp only [AfterW, Region.binds, true_implies, and_true, forall_const] at hG)
                  · have h3 : A.tmps[3]?.getD undef = .pointer (some ⟨w.heap.size, 0, none⟩) := slot_none hA rfl rfl
                    clear hA
                    go_simp
                    exact hK _ W hC (.of_below (Below.refl _ _)) (upd_same _ _ _)
                  · have h5 : A.tmps[5]?.getD undef = .pointer (some ⟨w.heap.size + 1, 0, none⟩) := slot_none hA rfl rfl
                    clear hA
                    go_simp
                    exact hK _ W hC (.of_below (Below.refl _ _)) (upd_same _ _ _)
                  · have h128 := slot_some (t := 128) (v := .pointer (some ⟨w.heap.size + 1, 0, none⟩)) hA (by kernel_rfl) rfl (by simp) (by first | exact hG | exact hG.1 | exact hG.2 | exact hG.2.1 | exact hG.2.2 | exact hG.2.2.1 | exact hG.2.2.2 | exact hG.2.2.2.1 | exact hG.2.2.2.2 | exact hG.2.2.2.2.1 | exact hG.2.2.2.2.2 | exact hG.2.2.2.2.2.1 | exact hG.2.2.2.2.2.2.1)
                    clear hA
                    go_simp
                    exact hK _ W hC (.of_below (Below.refl _ _)) (upd_same _ _ _)
                  · have h5 : A.tmps[5]?.getD undef = .pointer (some ⟨w.heap.size + 1, 0, none⟩) := slot_none hA rfl rfl
                    clear hA
                    go_simp
                    exact hK _ W hC (.of_below (Below.refl _ _)) (upd_same _ _ _)
                  · have h130 := slot_some (t := 130) (v := .pointer (some ⟨w.heap.size + 1, 1, none⟩)) hA (by kernel_rfl) rfl (by simp) (by first | exact hG | exact hG.1 | exact hG.2 | exact hG.2.1 | exact hG.2.2 | exact hG.2.2.1 | exact hG.2.2.2 | exact hG.2.2.2.1 | exact hG.2.2.2.2 | exact hG.2.2.2.2.1 | exact hG.2.2.2.2.2 | exact hG.2.2.2.2.2.1 | exact hG.2.2.2.2.2.2.1)
                    clear hA
                    go_simp
                    exact hK _ W hC (.of_below (Below.refl _ _)) (upd_same _ _ _)
                  · have h127 := slot_some (t := 127) (v := d.v) hA (by kernel_rfl) rfl (by simp) (by first | exact hG | exact hG.1 | exact hG.2 | exact hG.2.1 | exact hG.2.2 | exact hG.2.2.1 | exact hG.2.2.2 | exact hG.2.2.2.1 | exact hG.2.2.2.2 | exact hG.2.2.2.2.1 | exact hG.2.2.2.2.2 | exact hG.2.2.2.2.2.1 | exact hG.2.2.2.2.2.2.1)
                    have h129 := slot_some (t := 129) (v := .int .i64 xh) hA (by kernel_rfl) rfl (by simp) (by first | exact hG | exact hG.1 | exact hG.2 | exact hG.2.1 | exact hG.2.2 | exact hG.2.2.1 | exact hG.2.2.2 | exact hG.2.2.2.1 | exact hG.2.2.2.2 | exact hG.2.2.2.2.1 | exact hG.2.2.2.2.2 | exact hG.2.2.2.2.2.1 | exact hG.2.2.2.2.2.2.1)
                    have h131 := slot_some (t := 131) (v := .int .i64 xc) hA (by kernel_rfl) rfl (by simp) (by first | exact hG | exact hG.1 | exact hG.2 | exact hG.2.1 | exact hG.2.2 | exact hG.2.2.1 | exact hG.2.2.2 | exact hG.2.2.2.1 | exact hG.2.2.2.2 | exact hG.2.2.2.2.1 | exact hG.2.2.2.2.2 | exact hG.2.2.2.2.2.1 | exact hG.2.2.2.2.2.2.1)
                    clear hA
                    gi_wp2_with (refine ⟨trivial, rfl, ?_⟩; gi_at_call 43; refine (callsIn_wide.2 (c43 d _ _ _)).mono ?_; rintro e w9 ⟨rfl, hB9⟩)
                    exact hK _ w9 (hC.trans (hB9.mono hC.size)) (.of_below hB9) (upd_same _ _ _)
                  · have h3 : A.tmps[3]?.getD undef = .pointer (some ⟨w.heap.size, 0, none⟩) := slot_none hA rfl rfl
                    clear hA
                    go_simp
                    exact hK _ W hC (.of_below (Below.refl _ _)) (upd_same _ _ _)
                  · have h133 := slot_some (t := 133) (v := d.v) hA (by kernel_rfl) rfl (by simp) (by first | exact hG | exact hG.1 | exact hG.2 | exact hG.2.1 | exact hG.2.2 | exact hG.2.2.1 | exact hG.2.2.2 | exact hG.2.2.2.1 | exact hG.2.2.2.2 | exact hG.2.2.2.2.1 | exact hG.2.2.2.2.2 | exact hG.2.2.2.2.2.1 | exact hG.2.2.2.2.2.2.1)
                    clear hA
                    gi_wp2_with (refine ⟨trivial, rfl, ?_⟩; gi_at_call 42; refine (callsIn_wide.2 (c42 d _ hzw0 okh.out)).mono ?_; rintro e w9 ⟨rfl, hB9⟩)
                    exact hK _ w9 (hC.trans (hB9.mono hC.size)) (.of_below hB9) (upd_same _ _ _)
                  · have h132 := slot_some (t := 132) (v := (d.sk xh xc).v) hA (by kernel_rfl) rfl (by simp) (by first | exact hG | exact hG.1 | exact hG.2 | exact hG.2.1 | exact hG.2.2 | exact hG.2.2.1 | exact hG.2.2.2 | exact hG.2.2.2.1 | exact hG.2.2.2.2 | exact hG.2.2.2.2.1 | exact hG.2.2.2.2.2 | exact hG.2.2.2.2.2.1 | exact hG.2.2.2.2.2.2.1)
                    have h134 := slot_some (t := 134) (v := .int .i64 d.count) hA (by kernel_rfl) rfl (by simp) (by first | exact hG | exact hG.1 | exact hG.2 | exact hG.2.1 | exact hG.2.2 | exact hG.2.2.1 | exact hG.2.2.2 | exact hG.2.2.2.1 | exact hG.2.2.2.2 | exact hG.2.2.2.2.1 | exact hG.2.2.2.2.2 | exact hG.2.2.2.2.2.1 | exact hG.2.2.2.2.2.2.1)
                    clear hA
                    gi_wp2_with (refine ⟨trivial, rfl, ?_⟩; gi_at_call 28; refine (callsIn_wide.2 (hR2.out _ hzw0)).mono ?_; rintro e w9 ⟨rfl, hB9⟩)
                    exact hK _ w9 (hC.trans (hB9.mono hC.size)) (.of_below hB9) (upd_same _ _ _)
                  · have h135 := slot_some (t := 135) (v := .tuple #[.agg #[.int .i64 lo2, .int .i64 hi2], .int .i64 0]) hA (by kernel_rfl) rfl (by simp) (by first | exact hG | exact hG.1 | exact hG.2 | exact hG.2.1 | exact hG.2.2 | exact hG.2.2.1 | exact hG.2.2.2 | exact hG.2.2.2.1 | exact hG.2.2.2.2 | exact hG.2.2.2.2.1 | exact hG.2.2.2.2.2 | exact hG.2.2.2.2.2.1 | exact hG.2.2.2.2.2.2.1)
                    clear hA
                    go_simp
                    exact hK _ W hC (.of_below (Below.refl _ _)) (upd_same _ _ _)
                  · have h126 := slot_some (t := 126) (v := .tuple #[.agg #[.int .i64 lo2, .int .i64 hi2], .int .i64 0]) hA (by kernel_rfl) rfl (by simp) (by first | exact hG | exact hG.1 | exact hG.2 | exact hG.2.1 | exact hG.2.2 | exact hG.2.2.1 | exact hG.2.2.2 | exact hG.2.2.2.1 | exact hG.2.2.2.2 | exact hG.2.2.2.2.1 | exact hG.2.2.2.2.2 | exact hG.2.2.2.2.2.1 | exact hG.2.2.2.2.2.2.1)
                    clear hA
                    go_simp
                    exact hK _ W hC (.of_below (Below.refl _ _)) (upd_same _ _ _)
                  · have h126 := slot_some (t := 126) (v := .tuple #[.agg #[.int .i64 lo2, .int .i64 hi2], .int .i64 0]) hA (by kernel_rfl) rfl (by simp) (by first | exact hG | exact hG.1 | exact hG.2 | exact hG.2.1 | exact hG.2.2 | exact hG.2.2.1 | exact hG.2.2.2 | exact hG.2.2.2.1 | exact hG.2.2.2.2 | exact hG.2.2.2.2.1 | exact hG.2.2.2.2.2 | exact hG.2.2.2.2.2.1 | exact hG.2.2.2.2.2.2.1)
                    clear hA
                    go_simp
                    exact hK _ W hC (.of_below (Below.refl _ _)) (upd_same _ _ _)
                  · clear hA
                    gi_wp2
                    exact hK (.pointer (some ⟨W.heap.size, 0, none⟩)) _ (hC.alloc hC.size _) (.of_below ((Below.refl _ _).alloc (Nat.le_refl _) _)) ⟨W.heap.size, upd_same _ _ _, hC.size, _, rfl, heap_new W _⟩
                  · obtain ⟨b, g7, gb, cs, gs, gh⟩ : ∃ b : Nat, us 12 = .pointer (some ⟨b, 0, none⟩) ∧ WX.heap.size ≤ b ∧ ∃ cs : Array Value, cs.size = 2 ∧ W.heap[b]? = some (.cells cs 24 (0, 0)) := (by first | exact hG | exact hG.1 | exact hG.2 | exact hG.2.1 | exact hG.2.2 | exact hG.2.2.1 | exact hG.2.2.2 | exact hG.2.2.2.1 | exact hG.2.2.2.2 | exact hG.2.2.2.2.1 | exact hG.2.2.2.2.2 | exact hG.2.2.2.2.2.1 | exact hG.2.2.2.2.2.2.1)
                    have ha := slot_some (t := 13) hA (by kernel_rfl) rfl (by simp) g7
                    have h136 := slot_some (t := 136) (v := .agg #[.int .i64 lo2, .int .i64 hi2]) hA (by kernel_rfl) rfl (by simp) (by first | exact hG | exact hG.1 | exact hG.2 | exact hG.2.1 | exact hG.2.2 | exact hG.2.2.1 | exact hG.2.2.2 | exact hG.2.2.2.1 | exact hG.2.2.2.2 | exact hG.2.2.2.2.1 | exact hG.2.2.2.2.2 | exact hG.2.2.2.2.2.1 | exact hG.2.2.2.2.2.2.1)
                    clear hA hcw0 hcw1
                    obtain ⟨l⟩ := cs
                    match l, gs with
                    | [v0, v1], _ =>
                      have hcb := fun j => cell_at (j := j) gh
                      have hfb : ∀ j, W.frozen? ⟨b, j, none⟩ = false := fun j => frozen_at (j := j) gh
                      have hbs : b < W.heap.size := (Array.getElem?_eq_some_iff.1 gh).1
                      have hp2 := put2 (v0 := .int .i64 lo2) (v1 := .int .i64 hi2) gh
                      gi_wp2
                      refine hK undef _ ((hC.setCell (by dsimp only; omega) _).setCell (by dsimp only; omega) _) ⟨by simp, fun k hk => ?_⟩ ⟨b, by rw [upd_ne _ _ (by omega)]; exact g7, gb, hp2⟩
                      by_cases hkb : k = b
                      · subst hkb; exact .inr ⟨gb, ⟨_, rfl, gh⟩, hp2⟩
                      · left; rw [Below.heap_setCell _ _ _ _ (by dsimp only; omega), Below.heap_setCell _ _ _ _ (by dsimp only; omega)]
                  · have h137 := slot_some (t := 137) (v := .int .i64 0) hA (by kernel_rfl) rfl (by simp) (by first | exact hG | exact hG.1 | exact hG.2 | exact hG.2.1 | exact hG.2.2 | exact hG.2.2.1 | exact hG.2.2.2 | exact hG.2.2.2.1 | exact hG.2.2.2.2 | exact hG.2.2.2.2.1 | exact hG.2.2.2.2.2 | exact hG.2.2.2.2.2.1 | exact hG.2.2.2.2.2.2.1)
                    clear hA
                    go_simp
                    exact hK _ W hC (.of_below (Below.refl _ _)) (upd_same _ _ _)
                case fin2 =>
                  intro us W hC hG
                  have hCs := hC.size
                  obtain ⟨b2, ga, gb, gh⟩ : ∃ b : Nat, us 12 = .pointer (some ⟨b, 0, none⟩) ∧ WX.heap.size ≤ b ∧ W.heap[b]? = some (.cells #[.int .i64 lo2, .int .i64 hi2] 24 (0, 0)) := hG 13 (by decide)
                  have g14 : us 14 = .int .i64 0 := hG 14 (by decide)
                  simp only [frW, Nat.reduceAdd, Nat.zero_add, ga, g14, Act.put, List.setIfInBounds_toArray, List.set_cons_succ, List.set_cons_zero]
                  clear hG ga g14
                  have hW3 := (hC.block _ (by omega)).trans kx3
                  have hW5 := (hC.block _ (by omega)).trans kx5
                  have hbW2 : Below w.heap.size w W := hbX.trans (hC.mono (by omega))
                  have hc3 := fun j => cell_at (j := j) hW3
                  have hc5 := fun j => cell_at (j := j) hW5
                  have hcb := fun j => cell_at (j := j) gh
                  clear gh hW3 hW5 kx3 kx5 hC hR2 hzX
                  rcases hbst.out with h1 | ⟨h1, h2 | ⟨h2, h3⟩⟩
                  · have t1 : tk < hi2 := h1
                    go_wp2_with (go_at_call 14; refine (c14 _).mono ?_; rintro e w8 ⟨rfl, hB8⟩)
                    go_returns
                    exact ⟨rfl, by (repeat' (first | (with_reducible exact Below.refl _ _) | (with_reducible assumption) | (with_reducible refine Below.alloc ?_ ?_ _) | (with_reducible refine Below.drew ?_) | (with_reducible refine below_drewN ?_ _) | (with_reducible refine Below.setCell ?_ ?_ _) | (with_reducible refine Below.trans ?_ (Below.mono (by with_reducible assumption) ?_)) | go_size))⟩
                  · have t1 : (hi2 == tk) = true := by simpa using h1
                    have t2 : ¬ tk < hi2 := by omega
                    clear h1
                    go_wp2_with (go_at_call 14; refine (c14 _).mono ?_; rintro e w8 ⟨rfl, hB8⟩)
                    go_returns
                    exact ⟨rfl, by (repeat' (first | (with_reducible exact Below.refl _ _) | (with_reducible assumption) | (with_reducible refine Below.alloc ?_ ?_ _) | (with_reducible refine Below.drew ?_) | (with_reducible refine below_drewN ?_ _) | (with_reducible refine Below.setCell ?_ ?_ _) | (with_reducible refine Below.trans ?_ (Below.mono (by with_reducible assumption) ?_)) | go_size))⟩
                  · have t1 : (hi2 == tk) = true := by simpa using h1
                    have t2 : ¬ tk < hi2 := by omega
                    have t3 : (xh == d.b0 st) = true := by simpa using h2
                    have t4 : ¬ d.b0 st < xh := by omega
                    clear h1 h2
                    go_wp2_with (go_at_call 14; refine (c14 _).mono ?_; rintro e w8 ⟨rfl, hB8⟩)
                    go_returns
                    exact ⟨rfl, by (repeat' (first | (with_reducible exact Below.refl _ _) | (with_reducible assumption) | (with_reducible refine Below.alloc ?_ ?_ _) | (with_reducible refine Below.drew ?_) | (with_reducible refine below_drewN ?_ _) | (with_reducible refine Below.setCell ?_ ?_ _) | (with_reducible refine Below.trans ?_ (Below.mono (by with_reducible assumption) ?_)) | go_size))⟩
              · have y6 : (xc % st != 0) = true := by simpa using x6
                clear gh kx3 kx5 hC hzX x3 x6
                go_wp2_with (go_at_call 14; refine (c14 _).mono ?_; rintro e w8 ⟨rfl, hB8⟩)
                go_returns
                exact ⟨rfl, by (repeat' (first | (with_reducible exact Below.refl _ _) | (with_reducible assumption) | (with_reducible refine Below.alloc ?_ ?_ _) | (with_reducible refine Below.drew ?_) | (with_reducible refine below_drewN ?_ _) | (with_reducible refine Below.setCell ?_ ?_ _) | (with_reducible refine Below.trans ?_ (Below.mono (by with_reducible assumption) ?_)) | go_size))⟩
        · have y3 : (xh % st != 0) = true := by simpa using x3
          clear gh kx3 kx5 hC hzX x3
          go_wp2_with (go_at_call 14; refine (c14 _).mono ?_; rintro e w8 ⟨rfl, hB8⟩)
          go_returns
          exact ⟨rfl, by (repeat' (first | (with_reducible exact Below.refl _ _) | (with_reducible assumption) | (with_reducible refine Below.alloc ?_ ?_ _) | (with_reducible refine Below.drew ?_) | (with_reducible refine below_drewN ?_ _) | (with_reducible refine Below.setCell ?_ ?_ _) | (with_reducible refine Below.trans ?_ (Below.mono (by with_reducible assumption) ?_)) | go_size))⟩

theorem c11 (d : Dk) (st xh xc : Int) (w : World) (hz : Zs w d) : Calls Try.prog 11 #[d.v, .int .i64 st, .agg #[.int .i64 xh, .int .i64 xc]] w fun e w' => e = .returned (.bool true) ∧ Below w.heap.size w w' := by
  by_cases h1 : ¬ d.far ∧ d.Ok
  · by_cases h2 : st < 1 ∨ d.tu < st
    · exact c11_out d st xh xc w hz h1.1 h1.2 h2
    · exact c11_yes d st xh xc w hz h1.1 h1.2 (by omega) (by omega)
  · exact c11_no d st xh xc w hz h1
end Go.Proofs.Ythkbiplmfbcabaa
