/- Stage 1: the law ZonesNoTurn, walked. -/
import Derived.Test.YthkbiplmfbcabaaX2
set_option linter.unusedSimpArgs false
set_option linter.unusedVariables false
namespace Go.Proofs.Ythkbiplmfbcabaa
open Go.RowKit Go.Sort

theorem gapV_skew {tu s h : Int} (h0 : 0 ≤ h) (h1 : h ≤ s) (h2 : s < tu) : gapV tu s h = s := by
  unfold gapV
  rw [Int.emod_eq_of_lt (by omega) (by omega)]
  omega
theorem lost1_zero {tu s h : Int} (h0 : 0 ≤ h) (h1 : h ≤ s) (h2 : s < tu) : lost1 tu s h = 0 := by
  unfold lost1
  rw [gapV_skew h0 h1 h2]
  simp
theorem runOf_same (c : Ck) (f to : Int) (hg : ∀ t, gapLo c t = gapHi c t) (l : List Tk) : (runOf c f to l).1 = (runOf c f to l).2 := by
  have key : ∀ (l : List Tk) (r : Int × Int), r.1 = r.2 → (l.foldl (runStep c f to) r).1 = (l.foldl (runStep c f to) r).2 := by
    intro l
    induction l with
    | nil => intro r h; exact h
    | cons t l ih =>
      intro r h
      rw [List.foldl_cons]
      refine ih _ ?_
      unfold runStep
      have := hg t
      split
      · exact h
      · split <;> dsimp only <;> omega
  exact key l (0, 0) rfl
theorem lost_nonneg {d : Dk} (ok : d.Ok) : 0 ≤ d.lostAt 2 := by
  have hsb := swOf_bd d.ck.d.count (tracksOf d.ck)
  have b1 := lost1_bd (tu := d.ck.d.tu) (s := d.ck.s0) (h := d.ck.h0) ok.tu1 ok.tu2 ok.ck.s00 ok.ck.s01 (by have := ok.sp.l00; have := ok.sp.l01; omega) ok.sp.l02
  have b2 := lost1_bd (tu := d.ck.d.tu) (s := d.ck.s1) (h := d.ck.h1) ok.tu1 ok.tu2 ok.ck.s10 ok.ck.s11 (by have := ok.sp.l10; have := ok.sp.l11; omega) ok.sp.l12
  have p1 := Int.mul_nonneg hsb.1.1 b1.2.2.1
  have p2 := Int.mul_nonneg hsb.2.1 b2.2.2.1
  unfold Dk.lostAt
  rw [if_neg (by omega), if_neg (by omega)]
  omega
theorem lost_zero {d : Dk} (ok : d.Ok) (h1 : d.hh ≤ d.hs) (h2 : d.ch ≤ d.cs) : d.lostAt 2 = 0 := by
  have e1 : lost1 d.ck.d.tu d.ck.s0 d.ck.h0 = 0 := lost1_zero (s := d.hs) (h := d.hh) (by have := ok.hl0; have := ok.hl1; omega) h1 ok.hs1
  have e2 : lost1 d.ck.d.tu d.ck.s1 d.ck.h1 = 0 := lost1_zero (s := d.cs) (h := d.ch) (by have := ok.cl0; have := ok.cl1; omega) h2 ok.cs1
  unfold Dk.lostAt
  rw [if_neg (by omega), if_neg (by omega), e1, e2]
  simp
theorem run_same {d : Dk} (ok : d.Ok) (h1 : d.hh ≤ d.hs) (h2 : d.ch ≤ d.cs) (f n : Int) : (d.run f n).1 = (d.run f n).2 := by
  refine runOf_same _ _ _ (fun t => ?_) _
  unfold gapLo gapHi Ck.sk Ck.lo Ck.hi
  have := ok.hl0; have := ok.hl1; have := ok.cl0; have := ok.cl1
  split
  · rw [gapV_skew (tu := d.ck.d.tu) (s := d.ck.s0) (h := d.ck.l0) ok.hl0 (by show d.hl ≤ d.hs; omega) ok.hs1, gapV_skew (tu := d.ck.d.tu) (s := d.ck.s0) (h := d.ck.h0) (by show 0 ≤ d.hh; omega) h1 ok.hs1]
  · rw [gapV_skew (tu := d.ck.d.tu) (s := d.ck.s1) (h := d.ck.l1) ok.cl0 (by show d.cl ≤ d.cs; omega) ok.cs1, gapV_skew (tu := d.ck.d.tu) (s := d.ck.s1) (h := d.ck.h1) (by show 0 ≤ d.ch; omega) h2 ok.cs1]
theorem all_isRun {d : Dk} (ok : d.Ok) : d.isRun 0 d.count := by
  have h := places_pos ok
  have h2 := ok.lenPl
  unfold lenPlaces at h2
  unfold Dk.isRun
  omega

/-- Blocks from one on may turn into one thing. -/
def Turns1 (B : Nat) (T : TypeId) (n : Nat) (fin : Obj) (X Y : World) : Prop :=
  X.heap.size ≤ Y.heap.size ∧ ∀ k, k < X.heap.size → Y.heap[k]? = X.heap[k]? ∨ (B ≤ k ∧ (∃ cs, cs.size = n ∧ X.heap[k]? = some (.cells cs T (0, 0))) ∧ Y.heap[k]? = some fin)
theorem Turns1.of_below {B : Nat} {T : TypeId} {n : Nat} {fin : Obj} {X Y : World} (h : Below X.heap.size X Y) : Turns1 B T n fin X Y :=
  ⟨h.size, fun k hk => .inl (h.block k hk)⟩

set_option maxRecDepth 100000 in
set_option maxHeartbeats 1000000 in
theorem c10_no (d : Dk) (w : World) (hz : Zs w d) (h : ¬ (¬ d.far ∧ d.Ok)) :
    Calls Try.prog 10 #[d.v] w fun e w' => e = .returned (.bool true) ∧ Below w.heap.size w w' := by
  have hh := hid h
  clear h
  go_enter Try.func10, Try.ntmps10
  go_wp2_with (first | (go_at_call 34; refine (c34n d _ (by exact hz.below (by (repeat' (first | (with_reducible exact Below.refl _ _) | (with_reducible assumption) | (with_reducible refine Below.alloc ?_ ?_ _) | (with_reducible refine Below.drew ?_) | (with_reducible refine below_drewN ?_ _) | (with_reducible refine Below.setCell ?_ ?_ _) | (with_reducible refine Below.trans ?_ (Below.mono (by with_reducible assumption) ?_)) | go_size))) (Nat.le_refl _)) hh.out).mono ?_; rintro e w1 ⟨rfl, hB1⟩; obtain ⟨hc1, hf1⟩ := bcell (hB1.mono (show w.heap.size + 1 ≤ _ by first | omega | ((try simp only [World.size_alloc, World.size_drew, World.size_setCell]); omega))); have hz1 : w.heap.size + 1 ≤ w1.heap.size := (by have := hB1.size; (try simp only [World.size_alloc, World.size_drew, World.size_setCell] at this); omega)) | (go_at_call 14; refine (c14 _).mono ?_; rintro e w2 ⟨rfl, hB2⟩; obtain ⟨hc2, hf2⟩ := bcell (hB2.mono (show w.heap.size + 1 ≤ _ by first | omega | ((try simp only [World.size_alloc, World.size_drew, World.size_setCell]); omega))); have hz2 : w.heap.size + 1 ≤ w2.heap.size := (by have := hB2.size; (try simp only [World.size_alloc, World.size_drew, World.size_setCell] at this); omega)))
  go_returns
  exact ⟨rfl, by (repeat' (first | (with_reducible exact Below.refl _ _) | (with_reducible assumption) | (with_reducible refine Below.alloc ?_ ?_ _) | (with_reducible refine Below.drew ?_) | (with_reducible refine below_drewN ?_ _) | (with_reducible refine Below.setCell ?_ ?_ _) | (with_reducible refine Below.trans ?_ (Below.mono (by with_reducible assumption) ?_)) | go_size))⟩

set_option maxRecDepth 100000 in
set_option maxHeartbeats 1000000 in
theorem c10_yes (d : Dk) (w : World) (hz : Zs w d) (hf : ¬ d.far) (ok : d.Ok) :
    Calls Try.prog 10 #[d.v] w fun e w' => e = .returned (.bool true) ∧ Below w.heap.size w w' := by
  have hh := hid hf
  have okh := hid ok
  have hru := all_isRun ok
  have hln := lost_nonneg ok
  have hlz := hid (fun h1 h2 => lost_zero ok h1 h2)
  have hrs := hid (fun h1 h2 => run_same ok h1 h2 0 d.count)
  obtain ⟨lo, hlo⟩ : ∃ x, x = (d.run 0 d.count).1 := ⟨_, rfl⟩
  obtain ⟨hi, hhi⟩ : ∃ x, x = (d.run 0 d.count).2 := ⟨_, rfl⟩
  obtain ⟨ls, hls⟩ : ∃ x, x = d.lostAt 2 := ⟨_, rfl⟩
  have hC28 : Hid (∀ W, Zs W d → Calls Try.prog 28 #[d.v, .int .i64 0, .int .i64 d.count] W fun e w' => e = .returned (.tuple #[.agg #[.int .i64 lo, .int .i64 hi], .int .i64 0]) ∧ Below W.heap.size W w') := hid (fun W hzW => by
    have := c28_ok d 0 d.count W hzW ok hru
    rwa [← hlo, ← hhi] at this)
  have hC30 : Hid (∀ W, Zs W d → Calls Try.prog 30 #[d.v] W fun e w' => e = .returned (.tuple #[.int .i64 ls, .int .i64 0]) ∧ Below W.heap.size W w') := hid (fun W hzW => by
    have := c30_ok d W hzW ok
    rwa [← hls] at this)
  rw [← hls] at hln hlz
  rw [← hlo, ← hhi] at hrs
  clear hf ok hru hls hlo hhi
  go_enter Try.func10, Try.ntmps10
  go_wp2_with (first | (go_at_call 34; refine (c34y d _ (by exact hz.below (by (repeat' (first | (with_reducible exact Below.refl _ _) | (with_reducible assumption) | (with_reducible refine Below.alloc ?_ ?_ _) | (with_reducible refine Below.drew ?_) | (with_reducible refine below_drewN ?_ _) | (with_reducible refine Below.setCell ?_ ?_ _) | (with_reducible refine Below.trans ?_ (Below.mono (by with_reducible assumption) ?_)) | go_size))) (Nat.le_refl _)) hh.out okh.out).mono ?_; rintro e w1 ⟨rfl, hB1⟩; obtain ⟨hc1, hf1⟩ := bcell (hB1.mono (show w.heap.size + 1 ≤ _ by first | omega | ((try simp only [World.size_alloc, World.size_drew, World.size_setCell]); omega))); have hz1 : w.heap.size + 1 ≤ w1.heap.size := (by have := hB1.size; (try simp only [World.size_alloc, World.size_drew, World.size_setCell] at this); omega); have hy1 : w.heap.size < w1.heap.size := (by omega)) | (go_at_call 30; refine (hC30.out _ (by exact hz.below (by (repeat' (first | (with_reducible exact Below.refl _ _) | (with_reducible assumption) | (with_reducible refine Below.alloc ?_ ?_ _) | (with_reducible refine Below.drew ?_) | (with_reducible refine below_drewN ?_ _) | (with_reducible refine Below.setCell ?_ ?_ _) | (with_reducible refine Below.trans ?_ (Below.mono (by with_reducible assumption) ?_)) | go_size))) (Nat.le_refl _))).mono ?_; rintro e w2 ⟨rfl, hB2⟩; obtain ⟨hc2, hf2⟩ := bcell (hB2.mono (show w.heap.size + 1 ≤ _ by first | omega | ((try simp only [World.size_alloc, World.size_drew, World.size_setCell]); omega))); have hz2 : w.heap.size + 1 ≤ w2.heap.size := (by have := hB2.size; (try simp only [World.size_alloc, World.size_drew, World.size_setCell] at this); omega); have hy2 : w.heap.size < w2.heap.size := (by omega)))
  have hvb : w2.heap[w.heap.size]? = some (.cells #[.int .i64 d.hd, .int .i64 d.tu, .slice d.za d.zs.length d.zc, .int .i64 d.hs, .int .i64 d.cs, .int .i64 d.hl, .int .i64 d.hh, .int .i64 d.cl, .int .i64 d.ch] 26 (0, 0)) := by
    rw [hB2.block _ hy1, hB1.block _ (by simp)]; exact heap_new w _
  have hb2 : Below w.heap.size w w2 := by (repeat' (first | (with_reducible exact Below.refl _ _) | (with_reducible assumption) | (with_reducible refine Below.alloc ?_ ?_ _) | (with_reducible refine Below.drew ?_) | (with_reducible refine below_drewN ?_ _) | (with_reducible refine Below.setCell ?_ ?_ _) | (with_reducible refine Below.trans ?_ (Below.mono (by with_reducible assumption) ?_)) | go_size))
  have hz2 : Zs w2 d := hz.below hb2 (Nat.le_refl _)
  clear hc1 hf1 hc2 hf2
  refine wpIn_wide.1 (wild_region (F := Fence.wide) (n := 0) (C := fun w' => Below w2.heap.size w2 w') (R := Turns1 w2.heap.size 24 2 (.cells #[.int .i64 lo, .int .i64 hi] 24 (0, 0))) (G := fun i us w' => match i with
    | 0 => us 0 = d.v
    | 1 => us 1 = d.v
    | 2 => us 2 = .int .i64 d.count
    | 3 => us 3 = .tuple #[.agg #[.int .i64 lo, .int .i64 hi], .int .i64 0]
    | 4 => us 4 = .tuple #[.agg #[.int .i64 lo, .int .i64 hi], .int .i64 0]
    | 5 => us 5 = .agg #[.int .i64 lo, .int .i64 hi]
    | 6 => us 6 = .int .i64 0
    | 7 => ∃ b : Nat, us 7 = .pointer (some ⟨b, 0, none⟩) ∧ w2.heap.size ≤ b ∧ ∃ cs : Array Value, cs.size = 2 ∧ w'.heap[b]? = some (.cells cs 24 (0, 0))
    | 8 => ∃ b : Nat, us 7 = .pointer (some ⟨b, 0, none⟩) ∧ w2.heap.size ≤ b ∧ w'.heap[b]? = some (.cells #[.int .i64 lo, .int .i64 hi] 24 (0, 0))
    | 9 => us 9 = .int .i64 0
    | _ => True) (by kernel_rfl) (by kernel_rfl) (by kernel_rfl) ?loc (Below.refl _ _).drew ?stab ?steps ?fin)
  case loc =>
    intro j us i v w' hij hdp hG
    rcases j with _ | _ | _ | _ | _ | _ | _ | _ | _ | _ | j
    all_goals first | trivial | ((try dsimp only at hG ⊢); rw [upd_ne _ _ (Ne.symm hij)]; exact hG) | skip
    by_cases hi7 : i = 7
    · subst hi7; exact absurd hdp (by decide)
    · (try dsimp only at hG ⊢); rw [upd_ne _ _ (Ne.symm hi7)]; exact hG
  case stab =>
    intro i us A B hAB hG
    rcases i with _ | _ | _ | _ | _ | _ | _ | _ | _ | _ | i <;> try exact hG
    · obtain ⟨b, h1, h2, cs, h3, h4⟩ := hG
      rcases hAB.2 b (Array.getElem?_eq_some_iff.1 h4).1 with h5 | ⟨_, _, h5⟩
      · exact ⟨b, h1, h2, cs, h3, h5.trans h4⟩
      · exact ⟨b, h1, h2, _, rfl, h5⟩
    · obtain ⟨b, h1, h2, h4⟩ := hG
      rcases hAB.2 b (Array.getElem?_eq_some_iff.1 h4).1 with h5 | ⟨_, _, h5⟩
      · exact ⟨b, h1, h2, h5.trans h4⟩
      · exact ⟨b, h1, h2, h5⟩
  case steps =>
    dsimp only [StepsW, StepW]
    refine ⟨?_, ?_, ?_, ?_, ?_, ?_, ?_, ?_, ?_, ?_, trivial⟩
    all_goals (intro A us W hA hC hG K hK; have hcw := fun j => cell_at (j := j) ((hC.block _ (by omega)).trans hvb); have hzw : Zs W d := hz2.below hC (Nat.le_refl _); have h1 : A.tmps[1]?.getD undef = .pointer (some ⟨w.heap.size, 0, none⟩) := slot_none hA rfl rfl; simp only [AfterW, Region.binds, true_implies, and_true, forall_const] at hG)
    · clear hA
      go_simp
      exact hK _ W hC (.of_below (Below.refl _ _)) (upd_same _ _ _)
    · clear hA
      go_simp
      exact hK _ W hC (.of_below (Below.refl _ _)) (upd_same _ _ _)
    · have h18 := slot_some (t := 18) hA (by kernel_rfl) rfl (by simp) hG
      clear hA
      gi_wp2_with (refine ⟨trivial, rfl, ?_⟩; gi_at_call 42; refine (callsIn_wide.2 (c42 d _ hzw okh.out)).mono ?_; rintro e w3 ⟨rfl, hB3⟩)
      exact hK _ w3 (hC.trans (hB3.mono hC.size)) (.of_below hB3) (upd_same _ _ _)
    · have h17 := slot_some (t := 17) hA (by kernel_rfl) rfl (by simp) hG.1
      have h19 := slot_some (t := 19) hA (by kernel_rfl) rfl (by simp) hG.2.1
      clear hA
      gi_wp2_with (refine ⟨trivial, rfl, ?_⟩; gi_at_call 28; refine (callsIn_wide.2 (hC28.out _ hzw)).mono ?_; rintro e w3 ⟨rfl, hB3⟩)
      exact hK _ w3 (hC.trans (hB3.mono hC.size)) (.of_below hB3) (upd_same _ _ _)
    · have h20 := slot_some (t := 20) hA (by kernel_rfl) rfl (by simp) hG
      clear hA
      go_simp
      exact hK _ W hC (.of_below (Below.refl _ _)) (upd_same _ _ _)
    · have h16 := slot_some (t := 16) hA (by kernel_rfl) rfl (by simp) hG
      clear hA
      go_simp
      exact hK _ W hC (.of_below (Below.refl _ _)) (upd_same _ _ _)
    · have h16 := slot_some (t := 16) hA (by kernel_rfl) rfl (by simp) hG.1
      clear hA
      go_simp
      exact hK _ W hC (.of_below (Below.refl _ _)) (upd_same _ _ _)
    · clear hA
      gi_wp2
      exact hK (.pointer (some ⟨W.heap.size, 0, none⟩)) _ (hC.alloc hC.size _) (.of_below ((Below.refl _ _).alloc (Nat.le_refl _) _)) ⟨W.heap.size, upd_same _ _ _, hC.size, _, rfl, heap_new W _⟩
    · obtain ⟨⟨b, g7, gb, cs, gs, gh⟩, g5, _⟩ := hG
      have h5 := slot_some (t := 5) hA (by kernel_rfl) rfl (by simp) g7
      have h21 := slot_some (t := 21) hA (by kernel_rfl) rfl (by simp) g5
      clear hA hcw h1
      obtain ⟨l⟩ := cs
      match l, gs with
      | [v0, v1], _ =>
        have hcb := fun j => cell_at (j := j) gh
        have hfb : ∀ j, W.frozen? ⟨b, j, none⟩ = false := fun j => frozen_at (j := j) gh
        have hbs : b < W.heap.size := (Array.getElem?_eq_some_iff.1 gh).1
        have hp2 := put2 (v0 := .int .i64 lo) (v1 := .int .i64 hi) gh
        gi_wp2
        refine hK undef _ ((hC.setCell (by dsimp only; omega) _).setCell (by dsimp only; omega) _) ⟨by simp, fun k hk => ?_⟩ ⟨b, by rw [upd_ne _ _ (by omega)]; exact g7, gb, hp2⟩
        by_cases hkb : k = b
        · subst hkb; exact .inr ⟨gb, ⟨_, rfl, gh⟩, hp2⟩
        · left; rw [Below.heap_setCell _ _ _ _ (by dsimp only; omega), Below.heap_setCell _ _ _ _ (by dsimp only; omega)]
    · have h22 := slot_some (t := 22) hA (by kernel_rfl) rfl (by simp) hG.1
      clear hA
      go_simp
      exact hK _ W hC (.of_below (Below.refl _ _)) (upd_same _ _ _)
  case fin =>
    intro us W hC hG
    have g9 : us 9 = .int .i64 0 := hG 9 (by decide)
    obtain ⟨b, g7, gb, gh⟩ : ∃ b : Nat, us 7 = .pointer (some ⟨b, 0, none⟩) ∧ w2.heap.size ≤ b ∧ W.heap[b]? = some (.cells #[.int .i64 lo, .int .i64 hi] 24 (0, 0)) := hG 8 (by decide)
    simp only [frW, Nat.reduceAdd, Nat.zero_add, g7, g9, Act.put, List.setIfInBounds_toArray, List.set_cons_succ, List.set_cons_zero]
    have hW3 := (hC.block _ (by omega)).trans hvb
    have hbW : Below w.heap.size w W := hb2.trans (hC.mono (by omega))
    have hWs := hbW.size
    have hc3 := fun j => cell_at (j := j) hW3
    have hcb := fun j => cell_at (j := j) gh
    clear hG g7 g9 gh hW3 hvb hC
    by_cases t1 : d.hs < d.hh
    · go_wp2_with (go_at_call 14; refine (c14 _).mono ?_; rintro e w8 ⟨rfl, hB8⟩)
      go_returns
      exact ⟨rfl, by (repeat' (first | (with_reducible exact Below.refl _ _) | (with_reducible assumption) | (with_reducible refine Below.alloc ?_ ?_ _) | (with_reducible refine Below.drew ?_) | (with_reducible refine below_drewN ?_ _) | (with_reducible refine Below.setCell ?_ ?_ _) | (with_reducible refine Below.trans ?_ (Below.mono (by with_reducible assumption) ?_)) | go_size))⟩
    · by_cases t2 : d.cs < d.ch
      · go_wp2_with (go_at_call 14; refine (c14 _).mono ?_; rintro e w8 ⟨rfl, hB8⟩)
        go_returns
        exact ⟨rfl, by (repeat' (first | (with_reducible exact Below.refl _ _) | (with_reducible assumption) | (with_reducible refine Below.alloc ?_ ?_ _) | (with_reducible refine Below.drew ?_) | (with_reducible refine below_drewN ?_ _) | (with_reducible refine Below.setCell ?_ ?_ _) | (with_reducible refine Below.trans ?_ (Below.mono (by with_reducible assumption) ?_)) | go_size))⟩
      · obtain rfl := hlz.out (by omega) (by omega)
        obtain rfl := hrs.out (by omega) (by omega)
        go_wp2_with (go_at_call 14; refine (c14 _).mono ?_; rintro e w8 ⟨rfl, hB8⟩)
        go_returns
        exact ⟨rfl, by (repeat' (first | (with_reducible exact Below.refl _ _) | (with_reducible assumption) | (with_reducible refine Below.alloc ?_ ?_ _) | (with_reducible refine Below.drew ?_) | (with_reducible refine below_drewN ?_ _) | (with_reducible refine Below.setCell ?_ ?_ _) | (with_reducible refine Below.trans ?_ (Below.mono (by with_reducible assumption) ?_)) | go_size))⟩

theorem c10 (d : Dk) (w : World) (hz : Zs w d) : Calls Try.prog 10 #[d.v] w fun e w' => e = .returned (.bool true) ∧ Below w.heap.size w w' := by
  by_cases h1 : ¬ d.far ∧ d.Ok
  · exact c10_yes d w hz h1.1 h1.2
  · exact c10_no d w hz h1
end Go.Proofs.Ythkbiplmfbcabaa
