/- Stage 1: the reference's Skews. -/
import Derived.Test.YthkbiplmfbcabaaN3
set_option linter.unusedSimpArgs false
set_option linter.unusedVariables false
namespace Go.Proofs.Ythkbiplmfbcabaa
open Go.RowKit Go.Sort

def skK (z y k : Int) : Int := if k = 1 then z else if k = 2 then y else 0
theorem c33_err (d : Dk) (st : Int) (w : World) (hz : Zs w d) (hm : d.zs.length ≤ 1000000) (ok : ¬ d.Ok) :
    Calls Try.prog 33 #[d.v, .int .i64 st] w fun e w' => e = .returned (.tuple #[.int .i64 0, .int .i64 0, .int .i64 0, .int .i64 10]) ∧ Below w.heap.size w w' := by
  have he := Dk.err_not ok
  have ho := hid ok
  clear ok
  go_enter Try.func33, Try.ntmps33
  go_wp2_with (go_at_call 17; refine (c17 d _ (by exact hz.below (by (repeat' (first | (with_reducible exact Below.refl _ _) | (with_reducible assumption) | (with_reducible refine Below.alloc ?_ ?_ _) | (with_reducible refine Below.drew ?_) | (with_reducible refine below_drewN ?_ _) | (with_reducible refine Below.setCell ?_ ?_ _) | (with_reducible refine Below.trans ?_ (Below.mono (by with_reducible assumption) ?_)) | go_size))) (Nat.le_refl _)) hm).mono ?_; rw [he]; rintro e w1 ⟨rfl, hB1⟩; obtain ⟨hc1, hf1⟩ := bcell (hB1.mono (show w.heap.size + 1 ≤ _ by first | omega | ((try simp only [World.size_alloc, World.size_drew, World.size_setCell]); omega))); have hz1 : w.heap.size < w1.heap.size := by (have := hB1.size; (try simp only [World.size_alloc, World.size_drew, World.size_setCell] at this); omega))
  go_returns
  exact ⟨rfl, by (repeat' (first | (with_reducible exact Below.refl _ _) | (with_reducible assumption) | (with_reducible refine Below.alloc ?_ ?_ _) | (with_reducible refine Below.drew ?_) | (with_reducible refine below_drewN ?_ _) | (with_reducible refine Below.setCell ?_ ?_ _) | (with_reducible refine Below.trans ?_ (Below.mono (by with_reducible assumption) ?_)) | go_size))⟩
theorem c33_arg (d : Dk) (st : Int) (w : World) (hz : Zs w d) (ok : d.Ok) (hs : ¬ (1 ≤ st ∧ st ≤ d.tu)) :
    Calls Try.prog 33 #[d.v, .int .i64 st] w fun e w' => e = .returned (.tuple #[.int .i64 0, .int .i64 0, .int .i64 0, .int .i64 1]) ∧ Below w.heap.size w w' := by
  have he := Dk.err_ok ok
  have hm : d.zs.length ≤ 1000000 := by have := ok.zl4; omega
  have ho := hid ok
  clear ok
  go_enter Try.func33, Try.ntmps33
  go_wp2_with (first | (go_at_call 17; refine (c17 d _ (by exact hz.below (by (repeat' (first | (with_reducible exact Below.refl _ _) | (with_reducible assumption) | (with_reducible refine Below.alloc ?_ ?_ _) | (with_reducible refine Below.drew ?_) | (with_reducible refine below_drewN ?_ _) | (with_reducible refine Below.setCell ?_ ?_ _) | (with_reducible refine Below.trans ?_ (Below.mono (by with_reducible assumption) ?_)) | go_size))) (Nat.le_refl _)) hm).mono ?_; rw [he]; rintro e w1 ⟨rfl, hB1⟩; obtain ⟨hc1, hf1⟩ := bcell (hB1.mono (show w.heap.size + 1 ≤ _ by first | omega | ((try simp only [World.size_alloc, World.size_drew, World.size_setCell]); omega))); have hz1 : w.heap.size < w1.heap.size := by (have := hB1.size; (try simp only [World.size_alloc, World.size_drew, World.size_setCell] at this); omega)) | (go_at_call 47; refine (c47n _ (by exact hs)).mono ?_; rintro e w9 ⟨rfl, rfl⟩))
  go_returns
  exact ⟨rfl, by (repeat' (first | (with_reducible exact Below.refl _ _) | (with_reducible assumption) | (with_reducible refine Below.alloc ?_ ?_ _) | (with_reducible refine Below.drew ?_) | (with_reducible refine below_drewN ?_ _) | (with_reducible refine Below.setCell ?_ ?_ _) | (with_reducible refine Below.trans ?_ (Below.mono (by with_reducible assumption) ?_)) | go_size))⟩

set_option maxRecDepth 100000 in
set_option maxHeartbeats 8000000 in
theorem c33_ok (d : Dk) (st : Int) (w : World) (hz : Zs w d) (ok : d.Ok) (st0 : 1 ≤ st) (st1 : st ≤ d.tu) :
    Calls Try.prog 33 #[d.v, .int .i64 st] w fun e w' => e = .returned (.tuple #[.int .i64 (d.b0 st), .int .i64 (d.b1 st), .int .i64 (d.skR st).2, .int .i64 0]) ∧ Below w.heap.size w w' := by
  have he := Dk.err_ok ok
  have hm : d.zs.length ≤ 1000000 := by have := ok.zl4; omega
  have okh := hid ok
  have tu1 := ok.tu1
  have tu2 := ok.tu2
  have hp := places_pos ok
  have hL := ok.lenPl
  have hB := ok.cntB
  unfold lenPlaces at hL
  obtain ⟨N, hN⟩ : ∃ N, (places d).length = N + 1 := ⟨(places d).length - 1, by omega⟩
  obtain ⟨nn, hnn⟩ : ∃ nn : Nat, nn = N + 1 := ⟨_, rfl⟩
  have h42 : Hid (∀ W, Zs W d → Calls Try.prog 42 #[d.v] W fun e w' => e = .returned (.int .i64 nn) ∧ Below W.heap.size W w') := hid (fun W hzW => by rw [show ((nn : Nat) : Int) = d.count by omega]; exact c42 d W hzW ok)
  have h37 : Hid (∀ W, Zs W d → Calls Try.prog 37 #[d.v, .int .i64 0, .int .i64 nn] W (KdRet d 0 N W)) := hid (fun W hzW => by have := c37 d 0 nn W hzW ok (by omega) (by omega); rwa [show nn - 1 = N by omega] at this)
  obtain ⟨ow, how⟩ : ∃ x, x = own d (N + 1) := ⟨_, rfl⟩
  have hown := own_all ok hN
  rw [← how] at hown
  have cB := ok.cylB
  have hd1 := ok.hd1
  have hd4 := ok.hd4
  have mm1 := mul_le_mul_of (show 0 ≤ d.cyls by omega) (show 0 ≤ d.hd by omega) (show d.cyls ≤ 80 by omega) hd4
  have mm2 := mul_le_mul_of mm1.1 (show 0 ≤ d.tu by omega) (show d.cyls * d.hd ≤ 320 by omega) tu2
  have hw1 : IntKind.i64.wrap (d.cyls * d.hd) = d.cyls * d.hd := i64w _ (by omega) (by omega)
  have hw2 : IntKind.i64.wrap (d.cyls * d.hd * d.tu) = ow := by rw [hown]; exact i64w _ (by omega) (by omega)
  have ow0 : 0 ≤ ow := by omega
  have ow1 : ow ≤ 320000 := by omega
  have sp0 := ok.hl0; have sp1 := ok.hl1; have sp2 := ok.hh2; have sp3 := ok.cl0; have sp4 := ok.cl1; have sp5 := ok.ch2
  have hNb : N ≤ 5120 := by omega
  obtain ⟨n1, hn1⟩ : ∃ x, x = nK d N 1 := ⟨_, rfl⟩
  obtain ⟨n2, hn2⟩ : ∃ x, x = nK d N 2 := ⟨_, rfl⟩
  have hb1 := nK_bd d N 1
  have hb2 := nK_bd d N 2
  rw [← hn1] at hb1
  rw [← hn2] at hb2
  have hres : Hid (rowSt d.tu n1 n2 d.hh d.ch st (jOf d.tu st) = (d.b0 st, d.b1 st, (d.skR st).2 - ow)) := hid (by
    obtain ⟨s1, s2⟩ := sw_nK ok hN
    obtain ⟨b1, b2⟩ := bestOf_bd (tu := d.tu) (n := (swOf d.ck.d.count (tracksOf d.ck)).1) (h := d.ck.h0) st0 ok.tu1
    obtain ⟨b3, b4⟩ := bestOf_bd (tu := d.tu) (n := (swOf d.ck.d.count (tracksOf d.ck)).2) (h := d.ck.h1) st0 ok.tu1
    have f1 : bestOf d.tu n1 d.hh st = d.b0 st := by unfold Dk.b0; rw [s1, hn1]; rfl
    have f2 : bestOf d.tu n2 d.ch st = d.b1 st := by unfold Dk.b1; rw [s2, hn2]; rfl
    rw [skR_hi ok st0, sk_hi ok hN (h := d.b0 st) (c := d.b1 st) b1 b2 b3 b4, ← how, ← hn1, ← hn2]
    obtain ⟨i1, _, g1, g2⟩ := bestSt_mem d.tu n1 d.hh st (jOf d.tu st)
    obtain ⟨i2, _, g3, g4⟩ := bestSt_mem d.tu n2 d.ch st (jOf d.tu st)
    have f1' : (bestSt d.tu n1 d.hh st (jOf d.tu st)).1 = d.b0 st := f1
    have f2' : (bestSt d.tu n2 d.ch st (jOf d.tu st)).1 = d.b1 st := f2
    rw [f1'] at g1
    rw [f2'] at g3
    rw [← g1] at g2
    rw [← g3] at g4
    unfold rowSt
    rw [f1', f2', g2, g4]
    simp only [Prod.mk.injEq, true_and]
    omega)
  have hjm : Hid (∀ z : Int, ∀ j : Nat, z = st * j → z < d.tu → j ≤ jOf d.tu st) := hid (fun z j h1 h2 => by
    have h3 : (j : Int) ≤ (d.tu - 1) / st := (Int.le_ediv_iff_mul_le (by omega)).2 (by rw [Int.mul_comm, ← h1]; omega)
    unfold jOf; omega)
  have hje : Hid (∀ z : Int, ∀ j : Nat, z = st * (j + 1 : Nat) → d.tu ≤ z → st * (j : Int) < d.tu → j = jOf d.tu st) := hid (fun z j h1 h2 h3 => (jOf_eq st0 h3 (by rw [h1] at h2; rw [Int.natCast_succ] at h2; exact h2)).symm)
  have hstep := hid (fun (j k : Nat) (a b c z y n : Int) => stS_step (tu := d.tu) (n1 := n1) (n2 := n2) (h1 := d.hh) (h2 := d.ch) (st := st) (ow := ow) tu1 hb1.1 hb2.1 (by omega) (by omega) ow0 (j := j) (k := k) (a := a) (b := b) (c := c) (z := z) (y := y) (n := n))
  have hn1h := hid hn1
  have hn2h := hid hn2
  clear ok hp hL hB hN hnn how hown cB hd4 mm1 mm2 hn1 hn2
  go_enter Try.func33, Try.ntmps33
  go_wp2_with (first | (go_at_call 17; refine (c17 d _ (by exact hz.below (by (repeat' (first | (with_reducible exact Below.refl _ _) | (with_reducible assumption) | (with_reducible refine Below.alloc ?_ ?_ _) | (with_reducible refine Below.drew ?_) | (with_reducible refine below_drewN ?_ _) | (with_reducible refine Below.setCell ?_ ?_ _) | (with_reducible refine Below.trans ?_ (Below.mono (by with_reducible assumption) ?_)) | go_size))) (Nat.le_refl _)) hm).mono ?_; rw [he]; rintro e w1 ⟨rfl, hB1⟩; obtain ⟨hc1, hf1⟩ := bcell (hB1.mono (show w.heap.size + 1 ≤ _ by first | omega | ((try simp only [World.size_alloc, World.size_drew, World.size_setCell]); omega))); have hz1 : w.heap.size + 1 ≤ w1.heap.size := (by have := hB1.size; (try simp only [World.size_alloc, World.size_drew, World.size_setCell] at this); omega); have hy1 : w.heap.size < w1.heap.size := (by omega)) | (go_at_call 47; refine (c47y _ (by exact ⟨st0, st1⟩)).mono ?_; rintro e w9 ⟨rfl, rfl⟩))
  have hv : w1.heap[w.heap.size]? = some (.cells #[.int .i64 d.hd, .int .i64 d.tu, .slice d.za d.zs.length d.zc, .int .i64 d.hs, .int .i64 d.cs, .int .i64 d.hl, .int .i64 d.hh, .int .i64 d.cl, .int .i64 d.ch] 26 (0, 0)) := by rw [hB1.block _ (by simp)]; exact heap_new w _
  have hbw : Below w.heap.size w w1 := by (repeat' (first | (with_reducible exact Below.refl _ _) | (with_reducible assumption) | (with_reducible refine Below.alloc ?_ ?_ _) | (with_reducible refine Below.drew ?_) | (with_reducible refine below_drewN ?_ _) | (with_reducible refine Below.setCell ?_ ?_ _) | (with_reducible refine Below.trans ?_ (Below.mono (by with_reducible assumption) ?_)) | go_size))
  have hzw : Zs w1 d := hz.below hbw (Nat.le_refl _)
  clear hc1 hf1 hB1
  refine wpIn_wide.1 (wild_region (F := Fence.wide) (n := 0) (C := fun w' => Below w1.heap.size w1 w') (R := fun A B => Below A.heap.size A B) (G := fun i us w' => match i with
    | 0 => us 0 = d.v
    | 1 => us 1 = d.v
    | 2 => us 2 = .int .i64 nn
    | 3 => ∃ ka kb kc, us 3 = .slice ka N kc ∧ Ints w' ka kb 0 (kinds d 0 N)
    | 4 => ∃ ka kb kc, us 4 = .slice ka N kc ∧ Ints w' ka kb 0 (kinds d 0 N)
    | _ => True) (by kernel_rfl) (by kernel_rfl) (by kernel_rfl) ?loc1 (Below.refl _ _).drew ?stab1 ?steps1 ?fin1)
  case loc1 =>
    intro j us i v w' hij hdp hG
    rcases j with _ | _ | _ | _ | _ | j
    all_goals first | trivial | ((try dsimp only at hG ⊢); rw [upd_ne _ _ (Ne.symm hij)]; exact hG) | skip
  case stab1 =>
    intro i us A B hAB hG
    rcases i with _ | _ | _ | _ | _ | i <;> try exact hG
    · obtain ⟨ka, kb, kc, h1, h2⟩ := hG
      exact ⟨ka, kb, kc, h1, h2.below hAB (Nat.le_refl _)⟩
    · obtain ⟨ka, kb, kc, h1, h2⟩ := hG
      exact ⟨ka, kb, kc, h1, h2.below hAB (Nat.le_refl _)⟩
  case steps1 =>
    dsimp only [StepsW, StepW]
    refine ⟨?_, ?_, ?_, ?_, ?_, trivial⟩
    all_goals (intro A us W hA hC hG K hK; have hcw0 := fun j => cell_at (j := j) ((hC.block _ (by omega)).trans hv); have hzw0 := hzw.below hC (Nat.le_refl _); have hCs := hC.size; simp only [AfterW, Region.binds, true_implies, and_true, forall_const] at hG)
    · have h2 : A.tmps[2]?.getD undef = .pointer (some ⟨w.heap.size, 0, none⟩) := slot_none hA rfl rfl
      clear hA
      go_simp
      exact hK _ W hC (Below.refl _ _) (upd_same _ _ _)
    · have h2 : A.tmps[2]?.getD undef = .pointer (some ⟨w.heap.size, 0, none⟩) := slot_none hA rfl rfl
      clear hA
      go_simp
      exact hK _ W hC (Below.refl _ _) (upd_same _ _ _)
    · have h27 := slot_some (t := 27) (v := d.v) hA (by kernel_rfl) rfl (by simp) (by first | exact hG | exact hG.1 | exact hG.2 | exact hG.2.1 | exact hG.2.2 | exact hG.2.2.1 | exact hG.2.2.2 | exact hG.2.2.2.1 | exact hG.2.2.2.2 | exact hG.2.2.2.2.1 | exact hG.2.2.2.2.2 | exact hG.2.2.2.2.2.1 | exact hG.2.2.2.2.2.2.1)
      clear hA
      gi_wp2_with (refine ⟨trivial, rfl, ?_⟩; gi_at_call 42; refine (callsIn_wide.2 (h42.out _ hzw0)).mono ?_; rintro e w9 ⟨rfl, hB9⟩)
      exact hK _ w9 (hC.trans (hB9.mono hC.size)) hB9 (upd_same _ _ _)
    · have h26 := slot_some (t := 26) (v := d.v) hA (by kernel_rfl) rfl (by simp) (by first | exact hG | exact hG.1 | exact hG.2 | exact hG.2.1 | exact hG.2.2 | exact hG.2.2.1 | exact hG.2.2.2 | exact hG.2.2.2.1 | exact hG.2.2.2.2 | exact hG.2.2.2.2.1 | exact hG.2.2.2.2.2 | exact hG.2.2.2.2.2.1 | exact hG.2.2.2.2.2.2.1)
      have h28 := slot_some (t := 28) (v := .int .i64 nn) hA (by kernel_rfl) rfl (by simp) (by first | exact hG | exact hG.1 | exact hG.2 | exact hG.2.1 | exact hG.2.2 | exact hG.2.2.1 | exact hG.2.2.2 | exact hG.2.2.2.1 | exact hG.2.2.2.2 | exact hG.2.2.2.2.1 | exact hG.2.2.2.2.2 | exact hG.2.2.2.2.2.1 | exact hG.2.2.2.2.2.2.1)
      clear hA
      gi_wp2_with (refine ⟨trivial, rfl, ?_⟩; gi_at_call 37; refine (callsIn_wide.2 (h37.out _ hzw0)).mono ?_; intro e w9 hr; obtain ⟨ka, kb, kc, rfl, hki, hB9⟩ := hr.ints)
      exact hK _ w9 (hC.trans (hB9.mono hC.size)) hB9 ⟨ka, kb, kc, upd_same _ _ _, hki⟩
    · obtain ⟨ka, kb, kc, h1, h2⟩ : ∃ ka kb kc, us 3 = .slice ka N kc ∧ Ints W ka kb 0 (kinds d 0 N) := (by first | exact hG | exact hG.1 | exact hG.2 | exact hG.2.1 | exact hG.2.2 | exact hG.2.2.1 | exact hG.2.2.2 | exact hG.2.2.2.1 | exact hG.2.2.2.2 | exact hG.2.2.2.2.1 | exact hG.2.2.2.2.2 | exact hG.2.2.2.2.2.1 | exact hG.2.2.2.2.2.2.1)
      have h29 := slot_some (t := 29) hA (by kernel_rfl) rfl (by simp) h1
      clear hA
      go_simp
      exact hK _ W hC (Below.refl _ _) ⟨ka, kb, kc, upd_same _ _ _, h2⟩
  case fin1 =>
    intro us W hC hG
    have hCs := hC.size
    obtain ⟨ka, kb, kc, ga, hki⟩ : ∃ ka kb kc, us 4 = .slice ka N kc ∧ Ints W ka kb 0 (kinds d 0 N) := hG 4 (by decide)
    simp only [frW, Nat.reduceAdd, Nat.zero_add, ga, Act.put, List.setIfInBounds_toArray, List.set_cons_succ, List.set_cons_zero]
    clear hG ga
    have hvW := (hC.block _ hy1).trans hv
    have hbW : Below w.heap.size w W := hbw.trans (hC.mono (by omega))
    have hzW : Zs W d := hz.below hbW (Nat.le_refl _)
    have nW := (Array.getElem?_eq_some_iff.1 hvW).1
    have hkl := kinds_len d 0 N
    clear hv hbw hzw hC
    go_wp2
    go_loopw [10, 11, 13] (fun s t i wr => ∃ (i' : Nat) (S T : Int), i' ≤ N ∧ i = .int .i64 i' ∧ s = .int .i64 S ∧ t = .int .i64 T ∧ Hid (S = nK d i' 1) ∧ Hid (T = nK d i' 2) ∧ 0 ≤ S ∧ S ≤ i' ∧ 0 ≤ T ∧ T ≤ i' ∧ Below W.heap.size W wr) (fun _ _ i _ => N - (intOf i).toNat)
    case atStart => exact ⟨0, 0, 0, by omega, rfl, rfl, rfl, hid rfl, hid rfl, by omega, by omega, by omega, by omega, Below.refl _ _⟩
    case round =>
      obtain ⟨i, S, T, hi, rfl, rfl, rfl, hx1, hx2, S0, S1, T0, T1, hBr⟩ := hrel
      have hsz := hBr.size
      by_cases hlt : i < N
      · have hkr := hki.below hBr (Nat.le_refl _)
        have hik : i < (kinds d 0 N).length := by rw [hkl]; exact hlt
        have i0 := hkr.ix (cap := kc) (len := N) hik hkl.symm
        have p0 := hkr.c i hik
        have b1 := hkr.lt i hik
        rw [show (kinds d 0 N)[i] = kindAt d i by simp [kinds], Nat.zero_add] at p0
        rw [Nat.zero_add] at i0
        have hmn : Hid (i + 1 ≤ N) := hid hlt
        have hw3 : IntKind.i64.wrap ((i : Int) + 1) = ((i + 1 : Nat) : Int) := by rw [i64w _ (by omega) (by omega)]; omega
        clear hkr
        rcases kindAt_bd d i with hK | hK | hK
        · rw [hK] at p0
          go_wp2
          go_roundw
          case rel => exact ⟨i + 1, S, T, hmn.out, by go_num, rfl, rfl, hid (by rw [nK_succ, hK, ← hx1.out]; simp), hid (by rw [nK_succ, hK, ← hx2.out]; simp), by omega, by omega, by omega, by omega, hBr⟩
          case measure => simp [intOf]; omega
        · rw [hK] at p0
          go_wp2
          go_roundw
          case rel => exact ⟨i + 1, S + 1, T, hmn.out, by go_num, rfl, rfl, hid (by rw [nK_succ, hK, ← hx1.out]; simp), hid (by rw [nK_succ, hK, ← hx2.out]; simp), by omega, by omega, by omega, by omega, hBr⟩
          case measure => simp [intOf]; omega
        · rw [hK] at p0
          go_wp2
          go_roundw
          case rel => exact ⟨i + 1, S, T + 1, hmn.out, by go_num, rfl, rfl, hid (by rw [nK_succ, hK, ← hx1.out]; simp), hid (by rw [nK_succ, hK, ← hx2.out]; simp), by omega, by omega, by omega, by omega, hBr⟩
          case measure => simp [intOf]; omega
      · obtain rfl : i = N := by omega
        obtain ⟨wo, rfl⟩ : ∃ wo : World, wo = wr := ⟨_, rfl⟩
        obtain rfl : S = n1 := by rw [hx1.out, hn1h.out]
        obtain rfl : T = n2 := by rw [hx2.out, hn2h.out]
        have hvr := (hBr.block _ nW).trans hvW
        have hzr := hzW.below hBr (Nat.le_refl _)
        have hbr : Below w.heap.size w wo := hbW.trans (hBr.mono (by omega))
        have k1 := cells_regrown hvr
        clear hki hkl hBr hvW hbW hzW hx1 hx2 hi hlt
        go_wp2
        refine wp_region_quiet_below (by kernel_rfl) (by kernel_rfl) ?_; (repeat (refine wpQuiet_step (fun K hK => ?_); go_simp; first | (refine hK _ ?_; clear hK K) | (apply Exists.intro; refine ⟨fun _ => ?_, hK _ ?_⟩; (first | exact Calls.regrown_of (c65 d _ (hzr.below (below_regrown _ _ _) (Nat.le_refl _)) okh.out)); clear hK K))); refine wpQuiet_nil ?_; intro _ hw; obtain ⟨q, hwq⟩ := hw; subst hwq
        have hB5 := below_regrown wo q.d q.os
        generalize grow (redrawn wo q.d) q.os = w5 at hB5 ⊢
        have hv5 := (hB5.block _ (Array.getElem?_eq_some_iff.1 hvr).1).trans hvr
        have hz5 := hzr.below hB5 (Nat.le_refl _)
        have hb5 : Below w.heap.size w w5 := hbr.trans (hB5.mono hbr.size)
        have n5 := (Array.getElem?_eq_some_iff.1 hv5).1
        clear k1 hvr hzr hbr hB5
        go_wp2
        go_loopw [4, 5, 8, 14] (fun va vb vc vh wr => ∃ (j : Nat) (a b c z : Int), va = .int .i64 a ∧ vb = .int .i64 b ∧ vc = .int .i64 c ∧ vh = .int .i64 z ∧ Hid (z = st * j) ∧ 0 ≤ z ∧ z ≤ 2000 ∧ Hid ((a, b, c) = stS d.tu S T d.hh d.ch st ow j 0) ∧ Hid (0 < j → st * ((j : Int) - 1) < d.tu) ∧ -1 ≤ c ∧ c ≤ 1000000000 ∧ Below w5.heap.size w5 wr) (fun _ _ _ vh _ => (d.tu - intOf vh).toNat)
        case atStart => exact ⟨0, 0, 0, -1, 0, rfl, rfl, rfl, rfl, hid (by simp), by omega, by omega, hid rfl, hid (fun h => absurd h (by omega)), by omega, by omega, Below.refl _ _⟩
        case round =>
          obtain ⟨j, a, b, c, z, rfl, rfl, rfl, rfl, hzj, z0, z1, hst, hjb, c0, c1, hBo⟩ := hrel
          have hvo := (hBo.block _ n5).trans hv5
          have hco := fun j => cell_at (j := j) hvo
          have no := (Array.getElem?_eq_some_iff.1 hvo).1
          by_cases hz9 : z < d.tu
          · go_wp2_with fail
            obtain ⟨wp, rfl⟩ : ∃ wp : World, wp = wr := ⟨_, rfl⟩
            have gz := gapV_bd (tu := d.tu) (sk := z) (t := d.hh) tu1
            have gz1 := mul_le_mul_of hb1.1 (show 0 ≤ gapV d.tu z d.hh by omega) (show S ≤ 5120 by omega) (show gapV d.tu z d.hh ≤ 3000 by omega)
            clear hco
            go_loopw [4, 5, 8, 15] (fun va vb vc vy wr => ∃ (k : Nat) (a b c y : Int), va = .int .i64 a ∧ vb = .int .i64 b ∧ vc = .int .i64 c ∧ vy = .int .i64 y ∧ Hid (y = st * k) ∧ 0 ≤ y ∧ y ≤ 2000 ∧ Hid ((a, b, c) = stS d.tu S T d.hh d.ch st ow j k) ∧ Hid (0 < k → st * ((k : Int) - 1) < d.tu) ∧ -1 ≤ c ∧ c ≤ 1000000000 ∧ Below wp.heap.size wp wr) (fun _ _ _ vy _ => (d.tu - intOf vy).toNat)
            case atStart => exact ⟨0, a, b, c, 0, rfl, rfl, rfl, rfl, hid (by simp), by omega, by omega, hst, hid (fun h => absurd h (by omega)), c0, c1, Below.refl _ _⟩
            case round =>
              obtain ⟨k, a, b, c, y, rfl, rfl, rfl, rfl, hyk, y0, y1, hsk, hkb, c0, c1, hBi⟩ := hrel
              have hvr := (hBi.block _ no).trans hvo
              have nr := (Array.getElem?_eq_some_iff.1 hvr).1
              have hc3 := fun j => cell_at (j := j) hvr
              by_cases hy9 : y < d.tu
              · have gy := gapV_bd (tu := d.tu) (sk := y) (t := d.ch) tu1
                have gy1 := mul_le_mul_of hb2.1 (show 0 ≤ gapV d.tu y d.ch by omega) (show T ≤ 5120 by omega) (show gapV d.tu y d.ch ≤ 3000 by omega)
                obtain ⟨ga, hga⟩ : ∃ x, x = S * gapV d.tu z d.hh := ⟨_, rfl⟩
                obtain ⟨gb, hgb⟩ : ∃ x, x = T * gapV d.tu y d.ch := ⟨_, rfl⟩
                have ww1 : IntKind.i64.wrap (S * gapV d.tu (skK z y 1) d.hh) = ga := by rw [hga]; exact i64w (S * gapV d.tu z d.hh) (by omega) (by omega)
                have ww2 : IntKind.i64.wrap (T * gapV d.tu (skK z y 2) d.ch) = gb := by rw [hgb]; exact i64w (T * gapV d.tu y d.ch) (by omega) (by omega)
                rw [← hga] at gz1
                rw [← hgb] at gy1
                have ww3 : IntKind.i64.wrap (ow + ga) = ow + ga := i64w _ (by omega) (by omega)
                have ww4 : IntKind.i64.wrap (ow + ga + gb) = ow + ga + gb := i64w _ (by omega) (by omega)
                have okz : (d.sk z y).Ok := Dk.sk_ok okh.out z0 hz9 y0 hy9
                have hg : Hid (∀ (k t : Int) W, 0 ≤ t → t ≤ 2000 → Calls Try.prog 40 #[(d.sk z y).v, .int .i64 k, .int .i64 t] W fun e w' => e = .returned (.int .i64 (gapV d.tu (skK z y k) t)) ∧ Below W.heap.size W w') := hid (fun k t W t0 t1 => c40g (d.sk z y) k t W okz t0 t1)
                have hss := hid (hstep.out j k a b c z y (ow + ga + gb) hsk.out hzj.out hyk.out (by rw [hga, hgb]))
                have hyn : Hid (y + st = st * ((k + 1 : Nat) : Int)) := hid (by rw [hyk.out, Int.natCast_succ, Int.mul_add, Int.mul_one])
                have hkn : Hid (0 < k + 1 → st * (((k + 1 : Nat) : Int) - 1) < d.tu) := hid (fun _ => by rw [Int.natCast_succ, Int.add_sub_cancel, ← hyk.out]; exact hy9)
                have ww5 : IntKind.i64.wrap (y + st) = y + st := i64w _ (by omega) (by omega)
                clear hga hgb okz hsk
                go_wp2_with (go_at_call 43; refine (c43 d z y _).mono ?_; rintro e w6 ⟨rfl, hB6⟩)
                have hn6 := heap_new w6 (.cells #[.int .i64 d.hd, .int .i64 d.tu, .slice d.za d.zs.length d.zc, .int .i64 z, .int .i64 y, .int .i64 d.hl, .int .i64 d.hh, .int .i64 d.cl, .int .i64 d.ch] 26)
                have hk6 : Below wr.heap.size wr (w6.alloc (.cells #[.int .i64 d.hd, .int .i64 d.tu, .slice d.za d.zs.length d.zc, .int .i64 z, .int .i64 y, .int .i64 d.hl, .int .i64 d.hh, .int .i64 d.cl, .int .i64 d.ch] 26)) := hB6.alloc hB6.size _
                generalize w6.alloc (.cells #[.int .i64 d.hd, .int .i64 d.tu, .slice d.za d.zs.length d.zc, .int .i64 z, .int .i64 y, .int .i64 d.hl, .int .i64 d.hh, .int .i64 d.cl, .int .i64 d.ch] 26) = wa at hn6 hk6 ⊢
                have hd2 := (hk6.block _ nr).trans hvr
                have k1 := cells_regrown hd2
                have k2 := cells_regrown hn6
                clear hc3 hd2 hn6 hB6
                refine wp_region_quiet_below (by kernel_rfl) (by kernel_rfl) ?_; (repeat (refine wpQuiet_step (fun K hK => ?_); go_simp; first | (refine hK _ ?_; clear hK K) | (apply Exists.intro; refine ⟨fun _ => ?_, hK _ ?_⟩; (first | exact Calls.regrown_of (hg.out _ _ _ (by omega) (by omega))); clear hK K))); refine wpQuiet_nil ?_; intro _ hw; obtain ⟨q, hwq⟩ := hw; subst hwq
                have hB7 := below_regrown wa q.d q.os
                generalize grow (redrawn wa q.d) q.os = wb at hB7 ⊢
                have hbb : Below wr.heap.size wr wb := hk6.trans (hB7.mono hk6.size)
                clear k1 k2 hB7 hk6
                by_cases hneg : c < 0
                · have hr := hid (hss.out.1 (.inl hneg))
                  clear hss
                  go_wp2
                  go_roundw
                  case rel => exact ⟨k + 1, z, y, ow + ga + gb, y + st, rfl, rfl, rfl, rfl, hyn, by omega, by omega, hr, hkn, by omega, by omega, hBi.trans (hbb.mono hBi.size)⟩
                  case measure => simp [intOf]; omega
                · by_cases hlt : ow + ga + gb < c
                  · have hr := hid (hss.out.1 (.inr hlt))
                    clear hss
                    go_wp2
                    go_roundw
                    case rel => exact ⟨k + 1, z, y, ow + ga + gb, y + st, rfl, rfl, rfl, rfl, hyn, by omega, by omega, hr, hkn, by omega, by omega, hBi.trans (hbb.mono hBi.size)⟩
                    case measure => simp [intOf]; omega
                  · have hr := hid (hss.out.2 (by omega))
                    clear hss
                    go_wp2
                    go_roundw
                    case rel => exact ⟨k + 1, a, b, c, y + st, rfl, rfl, rfl, rfl, hyn, by omega, by omega, hr, hkn, by omega, by omega, hBi.trans (hbb.mono hBi.size)⟩
                    case measure => simp [intOf]; omega
              · have hk0 : 0 < k := by
                  rcases Nat.eq_zero_or_pos k with h | h
                  · subst h; have := hyk.out; simp at this; omega
                  · exact h
                obtain ⟨k, rfl⟩ : ∃ k', k = k' + 1 := ⟨k - 1, by omega⟩
                have hkj : k = jOf d.tu st := hje.out y k hyk.out (by omega) (by have := hkb.out hk0; rw [Int.natCast_succ, Int.add_sub_cancel] at this; exact this)
                have hr : Hid ((a, b, c) = stS d.tu S T d.hh d.ch st ow (j + 1) 0) := hid (by rw [← stS_next, ← hkj]; exact hsk.out)
                have hzn : Hid (z + st = st * ((j + 1 : Nat) : Int)) := hid (by rw [hzj.out, Int.natCast_succ, Int.mul_add, Int.mul_one])
                have hjn : Hid (0 < j + 1 → st * (((j + 1 : Nat) : Int) - 1) < d.tu) := hid (fun _ => by rw [Int.natCast_succ, Int.add_sub_cancel, ← hzj.out]; exact hz9)
                have ww5 : IntKind.i64.wrap (z + st) = z + st := i64w _ (by omega) (by omega)
                clear hkj hsk hyk hkb
                go_wp2
                go_roundw
                case rel => exact ⟨j + 1, a, b, c, z + st, rfl, rfl, rfl, rfl, hzn, by omega, by omega, hr, hjn, c0, c1, hBo.trans (hBi.mono hBo.size)⟩
                case measure => simp [intOf]; omega
          · have hj0 : 0 < j := by
              rcases Nat.eq_zero_or_pos j with h | h
              · subst h; have := hzj.out; simp at this; omega
              · exact h
            obtain ⟨j, rfl⟩ : ∃ k', j = k' + 1 := ⟨j - 1, by omega⟩
            have hjj : j = jOf d.tu st := hje.out z j hzj.out (by omega) (by have := hjb.out hj0; rw [Int.natCast_succ, Int.add_sub_cancel] at this; exact this)
            have hfin : Hid (a = d.b0 st ∧ b = d.b1 st ∧ c = (d.skR st).2) := hid (by
              have h1 := hst.out
              simp only [stS] at h1
              rw [hjj, hres.out] at h1
              simp only [Prod.mk.injEq] at h1
              omega)
            clear hjj
            go_wp2_with fail
            go_returns
            refine ⟨?_, hb5.trans (hBo.mono hb5.size)⟩
            rw [hfin.out.1, hfin.out.2.1, hfin.out.2.2]
end Go.Proofs.Ythkbiplmfbcabaa
