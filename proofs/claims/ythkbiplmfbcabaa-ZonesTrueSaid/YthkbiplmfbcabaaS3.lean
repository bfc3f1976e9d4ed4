/- Stage 1: the reference's Lost. -/
import Derived.Test.YthkbiplmfbcabaaR3
set_option linter.unusedSimpArgs false
set_option linter.unusedVariables false
namespace Go.Proofs.Ythkbiplmfbcabaa
open Go.RowKit Go.Sort

def lostK (d : Dk) (k : Int) : Int := if 0 < k then (gapV d.tu (skewK d k) (hiK d k) - skewK d k).tdiv d.tu else 0
def turnsV (d : Dk) (f q : Nat) : Int := sm (fun i => lostK d (kindAt d i)) f q
theorem hi_bd {d : Dk} (ok : d.Ok) {k : Int} (hk : k = 1 ∨ k = 2) : 0 ≤ gapV d.tu (skewK d k) (hiK d k) - skewK d k ∧ gapV d.tu (skewK d k) (hiK d k) - skewK d k ≤ 3000 ∧ 0 ≤ lostK d k ∧ lostK d k ≤ 3000 := by
  obtain ⟨s1, s2⟩ := skewK_bd ok k
  obtain ⟨h1, h2⟩ := hiK_bd ok k
  have := lost1_bd ok.tu1 ok.tu2 s1 s2 h1 h2
  unfold lostK
  rw [if_pos (by omega)]
  exact this
theorem lostK_bd {d : Dk} (ok : d.Ok) (i : Nat) : 0 ≤ lostK d (kindAt d i) ∧ lostK d (kindAt d i) ≤ 3000 := by
  rcases kindAt_bd d i with h | h
  · rw [h]; unfold lostK; simp
  · exact (hi_bd ok h).2.2
theorem turns_lost {d : Dk} (ok : d.Ok) {N : Nat} (hN : (places d).length = N + 1) : turnsV d 0 N = d.lostAt 2 := by
  obtain ⟨s1, s2⟩ := sw_nK ok hN
  unfold Dk.lostAt
  rw [if_neg (by omega), if_neg (by omega), s1, s2]
  unfold turnsV
  have e : sm (fun i => lostK d (kindAt d i)) 0 N = sm (fun i => (if kindAt d i = 1 then 1 else 0) * lost1 d.ck.d.tu d.ck.s0 d.ck.h0 + (if kindAt d i = 2 then 1 else 0) * lost1 d.ck.d.tu d.ck.s1 d.ck.h1) 0 N := sm_congr (fun i _ _ => by
    rcases kindAt_bd d i with h | h | h <;> rw [h]
    · simp [lostK]
    · simp [lostK, skewK, hiK, lost1]; rfl
    · simp [lostK, skewK, hiK, lost1]; rfl)
  rw [e, sm_plus, sm_mul, sm_mul]
  rfl

set_option maxRecDepth 100000 in
set_option maxHeartbeats 8000000 in
theorem c63 (d : Dk) (f n : Nat) (w : World) (hz : Zs w d) (ok : d.Ok) (hn : 1 ≤ n) (hfn : f + n ≤ (places d).length) :
    Calls Try.prog 63 #[d.v, .int .i64 f, .int .i64 n] w fun e w' => e = .returned (.int .i64 (turnsV d f (n - 1))) ∧ Below w.heap.size w w' := by
  have hL := ok.lenPl
  have hB := ok.cntB
  unfold lenPlaces at hL
  have hlen : (places d).length ≤ 5120 := by omega
  have okh := hid ok
  have tu1 := ok.tu1
  have tu2 := ok.tu2
  have hnz : (d.tu = 0) = False := by simp; omega
  obtain ⟨nq, hq⟩ : ∃ q, q = n - 1 := ⟨_, rfl⟩
  have hnq5 : nq ≤ 5120 := by omega
  have hqh := hid hq
  rw [← hq]
  clear ok hL hB hq
  go_enter Try.func63, Try.ntmps63
  go_wp2_with (go_at_call 37; refine (c37 d f n _ (by exact hz.below (by (repeat' (first | (with_reducible exact Below.refl _ _) | (with_reducible assumption) | (with_reducible refine Below.alloc ?_ ?_ _) | (with_reducible refine Below.drew ?_) | (with_reducible refine below_drewN ?_ _) | (with_reducible refine Below.setCell ?_ ?_ _) | (with_reducible refine Below.trans ?_ (Below.mono (by with_reducible assumption) ?_)) | go_size))) (Nat.le_refl _)) okh.out hn hfn).mono ?_; intro e w1 hr; rw [← hqh.out] at hr; obtain ⟨ka, kb, kc, rfl, hki, hB1⟩ := hr.ints; clear hr; have hy1 : w.heap.size < w1.heap.size := (by have := hB1.size; (try simp only [World.size_alloc] at this); omega))
  have hv : w1.heap[w.heap.size]? = some (.cells #[.int .i64 d.hd, .int .i64 d.tu, .slice d.za d.zs.length d.zc, .int .i64 d.hs, .int .i64 d.cs, .int .i64 d.hl, .int .i64 d.hh, .int .i64 d.cl, .int .i64 d.ch] 26 (0, 0)) := by
    rw [hB1.block _ (by simp)]; exact heap_new w _
  have hbw : Below w.heap.size w w1 := by (repeat' (first | (with_reducible exact Below.refl _ _) | (with_reducible assumption) | (with_reducible refine Below.alloc ?_ ?_ _) | (with_reducible refine Below.drew ?_) | (with_reducible refine below_drewN ?_ _) | (with_reducible refine Below.setCell ?_ ?_ _) | (with_reducible refine Below.trans ?_ (Below.mono (by with_reducible assumption) ?_)) | go_size))
  have hzw : Zs w1 d := hz.below hbw (Nat.le_refl _)
  have hkl := kinds_len d f nq
  clear hB1
  go_loopw [8, 9] (fun vs vi wr => ∃ (k : Nat) (S : Int), k ≤ nq ∧ vi = .int .i64 k ∧ vs = .int .i64 S ∧ Hid (S = turnsV d f k) ∧ 0 ≤ S ∧ S ≤ 3000 * k ∧ Below w1.heap.size w1 wr) (fun _ vi _ => nq - (intOf vi).toNat)
  case atStart => exact ⟨0, 0, by omega, rfl, rfl, hid rfl, by omega, by omega, Below.refl _ _⟩
  case round =>
    obtain ⟨k, S, hk, rfl, rfl, hS, S0, S1, hBr⟩ := hrel
    have hsz := hBr.size
    by_cases hlt : k < nq
    · have hkr := hki.below hBr (Nat.le_refl _)
      have hik : k < (kinds d f nq).length := by rw [hkl]; exact hlt
      have i0 := hkr.ix (cap := kc) (len := nq) hik hkl.symm
      have hkp := hkr.c k hik
      have hkb1 := hkr.lt k hik
      obtain ⟨KK, hKK⟩ : ∃ K, K = kindAt d (f + k) := ⟨_, rfl⟩
      rw [show (kinds d f nq)[k] = KK by rw [hKK]; simp [kinds], Nat.zero_add] at hkp
      rw [Nat.zero_add] at i0
      have hKb0 : KK = 0 ∨ KK = 1 ∨ KK = 2 := by rw [hKK]; exact kindAt_bd _ _
      have hKb := hid hKb0
      have hkn : Hid (k + 1 ≤ nq) := hid hlt
      have hw3 : IntKind.i64.wrap ((k : Int) + 1) = ((k + 1 : Nat) : Int) := by rw [i64w _ (by omega) (by omega)]; omega
      have hvr := (hBr.block _ hy1).trans hv
      have nr := (Array.getElem?_eq_some_iff.1 hvr).1
      have hzr := hzw.below hBr (Nat.le_refl _)
      have hse : turnsV d f (k + 1) = turnsV d f k + lostK d KK := by rw [hKK]; rfl
      by_cases hKp : 0 < KK
      · obtain ⟨g1, g2, g3, g4⟩ := hi_bd okh.out (show KK = 1 ∨ KK = 2 by omega)
        obtain ⟨x1, x2⟩ := hiK_bd okh.out KK
        obtain ⟨L, hL⟩ : ∃ L, L = lostK d KK := ⟨_, rfl⟩
        have hLe : (gapV d.tu (skewK d KK) (hiK d KK) - skewK d KK).tdiv d.tu = L := by rw [hL]; unfold lostK; rw [if_pos hKp]
        rw [← hL] at g3 g4 hse
        have hst : Hid (S + L = turnsV d f (k + 1)) := hid (by rw [hse, hS.out])
        obtain ⟨GS, hGS⟩ : ∃ x, x = gapV d.tu (skewK d KK) (hiK d KK) - skewK d KK := ⟨_, rfl⟩
        rw [← hGS] at hLe g1 g2
        have ww1 : IntKind.i64.wrap (gapV d.tu (skewK d KK) (hiK d KK) - skewK d KK) = GS := by rw [← hGS]; exact i64w _ (by omega) (by omega)
        have ww2 : IntKind.i64.wrap (GS.tdiv d.tu) = L := by rw [hLe]; exact i64w _ (by omega) (by omega)
        have ww3 : IntKind.i64.wrap (S + L) = S + L := i64w _ (by omega) (by omega)
        clear hkr hKK hik hse hS hL hLe hGS hKb0
        go_wp2
        refine wpIn_wide.1 (wild_region (F := Fence.wide) (n := 0) (C := fun w' => Below wr.heap.size wr w') (R := Turns1 wr.heap.size 24 2 (.cells #[.int .i64 (loK d KK), .int .i64 (hiK d KK)] 24)) (G := fun i us w' => match i with
          | 0 => us 0 = d.v
          | 1 => us 1 = .slice ka nq kc
          | 2 => us 2 = .int .i64 k
          | 3 => us 3 = .pointer (some ⟨kb, k, none⟩)
          | 4 => us 4 = .int .i64 KK
          | 5 => us 5 = .tuple #[.agg #[.int .i64 (loK d KK), .int .i64 (hiK d KK)], .int .i64 (skewK d KK)]
          | 6 => us 6 = .tuple #[.agg #[.int .i64 (loK d KK), .int .i64 (hiK d KK)], .int .i64 (skewK d KK)]
          | 7 => us 7 = .agg #[.int .i64 (loK d KK), .int .i64 (hiK d KK)]
          | 8 => us 8 = .int .i64 (skewK d KK)
          | 9 => ∃ b : Nat, us 9 = .pointer (some ⟨b, 0, none⟩) ∧ wr.heap.size ≤ b ∧ ∃ cs : Array Value, cs.size = 2 ∧ w'.heap[b]? = some (.cells cs 24 (0, 0))
          | 10 => ∃ b : Nat, us 9 = .pointer (some ⟨b, 0, none⟩) ∧ wr.heap.size ≤ b ∧ w'.heap[b]? = some (.cells #[.int .i64 (loK d KK), .int .i64 (hiK d KK)] 24 (0, 0))
          | 11 => us 11 = .int .i64 (skewK d KK)
          | _ => True) (by kernel_rfl) (by kernel_rfl) (by kernel_rfl) ?loc1 (Below.refl _ _).drew ?stab1 ?steps1 ?fin1)
        case loc1 =>
          intro j us i v w' hij hdp hG
          rcases j with _ | _ | _ | _ | _ | _ | _ | _ | _ | _ | _ | _ | j
          all_goals first | trivial | ((try dsimp only at hG ⊢); rw [upd_ne _ _ (Ne.symm hij)]; exact hG) | skip
          by_cases hia : i = 9
          · subst hia; exact absurd hdp (by decide)
          · (try dsimp only at hG ⊢); rw [upd_ne _ _ (Ne.symm hia)]; exact hG
        case stab1 =>
          intro i us A B hAB hG
          rcases i with _ | _ | _ | _ | _ | _ | _ | _ | _ | _ | _ | _ | i <;> try exact hG
          · obtain ⟨b, h1, h2, cs, h3, h4⟩ := hG
            rcases hAB.2 b (Array.getElem?_eq_some_iff.1 h4).1 with h5 | ⟨_, _, h5⟩
            · exact ⟨b, h1, h2, cs, h3, h5.trans h4⟩
            · exact ⟨b, h1, h2, _, rfl, h5⟩
          · obtain ⟨b, h1, h2, h4⟩ := hG
            rcases hAB.2 b (Array.getElem?_eq_some_iff.1 h4).1 with h5 | ⟨_, _, h5⟩
            · exact ⟨b, h1, h2, h5.trans h4⟩
            · exact ⟨b, h1, h2, h5⟩
        case steps1 =>
          dsimp only [StepsW, StepW]
          refine ⟨?_, ?_, ?_, ?_, ?_, ?_, ?_, ?_, ?_, ?_, ?_, ?_, trivial⟩
          all_goals (intro A us W hA hC hG K hK; have hcw0 := fun j => cell_at (j := j) ((hC.block _ (by omega)).trans hvr); have hzw0 := hzr.below hC (Nat.le_refl _); have hCs := hC.size; simp only [AfterW, Region.binds, true_implies, and_true, forall_const] at hG)
          · have h3 : A.tmps[3]?.getD undef = .pointer (some ⟨w.heap.size, 0, none⟩) := slot_none hA rfl rfl
            clear hA
            go_simp
            exact hK _ W hC (.of_below (Below.refl _ _)) (upd_same _ _ _)
          · have h7 : A.tmps[7]?.getD undef = .slice ka nq kc := slot_none hA rfl rfl
            clear hA
            go_simp
            exact hK _ W hC (.of_below (Below.refl _ _)) (upd_same _ _ _)
          · have h9 : A.tmps[9]?.getD undef = .int .i64 k := slot_none hA rfl rfl
            clear hA
            go_simp
            exact hK _ W hC (.of_below (Below.refl _ _)) (upd_same _ _ _)
          · have h29 := slot_some (t := 29) (v := .slice ka nq kc) hA (by kernel_rfl) rfl (by simp) (by first | exact hG | exact hG.1 | exact hG.2 | exact hG.2.1 | exact hG.2.2 | exact hG.2.2.1 | exact hG.2.2.2 | exact hG.2.2.2.1 | exact hG.2.2.2.2 | exact hG.2.2.2.2.1 | exact hG.2.2.2.2.2 | exact hG.2.2.2.2.2.1 | exact hG.2.2.2.2.2.2.1)
            have h30 := slot_some (t := 30) (v := .int .i64 k) hA (by kernel_rfl) rfl (by simp) (by first | exact hG | exact hG.1 | exact hG.2 | exact hG.2.1 | exact hG.2.2 | exact hG.2.2.1 | exact hG.2.2.2 | exact hG.2.2.2.1 | exact hG.2.2.2.2 | exact hG.2.2.2.2.1 | exact hG.2.2.2.2.2 | exact hG.2.2.2.2.2.1 | exact hG.2.2.2.2.2.2.1)
            clear hA
            go_simp
            exact hK _ W hC (.of_below (Below.refl _ _)) (upd_same _ _ _)
          · have h31 := slot_some (t := 31) (v := .pointer (some ⟨kb, k, none⟩)) hA (by kernel_rfl) rfl (by simp) (by first | exact hG | exact hG.1 | exact hG.2 | exact hG.2.1 | exact hG.2.2 | exact hG.2.2.1 | exact hG.2.2.2 | exact hG.2.2.2.1 | exact hG.2.2.2.2 | exact hG.2.2.2.2.1 | exact hG.2.2.2.2.2 | exact hG.2.2.2.2.2.1 | exact hG.2.2.2.2.2.2.1)
            have hkc := (hC.cell (p := ⟨kb, k, none⟩) hkb1).trans hkp
            clear hA
            go_simp
            exact hK _ W hC (.of_below (Below.refl _ _)) (upd_same _ _ _)
          · have h28 := slot_some (t := 28) (v := d.v) hA (by kernel_rfl) rfl (by simp) (by first | exact hG | exact hG.1 | exact hG.2 | exact hG.2.1 | exact hG.2.2 | exact hG.2.2.1 | exact hG.2.2.2 | exact hG.2.2.2.1 | exact hG.2.2.2.2 | exact hG.2.2.2.2.1 | exact hG.2.2.2.2.2 | exact hG.2.2.2.2.2.1 | exact hG.2.2.2.2.2.2.1)
            have h32 := slot_some (t := 32) (v := .int .i64 KK) hA (by kernel_rfl) rfl (by simp) (by first | exact hG | exact hG.1 | exact hG.2 | exact hG.2.1 | exact hG.2.2 | exact hG.2.2.1 | exact hG.2.2.2 | exact hG.2.2.2.1 | exact hG.2.2.2.2 | exact hG.2.2.2.2.1 | exact hG.2.2.2.2.2 | exact hG.2.2.2.2.2.1 | exact hG.2.2.2.2.2.2.1)
            clear hA
            gi_wp2_with (refine ⟨trivial, rfl, ?_⟩; gi_at_call 38; refine (callsIn_wide.2 (c38g d KK hKb.out _)).mono ?_; rintro e w9 ⟨rfl, hB9⟩)
            exact hK _ w9 (hC.trans (hB9.mono hC.size)) (.of_below hB9) (upd_same _ _ _)
          · have h33 := slot_some (t := 33) (v := .tuple #[.agg #[.int .i64 (loK d KK), .int .i64 (hiK d KK)], .int .i64 (skewK d KK)]) hA (by kernel_rfl) rfl (by simp) (by first | exact hG | exact hG.1 | exact hG.2 | exact hG.2.1 | exact hG.2.2 | exact hG.2.2.1 | exact hG.2.2.2 | exact hG.2.2.2.1 | exact hG.2.2.2.2 | exact hG.2.2.2.2.1 | exact hG.2.2.2.2.2 | exact hG.2.2.2.2.2.1 | exact hG.2.2.2.2.2.2.1)
            clear hA
            go_simp
            exact hK _ W hC (.of_below (Below.refl _ _)) (upd_same _ _ _)
          · have h27 := slot_some (t := 27) (v := .tuple #[.agg #[.int .i64 (loK d KK), .int .i64 (hiK d KK)], .int .i64 (skewK d KK)]) hA (by kernel_rfl) rfl (by simp) (by first | exact hG | exact hG.1 | exact hG.2 | exact hG.2.1 | exact hG.2.2 | exact hG.2.2.1 | exact hG.2.2.2 | exact hG.2.2.2.1 | exact hG.2.2.2.2 | exact hG.2.2.2.2.1 | exact hG.2.2.2.2.2 | exact hG.2.2.2.2.2.1 | exact hG.2.2.2.2.2.2.1)
            clear hA
            go_simp
            exact hK _ W hC (.of_below (Below.refl _ _)) (upd_same _ _ _)
          · have h27 := slot_some (t := 27) (v := .tuple #[.agg #[.int .i64 (loK d KK), .int .i64 (hiK d KK)], .int .i64 (skewK d KK)]) hA (by kernel_rfl) rfl (by simp) (by first | exact hG | exact hG.1 | exact hG.2 | exact hG.2.1 | exact hG.2.2 | exact hG.2.2.1 | exact hG.2.2.2 | exact hG.2.2.2.1 | exact hG.2.2.2.2 | exact hG.2.2.2.2.1 | exact hG.2.2.2.2.2 | exact hG.2.2.2.2.2.1 | exact hG.2.2.2.2.2.2.1)
            clear hA
            go_simp
            exact hK _ W hC (.of_below (Below.refl _ _)) (upd_same _ _ _)
          · clear hA
            gi_wp2
            exact hK (.pointer (some ⟨W.heap.size, 0, none⟩)) _ (hC.alloc hC.size _) (.of_below ((Below.refl _ _).alloc (Nat.le_refl _) _)) ⟨W.heap.size, upd_same _ _ _, hC.size, _, rfl, heap_new W _⟩
          · obtain ⟨b, g7, gb, cs, gs, gh⟩ : ∃ b : Nat, us 9 = .pointer (some ⟨b, 0, none⟩) ∧ wr.heap.size ≤ b ∧ ∃ cs : Array Value, cs.size = 2 ∧ W.heap[b]? = some (.cells cs 24 (0, 0)) := (by first | exact hG | exact hG.1 | exact hG.2 | exact hG.2.1 | exact hG.2.2 | exact hG.2.2.1 | exact hG.2.2.2 | exact hG.2.2.2.1 | exact hG.2.2.2.2 | exact hG.2.2.2.2.1 | exact hG.2.2.2.2.2 | exact hG.2.2.2.2.2.1 | exact hG.2.2.2.2.2.2.1)
            have ha := slot_some (t := 10) hA (by kernel_rfl) rfl (by simp) g7
            have h34 := slot_some (t := 34) (v := .agg #[.int .i64 (loK d KK), .int .i64 (hiK d KK)]) hA (by kernel_rfl) rfl (by simp) (by first | exact hG | exact hG.1 | exact hG.2 | exact hG.2.1 | exact hG.2.2 | exact hG.2.2.1 | exact hG.2.2.2 | exact hG.2.2.2.1 | exact hG.2.2.2.2 | exact hG.2.2.2.2.1 | exact hG.2.2.2.2.2 | exact hG.2.2.2.2.2.1 | exact hG.2.2.2.2.2.2.1)
            clear hA hcw0
            obtain ⟨l⟩ := cs
            match l, gs with
            | [v0, v1], _ =>
              have hcb := fun j => cell_at (j := j) gh
              have hfb : ∀ j, W.frozen? ⟨b, j, none⟩ = false := fun j => frozen_at (j := j) gh
              have hbs : b < W.heap.size := (Array.getElem?_eq_some_iff.1 gh).1
              have hp2 := put2 (v0 := .int .i64 (loK d KK)) (v1 := .int .i64 (hiK d KK)) gh
              gi_wp2
              refine hK undef _ ((hC.setCell (by dsimp only; omega) _).setCell (by dsimp only; omega) _) ⟨by simp, fun k hk => ?_⟩ ⟨b, by rw [upd_ne _ _ (by omega)]; exact g7, gb, hp2⟩
              by_cases hkb : k = b
              · subst hkb; exact .inr ⟨gb, ⟨_, rfl, gh⟩, hp2⟩
              · left; rw [Below.heap_setCell _ _ _ _ (by dsimp only; omega), Below.heap_setCell _ _ _ _ (by dsimp only; omega)]
          · have h35 := slot_some (t := 35) (v := .int .i64 (skewK d KK)) hA (by kernel_rfl) rfl (by simp) (by first | exact hG | exact hG.1 | exact hG.2 | exact hG.2.1 | exact hG.2.2 | exact hG.2.2.1 | exact hG.2.2.2 | exact hG.2.2.2.1 | exact hG.2.2.2.2 | exact hG.2.2.2.2.1 | exact hG.2.2.2.2.2 | exact hG.2.2.2.2.2.1 | exact hG.2.2.2.2.2.2.1)
            clear hA
            go_simp
            exact hK _ W hC (.of_below (Below.refl _ _)) (upd_same _ _ _)
        case fin1 =>
          intro us W hC hG
          have hCs := hC.size
          obtain ⟨q9, ga, gb, gh⟩ : ∃ b : Nat, us 9 = .pointer (some ⟨b, 0, none⟩) ∧ wr.heap.size ≤ b ∧ W.heap[b]? = some (.cells #[.int .i64 (loK d KK), .int .i64 (hiK d KK)] 24 (0, 0)) := hG 10 (by decide)
          have g11 : us 11 = .int .i64 (skewK d KK) := hG 11 (by decide)
          simp only [frW, Nat.reduceAdd, Nat.zero_add, ga, g11, Act.put, List.setIfInBounds_toArray, List.set_cons_succ, List.set_cons_zero]
          clear hG ga g11
          have hvW := (hC.block _ nr).trans hvr
          have hkW : W.cell? ⟨kb, k, none⟩ = some (.int .i64 KK) := (hC.cell (p := ⟨kb, k, none⟩) hkb1).trans hkp
          have k1 := cells_regrown hvW
          have k2 : ∀ dd os, (grow (redrawn W dd) os).cell? ⟨kb, k, none⟩ = some (.int .i64 KK) := fun dd os => cell_regrown hkW dd os
          have k3 := cells_regrown gh
          clear hkp hvr hkW hvW
          go_wp2
          refine wp_region_quiet_below (by kernel_rfl) (by kernel_rfl) ?_; (repeat (refine wpQuiet_step (fun K hK => ?_); go_simp; first | (refine hK _ ?_; clear hK K) | (apply Exists.intro; refine ⟨fun _ => ?_, hK _ ?_⟩; (first | exact Calls.regrown_of (c40g d _ _ _ okh.out (by omega) (by omega))); clear hK K))); refine wpQuiet_nil ?_; intro _ hw; obtain ⟨q, hwq⟩ := hw; subst hwq
          have hB5 := below_regrown W q.d q.os
          generalize grow (redrawn W q.d) q.os = w5 at hB5 ⊢
          clear k1 k2 k3
          go_wp2
          go_roundw
          case rel => exact ⟨k + 1, S + L, hkn.out, by go_num, rfl, hst, by omega, by omega, (hBr.trans (hC.mono hsz)).trans (hB5.mono (Nat.le_trans hsz hCs))⟩
          case measure => simp [intOf]; omega
      · have hst : Hid (S = turnsV d f (k + 1)) := hid (by rw [hse, hS.out]; unfold lostK; rw [if_neg hKp]; omega)
        clear hkr hKK hik hse hS hKb0
        go_wp2
        go_roundw
        case rel => exact ⟨k + 1, S, hkn.out, by go_num, rfl, hst, by omega, by omega, hBr⟩
        case measure => simp [intOf]; omega
    · obtain rfl : k = nq := by omega
      go_wp2_with fail
      go_returns
      exact ⟨by rw [hS.out]; rfl, hbw.trans (hBr.mono hbw.size)⟩

set_option maxRecDepth 100000 in
set_option maxHeartbeats 4000000 in
theorem c31_ok (d : Dk) (w : World) (hz : Zs w d) (ok : d.Ok) :
    Calls Try.prog 31 #[d.v] w fun e w' => e = .returned (.tuple #[.int .i64 (d.lostAt 2), .int .i64 0]) ∧ Below w.heap.size w w' := by
  have he := Dk.err_ok ok
  have hm : d.zs.length ≤ 1000000 := by have := ok.zl4; omega
  have hp := places_pos ok
  have hL := ok.lenPl
  have hB := ok.cntB
  unfold lenPlaces at hL
  have okh := hid ok
  obtain ⟨N, hN⟩ : ∃ N, (places d).length = N + 1 := ⟨(places d).length - 1, by omega⟩
  obtain ⟨nn, hnn⟩ : ∃ nn : Nat, nn = N + 1 := ⟨_, rfl⟩
  obtain ⟨tv, htv⟩ : ∃ x, x = d.lostAt 2 := ⟨_, rfl⟩
  have h42 : Hid (∀ W, Zs W d → Calls Try.prog 42 #[d.v] W fun e w' => e = .returned (.int .i64 nn) ∧ Below W.heap.size W w') := hid (fun W hzW => by rw [show ((nn : Nat) : Int) = d.count by omega]; exact c42 d W hzW ok)
  have h63 : Hid (∀ W, Zs W d → Calls Try.prog 63 #[d.v, .int .i64 0, .int .i64 nn] W fun e w' => e = .returned (.int .i64 tv) ∧ Below W.heap.size W w') := hid (fun W hzW => by
    have := c63 d 0 nn W hzW ok (by omega) (by omega)
    rw [show nn - 1 = N by omega, turns_lost ok hN] at this
    rw [htv]
    exact this)
  have htvh := hid htv
  clear ok hp hL hB hN hnn htv
  go_enter Try.func31, Try.ntmps31
  go_wp2_with (go_at_call 17; refine (c17 d _ (by exact hz.below (by (repeat' (first | (with_reducible exact Below.refl _ _) | (with_reducible assumption) | (with_reducible refine Below.alloc ?_ ?_ _) | (with_reducible refine Below.drew ?_) | (with_reducible refine below_drewN ?_ _) | (with_reducible refine Below.setCell ?_ ?_ _) | (with_reducible refine Below.trans ?_ (Below.mono (by with_reducible assumption) ?_)) | go_size))) (Nat.le_refl _)) hm).mono ?_; rw [he]; rintro e w1 ⟨rfl, hB1⟩; obtain ⟨hc1, hf1⟩ := bcell (hB1.mono (show w.heap.size + 1 ≤ _ by first | omega | ((try simp only [World.size_alloc, World.size_drew, World.size_setCell]); omega))); have hz1 : w.heap.size + 1 ≤ w1.heap.size := (by have := hB1.size; (try simp only [World.size_alloc, World.size_drew, World.size_setCell] at this); omega); have hy1 : w.heap.size < w1.heap.size := (by omega))
  have hv : w1.heap[w.heap.size]? = some (.cells #[.int .i64 d.hd, .int .i64 d.tu, .slice d.za d.zs.length d.zc, .int .i64 d.hs, .int .i64 d.cs, .int .i64 d.hl, .int .i64 d.hh, .int .i64 d.cl, .int .i64 d.ch] 26 (0, 0)) := by
    rw [hB1.block _ (by simp)]; exact heap_new w _
  have hbw : Below w.heap.size w w1 := by (repeat' (first | (with_reducible exact Below.refl _ _) | (with_reducible assumption) | (with_reducible refine Below.alloc ?_ ?_ _) | (with_reducible refine Below.drew ?_) | (with_reducible refine below_drewN ?_ _) | (with_reducible refine Below.setCell ?_ ?_ _) | (with_reducible refine Below.trans ?_ (Below.mono (by with_reducible assumption) ?_)) | go_size))
  have hzw : Zs w1 d := hz.below hbw (Nat.le_refl _)
  clear hc1 hf1 hB1
  refine wpIn_wide.1 (wild_region (F := Fence.wide) (n := 0) (C := fun w' => Below w1.heap.size w1 w') (R := fun A B => Below A.heap.size A B) (G := fun i us w' => match i with
    | 0 => us 0 = d.v
    | 1 => us 1 = d.v
    | 2 => us 2 = .int .i64 nn
    | 3 => us 3 = .int .i64 tv
    | 4 => us 4 = .int .i64 tv
    | 5 => us 5 = .int .i64 0
    | _ => True) (by kernel_rfl) (by kernel_rfl) (by kernel_rfl) ?loc3 (Below.refl _ _).drew ?stab3 ?steps3 ?fin3)
  case loc3 =>
    intro j us i v w' hij hdp hG
    rcases j with _ | _ | _ | _ | _ | _ | j
    all_goals first | trivial | ((try dsimp only at hG ⊢); rw [upd_ne _ _ (Ne.symm hij)]; exact hG) | skip
  case stab3 =>
    intro i us A B hAB hG
    rcases i with _ | _ | _ | _ | _ | _ | i <;> try exact hG
  case steps3 =>
    dsimp only [StepsW, StepW]
    refine ⟨?_, ?_, ?_, ?_, ?_, ?_, trivial⟩
    all_goals (intro A us W hA hC hG K hK; have hcw0 := fun j => cell_at (j := j) ((hC.block _ (by omega)).trans hv); have hzw0 := hzw.below hC (Nat.le_refl _); have hCs := hC.size; simp only [AfterW, Region.binds, true_implies, and_true, forall_const] at hG)
    · have h1 : A.tmps[1]?.getD undef = .pointer (some ⟨w.heap.size, 0, none⟩) := slot_none hA rfl rfl
      clear hA
      go_simp
      exact hK _ W hC (Below.refl _ _) (upd_same _ _ _)
    · have h1 : A.tmps[1]?.getD undef = .pointer (some ⟨w.heap.size, 0, none⟩) := slot_none hA rfl rfl
      clear hA
      go_simp
      exact hK _ W hC (Below.refl _ _) (upd_same _ _ _)
    · have h8 := slot_some (t := 8) (v := d.v) hA (by kernel_rfl) rfl (by simp) (by first | exact hG | exact hG.1 | exact hG.2 | exact hG.2.1 | exact hG.2.2 | exact hG.2.2.1 | exact hG.2.2.2 | exact hG.2.2.2.1 | exact hG.2.2.2.2 | exact hG.2.2.2.2.1 | exact hG.2.2.2.2.2 | exact hG.2.2.2.2.2.1 | exact hG.2.2.2.2.2.2.1)
      clear hA
      gi_wp2_with (refine ⟨trivial, rfl, ?_⟩; gi_at_call 42; refine (callsIn_wide.2 (h42.out _ hzw0)).mono ?_; rintro e w9 ⟨rfl, hB9⟩)
      exact hK _ w9 (hC.trans (hB9.mono hC.size)) hB9 (upd_same _ _ _)
    · have h7 := slot_some (t := 7) (v := d.v) hA (by kernel_rfl) rfl (by simp) (by first | exact hG | exact hG.1 | exact hG.2 | exact hG.2.1 | exact hG.2.2 | exact hG.2.2.1 | exact hG.2.2.2 | exact hG.2.2.2.1 | exact hG.2.2.2.2 | exact hG.2.2.2.2.1 | exact hG.2.2.2.2.2 | exact hG.2.2.2.2.2.1 | exact hG.2.2.2.2.2.2.1)
      have h9 := slot_some (t := 9) (v := .int .i64 nn) hA (by kernel_rfl) rfl (by simp) (by first | exact hG | exact hG.1 | exact hG.2 | exact hG.2.1 | exact hG.2.2 | exact hG.2.2.1 | exact hG.2.2.2 | exact hG.2.2.2.1 | exact hG.2.2.2.2 | exact hG.2.2.2.2.1 | exact hG.2.2.2.2.2 | exact hG.2.2.2.2.2.1 | exact hG.2.2.2.2.2.2.1)
      clear hA
      gi_wp2_with (refine ⟨trivial, rfl, ?_⟩; gi_at_call 63; refine (callsIn_wide.2 (h63.out _ hzw0)).mono ?_; rintro e w9 ⟨rfl, hB9⟩)
      exact hK _ w9 (hC.trans (hB9.mono hC.size)) hB9 (upd_same _ _ _)
    · have h10 := slot_some (t := 10) (v := .int .i64 tv) hA (by kernel_rfl) rfl (by simp) (by first | exact hG | exact hG.1 | exact hG.2 | exact hG.2.1 | exact hG.2.2 | exact hG.2.2.1 | exact hG.2.2.2 | exact hG.2.2.2.1 | exact hG.2.2.2.2 | exact hG.2.2.2.2.1 | exact hG.2.2.2.2.2 | exact hG.2.2.2.2.2.1 | exact hG.2.2.2.2.2.2.1)
      clear hA
      go_simp
      exact hK _ W hC (Below.refl _ _) (upd_same _ _ _)
    · clear hA
      go_simp
      exact hK _ W hC (Below.refl _ _) (upd_same _ _ _)
  case fin3 =>
    intro us W hC hG
    have hCs := hC.size
    have g4 : us 4 = .int .i64 tv := hG 4 (by decide)
    have g5 : us 5 = .int .i64 0 := hG 5 (by decide)
    simp only [frW, Nat.reduceAdd, Nat.zero_add, g4, g5, Act.put, List.setIfInBounds_toArray, List.set_cons_succ, List.set_cons_zero]
    clear hG g4 g5
    have hbW : Below w.heap.size w W := hbw.trans (hC.mono hbw.size)
    go_wp2
    go_returns
    exact ⟨by rw [htvh.out]; rfl, hbW⟩

theorem c31_err (d : Dk) (w : World) (hz : Zs w d) (hm : d.zs.length ≤ 1000000) (ok : ¬ d.Ok) :
    Calls Try.prog 31 #[d.v] w fun e w' => e = .returned (.tuple #[.int .i64 0, .int .i64 10]) ∧ Below w.heap.size w w' := by
  have he := Dk.err_not ok
  have ho := hid ok
  clear ok
  go_enter Try.func31, Try.ntmps31
  go_wp2_with (go_at_call 17; refine (c17 d _ (by exact hz.below (by (repeat' (first | (with_reducible exact Below.refl _ _) | (with_reducible assumption) | (with_reducible refine Below.alloc ?_ ?_ _) | (with_reducible refine Below.drew ?_) | (with_reducible refine below_drewN ?_ _) | (with_reducible refine Below.setCell ?_ ?_ _) | (with_reducible refine Below.trans ?_ (Below.mono (by with_reducible assumption) ?_)) | go_size))) (Nat.le_refl _)) hm).mono ?_; rw [he]; rintro e w1 ⟨rfl, hB1⟩; obtain ⟨hc1, hf1⟩ := bcell (hB1.mono (show w.heap.size + 1 ≤ _ by first | omega | ((try simp only [World.size_alloc, World.size_drew, World.size_setCell]); omega))); have hz1 : w.heap.size < w1.heap.size := by (have := hB1.size; (try simp only [World.size_alloc, World.size_drew, World.size_setCell] at this); omega))
  go_returns
  exact ⟨rfl, by (repeat' (first | (with_reducible exact Below.refl _ _) | (with_reducible assumption) | (with_reducible refine Below.alloc ?_ ?_ _) | (with_reducible refine Below.drew ?_) | (with_reducible refine below_drewN ?_ _) | (with_reducible refine Below.setCell ?_ ?_ _) | (with_reducible refine Below.trans ?_ (Below.mono (by with_reducible assumption) ?_)) | go_size))⟩
end Go.Proofs.Ythkbiplmfbcabaa
