/- Stage 1: the span of a run, in the reference. -/
import Derived.Test.YthkbiplmfbcabaaWy
import Derived.Test.YthkbiplmfbcabaaJ3
set_option linter.unusedSimpArgs false
set_option linter.unusedVariables false
namespace Go.Proofs.Ythkbiplmfbcabaa
open Go.RowKit Go.Sort

def lows (d : Dk) (f k : Nat) : List Int := (List.range k).map fun i => loK d (kindAt d (f + i))
def highs (d : Dk) (f k : Nat) : List Int := (List.range k).map fun i => hiK d (kindAt d (f + i))
theorem lows_succ (d : Dk) (f k : Nat) : lows d f (k + 1) = lows d f k ++ [loK d (kindAt d (f + k))] := by simp [lows, List.range_succ]
theorem highs_succ (d : Dk) (f k : Nat) : highs d f (k + 1) = highs d f k ++ [hiK d (kindAt d (f + k))] := by simp [highs, List.range_succ]
theorem c38g (d : Dk) (k : Int) (hk : k = 0 ∨ k = 1 ∨ k = 2) (w : World) : Calls Try.prog 38 #[d.v, .int .i64 k] w fun e w' => e = .returned (.tuple #[.agg #[.int .i64 (loK d k), .int .i64 (hiK d k)], .int .i64 (skewK d k)]) ∧ Below w.heap.size w w' := by
  have := c38 d k w
  rcases hk with rfl | rfl | rfl <;> exact this
theorem below_keep {S : Nat → Prop} {a b : World} {B : Nat} (h : Keep S a b) (hS : ∀ k, S k → B ≤ k) (hB : B ≤ a.heap.size) : Below B a b :=
  ⟨h.os, h.tape, h.output, h.size, fun k hk => by
    rcases Nat.lt_or_ge k a.heap.size with h1 | h1
    · exact h.block k h1 (fun hs => by have := hS k hs; omega)
    · omega⟩
theorem lows_len (d : Dk) (f k : Nat) : (lows d f k).length = k := by simp [lows]
theorem highs_len (d : Dk) (f k : Nat) : (highs d f k).length = k := by simp [highs]
theorem loK_bd {d : Dk} (ok : d.Ok) (k : Int) : 0 ≤ loK d k ∧ loK d k ≤ 2000 := by
  have := ok.hl0; have := ok.hl1; have := ok.hh2; have := ok.cl0; have := ok.cl1; have := ok.ch2
  unfold loK
  split
  · omega
  · split <;> omega
theorem hiK_bd {d : Dk} (ok : d.Ok) (k : Int) : 0 ≤ hiK d k ∧ hiK d k ≤ 2000 := by
  have := ok.hl0; have := ok.hl1; have := ok.hh2; have := ok.cl0; have := ok.cl1; have := ok.ch2
  unfold hiK
  split
  · omega
  · split <;> omega
theorem c39s (d : Dk) (f n : Nat) (xs : List Int) (za : Option Addr) (zb zo zc len : Nat) (hl : len = xs.length) (w : World) (hz : Zs w d) (ok : d.Ok) (hn : 1 ≤ n) (hfn : f + n ≤ (places d).length) (hx : Ints w za zb zo xs) (hxl : xs.length = n - 1) (hxb : ∀ i, (hi : i < xs.length) → 0 < kindAt d (f + i) → 0 ≤ xs[i] ∧ xs[i] ≤ 2000) :
    Calls Try.prog 39 #[d.v, .int .i64 f, .int .i64 n, .slice za len zc] w fun e w' => e = .returned (.int .i64 (ticksV d f n xs)) ∧ Below w.heap.size w w' := by
  subst hl
  exact c39 d f n xs za zb zo zc w hz ok hn hfn hx hxl hxb
def Dk.tkLo (d : Dk) (f n : Nat) : Int := ticksV d f n (lows d f (n - 1))
def Dk.tkHi (d : Dk) (f n : Nat) : Int := ticksV d f n (highs d f (n - 1))

set_option maxRecDepth 100000 in
set_option maxHeartbeats 8000000 in
theorem c60 (d : Dk) (f n : Nat) (w : World) (hz : Zs w d) (ok : d.Ok) (hn : 1 ≤ n) (hfn : f + n ≤ (places d).length) :
    Calls Try.prog 60 #[d.v, .int .i64 f, .int .i64 n] w fun e w' => e = .returned (.agg #[.int .i64 (d.tkLo f n), .int .i64 (d.tkHi f n)]) ∧ Below w.heap.size w w' := by
  have hL := ok.lenPl
  have hB := ok.cntB
  unfold lenPlaces at hL
  have hlen : (places d).length ≤ 5120 := by omega
  have okh := hid ok
  obtain ⟨nq, hq⟩ : ∃ q, q = n - 1 := ⟨_, rfl⟩
  have hnq5 : nq ≤ 5120 := by omega
  have hqh := hid hq
  obtain ⟨tl, htl⟩ : ∃ x, x = d.tkLo f n := ⟨_, rfl⟩
  obtain ⟨th, hth⟩ : ∃ x, x = d.tkHi f n := ⟨_, rfl⟩
  have xlo : Hid (∀ za zb zc W, Zs W d → Ints W za zb 0 (lows d f nq) → Calls Try.prog 39 #[d.v, .int .i64 f, .int .i64 n, .slice za nq zc] W fun e w' => e = .returned (.int .i64 tl) ∧ Below W.heap.size W w') := hid (fun za zb zc W hzW hx => by
    rw [htl]; unfold Dk.tkLo; rw [← hq]
    exact c39s d f n (lows d f nq) za zb 0 zc nq (lows_len _ _ _).symm W hzW ok hn hfn hx (by rw [lows_len]; exact hq) (fun i hi _ => by simp only [lows, List.getElem_map]; exact loK_bd ok _))
  have xhi : Hid (∀ za zb zc W, Zs W d → Ints W za zb 0 (highs d f nq) → Calls Try.prog 39 #[d.v, .int .i64 f, .int .i64 n, .slice za nq zc] W fun e w' => e = .returned (.int .i64 th) ∧ Below W.heap.size W w') := hid (fun za zb zc W hzW hx => by
    rw [hth]; unfold Dk.tkHi; rw [← hq]
    exact c39s d f n (highs d f nq) za zb 0 zc nq (highs_len _ _ _).symm W hzW ok hn hfn hx (by rw [highs_len]; exact hq) (fun i hi _ => by simp only [highs, List.getElem_map]; exact hiK_bd ok _))
  have hresh := hid (And.intro htl hth)
  clear ok hL hB hq htl hth
  go_enter Try.func60, Try.ntmps60
  go_wp2_with (go_at_call 37; refine (c37 d f n _ (by exact hz.below (by (repeat' (first | (with_reducible exact Below.refl _ _) | (with_reducible assumption) | (with_reducible refine Below.alloc ?_ ?_ _) | (with_reducible refine Below.drew ?_) | (with_reducible refine below_drewN ?_ _) | (with_reducible refine Below.setCell ?_ ?_ _) | (with_reducible refine Below.trans ?_ (Below.mono (by with_reducible assumption) ?_)) | go_size))) (Nat.le_refl _)) okh.out hn hfn).mono ?_; intro e w1 hr; rw [← hqh.out] at hr; obtain ⟨ka, kb, kc, rfl, hki, hB1⟩ := hr.ints; clear hr; have hy1 : w.heap.size < w1.heap.size := (by have := hB1.size; (try simp only [World.size_alloc] at this); omega); have hx1 : w.heap.size + 1 < w1.heap.size := (by have := hB1.size; (try simp only [World.size_alloc] at this); omega))
  have hv : w1.heap[w.heap.size]? = some (.cells #[.int .i64 d.hd, .int .i64 d.tu, .slice d.za d.zs.length d.zc, .int .i64 d.hs, .int .i64 d.cs, .int .i64 d.hl, .int .i64 d.hh, .int .i64 d.cl, .int .i64 d.ch] 26 (0, 0)) := by
    rw [hB1.block _ (by simp only [World.size_alloc]; omega), Below.heap_alloc _ _ _ (by simp)]; exact heap_new w _
  have hv6 : w1.heap[w.heap.size + 1]? = some (.cells #[.int .i64 0, .int .i64 0] 24 (0, 0)) := by
    rw [hB1.block _ (by simp only [World.size_alloc]; omega)]; have := heap_new (w.alloc (.cells #[.int .i64 d.hd, .int .i64 d.tu, .slice d.za d.zs.length d.zc, .int .i64 d.hs, .int .i64 d.cs, .int .i64 d.hl, .int .i64 d.hh, .int .i64 d.cl, .int .i64 d.ch] 26)) (.cells #[.int .i64 0, .int .i64 0] 24); rwa [World.size_alloc] at this
  have hbw : Below w.heap.size w w1 := by (repeat' (first | (with_reducible exact Below.refl _ _) | (with_reducible assumption) | (with_reducible refine Below.alloc ?_ ?_ _) | (with_reducible refine Below.drew ?_) | (with_reducible refine below_drewN ?_ _) | (with_reducible refine Below.setCell ?_ ?_ _) | (with_reducible refine Below.trans ?_ (Below.mono (by with_reducible assumption) ?_)) | go_size))
  have hzw : Zs w1 d := hz.below hbw (Nat.le_refl _)
  have hkl := kinds_len d f nq
  clear hB1
  go_loopw [8, 9, 10] (fun va vb vi wr => ∃ (k : Nat) (oo pp : Value), k ≤ nq ∧ vi = .int .i64 k ∧ oo = va ∧ pp = vb ∧ TwoRows wr w1.heap.size oo pp k (lows d f k) (highs d f k) ∧ Below w1.heap.size w1 wr) (fun _ _ vi _ => nq - (intOf vi).toNat)
  case atStart => exact ⟨0, _, _, by omega, rfl, rfl, rfl, ⟨World.ownsRow_nil _ _ _ _, World.ownsRow_nil _ _ _ _, fun b hb => by cases hb⟩, Below.refl _ _⟩
  case round =>
    obtain ⟨k, oo, pp, hk, rfl, rfl, rfl, hTw, hBr⟩ := hrel
    have hsz := hBr.size
    by_cases hlt : k < nq
    · have hkr := hki.below hBr (Nat.le_refl _)
      have hik : k < (kinds d f nq).length := by rw [hkl]; exact hlt
      have i0 := hkr.ix (cap := kc) (len := nq) hik hkl.symm
      have hkp := hkr.c k hik
      have hkb1 := hkr.lt k hik
      obtain ⟨KK, hKK⟩ : ∃ K, K = kindAt d (f + k) := ⟨_, rfl⟩
      rw [show (kinds d f nq)[k] = KK by rw [hKK]; simp [kinds], Nat.zero_add] at hkp
      rw [Nat.zero_add] at i0
      have hKb : Hid (KK = 0 ∨ KK = 1 ∨ KK = 2) := hid (by rw [hKK]; exact kindAt_bd _ _)
      have hKe : Hid (kindAt d (f + k) = KK) := hid hKK.symm
      have hkn : Hid (k + 1 ≤ nq) := hid hlt
      have hw3 : IntKind.i64.wrap ((k : Int) + 1) = ((k + 1 : Nat) : Int) := by rw [i64w _ (by omega) (by omega)]; omega
      have hvr := (hBr.block _ hy1).trans hv
      have hzr := hzw.below hBr (Nat.le_refl _)
      have hk5 : k ≤ 5120 := by omega
      clear hkr hKK hik
      go_wp2
      refine wpIn_wide.1 (wild_region (F := Fence.wide) (n := 0) (C := fun w' => Below wr.heap.size wr w') (R := Turns1 wr.heap.size 24 2 (.cells #[.int .i64 (loK d KK), .int .i64 (hiK d KK)] 24)) (G := fun i us w' => match i with
        | 0 => us 0 = d.v
        | 1 => us 1 = .slice ka nq kc
        | 2 => us 2 = .int .i64 k
        | 3 => us 3 = .pointer (some ⟨kb, k, none⟩)
        | 4 => us 4 = .int .i64 KK
        | 5 => us 5 = .tuple #[.agg #[.int .i64 (loK d KK), .int .i64 (hiK d KK)], .int .i64 (skewK d KK)]
        | 6 => us 6 = .tuple #[.agg #[.int .i64 (loK d KK), .int .i64 (hiK d KK)], .int .i64 (skewK d KK)]
        | 7 => us 7 = .agg #[.int .i64 (loK d KK), .int .i64 (hiK d KK)]
        | 8 => us 8 = .int .i64 (skewK d KK)
        | 9 => ∃ b : Nat, us 9 = .pointer (some ⟨b, 0, none⟩) ∧ wr.heap.size ≤ b ∧ ∃ cs : Array Value, cs.size = 2 ∧ w'.heap[b]? = some (.cells cs 24 (0, 0))
        | 10 => ∃ b : Nat, us 9 = .pointer (some ⟨b, 0, none⟩) ∧ wr.heap.size ≤ b ∧ w'.heap[b]? = some (.cells #[.int .i64 (loK d KK), .int .i64 (hiK d KK)] 24 (0, 0))
        | 11 => us 11 = .int .i64 (skewK d KK)
        | _ => True) (by kernel_rfl) (by kernel_rfl) (by kernel_rfl) ?loc1 (Below.refl _ _).drew ?stab1 ?steps1 ?fin1)
      case loc1 =>
        intro j us i v w' hij hdp hG
        rcases j with _ | _ | _ | _ | _ | _ | _ | _ | _ | _ | _ | _ | j
        all_goals first | trivial | ((try dsimp only at hG ⊢); rw [upd_ne _ _ (Ne.symm hij)]; exact hG) | skip
        by_cases hia : i = 9
        · subst hia; exact absurd hdp (by decide)
        · (try dsimp only at hG ⊢); rw [upd_ne _ _ (Ne.symm hia)]; exact hG
      case stab1 =>
        intro i us A B hAB hG
        rcases i with _ | _ | _ | _ | _ | _ | _ | _ | _ | _ | _ | _ | i <;> try exact hG
        · obtain ⟨b, h1, h2, cs, h3, h4⟩ := hG
          rcases hAB.2 b (Array.getElem?_eq_some_iff.1 h4).1 with h5 | ⟨_, _, h5⟩
          · exact ⟨b, h1, h2, cs, h3, h5.trans h4⟩
          · exact ⟨b, h1, h2, _, rfl, h5⟩
        · obtain ⟨b, h1, h2, h4⟩ := hG
          rcases hAB.2 b (Array.getElem?_eq_some_iff.1 h4).1 with h5 | ⟨_, _, h5⟩
          · exact ⟨b, h1, h2, h5.trans h4⟩
          · exact ⟨b, h1, h2, h5⟩
      case steps1 =>
        dsimp only [StepsW, StepW]
        refine ⟨?_, ?_, ?_, ?_, ?_, ?_, ?_, ?_, ?_, ?_, ?_, ?_, trivial⟩
        all_goals (intro A us W hA hC hG K hK; have hcw0 := fun j => cell_at (j := j) ((hC.block _ (by omega)).trans hvr); have hzw0 := hzr.below hC (Nat.le_refl _); have hCs := hC.size; simp only [AfterW, Region.binds, true_implies, and_true, forall_const] at hG)
        · have h3 : A.tmps[3]?.getD undef = .pointer (some ⟨w.heap.size, 0, none⟩) := slot_none hA rfl rfl
          clear hA
          go_simp
          exact hK _ W hC (.of_below (Below.refl _ _)) (upd_same _ _ _)
        · have h7 : A.tmps[7]?.getD undef = .slice ka nq kc := slot_none hA rfl rfl
          clear hA
          go_simp
          exact hK _ W hC (.of_below (Below.refl _ _)) (upd_same _ _ _)
        · have h10 : A.tmps[10]?.getD undef = .int .i64 k := slot_none hA rfl rfl
          clear hA
          go_simp
          exact hK _ W hC (.of_below (Below.refl _ _)) (upd_same _ _ _)
        · have h25 := slot_some (t := 25) (v := .slice ka nq kc) hA (by kernel_rfl) rfl (by simp) (by first | exact hG | exact hG.1 | exact hG.2 | exact hG.2.1 | exact hG.2.2 | exact hG.2.2.1 | exact hG.2.2.2 | exact hG.2.2.2.1 | exact hG.2.2.2.2 | exact hG.2.2.2.2.1 | exact hG.2.2.2.2.2 | exact hG.2.2.2.2.2.1 | exact hG.2.2.2.2.2.2.1)
          have h26 := slot_some (t := 26) (v := .int .i64 k) hA (by kernel_rfl) rfl (by simp) (by first | exact hG | exact hG.1 | exact hG.2 | exact hG.2.1 | exact hG.2.2 | exact hG.2.2.1 | exact hG.2.2.2 | exact hG.2.2.2.1 | exact hG.2.2.2.2 | exact hG.2.2.2.2.1 | exact hG.2.2.2.2.2 | exact hG.2.2.2.2.2.1 | exact hG.2.2.2.2.2.2.1)
          clear hA
          go_simp
          exact hK _ W hC (.of_below (Below.refl _ _)) (upd_same _ _ _)
        · have h27 := slot_some (t := 27) (v := .pointer (some ⟨kb, k, none⟩)) hA (by kernel_rfl) rfl (by simp) (by first | exact hG | exact hG.1 | exact hG.2 | exact hG.2.1 | exact hG.2.2 | exact hG.2.2.1 | exact hG.2.2.2 | exact hG.2.2.2.1 | exact hG.2.2.2.2 | exact hG.2.2.2.2.1 | exact hG.2.2.2.2.2 | exact hG.2.2.2.2.2.1 | exact hG.2.2.2.2.2.2.1)
          have hkc := (hC.cell (p := ⟨kb, k, none⟩) hkb1).trans hkp
          clear hA
          go_simp
          exact hK _ W hC (.of_below (Below.refl _ _)) (upd_same _ _ _)
        · have h24 := slot_some (t := 24) (v := d.v) hA (by kernel_rfl) rfl (by simp) (by first | exact hG | exact hG.1 | exact hG.2 | exact hG.2.1 | exact hG.2.2 | exact hG.2.2.1 | exact hG.2.2.2 | exact hG.2.2.2.1 | exact hG.2.2.2.2 | exact hG.2.2.2.2.1 | exact hG.2.2.2.2.2 | exact hG.2.2.2.2.2.1 | exact hG.2.2.2.2.2.2.1)
          have h28 := slot_some (t := 28) (v := .int .i64 KK) hA (by kernel_rfl) rfl (by simp) (by first | exact hG | exact hG.1 | exact hG.2 | exact hG.2.1 | exact hG.2.2 | exact hG.2.2.1 | exact hG.2.2.2 | exact hG.2.2.2.1 | exact hG.2.2.2.2 | exact hG.2.2.2.2.1 | exact hG.2.2.2.2.2 | exact hG.2.2.2.2.2.1 | exact hG.2.2.2.2.2.2.1)
          clear hA
          gi_wp2_with (refine ⟨trivial, rfl, ?_⟩; gi_at_call 38; refine (callsIn_wide.2 (c38g d KK hKb.out _)).mono ?_; rintro e w9 ⟨rfl, hB9⟩)
          exact hK _ w9 (hC.trans (hB9.mono hC.size)) (.of_below hB9) (upd_same _ _ _)
        · have h29 := slot_some (t := 29) (v := .tuple #[.agg #[.int .i64 (loK d KK), .int .i64 (hiK d KK)], .int .i64 (skewK d KK)]) hA (by kernel_rfl) rfl (by simp) (by first | exact hG | exact hG.1 | exact hG.2 | exact hG.2.1 | exact hG.2.2 | exact hG.2.2.1 | exact hG.2.2.2 | exact hG.2.2.2.1 | exact hG.2.2.2.2 | exact hG.2.2.2.2.1 | exact hG.2.2.2.2.2 | exact hG.2.2.2.2.2.1 | exact hG.2.2.2.2.2.2.1)
          clear hA
          go_simp
          exact hK _ W hC (.of_below (Below.refl _ _)) (upd_same _ _ _)
        · have h23 := slot_some (t := 23) (v := .tuple #[.agg #[.int .i64 (loK d KK), .int .i64 (hiK d KK)], .int .i64 (skewK d KK)]) hA (by kernel_rfl) rfl (by simp) (by first | exact hG | exact hG.1 | exact hG.2 | exact hG.2.1 | exact hG.2.2 | exact hG.2.2.1 | exact hG.2.2.2 | exact hG.2.2.2.1 | exact hG.2.2.2.2 | exact hG.2.2.2.2.1 | exact hG.2.2.2.2.2 | exact hG.2.2.2.2.2.1 | exact hG.2.2.2.2.2.2.1)
          clear hA
          go_simp
          exact hK _ W hC (.of_below (Below.refl _ _)) (upd_same _ _ _)
        · have h23 := slot_some (t := 23) (v := .tuple #[.agg #[.int .i64 (loK d KK), .int .i64 (hiK d KK)], .int .i64 (skewK d KK)]) hA (by kernel_rfl) rfl (by simp) (by first | exact hG | exact hG.1 | exact hG.2 | exact hG.2.1 | exact hG.2.2 | exact hG.2.2.1 | exact hG.2.2.2 | exact hG.2.2.2.1 | exact hG.2.2.2.2 | exact hG.2.2.2.2.1 | exact hG.2.2.2.2.2 | exact hG.2.2.2.2.2.1 | exact hG.2.2.2.2.2.2.1)
          clear hA
          go_simp
          exact hK _ W hC (.of_below (Below.refl _ _)) (upd_same _ _ _)
        · clear hA
          gi_wp2
          exact hK (.pointer (some ⟨W.heap.size, 0, none⟩)) _ (hC.alloc hC.size _) (.of_below ((Below.refl _ _).alloc (Nat.le_refl _) _)) ⟨W.heap.size, upd_same _ _ _, hC.size, _, rfl, heap_new W _⟩
        · obtain ⟨b, g7, gb, cs, gs, gh⟩ : ∃ b : Nat, us 9 = .pointer (some ⟨b, 0, none⟩) ∧ wr.heap.size ≤ b ∧ ∃ cs : Array Value, cs.size = 2 ∧ W.heap[b]? = some (.cells cs 24 (0, 0)) := (by first | exact hG | exact hG.1 | exact hG.2 | exact hG.2.1 | exact hG.2.2 | exact hG.2.2.1 | exact hG.2.2.2 | exact hG.2.2.2.1 | exact hG.2.2.2.2 | exact hG.2.2.2.2.1 | exact hG.2.2.2.2.2 | exact hG.2.2.2.2.2.1 | exact hG.2.2.2.2.2.2.1)
          have ha := slot_some (t := 11) hA (by kernel_rfl) rfl (by simp) g7
          have h30 := slot_some (t := 30) (v := .agg #[.int .i64 (loK d KK), .int .i64 (hiK d KK)]) hA (by kernel_rfl) rfl (by simp) (by first | exact hG | exact hG.1 | exact hG.2 | exact hG.2.1 | exact hG.2.2 | exact hG.2.2.1 | exact hG.2.2.2 | exact hG.2.2.2.1 | exact hG.2.2.2.2 | exact hG.2.2.2.2.1 | exact hG.2.2.2.2.2 | exact hG.2.2.2.2.2.1 | exact hG.2.2.2.2.2.2.1)
          clear hA hcw0
          obtain ⟨l⟩ := cs
          match l, gs with
          | [v0, v1], _ =>
            have hcb := fun j => cell_at (j := j) gh
            have hfb : ∀ j, W.frozen? ⟨b, j, none⟩ = false := fun j => frozen_at (j := j) gh
            have hbs : b < W.heap.size := (Array.getElem?_eq_some_iff.1 gh).1
            have hp2 := put2 (v0 := .int .i64 (loK d KK)) (v1 := .int .i64 (hiK d KK)) gh
            gi_wp2
            refine hK undef _ ((hC.setCell (by dsimp only; omega) _).setCell (by dsimp only; omega) _) ⟨by simp, fun k hk => ?_⟩ ⟨b, by rw [upd_ne _ _ (by omega)]; exact g7, gb, hp2⟩
            by_cases hkb : k = b
            · subst hkb; exact .inr ⟨gb, ⟨_, rfl, gh⟩, hp2⟩
            · left; rw [Below.heap_setCell _ _ _ _ (by dsimp only; omega), Below.heap_setCell _ _ _ _ (by dsimp only; omega)]
        · have h31 := slot_some (t := 31) (v := .int .i64 (skewK d KK)) hA (by kernel_rfl) rfl (by simp) (by first | exact hG | exact hG.1 | exact hG.2 | exact hG.2.1 | exact hG.2.2 | exact hG.2.2.1 | exact hG.2.2.2 | exact hG.2.2.2.1 | exact hG.2.2.2.2 | exact hG.2.2.2.2.1 | exact hG.2.2.2.2.2 | exact hG.2.2.2.2.2.1 | exact hG.2.2.2.2.2.2.1)
          clear hA
          go_simp
          exact hK _ W hC (.of_below (Below.refl _ _)) (upd_same _ _ _)
      case fin1 =>
        intro us W hC hG
        have hCs := hC.size
        obtain ⟨q9, ga, gb, gh⟩ : ∃ b : Nat, us 9 = .pointer (some ⟨b, 0, none⟩) ∧ wr.heap.size ≤ b ∧ W.heap[b]? = some (.cells #[.int .i64 (loK d KK), .int .i64 (hiK d KK)] 24 (0, 0)) := hG 10 (by decide)
        have g11 : us 11 = .int .i64 (skewK d KK) := hG 11 (by decide)
        simp only [frW, Nat.reduceAdd, Nat.zero_add, ga, g11, Act.put, List.setIfInBounds_toArray, List.set_cons_succ, List.set_cons_zero]
        clear hG ga g11
        have hX1 : Below wr.heap.size wr W := hC
        have hTR := hTw.keep hX1
        have hq := gh
        have hBs : w1.heap.size ≤ W.heap.size := Nat.le_trans hsz hCs
        have hqS : ¬ (oo.ownBlock = some q9 ∨ pp.ownBlock = some q9) := by
          rintro (h | h)
          · have := (hTw.ro.lt _ h).2; omega
          · have := (hTw.rp.lt _ h).2; omega
        have hown1 : ∀ b, (oo.ownBlock = some b ∨ pp.ownBlock = some b) → w1.heap.size ≤ b := by
          rintro b (h | h)
          · exact (hTw.ro.lt _ h).1
          · exact (hTw.rp.lt _ h).1
        have hkb : k ≤ 100000 := by omega
        clear gh hC hTw i0
        obtain ⟨wq, rfl⟩ : ∃ wq, wq = W := ⟨_, rfl⟩
        go_wp2
        have hoL : ∀ g, (oo).ownBlock = some g → g < wq.heap.size := fun g hg => (hTR.ro.lt g hg).2
        have hpL : ∀ g, (pp).ownBlock = some g → g < wq.heap.size := fun g hg => (hTR.rp.lt g hg).2
        have sepR : ∀ g, (pp).ownBlock = some g → (oo).ownBlock ≠ some g := fun g hg hg' => hTR.sep g hg' hg
        refine wpIn_wide.1 (wildx_region (F := Fence.wide) (n := 0) (pa := 4) (pb := 9) (X := fun us _ => ∀ b b', (us 4).ownBlock = some b → (us 9).ownBlock = some b' → b ≠ b') (C := fun w' => Keep (fun b => (oo).ownBlock = some b ∨ (pp).ownBlock = some b) wq w')
          (R := fun j x y => x.grownBy y (if j = 4 then (oo).ownBlock else if j = 9 then (pp).ownBlock else none)) (H := fun j us w' => (j = 4 → w'.ownsRow w1.heap.size 3 1 (oo) k ((lows d f k).map (Value.int .i64))) ∧ (j = 9 → w'.ownsRow w1.heap.size 3 1 (pp) k ((highs d f k).map (Value.int .i64))) ∧ (j = 0 → us 10 = oo) ∧ (j = 5 → us 11 = pp)) (G := fun i us w' => match i with
          | 0 => us 0 = oo
          | 1 => us 1 = .pointer (some ⟨q9, 0, none⟩)
          | 2 => us 2 = .int .i64 (loK d KK)
          | 3 => BlkG wq w' (loK d KK) (us 3)
          | 4 => AppG wq w' w1.heap.size (oo) k ((lows d f k).map (Value.int .i64) ++ [.int .i64 (loK d KK)]) (us 4)
          | 5 => us 5 = pp
          | 6 => us 6 = .pointer (some ⟨q9, 1, none⟩)
          | 7 => us 7 = .int .i64 (hiK d KK)
          | 8 => BlkG wq w' (hiK d KK) (us 8)
          | 9 => AppG wq w' w1.heap.size (pp) k ((highs d f k).map (Value.int .i64) ++ [.int .i64 (hiK d KK)]) (us 9)
          | 10 => us 10 = us 4
          | 11 => us 11 = us 9
          | _ => True) (by decide) ?hX2 (by decide) (by decide) (by kernel_rfl) (by kernel_rfl) (by kernel_rfl) ?loc2 ⟨rfl, rfl, rfl, Nat.le_refl _, fun _ _ _ => rfl⟩ ?h02 ?gs2 ?hs2 ?hl2 ?steps2 ?fin2)
        case hX2 =>
          intro k us v w w' h1 h2 _ hX
          (try dsimp only)
          rw [upd_ne _ _ (Ne.symm h1), upd_ne _ _ (Ne.symm h2)]
          exact hX
        case loc2 =>
          intro j us i v w' hij hdp hG
          rcases j with _ | _ | _ | _ | _ | _ | _ | _ | _ | _ | _ | _ | j
          all_goals first | trivial | ((try dsimp only at hG ⊢); rw [upd_ne _ _ (Ne.symm hij)]; exact hG) | skip
          · by_cases hia : i = 4
            · subst hia; exact absurd hdp (by decide)
            · (try dsimp only at hG ⊢); rw [upd_ne _ _ (Ne.symm hij), upd_ne _ _ (Ne.symm hia)]; exact hG
          · by_cases hia : i = 9
            · subst hia; exact absurd hdp (by decide)
            · (try dsimp only at hG ⊢); rw [upd_ne _ _ (Ne.symm hij), upd_ne _ _ (Ne.symm hia)]; exact hG
        case h02 =>
          intro us hus j
          refine ⟨fun _ => hTR.ro, fun _ => hTR.rp, fun _ => ?_, fun _ => ?_⟩
          · have h1 := congrArg (fun a : Act => a.tmps[8]?) hus
            dsimp only at h1
            rw [frW_some _ 0 us _ 8 10 (by kernel_rfl) rfl (by simp)] at h1
            simpa using h1
          · have h1 := congrArg (fun a : Act => a.tmps[9]?) hus
            dsimp only at h1
            rw [frW_some _ 0 us _ 9 11 (by kernel_rfl) rfl (by simp)] at h1
            simpa using h1
        case gs2 =>
          intro j i us x y hji hR hG
          have hrl : ∀ g, (if j = 4 then (oo).ownBlock else if j = 9 then (pp).ownBlock else none) = some g → g < wq.heap.size := by
            intro g hg
            split at hg
            · exact hoL g hg
            · split at hg
              · exact hpL g hg
              · cases hg
          rcases i with _ | _ | _ | _ | _ | _ | _ | _ | _ | _ | _ | _ | i <;> try exact hG
          · exact BlkG.kept hG hR hrl
          · refine AppG.kept (p := pp) hG hR ?_ hTR.sep hpL
            rw [if_neg hji]
            split
            · exact .inr rfl
            · exact .inl rfl
          · exact BlkG.kept hG hR hrl
          · refine AppG.kept (p := oo) hG hR ?_ sepR hoL
            split
            · exact .inr rfl
            · first | exact .inl rfl | (rw [if_neg hji]; exact .inl rfl)
        case hs2 =>
          intro j i us x y hji hR hH
          refine ⟨fun hi => ?_, fun hi => ?_, hH.2.2.1, hH.2.2.2⟩
          · refine row_kept (p := pp) (hH.1 hi) hR ?_ hTR.sep
            subst hi
            rw [if_neg hji]
            split
            · exact .inr rfl
            · exact .inl rfl
          · refine row_kept (p := oo) (hH.2.1 hi) hR ?_ sepR
            subst hi
            split
            · exact .inr rfl
            · first | exact .inl rfl | (rw [if_neg hji]; exact .inl rfl)
        case hl2 =>
          intro j i us v x hji hdp hH
          refine ⟨hH.1, hH.2.1, fun hi => ?_, fun hi => ?_⟩
          · subst hi
            rw [upd_ne _ _ (fun e => by subst e; exact absurd hdp (by decide))]
            exact hH.2.2.1 rfl
          · subst hi
            rw [upd_ne _ _ (fun e => by subst e; exact absurd hdp (by decide))]
            exact hH.2.2.2 rfl
        case steps2 =>
          dsimp only [StepsX, StepX]
          refine ⟨?_, ?_, ?_, ?_, ?_, ?_, ?_, ?_, ?_, ?_, ?_, ?_, trivial⟩
          all_goals (intro A us W hA hC hH hG K hK; have hcw0 := fun j => cell_at (j := j) ((hC.block _ (Array.getElem?_eq_some_iff.1 hq).1 hqS).trans hq); have hCs := hC.size; simp only [AfterW, Region.binds, true_implies, and_true, forall_const] at hG)
          · have hs0 := slot_some (t := 8) (v := oo) hA (by kernel_rfl) rfl (by simp) (hH.2.2.1 rfl)
            clear hA
            go_simp
            exact hK _ W hC (grown_of_below (Below.refl _ _)) (upd_same _ _ _) (fun h => absurd h (by decide)) (fun h => absurd h (by decide))
          · have hs0 : A.tmps[11]?.getD undef = .pointer (some ⟨q9, 0, none⟩) := slot_none hA rfl rfl
            clear hA
            go_simp
            exact hK _ W hC (grown_of_below (Below.refl _ _)) (upd_same _ _ _) (fun h => absurd h (by decide)) (fun h => absurd h (by decide))
          · have hs0 := slot_some (t := 33) (v := .pointer (some ⟨q9, 0, none⟩)) hA (by kernel_rfl) rfl (by simp) (by first | exact hG | exact hG.1 | exact hG.2 | exact hG.2.1 | exact hG.2.2 | exact hG.2.2.1 | exact hG.2.2.2 | exact hG.2.2.2.1 | exact hG.2.2.2.2 | exact hG.2.2.2.2.1 | exact hG.2.2.2.2.2 | exact hG.2.2.2.2.2.1 | exact hG.2.2.2.2.2.2.1)
            clear hA
            go_simp
            exact hK _ W hC (grown_of_below (Below.refl _ _)) (upd_same _ _ _) (fun h => absurd h (by decide)) (fun h => absurd h (by decide))
          · have hs0 := slot_some (t := 34) (v := .int .i64 (loK d KK)) hA (by kernel_rfl) rfl (by simp) (by first | exact hG | exact hG.1 | exact hG.2 | exact hG.2.1 | exact hG.2.2 | exact hG.2.2.1 | exact hG.2.2.2 | exact hG.2.2.2.1 | exact hG.2.2.2.2 | exact hG.2.2.2.2.1 | exact hG.2.2.2.2.2 | exact hG.2.2.2.2.2.1 | exact hG.2.2.2.2.2.2.1)
            clear hA
            gi_wp2
            exact hK (.slice (some ⟨W.heap.size, 0, none⟩) 1 1) _ (hC.grown (grown_of_below ((Below.refl _ _).alloc (Nat.le_refl _) _)) (fun b hb => by cases hb)) (grown_of_below ((Below.refl _ _).alloc (Nat.le_refl _) _)) (by show BlkG _ _ _ (upd us 3 _ 3); rw [upd_same]; exact ⟨W.heap.size, rfl, hCs, heap_new W _⟩) (fun h => absurd h (by decide)) (fun h => absurd h (by decide))
          · have g0 : us 0 = oo := (by first | exact hG | exact hG.1 | exact hG.2 | exact hG.2.1 | exact hG.2.2 | exact hG.2.2.1 | exact hG.2.2.2 | exact hG.2.2.2.1 | exact hG.2.2.2.2 | exact hG.2.2.2.2.1 | exact hG.2.2.2.2.2 | exact hG.2.2.2.2.2.1 | exact hG.2.2.2.2.2.2.1)
            obtain ⟨b, hb1, hb2, hb3⟩ : BlkG wq W (loK d KK) (us 3) := (by first | exact hG | exact hG.1 | exact hG.2 | exact hG.2.1 | exact hG.2.2 | exact hG.2.2.1 | exact hG.2.2.2 | exact hG.2.2.2.1 | exact hG.2.2.2.2 | exact hG.2.2.2.2.1 | exact hG.2.2.2.2.2 | exact hG.2.2.2.2.2.1 | exact hG.2.2.2.2.2.2.1)
            have h1 := slot_some (t := 32) hA (by kernel_rfl) rfl (by simp) g0
            have h2 := slot_some (t := 35) hA (by kernel_rfl) rfl (by simp) hb1
            refine wpIn_app 32 35 rfl w1.heap.size (oo) k ((lows d f k).map (Value.int .i64)) h1 (hH.1 rfl) b (loK d KK) h2 hb3 hkb (Nat.le_trans hBs hCs) ?_
            intro g cap w9 hown hgr hat hlt
            exact hK _ w9 (hC.grown hgr (fun b hb => .inl hb)) hgr (by show AppG _ _ _ _ _ _ (upd us 4 _ 4); rw [upd_same]; exact ⟨g, cap, rfl, hown, hat.imp id (fun h => by omega), hlt⟩) (fun _ hGo b b' h1 h2 e => by rw [upd_same] at h1; rw [upd_ne _ _ (by decide)] at h2; exact app_sep (u' := .slice (some ⟨g, 0, none⟩) (k + 1) cap) hGo hCs rfl hat sepR hpL hoL b' b h2 h1 e.symm) (fun h => absurd h (by decide))
          · have hs0 := slot_some (t := 9) (v := pp) hA (by kernel_rfl) rfl (by simp) (hH.2.2.2 rfl)
            clear hA
            go_simp
            exact hK _ W hC (grown_of_below (Below.refl _ _)) (upd_same _ _ _) (fun h => absurd h (by decide)) (fun h => absurd h (by decide))
          · have hs0 : A.tmps[11]?.getD undef = .pointer (some ⟨q9, 0, none⟩) := slot_none hA rfl rfl
            clear hA
            go_simp
            exact hK _ W hC (grown_of_below (Below.refl _ _)) (upd_same _ _ _) (fun h => absurd h (by decide)) (fun h => absurd h (by decide))
          · have hs0 := slot_some (t := 38) (v := .pointer (some ⟨q9, 1, none⟩)) hA (by kernel_rfl) rfl (by simp) (by first | exact hG | exact hG.1 | exact hG.2 | exact hG.2.1 | exact hG.2.2 | exact hG.2.2.1 | exact hG.2.2.2 | exact hG.2.2.2.1 | exact hG.2.2.2.2 | exact hG.2.2.2.2.1 | exact hG.2.2.2.2.2 | exact hG.2.2.2.2.2.1 | exact hG.2.2.2.2.2.2.1)
            clear hA
            go_simp
            exact hK _ W hC (grown_of_below (Below.refl _ _)) (upd_same _ _ _) (fun h => absurd h (by decide)) (fun h => absurd h (by decide))
          · have hs0 := slot_some (t := 39) (v := .int .i64 (hiK d KK)) hA (by kernel_rfl) rfl (by simp) (by first | exact hG | exact hG.1 | exact hG.2 | exact hG.2.1 | exact hG.2.2 | exact hG.2.2.1 | exact hG.2.2.2 | exact hG.2.2.2.1 | exact hG.2.2.2.2 | exact hG.2.2.2.2.1 | exact hG.2.2.2.2.2 | exact hG.2.2.2.2.2.1 | exact hG.2.2.2.2.2.2.1)
            clear hA
            gi_wp2
            exact hK (.slice (some ⟨W.heap.size, 0, none⟩) 1 1) _ (hC.grown (grown_of_below ((Below.refl _ _).alloc (Nat.le_refl _) _)) (fun b hb => by cases hb)) (grown_of_below ((Below.refl _ _).alloc (Nat.le_refl _) _)) (by show BlkG _ _ _ (upd us 8 _ 8); rw [upd_same]; exact ⟨W.heap.size, rfl, hCs, heap_new W _⟩) (fun h => absurd h (by decide)) (fun h => absurd h (by decide))
          · have g0 : us 5 = pp := (by first | exact hG | exact hG.1 | exact hG.2 | exact hG.2.1 | exact hG.2.2 | exact hG.2.2.1 | exact hG.2.2.2 | exact hG.2.2.2.1 | exact hG.2.2.2.2 | exact hG.2.2.2.2.1 | exact hG.2.2.2.2.2 | exact hG.2.2.2.2.2.1 | exact hG.2.2.2.2.2.2.1)
            obtain ⟨b, hb1, hb2, hb3⟩ : BlkG wq W (hiK d KK) (us 8) := (by first | exact hG | exact hG.1 | exact hG.2 | exact hG.2.1 | exact hG.2.2 | exact hG.2.2.1 | exact hG.2.2.2 | exact hG.2.2.2.1 | exact hG.2.2.2.2 | exact hG.2.2.2.2.1 | exact hG.2.2.2.2.2 | exact hG.2.2.2.2.2.1 | exact hG.2.2.2.2.2.2.1)
            have h1 := slot_some (t := 37) hA (by kernel_rfl) rfl (by simp) g0
            have h2 := slot_some (t := 40) hA (by kernel_rfl) rfl (by simp) hb1
            refine wpIn_app 37 40 rfl w1.heap.size (pp) k ((highs d f k).map (Value.int .i64)) h1 (hH.2.1 rfl) b (hiK d KK) h2 hb3 hkb (Nat.le_trans hBs hCs) ?_
            intro g cap w9 hown hgr hat hlt
            exact hK _ w9 (hC.grown hgr (fun b hb => .inr hb)) hgr (by show AppG _ _ _ _ _ _ (upd us 9 _ 9); rw [upd_same]; exact ⟨g, cap, rfl, hown, hat.imp id (fun h => by omega), hlt⟩) (fun h => absurd h (by decide)) (fun _ hGo b b' h1 h2 e => by rw [upd_same] at h2; rw [upd_ne _ _ (by decide)] at h1; exact app_sep (u' := .slice (some ⟨g, 0, none⟩) (k + 1) cap) hGo hCs rfl hat hTR.sep hoL hpL b b' h1 h2 e)
          · have hs0 := slot_some (t := 36) (v := us 4) hA (by kernel_rfl) rfl (by simp) rfl
            clear hA
            go_simp
            exact hK _ W hC (grown_of_below (Below.refl _ _)) (by show upd us 10 _ 10 = upd us 10 _ 4; rw [upd_same, upd_ne _ _ (by decide)]) (fun h => absurd h (by decide)) (fun h => absurd h (by decide))
          · have hs0 := slot_some (t := 41) (v := us 9) hA (by kernel_rfl) rfl (by simp) rfl
            clear hA
            go_simp
            exact hK _ W hC (grown_of_below (Below.refl _ _)) (by show upd us 11 _ 11 = upd us 11 _ 9; rw [upd_same, upd_ne _ _ (by decide)]) (fun h => absurd h (by decide)) (fun h => absurd h (by decide))
        case fin2 =>
          intro us W hC hG hX
          have hCs := hC.size
          have gA : us 10 = us 4 := hG 10 (by decide)
          have gB : us 11 = us 9 := hG 11 (by decide)
          obtain ⟨g8, cap8, e8, own8, at8, lt8⟩ : AppG wq W w1.heap.size (oo) k ((lows d f k).map (Value.int .i64) ++ [.int .i64 (loK d KK)]) (us 4) := hG 4 (by decide)
          obtain ⟨g9, cap9, e9, own9, at9, lt9⟩ : AppG wq W w1.heap.size (pp) k ((highs d f k).map (Value.int .i64) ++ [.int .i64 (hiK d KK)]) (us 9) := hG 9 (by decide)
          rw [e8] at gA
          rw [e9] at gB
          have hTN : TwoRows W w1.heap.size (.slice (some ⟨g8, 0, none⟩) (k + 1) cap8) (.slice (some ⟨g9, 0, none⟩) (k + 1) cap9) (k + 1) (lows d f k ++ [(loK d KK)]) (highs d f k ++ [(hiK d KK)]) := by
            refine ⟨by rw [List.map_append]; exact own8, by rw [List.map_append]; exact own9, fun b hb hb' => ?_⟩
            exact hX b b (by rw [e8]; exact hb) (by rw [e9]; exact hb') rfl
          simp only [frW, Nat.reduceAdd, Nat.zero_add, gA, gB, Act.put, List.setIfInBounds_toArray, List.set_cons_succ, List.set_cons_zero]
          clear hG hX gA gB e8 e9 own8 own9 at8 at9 lt8 lt9
          go_wp2
          go_roundw
          case rel => exact ⟨k + 1, _, _, hkn.out, by go_num, rfl, rfl, by rw [lows_succ, highs_succ, hKe.out]; exact hTN, (hBr.trans (hX1.mono hsz)).trans (below_keep hC hown1 hBs)⟩
          case measure => simp [intOf]; omega
    · obtain rfl : k = nq := by omega
      obtain ⟨wo, rfl⟩ : ∃ wo, wo = wr := ⟨_, rfl⟩
      obtain ⟨oa, ob, oc, rfl, _, hol⟩ := Ints.of_owns hTw.ro (lows_len _ _ _).symm
      obtain ⟨pa, pb, pc, rfl, _, hpl⟩ := Ints.of_owns hTw.rp (highs_len _ _ _).symm
      have hvr := (hBr.block _ hy1).trans hv
      have hv6r := (hBr.block _ hx1).trans hv6
      have hzr := hzw.below hBr (Nat.le_refl _)
      have nr := (Array.getElem?_eq_some_iff.1 hvr).1
      have nr6 := (Array.getElem?_eq_some_iff.1 hv6r).1
      have hbr : Below w.heap.size w wo := hbw.trans (hBr.mono hbw.size)
      clear hTw hki
      go_wp2
      refine wpIn_wide.1 (wild_tail (F := Fence.wide) (n := 0) (C := fun w' => Below wo.heap.size wo w') (R := fun A B => Below A.heap.size A B) (G := fun i us w' => match i with
        | 0 => us 0 = d.v
        | 1 => us 1 = .int .i64 f
        | 2 => us 2 = .int .i64 n
        | 3 => us 3 = .slice oa k oc
        | 4 => us 4 = .int .i64 tl
        | 5 => us 5 = d.v
        | 6 => us 6 = .int .i64 f
        | 7 => us 7 = .int .i64 n
        | 8 => us 8 = .slice pa k pc
        | 9 => us 9 = .int .i64 th
        | 10 => us 10 = .agg #[.int .i64 tl, .int .i64 th]
        | _ => True) (by kernel_rfl) (by kernel_rfl) (by kernel_rfl) ?loc8 (Below.refl _ _).drew ?stab8 ?steps8 ?fin8)
      case loc8 =>
        intro j us i v w' hij hdp hG
        rcases j with _ | _ | _ | _ | _ | _ | _ | _ | _ | _ | _ | j
        all_goals first | trivial | ((try dsimp only at hG ⊢); rw [upd_ne _ _ (Ne.symm hij)]; exact hG) | skip
      case stab8 =>
        intro i us A B hAB hG
        rcases i with _ | _ | _ | _ | _ | _ | _ | _ | _ | _ | _ | i <;> try exact hG
      case steps8 =>
        dsimp only [List.dropLast, StepsW, StepW]
        refine ⟨?_, ?_, ?_, ?_, ?_, ?_, ?_, ?_, ?_, ?_, ?_, trivial⟩
        all_goals (intro A us W hA hC hG K hK; have hcw0 := fun j => cell_at (j := j) ((hC.block _ (by omega)).trans hvr); have hzw0 := hzr.below hC (Nat.le_refl _); have hCs := hC.size; simp only [AfterW, Region.binds, true_implies, and_true, forall_const] at hG)
        · have h3 : A.tmps[3]?.getD undef = .pointer (some ⟨w.heap.size, 0, none⟩) := slot_none hA rfl rfl
          clear hA
          go_simp
          exact hK _ W hC (Below.refl _ _) (upd_same _ _ _)
        · have h1 : A.tmps[1]?.getD undef = .int .i64 f := slot_none hA rfl rfl
          clear hA
          go_simp
          exact hK _ W hC (Below.refl _ _) (upd_same _ _ _)
        · have h2 : A.tmps[2]?.getD undef = .int .i64 n := slot_none hA rfl rfl
          clear hA
          go_simp
          exact hK _ W hC (Below.refl _ _) (upd_same _ _ _)
        · have h8 : A.tmps[8]?.getD undef = .slice oa k oc := slot_none hA rfl rfl
          clear hA
          go_simp
          exact hK _ W hC (Below.refl _ _) (upd_same _ _ _)
        · have h42 := slot_some (t := 42) (v := d.v) hA (by kernel_rfl) rfl (by simp) (by first | exact hG | exact hG.1 | exact hG.2 | exact hG.2.1 | exact hG.2.2 | exact hG.2.2.1 | exact hG.2.2.2 | exact hG.2.2.2.1 | exact hG.2.2.2.2 | exact hG.2.2.2.2.1 | exact hG.2.2.2.2.2 | exact hG.2.2.2.2.2.1 | exact hG.2.2.2.2.2.2.1)
          have h43 := slot_some (t := 43) (v := .int .i64 f) hA (by kernel_rfl) rfl (by simp) (by first | exact hG | exact hG.1 | exact hG.2 | exact hG.2.1 | exact hG.2.2 | exact hG.2.2.1 | exact hG.2.2.2 | exact hG.2.2.2.1 | exact hG.2.2.2.2 | exact hG.2.2.2.2.1 | exact hG.2.2.2.2.2 | exact hG.2.2.2.2.2.1 | exact hG.2.2.2.2.2.2.1)
          have h44 := slot_some (t := 44) (v := .int .i64 n) hA (by kernel_rfl) rfl (by simp) (by first | exact hG | exact hG.1 | exact hG.2 | exact hG.2.1 | exact hG.2.2 | exact hG.2.2.1 | exact hG.2.2.2 | exact hG.2.2.2.1 | exact hG.2.2.2.2 | exact hG.2.2.2.2.1 | exact hG.2.2.2.2.2 | exact hG.2.2.2.2.2.1 | exact hG.2.2.2.2.2.2.1)
          have h45 := slot_some (t := 45) (v := .slice oa k oc) hA (by kernel_rfl) rfl (by simp) (by first | exact hG | exact hG.1 | exact hG.2 | exact hG.2.1 | exact hG.2.2 | exact hG.2.2.1 | exact hG.2.2.2 | exact hG.2.2.2.1 | exact hG.2.2.2.2 | exact hG.2.2.2.2.1 | exact hG.2.2.2.2.2 | exact hG.2.2.2.2.2.1 | exact hG.2.2.2.2.2.2.1)
          clear hA
          gi_wp2_with (refine ⟨trivial, rfl, ?_⟩; gi_at_call 39; refine (callsIn_wide.2 (xlo.out oa ob oc _ hzw0 (hol.below hC (Nat.le_refl _)))).mono ?_; rintro e w9 ⟨rfl, hB9⟩)
          exact hK _ w9 (hC.trans (hB9.mono hC.size)) hB9 (upd_same _ _ _)
        · have h3 : A.tmps[3]?.getD undef = .pointer (some ⟨w.heap.size, 0, none⟩) := slot_none hA rfl rfl
          clear hA
          go_simp
          exact hK _ W hC (Below.refl _ _) (upd_same _ _ _)
        · have h1 : A.tmps[1]?.getD undef = .int .i64 f := slot_none hA rfl rfl
          clear hA
          go_simp
          exact hK _ W hC (Below.refl _ _) (upd_same _ _ _)
        · have h2 : A.tmps[2]?.getD undef = .int .i64 n := slot_none hA rfl rfl
          clear hA
          go_simp
          exact hK _ W hC (Below.refl _ _) (upd_same _ _ _)
        · have h9 : A.tmps[9]?.getD undef = .slice pa k pc := slot_none hA rfl rfl
          clear hA
          go_simp
          exact hK _ W hC (Below.refl _ _) (upd_same _ _ _)
        · have h47 := slot_some (t := 47) (v := d.v) hA (by kernel_rfl) rfl (by simp) (by first | exact hG | exact hG.1 | exact hG.2 | exact hG.2.1 | exact hG.2.2 | exact hG.2.2.1 | exact hG.2.2.2 | exact hG.2.2.2.1 | exact hG.2.2.2.2 | exact hG.2.2.2.2.1 | exact hG.2.2.2.2.2 | exact hG.2.2.2.2.2.1 | exact hG.2.2.2.2.2.2.1)
          have h48 := slot_some (t := 48) (v := .int .i64 f) hA (by kernel_rfl) rfl (by simp) (by first | exact hG | exact hG.1 | exact hG.2 | exact hG.2.1 | exact hG.2.2 | exact hG.2.2.1 | exact hG.2.2.2 | exact hG.2.2.2.1 | exact hG.2.2.2.2 | exact hG.2.2.2.2.1 | exact hG.2.2.2.2.2 | exact hG.2.2.2.2.2.1 | exact hG.2.2.2.2.2.2.1)
          have h49 := slot_some (t := 49) (v := .int .i64 n) hA (by kernel_rfl) rfl (by simp) (by first | exact hG | exact hG.1 | exact hG.2 | exact hG.2.1 | exact hG.2.2 | exact hG.2.2.1 | exact hG.2.2.2 | exact hG.2.2.2.1 | exact hG.2.2.2.2 | exact hG.2.2.2.2.1 | exact hG.2.2.2.2.2 | exact hG.2.2.2.2.2.1 | exact hG.2.2.2.2.2.2.1)
          have h50 := slot_some (t := 50) (v := .slice pa k pc) hA (by kernel_rfl) rfl (by simp) (by first | exact hG | exact hG.1 | exact hG.2 | exact hG.2.1 | exact hG.2.2 | exact hG.2.2.1 | exact hG.2.2.2 | exact hG.2.2.2.1 | exact hG.2.2.2.2 | exact hG.2.2.2.2.1 | exact hG.2.2.2.2.2 | exact hG.2.2.2.2.2.1 | exact hG.2.2.2.2.2.2.1)
          clear hA
          gi_wp2_with (refine ⟨trivial, rfl, ?_⟩; gi_at_call 39; refine (callsIn_wide.2 (xhi.out pa pb pc _ hzw0 (hpl.below hC (Nat.le_refl _)))).mono ?_; rintro e w9 ⟨rfl, hB9⟩)
          exact hK _ w9 (hC.trans (hB9.mono hC.size)) hB9 (upd_same _ _ _)
        · have h46 := slot_some (t := 46) (v := .int .i64 tl) hA (by kernel_rfl) rfl (by simp) (by first | exact hG | exact hG.1 | exact hG.2 | exact hG.2.1 | exact hG.2.2 | exact hG.2.2.1 | exact hG.2.2.2 | exact hG.2.2.2.1 | exact hG.2.2.2.2 | exact hG.2.2.2.2.1 | exact hG.2.2.2.2.2 | exact hG.2.2.2.2.2.1 | exact hG.2.2.2.2.2.2.1)
          have h51 := slot_some (t := 51) (v := .int .i64 th) hA (by kernel_rfl) rfl (by simp) (by first | exact hG | exact hG.1 | exact hG.2 | exact hG.2.1 | exact hG.2.2 | exact hG.2.2.1 | exact hG.2.2.2 | exact hG.2.2.2.1 | exact hG.2.2.2.2 | exact hG.2.2.2.2.1 | exact hG.2.2.2.2.2 | exact hG.2.2.2.2.2.1 | exact hG.2.2.2.2.2.2.1)
          clear hA
          go_simp
          exact hK _ W hC (Below.refl _ _) (upd_same _ _ _)
      case fin8 =>
        intro us W hC hG
        have hCs := hC.size
        have g10 : us 10 = .agg #[.int .i64 tl, .int .i64 th] := hG 10 (by decide)
        simp only [frW, lastOp, Nat.reduceAdd, Nat.zero_add, g10, Act.put, List.setIfInBounds_toArray, List.set_cons_succ, List.set_cons_zero]
        have h6W := (hC.block _ nr6).trans hv6r
        have hc6 := fun j => cell_at (j := j) h6W
        have hf6 : ∀ j, W.frozen? ⟨w.heap.size + 1, j, none⟩ = false := fun j => frozen_at (j := j) h6W
        have hs6 : w.heap.size + 1 < W.heap.size := by omega
        have hbW : Below w.heap.size w W := hbr.trans (hC.mono hbr.size)
        clear hG g10 hC
        gi_wp2
        go_wp2
        refine bodyPost_ret (v := .agg #[.int .i64 tl, .int .i64 th]) (by simp [results, Try.results60, go_sem, hc6, hf6, hs6]) rfl ⟨by rw [hresh.out.1, hresh.out.2], ?_⟩
        (repeat' (first | (with_reducible exact Below.refl _ _) | (with_reducible assumption) | (with_reducible refine Below.alloc ?_ ?_ _) | (with_reducible refine Below.drew ?_) | (with_reducible refine below_drewN ?_ _) | (with_reducible refine Below.setCell ?_ ?_ _) | (with_reducible refine Below.trans ?_ (Below.mono (by with_reducible assumption) ?_)) | go_size))
end Go.Proofs.Ythkbiplmfbcabaa
