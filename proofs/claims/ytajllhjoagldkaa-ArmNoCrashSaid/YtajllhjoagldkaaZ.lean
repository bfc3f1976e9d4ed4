/- Stage 6: no crash. -/
import Derived.Test.YtajllhjoagldkaaY
import Derived.Test.YtajllhjoagldkaaX
import Derived.Test.YtajllhjoagldkaaMf
import Derived.Lib.QuietBelow
import Derived.BigFrame
set_option linter.unusedSimpArgs false
set_option linter.unusedVariables false
namespace Go.Proofs.Ytajllhjoagldkaa
open Go.RowKit Go.Maps Go.WideMaps Go.BigFrame Go.Sort

set_option maxHeartbeats 4000000 in
theorem c7n (la sp fo sh ga sl t p v : Int) (w : World) (h : ¬ Vld la sp fo sh ga sl t p v) : Calls Try.prog 7 #[.agg #[.int .i64 la, .int .i64 sp, .int .i64 fo, .int .i64 sh, .int .i64 ga, .int .i64 sl], .int .i64 t, .agg #[.int .i64 p, .int .i64 v]] w fun e w' => e = .returned (.bool true) ∧ Below w.heap.size w w' := by
  have hh := hid h
  clear h
  go_enter Try.func7, Try.ntmps7
  go_wp2_with (first | (go_at_call 12; refine (c12n _ hh.out).mono ?_; rintro e w1 ⟨rfl, hB1⟩; have hz1 : w.heap.size + 1 < w1.heap.size := (by have := hB1.size; simp at this; omega)) | (go_at_call 14; refine (c14 _).mono ?_; rintro e w2 ⟨rfl, hB2⟩))
  go_returns
  exact ⟨rfl, by (repeat' (first | (with_reducible exact Below.refl _ _) | (with_reducible assumption) | (with_reducible refine Below.alloc ?_ ?_ _) | (with_reducible refine Below.drew ?_) | (with_reducible refine below_drewN ?_ _) | (with_reducible refine Below.setCell ?_ ?_ _) | (with_reducible refine Below.trans ?_ (Below.mono (by with_reducible assumption) ?_)) | go_size))⟩
/-- What the law has in memory. -/
structure NcI (a : Ar) (p v : Int) (A : Option Addr) (b : Nat) (L : List (Int × Int)) (w W : World) : Prop where
  bel : Below w.heap.size w W
  ab : Abx a W w.heap.size
  d0 : W.cell? ⟨w.heap.size + 1, 0, none⟩ = some (.int .i64 p)
  d1 : W.cell? ⟨w.heap.size + 1, 1, none⟩ = some (.int .i64 v)
  sp : Sps W A b 0 L
  sz : w.heap.size + 1 < W.heap.size
theorem NcI.below {a : Ar} {p v : Int} {A : Option Addr} {b : Nat} {L : List (Int × Int)} {w X Y : World} (h : NcI a p v A b L w X) (k : Below X.heap.size X Y) : NcI a p v A b L w Y :=
  ⟨h.bel.trans (k.mono (by have := h.sz; omega)), h.ab.below k (by have := h.sz; omega), (k.cell (p := ⟨w.heap.size + 1, 0, none⟩) h.sz).trans h.d0, (k.cell (p := ⟨w.heap.size + 1, 1, none⟩) h.sz).trans h.d1, h.sp.below k (Nat.le_refl _), Nat.lt_of_lt_of_le h.sz k.size⟩
theorem lst_mem {a : Ar} {L : List (Int × Int)} {fs : Int → Int → Bool} (hL : L = lst fs (sts a)) (hs : Gr a (fun _ _ => true) fs) {p v : Int} : (p, v) ∈ L ↔ fs p v = true := by
  rw [hL]; unfold lst
  rw [List.mem_filter, mem_sts]
  exact ⟨fun h => h.2, fun h => ⟨(hs.1 p v h).1, h⟩⟩
set_option maxRecDepth 100000 in
set_option maxHeartbeats 8000000 in
theorem c7y (a : Ar) (t : Nat) (p v : Int) (w : World) (ok : a.Ok) (ht : t ≤ a.la) (hst : stB a p v = true) (hV : Vld (a.la : Nat) (a.sp : Nat) (a.fo : Nat) (a.sh : Nat) (a.ga : Nat) (a.sl : Nat) (t : Nat) p v) :
    Calls Try.prog 7 #[a.v, .int .i64 (t : Nat), .agg #[.int .i64 p, .int .i64 v]] w fun e w' => e = .returned (.bool true) ∧ Below w.heap.size w w' := by
  have o1 := ok.l; have o2 := ok.p; have o3 := ok.f; have o4 := ok.h
  have hps := stB_iff.1 hst
  have hVh := hid hV
  have hsth := hid hst
  clear hV hst
  go_enter Try.func7, Try.ntmps7
  go_wp2_with (first | (go_at_call 12; refine (c12y _ hVh.out).mono ?_; rintro e w1 ⟨rfl, hB1⟩; obtain ⟨hc1, hf1⟩ := bcell hB1; have hz1 : w.heap.size + 1 < w1.heap.size := (by have := hB1.size; simp at this; omega); have hz2 : w.heap.size < w1.heap.size := (by omega); have hN1 : Hid (Below w.heap.size w w1 ∧ Abx a w1 w.heap.size ∧ w1.cell? ⟨w.heap.size + 1, 0, none⟩ = some (.int .i64 p) ∧ w1.cell? ⟨w.heap.size + 1, 1, none⟩ = some (.int .i64 v)) := hid ⟨(by (repeat' (first | (with_reducible exact Below.refl _ _) | (with_reducible assumption) | (with_reducible refine Below.alloc ?_ ?_ _) | (with_reducible refine Below.drew ?_) | (with_reducible refine below_drewN ?_ _) | (with_reducible refine Below.setCell ?_ ?_ _) | (with_reducible refine Below.trans ?_ (Below.mono (by with_reducible assumption) ?_)) | go_size))), (by unfold Abx; refine ⟨?_, ?_, ?_, ?_, ?_, ?_⟩ <;> (rw [hc1 _ _ (by simp; omega)]; simp)), (by rw [hc1 _ _ (by simp)]; simp), (by rw [hc1 _ _ (by simp)]; simp)⟩) | (go_at_call 22; refine (c22 a _ ok).mono ?_; rintro e w2 ⟨vl, fs, rfl, hGs, hO, hB2⟩; obtain ⟨A, b, c, rfl, hSp, _⟩ := Sps.of_owns hO; have hz3 : w.heap.size + 1 < w2.heap.size := (by have := hB2.size; omega); have hz4 : w.heap.size < w2.heap.size := (by omega); obtain ⟨L, hL⟩ : ∃ L, L = lst fs (sts a) := ⟨_, rfl⟩; rw [← hL] at hSp ⊢; have hI2 : NcI a p v A b L w w2 := ⟨hN1.out.1.trans (hB2.mono (by omega)), hN1.out.2.1.below hB2 (by omega), (hB2.cell (p := ⟨w.heap.size + 1, 0, none⟩) hz1).trans hN1.out.2.2.1, (hB2.cell (p := ⟨w.heap.size + 1, 1, none⟩) hz1).trans hN1.out.2.2.2, hSp, hz3⟩; have hI2h := hid hI2; have hGsh := hid hGs; have hLh := hid hL; obtain ⟨y0, y1, y2, y3, y4, y5⟩ := hI2.ab.all; have d0 := hI2.d0; have d1 := hI2.d1; have hLn : L.length ≤ 697 := (by rw [hL]; exact Nat.le_trans (lst_len fs (sts a)) (by have := pre_len ok (List.prefix_refl (sts a)); omega)); clear hO hSp hI2 hGs hL hB2 hc1 hf1 hB1) | (go_at_call 16; refine (c16 a t p v _ ok ht hsth.out).mono ?_; rintro e w3 ⟨f0, hG0, (⟨hLo, rfl⟩ | ⟨n1, hn1, hNn, rfl⟩), hB3⟩ <;> (have hI3 := hid (hI2h.out.below hB3); have hz5 : w.heap.size + 1 < w3.heap.size := hI3.out.sz; have hz6 : w.heap.size < w3.heap.size := (by omega); obtain ⟨y0, y1, y2, y3, y4, y5⟩ := hI3.out.ab.all; have d0 := hI3.out.d0; have d1 := hI3.out.d1; (try have hin := hid ((lst_mem hLh.out hGsh.out).2 (lvl_safe hG0 hGsh.out hNn.1))); (try clear hNn); (try clear hLo); clear hG0 hB3)) | (go_at_call 19; refine (c19 A b c L p v _ hI3.out.sp (by omega)).mono ?_; rw [decide_eq_true hin.out]; rintro e w4 ⟨rfl, hB4⟩; have hI4 := hid (hI3.out.below hB4); have hz7 : w.heap.size + 1 < w4.heap.size := hI4.out.sz; clear hB4))
  all_goals
    clear y0 y1 y2 y3 y4 y5 d0 d1
    go_loopw [12] (fun iv wr => ∃ k : Nat, k ≤ L.length ∧ iv = .int .i64 (k : Nat) ∧ NcI a p v A b L w wr) (fun iv _ => L.length - (intOf iv).toNat)
    case atStart => exact ⟨0, Nat.zero_le _, rfl, by first | exact hI4.out | exact hI3.out⟩
    case round =>
      obtain ⟨k, hk, rfl, hI⟩ := hrel
      by_cases hlt : k < L.length
      · obtain ⟨X1, hX1⟩ : ∃ x, x = L[k].1 := ⟨_, rfl⟩
        obtain ⟨X2, hX2⟩ : ∃ x, x = L[k].2 := ⟨_, rfl⟩
        obtain ⟨O, hO⟩ : ∃ O, O = k * 2 := ⟨_, rfl⟩
        obtain ⟨K, hK⟩ : ∃ K : Int, K = (k : Nat) := ⟨_, rfl⟩
        have hIh := hid hI
        have hxs : Hid (stB a X1 X2 = true) := hid (by
          have hm : (X1, X2) ∈ L := by rw [hX1, hX2]; exact List.getElem_mem hlt
          exact (hGsh.out.1 X1 X2 ((lst_mem hLh.out hGsh.out).1 hm)).1)
        have c18t : Hid (∀ W : World, Calls Try.prog 18 #[a.v, .agg #[.int .i64 X1, .int .i64 X2]] W fun e w' => e = .returned (.bool true) ∧ Below W.heap.size W w') := hid fun W => by have := c18 a X1 X2 W ok; rw [hxs.out] at this; exact this
        have cs : Hid (∀ W, NcI a p v A b L w W → W.cell? ⟨b, O, none⟩ = some (.int .i64 X1) ∧ W.cell? ⟨b, O + 1, none⟩ = some (.int .i64 X2)) := hid fun W h => by
          have g0 := h.sp.c0 k hlt
          have g1 := h.sp.c1 k hlt
          rw [Nat.zero_add] at g0 g1
          rw [hO, hX1, hX2]
          exact ⟨g0, g1⟩
        have hix := @Sps.ix _ _ _ _ c _ hI.sp k hlt
        rw [Nat.zero_add, ← hO, ← hK] at hix
        have hlK : K < (L.length : Int) := by omega
        have hKh := hid hK
        rw [← hK]
        rcases Nat.eq_zero_or_pos k with h0 | h0
        · have hKd : decide ((0 : Int) < K) = false := decide_eq_false (by omega)
          have hK0 : K ≤ 0 := by omega
          have hKl : 0 ≤ K := by omega
          have hKz := hid (show K = 0 ∧ k = 0 from ⟨by omega, h0⟩)
          clear h0
          clear hI hX1 hX2 hO hK
          obtain ⟨k0, k1, k2, k3, k4, k5⟩ := (hIh.out.ab).all
          have z0 := cell_regrown k0
          have z1 := cell_regrown k1
          have z2 := cell_regrown k2
          have z3 := cell_regrown k3
          have z4 := cell_regrown k4
          have z5 := cell_regrown k5
          have z6 := cell_regrown (cs.out wr hIh.out).1
          have z7 := cell_regrown (cs.out wr hIh.out).2
          clear k0 k1 k2 k3 k4 k5
          go_wp2_with fail
          refine wp_region_quiet_below (by kernel_rfl) (by kernel_rfl) ?_; (repeat (go_big_quiet_step ((first | (go_at_call 18; exact Calls.regrown_of (c18t.out _)))))); refine wpQuiet_nil ?_; intro _ hw; obtain ⟨q, hwq⟩ := hw; subst hwq
          have hBq := below_regrown wr q.d q.os
          generalize grow (redrawn wr q.d) q.os = w14 at hBq ⊢
          clear z0 z1 z2 z3 z4 z5 z6 z7
          go_wp2_with fail
          go_roundw
          case rel => exact ⟨k + 1, by omega, by first | (have := hKz.out; simp only [Value.int.injEq, true_and]; omega) | (rw [hKz.out.2]; try rw [hKz.out.1]; go_num), hIh.out.below hBq⟩
          case measure => first | (have := hKz.out; simp [intOf]; omega) | (have := hKz.out; have e : intOf (.int .i64 (K + 1)) = K + 1 := rfl; have e2 : intOf (.int .i64 K) = K := rfl; rw [e, e2]; omega) | (have := hKz.out; simp only [intOf]; omega)
        · obtain ⟨j, rfl⟩ : ∃ j, k = j + 1 := ⟨k - 1, by omega⟩
          obtain ⟨Y1, hY1⟩ : ∃ x, x = L[j].1 := ⟨_, rfl⟩
          obtain ⟨Y2, hY2⟩ : ∃ x, x = L[j].2 := ⟨_, rfl⟩
          obtain ⟨O', hO'⟩ : ∃ O', O' = j * 2 := ⟨_, rfl⟩
          have hbf := order_at (by rw [hLh.out]; exact lst_order a fs : L.Pairwise before) hlt
          unfold before at hbf
          rw [← hX1, ← hX2, ← hY1, ← hY2] at hbf
          have hKd : decide ((0 : Int) < K) = true := decide_eq_true (by omega)
          have hKp : 0 < K := by omega
          have ewK : IntKind.i64.wrap (K - 1) = K - 1 := IntWalk.i64_in _ (by omega)
          have hix0 := @Sps.ix _ _ _ _ c _ hI.sp j (by omega)
          rw [Nat.zero_add, ← hO', show (j : Int) = K - 1 by omega] at hix0
          have g0 := hI.sp.c0 j (by omega)
          have g1 := hI.sp.c1 j (by omega)
          rw [Nat.zero_add, ← hO', ← hY1] at g0
          rw [Nat.zero_add, ← hO', ← hY2] at g1
          have z8 := cell_regrown g0
          have z9 := cell_regrown g1
          have hl1 : decide (X1 < Y1) = false := decide_eq_false (by omega)
          have hl1' : Y1 ≤ X1 := by omega
          clear hI hX1 hX2 hO hK hY1 hY2 hO' g0 g1
          rcases hbf with hbf | ⟨hbf, hbf2⟩
          · have he1 : (X1 == Y1) = false := by simp only [beq_eq_false_iff_ne]; omega
            have hne : ¬ X1 = Y1 := by omega
            obtain ⟨k0, k1, k2, k3, k4, k5⟩ := (hIh.out.ab).all
            have z0 := cell_regrown k0
            have z1 := cell_regrown k1
            have z2 := cell_regrown k2
            have z3 := cell_regrown k3
            have z4 := cell_regrown k4
            have z5 := cell_regrown k5
            have z6 := cell_regrown (cs.out wr hIh.out).1
            have z7 := cell_regrown (cs.out wr hIh.out).2
            clear k0 k1 k2 k3 k4 k5
            go_wp2_with fail
            refine wp_region_quiet_below (by kernel_rfl) (by kernel_rfl) ?_; (repeat (go_big_quiet_step ((first | (go_at_call 18; exact Calls.regrown_of (c18t.out _)))))); refine wpQuiet_nil ?_; intro _ hw; obtain ⟨q, hwq⟩ := hw; subst hwq
            have hBq := below_regrown wr q.d q.os
            generalize grow (redrawn wr q.d) q.os = w14 at hBq ⊢
            clear z0 z1 z2 z3 z4 z5 z6 z7 z8 z9
            go_wp2_with fail
            go_roundw
            case rel => exact ⟨j + 1 + 1, by omega, by have := hKh.out; simp only [Value.int.injEq, true_and]; omega, hIh.out.below hBq⟩
            case measure => have := hKh.out; simp [intOf]; omega
          · have he1 : (X1 == Y1) = true := by simp only [beq_iff_eq]; omega
            have hl2 : decide (X2 ≤ Y2) = false := decide_eq_false (by omega)
            have hbh := hid hbf
            clear hbf
            obtain ⟨k0, k1, k2, k3, k4, k5⟩ := (hIh.out.ab).all
            have z0 := cell_regrown k0
            have z1 := cell_regrown k1
            have z2 := cell_regrown k2
            have z3 := cell_regrown k3
            have z4 := cell_regrown k4
            have z5 := cell_regrown k5
            have z6 := cell_regrown (cs.out wr hIh.out).1
            have z7 := cell_regrown (cs.out wr hIh.out).2
            clear k0 k1 k2 k3 k4 k5
            go_wp2_with fail
            refine wp_region_quiet_below (by kernel_rfl) (by kernel_rfl) ?_; (repeat (go_big_quiet_step ((first | (go_at_call 18; exact Calls.regrown_of (c18t.out _)))))); refine wpQuiet_nil ?_; intro _ hw; obtain ⟨q, hwq⟩ := hw; subst hwq
            have hBq := below_regrown wr q.d q.os
            generalize grow (redrawn wr q.d) q.os = w14 at hBq ⊢
            clear z0 z1 z2 z3 z4 z5 z6 z7 z8 z9
            go_wp2_with fail
            go_roundw
            case rel => exact ⟨j + 1 + 1, by omega, by have := hKh.out; simp only [Value.int.injEq, true_and]; omega, hIh.out.below hBq⟩
            case measure => have := hKh.out; simp [intOf]; omega
      · obtain ⟨y0, y1, y2, y3, y4, y5⟩ := hI.ab.all
        have hIh := hid hI
        clear hI
        go_wp2_with fail
        clear y0 y1 y2 y3 y4 y5
        go_loopw [13, 14] (fun kv cv wr => ∃ (c : Int) (kb : Bool), cv = .int .i64 c ∧ kv = .bool kb ∧ (-(a.fo : Int) ≤ c ∧ c ≤ (a.fo : Int) + 1) ∧ NcI a p v A b L w wr ∧ Hid ((kb = true → cans a fs p v = true) ∧ (kb = false → ∀ i, -(a.fo : Int) ≤ i → i < c → okc a fs p v i = false))) (fun _ cv _ => ((a.fo : Int) + 1 - intOf cv).toNat)
        case atStart => exact ⟨-(a.fo : Int), false, by go_num, rfl, ⟨Int.le_refl _, by omega⟩, hIh.out, hid ⟨fun h => (by cases h), fun _ i h1 h2 => absurd h1 (by omega)⟩⟩
        case round =>
          clear hIh
          obtain ⟨cc, kb, rfl, rfl, ⟨hc1, hc2⟩, hI, hk3⟩ := hrel
          have hIh := hid hI
          obtain ⟨y0, y1, y2, y3, y4, y5⟩ := hI.ab.all
          have d0 := hI.d0
          have d1 := hI.d1
          have hsz1 := hI.sz
          have hsz0 : w.heap.size < wr.heap.size := by omega
          clear hI
          cases kb with
          | true =>
            have hin : Hid ((p, v) ∈ L) := hid ((lst_mem hLh.out hGsh.out).2 (by rw [safe_cans hGsh.out hsth.out]; exact hk3.out.1 rfl))
            go_wp2_with (first | (go_at_call 19; refine (c19 A b c L p v _ hIh.out.sp (by omega)).mono ?_; rw [decide_eq_true hin.out]; rintro e w8 ⟨rfl, hB8⟩) | (go_at_call 14; refine (c14 _).mono ?_; rintro e w9 ⟨rfl, hB9⟩))
            all_goals
              go_returns
              exact ⟨rfl, (hIh.out.below hB8).bel.trans (hB9.mono (by have := hB8.size; omega))⟩
          | false =>
            by_cases hcf : cc ≤ (a.fo : Int)
            · go_wp2_with fail
              clear y0 y1 y2 y3 y4 y5 d0 d1
              go_loopw [13, 15] (fun kv sv wr => ∃ (s : Int) (kb : Bool), sv = .int .i64 s ∧ kv = .bool kb ∧ (-(a.sh : Int) ≤ s ∧ s ≤ (a.sh : Int) + 1) ∧ NcI a p v A b L w wr ∧ Hid (kb = true ↔ ∀ i, -(a.sh : Int) ≤ i → i < s → fs (p + (v + (cc + i))) (v + (cc + i)) = true)) (fun _ sv _ => ((a.sh : Int) + 1 - intOf sv).toNat)
              case atStart => exact ⟨-(a.sh : Int), true, by go_num, rfl, ⟨Int.le_refl _, by omega⟩, hIh.out, hid ⟨fun _ i h1 h2 => absurd h1 (by omega), fun _ => rfl⟩⟩
              case round =>
                clear hIh hsz1 hsz0
                obtain ⟨s, kb, rfl, rfl, ⟨hs1, hs2⟩, hI, hk4⟩ := hrel
                have hIh := hid hI
                obtain ⟨y0, y1, y2, y3, y4, y5⟩ := hI.ab.all
                have d0 := hI.d0
                have d1 := hI.d1
                have hsz1 := hI.sz
                have hsz0 : w.heap.size < wr.heap.size := by omega
                clear hI
                by_cases hsl : s ≤ (a.sh : Int)
                · obtain ⟨o1, ho1⟩ : ∃ o, o = p + (v + cc + s) := ⟨_, rfl⟩
                  obtain ⟨o2, ho2⟩ : ∃ o, o = v + cc + s := ⟨_, rfl⟩
                  have c20o : Hid (Calls Try.prog 20 #[a.v, .agg #[.int .i64 p, .int .i64 v], .int .i64 cc, .int .i64 s] wr fun e w' => e = .returned (.tuple #[.agg #[.int .i64 o1, .int .i64 o2], .bool (stB a o1 o2)]) ∧ Below wr.heap.size wr w') := hid (by
                    have := c20 a p v cc s wr ok (by omega) (by omega) (by omega) (by omega)
                    rw [← ho1, ← ho2] at this
                    exact this)
                  have hstep : Hid (∀ kb' : Bool, kb' = (kb && fs o1 o2) → (kb' = true ↔ ∀ i, -(a.sh : Int) ≤ i → i < s + 1 → fs (p + (v + (cc + i))) (v + (cc + i)) = true)) := hid fun kb' he => by
                    have h5 := hk4.out
                    have eo : fs (p + (v + (cc + s))) (v + (cc + s)) = fs o1 o2 := by rw [ho1, ho2, show v + (cc + s) = v + cc + s by omega]
                    rw [he, Bool.and_eq_true]
                    constructor
                    · rintro ⟨k1, k2⟩ i i1 i2
                      by_cases e : i = s
                      · subst e; rw [eo]; exact k2
                      · exact h5.1 k1 i i1 (by omega)
                    · intro h
                      exact ⟨h5.2 fun i i1 i2 => h i i1 (by omega), by rw [← eo]; exact h s hs1 (by omega)⟩
                  have hfst : Hid (fs o1 o2 = true → stB a o1 o2 = true) := hid fun h => (hGsh.out.1 o1 o2 h).1
                  have hmem : Hid ((o1, o2) ∈ L ↔ fs o1 o2 = true) := hid (lst_mem hLh.out hGsh.out)
                  clear ho1 ho2
                  cases kb with
                  | false =>
                    go_wp2_with (go_at_call 20; refine c20o.out.mono ?_; rintro e w6 ⟨rfl, hB6⟩)
                    go_roundw
                    case rel => exact ⟨s + 1, false, by go_num, rfl, ⟨by omega, by omega⟩, hIh.out.below (hB6.alloc hB6.size _), hid (hstep.out false rfl)⟩
                    case measure => simp [intOf]; omega
                  | true =>
                    cases hsb : stB a o1 o2 with
                    | false =>
                      have hff : fs o1 o2 = false := by
                        cases e : fs o1 o2 with
                        | false => rfl
                        | true => have := hfst.out e; rw [hsb] at this; cases this
                      have hsbh := hid hsb; have hffh := hid hff
                      clear hsb hff
                      go_wp2_with (go_at_call 20; refine c20o.out.mono ?_; rw [hsbh.out]; rintro e w6 ⟨rfl, hB6⟩)
                      go_roundw
                      case rel => exact ⟨s + 1, false, by go_num, rfl, ⟨by omega, by omega⟩, hIh.out.below (hB6.alloc hB6.size _), hid (hstep.out false (by rw [hffh.out]; rfl))⟩
                      case measure => simp [intOf]; omega
                    | true =>
                      have hsbh := hid hsb
                      clear hsb
                      go_wp2_with (first | (go_at_call 20; refine c20o.out.mono ?_; rw [hsbh.out]; rintro e w6 ⟨rfl, hB6⟩; have hI6 := hid (hIh.out.below (hB6.alloc hB6.size (.cells #[.int .i64 o1, .int .i64 o2] 25)))) | (go_at_call 19; refine (c19 A b c L o1 o2 _ hI6.out.sp (by omega)).mono ?_; rw [show decide ((o1, o2) ∈ L) = fs o1 o2 from by (cases e : fs o1 o2 with | true => exact decide_eq_true (hmem.out.2 e) | false => exact decide_eq_false (fun h => by rw [hmem.out, e] at h; cases h))]; rintro e w7 ⟨rfl, hB7⟩))
                      go_roundw
                      case rel => exact ⟨s + 1, fs o1 o2, by go_num, rfl, ⟨by omega, by omega⟩, hI6.out.below hB7, hid (hstep.out (fs o1 o2) (by rw [Bool.true_and]))⟩
                      case measure => simp [intOf]; omega
                · have hok : Hid (kb = okc a fs p v cc) := hid (by
                    have h6 : s = (a.sh : Int) + 1 := by omega
                    have h7 : kb = true ↔ okc a fs p v cc = true := by
                      rw [hk4.out, okc_iff]
                      exact ⟨fun h i i1 i2 => h i i1 (by omega), fun h i i1 i2 => h i i1 (by omega)⟩
                    cases kb <;> cases e : okc a fs p v cc <;> simp_all)
                  go_wp2_with fail
                  go_roundw
                  case rel =>
                    refine ⟨cc + 1, kb, by go_num, rfl, ⟨by omega, by omega⟩, hIh.out, hid ⟨fun h => ?_, fun h i i1 i2 => ?_⟩⟩
                    · rw [hok.out] at h
                      exact cans_iff.2 ⟨cc, ⟨hc1, hcf⟩, h⟩
                    · by_cases e : i = cc
                      · subst e; rw [← hok.out]; exact h
                      · exact hk3.out.2 (by first | rfl | trivial) i i1 (by omega)
                  case measure => simp [intOf]; omega
            · have hnin : Hid ((p, v) ∉ L) := hid fun hm => by
                have h1 := (lst_mem hLh.out hGsh.out).1 hm
                rw [safe_cans hGsh.out hsth.out, cans_iff] at h1
                obtain ⟨i, ⟨i1, i2⟩, h3⟩ := h1
                rw [hk3.out.2 rfl i i1 (by omega)] at h3
                cases h3
              go_wp2_with (first | (go_at_call 19; refine (c19 A b c L p v _ hIh.out.sp (by omega)).mono ?_; rw [decide_eq_false hnin.out]; rintro e w8 ⟨rfl, hB8⟩) | (go_at_call 14; refine (c14 _).mono ?_; rintro e w9 ⟨rfl, hB9⟩))
              all_goals
                go_returns
                exact ⟨rfl, (hIh.out.below hB8).bel.trans (hB9.mono (by have := hB8.size; omega))⟩
theorem c7 (la sp fo sh ga sl t p v : Int) (w : World) : Calls Try.prog 7 #[.agg #[.int .i64 la, .int .i64 sp, .int .i64 fo, .int .i64 sh, .int .i64 ga, .int .i64 sl], .int .i64 t, .agg #[.int .i64 p, .int .i64 v]] w fun e w' => e = .returned (.bool true) ∧ Below w.heap.size w w' := by
  by_cases hV : Vld la sp fo sh ga sl t p v
  · have hV2 := hV
    obtain ⟨⟨⟨a1, a2⟩, ⟨b1, b2⟩, ⟨c1, c2⟩, ⟨d1, d2⟩, ⟨g1, g2⟩, g3, g4⟩, ⟨t1, t2⟩, ⟨⟨s1, s2⟩, s3, s4⟩, k1, k2⟩ := hV
    obtain ⟨la, rfl⟩ := Int.eq_ofNat_of_zero_le a1
    obtain ⟨sp, rfl⟩ := Int.eq_ofNat_of_zero_le b1
    obtain ⟨fo, rfl⟩ := Int.eq_ofNat_of_zero_le c1
    obtain ⟨sh, rfl⟩ := Int.eq_ofNat_of_zero_le d1
    obtain ⟨ga, rfl⟩ := Int.eq_ofNat_of_zero_le g1
    obtain ⟨sl, rfl⟩ := Int.eq_ofNat_of_zero_le g3
    obtain ⟨t, rfl⟩ := Int.eq_ofNat_of_zero_le t1
    exact c7y ⟨la, sp, fo, sh, ga, sl⟩ t p v w ⟨by show la ≤ 40; omega, by show sp ≤ 8; omega, by show fo ≤ 4; omega, by show sh ≤ 2; omega, by show ga ≤ 4; omega, by show sl ≤ sp; omega⟩ (by show t ≤ la; omega) (stB_iff.2 ⟨⟨s1, by show p ≤ (la : Int); omega⟩, by show -(sp : Int) ≤ v; omega, by show v ≤ (sp : Int); omega⟩) hV2
  · exact c7n la sp fo sh ga sl t p v w hV
end Go.Proofs.Ytajllhjoagldkaa
