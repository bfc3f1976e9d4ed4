/- Texts put together: To. -/
import Derived.Test.YtkafjlhmbiaicaaG26
import Derived.Lib.QuietBelow
import Derived.Deep.AppendLies
/- Stage 2: the law of the ends. -/
set_option linter.unusedSimpArgs false
set_option linter.unusedVariables false
namespace Go.Proofs.Ytkafjlhmbiaicaa
open Go.RowKit Go.Sort Go.BigFrame

set_option maxRecDepth 100000 in
set_option maxHeartbeats 16000000 in
theorem c6_go (s : Sv) (g : Wg) (x : Int) (w : World) (hz : s.In w) (hg : g.In w) (hv0 : ValP s g) (hn : 0 < g.wn) (hmn : mn s.N (fl s g) ≤ s.wr) :
    Calls Try.prog 6 #[s.v, g.v, .int .i64 x] w fun e w' => e = .returned (.bool true) ∧ Below w.heap.size w w' := by
  obtain ⟨ok, okg, hn8, hr40⟩ := hv0.ok
  obtain ⟨i0, ie0, ie1, ie2, ie3⟩ := info_parts Try.info3
  have hB0 : Below w.heap.size w (w.alloc (.cells #[.int .i64 s.tr, .int .i64 s.st, .int .i64 s.mv, .int .i64 s.no, .int .i64 s.wr, .slice s.ra s.rn s.rc] 30)) := (Below.refl _ _).alloc (Nat.le_refl _) _
  have sv0 := Svb.new s w
  have hv := hid hv0
  have okh := hid ok
  have okgh := hid okg
  have hN := ok.Nb
  have hN1 := hN.1; have hN2 := hN.2.1
  have hn0 : ((g.wn : Int) == 0) = false := by simp; omega
  have hE0 := hid (ahE_ok (s := s) (g := g) (told := True) (ckE_ok ok okg) trivial hmn)
  obtain ⟨L, hL00⟩ : ∃ L, L = aheadL s g 0 := ⟨_, rfl⟩
  have hL0 : Hid (ahL s g True 0 = L) := hid (by rw [ahL_ok hE0.out, hL00])
  have hLh := hid hL00
  have hlp : 0 < L.length := by rw [hL00]; exact ahead_pos ok hmn
  have hlN : L.length ≤ s.N := by rw [hL00]; exact ahead_len s g 0
  have hl0 : L.length ≤ 10000 := by omega
  have hne : ((L.length : Int) == 0) = false := beq_false_of_ne (by omega)
  have hlw := hid (lastW_ok ok)
  clear hv0 ok okg hN hmn hL00
  go_enter Try.func6, Try.ntmps6
  go_wp2_with (first | (go_at_call 16; refine (c16y s g _ (hz.below hB0 (Nat.le_refl _)) (hg.below hB0 (Nat.le_refl _)) hv.out).mono ?_; rintro e w1 ⟨rfl, hB1⟩; have hz1 : w.heap.size + 1 ≤ w1.heap.size := (by have := hB1.size; simp at this; omega); have hBx : Below w.heap.size w w1 := hB0.trans (hB1.mono (by simp)); have sv1 := sv0.below hB1 (by simp); obtain ⟨k0, k1, k2, k3, k4, k5⟩ := sv1.all) | (go_at_call 18; refine (c18 s g _ (hz.below hBx (Nat.le_refl _)) (hg.below hBx (Nat.le_refl _)) (by omega) (by omega)).mono ?_; rw [hL0.out, hE0.out]; rintro e w3 ⟨v3, rfl, hown3, hB3⟩; obtain ⟨va, vg, vc, rfl, hsp3⟩ := SpIn.of_owns hown3; clear hown3; have hBy : Below w.heap.size w w3 := hBx.trans (hB3.mono hBx.size); have sv3 := sv1.below hB3 (by omega); have hz3 : w.heap.size + 1 ≤ w3.heap.size := Nat.le_trans hz1 hB3.size))
  have hown0 := hid (own_one w3 x w3.heap.size (Nat.le_refl _))
  have hB34 : Below w3.heap.size w3 (w3.alloc (.cells #[.int .i64 x] 3)) := (Below.refl _ _).alloc (Nat.le_refl _) _
  have ixs := hid (fun k hk => @SpIn.ix _ _ _ vc _ hsp3 k hk)
  have hsph := hid hsp3
  clear hsp3 k0 k1 k2 k3 k4 k5
  go_loopw [9, 10] (fun av iv wr => ∃ (k : Nat) (fa : Nat → Int), k ≤ L.length ∧ iv = .int .i64 k ∧ wr.ownsRow w3.heap.size 3 1 av (2 * k + 1) (vals (2 * k + 1) fa) ∧ Below w3.heap.size w3 wr) (fun _ iv _ => L.length - (intOf iv).toNat)
  case atStart => exact ⟨0, fun _ => x, Nat.zero_le _, rfl, hown0.out, hB34⟩
  case round =>
    obtain ⟨k, fa, hk, rfl, hown, hB⟩ := hrel
    rename World => wo
    have hownh := hid hown
    have hso := hB.size
    have HWo : Below w.heap.size w wo := hBy.trans (hB.mono (by omega))
    clear hown hown0 hB34
    by_cases hlt : k < L.length
    · have hspo := hsph.out.below hB (Nat.le_refl _)
      have a1 := hspo.c1 k hlt
      have a2 := hspo.c2 k hlt
      have g1 : lo L k ≤ hi L k := by rw [hLh.out] at hlt ⊢; exact ahead_lohi hlt
      have g2 : hi L k < s.N := by rw [hLh.out] at hlt ⊢; exact (ahead_in hlt).2.1
      have g3 : 0 < k → hi L (k - 1) + 1 < lo L k := fun h0 => by
        rw [hLh.out] at hlt ⊢
        have := ahead_apart (s := s) (g := g) (d := 0) (k := k - 1) (by omega)
        rwa [show k - 1 + 1 = k by omega] at this
      have g4 : 0 < k → hi L (k - 1) < s.N := fun h0 => by
        have h1 : k - 1 < L.length := by omega
        rw [hLh.out] at h1 ⊢
        exact (ahead_in h1).2.1
      have b1 := fun h0 : 0 < k => hspo.c2 (k - 1) (show k - 1 < L.length by omega)
      have j2 := fun h0 : 0 < k => ixs.out (k - 1) (show k - 1 < L.length by omega)
      have j1 := ixs.out k hlt
      generalize lo L k = a at a1 g1 g3
      generalize hi L k = b at a2 g1 g2
      generalize hi L (k - 1) = c at b1 g3 g4
      have hkN : k < 1009 := by omega
      have y1 := cell_regrown a1
      have y2 := cell_regrown a2
      have hvl : vg < wo.heap.size := hspo.lt k hlt
      have hvl3 : vg < w3.heap.size := hsph.out.lt k hlt
      obtain ⟨q0, q1, q2, q3, q4, q5⟩ := (sv3.below hB (by omega)).all
      have t0 := cell_regrown q0; have t1 := cell_regrown q1; have t2 := cell_regrown q2; have t3 := cell_regrown q3; have t4 := cell_regrown q4; have t5 := cell_regrown q5
      have d0 : decide ((a : Int) < 0) = false := decide_eq_false (by omega)
      have d1 : decide ((b : Int) < (a : Int)) = false := decide_eq_false (by omega)
      have d2 : decide (b < a) = false := decide_eq_false (by omega)
      have d3 : decide ((s.N : Int) - 1 < (b : Int)) = false := decide_eq_false (by omega)
      clear q0 q1 q2 q3 q4 q5 hspo
      by_cases hk1 : 0 < k
      · have b1' := b1 hk1
        have y3 := cell_regrown b1'
        have j2' := j2 hk1
        rw [show ((k - 1 : Nat) : Int) = (k : Int) - 1 by omega] at j2'
        have g3' := g3 hk1
        have g4' := g4 hk1
        have d4 : decide ((a : Int) ≤ (c : Int) + 1) = false := decide_eq_false (by omega)
        have d5 : decide (a ≤ c + 1) = false := decide_eq_false (by omega)
        clear b1 j2 g3 g4 b1'
        go_wp2_with fail
        refine wp_region_quiet_below (by kernel_rfl) (by kernel_rfl) ?_; (repeat (go_big_quiet_step ((first | (go_at_call 27; exact Calls.regrown_of (c27 s _ okh.out)))))); refine wpQuiet_nil ?_; intro _ hw; obtain ⟨q, hwq⟩ := hw; subst hwq
        have hBq := below_regrown wo q.d q.os
        generalize grow (redrawn wo q.d) q.os = w14 at hBq ⊢
        clear y1 y2 y3 t0 t1 t2 t3 t4 t5 d0 d1 d2 d3 d4 d5
        have hown14 := hid (owns_below hownh.out hBq (Nat.le_refl _))
        have e1 : w14.cell? ⟨vg, k * 2, none⟩ = some (.int .i64 (a : Nat)) := (hBq.cell (p := ⟨vg, k * 2, none⟩) hvl).trans a1
        have e2 : w14.cell? ⟨vg, k * 2 + 1, none⟩ = some (.int .i64 (b : Nat)) := (hBq.cell (p := ⟨vg, k * 2 + 1, none⟩) hvl).trans a2
        have hs14 := hBq.size
        have hvl14 : vg < w14.heap.size := by omega
        have hB14 : Below w3.heap.size w3 w14 := hB.trans (hBq.mono hso)
        clear a1 a2
        go_wp2
        go_region_held3 (fun w' => w'.cell? ⟨vg, k * 2, none⟩ = some (.int .i64 (a : Nat)) ∧ w'.cell? ⟨vg, k * 2 + 1, none⟩ = some (.int .i64 (b : Nat)))
          (first | go_keep | (go_split_ands; refine ⟨?_, ?_⟩ <;> (rw [hgrow.cell_far _ (by simp; omega) (by intro e; have h9 := (hown14.out.lt _ e.symm).1; dsimp only at h9; omega)]; assumption)))
          ((refine step_append_lies _ (by rfl) _ _ _ (by rfl) w3.heap.size 3 i0 _ 1 8 Try.underlying28 ie0 ie1 ie2 ie3 rfl (by omega) _ (2 * k + 1) _ (by rfl) ((hown14.out.alloc _).drew) ⟨w14.heap.size, 0, none⟩ 2 2 [.int .i64 (a : Nat), .int .i64 (b : Nat)] (by rfl) (by rfl) (World.news_of_block (cs := #[.int .i64 (a : Nat), .int .i64 (b : Nat)]) (t := 3) (fr := (0, 0)) (heap_new w14 _)) (by simp [Value.oneCell']) (by omega) (by unfold maxLen; omega) (by omega) (by simp; exact Nat.le_succ_of_le hB14.size) (w14.heap.size + 1) (by simp) ?_; intro gg cap w7 hown7 hgrow hat hlt7))
        have hB7 : Below w3.heap.size w3 w7 := ((hB14.alloc hB14.size _).drew).grown hgrow (by simp; exact Nat.le_succ_of_le hB14.size) (fun q e => (hown14.out.lt q e).1)
        clear hgrow hat
        go_wp2
        go_roundw
        case rel => exact ⟨k + 1, two fa (2 * k + 1) a b, by omega, by go_num, by rw [show 2 * (k + 1) + 1 = 2 * k + 1 + 2 by omega, vals_two]; exact hown7, hB7⟩
        case measure => simp [intOf]; omega
      · have hkd : decide (0 < k) = false := by simpa using hk1
        have hkd2 : decide ((0 : Int) < (k : Int)) = false := by simpa using hk1
        clear hk1 b1 j2 g3 g4
        go_wp2_with fail
        refine wp_region_quiet_below (by kernel_rfl) (by kernel_rfl) ?_; (repeat (go_big_quiet_step ((first | (go_at_call 27; exact Calls.regrown_of (c27 s _ okh.out)))))); refine wpQuiet_nil ?_; intro _ hw; obtain ⟨q, hwq⟩ := hw; subst hwq
        have hBq := below_regrown wo q.d q.os
        generalize grow (redrawn wo q.d) q.os = w14 at hBq ⊢
        clear y1 y2  t0 t1 t2 t3 t4 t5 d0 d1 d2 d3 
        have hown14 := hid (owns_below hownh.out hBq (Nat.le_refl _))
        have e1 : w14.cell? ⟨vg, k * 2, none⟩ = some (.int .i64 (a : Nat)) := (hBq.cell (p := ⟨vg, k * 2, none⟩) hvl).trans a1
        have e2 : w14.cell? ⟨vg, k * 2 + 1, none⟩ = some (.int .i64 (b : Nat)) := (hBq.cell (p := ⟨vg, k * 2 + 1, none⟩) hvl).trans a2
        have hs14 := hBq.size
        have hvl14 : vg < w14.heap.size := by omega
        have hB14 : Below w3.heap.size w3 w14 := hB.trans (hBq.mono hso)
        clear a1 a2
        go_wp2
        go_region_held3 (fun w' => w'.cell? ⟨vg, k * 2, none⟩ = some (.int .i64 (a : Nat)) ∧ w'.cell? ⟨vg, k * 2 + 1, none⟩ = some (.int .i64 (b : Nat)))
          (first | go_keep | (go_split_ands; refine ⟨?_, ?_⟩ <;> (rw [hgrow.cell_far _ (by simp; omega) (by intro e; have h9 := (hown14.out.lt _ e.symm).1; dsimp only at h9; omega)]; assumption)))
          ((refine step_append_lies _ (by rfl) _ _ _ (by rfl) w3.heap.size 3 i0 _ 1 8 Try.underlying28 ie0 ie1 ie2 ie3 rfl (by omega) _ (2 * k + 1) _ (by rfl) ((hown14.out.alloc _).drew) ⟨w14.heap.size, 0, none⟩ 2 2 [.int .i64 (a : Nat), .int .i64 (b : Nat)] (by rfl) (by rfl) (World.news_of_block (cs := #[.int .i64 (a : Nat), .int .i64 (b : Nat)]) (t := 3) (fr := (0, 0)) (heap_new w14 _)) (by simp [Value.oneCell']) (by omega) (by unfold maxLen; omega) (by omega) (by simp; exact Nat.le_succ_of_le hB14.size) (w14.heap.size + 1) (by simp) ?_; intro gg cap w7 hown7 hgrow hat hlt7))
        have hB7 : Below w3.heap.size w3 w7 := ((hB14.alloc hB14.size _).drew).grown hgrow (by simp; exact Nat.le_succ_of_le hB14.size) (fun q e => (hown14.out.lt q e).1)
        clear hgrow hat
        go_wp2
        go_roundw
        case rel => exact ⟨k + 1, two fa (2 * k + 1) a b, by omega, by go_num, by rw [show 2 * (k + 1) + 1 = 2 * k + 1 + 2 by omega, vals_two]; exact hown7, hB7⟩
        case measure => simp [intOf]; omega
    · obtain rfl : k = L.length := by omega
      obtain ⟨gb, cap, rfl, hgb, hcap⟩ := own_pos0 hownh.out (by omega)
      have hRow := hid (RowF.of_owns hownh.out)
      have hbase := hsph.out.below hB (Nat.le_refl _)
      have svo := sv3.below hB (by omega)
      have hspo := hid hbase
      clear hbase hownh hk hlt
      obtain ⟨M, hM⟩ : ∃ M, M = 2 * L.length + 1 := ⟨_, rfl⟩
      have hMb : M ≤ 3000 := by omega
      rw [← hM] at hRow hcap ⊢
      have hixh := hid (fun i (hi : i < M) => @ixInt gb M cap i hi)
      clear hM
      go_wp2_with fail
      go_loopw [11, 12, 13] (fun iv _ _ wr => ∃ i : Nat, i ≤ M ∧ iv = .int .i64 i ∧ Below wo.heap.size wo wr) (fun iv _ _ _ => M - (intOf iv).toNat)
      case atStart => exact ⟨0, Nat.zero_le _, rfl, Below.refl _ _⟩
      case round =>
        obtain ⟨i, hi, rfl, hB2⟩ := hrel
        rename World => wi
        have hs2 := hB2.size
        have HWi : Below w.heap.size w wi := HWo.trans (hB2.mono (by omega))
        by_cases hlt : i < M
        · obtain ⟨a, ha⟩ : ∃ a, a = fa i := ⟨_, rfl⟩
          have haf := hid ha.symm
          have hRi := hid (hRow.out.below hB2 hRow.out.lt)
          have svi := svo.below hB2 (by omega)
          have hspi := hid (hspo.out.below hB2 (Nat.le_refl _))
          have hwil : w.heap.size < wi.heap.size := by omega
          have j1 := hixh.out i hlt
          have hi3 : i < 3000 := by omega
          clear ha
          by_cases hin : 0 ≤ a ∧ a ≤ (s.N : Int) - 1
          · have d0 : decide (a < 0) = false := decide_eq_false (by omega)
            have d1 : decide ((s.N : Int) - 1 < a) = false := decide_eq_false (by omega)
            by_cases hsi : inSp L a
            · have hE := hid (trE_in okh.out okgh.out hn hin (by rw [← hLh.out]; exact hsi))
              have hsih := hid hsi
              have hinh := hid hin
              have hwn := okgh.out.n2
              obtain ⟨n1, hn1⟩ : ∃ n1 : Nat, g.wn = n1 + 1 := ⟨g.wn - 1, by omega⟩
              have hn1h := hid hn1
              have ew : IntKind.i64.wrap ((g.wn : Int) - 1) = (n1 : Int) := by rw [IntWalk.i64_in _ (by omega)]; omega
              have hn1l : n1 < g.wn := by omega
              clear hn1 hsi hin
              have c1 := hRi.out.cell hlt
              rw [haf.out] at c1
              have hgl := hRi.out.lt
              go_wp2_with fail
              go_region_held3 (fun w' => w'.cell? ⟨gb, i, none⟩ = some (.int .i64 a) ∧ w'.cell? ⟨w.heap.size, 0, none⟩ = some (.int .i64 s.tr) ∧ w'.cell? ⟨w.heap.size, 1, none⟩ = some (.int .i64 s.st) ∧ w'.cell? ⟨w.heap.size, 2, none⟩ = some (.int .i64 s.mv) ∧ w'.cell? ⟨w.heap.size, 3, none⟩ = some (.int .i64 s.no) ∧ w'.cell? ⟨w.heap.size, 4, none⟩ = some (.int .i64 s.wr) ∧ w'.cell? ⟨w.heap.size, 5, none⟩ = some (.slice s.ra s.rn s.rc)) (first | exact ⟨c1, svi.all⟩ | exact ⟨hkc, hk4.all⟩ | go_keep) (first | (go_at_call 28; refine (c28_0 hE.out (hz.below (by first | exact HWi | exact HWi.drew | (repeat' (first | (with_reducible exact Below.refl _ _) | (with_reducible assumption) | (with_reducible refine Below.alloc ?_ ?_ _) | (with_reducible refine Below.drew ?_) | (with_reducible refine below_drewN ?_ _) | (with_reducible refine Below.setCell ?_ ?_ _) | (with_reducible refine Below.trans ?_ (Below.mono (by with_reducible assumption) ?_)) | go_size))) (Nat.le_refl _)) (hg.below (by first | exact HWi | exact HWi.drew | (repeat' (first | (with_reducible exact Below.refl _ _) | (with_reducible assumption) | (with_reducible refine Below.alloc ?_ ?_ _) | (with_reducible refine Below.drew ?_) | (with_reducible refine below_drewN ?_ _) | (with_reducible refine Below.setCell ?_ ?_ _) | (with_reducible refine Below.trans ?_ (Below.mono (by with_reducible assumption) ?_)) | go_size))) (Nat.le_refl _)) (by omega) (by omega)).mono ?_; rintro e w4 ⟨b, P, rfl, hb, hR, p1, p2, p3, hB4⟩; have hk4 : Svb s w4 w.heap.size := Svb.below (w := wi.drew) svi hB4 hwil; have hkc : w4.cell? ⟨gb, i, none⟩ = some (.int .i64 a) := (hB4.cell (p := ⟨gb, i, none⟩) hgl).trans c1; have hRh := hid hR; have p1h := hid p1; have p2h := hid p2; have p3h := hid p3; clear hR p1 p2 p3))
              have hbw4 : Below wi.heap.size wi w4 := Below.trans (Below.refl wi.heap.size wi).drew hB4
              clear hB4 hkc hk4 c1
              go_wp2_with fail
              have cc := (hRi.out.below hbw4 hRi.out.lt).cell hlt
              rw [haf.out] at cc
              obtain ⟨q0, q1, q2, q3, q4, q5⟩ := (svi.below hbw4 hwil).all
              have y1 := cell_regrown cc
              have t0 := cell_regrown q0; have t1 := cell_regrown q1; have t2 := cell_regrown q2; have t3 := cell_regrown q3; have t4 := cell_regrown q4; have t5 := cell_regrown q5
              clear cc q0 q1 q2 q3 q4 q5
              refine wp_region_quiet_below (by kernel_rfl) (by kernel_rfl) ?_; (repeat (go_big_quiet_step ((first | (go_at_call 27; exact Calls.regrown_of (c27 s _ okh.out)))))); refine wpQuiet_nil ?_; intro _ hw; obtain ⟨q, hwq⟩ := hw; subst hwq
              have hqw5 := below_regrown w4 q.d q.os
              generalize grow (redrawn w4 q.d) q.os = w5 at hqw5 ⊢
              clear y1 t0 t1 t2 t3 t4 t5
              have hbw5 : Below wi.heap.size wi w5 := hbw4.trans (hqw5.mono hbw4.size)
              have hRh5 := hid (hRh.out.below hqw5 hRh.out.lt)
              have cc5 := (hRi.out.below hbw5 hRi.out.lt).cell hlt
              rw [haf.out] at cc5
              go_wp2_with (go_at_call 21; refine (c21y (hspi.out.below hbw5 (Nat.le_refl _)) hl0 hsih.out).mono ?_; rintro e w6 ⟨rfl, hB6⟩)
              have hbw6 : Below wi.heap.size wi w6 := hbw5.trans (hB6.mono hbw5.size)
              have hRh6 := hid (hRh5.out.below hB6 hRh5.out.lt)
              have HW6 : Below w.heap.size w w6 := HWi.trans (hbw6.mono HWi.size)
              have hPx : ((P n1 : Nat) : Int) = a := by have h1 := p2h.out; have h2 := hn1h.out; have h3 := hinh.out; rw [h2, show n1 + 1 - 1 = n1 by omega] at h1; omega
              have hcx := hRh6.out.cell hn1l
              rw [hPx] at hcx
              have z1 := cell_regrown hcx
              have z2 := @ixInt b g.wn g.wn n1 hn1l
              obtain ⟨cv, hcv⟩ : ∃ cv, cv = cst (agr s g) (pos fun k => ((P k : Nat) : Int)) g.wn := ⟨_, rfl⟩
              have hcw : cv ≤ s.wr := by rw [hcv, show (pos fun k => ((P k : Nat) : Int)) = P from funext fun k => Int.toNat_natCast (P k)]; exact p3h.out
              have d2 : decide (s.wr < cv) = false := decide_eq_false (by omega)
              have hcvh := hid hcv
              have hpp := hid (pth_path okh.out p1h.out)
              clear hPx hcx hcv cc5
              have cc := (hRi.out.below hbw6 hRi.out.lt).cell hlt
              rw [haf.out] at cc
              obtain ⟨q0, q1, q2, q3, q4, q5⟩ := (svi.below hbw6 hwil).all
              have y1 := cell_regrown cc
              have t0 := cell_regrown q0; have t1 := cell_regrown q1; have t2 := cell_regrown q2; have t3 := cell_regrown q3; have t4 := cell_regrown q4; have t5 := cell_regrown q5
              clear cc q0 q1 q2 q3 q4 q5
              refine wp_region_quiet_below (by kernel_rfl) (by kernel_rfl) ?_; (repeat (go_big_quiet_step ((first | (go_at_call 29; exact Calls.regrown_of (c29y (g := g) okh.out ((hRh6.out.below (below_regrown _ _ _) hRh6.out.lt).ints) (show g.wn ≤ 1000 by omega) ⟨hpp.out, rfl⟩)) | (go_at_call 22; exact Calls.regrown_of (hcvh.out ▸ c22 s g _ b 0 g.wn g.wn (fun k => ((P k : Nat) : Int)) _ (hz.below (HW6.trans (Below.mono (below_regrown _ _ _) HW6.size)) (Nat.le_refl _)) (hg.below (HW6.trans (Below.mono (below_regrown _ _ _) HW6.size)) (Nat.le_refl _)) okh.out okgh.out ((hRh6.out.below (below_regrown _ _ _) hRh6.out.lt).ints) (Nat.le_refl _) (fun k hk => (hpp.out k hk).1))))))); refine wpQuiet_nil ?_; intro _ hw; obtain ⟨q, hwq⟩ := hw; subst hwq
              have hqw7 := below_regrown w6 q.d q.os
              generalize grow (redrawn w6 q.d) q.os = w7 at hqw7 ⊢
              clear y1 t0 t1 t2 t3 t4 t5
              have hbw7 : Below wi.heap.size wi w7 := hbw6.trans (hqw7.mono hbw6.size)
              clear z1 z2
              go_wp2
              go_roundw
              case rel => exact ⟨i + 1, by omega, by go_num, hB2.trans (hbw7.mono hB2.size)⟩
              case measure => simp [intOf]; omega
            · have hE := hid (trE_off okh.out okgh.out hn hin (by rw [← hLh.out]; exact hsi))
              have hsih := hid hsi
              clear hsi hin
              go_wp2_with fail
              have cc := (hRi.out.below (Below.refl _ _) hRi.out.lt).cell hlt
              rw [haf.out] at cc
              obtain ⟨q0, q1, q2, q3, q4, q5⟩ := (svi.below (Below.refl _ _) hwil).all
              have y1 := cell_regrown cc
              have t0 := cell_regrown q0; have t1 := cell_regrown q1; have t2 := cell_regrown q2; have t3 := cell_regrown q3; have t4 := cell_regrown q4; have t5 := cell_regrown q5
              clear cc q0 q1 q2 q3 q4 q5
              refine wp_region_quiet_below (by kernel_rfl) (by kernel_rfl) ?_; (repeat (go_big_quiet_step ((first | (go_at_call 28; exact Calls.regrown_of (c28_v hE.out (by omega) (hz.below (HWi.trans (Below.mono (below_regrown _ _ _) HWi.size)) (Nat.le_refl _)) (hg.below (HWi.trans (Below.mono (below_regrown _ _ _) HWi.size)) (Nat.le_refl _)) (by omega) (by omega))))))); refine wpQuiet_nil ?_; intro _ hw; obtain ⟨q, hwq⟩ := hw; subst hwq
              have hqw4 := below_regrown wi q.d q.os
              generalize grow (redrawn wi q.d) q.os = w4 at hqw4 ⊢
              clear y1 t0 t1 t2 t3 t4 t5
              have hbw4 : Below wi.heap.size wi w4 := hqw4
              go_wp2_with fail
              have cc := (hRi.out.below hbw4 hRi.out.lt).cell hlt
              rw [haf.out] at cc
              obtain ⟨q0, q1, q2, q3, q4, q5⟩ := (svi.below hbw4 hwil).all
              have y1 := cell_regrown cc
              have t0 := cell_regrown q0; have t1 := cell_regrown q1; have t2 := cell_regrown q2; have t3 := cell_regrown q3; have t4 := cell_regrown q4; have t5 := cell_regrown q5
              clear cc q0 q1 q2 q3 q4 q5
              refine wp_region_quiet_below (by kernel_rfl) (by kernel_rfl) ?_; (repeat (go_big_quiet_step ((first | (go_at_call 27; exact Calls.regrown_of (c27 s _ okh.out)))))); refine wpQuiet_nil ?_; intro _ hw; obtain ⟨q, hwq⟩ := hw; subst hwq
              have hqw5 := below_regrown w4 q.d q.os
              generalize grow (redrawn w4 q.d) q.os = w5 at hqw5 ⊢
              clear y1 t0 t1 t2 t3 t4 t5
              have hbw5 : Below wi.heap.size wi w5 := hbw4.trans (hqw5.mono hbw4.size)
              have cc5 := (hRi.out.below hbw5 hRi.out.lt).cell hlt
              rw [haf.out] at cc5
              go_wp2_with (go_at_call 21; refine (c21n (hspi.out.below hbw5 (Nat.le_refl _)) hl0 hsih.out).mono ?_; rintro e w6 ⟨rfl, hB6⟩)
              go_roundw
              case rel => exact ⟨i + 1, by omega, by go_num, hB2.trans ((hbw5.trans (hB6.mono hbw5.size)).mono hB2.size)⟩
              case measure => simp [intOf]; omega
          · have hE := hid (trE_out (g := g) okh.out okgh.out hin)
            have hinh := hid hin
            clear hin
            go_wp2_with fail
            have cc := (hRi.out.below (Below.refl _ _) hRi.out.lt).cell hlt
            rw [haf.out] at cc
            obtain ⟨q0, q1, q2, q3, q4, q5⟩ := (svi.below (Below.refl _ _) hwil).all
            have y1 := cell_regrown cc
            have t0 := cell_regrown q0; have t1 := cell_regrown q1; have t2 := cell_regrown q2; have t3 := cell_regrown q3; have t4 := cell_regrown q4; have t5 := cell_regrown q5
            clear cc q0 q1 q2 q3 q4 q5
            refine wp_region_quiet_below (by kernel_rfl) (by kernel_rfl) ?_; (repeat (go_big_quiet_step ((first | (go_at_call 28; exact Calls.regrown_of (c28_v hE.out (by omega) (hz.below (HWi.trans (Below.mono (below_regrown _ _ _) HWi.size)) (Nat.le_refl _)) (hg.below (HWi.trans (Below.mono (below_regrown _ _ _) HWi.size)) (Nat.le_refl _)) (by omega) (by omega))))))); refine wpQuiet_nil ?_; intro _ hw; obtain ⟨q, hwq⟩ := hw; subst hwq
            have hqw4 := below_regrown wi q.d q.os
            generalize grow (redrawn wi q.d) q.os = w4 at hqw4 ⊢
            clear y1 t0 t1 t2 t3 t4 t5
            have hbw4 : Below wi.heap.size wi w4 := hqw4
            by_cases hneg : a < 0
            · have d0 : decide (a < 0) = true := decide_eq_true hneg
              clear hneg
              go_wp2_with fail
              have cc := (hRi.out.below hbw4 hRi.out.lt).cell hlt
              rw [haf.out] at cc
              obtain ⟨q0, q1, q2, q3, q4, q5⟩ := (svi.below hbw4 hwil).all
              have y1 := cell_regrown cc
              have t0 := cell_regrown q0; have t1 := cell_regrown q1; have t2 := cell_regrown q2; have t3 := cell_regrown q3; have t4 := cell_regrown q4; have t5 := cell_regrown q5
              clear cc q0 q1 q2 q3 q4 q5
              refine wp_region_quiet_below (by kernel_rfl) (by kernel_rfl) ?_; (repeat (go_big_quiet_step ((first | fail)))); refine wpQuiet_nil ?_; intro _ hw; obtain ⟨q, hwq⟩ := hw; subst hwq
              have hqw5 := below_regrown w4 q.d q.os
              generalize grow (redrawn w4 q.d) q.os = w5 at hqw5 ⊢
              clear y1 t0 t1 t2 t3 t4 t5
              have hbw5 : Below wi.heap.size wi w5 := hbw4.trans (hqw5.mono hbw4.size)
              go_wp2
              go_roundw
              case rel => exact ⟨i + 1, by omega, by go_num, hB2.trans (hbw5.mono hB2.size)⟩
              case measure => simp [intOf]; omega
            · have d0 : decide (a < 0) = false := decide_eq_false hneg
              have d1 : decide ((s.N : Int) - 1 < a) = true := decide_eq_true (by have := hinh.out; omega)
              clear hneg
              go_wp2_with fail
              have cc := (hRi.out.below hbw4 hRi.out.lt).cell hlt
              rw [haf.out] at cc
              obtain ⟨q0, q1, q2, q3, q4, q5⟩ := (svi.below hbw4 hwil).all
              have y1 := cell_regrown cc
              have t0 := cell_regrown q0; have t1 := cell_regrown q1; have t2 := cell_regrown q2; have t3 := cell_regrown q3; have t4 := cell_regrown q4; have t5 := cell_regrown q5
              clear cc q0 q1 q2 q3 q4 q5
              refine wp_region_quiet_below (by kernel_rfl) (by kernel_rfl) ?_; (repeat (go_big_quiet_step ((first | (go_at_call 27; exact Calls.regrown_of (c27 s _ okh.out)))))); refine wpQuiet_nil ?_; intro _ hw; obtain ⟨q, hwq⟩ := hw; subst hwq
              have hqw5 := below_regrown w4 q.d q.os
              generalize grow (redrawn w4 q.d) q.os = w5 at hqw5 ⊢
              clear y1 t0 t1 t2 t3 t4 t5
              have hbw5 : Below wi.heap.size wi w5 := hbw4.trans (hqw5.mono hbw4.size)
              go_wp2
              go_roundw
              case rel => exact ⟨i + 1, by omega, by go_num, hB2.trans (hbw5.mono hB2.size)⟩
              case measure => simp [intOf]; omega
        · go_wp2_with (go_at_call 13; refine (c13 _).mono ?_; rintro e w9 ⟨rfl, hB9⟩)
          go_returns
          exact ⟨rfl, HWi.trans (hB9.mono HWi.size)⟩
theorem c6 (s : Sv) (g : Wg) (x : Int) (w : World) (hz : s.In w) (hg : g.In w) :
    Calls Try.prog 6 #[s.v, g.v, .int .i64 x] w fun e w' => e = .returned (.bool true) ∧ Below w.heap.size w w' := by
  by_cases h : ValP s g ∧ 0 < g.wn
  · by_cases hmn : mn s.N (fl s g) ≤ s.wr
    · exact c6_go s g x w hz hg h.1 h.2 hmn
    · exact c6_none s g x w hz hg h.1 h.2 hmn
  · exact c6_skip s g x w hz hg h
end Go.Proofs.Ytkafjlhmbiaicaa
