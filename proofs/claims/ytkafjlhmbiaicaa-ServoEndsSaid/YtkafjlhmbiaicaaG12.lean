/- Texts put together: Sb, Sc, Sd. -/
import Derived.Test.YtkafjlhmbiaicaaG11
import Derived.Test.YtkafjlhmbiaicaaG10
import Derived.Deep.RegionHeld3
import Derived.Deep.AppendLies
/- Stage 2: the reference's fewest. -/
set_option linter.unusedSimpArgs false
set_option linter.unusedVariables false
namespace Go.Proofs.Ytkafjlhmbiaicaa
open Go.RowKit Go.Sort Go.BigFrame

/-- The least of 1000 and the numbers that are looked at. -/
def acc (sel : Nat → Bool) (f : Nat → Int) (a : Nat) : Nat → Int
  | 0 => 1000
  | t + 1 => if sel (a + t) = true then (if f (a + t) < acc sel f a t then f (a + t) else acc sel f a t) else acc sel f a t
theorem acc_bd {sel : Nat → Bool} {f : Nat → Int} {a : Nat} : ∀ {t : Nat}, (∀ q, a ≤ q → q < a + t → 0 ≤ f q) → 0 ≤ acc sel f a t ∧ acc sel f a t ≤ 1000
  | 0, _ => by simp [acc]
  | t + 1, h => by
    have ih := acc_bd (sel := sel) (f := f) (a := a) (t := t) (fun q h1 h2 => h q h1 (by omega))
    have h1 := h (a + t) (by omega) (by omega)
    simp only [acc]
    split
    · split <;> omega
    · exact ih
def accW (N m : Nat) (f : Nat → Int) (i x : Nat) : Int := acc (fun y => decide (0 < i) || decide (x = y)) f (x - m) (min (x + m) (N - 1) + 1 - (x - m))
/-- The reference's fewest wedges, forced at one of them. -/
def rfq (N m : Nat) (ag : Nat → Nat → Bool) (fc : Int) : Nat → Nat → Int
  | 0 => fun _ => 0
  | i + 1 => fun x => if ag i x = true then accW N m (rfq N m ag fc i) i x else if (i : Int) = fc then 1000 else accW N m (rfq N m ag fc i) i x + 1
theorem accW_bd {N m : Nat} {f : Nat → Int} {i x : Nat} (hx : x < N) (h : ∀ q, q < N → 0 ≤ f q) : 0 ≤ accW N m f i x ∧ accW N m f i x ≤ 1000 := acc_bd fun q h1 h2 => h q (by omega)
theorem rfq_bd {N m : Nat} {ag : Nat → Nat → Bool} {fc : Int} : ∀ (i x : Nat), x < N → 0 ≤ rfq N m ag fc i x ∧ rfq N m ag fc i x ≤ 1001
  | 0, x, _ => by simp [rfq]
  | i + 1, x, hx => by
    have h := accW_bd (m := m) (i := i) hx (fun q hq => (rfq_bd (m := m) (ag := ag) (fc := fc) i q hq).1)
    simp only [rfq]
    split
    · omega
    · split <;> omega
theorem own_pos0 {w : World} {base e s n : Nat} {v : Value} {xs : List Value} (h : w.ownsRow base e s v n xs) (hn : 0 < n) : ∃ g cap, v = .slice (some ⟨g, 0, none⟩) n cap ∧ base ≤ g ∧ n ≤ cap := by
  obtain ⟨_, ⟨_, h1⟩ | ⟨g, cap, cur, h1, h2, _, h4, _⟩⟩ := h
  · omega
  · exact ⟨g, cap, h1, h2, h4⟩
theorem bool_or {p q : Prop} [Decidable p] [Decidable q] : (decide p || decide q) = decide (p ∨ q) := by by_cases hp : p <;> by_cases hq : q <;> simp [hp, hq]

set_option maxRecDepth 100000 in
set_option maxHeartbeats 16000000 in
theorem c67 (s : Sv) (g : Wg) (fc : Int) (w : World) (hz : s.In w) (hg : g.In w) (ok : s.Ok) (okg : g.Ok) :
    Calls Try.prog 67 #[s.v, g.v, .int .i64 fc] w (IRet s.N (rfq s.N s.m (agr s g) fc g.wn) w) := by
  obtain ⟨i0, ie0, ie1, ie2, ie3⟩ := info_parts Try.info3
  have hN := ok.Nb
  have hN1 := hN.1; have hN2 := hN.2.1
  have m0 := ok.m0; have m1 := ok.m1
  have hn2 := okg.n2
  have okh := hid ok
  have okgh := hid okg
  have hmh := hid ok.mb.1
  have ixw := hid (Weds.ixh (c := g.wk) hg)
  have hmk := fun W => run_make_row' (P := Try.prog) 28 3 (.int .i64 0) 8 Try.underlying28 Try.info3 rfl .i64 .i64 s.N (by omega) (by omega) W
  have eN : (s.N : Int) - 1 + 1 = (s.N : Int) := by omega
  obtain ⟨W0, hW0⟩ : ∃ W0 : World, W0 = w.alloc (.cells #[.int .i64 s.tr, .int .i64 s.st, .int .i64 s.mv, .int .i64 s.no, .int .i64 s.wr, .slice s.ra s.rn s.rc] 30) := ⟨_, rfl⟩
  have hB0 : Below w.heap.size w W0 := by rw [hW0]; exact (Below.refl _ _).alloc (Nat.le_refl _) _
  have hsv : Svb s W0 w.heap.size := by rw [hW0]; exact Svb.new s w
  have hs0 : W0.heap.size = w.heap.size + 1 := by rw [hW0]; simp
  clear ok okg hN
  go_enter Try.func67, Try.ntmps67
  go_wp2_with (go_at_call 27; rw [← hW0]; refine (c27 s _ okh.out).mono ?_; rintro e w1 ⟨rfl, hB1⟩)
  clear hW0
  obtain ⟨W1, hW1⟩ : ∃ W1 : World, W1 = w1.alloc (.cells (madeCells #[.int .i64 0] s.N) 3) := ⟨_, rfl⟩
  have hR0 : RowF W1 w1.heap.size s.N (fun _ => 0) := by rw [hW1]; exact RowF.made w1 s.N
  have hB01 : Below W0.heap.size W0 W1 := by rw [hW1]; exact hB1.alloc hB1.size _
  have hz1 := hB1.size
  rw [← hW1]
  clear hmk hW1 eN
  have hR0h := hid hR0
  clear hR0
  go_loopw [7, 8, 9, 10, 11, 12] (fun nv iv _ _ _ _ wr => ∃ k : Nat, k ≤ g.wn ∧ iv = .int .i64 k ∧ RowV wr W0.heap.size s.N (rfq s.N s.m (agr s g) fc k) nv ∧ Below W0.heap.size W0 wr) (fun _ iv _ _ _ _ _ => g.wn - (intOf iv).toNat)
  case atStart => exact ⟨0, Nat.zero_le _, rfl, ⟨w1.heap.size, s.N, rfl, hz1, Nat.le_refl _, hR0h.out⟩, hB01⟩
  case round =>
    obtain ⟨k, hk, rfl, ⟨b, c, rfl, hb, hc, hR⟩, hB⟩ := hrel
    have hRh := hid hR
    clear hR
    obtain ⟨wo, rfl⟩ : ∃ wo : World, wo = wr := ⟨_, rfl⟩
    by_cases hlt : k < g.wn
    · go_wp2_with fail
      obtain ⟨Rk, hRk⟩ : ∃ Rk, Rk = rfq s.N s.m (agr s g) fc k := ⟨_, rfl⟩
      obtain ⟨Rn, hRn⟩ : ∃ Rn, Rn = rfq s.N s.m (agr s g) fc (k + 1) := ⟨_, rfl⟩
      have hRkb := hid (fun q (hq : q < s.N) => rfq_bd (N := s.N) (m := s.m) (ag := agr s g) (fc := fc) k q hq)
      rw [← hRk] at hRh hRkb
      have hRnx : Hid (∀ x, Rn x = if agr s g k x = true then accW s.N s.m Rk k x else if (k : Int) = fc then 1000 else accW s.N s.m Rk k x + 1) := hid (fun x => by rw [hRn, hRk]; rfl)
      have hRnh := hid hRn
      clear hRk hRn
      have hszo := hB.size
      go_loopw [9, 10, 11, 12] (fun ov xv _ _ wr => ∃ x : Nat, x ≤ s.N ∧ xv = .int .i64 x ∧ wr.ownsRow wo.heap.size 3 1 ov x (vals x Rn) ∧ Below wo.heap.size wo wr) (fun _ xv _ _ _ => s.N - (intOf xv).toNat)
      case atStart => exact ⟨0, Nat.zero_le _, rfl, World.ownsRow_nil _ _ _ _, Below.refl _ _⟩
      case round =>
        obtain ⟨x, hx, rfl, hown, hBo⟩ := hrel
        obtain ⟨wm, rfl⟩ : ∃ wm : World, wm = wr := ⟨_, rfl⟩
        have hownh := hid hown
        clear hown
        have hBr : Below W0.heap.size W0 wm := hB.trans (hBo.mono hszo)
        obtain ⟨q0, q1, q2, q3, q4, q5⟩ := (hsv.below hBr (by omega)).all
        have hszr := hBr.size
        by_cases hxl : x < s.N
        · have hxl2 : (x : Int) ≤ (s.N : Int) - 1 := by omega
          by_cases hmx : s.mv < x
          all_goals
            go_wp2_with (go_at_call 27; refine (c27 s _ okh.out).mono ?_; rintro e w3 ⟨rfl, hB3⟩; obtain ⟨p0, p1, p2, p3, p4, p5⟩ := ((hsv.below hBr (by omega)).below hB3 (by omega)).all)
            obtain ⟨a, ha⟩ : ∃ a, a = x - s.m := ⟨_, rfl⟩
            obtain ⟨T, hT⟩ : ∃ T, T = min (x + s.m) (s.N - 1) + 1 - (x - s.m) := ⟨_, rfl⟩
            obtain ⟨mx, hif⟩ : ∃ mx, (if (x : Int) + s.mv < (s.N : Int) - 1 then (x : Int) + s.mv else (s.N : Int) - 1) = mx := ⟨_, rfl⟩
            have hmxb : mx = (a : Int) + T - 1 ∧ a + T ≤ s.N ∧ a ≤ x ∧ x < a + T := by have := hmh.out; rw [← hif, hT, ha]; constructor; (split <;> omega); omega
            have hmx1 := hmxb.1; have hmx2 := hmxb.2.1
            have hstart : Hid ((a : Int) = max ((x : Int) - s.mv) 0) := hid (by have := hmh.out; rw [ha]; omega)
            have hTh := hid hT
            have hah := hid ha
            have hmx1h := hid hmx1
            have ew : IntKind.i64.wrap ((x : Int) + s.mv) = (x : Int) + s.mv := IntWalk.i64_in _ (by omega)
            have hB3s := hB3.size
            have hBr3 : Below W0.heap.size W0 w3 := hBr.trans (hB3.mono hszr)
            clear ha hT hmx1 hmxb q0 q1 q2 q3 q4 q5 p0 p1 p2 p3 p4 p5
            obtain ⟨sel, hsel⟩ : ∃ sel : Nat → Bool, sel = fun y => decide (0 < k) || decide (x = y) := ⟨_, rfl⟩
            have hselh := hid hsel
            clear hsel
            go_loopw [11, 12] (fun bv yv wi => ∃ y t : Nat, t ≤ T ∧ yv = .int .i64 y ∧ bv = .int .i64 (acc sel Rk a t) ∧ Hid (y = a + t) ∧ Below w3.heap.size w3 wi) (fun _ yv _ => a + T - (intOf yv).toNat)
            case atStart => exact ⟨a, 0, Nat.zero_le _, by have := hstart.out; first | (rw [show (x : Int) - s.mv = (a : Int) by omega]) | (rw [show (0 : Int) = (a : Int) by omega]), rfl, rfl, Below.refl _ _⟩
            case round =>
              obtain ⟨y, t, ht, rfl, rfl, hy, hBi⟩ := hrel
              have hya : a + t ≤ y ∧ y ≤ a + t := by have := hy.out; omega
              have hBwi : Below W0.heap.size W0 wr := hBr3.trans (hBi.mono hBr3.size)
              have hyb := acc_bd (sel := sel) (f := Rk) (a := a) (t := t) (fun q h1 h2 => (hRkb.out q (by omega)).1)
              obtain ⟨B, hB'⟩ : ∃ B, B = acc sel Rk a t := ⟨_, rfl⟩
              have hBh := hid hB'
              rw [← hB'] at hyb ⊢
              clear hB'
              obtain ⟨q0, q1, q2, q3, q4, q5⟩ := (hsv.below hBwi (by omega)).all
              have y0 := cell_regrown q0; have y1 := cell_regrown q1; have y2 := cell_regrown q2; have y3 := cell_regrown q3; have y4 := cell_regrown q4; have y5 := cell_regrown q5
              clear q0 q1 q2 q3 q4 q5
              by_cases htT : t < T
              · have hym : (y : Int) ≤ mx := by have := hmx1h.out; omega
                have hyN : y < s.N := by omega
                have hRy := hRkb.out y hyN
                have hst : Hid (acc sel Rk a (t + 1) = if sel y = true then (if Rk y < B then Rk y else B) else B) := hid (by rw [hBh.out, hy.out]; rfl)
                by_cases hk0 : 0 < k
                · have hsy : Hid (sel y = true) := hid (by rw [hselh.out]; simp [hk0])
                  go_wp2_with fail
                  refine wp_region_quiet_below (by kernel_rfl) (by kernel_rfl) ?_; (repeat (go_big_quiet_step ((first | (go_at_call 27; exact Calls.regrown_of (c27 s _ okh.out)))))); refine wpQuiet_nil ?_; intro _ hw; obtain ⟨q, hwq⟩ := hw; subst hwq
                  have hBq := below_regrown wr q.d q.os
                  generalize grow (redrawn wr q.d) q.os = w5 at hBq ⊢
                  clear y0 y1 y2 y3 y4 y5
                  have hRw := (hRh.out.below (hBo.trans ((hB3.trans ((hBi.trans (hBq.mono hBi.size)).mono hB3s)).mono hBo.size)) hRh.out.lt)
                  have c1 := hRw.cell hyN
                  have c3 := hRw.lt
                  have c4 := @RowF.ix _ _ _ c _ hRw _ hyN
                  clear hRw
                  go_wp2
                  go_roundw
                  case rel => exact ⟨y + 1, t + 1, by omega, by go_num, by rw [hst.out, hsy.out]; simp, hid (by have := hy.out; omega), hBi.trans (hBq.mono hBi.size)⟩
                  case measure => simp [intOf]; omega
                · have hk0' : k ≤ 0 := by omega
                  have hkd : decide (0 < k) = false := by simpa using hk0
                  have hkd2 : decide ((0 : Int) < (k : Int)) = false := by simpa using hk0
                  by_cases hxy : x = y
                  · have hsy : Hid (sel y = true) := hid (by rw [hselh.out]; simp [hxy])
                    have hxyb : ((x : Int) == (y : Int)) = true := by simp; omega
                    have hxyh := hid hxy
                    clear hxy hk0
                    go_wp2_with fail
                    refine wp_region_quiet_below (by kernel_rfl) (by kernel_rfl) ?_; (repeat (go_big_quiet_step ((first | (go_at_call 27; exact Calls.regrown_of (c27 s _ okh.out)))))); refine wpQuiet_nil ?_; intro _ hw; obtain ⟨q, hwq⟩ := hw; subst hwq
                    have hBq := below_regrown wr q.d q.os
                    generalize grow (redrawn wr q.d) q.os = w5 at hBq ⊢
                    clear y0 y1 y2 y3 y4 y5
                    have hRw := (hRh.out.below (hBo.trans ((hB3.trans ((hBi.trans (hBq.mono hBi.size)).mono hB3s)).mono hBo.size)) hRh.out.lt)
                    have c1 := hRw.cell hyN
                    have c3 := hRw.lt
                    have c4 := @RowF.ix _ _ _ c _ hRw _ hyN
                    clear hRw
                    go_wp2
                    go_roundw
                    case rel => exact ⟨y + 1, t + 1, by omega, by go_num, by rw [hst.out, hsy.out]; simp, hid (by have := hy.out; omega), hBi.trans (hBq.mono hBi.size)⟩
                    case measure => simp [intOf]; omega
                  · have hsy : Hid (sel y = false) := hid (by rw [hselh.out]; simp [hxy]; omega)
                    have hxyb : ((x : Int) == (y : Int)) = false := by simp; omega
                    have hxyh := hid hxy
                    clear hxy hk0
                    go_wp2_with fail
                    refine wp_region_quiet_below (by kernel_rfl) (by kernel_rfl) ?_; (repeat (go_big_quiet_step ((first | (go_at_call 27; exact Calls.regrown_of (c27 s _ okh.out)))))); refine wpQuiet_nil ?_; intro _ hw; obtain ⟨q, hwq⟩ := hw; subst hwq
                    have hBq := below_regrown wr q.d q.os
                    generalize grow (redrawn wr q.d) q.os = w5 at hBq ⊢
                    clear y0 y1 y2 y3 y4 y5
                    go_wp2
                    go_roundw
                    case rel => exact ⟨y + 1, t + 1, by omega, by go_num, by rw [hst.out, hsy.out]; simp, hid (by have := hy.out; omega), hBi.trans (hBq.mono hBi.size)⟩
                    case measure => simp [intOf]; omega
              · have hym : mx < (y : Int) := by have := hmx1h.out; omega
                obtain rfl : t = T := by omega
                go_wp2_with fail
                refine wp_region_quiet_below (by kernel_rfl) (by kernel_rfl) ?_; (repeat (go_big_quiet_step ((first | (go_at_call 27; exact Calls.regrown_of (c27 s _ okh.out)))))); refine wpQuiet_nil ?_; intro _ hw; obtain ⟨q, hwq⟩ := hw; subst hwq
                have hBq := below_regrown wr q.d q.os
                generalize grow (redrawn wr q.d) q.os = w5 at hBq ⊢
                clear y0 y1 y2 y3 y4 y5
                have hB5 : Below W0.heap.size W0 w5 := hBwi.trans (hBq.mono hBwi.size)
                have hBm5 : Below wm.heap.size wm w5 := hB3.trans ((hBi.trans (hBq.mono hBi.size)).mono hB3s)
                have hacc : Hid (accW s.N s.m Rk k x = B) := hid (by rw [hBh.out]; unfold accW; rw [hselh.out, hah.out, hTh.out])
                have x2 := cell_regrown ((hg.below (hB0.trans (hB5.mono (by omega))) (Nat.le_refl _)).c1 k hlt)
                have x3 := cell_regrown ((hg.below (hB0.trans (hB5.mono (by omega))) (Nat.le_refl _)).c2 k hlt)
                have h5 := ixw.out k hlt
                obtain ⟨q0, q1, q2, q3, q4, q5⟩ := (hsv.below hB5 (by omega)).all
                have y0 := cell_regrown q0; have y1 := cell_regrown q1; have y2 := cell_regrown q2; have y3 := cell_regrown q3; have y4 := cell_regrown q4; have y5 := cell_regrown q5
                clear q0 q1 q2 q3 q4 q5
                cases hag : agr s g k x with
                | true =>
                  have hagh := hid hag
                  clear hag
                  go_wp2_with fail
                  refine wp_region_quiet_below (by kernel_rfl) (by kernel_rfl) ?_; (repeat (go_big_quiet_step ((first | (go_at_call 23; exact Calls.regrown_of (c23y s g k x _ (hz.below (hB0.trans (Below.mono (hB5.trans (Below.mono (below_regrown _ _ _) hB5.size)) (by omega))) (Nat.le_refl _)) okh.out okgh.out hlt (by omega) hagh.out)))))); refine wpQuiet_nil ?_; intro _ hw; obtain ⟨q, hwq⟩ := hw; subst hwq
                  have hBq6 := below_regrown w5 q.d q.os
                  generalize grow (redrawn w5 q.d) q.os = w6 at hBq6 ⊢
                  clear x2 x3 y0 y1 y2 y3 y4 y5
                  have hBm6 : Below wm.heap.size wm w6 := hBm5.trans (hBq6.mono hBm5.size)
                  have hown6 := hid (owns_below hownh.out hBm6 (Nat.le_refl _))
                  have hBo6 : Below wo.heap.size wo w6 := hBo.trans (hBm6.mono hBo.size)
                  have hs6 : wo.heap.size ≤ w6.heap.size := hBo6.size
                  go_wp2_with (at_builtin; refine app_src rfl (.tmp 72) (.tmp 74) 28 rfl wo.heap.size 3 i0 (.int .i64 0) 1 8 Try.underlying28 ie0 ie1 ie2 ie3 rfl (by decide) _ _ _ rfl (hown6.out.alloc _) (some ⟨w6.heap.size, 0, none⟩) 1 1 [.int .i64 B] rfl (fun h => by cases h) rfl (fun ad h => by cases h; exact World.news_of_block (cs := #[.int .i64 B]) (t := 3) (fr := (0, 0)) (heap_new _ _)) (by simp [Value.oneCell']) (by unfold maxLen; omega) (by omega) (by simp; omega) ?_; intro v7 w7 hown7 hgr7 hn7; have hB7 : Below wo.heap.size wo w7 := ((hBo6.alloc hBo6.size _).grown hgr7 (by simp; exact Nat.le_succ_of_le hBo6.size) (fun q e => (hown6.out.lt q e).1)); have hown7h := hid hown7; clear hown7 hgr7 hn7)
                  go_roundw
                  case rel => exact ⟨x + 1, by omega, by go_num, by rw [vals_succ, hRnx.out x, if_pos hagh.out, hacc.out]; exact hown7h.out, hB7⟩
                  case measure => simp [intOf]; omega
                | false =>
                  have hagh := hid hag
                  clear hag
                  by_cases hkf : (k : Int) = fc
                  · have hkfb : ((k : Int) == fc) = true := by simpa using hkf
                    have hkfh := hid hkf
                    clear hkf
                    go_wp2_with fail
                    refine wp_region_quiet_below (by kernel_rfl) (by kernel_rfl) ?_; (repeat (go_big_quiet_step ((first | (go_at_call 23; exact Calls.regrown_of (c23n s g k x _ (hz.below (hB0.trans (Below.mono (hB5.trans (Below.mono (below_regrown _ _ _) hB5.size)) (by omega))) (Nat.le_refl _)) okh.out okgh.out hlt (by omega) hagh.out)))))); refine wpQuiet_nil ?_; intro _ hw; obtain ⟨q, hwq⟩ := hw; subst hwq
                    have hBq6 := below_regrown w5 q.d q.os
                    generalize grow (redrawn w5 q.d) q.os = w6 at hBq6 ⊢
                    clear x2 x3 y0 y1 y2 y3 y4 y5
                    have hBm6 : Below wm.heap.size wm w6 := hBm5.trans (hBq6.mono hBm5.size)
                    have hown6 := hid (owns_below hownh.out hBm6 (Nat.le_refl _))
                    have hBo6 : Below wo.heap.size wo w6 := hBo.trans (hBm6.mono hBo.size)
                    have hs6 : wo.heap.size ≤ w6.heap.size := hBo6.size
                    go_wp2_with (at_builtin; refine app_src rfl (.tmp 72) (.tmp 74) 28 rfl wo.heap.size 3 i0 (.int .i64 0) 1 8 Try.underlying28 ie0 ie1 ie2 ie3 rfl (by decide) _ _ _ rfl (hown6.out.alloc _) (some ⟨w6.heap.size, 0, none⟩) 1 1 [.int .i64 1000] rfl (fun h => by cases h) rfl (fun ad h => by cases h; exact World.news_of_block (cs := #[.int .i64 1000]) (t := 3) (fr := (0, 0)) (heap_new _ _)) (by simp [Value.oneCell']) (by unfold maxLen; omega) (by omega) (by simp; omega) ?_; intro v7 w7 hown7 hgr7 hn7; have hB7 : Below wo.heap.size wo w7 := ((hBo6.alloc hBo6.size _).grown hgr7 (by simp; exact Nat.le_succ_of_le hBo6.size) (fun q e => (hown6.out.lt q e).1)); have hown7h := hid hown7; clear hown7 hgr7 hn7)
                    go_roundw
                    case rel => exact ⟨x + 1, by omega, by go_num, by rw [vals_succ, hRnx.out x, if_neg (by rw [hagh.out]; simp), if_pos hkfh.out]; exact hown7h.out, hB7⟩
                    case measure => simp [intOf]; omega
                  · have hkfb : ((k : Int) == fc) = false := by simpa using hkf
                    have hkfh := hid hkf
                    clear hkf
                    go_wp2_with fail
                    refine wp_region_quiet_below (by kernel_rfl) (by kernel_rfl) ?_; (repeat (go_big_quiet_step ((first | (go_at_call 23; exact Calls.regrown_of (c23n s g k x _ (hz.below (hB0.trans (Below.mono (hB5.trans (Below.mono (below_regrown _ _ _) hB5.size)) (by omega))) (Nat.le_refl _)) okh.out okgh.out hlt (by omega) hagh.out)))))); refine wpQuiet_nil ?_; intro _ hw; obtain ⟨q, hwq⟩ := hw; subst hwq
                    have hBq6 := below_regrown w5 q.d q.os
                    generalize grow (redrawn w5 q.d) q.os = w6 at hBq6 ⊢
                    clear x2 x3 y0 y1 y2 y3 y4 y5
                    have hBm6 : Below wm.heap.size wm w6 := hBm5.trans (hBq6.mono hBm5.size)
                    have hown6 := hid (owns_below hownh.out hBm6 (Nat.le_refl _))
                    have hBo6 : Below wo.heap.size wo w6 := hBo.trans (hBm6.mono hBo.size)
                    have hs6 : wo.heap.size ≤ w6.heap.size := hBo6.size
                    go_wp2_with (at_builtin; refine app_src rfl (.tmp 72) (.tmp 74) 28 rfl wo.heap.size 3 i0 (.int .i64 0) 1 8 Try.underlying28 ie0 ie1 ie2 ie3 rfl (by decide) _ _ _ rfl (hown6.out.alloc _) (some ⟨w6.heap.size, 0, none⟩) 1 1 [.int .i64 (B + 1)] rfl (fun h => by cases h) rfl (fun ad h => by cases h; exact World.news_of_block (cs := #[.int .i64 (B + 1)]) (t := 3) (fr := (0, 0)) (heap_new _ _)) (by simp [Value.oneCell']) (by unfold maxLen; omega) (by omega) (by simp; omega) ?_; intro v7 w7 hown7 hgr7 hn7; have hB7 : Below wo.heap.size wo w7 := ((hBo6.alloc hBo6.size _).grown hgr7 (by simp; exact Nat.le_succ_of_le hBo6.size) (fun q e => (hown6.out.lt q e).1)); have hown7h := hid hown7; clear hown7 hgr7 hn7)
                    go_roundw
                    case rel => exact ⟨x + 1, by omega, by go_num, by rw [vals_succ, hRnx.out x, if_neg (by rw [hagh.out]; simp), if_neg hkfh.out, hacc.out]; exact hown7h.out, hB7⟩
                    case measure => simp [intOf]; omega
        · have hxl2 : (s.N : Int) - 1 < x := by omega
          obtain rfl : x = s.N := by omega
          obtain ⟨gg, cap, hv, hgg, hcap⟩ := own_pos0 hownh.out (by omega)
          subst hv
          go_wp2_with (go_at_call 27; refine (c27 s _ okh.out).mono ?_; rintro e w3 ⟨rfl, hB3⟩)
          go_roundw
          case rel => exact ⟨k + 1, by omega, by go_num, ⟨gg, cap, rfl, Nat.le_trans hszo hgg, hcap, by rw [← hRnh.out]; exact RowF.of_owns (owns_below hownh.out hB3 (Nat.le_refl _))⟩, hBr.trans (hB3.mono hszr)⟩
          case measure => simp [intOf]; omega
    · obtain rfl : k = g.wn := by omega
      go_wp2_with fail
      go_returns
      exact ⟨b, c, rfl, by omega, hc, hRh.out, hB0.trans (hB.mono (by omega))⟩
end Go.Proofs.Ytkafjlhmbiaicaa

/- Stage 2: the reference's slices of bools: where paths end. -/
set_option linter.unusedSimpArgs false
set_option linter.unusedVariables false
namespace Go.Proofs.Ytkafjlhmbiaicaa
open Go.RowKit Go.Sort Go.BigFrame

theorem Try.info4 : (Try.prog.info? 4).map (fun i => (i.zero, i.size, i.bytes)) = some (some (.bool false), 1, 1) := by kernel_rfl
/-- The values of n bools. -/
def bvals (n : Nat) (p : Nat → Bool) : List Value := (List.range n).map fun k => .bool (p k)
theorem bvals_len (n : Nat) (p : Nat → Bool) : (bvals n p).length = n := by simp [bvals]
theorem bvals_get {n : Nat} {p : Nat → Bool} {k : Nat} (h : k < n) : (bvals n p)[k]? = some (.bool (p k)) := by simp [bvals, h]
theorem bvals_succ (n : Nat) (p : Nat → Bool) : bvals (n + 1) p = bvals n p ++ [.bool (p n)] := by simp [bvals, List.range_succ]
/-- A slice of bools of the call's own. -/
def BRow (w : World) (base : Nat) (v : Value) (n : Nat) (p : Nat → Bool) : Prop := w.ownsRow base 4 1 v n (bvals n p)
structure Bls (w : World) (g n : Nat) (p : Nat → Bool) : Prop where
  lt : g < w.heap.size
  ce : ∀ k, k < n → w.cell? ⟨g, k, none⟩ = some (.bool (p k))
theorem Bls.below {w w' : World} {B g n : Nat} {p : Nat → Bool} (h : Bls w g n p) (hb : Below B w w') (hB : g < B) : Bls w' g n p :=
  ⟨Nat.lt_of_lt_of_le h.lt hb.size, fun k hk => (hb.cell (p := ⟨g, k, none⟩) hB).trans (h.ce k hk)⟩
theorem BRow.at_ {w : World} {base n : Nat} {v : Value} {p : Nat → Bool} (h : BRow w base v n p) (hn : 0 < n) : ∃ g c, v = .slice (some ⟨g, 0, none⟩) n c ∧ base ≤ g ∧ Bls w g n p := by
  have h0 := h
  unfold BRow at h0
  obtain ⟨g, c, rfl, hg, _⟩ := own_pos0 h0 hn
  exact ⟨g, c, rfl, hg, (h0.lt g rfl).2, fun k hk => by rw [h0.cellAt _ (by omega), bvals_get hk]⟩
theorem ixB {g n c k : Nat} (hk : k < n) (w' : World) : (Instr.indexAt 93 (.slice (some ⟨g, 0, none⟩) n c) (.int .i64 k)).run Try.prog w' = .ok (.pointer (some ⟨g, k, none⟩)) w' := by
  have h2 : (k : Int) < (n : Int) := by omega
  go_simp
/-- A new slice of n bools is handed back. -/
def BRet (n : Nat) (p : Nat → Bool) (w : World) (e : Ending) (w' : World) : Prop := ∃ g c : Nat, e = .returned (.slice (some ⟨g, 0, none⟩) n c) ∧ w.heap.size ≤ g ∧ Bls w' g n p ∧ Below w.heap.size w w'

set_option maxRecDepth 100000 in
set_option maxHeartbeats 4000000 in
theorem c78 (s : Sv) (g : Wg) (w : World) (hz : s.In w) (hg : g.In w) (ok : s.Ok) (okg : g.Ok) :
    Calls Try.prog 78 #[s.v, g.v] w (BRet s.N (fun x => decide (rfq s.N s.m (agr s g) (-1) g.wn x ≤ s.wr)) w) := by
  obtain ⟨i0, ie0, ie1, ie2, ie3⟩ := info_parts Try.info4
  have hN := ok.Nb
  have hN1 := hN.1; have hN2 := hN.2.1
  have okh := hid ok
  have okgh := hid okg
  obtain ⟨R, hR⟩ : ∃ R, R = rfq s.N s.m (agr s g) (-1) g.wn := ⟨_, rfl⟩
  have hRh := hid hR
  rw [← hR]
  clear ok okg hN hR
  have hB0 : Below w.heap.size w (w.alloc (.cells #[.int .i64 s.tr, .int .i64 s.st, .int .i64 s.mv, .int .i64 s.no, .int .i64 s.wr, .slice s.ra s.rn s.rc] 30)) := (Below.refl _ _).alloc (Nat.le_refl _) _
  go_enter Try.func78, Try.ntmps78
  go_wp2_with (go_at_call 67; refine (c67 s g (-1) _ (hz.below hB0 (Nat.le_refl _)) (hg.below hB0 (Nat.le_refl _)) okh.out okgh.out).mono ?_; rw [← hRh.out]; rintro e w1 ⟨b, c, rfl, hb, hc, hRow, hB1⟩; have hRowh := hid hRow; clear hRow; have sv1 := (Svb.new s w).below hB1 (by simp); have hBx : Below w.heap.size w w1 := hB0.trans (hB1.mono (by simp)))
  have hz1 : w.heap.size < w1.heap.size := by have := hB1.size; simp at this; omega
  go_loopw [6, 7] (fun ov xv wr => ∃ x : Nat, x ≤ s.N ∧ xv = .int .i64 x ∧ wr.ownsRow w1.heap.size 4 1 ov x (bvals x (fun x => decide (R x ≤ s.wr))) ∧ Below w1.heap.size w1 wr) (fun _ xv _ => s.N - (intOf xv).toNat)
  case atStart => exact ⟨0, Nat.zero_le _, rfl, World.ownsRow_nil _ _ _ _, Below.refl _ _⟩
  case round =>
    obtain ⟨x, hx, rfl, hown, hB⟩ := hrel
    have hownh := hid hown
    clear hown
    have hBw : Below w.heap.size w wr := hBx.trans (hB.mono hBx.size)
    by_cases hlt : x < s.N
    · have hRow := hRowh.out.below hB hRowh.out.lt
      have c1 := hRow.cell hlt
      have c3 := hRow.lt
      have c4 := @RowF.ix _ _ _ c _ hRow _ hlt
      obtain ⟨_, _, _, _, k4, _⟩ := (sv1.below hB hz1).all
      clear hRow
      go_wp2_with fail
      have hbl : b < wr.heap.size := c3
      have hs4 : w.heap.size < wr.heap.size := by have := hB.size; omega
      have hbw1 : b < w1.heap.size := hRowh.out.lt
      go_region_held3 (fun w' => w'.cell? ⟨b, x, none⟩ = some (.int .i64 (R x)) ∧ w'.cell? ⟨w.heap.size, 4, none⟩ = some (.int .i64 s.wr))
        (first | go_keep | (go_split_ands; refine ⟨?_, ?_⟩ <;> (rw [hgrow.cell_far _ (by simp; omega) (by intro e; have h9 := (hownh.out.lt _ e.symm).1; dsimp only at h9; omega)]; assumption)))
        ((refine step_append_lies _ (by rfl) _ _ _ (by rfl) w1.heap.size 4 i0 _ 1 1 Try.underlying93 ie0 ie1 ie2 ie3 rfl (by omega) _ x _ (by rfl) ((hownh.out.alloc _).drew) ⟨wr.heap.size, 0, none⟩ 1 1 [.bool (decide (R x ≤ s.wr))] (by rfl) (by rfl) (World.news_of_block (cs := #[.bool (decide (R x ≤ s.wr))]) (t := 4) (fr := (0, 0)) (heap_new wr _)) (by simp [Value.oneCell']) (by omega) (by unfold maxLen; omega) (by omega) (by simp; exact Nat.le_succ_of_le hB.size) (wr.heap.size + 1) (by simp) ?_; intro gg cap w7 hown7 hgrow hat hlt7))
      have hB7 : Below w1.heap.size w1 w7 := ((hB.alloc hB.size _).drew).grown hgrow (by simp; exact Nat.le_succ_of_le hB.size) (fun q e => (hownh.out.lt q e).1)
      clear hgrow hat
      go_wp2
      go_roundw
      case rel => exact ⟨x + 1, by omega, by go_num, by rw [bvals_succ]; exact hown7, hB7⟩
      case measure => simp [intOf]; omega
    · obtain rfl : x = s.N := by omega
      obtain ⟨gg, cap, rfl, h1, h2⟩ := BRow.at_ (show BRow wr w1.heap.size _ s.N _ from hownh.out) (by omega)
      go_wp2_with fail
      go_returns
      exact ⟨gg, cap, rfl, by omega, h2, hBw⟩
end Go.Proofs.Ytkafjlhmbiaicaa

/- Stage 2: the reference's spans. -/
set_option linter.unusedSimpArgs false
set_option linter.unusedVariables false
namespace Go.Proofs.Ytkafjlhmbiaicaa
open Go.RowKit Go.Sort Go.BigFrame

set_option maxRecDepth 100000 in
set_option maxHeartbeats 8000000 in
theorem c65 (g n c : Nat) (p : Nat → Bool) (w : World) (hR : Bls w g n p) (hn : n ≤ 1009) :
    Calls Try.prog 65 #[.slice (some ⟨g, 0, none⟩) n c] w (SpRet (spn p n) w) := by
  obtain ⟨i0, ie0, ie1, ie2, ie3⟩ := info_parts Try.info56
  go_enter Try.func65, Try.ntmps65
  go_wp2_with fail
  go_loopw [3, 4] (fun o iv wr => ∃ k : Nat, k ≤ n ∧ iv = .int .i64 k ∧ wr.ownsRow w.heap.size 56 2 o (spn p k).length (enc (spn p k)) ∧ Below w.heap.size w wr) (fun _ iv _ => n - (intOf iv).toNat)
  case atStart => exact ⟨0, Nat.zero_le _, rfl, World.ownsRow_nil _ _ _ _, Below.refl _ _⟩
  case round =>
    obtain ⟨k, hk, rfl, hown, hB⟩ := hrel
    by_cases hlt : k < n
    · have hRk := hR.below hB hR.lt
      have h1 := hRk.ce k hlt
      have h3 := hRk.lt
      have h4 := @ixB g n c k hlt
      have hownh := hid hown
      have hsok := hid (spn_ok p k)
      clear hown
      have hlen := spn_len p k
      cases hpk : p k with
      | true =>
        have hst := hid (spn_yes hpk)
        rw [hpk] at h1
        by_cases hnil : spn p k = []
        · have hsp : Hid (spn p (k + 1) = [(k, k)]) := hid (by rw [hst.out, hnil, spx_nil])
          have hown2 := hownh.out
          rw [hnil] at hown2
          have hown2 : wr.ownsRow w.heap.size 56 2 _ 0 [] := hown2
          have hpp : ∀ q, q < k → p q = false := spn_nil.1 hnil
          rcases Nat.eq_zero_or_pos k with hk0 | hk0
          · have hk0' : k ≤ 0 := by omega
            have hkd : decide (0 < k) = false := by simp; omega
            have hkd2 : decide ((0 : Int) < (k : Int)) = false := by simp; omega
            clear hk0
            rcases owns_empty hown2 with rfl | ⟨gg, cap, rfl⟩
            all_goals
              have hown2h := hid hown2
              clear hown2 hnil hlen hst hpp hRk hpk
              go_wp2_with (at_builtin; refine wpList_append_own _ rfl _ _ 36 rfl w.heap.size 56 i0 (.agg #[.int .i64 0, .int .i64 0]) 2 16 Try.underlying36 ie0 ie1 ie2 ie3 rfl (by decide) _ _ _ rfl (hown2h.out.alloc _) ⟨wr.heap.size, 0, none⟩ 1 1 [.int .i64 (k : Nat), .int .i64 (k : Nat)] rfl rfl (World.news_of_block (cs := #[.int .i64 (k : Nat), .int .i64 (k : Nat)]) (t := 56) (fr := (0, 0)) (heap_new _ _)) (by simp [Value.oneCell']) (by unfold maxLen; omega) (by omega) (by simp; exact Nat.le_succ_of_le hB.size) ?_; intro v' w2 hown' hgrow hnl)
              have hBb : Below w.heap.size w w2 := (hB.alloc hB.size _).grown hgrow (by simp; exact Nat.le_succ_of_le hB.size) (fun q e => (hown2h.out.lt q e).1)
              go_roundw
              case rel => exact ⟨k + 1, by omega, by go_num, by rw [hsp.out]; simpa [enc] using hown', hBb⟩
              case measure => simp [intOf]; omega
          · have c2 := hRk.ce (k - 1) (by omega)
            rw [hpp (k - 1) (by omega)] at c2
            have c4 := @ixB g n c (k - 1) (by omega)
            rw [show ((k - 1 : Nat) : Int) = (k : Int) - 1 by omega] at c4
            rcases owns_empty hown2 with rfl | ⟨gg, cap, rfl⟩
            all_goals
              have hown2h := hid hown2
              clear hown2 hnil hlen hst hpp hRk hpk
              go_wp2_with (at_builtin; refine wpList_append_own _ rfl _ _ 36 rfl w.heap.size 56 i0 (.agg #[.int .i64 0, .int .i64 0]) 2 16 Try.underlying36 ie0 ie1 ie2 ie3 rfl (by decide) _ _ _ rfl (hown2h.out.alloc _) ⟨wr.heap.size, 0, none⟩ 1 1 [.int .i64 (k : Nat), .int .i64 (k : Nat)] rfl rfl (World.news_of_block (cs := #[.int .i64 (k : Nat), .int .i64 (k : Nat)]) (t := 56) (fr := (0, 0)) (heap_new _ _)) (by simp [Value.oneCell']) (by unfold maxLen; omega) (by omega) (by simp; exact Nat.le_succ_of_le hB.size) ?_; intro v' w2 hown' hgrow hnl)
              have hBb : Below w.heap.size w w2 := (hB.alloc hB.size _).grown hgrow (by simp; exact Nat.le_succ_of_le hB.size) (fun q e => (hown2h.out.lt q e).1)
              go_roundw
              case rel => exact ⟨k + 1, by omega, by go_num, by rw [hsp.out]; simpa [enc] using hown', hBb⟩
              case measure => simp [intOf]; omega
        · obtain ⟨l, x, hl⟩ := snoc_of hnil
          have hl1 : (spn p k).length = l.length + 1 := by rw [hl]; simp
          have hk0 : 0 < k := by rw [hl1] at hlen; omega
          have hla := (show SpOk p k (l ++ [x]) by rw [← hl]; exact hsok.out).last
          have c2 := hRk.ce (k - 1) (by omega)
          have c4 := @ixB g n c (k - 1) (by omega)
          rw [show ((k - 1 : Nat) : Int) = (k : Int) - 1 by omega] at c4
          have hown2 := hownh.out
          rw [hl1] at hown2
          obtain ⟨gg, cap, hv⟩ := own_pos hown2
          subst hv
          rw [hl] at hown2
          have hk1 : w.heap.size ≤ gg ∧ gg < wr.heap.size := hown2.lt gg rfl
          have hc1 : wr.cell? ⟨gg, l.length * 2 + 1, none⟩ = some (.int .i64 (x.2 : Nat)) := by rw [hown2.cellAt _ (by omega), enc_get1]
          have hf1 := hown2.frozenAt (l.length * 2 + 1)
          have hix := @ixSp gg (l.length + 1) cap l.length (by omega)
          have hown2h := hid hown2
          have hln : l.length + 1 ≤ 1009 := by omega
          cases hpp : p (k - 1) with
          | true =>
            have hx : x.2 + 1 = k := hla.2 ⟨hk0, hpp⟩
            have hsp : Hid (spn p (k + 1) = l ++ [(x.1, k)]) := hid (by rw [hst.out, hl, spx_grow hx])
            have hst2 := hid (hown2.stored (l.length * 2 + 1) (.int .i64 (k : Nat)))
            rw [hpp] at c2
            obtain ⟨x1, x2⟩ := x
            have hes := hid (enc_set l (x1, x2) k)
            clear hown2 hnil hl hl1 hst hownh hlen hla hx hRk hpk hpp hsok hown2h
            go_wp2_with fail
            go_roundw
            case rel => exact ⟨k + 1, by omega, by go_num, by rw [hsp.out, ← hes.out]; simpa using hst2.out.1, hB.setCell hk1.1 _⟩
            case measure => simp [intOf]; omega
          | false =>
            have hx : ¬ x.2 + 1 = k := fun e => by have := (hla.1 e).2; rw [hpp] at this; cases this
            have hsp : Hid (spn p (k + 1) = l ++ [x] ++ [(k, k)]) := hid (by rw [hst.out, hl, spx_new hx])
            rw [hpp] at c2
            clear hown2 hnil hl hl1 hst hownh hlen hla hx hRk hpk hpp hsok
            go_wp2_with (at_builtin; refine wpList_append_own _ rfl _ _ 36 rfl w.heap.size 56 i0 (.agg #[.int .i64 0, .int .i64 0]) 2 16 Try.underlying36 ie0 ie1 ie2 ie3 rfl (by decide) _ _ _ rfl (hown2h.out.alloc _) ⟨wr.heap.size, 0, none⟩ 1 1 [.int .i64 (k : Nat), .int .i64 (k : Nat)] rfl rfl (World.news_of_block (cs := #[.int .i64 (k : Nat), .int .i64 (k : Nat)]) (t := 56) (fr := (0, 0)) (heap_new _ _)) (by simp [Value.oneCell']) (by unfold maxLen; omega) (by omega) (by simp; exact Nat.le_succ_of_le hB.size) ?_; intro v' w2 hown' hgrow hnl)
            have hBb : Below w.heap.size w w2 := (hB.alloc hB.size _).grown hgrow (by simp; exact Nat.le_succ_of_le hB.size) (fun q e => (hown2h.out.lt q e).1)
            go_roundw
            case rel => exact ⟨k + 1, by omega, by go_num, by rw [hsp.out, enc_snoc (l ++ [x])]; simpa using hown', hBb⟩
            case measure => simp [intOf]; omega
      | false =>
        have hst := hid (spn_no hpk)
        rw [hpk] at h1
        clear hpk hRk
        go_wp2_with fail
        go_roundw
        case rel => exact ⟨k + 1, by omega, by go_num, by rw [hst.out]; exact hownh.out, hB⟩
        case measure => simp [intOf]; omega
    · have hownh := hid hown
      clear hown
      go_wp2_with fail
      go_returns
      obtain rfl : k = n := by omega
      exact ⟨_, rfl, hownh.out, hB⟩
end Go.Proofs.Ytkafjlhmbiaicaa
