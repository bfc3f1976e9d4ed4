/- Stage 5: the law of reading again. -/
import Derived.Test.YtnndhibhnakdoaaDoorAE
set_option linter.unusedSimpArgs false
set_option linter.unusedVariables false
namespace Go.Proofs.YtnndhibhnakdoaaDoor
open Go.RowKit Go.BigFrame Go.Sort
open Gf (S)
set_option maxRecDepth 100000 in
set_option maxHeartbeats 8000000 in
theorem c12y (n r k : Nat) (A1 : Option Addr) (b1 o1 c1 : Nat) (D : Nat → S) (A : Option Addr) (b o m c : Nat) (w : World) (hT : Tab w) (h : rdy (n : Nat) (r : Nat)) (hk : k = n - r) (h1 : Ints w A1 b1 o1 k (nf D)) (hM : Mtx w A b o m) (hm : 1 ≤ m ∧ m ≤ 4) :
    Calls Tryd.prog 12 #[cv n r, .slice A1 k c1, .slice A m c] w fun e w' => e = .returned (.bool true) ∧ Below w.heap.size w w' := by
  obtain ⟨i0, ie0, ie1, ie2, ie3⟩ := info_parts (P := Tryd.prog) (e := 24) (z := .slice none 0 0) (size := 1) (bytes := 24) (by kernel_rfl)
  have u47 : Tryd.prog.underlying 47 = some (.slice 24) := by kernel_rfl
  have hh := hid h
  have hv := hid h.1
  have hn := vld_nat h.1
  have hwk := hid c15
  have hTh := hid hT
  have h1h := hid h1
  have hMh := hid hM
  have hB0 : Hid (Below w.heap.size w ((w.alloc (.cells #[.int .i64 (n : Nat), .int .i64 (r : Nat)] 23)))) := hid (by (repeat' (first | (with_reducible exact Below.refl _ _) | (with_reducible assumption) | (with_reducible refine Below.alloc ?_ ?_ _) | (with_reducible refine Below.drew ?_) | (with_reducible refine below_drewN ?_ _) | (with_reducible refine Below.setCell ?_ ?_ _) | (with_reducible refine Below.trans ?_ (Below.mono (by with_reducible assumption) ?_)) | go_size)))
  have hX0 : Hid (Bx n r ((w.alloc (.cells #[.int .i64 (n : Nat), .int .i64 (r : Nat)] 23))) w.heap.size) := hid (Bx.new n r w 23)
  have hs0 : Hid (((w.alloc (.cells #[.int .i64 (n : Nat), .int .i64 (r : Nat)] 23))).heap.size = w.heap.size + 1) := hid (by rw [World.size_alloc])
  have er : (n : Int) - (r : Int) = (k : Int) := by omega
  have hkh := hid hk
  have hk15 : k ≤ 15 := by omega
  have hn15 : n ≤ 15 := by omega
  have hn0 : 0 < n := by omega
  obtain ⟨C, hC⟩ : ∃ C, C = Gf.enc n r D := ⟨_, rfl⟩
  have hcw : Hid (∀ i, i < r → Gf.syn n C i = 0) := hid (by rw [hC]; exact Gf.enc_cw (by omega) (by omega) _)
  have cE := hid (fun (W : World) => c18k n r k hk h.1 A1 b1 o1 c1 D W)
  have cE2 := cE.out
  rw [← hC] at cE2
  have cEh := hid cE2
  obtain ⟨hm1, hm4⟩ := hm
  have d1 : decide ((m : Int) < 1) = false := decide_eq_false (by omega)
  have d2 : decide ((4 : Int) < (m : Int)) = false := decide_eq_false (by omega)
  have d3 : decide (m < 1) = false := decide_eq_false (by omega)
  have d4 : decide (4 < m) = false := decide_eq_false (by omega)
  have d5 : decide (m = 0) = false := decide_eq_false (by omega)
  clear h hT h1 hM hk hC cE cE2
  go_enter Tryd.func12, Tryd.ntmps12
  go_wp2_with (first | (go_at_call 35; (with_reducible refine (c35y (n : Nat) (r : Nat) _ hh.out).mono ?_); rintro e w1 ⟨rfl, hB1⟩; have hX1 := hid (hX0.out.below hB1 (by rw [hs0.out]; omega)); obtain ⟨p0, p1⟩ := hX1.out; have hs1 := hB1.size; rw [hs0.out] at hs1; have hB1 := hid (hB0.out.trans (hB1.mono (by rw [hs0.out]; omega)))) | (go_at_call 37; (with_reducible refine (c37 A1 b1 o1 k c1 (nf D) (k : Nat) w1 (h1h.out.below hB1.out (Nat.le_refl _)) (by omega)).mono ?_); intro e w2 hr; obtain ⟨rfl, rfl⟩ := hr.un.1 ⟨all_nf k D, rfl⟩; clear hr) | (go_at_call 18; (with_reducible refine (cEh.out w1 (hTh.out.below hB1.out (Nat.le_refl _)) (h1h.out.below hB1.out (Nat.le_refl _))).mono ?_); rintro e w3 ⟨g3, k3, rfl, hg3, I3, hB3⟩; replace I3 := hid I3; have hX3 := hid (hX1.out.below hB3 (by omega)); obtain ⟨p0, p1⟩ := hX3.out; have hs3 := hB3.size; replace hB3 := hid (hB1.out.trans (hB3.mono hB1.out.size)); clear hg3))
  clear p0 p1
  go_loopw [9, 10, 11] (fun rv sv iv wr => ∃ (i : Nat) (sb : Bool) (rs : List Value) (W : Nat → Nat → S), i ≤ m ∧ iv = .int .i64 i ∧ sv = .bool sb ∧ Hid (RwI n w3.heap.size W i rv rs wr) ∧ Hid (∀ t, t < i → ¬ foo r ((Gf.apa n C (W t) [] : Nat) : Int)) ∧ Hid (sb = true → ∃ t, t < i ∧ 2 * Gf.apa n C (W t) [] ≤ r) ∧ Hid (Below w3.heap.size w3 wr)) (fun _ _ iv _ => m - (intOf iv).toNat)
  case atStart => exact ⟨0, false, [], fun _ _ => 0, Nat.zero_le _, rfl, rfl, hid ⟨World.ownsRow_nil _ _ _ _, fun t ht => absurd ht (Nat.not_lt_zero _)⟩, hid (fun t ht => absurd ht (Nat.not_lt_zero _)), hid (fun h => by cases h), hid (Below.refl _ _)⟩
  case round =>
    obtain ⟨i, sb, rs, W, hi, rfl, rfl, hI, hnf, hsu, hBr⟩ := hrel
    have hsr := hBr.out.size
    have hBw := hid (hB3.out.trans (hBr.out.mono hB3.out.size))
    have hX := hX3.out.below hBr.out (by omega)
    obtain ⟨p0, p1⟩ := hX
    by_cases hlt : i < m
    · have y1 := hMh.out.below hBw.out (Nat.le_refl _)
      obtain ⟨A', b', o', n', c', f', a1, s1⟩ := y1.ce i hlt
      have i1 := fun w' => y1.ix (c := c) hlt w'
      have q0 := cell_regrown p0
      have q1 := cell_regrown p1
      have e1 := cell_regrown a1
      have s1h := hid s1.1
      have l1 := hid s1.2.2
      clear y1 s1
      by_cases hsy : allS n' f' ∧ (n' : Int) = (n : Int)
      · obtain rfl : n = n' := by omega
        have hys := hid hsy.1
        have zr := hid (s1h.out.congr (fun k hk => nf_sy hsy.1 hk))
        have I3r := hid (I3.out.below hBr.out (Nat.le_refl _))
        obtain ⟨x, hx⟩ : ∃ x, x = Gf.apa n C (noi C (sy f')) [] := ⟨_, rfl⟩
        have hxn : x ≤ n := by rw [hx]; exact apc_le C _ [] n
        have hxh := hid hx.symm
        have qx : 0 ≤ (x : Int) ∧ (x : Int) ≤ (n : Nat) := by omega
        have hqx := hid qx
        clear hsy hx qx
        by_cases hfo : foo r (x : Int)
        · have hfoh := hid hfo
          clear hfo
          go_wp2_with fail
          refine wp_region_quiet_below (by kernel_rfl) (by kernel_rfl) ?_; (repeat (go_big_quiet_step ((first | (go_at_call 37; exact Calls.regrown_of ((c37 A' b' o' n c' f' (n : Nat) _ (s1h.out.below (below_regrown _ _ _) (Nat.le_refl _)) l1.out).mono (fun e w' hr => ⟨(hr.un.1 ⟨hys.out, rfl⟩).1, (hr.un.1 ⟨hys.out, rfl⟩).2 ▸ Below.refl _ _⟩))))))); refine wpQuiet_nil ?_; intro _ hw; obtain ⟨q, hwq⟩ := hw; subst hwq
          go_wp2_with (first | (go_at_call 39; refine (c39 (some ⟨g3, 0, none⟩) g3 0 n k3 C A' b' o' n c' (sy f') _ (I3r.out.below (below_regrown _ _ _) (Nat.le_refl _)) (zr.out.below (below_regrown _ _ _) (Nat.le_refl _)) (Nat.le_refl _) (by omega)).mono ?_; rintro e w5 ⟨v5, rfl, hown5, hB5⟩; replace hB5 : Below wr.heap.size wr w5 := (below_regrown _ _ _).trans (hB5.mono (below_regrown _ _ _).size); obtain ⟨g5, k5, rfl, I5⟩ := own_vals hown5 hn0; have R5 := hid (RowF.of_owns hown5); replace I5 := hid I5; have I35 := hid (I3r.out.below hB5 (Nat.le_refl _)); have hs5 := hB5.size; replace hB5 := hid hB5; clear hown5) | (go_at_call 40; (with_reducible refine (c40z (some ⟨g3, 0, none⟩) g3 0 n k3 C (some ⟨g5, 0, none⟩) g5 0 k5 (noi C (sy f')) w5 I35.out I5.out (by omega)).mono ?_); rw [hxh.out]; rintro e w6 ⟨rfl, hB6⟩; have R6 := hid (R5.out.below hB6 R5.out.lt); have hs6 := hB6.size; replace hB6 := hid (hB5.out.trans (hB6.mono hB5.out.size)); have hX6 := hid (hX3.out.below (hBr.out.trans (hB6.out.mono hBr.out.size)) (by omega)); obtain ⟨p0, p1⟩ := hX6.out) | (go_at_call 29; (with_reducible refine (c29y n r (x : Nat) w6 hv.out hqx.out hfoh.out).mono ?_); rintro e w7 ⟨rfl, hB7⟩; replace hB7 := hid (hBw.out.trans ((hB6.out.trans (hB7.mono hB6.out.size)).mono hBw.out.size))) | (go_at_call 15; refine (hwk.out _ (hTh.out.below hB7.out (Nat.le_refl _))).mono ?_; rintro e w8 ⟨rfl, hB8⟩; replace hB8 := hid (hB7.out.trans (hB8.mono hB7.out.size))))
          go_returns
          exact ⟨rfl, hB8.out⟩
        · have hfoh := hid hfo
          clear hfo
          obtain ⟨t2, ht2⟩ : ∃ t2, t2 = 2 * x := ⟨_, rfl⟩
          have et2 : (2 : Int) * (x : Int) = (t2 : Int) := by omega
          have v1 : IntKind.i64.wrap ((2 : Int) * (x : Int)) = (t2 : Int) := by rw [et2]; exact IntWalk.i64_in _ (by omega)
          have v2 : IntKind.i64.wrap (t2 : Int) = (t2 : Int) := IntWalk.i64_in _ (by omega)
          have ht2h := hid ht2
          have hnf9 : Hid (∀ t, t < i + 1 → ¬ foo r ((Gf.apa n C ((fun t => if t = i then noi C (sy f') else W t) t) [] : Nat) : Int)) := hid (fun t ht => by
            by_cases e : t = i
            · simp only [if_pos e]; rw [hxh.out]; exact hfoh.out
            · simp only [if_neg e]; exact hnf.out t (by omega))
          have hold : Hid ((∃ t, t < i ∧ 2 * Gf.apa n C (W t) [] ≤ r) → ∃ t, t < i + 1 ∧ 2 * Gf.apa n C ((fun t => if t = i then noi C (sy f') else W t) t) [] ≤ r) := hid (fun ⟨t, ht, h2⟩ => ⟨t, by omega, by simp only [if_neg (show ¬ t = i by omega)]; exact h2⟩)
          have hnew : Hid (t2 ≤ r → ∃ t, t < i + 1 ∧ 2 * Gf.apa n C ((fun t => if t = i then noi C (sy f') else W t) t) [] ≤ r) := hid (fun h => ⟨i, by omega, by simp only [if_pos]; rw [hxh.out]; omega⟩)
          clear ht2
          cases sb
          · by_cases hle : t2 ≤ r
            · have hleh := hid hle
              have dt : decide ((t2 : Int) ≤ (r : Int)) = true := decide_eq_true (by omega)
              have dt' : decide (t2 ≤ r) = true := decide_eq_true hle
              clear hle
              go_wp2_with fail
              refine wp_region_quiet_below (by kernel_rfl) (by kernel_rfl) ?_; (repeat (go_big_quiet_step ((first | (go_at_call 37; exact Calls.regrown_of ((c37 A' b' o' n c' f' (n : Nat) _ (s1h.out.below (below_regrown _ _ _) (Nat.le_refl _)) l1.out).mono (fun e w' hr => ⟨(hr.un.1 ⟨hys.out, rfl⟩).1, (hr.un.1 ⟨hys.out, rfl⟩).2 ▸ Below.refl _ _⟩))))))); refine wpQuiet_nil ?_; intro _ hw; obtain ⟨q, hwq⟩ := hw; subst hwq
              go_wp2_with (first | (go_at_call 39; refine (c39 (some ⟨g3, 0, none⟩) g3 0 n k3 C A' b' o' n c' (sy f') _ (I3r.out.below (below_regrown _ _ _) (Nat.le_refl _)) (zr.out.below (below_regrown _ _ _) (Nat.le_refl _)) (Nat.le_refl _) (by omega)).mono ?_; rintro e w5 ⟨v5, rfl, hown5, hB5⟩; replace hB5 : Below wr.heap.size wr w5 := (below_regrown _ _ _).trans (hB5.mono (below_regrown _ _ _).size); obtain ⟨g5, k5, rfl, I5⟩ := own_vals hown5 hn0; have R5 := hid (RowF.of_owns hown5); replace I5 := hid I5; have I35 := hid (I3r.out.below hB5 (Nat.le_refl _)); have hs5 := hB5.size; replace hB5 := hid hB5; clear hown5) | (go_at_call 40; (with_reducible refine (c40z (some ⟨g3, 0, none⟩) g3 0 n k3 C (some ⟨g5, 0, none⟩) g5 0 k5 (noi C (sy f')) w5 I35.out I5.out (by omega)).mono ?_); rw [hxh.out]; rintro e w6 ⟨rfl, hB6⟩; have R6 := hid (R5.out.below hB6 R5.out.lt); have hs6 := hB6.size; replace hB6 := hid (hB5.out.trans (hB6.mono hB5.out.size)); have hX6 := hid (hX3.out.below (hBr.out.trans (hB6.out.mono hBr.out.size)) (by omega)); obtain ⟨p0, p1⟩ := hX6.out) | (go_at_call 29; (with_reducible refine (c29n n r (x : Nat) w6 hv.out hqx.out hfoh.out).mono ?_); rintro e w7 ⟨rfl, hB7⟩; have hI7 := hid ((hI.out.below hB6.out).below hB7); have R7 := hid (R6.out.below hB7 R6.out.lt); have hs7 := hB7.size; have hX7 := hid (hX6.out.below hB7 (by omega)); obtain ⟨p0, p1⟩ := hX7.out; replace hB7 := hid (hB6.out.trans (hB7.mono hB6.out.size))) | (at_builtin; refine wpList_append_lies rfl (.tmp 99) (.tmp 101) 47 rfl w3.heap.size 24 i0 _ 1 24 u47 ie0 ie1 ie2 ie3 rfl (by omega) _ i rs rfl (hI7.out.own.alloc _) ⟨w7.heap.size, 0, none⟩ 1 1 [.slice (some ⟨g5, 0, none⟩) n k5] rfl rfl (World.news_of_block (cs := #[.slice (some ⟨g5, 0, none⟩) n k5]) (t := 24) (fr := (0, 0)) (heap_new w7 _)) (by simp [Value.oneCell']) (by omega) (by unfold maxLen; omega) (by omega) (by simp; omega) (w7.heap.size + 1) (by simp) ?_; intro g9 cap9 w9 hown9 hgrow9 hat9 hlt9; have I9 := hid (RwI.appended hI7.out R7.out hown9 hgrow9); have hB9 := hid (hBr.out.trans (Below.grown ((hB7.out.mono (by omega)).alloc (by omega) _) hgrow9 (by simp; omega) (fun q e => (hI7.out.own.lt q e).1))); clear hown9 hgrow9 hat9))
              go_roundw
              case rel => exact ⟨i + 1, true, _, _, by omega, by go_num, rfl, I9, hnf9, hid (fun _ => hnew.out hleh.out), hB9⟩
              case measure => simp [intOf]; omega
            · have dt : decide ((t2 : Int) ≤ (r : Int)) = false := decide_eq_false (by omega)
              have dt' : decide (t2 ≤ r) = false := decide_eq_false hle
              clear hle
              go_wp2_with fail
              refine wp_region_quiet_below (by kernel_rfl) (by kernel_rfl) ?_; (repeat (go_big_quiet_step ((first | (go_at_call 37; exact Calls.regrown_of ((c37 A' b' o' n c' f' (n : Nat) _ (s1h.out.below (below_regrown _ _ _) (Nat.le_refl _)) l1.out).mono (fun e w' hr => ⟨(hr.un.1 ⟨hys.out, rfl⟩).1, (hr.un.1 ⟨hys.out, rfl⟩).2 ▸ Below.refl _ _⟩))))))); refine wpQuiet_nil ?_; intro _ hw; obtain ⟨q, hwq⟩ := hw; subst hwq
              go_wp2_with (first | (go_at_call 39; refine (c39 (some ⟨g3, 0, none⟩) g3 0 n k3 C A' b' o' n c' (sy f') _ (I3r.out.below (below_regrown _ _ _) (Nat.le_refl _)) (zr.out.below (below_regrown _ _ _) (Nat.le_refl _)) (Nat.le_refl _) (by omega)).mono ?_; rintro e w5 ⟨v5, rfl, hown5, hB5⟩; replace hB5 : Below wr.heap.size wr w5 := (below_regrown _ _ _).trans (hB5.mono (below_regrown _ _ _).size); obtain ⟨g5, k5, rfl, I5⟩ := own_vals hown5 hn0; have R5 := hid (RowF.of_owns hown5); replace I5 := hid I5; have I35 := hid (I3r.out.below hB5 (Nat.le_refl _)); have hs5 := hB5.size; replace hB5 := hid hB5; clear hown5) | (go_at_call 40; (with_reducible refine (c40z (some ⟨g3, 0, none⟩) g3 0 n k3 C (some ⟨g5, 0, none⟩) g5 0 k5 (noi C (sy f')) w5 I35.out I5.out (by omega)).mono ?_); rw [hxh.out]; rintro e w6 ⟨rfl, hB6⟩; have R6 := hid (R5.out.below hB6 R5.out.lt); have hs6 := hB6.size; replace hB6 := hid (hB5.out.trans (hB6.mono hB5.out.size)); have hX6 := hid (hX3.out.below (hBr.out.trans (hB6.out.mono hBr.out.size)) (by omega)); obtain ⟨p0, p1⟩ := hX6.out) | (go_at_call 29; (with_reducible refine (c29n n r (x : Nat) w6 hv.out hqx.out hfoh.out).mono ?_); rintro e w7 ⟨rfl, hB7⟩; have hI7 := hid ((hI.out.below hB6.out).below hB7); have R7 := hid (R6.out.below hB7 R6.out.lt); have hs7 := hB7.size; have hX7 := hid (hX6.out.below hB7 (by omega)); obtain ⟨p0, p1⟩ := hX7.out; replace hB7 := hid (hB6.out.trans (hB7.mono hB6.out.size))) | (at_builtin; refine wpList_append_lies rfl (.tmp 99) (.tmp 101) 47 rfl w3.heap.size 24 i0 _ 1 24 u47 ie0 ie1 ie2 ie3 rfl (by omega) _ i rs rfl (hI7.out.own.alloc _) ⟨w7.heap.size, 0, none⟩ 1 1 [.slice (some ⟨g5, 0, none⟩) n k5] rfl rfl (World.news_of_block (cs := #[.slice (some ⟨g5, 0, none⟩) n k5]) (t := 24) (fr := (0, 0)) (heap_new w7 _)) (by simp [Value.oneCell']) (by omega) (by unfold maxLen; omega) (by omega) (by simp; omega) (w7.heap.size + 1) (by simp) ?_; intro g9 cap9 w9 hown9 hgrow9 hat9 hlt9; have I9 := hid (RwI.appended hI7.out R7.out hown9 hgrow9); have hB9 := hid (hBr.out.trans (Below.grown ((hB7.out.mono (by omega)).alloc (by omega) _) hgrow9 (by simp; omega) (fun q e => (hI7.out.own.lt q e).1))); clear hown9 hgrow9 hat9))
              go_roundw
              case rel => exact ⟨i + 1, false, _, _, by omega, by go_num, rfl, I9, hnf9, hid (fun h => by cases h), hB9⟩
              case measure => simp [intOf]; omega
          · have hsu1 := hid (hold.out (hsu.out rfl))
            clear hsu hold
            go_wp2_with fail
            refine wp_region_quiet_below (by kernel_rfl) (by kernel_rfl) ?_; (repeat (go_big_quiet_step ((first | (go_at_call 37; exact Calls.regrown_of ((c37 A' b' o' n c' f' (n : Nat) _ (s1h.out.below (below_regrown _ _ _) (Nat.le_refl _)) l1.out).mono (fun e w' hr => ⟨(hr.un.1 ⟨hys.out, rfl⟩).1, (hr.un.1 ⟨hys.out, rfl⟩).2 ▸ Below.refl _ _⟩))))))); refine wpQuiet_nil ?_; intro _ hw; obtain ⟨q, hwq⟩ := hw; subst hwq
            go_wp2_with (first | (go_at_call 39; refine (c39 (some ⟨g3, 0, none⟩) g3 0 n k3 C A' b' o' n c' (sy f') _ (I3r.out.below (below_regrown _ _ _) (Nat.le_refl _)) (zr.out.below (below_regrown _ _ _) (Nat.le_refl _)) (Nat.le_refl _) (by omega)).mono ?_; rintro e w5 ⟨v5, rfl, hown5, hB5⟩; replace hB5 : Below wr.heap.size wr w5 := (below_regrown _ _ _).trans (hB5.mono (below_regrown _ _ _).size); obtain ⟨g5, k5, rfl, I5⟩ := own_vals hown5 hn0; have R5 := hid (RowF.of_owns hown5); replace I5 := hid I5; have I35 := hid (I3r.out.below hB5 (Nat.le_refl _)); have hs5 := hB5.size; replace hB5 := hid hB5; clear hown5) | (go_at_call 40; (with_reducible refine (c40z (some ⟨g3, 0, none⟩) g3 0 n k3 C (some ⟨g5, 0, none⟩) g5 0 k5 (noi C (sy f')) w5 I35.out I5.out (by omega)).mono ?_); rw [hxh.out]; rintro e w6 ⟨rfl, hB6⟩; have R6 := hid (R5.out.below hB6 R5.out.lt); have hs6 := hB6.size; replace hB6 := hid (hB5.out.trans (hB6.mono hB5.out.size)); have hX6 := hid (hX3.out.below (hBr.out.trans (hB6.out.mono hBr.out.size)) (by omega)); obtain ⟨p0, p1⟩ := hX6.out) | (go_at_call 29; (with_reducible refine (c29n n r (x : Nat) w6 hv.out hqx.out hfoh.out).mono ?_); rintro e w7 ⟨rfl, hB7⟩; have hI7 := hid ((hI.out.below hB6.out).below hB7); have R7 := hid (R6.out.below hB7 R6.out.lt); have hs7 := hB7.size; have hX7 := hid (hX6.out.below hB7 (by omega)); obtain ⟨p0, p1⟩ := hX7.out; replace hB7 := hid (hB6.out.trans (hB7.mono hB6.out.size))) | (at_builtin; refine wpList_append_lies rfl (.tmp 99) (.tmp 101) 47 rfl w3.heap.size 24 i0 _ 1 24 u47 ie0 ie1 ie2 ie3 rfl (by omega) _ i rs rfl (hI7.out.own.alloc _) ⟨w7.heap.size, 0, none⟩ 1 1 [.slice (some ⟨g5, 0, none⟩) n k5] rfl rfl (World.news_of_block (cs := #[.slice (some ⟨g5, 0, none⟩) n k5]) (t := 24) (fr := (0, 0)) (heap_new w7 _)) (by simp [Value.oneCell']) (by omega) (by unfold maxLen; omega) (by omega) (by simp; omega) (w7.heap.size + 1) (by simp) ?_; intro g9 cap9 w9 hown9 hgrow9 hat9 hlt9; have I9 := hid (RwI.appended hI7.out R7.out hown9 hgrow9); have hB9 := hid (hBr.out.trans (Below.grown ((hB7.out.mono (by omega)).alloc (by omega) _) hgrow9 (by simp; omega) (fun q e => (hI7.out.own.lt q e).1))); clear hown9 hgrow9 hat9))
            go_roundw
            case rel => exact ⟨i + 1, true, _, _, by omega, by go_num, rfl, I9, hnf9, hid (fun _ => hsu1.out), hB9⟩
            case measure => simp [intOf]; omega
      · have hsyh := hid hsy
        clear hsy
        go_wp2_with fail
        refine wp_region_quiet_below (by kernel_rfl) (by kernel_rfl) ?_; (repeat (go_big_quiet_step ((first | (go_at_call 37; exact Calls.regrown_of ((c37 A' b' o' n' c' f' (n : Nat) _ (s1h.out.below (below_regrown _ _ _) (Nat.le_refl _)) l1.out).mono (fun e w' hr => ⟨(hr.un.2 hsyh.out).1, (hr.un.2 hsyh.out).2 ▸ Below.refl _ _⟩))))))); refine wpQuiet_nil ?_; intro _ hw; obtain ⟨q, hwq⟩ := hw; subst hwq
        go_wp2_with (go_at_call 15; refine (hwk.out _ (hTh.out.below (hBw.out.trans ((below_regrown _ _ _).mono hBw.out.size)) (Nat.le_refl _))).mono ?_; rintro e w8 ⟨rfl, hB8⟩; replace hB8 := hid ((hBw.out.trans ((below_regrown _ _ _).mono hBw.out.size)).trans (hB8.mono (hBw.out.trans ((below_regrown _ _ _).mono hBw.out.size)).size)))
        go_returns
        exact ⟨rfl, hB8.out⟩
    · have him : i = m := by omega
      have e1 : decide ((i : Int) < (m : Int)) = false := decide_eq_false (by omega)
      have e2 : decide (i < m) = false := decide_eq_false (by omega)
      rw [him] at hI hnf hsu
      obtain ⟨g9, c9, rfl, hR⟩ := hI.out.reads (by omega)
      have hns : (∀ t, t < m → ∀ C', ¬ Gf.Near n r (W t) [] C') → sb = false := fun h => by
        cases sb
        · rfl
        · obtain ⟨t, ht, h2⟩ := hsu.out rfl
          exact absurd (near_sure hcw.out h2) (h t ht C)
      have c33h := hid (show Calls Tryd.prog 33 #[cv n r, .slice (some ⟨g9, 0, none⟩) m c9] wr fun e w' => ((sb = false ∧ e = .returned (.tuple #[.slice none 0 0, .int .i64 52])) ∨ ∃ g c', e = .returned (.tuple #[.slice (some ⟨g, 0, none⟩) n c', .int .i64 0]) ∧ Ints w' (some ⟨g, 0, none⟩) g 0 n (nf C)) ∧ Below wr.heap.size wr w' from
        (c33y n r (some ⟨g9, 0, none⟩) g9 0 m c9 W C wr (hTh.out.below hBw.out (Nat.le_refl _)) hv.out hR ⟨by omega, by omega⟩ (fun t ht => read_right hn15 hcw.out (hnf.out t ht))).mono (fun e w' h => ⟨h.1.imp (fun h => ⟨hns h.1, h.2⟩) (fun ⟨g, c', h1, _, h2⟩ => ⟨g, c', h1, h2⟩), h.2⟩))
      have I3r := hid (I3.out.below hBr.out (Nat.le_refl _))
      clear hI hnf hsu hns hR him
      go_wp2_with (first | (go_at_call 33; (with_reducible refine c33h.out.mono ?_); rintro e w7 ⟨(⟨rfl, rfl⟩ | ⟨g7, c7, rfl, I7⟩), hB7⟩ <;> have I37 := hid (I3r.out.below hB7 (Nat.le_refl _)) <;> replace hB7 := hid (hBw.out.trans (hB7.mono hBw.out.size)) <;> try replace I7 := hid I7) | (go_at_call 22; (with_reducible refine (c22y (some ⟨g7, 0, none⟩) (some ⟨g3, 0, none⟩) g7 g3 0 0 n c7 k3 (nf C) w7 I7.out I37.out (by omega)).mono ?_); rintro e w8 ⟨rfl, hB8⟩; replace hB8 := hid (hB7.out.trans (hB8.mono hB7.out.size))) | (go_at_call 15; refine (hwk.out w8 (hTh.out.below hB8.out (Nat.le_refl _))).mono ?_; rintro e w9 ⟨rfl, hB9⟩; replace hB9 := hid (hB8.out.trans (hB9.mono hB8.out.size))) | (go_at_call 15; refine (hwk.out w7 (hTh.out.below hB7.out (Nat.le_refl _))).mono ?_; rintro e w9 ⟨rfl, hB9⟩; replace hB9 := hid (hB7.out.trans (hB9.mono hB7.out.size))))
      all_goals (go_returns; exact ⟨rfl, hB9.out⟩)
theorem c12 (L P : Int) (A1 : Option Addr) (b1 o1 n1 c1 : Nat) (f1 : Nat → Int) (A : Option Addr) (b o m c : Nat) (w : World) (hT : Tab w) (h1 : Sin w A1 b1 o1 n1 c1 f1) (hM : Mtx w A b o m) :
    Calls Tryd.prog 12 #[.agg #[.int .i64 L, .int .i64 P], .slice A1 n1 c1, .slice A m c] w fun e w' => e = .returned (.bool true) ∧ Below w.heap.size w w' := by
  by_cases h : rdy L P
  · obtain ⟨n, r, rfl, rfl⟩ := vld_of h.1
    by_cases hl : (allS n1 f1 ∧ n1 = n - r) ∧ 1 ≤ m ∧ m ≤ 4
    · obtain ⟨⟨ha1, hn1⟩, hm⟩ := hl
      subst hn1
      exact c12y n r (n - r) A1 b1 o1 c1 (sy f1) A b o m c w hT h rfl (h1.1.congr (fun k hk => nf_sy ha1 hk)) hM hm
    · exact c12b n r A1 b1 o1 n1 c1 f1 A m c w hT h h1 hl
  · exact c12a L P A1 n1 c1 A m c w hT h
end Go.Proofs.YtnndhibhnakdoaaDoor
