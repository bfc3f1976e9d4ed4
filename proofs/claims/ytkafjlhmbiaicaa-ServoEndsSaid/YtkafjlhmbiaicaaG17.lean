/- Texts put together: Ro, Sj. -/
import Derived.Test.YtkafjlhmbiaicaaG16
import Derived.Test.YtkafjlhmbiaicaaG15
import Derived.Test.YtkafjlhmbiaicaaG11
/- Stage 2: the law of one wedge more: where no path is possible. -/
set_option linter.unusedSimpArgs false
set_option linter.unusedVariables false
namespace Go.Proofs.Ytkafjlhmbiaicaa
open Go.RowKit Go.Sort Go.BigFrame

theorem more_no {s : Sv} {g : Wg} (ok : s.Ok) (okg : g.Ok) (h : g.wn ≤ 7) (hmn : ¬ mn s.N (fl s g) ≤ s.wr) (x c : Nat) :
    ahE s (ownG x (g.wn + 1) c (wcA g) (wuA g)) True = 3 ∧ ahL s (ownG x (g.wn + 1) c (wcA g) (wuA g)) True 0 = [] := by
  have hl : wcA g g.wn = -1 := by simp [wcA]
  have hc : ∀ k, k < g.wn → (ownG x (g.wn + 1) c (wcA g) (wuA g)).wc k = g.wc k ∧ (ownG x (g.wn + 1) c (wcA g) (wuA g)).wu k = g.wu k := fun k hk => by simp [ownG, wcA, wuA, hk]
  have okg' : (ownG x (g.wn + 1) c (wcA g) (wuA g)).Ok := by
    refine ⟨by simp only [ownG]; omega, fun k _ => ?_, fun k _ => ?_⟩
    · simp only [ownG, wcA]; split
      · rename_i hk; exact okg.c k hk
      · omega
    · simp only [ownG, wuA]; split
      · rename_i hk; exact okg.u k hk
      · omega
  have e := ahE_none (ckE_ok ok okg') trivial (fun hh => hmn ((mn_more (g' := ownG x (g.wn + 1) c (wcA g) (wuA g)) (by have := ok.Nb.1; omega) rfl hc hl).1 hh))
  exact ⟨e, ahL_no (by rw [e]; omega)⟩
set_option maxRecDepth 100000 in
set_option maxHeartbeats 8000000 in
theorem c7_no0 (s : Sv) (g : Wg) (xm xn xw xi : Int) (w : World) (hz : s.In w) (hg : g.In w) (hnk : g.wa = none → g.wk = 0) (hv0 : ValP s g) (hw7 : g.wn ≤ 7) (hxm : 0 ≤ xm ∧ xm ≤ 64) (hxn : 0 ≤ xn ∧ xn ≤ 16) (hxw : 0 ≤ xw ∧ xw ≤ 3) (hmn : ¬ mn s.N (fl s g) ≤ s.wr) (hxi : ¬ (0 ≤ xi ∧ xi < g.wn)) :
    Calls Try.prog 7 #[s.v, g.v, .agg #[.int .i64 xm, .int .i64 xn, .int .i64 xw, .int .i64 xi]] w fun e w' => e = .returned (.bool true) ∧ Below w.heap.size w w' := by
  obtain ⟨i0, ie0, ie1, ie2, ie3⟩ := info_parts Try.info46
  obtain ⟨ok, okg, hn8, hr40⟩ := hv0.ok
  have hv := hid hv0
  have okh := hid ok
  have okgh := hid okg
  have hN := ok.Nb
  have hN1 := hN.1; have hN2 := hN.2.1
  have hck := ckE_ok ok okg
  have e1 := hid (ahE_none hck trivial hmn)
  have e2 := hid (ahL_no (d := 0) (show ahE s g True ≠ 0 by rw [e1.out]; omega))
  have e3 := hid (ahE_none (told := 0 ≤ (1 : Int) ∧ (1 : Int) ≤ 24) hck ⟨by omega, by omega⟩ hmn)
  have e4 := hid (show ahL s g (0 ≤ (1 : Int) ∧ (1 : Int) ≤ 24) (1 : Int).toNat = [] from ahL_no (by rw [e3.out]; omega))
  have hnil : Hid (g.wa = none → g.wn = 0 ∧ g.wk = 0) := hid (fun h => ⟨hg.nil_ h, hnk h⟩)
  have hmnh := hid hmn
  have b1 := okh.out.m0; have b2 := okh.out.m1; have b3 := okh.out.n0; have b4 := okh.out.n1; have b5 := okh.out.w0; have b6 := okh.out.w1
  obtain ⟨mvX, hX1⟩ : ∃ mvX, (if s.mv + xm < 64 then s.mv + xm else 64) = mvX := ⟨_, rfl⟩
  obtain ⟨noX, hX2⟩ : ∃ noX, (if s.no + xn < 16 then s.no + xn else 16) = noX := ⟨_, rfl⟩
  obtain ⟨wrX, hX3⟩ : ∃ wrX, (if s.wr + xw < 3 then s.wr + xw else 3) = wrX := ⟨_, rfl⟩
  have hb1 : s.mv ≤ mvX ∧ mvX ≤ 64 := by rw [← hX1]; split <;> omega
  have hb2 : s.no ≤ noX ∧ noX ≤ 16 := by rw [← hX2]; split <;> omega
  have hb3 : s.wr ≤ wrX ∧ wrX ≤ 3 := by rw [← hX3]; split <;> omega
  have d1 : decide ((7 : Int) < (g.wn : Int)) = false := by simp; omega
  have d2 : decide (xm < 0) = false := by simp; omega
  have d3 : decide (64 < xm) = false := by simp; omega
  have d4 : decide (xn < 0) = false := by simp; omega
  have d5 : decide (16 < xn) = false := by simp; omega
  have d6 : decide (xw < 0) = false := by simp; omega
  have d7 : decide (3 < xw) = false := by simp; omega
  have tok1 : True := trivial
  have tok2 : True := trivial
  have tok3 : True := trivial
  clear hv0 ok okg hN hck hmn hnk
  go_enter Try.func7, Try.ntmps7
  go_wp2_with (first | (go_at_call 16; refine (c16y s g _ (hz.below (by (repeat' (first | (with_reducible exact Below.refl _ _) | (with_reducible assumption) | (with_reducible refine Below.alloc ?_ ?_ _) | (with_reducible refine Below.drew ?_) | (with_reducible refine below_drewN ?_ _) | (with_reducible refine Below.setCell ?_ ?_ _) | (with_reducible refine Below.trans ?_ (Below.mono (by with_reducible assumption) ?_)) | go_size))) (Nat.le_refl _)) (hg.below (by (repeat' (first | (with_reducible exact Below.refl _ _) | (with_reducible assumption) | (with_reducible refine Below.alloc ?_ ?_ _) | (with_reducible refine Below.drew ?_) | (with_reducible refine below_drewN ?_ _) | (with_reducible refine Below.setCell ?_ ?_ _) | (with_reducible refine Below.trans ?_ (Below.mono (by with_reducible assumption) ?_)) | go_size))) (Nat.le_refl _)) hv.out).mono ?_; rintro e w1 ⟨rfl, hB1⟩; have hz1 : w.heap.size + 2 ≤ w1.heap.size := (by have := hB1.size; simp at this; omega); have hBx : Below w.heap.size w w1 := Below.trans (by (repeat' (first | (with_reducible exact Below.refl _ _) | (with_reducible assumption) | (with_reducible refine Below.alloc ?_ ?_ _) | (with_reducible refine Below.drew ?_) | (with_reducible refine below_drewN ?_ _) | (with_reducible refine Below.setCell ?_ ?_ _) | (with_reducible refine Below.trans ?_ (Below.mono (by with_reducible assumption) ?_)) | go_size))) (hB1.mono (by simp; omega)); have sv1 := Svb.below ((Svb.new s w).below (B := w.heap.size + 1) (by (repeat' (first | (with_reducible exact Below.refl _ _) | (with_reducible assumption) | (with_reducible refine Below.alloc ?_ ?_ _) | (with_reducible refine Below.drew ?_) | (with_reducible refine below_drewN ?_ _) | (with_reducible refine Below.setCell ?_ ?_ _) | (with_reducible refine Below.trans ?_ (Below.mono (by with_reducible assumption) ?_)) | go_size))) (by omega)) hB1 (by simp; omega); obtain ⟨k0, k1, k2, k3, k4, k5⟩ := sv1.all; obtain ⟨hc1, _⟩ := bcell (hB1.mono (show w.heap.size + 2 ≤ _ by simp)); have x0 : w1.cell? ⟨w.heap.size + 1, 0, none⟩ = some (.int .i64 xm) := (by rw [hc1 _ _ (by omega)]; simp); have x1 : w1.cell? ⟨w.heap.size + 1, 1, none⟩ = some (.int .i64 xn) := (by rw [hc1 _ _ (by omega)]; simp); have x2 : w1.cell? ⟨w.heap.size + 1, 2, none⟩ = some (.int .i64 xw) := (by rw [hc1 _ _ (by omega)]; simp); have x3 : w1.cell? ⟨w.heap.size + 1, 3, none⟩ = some (.int .i64 xi) := (by rw [hc1 _ _ (by omega)]; simp); clear hc1) | (go_at_call 18; have _t := tok1; refine (c18 s g _ (hz.below hBx (Nat.le_refl _)) (hg.below hBx (Nat.le_refl _)) (by omega) (by omega)).mono ?_; clear tok1; rw [e1.out, e2.out]; rintro e w2 ⟨v2, rfl, hown2, hB2⟩; obtain ⟨va, vg, vc, rfl, hsp⟩ := SpIn.of_owns hown2; clear hown2; have hBy : Below w.heap.size w w2 := hBx.trans (hB2.mono hBx.size); have hz2 : w.heap.size + 2 ≤ w2.heap.size := (by have := hB2.size; omega); have sv2 := sv1.below hB2 (by omega); obtain ⟨hc2, _⟩ := bcell hB2; have y0 : w2.cell? ⟨w.heap.size + 1, 0, none⟩ = some (.int .i64 xm) := (by rw [hc2 _ _ (by omega)]; exact x0); have y1 : w2.cell? ⟨w.heap.size + 1, 1, none⟩ = some (.int .i64 xn) := (by rw [hc2 _ _ (by omega)]; exact x1); have y2 : w2.cell? ⟨w.heap.size + 1, 2, none⟩ = some (.int .i64 xw) := (by rw [hc2 _ _ (by omega)]; exact x2); have y3 : w2.cell? ⟨w.heap.size + 1, 3, none⟩ = some (.int .i64 xi) := (by rw [hc2 _ _ (by omega)]; exact x3); clear hc2) | (go_at_call 18; have _t := tok2; refine (c18 s (ownG x4 (g.wn + 1) c4 (wcA g) (wuA g)) _ (hz.below hBw4 (Nat.le_refl _)) hG4.out (by omega) (by simp only [ownG]; omega)).mono ?_; clear tok2; rw [mf.1, mf.2]; rintro e w5 ⟨v5, rfl, hown5, hB5⟩; obtain ⟨vd, vh, vk, rfl, hsp5⟩ := SpIn.of_owns hown5; clear hown5; have hBw5 : Below w.heap.size w w5 := hBw4.trans (hB5.mono hBw4.size); have sv5 := sv2.below ((hB3.trans hB4).trans (hB5.mono (Nat.le_trans hB3.size hB4.size))) (by omega); obtain ⟨m0', m1', m2', m3', m4', m5'⟩ := sv5.all) | (go_at_call 18; have _t := tok3; refine (c18 (wdS s mvX noX wrX) (ownG x8 g.wn c8 g.wc g.wu) _ (show (wdS s mvX noX wrX).In _ from (hz.below hBw9 (Nat.le_refl _))) hG9.out (show (wdS s mvX noX wrX).rn ≤ 1000000 by simp only [wdS]; omega) (by simp only [ownG]; omega)).mono ?_; clear tok3; rintro e wa' ⟨v9, rfl, hown9, hB9a⟩; clear hown9; have hBwa : Below w.heap.size w wa' := hBw9.trans (hB9a.mono hBw9.size); obtain ⟨t0', t1', t2', t3', t4', t5'⟩ := (sv9.below hB9a (by omega)).all; skip) | (go_at_call 24; refine (c24 s g 1 _ (hz.below hBw5 (Nat.le_refl _)) (hg.below hBw5 (Nat.le_refl _)) (by omega) (by omega)).mono ?_; rw [e3.out, e4.out]; rintro e w6 ⟨v6, rfl, hown6, hB6⟩; obtain ⟨ve, vi, vm, rfl, hsp6⟩ := SpIn.of_owns hown6; clear hown6; have hBw6 : Below w.heap.size w w6 := hBw5.trans (hB6.mono hBw5.size)) | (go_at_call 30; refine (c30y vd ve vh vi vk vm [] _ (hsp5.below hB6 (Nat.le_refl _)) hsp6 (by simp)).mono ?_; rintro e w7 ⟨rfl, hB7⟩; have hBw7 : Below w.heap.size w w7 := hBw6.trans (hB7.mono hBw6.size); have hB27 : Below w2.heap.size w2 w7 := ((hB3.trans hB4).trans (hB5.mono (Nat.le_trans hB3.size hB4.size))).trans ((hB6.trans (hB7.mono hB6.size)).mono (Nat.le_trans (Nat.le_trans hB3.size hB4.size) hB5.size)); have sv7 := sv2.below hB27 (by omega); obtain ⟨n0', n1', n2', n3', n4', n5'⟩ := sv7.all; obtain ⟨hc7, _⟩ := bcell hB27; have z0 : w7.cell? ⟨w.heap.size + 1, 0, none⟩ = some (.int .i64 xm) := (by rw [hc7 _ _ (by omega)]; exact y0); have z1 : w7.cell? ⟨w.heap.size + 1, 1, none⟩ = some (.int .i64 xn) := (by rw [hc7 _ _ (by omega)]; exact y1); have z2 : w7.cell? ⟨w.heap.size + 1, 2, none⟩ = some (.int .i64 xw) := (by rw [hc7 _ _ (by omega)]; exact y2); have z3 : w7.cell? ⟨w.heap.size + 1, 3, none⟩ = some (.int .i64 xi) := (by rw [hc7 _ _ (by omega)]; exact y3); have hz7 : w.heap.size + 2 ≤ w7.heap.size := Nat.le_trans hz2 hB27.size; have hz7a : w.heap.size < w7.heap.size := (by omega); have hz7b : w.heap.size + 1 < w7.heap.size := (by omega); clear hc7) | (at_builtin; refine app_src rfl (.tmp 70) (.tmp 71) 31 rfl w2.heap.size 46 i0 (.agg #[.int .i64 0, .int .i64 0]) 2 16 Try.underlying31 ie0 ie1 ie2 ie3 rfl (by decide) _ _ _ rfl (own_made _ 46 2 _ _ rfl (Nat.le_refl _)) g.wa g.wn g.wk (encW g.wn g.wc g.wu) rfl hnil.out (encW_len _ _ _) (Weds.cells (hg.below (hBy.alloc hBy.size _) (Nat.le_refl _))) (encW_one _ _ _) (by unfold maxLen; omega) (by omega) (by simp) ?_; intro v3 w3 hown3 hgr3 hn3; obtain ⟨x3', c3, rfl⟩ := own_shape hown3 (fun h => by have := hn3 h; cases this); rw [Nat.zero_add, List.nil_append] at hown3; have hB3 : Below w2.heap.size w2 w3 := ((Below.refl w2.heap.size w2).alloc (Nat.le_refl _) _).grown hgr3 (by simp) (fun q e => by cases e; simp); have hown3h := hid hown3; clear hown3 hgr3 hn3) | (at_builtin; refine app_src rfl (.tmp 72) (.tmp 74) 31 rfl w2.heap.size 46 i0 (.agg #[.int .i64 0, .int .i64 0]) 2 16 Try.underlying31 ie0 ie1 ie2 ie3 rfl (by decide) _ _ _ rfl (hown3h.out.alloc _) (some ⟨w3.heap.size, 0, none⟩) 1 1 [.int .i64 (-1), .int .i64 0] rfl (fun h => by cases h) rfl (fun ad h => by cases h; exact World.news_of_block (cs := #[.int .i64 (-1), .int .i64 0]) (t := 46) (fr := (0, 0)) (heap_new _ _)) (by simp [Value.oneCell']) (by unfold maxLen; omega) (by omega) (by simp; exact Nat.le_succ_of_le hB3.size) ?_; intro v4 w4 hown4 hgr4 hn4; obtain ⟨x4, c4, rfl⟩ := own_shape hown4 (fun h => by have := hn4 h; cases this); have hB4 : Below w2.heap.size w3 w4 := ((Below.refl w2.heap.size w3).alloc hB3.size _).grown hgr4 (by simp; exact Nat.le_succ_of_le hB3.size) (fun q e => (hown3h.out.lt q e).1); have hG4 := hid (ownG_in (by rw [← encW_app]; exact hown4)); clear hown4 hgr4 hn4; have hz4 : w.heap.size + 2 ≤ w4.heap.size := Nat.le_trans (Nat.le_trans hz2 hB3.size) hB4.size; have hBw4 : Below w.heap.size w w4 := hBy.trans ((hB3.trans hB4).mono hBy.size); obtain ⟨o0, o1, o2, o3, o4, o5⟩ := (sv2.below (hB3.trans hB4) (by omega)).all; have mf := more_no okh.out okgh.out (by omega) (show ¬ mn s.N (fl s g) ≤ s.wr by have := hmnh.out; omega) x4 c4) | (at_builtin; refine app_src rfl (.tmp 124) (.tmp 125) 31 rfl w7.heap.size 46 i0 (.agg #[.int .i64 0, .int .i64 0]) 2 16 Try.underlying31 ie0 ie1 ie2 ie3 rfl (by decide) _ _ _ rfl (own_made _ 46 2 w7.heap.size (w7.heap.size + 1) (by simp) (by omega)) g.wa g.wn g.wk (encW g.wn g.wc g.wu) rfl hnil.out (encW_len _ _ _) (Weds.cells (hg.below (show Below w.heap.size w _ by (repeat' (first | (with_reducible exact Below.refl _ _) | (with_reducible assumption) | (with_reducible refine Below.alloc ?_ ?_ _) | (with_reducible refine Below.drew ?_) | (with_reducible refine below_drewN ?_ _) | (with_reducible refine Below.setCell ?_ ?_ _) | (with_reducible refine Below.trans ?_ (Below.mono (by with_reducible assumption) ?_)) | go_size))) (Nat.le_refl _))) (encW_one _ _ _) (by unfold maxLen; omega) (by omega) (by simp; omega) ?_; intro v8 w8 hown8 hgr8 hn8'; obtain ⟨x8, c8, rfl⟩ := own_shape hown8 (fun h => by have := hn8' h; cases this); rw [Nat.zero_add, List.nil_append] at hown8; have hB8 : Below (w7.heap.size + 1) (w7.alloc (.cells #[.int .i64 s.tr, .int .i64 s.st, .int .i64 mvX, .int .i64 noX, .int .i64 wrX, .slice s.ra s.rn s.rc] 30)) w8 := ((Below.refl _ _).alloc (by simp) _).grown hgr8 (by simp) (fun q e => by cases e; simp); have hown8h := hid hown8; clear hown8 hgr8 hn8'; have hB78 : Below w7.heap.size w7 w8 := Below.trans ((Below.refl _ _).alloc (Nat.le_refl _) _) (hB8.mono (by omega)); have hBw8 : Below w.heap.size w w8 := hBw7.trans (hB78.mono hBw7.size); have sv8 := sv7.below hB78 hz7a; have sx8 : Svb (wdS s mvX noX wrX) w8 w7.heap.size := (Svb.new (wdS s mvX noX wrX) w7).below hB8 (by omega); obtain ⟨u0', u1', u2', u3', u4', u5'⟩ := sx8.all; have hz8 : w7.heap.size < w8.heap.size := (by have := hB8.size; simp at this; omega); obtain ⟨hc8, _⟩ := bcell hB78; have z38 : w8.cell? ⟨w.heap.size + 1, 3, none⟩ = some (.int .i64 xi) := (by rw [hc8 _ _ (by omega)]; exact z3); clear hc8; have hG9 := hid (ownG_in hown8h.out); have hBw9 := hBw8; have sv9 := sv8; have hB2a : Below w2.heap.size w2 w8 := hB27.trans (hB78.mono hB27.size); have okg8 : (ownG x8 g.wn c8 g.wc g.wu).Ok := ⟨okgh.out.n2, okgh.out.c, okgh.out.u⟩; clear okg8) | (go_at_call 13; refine (c13 _).mono ?_; rintro e w9 ⟨rfl, hB9⟩))
  all_goals
    go_returns
    exact ⟨rfl, hBwa.trans (hB9.mono hBwa.size)⟩

set_option maxRecDepth 100000 in
set_option maxHeartbeats 8000000 in
theorem c7_no1 (s : Sv) (g : Wg) (xm xn xw xi : Int) (w : World) (hz : s.In w) (hg : g.In w) (hnk : g.wa = none → g.wk = 0) (hv0 : ValP s g) (hw7 : g.wn ≤ 7) (hxm : 0 ≤ xm ∧ xm ≤ 64) (hxn : 0 ≤ xn ∧ xn ≤ 16) (hxw : 0 ≤ xw ∧ xw ≤ 3) (hmn : ¬ mn s.N (fl s g) ≤ s.wr) (k : Nat) (hxk : xi = k) (hkn : k < g.wn) :
    Calls Try.prog 7 #[s.v, g.v, .agg #[.int .i64 xm, .int .i64 xn, .int .i64 xw, .int .i64 xi]] w fun e w' => e = .returned (.bool true) ∧ Below w.heap.size w w' := by
  subst hxk
  obtain ⟨i0, ie0, ie1, ie2, ie3⟩ := info_parts Try.info46
  obtain ⟨ok, okg, hn8, hr40⟩ := hv0.ok
  have hv := hid hv0
  have okh := hid ok
  have okgh := hid okg
  have hN := ok.Nb
  have hN1 := hN.1; have hN2 := hN.2.1
  have hck := ckE_ok ok okg
  have e1 := hid (ahE_none hck trivial hmn)
  have e2 := hid (ahL_no (d := 0) (show ahE s g True ≠ 0 by rw [e1.out]; omega))
  have e3 := hid (ahE_none (told := 0 ≤ (1 : Int) ∧ (1 : Int) ≤ 24) hck ⟨by omega, by omega⟩ hmn)
  have e4 := hid (show ahL s g (0 ≤ (1 : Int) ∧ (1 : Int) ≤ 24) (1 : Int).toNat = [] from ahL_no (by rw [e3.out]; omega))
  have hnil : Hid (g.wa = none → g.wn = 0 ∧ g.wk = 0) := hid (fun h => ⟨hg.nil_ h, hnk h⟩)
  have hmnh := hid hmn
  have b1 := okh.out.m0; have b2 := okh.out.m1; have b3 := okh.out.n0; have b4 := okh.out.n1; have b5 := okh.out.w0; have b6 := okh.out.w1
  obtain ⟨mvX, hX1⟩ : ∃ mvX, (if s.mv + xm < 64 then s.mv + xm else 64) = mvX := ⟨_, rfl⟩
  obtain ⟨noX, hX2⟩ : ∃ noX, (if s.no + xn < 16 then s.no + xn else 16) = noX := ⟨_, rfl⟩
  obtain ⟨wrX, hX3⟩ : ∃ wrX, (if s.wr + xw < 3 then s.wr + xw else 3) = wrX := ⟨_, rfl⟩
  have hb1 : s.mv ≤ mvX ∧ mvX ≤ 64 := by rw [← hX1]; split <;> omega
  have hb2 : s.no ≤ noX ∧ noX ≤ 16 := by rw [← hX2]; split <;> omega
  have hb3 : s.wr ≤ wrX ∧ wrX ≤ 3 := by rw [← hX3]; split <;> omega
  have d1 : decide ((7 : Int) < (g.wn : Int)) = false := by simp; omega
  have d2 : decide (xm < 0) = false := by simp; omega
  have d3 : decide (64 < xm) = false := by simp; omega
  have d4 : decide (xn < 0) = false := by simp; omega
  have d5 : decide (16 < xn) = false := by simp; omega
  have d6 : decide (xw < 0) = false := by simp; omega
  have d7 : decide (3 < xw) = false := by simp; omega
  have tok1 : True := trivial
  have tok2 : True := trivial
  have tok3 : True := trivial
  clear hv0 ok okg hN hck hmn hnk
  go_enter Try.func7, Try.ntmps7
  go_wp2_with (first | (go_at_call 16; refine (c16y s g _ (hz.below (by (repeat' (first | (with_reducible exact Below.refl _ _) | (with_reducible assumption) | (with_reducible refine Below.alloc ?_ ?_ _) | (with_reducible refine Below.drew ?_) | (with_reducible refine below_drewN ?_ _) | (with_reducible refine Below.setCell ?_ ?_ _) | (with_reducible refine Below.trans ?_ (Below.mono (by with_reducible assumption) ?_)) | go_size))) (Nat.le_refl _)) (hg.below (by (repeat' (first | (with_reducible exact Below.refl _ _) | (with_reducible assumption) | (with_reducible refine Below.alloc ?_ ?_ _) | (with_reducible refine Below.drew ?_) | (with_reducible refine below_drewN ?_ _) | (with_reducible refine Below.setCell ?_ ?_ _) | (with_reducible refine Below.trans ?_ (Below.mono (by with_reducible assumption) ?_)) | go_size))) (Nat.le_refl _)) hv.out).mono ?_; rintro e w1 ⟨rfl, hB1⟩; have hz1 : w.heap.size + 2 ≤ w1.heap.size := (by have := hB1.size; simp at this; omega); have hBx : Below w.heap.size w w1 := Below.trans (by (repeat' (first | (with_reducible exact Below.refl _ _) | (with_reducible assumption) | (with_reducible refine Below.alloc ?_ ?_ _) | (with_reducible refine Below.drew ?_) | (with_reducible refine below_drewN ?_ _) | (with_reducible refine Below.setCell ?_ ?_ _) | (with_reducible refine Below.trans ?_ (Below.mono (by with_reducible assumption) ?_)) | go_size))) (hB1.mono (by simp; omega)); have sv1 := Svb.below ((Svb.new s w).below (B := w.heap.size + 1) (by (repeat' (first | (with_reducible exact Below.refl _ _) | (with_reducible assumption) | (with_reducible refine Below.alloc ?_ ?_ _) | (with_reducible refine Below.drew ?_) | (with_reducible refine below_drewN ?_ _) | (with_reducible refine Below.setCell ?_ ?_ _) | (with_reducible refine Below.trans ?_ (Below.mono (by with_reducible assumption) ?_)) | go_size))) (by omega)) hB1 (by simp; omega); obtain ⟨k0, k1, k2, k3, k4, k5⟩ := sv1.all; obtain ⟨hc1, _⟩ := bcell (hB1.mono (show w.heap.size + 2 ≤ _ by simp)); have x0 : w1.cell? ⟨w.heap.size + 1, 0, none⟩ = some (.int .i64 xm) := (by rw [hc1 _ _ (by omega)]; simp); have x1 : w1.cell? ⟨w.heap.size + 1, 1, none⟩ = some (.int .i64 xn) := (by rw [hc1 _ _ (by omega)]; simp); have x2 : w1.cell? ⟨w.heap.size + 1, 2, none⟩ = some (.int .i64 xw) := (by rw [hc1 _ _ (by omega)]; simp); have x3 : w1.cell? ⟨w.heap.size + 1, 3, none⟩ = some (.int .i64 (k : Nat)) := (by rw [hc1 _ _ (by omega)]; simp); clear hc1) | (go_at_call 18; have _t := tok1; refine (c18 s g _ (hz.below hBx (Nat.le_refl _)) (hg.below hBx (Nat.le_refl _)) (by omega) (by omega)).mono ?_; clear tok1; rw [e1.out, e2.out]; rintro e w2 ⟨v2, rfl, hown2, hB2⟩; obtain ⟨va, vg, vc, rfl, hsp⟩ := SpIn.of_owns hown2; clear hown2; have hBy : Below w.heap.size w w2 := hBx.trans (hB2.mono hBx.size); have hz2 : w.heap.size + 2 ≤ w2.heap.size := (by have := hB2.size; omega); have sv2 := sv1.below hB2 (by omega); obtain ⟨hc2, _⟩ := bcell hB2; have y0 : w2.cell? ⟨w.heap.size + 1, 0, none⟩ = some (.int .i64 xm) := (by rw [hc2 _ _ (by omega)]; exact x0); have y1 : w2.cell? ⟨w.heap.size + 1, 1, none⟩ = some (.int .i64 xn) := (by rw [hc2 _ _ (by omega)]; exact x1); have y2 : w2.cell? ⟨w.heap.size + 1, 2, none⟩ = some (.int .i64 xw) := (by rw [hc2 _ _ (by omega)]; exact x2); have y3 : w2.cell? ⟨w.heap.size + 1, 3, none⟩ = some (.int .i64 (k : Nat)) := (by rw [hc2 _ _ (by omega)]; exact x3); clear hc2) | (go_at_call 18; have _t := tok2; refine (c18 s (ownG x4 (g.wn + 1) c4 (wcA g) (wuA g)) _ (hz.below hBw4 (Nat.le_refl _)) hG4.out (by omega) (by simp only [ownG]; omega)).mono ?_; clear tok2; rw [mf.1, mf.2]; rintro e w5 ⟨v5, rfl, hown5, hB5⟩; obtain ⟨vd, vh, vk, rfl, hsp5⟩ := SpIn.of_owns hown5; clear hown5; have hBw5 : Below w.heap.size w w5 := hBw4.trans (hB5.mono hBw4.size); have sv5 := sv2.below ((hB3.trans hB4).trans (hB5.mono (Nat.le_trans hB3.size hB4.size))) (by omega); obtain ⟨m0', m1', m2', m3', m4', m5'⟩ := sv5.all) | (go_at_call 18; have _t := tok3; refine (c18 (wdS s mvX noX wrX) (ownG x8 g.wn c8 (fun j => if j = k then -1 else g.wc j) (fun j => if j = k then 0 else g.wu j)) _ (show (wdS s mvX noX wrX).In _ from (hz.below hBw9 (Nat.le_refl _))) hG9.out (show (wdS s mvX noX wrX).rn ≤ 1000000 by simp only [wdS]; omega) (by simp only [ownG]; omega)).mono ?_; clear tok3; rintro e wa' ⟨v9, rfl, hown9, hB9a⟩; clear hown9; have hBwa : Below w.heap.size w wa' := hBw9.trans (hB9a.mono hBw9.size); obtain ⟨t0', t1', t2', t3', t4', t5'⟩ := (sv9.below hB9a hsz9).all; skip) | (go_at_call 24; refine (c24 s g 1 _ (hz.below hBw5 (Nat.le_refl _)) (hg.below hBw5 (Nat.le_refl _)) (by omega) (by omega)).mono ?_; rw [e3.out, e4.out]; rintro e w6 ⟨v6, rfl, hown6, hB6⟩; obtain ⟨ve, vi, vm, rfl, hsp6⟩ := SpIn.of_owns hown6; clear hown6; have hBw6 : Below w.heap.size w w6 := hBw5.trans (hB6.mono hBw5.size)) | (go_at_call 30; refine (c30y vd ve vh vi vk vm [] _ (hsp5.below hB6 (Nat.le_refl _)) hsp6 (by simp)).mono ?_; rintro e w7 ⟨rfl, hB7⟩; have hBw7 : Below w.heap.size w w7 := hBw6.trans (hB7.mono hBw6.size); have hB27 : Below w2.heap.size w2 w7 := ((hB3.trans hB4).trans (hB5.mono (Nat.le_trans hB3.size hB4.size))).trans ((hB6.trans (hB7.mono hB6.size)).mono (Nat.le_trans (Nat.le_trans hB3.size hB4.size) hB5.size)); have sv7 := sv2.below hB27 (by omega); obtain ⟨n0', n1', n2', n3', n4', n5'⟩ := sv7.all; obtain ⟨hc7, _⟩ := bcell hB27; have z0 : w7.cell? ⟨w.heap.size + 1, 0, none⟩ = some (.int .i64 xm) := (by rw [hc7 _ _ (by omega)]; exact y0); have z1 : w7.cell? ⟨w.heap.size + 1, 1, none⟩ = some (.int .i64 xn) := (by rw [hc7 _ _ (by omega)]; exact y1); have z2 : w7.cell? ⟨w.heap.size + 1, 2, none⟩ = some (.int .i64 xw) := (by rw [hc7 _ _ (by omega)]; exact y2); have z3 : w7.cell? ⟨w.heap.size + 1, 3, none⟩ = some (.int .i64 (k : Nat)) := (by rw [hc7 _ _ (by omega)]; exact y3); have hz7 : w.heap.size + 2 ≤ w7.heap.size := Nat.le_trans hz2 hB27.size; have hz7a : w.heap.size < w7.heap.size := (by omega); have hz7b : w.heap.size + 1 < w7.heap.size := (by omega); clear hc7) | (at_builtin; refine app_src rfl (.tmp 70) (.tmp 71) 31 rfl w2.heap.size 46 i0 (.agg #[.int .i64 0, .int .i64 0]) 2 16 Try.underlying31 ie0 ie1 ie2 ie3 rfl (by decide) _ _ _ rfl (own_made _ 46 2 _ _ rfl (Nat.le_refl _)) g.wa g.wn g.wk (encW g.wn g.wc g.wu) rfl hnil.out (encW_len _ _ _) (Weds.cells (hg.below (hBy.alloc hBy.size _) (Nat.le_refl _))) (encW_one _ _ _) (by unfold maxLen; omega) (by omega) (by simp) ?_; intro v3 w3 hown3 hgr3 hn3; obtain ⟨x3', c3, rfl⟩ := own_shape hown3 (fun h => by have := hn3 h; cases this); rw [Nat.zero_add, List.nil_append] at hown3; have hB3 : Below w2.heap.size w2 w3 := ((Below.refl w2.heap.size w2).alloc (Nat.le_refl _) _).grown hgr3 (by simp) (fun q e => by cases e; simp); have hown3h := hid hown3; clear hown3 hgr3 hn3) | (at_builtin; refine app_src rfl (.tmp 72) (.tmp 74) 31 rfl w2.heap.size 46 i0 (.agg #[.int .i64 0, .int .i64 0]) 2 16 Try.underlying31 ie0 ie1 ie2 ie3 rfl (by decide) _ _ _ rfl (hown3h.out.alloc _) (some ⟨w3.heap.size, 0, none⟩) 1 1 [.int .i64 (-1), .int .i64 0] rfl (fun h => by cases h) rfl (fun ad h => by cases h; exact World.news_of_block (cs := #[.int .i64 (-1), .int .i64 0]) (t := 46) (fr := (0, 0)) (heap_new _ _)) (by simp [Value.oneCell']) (by unfold maxLen; omega) (by omega) (by simp; exact Nat.le_succ_of_le hB3.size) ?_; intro v4 w4 hown4 hgr4 hn4; obtain ⟨x4, c4, rfl⟩ := own_shape hown4 (fun h => by have := hn4 h; cases this); have hB4 : Below w2.heap.size w3 w4 := ((Below.refl w2.heap.size w3).alloc hB3.size _).grown hgr4 (by simp; exact Nat.le_succ_of_le hB3.size) (fun q e => (hown3h.out.lt q e).1); have hG4 := hid (ownG_in (by rw [← encW_app]; exact hown4)); clear hown4 hgr4 hn4; have hz4 : w.heap.size + 2 ≤ w4.heap.size := Nat.le_trans (Nat.le_trans hz2 hB3.size) hB4.size; have hBw4 : Below w.heap.size w w4 := hBy.trans ((hB3.trans hB4).mono hBy.size); obtain ⟨o0, o1, o2, o3, o4, o5⟩ := (sv2.below (hB3.trans hB4) (by omega)).all; have mf := more_no okh.out okgh.out (by omega) (show ¬ mn s.N (fl s g) ≤ s.wr by have := hmnh.out; omega) x4 c4) | (at_builtin; refine app_src rfl (.tmp 124) (.tmp 125) 31 rfl (w7.heap.size + 1) 46 i0 (.agg #[.int .i64 0, .int .i64 0]) 2 16 Try.underlying31 ie0 ie1 ie2 ie3 rfl (by decide) _ _ _ rfl (own_made _ 46 2 (w7.heap.size + 1) (w7.heap.size + 1) (by simp) (by omega)) g.wa g.wn g.wk (encW g.wn g.wc g.wu) rfl hnil.out (encW_len _ _ _) (Weds.cells (hg.below (show Below w.heap.size w _ by (repeat' (first | (with_reducible exact Below.refl _ _) | (with_reducible assumption) | (with_reducible refine Below.alloc ?_ ?_ _) | (with_reducible refine Below.drew ?_) | (with_reducible refine below_drewN ?_ _) | (with_reducible refine Below.setCell ?_ ?_ _) | (with_reducible refine Below.trans ?_ (Below.mono (by with_reducible assumption) ?_)) | go_size))) (Nat.le_refl _))) (encW_one _ _ _) (by unfold maxLen; omega) (by omega) (by first | (simp; done) | (simp; omega)) ?_; intro v8 w8 hown8 hgr8 hn8'; obtain ⟨x8, c8, rfl⟩ := own_shape hown8 (fun h => by have := hn8' h; cases this); rw [Nat.zero_add, List.nil_append] at hown8; have hB8 : Below (w7.heap.size + 1) (w7.alloc (.cells #[.int .i64 s.tr, .int .i64 s.st, .int .i64 mvX, .int .i64 noX, .int .i64 wrX, .slice s.ra s.rn s.rc] 30)) w8 := ((Below.refl _ _).alloc (by simp) _).grown hgr8 (by simp) (fun q e => by cases e; simp); have hown8h := hid hown8; clear hown8 hgr8 hn8'; have hB78 : Below w7.heap.size w7 w8 := Below.trans ((Below.refl _ _).alloc (Nat.le_refl _) _) (hB8.mono (by omega)); have hBw8 : Below w.heap.size w w8 := hBw7.trans (hB78.mono hBw7.size); have sv8 := sv7.below hB78 hz7a; have sx8 : Svb (wdS s mvX noX wrX) w8 w7.heap.size := (Svb.new (wdS s mvX noX wrX) w7).below hB8 (by omega); obtain ⟨u0', u1', u2', u3', u4', u5'⟩ := sx8.all; have hz8 : w7.heap.size < w8.heap.size := (by have := hB8.size; simp at this; omega); obtain ⟨hc8, _⟩ := bcell hB78; have z38 : w8.cell? ⟨w.heap.size + 1, 3, none⟩ = some (.int .i64 (k : Nat)) := (by rw [hc8 _ _ (by omega)]; exact z3); clear hc8; have hx8 := hown8h.out.lt x8 rfl; have hx8a : w7.heap.size + 1 ≤ x8 := hx8.1; have hx8b : x8 < w8.heap.size := hx8.2; have hne1 : ¬ w7.heap.size = x8 := (by omega); have hne2 : ¬ x8 = w7.heap.size := (by omega); have ix8 := @Weds.ix _ _ _ _ _ c8 _ _ (ownG_in hown8h.out) k hkn; (simp only [ownG, Nat.zero_add] at ix8); have ca8 : w8.cell? ⟨x8, k * 2, none⟩ = some (.int .i64 (g.wc k)) := (by rw [hown8h.out.cellAt _ (by omega)]; exact (encW_at g.wc g.wu g.wn k hkn).1); have cb8 : w8.cell? ⟨x8, k * 2 + 1, none⟩ = some (.int .i64 (g.wu k)) := (by rw [hown8h.out.cellAt _ (by omega)]; exact (encW_at g.wc g.wu g.wn k hkn).2); have fa8 := hown8h.out.frozenAt (k * 2); have fb8 := hown8h.out.frozenAt (k * 2 + 1); have st1 := (hown8h.out.stored (k * 2) (.int .i64 (-1))); have st2 := (st1.1.stored (k * 2 + 1) (.int .i64 0)); have hG9 := hid (ownG_in (by rw [← encW_set g.wn k g.wc g.wu (-1) 0 hkn]; exact st2.1)); have hB89 : Below (w7.heap.size + 1) w8 ((w8.setCell ⟨x8, k * 2, none⟩ (.int .i64 (-1))).setCell ⟨x8, k * 2 + 1, none⟩ (.int .i64 0)) := (((Below.refl _ _).setCell hx8a _).setCell hx8a _); have hBw9 : Below w.heap.size w ((w8.setCell ⟨x8, k * 2, none⟩ (.int .i64 (-1))).setCell ⟨x8, k * 2 + 1, none⟩ (.int .i64 0)) := hBw8.trans (hB89.mono (by omega)); have sv9 := sv8.below hB89 (by omega); have hB2a : Below w2.heap.size w2 ((w8.setCell ⟨x8, k * 2, none⟩ (.int .i64 (-1))).setCell ⟨x8, k * 2 + 1, none⟩ (.int .i64 0)) := (hB27.trans (hB78.mono hB27.size)).trans (hB89.mono (Nat.le_succ_of_le hB27.size)); have hsz9 : w.heap.size < ((w8.setCell ⟨x8, k * 2, none⟩ (.int .i64 (-1))).setCell ⟨x8, k * 2 + 1, none⟩ (.int .i64 0)).heap.size := (by simp; omega); have okg8 : (ownG x8 g.wn c8 (fun j => if j = k then -1 else g.wc j) (fun j => if j = k then 0 else g.wu j)).Ok := ⟨okgh.out.n2, fun j hj => (by show -1 ≤ (if j = k then -1 else g.wc j) ∧ (if j = k then -1 else g.wc j) ≤ 127; split <;> first | omega | exact okgh.out.c j hj), fun j hj => (by show -100 ≤ (if j = k then 0 else g.wu j) ∧ (if j = k then 0 else g.wu j) ≤ 100; split <;> first | omega | exact okgh.out.u j hj)⟩; clear st1 st2 hx8; clear okg8) | (go_at_call 13; refine (c13 _).mono ?_; rintro e w9 ⟨rfl, hB9⟩))
  all_goals
    go_returns
    exact ⟨rfl, hBwa.trans (hB9.mono hBwa.size)⟩

theorem c7 (s : Sv) (g : Wg) (xm xn xw xi : Int) (w : World) (hz : s.In w) (hg : g.In w) (hnk : g.wa = none → g.wk = 0) :
    Calls Try.prog 7 #[s.v, g.v, .agg #[.int .i64 xm, .int .i64 xn, .int .i64 xw, .int .i64 xi]] w fun e w' => e = .returned (.bool true) ∧ Below w.heap.size w w' := by
  by_cases h : ValP s g ∧ g.wn ≤ 7 ∧ (0 ≤ xm ∧ xm ≤ 64) ∧ (0 ≤ xn ∧ xn ≤ 16) ∧ (0 ≤ xw ∧ xw ≤ 3)
  · obtain ⟨h1, h2, h3, h4, h5⟩ := h
    by_cases hx : 0 ≤ xi ∧ xi < g.wn
    · obtain ⟨k, hk⟩ : ∃ k : Nat, xi = k := ⟨xi.toNat, by omega⟩
      by_cases hmn : mn s.N (fl s g) ≤ s.wr
      · exact c7_yes1 s g xm xn xw xi w hz hg hnk h1 h2 h3 h4 h5 hmn k hk (by omega)
      · exact c7_no1 s g xm xn xw xi w hz hg hnk h1 h2 h3 h4 h5 hmn k hk (by omega)
    · by_cases hmn : mn s.N (fl s g) ≤ s.wr
      · exact c7_yes0 s g xm xn xw xi w hz hg hnk h1 h2 h3 h4 h5 hmn hx
      · exact c7_no0 s g xm xn xw xi w hz hg hnk h1 h2 h3 h4 h5 hmn hx
  · exact c7_skip s g xm xn xw xi w hz hg h
end Go.Proofs.Ytkafjlhmbiaicaa

/- Stage 2: the law of what the servo and the reference say, and of what came in. -/
set_option linter.unusedSimpArgs false
set_option linter.unusedVariables false
namespace Go.Proofs.Ytkafjlhmbiaicaa
open Go.RowKit Go.Sort Go.BigFrame

theorem cp_ok (s : Sv) (x c : Nat) : (cpS s x c).Ok ↔ s.Ok :=
  ⟨fun h => ⟨h.t1, h.t2, h.s1, h.s2, h.m0, h.m1, h.n0, h.n1, h.w0, h.w1, h.r1, h.r2, h.ro⟩, fun h => ⟨h.t1, h.t2, h.s1, h.s2, h.m0, h.m1, h.n0, h.n1, h.w0, h.w1, h.r1, h.r2, h.ro⟩⟩
theorem own_ok (g : Wg) (y d : Nat) : (ownG y g.wn d g.wc g.wu).Ok ↔ g.Ok :=
  ⟨fun h => ⟨h.n2, h.c, h.u⟩, fun h => ⟨h.n2, h.c, h.u⟩⟩
theorem ckE_own (s : Sv) (g : Wg) (x c y d : Nat) : ckE (cpS s x c) (ownG y g.wn d g.wc g.wu) = ckE s g := by
  by_cases h1 : s.Ok
  · by_cases h2 : g.Ok
    · rw [ckE_ok h1 h2]; exact ckE_ok ((cp_ok s x c).2 h1) ((own_ok g y d).2 h2)
    · rw [ckE_wg h1 h2]; exact ckE_wg ((cp_ok s x c).2 h1) (fun h => h2 ((own_ok g y d).1 h))
  · rw [ckE_sv h1]; exact ckE_sv (fun h => h1 ((cp_ok s x c).1 h))
theorem fl_own (s : Sv) (g : Wg) (x c y d : Nat) : fl (cpS s x c) (ownG y g.wn d g.wc g.wu) = fl s g := rfl
theorem ahE_own (s : Sv) (g : Wg) (x c y d : Nat) (told : Prop) : ahE (cpS s x c) (ownG y g.wn d g.wc g.wu) told = ahE s g told := by
  unfold ahE
  rw [ckE_own, fl_own]
  rfl
theorem ahL_own (s : Sv) (g : Wg) (x c y d : Nat) (told : Prop) (t : Nat) : ahL (cpS s x c) (ownG y g.wn d g.wc g.wu) told t = ahL s g told t := by
  unfold ahL
  rw [ahE_own]
  rfl
theorem fwA_own (s : Sv) (g : Wg) (x c y d : Nat) : fwA (cpS s x c) (ownG y g.wn d g.wc g.wu) = fwA s g := by
  unfold fwA
  rw [ckE_own, fl_own]
  rfl
theorem ahL_len (s : Sv) (g : Wg) (told : Prop) (t : Nat) : (ahL s g told t).length ≤ 10000 := by
  by_cases h : ahE s g told = 0
  · obtain ⟨ok, _, _, _⟩ := ahE_inv h
    rw [ahL_ok h]
    have h1 := ok.Nb.2.1
    have h2 := spn_len (fun p => decide (mvn s.N s.m (fl s g) t p ≤ s.wr)) s.N
    unfold aheadL
    omega
  · rw [ahL_no h]; simp
end Go.Proofs.Ytkafjlhmbiaicaa
