/- Texts put together: Tj, Tk. -/
import Derived.Test.YtkafjlhmbiaicaaG23
import Derived.Test.YtkafjlhmbiaicaaG18
import Derived.Test.YtkafjlhmbiaicaaG21
/- Stage 2: the reference's CheckTrace. -/
set_option linter.unusedSimpArgs false
set_option linter.unusedVariables false
namespace Go.Proofs.Ytkafjlhmbiaicaa
open Go.RowKit Go.Sort Go.BigFrame

/-- The last position, as the machine reckons it. -/
def lastW (s : Sv) : Int := wrap64 (s.st * wrap64 (s.tr - 1))
set_option maxHeartbeats 400000 in
theorem c27g (s : Sv) (w : World) : Calls Try.prog 27 #[s.v] w fun e w' => e = .returned (.int .i64 (lastW s)) ∧ Below w.heap.size w w' := by
  go_enter Try.func27, Try.ntmps27
  go_wp2_with fail
  go_returns
  exact ⟨rfl, by (repeat' (first | (with_reducible exact Below.refl _ _) | (with_reducible assumption) | (with_reducible refine Below.alloc ?_ ?_ _) | (with_reducible refine Below.drew ?_) | (with_reducible refine below_drewN ?_ _) | (with_reducible refine Below.setCell ?_ ?_ _) | (with_reducible refine Below.trans ?_ (Below.mono (by with_reducible assumption) ?_)) | go_size))⟩
theorem lastW_ok {s : Sv} (ok : s.Ok) : lastW s = (s.N : Int) - 1 := by
  have h := ok.Nb
  have t1 := ok.t1; have t2 := ok.t2
  have e : wrap64 (s.tr - 1) = s.tr - 1 := by unfold wrap64; omega
  unfold lastW
  rw [e]
  have : wrap64 (s.st * (s.tr - 1)) = s.st * (s.tr - 1) := by unfold wrap64; omega
  omega
set_option maxRecDepth 100000 in
set_option maxHeartbeats 1000000 in
theorem c44_err (s : Sv) (g : Wg) (x er : Int) (T1 T2 : Bool) (w : World) (hz : s.In w) (hg : g.In w) (hm : s.rn ≤ 1000000) (hm2 : g.wn ≤ 1000000)
    (hT1 : decide (0 ≤ x ∧ x ≤ lastW s) = T1) (hT2 : decide (0 < (g.wn : Int)) = T2) (he : ahE s g ((T1 && T2) = true) = er) (hne0 : er ≠ 0) :
    Calls Try.prog 44 #[s.v, g.v, .int .i64 x] w fun e w' => e = .returned (.int .i64 er) ∧ Below w.heap.size w w' := by
  obtain ⟨W0, hW0⟩ : ∃ W0 : World, W0 = w.alloc (.cells #[.int .i64 s.tr, .int .i64 s.st, .int .i64 s.mv, .int .i64 s.no, .int .i64 s.wr, .slice s.ra s.rn s.rc] 30) := ⟨_, rfl⟩
  have hB0 : Below w.heap.size w W0 := by rw [hW0]; exact (Below.refl _ _).alloc (Nat.le_refl _) _
  have hsv : Svb s W0 w.heap.size := by rw [hW0]; exact Svb.new s w
  have hne : (er == 0) = false := by simpa using hne0
  have hT1h := hid hT1
  have heh := hid he
  have hneh := hid hne0
  obtain ⟨q0, q1, q2, q3, q4, q5⟩ := hsv.all
  have y0 := cell_regrown q0; have y1 := cell_regrown q1; have y2 := cell_regrown q2; have y3 := cell_regrown q3; have y4 := cell_regrown q4; have y5 := cell_regrown q5
  clear q0 q1 q2 q3 q4 q5 hT1 he hne0
  cases T1 with
  | true =>
    cases T2 with
    | true =>
      have hei : Hid (ahE s g (true = true) = er) := hid heh.out
      have hn0 : 0 < g.wn := by have := of_decide_eq_true hT2; omega
      go_enter Try.func44, Try.ntmps44
      go_wp2_with fail
      rw [← hW0]
      clear hW0
      refine wp_region_quiet_below (by kernel_rfl) (by kernel_rfl) ?_; (repeat (go_big_quiet_step ((first | (go_at_call 27; exact Calls.regrown_of (c27g s _)) | (go_at_call 61; exact Calls.regrown_of (c61T _ hT1h.out)) | (go_at_call 64; exact Calls.regrown_of (c64_er (told := true) (by have := hei.out; simpa using this) hneh.out (hz.below (hB0.trans (Below.mono (below_regrown _ _ _) hB0.size)) (Nat.le_refl _)) (hg.below (hB0.trans (Below.mono (below_regrown _ _ _) hB0.size)) (Nat.le_refl _)) hm hm2)))))); refine wpQuiet_nil ?_; intro _ hw; obtain ⟨q, hwq⟩ := hw; subst hwq
      have hBq := below_regrown W0 q.d q.os
      generalize grow (redrawn W0 q.d) q.os = w5 at hBq ⊢
      clear y0 y1 y2 y3 y4 y5
      go_wp2
      go_returns
      exact ⟨rfl, hB0.trans (hBq.mono hB0.size)⟩
    | false =>
      have hei : Hid (ahE s g (false = true) = er) := hid heh.out
      have hT3 : decide (0 < g.wn) = false := decide_eq_false (by have := of_decide_eq_false hT2; omega)
      go_enter Try.func44, Try.ntmps44
      go_wp2_with fail
      rw [← hW0]
      clear hW0
      refine wp_region_quiet_below (by kernel_rfl) (by kernel_rfl) ?_; (repeat (go_big_quiet_step ((first | (go_at_call 27; exact Calls.regrown_of (c27g s _)) | (go_at_call 61; exact Calls.regrown_of (c61T _ hT1h.out)) | (go_at_call 64; exact Calls.regrown_of (c64_er (told := false) hei.out hneh.out (hz.below (hB0.trans (Below.mono (below_regrown _ _ _) hB0.size)) (Nat.le_refl _)) (hg.below (hB0.trans (Below.mono (below_regrown _ _ _) hB0.size)) (Nat.le_refl _)) hm hm2)))))); refine wpQuiet_nil ?_; intro _ hw; obtain ⟨q, hwq⟩ := hw; subst hwq
      have hBq := below_regrown W0 q.d q.os
      generalize grow (redrawn W0 q.d) q.os = w5 at hBq ⊢
      clear y0 y1 y2 y3 y4 y5
      go_wp2
      go_returns
      exact ⟨rfl, hB0.trans (hBq.mono hB0.size)⟩
  | false =>
    have hei : Hid (ahE s g (false = true) = er) := hid (by have := heh.out; simpa using this)
    clear hT2
    go_enter Try.func44, Try.ntmps44
    go_wp2_with fail
    rw [← hW0]
    clear hW0
    refine wp_region_quiet_below (by kernel_rfl) (by kernel_rfl) ?_; (repeat (go_big_quiet_step ((first | (go_at_call 27; exact Calls.regrown_of (c27g s _)) | (go_at_call 61; exact Calls.regrown_of (c61T _ hT1h.out)) | (go_at_call 64; exact Calls.regrown_of (c64_er (told := false) hei.out hneh.out (hz.below (hB0.trans (Below.mono (below_regrown _ _ _) hB0.size)) (Nat.le_refl _)) (hg.below (hB0.trans (Below.mono (below_regrown _ _ _) hB0.size)) (Nat.le_refl _)) hm hm2)))))); refine wpQuiet_nil ?_; intro _ hw; obtain ⟨q, hwq⟩ := hw; subst hwq
    have hBq := below_regrown W0 q.d q.os
    generalize grow (redrawn W0 q.d) q.os = w5 at hBq ⊢
    clear y0 y1 y2 y3 y4 y5
    go_wp2
    go_returns
    exact ⟨rfl, hB0.trans (hBq.mono hB0.size)⟩
set_option maxRecDepth 100000 in
set_option maxHeartbeats 8000000 in
theorem c44_ok (s : Sv) (g : Wg) (x : Nat) (er : Int) (w : World) (hz : s.In w) (hg : g.In w) (hm : s.rn ≤ 1000000) (hm2 : g.wn ≤ 1000000) (ok : s.Ok) (okg : g.Ok) (hx : x < s.N) (hn0 : 0 < g.wn) (hmn : mn s.N (fl s g) ≤ s.wr) (her : er = if fl s g x ≤ s.wr then 0 else 3) :
    Calls Try.prog 44 #[s.v, g.v, .int .i64 (x : Nat)] w fun e w' => e = .returned (.int .i64 er) ∧ Below w.heap.size w w' := by
  obtain ⟨W0, hW0⟩ : ∃ W0 : World, W0 = w.alloc (.cells #[.int .i64 s.tr, .int .i64 s.st, .int .i64 s.mv, .int .i64 s.no, .int .i64 s.wr, .slice s.ra s.rn s.rc] 30) := ⟨_, rfl⟩
  have hB0 : Below w.heap.size w W0 := by rw [hW0]; exact (Below.refl _ _).alloc (Nat.le_refl _) _
  have hsv : Svb s W0 w.heap.size := by rw [hW0]; exact Svb.new s w
  have hs0 : W0.heap.size = w.heap.size + 1 := by rw [hW0]; simp
  have okh := hid ok
  have okgh := hid okg
  have hmnh := hid hmn
  have hN2 := ok.Nb.2.1
  have hn2 := okg.n2
  have hT2 : decide (0 < (g.wn : Int)) = true := decide_eq_true (by omega)
  have hlw := hid (lastW_ok ok)
  have hend : Hid (endsB s g x = decide (fl s g x ≤ s.wr)) := hid (by unfold endsB; rw [rfq_fl okg hx])
  have ixB1 := fun b c => @ixB b s.N c x hx
  clear ok okg hmn
  go_enter Try.func44, Try.ntmps44
  go_wp2_with fail
  rw [← hW0]
  clear hW0
  go_region_held3 (fun w' => w'.cell? ⟨w.heap.size, 0, none⟩ = some (.int .i64 s.tr) ∧ w'.cell? ⟨w.heap.size, 1, none⟩ = some (.int .i64 s.st) ∧ w'.cell? ⟨w.heap.size, 2, none⟩ = some (.int .i64 s.mv) ∧ w'.cell? ⟨w.heap.size, 3, none⟩ = some (.int .i64 s.no) ∧ w'.cell? ⟨w.heap.size, 4, none⟩ = some (.int .i64 s.wr) ∧ w'.cell? ⟨w.heap.size, 5, none⟩ = some (.slice s.ra s.rn s.rc)) (first | exact hsv.all | exact hk3.all | exact hk4.all) (first | (go_at_call 27; refine (c27g s _).mono ?_; rintro e w2 ⟨rfl, hB2⟩; have hk3 : Svb s w2 w.heap.size := Svb.below (w := W0.drew) hsv hB2 (show w.heap.size < W0.heap.size by omega)) | (go_at_call 61; refine (c61E (T := true) _ (decide_eq_true (by have := hlw.out; omega))).mono ?_; rintro e w3 ⟨rfl, rfl⟩) | (go_at_call 64; refine (c64_ok s g _ (hz.below (by first | exact hB0 | exact hB0.drew | exact hB0.trans ((Below.trans (Below.refl _ _).drew hB2).mono hB0.size)) (Nat.le_refl _)) (hg.below (by first | exact hB0 | exact hB0.drew | exact hB0.trans ((Below.trans (Below.refl _ _).drew hB2).mono hB0.size)) (Nat.le_refl _)) hm hm2 okh.out okgh.out hmnh.out).mono ?_; rintro e w4 ⟨b, c, rfl, hb, hBl, hB4⟩; have hBlh := hid hBl; clear hBl; have hk4 : Svb s w4 w.heap.size := Svb.below (w := w2) hk3 hB4 (show w.heap.size < w2.heap.size from Nat.lt_of_lt_of_le (show w.heap.size < W0.heap.size by omega) hB2.size)))
  have hB5 : Below w.heap.size w w4 := hB0.trans (Below.mono (Below.trans (Below.trans (Below.refl W0.heap.size W0).drew hB2) (hB4.mono hB2.size)) (by omega))
  have x1 := hBlh.out.ce x hx
  have x3 := hBlh.out.lt
  have x4 := ixB1 b c
  clear hB4 hsv hk3 hk4
  by_cases hfx : fl s g x ≤ s.wr
  · rw [if_pos hfx] at her
    rw [hend.out, decide_eq_true hfx] at x1
    have herh := hid her
    clear her hfx hlw
    go_wp2_with fail
    go_returns
    exact ⟨by rw [herh.out]; rfl, hB5⟩
  · rw [if_neg hfx] at her
    rw [hend.out, decide_eq_false hfx] at x1
    have herh := hid her
    clear her hfx hlw
    go_wp2_with fail
    go_returns
    exact ⟨by rw [herh.out]; rfl, hB5⟩
theorem c44 (s : Sv) (g : Wg) (x : Int) (w : World) (hz : s.In w) (hg : g.In w) (hm : s.rn ≤ 1000000) (hm2 : g.wn ≤ 1000000) :
    Calls Try.prog 44 #[s.v, g.v, .int .i64 x] w fun e w' => e = .returned (.int .i64 (trE s g x)) ∧ Below w.heap.size w w' := by
  by_cases hc : ckE s g = 0
  · obtain ⟨ok, okg⟩ := ckE_inv hc
    have hl := lastW_ok ok
    have hN := ok.Nb
    by_cases ht : trT s g x
    · have e1 : decide (0 ≤ x ∧ x ≤ lastW s) = true := decide_eq_true (by have := ht.1; omega)
      have e2 : decide (0 < (g.wn : Int)) = true := decide_eq_true (by have := ht.2; omega)
      by_cases hmn : mn s.N (fl s g) ≤ s.wr
      · obtain ⟨k, rfl⟩ : ∃ k : Nat, x = k := ⟨x.toNat, by have := ht.1.1; omega⟩
        have hk : k < s.N := by have := ht.1.2; omega
        have ek : ((k : Int)).toNat = k := by omega
        refine c44_ok s g k _ w hz hg hm hm2 ok okg hk ht.2 hmn ?_
        by_cases h3 : fl s g k ≤ s.wr
        · rw [if_pos h3]; exact trE_ok hc ht (by rw [ek]; exact h3)
        · rw [if_neg h3]; exact trE_none hc ht (by rw [ek]; exact h3)
      · have h3 : ¬ fl s g x.toNat ≤ s.wr := fun h => hmn ((mn_le (by omega)).2 ⟨x.toNat, by have := ht.1; omega, h⟩)
        refine c44_err s g x _ true true w hz hg hm hm2 e1 e2 ?_ (by rw [trE_none hc ht h3]; omega)
        rw [trE_none hc ht h3]
        exact ahE_none hc (by rfl) hmn
    · rw [trE_arg hc ht]
      refine c44_err s g x _ _ _ w hz hg hm hm2 rfl rfl (ahE_arg hc ?_) (by omega)
      intro h
      simp only [Bool.and_eq_true, decide_eq_true_eq] at h
      exact ht ⟨by have := h.1; omega, by have := h.2; omega⟩
  · rw [trE_ck hc]
    exact c44_err s g x _ _ _ w hz hg hm hm2 rfl rfl (ahE_ck hc) hc
end Go.Proofs.Ytkafjlhmbiaicaa

/- Stage 2: the law of the traces. -/
set_option linter.unusedSimpArgs false
set_option linter.unusedVariables false
namespace Go.Proofs.Ytkafjlhmbiaicaa
open Go.RowKit Go.Sort Go.BigFrame

theorem trE_own (s : Sv) (g : Wg) (x c y d : Nat) (p : Int) : trE (cpS s x c) (ownG y g.wn d g.wc g.wu) p = trE s g p := by
  unfold trE
  rw [ckE_own, fl_own]
  rfl
theorem c28_0 {s : Sv} {g : Wg} {x : Int} {w : World} (h : trE s g x = 0) (hz : s.In w) (hg : g.In w) (hm : s.rn ≤ 1000000) (hm2 : g.wn ≤ 1000000) :
    Calls Try.prog 28 #[s.v, g.v, .int .i64 x] w fun e w' => ∃ (b : Nat) (P : Nat → Nat), e = .returned (.tuple #[.slice (some ⟨b, 0, none⟩) g.wn g.wn, .int .i64 0]) ∧ w.heap.size ≤ b ∧ RowF w' b g.wn (fun k => ((P k : Nat) : Int)) ∧ Pth s.N s.m P g.wn ∧ P (g.wn - 1) = x.toNat ∧ cst (agr s g) P g.wn ≤ s.wr ∧ Below w.heap.size w w' :=
  (c28 s g x w hz hg hm hm2).mono fun e w' hr => by
    obtain ⟨⟨_, b, P, h1, h2, h3, h4, h5, h6⟩ | ⟨h1, _⟩, hB⟩ := hr
    · exact ⟨b, P, h1, h2, h3, h4, h5, h6, hB⟩
    · exact absurd h h1
theorem c28_e {s : Sv} {g : Wg} {x : Int} {w : World} (h : trE s g x ≠ 0) (hz : s.In w) (hg : g.In w) (hm : s.rn ≤ 1000000) (hm2 : g.wn ≤ 1000000) :
    Calls Try.prog 28 #[s.v, g.v, .int .i64 x] w fun e w' => e = .returned (.tuple #[.slice none 0 0, .int .i64 (trE s g x)]) ∧ Below w.heap.size w w' :=
  (c28 s g x w hz hg hm hm2).mono fun e w' hr => by
    obtain ⟨⟨h1, _⟩ | ⟨_, h2⟩, hB⟩ := hr
    · exact absurd h1 h
    · exact ⟨h2, hB⟩
theorem pth_path {s : Sv} {P : Nat → Nat} {n : Nat} (ok : s.Ok) (h : Pth s.N s.m P n) : PathP s (fun k => ((P k : Nat) : Int)) n := by
  intro k hk
  have h1 := h k hk
  have hm := ok.mb.1
  refine ⟨⟨by show (0 : Int) ≤ (P k : Nat); omega, by show ((P k : Nat) : Int) ≤ (s.N : Int) - 1; omega⟩, fun h0 => ?_⟩
  have h2 := h1.2 h0
  refine absI_le.2 ?_
  show -s.mv ≤ ((P k : Nat) : Int) - ((P (k - 1) : Nat) : Int) ∧ ((P k : Nat) : Int) - ((P (k - 1) : Nat) : Int) ≤ s.mv
  omega
set_option maxRecDepth 100000 in
set_option maxHeartbeats 8000000 in
theorem c12_err (s : Sv) (g : Wg) (x : Int) (w : World) (hz : s.In w) (hg : g.In w) (hnr0 : s.ra = none → s.rc = 0) (hnk : g.wa = none → g.wk = 0) (hf0 : ¬ FarP s g) (hE : trE s g x ≠ 0) :
    Calls Try.prog 12 #[s.v, g.v, .int .i64 x] w fun e w' => e = .returned (.bool true) ∧ Below w.heap.size w w' := by
  obtain ⟨i0, ie0, ie1, ie2, ie3⟩ := info_parts Try.info46
  have hle := FarP.le hf0
  have hm1 := hle.1; have hm2 := hle.2
  have hf := hid hf0
  have hnr := hid hnr0
  have hnil : Hid (g.wa = none → g.wn = 0 ∧ g.wk = 0) := hid (fun h => ⟨hg.nil_ h, hnk h⟩)
  have hB0 : Below w.heap.size w (w.alloc (.cells #[.int .i64 s.tr, .int .i64 s.st, .int .i64 s.mv, .int .i64 s.no, .int .i64 s.wr, .slice s.ra s.rn s.rc] 30)) := (Below.refl _ _).alloc (Nat.le_refl _) _
  have hEn := hid hE
  obtain ⟨E, hE0⟩ : ∃ E, E = trE s g x := ⟨_, rfl⟩
  have hEh := hid hE0.symm
  have hne : (E == 0) = false := by rw [hE0]; simpa using hE
  have hne2 : (E != 0) = true := by rw [hE0]; simpa using hE
  have hnz : ¬ E = 0 := by rw [hE0]; exact hE
  clear hf0 hnr0 hnk hle hE hE0
  go_enter Try.func12, Try.ntmps12
  go_wp2_with (first | (go_at_call 34; refine (c34n s g _ (hz.below hB0 (Nat.le_refl _)) hf.out).mono ?_; rintro e w1 ⟨rfl, hB1⟩; have hBx : Below w.heap.size w w1 := hB0.trans (hB1.mono (by simp)); have hz1 : w.heap.size + 1 ≤ w1.heap.size := (by have := hB1.size; simp at this; omega); have sv1 := (Svb.new s w).below hB1 (by simp); obtain ⟨k0, k1, k2, k3, k4, k5⟩ := sv1.all) | (go_at_call 35; refine (c35 s _ (hz.below hBx (Nat.le_refl _)) (by omega) hnr.out).mono ?_; rintro e w2 ⟨x2, c2, he, hIn2, hB2⟩; have he' : e = .returned (.agg #[.int .i64 s.tr, .int .i64 s.st, .int .i64 s.mv, .int .i64 s.no, .int .i64 s.wr, .slice (some ⟨x2, 0, none⟩) s.rn c2]) := he; clear he; subst he'; have hIn2h := hid hIn2; clear hIn2; have hBy : Below w.heap.size w w2 := hBx.trans (hB2.mono hBx.size); have hz2 : w.heap.size + 1 ≤ w2.heap.size := Nat.le_trans hz1 hB2.size; have sv2 := sv1.below hB2 (by omega)) | (at_builtin; refine app_src rfl (.tmp 16) (.tmp 17) 31 rfl w2.heap.size 46 i0 (.agg #[.int .i64 0, .int .i64 0]) 2 16 Try.underlying31 ie0 ie1 ie2 ie3 rfl (by decide) _ _ _ rfl (own_made _ 46 2 _ _ rfl (Nat.le_refl _)) g.wa g.wn g.wk (encW g.wn g.wc g.wu) rfl hnil.out (encW_len _ _ _) (Weds.cells (hg.below (hBy.alloc hBy.size _) (Nat.le_refl _))) (encW_one _ _ _) (by unfold maxLen; omega) (by omega) (by simp) ?_; intro v3 w3 hown3 hgr3 hn3; obtain ⟨x3, c3, rfl⟩ := own_shape hown3 (fun h => by have := hn3 h; cases this); rw [Nat.zero_add, List.nil_append] at hown3; have hB3 : Below w2.heap.size w2 w3 := ((Below.refl w2.heap.size w2).alloc (Nat.le_refl _) _).grown hgr3 (by simp) (fun q e => by cases e; simp); have hG3 := hid (ownG_in hown3); clear hown3 hgr3 hn3; have HW : Below w.heap.size w w3 := hBy.trans (hB3.mono hBy.size); have hz3 : w.heap.size + 1 ≤ w3.heap.size := Nat.le_trans hz2 hB3.size; have sv3 := sv2.below hB3 (by omega)) | (go_at_call 28; refine (c28_e (s := cpS s x2 c2) (g := ownG x3 g.wn c3 g.wc g.wu) (x := x) (by rw [trE_own]; exact hEn.out) (hIn2h.out.below hB3 (Nat.le_refl _)) hG3.out (show s.rn ≤ 1000000 by omega) (show g.wn ≤ 1000000 by omega)).mono ?_; rw [trE_own, hEh.out]; rintro e w5 ⟨rfl, hB5⟩; obtain ⟨k0, k1, k2, k3, k4, k5⟩ := (sv3.below hB5 (by omega)).all) | (go_at_call 44; refine (c44 s g x _ (hz.below (HW.trans (hB5.mono HW.size)) (Nat.le_refl _)) (hg.below (HW.trans (hB5.mono HW.size)) (Nat.le_refl _)) (by omega) (by omega)).mono ?_; rw [hEh.out]; rintro e w6 ⟨rfl, hB6⟩; have H6 : Below w3.heap.size w3 w6 := hB5.trans (hB6.mono hB5.size); obtain ⟨k0, k1, k2, k3, k4, k5⟩ := (sv3.below H6 (by omega)).all))
  obtain ⟨q0, q1, q2, q3, q4, q5⟩ := (sv3.below H6 (by omega)).all
  have y0 := cell_regrown q0; have y1 := cell_regrown q1; have y2 := cell_regrown q2; have y3 := cell_regrown q3; have y4 := cell_regrown q4; have y5 := cell_regrown q5
  clear q0 q1 q2 q3 q4 q5
  refine wp_region_quiet_below (by kernel_rfl) (by kernel_rfl) ?_; (repeat (go_big_quiet_step ((first | (go_at_call 13; exact Calls.regrown_of (c13 _)))))); refine wpQuiet_nil ?_; intro _ hw; obtain ⟨q, hwq⟩ := hw; subst hwq
  have hBq := below_regrown w6 q.d q.os
  generalize grow (redrawn w6 q.d) q.os = w7 at hBq ⊢
  clear y0 y1 y2 y3 y4 y5
  go_wp2
  go_returns
  exact ⟨rfl, HW.trans ((H6.trans (hBq.mono H6.size)).mono HW.size)⟩
set_option maxRecDepth 100000 in
set_option maxHeartbeats 8000000 in
theorem c12_ok (s : Sv) (g : Wg) (x : Int) (w : World) (hz : s.In w) (hg : g.In w) (hnr0 : s.ra = none → s.rc = 0) (hnk : g.wa = none → g.wk = 0) (hf0 : ¬ FarP s g) (hE : trE s g x = 0) :
    Calls Try.prog 12 #[s.v, g.v, .int .i64 x] w fun e w' => e = .returned (.bool true) ∧ Below w.heap.size w w' := by
  obtain ⟨i0, ie0, ie1, ie2, ie3⟩ := info_parts Try.info46
  have hle := FarP.le hf0
  have hm1 := hle.1; have hm2 := hle.2
  have hf := hid hf0
  have hnr := hid hnr0
  have hnil : Hid (g.wa = none → g.wn = 0 ∧ g.wk = 0) := hid (fun h => ⟨hg.nil_ h, hnk h⟩)
  have hB0 : Below w.heap.size w (w.alloc (.cells #[.int .i64 s.tr, .int .i64 s.st, .int .i64 s.mv, .int .i64 s.no, .int .i64 s.wr, .slice s.ra s.rn s.rc] 30)) := (Below.refl _ _).alloc (Nat.le_refl _) _
  have hEn := hid hE
  obtain ⟨ok, okg, ht, hfl⟩ := trE_inv hE
  have okh := hid ok
  have okgh := hid okg
  have hn2 := okg.n2
  obtain ⟨⟨hx0, hx1⟩, hn0⟩ := ht
  obtain ⟨k, hk⟩ : ∃ k : Nat, g.wn = k + 1 := ⟨g.wn - 1, by omega⟩
  have hkh := hid hk
  have e1 : IntKind.i64.wrap ((g.wn : Int) - 1) = (k : Int) := by rw [IntWalk.i64_in _ (by omega)]; omega
  have hkl : k < g.wn := by omega
  clear hf0 hnr0 hnk hle hE ok okg hfl hk
  go_enter Try.func12, Try.ntmps12
  go_wp2_with (first | (go_at_call 34; refine (c34n s g _ (hz.below hB0 (Nat.le_refl _)) hf.out).mono ?_; rintro e w1 ⟨rfl, hB1⟩; have hBx : Below w.heap.size w w1 := hB0.trans (hB1.mono (by simp)); have hz1 : w.heap.size + 1 ≤ w1.heap.size := (by have := hB1.size; simp at this; omega); have sv1 := (Svb.new s w).below hB1 (by simp); obtain ⟨k0, k1, k2, k3, k4, k5⟩ := sv1.all) | (go_at_call 35; refine (c35 s _ (hz.below hBx (Nat.le_refl _)) (by omega) hnr.out).mono ?_; rintro e w2 ⟨x2, c2, he, hIn2, hB2⟩; have he' : e = .returned (.agg #[.int .i64 s.tr, .int .i64 s.st, .int .i64 s.mv, .int .i64 s.no, .int .i64 s.wr, .slice (some ⟨x2, 0, none⟩) s.rn c2]) := he; clear he; subst he'; have hIn2h := hid hIn2; clear hIn2; have hBy : Below w.heap.size w w2 := hBx.trans (hB2.mono hBx.size); have hz2 : w.heap.size + 1 ≤ w2.heap.size := Nat.le_trans hz1 hB2.size; have sv2 := sv1.below hB2 (by omega)) | (at_builtin; refine app_src rfl (.tmp 16) (.tmp 17) 31 rfl w2.heap.size 46 i0 (.agg #[.int .i64 0, .int .i64 0]) 2 16 Try.underlying31 ie0 ie1 ie2 ie3 rfl (by decide) _ _ _ rfl (own_made _ 46 2 _ _ rfl (Nat.le_refl _)) g.wa g.wn g.wk (encW g.wn g.wc g.wu) rfl hnil.out (encW_len _ _ _) (Weds.cells (hg.below (hBy.alloc hBy.size _) (Nat.le_refl _))) (encW_one _ _ _) (by unfold maxLen; omega) (by omega) (by simp) ?_; intro v3 w3 hown3 hgr3 hn3; obtain ⟨x3, c3, rfl⟩ := own_shape hown3 (fun h => by have := hn3 h; cases this); rw [Nat.zero_add, List.nil_append] at hown3; have hB3 : Below w2.heap.size w2 w3 := ((Below.refl w2.heap.size w2).alloc (Nat.le_refl _) _).grown hgr3 (by simp) (fun q e => by cases e; simp); have hG3 := hid (ownG_in hown3); clear hown3 hgr3 hn3; have HW : Below w.heap.size w w3 := hBy.trans (hB3.mono hBy.size); have hz3 : w.heap.size + 1 ≤ w3.heap.size := Nat.le_trans hz2 hB3.size; have sv3 := sv2.below hB3 (by omega)) | (go_at_call 28; refine (c28_0 (s := cpS s x2 c2) (g := ownG x3 g.wn c3 g.wc g.wu) (x := x) (by rw [trE_own]; exact hEn.out) (hIn2h.out.below hB3 (Nat.le_refl _)) hG3.out (show s.rn ≤ 1000000 by omega) (show g.wn ≤ 1000000 by omega)).mono ?_; rintro e w5 ⟨b, P, he5, hb5, hR5, p1, p2, p3, hB5⟩; have he5' : e = .returned (.tuple #[.slice (some ⟨b, 0, none⟩) g.wn g.wn, .int .i64 0]) := he5; clear he5; subst he5'; have hR5h : Hid (RowF w5 b g.wn (fun k => ((P k : Nat) : Int))) := hid hR5; have p1h : Hid (Pth s.N s.m P g.wn) := hid p1; have p2h : Hid (P (g.wn - 1) = x.toNat) := hid p2; have p3h : Hid (cst (agr s g) P g.wn ≤ s.wr) := hid p3; clear hR5 p1 p2 p3; obtain ⟨k0, k1, k2, k3, k4, k5⟩ := (sv3.below hB5 (by omega)).all) | (go_at_call 44; refine (c44 s g x _ (hz.below (HW.trans (hB5.mono HW.size)) (Nat.le_refl _)) (hg.below (HW.trans (hB5.mono HW.size)) (Nat.le_refl _)) (by omega) (by omega)).mono ?_; rw [hEn.out]; rintro e w6 ⟨rfl, hB6⟩; have H6 : Below w3.heap.size w3 w6 := hB5.trans (hB6.mono hB5.size); obtain ⟨k0, k1, k2, k3, k4, k5⟩ := (sv3.below H6 (by omega)).all))
  obtain ⟨q0, q1, q2, q3, q4, q5⟩ := (sv3.below H6 (by omega)).all
  have y0 := cell_regrown q0; have y1 := cell_regrown q1; have y2 := cell_regrown q2; have y3 := cell_regrown q3; have y4 := cell_regrown q4; have y5 := cell_regrown q5
  have HR := hid (hR5h.out.below hB6 hR5h.out.lt)
  have hPx : ((P k : Nat) : Int) = x := by have h1 := p2h.out; have h2 := hkh.out; rw [h2, show k + 1 - 1 = k by omega] at h1; omega
  have hcx := HR.out.cell hkl
  rw [hPx] at hcx
  have z1 := cell_regrown hcx
  have z2 := @ixInt b g.wn g.wn k hkl
  obtain ⟨cv, hcv⟩ : ∃ cv, cv = cst (agr s g) (pos fun k => ((P k : Nat) : Int)) g.wn := ⟨_, rfl⟩
  have hcw : cv ≤ s.wr := by rw [hcv, show (pos fun k => ((P k : Nat) : Int)) = P from funext fun k => Int.toNat_natCast (P k)]; exact p3h.out
  have hcvh := hid hcv
  have HW6 : Below w.heap.size w w6 := HW.trans (H6.mono HW.size)
  have hpp := hid (pth_path okh.out p1h.out)
  clear q0 q1 q2 q3 q4 q5 hPx hcx hcv k0 k1 k2 k3 k4 k5
  go_wp2_with fail
  refine wp_region_quiet_below (by kernel_rfl) (by kernel_rfl) ?_; (repeat (go_big_quiet_step ((first | (go_at_call 29; exact Calls.regrown_of (c29y (g := g) okh.out ((HR.out.below (below_regrown _ _ _) HR.out.lt).ints) (show g.wn ≤ 1000 by omega) ⟨hpp.out, rfl⟩)) | (go_at_call 22; exact Calls.regrown_of (hcvh.out ▸ c22 s g _ b 0 g.wn g.wn (fun k => ((P k : Nat) : Int)) _ (hz.below (HW6.trans (Below.mono (below_regrown _ _ _) HW6.size)) (Nat.le_refl _)) (hg.below (HW6.trans (Below.mono (below_regrown _ _ _) HW6.size)) (Nat.le_refl _)) okh.out okgh.out ((HR.out.below (below_regrown _ _ _) HR.out.lt).ints) (Nat.le_refl _) (fun k hk => (hpp.out k hk).1))) | (go_at_call 13; exact Calls.regrown_of (c13 _)))))); refine wpQuiet_nil ?_; intro _ hw; obtain ⟨q, hwq⟩ := hw; subst hwq
  have hBq := below_regrown w6 q.d q.os
  generalize grow (redrawn w6 q.d) q.os = w7 at hBq ⊢
  clear y0 y1 y2 y3 y4 y5 z1 z2
  go_wp2
  go_returns
  exact ⟨rfl, HW6.trans (hBq.mono HW6.size)⟩
set_option maxRecDepth 100000 in
set_option maxHeartbeats 4000000 in
theorem c12_far (s : Sv) (g : Wg) (x : Int) (w : World) (hz : s.In w) (hf0 : FarP s g) :
    Calls Try.prog 12 #[s.v, g.v, .int .i64 x] w fun e w' => e = .returned (.bool true) ∧ Below w.heap.size w w' := by
  have hf := hid hf0
  have hB0 : Below w.heap.size w (w.alloc (.cells #[.int .i64 s.tr, .int .i64 s.st, .int .i64 s.mv, .int .i64 s.no, .int .i64 s.wr, .slice s.ra s.rn s.rc] 30)) := (Below.refl _ _).alloc (Nat.le_refl _) _
  clear hf0
  go_enter Try.func12, Try.ntmps12
  go_wp2_with (first | (go_at_call 34; refine (c34y s g _ (hz.below hB0 (Nat.le_refl _)) hf.out).mono ?_; rintro e w1 ⟨rfl, hB1⟩; have hBx : Below w.heap.size w w1 := hB0.trans (hB1.mono (by simp))) | (go_at_call 13; refine (c13 _).mono ?_; rintro e w9 ⟨rfl, hB9⟩))
  go_returns
  exact ⟨rfl, hBx.trans (hB9.mono hBx.size)⟩
theorem c12 (s : Sv) (g : Wg) (x : Int) (w : World) (hz : s.In w) (hnr : s.ra = none → s.rc = 0) (hg : g.In w) (hnk : g.wa = none → g.wk = 0) :
    Calls Try.prog 12 #[s.v, g.v, .int .i64 x] w fun e w' => e = .returned (.bool true) ∧ Below w.heap.size w w' := by
  by_cases h : FarP s g
  · exact c12_far s g x w hz h
  · by_cases hE : trE s g x = 0
    · exact c12_ok s g x w hz hg hnr hnk h hE
    · exact c12_err s g x w hz hg hnr hnk h hE
end Go.Proofs.Ytkafjlhmbiaicaa
