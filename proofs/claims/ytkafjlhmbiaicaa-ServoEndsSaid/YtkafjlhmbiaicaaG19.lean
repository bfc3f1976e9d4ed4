/- Texts put together: Sn, M7, Td, So. -/
import Derived.Test.YtkafjlhmbiaicaaG18
import Derived.Test.YtkafjlhmbiaicaaG06
import Derived.Deep.LoopGhost
/- Stage 2: the reference's Blame. -/
set_option linter.unusedSimpArgs false
set_option linter.unusedVariables false
namespace Go.Proofs.Ytkafjlhmbiaicaa
open Go.RowKit Go.Sort Go.BigFrame

/-- The numbers below k where p does not hold. -/
def blL (p : Nat → Bool) : Nat → List Nat
  | 0 => []
  | k + 1 => if p k = true then blL p k else blL p k ++ [k]
theorem blL_yes {p : Nat → Bool} {k : Nat} (h : p k = true) : blL p (k + 1) = blL p k := if_pos h
theorem blL_no {p : Nat → Bool} {k : Nat} (h : p k = false) : blL p (k + 1) = blL p k ++ [k] := if_neg (by simp [h])
def natV (l : List Nat) : List Value := l.map fun k => .int .i64 (k : Nat)
theorem natV_snoc (l : List Nat) (k : Nat) : natV (l ++ [k]) = natV l ++ [.int .i64 (k : Nat)] := by simp [natV]
theorem blL_len {p : Nat → Bool} : ∀ {k : Nat}, (blL p k).length ≤ k
  | 0 => Nat.le_refl _
  | k + 1 => by
    have h := blL_len (p := p) (k := k)
    simp only [blL]
    split
    · omega
    · simp; omega
/-- Whether, wedge i left out of the blame, there is an explanation. -/
def frB (s : Sv) (g : Wg) (i : Nat) : Bool := nr (fun x => decide (rfq s.N s.m (agr s g) i g.wn x ≤ s.wr)) 0 s.N
def NRet2 (l : List Nat) (er : Int) (w : World) (e : Ending) (w' : World) : Prop :=
  ∃ v : Value, e = .returned (.tuple #[v, .int .i64 er]) ∧ w'.ownsRow w.heap.size 3 1 v l.length (natV l) ∧ Below w.heap.size w w'
set_option maxRecDepth 100000 in
set_option maxHeartbeats 8000000 in
theorem c43_ok (s : Sv) (g : Wg) (w : World) (hz : s.In w) (hg : g.In w) (hm : s.rn ≤ 1000000) (hm2 : g.wn ≤ 1000000) (ok : s.Ok) (okg : g.Ok) (hmn : mn s.N (fl s g) ≤ s.wr) :
    Calls Try.prog 43 #[s.v, g.v] w (NRet2 (blL (frB s g) g.wn) 0 w) := by
  obtain ⟨i0, ie0, ie1, ie2, ie3⟩ := info_parts Try.info3
  have okh := hid ok
  have okgh := hid okg
  have hmnh := hid hmn
  have hN2 := ok.Nb.2.1
  have hn2 := okg.n2
  have hB0 : Below w.heap.size w (w.alloc (.cells #[.int .i64 s.tr, .int .i64 s.st, .int .i64 s.mv, .int .i64 s.no, .int .i64 s.wr, .slice s.ra s.rn s.rc] 30)) := (Below.refl _ _).alloc (Nat.le_refl _) _
  clear ok okg hmn
  go_enter Try.func43, Try.ntmps43
  go_wp2_with (go_at_call 64; refine (c64_ok s g _ (hz.below hB0 (Nat.le_refl _)) (hg.below hB0 (Nat.le_refl _)) hm hm2 okh.out okgh.out hmnh.out).mono ?_; rintro e w1 ⟨b, c, rfl, hb, hBl, hB1⟩; clear hBl; have hBx : Below w.heap.size w w1 := hB0.trans (hB1.mono (by simp)); have sv1 := (Svb.new s w).below hB1 (by simp); have hz1 : w.heap.size + 1 ≤ w1.heap.size := (by have := hB1.size; simp at this; omega))
  go_loopw [8, 9, 10, 11, 12] (fun lv iv _ _ _ wr => ∃ k : Nat, k ≤ g.wn ∧ iv = .int .i64 k ∧ wr.ownsRow w1.heap.size 3 1 lv (blL (frB s g) k).length (natV (blL (frB s g) k)) ∧ Below w1.heap.size w1 wr) (fun _ iv _ _ _ _ => g.wn - (intOf iv).toNat)
  case atStart => exact ⟨0, Nat.zero_le _, rfl, World.ownsRow_nil _ _ _ _, Below.refl _ _⟩
  case round =>
    obtain ⟨k, hk, rfl, hown, hB⟩ := hrel
    rename World => wo
    have hownh := hid hown
    clear hown
    have hBw : Below w.heap.size w wo := hBx.trans (hB.mono (by omega))
    have hso := hB.size
    by_cases hlt : k < g.wn
    · have hkd : decide ((k : Int) < (g.wn : Int)) = true := by rw [decide_eq_true_eq]; omega
      have svo := sv1.below hB (by omega)
      obtain ⟨k0, k1, k2, k3, k4, k5⟩ := svo.all
      obtain ⟨P, hP⟩ : ∃ P : Nat → Bool, P = fun x => decide (rfq s.N s.m (agr s g) k g.wn x ≤ s.wr) := ⟨_, rfl⟩
      have hfr : Hid (frB s g k = nr P 0 s.N) := hid (by rw [hP]; rfl)
      obtain ⟨R, hR⟩ : ∃ R, R = rfq s.N s.m (agr s g) k g.wn := ⟨_, rfl⟩
      have hRh := hid hR
      have hPR : Hid (∀ x, P x = decide (R x ≤ s.wr)) := hid (fun x => by rw [hP, hR])
      clear hP hR
      go_wp2_with (go_at_call 67; refine (c67 s g k _ (hz.below hBw (Nat.le_refl _)) (hg.below hBw (Nat.le_refl _)) okh.out okgh.out).mono ?_; rw [← hRh.out]; rintro e w2 ⟨y, cy, rfl, hy, hcy, hRow, hB2⟩; have hRowh := hid hRow; clear hRow)
      have sv2 := svo.below hB2 (by omega)
      have hs2 := hB2.size
      have hown2 := hid (owns_below hownh.out hB2 (Nat.le_refl _))
      go_loopw [11, 12] (fun fv xv wr => ∃ x : Nat, x ≤ s.N ∧ xv = .int .i64 x ∧ fv = .bool (nr P 0 x) ∧ Below w2.heap.size w2 wr) (fun _ xv _ => s.N - (intOf xv).toNat)
      case atStart => exact ⟨0, Nat.zero_le _, rfl, rfl, Below.refl _ _⟩
      case round =>
        obtain ⟨x, hx, rfl, rfl, hB3⟩ := hrel
        have hown3 := hid (owns_below hown2.out hB3 (Nat.le_refl _))
        have hs3 := hB3.size
        have hBo : Below wo.heap.size wo wr := hB2.trans (hB3.mono hs2)
        have hB1r : Below w1.heap.size w1 wr := hB.trans (hBo.mono hso)
        obtain ⟨F, hF0⟩ : ∃ F, F = nr P 0 x := ⟨_, rfl⟩
        have hF := hid hF0
        rw [← hF0]
        clear hF0
        by_cases hxl : x < s.N
        · have hRr := hRowh.out.below hB3 hRowh.out.lt
          have x1 := cell_regrown (hRr.cell hxl)
          have x4 := @RowF.ix _ _ _ cy _ hRr _ hxl
          obtain ⟨_, _, _, _, q4, _⟩ := (sv2.below hB3 (by omega)).all
          have y4 := cell_regrown q4
          have hst : Hid (nr P 0 (x + 1) = (F || decide (R x ≤ s.wr))) := hid (by rw [hF.out, ← hPR.out]; simp [nr])
          clear hRr q4
          cases F
          all_goals
            go_wp2_with fail
            refine wp_region_quiet_below (by kernel_rfl) (by kernel_rfl) ?_; (repeat (go_big_quiet_step ((first | fail)))); refine wpQuiet_nil ?_; intro _ hw; obtain ⟨q, hwq⟩ := hw; subst hwq
            have hBq := below_regrown wr q.d q.os
            generalize grow (redrawn wr q.d) q.os = w14 at hBq ⊢
            clear x1 y4
            go_wp2
            go_roundw
            case rel => exact ⟨x + 1, by omega, by go_num, by rw [hst.out]; simp, hB3.trans (hBq.mono hB3.size)⟩
            case measure => simp [intOf]; omega
        · obtain rfl : x = s.N := by omega
          cases F with
          | true =>
            have hbl := hid (blL_yes (k := k) (hfr.out.trans hF.out.symm))
            go_wp2_with fail
            go_roundw
            case rel => exact ⟨k + 1, by omega, by go_num, by rw [hbl.out]; exact hown3.out, hB1r⟩
            case measure => simp [intOf]; omega
          | false =>
            have hbl := hid (blL_no (k := k) (hfr.out.trans hF.out.symm))
            have hln := blL_len (p := frB s g) (k := k)
            go_wp2_with (at_builtin; refine wpList_append_own _ rfl _ _ 28 rfl w1.heap.size 3 i0 (.int .i64 0) 1 8 Try.underlying28 ie0 ie1 ie2 ie3 rfl (by decide) _ _ _ rfl (hown3.out.alloc _) ⟨wr.heap.size, 0, none⟩ 1 1 [.int .i64 (k : Nat)] rfl rfl (World.news_of_block (cs := #[.int .i64 (k : Nat)]) (t := 3) (fr := (0, 0)) (heap_new _ _)) (by simp [Value.oneCell']) (by unfold maxLen; omega) (by omega) (by simp; omega) ?_; intro v7 w7 hown7 hgr7 hn7; have hB7 : Below w1.heap.size w1 w7 := ((hB1r.alloc hB1r.size _).grown hgr7 (by simp; exact Nat.le_succ_of_le hB1r.size) (fun q e => (hown3.out.lt q e).1)); have hown7h := hid hown7; clear hown7 hgr7 hn7)
            go_roundw
            case rel => exact ⟨k + 1, by omega, by go_num, by rw [hbl.out, natV_snoc, List.length_append]; exact hown7h.out, hB7⟩
            case measure => simp [intOf]; omega
    · obtain rfl : k = g.wn := by omega
      go_wp2_with fail
      go_ret2
      exact ⟨_, rfl, owns_base hownh.out (by omega), hBw⟩
end Go.Proofs.Ytkafjlhmbiaicaa

/- Stage 2, plain mathematics: a wedge is to blame just when no position where it agrees has few enough faults before and behind it. -/
set_option linter.unusedSimpArgs false
set_option linter.unusedVariables false
namespace Go.Proofs.Ytkafjlhmbiaicaa

theorem rfq_early {N m : Nat} {ag : Nat → Nat → Bool} {fc : Nat} : ∀ k, k ≤ fc → rfq N m ag (fc : Int) k = rfq N m ag (-1) k
  | 0, _ => rfl
  | k + 1, h => by
    funext x
    simp only [rfq]
    rw [rfq_early k (by omega), if_neg (show ¬ (k : Int) = (fc : Int) by omega), if_neg (show ¬ (k : Int) = -1 by omega)]
/-- The faults before wedge k, as the reference reckons them. -/
theorem accW_Fb {N m : Nat} {ag : Nat → Nat → Bool} {fc : Nat} : ∀ k, k ≤ fc → k ≤ 90 → ∀ x, x < N → ∀ c : Int, c < 1000 → (accW N m (rfq N m ag (fc : Int) k) k x ≤ c ↔ Fb N m ag k x ≤ c)
  | 0, _, _, x, hx, c, hc => by
    rw [accW_first hx]
    simp only [rfq, Fb]
    omega
  | k + 1, h, h9, x, hx, c, hc => by
    rw [accW_next hx (by omega), rfq_early (k + 1) h]
    have e : mvd N m (rfq N m ag (-1) (k + 1)) x = mvd N m (jdg (ag k) (Fb N m ag k)) x := mvd_congr hx (fun q hq => by
      rw [rfq_flt (k + 1) q (by omega) hq]
      unfold flt
      rw [if_neg (by omega), show k + 1 - 1 = k by omega])
    rw [e]
    show (1000 ≤ c ∨ Fb N m ag (k + 1) x ≤ c) ↔ _
    omega
/-- Between wedge fc and the last one: the least sum of what is behind and before stays the same. -/
def Dbl (N m : Nat) (ag : Nat → Nat → Bool) (fc n : Nat) (c : Int) (k : Nat) : Prop := ∃ x, x < N ∧ rfq N m ag (fc : Int) k x + Bh N m ag n (n - k) x ≤ c
theorem Dbl_step {N m : Nat} {ag : Nat → Nat → Bool} {fc n : Nat} {c : Int} {k : Nat} (hc : c < 900) (h1 : fc < k) (h2 : k < n) : Dbl N m ag fc n c (k + 1) ↔ Dbl N m ag fc n c k := by
  have e : n - k = (n - (k + 1)) + 1 := by omega
  have eb : ∀ q, Bh N m ag n (n - k) q = mvd N m (jdg (ag k) (Bh N m ag n (n - (k + 1)))) q := fun q => by
    rw [e]
    show mvd N m (jdg (ag (n - 1 - (n - (k + 1)))) (Bh N m ag n (n - (k + 1)))) q = _
    rw [show n - 1 - (n - (k + 1)) = k by omega]
  have er : ∀ x, rfq N m ag (fc : Int) (k + 1) x = accW N m (rfq N m ag (fc : Int) k) k x + (if ag k x = true then 0 else 1) := fun x => by
    show (if ag k x = true then accW N m (rfq N m ag (fc : Int) k) k x else if (k : Int) = (fc : Int) then 1000 else accW N m (rfq N m ag (fc : Int) k) k x + 1) = _
    rw [if_neg (show ¬ (k : Int) = (fc : Int) by omega)]
    split <;> omega
  unfold Dbl
  constructor
  · rintro ⟨x, hx, h⟩
    rw [er] at h
    have hb := (Bh_bd (m := m) (ag := ag) (n := n) (n - (k + 1)) x hx).1
    have h3 : accW N m (rfq N m ag (fc : Int) k) k x ≤ c - (if ag k x = true then 0 else 1) - Bh N m ag n (n - (k + 1)) x := by omega
    rw [accW_next hx (by omega), mvd_le hx] at h3
    rcases h3 with h3 | ⟨q, g1, g2, g3, g4⟩
    · split at h3 <;> omega
    · refine ⟨q, g1, ?_⟩
      rw [eb]
      have h5 : mvd N m (jdg (ag k) (Bh N m ag n (n - (k + 1)))) q ≤ c - rfq N m ag (fc : Int) k q := (mvd_le g1).2 ⟨x, hx, g3, g2, by unfold jdg; omega⟩
      omega
  · rintro ⟨q, g1, h⟩
    rw [eb] at h
    have h5 : mvd N m (jdg (ag k) (Bh N m ag n (n - (k + 1)))) q ≤ c - rfq N m ag (fc : Int) k q := by omega
    obtain ⟨x, hx, g3, g2, g4⟩ := (mvd_le g1).1 h5
    refine ⟨x, hx, ?_⟩
    rw [er]
    unfold jdg at g4
    have h3 : accW N m (rfq N m ag (fc : Int) k) k x ≤ c - (if ag k x = true then 0 else 1) - Bh N m ag n (n - (k + 1)) x := (accW_next hx (by omega)).2 (.inr ((mvd_le hx).2 ⟨q, g1, g2, g3, by omega⟩))
    omega
theorem Dbl_all {N m : Nat} {ag : Nat → Nat → Bool} {fc n : Nat} {c : Int} (hc : c < 900) (hn : fc < n) : ∀ d, fc + 1 + d ≤ n → (Dbl N m ag fc n c (fc + 1 + d) ↔ Dbl N m ag fc n c (fc + 1))
  | 0, _ => Iff.rfl
  | d + 1, h => (Dbl_step (k := fc + 1 + d) hc (by omega) (by omega)).trans (Dbl_all hc hn d (by omega))
theorem rfq_some {N m : Nat} {ag : Nat → Nat → Bool} {fc n : Nat} {c : Int} (hc : c < 900) (hn : fc < n) (h9 : n ≤ 90) :
    (∃ x, x < N ∧ rfq N m ag (fc : Int) n x ≤ c) ↔ ∃ p, p < N ∧ ag fc p = true ∧ Fb N m ag fc p + Bh N m ag n (n - 1 - fc) p ≤ c := by
  have h1 : (∃ x, x < N ∧ rfq N m ag (fc : Int) n x ≤ c) ↔ Dbl N m ag fc n c n := by
    unfold Dbl
    rw [Nat.sub_self]
    simp only [Bh, Int.add_zero]
  rw [h1]
  have h2 := Dbl_all (N := N) (m := m) (ag := ag) hc hn (n - (fc + 1)) (by omega)
  rw [show fc + 1 + (n - (fc + 1)) = n by omega] at h2
  rw [h2]
  unfold Dbl
  have er : ∀ x, rfq N m ag (fc : Int) (fc + 1) x = if ag fc x = true then accW N m (rfq N m ag (fc : Int) fc) fc x else 1000 := fun x => by
    show (if ag fc x = true then accW N m (rfq N m ag (fc : Int) fc) fc x else if (fc : Int) = (fc : Int) then 1000 else accW N m (rfq N m ag (fc : Int) fc) fc x + 1) = _
    rw [if_pos rfl]
  rw [show n - (fc + 1) = n - 1 - fc by omega]
  constructor
  · rintro ⟨x, hx, h⟩
    rw [er] at h
    have hb := (Bh_bd (m := m) (ag := ag) (n := n) (n - 1 - fc) x hx).1
    cases ha : ag fc x with
    | true =>
      rw [if_pos ha] at h
      have h3 := (accW_Fb (N := N) (m := m) (ag := ag) (fc := fc) fc (Nat.le_refl _) (by omega) x hx (c - Bh N m ag n (n - 1 - fc) x) (by omega)).1 (by omega)
      exact ⟨x, hx, ha, by omega⟩
    | false =>
      rw [if_neg (by simp [ha])] at h
      omega
  · rintro ⟨p, hp, ha, h⟩
    have hb := (Bh_bd (m := m) (ag := ag) (n := n) (n - 1 - fc) p hp).1
    have h3 := (accW_Fb (N := N) (m := m) (ag := ag) (fc := fc) fc (Nat.le_refl _) (by omega) p hp (c - Bh N m ag n (n - 1 - fc) p) (by omega)).2 (by omega)
    refine ⟨p, hp, ?_⟩
    rw [er, if_pos ha]
    omega
/-- Whether a position of wedge i has few enough faults. -/
def blB (s : Sv) (g : Wg) (i p : Nat) : Bool := agr s g i p && decide (Fb s.N s.m (agr s g) i p + Bh s.N s.m (agr s g) g.wn (g.wn - 1 - i) p ≤ s.wr)
theorem frB_iff {s : Sv} {g : Wg} (ok : s.Ok) (okg : g.Ok) {i : Nat} (hi : i < g.wn) : frB s g i = true ↔ ∃ p, p < s.N ∧ blB s g i p = true := by
  have hn := okg.n2
  have hw := ok.w1
  unfold frB
  rw [nr_iff]
  simp only [Nat.zero_add, Nat.zero_le, true_and, decide_eq_true_eq]
  rw [rfq_some (by omega) hi (by omega)]
  simp only [blB, Bool.and_eq_true, decide_eq_true_eq]
theorem frB_no {s : Sv} {g : Wg} (ok : s.Ok) (okg : g.Ok) {i : Nat} (hi : i < g.wn) (h : ∀ p, p < s.N → blB s g i p = false) : frB s g i = false := by
  cases e : frB s g i with
  | false => rfl
  | true =>
    obtain ⟨p, h1, h2⟩ := (frB_iff ok okg hi).1 e
    rw [h p h1] at h2; cases h2
/-- No possible path agrees at a wedge that is to blame. -/
theorem frB_path {s : Sv} {g : Wg} (ok : s.Ok) (okg : g.Ok) {i : Nat} (hi : i < g.wn) {p : Nat → Nat} (hp : Pth s.N s.m p g.wn) (hc : cst (agr s g) p g.wn ≤ s.wr) (ha : agr s g i (p i) = true) : frB s g i = true := by
  have hn := okg.n2
  have hw := ok.w1
  unfold frB
  rw [nr_iff]
  simp only [Nat.zero_add, Nat.zero_le, true_and, decide_eq_true_eq]
  have key : ∀ k, k < g.wn → rfq s.N s.m (agr s g) (i : Int) (k + 1) (p k) ≤ cst (agr s g) p (k + 1) := by
    intro k
    induction k with
    | zero =>
      intro hk
      show (if agr s g 0 (p 0) = true then accW s.N s.m (rfq s.N s.m (agr s g) (i : Int) 0) 0 (p 0) else if ((0 : Nat) : Int) = (i : Int) then 1000 else accW s.N s.m (rfq s.N s.m (agr s g) (i : Int) 0) 0 (p 0) + 1) ≤ _
      have e : accW s.N s.m (rfq s.N s.m (agr s g) (i : Int) 0) 0 (p 0) ≤ 0 := (accW_first (hp 0 hk).1).2 (.inr (by simp [rfq]))
      simp only [cst]
      split
      · omega
      · rename_i h0
        by_cases hi0 : i = 0
        · subst hi0; exact absurd ha h0
        · rw [if_neg (by omega)]; omega
    | succ k ih =>
      intro hk
      have h1 := ih (by omega)
      have h2 := (hp (k + 1) hk).2 (by omega)
      simp only [show k + 1 - 1 = k by omega] at h2
      show (if agr s g (k + 1) (p (k + 1)) = true then accW s.N s.m (rfq s.N s.m (agr s g) (i : Int) (k + 1)) (k + 1) (p (k + 1)) else if ((k + 1 : Nat) : Int) = (i : Int) then 1000 else accW s.N s.m (rfq s.N s.m (agr s g) (i : Int) (k + 1)) (k + 1) (p (k + 1)) + 1) ≤ cst (agr s g) p (k + 1) + _
      have e : accW s.N s.m (rfq s.N s.m (agr s g) (i : Int) (k + 1)) (k + 1) (p (k + 1)) ≤ cst (agr s g) p (k + 1) := (accW_next (hp (k + 1) hk).1 (by omega)).2 (.inr ((mvd_le (hp (k + 1) hk).1).2 ⟨p k, (hp k (by omega)).1, by omega, by omega, h1⟩))
      split
      · omega
      · rename_i h0
        by_cases hi0 : i = k + 1
        · subst hi0; exact absurd ha h0
        · rw [if_neg (by omega)]; omega
  have h0 := key (g.wn - 1) (by omega)
  rw [show g.wn - 1 + 1 = g.wn by omega] at h0
  exact ⟨p (g.wn - 1), (hp _ (by omega)).1, by omega⟩
end Go.Proofs.Ytkafjlhmbiaicaa

/- Stage 2: the wedges to blame. -/
set_option linter.unusedSimpArgs false
set_option linter.unusedVariables false
namespace Go.Proofs.Ytkafjlhmbiaicaa
open Go.RowKit Go.Sort Go.BigFrame

set_option maxRecDepth 100000 in
set_option maxHeartbeats 8000000 in
theorem c19_ok (s : Sv) (g : Wg) (w : World) (hz : s.In w) (hg : g.In w) (hm : s.rn ≤ 1000000) (hm2 : g.wn ≤ 1000000) (ok : s.Ok) (okg : g.Ok) (hmn : mn s.N (fl s g) ≤ s.wr) :
    Calls Try.prog 19 #[s.v, g.v] w (NRet2 (blL (frB s g) g.wn) 0 w) := by
  obtain ⟨i0, ie0, ie1, ie2, ie3⟩ := info_parts Try.info3
  have okh := hid ok
  have okgh := hid okg
  have hmnh := hid hmn
  have hN2 := ok.Nb.2.1
  have hn2 := okg.n2
  clear ok okg hmn
  go_enter Try.func19, Try.ntmps19
  go_wp2
  go_step3
  go_wp2_with (first | (go_at_call 47; refine (c47 s g _ (hz.below (by (repeat' (first | (with_reducible exact Below.refl _ _) | (with_reducible assumption) | (with_reducible refine Below.alloc ?_ ?_ _) | (with_reducible refine Below.drew ?_) | (with_reducible refine below_drewN ?_ _) | (with_reducible refine Below.setCell ?_ ?_ _) | (with_reducible refine Below.trans ?_ (Below.mono (by with_reducible assumption) ?_)) | go_size))) (Nat.le_refl _)) (hg.below (by (repeat' (first | (with_reducible exact Below.refl _ _) | (with_reducible assumption) | (with_reducible refine Below.alloc ?_ ?_ _) | (with_reducible refine Below.drew ?_) | (with_reducible refine below_drewN ?_ _) | (with_reducible refine Below.setCell ?_ ?_ _) | (with_reducible refine Below.trans ?_ (Below.mono (by with_reducible assumption) ?_)) | go_size))) (Nat.le_refl _)) hm hm2 okh.out okgh.out).mono ?_; rintro e w1 ⟨rfl, hB1⟩; have hz1 : w.heap.size + 1 ≤ w1.heap.size := (by have := hB1.size; simp at this; omega); have hBx : Below w.heap.size w w1 := Below.trans (by (repeat' (first | (with_reducible exact Below.refl _ _) | (with_reducible assumption) | (with_reducible refine Below.alloc ?_ ?_ _) | (with_reducible refine Below.drew ?_) | (with_reducible refine below_drewN ?_ _) | (with_reducible refine Below.setCell ?_ ?_ _) | (with_reducible refine Below.trans ?_ (Below.mono (by with_reducible assumption) ?_)) | go_size))) (hB1.mono (by simp))) | (go_at_call 48; refine (c48 s g _ (hz.below (by (repeat' (first | (with_reducible exact Below.refl _ _) | (with_reducible assumption) | (with_reducible refine Below.alloc ?_ ?_ _) | (with_reducible refine Below.drew ?_) | (with_reducible refine below_drewN ?_ _) | (with_reducible refine Below.setCell ?_ ?_ _) | (with_reducible refine Below.trans ?_ (Below.mono (by with_reducible assumption) ?_)) | go_size))) (Nat.le_refl _)) (hg.below (by (repeat' (first | (with_reducible exact Below.refl _ _) | (with_reducible assumption) | (with_reducible refine Below.alloc ?_ ?_ _) | (with_reducible refine Below.drew ?_) | (with_reducible refine below_drewN ?_ _) | (with_reducible refine Below.setCell ?_ ?_ _) | (with_reducible refine Below.trans ?_ (Below.mono (by with_reducible assumption) ?_)) | go_size))) (Nat.le_refl _)) okh.out okgh.out hmnh.out).mono ?_; rintro e w2 ⟨y, c, rfl, hy, hc, hR, hB2⟩; clear hR; have hBy : Below w.heap.size w w2 := Below.trans (show Below w.heap.size w _ by (repeat' (first | (with_reducible exact Below.refl _ _) | (with_reducible assumption) | (with_reducible refine Below.alloc ?_ ?_ _) | (with_reducible refine Below.drew ?_) | (with_reducible refine below_drewN ?_ _) | (with_reducible refine Below.setCell ?_ ?_ _) | (with_reducible refine Below.trans ?_ (Below.mono (by with_reducible assumption) ?_)) | go_size))) (hB2.mono (by simp; omega)); have hbx := Hbx.below (Hbx.new s g w1) hB2 (by simp); have hz2 : w1.heap.size + 1 ≤ w2.heap.size := (by have := hB2.size; simp at this; omega)))
  go_region_held3 (fun w' => w'.cell? ⟨w1.heap.size, 0, none⟩ = some (.int .i64 s.tr) ∧ w'.cell? ⟨w1.heap.size, 1, none⟩ = some (.int .i64 s.st) ∧ w'.cell? ⟨w1.heap.size, 2, none⟩ = some (.int .i64 s.mv) ∧ w'.cell? ⟨w1.heap.size, 3, none⟩ = some (.int .i64 s.no) ∧ w'.cell? ⟨w1.heap.size, 4, none⟩ = some (.int .i64 s.wr) ∧ w'.cell? ⟨w1.heap.size, 5, none⟩ = some (.slice s.ra s.rn s.rc) ∧ w'.cell? ⟨w1.heap.size, 6, none⟩ = some (.slice g.wa g.wn g.wk)) (first | exact hbx.all | exact hk3.all | exact hk4.all) (first | (go_at_call 49; refine (c49 s g _ (hz.below (by first | exact hBy | exact hBy.drew | (repeat' (first | (with_reducible exact Below.refl _ _) | (with_reducible assumption) | (with_reducible refine Below.alloc ?_ ?_ _) | (with_reducible refine Below.drew ?_) | (with_reducible refine below_drewN ?_ _) | (with_reducible refine Below.setCell ?_ ?_ _) | (with_reducible refine Below.trans ?_ (Below.mono (by with_reducible assumption) ?_)) | go_size))) (Nat.le_refl _)) (hg.below (by first | exact hBy | exact hBy.drew | (repeat' (first | (with_reducible exact Below.refl _ _) | (with_reducible assumption) | (with_reducible refine Below.alloc ?_ ?_ _) | (with_reducible refine Below.drew ?_) | (with_reducible refine below_drewN ?_ _) | (with_reducible refine Below.setCell ?_ ?_ _) | (with_reducible refine Below.trans ?_ (Below.mono (by with_reducible assumption) ?_)) | go_size))) (Nat.le_refl _)) okh.out okgh.out).mono ?_; rintro e w3 ⟨x3, b3, rfl, hx3, hb3, hRw3, hB3⟩; have hk3 : Hbx s g w3 w1.heap.size := (Hbx.below (w := w2.drew) hbx hB3 (show w1.heap.size < w2.heap.size by omega)); have hz3 : w1.heap.size < w3.heap.size := Nat.lt_of_lt_of_le (show w1.heap.size < w2.heap.size by omega) hB3.size; have hRw3h := hid hRw3; clear hRw3) | (go_at_call 50; refine (c50 s g _ (hz.below (hBy.trans ((Below.trans (Below.refl _ _).drew hB3).mono hBy.size)) (Nat.le_refl _)) (hg.below (hBy.trans ((Below.trans (Below.refl _ _).drew hB3).mono hBy.size)) (Nat.le_refl _)) okh.out okgh.out).mono ?_; rintro e w4 ⟨x4, b4, rfl, hx4, hb4, hRw4, hB4⟩; have hk4 : Hbx s g w4 w1.heap.size := (Hbx.below (w := w3) hk3 hB4 hz3); have hRw4h := hid hRw4; clear hRw4))
  have hB24 : Below w2.heap.size w2 w4 := Below.trans (Below.trans (Below.refl _ _).drew hB3) (hB4.mono hB3.size)
  have hBz : Below w.heap.size w w4 := hBy.trans (hB24.mono (by omega))
  have hRw3' := hid (hRw3h.out.below hB4 (Nat.le_refl _))
  have hs4 := hB24.size
  have hbz : w4.cell? ⟨w1.heap.size, 0, none⟩ = some (.int .i64 s.tr) ∧ w4.cell? ⟨w1.heap.size, 1, none⟩ = some (.int .i64 s.st) ∧ w4.cell? ⟨w1.heap.size, 2, none⟩ = some (.int .i64 s.mv) ∧ w4.cell? ⟨w1.heap.size, 3, none⟩ = some (.int .i64 s.no) ∧ w4.cell? ⟨w1.heap.size, 4, none⟩ = some (.int .i64 s.wr) ∧ w4.cell? ⟨w1.heap.size, 5, none⟩ = some (.slice s.ra s.rn s.rc) ∧ w4.cell? ⟨w1.heap.size, 6, none⟩ = some (.slice g.wa g.wn g.wk) := hk4.all
  clear hk3 hRw3h
  go_wp2
  go_step3
  go_wp2
  go_loopg [10, 39] (g.wn) (fun gk s10 s39 wr => ∃ k : Nat, k + gk = g.wn ∧ s39 = .int .i64 k ∧ wr.ownsRow w4.heap.size 3 1 s10 (blL (frB s g) k).length (natV (blL (frB s g) k)) ∧ Below w4.heap.size w4 wr)
  case atStart => exact ⟨0, by omega, rfl, World.ownsRow_nil _ _ _ _, Below.refl _ _⟩
  case round =>
    obtain ⟨k, hk, rfl, hown, hB⟩ := hrel
    rename World => wo
    have hownh := hid hown
    clear hown
    have hso := hB.size
    have hBw : Below w.heap.size w wo := hBz.trans (hB.mono (by omega))
    cases gk with
    | zero =>
      obtain rfl : k = g.wn := by omega
      go_wp2_with fail
      try rw [Exit.noGoto_ret]
      go_ret2
      exact ⟨_, rfl, owns_base hownh.out (by omega), hBw⟩
    | succ g' =>
      have hlt : k < g.wn := by omega
      have hkh := hid hk
      clear hk
      have hbo := Hbx.below (s := s) (g := g) hbz hB (by omega)
      obtain ⟨k0, k1, k2, k3, k4, k5, k6⟩ := hbo.all
      go_wp2_with (first | (go_at_call 51; refine (c51 s g k _ (hz.below hBw (Nat.le_refl _)) (hg.below hBw (Nat.le_refl _)) okh.out okgh.out hlt).mono ?_; rintro e w5 ⟨v, rfl, (⟨rfl, hag⟩ | ⟨rfl, hag⟩ | ⟨t, h, u, rfl, ha⟩), hB5⟩ <;> obtain ⟨k0, k1, k2, k3, k4, k5, k6⟩ := (hbo.below hB5 (by omega)).all) | (go_at_call 52; refine (c52 s g _ okh.out).mono ?_; rintro e w6 ⟨rfl, hB6⟩))
      all_goals
        (try have hagh := hid hag)
        (try clear hag)
        (try have hah := hid (ha.below hB6 (Nat.le_refl _)))
        (try clear ha)
        have hB56 : Below wo.heap.size wo w6 := hB5.trans (hB6.mono hB5.size)
        have hs6 := hB56.size
        have hown6 := hid (owns_below hownh.out hB56 (Nat.le_refl _))
        have hB16 : Below w4.heap.size w4 w6 := hB.trans (hB56.mono hso)
        have hbx6 := hbo.below hB56 (by omega)
        clear hbo k0 k1 k2 k3 k4 k5 k6 hB5 hB6
        go_loopg [47] (s.N) (fun g2 s47 wy => ∃ p : Nat, p + g2 = s.N ∧ s47 = .int .i64 p ∧ Below w6.heap.size w6 wy ∧ Hid (∀ q, q < p → blB s g k q = false))
        case atStart => exact ⟨0, by omega, rfl, Below.refl _ _, hid (fun q hq => absurd hq (Nat.not_lt_zero _))⟩
        case round =>
          obtain ⟨p, hp, rfl, hB7, hall⟩ := hrel
          rename World => wy
          have hs7 := hB7.size
          have hB67 : Below wo.heap.size wo wy := hB56.trans (hB7.mono hs6)
          have hB47 : Below w4.heap.size w4 wy := hB16.trans (hB7.mono (by omega))
          have hown7 := hid (owns_below hown6.out hB7 (Nat.le_refl _))
          cases gk with
          | zero =>
            obtain rfl : p = s.N := by omega
            have hbl := hid (blL_no (p := frB s g) (k := k) (frB_no okh.out okgh.out hlt hall.out))
            have hln := blL_len (p := frB s g) (k := k)
            clear hall hp
            go_wp2_with (at_builtin; refine wpList_append_own _ rfl _ _ 28 rfl w4.heap.size 3 i0 (.int .i64 0) 1 8 Try.underlying28 ie0 ie1 ie2 ie3 rfl (by decide) _ _ _ rfl (hown7.out.alloc _) ⟨wy.heap.size, 0, none⟩ 1 1 [.int .i64 (k : Nat)] rfl rfl (World.news_of_block (cs := #[.int .i64 (k : Nat)]) (t := 3) (fr := (0, 0)) (heap_new _ _)) (by simp [Value.oneCell']) (by unfold maxLen; omega) (by omega) (by simp; omega) ?_; intro v8 w8 hown8 hgr8 hn8; have hB8 : Below w4.heap.size w4 w8 := ((hB47.alloc hB47.size _).grown hgr8 (by simp; exact Nat.le_succ_of_le hB47.size) (fun q e => (hown7.out.lt q e).1)); have hown8h := hid hown8; clear hown8 hgr8 hn8)
            go_roundg g'
            case measure => omega
            case rel => exact ⟨k + 1, by have := hkh.out; omega, by go_num, by rw [hbl.out, natV_snoc, List.length_append]; exact hown8h.out, hB8⟩
          | succ g2 =>
            have hpl : p < s.N := by omega
            have hph := hid hp
            clear hp
            obtain ⟨v3, hv3, y3, c3, rfl, hy3, hc3, hr3⟩ := (hRw3'.out.below hB47 (Nat.le_refl _)).cell hlt trivial
            obtain ⟨v4, hv4, y4, c4, rfl, hy4, hc4, hr4⟩ := (hRw4h.out.below hB47 (Nat.le_refl _)).cell hlt trivial
            have z1 := cell_regrown hv3
            have z2 := cell_regrown hv4
            have z3 := cell_regrown (hr3.cell hpl)
            have z4 := cell_regrown (hr4.cell hpl)
            have i3 := @ixRows x3 g.wn g.wn k hlt
            have i4 := @ixRows x4 g.wn g.wn k hlt
            have j3 := @ixInt y3 s.N c3 p hpl
            have j4 := @ixInt y4 s.N c4 p hpl
            obtain ⟨_, _, _, _, q4, _, _⟩ := (hbx6.below hB7 (by omega)).all
            have z5 := cell_regrown q4
            have hF := Fb_100 (s := s) okgh.out (i := k) (by omega) p hpl
            have hG := Bh_100 (s := s) okgh.out (i := g.wn - 1 - k) (by omega) p hpl
            have hbB : Hid (blB s g k p = (agr s g k p && decide (Fb s.N s.m (agr s g) k p + Bh s.N s.m (agr s g) g.wn (g.wn - 1 - k) p ≤ s.wr))) := hid rfl
            generalize Fb s.N s.m (agr s g) k p = F at z3 hF hbB
            generalize Bh s.N s.m (agr s g) g.wn (g.wn - 1 - k) p = G at z4 hG hbB
            have eFG : IntKind.i64.wrap (F + G) = F + G := IntWalk.i64_in _ (by omega)
            clear hv3 hv4 hr3 hr4 q4
            cases hagk : agr s g k p with
            | false =>
              have hagp := hid hagk
              clear hagk
              first | (have h0 := (hagh.out p).symm.trans hagp.out; cases h0; done) | skip
              all_goals
                go_wp2_with fail
                refine wp_region_quiet_below (by kernel_rfl) (by kernel_rfl) ?_; (repeat (go_big_quiet_step ((first | (go_at_call 74; exact Calls.regrown_of ((c74 _ _).mono fun e w' h => ⟨h.1, h.2 ▸ Below.refl _ _⟩)) | (go_at_call 75; exact Calls.regrown_of ((c75n ((hah.out.below hB7 (Nat.le_refl _)).below (below_regrown _ _ _) (Nat.le_refl _)) okh.out p (by omega) hagp.out).mono fun e w' h => ⟨h.1, h.2 ▸ Below.refl _ _⟩)))))); refine wpQuiet_nil ?_; intro _ hw; obtain ⟨q, hwq⟩ := hw; subst hwq
                have hBq := below_regrown wy q.d q.os
                generalize grow (redrawn wy q.d) q.os = w14 at hBq ⊢
                clear z1 z2 z3 z4 z5 i3 i4 j3 j4
                go_wp2
                go_roundg g2
                case measure => omega
                case rel => exact ⟨p + 1, by have := hph.out; omega, by go_num, hB7.trans (hBq.mono hs7), hid (fun q hq => by
                  by_cases e : q = p
                  · subst e; rw [hbB.out, hagp.out]; rfl
                  · exact hall.out q (by omega))⟩
            | true =>
              have hagp := hid hagk
              clear hagk
              first | (have h0 := (hagh.out p).symm.trans hagp.out; cases h0; done) | skip
              all_goals
                by_cases hle : F + G ≤ s.wr
                · have hfr := hid ((frB_iff okh.out okgh.out hlt).2 ⟨p, hpl, by rw [hbB.out, hagp.out, decide_eq_true hle]; rfl⟩)
                  have hbl := hid (blL_yes (p := frB s g) (k := k) hfr.out)
                  go_wp2_with fail
                  refine wp_region_quiet_below (by kernel_rfl) (by kernel_rfl) ?_; (repeat (go_big_quiet_step ((first | (go_at_call 73; exact Calls.regrown_of ((c73 _ _).mono fun e w' h => ⟨h.1, h.2 ▸ Below.refl _ _⟩)) | (go_at_call 75; exact Calls.regrown_of ((c75y ((hah.out.below hB7 (Nat.le_refl _)).below (below_regrown _ _ _) (Nat.le_refl _)) okh.out p (by omega) hagp.out).mono fun e w' h => ⟨h.1, h.2 ▸ Below.refl _ _⟩)))))); refine wpQuiet_nil ?_; intro _ hw; obtain ⟨q, hwq⟩ := hw; subst hwq
                  have hBq := below_regrown wy q.d q.os
                  generalize grow (redrawn wy q.d) q.os = w14 at hBq ⊢
                  clear z1 z2 z3 z4 z5 i3 i4 j3 j4
                  go_wp2
                  go_roundg g'
                  case measure => omega
                  case rel => exact ⟨k + 1, by have := hkh.out; omega, by go_num, by rw [hbl.out]; exact owns_below hown7.out hBq (Nat.le_refl _), hB47.trans (hBq.mono hB47.size)⟩
                · have hbf := hid (show blB s g k p = false by rw [hbB.out, hagp.out, decide_eq_false hle]; rfl)
                  go_wp2_with fail
                  refine wp_region_quiet_below (by kernel_rfl) (by kernel_rfl) ?_; (repeat (go_big_quiet_step ((first | (go_at_call 73; exact Calls.regrown_of ((c73 _ _).mono fun e w' h => ⟨h.1, h.2 ▸ Below.refl _ _⟩)) | (go_at_call 75; exact Calls.regrown_of ((c75y ((hah.out.below hB7 (Nat.le_refl _)).below (below_regrown _ _ _) (Nat.le_refl _)) okh.out p (by omega) hagp.out).mono fun e w' h => ⟨h.1, h.2 ▸ Below.refl _ _⟩)))))); refine wpQuiet_nil ?_; intro _ hw; obtain ⟨q, hwq⟩ := hw; subst hwq
                  have hBq := below_regrown wy q.d q.os
                  generalize grow (redrawn wy q.d) q.os = w14 at hBq ⊢
                  clear z1 z2 z3 z4 z5 i3 i4 j3 j4
                  go_wp2
                  go_roundg g2
                  case measure => omega
                  case rel => exact ⟨p + 1, by have := hph.out; omega, by go_num, hB7.trans (hBq.mono hs7), hid (fun q hq => by
                    by_cases e : q = p
                    · subst e; exact hbf.out
                    · exact hall.out q (by omega))⟩
end Go.Proofs.Ytkafjlhmbiaicaa

/- Stage 2: the reference's Blame, whatever comes in. -/
set_option linter.unusedSimpArgs false
set_option linter.unusedVariables false
namespace Go.Proofs.Ytkafjlhmbiaicaa
open Go.RowKit Go.Sort Go.BigFrame

open Classical in
noncomputable def blA (s : Sv) (g : Wg) : List Nat := if ahE s g True = 0 then blL (frB s g) g.wn else []
theorem NRet2.err {er : Int} {w w' : World} (h : Below w.heap.size w w') : NRet2 [] er w (.returned (.tuple #[.slice none 0 0, .int .i64 er])) w' := ⟨_, rfl, World.ownsRow_nil _ _ _ _, h⟩
set_option maxRecDepth 100000 in
set_option maxHeartbeats 2000000 in
theorem c43 (s : Sv) (g : Wg) (w : World) (hz : s.In w) (hg : g.In w) (hm : s.rn ≤ 1000000) (hm2 : g.wn ≤ 1000000) :
    Calls Try.prog 43 #[s.v, g.v] w (NRet2 (blA s g) (ahE s g True) w) := by
  have hB0 : Below w.heap.size w (w.alloc (.cells #[.int .i64 s.tr, .int .i64 s.st, .int .i64 s.mv, .int .i64 s.no, .int .i64 s.wr, .slice s.ra s.rn s.rc] 30)) := (Below.refl _ _).alloc (Nat.le_refl _) _
  unfold blA
  by_cases h : ahE s g True = 0
  · obtain ⟨ok, okg, _, hmn⟩ := ahE_inv h
    rw [if_pos h, h]
    exact c43_ok s g w hz hg hm hm2 ok okg hmn
  · rw [if_neg h]
    obtain ⟨er, her⟩ : ∃ er, er = ahE s g True := ⟨_, rfl⟩
    have herh : Hid (ahE s g (true = true) = er) := hid (by rw [her]; simp)
    rw [← her] at h ⊢
    have hne : (er == 0) = false := by simpa using h
    have hh := hid h
    clear her h
    go_enter Try.func43, Try.ntmps43
    go_wp2_with (go_at_call 64; refine (c64_er (told := true) (er := er) (by have := herh.out; simpa using this) (by have := hh.out; simpa using this) (hz.below hB0 (Nat.le_refl _)) (hg.below hB0 (Nat.le_refl _)) hm hm2).mono ?_; rintro e w1 ⟨rfl, hB1⟩)
    go_ret2
    exact NRet2.err (hB0.trans (hB1.mono (by simp)))
end Go.Proofs.Ytkafjlhmbiaicaa
