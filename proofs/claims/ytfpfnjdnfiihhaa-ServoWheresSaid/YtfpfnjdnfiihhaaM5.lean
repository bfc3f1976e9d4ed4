/- Stage 2, plain mathematics: one wedge more; a wider servo. -/
import Derived.Test.YtfpfnjdnfiihhaaRk
import Derived.Test.YtfpfnjdnfiihhaaRg
set_option linter.unusedSimpArgs false
set_option linter.unusedVariables false
namespace Go.Proofs.Ytfpfnjdnfiihhaa

theorem Fb_congr {N m : Nat} {ag ag' : Nat → Nat → Bool} : ∀ {k : Nat}, (∀ i, i < k → ag i = ag' i) → Fb N m ag k = Fb N m ag' k
  | 0, _ => rfl
  | k + 1, h => by
    simp only [Fb]
    rw [Fb_congr (k := k) (fun i hi => h i (by omega)), h k (by omega)]
theorem agr_congr {s : Sv} {g g' : Wg} {i : Nat} (h1 : g'.wc i = g.wc i) (h2 : g'.wu i = g.wu i) : agr s g' i = agr s g i := by
  funext p
  unfold agr
  rw [h1, h2]
theorem fl_more {s : Sv} {g g' : Wg} (hn : g'.wn = g.wn + 1) (hc : ∀ k, k < g.wn → g'.wc k = g.wc k ∧ g'.wu k = g.wu k) (hl : g'.wc g.wn = -1) {p : Nat} (hp : p < s.N) : fl s g' p = mvd s.N s.m (fl s g) p := by
  have e0 : ∀ q, agr s g' g.wn q = true := agr_nothing hl
  have ea : ∀ i, i < g.wn → agr s g' i = agr s g i := fun i hi => agr_congr (hc i hi).1 (hc i hi).2
  have e1 : fl s g' p = Fb s.N s.m (agr s g) g.wn p := by
    rw [fl_pos hn, jdg_yes (e0 p), Fb_congr ea]
  rw [e1]
  cases hw : g.wn with
  | zero =>
    rw [fl_zero hw]
    have := mvd_bd (m := s.m) (f := fun _ => 0) (lo := 0) (hi := 0) hp (fun _ _ => ⟨Int.le_refl _, Int.le_refl _⟩)
    simp only [Fb]
    omega
  | succ j => rw [fl_pos hw]; rfl
theorem mn_mvd {N m : Nat} {f : Nat → Int} {c : Int} (hN : 0 < N) : mn N (mvd N m f) ≤ c ↔ mn N f ≤ c := by
  rw [mn_le hN, mn_le hN]
  constructor
  · rintro ⟨p, hp, h⟩
    obtain ⟨q, h1, _, _, h4⟩ := (mvd_le hp).1 h
    exact ⟨q, h1, h4⟩
  · rintro ⟨p, hp, h⟩
    exact ⟨p, hp, (mvd_le hp).2 ⟨p, hp, by omega, by omega, h⟩⟩
theorem mn_congr {N : Nat} {f g : Nat → Int} (hN : 0 < N) (h : ∀ p, p < N → f p = g p) : mn N f = mn N g := wmin_congr fun q _ h2 => h q (by omega)
theorem ahead_more {s : Sv} {g g' : Wg} (hn : g'.wn = g.wn + 1) (hc : ∀ k, k < g.wn → g'.wc k = g.wc k ∧ g'.wu k = g.wu k) (hl : g'.wc g.wn = -1) : aheadL s g' 0 = aheadL s g 1 :=
  spn_congr fun p hp => by
    show decide (fl s g' p ≤ s.wr) = decide (mvd s.N s.m (fl s g) p ≤ s.wr)
    rw [fl_more hn hc hl hp]
theorem mn_more {s : Sv} {g g' : Wg} (hN : 0 < s.N) (hn : g'.wn = g.wn + 1) (hc : ∀ k, k < g.wn → g'.wc k = g.wc k ∧ g'.wu k = g.wu k) (hl : g'.wc g.wn = -1) : mn s.N (fl s g') ≤ s.wr ↔ mn s.N (fl s g) ≤ s.wr := by
  rw [mn_congr hN (fun p hp => fl_more hn hc hl hp), mn_mvd hN]
theorem cst_mono {ag ag' : Nat → Nat → Bool} {p : Nat → Nat} : ∀ {n : Nat}, (∀ i, i < n → ag i (p i) = true → ag' i (p i) = true) → cst ag' p n ≤ cst ag p n
  | 0, _ => Int.le_refl _
  | n + 1, h => by
    have ih := cst_mono (n := n) (fun i hi => h i (by omega))
    have h1 := h n (by omega)
    simp only [cst]
    cases e : ag n (p n) with
    | true => rw [h1 e]; omega
    | false => simp only [Bool.false_eq_true, if_false]; split <;> omega
/-- A servo and wedges of which less is known. -/
structure Wider (s s' : Sv) (g g' : Wg) : Prop where
  tr : s'.tr = s.tr
  st : s'.st = s.st
  rn : s'.rn = s.rn
  rf : s'.rf = s.rf
  mv : s.mv ≤ s'.mv
  no : s.no ≤ s'.no
  wr : s.wr ≤ s'.wr
  wn : g'.wn = g.wn
  wc : ∀ k, k < g.wn → (g'.wc k = g.wc k ∧ g'.wu k = g.wu k) ∨ g'.wc k = -1
theorem Wider.agr {s s' : Sv} {g g' : Wg} (h : Wider s s' g g') {i p : Nat} (hi : i < g.wn) (ha : agr s g i p = true) : Go.Proofs.Ytfpfnjdnfiihhaa.agr s' g' i p = true := by
  rcases h.wc i hi with ⟨h1, h2⟩ | h1
  · rw [agr_congr h1 h2]
    rcases agr_ref.1 ha with h3 | ⟨h3, h4, h5⟩
    · exact agr_nothing h3 p
    · have e : ∀ t, s'.at_ t i = s.at_ t i := fun t => by unfold Sv.at_; rw [h.st, h.rn, h.rf]
      refine agr_ref.2 (.inr ⟨by rw [h.tr]; exact h3, by rw [e, h.st]; exact h4, ?_⟩)
      rw [e]
      have := h.no
      omega
  · exact agr_nothing h1 p
theorem Wider.N {s s' : Sv} {g g' : Wg} (h : Wider s s' g g') : s'.N = s.N := by unfold Sv.N; rw [h.tr, h.st]
theorem Wider.fl {s s' : Sv} {g g' : Wg} (h : Wider s s' g g') {x : Nat} (hx : x < s.N) {c : Int} (hf : fl s g x ≤ c) : Go.Proofs.Ytfpfnjdnfiihhaa.fl s' g' x ≤ c := by
  cases hw : g.wn with
  | zero => rw [fl_zero (by rw [h.wn, hw])]; rw [fl_zero hw] at hf; exact hf
  | succ n =>
    unfold Go.Proofs.Ytfpfnjdnfiihhaa.fl at hf ⊢
    rw [hw] at hf
    rw [h.wn, hw, h.N]
    obtain ⟨p, h1, h2, h3⟩ := (flt_path n x c hx).1 hf
    refine (flt_path n x c hx).2 ⟨p, fun i hi => ⟨(h1 i hi).1, fun h0 => ?_⟩, h2, ?_⟩
    · have h4 := (h1 i hi).2 h0
      have h5 : s.m ≤ s'.m := by have := h.mv; unfold Sv.m; omega
      omega
    · exact Int.le_trans (cst_mono fun i hi ha => h.agr (by omega) ha) h3
theorem inSp_iff {b : Nat → Bool} {n x : Nat} (hx : x < n) : inSp (spn b n) x ↔ b x = true := by
  rw [(spn_ok b n).on x hx]
  constructor
  · rintro ⟨k, h1, h2, h3⟩
    refine ⟨k, _, List.getElem?_eq_getElem h1, ?_⟩
    simp only [lo, hi, List.getD_eq_getElem?_getD, List.getElem?_eq_getElem h1, Option.getD_some] at h2 h3
    omega
  · rintro ⟨k, y, h1, h2, h3⟩
    obtain ⟨h4, h5⟩ := List.getElem?_eq_some_iff.1 h1
    refine ⟨k, h4, ?_⟩
    simp only [lo, hi, List.getD_eq_getElem?_getD, h1, Option.getD_some]
    omega
theorem Wider.sub {s s' : Sv} {g g' : Wg} (h : Wider s s' g g') {x : Nat} (hx : x < s.N) (hi : inSp (aheadL s g 0) x) : inSp (aheadL s' g' 0) x := by
  have h1 : Go.Proofs.Ytfpfnjdnfiihhaa.fl s g x ≤ s.wr := of_decide_eq_true ((inSp_iff hx).1 hi)
  have h2 := h.fl hx h1
  refine (inSp_iff (by rw [h.N]; exact hx)).2 (decide_eq_true ?_)
  show Go.Proofs.Ytfpfnjdnfiihhaa.fl s' g' x ≤ s'.wr
  have := h.wr
  omega
theorem Wider.mn {s s' : Sv} {g g' : Wg} (h : Wider s s' g g') (hN : 0 < s.N) (hm : mn s.N (Go.Proofs.Ytfpfnjdnfiihhaa.fl s g) ≤ s.wr) : Go.Proofs.Ytfpfnjdnfiihhaa.mn s'.N (Go.Proofs.Ytfpfnjdnfiihhaa.fl s' g') ≤ s'.wr := by
  obtain ⟨p, hp, hf⟩ := (mn_le hN).1 hm
  rw [h.N]
  refine (mn_le hN).2 ⟨p, hp, ?_⟩
  have h1 := h.fl hp hf
  have := h.wr
  omega
end Go.Proofs.Ytfpfnjdnfiihhaa
