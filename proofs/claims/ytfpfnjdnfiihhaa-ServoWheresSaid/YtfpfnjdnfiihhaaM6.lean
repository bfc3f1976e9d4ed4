/- Stage 2, plain mathematics: the reference's fewest are the faults. -/
import Derived.Test.YtfpfnjdnfiihhaaSe
import Derived.Test.YtfpfnjdnfiihhaaRg
set_option linter.unusedSimpArgs false
set_option linter.unusedVariables false
namespace Go.Proofs.Ytfpfnjdnfiihhaa

theorem acc_le {sel : Nat → Bool} {f : Nat → Int} {a : Nat} {c : Int} : ∀ {t : Nat}, acc sel f a t ≤ c ↔ (1000 ≤ c ∨ ∃ q, a ≤ q ∧ q < a + t ∧ sel q = true ∧ f q ≤ c)
  | 0 => by
    simp only [acc]
    constructor
    · intro h; exact .inl h
    · rintro (h | ⟨q, h1, h2, _⟩)
      · exact h
      · omega
  | t + 1 => by
    have ih := acc_le (sel := sel) (f := f) (a := a) (c := c) (t := t)
    have e : acc sel f a (t + 1) ≤ c ↔ (acc sel f a t ≤ c ∨ (sel (a + t) = true ∧ f (a + t) ≤ c)) := by
      simp only [acc]
      cases hs : sel (a + t) with
      | true => simp only [if_true, true_and]; split <;> omega
      | false => simp
    rw [e, ih]
    constructor
    · rintro ((h | ⟨q, h1, h2, h3⟩) | ⟨h1, h2⟩)
      · exact .inl h
      · exact .inr ⟨q, h1, by omega, h3⟩
      · exact .inr ⟨a + t, by omega, by omega, h1, h2⟩
    · rintro (h | ⟨q, h1, h2, h3, h4⟩)
      · exact .inl (.inl h)
      · by_cases eq : q = a + t
        · subst eq; exact .inr ⟨h3, h4⟩
        · exact .inl (.inr ⟨q, h1, by omega, h3, h4⟩)
theorem accW_first {N m x : Nat} {f : Nat → Int} {c : Int} (hx : x < N) : accW N m f 0 x ≤ c ↔ (1000 ≤ c ∨ f x ≤ c) := by
  unfold accW
  rw [acc_le]
  constructor
  · rintro (h | ⟨q, _, _, h3, h4⟩)
    · exact .inl h
    · obtain rfl : x = q := by simpa using h3
      exact .inr h4
  · rintro (h | h)
    · exact .inl h
    · exact .inr ⟨x, by omega, by omega, by simp, h⟩
theorem accW_next {N m x i : Nat} {f : Nat → Int} {c : Int} (hx : x < N) (hi : 0 < i) : accW N m f i x ≤ c ↔ (1000 ≤ c ∨ mvd N m f x ≤ c) := by
  unfold accW
  rw [acc_le, mvd_le hx]
  constructor
  · rintro (h | ⟨q, h1, h2, _, h4⟩)
    · exact .inl h
    · exact .inr ⟨q, by omega, by omega, by omega, h4⟩
  · rintro (h | ⟨q, h1, h2, h3, h4⟩)
    · exact .inl h
    · exact .inr ⟨q, by omega, by omega, by simp [hi], h4⟩
theorem eq_of_le {a b : Int} (hb : b < 1000) (h : ∀ c, a ≤ c ↔ (1000 ≤ c ∨ b ≤ c)) : a = b := by
  have h1 := (h b).2 (.inr (Int.le_refl _))
  rcases (h a).1 (Int.le_refl _) with h2 | h2 <;> omega
theorem rfq_flt {N m : Nat} {ag : Nat → Nat → Bool} : ∀ (n x : Nat), n ≤ 100 → x < N → rfq N m ag (-1) n x = flt N m ag n x
  | 0, x, _, _ => by simp [rfq, flt]
  | 1, x, _, hx => by
    have e : accW N m (rfq N m ag (-1) 0) 0 x = 0 := eq_of_le (by omega) (fun c => by rw [accW_first hx]; simp only [rfq])
    rw [flt_one]
    show (if ag 0 x = true then accW N m (rfq N m ag (-1) 0) 0 x else if ((0 : Nat) : Int) = -1 then 1000 else accW N m (rfq N m ag (-1) 0) 0 x + 1) = _
    rw [e]
    split
    · rfl
    · rw [if_neg (by omega)]; omega
  | n + 2, x, hn, hx => by
    have hb := mvd_bd (m := m) (f := flt N m ag (n + 1)) hx (fun q hq => flt_bd (m := m) (ag := ag) (n := n + 1) hq)
    have e0 : mvd N m (rfq N m ag (-1) (n + 1)) x = mvd N m (flt N m ag (n + 1)) x := mvd_congr hx (fun q hq => rfq_flt (n + 1) q (by omega) hq)
    have e : accW N m (rfq N m ag (-1) (n + 1)) (n + 1) x = mvd N m (flt N m ag (n + 1)) x := eq_of_le (by omega) (fun c => by rw [accW_next hx (by omega), e0])
    rw [flt_succ2]
    show (if ag (n + 1) x = true then accW N m (rfq N m ag (-1) (n + 1)) (n + 1) x else if ((n + 1 : Nat) : Int) = -1 then 1000 else accW N m (rfq N m ag (-1) (n + 1)) (n + 1) x + 1) = _
    rw [e]
    split
    · omega
    · rw [if_neg (by omega)]
theorem rfq_fl {s : Sv} {g : Wg} (okg : g.Ok) {x : Nat} (hx : x < s.N) : rfq s.N s.m (agr s g) (-1) g.wn x = fl s g x := rfq_flt _ _ (by have := okg.n2; omega) hx
/-- Where the head can be, d wedges later, as the reference says it. -/
def ltN (N m : Nat) (p : Nat → Bool) : Nat → Nat → Bool
  | 0 => p
  | d + 1 => ltr N m (ltN N m p d)
theorem ltN_mvn {N m : Nat} {f : Nat → Int} {c : Int} {p : Nat → Bool} (h : ∀ x, x < N → (p x = true ↔ f x ≤ c)) : ∀ (d x : Nat), x < N → (ltN N m p d x = true ↔ mvn N m f d x ≤ c)
  | 0, x, hx => h x hx
  | d + 1, x, hx => by
    simp only [ltN, mvn]
    rw [ltr_iff hx, mvd_le hx]
    constructor
    · rintro ⟨q, h1, h2, h3, h4⟩; exact ⟨q, h1, h2, h3, (ltN_mvn h d q h1).1 h4⟩
    · rintro ⟨q, h1, h2, h3, h4⟩; exact ⟨q, h1, h2, h3, (ltN_mvn h d q h1).2 h4⟩
def endsB (s : Sv) (g : Wg) (x : Nat) : Bool := decide (rfq s.N s.m (agr s g) (-1) g.wn x ≤ s.wr)
theorem spn_ltN {s : Sv} {g : Wg} (okg : g.Ok) (d : Nat) : spn (ltN s.N s.m (endsB s g) d) s.N = aheadL s g d := by
  refine spn_congr fun x hx => ?_
  have h := ltN_mvn (N := s.N) (m := s.m) (f := fl s g) (c := s.wr) (p := endsB s g) (fun y hy => by unfold endsB; rw [rfq_fl okg hy]; simp) d x hx
  cases e : ltN s.N s.m (endsB s g) d x with
  | true => exact (decide_eq_true (h.1 e)).symm
  | false => exact (decide_eq_false (fun hh => by rw [h.2 hh] at e; cases e)).symm
theorem ahead_none {s : Sv} {g : Wg} (ok : s.Ok) : (aheadL s g 0).length = 0 ↔ ¬ mn s.N (fl s g) ≤ s.wr := by
  constructor
  · intro h hm; have := ahead_pos ok hm; omega
  · intro h
    rw [List.length_eq_zero_iff]
    refine spn_nil.2 fun p hp => decide_eq_false fun hh => h ((mn_le (by omega)).2 ⟨p, hp, hh⟩)
end Go.Proofs.Ytfpfnjdnfiihhaa
