/- Stage 2, plain mathematics: least values in windows, faults, paths. -/
import Derived.Handy
set_option linter.unusedSimpArgs false
set_option linter.unusedVariables false
namespace Go.Proofs.Ytfpfnjdnfiihhaa

def wmin (f : Nat → Int) (a : Nat) : Nat → Int
  | 0 => f a
  | k + 1 => min (wmin f a k) (f (a + k + 1))
theorem wmin_le (f : Nat → Int) (a : Nat) (c : Int) : ∀ k, wmin f a k ≤ c ↔ ∃ q, a ≤ q ∧ q ≤ a + k ∧ f q ≤ c
  | 0 => by
    constructor
    · intro h; exact ⟨a, Nat.le_refl _, by omega, h⟩
    · rintro ⟨q, h1, h2, h3⟩
      obtain rfl : q = a := by omega
      exact h3
  | k + 1 => by
    have ih := wmin_le f a c k
    have e : wmin f a (k + 1) ≤ c ↔ (wmin f a k ≤ c ∨ f (a + k + 1) ≤ c) := by
      simp only [wmin]; omega
    rw [e, ih]
    constructor
    · rintro (⟨q, h1, h2, h3⟩ | h)
      · exact ⟨q, h1, by omega, h3⟩
      · exact ⟨a + k + 1, by omega, by omega, h⟩
    · rintro ⟨q, h1, h2, h3⟩
      by_cases hq : q = a + k + 1
      · subst hq; exact .inr h3
      · exact .inl ⟨q, h1, by omega, h3⟩
theorem wmin_congr {f g : Nat → Int} {a : Nat} : ∀ {k : Nat}, (∀ q, a ≤ q → q ≤ a + k → f q = g q) → wmin f a k = wmin g a k
  | 0, h => h a (Nat.le_refl _) (by omega)
  | k + 1, h => by
    simp only [wmin]
    rw [wmin_congr (k := k) (fun q h1 h2 => h q h1 (by omega)), h (a + k + 1) (by omega) (by omega)]
theorem wmin_bd {f : Nat → Int} {a : Nat} {lo hi : Int} : ∀ {k : Nat}, (∀ q, a ≤ q → q ≤ a + k → lo ≤ f q ∧ f q ≤ hi) → lo ≤ wmin f a k ∧ wmin f a k ≤ hi
  | 0, h => h a (Nat.le_refl _) (by omega)
  | k + 1, h => by
    have h1 := wmin_bd (k := k) (fun q h1 h2 => h q h1 (by omega))
    have h2 := h (a + k + 1) (by omega) (by omega)
    simp only [wmin]
    omega
theorem wmin_shift (f : Nat → Int) (a : Nat) : ∀ k, wmin (fun q => f (a + q)) 0 k = wmin f a k
  | 0 => rfl
  | k + 1 => by
    simp only [wmin]
    rw [wmin_shift f a k, show a + (0 + k + 1) = a + k + 1 by omega]

def mvd (N m : Nat) (f : Nat → Int) (p : Nat) : Int := wmin f (p - m) (min (p + m) (N - 1) - (p - m))
theorem mvd_le {N m p : Nat} {f : Nat → Int} {c : Int} (hp : p < N) : mvd N m f p ≤ c ↔ ∃ q, q < N ∧ q ≤ p + m ∧ p ≤ q + m ∧ f q ≤ c := by
  unfold mvd
  rw [wmin_le]
  constructor
  · rintro ⟨q, h1, h2, h3⟩; exact ⟨q, by omega, by omega, by omega, h3⟩
  · rintro ⟨q, h1, h2, h3, h4⟩; exact ⟨q, by omega, by omega, h4⟩
theorem mvd_congr {N m p : Nat} {f g : Nat → Int} (hp : p < N) (h : ∀ q, q < N → f q = g q) : mvd N m f p = mvd N m g p :=
  wmin_congr fun q _ h2 => h q (by omega)
theorem mvd_bd {N m p : Nat} {f : Nat → Int} {lo hi : Int} (hp : p < N) (h : ∀ q, q < N → lo ≤ f q ∧ f q ≤ hi) : lo ≤ mvd N m f p ∧ mvd N m f p ≤ hi :=
  wmin_bd fun q _ h2 => h q (by omega)

def jdg (ag : Nat → Bool) (f : Nat → Int) (p : Nat) : Int := f p + (if ag p = true then 0 else 1)
theorem jdg_bd {ag : Nat → Bool} {f : Nat → Int} {p : Nat} {lo hi : Int} (h : lo ≤ f p ∧ f p ≤ hi) : lo ≤ jdg ag f p ∧ jdg ag f p ≤ hi + 1 := by
  unfold jdg
  split <;> omega
/-- The faults before each wedge. -/
def Fb (N m : Nat) (ag : Nat → Nat → Bool) : Nat → Nat → Int
  | 0 => fun _ => 0
  | i + 1 => mvd N m (jdg (ag i) (Fb N m ag i))
/-- The faults behind a wedge, by how many are behind it. -/
def Bh (N m : Nat) (ag : Nat → Nat → Bool) (n : Nat) : Nat → Nat → Int
  | 0 => fun _ => 0
  | d + 1 => mvd N m (jdg (ag (n - 1 - d)) (Bh N m ag n d))
def flt (N m : Nat) (ag : Nat → Nat → Bool) (n : Nat) : Nat → Int := if n = 0 then fun _ => 0 else jdg (ag (n - 1)) (Fb N m ag (n - 1))
theorem Fb_bd {N m : Nat} {ag : Nat → Nat → Bool} : ∀ (i p : Nat), p < N → 0 ≤ Fb N m ag i p ∧ Fb N m ag i p ≤ i
  | 0, p, _ => by simp [Fb]
  | i + 1, p, hp => by
    have h := mvd_bd (m := m) (f := jdg (ag i) (Fb N m ag i)) hp (fun q hq => jdg_bd (ag := ag i) (Fb_bd (m := m) (ag := ag) i q hq))
    exact ⟨h.1, by have := h.2; show mvd N m (jdg (ag i) (Fb N m ag i)) p ≤ _; omega⟩
theorem Bh_bd {N m : Nat} {ag : Nat → Nat → Bool} {n : Nat} : ∀ (i p : Nat), p < N → 0 ≤ Bh N m ag n i p ∧ Bh N m ag n i p ≤ i
  | 0, p, _ => by simp [Bh]
  | i + 1, p, hp => by
    have h := mvd_bd (m := m) (f := jdg (ag (n - 1 - i)) (Bh N m ag n i)) hp (fun q hq => jdg_bd (ag := ag (n - 1 - i)) (Bh_bd (m := m) (ag := ag) (n := n) i q hq))
    exact ⟨h.1, by have := h.2; show mvd N m (jdg (ag (n - 1 - i)) (Bh N m ag n i)) p ≤ _; omega⟩
theorem flt_bd {N m : Nat} {ag : Nat → Nat → Bool} {n p : Nat} (hp : p < N) : 0 ≤ flt N m ag n p ∧ flt N m ag n p ≤ n := by
  unfold flt
  split
  · simp
  · have h := jdg_bd (ag := ag (n - 1)) (Fb_bd (m := m) (ag := ag) (n - 1) p hp)
    omega

/-- A path of n positions. -/
def Pth (N m : Nat) (p : Nat → Nat) (n : Nat) : Prop := ∀ i, i < n → p i < N ∧ (0 < i → p i ≤ p (i - 1) + m ∧ p (i - 1) ≤ p i + m)
def cst (ag : Nat → Nat → Bool) (p : Nat → Nat) : Nat → Int
  | 0 => 0
  | i + 1 => cst ag p i + (if ag i (p i) = true then 0 else 1)
theorem cst_congr {ag : Nat → Nat → Bool} {p q : Nat → Nat} : ∀ {n : Nat}, (∀ i, i < n → p i = q i) → cst ag p n = cst ag q n
  | 0, _ => rfl
  | n + 1, h => by simp only [cst]; rw [cst_congr (n := n) (fun i hi => h i (by omega)), h n (by omega)]
theorem cst_nn {ag : Nat → Nat → Bool} {p : Nat → Nat} : ∀ n, 0 ≤ cst ag p n
  | 0 => by simp [cst]
  | n + 1 => by have := cst_nn (ag := ag) (p := p) n; simp only [cst]; split <;> omega
theorem Pth.le {N m : Nat} {p : Nat → Nat} {n k : Nat} (h : Pth N m p n) (hk : k ≤ n) : Pth N m p k := fun i hi => h i (by omega)
theorem Pth.snoc {N m : Nat} {p : Nat → Nat} {n x : Nat} (h : Pth N m p n) (hx : x < N) (hm : 0 < n → x ≤ p (n - 1) + m ∧ p (n - 1) ≤ x + m) :
    Pth N m (fun i => if i = n then x else p i) (n + 1) := by
  intro i hi
  by_cases e : i = n
  · subst e
    refine ⟨by simp [hx], fun h0 => ?_⟩
    have := hm h0
    have e2 : i - 1 ≠ i := by omega
    simp [e2, this]
  · have := h i (by omega)
    refine ⟨by simp [e, this.1], fun h0 => ?_⟩
    have e2 : i - 1 ≠ n := by omega
    simp [e, e2, this.2 h0]

theorem flt_succ2 {N m : Nat} {ag : Nat → Nat → Bool} {n : Nat} (p : Nat) : flt N m ag (n + 2) p = mvd N m (flt N m ag (n + 1)) p + (if ag (n + 1) p = true then 0 else 1) := by
  unfold flt
  rw [if_neg (by omega), if_neg (by omega)]
  simp only [show n + 2 - 1 = n + 1 by omega, show n + 1 - 1 = n by omega]
  rfl
theorem flt_one {N m : Nat} {ag : Nat → Nat → Bool} (p : Nat) : flt N m ag 1 p = (if ag 0 p = true then 0 else 1) := by
  unfold flt
  rw [if_neg (by omega)]
  simp [jdg, Fb]

/-- A position has at most c faults just when some path with at most c faults ends there. -/
theorem flt_path {N m : Nat} {ag : Nat → Nat → Bool} : ∀ (n x : Nat) (c : Int), x < N → (flt N m ag (n + 1) x ≤ c ↔ ∃ p, Pth N m p (n + 1) ∧ p n = x ∧ cst ag p (n + 1) ≤ c)
  | 0, x, c, hx => by
    rw [flt_one]
    constructor
    · intro h
      refine ⟨fun _ => x, fun i hi => ⟨hx, fun h0 => by omega⟩, rfl, ?_⟩
      simp only [cst]; omega
    · rintro ⟨p, _, rfl, h3⟩
      simp only [cst] at h3; omega
  | n + 1, x, c, hx => by
    rw [flt_succ2]
    have e : mvd N m (flt N m ag (n + 1)) x + (if ag (n + 1) x = true then 0 else 1) ≤ c ↔ mvd N m (flt N m ag (n + 1)) x ≤ c - (if ag (n + 1) x = true then 0 else 1) := by omega
    rw [e, mvd_le hx]
    constructor
    · rintro ⟨q, h1, h2, h3, h4⟩
      obtain ⟨p, g1, g2, g3⟩ := (flt_path n q _ h1).1 h4
      refine ⟨fun i => if i = n + 1 then x else p i, g1.snoc hx (fun _ => by simp [g2]; omega), by simp, ?_⟩
      have e1 : cst ag (fun i => if i = n + 1 then x else p i) (n + 1) = cst ag p (n + 1) := cst_congr fun i hi => by simp [show i ≠ n + 1 by omega]
      show cst ag _ (n + 1) + (if ag (n + 1) (if n + 1 = n + 1 then x else p (n + 1)) = true then 0 else 1) ≤ c
      rw [e1, if_pos rfl]
      omega
    · rintro ⟨p, g1, rfl, g3⟩
      have g4 : cst ag p (n + 1) + (if ag (n + 1) (p (n + 1)) = true then 0 else 1) ≤ c := g3
      have g5 := g1 (n + 1) (by omega)
      have g6 := g5.2 (by omega)
      have g7 := g1 n (by omega)
      simp only [show n + 1 - 1 = n by omega] at g6
      exact ⟨p n, g7.1, by omega, by omega, (flt_path n (p n) _ g7.1).2 ⟨p, g1.le (by omega), rfl, by omega⟩⟩
end Go.Proofs.Ytfpfnjdnfiihhaa
