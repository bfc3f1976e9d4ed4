/- Stage 5: the field of 16 symbols, sums of words, and sums without some positions. -/
import Derived.Handy
set_option linter.unusedSimpArgs false
set_option linter.unusedVariables false
namespace Go.Proofs.YtnndhibhnakdoaaDoor
namespace Gf

abbrev S := Fin 16
def pwl : List Nat := [1, 2, 4, 8, 3, 6, 12, 11, 5, 10, 7, 14, 15, 13, 9]
def nml : List Nat := [0, 0, 1, 4, 2, 8, 5, 10, 3, 14, 9, 7, 6, 13, 11, 12]
def ad (a b : S) : S := a ^^^ b
def pw (i : Nat) : S := Fin.ofNat 16 (pwl[i % 15]!)
def nm (a : S) : Nat := nml[a.val]!
def mu (a b : S) : S := if a = 0 ∨ b = 0 then 0 else pw (nm a + nm b)
def qu (a b : S) : S := if a = 0 then 0 else pw (nm a + 15 - nm b)

theorem ad_comm : ∀ a b : S, ad a b = ad b a := by decide +kernel
theorem ad_assoc : ∀ a b c : S, ad (ad a b) c = ad a (ad b c) := by decide +kernel
theorem ad_zero : ∀ a : S, ad a 0 = a := by decide +kernel
theorem zero_ad : ∀ a : S, ad 0 a = a := by decide +kernel
theorem ad_self : ∀ a : S, ad a a = 0 := by decide +kernel
theorem ad_eq_zero : ∀ a b : S, ad a b = 0 → a = b := by decide +kernel
theorem mu_comm : ∀ a b : S, mu a b = mu b a := by decide +kernel
theorem mu_assoc : ∀ a b c : S, mu (mu a b) c = mu a (mu b c) := by decide +kernel
theorem mu_zero : ∀ a : S, mu a 0 = 0 := by decide +kernel
theorem zero_mu : ∀ a : S, mu 0 a = 0 := by decide +kernel
theorem mu_one : ∀ a : S, mu a 1 = a := by decide +kernel
theorem one_mu : ∀ a : S, mu 1 a = a := by decide +kernel
theorem mu_ad : ∀ a b c : S, mu a (ad b c) = ad (mu a b) (mu a c) := by decide +kernel
theorem ad_mu : ∀ a b c : S, mu (ad b c) a = ad (mu b a) (mu c a) := by decide +kernel
theorem mu_ne : ∀ a b : S, a ≠ 0 → b ≠ 0 → mu a b ≠ 0 := by decide +kernel
theorem qu_mu : ∀ a b : S, b ≠ 0 → mu (qu a b) b = a := by decide +kernel
theorem pw_all : ∀ i j : Fin 15, pw i.val = pw j.val → i = j := by decide +kernel
theorem pw_inj {i j : Nat} (hi : i < 15) (hj : j < 15) (h : pw i = pw j) : i = j := by
  have := pw_all ⟨i, hi⟩ ⟨j, hj⟩ h
  simpa using this
instance : Std.Commutative ad := ⟨ad_comm⟩
instance : Std.Associative ad := ⟨ad_assoc⟩
instance : Std.Commutative mu := ⟨mu_comm⟩
instance : Std.Associative mu := ⟨mu_assoc⟩

/-- The sum of the first n. -/
def sm (f : Nat → S) : Nat → S
  | 0 => 0
  | n + 1 => ad (sm f n) (f n)
theorem sm_congr {f g : Nat → S} {n : Nat} (h : ∀ j, j < n → f j = g j) : sm f n = sm g n := by
  induction n with
  | zero => rfl
  | succ n ih => rw [sm, sm, ih (fun j hj => h j (by omega)), h n (by omega)]
theorem sm_zero {f : Nat → S} {n : Nat} (h : ∀ j, j < n → f j = 0) : sm f n = 0 := by
  induction n with
  | zero => rfl
  | succ n ih => rw [sm, ih (fun j hj => h j (by omega)), h n (by omega), ad_zero]
theorem sm_one {f : Nat → S} {n p : Nat} (hp : p < n) (h : ∀ j, j < n → j ≠ p → f j = 0) : sm f n = f p := by
  induction n with
  | zero => omega
  | succ n ih =>
    rw [sm]
    by_cases e : p = n
    · subst e
      rw [sm_zero (fun j hj => h j (by omega) (by omega)), zero_ad]
    · rw [ih (by omega) (fun j hj => h j (by omega)), h n (by omega) (by omega), ad_zero]
theorem sm_ad (f g : Nat → S) (n : Nat) : sm (fun j => ad (f j) (g j)) n = ad (sm f n) (sm g n) := by
  induction n with
  | zero => rfl
  | succ n ih => rw [sm, sm, sm, ih]; ac_rfl
theorem sm_mu (c : S) (f : Nat → S) (n : Nat) : sm (fun j => mu (f j) c) n = mu (sm f n) c := by
  induction n with
  | zero => rw [sm, sm, zero_mu]
  | succ n ih => rw [sm, sm, ih, ad_mu]

/-- The powers of x. -/
def un (x : S) : Nat → S
  | 0 => 1
  | i + 1 => mu (un x i) x
/-- What the symbol at a position is multiplied by. -/
def ba (n j : Nat) : S := pw (n - 1 - j)
theorem ba_inj {n i j : Nat} (hn : n ≤ 15) (hi : i < n) (hj : j < n) (h : ba n i = ba n j) : i = j := by
  have := pw_inj (by omega) (by omega) h
  omega
/-- The sums of a word. -/
def syn (n : Nat) (w : Nat → S) (i : Nat) : S := sm (fun j => mu (w j) (un (ba n j) i)) n
theorem syn_congr {n : Nat} {w v : Nat → S} (h : ∀ j, j < n → w j = v j) (i : Nat) : syn n w i = syn n v i := sm_congr fun j hj => by rw [h j hj]
theorem syn_ad (n : Nat) (w v : Nat → S) (i : Nat) : syn n (fun j => ad (w j) (v j)) i = ad (syn n w i) (syn n v i) := by
  unfold syn
  rw [← sm_ad]
  exact sm_congr fun j _ => ad_mu _ _ _
theorem syn_mu (n : Nat) (w : Nat → S) (c : S) (i : Nat) : syn n (fun j => mu (w j) c) i = mu (syn n w i) c := by
  unfold syn
  rw [← sm_mu]
  exact sm_congr fun j _ => by
    show mu (mu (w j) c) (un (ba n j) i) = mu (mu (w j) (un (ba n j) i)) c
    ac_rfl
/-- Sums without what one position adds. -/
def fl (x : S) (s : Nat → S) (i : Nat) : S := ad (s (i + 1)) (mu (s i) x)
/-- Sums without what some positions add. -/
def fa (b : Nat → S) (P : List Nat) (s : Nat → S) : Nat → S := P.foldl (fun s p => fl (b p) s) s
theorem fa_nil (b : Nat → S) (s : Nat → S) : fa b [] s = s := rfl
theorem fa_cons (b : Nat → S) (p : Nat) (P : List Nat) (s : Nat → S) : fa b (p :: P) s = fa b P (fl (b p) s) := rfl
theorem fa_app (b : Nat → S) (P Q : List Nat) (s : Nat → S) : fa b (P ++ Q) s = fa b Q (fa b P s) := List.foldl_append
theorem fl_ad (x : S) (s t : Nat → S) : fl x (fun i => ad (s i) (t i)) = fun i => ad (fl x s i) (fl x t i) := by
  funext i
  show ad (ad (s (i + 1)) (t (i + 1))) (mu (ad (s i) (t i)) x) = ad (ad (s (i + 1)) (mu (s i) x)) (ad (t (i + 1)) (mu (t i) x))
  rw [ad_mu]
  ac_rfl
theorem fl_mu (x c : S) (s : Nat → S) : fl x (fun i => mu c (s i)) = fun i => mu c (fl x s i) := by
  funext i
  unfold fl
  rw [mu_ad, mu_assoc]
theorem fl_comm (x y : S) (s : Nat → S) : fl x (fl y s) = fl y (fl x s) := by
  funext i
  unfold fl
  rw [ad_mu, ad_mu]
  rw [show mu (mu (s i) y) x = mu (mu (s i) x) y by ac_rfl]
  ac_rfl
theorem fl_un (x y : S) (i : Nat) : fl y (un x) i = mu (ad x y) (un x i) := by
  unfold fl
  rw [un, ad_mu]
  rw [show mu x (un x i) = mu (un x i) x from mu_comm _ _, show mu y (un x i) = mu (un x i) y from mu_comm _ _]
theorem fa_ad (b : Nat → S) (P : List Nat) (s t : Nat → S) : fa b P (fun i => ad (s i) (t i)) = fun i => ad (fa b P s i) (fa b P t i) := by
  induction P generalizing s t with
  | nil => rfl
  | cons p P ih => rw [fa_cons, fa_cons, fa_cons, fl_ad, ih]
theorem fa_mu (b : Nat → S) (P : List Nat) (c : S) (s : Nat → S) : fa b P (fun i => mu c (s i)) = fun i => mu c (fa b P s i) := by
  induction P generalizing s with
  | nil => rfl
  | cons p P ih => rw [fa_cons, fa_cons, fl_mu, ih]
theorem fa_perm (b : Nat → S) {P Q : List Nat} (h : P.Perm Q) (s : Nat → S) : fa b P s = fa b Q s := by
  induction h generalizing s with
  | nil => rfl
  | cons p _ ih => rw [fa_cons, fa_cons, ih]
  | swap p q P => rw [fa_cons, fa_cons, fa_cons, fa_cons, fl_comm]
  | trans _ _ ih1 ih2 => rw [ih1, ih2]
/-- The product of the differences from x. -/
def pr (b : Nat → S) (x : S) : List Nat → S
  | [] => 1
  | p :: P => mu (ad x (b p)) (pr b x P)
theorem pr_zero {b : Nat → S} {x : S} {P : List Nat} {p : Nat} (h : p ∈ P) (e : b p = x) : pr b x P = 0 := by
  induction P with
  | nil => cases h
  | cons q P ih =>
    rw [pr]
    rcases List.mem_cons.1 h with rfl | h
    · rw [e, ad_self, zero_mu]
    · rw [ih h, mu_zero]
theorem pr_ne {b : Nat → S} {x : S} {P : List Nat} (h : ∀ p, p ∈ P → b p ≠ x) : pr b x P ≠ 0 := by
  induction P with
  | nil => rw [pr]; decide
  | cons q P ih =>
    rw [pr]
    refine mu_ne _ _ (fun e => h q (List.mem_cons_self ..) (ad_eq_zero _ _ e).symm) (ih fun p hp => h p (List.mem_cons_of_mem _ hp))
theorem fa_un (b : Nat → S) (P : List Nat) (x : S) (i : Nat) : fa b P (un x) i = mu (pr b x P) (un x i) := by
  induction P generalizing i with
  | nil => rw [fa_nil, pr, one_mu]
  | cons p P ih =>
    rw [fa_cons, show fl (b p) (un x) = fun i => mu (ad x (b p)) (un x i) from funext fun i => fl_un _ _ _, fa_mu, pr]
    show mu _ (fa b P (un x) i) = _
    rw [ih, mu_assoc]
theorem fa_congr (b : Nat → S) (P : List Nat) {s t : Nat → S} {i : Nat} (h : ∀ k, k ≤ i + P.length → s k = t k) : fa b P s i = fa b P t i := by
  induction P generalizing s t with
  | nil => exact h i (by simp)
  | cons p P ih =>
    rw [fa_cons, fa_cons]
    refine ih fun k hk => ?_
    unfold fl
    rw [h (k + 1) (by simp; omega), h k (by simp; omega)]
theorem fa_zero (b : Nat → S) (P : List Nat) (i : Nat) : fa b P (fun _ => 0) i = 0 := by
  have := congrFun (fa_mu b P 0 (fun _ => 0)) i
  simp only [zero_mu] at this
  exact this
theorem fa_sum (b : Nat → S) (P : List Nat) (c x : Nat → S) (n i : Nat) : fa b P (fun i => sm (fun j => mu (c j) (un (x j) i)) n) i = sm (fun j => mu (mu (c j) (pr b (x j) P)) (un (x j) i)) n := by
  induction P generalizing c with
  | nil => exact sm_congr fun j _ => by rw [pr, mu_one]
  | cons p P ih =>
    rw [fa_cons]
    have : fl (b p) (fun i => sm (fun j => mu (c j) (un (x j) i)) n) = fun i => sm (fun j => mu (mu (c j) (ad (x j) (b p))) (un (x j) i)) n := by
      funext i
      show ad (sm _ n) (mu (sm _ n) (b p)) = _
      rw [← sm_mu, ← sm_ad]
      refine sm_congr fun j _ => ?_
      show ad (mu (c j) (un (x j) (i + 1))) (mu (mu (c j) (un (x j) i)) (b p)) = _
      rw [un, mu_assoc (c j), ← mu_ad, mu_assoc, ad_mu]
      congr 2
      · ac_rfl
      · ac_rfl
    rw [this, ih]
    refine sm_congr fun j _ => ?_
    rw [pr, mu_assoc (c j)]
theorem fa_syn (b : Nat → S) (P : List Nat) (n : Nat) (w : Nat → S) (i : Nat) : fa b P (syn n w) i = sm (fun j => mu (mu (w j) (pr b (ba n j) P)) (un (ba n j) i)) n := fa_sum b P w (ba n) n i
/-- Sums are 0 if they are so without some positions, and, at the first place, without all of these but one. -/
theorem kill {b : Nat → S} {P : List Nat} (hP : P.Nodup) (hb : ∀ p q, p ∈ P → q ∈ P → b p = b q → p = q) {s : Nat → S} {r : Nat} (hr : P.length ≤ r)
    (h0 : ∀ i, i + P.length < r → fa b P s i = 0) (h1 : ∀ p, p ∈ P → fa b (P.filter (fun o => !decide (o = p))) s 0 = 0) : ∀ i, i < r → s i = 0 := by
  induction P generalizing s r with
  | nil => exact fun i hi => h0 i (by simpa using hi)
  | cons p P ih =>
    obtain ⟨hpn, hPn⟩ := List.nodup_cons.1 hP
    simp only [List.length_cons] at hr h0
    have h2 : ∀ i, i < r - 1 → fl (b p) s i = 0 := by
      refine ih hPn (fun x y hx hy => hb x y (List.mem_cons_of_mem _ hx) (List.mem_cons_of_mem _ hy)) (by omega) (fun i hi => h0 i (by omega)) (fun q hq => ?_)
      have h3 := h1 q (List.mem_cons_of_mem _ hq)
      have : p ≠ q := fun e => hpn (e ▸ hq)
      rw [List.filter_cons, if_pos (by simp [this])] at h3
      exact h3
    have hgeo : ∀ i, i < r → s i = mu (s 0) (un (b p) i) := by
      intro i
      induction i with
      | zero => intro _; rw [un, mu_one]
      | succ i ihi =>
        intro hi
        have h4 := ad_eq_zero _ _ (h2 i (by omega))
        rw [h4, ihi (by omega), un, mu_assoc]
    have hf : (p :: P).filter (fun o => !decide (o = p)) = P := by
      rw [List.filter_cons, if_neg (by simp)]
      exact List.filter_eq_self.2 fun a ha => by
        have : a ≠ p := fun e => hpn (e ▸ ha)
        simp [this]
    have h5 := h1 p (List.mem_cons_self ..)
    rw [hf, fa_congr b P (t := fun i => mu (s 0) (un (b p) i)) (fun k hk => hgeo k (by omega)), fa_mu] at h5
    simp only [fa_un] at h5
    have h6 : s 0 = 0 := by
      by_cases e : s 0 = 0
      · exact e
      · refine absurd h5 (mu_ne _ _ e (mu_ne _ _ (pr_ne fun q hq e2 => ?_) (by rw [un]; decide)))
        exact hpn (hb q p (List.mem_cons_of_mem _ hq) (List.mem_cons_self ..) e2 ▸ hq)
    intro i hi
    rw [hgeo i hi, h6, zero_mu]
/-- A word whose sums are 0 is 0 if it is so at all but a few positions. -/
theorem uniq {n r : Nat} {P : List Nat} (hn : n ≤ 15) (hl : ∀ p, p ∈ P → p < n) (hr : P.length ≤ r) {e : Nat → S} (he : ∀ j, j < n → j ∉ P → e j = 0)
    (h : ∀ i, i < r → syn n e i = 0) : ∀ j, j < n → e j = 0 := by
  intro p hp
  by_cases hm : p ∈ P
  · have hlen : (P.filter (fun o => !decide (o = p))).length < P.length := by
      refine Nat.lt_of_le_of_ne (List.length_filter_le _ _) fun e => ?_
      have := List.length_filter_eq_length_iff.1 e p hm
      simp at this
    have h1 : fa (ba n) (P.filter (fun o => !decide (o = p))) (syn n e) 0 = 0 := by
      rw [fa_congr (ba n) _ (t := fun _ => 0) (fun k hk => h k (by omega))]
      exact fa_zero _ _ _
    rw [fa_syn, sm_one hp (fun j hj hjp => ?_)] at h1
    · by_cases e0 : e p = 0
      · exact e0
      · refine absurd h1 (mu_ne _ _ (mu_ne _ _ e0 (pr_ne fun q hq e2 => ?_)) (by rw [un]; decide))
        obtain ⟨hq1, hq2⟩ := List.mem_filter.1 hq
        have := ba_inj hn (hl q hq1) hp e2
        simp [this] at hq2
    · by_cases hjm : j ∈ P
      · rw [pr_zero (p := j) (List.mem_filter.2 ⟨hjm, by simp [hjp]⟩) rfl, mu_zero, zero_mu]
      · rw [he j hj hjm, zero_mu, zero_mu]
  · exact he p hp hm
/-- The sums without all positions of a list but one. -/
def lf (n : Nat) (P : List Nat) (j : Nat) (s : Nat → S) : S := fa (ba n) (P.filter (fun o => !decide (o = j))) s 0
/-- The word that is changed at some positions. -/
def mend (n : Nat) (w : Nat → S) (P : List Nat) (j : Nat) : S := if j ∈ P then ad (w j) (qu (lf n P j (syn n w)) (lf n P j (un (ba n j)))) else w j
theorem mend_cw {n r : Nat} {P : List Nat} (hn : n ≤ 15) (hP : P.Nodup) (hl : ∀ p, p ∈ P → p < n) (hr : P.length ≤ r) {w : Nat → S}
    (h : ∀ i, i + P.length < r → fa (ba n) P (syn n w) i = 0) : ∀ i, i < r → syn n (mend n w P) i = 0 := by
  let e : Nat → S := fun j => if j ∈ P then qu (lf n P j (syn n w)) (lf n P j (un (ba n j))) else 0
  have hs : ∀ i, syn n (mend n w P) i = ad (syn n w i) (syn n e i) := by
    intro i
    rw [← syn_ad]
    refine syn_congr (fun j hj => ?_) i
    show mend n w P j = ad (w j) (if j ∈ P then _ else 0)
    unfold mend
    split
    · rfl
    · rw [ad_zero]
  have hs2 : syn n (mend n w P) = fun i => ad (syn n w i) (syn n e i) := funext hs
  refine kill hP (b := ba n) (fun p q hp hq => ba_inj hn (hl p hp) (hl q hq)) hr (fun i hi => ?_) (fun p hp => ?_)
  · rw [hs2, fa_ad]
    show ad (fa (ba n) P (syn n w) i) (fa (ba n) P (syn n e) i) = 0
    rw [h i hi, zero_ad, fa_syn]
    refine sm_zero fun j hj => ?_
    by_cases hm : j ∈ P
    · rw [pr_zero hm rfl, mu_zero, zero_mu]
    · rw [show e j = 0 from if_neg hm, zero_mu, zero_mu]
  · rw [hs2, fa_ad]
    have hpl := hl p hp
    have h1 : fa (ba n) (P.filter (fun o => !decide (o = p))) (syn n e) 0 = lf n P p (syn n w) := by
      rw [fa_syn, sm_one hpl (fun j hj hjp => ?_)]
      · have h2 : lf n P p (un (ba n p)) = pr (ba n) (ba n p) (P.filter (fun o => !decide (o = p))) := by
          unfold lf
          rw [fa_un, un, mu_one]
        rw [un, mu_one, ← h2, show e p = qu (lf n P p (syn n w)) (lf n P p (un (ba n p))) from if_pos hp]
        refine qu_mu _ _ ?_
        rw [h2]
        refine pr_ne fun q hq e2 => ?_
        obtain ⟨hq1, hq2⟩ := List.mem_filter.1 hq
        have := ba_inj hn (hl q hq1) hpl e2
        simp [this] at hq2
      · by_cases hjm : j ∈ P
        · rw [pr_zero (p := j) (List.mem_filter.2 ⟨hjm, by simp [hjp]⟩) rfl, mu_zero, zero_mu]
        · rw [show e j = 0 from if_neg hjm, zero_mu, zero_mu]
    show ad (fa (ba n) (P.filter (fun o => !decide (o = p))) (syn n w) 0) (fa (ba n) (P.filter (fun o => !decide (o = p))) (syn n e) 0) = 0
    rw [h1]
    exact ad_self _
/-- Without positions outside of which a word is a code word nothing is left. -/
theorem gone {n r : Nat} {P : List Nat} {w c : Nat → S} (hc : ∀ i, i < r → syn n c i = 0) (hd : ∀ j, j < n → j ∉ P → w j = c j) : ∀ i, i + P.length < r → fa (ba n) P (syn n w) i = 0 := by
  intro i hi
  have h1 : syn n w = fun i => ad (syn n (fun j => ad (w j) (c j)) i) (syn n c i) := by
    funext i
    rw [syn_ad, ad_assoc, ad_self, ad_zero]
  rw [h1, fa_ad]
  show ad (fa (ba n) P (syn n (fun j => ad (w j) (c j))) i) (fa (ba n) P (syn n c) i) = 0
  rw [fa_congr (ba n) P (s := syn n c) (t := fun _ => 0) (fun k hk => hc k (by omega)), fa_zero, ad_zero, fa_syn]
  refine sm_zero fun j hj => ?_
  by_cases hm : j ∈ P
  · rw [pr_zero hm rfl, mu_zero, zero_mu]
  · rw [hd j hj hm, ad_self, zero_mu, zero_mu]
end Gf
end Go.Proofs.YtnndhibhnakdoaaDoor
