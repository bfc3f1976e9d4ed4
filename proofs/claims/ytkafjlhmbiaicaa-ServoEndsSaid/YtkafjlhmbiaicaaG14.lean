/- Texts put together: M6, Sf, Sg, Sh, M5. -/
import Derived.Test.YtkafjlhmbiaicaaG13
import Derived.Test.YtkafjlhmbiaicaaG11
/- Stage 2, plain mathematics: the reference's fewest are the faults. -/
set_option linter.unusedSimpArgs false
set_option linter.unusedVariables false
namespace Go.Proofs.Ytkafjlhmbiaicaa

theorem acc_le {sel : Nat → Bool} {f : Nat → Int} {a : Nat} {c : Int} : ∀ {t : Nat}, acc sel f a t ≤ c ↔ (1000 ≤ c ∨ ∃ q, a ≤ q ∧ q < a + t ∧ sel q = true ∧ f q ≤ c)
  | 0 => by
    simp only [acc]
    constructor
    · intro h; exact .inl h
    · rintro (h | ⟨q, h1, h2, _⟩)
      · exact h
      · omega
  | t + 1 => by
    have ih := acc_le (sel := sel) (f := f) (a := a) (c := c) (t := t)
    have e : acc sel f a (t + 1) ≤ c ↔ (acc sel f a t ≤ c ∨ (sel (a + t) = true ∧ f (a + t) ≤ c)) := by
      simp only [acc]
      cases hs : sel (a + t) with
      | true => simp only [if_true, true_and]; split <;> omega
      | false => simp
    rw [e, ih]
    constructor
    · rintro ((h | ⟨q, h1, h2, h3⟩) | ⟨h1, h2⟩)
      · exact .inl h
      · exact .inr ⟨q, h1, by omega, h3⟩
      · exact .inr ⟨a + t, by omega, by omega, h1, h2⟩
    · rintro (h | ⟨q, h1, h2, h3, h4⟩)
      · exact .inl (.inl h)
      · by_cases eq : q = a + t
        · subst eq; exact .inr ⟨h3, h4⟩
        · exact .inl (.inr ⟨q, h1, by omega, h3, h4⟩)
theorem accW_first {N m x : Nat} {f : Nat → Int} {c : Int} (hx : x < N) : accW N m f 0 x ≤ c ↔ (1000 ≤ c ∨ f x ≤ c) := by
  unfold accW
  rw [acc_le]
  constructor
  · rintro (h | ⟨q, _, _, h3, h4⟩)
    · exact .inl h
    · obtain rfl : x = q := by simpa using h3
      exact .inr h4
  · rintro (h | h)
    · exact .inl h
    · exact .inr ⟨x, by omega, by omega, by simp, h⟩
theorem accW_next {N m x i : Nat} {f : Nat → Int} {c : Int} (hx : x < N) (hi : 0 < i) : accW N m f i x ≤ c ↔ (1000 ≤ c ∨ mvd N m f x ≤ c) := by
  unfold accW
  rw [acc_le, mvd_le hx]
  constructor
  · rintro (h | ⟨q, h1, h2, _, h4⟩)
    · exact .inl h
    · exact .inr ⟨q, by omega, by omega, by omega, h4⟩
  · rintro (h | ⟨q, h1, h2, h3, h4⟩)
    · exact .inl h
    · exact .inr ⟨q, by omega, by omega, by simp [hi], h4⟩
theorem eq_of_le {a b : Int} (hb : b < 1000) (h : ∀ c, a ≤ c ↔ (1000 ≤ c ∨ b ≤ c)) : a = b := by
  have h1 := (h b).2 (.inr (Int.le_refl _))
  rcases (h a).1 (Int.le_refl _) with h2 | h2 <;> omega
theorem rfq_flt {N m : Nat} {ag : Nat → Nat → Bool} : ∀ (n x : Nat), n ≤ 100 → x < N → rfq N m ag (-1) n x = flt N m ag n x
  | 0, x, _, _ => by simp [rfq, flt]
  | 1, x, _, hx => by
    have e : accW N m (rfq N m ag (-1) 0) 0 x = 0 := eq_of_le (by omega) (fun c => by rw [accW_first hx]; simp only [rfq])
    rw [flt_one]
    show (if ag 0 x = true then accW N m (rfq N m ag (-1) 0) 0 x else if ((0 : Nat) : Int) = -1 then 1000 else accW N m (rfq N m ag (-1) 0) 0 x + 1) = _
    rw [e]
    split
    · rfl
    · rw [if_neg (by omega)]; omega
  | n + 2, x, hn, hx => by
    have hb := mvd_bd (m := m) (f := flt N m ag (n + 1)) hx (fun q hq => flt_bd (m := m) (ag := ag) (n := n + 1) hq)
    have e0 : mvd N m (rfq N m ag (-1) (n + 1)) x = mvd N m (flt N m ag (n + 1)) x := mvd_congr hx (fun q hq => rfq_flt (n + 1) q (by omega) hq)
    have e : accW N m (rfq N m ag (-1) (n + 1)) (n + 1) x = mvd N m (flt N m ag (n + 1)) x := eq_of_le (by omega) (fun c => by rw [accW_next hx (by omega), e0])
    rw [flt_succ2]
    show (if ag (n + 1) x = true then accW N m (rfq N m ag (-1) (n + 1)) (n + 1) x else if ((n + 1 : Nat) : Int) = -1 then 1000 else accW N m (rfq N m ag (-1) (n + 1)) (n + 1) x + 1) = _
    rw [e]
    split
    · omega
    · rw [if_neg (by omega)]
theorem rfq_fl {s : Sv} {g : Wg} (okg : g.Ok) {x : Nat} (hx : x < s.N) : rfq s.N s.m (agr s g) (-1) g.wn x = fl s g x := rfq_flt _ _ (by have := okg.n2; omega) hx
/-- Where the head can be, d wedges later, as the reference says it. -/
def ltN (N m : Nat) (p : Nat → Bool) : Nat → Nat → Bool
  | 0 => p
  | d + 1 => ltr N m (ltN N m p d)
theorem ltN_mvn {N m : Nat} {f : Nat → Int} {c : Int} {p : Nat → Bool} (h : ∀ x, x < N → (p x = true ↔ f x ≤ c)) : ∀ (d x : Nat), x < N → (ltN N m p d x = true ↔ mvn N m f d x ≤ c)
  | 0, x, hx => h x hx
  | d + 1, x, hx => by
    simp only [ltN, mvn]
    rw [ltr_iff hx, mvd_le hx]
    constructor
    · rintro ⟨q, h1, h2, h3, h4⟩; exact ⟨q, h1, h2, h3, (ltN_mvn h d q h1).1 h4⟩
    · rintro ⟨q, h1, h2, h3, h4⟩; exact ⟨q, h1, h2, h3, (ltN_mvn h d q h1).2 h4⟩
def endsB (s : Sv) (g : Wg) (x : Nat) : Bool := decide (rfq s.N s.m (agr s g) (-1) g.wn x ≤ s.wr)
theorem spn_ltN {s : Sv} {g : Wg} (okg : g.Ok) (d : Nat) : spn (ltN s.N s.m (endsB s g) d) s.N = aheadL s g d := by
  refine spn_congr fun x hx => ?_
  have h := ltN_mvn (N := s.N) (m := s.m) (f := fl s g) (c := s.wr) (p := endsB s g) (fun y hy => by unfold endsB; rw [rfq_fl okg hy]; simp) d x hx
  cases e : ltN s.N s.m (endsB s g) d x with
  | true => exact (decide_eq_true (h.1 e)).symm
  | false => exact (decide_eq_false (fun hh => by rw [h.2 hh] at e; cases e)).symm
theorem ahead_none {s : Sv} {g : Wg} (ok : s.Ok) : (aheadL s g 0).length = 0 ↔ ¬ mn s.N (fl s g) ≤ s.wr := by
  constructor
  · intro h hm; have := ahead_pos ok hm; omega
  · intro h
    rw [List.length_eq_zero_iff]
    refine spn_nil.2 fun p hp => decide_eq_false fun hh => h ((mn_le (by omega)).2 ⟨p, hp, hh⟩)
end Go.Proofs.Ytkafjlhmbiaicaa

/- Stage 2: what the reference knows; its Where. -/
set_option linter.unusedSimpArgs false
set_option linter.unusedVariables false
namespace Go.Proofs.Ytkafjlhmbiaicaa
open Go.RowKit Go.Sort Go.BigFrame

def KRet (n : Nat) (p : Nat → Bool) (w : World) (e : Ending) (w' : World) : Prop := ∃ g c : Nat, e = .returned (.tuple #[.slice (some ⟨g, 0, none⟩) n c, .int .i64 0]) ∧ w.heap.size ≤ g ∧ Bls w' g n p ∧ Below w.heap.size w w'
theorem sp_of {l : List (Nat × Nat)} {w : World} {e : Ending} {w' : World} (h : SpRet l w e w') : ∃ A g c, e = .returned (.slice A l.length c) ∧ SpIn w' A g l ∧ Below w.heap.size w w' := by
  obtain ⟨v, rfl, hown, hB⟩ := h
  obtain ⟨A, g, c, rfl, hsp⟩ := SpIn.of_owns hown
  exact ⟨A, g, c, rfl, hsp, hB⟩

set_option maxRecDepth 100000 in
set_option maxHeartbeats 2000000 in
theorem c64_ok (s : Sv) (g : Wg) (w : World) (hz : s.In w) (hg : g.In w) (hm : s.rn ≤ 1000000) (hm2 : g.wn ≤ 1000000) (ok : s.Ok) (okg : g.Ok) (hmn : mn s.N (fl s g) ≤ s.wr) :
    Calls Try.prog 64 #[s.v, g.v, .bool true] w (KRet s.N (endsB s g) w) := by
  have hck := hid (ckE_ok ok okg)
  have okh := hid ok
  have okgh := hid okg
  have hN2 := ok.Nb.2.1
  have hL := hid (spn_ltN (s := s) okg 0)
  have hpos := ahead_pos ok hmn
  obtain ⟨L, hLe⟩ : ∃ L, L = (aheadL s g 0).length := ⟨_, rfl⟩
  rw [← hLe] at hpos
  have hLh := hid hLe
  have hL0 : ¬ L = 0 := by omega
  clear ok okg hmn hLe
  go_enter Try.func64, Try.ntmps64
  go_wp2_with (first | (go_at_call 37; refine (c37 s g _ (hz.below (by (repeat' (first | (with_reducible exact Below.refl _ _) | (with_reducible assumption) | (with_reducible refine Below.alloc ?_ ?_ _) | (with_reducible refine Below.drew ?_) | (with_reducible refine below_drewN ?_ _) | (with_reducible refine Below.setCell ?_ ?_ _) | (with_reducible refine Below.trans ?_ (Below.mono (by with_reducible assumption) ?_)) | go_size))) (Nat.le_refl _)) (hg.below (by (repeat' (first | (with_reducible exact Below.refl _ _) | (with_reducible assumption) | (with_reducible refine Below.alloc ?_ ?_ _) | (with_reducible refine Below.drew ?_) | (with_reducible refine below_drewN ?_ _) | (with_reducible refine Below.setCell ?_ ?_ _) | (with_reducible refine Below.trans ?_ (Below.mono (by with_reducible assumption) ?_)) | go_size))) (Nat.le_refl _)) hm hm2).mono ?_; rw [hck.out]; rintro e w1 ⟨rfl, hB1⟩; have hz1 : w.heap.size + 1 ≤ w1.heap.size := (by have := hB1.size; simp at this; omega); have hBx : Below w.heap.size w w1 := Below.trans (by (repeat' (first | (with_reducible exact Below.refl _ _) | (with_reducible assumption) | (with_reducible refine Below.alloc ?_ ?_ _) | (with_reducible refine Below.drew ?_) | (with_reducible refine below_drewN ?_ _) | (with_reducible refine Below.setCell ?_ ?_ _) | (with_reducible refine Below.trans ?_ (Below.mono (by with_reducible assumption) ?_)) | go_size))) (hB1.mono (by simp)); obtain ⟨k0, k1, k2, k3, k4, k5⟩ := ((Svb.new s w).below hB1 (by simp)).all) | (go_at_call 78; refine (c78 s g _ (hz.below hBx (Nat.le_refl _)) (hg.below hBx (Nat.le_refl _)) okh.out okgh.out).mono ?_; rintro e w2 ⟨b, c, rfl, hb, hBl, hB2⟩; have hBlh := hid hBl; clear hBl; have hBy : Below w.heap.size w w2 := hBx.trans (hB2.mono hBx.size)) | (go_at_call 65; refine (c65 b s.N c (endsB s g) _ hBlh.out hN2).mono ?_; intro e w3 hr; obtain ⟨A', g', c', rfl, hsp, hB3⟩ := sp_of hr; rw [show spn (endsB s g) s.N = aheadL s g 0 from hL.out, ← hLh.out]))
  go_ret2
  exact ⟨b, c, rfl, by omega, hBlh.out.below hB3 hBlh.out.lt, hBy.trans (hB3.mono hBy.size)⟩
set_option maxRecDepth 100000 in
set_option maxHeartbeats 2000000 in
theorem c64_none (s : Sv) (g : Wg) (w : World) (hz : s.In w) (hg : g.In w) (hm : s.rn ≤ 1000000) (hm2 : g.wn ≤ 1000000) (ok : s.Ok) (okg : g.Ok) (hmn : ¬ mn s.N (fl s g) ≤ s.wr) :
    Calls Try.prog 64 #[s.v, g.v, .bool true] w fun e w' => e = .returned (.tuple #[.slice none 0 0, .int .i64 3]) ∧ Below w.heap.size w w' := by
  have hck := hid (ckE_ok ok okg)
  have okh := hid ok
  have okgh := hid okg
  have hN2 := ok.Nb.2.1
  have hL := hid (spn_ltN (s := s) okg 0)
  have hL0 := hid ((ahead_none (s := s) (g := g) ok).2 hmn)
  clear ok okg hmn
  go_enter Try.func64, Try.ntmps64
  go_wp2_with (first | (go_at_call 37; refine (c37 s g _ (hz.below (by (repeat' (first | (with_reducible exact Below.refl _ _) | (with_reducible assumption) | (with_reducible refine Below.alloc ?_ ?_ _) | (with_reducible refine Below.drew ?_) | (with_reducible refine below_drewN ?_ _) | (with_reducible refine Below.setCell ?_ ?_ _) | (with_reducible refine Below.trans ?_ (Below.mono (by with_reducible assumption) ?_)) | go_size))) (Nat.le_refl _)) (hg.below (by (repeat' (first | (with_reducible exact Below.refl _ _) | (with_reducible assumption) | (with_reducible refine Below.alloc ?_ ?_ _) | (with_reducible refine Below.drew ?_) | (with_reducible refine below_drewN ?_ _) | (with_reducible refine Below.setCell ?_ ?_ _) | (with_reducible refine Below.trans ?_ (Below.mono (by with_reducible assumption) ?_)) | go_size))) (Nat.le_refl _)) hm hm2).mono ?_; rw [hck.out]; rintro e w1 ⟨rfl, hB1⟩; have hz1 : w.heap.size + 1 ≤ w1.heap.size := (by have := hB1.size; simp at this; omega); have hBx : Below w.heap.size w w1 := Below.trans (by (repeat' (first | (with_reducible exact Below.refl _ _) | (with_reducible assumption) | (with_reducible refine Below.alloc ?_ ?_ _) | (with_reducible refine Below.drew ?_) | (with_reducible refine below_drewN ?_ _) | (with_reducible refine Below.setCell ?_ ?_ _) | (with_reducible refine Below.trans ?_ (Below.mono (by with_reducible assumption) ?_)) | go_size))) (hB1.mono (by simp)); obtain ⟨k0, k1, k2, k3, k4, k5⟩ := ((Svb.new s w).below hB1 (by simp)).all) | (go_at_call 78; refine (c78 s g _ (hz.below hBx (Nat.le_refl _)) (hg.below hBx (Nat.le_refl _)) okh.out okgh.out).mono ?_; rintro e w2 ⟨b, c, rfl, hb, hBl, hB2⟩; have hBlh := hid hBl; clear hBl; have hBy : Below w.heap.size w w2 := hBx.trans (hB2.mono hBx.size)) | (go_at_call 65; refine (c65 b s.N c (endsB s g) _ hBlh.out hN2).mono ?_; intro e w3 hr; obtain ⟨A', g', c', rfl, hsp, hB3⟩ := sp_of hr; rw [show spn (endsB s g) s.N = aheadL s g 0 from hL.out, hL0.out]))
  go_ret2
  exact ⟨rfl, hBy.trans (hB3.mono hBy.size)⟩
set_option maxRecDepth 100000 in
set_option maxHeartbeats 2000000 in
theorem c64_arg (s : Sv) (g : Wg) (w : World) (hz : s.In w) (hg : g.In w) (hm : s.rn ≤ 1000000) (hm2 : g.wn ≤ 1000000) (hck0 : ckE s g = 0) :
    Calls Try.prog 64 #[s.v, g.v, .bool false] w fun e w' => e = .returned (.tuple #[.slice none 0 0, .int .i64 1]) ∧ Below w.heap.size w w' := by
  have hck := hid hck0
  clear hck0
  go_enter Try.func64, Try.ntmps64
  go_wp2_with (go_at_call 37; refine (c37 s g _ (hz.below (by (repeat' (first | (with_reducible exact Below.refl _ _) | (with_reducible assumption) | (with_reducible refine Below.alloc ?_ ?_ _) | (with_reducible refine Below.drew ?_) | (with_reducible refine below_drewN ?_ _) | (with_reducible refine Below.setCell ?_ ?_ _) | (with_reducible refine Below.trans ?_ (Below.mono (by with_reducible assumption) ?_)) | go_size))) (Nat.le_refl _)) (hg.below (by (repeat' (first | (with_reducible exact Below.refl _ _) | (with_reducible assumption) | (with_reducible refine Below.alloc ?_ ?_ _) | (with_reducible refine Below.drew ?_) | (with_reducible refine below_drewN ?_ _) | (with_reducible refine Below.setCell ?_ ?_ _) | (with_reducible refine Below.trans ?_ (Below.mono (by with_reducible assumption) ?_)) | go_size))) (Nat.le_refl _)) hm hm2).mono ?_; rw [hck.out]; rintro e w1 ⟨rfl, hB1⟩; have hz1 : w.heap.size + 1 ≤ w1.heap.size := (by have := hB1.size; simp at this; omega); have hBx : Below w.heap.size w w1 := Below.trans (by (repeat' (first | (with_reducible exact Below.refl _ _) | (with_reducible assumption) | (with_reducible refine Below.alloc ?_ ?_ _) | (with_reducible refine Below.drew ?_) | (with_reducible refine below_drewN ?_ _) | (with_reducible refine Below.setCell ?_ ?_ _) | (with_reducible refine Below.trans ?_ (Below.mono (by with_reducible assumption) ?_)) | go_size))) (hB1.mono (by simp)); obtain ⟨k0, k1, k2, k3, k4, k5⟩ := ((Svb.new s w).below hB1 (by simp)).all)
  go_ret2
  exact ⟨rfl, hBx⟩
set_option maxRecDepth 100000 in
set_option maxHeartbeats 2000000 in
theorem c64_ck (s : Sv) (g : Wg) (told : Bool) (w : World) (hz : s.In w) (hg : g.In w) (hm : s.rn ≤ 1000000) (hm2 : g.wn ≤ 1000000) (h : ckE s g ≠ 0) :
    Calls Try.prog 64 #[s.v, g.v, .bool told] w fun e w' => e = .returned (.tuple #[.slice none 0 0, .int .i64 (ckE s g)]) ∧ Below w.heap.size w w' := by
  obtain ⟨er, her⟩ : ∃ er, er = ckE s g := ⟨_, rfl⟩
  have hck := hid her.symm
  rw [← her] at h ⊢
  have hne : (er == 0) = false := by simpa using h
  clear her
  go_enter Try.func64, Try.ntmps64
  go_wp2_with (go_at_call 37; refine (c37 s g _ (hz.below (by (repeat' (first | (with_reducible exact Below.refl _ _) | (with_reducible assumption) | (with_reducible refine Below.alloc ?_ ?_ _) | (with_reducible refine Below.drew ?_) | (with_reducible refine below_drewN ?_ _) | (with_reducible refine Below.setCell ?_ ?_ _) | (with_reducible refine Below.trans ?_ (Below.mono (by with_reducible assumption) ?_)) | go_size))) (Nat.le_refl _)) (hg.below (by (repeat' (first | (with_reducible exact Below.refl _ _) | (with_reducible assumption) | (with_reducible refine Below.alloc ?_ ?_ _) | (with_reducible refine Below.drew ?_) | (with_reducible refine below_drewN ?_ _) | (with_reducible refine Below.setCell ?_ ?_ _) | (with_reducible refine Below.trans ?_ (Below.mono (by with_reducible assumption) ?_)) | go_size))) (Nat.le_refl _)) hm hm2).mono ?_; rw [hck.out]; rintro e w1 ⟨rfl, hB1⟩; have hz1 : w.heap.size + 1 ≤ w1.heap.size := (by have := hB1.size; simp at this; omega); have hBx : Below w.heap.size w w1 := Below.trans (by (repeat' (first | (with_reducible exact Below.refl _ _) | (with_reducible assumption) | (with_reducible refine Below.alloc ?_ ?_ _) | (with_reducible refine Below.drew ?_) | (with_reducible refine below_drewN ?_ _) | (with_reducible refine Below.setCell ?_ ?_ _) | (with_reducible refine Below.trans ?_ (Below.mono (by with_reducible assumption) ?_)) | go_size))) (hB1.mono (by simp)); obtain ⟨k0, k1, k2, k3, k4, k5⟩ := ((Svb.new s w).below hB1 (by simp)).all)
  go_ret2
  exact ⟨rfl, hBx⟩
theorem c64_err (s : Sv) (g : Wg) (told : Bool) (w : World) (hz : s.In w) (hg : g.In w) (hm : s.rn ≤ 1000000) (hm2 : g.wn ≤ 1000000) (h : ahE s g (told = true) ≠ 0) :
    Calls Try.prog 64 #[s.v, g.v, .bool told] w fun e w' => e = .returned (.tuple #[.slice none 0 0, .int .i64 (ahE s g (told = true))]) ∧ Below w.heap.size w w' := by
  by_cases h1 : ckE s g = 0
  · obtain ⟨ok, okg⟩ := ckE_inv h1
    cases told with
    | false => rw [ahE_arg h1 (by simp)]; exact c64_arg s g w hz hg hm hm2 h1
    | true =>
      have h3 : ¬ mn s.N (fl s g) ≤ s.wr := fun h3 => h (ahE_ok h1 rfl h3)
      rw [ahE_none h1 rfl h3]; exact c64_none s g w hz hg hm hm2 ok okg h3
  · rw [ahE_ck h1]; exact c64_ck s g told w hz hg hm hm2 h1
end Go.Proofs.Ytkafjlhmbiaicaa

/- Stage 2: the reference's Where, Ahead and Fewest. -/
set_option linter.unusedSimpArgs false
set_option linter.unusedVariables false
namespace Go.Proofs.Ytkafjlhmbiaicaa
open Go.RowKit Go.Sort Go.BigFrame

theorem SpRet2.of {l : List (Nat × Nat)} {er : Int} {w w' : World} {v : Value} (h1 : w'.ownsRow w.heap.size 56 2 v l.length (enc l)) (h2 : Below w.heap.size w w') : SpRet2 l er w (.returned (.tuple #[v, .int .i64 er])) w' := ⟨v, rfl, h1, h2⟩
set_option maxRecDepth 100000 in
set_option maxHeartbeats 2000000 in
theorem c38 (s : Sv) (g : Wg) (w : World) (hz : s.In w) (hg : g.In w) (hm : s.rn ≤ 1000000) (hm2 : g.wn ≤ 1000000) :
    Calls Try.prog 38 #[s.v, g.v] w (SpRet2 (ahL s g True 0) (ahE s g True) w) := by
  have hB0 : Below w.heap.size w (w.alloc (.cells #[.int .i64 s.tr, .int .i64 s.st, .int .i64 s.mv, .int .i64 s.no, .int .i64 s.wr, .slice s.ra s.rn s.rc] 30)) := (Below.refl _ _).alloc (Nat.le_refl _) _
  by_cases h : ahE s g True = 0
  · obtain ⟨ok, okg, _, hmn⟩ := ahE_inv h
    rw [ahL_ok h, h]
    have okh := hid ok
    have okgh := hid okg
    have hmnh := hid hmn
    have hN2 := ok.Nb.2.1
    have hL := hid (spn_ltN (s := s) okg 0)
    clear ok okg hmn h
    go_enter Try.func38, Try.ntmps38
    go_wp2_with (first | (go_at_call 64; refine (c64_ok s g _ (hz.below hB0 (Nat.le_refl _)) (hg.below hB0 (Nat.le_refl _)) hm hm2 okh.out okgh.out hmnh.out).mono ?_; rintro e w1 ⟨b, c, rfl, hb, hBl, hB1⟩; have hBlh := hid hBl; clear hBl; have hBx : Below w.heap.size w w1 := hB0.trans (hB1.mono (by simp))) | (go_at_call 65; refine (c65 b s.N c (endsB s g) _ hBlh.out hN2).mono ?_; rw [show spn (endsB s g) s.N = aheadL s g 0 from hL.out]; rintro e w3 ⟨v3, rfl, hown3, hB3⟩; have hown3h := hid hown3; clear hown3))
    go_ret2
    exact SpRet2.of (owns_base hown3h.out hBx.size) (hBx.trans (hB3.mono hBx.size))
  · rw [ahL_no h]
    have hh : Hid (ahE s g (true = true) ≠ 0) := hid (by simpa using h)
    obtain ⟨er, her⟩ : ∃ er, er = ahE s g True := ⟨_, rfl⟩
    have herh : Hid (ahE s g (true = true) = er) := hid (by rw [her]; simp)
    rw [← her] at h ⊢
    have hne : (er == 0) = false := by simpa using h
    clear her
    go_enter Try.func38, Try.ntmps38
    go_wp2_with (go_at_call 64; refine (c64_err s g true _ (hz.below hB0 (Nat.le_refl _)) (hg.below hB0 (Nat.le_refl _)) hm hm2 hh.out).mono ?_; rw [herh.out]; rintro e w1 ⟨rfl, hB1⟩)
    go_ret2
    exact SpRet2.err (hB0.trans (hB1.mono (by simp)))

theorem c61b (n l h : Int) (w : World) : Calls Try.prog 61 #[.int .i64 n, .int .i64 l, .int .i64 h] w fun e w' => e = .returned (.bool (decide (l ≤ n ∧ n ≤ h))) ∧ w = w' := by
  by_cases p : l ≤ n ∧ n ≤ h
  · rw [decide_eq_true p]; exact c61y w p
  · rw [decide_eq_false p]; exact c61n w p
set_option maxRecDepth 100000 in
set_option maxHeartbeats 4000000 in
theorem c39_err (s : Sv) (g : Wg) (x : Int) (w : World) (hz : s.In w) (hg : g.In w) (hm : s.rn ≤ 1000000) (hm2 : g.wn ≤ 1000000) (h : ahE s g (0 ≤ x ∧ x ≤ 24) ≠ 0) :
    Calls Try.prog 39 #[s.v, g.v, .int .i64 x] w (SpRet2 [] (ahE s g (0 ≤ x ∧ x ≤ 24)) w) := by
  obtain ⟨W0, hW0⟩ : ∃ W0 : World, W0 = w.alloc (.cells #[.int .i64 s.tr, .int .i64 s.st, .int .i64 s.mv, .int .i64 s.no, .int .i64 s.wr, .slice s.ra s.rn s.rc] 30) := ⟨_, rfl⟩
  have hB0 : Below w.heap.size w W0 := by rw [hW0]; exact (Below.refl _ _).alloc (Nat.le_refl _) _
  have hsv : Svb s W0 w.heap.size := by rw [hW0]; exact Svb.new s w
  have hs0 : W0.heap.size = w.heap.size + 1 := by rw [hW0]; simp
  obtain ⟨told, htold⟩ : ∃ told : Bool, told = decide (0 ≤ x ∧ x ≤ 24) := ⟨_, rfl⟩
  have htoldh := hid htold
  have hiff : (told = true) = (0 ≤ x ∧ x ≤ 24) := by rw [htold]; simp
  have hh : Hid (ahE s g (told = true) ≠ 0) := hid (by rw [hiff]; exact h)
  obtain ⟨er, her⟩ : ∃ er, er = ahE s g (0 ≤ x ∧ x ≤ 24) := ⟨_, rfl⟩
  have herh : Hid (ahE s g (told = true) = er) := hid (by rw [her, hiff])
  rw [← her] at h ⊢
  have hne : (er == 0) = false := by simpa using h
  clear her htold hiff
  go_enter Try.func39, Try.ntmps39
  go_wp2_with fail
  rw [← hW0]
  clear hW0
  go_region_held3 (fun w' => w'.cell? ⟨w.heap.size, 0, none⟩ = some (.int .i64 s.tr) ∧ w'.cell? ⟨w.heap.size, 1, none⟩ = some (.int .i64 s.st) ∧ w'.cell? ⟨w.heap.size, 2, none⟩ = some (.int .i64 s.mv) ∧ w'.cell? ⟨w.heap.size, 3, none⟩ = some (.int .i64 s.no) ∧ w'.cell? ⟨w.heap.size, 4, none⟩ = some (.int .i64 s.wr) ∧ w'.cell? ⟨w.heap.size, 5, none⟩ = some (.slice s.ra s.rn s.rc)) (first | exact hsv.all | exact hk4.all) (first | (go_at_call 61; refine (c61b _ _ _ _).mono ?_; rw [← htoldh.out]; rintro e w3 ⟨rfl, rfl⟩) | (go_at_call 64; refine (c64_err s g told _ (hz.below (by first | exact hB0 | exact hB0.drew | (repeat' (first | (with_reducible exact Below.refl _ _) | (with_reducible assumption) | (with_reducible refine Below.alloc ?_ ?_ _) | (with_reducible refine Below.drew ?_) | (with_reducible refine below_drewN ?_ _) | (with_reducible refine Below.setCell ?_ ?_ _) | (with_reducible refine Below.trans ?_ (Below.mono (by with_reducible assumption) ?_)) | go_size))) (Nat.le_refl _)) (hg.below (by first | exact hB0 | exact hB0.drew | (repeat' (first | (with_reducible exact Below.refl _ _) | (with_reducible assumption) | (with_reducible refine Below.alloc ?_ ?_ _) | (with_reducible refine Below.drew ?_) | (with_reducible refine below_drewN ?_ _) | (with_reducible refine Below.setCell ?_ ?_ _) | (with_reducible refine Below.trans ?_ (Below.mono (by with_reducible assumption) ?_)) | go_size))) (Nat.le_refl _)) hm hm2 hh.out).mono ?_; rw [herh.out]; rintro e w4 ⟨rfl, hB4⟩; have hk4 : Svb s w4 w.heap.size := Svb.below (w := W0.drew) hsv hB4 (show w.heap.size < W0.heap.size by omega)))
  go_wp2
  go_ret2
  exact SpRet2.err (hB0.trans (Below.mono (Below.trans (Below.refl W0.heap.size W0).drew hB4) (by omega)))
end Go.Proofs.Ytkafjlhmbiaicaa

/- Stage 2: the reference's Ahead. -/
set_option linter.unusedSimpArgs false
set_option linter.unusedVariables false
namespace Go.Proofs.Ytkafjlhmbiaicaa
open Go.RowKit Go.Sort Go.BigFrame

set_option maxRecDepth 100000 in
set_option maxHeartbeats 4000000 in
theorem c39_ok (s : Sv) (g : Wg) (d : Nat) (w : World) (hz : s.In w) (hg : g.In w) (hm : s.rn ≤ 1000000) (hm2 : g.wn ≤ 1000000) (ok : s.Ok) (okg : g.Ok) (hd : d ≤ 24) (hmn : mn s.N (fl s g) ≤ s.wr) :
    Calls Try.prog 39 #[s.v, g.v, .int .i64 d] w (SpRet2 (aheadL s g d) 0 w) := by
  obtain ⟨W0, hW0⟩ : ∃ W0 : World, W0 = w.alloc (.cells #[.int .i64 s.tr, .int .i64 s.st, .int .i64 s.mv, .int .i64 s.no, .int .i64 s.wr, .slice s.ra s.rn s.rc] 30) := ⟨_, rfl⟩
  have hB0 : Below w.heap.size w W0 := by rw [hW0]; exact (Below.refl _ _).alloc (Nat.le_refl _) _
  have hsv : Svb s W0 w.heap.size := by rw [hW0]; exact Svb.new s w
  have hs0 : W0.heap.size = w.heap.size + 1 := by rw [hW0]; simp
  have hdec : Hid (decide (0 ≤ (d : Int) ∧ (d : Int) ≤ 24) = true) := hid (by simp; omega)
  have okh := hid ok
  have okgh := hid okg
  have hmnh := hid hmn
  have hN2 := ok.Nb.2.1
  have hL := hid (spn_ltN (s := s) okg d)
  clear ok okg hmn
  go_enter Try.func39, Try.ntmps39
  go_wp2_with fail
  rw [← hW0]
  clear hW0
  go_region_held3 (fun w' => w'.cell? ⟨w.heap.size, 0, none⟩ = some (.int .i64 s.tr) ∧ w'.cell? ⟨w.heap.size, 1, none⟩ = some (.int .i64 s.st) ∧ w'.cell? ⟨w.heap.size, 2, none⟩ = some (.int .i64 s.mv) ∧ w'.cell? ⟨w.heap.size, 3, none⟩ = some (.int .i64 s.no) ∧ w'.cell? ⟨w.heap.size, 4, none⟩ = some (.int .i64 s.wr) ∧ w'.cell? ⟨w.heap.size, 5, none⟩ = some (.slice s.ra s.rn s.rc)) (first | exact hsv.all | exact hk4.all) (first | (go_at_call 61; refine (c61b _ _ _ _).mono ?_; rw [hdec.out]; rintro e w3 ⟨rfl, rfl⟩) | (go_at_call 64; refine (c64_ok s g _ (hz.below (by first | exact hB0 | exact hB0.drew | (repeat' (first | (with_reducible exact Below.refl _ _) | (with_reducible assumption) | (with_reducible refine Below.alloc ?_ ?_ _) | (with_reducible refine Below.drew ?_) | (with_reducible refine below_drewN ?_ _) | (with_reducible refine Below.setCell ?_ ?_ _) | (with_reducible refine Below.trans ?_ (Below.mono (by with_reducible assumption) ?_)) | go_size))) (Nat.le_refl _)) (hg.below (by first | exact hB0 | exact hB0.drew | (repeat' (first | (with_reducible exact Below.refl _ _) | (with_reducible assumption) | (with_reducible refine Below.alloc ?_ ?_ _) | (with_reducible refine Below.drew ?_) | (with_reducible refine below_drewN ?_ _) | (with_reducible refine Below.setCell ?_ ?_ _) | (with_reducible refine Below.trans ?_ (Below.mono (by with_reducible assumption) ?_)) | go_size))) (Nat.le_refl _)) hm hm2 okh.out okgh.out hmnh.out).mono ?_; rintro e w4 ⟨b, c, rfl, hb, hBl, hB4⟩; have hBlh := hid hBl; clear hBl; have hk4 : Svb s w4 w.heap.size := Svb.below (w := W0.drew) hsv hB4 (show w.heap.size < W0.heap.size by omega)))
  have hB5 : Below w.heap.size w w4 := hB0.trans (Below.mono (Below.trans (Below.refl W0.heap.size W0).drew hB4) (by omega))
  have hw4 : w.heap.size < w4.heap.size := by have : W0.heap.size ≤ w4.heap.size := hB4.size; omega
  clear hB4 hsv
  go_wp2_with fail
  go_loopw [8, 10] (fun kv iv wr => ∃ i : Nat, i ≤ d ∧ iv = .int .i64 i ∧ (∃ b c : Nat, kv = .slice (some ⟨b, 0, none⟩) s.N c ∧ Hid (Bls wr b s.N (ltN s.N s.m (endsB s g) i))) ∧ Svb s wr w.heap.size ∧ w.heap.size < wr.heap.size ∧ Below w.heap.size w wr) (fun _ iv _ => d - (intOf iv).toNat)
  case atStart => exact ⟨0, Nat.zero_le _, rfl, ⟨b, c, rfl, hBlh⟩, hk4, hw4, hB5⟩
  case round =>
    obtain ⟨i, hi, rfl, ⟨b', c', rfl, hbl⟩, hsw, hwr, hB⟩ := hrel
    by_cases hid' : i < d
    · obtain ⟨_, _, k2, _, _, _⟩ := hsw.all
      go_wp2_with (go_at_call 66; refine (c66 s b' c' _ _ okh.out hbl.out).mono ?_; rintro e w6 ⟨b6, c6, rfl, hb6, hBl6, hB6⟩; have hbl6 := hid hBl6; clear hBl6)
      go_roundw
      case rel => exact ⟨i + 1, by omega, by go_num, ⟨b6, c6, rfl, hbl6⟩, hsw.below hB6 hwr, Nat.lt_of_lt_of_le hwr hB6.size, hB.trans (hB6.mono (by omega))⟩
      case measure => simp [intOf]; omega
    · obtain rfl : i = d := by omega
      go_wp2_with (go_at_call 65; refine (c65 b' s.N c' (ltN s.N s.m (endsB s g) i) _ hbl.out hN2).mono ?_; rw [hL.out]; rintro e w3 ⟨v3, rfl, hown3, hB3⟩; have hown3h := hid hown3; clear hown3)
      go_returns
      exact SpRet2.of (owns_base hown3h.out hB.size) (hB.trans (hB3.mono hB.size))
theorem c39 (s : Sv) (g : Wg) (x : Int) (w : World) (hz : s.In w) (hg : g.In w) (hm : s.rn ≤ 1000000) (hm2 : g.wn ≤ 1000000) :
    Calls Try.prog 39 #[s.v, g.v, .int .i64 x] w (SpRet2 (ahL s g (0 ≤ x ∧ x ≤ 24) x.toNat) (ahE s g (0 ≤ x ∧ x ≤ 24)) w) := by
  by_cases h : ahE s g (0 ≤ x ∧ x ≤ 24) = 0
  · obtain ⟨ok, okg, hx, hmn⟩ := ahE_inv h
    rw [ahL_ok h, h]
    obtain ⟨d, rfl⟩ := Int.eq_ofNat_of_zero_le hx.1
    exact c39_ok s g d w hz hg hm hm2 ok okg (by omega) hmn
  · rw [ahL_no h]; exact c39_err s g x w hz hg hm hm2 h
end Go.Proofs.Ytkafjlhmbiaicaa

/- Stage 2, plain mathematics: one wedge more; a wider servo. -/
set_option linter.unusedSimpArgs false
set_option linter.unusedVariables false
namespace Go.Proofs.Ytkafjlhmbiaicaa

theorem Fb_congr {N m : Nat} {ag ag' : Nat → Nat → Bool} : ∀ {k : Nat}, (∀ i, i < k → ag i = ag' i) → Fb N m ag k = Fb N m ag' k
  | 0, _ => rfl
  | k + 1, h => by
    simp only [Fb]
    rw [Fb_congr (k := k) (fun i hi => h i (by omega)), h k (by omega)]
theorem agr_congr {s : Sv} {g g' : Wg} {i : Nat} (h1 : g'.wc i = g.wc i) (h2 : g'.wu i = g.wu i) : agr s g' i = agr s g i := by
  funext p
  unfold agr
  rw [h1, h2]
theorem fl_more {s : Sv} {g g' : Wg} (hn : g'.wn = g.wn + 1) (hc : ∀ k, k < g.wn → g'.wc k = g.wc k ∧ g'.wu k = g.wu k) (hl : g'.wc g.wn = -1) {p : Nat} (hp : p < s.N) : fl s g' p = mvd s.N s.m (fl s g) p := by
  have e0 : ∀ q, agr s g' g.wn q = true := agr_nothing hl
  have ea : ∀ i, i < g.wn → agr s g' i = agr s g i := fun i hi => agr_congr (hc i hi).1 (hc i hi).2
  have e1 : fl s g' p = Fb s.N s.m (agr s g) g.wn p := by
    rw [fl_pos hn, jdg_yes (e0 p), Fb_congr ea]
  rw [e1]
  cases hw : g.wn with
  | zero =>
    rw [fl_zero hw]
    have := mvd_bd (m := s.m) (f := fun _ => 0) (lo := 0) (hi := 0) hp (fun _ _ => ⟨Int.le_refl _, Int.le_refl _⟩)
    simp only [Fb]
    omega
  | succ j => rw [fl_pos hw]; rfl
theorem mn_mvd {N m : Nat} {f : Nat → Int} {c : Int} (hN : 0 < N) : mn N (mvd N m f) ≤ c ↔ mn N f ≤ c := by
  rw [mn_le hN, mn_le hN]
  constructor
  · rintro ⟨p, hp, h⟩
    obtain ⟨q, h1, _, _, h4⟩ := (mvd_le hp).1 h
    exact ⟨q, h1, h4⟩
  · rintro ⟨p, hp, h⟩
    exact ⟨p, hp, (mvd_le hp).2 ⟨p, hp, by omega, by omega, h⟩⟩
theorem mn_congr {N : Nat} {f g : Nat → Int} (hN : 0 < N) (h : ∀ p, p < N → f p = g p) : mn N f = mn N g := wmin_congr fun q _ h2 => h q (by omega)
theorem ahead_more {s : Sv} {g g' : Wg} (hn : g'.wn = g.wn + 1) (hc : ∀ k, k < g.wn → g'.wc k = g.wc k ∧ g'.wu k = g.wu k) (hl : g'.wc g.wn = -1) : aheadL s g' 0 = aheadL s g 1 :=
  spn_congr fun p hp => by
    show decide (fl s g' p ≤ s.wr) = decide (mvd s.N s.m (fl s g) p ≤ s.wr)
    rw [fl_more hn hc hl hp]
theorem mn_more {s : Sv} {g g' : Wg} (hN : 0 < s.N) (hn : g'.wn = g.wn + 1) (hc : ∀ k, k < g.wn → g'.wc k = g.wc k ∧ g'.wu k = g.wu k) (hl : g'.wc g.wn = -1) : mn s.N (fl s g') ≤ s.wr ↔ mn s.N (fl s g) ≤ s.wr := by
  rw [mn_congr hN (fun p hp => fl_more hn hc hl hp), mn_mvd hN]
theorem cst_mono {ag ag' : Nat → Nat → Bool} {p : Nat → Nat} : ∀ {n : Nat}, (∀ i, i < n → ag i (p i) = true → ag' i (p i) = true) → cst ag' p n ≤ cst ag p n
  | 0, _ => Int.le_refl _
  | n + 1, h => by
    have ih := cst_mono (n := n) (fun i hi => h i (by omega))
    have h1 := h n (by omega)
    simp only [cst]
    cases e : ag n (p n) with
    | true => rw [h1 e]; omega
    | false => simp only [Bool.false_eq_true, if_false]; split <;> omega
/-- A servo and wedges of which less is known. -/
structure Wider (s s' : Sv) (g g' : Wg) : Prop where
  tr : s'.tr = s.tr
  st : s'.st = s.st
  rn : s'.rn = s.rn
  rf : s'.rf = s.rf
  mv : s.mv ≤ s'.mv
  no : s.no ≤ s'.no
  wr : s.wr ≤ s'.wr
  wn : g'.wn = g.wn
  wc : ∀ k, k < g.wn → (g'.wc k = g.wc k ∧ g'.wu k = g.wu k) ∨ g'.wc k = -1
theorem Wider.agr {s s' : Sv} {g g' : Wg} (h : Wider s s' g g') {i p : Nat} (hi : i < g.wn) (ha : agr s g i p = true) : Go.Proofs.Ytkafjlhmbiaicaa.agr s' g' i p = true := by
  rcases h.wc i hi with ⟨h1, h2⟩ | h1
  · rw [agr_congr h1 h2]
    rcases agr_ref.1 ha with h3 | ⟨h3, h4, h5⟩
    · exact agr_nothing h3 p
    · have e : ∀ t, s'.at_ t i = s.at_ t i := fun t => by unfold Sv.at_; rw [h.st, h.rn, h.rf]
      refine agr_ref.2 (.inr ⟨by rw [h.tr]; exact h3, by rw [e, h.st]; exact h4, ?_⟩)
      rw [e]
      have := h.no
      omega
  · exact agr_nothing h1 p
theorem Wider.N {s s' : Sv} {g g' : Wg} (h : Wider s s' g g') : s'.N = s.N := by unfold Sv.N; rw [h.tr, h.st]
theorem Wider.fl {s s' : Sv} {g g' : Wg} (h : Wider s s' g g') {x : Nat} (hx : x < s.N) {c : Int} (hf : fl s g x ≤ c) : Go.Proofs.Ytkafjlhmbiaicaa.fl s' g' x ≤ c := by
  cases hw : g.wn with
  | zero => rw [fl_zero (by rw [h.wn, hw])]; rw [fl_zero hw] at hf; exact hf
  | succ n =>
    unfold Go.Proofs.Ytkafjlhmbiaicaa.fl at hf ⊢
    rw [hw] at hf
    rw [h.wn, hw, h.N]
    obtain ⟨p, h1, h2, h3⟩ := (flt_path n x c hx).1 hf
    refine (flt_path n x c hx).2 ⟨p, fun i hi => ⟨(h1 i hi).1, fun h0 => ?_⟩, h2, ?_⟩
    · have h4 := (h1 i hi).2 h0
      have h5 : s.m ≤ s'.m := by have := h.mv; unfold Sv.m; omega
      omega
    · exact Int.le_trans (cst_mono fun i hi ha => h.agr (by omega) ha) h3
theorem inSp_iff {b : Nat → Bool} {n x : Nat} (hx : x < n) : inSp (spn b n) x ↔ b x = true := by
  rw [(spn_ok b n).on x hx]
  constructor
  · rintro ⟨k, h1, h2, h3⟩
    refine ⟨k, _, List.getElem?_eq_getElem h1, ?_⟩
    simp only [lo, hi, List.getD_eq_getElem?_getD, List.getElem?_eq_getElem h1, Option.getD_some] at h2 h3
    omega
  · rintro ⟨k, y, h1, h2, h3⟩
    obtain ⟨h4, h5⟩ := List.getElem?_eq_some_iff.1 h1
    refine ⟨k, h4, ?_⟩
    simp only [lo, hi, List.getD_eq_getElem?_getD, h1, Option.getD_some]
    omega
theorem Wider.sub {s s' : Sv} {g g' : Wg} (h : Wider s s' g g') {x : Nat} (hx : x < s.N) (hi : inSp (aheadL s g 0) x) : inSp (aheadL s' g' 0) x := by
  have h1 : Go.Proofs.Ytkafjlhmbiaicaa.fl s g x ≤ s.wr := of_decide_eq_true ((inSp_iff hx).1 hi)
  have h2 := h.fl hx h1
  refine (inSp_iff (by rw [h.N]; exact hx)).2 (decide_eq_true ?_)
  show Go.Proofs.Ytkafjlhmbiaicaa.fl s' g' x ≤ s'.wr
  have := h.wr
  omega
theorem Wider.mn {s s' : Sv} {g g' : Wg} (h : Wider s s' g g') (hN : 0 < s.N) (hm : mn s.N (Go.Proofs.Ytkafjlhmbiaicaa.fl s g) ≤ s.wr) : Go.Proofs.Ytkafjlhmbiaicaa.mn s'.N (Go.Proofs.Ytkafjlhmbiaicaa.fl s' g') ≤ s'.wr := by
  obtain ⟨p, hp, hf⟩ := (mn_le hN).1 hm
  rw [h.N]
  refine (mn_le hN).2 ⟨p, hp, ?_⟩
  have h1 := h.fl hp hf
  have := h.wr
  omega
end Go.Proofs.Ytkafjlhmbiaicaa
