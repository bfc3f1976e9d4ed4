/- Texts put together: Se, M4, Rg. -/
import Derived.Test.YtkafjlhmbiaicaaG12
import Derived.Test.YtkafjlhmbiaicaaG10
/- Stage 2: the reference's later. -/
set_option linter.unusedSimpArgs false
set_option linter.unusedVariables false
namespace Go.Proofs.Ytkafjlhmbiaicaa
open Go.RowKit Go.Sort Go.BigFrame

/-- Whether p holds somewhere. -/
def nr (p : Nat → Bool) (a : Nat) : Nat → Bool
  | 0 => false
  | t + 1 => nr p a t || p (a + t)
theorem nr_iff {p : Nat → Bool} {a : Nat} : ∀ {t : Nat}, nr p a t = true ↔ ∃ q, a ≤ q ∧ q < a + t ∧ p q = true
  | 0 => by simp [nr]; intro q h1 h2; omega
  | t + 1 => by
    have ih := nr_iff (p := p) (a := a) (t := t)
    simp only [nr, Bool.or_eq_true]
    rw [ih]
    constructor
    · rintro (⟨q, h1, h2, h3⟩ | h)
      · exact ⟨q, h1, by omega, h3⟩
      · exact ⟨a + t, by omega, by omega, h⟩
    · rintro ⟨q, h1, h2, h3⟩
      by_cases e : q = a + t
      · subst e; exact .inr h3
      · exact .inl ⟨q, h1, by omega, h3⟩
def ltr (N m : Nat) (p : Nat → Bool) (x : Nat) : Bool := nr p (x - m) (min (x + m) (N - 1) + 1 - (x - m))
theorem ltr_iff {N m x : Nat} {p : Nat → Bool} (hx : x < N) : ltr N m p x = true ↔ ∃ q, q < N ∧ q ≤ x + m ∧ x ≤ q + m ∧ p q = true := by
  unfold ltr
  rw [nr_iff]
  constructor
  · rintro ⟨q, h1, h2, h3⟩; exact ⟨q, by omega, by omega, by omega, h3⟩
  · rintro ⟨q, h1, h2, h3, h4⟩; exact ⟨q, by omega, by omega, h4⟩

set_option maxRecDepth 100000 in
set_option maxHeartbeats 8000000 in
theorem c66 (s : Sv) (g c : Nat) (p : Nat → Bool) (w : World) (ok : s.Ok) (hR : Bls w g s.N p) :
    Calls Try.prog 66 #[s.v, .slice (some ⟨g, 0, none⟩) s.N c] w (BRet s.N (ltr s.N s.m p) w) := by
  obtain ⟨i0, ie0, ie1, ie2, ie3⟩ := info_parts Try.info4
  have hN := ok.Nb
  have hN1 := hN.1; have hN2 := hN.2.1
  have m0 := ok.m0; have m1 := ok.m1
  have hmh := hid ok.mb.1
  obtain ⟨W0, hW0⟩ : ∃ W0 : World, W0 = w.alloc (.cells #[.int .i64 s.tr, .int .i64 s.st, .int .i64 s.mv, .int .i64 s.no, .int .i64 s.wr, .slice s.ra s.rn s.rc] 30) := ⟨_, rfl⟩
  have hB0 : Below w.heap.size w W0 := by rw [hW0]; exact (Below.refl _ _).alloc (Nat.le_refl _) _
  have hsv : Svb s W0 w.heap.size := by rw [hW0]; exact Svb.new s w
  have hs0 : W0.heap.size = w.heap.size + 1 := by rw [hW0]; simp
  have hR0 := hid (hR.below hB0 hR.lt)
  have hgl := hR.lt
  clear ok hN hR
  go_enter Try.func66, Try.ntmps66
  go_wp2_with fail
  rw [← hW0]
  clear hW0
  go_loopw [5, 6, 7, 8] (fun ov xv _ _ wr => ∃ x : Nat, x ≤ s.N ∧ xv = .int .i64 x ∧ wr.ownsRow W0.heap.size 4 1 ov x (bvals x (ltr s.N s.m p)) ∧ Below W0.heap.size W0 wr) (fun _ xv _ _ _ => s.N - (intOf xv).toNat)
  case atStart => exact ⟨0, Nat.zero_le _, rfl, World.ownsRow_nil _ _ _ _, Below.refl _ _⟩
  case round =>
    obtain ⟨x, hx, rfl, hown, hB⟩ := hrel
    have hownh := hid hown
    clear hown
    have hBw : Below w.heap.size w wr := hB0.trans (hB.mono (by omega))
    by_cases hxl : x < s.N
    · have hRw := hid (hR0.out.below hB (by omega))
      obtain ⟨_, _, k2, _, _, _⟩ := (hsv.below hB (by omega)).all
      by_cases hmx : s.mv < x
      all_goals
        obtain ⟨a, ha⟩ : ∃ a, a = x - s.m := ⟨_, rfl⟩
        obtain ⟨T, hT⟩ : ∃ T, T = min (x + s.m) (s.N - 1) + 1 - (x - s.m) := ⟨_, rfl⟩
        obtain ⟨mx, hif⟩ : ∃ mx, (if (x : Int) + s.mv < (s.N : Int) - 1 then (x : Int) + s.mv else (s.N : Int) - 1) = mx := ⟨_, rfl⟩
        have hmxb : mx = (a : Int) + T - 1 ∧ a + T ≤ s.N ∧ a ≤ x ∧ x < a + T := by have := hmh.out; rw [← hif, hT, ha]; constructor; (split <;> omega); omega
        have hmx1 := hid hmxb.1; have hmx2 := hmxb.2.1
        have hstart : Hid ((a : Int) = max ((x : Int) - s.mv) 0) := hid (by have := hmh.out; rw [ha]; omega)
        have hlt : Hid (ltr s.N s.m p x = nr p a T) := hid (by rw [ha, hT]; rfl)
        clear ha hT hmxb
        go_wp2_with fail
        go_loop [7, 8] (fun bv yv => ∃ y t : Nat, t ≤ T ∧ yv = .int .i64 y ∧ bv = .bool (nr p a t) ∧ Hid (y = a + t)) (fun _ yv => a + T - (intOf yv).toNat)
        case atStart => exact ⟨a, 0, Nat.zero_le _, by have := hstart.out; first | (rw [show (x : Int) - s.mv = (a : Int) by omega]) | (rw [show (0 : Int) = (a : Int) by omega]), rfl, rfl⟩
        case round =>
          obtain ⟨y, t, ht, rfl, rfl, hy⟩ := hrel
          have hya : a + t ≤ y ∧ y ≤ a + t := by have := hy.out; omega
          obtain ⟨B, hB'⟩ : ∃ B, B = nr p a t := ⟨_, rfl⟩
          have hBh := hid hB'
          rw [← hB']
          clear hB'
          by_cases htT : t < T
          · have hym : (y : Int) ≤ mx := by have := hmx1.out; omega
            have hyN : y < s.N := by omega
            have c1 := hRw.out.ce y hyN
            have c3 := hRw.out.lt
            have c4 := @ixB g s.N c y hyN
            have hst : Hid (nr p a (t + 1) = (B || p y)) := hid (by rw [hBh.out, hy.out]; rfl)
            cases B with
            | true =>
              go_wp2_with fail
              go_round
              case rel => exact ⟨y + 1, t + 1, by omega, by go_num, by rw [hst.out]; simp, hid (by have := hy.out; omega)⟩
              case measure => simp [intOf]; omega
            | false =>
              go_wp2_with fail
              go_round
              case rel => exact ⟨y + 1, t + 1, by omega, by go_num, by rw [hst.out]; simp, hid (by have := hy.out; omega)⟩
              case measure => simp [intOf]; omega
          · have hym : mx < (y : Int) := by have := hmx1.out; omega
            obtain rfl : t = T := by omega
            go_wp2_with (at_builtin; refine app_src rfl (.tmp 39) (.tmp 41) 93 rfl W0.heap.size 4 i0 (.bool false) 1 1 Try.underlying93 ie0 ie1 ie2 ie3 rfl (by decide) _ _ _ rfl (hownh.out.alloc _) (some ⟨wr.heap.size, 0, none⟩) 1 1 [.bool B] rfl (fun h => by cases h) rfl (fun ad h => by cases h; exact World.news_of_block (cs := #[.bool B]) (t := 4) (fr := (0, 0)) (heap_new _ _)) (by simp [Value.oneCell']) (by unfold maxLen; omega) (by omega) (by simp; exact Nat.le_succ_of_le hB.size) ?_; intro v7 w7 hown7 hgr7 hn7; have hB7 : Below W0.heap.size W0 w7 := ((hB.alloc hB.size _).grown hgr7 (by simp; exact Nat.le_succ_of_le hB.size) (fun q e => (hownh.out.lt q e).1)); have hown7h := hid hown7; clear hown7 hgr7 hn7)
            go_roundw
            case rel => exact ⟨x + 1, by omega, by go_num, by rw [bvals_succ, hlt.out, ← hBh.out]; exact hown7h.out, hB7⟩
            case measure => simp [intOf]; omega
    · obtain rfl : x = s.N := by omega
      obtain ⟨gg, cap, rfl, h1, h2⟩ := BRow.at_ (show BRow wr W0.heap.size _ s.N _ from hownh.out) (by omega)
      go_wp2_with fail
      go_returns
      exact ⟨gg, cap, rfl, by omega, h2, hBw⟩
end Go.Proofs.Ytkafjlhmbiaicaa

/- Stage 2, plain mathematics: paths that move, and agree. -/
set_option linter.unusedSimpArgs false
set_option linter.unusedVariables false
namespace Go.Proofs.Ytkafjlhmbiaicaa

theorem Pth.far {N m : Nat} {p : Nat → Nat} {n : Nat} (h : Pth N m p n) : ∀ (d i : Nat), i + d < n → p (i + d) ≤ p i + m * d ∧ p i ≤ p (i + d) + m * d
  | 0, i, _ => by simp
  | d + 1, i, hi => by
    have ih := Pth.far h d i (by omega)
    have h1 := (h (i + (d + 1)) hi).2 (by omega)
    rw [show i + (d + 1) - 1 = i + d by omega] at h1
    have e : m * (d + 1) = m * d + m := by rw [Nat.mul_succ]
    omega
theorem cst_low {ag : Nat → Nat → Bool} {p : Nat → Nat} (a : Nat) : ∀ n, (∀ i, a ≤ i → i < n → ag i (p i) = false) → (n : Int) - a ≤ cst ag p n
  | 0, _ => by simp only [cst]; omega
  | n + 1, h => by
    have ih := cst_low a n (fun i h1 h2 => h i h1 (by omega))
    simp only [cst]
    by_cases ha : a ≤ n
    · rw [h n ha (by omega)]
      simp only [Bool.false_eq_true, if_false]
      omega
    · have := cst_nn (ag := ag) (p := p) n
      split <;> omega
theorem cst_some {ag : Nat → Nat → Bool} {p : Nat → Nat} {n a : Nat} (h : cst ag p n < (n : Int) - a) : ∃ i, a ≤ i ∧ i < n ∧ ag i (p i) = true := by
  apply Classical.byContradiction
  intro hno
  have := cst_low (ag := ag) (p := p) a n (fun i h1 h2 => by
    cases e : ag i (p i) with
    | false => rfl
    | true => exact absurd ⟨i, h1, h2, e⟩ hno)
  omega
/-- Two positions that agree with a wedge that was read are near each other. -/
theorem agr_near {s : Sv} {g : Wg} {i p q : Nat} (hr : g.wc i ≠ -1) (hp : agr s g i p = true) (hq : agr s g i q = true) : (q : Int) - p ≤ 2 * s.no ∧ (p : Int) - q ≤ 2 * s.no := by
  have h2 : (trk (g.wc i).toNat : Int) < s.tr := by
    rcases agr_ref.1 hp with h | h
    · exact absurd h hr
    · exact h.1
  have h3 := ((agr_iff hr h2 p).1 hp).2
  have h4 := ((agr_iff hr h2 q).1 hq).2
  omega
/-- What is found again. -/
theorem found {s : Sv} {g : Wg} (ok : s.Ok) {f : Nat → Int} (hp : PathP s f g.wn) (hw : s.wr < g.wn) (hag : ∀ i, g.wn - 1 - s.wr.toNat ≤ i → i < g.wn → g.wc i ≠ -1 ∧ agr s g i (pos f i) = true)
    {x : Nat} (hx : x < s.N) (hfl : fl s g x ≤ s.wr) : f (g.wn - 1) - (2 * s.no + 2 * s.mv * s.wr) ≤ (x : Int) ∧ (x : Int) ≤ f (g.wn - 1) + (2 * s.no + 2 * s.mv * s.wr) := by
  have w0 := ok.w0
  obtain ⟨m, hm⟩ : ∃ m, g.wn = m + 1 := ⟨g.wn - 1, by omega⟩
  unfold fl at hfl
  rw [hm] at hfl hp hag
  obtain ⟨q, q1, q2, q3⟩ := (flt_path m x _ hx).1 hfl
  obtain ⟨i, i1, i2, i3⟩ := cst_some (a := m - s.wr.toNat) (show cst (agr s g) q (m + 1) < ((m + 1 : Nat) : Int) - ((m - s.wr.toNat : Nat) : Int) by omega)
  obtain ⟨r1, r2⟩ := hag i (by omega) i2
  have hn := agr_near r1 r2 i3
  have f1 := q1.far (m - i) i (by omega)
  have f2 := (hp.pth ok).far (m - i) i (by omega)
  rw [show i + (m - i) = m by omega] at f1 f2
  have hi := (hp m (by omega)).1.pos.1
  rw [show g.wn - 1 = m by omega]
  have hmm := ok.mb.1
  have hle : s.m * (m - i) ≤ s.m * s.wr.toNat := Nat.mul_le_mul_left _ (by omega)
  have e1 : ((s.m * s.wr.toNat : Nat) : Int) = s.mv * s.wr := by
    rw [Int.natCast_mul, hmm, show ((s.wr.toNat : Nat) : Int) = s.wr by omega]
  have e2 : 2 * s.mv * s.wr = 2 * (s.mv * s.wr) := by rw [Int.mul_assoc]
  rw [hi, e2]
  omega
end Go.Proofs.Ytkafjlhmbiaicaa

/- Stage 2: the law of the track that is found again. -/
set_option linter.unusedSimpArgs false
set_option linter.unusedVariables false
namespace Go.Proofs.Ytkafjlhmbiaicaa
open Go.RowKit Go.Sort Go.BigFrame

theorem hi_in {b : Nat → Bool} {n k : Nat} (hk : k < (spn b n).length) : lo (spn b n) k ≤ hi (spn b n) k ∧ hi (spn b n) k < n ∧ b (lo (spn b n) k) = true ∧ b (hi (spn b n) k) = true := by
  have h := (spn_ok b n).le k _ (List.getElem?_eq_getElem hk)
  simp only [lo, hi, List.getD_eq_getElem?_getD, List.getElem?_eq_getElem hk, Option.getD_some]
  exact h
theorem ahead_in {s : Sv} {g : Wg} {d k : Nat} (hk : k < (aheadL s g d).length) : (lo (aheadL s g d) k < s.N ∧ mvn s.N s.m (fl s g) d (lo (aheadL s g d) k) ≤ s.wr) ∧ (hi (aheadL s g d) k < s.N ∧ mvn s.N s.m (fl s g) d (hi (aheadL s g d) k) ≤ s.wr) := by
  have h := hi_in hk
  obtain ⟨h1, h2, h3, h4⟩ := h
  exact ⟨⟨Nat.lt_of_le_of_lt h1 h2, of_decide_eq_true h3⟩, ⟨h2, of_decide_eq_true h4⟩⟩
theorem ahead_len (s : Sv) (g : Wg) (d : Nat) : (aheadL s g d).length ≤ s.N := spn_len _ _
theorem ahead_pos {s : Sv} {g : Wg} (ok : s.Ok) (h : mn s.N (fl s g) ≤ s.wr) : 0 < (aheadL s g 0).length := by
  rcases Nat.eq_zero_or_pos (aheadL s g 0).length with h0 | h0
  · obtain ⟨p, hp, hf⟩ := (mn_le (by have := ok.Nb.1; omega)).1 h
    have := spn_nil.1 (List.eq_nil_of_length_eq_zero h0) p hp
    simp at this
    have h2 : mvn s.N s.m (fl s g) 0 p = fl s g p := rfl
    omega
  · exact h0

set_option maxRecDepth 100000 in
set_option maxHeartbeats 2000000 in
theorem c8_skip (s : Sv) (g : Wg) (A : Option Addr) (b o n c : Nat) (f : Nat → Int) (w : World) (hz : s.In w) (hg : g.In w) (hp : Ints w A b o n f) (h : ¬ (ValP s g ∧ n ≤ 40 ∧ (PathP s f n ∧ n = g.wn) ∧ s.wr < g.wn)) :
    Calls Try.prog 8 #[s.v, g.v, .slice A n c] w fun e w' => e = .returned (.bool true) ∧ Below w.heap.size w w' := by
  by_cases hv0 : ValP s g
  · have hv := hid hv0
    have hok := hv0.ok
    by_cases hn : n ≤ 40
    · by_cases hpt0 : PathP s f n ∧ n = g.wn
      · have hw : (g.wn : Int) ≤ s.wr := by
          have h1 : ¬ s.wr < g.wn := fun h1 => h ⟨hv0, hn, hpt0, h1⟩
          omega
        have hpt := hid hpt0
        clear h hv0 hpt0 hok
        go_enter Try.func8, Try.ntmps8
        go_wp2_with (first | (go_at_call 16; refine (c16y s g _ (hz.below (by (repeat' (first | (with_reducible exact Below.refl _ _) | (with_reducible assumption) | (with_reducible refine Below.alloc ?_ ?_ _) | (with_reducible refine Below.drew ?_) | (with_reducible refine below_drewN ?_ _) | (with_reducible refine Below.setCell ?_ ?_ _) | (with_reducible refine Below.trans ?_ (Below.mono (by with_reducible assumption) ?_)) | go_size))) (Nat.le_refl _)) (hg.below (by (repeat' (first | (with_reducible exact Below.refl _ _) | (with_reducible assumption) | (with_reducible refine Below.alloc ?_ ?_ _) | (with_reducible refine Below.drew ?_) | (with_reducible refine below_drewN ?_ _) | (with_reducible refine Below.setCell ?_ ?_ _) | (with_reducible refine Below.trans ?_ (Below.mono (by with_reducible assumption) ?_)) | go_size))) (Nat.le_refl _)) hv.out).mono ?_; rintro e w1 ⟨rfl, hB1⟩; have hz1 : w.heap.size + 1 ≤ w1.heap.size := (by have := hB1.size; simp at this; omega); have hBx : Below w.heap.size w w1 := Below.trans (by (repeat' (first | (with_reducible exact Below.refl _ _) | (with_reducible assumption) | (with_reducible refine Below.alloc ?_ ?_ _) | (with_reducible refine Below.drew ?_) | (with_reducible refine below_drewN ?_ _) | (with_reducible refine Below.setCell ?_ ?_ _) | (with_reducible refine Below.trans ?_ (Below.mono (by with_reducible assumption) ?_)) | go_size))) (hB1.mono (by simp)); have sv1 := (Svb.new s w).below hB1 (by simp); obtain ⟨k0, k1, k2, k3, k4, k5⟩ := sv1.all) | (go_at_call 29; refine (c29y hv.out.ok.1 (hp.below hBx (Nat.le_refl _)) (by omega) hpt.out).mono ?_; rintro e w2 ⟨rfl, hB2⟩; have hBy : Below w.heap.size w w2 := hBx.trans (hB2.mono hBx.size); have sv2 := sv1.below hB2 (by omega); obtain ⟨j0, j1, j2, j3, j4, j5⟩ := sv2.all) | (go_at_call 13; refine (c13 _).mono ?_; rintro e w9 ⟨rfl, hB9⟩))
        go_returns
        exact ⟨rfl, hBy.trans (hB9.mono hBy.size)⟩
      · have hpt := hid hpt0
        clear h hv0 hpt0 hok
        go_enter Try.func8, Try.ntmps8
        go_wp2_with (first | (go_at_call 16; refine (c16y s g _ (hz.below (by (repeat' (first | (with_reducible exact Below.refl _ _) | (with_reducible assumption) | (with_reducible refine Below.alloc ?_ ?_ _) | (with_reducible refine Below.drew ?_) | (with_reducible refine below_drewN ?_ _) | (with_reducible refine Below.setCell ?_ ?_ _) | (with_reducible refine Below.trans ?_ (Below.mono (by with_reducible assumption) ?_)) | go_size))) (Nat.le_refl _)) (hg.below (by (repeat' (first | (with_reducible exact Below.refl _ _) | (with_reducible assumption) | (with_reducible refine Below.alloc ?_ ?_ _) | (with_reducible refine Below.drew ?_) | (with_reducible refine below_drewN ?_ _) | (with_reducible refine Below.setCell ?_ ?_ _) | (with_reducible refine Below.trans ?_ (Below.mono (by with_reducible assumption) ?_)) | go_size))) (Nat.le_refl _)) hv.out).mono ?_; rintro e w1 ⟨rfl, hB1⟩; have hz1 : w.heap.size + 1 ≤ w1.heap.size := (by have := hB1.size; simp at this; omega); have hBx : Below w.heap.size w w1 := Below.trans (by (repeat' (first | (with_reducible exact Below.refl _ _) | (with_reducible assumption) | (with_reducible refine Below.alloc ?_ ?_ _) | (with_reducible refine Below.drew ?_) | (with_reducible refine below_drewN ?_ _) | (with_reducible refine Below.setCell ?_ ?_ _) | (with_reducible refine Below.trans ?_ (Below.mono (by with_reducible assumption) ?_)) | go_size))) (hB1.mono (by simp)); have sv1 := (Svb.new s w).below hB1 (by simp); obtain ⟨k0, k1, k2, k3, k4, k5⟩ := sv1.all) | (go_at_call 29; refine (c29n hv.out.ok.1 (hp.below hBx (Nat.le_refl _)) (by omega) hpt.out).mono ?_; rintro e w2 ⟨rfl, hB2⟩; have hBy : Below w.heap.size w w2 := hBx.trans (hB2.mono hBx.size)) | (go_at_call 13; refine (c13 _).mono ?_; rintro e w9 ⟨rfl, hB9⟩))
        go_returns
        exact ⟨rfl, hBy.trans (hB9.mono hBy.size)⟩
    · clear h hv0 hok
      go_enter Try.func8, Try.ntmps8
      go_wp2_with (first | (go_at_call 16; refine (c16y s g _ (hz.below (by (repeat' (first | (with_reducible exact Below.refl _ _) | (with_reducible assumption) | (with_reducible refine Below.alloc ?_ ?_ _) | (with_reducible refine Below.drew ?_) | (with_reducible refine below_drewN ?_ _) | (with_reducible refine Below.setCell ?_ ?_ _) | (with_reducible refine Below.trans ?_ (Below.mono (by with_reducible assumption) ?_)) | go_size))) (Nat.le_refl _)) (hg.below (by (repeat' (first | (with_reducible exact Below.refl _ _) | (with_reducible assumption) | (with_reducible refine Below.alloc ?_ ?_ _) | (with_reducible refine Below.drew ?_) | (with_reducible refine below_drewN ?_ _) | (with_reducible refine Below.setCell ?_ ?_ _) | (with_reducible refine Below.trans ?_ (Below.mono (by with_reducible assumption) ?_)) | go_size))) (Nat.le_refl _)) hv.out).mono ?_; rintro e w1 ⟨rfl, hB1⟩; have hz1 : w.heap.size + 1 ≤ w1.heap.size := (by have := hB1.size; simp at this; omega); have hBx : Below w.heap.size w w1 := Below.trans (by (repeat' (first | (with_reducible exact Below.refl _ _) | (with_reducible assumption) | (with_reducible refine Below.alloc ?_ ?_ _) | (with_reducible refine Below.drew ?_) | (with_reducible refine below_drewN ?_ _) | (with_reducible refine Below.setCell ?_ ?_ _) | (with_reducible refine Below.trans ?_ (Below.mono (by with_reducible assumption) ?_)) | go_size))) (hB1.mono (by simp)); have sv1 := (Svb.new s w).below hB1 (by simp); obtain ⟨k0, k1, k2, k3, k4, k5⟩ := sv1.all) | (go_at_call 13; refine (c13 _).mono ?_; rintro e w9 ⟨rfl, hB9⟩))
      go_returns
      exact ⟨rfl, hBx.trans (hB9.mono hBx.size)⟩
  · have hv := hid hv0
    clear h hv0
    go_enter Try.func8, Try.ntmps8
    go_wp2_with (first | (go_at_call 16; refine (c16n s g _ (hz.below (by (repeat' (first | (with_reducible exact Below.refl _ _) | (with_reducible assumption) | (with_reducible refine Below.alloc ?_ ?_ _) | (with_reducible refine Below.drew ?_) | (with_reducible refine below_drewN ?_ _) | (with_reducible refine Below.setCell ?_ ?_ _) | (with_reducible refine Below.trans ?_ (Below.mono (by with_reducible assumption) ?_)) | go_size))) (Nat.le_refl _)) (hg.below (by (repeat' (first | (with_reducible exact Below.refl _ _) | (with_reducible assumption) | (with_reducible refine Below.alloc ?_ ?_ _) | (with_reducible refine Below.drew ?_) | (with_reducible refine below_drewN ?_ _) | (with_reducible refine Below.setCell ?_ ?_ _) | (with_reducible refine Below.trans ?_ (Below.mono (by with_reducible assumption) ?_)) | go_size))) (Nat.le_refl _)) hv.out).mono ?_; rintro e w1 ⟨rfl, hB1⟩; have hBx : Below w.heap.size w w1 := Below.trans (by (repeat' (first | (with_reducible exact Below.refl _ _) | (with_reducible assumption) | (with_reducible refine Below.alloc ?_ ?_ _) | (with_reducible refine Below.drew ?_) | (with_reducible refine below_drewN ?_ _) | (with_reducible refine Below.setCell ?_ ?_ _) | (with_reducible refine Below.trans ?_ (Below.mono (by with_reducible assumption) ?_)) | go_size))) (hB1.mono (by simp))) | (go_at_call 13; refine (c13 _).mono ?_; rintro e w9 ⟨rfl, hB9⟩))
    go_returns
    exact ⟨rfl, hBx.trans (hB9.mono hBx.size)⟩

set_option maxRecDepth 100000 in
set_option maxHeartbeats 4000000 in
theorem c8_go (s : Sv) (g : Wg) (A : Option Addr) (b o n c : Nat) (f : Nat → Int) (w : World) (hz : s.In w) (hg : g.In w) (hp : Ints w A b o n f) (hv0 : ValP s g) (hn : n ≤ 40) (hpt0 : PathP s f n ∧ n = g.wn) (hw : s.wr < g.wn) :
    Calls Try.prog 8 #[s.v, g.v, .slice A n c] w fun e w' => e = .returned (.bool true) ∧ Below w.heap.size w w' := by
  have hv := hid hv0
  have hpt := hid hpt0
  obtain ⟨ok, okg, hn8, hr40⟩ := hv0.ok
  have w0 := ok.w0; have w1' := ok.w1; have n0 := ok.n0; have n1 := ok.n1; have m0 := ok.m0; have m1 := ok.m1
  have hN := ok.Nb
  have hN2 := hN.2.1
  obtain ⟨wq, hwq⟩ : ∃ wq : Nat, s.wr = wq := ⟨s.wr.toNat, by omega⟩
  have ixw := hid (Weds.ixh (c := g.wk) hg)
  have ixp := hid (Ints.ixh (c := c) hp)
  have okh := hid ok
  have okgh := hid okg
  have hmw : 0 ≤ 2 * s.mv * s.wr ∧ 2 * s.mv * s.wr ≤ 384 := by
    have h1 : 2 * s.mv * s.wr ≤ 128 * 3 := Int.mul_le_mul (by omega) ok.w1 ok.w0 (by omega)
    exact ⟨Int.mul_nonneg (by omega) ok.w0, by omega⟩
  have hwqh := hid hwq
  have hnw := hid hpt0.2
  have hwn := hid (show g.wn = n from hpt0.2.symm)
  have hwb : wq < g.wn := by omega
  clear hv0 ok okg hN hwq
  have hng : (n : Int) ≤ g.wn ∧ (g.wn : Int) ≤ n := by have := hnw.out; omega
  clear hpt0
  have d40 : decide ((40 : Int) < (n : Int)) = false := by simp; omega
  have dw : decide ((g.wn : Int) ≤ s.wr) = false := by simp; omega
  have hi0 : (g.wn : Int) - 1 - s.wr = ((g.wn - 1 - wq : Nat) : Int) := by have := hwqh.out; omega
  have hwq2 : s.wr ≤ wq ∧ (wq : Int) ≤ s.wr := by have := hwqh.out; omega
  go_enter Try.func8, Try.ntmps8
  go_wp2_with (first | (go_at_call 16; refine (c16y s g _ (hz.below (by (repeat' (first | (with_reducible exact Below.refl _ _) | (with_reducible assumption) | (with_reducible refine Below.alloc ?_ ?_ _) | (with_reducible refine Below.drew ?_) | (with_reducible refine below_drewN ?_ _) | (with_reducible refine Below.setCell ?_ ?_ _) | (with_reducible refine Below.trans ?_ (Below.mono (by with_reducible assumption) ?_)) | go_size))) (Nat.le_refl _)) (hg.below (by (repeat' (first | (with_reducible exact Below.refl _ _) | (with_reducible assumption) | (with_reducible refine Below.alloc ?_ ?_ _) | (with_reducible refine Below.drew ?_) | (with_reducible refine below_drewN ?_ _) | (with_reducible refine Below.setCell ?_ ?_ _) | (with_reducible refine Below.trans ?_ (Below.mono (by with_reducible assumption) ?_)) | go_size))) (Nat.le_refl _)) hv.out).mono ?_; rintro e w1 ⟨rfl, hB1⟩; have hz1 : w.heap.size + 1 ≤ w1.heap.size := (by have := hB1.size; simp at this; omega); have hBx : Below w.heap.size w w1 := Below.trans (by (repeat' (first | (with_reducible exact Below.refl _ _) | (with_reducible assumption) | (with_reducible refine Below.alloc ?_ ?_ _) | (with_reducible refine Below.drew ?_) | (with_reducible refine below_drewN ?_ _) | (with_reducible refine Below.setCell ?_ ?_ _) | (with_reducible refine Below.trans ?_ (Below.mono (by with_reducible assumption) ?_)) | go_size))) (hB1.mono (by simp)); have sv1 := (Svb.new s w).below hB1 (by simp); obtain ⟨k0, k1, k2, k3, k4, k5⟩ := sv1.all) | (go_at_call 29; refine (c29y hv.out.ok.1 (hp.below hBx (Nat.le_refl _)) (by omega) hpt.out).mono ?_; rintro e w2 ⟨rfl, hB2⟩; have hBy : Below w.heap.size w w2 := hBx.trans (hB2.mono hBx.size); have sv2 := sv1.below hB2 (by omega); obtain ⟨j0, j1, j2, j3, j4, j5⟩ := sv2.all))
  clear hi0 d40 dw j0 j1 j2 j3 j4 j5 k0 k1 k2 k3 k4 k5
  have hsz2 : w.heap.size < w2.heap.size := by have := hB2.size; omega
  go_loopw [7] (fun iv wr => ∃ k : Nat, g.wn - 1 - wq ≤ k ∧ k ≤ g.wn ∧ iv = .int .i64 k ∧ Hid (∀ j, g.wn - 1 - wq ≤ j → j < k → g.wc j ≠ -1 ∧ agr s g j (pos f j) = true) ∧ Below w2.heap.size w2 wr) (fun iv _ => g.wn - (intOf iv).toNat)
  case atStart => exact ⟨g.wn - 1 - wq, Nat.le_refl _, by omega, rfl, fun j h1 h2 => by omega, Below.refl _ _⟩
  case round =>
    obtain ⟨k, hk1, hk, rfl, hall, hB⟩ := hrel
    have hBw : Below w.heap.size w wr := hBy.trans (hB.mono (by omega))
    by_cases hlt : k < g.wn
    · have hkp := (hpt.out.1 k (by omega)).1.pos
      have x1 := cell_regrown ((hp.below hBw (Nat.le_refl _)).ce k (by omega))
      have x2 := cell_regrown ((hg.below hBw (Nat.le_refl _)).c1 k hlt)
      have x3 := cell_regrown ((hg.below hBw (Nat.le_refl _)).c2 k hlt)
      rw [hkp.1] at x1
      obtain ⟨q0, q1, q2, q3, q4, q5⟩ := (sv2.below hB hsz2).all
      have y0 := cell_regrown q0; have y1 := cell_regrown q1; have y2 := cell_regrown q2; have y3 := cell_regrown q3; have y4 := cell_regrown q4; have y5 := cell_regrown q5
      have h4 := ixp.out k (by omega)
      have h5 := ixw.out k hlt
      have hpp := hkp.2
      obtain ⟨pp, hpe⟩ : ∃ pp, pp = pos f k := ⟨_, rfl⟩
      have hpeh := hid hpe
      rw [← hpe] at x1 hpp
      clear q0 q1 q2 q3 q4 q5 hkp hpe
      by_cases hc : g.wc k = -1
      · rw [hc] at x2
        clear hc
        go_wp2_with fail
        refine wp_region_quiet_below (by kernel_rfl) (by kernel_rfl) ?_; (repeat (go_big_quiet_step ((first | fail)))); refine wpQuiet_nil ?_; intro _ hw; obtain ⟨q, hwq⟩ := hw; subst hwq
        have hBq := below_regrown wr q.d q.os
        generalize grow (redrawn wr q.d) q.os = w5 at hBq ⊢
        clear y0 y1 y2 y3 y4 y5 x1 x2 x3
        go_wp2_with (go_at_call 13; refine (c13 _).mono ?_; rintro e w9 ⟨rfl, hB9⟩)
        go_returns
        exact ⟨rfl, hBw.trans ((hBq.trans (hB9.mono hBq.size)).mono hBw.size)⟩
      · have hcb : (g.wc k == -1) = false := by simpa using hc
        have hch := hid hc
        clear hc
        cases hag : agr s g k pp with
        | true =>
          have hagh := hid hag
          clear hag
          go_wp2_with fail
          refine wp_region_quiet_below (by kernel_rfl) (by kernel_rfl) ?_; (repeat (go_big_quiet_step ((first | (go_at_call 23; exact Calls.regrown_of (c23y s g k pp _ (hz.below (hBw.trans (Below.mono (below_regrown _ _ _) hBw.size)) (Nat.le_refl _)) okh.out okgh.out hlt (by omega) hagh.out)))))); refine wpQuiet_nil ?_; intro _ hw; obtain ⟨q, hwq⟩ := hw; subst hwq
          have hBq := below_regrown wr q.d q.os
          generalize grow (redrawn wr q.d) q.os = w5 at hBq ⊢
          clear y0 y1 y2 y3 y4 y5 x1 x2 x3
          go_wp2
          go_roundw
          case rel =>
            refine ⟨k + 1, by omega, by omega, by go_num, fun j h1 h2 => ?_, hB.trans (hBq.mono hB.size)⟩
            by_cases e : j = k
            · subst e; exact ⟨hch.out, by rw [← hpeh.out]; exact hagh.out⟩
            · exact hall.out j h1 (by omega)
          case measure => simp [intOf]; omega
        | false =>
          have hagh := hid hag
          clear hag
          go_wp2_with fail
          refine wp_region_quiet_below (by kernel_rfl) (by kernel_rfl) ?_; (repeat (go_big_quiet_step ((first | (go_at_call 23; exact Calls.regrown_of (c23n s g k pp _ (hz.below (hBw.trans (Below.mono (below_regrown _ _ _) hBw.size)) (Nat.le_refl _)) okh.out okgh.out hlt (by omega) hagh.out)))))); refine wpQuiet_nil ?_; intro _ hw; obtain ⟨q, hwq⟩ := hw; subst hwq
          have hBq := below_regrown wr q.d q.os
          generalize grow (redrawn wr q.d) q.os = w5 at hBq ⊢
          clear y0 y1 y2 y3 y4 y5 x1 x2 x3
          go_wp2_with (go_at_call 13; refine (c13 _).mono ?_; rintro e w9 ⟨rfl, hB9⟩)
          go_returns
          exact ⟨rfl, hBw.trans ((hBq.trans (hB9.mono hBq.size)).mono hBw.size)⟩
    · obtain rfl : k = g.wn := by omega
      have hck := hid (ckE_ok okh.out okgh.out)
      by_cases hmn : mn s.N (fl s g) ≤ s.wr
      · have e1 := hid (ahE_ok hck.out trivial hmn)
        have e2 := hid (ahL_ok (d := 0) e1.out)
        obtain ⟨L, hL⟩ : ∃ L, L = aheadL s g 0 := ⟨_, rfl⟩
        have hLh := hid hL
        have hlen : L.length ≤ 1009 := by rw [hL]; exact Nat.le_trans (ahead_len s g 0) hN2
        have hpos : 0 < L.length := by rw [hL]; exact ahead_pos okh.out hmn
        have hfd := hid (fun x hx hfl => found okh.out (show PathP s f g.wn by have := hpt.out; rw [← this.2]; exact this.1) (by omega) (fun i h1 h2 => hall.out i (by omega) h2) (x := x) hx hfl)
        have hlb : 0 ≤ f (n - 1) ∧ f (n - 1) ≤ 1008 := by have h := (hpt.out.1 (n - 1) (by omega)).1; unfold inP at h; omega
        have hlx := ixp.out (n - 1) (by omega)
        have hszr : w.heap.size < wr.heap.size := Nat.lt_of_lt_of_le hsz2 hB.size
        rw [show ((n - 1 : Nat) : Int) = (n : Int) - 1 by omega] at hlx
        obtain ⟨q0, q1, q2, q3, q4, q5⟩ := (sv2.below hB hsz2).all
        clear hL hmn
        go_wp2_with (go_at_call 18; refine (c18 s g _ (hz.below hBw (Nat.le_refl _)) (hg.below hBw (Nat.le_refl _)) (by omega) (by omega)).mono ?_; rw [e1.out, e2.out, ← hLh.out]; rintro e w5 ⟨v, rfl, hown, hB5⟩; obtain ⟨va, vg, vc, rfl, hsp⟩ := SpIn.of_owns hown; clear hown; have hBz : Below w.heap.size w w5 := hBw.trans (hB5.mono hBw.size); obtain ⟨r0, r1, r2, r3, r4, r5⟩ := ((sv2.below hB hsz2).below hB5 (by omega)).all; have z1 := (hp.below hBz (Nat.le_refl _)).ce (n - 1) (by omega); have z2 := hlx)
        have ixsp := hid (fun k hk => @SpIn.ix _ _ _ vc _ hsp k hk)
        have hsph := hid hsp
        clear r0 r1 r2 r3 r4 r5 z1 z2 hsp
        obtain ⟨at_, hat⟩ : ∃ at_, at_ = f (n - 1) := ⟨_, rfl⟩
        obtain ⟨fr, hfr⟩ : ∃ fr, fr = 2 * s.mv * s.wr := ⟨_, rfl⟩
        rw [← hfr] at hmw ⊢
        rw [← hat] at hlb ⊢
        have hfrh := hid hfr
        have hath := hid hat
        clear hfr hat
        go_loop [12] (fun iv => ∃ k : Nat, k ≤ L.length ∧ iv = .int .i64 k) (fun iv => L.length - (intOf iv).toNat)
        case atStart => exact ⟨0, Nat.zero_le _, rfl⟩
        case round =>
          obtain ⟨k, hk, rfl⟩ := hrel
          by_cases hkl : k < L.length
          · have hai := ahead_in (show k < (aheadL s g 0).length by rw [← hLh.out]; exact hkl)
            rw [← hLh.out] at hai
            have b1 := hfd.out _ hai.1.1 hai.1.2
            have b2 := hfd.out _ hai.2.1 hai.2.2
            rw [hwn.out, ← hath.out, ← hfrh.out] at b1 b2
            have b3 := b1.1; have b4 := b1.2; have b5 := b2.1; have b6 := b2.2
            have c1 := hsph.out.c1 k hkl
            have c2 := hsph.out.c2 k hkl
            have c3 := ixsp.out k hkl
            clear hai b1 b2
            go_wp2_with fail
            go_round
            case rel => exact ⟨k + 1, by omega, by go_num⟩
            case measure => simp [intOf]; omega
          · go_wp2_with (go_at_call 13; refine (c13 _).mono ?_; rintro e w9 ⟨rfl, hB9⟩)
            go_returns
            exact ⟨rfl, hBz.trans (hB9.mono hBz.size)⟩
      · have e1 := hid (ahE_none hck.out trivial hmn)
        have e2 := hid (ahL_no (d := 0) (show ahE s g True ≠ 0 by rw [e1.out]; omega))
        obtain ⟨q0, q1, q2, q3, q4, q5⟩ := (sv2.below hB hsz2).all
        clear hmn
        go_wp2_with (first | (go_at_call 18; refine (c18 s g _ (hz.below hBw (Nat.le_refl _)) (hg.below hBw (Nat.le_refl _)) (by omega) (by omega)).mono ?_; rw [e1.out, e2.out]; rintro e w5 ⟨v, rfl, hown, hB5⟩) | (go_at_call 13; refine (c13 _).mono ?_; rintro e w9 ⟨rfl, hB9⟩))
        go_returns
        exact ⟨rfl, hBw.trans ((hB5.trans (hB9.mono hB5.size)).mono hBw.size)⟩

theorem c8 (s : Sv) (g : Wg) (A : Option Addr) (b o n c : Nat) (f : Nat → Int) (w : World) (hz : s.In w) (hg : g.In w) (hp : Ints w A b o n f) :
    Calls Try.prog 8 #[s.v, g.v, .slice A n c] w fun e w' => e = .returned (.bool true) ∧ Below w.heap.size w w' := by
  by_cases h : ValP s g ∧ n ≤ 40 ∧ (PathP s f n ∧ n = g.wn) ∧ s.wr < g.wn
  · exact c8_go s g A b o n c f w hz hg hp h.1 h.2.1 h.2.2.1 h.2.2.2
  · exact c8_skip s g A b o n c f w hz hg hp h
end Go.Proofs.Ytkafjlhmbiaicaa
