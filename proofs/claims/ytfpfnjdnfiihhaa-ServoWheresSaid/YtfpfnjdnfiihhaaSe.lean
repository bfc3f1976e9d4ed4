/- Stage 2: the reference's later. -/
import Derived.Test.YtfpfnjdnfiihhaaSd
set_option linter.unusedSimpArgs false
set_option linter.unusedVariables false
namespace Go.Proofs.Ytfpfnjdnfiihhaa
open Go.RowKit Go.Sort Go.BigFrame

/-- Whether p holds somewhere. -/
def nr (p : Nat → Bool) (a : Nat) : Nat → Bool
  | 0 => false
  | t + 1 => nr p a t || p (a + t)
theorem nr_iff {p : Nat → Bool} {a : Nat} : ∀ {t : Nat}, nr p a t = true ↔ ∃ q, a ≤ q ∧ q < a + t ∧ p q = true
  | 0 => by simp [nr]; intro q h1 h2; omega
  | t + 1 => by
    have ih := nr_iff (p := p) (a := a) (t := t)
    simp only [nr, Bool.or_eq_true]
    rw [ih]
    constructor
    · rintro (⟨q, h1, h2, h3⟩ | h)
      · exact ⟨q, h1, by omega, h3⟩
      · exact ⟨a + t, by omega, by omega, h⟩
    · rintro ⟨q, h1, h2, h3⟩
      by_cases e : q = a + t
      · subst e; exact .inr h3
      · exact .inl ⟨q, h1, by omega, h3⟩
def ltr (N m : Nat) (p : Nat → Bool) (x : Nat) : Bool := nr p (x - m) (min (x + m) (N - 1) + 1 - (x - m))
theorem ltr_iff {N m x : Nat} {p : Nat → Bool} (hx : x < N) : ltr N m p x = true ↔ ∃ q, q < N ∧ q ≤ x + m ∧ x ≤ q + m ∧ p q = true := by
  unfold ltr
  rw [nr_iff]
  constructor
  · rintro ⟨q, h1, h2, h3⟩; exact ⟨q, by omega, by omega, by omega, h3⟩
  · rintro ⟨q, h1, h2, h3, h4⟩; exact ⟨q, by omega, by omega, h4⟩

set_option maxRecDepth 100000 in
set_option maxHeartbeats 8000000 in
theorem c66 (s : Sv) (g c : Nat) (p : Nat → Bool) (w : World) (ok : s.Ok) (hR : Bls w g s.N p) :
    Calls Try.prog 66 #[s.v, .slice (some ⟨g, 0, none⟩) s.N c] w (BRet s.N (ltr s.N s.m p) w) := by
  obtain ⟨i0, ie0, ie1, ie2, ie3⟩ := info_parts Try.info4
  have hN := ok.Nb
  have hN1 := hN.1; have hN2 := hN.2.1
  have m0 := ok.m0; have m1 := ok.m1
  have hmh := hid ok.mb.1
  obtain ⟨W0, hW0⟩ : ∃ W0 : World, W0 = w.alloc (.cells #[.int .i64 s.tr, .int .i64 s.st, .int .i64 s.mv, .int .i64 s.no, .int .i64 s.wr, .slice s.ra s.rn s.rc] 30) := ⟨_, rfl⟩
  have hB0 : Below w.heap.size w W0 := by rw [hW0]; exact (Below.refl _ _).alloc (Nat.le_refl _) _
  have hsv : Svb s W0 w.heap.size := by rw [hW0]; exact Svb.new s w
  have hs0 : W0.heap.size = w.heap.size + 1 := by rw [hW0]; simp
  have hR0 := hid (hR.below hB0 hR.lt)
  have hgl := hR.lt
  clear ok hN hR
  go_enter Try.func66, Try.ntmps66
  go_wp2_with fail
  rw [← hW0]
  clear hW0
  go_loopw [5, 6, 7, 8] (fun ov xv _ _ wr => ∃ x : Nat, x ≤ s.N ∧ xv = .int .i64 x ∧ wr.ownsRow W0.heap.size 4 1 ov x (bvals x (ltr s.N s.m p)) ∧ Below W0.heap.size W0 wr) (fun _ xv _ _ _ => s.N - (intOf xv).toNat)
  case atStart => exact ⟨0, Nat.zero_le _, rfl, World.ownsRow_nil _ _ _ _, Below.refl _ _⟩
  case round =>
    obtain ⟨x, hx, rfl, hown, hB⟩ := hrel
    have hownh := hid hown
    clear hown
    have hBw : Below w.heap.size w wr := hB0.trans (hB.mono (by omega))
    by_cases hxl : x < s.N
    · have hRw := hid (hR0.out.below hB (by omega))
      obtain ⟨_, _, k2, _, _, _⟩ := (hsv.below hB (by omega)).all
      by_cases hmx : s.mv < x
      all_goals
        obtain ⟨a, ha⟩ : ∃ a, a = x - s.m := ⟨_, rfl⟩
        obtain ⟨T, hT⟩ : ∃ T, T = min (x + s.m) (s.N - 1) + 1 - (x - s.m) := ⟨_, rfl⟩
        obtain ⟨mx, hif⟩ : ∃ mx, (if (x : Int) + s.mv < (s.N : Int) - 1 then (x : Int) + s.mv else (s.N : Int) - 1) = mx := ⟨_, rfl⟩
        have hmxb : mx = (a : Int) + T - 1 ∧ a + T ≤ s.N ∧ a ≤ x ∧ x < a + T := by have := hmh.out; rw [← hif, hT, ha]; constructor; (split <;> omega); omega
        have hmx1 := hid hmxb.1; have hmx2 := hmxb.2.1
        have hstart : Hid ((a : Int) = max ((x : Int) - s.mv) 0) := hid (by have := hmh.out; rw [ha]; omega)
        have hlt : Hid (ltr s.N s.m p x = nr p a T) := hid (by rw [ha, hT]; rfl)
        clear ha hT hmxb
        go_wp2_with fail
        go_loop [7, 8] (fun bv yv => ∃ y t : Nat, t ≤ T ∧ yv = .int .i64 y ∧ bv = .bool (nr p a t) ∧ Hid (y = a + t)) (fun _ yv => a + T - (intOf yv).toNat)
        case atStart => exact ⟨a, 0, Nat.zero_le _, by have := hstart.out; first | (rw [show (x : Int) - s.mv = (a : Int) by omega]) | (rw [show (0 : Int) = (a : Int) by omega]), rfl, rfl⟩
        case round =>
          obtain ⟨y, t, ht, rfl, rfl, hy⟩ := hrel
          have hya : a + t ≤ y ∧ y ≤ a + t := by have := hy.out; omega
          obtain ⟨B, hB'⟩ : ∃ B, B = nr p a t := ⟨_, rfl⟩
          have hBh := hid hB'
          rw [← hB']
          clear hB'
          by_cases htT : t < T
          · have hym : (y : Int) ≤ mx := by have := hmx1.out; omega
            have hyN : y < s.N := by omega
            have c1 := hRw.out.ce y hyN
            have c3 := hRw.out.lt
            have c4 := @ixB g s.N c y hyN
            have hst : Hid (nr p a (t + 1) = (B || p y)) := hid (by rw [hBh.out, hy.out]; rfl)
            cases B with
            | true =>
              go_wp2_with fail
              go_round
              case rel => exact ⟨y + 1, t + 1, by omega, by go_num, by rw [hst.out]; simp, hid (by have := hy.out; omega)⟩
              case measure => simp [intOf]; omega
            | false =>
              go_wp2_with fail
              go_round
              case rel => exact ⟨y + 1, t + 1, by omega, by go_num, by rw [hst.out]; simp, hid (by have := hy.out; omega)⟩
              case measure => simp [intOf]; omega
          · have hym : mx < (y : Int) := by have := hmx1.out; omega
            obtain rfl : t = T := by omega
            go_wp2_with (at_builtin; refine app_src rfl (.tmp 39) (.tmp 41) 93 rfl W0.heap.size 4 i0 (.bool false) 1 1 Try.underlying93 ie0 ie1 ie2 ie3 rfl (by decide) _ _ _ rfl (hownh.out.alloc _) (some ⟨wr.heap.size, 0, none⟩) 1 1 [.bool B] rfl (fun h => by cases h) rfl (fun ad h => by cases h; exact World.news_of_block (cs := #[.bool B]) (t := 4) (fr := (0, 0)) (heap_new _ _)) (by simp [Value.oneCell']) (by unfold maxLen; omega) (by omega) (by simp; exact Nat.le_succ_of_le hB.size) ?_; intro v7 w7 hown7 hgr7 hn7; have hB7 : Below W0.heap.size W0 w7 := ((hB.alloc hB.size _).grown hgr7 (by simp; exact Nat.le_succ_of_le hB.size) (fun q e => (hownh.out.lt q e).1)); have hown7h := hid hown7; clear hown7 hgr7 hn7)
            go_roundw
            case rel => exact ⟨x + 1, by omega, by go_num, by rw [bvals_succ, hlt.out, ← hBh.out]; exact hown7h.out, hB7⟩
            case measure => simp [intOf]; omega
    · obtain rfl : x = s.N := by omega
      obtain ⟨gg, cap, rfl, h1, h2⟩ := BRow.at_ (show BRow wr W0.heap.size _ s.N _ from hownh.out) (by omega)
      go_wp2_with fail
      go_returns
      exact ⟨gg, cap, rfl, by omega, h2, hBw⟩
end Go.Proofs.Ytfpfnjdnfiihhaa
