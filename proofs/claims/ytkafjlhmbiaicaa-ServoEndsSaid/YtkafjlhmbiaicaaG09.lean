/- Texts put together: X, Y, Ra, Rb. -/
import Derived.Test.YtkafjlhmbiaicaaG08
/- Stage 2: two lists of spans, two lists of numbers compared. -/
set_option linter.unusedSimpArgs false
set_option linter.unusedVariables false
namespace Go.Proofs.Ytkafjlhmbiaicaa
open Go.RowKit

/-- The servo's box. -/
def Svb (s : Sv) (w : World) (b : Nat) : Prop := w.cell? ⟨b, 0, none⟩ = some (.int .i64 s.tr) ∧ w.cell? ⟨b, 1, none⟩ = some (.int .i64 s.st) ∧ w.cell? ⟨b, 2, none⟩ = some (.int .i64 s.mv) ∧ w.cell? ⟨b, 3, none⟩ = some (.int .i64 s.no) ∧ w.cell? ⟨b, 4, none⟩ = some (.int .i64 s.wr) ∧ w.cell? ⟨b, 5, none⟩ = some (.slice s.ra s.rn s.rc)
theorem Svb.all {s : Sv} {w : World} {b : Nat} (h : Svb s w b) : w.cell? ⟨b, 0, none⟩ = some (.int .i64 s.tr) ∧ w.cell? ⟨b, 1, none⟩ = some (.int .i64 s.st) ∧ w.cell? ⟨b, 2, none⟩ = some (.int .i64 s.mv) ∧ w.cell? ⟨b, 3, none⟩ = some (.int .i64 s.no) ∧ w.cell? ⟨b, 4, none⟩ = some (.int .i64 s.wr) ∧ w.cell? ⟨b, 5, none⟩ = some (.slice s.ra s.rn s.rc) := h
theorem Svb.keep {s : Sv} {w w' : World} {b : Nat} (h : Svb s w b) (k : ∀ o, w'.cell? ⟨b, o, none⟩ = w.cell? ⟨b, o, none⟩) : Svb s w' b := by
  obtain ⟨b0, b1, b2, b3, b4, b5⟩ := h
  exact ⟨(k _).trans b0, (k _).trans b1, (k _).trans b2, (k _).trans b3, (k _).trans b4, (k _).trans b5⟩
theorem Svb.below {s : Sv} {w w' : World} {b B : Nat} (h : Svb s w b) (hb : Below B w w') (hB : b < B) : Svb s w' b := h.keep fun o => hb.cell (p := ⟨b, o, none⟩) hB
theorem Svb.new (s : Sv) (w : World) : Svb s (w.alloc (.cells #[.int .i64 s.tr, .int .i64 s.st, .int .i64 s.mv, .int .i64 s.no, .int .i64 s.wr, .slice s.ra s.rn s.rc] 30)) w.heap.size := by
  unfold Svb
  simp
def lo (l : List (Nat × Nat)) (k : Nat) : Nat := (l.getD k (0, 0)).1
def hi (l : List (Nat × Nat)) (k : Nat) : Nat := (l.getD k (0, 0)).2
/-- A slice value that holds the spans l. -/
structure SpIn (w : World) (A : Option Addr) (g : Nat) (l : List (Nat × Nat)) : Prop where
  ad : ∀ k, k < l.length → A = some ⟨g, 0, none⟩
  lt : ∀ k, k < l.length → g < w.heap.size
  c1 : ∀ k, k < l.length → w.cell? ⟨g, k * 2, none⟩ = some (.int .i64 (lo l k : Nat))
  c2 : ∀ k, k < l.length → w.cell? ⟨g, k * 2 + 1, none⟩ = some (.int .i64 (hi l k : Nat))
theorem SpIn.below {w w' : World} {B : Nat} {A : Option Addr} {g : Nat} {l : List (Nat × Nat)} (h : SpIn w A g l) (hb : Below B w w') (hB : w.heap.size ≤ B) : SpIn w' A g l :=
  ⟨h.ad, fun k hk => Nat.lt_of_lt_of_le (h.lt k hk) hb.size, fun k hk => (hb.cell (p := ⟨g, k * 2, none⟩) (Nat.lt_of_lt_of_le (h.lt k hk) hB)).trans (h.c1 k hk), fun k hk => (hb.cell (p := ⟨g, k * 2 + 1, none⟩) (Nat.lt_of_lt_of_le (h.lt k hk) hB)).trans (h.c2 k hk)⟩
theorem SpIn.ix {w : World} {A : Option Addr} {g c : Nat} {l : List (Nat × Nat)} (h : SpIn w A g l) {k : Nat} (hk : k < l.length) (w' : World) :
    (Instr.indexAt 36 (.slice A l.length c) (.int .i64 k)).run Try.prog w' = .ok (.pointer (some ⟨g, k * 2, none⟩)) w' := by
  rw [h.ad k hk]; exact ixSp hk w'
theorem enc_at (l : List (Nat × Nat)) : ∀ k, k < l.length → (enc l)[k * 2]? = some (.int .i64 (lo l k : Nat)) ∧ (enc l)[k * 2 + 1]? = some (.int .i64 (hi l k : Nat)) := by
  induction l with
  | nil => intro k hk; exact absurd hk (Nat.not_lt_zero _)
  | cons x r ih =>
    intro k hk
    have e : enc (x :: r) = .int .i64 (x.1 : Nat) :: .int .i64 (x.2 : Nat) :: enc r := by simp [enc]
    rw [e]
    cases k with
    | zero => exact ⟨rfl, rfl⟩
    | succ k =>
      have h := ih k (by simpa using hk)
      rw [show (k + 1) * 2 = k * 2 + 1 + 1 by omega]
      simp only [List.getElem?_cons_succ]
      exact ⟨h.1, h.2⟩
theorem SpIn.of_owns {w : World} {b : Nat} {v : Value} {l : List (Nat × Nat)} (h : w.ownsRow b 56 2 v l.length (enc l)) : ∃ A g c, v = .slice A l.length c ∧ SpIn w A g l := by
  have h0 := h
  obtain ⟨_, ⟨h1, h2⟩ | ⟨g, cap, cur, h1, h2, h3, h4, _⟩⟩ := h
  · refine ⟨none, 0, 0, by rw [h1, h2], fun k hk => ?_, fun k hk => ?_, fun k hk => ?_, fun k hk => ?_⟩ <;> omega
  · subst h1
    refine ⟨_, g, cap, rfl, fun k hk => rfl, fun k hk => (Array.getElem?_eq_some_iff.1 h3).1, fun k hk => ?_, fun k hk => ?_⟩
    · rw [h0.cellAt _ (by omega)]; exact (enc_at l k hk).1
    · rw [h0.cellAt _ (by omega)]; exact (enc_at l k hk).2
theorem ext_lohi {l m : List (Nat × Nat)} (hl : l.length = m.length) (h : ∀ k, k < l.length → lo l k = lo m k ∧ hi l k = hi m k) : l = m := by
  apply List.ext_getElem hl
  intro k h1 h2
  have := h k h1
  simp only [lo, hi, List.getD_eq_getElem?_getD, List.getElem?_eq_getElem h1, List.getElem?_eq_getElem h2, Option.getD_some] at this
  exact Prod.ext this.1 this.2

set_option maxRecDepth 100000 in
set_option maxHeartbeats 2000000 in
theorem c30y (A B : Option Addr) (a b c d : Nat) (l : List (Nat × Nat)) (w : World) (h1 : SpIn w A a l) (h2 : SpIn w B b l) (hl : l.length ≤ 10000) :
    Calls Try.prog 30 #[.slice A l.length c, .slice B l.length d] w fun e w' => e = .returned (.bool true) ∧ Below w.heap.size w w' := by
  obtain ⟨n, hn⟩ : ∃ n, n = l.length := ⟨_, rfl⟩
  have hnh := hid hn
  have ix1 := fun k hk => @SpIn.ix _ _ _ c _ h1 k hk
  have ix2 := fun k hk => @SpIn.ix _ _ _ d _ h2 k hk
  have ix1h := hid ix1
  have ix2h := hid ix2
  rw [← hn] at hl ix1h ix2h ⊢
  clear hn ix1 ix2
  go_enter Try.func30, Try.ntmps30
  go_wp2_with fail
  go_loopw [5] (fun iv wr => ∃ k : Nat, k ≤ n ∧ iv = .int .i64 k ∧ Below w.heap.size w wr) (fun iv _ => n - (intOf iv).toNat)
  case atStart => exact ⟨0, Nat.zero_le _, rfl, Below.refl _ _⟩
  case round =>
    obtain ⟨k, hk, rfl, hB⟩ := hrel
    by_cases hlt : k < n
    · have hlt' : k < l.length := by rw [← hnh.out]; exact hlt
      have k1 := (h1.below hB (Nat.le_refl _)).c1 k hlt'
      have k2 := (h1.below hB (Nat.le_refl _)).c2 k hlt'
      have k3 := (h2.below hB (Nat.le_refl _)).c1 k hlt'
      have k4 := (h2.below hB (Nat.le_refl _)).c2 k hlt'
      have j1 := ix1h.out k hlt
      have j2 := ix2h.out k hlt
      clear hlt'
      go_wp2_with fail
      go_quiet (fail)
      go_wp2
      go_roundw
      case rel => exact ⟨k + 1, by omega, by go_num, below_drewN hB _⟩
      case measure => simp [intOf]; omega
    · go_wp2_with fail
      go_returns
      exact ⟨rfl, hB⟩

theorem Ints.ixh {w : World} {A : Option Addr} {b o n c : Nat} {f : Nat → Int} (h : Ints w A b o n f) : ∀ k, k < n → ∀ w', (Instr.indexAt 28 (.slice A n c) (.int .i64 (k : Nat))).run Try.prog w' = .ok (.pointer (some ⟨b, o + k, none⟩)) w' := fun _ hk w' => h.ix hk w'
set_option maxRecDepth 100000 in
set_option maxHeartbeats 2000000 in
theorem c41y (A B : Option Addr) (a b ao bo n c d : Nat) (f : Nat → Int) (w : World) (h1 : Ints w A a ao n f) (h2 : Ints w B b bo n f) (hl : n ≤ 10000) :
    Calls Try.prog 41 #[.slice A n c, .slice B n d] w fun e w' => e = .returned (.bool true) ∧ Below w.heap.size w w' := by
  have ix1h := hid (h1.ixh (c := c))
  have ix2h := hid (h2.ixh (c := d))
  go_enter Try.func41, Try.ntmps41
  go_wp2_with fail
  go_loopw [5] (fun iv wr => ∃ k : Nat, k ≤ n ∧ iv = .int .i64 k ∧ Below w.heap.size w wr) (fun iv _ => n - (intOf iv).toNat)
  case atStart => exact ⟨0, Nat.zero_le _, rfl, Below.refl _ _⟩
  case round =>
    obtain ⟨k, hk, rfl, hB⟩ := hrel
    by_cases hlt : k < n
    · have k1 := (h1.below hB (Nat.le_refl _)).ce k hlt
      have k3 := (h2.below hB (Nat.le_refl _)).ce k hlt
      have j1 := ix1h.out k hlt
      have j2 := ix2h.out k hlt
      go_wp2_with fail
      go_quiet (fail)
      go_wp2
      go_roundw
      case rel => exact ⟨k + 1, by omega, by go_num, below_drewN hB _⟩
      case measure => simp [intOf]; omega
    · go_wp2_with fail
      go_returns
      exact ⟨rfl, hB⟩
end Go.Proofs.Ytkafjlhmbiaicaa

/- Stage 2: the examples. -/
set_option linter.unusedSimpArgs false
set_option linter.unusedVariables false
namespace Go.Proofs.Ytkafjlhmbiaicaa
open Go.RowKit

@[reducible] def exS (b : Nat) : Sv := { tr := 4, st := 4, mv := 2, no := 1, wr := 0, ra := some ⟨b, 0, none⟩, rb := b, ro := 0, rn := 2, rc := 2, rf := fun k => if k = 1 then 1 else 0 }
@[reducible] def exG (b : Nat) : Wg := { wa := some ⟨b, 0, none⟩, wb := b, wo := 0, wn := 3, wk := 3, wc := fun k => if k = 2 then 3 else 1, wu := fun k => if k = 2 then -1 else if k = 1 then 1 else 0 }
theorem exS_ok (b : Nat) : (exS b).Ok := by
  refine ⟨?_, ?_, ?_, ?_, ?_, ?_, ?_, ?_, ?_, ?_, ?_, ?_, fun k _ => ?_⟩
  all_goals (try dsimp only)
  all_goals first | omega | (split <;> omega)
theorem exG_ok (b : Nat) : (exG b).Ok := by
  refine ⟨?_, fun k _ => ?_, fun k _ => ?_⟩
  all_goals (try dsimp only)
  all_goals first | omega | (split <;> first | omega | (split <;> omega))
theorem ex_N (a : Nat) : (exS a).N = 13 := by simp [Sv.N]
theorem ex_m (a : Nat) : (exS a).m = 2 := by simp [Sv.m]
theorem ex_fl (a b : Nat) : fl (exS a) (exG b) = fl (exS 0) (exG 0) := rfl
theorem ex_mn : mn 13 (fl (exS 0) (exG 0)) = 0 := by decide +kernel
theorem ex_sp : spn (fun p => decide (fl (exS 0) (exG 0) p ≤ 0)) 13 = [(6, 8)] := by decide +kernel
theorem ex_g0 : ∀ p : Nat, p < 13 → mvn 13 2 (fl (exS 0) (exG 0)) 0 p ≤ 0 → -5 ≤ (p : Int) - 8 ∧ (p : Int) - 8 ≤ 5 := by decide +kernel
theorem ex_g1 : ∀ p : Nat, p < 13 → mvn 13 2 (fl (exS 0) (exG 0)) 1 p ≤ 0 → -5 ≤ (p : Int) - 9 ∧ (p : Int) - 9 ≤ 5 := by decide +kernel
theorem ex_g2 : ¬ ∀ p : Nat, p < 13 → mvn 13 2 (fl (exS 0) (exG 0)) 2 p ≤ 0 → -5 ≤ (p : Int) - 8 ∧ (p : Int) - 8 ≤ 5 := by decide +kernel
theorem ex_gate (a b : Nat) : gate (exS a) (exG b) 2 5 = 2 := by
  have h0 : gtP (exS a) (exG b) 2 5 0 := by
    unfold gtP nearP
    rw [show (exS a).at_ 2 ((exG b).wn + 0 - 1) = 8 by simp [Sv.at_], ex_fl, ex_N, ex_m]; exact ex_g0
  have h1 : gtP (exS a) (exG b) 2 5 1 := by
    unfold gtP nearP
    rw [show (exS a).at_ 2 ((exG b).wn + 1 - 1) = 9 by simp [Sv.at_], ex_fl, ex_N, ex_m]; exact ex_g1
  have h2 : ¬ gtP (exS a) (exG b) 2 5 2 := by
    unfold gtP nearP
    rw [show (exS a).at_ 2 ((exG b).wn + 2 - 1) = 8 by simp [Sv.at_], ex_fl, ex_N, ex_m]; exact ex_g2
  unfold gate
  rw [show (24 : Nat) = 24 - 0 by omega, gtF_yes (by omega) h0, gtF_yes (by omega) h1, gtF_no (by omega) h2]
theorem ex_ahE (a b : Nat) (told : Prop) (h : told) : ahE (exS a) (exG b) told = 0 := ahE_ok (ckE_ok (exS_ok a) (exG_ok b)) h (by rw [ex_N, ex_fl, ex_mn]; exact Int.le_refl _)
theorem ex_ahL (a b : Nat) : ahL (exS a) (exG b) True 0 = [(6, 8)] := by rw [ahL_ok (ex_ahE a b True trivial)]; unfold aheadL; rw [ex_N, ex_m, ex_fl]; exact ex_sp
theorem ex_gtA (a b : Nat) : gtA (exS a) (exG b) 2 5 = 2 := by
  have h : ahE (exS a) (exG b) (((0 : Int) ≤ 2 ∧ (2 : Int) ≤ (exS a).tr - 1) ∧ ((0 : Int) ≤ 5 ∧ (5 : Int) ≤ 16)) = 0 := ex_ahE a b _ ⟨⟨by decide, by show (2 : Int) ≤ 4 - 1; decide⟩, ⟨by decide, by decide⟩⟩
  unfold gtA
  rw [if_pos h, ex_gate]; rfl
/-- The examples are handed back, in new memory. -/
def ExRet (w : World) (e : Ending) (w' : World) : Prop := ∃ a b : Nat, e = .returned (.tuple #[(exS a).v, (exG b).v]) ∧ (exS a).In w' ∧ (exG b).In w' ∧ Below w.heap.size w w'
set_option maxRecDepth 100000 in
set_option maxHeartbeats 1000000 in
theorem c45 (w : World) : Calls Try.prog 45 #[] w (ExRet w) := by
  go_enter Try.func45, Try.ntmps45
  go_wp2_with fail
  refine bodyPost_ret (v := .tuple #[(exS (w.heap.size + 1)).v, (exG (w.heap.size + 2)).v]) (by simp [results, Try.results45, go_sem]) rfl ?_
  refine ⟨w.heap.size + 1, w.heap.size + 2, rfl, ⟨fun _ _ => rfl, fun _ _ => by simp, fun k hk => ?_⟩, ⟨fun _ _ => rfl, fun _ _ => by simp, fun k hk => ?_, fun k hk => ?_⟩, by (repeat' (first | (with_reducible exact Below.refl _ _) | (with_reducible assumption) | (with_reducible refine Below.alloc ?_ ?_ _) | (with_reducible refine Below.drew ?_) | (with_reducible refine below_drewN ?_ _) | (with_reducible refine Below.setCell ?_ ?_ _) | (with_reducible refine Below.trans ?_ (Below.mono (by with_reducible assumption) ?_)) | go_size))⟩
  · rcases (show k = 0 ∨ k = 1 by dsimp only at hk; omega) with rfl | rfl <;> simp [go_sem]
  · rcases (show k = 0 ∨ k = 1 ∨ k = 2 by dsimp only at hk; omega) with rfl | rfl | rfl <;> simp [go_sem]
  · rcases (show k = 0 ∨ k = 1 ∨ k = 2 by dsimp only at hk; omega) with rfl | rfl | rfl <;> simp [go_sem]

theorem spin_new (w : World) (a b : Nat) : SpIn (w.alloc (.cells #[.int .i64 (a : Nat), .int .i64 (b : Nat)] 56)) (some ⟨w.heap.size, 0, none⟩) w.heap.size [(a, b)] := by
  refine ⟨fun _ _ => rfl, fun _ _ => by simp, fun k hk => ?_, fun k hk => ?_⟩ <;> (obtain rfl : k = 0 := by simpa using hk) <;> simp [go_sem, lo, hi]
set_option maxRecDepth 100000 in
set_option maxHeartbeats 2000000 in
theorem c13 (w : World) : Calls Try.prog 13 #[] w fun e w' => e = .returned (.bool true) ∧ Below w.heap.size w w' := by
  go_enter Try.func13, Try.ntmps13
  go_wp2_with (first | (go_at_call 45; refine (c45 _).mono ?_; rintro e w1 ⟨a, b, rfl, hS, hG, hB1⟩; have hSh := hid hS; have hGh := hid hG; clear hS hG; have hz1 := hB1.size; have h1b : Below w1.heap.size w1 (w1.alloc (.cells #[.int .i64 4, .int .i64 4, .int .i64 2, .int .i64 1, .int .i64 0, .slice (some ⟨a, 0, none⟩) 2 2] 30)) := ((Below.refl _ _).alloc (Nat.le_refl _) _)) | (go_at_call 18; refine (c18 (exS a) (exG b) _ (hSh.out.below h1b (Nat.le_refl _)) (hGh.out.below h1b (Nat.le_refl _)) (by simp) (by simp)).mono ?_; rw [ex_ahE a b True trivial, ex_ahL a b]; rintro e w2 ⟨v, rfl, hown, hB2⟩; obtain ⟨va, vg, vc, rfl, hsp⟩ := SpIn.of_owns (l := [(6, 8)]) hown; have hz2 : w1.heap.size + 1 ≤ w2.heap.size := (by have := hB2.size; simp at this; omega); have hw2 : Below w1.heap.size w1 w2 := h1b.trans (hB2.mono (by simp)); have sb2 := Svb.below (Svb.new (exS a) w1) hB2 (by simp); obtain ⟨k0, k1, k2, k3, k4, k5⟩ := sb2.all) | (go_at_call 25; refine (c25 (exS a) (exG b) 2 5 _ (hSh.out.below hw2 (Nat.le_refl _)) (hGh.out.below hw2 (Nat.le_refl _)) (by simp) (by simp)).mono ?_; rw [ex_gtA a b, ex_ahE a b _ ⟨⟨by decide, by show (2 : Int) ≤ 4 - 1; decide⟩, ⟨by decide, by decide⟩⟩]; rintro e w3 ⟨rfl, hB3⟩; have hz3 : w1.heap.size + 1 ≤ w3.heap.size := (by have := hB3.size; omega); have hsp3 := hsp.below hB3 (Nat.le_refl _)) | (go_at_call 15; refine (c15 3 (by omega) _).mono ?_; rw [show trk 3 = 2 by decide +kernel]; rintro e w' ⟨rfl, rfl⟩) | (go_at_call 30; refine (c30y va (some ⟨w3.heap.size, 0, none⟩) vg w3.heap.size vc 1 [(6, 8)] _ (hsp3.below ((Below.refl _ _).alloc (Nat.le_refl _) _) (Nat.le_refl _)) (spin_new w3 6 8) (by simp)).mono ?_; rintro e w4 ⟨rfl, hB4⟩))
  go_ret
  have hw3 : Below w1.heap.size w1 w3 := hw2.trans (hB3.mono hw2.size)
  exact ⟨rfl, hB1.trans ((hw3.trans (((Below.refl _ _).alloc (Nat.le_refl _) _).trans (hB4.mono (by simp)) |>.mono hw3.size)).mono hz1)⟩
end Go.Proofs.Ytkafjlhmbiaicaa

/- Stage 2: the small functions of the reference. -/
set_option linter.unusedSimpArgs false
set_option linter.unusedVariables false
namespace Go.Proofs.Ytkafjlhmbiaicaa
open Go.RowKit

set_option maxHeartbeats 400000 in
theorem c27 (s : Sv) (w : World) (ok : s.Ok) : Calls Try.prog 27 #[s.v] w fun e w' => e = .returned (.int .i64 ((s.N : Int) - 1)) ∧ Below w.heap.size w w' := by
  have hN := ok.Nb
  have t1 := ok.t1; have t2 := ok.t2; have s1 := ok.s1; have s2 := ok.s2
  have b1 := hN.2.2.2.1; have b2 := hN.2.2.2.2; have e1 := hid hN.2.2.1
  clear hN ok
  go_enter Try.func27, Try.ntmps27
  go_wp2_with fail
  go_returns
  exact ⟨ret_eq (by have := e1.out; omega), by (repeat' (first | (with_reducible exact Below.refl _ _) | (with_reducible assumption) | (with_reducible refine Below.alloc ?_ ?_ _) | (with_reducible refine Below.drew ?_) | (with_reducible refine below_drewN ?_ _) | (with_reducible refine Below.setCell ?_ ?_ _) | (with_reducible refine Below.trans ?_ (Below.mono (by with_reducible assumption) ?_)) | go_size))⟩
def absI (n : Int) : Int := if n < 0 then -n else n
theorem absI_le {n m : Int} : absI n ≤ m ↔ (-m ≤ n ∧ n ≤ m) := by unfold absI; split <;> omega
theorem absI_bd {n m : Int} (h : -m ≤ n ∧ n ≤ m) : 0 ≤ absI n ∧ absI n ≤ m := by unfold absI; split <;> omega
set_option maxHeartbeats 400000 in
theorem c55 (n : Int) (w : World) (h : -1000000 ≤ n ∧ n ≤ 1000000) : Calls Try.prog 55 #[.int .i64 n] w fun e w' => e = .returned (.int .i64 (absI n)) ∧ w' = w := by
  by_cases hn : n < 0
  · have e1 := hid (show absI n = -n by unfold absI; rw [if_pos hn])
    go_enter Try.func55, Try.ntmps55
    go_wp2_with fail
    go_returns
    exact ⟨ret_eq e1.out.symm, rfl⟩
  · have e1 := hid (show absI n = n by unfold absI; rw [if_neg hn])
    by_cases h0 : n = 0
    · subst h0
      go_enter Try.func55, Try.ntmps55
      go_wp2_with fail
      go_returns
      exact ⟨ret_eq e1.out.symm, rfl⟩
    · have h1 : 0 < n := by omega
      clear h0
      go_enter Try.func55, Try.ntmps55
      go_wp2_with fail
      go_returns
      exact ⟨ret_eq e1.out.symm, rfl⟩
set_option maxHeartbeats 1000000 in
theorem c26 (s : Sv) (t x : Int) (i : Nat) (w : World) (hx : (x = i) ∨ (x < 0 ∧ -1000 ≤ x ∧ i = 0)) (hz : s.In w) (ok : s.Ok) (h0 : 0 ≤ t) (h1 : t ≤ 127) (hi : i ≤ 1000) :
    Calls Try.prog 26 #[s.v, .int .i64 t, .int .i64 x] w fun e w' => e = .returned (.int .i64 (s.at_ t i)) ∧ Below w.heap.size w w' := by
  have r1 := ok.r1; have r2 := ok.r2
  have hlt : i % s.rn < s.rn := Nat.mod_lt _ (by omega)
  have hb : 0 ≤ t * s.st ∧ t * s.st ≤ 2032 := ⟨Int.mul_nonneg h0 (by have := ok.s1; omega), by have h2 : t * s.st ≤ 127 * 16 := Int.mul_le_mul h1 ok.s2 (by have := ok.s1; omega) (by omega); omega⟩
  have hr := ok.ro _ hlt
  have e1 : IntKind.i64.wrap (t * s.st) = t * s.st := IntWalk.i64_in _ (by omega)
  have e2 : IntKind.i64.wrap (t * s.st + s.rf (i % s.rn)) = t * s.st + s.rf (i % s.rn) := IntWalk.i64_in _ (by omega)
  have e3 : (i : Int).tmod (s.rn : Int) = ((i % s.rn : Nat) : Int) := by rw [Int.tmod_eq_emod_of_nonneg (by omega)]; omega
  have c1 := hz.ce _ hlt; have c3 := hz.lt _ hlt; have c4 := @Ints.ix _ _ _ _ _ s.rc _ hz _ hlt
  have hrn : ¬ s.rn = 0 := by omega
  have hrn2 : ((s.rn : Int) == 0) = false := by simpa using hrn
  rcases hx with rfl | ⟨hx0, hx2, rfl⟩
  · rw [Int.natCast_emod] at e3
    have c4' : ∀ w', (Instr.indexAt 28 (.slice s.ra s.rn s.rc) (.int .i64 ((i : Int) % (s.rn : Int)))).run Try.prog w' = .ok (.pointer (some ⟨s.rb, s.ro + i % s.rn, none⟩)) w' := by intro w'; rw [← Int.natCast_emod]; exact c4 w'
    clear ok hb hr hlt c4
    by_cases hi0 : i = 0
    · subst hi0
      simp only [Nat.zero_mod, Nat.add_zero] at e2 e3 c1 c4'
      rw [show ((0 : Nat) : Int) = 0 by rfl] at e3 c4' ⊢
      have e4 : (0 : Int) % (s.rn : Int) = 0 := by simp
      rw [e4] at e3 c4'
      go_enter Try.func26, Try.ntmps26
      go_wp2_with fail
      go_quiet (fail)
      go_wp2
      go_returns
      exact ⟨ret_eq (by unfold Sv.at_; rw [Nat.zero_mod]), by (repeat' (first | (with_reducible exact Below.refl _ _) | (with_reducible assumption) | (with_reducible refine Below.alloc ?_ ?_ _) | (with_reducible refine Below.drew ?_) | (with_reducible refine below_drewN ?_ _) | (with_reducible refine Below.setCell ?_ ?_ _) | (with_reducible refine Below.trans ?_ (Below.mono (by with_reducible assumption) ?_)) | go_size))⟩
    · have hi1 : 0 < i := by omega
      clear hi0
      go_enter Try.func26, Try.ntmps26
      go_wp2_with fail
      go_quiet (fail)
      go_wp2
      go_returns
      exact ⟨rfl, by (repeat' (first | (with_reducible exact Below.refl _ _) | (with_reducible assumption) | (with_reducible refine Below.alloc ?_ ?_ _) | (with_reducible refine Below.drew ?_) | (with_reducible refine below_drewN ?_ _) | (with_reducible refine Below.setCell ?_ ?_ _) | (with_reducible refine Below.trans ?_ (Below.mono (by with_reducible assumption) ?_)) | go_size))⟩
  · have e4 : (0 : Int).tmod (s.rn : Int) = 0 := by simp
    simp only [Nat.zero_mod, Nat.add_zero] at e2 e3 c1 c4
    have hif : (if 0 < x then x else 0) = 0 := by rw [if_neg (by omega)]
    rw [show ((0 : Nat) : Int) = 0 by rfl] at e3 c4
    clear ok hb hr hlt
    go_enter Try.func26, Try.ntmps26
    go_wp2_with fail
    go_quiet (fail)
    go_wp2
    go_returns
    exact ⟨ret_eq (by unfold Sv.at_; rw [Nat.zero_mod]), by (repeat' (first | (with_reducible exact Below.refl _ _) | (with_reducible assumption) | (with_reducible refine Below.alloc ?_ ?_ _) | (with_reducible refine Below.drew ?_) | (with_reducible refine below_drewN ?_ _) | (with_reducible refine Below.setCell ?_ ?_ _) | (with_reducible refine Below.trans ?_ (Below.mono (by with_reducible assumption) ?_)) | go_size))⟩

/-- Whether a wedge agrees, over the numbers of the wedge. -/
theorem agr_ref {s : Sv} {g : Wg} {i p : Nat} : agr s g i p = true ↔ (g.wc i = -1 ∨ ((trk (g.wc i).toNat : Int) < s.tr ∧ 2 * absI ((p : Int) - s.at_ (trk (g.wc i).toNat) i) ≤ s.st ∧ absI (g.wu i - ((p : Int) - s.at_ (trk (g.wc i).toNat) i)) ≤ s.no)) := by
  by_cases h : g.wc i = -1
  · simp [agr_nothing h, h]
  · by_cases h2 : (trk (g.wc i).toNat : Int) < s.tr
    · rw [agr_iff h h2]
      simp only [h, h2, false_or, true_and, absI_le]
      constructor
      · rintro ⟨h3, h4⟩; refine ⟨?_, h4⟩; have := absI_le.2 (show -(absI ((p : Int) - s.at_ (trk (g.wc i).toNat) i)) ≤ ((p : Int) - s.at_ (trk (g.wc i).toNat) i) ∧ ((p : Int) - s.at_ (trk (g.wc i).toNat) i) ≤ absI ((p : Int) - s.at_ (trk (g.wc i).toNat) i) by unfold absI; split <;> omega); unfold absI; split <;> omega
      · rintro ⟨h3, h4⟩; refine ⟨?_, h4⟩; unfold absI at h3; split at h3 <;> omega
    · simp [agr_other h h2, h, h2]
end Go.Proofs.Ytkafjlhmbiaicaa

/- Stage 2: whether a wedge agrees, as the reference says it. -/
set_option linter.unusedSimpArgs false
set_option linter.unusedVariables false
namespace Go.Proofs.Ytkafjlhmbiaicaa
open Go.RowKit

theorem Sv.Ok.atw {s : Sv} (ok : s.Ok) {t : Int} (h0 : 0 ≤ t) (h1 : t ≤ 127) (i : Nat) : -16 ≤ s.at_ t i ∧ s.at_ t i ≤ 2048 := by
  have h2 : t * s.st ≤ 127 * 16 := Int.mul_le_mul h1 ok.s2 (by have := ok.s1; omega) (by omega)
  have h4 := Int.mul_nonneg h0 (show 0 ≤ s.st by have := ok.s1; omega)
  have h3 := ok.ro (i % s.rn) (Nat.mod_lt _ (by have := ok.r1; omega))
  unfold Sv.at_
  omega
set_option maxHeartbeats 4000000 in
theorem c23y (s : Sv) (g : Wg) (i p : Nat) (w : World) (hz : s.In w) (ok : s.Ok) (okg : g.Ok) (hi : i < g.wn) (hp : p ≤ 1009) (hy : agr s g i p = true) :
    Calls Try.prog 23 #[s.v, .agg #[.int .i64 (g.wc i), .int .i64 (g.wu i)], .int .i64 (i : Nat), .int .i64 (p : Nat)] w fun e w' => e = .returned (.bool true) ∧ Below w.heap.size w w' := by
  have hn := okg.n2
  have hc := okg.c i hi
  have hu := okg.u i hi
  have s1 := ok.s1; have s2 := ok.s2; have n0 := ok.n0; have n1 := ok.n1; have t2 := ok.t2
  have hr := agr_ref.1 hy
  have okh := hid ok
  obtain ⟨cc, hcc⟩ : ∃ cc, cc = g.wc i := ⟨_, rfl⟩
  obtain ⟨uu, huu⟩ : ∃ uu, uu = g.wu i := ⟨_, rfl⟩
  rw [← hcc, ← huu] at hr ⊢
  rw [← hcc] at hc
  rw [← huu] at hu
  by_cases hm : cc = -1
  · subst hm
    clear hr hy ok okg
    go_enter Try.func23, Try.ntmps23
    go_wp2_with fail
    go_returns
    exact ⟨rfl, by (repeat' (first | (with_reducible exact Below.refl _ _) | (with_reducible assumption) | (with_reducible refine Below.alloc ?_ ?_ _) | (with_reducible refine Below.drew ?_) | (with_reducible refine below_drewN ?_ _) | (with_reducible refine Below.setCell ?_ ?_ _) | (with_reducible refine Below.trans ?_ (Below.mono (by with_reducible assumption) ?_)) | go_size))⟩
  · obtain ⟨k, rfl⟩ : ∃ k : Nat, cc = k := ⟨cc.toNat, by omega⟩
    have hk1 : k < 128 := by omega
    have htl := trk_lt hk1
    rw [show ((k : Int).toNat) = k by omega] at hr
    obtain ⟨h1, h2, h3⟩ := hr.resolve_left hm
    have hat := ok.atw (show (0 : Int) ≤ trk k by omega) (by omega) i
    obtain ⟨x, hx⟩ : ∃ x, x = s.at_ (trk k) i := ⟨_, rfl⟩
    rw [← hx] at h2 h3 hat
    have hxh := hid hx
    have ha := absI_bd (n := (p : Int) - x) (m := 3100) (by omega)
    have e1 : IntKind.i64.wrap (2 * absI ((p : Int) - x)) = 2 * absI ((p : Int) - x) := IntWalk.i64_in _ (by omega)
    have e2 : IntKind.i64.wrap (uu - ((p : Int) - x)) = uu - ((p : Int) - x) := IntWalk.i64_in _ (by omega)
    have hm' : ((k : Int) == -1) = false := by first | (simp; done) | (simp; omega)
    have t0 : trkA (k : Int) = trk k := by unfold trkA; rw [if_pos (by omega)]; rfl
    have t1 : argE (k : Int) = 0 := by unfold argE; rw [if_pos (by omega)]
    clear hr hy ok okg hm hcc hx huu
    go_enter Try.func23, Try.ntmps23
    go_wp2_with (first | (go_at_call 33; refine (c33 _ _).mono ?_; rintro e w' ⟨rfl, rfl⟩) | (go_at_call 26; refine (c26 s (trk k) i i _ (.inl rfl) (hz.below (by (repeat' (first | (with_reducible exact Below.refl _ _) | (with_reducible assumption) | (with_reducible refine Below.alloc ?_ ?_ _) | (with_reducible refine Below.drew ?_) | (with_reducible refine below_drewN ?_ _) | (with_reducible refine Below.setCell ?_ ?_ _) | (with_reducible refine Below.trans ?_ (Below.mono (by with_reducible assumption) ?_)) | go_size))) (Nat.le_refl _)) okh.out (by omega) (by omega) (by omega)).mono ?_; rw [← hxh.out]; rintro e w1 ⟨rfl, hB1⟩; obtain ⟨hc1, hf1⟩ := bcell (hB1.mono (show w.heap.size + 2 ≤ _ by simp)); have hz1 : w.heap.size + 1 < w1.heap.size := (by have := hB1.size; simp at this; omega); have k0 : w1.cell? ⟨w.heap.size, 0, none⟩ = some (.int .i64 s.tr) := (by rw [hc1 _ _ (by omega)]; simp); have k1 : w1.cell? ⟨w.heap.size, 1, none⟩ = some (.int .i64 s.st) := (by rw [hc1 _ _ (by omega)]; simp); have k3 : w1.cell? ⟨w.heap.size, 3, none⟩ = some (.int .i64 s.no) := (by rw [hc1 _ _ (by omega)]; simp); have k4 : w1.cell? ⟨w.heap.size + 1, 1, none⟩ = some (.int .i64 uu) := (by rw [hc1 _ _ (by omega)]; simp); clear hc1 hf1))
    go_quiet ((go_at_call 55; exact Calls.quiet_of_same (c55 _ _ (by omega))))
    go_wp2
    go_returns
    exact ⟨rfl, below_drewN (Below.trans (show Below w.heap.size w _ by (repeat' (first | (with_reducible exact Below.refl _ _) | (with_reducible assumption) | (with_reducible refine Below.alloc ?_ ?_ _) | (with_reducible refine Below.drew ?_) | (with_reducible refine below_drewN ?_ _) | (with_reducible refine Below.setCell ?_ ?_ _) | (with_reducible refine Below.trans ?_ (Below.mono (by with_reducible assumption) ?_)) | go_size))) (hB1.mono (by simp; omega))) _⟩
set_option maxHeartbeats 4000000 in
theorem c23n (s : Sv) (g : Wg) (i p : Nat) (w : World) (hz : s.In w) (ok : s.Ok) (okg : g.Ok) (hi : i < g.wn) (hp : p ≤ 1009) (hy : agr s g i p = false) :
    Calls Try.prog 23 #[s.v, .agg #[.int .i64 (g.wc i), .int .i64 (g.wu i)], .int .i64 (i : Nat), .int .i64 (p : Nat)] w fun e w' => e = .returned (.bool false) ∧ Below w.heap.size w w' := by
  have hn := okg.n2
  have hc := okg.c i hi
  have hu := okg.u i hi
  have s1 := ok.s1; have s2 := ok.s2; have n0 := ok.n0; have n1 := ok.n1; have t2 := ok.t2
  have hr := mt agr_ref.2 (show ¬ agr s g i p = true by rw [hy]; simp)
  have okh := hid ok
  obtain ⟨cc, hcc⟩ : ∃ cc, cc = g.wc i := ⟨_, rfl⟩
  obtain ⟨uu, huu⟩ : ∃ uu, uu = g.wu i := ⟨_, rfl⟩
  rw [← hcc, ← huu] at hr ⊢
  rw [← hcc] at hc
  rw [← huu] at hu
  have hm : ¬ cc = -1 := fun h => hr (.inl h)
  · obtain ⟨k, rfl⟩ : ∃ k : Nat, cc = k := ⟨cc.toNat, by omega⟩
    have hk1 : k < 128 := by omega
    have htl := trk_lt hk1
    rw [show ((k : Int).toNat) = k by omega] at hr
    have hr' := fun h => hr (.inr h)
    clear hr
    have hat := ok.atw (show (0 : Int) ≤ trk k by omega) (by omega) i
    obtain ⟨x, hx⟩ : ∃ x, x = s.at_ (trk k) i := ⟨_, rfl⟩
    rw [← hx] at hr' hat
    have hxh := hid hx
    have ha := absI_bd (n := (p : Int) - x) (m := 3100) (by omega)
    have e1 : IntKind.i64.wrap (2 * absI ((p : Int) - x)) = 2 * absI ((p : Int) - x) := IntWalk.i64_in _ (by omega)
    have e2 : IntKind.i64.wrap (uu - ((p : Int) - x)) = uu - ((p : Int) - x) := IntWalk.i64_in _ (by omega)
    have hm' : ((k : Int) == -1) = false := by first | (simp; done) | (simp; omega)
    have t0 : trkA (k : Int) = trk k := by unfold trkA; rw [if_pos (by omega)]; rfl
    have t1 : argE (k : Int) = 0 := by unfold argE; rw [if_pos (by omega)]
    clear hy ok okg hm hcc hx huu
    by_cases h1 : (trk k : Int) < s.tr
    · by_cases h2 : 2 * absI ((p : Int) - x) ≤ s.st
      · have h3 : ¬ absI (uu - ((p : Int) - x)) ≤ s.no := fun h3 => hr' ⟨h1, h2, h3⟩
        have h3' : s.no < absI (uu - ((p : Int) - x)) := by omega
        have h3d : decide (absI (uu - ((p : Int) - x)) ≤ s.no) = false := by simpa using h3'
        clear hr' h3
        go_enter Try.func23, Try.ntmps23
        go_wp2_with (first | (go_at_call 33; refine (c33 _ _).mono ?_; rintro e w' ⟨rfl, rfl⟩) | (go_at_call 26; refine (c26 s (trk k) i i _ (.inl rfl) (hz.below (by (repeat' (first | (with_reducible exact Below.refl _ _) | (with_reducible assumption) | (with_reducible refine Below.alloc ?_ ?_ _) | (with_reducible refine Below.drew ?_) | (with_reducible refine below_drewN ?_ _) | (with_reducible refine Below.setCell ?_ ?_ _) | (with_reducible refine Below.trans ?_ (Below.mono (by with_reducible assumption) ?_)) | go_size))) (Nat.le_refl _)) okh.out (by omega) (by omega) (by omega)).mono ?_; rw [← hxh.out]; rintro e w1 ⟨rfl, hB1⟩; obtain ⟨hc1, hf1⟩ := bcell (hB1.mono (show w.heap.size + 2 ≤ _ by simp)); have hz1 : w.heap.size + 1 < w1.heap.size := (by have := hB1.size; simp at this; omega); have k0 : w1.cell? ⟨w.heap.size, 0, none⟩ = some (.int .i64 s.tr) := (by rw [hc1 _ _ (by omega)]; simp); have k1 : w1.cell? ⟨w.heap.size, 1, none⟩ = some (.int .i64 s.st) := (by rw [hc1 _ _ (by omega)]; simp); have k3 : w1.cell? ⟨w.heap.size, 3, none⟩ = some (.int .i64 s.no) := (by rw [hc1 _ _ (by omega)]; simp); have k4 : w1.cell? ⟨w.heap.size + 1, 1, none⟩ = some (.int .i64 uu) := (by rw [hc1 _ _ (by omega)]; simp); clear hc1 hf1))
        go_quiet ((go_at_call 55; exact Calls.quiet_of_same (c55 _ _ (by omega))))
        go_wp2
        go_returns
        exact ⟨rfl, below_drewN (Below.trans (show Below w.heap.size w _ by (repeat' (first | (with_reducible exact Below.refl _ _) | (with_reducible assumption) | (with_reducible refine Below.alloc ?_ ?_ _) | (with_reducible refine Below.drew ?_) | (with_reducible refine below_drewN ?_ _) | (with_reducible refine Below.setCell ?_ ?_ _) | (with_reducible refine Below.trans ?_ (Below.mono (by with_reducible assumption) ?_)) | go_size))) (hB1.mono (by simp; omega))) _⟩
      · have h2' : s.st < 2 * absI ((p : Int) - x) := by omega
        have h2d : decide (2 * absI ((p : Int) - x) ≤ s.st) = false := by simpa using h2'
        clear hr' h2
        go_enter Try.func23, Try.ntmps23
        go_wp2_with (first | (go_at_call 33; refine (c33 _ _).mono ?_; rintro e w' ⟨rfl, rfl⟩) | (go_at_call 26; refine (c26 s (trk k) i i _ (.inl rfl) (hz.below (by (repeat' (first | (with_reducible exact Below.refl _ _) | (with_reducible assumption) | (with_reducible refine Below.alloc ?_ ?_ _) | (with_reducible refine Below.drew ?_) | (with_reducible refine below_drewN ?_ _) | (with_reducible refine Below.setCell ?_ ?_ _) | (with_reducible refine Below.trans ?_ (Below.mono (by with_reducible assumption) ?_)) | go_size))) (Nat.le_refl _)) okh.out (by omega) (by omega) (by omega)).mono ?_; rw [← hxh.out]; rintro e w1 ⟨rfl, hB1⟩; obtain ⟨hc1, hf1⟩ := bcell (hB1.mono (show w.heap.size + 2 ≤ _ by simp)); have hz1 : w.heap.size + 1 < w1.heap.size := (by have := hB1.size; simp at this; omega); have k0 : w1.cell? ⟨w.heap.size, 0, none⟩ = some (.int .i64 s.tr) := (by rw [hc1 _ _ (by omega)]; simp); have k1 : w1.cell? ⟨w.heap.size, 1, none⟩ = some (.int .i64 s.st) := (by rw [hc1 _ _ (by omega)]; simp); have k3 : w1.cell? ⟨w.heap.size, 3, none⟩ = some (.int .i64 s.no) := (by rw [hc1 _ _ (by omega)]; simp); have k4 : w1.cell? ⟨w.heap.size + 1, 1, none⟩ = some (.int .i64 uu) := (by rw [hc1 _ _ (by omega)]; simp); clear hc1 hf1))
        go_quiet ((go_at_call 55; exact Calls.quiet_of_same (c55 _ _ (by omega))))
        go_wp2
        go_returns
        exact ⟨rfl, below_drewN (Below.trans (show Below w.heap.size w _ by (repeat' (first | (with_reducible exact Below.refl _ _) | (with_reducible assumption) | (with_reducible refine Below.alloc ?_ ?_ _) | (with_reducible refine Below.drew ?_) | (with_reducible refine below_drewN ?_ _) | (with_reducible refine Below.setCell ?_ ?_ _) | (with_reducible refine Below.trans ?_ (Below.mono (by with_reducible assumption) ?_)) | go_size))) (hB1.mono (by simp; omega))) _⟩
    · have h1' : s.tr ≤ (trk k : Int) := by omega
      have h1d : decide ((trk k : Int) < s.tr) = false := by simpa using h1'
      clear hr' h1
      go_enter Try.func23, Try.ntmps23
      go_wp2_with (first | (go_at_call 33; refine (c33 _ _).mono ?_; rintro e w' ⟨rfl, rfl⟩) | (go_at_call 26; refine (c26 s (trk k) i i _ (.inl rfl) (hz.below (by (repeat' (first | (with_reducible exact Below.refl _ _) | (with_reducible assumption) | (with_reducible refine Below.alloc ?_ ?_ _) | (with_reducible refine Below.drew ?_) | (with_reducible refine below_drewN ?_ _) | (with_reducible refine Below.setCell ?_ ?_ _) | (with_reducible refine Below.trans ?_ (Below.mono (by with_reducible assumption) ?_)) | go_size))) (Nat.le_refl _)) okh.out (by omega) (by omega) (by omega)).mono ?_; rw [← hxh.out]; rintro e w1 ⟨rfl, hB1⟩; obtain ⟨hc1, hf1⟩ := bcell (hB1.mono (show w.heap.size + 2 ≤ _ by simp)); have hz1 : w.heap.size + 1 < w1.heap.size := (by have := hB1.size; simp at this; omega); have k0 : w1.cell? ⟨w.heap.size, 0, none⟩ = some (.int .i64 s.tr) := (by rw [hc1 _ _ (by omega)]; simp); have k1 : w1.cell? ⟨w.heap.size, 1, none⟩ = some (.int .i64 s.st) := (by rw [hc1 _ _ (by omega)]; simp); have k3 : w1.cell? ⟨w.heap.size, 3, none⟩ = some (.int .i64 s.no) := (by rw [hc1 _ _ (by omega)]; simp); have k4 : w1.cell? ⟨w.heap.size + 1, 1, none⟩ = some (.int .i64 uu) := (by rw [hc1 _ _ (by omega)]; simp); clear hc1 hf1))
      go_quiet ((go_at_call 55; exact Calls.quiet_of_same (c55 _ _ (by omega))))
      go_wp2
      go_returns
      exact ⟨rfl, below_drewN (Below.trans (show Below w.heap.size w _ by (repeat' (first | (with_reducible exact Below.refl _ _) | (with_reducible assumption) | (with_reducible refine Below.alloc ?_ ?_ _) | (with_reducible refine Below.drew ?_) | (with_reducible refine below_drewN ?_ _) | (with_reducible refine Below.setCell ?_ ?_ _) | (with_reducible refine Below.trans ?_ (Below.mono (by with_reducible assumption) ?_)) | go_size))) (hB1.mono (by simp; omega))) _⟩
end Go.Proofs.Ytkafjlhmbiaicaa
