/- Stage 2: two lists of spans, two lists of numbers compared. -/
import Derived.Test.YtfpfnjdnfiihhaaV
set_option linter.unusedSimpArgs false
set_option linter.unusedVariables false
namespace Go.Proofs.Ytfpfnjdnfiihhaa
open Go.RowKit

/-- The servo's box. -/
def Svb (s : Sv) (w : World) (b : Nat) : Prop := w.cell? ⟨b, 0, none⟩ = some (.int .i64 s.tr) ∧ w.cell? ⟨b, 1, none⟩ = some (.int .i64 s.st) ∧ w.cell? ⟨b, 2, none⟩ = some (.int .i64 s.mv) ∧ w.cell? ⟨b, 3, none⟩ = some (.int .i64 s.no) ∧ w.cell? ⟨b, 4, none⟩ = some (.int .i64 s.wr) ∧ w.cell? ⟨b, 5, none⟩ = some (.slice s.ra s.rn s.rc)
theorem Svb.all {s : Sv} {w : World} {b : Nat} (h : Svb s w b) : w.cell? ⟨b, 0, none⟩ = some (.int .i64 s.tr) ∧ w.cell? ⟨b, 1, none⟩ = some (.int .i64 s.st) ∧ w.cell? ⟨b, 2, none⟩ = some (.int .i64 s.mv) ∧ w.cell? ⟨b, 3, none⟩ = some (.int .i64 s.no) ∧ w.cell? ⟨b, 4, none⟩ = some (.int .i64 s.wr) ∧ w.cell? ⟨b, 5, none⟩ = some (.slice s.ra s.rn s.rc) := h
theorem Svb.keep {s : Sv} {w w' : World} {b : Nat} (h : Svb s w b) (k : ∀ o, w'.cell? ⟨b, o, none⟩ = w.cell? ⟨b, o, none⟩) : Svb s w' b := by
  obtain ⟨b0, b1, b2, b3, b4, b5⟩ := h
  exact ⟨(k _).trans b0, (k _).trans b1, (k _).trans b2, (k _).trans b3, (k _).trans b4, (k _).trans b5⟩
theorem Svb.below {s : Sv} {w w' : World} {b B : Nat} (h : Svb s w b) (hb : Below B w w') (hB : b < B) : Svb s w' b := h.keep fun o => hb.cell (p := ⟨b, o, none⟩) hB
theorem Svb.new (s : Sv) (w : World) : Svb s (w.alloc (.cells #[.int .i64 s.tr, .int .i64 s.st, .int .i64 s.mv, .int .i64 s.no, .int .i64 s.wr, .slice s.ra s.rn s.rc] 30)) w.heap.size := by
  unfold Svb
  simp
def lo (l : List (Nat × Nat)) (k : Nat) : Nat := (l.getD k (0, 0)).1
def hi (l : List (Nat × Nat)) (k : Nat) : Nat := (l.getD k (0, 0)).2
/-- A slice value that holds the spans l. -/
structure SpIn (w : World) (A : Option Addr) (g : Nat) (l : List (Nat × Nat)) : Prop where
  ad : ∀ k, k < l.length → A = some ⟨g, 0, none⟩
  lt : ∀ k, k < l.length → g < w.heap.size
  c1 : ∀ k, k < l.length → w.cell? ⟨g, k * 2, none⟩ = some (.int .i64 (lo l k : Nat))
  c2 : ∀ k, k < l.length → w.cell? ⟨g, k * 2 + 1, none⟩ = some (.int .i64 (hi l k : Nat))
theorem SpIn.below {w w' : World} {B : Nat} {A : Option Addr} {g : Nat} {l : List (Nat × Nat)} (h : SpIn w A g l) (hb : Below B w w') (hB : w.heap.size ≤ B) : SpIn w' A g l :=
  ⟨h.ad, fun k hk => Nat.lt_of_lt_of_le (h.lt k hk) hb.size, fun k hk => (hb.cell (p := ⟨g, k * 2, none⟩) (Nat.lt_of_lt_of_le (h.lt k hk) hB)).trans (h.c1 k hk), fun k hk => (hb.cell (p := ⟨g, k * 2 + 1, none⟩) (Nat.lt_of_lt_of_le (h.lt k hk) hB)).trans (h.c2 k hk)⟩
theorem SpIn.ix {w : World} {A : Option Addr} {g c : Nat} {l : List (Nat × Nat)} (h : SpIn w A g l) {k : Nat} (hk : k < l.length) (w' : World) :
    (Instr.indexAt 36 (.slice A l.length c) (.int .i64 k)).run Try.prog w' = .ok (.pointer (some ⟨g, k * 2, none⟩)) w' := by
  rw [h.ad k hk]; exact ixSp hk w'
theorem enc_at (l : List (Nat × Nat)) : ∀ k, k < l.length → (enc l)[k * 2]? = some (.int .i64 (lo l k : Nat)) ∧ (enc l)[k * 2 + 1]? = some (.int .i64 (hi l k : Nat)) := by
  induction l with
  | nil => intro k hk; exact absurd hk (Nat.not_lt_zero _)
  | cons x r ih =>
    intro k hk
    have e : enc (x :: r) = .int .i64 (x.1 : Nat) :: .int .i64 (x.2 : Nat) :: enc r := by simp [enc]
    rw [e]
    cases k with
    | zero => exact ⟨rfl, rfl⟩
    | succ k =>
      have h := ih k (by simpa using hk)
      rw [show (k + 1) * 2 = k * 2 + 1 + 1 by omega]
      simp only [List.getElem?_cons_succ]
      exact ⟨h.1, h.2⟩
theorem SpIn.of_owns {w : World} {b : Nat} {v : Value} {l : List (Nat × Nat)} (h : w.ownsRow b 56 2 v l.length (enc l)) : ∃ A g c, v = .slice A l.length c ∧ SpIn w A g l := by
  have h0 := h
  obtain ⟨_, ⟨h1, h2⟩ | ⟨g, cap, cur, h1, h2, h3, h4, _⟩⟩ := h
  · refine ⟨none, 0, 0, by rw [h1, h2], fun k hk => ?_, fun k hk => ?_, fun k hk => ?_, fun k hk => ?_⟩ <;> omega
  · subst h1
    refine ⟨_, g, cap, rfl, fun k hk => rfl, fun k hk => (Array.getElem?_eq_some_iff.1 h3).1, fun k hk => ?_, fun k hk => ?_⟩
    · rw [h0.cellAt _ (by omega)]; exact (enc_at l k hk).1
    · rw [h0.cellAt _ (by omega)]; exact (enc_at l k hk).2
theorem ext_lohi {l m : List (Nat × Nat)} (hl : l.length = m.length) (h : ∀ k, k < l.length → lo l k = lo m k ∧ hi l k = hi m k) : l = m := by
  apply List.ext_getElem hl
  intro k h1 h2
  have := h k h1
  simp only [lo, hi, List.getD_eq_getElem?_getD, List.getElem?_eq_getElem h1, List.getElem?_eq_getElem h2, Option.getD_some] at this
  exact Prod.ext this.1 this.2

set_option maxRecDepth 100000 in
set_option maxHeartbeats 2000000 in
theorem c30y (A B : Option Addr) (a b c d : Nat) (l : List (Nat × Nat)) (w : World) (h1 : SpIn w A a l) (h2 : SpIn w B b l) (hl : l.length ≤ 10000) :
    Calls Try.prog 30 #[.slice A l.length c, .slice B l.length d] w fun e w' => e = .returned (.bool true) ∧ Below w.heap.size w w' := by
  obtain ⟨n, hn⟩ : ∃ n, n = l.length := ⟨_, rfl⟩
  have hnh := hid hn
  have ix1 := fun k hk => @SpIn.ix _ _ _ c _ h1 k hk
  have ix2 := fun k hk => @SpIn.ix _ _ _ d _ h2 k hk
  have ix1h := hid ix1
  have ix2h := hid ix2
  rw [← hn] at hl ix1h ix2h ⊢
  clear hn ix1 ix2
  go_enter Try.func30, Try.ntmps30
  go_wp2_with fail
  go_loopw [5] (fun iv wr => ∃ k : Nat, k ≤ n ∧ iv = .int .i64 k ∧ Below w.heap.size w wr) (fun iv _ => n - (intOf iv).toNat)
  case atStart => exact ⟨0, Nat.zero_le _, rfl, Below.refl _ _⟩
  case round =>
    obtain ⟨k, hk, rfl, hB⟩ := hrel
    by_cases hlt : k < n
    · have hlt' : k < l.length := by rw [← hnh.out]; exact hlt
      have k1 := (h1.below hB (Nat.le_refl _)).c1 k hlt'
      have k2 := (h1.below hB (Nat.le_refl _)).c2 k hlt'
      have k3 := (h2.below hB (Nat.le_refl _)).c1 k hlt'
      have k4 := (h2.below hB (Nat.le_refl _)).c2 k hlt'
      have j1 := ix1h.out k hlt
      have j2 := ix2h.out k hlt
      clear hlt'
      go_wp2_with fail
      go_quiet (fail)
      go_wp2
      go_roundw
      case rel => exact ⟨k + 1, by omega, by go_num, below_drewN hB _⟩
      case measure => simp [intOf]; omega
    · go_wp2_with fail
      go_returns
      exact ⟨rfl, hB⟩

theorem Ints.ixh {w : World} {A : Option Addr} {b o n c : Nat} {f : Nat → Int} (h : Ints w A b o n f) : ∀ k, k < n → ∀ w', (Instr.indexAt 28 (.slice A n c) (.int .i64 (k : Nat))).run Try.prog w' = .ok (.pointer (some ⟨b, o + k, none⟩)) w' := fun _ hk w' => h.ix hk w'
set_option maxRecDepth 100000 in
set_option maxHeartbeats 2000000 in
theorem c41y (A B : Option Addr) (a b ao bo n c d : Nat) (f : Nat → Int) (w : World) (h1 : Ints w A a ao n f) (h2 : Ints w B b bo n f) (hl : n ≤ 10000) :
    Calls Try.prog 41 #[.slice A n c, .slice B n d] w fun e w' => e = .returned (.bool true) ∧ Below w.heap.size w w' := by
  have ix1h := hid (h1.ixh (c := c))
  have ix2h := hid (h2.ixh (c := d))
  go_enter Try.func41, Try.ntmps41
  go_wp2_with fail
  go_loopw [5] (fun iv wr => ∃ k : Nat, k ≤ n ∧ iv = .int .i64 k ∧ Below w.heap.size w wr) (fun iv _ => n - (intOf iv).toNat)
  case atStart => exact ⟨0, Nat.zero_le _, rfl, Below.refl _ _⟩
  case round =>
    obtain ⟨k, hk, rfl, hB⟩ := hrel
    by_cases hlt : k < n
    · have k1 := (h1.below hB (Nat.le_refl _)).ce k hlt
      have k3 := (h2.below hB (Nat.le_refl _)).ce k hlt
      have j1 := ix1h.out k hlt
      have j2 := ix2h.out k hlt
      go_wp2_with fail
      go_quiet (fail)
      go_wp2
      go_roundw
      case rel => exact ⟨k + 1, by omega, by go_num, below_drewN hB _⟩
      case measure => simp [intOf]; omega
    · go_wp2_with fail
      go_returns
      exact ⟨rfl, hB⟩
end Go.Proofs.Ytfpfnjdnfiihhaa
