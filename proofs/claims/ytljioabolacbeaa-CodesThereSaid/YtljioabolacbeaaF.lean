/- Stage 4: whether all rows have so many numbers, each of them below a bound. -/
import Derived.Test.YtljioabolacbeaaE
set_option linter.unusedSimpArgs false
set_option linter.unusedVariables false
namespace Go.Proofs.Ytljioabolacbeaa
open Go.RowKit

set_option maxHeartbeats 400000 in
theorem c77 (A : Option Addr) (b o n c l m P1 P2 P3 : Nat) (f : Nat → Int) (w : World) (hz : Ints w A b o n f) (hn : n ≤ 1000000)
    (h1 : w.cell? ⟨P1, 0, none⟩ = some (.int .i64 (l : Nat))) (h2 : w.cell? ⟨P2, 0, none⟩ = some (.func (.func 75) #[] #[.pointer (some ⟨P3, 0, none⟩)])) (h3 : w.cell? ⟨P3, 0, none⟩ = some (.int .i64 (m : Nat))) (hm : m ≤ 1000000) :
    Calls Try.prog 77 #[.slice A n c, .pointer (some ⟨P1, 0, none⟩), .pointer (some ⟨P2, 0, none⟩)] w (RetBB (¬ (n = l ∧ allB (m : Nat) n f)) w) := by
  by_cases hl : n = l
  · subst hl
    have hne : ((n : Int) != (n : Int)) = false := by simp
    go_enter Try.func77, Try.ntmps77
    go_wp2_with (go_at_call 63; refine (c63 A b o n c P3 f (m : Nat) _ hz hn h3 (by omega)).mono ?_; rintro e w1 (⟨g1, rfl, hb⟩ | ⟨g1, rfl, hb⟩) <;> replace g1 := hid g1)
    · go_returns
      exact RetBB.yes (fun h => g1.out h.2) hb
    · go_returns
      exact RetBB.no (fun h => g1.out (fun h4 => h ⟨by first | trivial | rfl, h4⟩)) hb
  · have hne : ((n : Int) != (l : Int)) = true := by simp; omega
    have hne2 : ((n : Int) == (l : Int)) = false := by simp; omega
    have hlh := hid hl
    clear hl
    go_enter Try.func77, Try.ntmps77
    go_wp2_with fail
    go_returns
    exact RetBB.yes (fun h => hlh.out h.1) (Below.refl _ _)
/-- Whether each row has l numbers, each of them below m. -/
def fill (l m n : Nat) (R : Nat → Row) : Prop := ∀ k, k < n → (R k).n = l ∧ allB (m : Nat) (R k).n (R k).f
set_option maxHeartbeats 400000 in
theorem c78 (A : Option Addr) (b o n c l m P1 P2 P3 : Nat) (R : Nat → Row) (w : World) (hz : Mat w A b o n R) (hn : n ≤ 1000000) (hr : ∀ k, k < n → (R k).n ≤ 1000000)
    (h1 : w.cell? ⟨P1, 0, none⟩ = some (.int .i64 (l : Nat))) (h2 : w.cell? ⟨P2, 0, none⟩ = some (.func (.func 75) #[] #[.pointer (some ⟨P3, 0, none⟩)])) (h3 : w.cell? ⟨P3, 0, none⟩ = some (.int .i64 (m : Nat))) (hm : m ≤ 1000000)
    (hp : P1 < w.heap.size ∧ P2 < w.heap.size ∧ P3 < w.heap.size) :
    Calls Try.prog 78 #[.slice A n c, .func (.func 77) #[] #[.pointer (some ⟨P1, 0, none⟩), .pointer (some ⟨P2, 0, none⟩)]] w (RetIx n (fun k => (R k).n = l ∧ allB (m : Nat) (R k).n (R k).f) w) := by
  obtain ⟨p1, p2, p3⟩ := hp
  go_enter Try.func78, Try.ntmps78
  go_wp2
  go_loopw [5, 8] (fun _ i wr => ∃ k : Nat, k ≤ n ∧ i = .int .i64 k ∧ Hid (∀ j, j < k → (R j).n = l ∧ allB (m : Nat) (R j).n (R j).f) ∧ Below w.heap.size w wr) (fun _ i _ => n - (intOf i).toNat)
  case atStart => exact ⟨0, Nat.zero_le _, rfl, fun j hj => absurd hj (Nat.not_lt_zero _), Below.refl _ _⟩
  case round =>
    obtain ⟨k, hk, rfl, hall, hB⟩ := hrel
    by_cases hlt : k < n
    · have hz2 := hz.below hB (Nat.le_refl _)
      have g1 := hz2.ce k hlt; have g3 := hz2.lt k hlt; have g4 := @Mat.ix _ _ _ _ _ c _ hz2 _ hlt
      have hzr := hid (hz2.row k hlt)
      have k1 : Hid _ := hid ((hB.cell (p := ⟨P1, 0, none⟩) p1).trans h1)
      have k2 : Hid _ := hid ((hB.cell (p := ⟨P2, 0, none⟩) p2).trans h2)
      have k3 : Hid _ := hid ((hB.cell (p := ⟨P3, 0, none⟩) p3).trans h3)
      have hrk := hr k hlt
      clear hz2
      go_wp2_with (go_at_call 77; refine (c77 _ _ _ _ _ l m P1 P2 P3 _ _ hzr.out hrk k1.out k2.out k3.out hm).mono ?_; rintro e w2 (⟨q1, rfl, hb⟩ | ⟨q1, rfl, hb⟩) <;> replace q1 := hid q1)
      · go_returns
        exact RetIx.at_ hlt q1.out (hB.trans (hb.mono hB.size))
      · go_roundw
        case rel =>
          refine ⟨k + 1, by omega, by go_num, fun j hj => ?_, hB.trans (hb.mono hB.size)⟩
          by_cases e : j = k
          · subst e; exact Classical.not_not.1 q1.out
          · exact hall.out j (by omega)
        case measure => simp [intOf]; omega
    · go_wp2_with fail
      go_returns
      exact RetIx.no (fun j hj => hall.out j (by omega)) hB
set_option maxHeartbeats 400000 in
theorem c76 (A : Option Addr) (b o n c l m P1 P2 P3 : Nat) (R : Nat → Row) (w : World) (hz : Mat w A b o n R) (hn : n ≤ 1000000) (hr : ∀ k, k < n → (R k).n ≤ 1000000)
    (h1 : w.cell? ⟨P1, 0, none⟩ = some (.int .i64 (l : Nat))) (h2 : w.cell? ⟨P2, 0, none⟩ = some (.func (.func 75) #[] #[.pointer (some ⟨P3, 0, none⟩)])) (h3 : w.cell? ⟨P3, 0, none⟩ = some (.int .i64 (m : Nat))) (hm : m ≤ 1000000)
    (hp : P1 < w.heap.size ∧ P2 < w.heap.size ∧ P3 < w.heap.size) :
    Calls Try.prog 76 #[.slice A n c, .func (.func 77) #[] #[.pointer (some ⟨P1, 0, none⟩), .pointer (some ⟨P2, 0, none⟩)]] w (RetBB (¬ fill l m n R) w) := by
  have hrh := hid hr
  have c1 := hid h1; have c2 := hid h2; have c3 := hid h3
  clear hr h1 h2 h3
  go_enter Try.func76, Try.ntmps76
  go_wp2_with (go_at_call 78; refine (c78 A b o n c l m P1 P2 P3 R _ hz hn hrh.out c1.out c2.out c3.out hm hp).mono ?_; rintro e w' (⟨h1, rfl, hb⟩ | ⟨k, hk, h1, rfl, hb⟩) <;> replace h1 := hid h1)
  · go_returns
    exact RetBB.no (fun h => h h1.out) hb
  · go_returns
    exact RetBB.yes (fun h => h1.out (h k hk)) hb
set_option maxHeartbeats 400000 in
theorem c73 (A : Option Addr) (b o n c l m P3 : Nat) (R : Nat → Row) (w : World) (hz : Mat w A b o n R) (hn : n ≤ 1000000) (hr : ∀ k, k < n → (R k).n ≤ 1000000)
    (h3 : w.cell? ⟨P3, 0, none⟩ = some (.int .i64 (m : Nat))) (hm : m ≤ 1000000) (hp : P3 < w.heap.size) :
    Calls Try.prog 73 #[.slice A n c, .int .i64 (l : Nat), .func (.func 75) #[] #[.pointer (some ⟨P3, 0, none⟩)]] w (RetBB (fill l m n R) w) := by
  have hrh := hid hr
  have hB0 : Below w.heap.size w ((w.alloc (.cells #[.int .i64 (l : Nat)] 3)).alloc (.cells #[.func (.func 75) #[] #[.pointer (some ⟨P3, 0, none⟩)]] 103)) := by (repeat' (first | (with_reducible exact Below.refl _ _) | (with_reducible assumption) | (with_reducible refine Below.alloc ?_ ?_ _) | (with_reducible refine Below.drew ?_) | (with_reducible refine below_drewN ?_ _) | (with_reducible refine Below.setCell ?_ ?_ _) | (with_reducible refine Below.trans ?_ (Below.mono (by with_reducible assumption) ?_)) | go_size))
  have c3 := hid ((hB0.cell (p := ⟨P3, 0, none⟩) hp).trans h3)
  clear hr h3
  go_enter Try.func73, Try.ntmps73
  go_wp2_with (go_at_call 76; refine (c76 A b o n c l m w.heap.size (w.heap.size + 1) P3 R _ (hz.below hB0 (Nat.le_refl _)) hn hrh.out (by simp) (by simp) c3.out hm ⟨by simp; omega, by simp, by simp; omega⟩).mono ?_; rintro e w' (⟨h1, rfl, hb⟩ | ⟨h1, rfl, hb⟩) <;> replace h1 := hid h1)
  · go_returns
    exact RetBB.no h1.out (hB0.trans (hb.mono (by simp; omega)))
  · go_returns
    exact RetBB.yes (Classical.not_not.1 h1.out) (hB0.trans (hb.mono (by simp; omega)))
end Go.Proofs.Ytljioabolacbeaa
