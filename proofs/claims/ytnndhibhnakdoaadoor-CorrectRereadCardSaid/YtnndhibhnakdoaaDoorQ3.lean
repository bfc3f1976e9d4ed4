/- Stage 5: Decode. -/
import Derived.Test.YtnndhibhnakdoaaDoorP
set_option linter.unusedSimpArgs false
set_option linter.unusedVariables false
namespace Go.Proofs.YtnndhibhnakdoaaDoor
open Go.RowKit Go.BigFrame Go.Sort
open Gf (S)

theorem nxt_succ (f : Nat → Int) (k : Nat) : nxt f (k + 1) = f k + 1 := rfl
theorem nxt_zero (f : Nat → Int) : nxt f 0 = 0 := rfl
theorem asc_ge {n : Int} {m : Nat} {f : Nat → Int} (h : asc n m f) : ∀ k, k < m → (k : Int) ≤ f k
  | 0, hk => by have := (h 0 hk).1; rw [nxt_zero] at this; omega
  | k + 1, hk => by
    have h1 := (h (k + 1) hk).1
    have h2 := asc_ge h k (by omega)
    rw [nxt_succ] at h1
    omega
theorem asc_lt {n : Int} {m : Nat} {f : Nat → Int} (h : asc n m f) {i : Nat} : ∀ j, i < j → j < m → f i < f j
  | 0, hj, _ => by omega
  | j + 1, hj, hm => by
    have h1 := (h (j + 1) hm).1
    rw [nxt_succ] at h1
    by_cases e : i = j
    · subst e; omega
    · have := asc_lt h (i := i) j (by omega) (by omega)
      omega
theorem asc_le {n m : Nat} {f : Nat → Int} (h : asc (n : Nat) m f) : m ≤ n := by
  rcases Nat.eq_zero_or_pos m with e | e
  · omega
  · have h1 := asc_ge h (m - 1) (by omega)
    have h2 := (h (m - 1) (by omega)).2
    omega
/-- The positions of numbers. -/
def ps (f : Nat → Int) (k : Nat) : Nat := (f k).toNat
theorem ps_val {n m : Nat} {f : Nat → Int} (h : asc (n : Nat) m f) {k : Nat} (hk : k < m) : f k = ((ps f k : Nat) : Int) ∧ ps f k < n := by
  have h1 := asc_ge h k hk
  have h2 := (h k hk).2
  unfold ps
  omega
theorem ps_nodup {n m : Nat} {f : Nat → Int} (h : asc (n : Nat) m f) : ∀ k, k ≤ m → (li (ps f) k).Nodup
  | 0, _ => by simp [li]
  | k + 1, hk => by
    rw [li_succ]
    refine List.nodup_append.2 ⟨ps_nodup h k (by omega), by simp, fun a ha b hb e => ?_⟩
    obtain ⟨j, hj, rfl⟩ := li_mem.1 ha
    obtain rfl : b = ps f k := by simpa using hb
    have h1 := asc_lt h (i := j) k hj (by omega)
    have h2 := asc_ge h j (by omega)
    unfold ps at e
    omega
/-- What Decode hands back for a word with marks in order. -/
def CRet (n r : Nat) (wd : Nat → S) (M : List Nat) (w : World) (e : Ending) (w' : World) : Prop :=
  (∃ (C : Nat → S) (g c : Nat), Gf.Near n r wd M C ∧ e = .returned (.tuple #[.slice (some ⟨g, 0, none⟩) n c, .int .i64 0]) ∧ w.heap.size ≤ g ∧ n ≤ c ∧ RowF w' g n (nf C) ∧ Below w.heap.size w w') ∨
  ((∀ C : Nat → S, ¬ Gf.Near n r wd M C) ∧ e = .returned (.tuple #[.slice none 0 0, .int .i64 52]) ∧ Below w.heap.size w w')
set_option maxRecDepth 100000 in
set_option maxHeartbeats 2000000 in
theorem c20e (L P : Int) (A A2 : Option Addr) (l c m c2 : Nat) (w : World) (h : ¬ vld L P) : Calls Tryd.prog 20 #[.agg #[.int .i64 L, .int .i64 P], .slice A l c, .slice A2 m c2] w fun e w' => e = .returned (.tuple #[.slice none 0 0, .int .i64 50]) ∧ Below w.heap.size w w' := by
  have hh := hid h
  have hB0 : Hid (Below w.heap.size w ((w.alloc (.cells #[.int .i64 L, .int .i64 P] 23)))) := hid (by (repeat' (first | (with_reducible exact Below.refl _ _) | (with_reducible assumption) | (with_reducible refine Below.alloc ?_ ?_ _) | (with_reducible refine Below.drew ?_) | (with_reducible refine below_drewN ?_ _) | (with_reducible refine Below.setCell ?_ ?_ _) | (with_reducible refine Below.trans ?_ (Below.mono (by with_reducible assumption) ?_)) | go_size)))
  clear h
  go_enter Tryd.func20, Tryd.ntmps20
  go_wp2_with (go_at_call 44; refine (c44n L P _ hh.out).mono ?_; rintro e w1 ⟨rfl, hB1⟩; have hB1 := hid (hB0.out.trans (hB1.mono (by simp))))
  go_returns
  exact ⟨rfl, by have := hB1.out; have := hB1.out.size; (repeat' (first | (with_reducible exact Below.refl _ _) | (with_reducible assumption) | (with_reducible refine Below.alloc ?_ ?_ _) | (with_reducible refine Below.drew ?_) | (with_reducible refine below_drewN ?_ _) | (with_reducible refine Below.setCell ?_ ?_ _) | (with_reducible refine Below.trans ?_ (Below.mono (by with_reducible assumption) ?_)) | go_size))⟩
set_option maxRecDepth 100000 in
set_option maxHeartbeats 4000000 in
theorem c20w (n r : Nat) (A A2 : Option Addr) (b o l c m c2 : Nat) (f : Nat → Int) (w : World) (h : vld (n : Nat) (r : Nat)) (hz : Ints w A b o l f) (hl : l ≤ 1000) (hf : ¬ (l = n ∧ allS l f)) : Calls Tryd.prog 20 #[cv n r, .slice A l c, .slice A2 m c2] w fun e w' => e = .returned (.tuple #[.slice none 0 0, .int .i64 51]) ∧ Below w.heap.size w w' := by
  have hh := hid h
  have hn := vld_nat h
  have hzh := hid hz
  have hfh := hid hf
  have hB0 : Hid (Below w.heap.size w ((w.alloc (.cells #[.int .i64 (n : Nat), .int .i64 (r : Nat)] 23)))) := hid (by (repeat' (first | (with_reducible exact Below.refl _ _) | (with_reducible assumption) | (with_reducible refine Below.alloc ?_ ?_ _) | (with_reducible refine Below.drew ?_) | (with_reducible refine below_drewN ?_ _) | (with_reducible refine Below.setCell ?_ ?_ _) | (with_reducible refine Below.trans ?_ (Below.mono (by with_reducible assumption) ?_)) | go_size)))
  clear h hz hf
  go_enter Tryd.func20, Tryd.ntmps20
  go_wp2_with (first
    | (go_at_call 44; refine (c44y (n : Nat) (r : Nat) _ hh.out).mono ?_; rintro e w1 ⟨rfl, hB1⟩; have hB1 := hid (hB0.out.trans (hB1.mono (by simp))); have hB2 : Hid (Below w.heap.size w (w1.alloc (.cells #[.int .i64 (n : Nat), .int .i64 (r : Nat)] 66))) := hid (hB1.out.alloc hB1.out.size _); have hX2 := hid (Bx.new n r w1 66)) | (go_at_call 46; refine (c46_52n n r A b o l c f _ (by omega) (by omega) (hzh.out.below hB2.out (Nat.le_refl _)) hl hfh.out).mono ?_; rintro e w3 ⟨rfl, hB3⟩; have hB3 := hid (hB2.out.trans (hB3.mono hB2.out.size))))
  go_returns
  exact ⟨rfl, hB3.out⟩
set_option maxRecDepth 100000 in
set_option maxHeartbeats 4000000 in
theorem c20m (n r : Nat) (A : Option Addr) (b o c : Nat) (f : Nat → Int) (A2 : Option Addr) (b2 o2 m c2 : Nat) (g : Nat → Int) (w : World) (h : vld (n : Nat) (r : Nat)) (hz : Ints w A b o n f) (hf : allS n f) (hp : Ints w A2 b2 o2 m g) (hm : m ≤ 1000) (ha : ¬ asc (n : Nat) m g) : Calls Tryd.prog 20 #[cv n r, .slice A n c, .slice A2 m c2] w fun e w' => e = .returned (.tuple #[.slice none 0 0, .int .i64 1]) ∧ Below w.heap.size w w' := by
  have hh := hid h
  have hn := vld_nat h
  have hzh := hid hz
  have hfh := hid hf
  have hph := hid hp
  have hah := hid ha
  have hB0 : Hid (Below w.heap.size w ((w.alloc (.cells #[.int .i64 (n : Nat), .int .i64 (r : Nat)] 23)))) := hid (by (repeat' (first | (with_reducible exact Below.refl _ _) | (with_reducible assumption) | (with_reducible refine Below.alloc ?_ ?_ _) | (with_reducible refine Below.drew ?_) | (with_reducible refine below_drewN ?_ _) | (with_reducible refine Below.setCell ?_ ?_ _) | (with_reducible refine Below.trans ?_ (Below.mono (by with_reducible assumption) ?_)) | go_size)))
  clear h hz hf hp ha
  go_enter Tryd.func20, Tryd.ntmps20
  go_wp2_with (first
    | (go_at_call 44; refine (c44y (n : Nat) (r : Nat) _ hh.out).mono ?_; rintro e w1 ⟨rfl, hB1⟩; have hB1 := hid (hB0.out.trans (hB1.mono (by simp))); have hB2 : Hid (Below w.heap.size w (w1.alloc (.cells #[.int .i64 (n : Nat), .int .i64 (r : Nat)] 66))) := hid (hB1.out.alloc hB1.out.size _); have hX2 := hid (Bx.new n r w1 66))
    | (go_at_call 46; refine (c46_52y n r A b o c f _ (by omega) (by omega) (hzh.out.below hB2.out (Nat.le_refl _)) hfh.out).mono ?_; rintro e w3 ⟨g3, c3, rfl, hg3, hR3, hB3⟩; have hR3 := hid hR3; have hX3 := hX2.out.below hB3 (by simp); obtain ⟨p1, p2⟩ := hX3; have hX3 : Hid (Bx n r w3 w1.heap.size) := hid ⟨p1, p2⟩; have hs3 : w1.heap.size < w3.heap.size := (by have := hB3.size; simp at this; omega); have hB3 := hid (hB2.out.trans (hB3.mono hB2.out.size)))
    | (go_at_call 52; refine (c52 n r _).mono ?_; rintro e w4 ⟨rfl, hB4⟩; have hX4 := hX3.out.below hB4 (by omega); obtain ⟨q1, q2⟩ := hX4; have hR4 := hid (hR3.out.below hB4 hR3.out.lt); have hB4 := hid (hB3.out.trans (hB4.mono hB3.out.size))) | (go_at_call 53; refine (c53 A2 b2 o2 m c2 g (n : Nat) _ (hph.out.below hB4.out (Nat.le_refl _)) hm (by omega)).mono ?_; intro e w5 hr; obtain ⟨rfl, rfl⟩ := hr.un.2 hah.out; clear hr))
  go_returns
  exact ⟨rfl, hB4.out⟩
set_option maxRecDepth 100000 in
set_option maxHeartbeats 4000000 in
theorem c20y (n r : Nat) (A : Option Addr) (b o c : Nat) (f : Nat → Int) (A2 : Option Addr) (b2 o2 m c2 : Nat) (g : Nat → Int) (w : World) (hT : Tab w) (h : vld (n : Nat) (r : Nat)) (hz : Ints w A b o n f) (hf : allS n f) (hp : Ints w A2 b2 o2 m g) (hk2 : A2 = none → c2 = 0) (ha : asc (n : Nat) m g) : Calls Tryd.prog 20 #[cv n r, .slice A n c, .slice A2 m c2] w (CRet n r (sy f) (li (ps g) m) w) := by
  have hh := hid h
  have hn := vld_nat h
  have hmn := asc_le ha
  have hTh := hid hT
  have hzh := hid hz
  have hfh := hid hf
  have hph := hid (hp.congr (g := fun k => (ps g k : Nat)) (fun k hk => (ps_val ha hk).1))
  have hpo := hid hp
  have hah := hid ha
  have hpn : Hid (∀ k, k < m → ps g k < n) := hid (fun k hk => (ps_val ha hk).2)
  have hnd := hid (ps_nodup ha m (Nat.le_refl _))
  have hkh := hid hk2
  have hB0 : Hid (Below w.heap.size w ((w.alloc (.cells #[.int .i64 (n : Nat), .int .i64 (r : Nat)] 23)))) := hid (by (repeat' (first | (with_reducible exact Below.refl _ _) | (with_reducible assumption) | (with_reducible refine Below.alloc ?_ ?_ _) | (with_reducible refine Below.drew ?_) | (with_reducible refine below_drewN ?_ _) | (with_reducible refine Below.setCell ?_ ?_ _) | (with_reducible refine Below.trans ?_ (Below.mono (by with_reducible assumption) ?_)) | go_size)))
  clear h hz hf hp ha hk2 hT
  go_enter Tryd.func20, Tryd.ntmps20
  go_wp2_with (first
    | (go_at_call 44; refine (c44y (n : Nat) (r : Nat) _ hh.out).mono ?_; rintro e w1 ⟨rfl, hB1⟩; have hB1 := hid (hB0.out.trans (hB1.mono (by simp))); have hB2 : Hid (Below w.heap.size w (w1.alloc (.cells #[.int .i64 (n : Nat), .int .i64 (r : Nat)] 66))) := hid (hB1.out.alloc hB1.out.size _); have hX2 := hid (Bx.new n r w1 66))
    | (go_at_call 46; refine (c46_52y n r A b o c f _ (by omega) (by omega) (hzh.out.below hB2.out (Nat.le_refl _)) hfh.out).mono ?_; rintro e w3 ⟨g3, c3, rfl, hg3, hR3, hB3⟩; have hR3 := hid hR3; have hX3 := hX2.out.below hB3 (by simp); obtain ⟨p1, p2⟩ := hX3; have hX3 : Hid (Bx n r w3 w1.heap.size) := hid ⟨p1, p2⟩; have hs3 : w1.heap.size < w3.heap.size := (by have := hB3.size; simp at this; omega); have hB3 := hid (hB2.out.trans (hB3.mono hB2.out.size)))
    | (go_at_call 52; refine (c52 n r _).mono ?_; rintro e w4 ⟨rfl, hB4⟩; have hX4 := hX3.out.below hB4 (by omega); obtain ⟨q1, q2⟩ := hX4; have hR4 := hid (hR3.out.below hB4 hR3.out.lt); have hB4 := hid (hB3.out.trans (hB4.mono hB3.out.size))) | (go_at_call 53; refine (c53 A2 b2 o2 m c2 g (n : Nat) _ (hpo.out.below hB4.out (Nat.le_refl _)) (by omega) (by omega)).mono ?_; intro e w5 hr; obtain ⟨rfl, rfl⟩ := hr.un.1 hah.out; clear hr) | (go_at_call 54; refine (c54 n r (some ⟨g3, 0, none⟩) g3 0 c3 (sy f) A2 b2 o2 m c2 (ps g) _ (hTh.out.below hB4.out (Nat.le_refl _)) hR4.out.syms (hph.out.below hB4.out (Nat.le_refl _)) hkh.out (by omega) (by omega) (by omega) (by omega) hpn.out hnd.out).mono ?_; rintro e w5 (⟨C, g5, c5, hC, rfl, hg5, hc5, hR5, hB5⟩ | ⟨hC, rfl, hB5⟩) <;> replace hC := hid hC <;> replace hB5 := hid (hB4.out.trans (hB5.mono hB4.out.size))) | (go_at_call 48; refine (c48 (some ⟨g5, 0, none⟩) g5 0 n c5 C _ hR5.syms (by omega)).mono ?_; rintro e w6 ⟨g6, c6, rfl, hg6, hc6, hR6, hB6⟩; have hR6 := hid hR6; have hB6 := hid (hB5.out.trans (hB6.mono hB5.out.size)); clear hR5))
  · go_returns
    have := hB5.out.size
    exact .inl ⟨C, g6, c6, hC.out, rfl, by omega, hc6, hR6.out, hB6.out⟩
  · go_returns
    exact .inr ⟨hC.out, rfl, hB5.out⟩
end Go.Proofs.YtnndhibhnakdoaaDoor
