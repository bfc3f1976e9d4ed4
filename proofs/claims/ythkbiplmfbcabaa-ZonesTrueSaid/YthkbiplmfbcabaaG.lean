/- Stage 1: the reference's Angle, Wait, Number, Copy. -/
import Derived.Test.YthkbiplmfbcabaaM
import Derived.Laws.AppendOwnNone
set_option linter.unusedSimpArgs false
set_option linter.unusedVariables false
namespace Go.Proofs.Ythkbiplmfbcabaa
open Go.RowKit

def begAt (d : Dk) (p : Pl) : Int := begV d p.1 p.2.1 p.2.2

theorem begAt_bd {d : Dk} (ok : d.Ok) (p : Pl) : 0 ≤ begAt d p ∧ begAt d p < d.tu :=
  ⟨Int.emod_nonneg _ (by have := ok.tu1; omega), Int.emod_lt_of_pos _ (by have := ok.tu1; omega)⟩

set_option maxHeartbeats 1000000 in
theorem c25_err (d : Dk) (n : Int) (w : World) (hz : Zs w d) (hm : d.zs.length ≤ 1000000) (he : d.secErr n ≠ 0) :
    Calls Try.prog 25 #[d.v, .int .i64 n] w fun e w' => e = .returned (.tuple #[.int .i64 0, .int .i64 0, .int .i64 (d.secErr n)]) ∧ Below w.heap.size w w' := by
  have hb : (d.secErr n != 0) = true := by simpa using he
  go_enter Try.func25, Try.ntmps25
  go_wp2_with (first | (go_at_call 53; refine (c53 d n _ (by exact hz.below (by (repeat' (first | (with_reducible exact Below.refl _ _) | (with_reducible assumption) | (with_reducible refine Below.alloc ?_ ?_ _) | (with_reducible refine Below.drew ?_) | (with_reducible refine below_drewN ?_ _) | (with_reducible refine Below.setCell ?_ ?_ _) | (with_reducible refine Below.trans ?_ (Below.mono (by with_reducible assumption) ?_)) | go_size))) (Nat.le_refl _)) hm).mono ?_; rintro e w1 ⟨rfl, hB1⟩; obtain ⟨hc1, hf1⟩ := bcell (hB1.mono (show w.heap.size + 1 ≤ _ by first | omega | ((try simp only [World.size_alloc, World.size_drew, World.size_setCell]); omega))); have hz1 : w.heap.size < w1.heap.size := by (have := hB1.size; (try simp only [World.size_alloc, World.size_drew, World.size_setCell] at this); omega)))
  go_returns
  exact ⟨rfl, by (repeat' (first | (with_reducible exact Below.refl _ _) | (with_reducible assumption) | (with_reducible refine Below.alloc ?_ ?_ _) | (with_reducible refine Below.drew ?_) | (with_reducible refine below_drewN ?_ _) | (with_reducible refine Below.setCell ?_ ?_ _) | (with_reducible refine Below.trans ?_ (Below.mono (by with_reducible assumption) ?_)) | go_size))⟩

set_option maxRecDepth 100000 in
set_option maxHeartbeats 1000000 in
theorem c25_ok (d : Dk) (n : Nat) (w : World) (hz : Zs w d) (ok : d.Ok) (hn : n < (places d).length) :
    Calls Try.prog 25 #[d.v, .int .i64 n] w fun e w' => e = .returned (.tuple #[.int .i64 (begAt d (places d)[n]), .int .i64 (d.tu / secOf d.zs (places d)[n].1), .int .i64 0]) ∧ Below w.heap.size w w' := by
  have hL := ok.lenPl
  have h0 := hid (Dk.secErr_yes ok (show 0 ≤ (n : Int) ∧ (n : Int) < d.count by have := ok.cntB; unfold lenPlaces at hL; omega))
  have okh := hid ok
  have hm : d.zs.length ≤ 1000000 := by have := ok.zl4; omega
  obtain ⟨m1, m2, m3, m4, m5, m6⟩ := mem_places (List.getElem_mem hn)
  obtain ⟨s1, s2, s3⟩ := ok.sec m1 m2
  have hd4 := ok.hd4
  have tu1 := ok.tu1
  have tu2 := ok.tu2
  have ne1 : ¬ secOf d.zs (places d)[n].1 = 0 := by omega
  have q4 : 0 ≤ d.tu / secOf d.zs (places d)[n].1 := Int.ediv_nonneg (by omega) (by omega)
  have q5 : d.tu / secOf d.zs (places d)[n].1 ≤ d.tu := Int.ediv_le_self _ (by omega)
  clear ok hL s3
  go_enter Try.func25, Try.ntmps25
  go_wp2_with (first | (go_at_call 53; refine (c53 d n _ (by exact hz.below (by (repeat' (first | (with_reducible exact Below.refl _ _) | (with_reducible assumption) | (with_reducible refine Below.alloc ?_ ?_ _) | (with_reducible refine Below.drew ?_) | (with_reducible refine below_drewN ?_ _) | (with_reducible refine Below.setCell ?_ ?_ _) | (with_reducible refine Below.trans ?_ (Below.mono (by with_reducible assumption) ?_)) | go_size))) (Nat.le_refl _)) hm).mono ?_; rw [h0.out]; rintro e w1 ⟨rfl, hB1⟩; obtain ⟨hc1, hf1⟩ := bcell (hB1.mono (show w.heap.size + 1 ≤ _ by first | omega | ((try simp only [World.size_alloc, World.size_drew, World.size_setCell]); omega))); have hz1 : w.heap.size < w1.heap.size := by (have := hB1.size; (try simp only [World.size_alloc, World.size_drew, World.size_setCell] at this); omega)) | (go_at_call 51; refine (c51 d _ (by exact hz.below (by (repeat' (first | (with_reducible exact Below.refl _ _) | (with_reducible assumption) | (with_reducible refine Below.alloc ?_ ?_ _) | (with_reducible refine Below.drew ?_) | (with_reducible refine below_drewN ?_ _) | (with_reducible refine Below.setCell ?_ ?_ _) | (with_reducible refine Below.trans ?_ (Below.mono (by with_reducible assumption) ?_)) | go_size))) (Nat.le_refl _)) okh.out).mono ?_; intro e w2 hr; obtain ⟨g, cap, rfl, hg, hp, hB2⟩ := hr.pos (by omega); obtain ⟨hc2, hf2⟩ := bcell (hB2.mono (show w.heap.size + 1 ≤ _ by omega)); have hz2 : w.heap.size < w2.heap.size := (by have := hB2.size; omega); have p0 := hp.c0 n hn; have p1 := hp.c1 n hn; have p2 := hp.c2 n hn))
  clear hp p0 p1 p2
  go_region_held3 (fun w' => w'.cell? ⟨w.heap.size, 0, none⟩ = some (.int .i64 d.hd) ∧ w'.cell? ⟨w.heap.size, 1, none⟩ = some (.int .i64 d.tu) ∧ w'.cell? ⟨w.heap.size, 2, none⟩ = some (.slice d.za d.zs.length d.zc) ∧ w'.cell? ⟨w.heap.size, 3, none⟩ = some (.int .i64 d.hs) ∧ w'.cell? ⟨w.heap.size, 4, none⟩ = some (.int .i64 d.cs) ∧ w'.cell? ⟨w.heap.size, 5, none⟩ = some (.int .i64 d.hl) ∧ w'.cell? ⟨w.heap.size, 6, none⟩ = some (.int .i64 d.hh) ∧ w'.cell? ⟨w.heap.size, 7, none⟩ = some (.int .i64 d.cl) ∧ w'.cell? ⟨w.heap.size, 8, none⟩ = some (.int .i64 d.ch) ∧ w'.cell? ⟨w2.heap.size, 0, none⟩ = some (.int .i64 (places d)[n].1) ∧ w'.cell? ⟨w2.heap.size, 1, none⟩ = some (.int .i64 (places d)[n].2.1) ∧ w'.cell? ⟨w2.heap.size, 2, none⟩ = some (.int .i64 (places d)[n].2.2)) (go_keep)
    (first | (go_at_call 55; refine (c55 d _ _ _ _ (by exact hz.below (by (repeat' (first | (with_reducible exact Below.refl _ _) | (with_reducible assumption) | (with_reducible refine Below.alloc ?_ ?_ _) | (with_reducible refine Below.drew ?_) | (with_reducible refine below_drewN ?_ _) | (with_reducible refine Below.setCell ?_ ?_ _) | (with_reducible refine Below.trans ?_ (Below.mono (by with_reducible assumption) ?_)) | go_size))) (Nat.le_refl _)) okh.out m1 m2 m3 (by omega) m5 (by omega)).mono ?_; rintro e w3 ⟨rfl, hB3⟩; obtain ⟨hc3, hf3⟩ := bcell (hB3.mono (show w2.heap.size + 1 ≤ _ by first | omega | ((try simp only [World.size_alloc, World.size_drew]); omega))); have hz3 : w2.heap.size < w3.heap.size := (by have := hB3.size; (try simp only [World.size_alloc, World.size_drew] at this); omega); have hcA3 := fun o => hc3 w.heap.size o (by omega)) | (go_at_call 56; refine (c56 d _ _ (by exact hz.below (by (repeat' (first | (with_reducible exact Below.refl _ _) | (with_reducible assumption) | (with_reducible refine Below.alloc ?_ ?_ _) | (with_reducible refine Below.drew ?_) | (with_reducible refine below_drewN ?_ _) | (with_reducible refine Below.setCell ?_ ?_ _) | (with_reducible refine Below.trans ?_ (Below.mono (by with_reducible assumption) ?_)) | go_size))) (Nat.le_refl _)) okh.out m1 m2).mono ?_; rintro e w4 ⟨rfl, hB4⟩; obtain ⟨hc4, hf4⟩ := bcell (hB4.mono (show w2.heap.size + 1 ≤ _ by first | omega | ((try simp only [World.size_alloc, World.size_drew]); omega))); have hz4 : w2.heap.size < w4.heap.size := (by have := hB4.size; (try simp only [World.size_alloc, World.size_drew] at this); omega); have hcA4 := fun o => hc4 w.heap.size o (by omega)))
  all_goals (go_wp2; go_returns; refine ⟨?_, by (repeat' (first | (with_reducible exact Below.refl _ _) | (with_reducible assumption) | (with_reducible refine Below.alloc ?_ ?_ _) | (with_reducible refine Below.drew ?_) | (with_reducible refine below_drewN ?_ _) | (with_reducible refine Below.setCell ?_ ?_ _) | (with_reducible refine Below.trans ?_ (Below.mono (by with_reducible assumption) ?_)) | go_size))⟩)
  show Ending.returned (.tuple #[.int .i64 (begAt d (places d)[n]), .int .i64 (IntKind.i64.wrap (d.tu.tdiv (secOf d.zs (places d)[n].1))), .int .i64 0]) = _
  rw [Int.tdiv_eq_ediv_of_nonneg (by omega), i64w _ (by omega) (by omega)]

set_option maxHeartbeats 1000000 in
theorem c27_err (d : Dk) (n t : Int) (w : World) (hz : Zs w d) (hm : d.zs.length ≤ 1000000) (he : d.secErr n ≠ 0) :
    Calls Try.prog 27 #[d.v, .int .i64 n, .int .i64 t] w fun e w' => e = .returned (.tuple #[.int .i64 0, .int .i64 (d.secErr n)]) ∧ Below w.heap.size w w' := by
  have hb : (d.secErr n != 0) = true := by simpa using he
  go_enter Try.func27, Try.ntmps27
  go_wp2_with (first | (go_at_call 53; refine (c53 d n _ (by exact hz.below (by (repeat' (first | (with_reducible exact Below.refl _ _) | (with_reducible assumption) | (with_reducible refine Below.alloc ?_ ?_ _) | (with_reducible refine Below.drew ?_) | (with_reducible refine below_drewN ?_ _) | (with_reducible refine Below.setCell ?_ ?_ _) | (with_reducible refine Below.trans ?_ (Below.mono (by with_reducible assumption) ?_)) | go_size))) (Nat.le_refl _)) hm).mono ?_; rintro e w1 ⟨rfl, hB1⟩; obtain ⟨hc1, hf1⟩ := bcell (hB1.mono (show w.heap.size + 1 ≤ _ by first | omega | ((try simp only [World.size_alloc, World.size_drew, World.size_setCell]); omega))); have hz1 : w.heap.size < w1.heap.size := by (have := hB1.size; (try simp only [World.size_alloc, World.size_drew, World.size_setCell] at this); omega)))
  go_returns
  exact ⟨rfl, by (repeat' (first | (with_reducible exact Below.refl _ _) | (with_reducible assumption) | (with_reducible refine Below.alloc ?_ ?_ _) | (with_reducible refine Below.drew ?_) | (with_reducible refine below_drewN ?_ _) | (with_reducible refine Below.setCell ?_ ?_ _) | (with_reducible refine Below.trans ?_ (Below.mono (by with_reducible assumption) ?_)) | go_size))⟩

set_option maxHeartbeats 1000000 in
theorem c27_time (d : Dk) (n : Int) (t : Int) (w : World) (hz : Zs w d) (hm : d.zs.length ≤ 1000000) (h0' : d.secErr n = 0) (ht : t < 0 ∨ 1000000 < t) :
    Calls Try.prog 27 #[d.v, .int .i64 n, .int .i64 t] w fun e w' => e = .returned (.tuple #[.int .i64 0, .int .i64 1]) ∧ Below w.heap.size w w' := by
  have h0 := hid h0'
  clear h0'
  go_enter Try.func27, Try.ntmps27
  go_wp2_with (first | (go_at_call 47; refine (c47n _ (by omega)).mono ?_; rintro e w9 ⟨rfl, rfl⟩) | (go_at_call 53; refine (c53 d n _ (by exact hz.below (by (repeat' (first | (with_reducible exact Below.refl _ _) | (with_reducible assumption) | (with_reducible refine Below.alloc ?_ ?_ _) | (with_reducible refine Below.drew ?_) | (with_reducible refine below_drewN ?_ _) | (with_reducible refine Below.setCell ?_ ?_ _) | (with_reducible refine Below.trans ?_ (Below.mono (by with_reducible assumption) ?_)) | go_size))) (Nat.le_refl _)) hm).mono ?_; rw [h0.out]; rintro e w1 ⟨rfl, hB1⟩; obtain ⟨hc1, hf1⟩ := bcell (hB1.mono (show w.heap.size + 1 ≤ _ by first | omega | ((try simp only [World.size_alloc, World.size_drew, World.size_setCell]); omega))); have hz1 : w.heap.size < w1.heap.size := by (have := hB1.size; (try simp only [World.size_alloc, World.size_drew, World.size_setCell] at this); omega)))
  go_returns
  exact ⟨rfl, by (repeat' (first | (with_reducible exact Below.refl _ _) | (with_reducible assumption) | (with_reducible refine Below.alloc ?_ ?_ _) | (with_reducible refine Below.drew ?_) | (with_reducible refine below_drewN ?_ _) | (with_reducible refine Below.setCell ?_ ?_ _) | (with_reducible refine Below.trans ?_ (Below.mono (by with_reducible assumption) ?_)) | go_size))⟩

set_option maxHeartbeats 1000000 in
theorem c21_err (d : Dk) (a b c : Int) (w : World) (hz : Zs w d) (hm : d.zs.length ≤ 1000000) (no : ¬ d.Ok) :
    Calls Try.prog 21 #[d.v, .agg #[.int .i64 a, .int .i64 b, .int .i64 c]] w fun e w' => e = .returned (.tuple #[.int .i64 0, .int .i64 10]) ∧ Below w.heap.size w w' := by
  have he := hid (Dk.err_not no)
  go_enter Try.func21, Try.ntmps21
  go_wp2_with (first | (go_at_call 17; refine (c17 d _ (by exact hz.below (by (repeat' (first | (with_reducible exact Below.refl _ _) | (with_reducible assumption) | (with_reducible refine Below.alloc ?_ ?_ _) | (with_reducible refine Below.drew ?_) | (with_reducible refine below_drewN ?_ _) | (with_reducible refine Below.setCell ?_ ?_ _) | (with_reducible refine Below.trans ?_ (Below.mono (by with_reducible assumption) ?_)) | go_size))) (Nat.le_refl _)) hm).mono ?_; rw [he.out]; rintro e w2 ⟨rfl, hB2⟩))
  go_returns
  exact ⟨rfl, by (repeat' (first | (with_reducible exact Below.refl _ _) | (with_reducible assumption) | (with_reducible refine Below.alloc ?_ ?_ _) | (with_reducible refine Below.drew ?_) | (with_reducible refine below_drewN ?_ _) | (with_reducible refine Below.setCell ?_ ?_ _) | (with_reducible refine Below.trans ?_ (Below.mono (by with_reducible assumption) ?_)) | go_size))⟩

/-- The number of a place: where it stands in the list; the error if it does not. -/
def numOf (d : Dk) (p : Pl) : Int := if p ∈ places d then ((places d).idxOf p : Nat) else 0
def numErr (d : Dk) (p : Pl) : Int := if p ∈ places d then 0 else 1

theorem idx_of_first {l : List Pl} {p : Pl} {k : Nat} (hk : k < l.length) (h : l[k] = p) (hb : ∀ j, (hj : j < l.length) → j < k → l[j] ≠ p) : p ∈ l ∧ l.idxOf p = k := by
  refine ⟨h ▸ List.getElem_mem hk, ?_⟩
  induction l generalizing k with
  | nil => simp at hk
  | cons x r ih =>
    cases k with
    | zero => simp at h; rw [List.idxOf_cons]; simp [h]
    | succ k =>
      have hx : x ≠ p := hb 0 (by simp) (by omega)
      rw [List.idxOf_cons]
      have : (x == p) = false := by simpa using hx
      rw [this]
      simp only [cond_false]
      rw [ih (k := k) (by simpa using hk) (by simpa using h) (fun j hj hjk => by have := hb (j + 1) (by simpa using hj) (by omega); simpa using this)]

theorem eq_pl (x y z a b c : Int) (w : World) : (binOp .eql 28 (.agg #[.int .i64 x, .int .i64 y, .int .i64 z]) (.agg #[.int .i64 a, .int .i64 b, .int .i64 c])).run Try.prog w = .ok (.bool (decide ((x, y, z) = (a, b, c)))) w := by
  by_cases h1 : x = a <;> by_cases h2 : y = b <;> by_cases h3 : z = c <;> simp [go_sem, h1, h2, h3]

set_option maxRecDepth 100000 in
set_option maxHeartbeats 1000000 in
theorem c21_ok (d : Dk) (a b c : Int) (w : World) (hz : Zs w d) (ok : d.Ok) (h0 : 0 < (places d).length) :
    Calls Try.prog 21 #[d.v, .agg #[.int .i64 a, .int .i64 b, .int .i64 c]] w fun e w' => e = .returned (.tuple #[.int .i64 (numOf d (a, b, c)), .int .i64 (numErr d (a, b, c))]) ∧ Below w.heap.size w w' := by
  have he := hid (Dk.err_ok ok)
  have okh := hid ok
  have hm : d.zs.length ≤ 1000000 := by have := ok.zl4; omega
  have hlen : (places d).length ≤ 5120 := by have := ok.lenPl; have := ok.cntB; unfold lenPlaces at *; omega
  clear ok
  go_enter Try.func21, Try.ntmps21
  go_wp2_with (first | (go_at_call 17; refine (c17 d _ (by exact hz.below (by (repeat' (first | (with_reducible exact Below.refl _ _) | (with_reducible assumption) | (with_reducible refine Below.alloc ?_ ?_ _) | (with_reducible refine Below.drew ?_) | (with_reducible refine below_drewN ?_ _) | (with_reducible refine Below.setCell ?_ ?_ _) | (with_reducible refine Below.trans ?_ (Below.mono (by with_reducible assumption) ?_)) | go_size))) (Nat.le_refl _)) hm).mono ?_; rw [he.out]; rintro e w1 ⟨rfl, hB1⟩; obtain ⟨hc1, hf1⟩ := bcell (hB1.mono (show w.heap.size + 2 ≤ _ by first | omega | ((try simp only [World.size_alloc, World.size_drew, World.size_setCell]); omega))); have hz1 : w.heap.size + 1 < w1.heap.size := by (have := hB1.size; (try simp only [World.size_alloc, World.size_drew, World.size_setCell] at this); omega)) | (go_at_call 51; refine (c51 d _ (by exact hz.below (by (repeat' (first | (with_reducible exact Below.refl _ _) | (with_reducible assumption) | (with_reducible refine Below.alloc ?_ ?_ _) | (with_reducible refine Below.drew ?_) | (with_reducible refine below_drewN ?_ _) | (with_reducible refine Below.setCell ?_ ?_ _) | (with_reducible refine Below.trans ?_ (Below.mono (by with_reducible assumption) ?_)) | go_size))) (Nat.le_refl _)) okh.out).mono ?_; intro e w2 hr; obtain ⟨g, cap, rfl, hg, hp, hB2⟩ := hr.pos (by omega)))
  obtain ⟨hc2, hf2⟩ := bcell (hB2.mono (show w.heap.size + 2 ≤ _ by omega))
  have hz2 : w.heap.size + 1 < w2.heap.size := by have := hB2.size; omega
  have hBw : Below w.heap.size w w2 := by (repeat' (first | (with_reducible exact Below.refl _ _) | (with_reducible assumption) | (with_reducible refine Below.alloc ?_ ?_ _) | (with_reducible refine Below.drew ?_) | (with_reducible refine below_drewN ?_ _) | (with_reducible refine Below.setCell ?_ ?_ _) | (with_reducible refine Below.trans ?_ (Below.mono (by with_reducible assumption) ?_)) | go_size))
  have q0 : w2.cell? ⟨w.heap.size + 1, 0, none⟩ = some (.int .i64 a) := by rw [hc2 _ _ (by omega), hc1 _ _ (by omega)]; simp [go_sem]
  have q1 : w2.cell? ⟨w.heap.size + 1, 1, none⟩ = some (.int .i64 b) := by rw [hc2 _ _ (by omega), hc1 _ _ (by omega)]; simp [go_sem]
  have q2 : w2.cell? ⟨w.heap.size + 1, 2, none⟩ = some (.int .i64 c) := by rw [hc2 _ _ (by omega), hc1 _ _ (by omega)]; simp [go_sem]
  have hph := hid hp
  clear hc1 hf1 hc2 hf2 hB1 hB2 hp
  go_loopw [7] (fun i wr => ∃ k : Nat, k ≤ (places d).length ∧ i = .int .i64 k ∧ (∀ j, (hj : j < (places d).length) → j < k → (places d)[j] ≠ (a, b, c)) ∧ Below w2.heap.size w2 wr) (fun i _ => (places d).length - (intOf i).toNat)
  case atStart => exact ⟨0, Nat.zero_le _, rfl, fun j _ h => absurd h (Nat.not_lt_zero _), Below.refl _ _⟩
  case round =>
    obtain ⟨k, hk, rfl, hall, hB⟩ := hrel
    have hallh := hid hall
    clear hall
    obtain ⟨hc, hf⟩ := bcell hB
    have hlt2 := hph.out.lt
    by_cases hlt : k < (places d).length
    · have p0 := hph.out.c0 k hlt; have p1 := hph.out.c1 k hlt; have p2 := hph.out.c2 k hlt
      by_cases heq : (places d)[k] = (a, b, c)
      · have e1 : (places d)[k].1 = a := by rw [heq]
        have e2 : (places d)[k].2.1 = b := by rw [heq]
        have e3 : (places d)[k].2.2 = c := by rw [heq]
        obtain ⟨i1, i2⟩ := idx_of_first hlt heq hallh.out
        have hres := hid (show numOf d (a, b, c) = k ∧ numErr d (a, b, c) = 0 by unfold numOf numErr; rw [if_pos i1, if_pos i1, i2]; exact ⟨rfl, rfl⟩)
        rw [e1] at p0; rw [e2] at p1; rw [e3] at p2
        clear heq e1 e2 e3 i1 i2
        go_wp2_with fail
        go_quiet (fail)
        go_wp2
        go_returns
        exact ⟨by rw [hres.out.1, hres.out.2]; rfl, by (repeat' (first | (with_reducible exact Below.refl _ _) | (with_reducible assumption) | (with_reducible refine Below.alloc ?_ ?_ _) | (with_reducible refine Below.drew ?_) | (with_reducible refine below_drewN ?_ _) | (with_reducible refine Below.setCell ?_ ?_ _) | (with_reducible refine Below.trans ?_ (Below.mono (by with_reducible assumption) ?_)) | go_size))⟩
      · have e1 := fun w => eq_pl (places d)[k].1 (places d)[k].2.1 (places d)[k].2.2 a b c w
        rw [show decide (((places d)[k].1, (places d)[k].2.1, (places d)[k].2.2) = (a, b, c)) = false from decide_eq_false heq] at e1
        have hall2 := hid (show ∀ j, (hj : j < (places d).length) → j < k + 1 → (places d)[j] ≠ (a, b, c) by
          intro j hj hjk
          by_cases e : j = k
          · subst e; exact heq
          · exact hallh.out j hj (by omega))
        clear heq
        go_wp2_with fail
        go_quiet (fail)
        go_wp2
        go_roundw
        case rel => exact ⟨k + 1, by omega, by go_num, hall2.out, by (repeat' (first | (with_reducible exact Below.refl _ _) | (with_reducible assumption) | (with_reducible refine Below.alloc ?_ ?_ _) | (with_reducible refine Below.drew ?_) | (with_reducible refine below_drewN ?_ _) | (with_reducible refine Below.setCell ?_ ?_ _) | (with_reducible refine Below.trans ?_ (Below.mono (by with_reducible assumption) ?_)) | go_size))⟩
        case measure => simp [intOf]; omega
    · obtain rfl : k = (places d).length := by omega
      have hres := hid (show numOf d (a, b, c) = 0 ∧ numErr d (a, b, c) = 1 by
        have : (a, b, c) ∉ places d := by
          intro hmem
          obtain ⟨j, hj, h⟩ := List.getElem_of_mem hmem
          exact hallh.out j hj hj h
        unfold numOf numErr
        rw [if_neg this, if_neg this]; exact ⟨rfl, rfl⟩)
      go_wp2
      go_returns
      exact ⟨by rw [hres.out.1, hres.out.2]; rfl, by (repeat' (first | (with_reducible exact Below.refl _ _) | (with_reducible assumption) | (with_reducible refine Below.alloc ?_ ?_ _) | (with_reducible refine Below.drew ?_) | (with_reducible refine below_drewN ?_ _) | (with_reducible refine Below.setCell ?_ ?_ _) | (with_reducible refine Below.trans ?_ (Below.mono (by with_reducible assumption) ?_)) | go_size))⟩
end Go.Proofs.Ythkbiplmfbcabaa
