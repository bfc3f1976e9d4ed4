/- Stage 1: the small functions of the reference, on. -/
import Derived.Test.YthkbiplmfbcabaaB
import Derived.Deep.RegionWith
import Derived.Deep.RegionHeld3
set_option linter.unusedSimpArgs false
set_option linter.unusedVariables false
namespace Go.Proofs.Ythkbiplmfbcabaa
open Go.RowKit

theorem Dk.Ok.sec {d : Dk} (ok : d.Ok) {c : Int} (h0 : 0 ≤ c) (h9 : c < d.cyls) : 1 ≤ secOf d.zs c ∧ secOf d.zs c ≤ 16 ∧ d.tu % secOf d.zs c = 0 := by
  have hZ := zoneIx_lt d.zs c h9 h0
  have := ok.zok _ (List.getElem_mem hZ)
  rw [← secOf_zoneIx _ _ hZ]
  exact ⟨this.2.2.1, this.2.2.2.1, this.2.2.2.2⟩

set_option maxHeartbeats 1000000 in
theorem c56 (d : Dk) (c : Int) (w : World) (hz : Zs w d) (ok : d.Ok) (h0 : 0 ≤ c) (h9 : c < d.cyls) :
    Calls Try.prog 56 #[d.v, .int .i64 c] w fun e w' => e = .returned (.int .i64 (secOf d.zs c)) ∧ Below w.heap.size w w' := by
  have hZ := zoneIx_lt d.zs c h9 h0
  have h2 := hz.c2 _ hZ; have h3 := hz.lt _ hZ; have h4 := hz.ix hZ
  have hsec := hid (secOf_zoneIx d.zs c hZ)
  go_enter Try.func56, Try.ntmps56
  go_wp2
  go_region_with (go_at_call 69; refine (c69 d c _ (by exact hz.below ((Below.refl _ _).alloc (Nat.le_refl _) _).drew (Nat.le_refl _)) ok h0 h9).mono ?_; rintro e w1 ⟨rfl, hB⟩; obtain ⟨hc, hf⟩ := bcell hB; have hz1 := hB.size; simp only [World.size_alloc, World.size_drew] at hz1)
  all_goals (go_wp2; go_returns; exact ⟨by rw [hsec.out]; rfl, by (repeat' (first | (with_reducible exact Below.refl _ _) | (with_reducible assumption) | (with_reducible refine Below.alloc ?_ ?_ _) | (with_reducible refine Below.drew ?_) | (with_reducible refine below_drewN ?_ _) | (with_reducible refine Below.setCell ?_ ?_ _) | (with_reducible refine Below.trans ?_ (Below.mono (by with_reducible assumption) ?_)) | go_size))⟩)

theorem i64w (x : Int) (h1 : -1000000000000000 ≤ x) (h2 : x ≤ 1000000000000000) : IntKind.i64.wrap x = x := IntWalk.i64_in x ⟨by omega, by omega⟩

theorem mod_fix (x n : Int) (h1 : 1 ≤ n) (h2 : n ≤ 1000000) : (wrap64 (x.tmod n + n)).tmod n = x % n := by
  have h3 := Int.tmod_lt_of_pos x (show 0 < n by omega)
  have h4 := Int.lt_tmod_of_pos x (show 0 < n by omega)
  rw [IntWalk.wrap64_in _ ⟨by omega, by omega⟩, Int.tmod_eq_emod_of_nonneg (by omega), Int.add_emod_right, Int.tmod_def, Int.sub_mul_emod_self_left]

set_option maxHeartbeats 1000000 in
theorem c58 (d : Dk) (t a : Int) (w : World) (h1 : 1 ≤ d.tu) (h2 : d.tu ≤ 1000) (ht : 0 ≤ t) (ht2 : t ≤ 1000000) (ha : -1000000 ≤ a) (ha2 : a ≤ 1000000) :
    Calls Try.prog 58 #[d.v, .int .i64 t, .int .i64 a] w fun e w' => e = .returned (.int .i64 ((a - t) % d.tu)) ∧ Below w.heap.size w w' := by
  go_enter Try.func58, Try.ntmps58
  go_wp2
  go_quiet (fail)
  go_wp2
  go_returns
  exact ⟨by show Ending.returned (.int .i64 ((wrap64 ((a - t).tmod d.tu + d.tu)).tmod d.tu)) = _; rw [mod_fix _ _ h1 (by omega)], by (repeat' (first | (with_reducible exact Below.refl _ _) | (with_reducible assumption) | (with_reducible refine Below.alloc ?_ ?_ _) | (with_reducible refine Below.drew ?_) | (with_reducible refine below_drewN ?_ _) | (with_reducible refine Below.setCell ?_ ?_ _) | (with_reducible refine Below.trans ?_ (Below.mono (by with_reducible assumption) ?_)) | go_size))⟩

set_option maxHeartbeats 1000000 in
theorem c68 (d : Dk) (c h : Int) (w : World) (ok : d.Ok) (h0 : 0 ≤ c) (h9 : c ≤ 80) (hh0 : 0 ≤ h) (hh1 : h ≤ 4) :
    Calls Try.prog 68 #[d.v, .int .i64 c, .int .i64 h] w fun e w' => e = .returned (.int .i64 ((c * d.cs + (c * (d.hd - 1) + h) * d.hs) % d.tu)) ∧ Below w.heap.size w w' := by
  obtain ⟨g1, g2, g3, g4, g5, g6, g7, g8, g9, g10, g11, g12, g13, g14, g15, g16, g17⟩ := ok
  clear g11
  have m1 := mul_le_mul_of h0 g9 h9 (show d.cs ≤ 1000 by omega)
  have m2 := mul_le_mul_of h0 (show 0 ≤ d.hd - 1 by omega) h9 (show d.hd - 1 ≤ 3 by omega)
  have m3 := mul_le_mul_of (show 0 ≤ c * (d.hd - 1) + h by omega) g7 (show c * (d.hd - 1) + h ≤ 244 by omega) (show d.hs ≤ 1000 by omega)
  go_enter Try.func68, Try.ntmps68
  go_wp2
  go_returns
  exact ⟨rfl, by go_grown⟩

def begV (d : Dk) (c h s : Int) : Int := ((c * d.cs + (c * (d.hd - 1) + h) * d.hs) % d.tu + s * (d.tu / secOf d.zs c)) % d.tu

set_option maxHeartbeats 1000000 in
theorem c55 (d : Dk) (c h s : Int) (w : World) (hz : Zs w d) (ok : d.Ok) (h0 : 0 ≤ c) (h9 : c < d.cyls) (hh0 : 0 ≤ h) (hh1 : h ≤ 4) (hs0 : 0 ≤ s) (hs1 : s ≤ 16) :
    Calls Try.prog 55 #[d.v, .agg #[.int .i64 c, .int .i64 h, .int .i64 s]] w fun e w' => e = .returned (.int .i64 (begV d c h s)) ∧ Below w.heap.size w w' := by
  have hcB := ok.cylB
  have tu1 := ok.tu1; have tu2 := ok.tu2
  obtain ⟨q1, q2, q3⟩ := ok.sec h0 h9
  clear q3
  have q4 : 0 ≤ d.tu / secOf d.zs c := Int.ediv_nonneg (by omega) (by omega)
  have q5 : d.tu / secOf d.zs c ≤ d.tu := Int.ediv_le_self _ (by omega)
  have m1 := mul_le_mul_of hs0 q4 hs1 (show d.tu / secOf d.zs c ≤ 1000 by omega)
  have q6 := Int.emod_nonneg (c * d.cs + (c * (d.hd - 1) + h) * d.hs) (show d.tu ≠ 0 by omega)
  have q7 := Int.emod_lt_of_pos (c * d.cs + (c * (d.hd - 1) + h) * d.hs) (show 0 < d.tu by omega)
  have okh := hid ok
  clear ok
  have ne1 : ¬ secOf d.zs c = 0 := by omega
  have ne2 : ¬ d.tu = 0 := by omega
  go_enter Try.func55, Try.ntmps55
  go_wp2
  go_region_held3 (fun w' => w'.cell? ⟨w.heap.size, 0, none⟩ = some (.int .i64 d.hd) ∧ w'.cell? ⟨w.heap.size, 1, none⟩ = some (.int .i64 d.tu) ∧ w'.cell? ⟨w.heap.size, 2, none⟩ = some (.slice d.za d.zs.length d.zc) ∧ w'.cell? ⟨w.heap.size, 3, none⟩ = some (.int .i64 d.hs) ∧ w'.cell? ⟨w.heap.size, 4, none⟩ = some (.int .i64 d.cs) ∧ w'.cell? ⟨w.heap.size, 5, none⟩ = some (.int .i64 d.hl) ∧ w'.cell? ⟨w.heap.size, 6, none⟩ = some (.int .i64 d.hh) ∧ w'.cell? ⟨w.heap.size, 7, none⟩ = some (.int .i64 d.cl) ∧ w'.cell? ⟨w.heap.size, 8, none⟩ = some (.int .i64 d.ch) ∧ w'.cell? ⟨w.heap.size + 1, 0, none⟩ = some (.int .i64 c) ∧ w'.cell? ⟨w.heap.size + 1, 1, none⟩ = some (.int .i64 h) ∧ w'.cell? ⟨w.heap.size + 1, 2, none⟩ = some (.int .i64 s)) (go_keep)
    (first | (go_at_call 68; refine (c68 d c h _ okh.out h0 (by omega) hh0 hh1).mono ?_; rintro e w1 ⟨rfl, hB1⟩; obtain ⟨hc1, hf1⟩ := bcell (hB1.mono (show w.heap.size + 2 ≤ _ by first | omega | (simp only [World.size_alloc, World.size_drew]; omega))); have hz1 := hB1.size; try simp only [World.size_alloc, World.size_drew] at hz1) | (go_at_call 56; refine (c56 d c _ (by exact hz.below (by (repeat' (first | (with_reducible exact Below.refl _ _) | (with_reducible assumption) | (with_reducible refine Below.alloc ?_ ?_ _) | (with_reducible refine Below.drew ?_) | (with_reducible refine below_drewN ?_ _) | (with_reducible refine Below.setCell ?_ ?_ _) | (with_reducible refine Below.trans ?_ (Below.mono (by with_reducible assumption) ?_)) | go_size))) (Nat.le_refl _)) okh.out h0 h9).mono ?_; rintro e w2 ⟨rfl, hB2⟩; obtain ⟨hc2, hf2⟩ := bcell (hB2.mono (show w.heap.size + 2 ≤ _ by first | omega | (simp only [World.size_alloc, World.size_drew]; omega))); have hz2 := hB2.size; try simp only [World.size_alloc, World.size_drew] at hz2))
  all_goals (go_wp2; go_returns; refine ⟨?_, by (repeat' (first | (with_reducible exact Below.refl _ _) | (with_reducible assumption) | (with_reducible refine Below.alloc ?_ ?_ _) | (with_reducible refine Below.drew ?_) | (with_reducible refine below_drewN ?_ _) | (with_reducible refine Below.setCell ?_ ?_ _) | (with_reducible refine Below.trans ?_ (Below.mono (by with_reducible assumption) ?_)) | go_size))⟩)
  show Ending.returned (.int .i64 ((IntKind.i64.wrap ((c * d.cs + (c * (d.hd - 1) + h) * d.hs) % d.tu + IntKind.i64.wrap (s * IntKind.i64.wrap (d.tu.tdiv (secOf d.zs c))))).tmod d.tu)) = _
  rw [Int.tdiv_eq_ediv_of_nonneg (by omega), i64w (d.tu / secOf d.zs c) (by omega) (by omega), i64w (s * (d.tu / secOf d.zs c)) (by omega) (by omega), i64w _ (by omega) (by omega), Int.tmod_eq_emod_of_nonneg (by omega)]
  rfl

set_option maxHeartbeats 1000000 in
theorem c38 (d : Dk) (k : Int) (w : World) :
    Calls Try.prog 38 #[d.v, .int .i64 k] w fun e w' => e = .returned (.tuple #[if k = 1 then .agg #[.int .i64 d.hl, .int .i64 d.hh] else if k = 2 then .agg #[.int .i64 d.cl, .int .i64 d.ch] else .agg #[.int .i64 0, .int .i64 0], .int .i64 (if k = 1 then d.hs else if k = 2 then d.cs else 0)]) ∧ Below w.heap.size w w' := by
  by_cases h1 : k = 1
  · subst h1
    go_enter Try.func38, Try.ntmps38
    go_wp2
    go_region
    all_goals (go_wp2; go_returns; exact ⟨rfl, by (repeat' (first | (with_reducible exact Below.refl _ _) | (with_reducible assumption) | (with_reducible refine Below.alloc ?_ ?_ _) | (with_reducible refine Below.drew ?_) | (with_reducible refine below_drewN ?_ _) | (with_reducible refine Below.setCell ?_ ?_ _) | (with_reducible refine Below.trans ?_ (Below.mono (by with_reducible assumption) ?_)) | go_size))⟩)
  · by_cases h2 : k = 2
    · subst h2
      go_enter Try.func38, Try.ntmps38
      go_wp2
      go_region
      all_goals (go_wp2; go_returns; exact ⟨rfl, by (repeat' (first | (with_reducible exact Below.refl _ _) | (with_reducible assumption) | (with_reducible refine Below.alloc ?_ ?_ _) | (with_reducible refine Below.drew ?_) | (with_reducible refine below_drewN ?_ _) | (with_reducible refine Below.setCell ?_ ?_ _) | (with_reducible refine Below.trans ?_ (Below.mono (by with_reducible assumption) ?_)) | go_size))⟩)
    · have b1 : (k == 1) = false := by simp [h1]
      have b2 : (k == 2) = false := by simp [h2]
      rw [if_neg h1, if_neg h2, if_neg h1, if_neg h2]
      go_enter Try.func38, Try.ntmps38
      go_wp2
      go_returns
      exact ⟨rfl, by (repeat' (first | (with_reducible exact Below.refl _ _) | (with_reducible assumption) | (with_reducible refine Below.alloc ?_ ?_ _) | (with_reducible refine Below.drew ?_) | (with_reducible refine below_drewN ?_ _) | (with_reducible refine Below.setCell ?_ ?_ _) | (with_reducible refine Below.trans ?_ (Below.mono (by with_reducible assumption) ?_)) | go_size))⟩

set_option maxHeartbeats 1000000 in
theorem c43 (d : Dk) (h c : Int) (w : World) :
    Calls Try.prog 43 #[d.v, .int .i64 h, .int .i64 c] w fun e w' => e = .returned ({ d with hs := h, cs := c } : Dk).v ∧ Below w.heap.size w w' := by
  go_enter Try.func43, Try.ntmps43
  go_wp2
  go_returns
  exact ⟨rfl, by (repeat' (first | (with_reducible exact Below.refl _ _) | (with_reducible assumption) | (with_reducible refine Below.alloc ?_ ?_ _) | (with_reducible refine Below.drew ?_) | (with_reducible refine below_drewN ?_ _) | (with_reducible refine Below.setCell ?_ ?_ _) | (with_reducible refine Below.trans ?_ (Below.mono (by with_reducible assumption) ?_)) | go_size))⟩

set_option maxHeartbeats 1000000 in
theorem c35 (d : Dk) (n : Int) (w : World) (hz : Zs w d) (ok : d.Ok) :
    Calls Try.prog 35 #[d.v, .int .i64 n] w fun e w' => e = .returned (.bool (decide (0 ≤ n ∧ n < d.count))) ∧ Below w.heap.size w w' := by
  have hB := ok.cntB
  go_enter Try.func35, Try.ntmps35
  go_wp2_with (first | (go_at_call 42; refine (c42 d _ (by exact hz.below (by (repeat' (first | (with_reducible exact Below.refl _ _) | (with_reducible assumption) | (with_reducible refine Below.alloc ?_ ?_ _) | (with_reducible refine Below.drew ?_) | (with_reducible refine below_drewN ?_ _) | (with_reducible refine Below.setCell ?_ ?_ _) | (with_reducible refine Below.trans ?_ (Below.mono (by with_reducible assumption) ?_)) | go_size))) (Nat.le_refl _)) ok).mono ?_; rintro e w1 ⟨rfl, hB1⟩) | (go_at_call 47; refine (c47 _ _ _ _).mono ?_; rintro e w' (⟨g, rfl, rfl⟩ | ⟨g, rfl, rfl⟩)))
  all_goals (go_returns; exact ⟨by congr 2; simp; omega, by (repeat' (first | (with_reducible exact Below.refl _ _) | (with_reducible assumption) | (with_reducible refine Below.alloc ?_ ?_ _) | (with_reducible refine Below.drew ?_) | (with_reducible refine below_drewN ?_ _) | (with_reducible refine Below.setCell ?_ ?_ _) | (with_reducible refine Below.trans ?_ (Below.mono (by with_reducible assumption) ?_)) | go_size))⟩)

set_option maxHeartbeats 1000000 in
theorem c40 (d : Dk) (k t : Int) (w : World) (ok : d.Ok) (t0 : 0 ≤ t) (t1 : t ≤ 2000) :
    Calls Try.prog 40 #[d.v, .int .i64 k, .int .i64 t] w fun e w' => e = .returned (.int .i64 (t + ((if k = 1 then d.hs else if k = 2 then d.cs else 0) - t) % d.tu)) ∧ Below w.heap.size w w' := by
  obtain ⟨g1, g2, g3, g4, g5, g6, g7, g8, g9, g10, g11, g12, g13, g14, g15, g16, g17⟩ := ok
  clear g11
  obtain ⟨sk, hsk⟩ : ∃ sk, sk = (if k = 1 then d.hs else if k = 2 then d.cs else 0) := ⟨_, rfl⟩
  obtain ⟨sv, hsv⟩ : ∃ sv : Int × Int, Value.agg #[.int .i64 sv.1, .int .i64 sv.2] = (if k = 1 then .agg #[.int .i64 d.hl, .int .i64 d.hh] else if k = 2 then .agg #[.int .i64 d.cl, .int .i64 d.ch] else .agg #[.int .i64 0, .int .i64 0]) := by
    split
    · exact ⟨(_, _), rfl⟩
    · split <;> exact ⟨(_, _), rfl⟩
  have b1 : 0 ≤ sk ∧ sk ≤ 1000 := by
    rw [hsk]; split
    · omega
    · split <;> omega
  have q6 := Int.emod_nonneg (sk - t) (show d.tu ≠ 0 by omega)
  have q7 := Int.emod_lt_of_pos (sk - t) (show 0 < d.tu by omega)
  have hC := c38 d k
  rw [← hsk, ← hsv] at hC
  rw [← hsk]
  have hCh := hid hC
  clear hC hsk hsv
  go_enter Try.func40, Try.ntmps40
  go_wp2_with (first | (go_at_call 38; refine (hCh.out _).mono ?_; rintro e w1 ⟨rfl, hB1⟩; obtain ⟨hc1, hf1⟩ := bcell (hB1.mono (show w.heap.size + 1 ≤ _ by first | omega | ((try simp only [World.size_alloc, World.size_drew, World.size_setCell]); omega))); have hz1 : w.heap.size < w1.heap.size := by (have := hB1.size; (try simp only [World.size_alloc, World.size_drew, World.size_setCell] at this); omega)) | (go_at_call 58; refine (c58 d t sk _ g3 g4 t0 (by omega) (by omega) (by omega)).mono ?_; rintro e w2 ⟨rfl, hB2⟩))
  go_returns
  exact ⟨rfl, by (repeat' (first | (with_reducible exact Below.refl _ _) | (with_reducible assumption) | (with_reducible refine Below.alloc ?_ ?_ _) | (with_reducible refine Below.drew ?_) | (with_reducible refine below_drewN ?_ _) | (with_reducible refine Below.setCell ?_ ?_ _) | (with_reducible refine Below.trans ?_ (Below.mono (by with_reducible assumption) ?_)) | go_size))⟩

set_option maxHeartbeats 1000000 in
theorem c36 (d : Dk) (f n : Int) (w : World) (hz : Zs w d) (ok : d.Ok) :
    Calls Try.prog 36 #[d.v, .int .i64 f, .int .i64 n] w fun e w' => e = .returned (.bool (decide (0 ≤ f ∧ f < d.count ∧ 1 ≤ n ∧ n ≤ d.count - f))) ∧ Below w.heap.size w w' := by
  have hB := ok.cntB
  have hC := hid (c35 d f)
  by_cases h1 : 0 ≤ f ∧ f < d.count
  · have hbb := hid (show decide (0 ≤ f ∧ f < d.count) = true from decide_eq_true h1)
    go_enter Try.func36, Try.ntmps36
    go_wp2_with (first | (go_at_call 35; refine (hC.out _ (by exact hz.below (by (repeat' (first | (with_reducible exact Below.refl _ _) | (with_reducible assumption) | (with_reducible refine Below.alloc ?_ ?_ _) | (with_reducible refine Below.drew ?_) | (with_reducible refine below_drewN ?_ _) | (with_reducible refine Below.setCell ?_ ?_ _) | (with_reducible refine Below.trans ?_ (Below.mono (by with_reducible assumption) ?_)) | go_size))) (Nat.le_refl _)) ok).mono ?_; rw [hbb.out]; rintro e w1 ⟨rfl, hB1⟩; obtain ⟨hc1, hf1⟩ := bcell (hB1.mono (show w.heap.size + 1 ≤ _ by first | omega | ((try simp only [World.size_alloc, World.size_drew, World.size_setCell]); omega))); have hz1 : w.heap.size < w1.heap.size := by (have := hB1.size; (try simp only [World.size_alloc, World.size_drew, World.size_setCell] at this); omega)) | (go_at_call 42; refine (c42 d _ (by exact hz.below (by (repeat' (first | (with_reducible exact Below.refl _ _) | (with_reducible assumption) | (with_reducible refine Below.alloc ?_ ?_ _) | (with_reducible refine Below.drew ?_) | (with_reducible refine below_drewN ?_ _) | (with_reducible refine Below.setCell ?_ ?_ _) | (with_reducible refine Below.trans ?_ (Below.mono (by with_reducible assumption) ?_)) | go_size))) (Nat.le_refl _)) ok).mono ?_; rintro e w2 ⟨rfl, hB2⟩) | (go_at_call 47; refine (c47 _ _ _ _).mono ?_; rintro e w' (⟨g, rfl, rfl⟩ | ⟨g, rfl, rfl⟩)))
    all_goals (go_returns; exact ⟨by congr 2; simp; omega, by (repeat' (first | (with_reducible exact Below.refl _ _) | (with_reducible assumption) | (with_reducible refine Below.alloc ?_ ?_ _) | (with_reducible refine Below.drew ?_) | (with_reducible refine below_drewN ?_ _) | (with_reducible refine Below.setCell ?_ ?_ _) | (with_reducible refine Below.trans ?_ (Below.mono (by with_reducible assumption) ?_)) | go_size))⟩)
  · have hbb := hid (show decide (0 ≤ f ∧ f < d.count) = false from decide_eq_false h1)
    go_enter Try.func36, Try.ntmps36
    go_wp2_with (go_at_call 35; refine (hC.out _ (by exact hz.below (by (repeat' (first | (with_reducible exact Below.refl _ _) | (with_reducible assumption) | (with_reducible refine Below.alloc ?_ ?_ _) | (with_reducible refine Below.drew ?_) | (with_reducible refine below_drewN ?_ _) | (with_reducible refine Below.setCell ?_ ?_ _) | (with_reducible refine Below.trans ?_ (Below.mono (by with_reducible assumption) ?_)) | go_size))) (Nat.le_refl _)) ok).mono ?_; rw [hbb.out]; rintro e w1 ⟨rfl, hB1⟩)
    go_returns
    exact ⟨by congr 2; simp; omega, by (repeat' (first | (with_reducible exact Below.refl _ _) | (with_reducible assumption) | (with_reducible refine Below.alloc ?_ ?_ _) | (with_reducible refine Below.drew ?_) | (with_reducible refine below_drewN ?_ _) | (with_reducible refine Below.setCell ?_ ?_ _) | (with_reducible refine Below.trans ?_ (Below.mono (by with_reducible assumption) ?_)) | go_size))⟩
end Go.Proofs.Ythkbiplmfbcabaa
