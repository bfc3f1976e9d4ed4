/- Stage 5: symbols as numbers; a code that is known; Encode. -/
import Derived.Test.YtnndhibhnakdoaaDoorL
set_option linter.unusedSimpArgs false
set_option linter.unusedVariables false
namespace Go.Proofs.YtnndhibhnakdoaaDoor
open Go.RowKit Go.BigFrame Go.Sort
open Gf (S)

/-- The symbols of numbers. -/
def sy (f : Nat → Int) (k : Nat) : S := Fin.ofNat 16 (f k).toNat
theorem sy_val {f : Nat → Int} {k : Nat} (h : isym (f k)) : f k = ((sy f k).val : Nat) := by
  unfold isym at h
  unfold sy
  simp [Fin.ofNat]
  omega
theorem RowF.ofS {w : World} {g n : Nat} {f g' : Nat → Int} (h : RowF w g n f) (e : ∀ k, k < n → f k = g' k) : RowF w g n g' := h.congr e
set_option maxRecDepth 100000 in
set_option maxHeartbeats 2000000 in
theorem c82 (A : Option Addr) (b o n c : Nat) (f : Nat → Int) (w : World) (hz : Ints w A b o n f) (ha : allS n f) (hn : n ≤ 1000) : Calls Tryd.prog 82 #[.slice A n c] w (SRet n (sy f) w) := by
  have hmk := fun W => run_make_row' (P := Tryd.prog) 70 76 (.int .u8 0) 1 Tryd.underlying70 Tryd.info76 rfl .i64 .i64 n (by omega) (by omega) W
  have hzh := hid hz
  have hah := hid ha
  clear hz ha
  go_enter Tryd.func82, Tryd.ntmps82
  go_wp2_with fail
  have hR0 : Hid (RowS (w.alloc (.cells (madeCells #[.int .u8 0] n) 76)) w.heap.size n (fun _ => 0)) := hid (RowS.made w n)
  have hB0 : Hid (Below w.heap.size w (w.alloc (.cells (madeCells #[.int .u8 0] n) 76))) := hid (by (repeat' (first | (with_reducible exact Below.refl _ _) | (with_reducible assumption) | (with_reducible refine Below.alloc ?_ ?_ _) | (with_reducible refine Below.drew ?_) | (with_reducible refine below_drewN ?_ _) | (with_reducible refine Below.setCell ?_ ?_ _) | (with_reducible refine Below.trans ?_ (Below.mono (by with_reducible assumption) ?_)) | go_size)))
  clear hmk
  go_loopw [11] (fun iv wr => ∃ k : Nat, k ≤ n ∧ iv = .int .i64 k ∧ RowS wr w.heap.size n (mix k (sy f) (fun _ => 0)) ∧ Below w.heap.size w wr) (fun iv _ => n - (intOf iv).toNat)
  case atStart => exact ⟨0, Nat.zero_le _, rfl, hR0.out.congr (fun i _ => (mix_zero (sy f) (fun _ => 0) i).symm), hB0.out⟩
  case round =>
    clear hB0 hR0
    obtain ⟨k, hk, rfl, hR, hB⟩ := hrel
    by_cases hlt : k < n
    · have hz2 := hzh.out.below hB (Nat.le_refl _)
      have a1 := hz2.ce k hlt
      have a3 := hz2.lt k hlt
      have b1 := @Ints.ix _ _ _ _ _ c _ hz2 _ hlt
      have j1 := hR.cell hlt
      rw [mix_at] at j1
      have j2 := hR.frozen k
      have j4 := @RowS.ix _ _ _ n _ hR _ hlt
      have e0 := sy_val (hah.out k hlt)
      have e1 := (sy f k).isLt
      obtain ⟨x, hx⟩ : ∃ x, x = (sy f k).val := ⟨_, rfl⟩
      rw [← hx] at e0 e1
      rw [e0] at a1
      have hRh := hid hR
      have hBh := hid hB
      have hxh := hid hx
      clear hR hB hz2 hx e0
      go_wp2_with fail
      go_roundw
      case rel =>
        refine ⟨k + 1, by omega, by go_num, ?_, hBh.out.setCell (Nat.le_refl _) _⟩
        rw [hxh.out]
        exact (hRh.out.set k (sy f k)).congr (fun i _ => mix_step (b := fun _ => 0) i)
      case measure => simp [intOf]; omega
    · go_wp2_with fail
      go_returns
      exact ⟨w.heap.size, n, rfl, Nat.le_refl _, Nat.le_refl _, hR.congr (fun i hi => mix_all (show i < k by omega)), hB⟩
/-- The numbers of symbols. -/
def nf (s : Nat → S) (k : Nat) : Int := ((s k).val : Nat)
set_option maxRecDepth 100000 in
set_option maxHeartbeats 2000000 in
theorem c48 (A : Option Addr) (b o n c : Nat) (s : Nat → S) (w : World) (hz : Syms w A b o n s) (hn : n ≤ 1000) : Calls Tryd.prog 48 #[.slice A n c] w (IRet n (nf s) w) := by
  have hmk := fun W => run_make_row' (P := Tryd.prog) 24 3 (.int .i64 0) 8 Tryd.underlying24 Tryd.info3 rfl .i64 .i64 n (by omega) (by omega) W
  have hzh := hid hz
  clear hz
  go_enter Tryd.func48, Tryd.ntmps48
  go_wp2_with fail
  have hR0 : Hid (RowF (w.alloc (.cells (madeCells #[.int .i64 0] n) 3)) w.heap.size n (fun _ => 0)) := hid (RowF.made w n)
  have hB0 : Hid (Below w.heap.size w (w.alloc (.cells (madeCells #[.int .i64 0] n) 3))) := hid (by (repeat' (first | (with_reducible exact Below.refl _ _) | (with_reducible assumption) | (with_reducible refine Below.alloc ?_ ?_ _) | (with_reducible refine Below.drew ?_) | (with_reducible refine below_drewN ?_ _) | (with_reducible refine Below.setCell ?_ ?_ _) | (with_reducible refine Below.trans ?_ (Below.mono (by with_reducible assumption) ?_)) | go_size)))
  clear hmk
  go_loopw [11] (fun iv wr => ∃ k : Nat, k ≤ n ∧ iv = .int .i64 k ∧ RowF wr w.heap.size n (mix k (nf s) (fun _ => 0)) ∧ Below w.heap.size w wr) (fun iv _ => n - (intOf iv).toNat)
  case atStart => exact ⟨0, Nat.zero_le _, rfl, hR0.out.congr (fun i _ => (mix_zero (nf s) (fun _ => 0) i).symm), hB0.out⟩
  case round =>
    clear hB0 hR0
    obtain ⟨k, hk, rfl, hR, hB⟩ := hrel
    by_cases hlt : k < n
    · have hz2 := hzh.out.below hB (Nat.le_refl _)
      have a1 := hz2.ce k hlt
      have a3 := hz2.lt k hlt
      have b1 := @Syms.ix _ _ _ _ _ c _ hz2 _ hlt
      have j1 := hR.cell hlt
      rw [mix_at] at j1
      have j2 := hR.frozen k
      have j4 := @RowF.ix _ _ _ n _ hR _ hlt
      have e1 := (s k).isLt
      obtain ⟨x, hx⟩ : ∃ x, x = (s k).val := ⟨_, rfl⟩
      simp only [sv] at a1
      rw [← hx] at a1 e1
      have hRh := hid hR
      have hBh := hid hB
      have hxh := hid hx
      clear hR hB hz2 hx
      go_wp2_with fail
      go_roundw
      case rel =>
        refine ⟨k + 1, by omega, by go_num, ?_, hBh.out.setCell (Nat.le_refl _) _⟩
        have e2 : nf s k = (x : Int) := by unfold nf; rw [hxh.out]
        rw [← e2]
        exact (hRh.out.set k (nf s k)).congr (fun i _ => mix_step (b := fun _ => 0) i)
      case measure => simp [intOf]; omega
    · go_wp2_with fail
      go_returns
      exact ⟨w.heap.size, n, rfl, Nat.le_refl _, Nat.le_refl _, hR.congr (fun i hi => mix_all (show i < k by omega)), hB⟩
set_option maxRecDepth 100000 in
set_option maxHeartbeats 2000000 in
theorem c46_47y (n r : Nat) (A : Option Addr) (b o c : Nat) (f : Nat → Int) (w : World) (hr : r ≤ n) (hn : n ≤ 15) (hz : Ints w A b o (n - r) f) (ha : allS (n - r) f) :
    Calls Tryd.prog 46 #[cv n r, .func (.func 47) #[] #[], .slice A (n - r) c] w fun e w' => ∃ g c', e = .returned (.tuple #[.slice (some ⟨g, 0, none⟩) (n - r) c', .int .i64 0]) ∧ w.heap.size ≤ g ∧ RowS w' g (n - r) (sy f) ∧ Below w.heap.size w w' := by
  obtain ⟨m, hm⟩ : ∃ m, m = n - r := ⟨_, rfl⟩
  rw [← hm] at hz ha ⊢
  have hmh := hid hm
  have hzh := hid hz
  have hah := hid ha
  have e1 : ((m : Int) != (m : Int)) = false := by simp
  have hm2 : m ≤ 15 := by omega
  have hB0 : Hid (Below w.heap.size w (w.alloc (.cells #[.int .i64 (n : Nat), .int .i64 (r : Nat)] 66))) := hid (by (repeat' (first | (with_reducible exact Below.refl _ _) | (with_reducible assumption) | (with_reducible refine Below.alloc ?_ ?_ _) | (with_reducible refine Below.drew ?_) | (with_reducible refine below_drewN ?_ _) | (with_reducible refine Below.setCell ?_ ?_ _) | (with_reducible refine Below.trans ?_ (Below.mono (by with_reducible assumption) ?_)) | go_size)))
  clear hm hz ha
  go_enter Tryd.func46, Tryd.ntmps46
  go_wp2_with (first | (go_at_call 47; refine (c47 n r _ hr (by omega)).mono ?_; rw [← hmh.out]; rintro e w1 ⟨rfl, hB1⟩; have hB1 := hid (hB0.out.trans (hB1.mono (by simp)))) | (go_at_call 81; refine (c81 A b o m c f _ (hzh.out.below hB1.out (Nat.le_refl _)) (by omega)).mono ?_; intro e w2 hr; obtain ⟨rfl, rfl⟩ := hr.un.2 (fun h => h hah.out); clear hr) | (go_at_call 82; refine (c82 A b o m c f _ (hzh.out.below hB1.out (Nat.le_refl _)) hah.out (by omega)).mono ?_; rintro e w3 ⟨g, c3, rfl, hg, hc, hR, hB3⟩; have hRh := hid hR; have hB3h := hid hB3; clear hR hB3))
  go_returns
  have := hB1.out.size
  exact ⟨g, c3, rfl, by omega, hRh.out, hB1.out.trans (hB3h.out.mono hB1.out.size)⟩
set_option maxRecDepth 100000 in
set_option maxHeartbeats 2000000 in
theorem c46_47n (n r : Nat) (A : Option Addr) (b o l c : Nat) (f : Nat → Int) (w : World) (hr : r ≤ n) (hn : n ≤ 15) (hz : Ints w A b o l f) (hl : l ≤ 1000) (ha : ¬ (l = n - r ∧ allS l f)) :
    Calls Tryd.prog 46 #[cv n r, .func (.func 47) #[] #[], .slice A l c] w fun e w' => e = .returned (.tuple #[.slice none 0 0, .int .i64 51]) ∧ Below w.heap.size w w' := by
  obtain ⟨m, hm⟩ : ∃ m, m = n - r := ⟨_, rfl⟩
  rw [← hm] at ha
  have hmh := hid hm
  have hzh := hid hz
  have hm2 : m ≤ 15 := by omega
  have hB0 : Hid (Below w.heap.size w (w.alloc (.cells #[.int .i64 (n : Nat), .int .i64 (r : Nat)] 66))) := hid (by (repeat' (first | (with_reducible exact Below.refl _ _) | (with_reducible assumption) | (with_reducible refine Below.alloc ?_ ?_ _) | (with_reducible refine Below.drew ?_) | (with_reducible refine below_drewN ?_ _) | (with_reducible refine Below.setCell ?_ ?_ _) | (with_reducible refine Below.trans ?_ (Below.mono (by with_reducible assumption) ?_)) | go_size)))
  clear hm hz
  by_cases hlm : l = m
  · have e1 : ((l : Int) != (m : Int)) = false := by simp; omega
    have hah : Hid (¬ allS l f) := hid (fun h => ha ⟨hlm, h⟩)
    clear ha hlm
    go_enter Tryd.func46, Tryd.ntmps46
    go_wp2_with (first | (go_at_call 47; refine (c47 n r _ hr (by omega)).mono ?_; rw [← hmh.out]; rintro e w1 ⟨rfl, hB1⟩; have hB1 := hid (hB0.out.trans (hB1.mono (by simp)))) | (go_at_call 81; refine (c81 A b o l c f _ (hzh.out.below hB1.out (Nat.le_refl _)) (by omega)).mono ?_; intro e w2 hr; obtain ⟨rfl, rfl⟩ := hr.un.1 hah.out; clear hr))
    go_returns
    exact ⟨rfl, hB1.out⟩
  · have e1 : ((l : Int) != (m : Int)) = true := by simp; omega
    clear ha hlm
    go_enter Tryd.func46, Tryd.ntmps46
    go_wp2_with (go_at_call 47; refine (c47 n r _ hr (by omega)).mono ?_; rw [← hmh.out]; rintro e w1 ⟨rfl, hB1⟩; have hB1 := hid (hB0.out.trans (hB1.mono (by simp))))
    go_returns
    exact ⟨rfl, hB1.out⟩
set_option maxRecDepth 100000 in
set_option maxHeartbeats 2000000 in
theorem c46_52y (n r : Nat) (A : Option Addr) (b o c : Nat) (f : Nat → Int) (w : World) (hr : r ≤ n) (hn : n ≤ 15) (hz : Ints w A b o (n) f) (ha : allS (n) f) :
    Calls Tryd.prog 46 #[cv n r, .func (.func 52) #[] #[], .slice A (n) c] w fun e w' => ∃ g c', e = .returned (.tuple #[.slice (some ⟨g, 0, none⟩) (n) c', .int .i64 0]) ∧ w.heap.size ≤ g ∧ RowS w' g (n) (sy f) ∧ Below w.heap.size w w' := by
  have hzh := hid hz
  have hah := hid ha
  have e1 : ((n : Int) != (n : Int)) = false := by simp
  have hm2 : n ≤ 15 := by omega
  have hB0 : Hid (Below w.heap.size w (w.alloc (.cells #[.int .i64 (n : Nat), .int .i64 (r : Nat)] 66))) := hid (by (repeat' (first | (with_reducible exact Below.refl _ _) | (with_reducible assumption) | (with_reducible refine Below.alloc ?_ ?_ _) | (with_reducible refine Below.drew ?_) | (with_reducible refine below_drewN ?_ _) | (with_reducible refine Below.setCell ?_ ?_ _) | (with_reducible refine Below.trans ?_ (Below.mono (by with_reducible assumption) ?_)) | go_size)))
  clear hz ha
  go_enter Tryd.func46, Tryd.ntmps46
  go_wp2_with (first | (go_at_call 52; refine (c52 n r _).mono ?_; rintro e w1 ⟨rfl, hB1⟩; have hB1 := hid (hB0.out.trans (hB1.mono (by simp)))) | (go_at_call 81; refine (c81 A b o n c f _ (hzh.out.below hB1.out (Nat.le_refl _)) (by omega)).mono ?_; intro e w2 hr; obtain ⟨rfl, rfl⟩ := hr.un.2 (fun h => h hah.out); clear hr) | (go_at_call 82; refine (c82 A b o n c f _ (hzh.out.below hB1.out (Nat.le_refl _)) hah.out (by omega)).mono ?_; rintro e w3 ⟨g, c3, rfl, hg, hc, hR, hB3⟩; have hRh := hid hR; have hB3h := hid hB3; clear hR hB3))
  go_returns
  have := hB1.out.size
  exact ⟨g, c3, rfl, by omega, hRh.out, hB1.out.trans (hB3h.out.mono hB1.out.size)⟩
set_option maxRecDepth 100000 in
set_option maxHeartbeats 2000000 in
theorem c46_52n (n r : Nat) (A : Option Addr) (b o l c : Nat) (f : Nat → Int) (w : World) (hr : r ≤ n) (hn : n ≤ 15) (hz : Ints w A b o l f) (hl : l ≤ 1000) (ha : ¬ (l = n ∧ allS l f)) :
    Calls Tryd.prog 46 #[cv n r, .func (.func 52) #[] #[], .slice A l c] w fun e w' => e = .returned (.tuple #[.slice none 0 0, .int .i64 51]) ∧ Below w.heap.size w w' := by
  have hzh := hid hz
  have hm2 : n ≤ 15 := by omega
  have hB0 : Hid (Below w.heap.size w (w.alloc (.cells #[.int .i64 (n : Nat), .int .i64 (r : Nat)] 66))) := hid (by (repeat' (first | (with_reducible exact Below.refl _ _) | (with_reducible assumption) | (with_reducible refine Below.alloc ?_ ?_ _) | (with_reducible refine Below.drew ?_) | (with_reducible refine below_drewN ?_ _) | (with_reducible refine Below.setCell ?_ ?_ _) | (with_reducible refine Below.trans ?_ (Below.mono (by with_reducible assumption) ?_)) | go_size)))
  clear hz
  by_cases hlm : l = n
  · have e1 : ((l : Int) != (n : Int)) = false := by simp; omega
    have hah : Hid (¬ allS l f) := hid (fun h => ha ⟨hlm, h⟩)
    clear ha hlm
    go_enter Tryd.func46, Tryd.ntmps46
    go_wp2_with (first | (go_at_call 52; refine (c52 n r _).mono ?_; rintro e w1 ⟨rfl, hB1⟩; have hB1 := hid (hB0.out.trans (hB1.mono (by simp)))) | (go_at_call 81; refine (c81 A b o l c f _ (hzh.out.below hB1.out (Nat.le_refl _)) (by omega)).mono ?_; intro e w2 hr; obtain ⟨rfl, rfl⟩ := hr.un.1 hah.out; clear hr))
    go_returns
    exact ⟨rfl, hB1.out⟩
  · have e1 : ((l : Int) != (n : Int)) = true := by simp; omega
    clear ha hlm
    go_enter Tryd.func46, Tryd.ntmps46
    go_wp2_with (go_at_call 52; refine (c52 n r _).mono ?_; rintro e w1 ⟨rfl, hB1⟩; have hB1 := hid (hB0.out.trans (hB1.mono (by simp))))
    go_returns
    exact ⟨rfl, hB1.out⟩
/-- A length and a number of parity symbols that are valid. -/
def vld (L P : Int) : Prop := 2 ≤ L ∧ L ≤ 15 ∧ 1 ≤ P ∧ P ≤ 8 ∧ P ≤ L - 1
set_option maxRecDepth 100000 in
set_option maxHeartbeats 2000000 in
theorem c44y (L P : Int) (w : World) (h : vld L P) : Calls Tryd.prog 44 #[.agg #[.int .i64 L, .int .i64 P]] w fun e w' => e = .returned (.tuple #[.agg #[.int .i64 L, .int .i64 P], .int .i64 0]) ∧ Below w.heap.size w w' := by
  obtain ⟨h1, h2, h3, h4, h5⟩ := h
  have hh : 1 ≤ P ∧ P ≤ min 8 (L - 1) := by omega
  have hhh := hid hh
  clear hh
  go_enter Tryd.func44, Tryd.ntmps44
  go_wp2_with (go_at_call 68; refine (c68y _ (by first | omega | exact hhh.out)).mono ?_; rintro e w' ⟨rfl, rfl⟩)
  refine bodyPost_ret (v := .tuple #[.agg #[.int .i64 L, .int .i64 P], .int .i64 0]) (by simp [results, Tryd.results44, go_sem]) rfl ⟨rfl, ?_⟩
  (repeat' (first | (with_reducible exact Below.refl _ _) | (with_reducible assumption) | (with_reducible refine Below.alloc ?_ ?_ _) | (with_reducible refine Below.drew ?_) | (with_reducible refine below_drewN ?_ _) | (with_reducible refine Below.setCell ?_ ?_ _) | (with_reducible refine Below.trans ?_ (Below.mono (by with_reducible assumption) ?_)) | go_size))
set_option maxRecDepth 100000 in
set_option maxHeartbeats 2000000 in
theorem c44n (L P : Int) (w : World) (h : ¬ vld L P) : Calls Tryd.prog 44 #[.agg #[.int .i64 L, .int .i64 P]] w fun e w' => e = .returned (.tuple #[.agg #[.int .i64 0, .int .i64 0], .int .i64 50]) ∧ Below w.heap.size w w' := by
  by_cases h1 : 2 ≤ L ∧ L ≤ 15
  · have hh : Hid (¬ (1 ≤ P ∧ P ≤ min 8 (L - 1))) := hid (by
      intro hc
      apply h
      unfold vld
      omega)
    have h1h := hid h1
    have k1 := h1.1
    have k2 := h1.2
    clear h h1
    go_enter Tryd.func44, Tryd.ntmps44
    go_wp2_with (first | (go_at_call 68; (with_reducible refine (c68y (n := L) (l := 2) (h := 15) _ h1h.out).mono ?_); rintro e w' ⟨rfl, rfl⟩) | (go_at_call 68; (with_reducible refine (c68n (n := P) (l := 1) (h := min 8 (L - 1)) _ hh.out).mono ?_); rintro e w' ⟨rfl, rfl⟩))
    refine bodyPost_ret (v := .tuple #[.agg #[.int .i64 0, .int .i64 0], .int .i64 50]) (by simp [results, Tryd.results44, go_sem]) rfl ⟨rfl, ?_⟩
    (repeat' (first | (with_reducible exact Below.refl _ _) | (with_reducible assumption) | (with_reducible refine Below.alloc ?_ ?_ _) | (with_reducible refine Below.drew ?_) | (with_reducible refine below_drewN ?_ _) | (with_reducible refine Below.setCell ?_ ?_ _) | (with_reducible refine Below.trans ?_ (Below.mono (by with_reducible assumption) ?_)) | go_size))
  · have h1h := hid h1
    clear h h1
    go_enter Tryd.func44, Tryd.ntmps44
    go_wp2_with (go_at_call 68; refine (c68n _ h1h.out).mono ?_; rintro e w' ⟨rfl, rfl⟩)
    refine bodyPost_ret (v := .tuple #[.agg #[.int .i64 0, .int .i64 0], .int .i64 50]) (by simp [results, Tryd.results44, go_sem]) rfl ⟨rfl, ?_⟩
    (repeat' (first | (with_reducible exact Below.refl _ _) | (with_reducible assumption) | (with_reducible refine Below.alloc ?_ ?_ _) | (with_reducible refine Below.drew ?_) | (with_reducible refine below_drewN ?_ _) | (with_reducible refine Below.setCell ?_ ?_ _) | (with_reducible refine Below.trans ?_ (Below.mono (by with_reducible assumption) ?_)) | go_size))
end Go.Proofs.YtnndhibhnakdoaaDoor
