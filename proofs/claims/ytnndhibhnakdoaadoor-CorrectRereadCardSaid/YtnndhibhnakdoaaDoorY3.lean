/- Stage 5: marks in order; whether a word is a code word; noise. -/
import Derived.Test.YtnndhibhnakdoaaDoorY2
set_option linter.unusedSimpArgs false
set_option linter.unusedVariables false
namespace Go.Proofs.YtnndhibhnakdoaaDoor
open Go.RowKit Go.BigFrame Go.Sort
open Gf (S)

theorem Ints.ix' {w : World} {A : Option Addr} {b o n c : Nat} {f : Nat → Int} (h : Ints w A b o n f) {k : Nat} (hk : k < n) {j : Int} (e : j = (k : Nat)) (w' : World) :
    (Instr.indexAt 24 (.slice A n c) (.int .i64 j)).run Tryd.prog w' = .ok (.pointer (some ⟨b, o + k, none⟩)) w' := by
  subst e
  exact h.ix hk w'
theorem c45yB {n l h : Int} (w : World) (p : l ≤ n ∧ n ≤ h) : Calls Tryd.prog 45 #[.int .i64 n, .int .i64 l, .int .i64 h] w fun e w' => e = .returned (.bool true) ∧ Below w.heap.size w w' :=
  (c45y w p).mono fun _ _ h => ⟨h.1, h.2 ▸ Below.refl _ _⟩
theorem c45nB {n l h : Int} (w : World) (p : ¬ (l ≤ n ∧ n ≤ h)) : Calls Tryd.prog 45 #[.int .i64 n, .int .i64 l, .int .i64 h] w fun e w' => e = .returned (.bool false) ∧ Below w.heap.size w w' :=
  (c45n w p).mono fun _ _ h => ⟨h.1, h.2 ▸ Below.refl _ _⟩
set_option maxRecDepth 100000 in
set_option maxHeartbeats 4000000 in
theorem c66 (A : Option Addr) (b o m c : Nat) (f : Nat → Int) (n : Nat) (w : World) (hz : Ints w A b o m f) (hm : m ≤ 1000) (hn : n ≤ 1000) :
    Calls Tryd.prog 66 #[.slice A m c, .int .i64 (n : Nat)] w (RetBB (asc (n : Nat) m f) w) := by
  have hzh := hid hz
  clear hz
  have en : IntKind.i64.wrap ((n : Int) - 1) = (n : Int) - 1 := IntWalk.i64_in _ (by omega)
  go_enter Tryd.func66, Tryd.ntmps66
  go_wp2_with fail
  go_loopw [5] (fun iv wr => ∃ k : Nat, k ≤ m ∧ iv = .int .i64 k ∧ Hid (∀ j, j < k → okm (n : Nat) f j) ∧ Below w.heap.size w wr) (fun iv _ => m - (intOf iv).toNat)
  case atStart => exact ⟨0, Nat.zero_le _, rfl, fun j hj => absurd hj (Nat.not_lt_zero _), Below.refl _ _⟩
  case round =>
    obtain ⟨k, hk, rfl, hall, hB⟩ := hrel
    by_cases hlt : k < m
    · have hz2 := hid (hzh.out.below hB (Nat.le_refl _))
      have a1 := hz2.out.ce k hlt
      have b1 := fun w' => @Ints.ix _ _ _ _ _ c _ hz2.out _ hlt w'
      have d1 := cell_regrown a1
      have hBh := hid hB
      clear hB
      by_cases hw : 0 ≤ f k ∧ f k ≤ (n : Int) - 1
      · have hwh := hid hw
        by_cases hk0 : k = 0
        · subst hk0
          have hok : Hid (okm (n : Nat) f 0) := hid ⟨by rw [nxt_zero]; exact hw.1, hw.2⟩
          have b0 := fun w' => @Ints.ix' _ _ _ _ _ c _ hz2.out 0 hlt 0 rfl w'
          simp only [Nat.add_zero] at a1 d1 b0
          clear hw b1
          go_wp2_with fail
          refine wp_region_quiet_below (by kernel_rfl) (by kernel_rfl) ?_; (repeat (go_big_quiet_step ((first | (go_at_call 45; exact Calls.regrown_of (c45yB _ hwh.out)))))); refine wpQuiet_nil ?_; intro _ hw; obtain ⟨q, hwq⟩ := hw; subst hwq
          go_wp2_with fail
          go_roundw
          case rel => exact ⟨1, by omega, by go_num, (fun j hj => by obtain rfl : j = 0 := by omega
                                                                     exact hok.out), hBh.out.trans ((below_regrown _ _ _).mono hBh.out.size)⟩
          case measure => simp [intOf]; omega
        · obtain ⟨k', rfl⟩ : ∃ k', k = k' + 1 := ⟨k - 1, by omega⟩
          have a2 := hz2.out.ce k' (by omega)
          have d2 := cell_regrown a2
          have b2' := fun w' => @Ints.ix _ _ _ _ _ c _ hz2.out k' (by omega) w'
          have b3 := fun w' => @Ints.ix' _ _ _ _ _ c _ hz2.out (k' + 1) hlt ((k' : Int) + 1) (by omega) w'
          have ek : IntKind.i64.wrap (k' : Int) = (k' : Int) := IntWalk.i64_in _ (by omega)
          have dk : decide ((0 : Int) < (k' : Int) + 1) = true := decide_eq_true (by omega)
          obtain ⟨x, hx⟩ : ∃ x, x = f k' := ⟨_, rfl⟩
          obtain ⟨y, hy⟩ : ∃ y, y = f (k' + 1) := ⟨_, rfl⟩
          rw [← hy] at a1 d1 hw
          rw [← hx] at a2 d2
          have hwy : Hid (0 ≤ y ∧ y ≤ (n : Int) - 1) := hid hw
          have hxh := hid hx
          have hyh := hid hy
          clear hwh hx hy hk0
          by_cases hc : y ≤ x
          · have q1 : decide (y ≤ x) = true := decide_eq_true hc
            have hch := hid hc
            clear hc hw
            go_wp2_with fail
            refine wp_region_quiet_below (by kernel_rfl) (by kernel_rfl) ?_; (repeat (go_big_quiet_step ((first | (go_at_call 45; exact Calls.regrown_of (c45yB _ hwy.out)))))); refine wpQuiet_nil ?_; intro _ hw; obtain ⟨q, hwq⟩ := hw; subst hwq
            go_wp2_with fail
            go_returns
            refine RetBB.no (fun h => ?_) (hBh.out.trans ((below_regrown _ _ _).mono hBh.out.size))
            have h1 := (h (k' + 1) hlt).1
            rw [nxt_succ, ← hxh.out, ← hyh.out] at h1
            have := hch.out
            omega
          · have q1 : decide (y ≤ x) = false := decide_eq_false hc
            have hok : Hid (okm (n : Nat) f (k' + 1)) := hid ⟨by rw [nxt_succ, ← hxh.out, ← hyh.out]; omega, by rw [← hyh.out]; exact hw.2⟩
            clear hc hw
            go_wp2_with fail
            refine wp_region_quiet_below (by kernel_rfl) (by kernel_rfl) ?_; (repeat (go_big_quiet_step ((first | (go_at_call 45; exact Calls.regrown_of (c45yB _ hwy.out)))))); refine wpQuiet_nil ?_; intro _ hw; obtain ⟨q, hwq⟩ := hw; subst hwq
            go_wp2_with fail
            go_roundw
            case rel =>
              refine ⟨k' + 2, by omega, by go_num, fun j hj => ?_, hBh.out.trans ((below_regrown _ _ _).mono hBh.out.size)⟩
              by_cases e : j = k' + 1
              · subst e; exact hok.out
              · exact hall.out j (by omega)
            case measure => simp [intOf]; omega
      · have hwh := hid hw
        clear hw
        go_wp2_with fail
        refine wp_region_quiet_below (by kernel_rfl) (by kernel_rfl) ?_; (repeat (go_big_quiet_step ((first | (go_at_call 45; exact Calls.regrown_of (c45nB _ hwh.out)))))); refine wpQuiet_nil ?_; intro _ hw; obtain ⟨q, hwq⟩ := hw; subst hwq
        go_wp2_with fail
        go_returns
        refine RetBB.no (fun h => ?_) (hBh.out.trans ((below_regrown _ _ _).mono hBh.out.size))
        have h1 := asc_ge h k hlt
        exact hwh.out ⟨by omega, (h k hlt).2⟩
    · obtain rfl : k = m := by omega
      go_wp2_with fail
      go_returns
      exact RetBB.yes hall.out hB
theorem pw_mul : ∀ i j : Fin 15, Gf.pw (i.val + j.val) = Gf.mu (Gf.pw i.val) (Gf.pw j.val) := by decide +kernel
theorem pw_mod (k : Nat) : Gf.pw (k % 15) = Gf.pw k := by unfold Gf.pw; rw [Nat.mod_mod]
theorem pw_add (i j : Nat) : Gf.pw (i + j) = Gf.mu (Gf.pw i) (Gf.pw j) := by
  have h := pw_mul ⟨i % 15, Nat.mod_lt _ (by decide)⟩ ⟨j % 15, Nat.mod_lt _ (by decide)⟩
  simp only [pw_mod] at h
  rw [← h, ← pw_mod (i + j), ← pw_mod (i % 15 + j % 15), show (i % 15 + j % 15) % 15 = (i + j) % 15 by omega]
theorem un_pw (m : Nat) : ∀ i, Gf.un (Gf.pw m) i = Gf.pw (i * m)
  | 0 => by rw [Nat.zero_mul]; rfl
  | i + 1 => by rw [Gf.un, un_pw m i, Nat.succ_mul, pw_add]
/-- The sum of the first k products. -/
def spc (n : Nat) (C : Nat → S) (i k : Nat) : S := sp n C k i
theorem spc_succ (n : Nat) (C : Nat → S) (i k : Nat) : spc n C i (k + 1) = Gf.ad (spc n C i k) (Gf.mu (C k) (Gf.pw (i * (n - 1 - k) % 15))) := by
  show Gf.ad (sp n C k i) (Gf.mu (C k) (Gf.un (Gf.ba n k) i)) = _
  unfold Gf.ba
  rw [un_pw, pw_mod]
  rfl
set_option maxRecDepth 100000 in
set_option maxHeartbeats 8000000 in
theorem c38 (n r : Nat) (A : Option Addr) (b o c : Nat) (C : Nat → S) (w : World) (hz : Ints w A b o n (nf C)) (hn : n ≤ 15) (hr : r ≤ 8) :
    Calls Tryd.prog 38 #[cv n r, .slice A n c] w (RetBB (∀ i, i < r → Gf.syn n C i = 0) w) := by
  have hzh := hid hz
  clear hz
  have hB0 : Hid (Below w.heap.size w (w.alloc (.cells #[.int .i64 (n : Nat), .int .i64 (r : Nat)] 23))) := hid (by (repeat' (first | (with_reducible exact Below.refl _ _) | (with_reducible assumption) | (with_reducible refine Below.alloc ?_ ?_ _) | (with_reducible refine Below.drew ?_) | (with_reducible refine below_drewN ?_ _) | (with_reducible refine Below.setCell ?_ ?_ _) | (with_reducible refine Below.trans ?_ (Below.mono (by with_reducible assumption) ?_)) | go_size)))
  have hX0 : Hid (Bx n r (w.alloc (.cells #[.int .i64 (n : Nat), .int .i64 (r : Nat)] 23)) w.heap.size) := hid (Bx.new n r w 23)
  have hs0 : Hid (w.heap.size < (w.alloc (.cells #[.int .i64 (n : Nat), .int .i64 (r : Nat)] 23)).heap.size) := hid (by simp)
  go_enter Tryd.func38, Tryd.ntmps38
  go_wp2_with fail
  go_loopw [5] (fun iv wr => ∃ i : Nat, i ≤ r ∧ iv = .int .i64 i ∧ Hid (∀ t, t < i → Gf.syn n C t = 0) ∧ Bx n r wr w.heap.size ∧ Below w.heap.size w wr ∧ w.heap.size < wr.heap.size) (fun iv _ => r - (intOf iv).toNat)
  case atStart => exact ⟨0, Nat.zero_le _, rfl, fun j hj => absurd hj (Nat.not_lt_zero _), hX0.out, hB0.out, hs0.out⟩
  case round =>
    clear hB0 hX0 hs0
    obtain ⟨i, hi, rfl, hall, hX, hB, hs⟩ := hrel
    obtain ⟨p1, p2⟩ := hX
    by_cases hil : i < r
    · have hX1 : Hid (Bx n r wr w.heap.size) := hid ⟨p1, p2⟩
      have hBh := hid hB
      clear hB
      go_wp2_with fail
      go_loopw [6, 7] (fun sm jv wx => ∃ k : Nat, k ≤ n ∧ jv = .int .i64 k ∧ sm = .int .i64 ((spc n C i k).val : Nat) ∧ Bx n r wx w.heap.size ∧ Below w.heap.size w wx ∧ w.heap.size < wx.heap.size) (fun _ jv _ => n - (intOf jv).toNat)
      case atStart => exact ⟨0, Nat.zero_le _, rfl, rfl, hX1.out, hBh.out, hs⟩
      case round =>
        rename World => wi
        clear hX1 hBh p1 p2 hs
        obtain ⟨k, hk, rfl, rfl, hX, hB, hs⟩ := hrel
        obtain ⟨p1, p2⟩ := hX
        by_cases hkl : k < n
        · have hX1 : Hid (Bx n r wi w.heap.size) := hid ⟨p1, p2⟩
          have hBh := hid hB
          have z1 := hzh.out.below hB (Nat.le_refl _)
          have a1 := z1.ce k hkl
          have b1 := fun w' => @Ints.ix _ _ _ _ _ c _ z1 _ hkl w'
          obtain ⟨M, hM⟩ : ∃ M, M = n - 1 - k := ⟨_, rfl⟩
          have hM15 : M ≤ 14 := by omega
          have e1 : IntKind.i64.wrap ((n : Int) - 1) = (n : Int) - 1 := IntWalk.i64_in _ (by omega)
          have e2 : IntKind.i64.wrap ((n : Int) - 1 - (k : Int)) = (M : Int) := by rw [IntWalk.i64_in _ (by omega)]; omega
          obtain ⟨X, hX'⟩ : ∃ X, X = i * M := ⟨_, rfl⟩
          have hX112 : X ≤ 112 := by rw [hX']; calc i * M ≤ 8 * 14 := Nat.mul_le_mul (by omega) hM15
            _ = 112 := rfl
          have e3 : IntKind.i64.wrap ((i : Int) * (M : Int)) = (X : Int) := by
            have : (i : Int) * (M : Int) = (X : Int) := by rw [hX']; push_cast; rfl
            rw [this]; exact IntWalk.i64_in _ (by omega)
          obtain ⟨Z, hZ⟩ : ∃ Z, Z = X % 15 := ⟨_, rfl⟩
          have e4 : (X : Int).tmod 15 = (Z : Int) := by rw [Int.tmod_eq_emod_of_nonneg (by omega)]; omega
          have e5 : (X : Int) % 15 = (Z : Int) := by omega
          have hst := hid (spc_succ n C i k)
          have hsum := xi_all (spc n C i k) (Gf.mu (C k) (Gf.pw Z))
          have hZ15 : Z ≤ 1000 := by omega
          have hZe : Hid (Z = i * (n - 1 - k) % 15) := hid (by rw [hZ, hX', hM])
          have cP := hid (fun W => c77 Z W hZ15)
          have cT := hid (fun W => c42 (C k) (Gf.pw Z) W)
          obtain ⟨x, hx⟩ : ∃ x, x = (C k).val := ⟨_, rfl⟩
          obtain ⟨y, hy⟩ : ∃ y, y = (Gf.pw Z).val := ⟨_, rfl⟩
          obtain ⟨s, hs'⟩ : ∃ s, s = (spc n C i k).val := ⟨_, rfl⟩
          obtain ⟨u, hu⟩ : ∃ u, u = (Gf.mu (C k) (Gf.pw Z)).val := ⟨_, rfl⟩
          obtain ⟨v, hv⟩ : ∃ v, v = (Gf.ad (spc n C i k) (Gf.mu (C k) (Gf.pw Z))).val := ⟨_, rfl⟩
          unfold nf at a1
          rw [← hx] at a1
          rw [← hs', ← hu, ← hv] at hsum
          rw [← hs']
          have cP2 := cP.out
          have cT2 := cT.out
          rw [← hy] at cP2
          rw [← hx, ← hy, ← hu] at cT2
          have cPh := hid cP2
          have cTh := hid cT2
          have hvh := hid hv
          have d1 := cell_regrown a1
          have d2 := cell_regrown p1
          clear z1 hM hX' hZ hx hy hs' hu hv cP2 cT2 cP cT hB
          go_wp2_with fail
          refine wp_region_quiet_below (by kernel_rfl) (by kernel_rfl) ?_; (repeat (go_big_quiet_step ((first | (go_at_call 77; exact Calls.regrown_of ((cPh.out _).mono (fun _ _ h => ⟨h.1, h.2 ▸ Below.refl _ _⟩))) | (go_at_call 42; exact Calls.regrown_of ((cTh.out _).mono (fun _ _ h => ⟨h.1, h.2 ▸ Below.refl _ _⟩))))))); refine wpQuiet_nil ?_; intro _ hw; obtain ⟨q, hwq⟩ := hw; subst hwq
          go_wp2_with fail
          go_roundw
          case rel =>
            refine ⟨k + 1, by omega, by go_num, ?_, hX1.out.below (below_regrown _ _ _) hs, hBh.out.trans ((below_regrown _ _ _).mono hBh.out.size), Nat.lt_of_lt_of_le hs (below_regrown _ _ _).size⟩
            rw [hst.out, ← hZe.out, ← hvh.out]
          case measure => simp [intOf]; omega
        · obtain rfl : k = n := by omega
          have hX1 : Hid (Bx k r wi w.heap.size) := hid ⟨p1, p2⟩
          have hBh := hid hB
          have hsy : Hid (spc k C i k = Gf.syn k C i) := hid rfl
          clear hB
          by_cases h0 : spc k C i k = 0
          · have h0h := hid h0
            rw [h0]
            clear h0
            go_wp2_with fail
            go_roundw
            case rel =>
              refine ⟨i + 1, by omega, by go_num, fun t ht => ?_, hX1.out, hBh.out, hs⟩
              by_cases e : t = i
              · subst e; rw [← hsy.out]; exact h0h.out
              · exact hall.out t (by omega)
            case measure => simp [intOf]; omega
          · have h0h := hid h0
            have hv0 : (spc k C i k).val ≠ 0 := fun e => h0 ((val_zero _).1 e)
            obtain ⟨s, hs'⟩ : ∃ s, s = (spc k C i k).val := ⟨_, rfl⟩
            rw [← hs'] at hv0 ⊢
            have q1 : ((s : Int) != 0) = true := by simp; omega
            have q2 : ((s : Int) == 0) = false := by simp; omega
            clear h0 hs'
            go_wp2_with fail
            go_returns
            exact RetBB.no (fun h => h0h.out (hsy.out.trans (h i hil))) hBh.out
    · obtain rfl : i = r := by omega
      go_wp2_with fail
      go_returns
      exact RetBB.yes hall.out hB
end Go.Proofs.YtnndhibhnakdoaaDoor
