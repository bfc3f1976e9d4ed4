/- Stage 5: the sums of a word. -/
import Derived.Test.YtnndhibhnakdoaaDoorD
import Derived.Test.YtnndhibhnakdoaaDoorWd
set_option linter.unusedSimpArgs false
set_option linter.unusedVariables false
namespace Go.Proofs.YtnndhibhnakdoaaDoor
open Go.RowKit Go.BigFrame Go.Sort
open Gf (S)

/-- A code in a box. -/
def Bx (n r : Nat) (w : World) (b : Nat) : Prop := w.cell? ⟨b, 0, none⟩ = some (.int .i64 (n : Nat)) ∧ w.cell? ⟨b, 1, none⟩ = some (.int .i64 (r : Nat))
theorem Bx.keep {n r b : Nat} {w w' : World} (h : Bx n r w b) (k : ∀ o, w'.cell? ⟨b, o, none⟩ = w.cell? ⟨b, o, none⟩) : Bx n r w' b := ⟨(k _).trans h.1, (k _).trans h.2⟩
theorem Bx.below {n r b B : Nat} {w w' : World} (h : Bx n r w b) (hb : Below B w w') (hB : b < B) : Bx n r w' b := h.keep fun o => hb.cell (p := ⟨b, o, none⟩) hB
theorem Bx.new (n r : Nat) (w : World) (t : TypeId) : Bx n r (w.alloc (.cells #[.int .i64 (n : Nat), .int .i64 (r : Nat)] t)) w.heap.size := by unfold Bx; simp
theorem c112B (a b : S) (w : World) (hT : Tab w) : Calls Tryd.prog 112 #[sv a, sv b] w fun e w' => e = .returned (sv (Gf.mu a b)) ∧ Below w.heap.size w w' :=
  (c112 a b w hT).mono fun _ _ ⟨h1, q, h2⟩ => ⟨h1, h2 ▸ below_drewN (Below.refl _ _) q⟩
theorem c106B (a b : S) (w : World) (hT : Tab w) : Calls Tryd.prog 106 #[sv a, sv b] w fun e w' => e = .returned (sv (Gf.qu a b)) ∧ Below w.heap.size w w' :=
  (c106 a b w hT).mono fun _ _ ⟨h1, q, h2⟩ => ⟨h1, h2 ▸ below_drewN (Below.refl _ _) q⟩
/-- Sums up to one position. -/
def sp (n : Nat) (wd : Nat → S) (k i : Nat) : S := Gf.sm (fun j => Gf.mu (wd j) (Gf.un (Gf.ba n j) i)) k
theorem sp_succ (n : Nat) (wd : Nat → S) (k i : Nat) : sp n wd (k + 1) i = Gf.ad (sp n wd k i) (Gf.mu (wd k) (Gf.un (Gf.ba n k) i)) := rfl
theorem xor_sv (a b : S) : bits .xor .u8 ((a.val : Nat) : Int) ((b.val : Nat) : Int) = (((Gf.ad a b).val : Nat) : Int) := xor_all a b
theorem cell_regrown {w : World} {b o : Nat} {v : Value} (h : w.cell? ⟨b, o, none⟩ = some v) : ∀ d os, (grow (redrawn w d) os).cell? ⟨b, o, none⟩ = some v := fun d os =>
  ((below_regrown w d os).cell (p := ⟨b, o, none⟩) (World.block_lt_of_cell? w _ h)).trans h
set_option maxRecDepth 100000 in
set_option maxHeartbeats 4000000 in
theorem c92 (n r : Nat) (A : Option Addr) (b o c : Nat) (wd : Nat → S) (w : World) (hT : Tab w) (hz : Syms w A b o n wd) (hn : n ≤ 15) (hr : r ≤ 8) : Calls Tryd.prog 92 #[cv n r, .slice A n c] w (SRet r (Gf.syn n wd) w) := by
  have hmk := fun W => run_make_row' (P := Tryd.prog) 70 76 (.int .u8 0) 1 Tryd.underlying70 Tryd.info76 rfl .i64 .i64 r (by omega) (by omega) W
  have hTh := hid hT
  have hzh := hid hz
  clear hT hz
  go_enter Tryd.func92, Tryd.ntmps92
  go_wp2_with fail
  have hR0 : Hid (RowS ((w.alloc (.cells #[.int .i64 (n : Nat), .int .i64 (r : Nat)] 66)).alloc (.cells (madeCells #[.int .u8 0] r) 76)) (w.heap.size + 1) r (fun _ => 0)) := hid (by
    have := RowS.made (w.alloc (.cells #[.int .i64 (n : Nat), .int .i64 (r : Nat)] 66)) r
    simpa using this)
  have hB0 : Hid (Below w.heap.size w ((w.alloc (.cells #[.int .i64 (n : Nat), .int .i64 (r : Nat)] 66)).alloc (.cells (madeCells #[.int .u8 0] r) 76))) := hid (by (repeat' (first | (with_reducible exact Below.refl _ _) | (with_reducible assumption) | (with_reducible refine Below.alloc ?_ ?_ _) | (with_reducible refine Below.drew ?_) | (with_reducible refine below_drewN ?_ _) | (with_reducible refine Below.setCell ?_ ?_ _) | (with_reducible refine Below.trans ?_ (Below.mono (by with_reducible assumption) ?_)) | go_size)))
  have hX0 : Hid (Bx n r ((w.alloc (.cells #[.int .i64 (n : Nat), .int .i64 (r : Nat)] 66)).alloc (.cells (madeCells #[.int .u8 0] r) 76)) w.heap.size) := hid (by unfold Bx; simp)
  clear hmk
  go_loopw [16] (fun iv wr => ∃ k : Nat, k ≤ n ∧ iv = .int .i64 k ∧ RowS wr (w.heap.size + 1) r (sp n wd k) ∧ Bx n r wr w.heap.size ∧ Below w.heap.size w wr) (fun iv _ => n - (intOf iv).toNat)
  case atStart => exact ⟨0, Nat.zero_le _, rfl, hR0.out.congr (fun i _ => rfl), hX0.out, hB0.out⟩
  case round =>
    clear hB0 hR0 hX0
    obtain ⟨k, hk, rfl, hR, hX, hB⟩ := hrel
    by_cases hlt : k < n
    · obtain ⟨p1, p2⟩ := hX
      have hz2 := hzh.out.below hB (Nat.le_refl _)
      have j1 := hz2.ce k hlt
      have j3 := hz2.lt k hlt
      have j4 := @Syms.ix _ _ _ _ _ c _ hz2 _ hlt
      have hX : Hid (Bx n r wr w.heap.size) := hid ⟨p1, p2⟩
      have hRh := hid hR
      have hBh := hid hB
      clear hR hB hz2
      go_wp2_with (go_at_call 105; refine (c105 n r k _ (hTh.out.below hBh.out (Nat.le_refl _)) hlt hn hr).mono ?_; rintro e w2 ⟨g, c2, rfl, hg, hc2, hR2, hB2⟩; replace hR2 := hid hR2; have hgs := hRh.out.lt; replace hRh := hid (hRh.out.below hB2 hgs); replace hX := hid (hX.out.below hB2 (by omega)); replace hBh := hid (hBh.out.trans (hB2.mono hBh.out.size)); have hs2 := hB2.size; clear hB2 p1 p2 j1 j3)
      have hgn : g ≠ w.heap.size + 1 := by omega
      have hgn2 : w.heap.size < g := by omega
      obtain ⟨W2, hW2⟩ : ∃ W2, W2 = w2 := ⟨_, rfl⟩
      go_loopw [25] (fun iv wr => ∃ i : Nat, i ≤ r ∧ iv = .int .i64 i ∧ RowS wr (w.heap.size + 1) r (mix i (sp n wd (k + 1)) (sp n wd k)) ∧ RowS wr g r (Gf.un (Gf.ba n k)) ∧ Bx n r wr w.heap.size ∧ Below w.heap.size w wr) (fun iv _ => r - (intOf iv).toNat)
      case atStart => exact ⟨0, Nat.zero_le _, rfl, hRh.out.congr (fun i _ => (mix_zero _ _ i).symm), hR2.out, hX.out, hBh.out⟩
      case round =>
        rename World => wi
        clear hRh hR2 hX hBh
        obtain ⟨i, hi, rfl, hR, hR2, hX, hB⟩ := hrel
        by_cases hil : i < r
        · have k1 := hR.cell hil
          rw [mix_at] at k1
          have k2 := hR.frozen i
          have k4 := @RowS.ix _ _ _ r _ hR _ hil
          have l1 := hR2.cell hil
          have l4 := @RowS.ix _ _ _ c2 _ hR2 _ hil
          obtain ⟨x, hx⟩ : ∃ x, x = sp n wd k i := ⟨_, rfl⟩
          obtain ⟨y, hy⟩ : ∃ y, y = Gf.un (Gf.ba n k) i := ⟨_, rfl⟩
          obtain ⟨z, hzz⟩ : ∃ z, z = wd k := ⟨_, rfl⟩
          rw [← hx] at k1
          rw [← hy] at l1
          rw [← hzz]
          have hRh := hid hR
          have hR2h := hid hR2
          have hXh := hid hX
          have hBh := hid hB
          have hxh := hid hx
          have hyh := hid hy
          have hzzh := hid hzz
          have kk1 := cell_regrown k1
          clear hR hR2 hX hB hx hy hzz
          go_wp2_with fail
          refine wpIn_wide.1 (tail2_region (F := Fence.wide) (n := 0) (by kernel_rfl) (by kernel_rfl) (by kernel_rfl) ?_); simp only [stub, lastOp]; (repeat (refine wpQuietIn_step (fun _ _ _ _ => trivial) (fun K hK => ?_); go_simp; first | (refine hK _ ?_; clear hK K) | (apply Exists.intro; refine ⟨fun _ => ?_, hK _ ?_⟩; (first | exact ⟨rfl, CallsIn.regrown_of (callsIn_wide.2 (c112B z y _ (hTh.out.below (hBh.out.trans (Below.mono (below_regrown _ _ _) hBh.out.size)) (Nat.le_refl _))))⟩); clear hK K))); refine wpQuietIn_nil ?_; intro _ hwq; obtain ⟨q, hwq⟩ := hwq; subst hwq
          have hB5 := below_regrown wi q.d q.os
          generalize grow (redrawn wi q.d) q.os = w5 at hB5 ⊢
          have hR5 := hRh.out.below hB5 hRh.out.lt
          have m1 := hR5.cell hil
          have m2 := hR5.frozen i
          have hR5h := hid hR5
          have hX5 := hid (hXh.out.below hB5 (Nat.lt_trans (Nat.lt_succ_self _) hRh.out.lt))
          have hR25 := hid (hR2h.out.below hB5 hR2h.out.lt)
          have hB5h := hid (hBh.out.trans (hB5.mono hBh.out.size))
          clear hB5 hR5 k1 k2 kk1 l1
          gi_wp2
          go_wp2
          go_roundw
          case rel =>
            refine ⟨i + 1, by omega, by go_num, ?_, hR25.out.setOther (by simpa using hgn) _, hX5.out.keep (fun o => World.cell?_of_block (Below.heap_setCell _ ⟨w.heap.size + 1, i, none⟩ _ _ (by simp))), hB5h.out.setCell (show w.heap.size ≤ w.heap.size + 1 by omega) _⟩
            rw [xor_sv]
            refine (hR5h.out.set i _).congr (fun j _ => ?_)
            rw [hxh.out, hyh.out, hzzh.out, ← sp_succ]
            exact mix_step j
          case measure => simp [intOf]; omega
        · go_wp2_with fail
          go_roundw
          case rel => exact ⟨k + 1, by omega, by go_num, hR.congr (fun j hj => mix_all (show j < i by omega)), hX, hB⟩
          case measure => simp [intOf]; omega
    · go_wp2_with fail
      go_returns
      obtain rfl : k = n := by omega
      exact ⟨w.heap.size + 1, r, rfl, by omega, Nat.le_refl _, hR, hB⟩
end Go.Proofs.YtnndhibhnakdoaaDoor
