/- Stage 5: sums without some positions. -/
import Derived.Test.YtnndhibhnakdoaaDoorE
set_option linter.unusedSimpArgs false
set_option linter.unusedVariables false
namespace Go.Proofs.YtnndhibhnakdoaaDoor
open Go.RowKit Go.BigFrame Go.Sort
open Gf (S)

theorem Syms.ix' {w : World} {A : Option Addr} {b o n c : Nat} {s : Nat → S} (h : Syms w A b o n s) {k : Nat} (hk : k < n) {j : Int} (e : j = (k : Nat)) (w' : World) :
    (Instr.indexAt 70 (.slice A n c) (.int .i64 j)).run Tryd.prog w' = .ok (.pointer (some ⟨b, o + k, none⟩)) w' := by
  subst e
  exact h.ix hk w'
set_option maxRecDepth 100000 in
set_option maxHeartbeats 4000000 in
theorem c111 (n r : Nat) (A : Option Addr) (b o l c j : Nat) (s : Nat → S) (w : World) (hT : Tab w) (hz : Syms w A b o (l + 1) s) (hn : n ≤ 15) (hl : l ≤ 8) (hj : j < n) :
    Calls Tryd.prog 111 #[cv n r, .slice A (l + 1) c, .int .i64 (j : Nat)] w (SRet l (Gf.fl (Gf.ba n j) s) w) := by
  have hmk := fun W => run_make_row' (P := Tryd.prog) 70 76 (.int .u8 0) 1 Tryd.underlying70 Tryd.info76 rfl .i64 .i64 l (by omega) (by omega) W
  have hTh := hid hT
  have hzh := hid hz
  have e0 : ((l + 1 : Nat) : Int) - 1 = (l : Int) := by omega
  have e1 : (l : Int) + 1 - 1 = (l : Int) := by omega
  clear hT hz
  have hB0 : Hid (Below w.heap.size w ((w.alloc (.cells #[.int .i64 (n : Nat), .int .i64 (r : Nat)] 66)).alloc (.cells (madeCells #[.int .u8 0] l) 76))) := hid (by (repeat' (first | (with_reducible exact Below.refl _ _) | (with_reducible assumption) | (with_reducible refine Below.alloc ?_ ?_ _) | (with_reducible refine Below.drew ?_) | (with_reducible refine below_drewN ?_ _) | (with_reducible refine Below.setCell ?_ ?_ _) | (with_reducible refine Below.trans ?_ (Below.mono (by with_reducible assumption) ?_)) | go_size)))
  go_enter Tryd.func111, Tryd.ntmps111
  go_wp2_with (go_at_call 115; refine (c115 n r j _ (hTh.out.below hB0.out (Nat.le_refl _)) hj hn).mono ?_; rintro e w2 ⟨rfl, hB2⟩)
  have hR0 : RowS ((w.alloc (.cells #[.int .i64 (n : Nat), .int .i64 (r : Nat)] 66)).alloc (.cells (madeCells #[.int .u8 0] l) 76)) (w.heap.size + 1) l (fun _ => 0) := by
    have := RowS.made (w.alloc (.cells #[.int .i64 (n : Nat), .int .i64 (r : Nat)] 66)) l
    simpa using this
  have hR1 : Hid (RowS w2 (w.heap.size + 1) l (fun _ => 0)) := hid (hR0.below hB2 (by simp))
  have hB02 : Hid (Below w.heap.size w w2) := hid (hB0.out.trans (hB2.mono (by simp; omega)))
  obtain ⟨x, hx⟩ : ∃ x, x = Gf.ba n j := ⟨_, rfl⟩
  rw [← hx]
  have hxh := hid hx
  clear hR0 hB2 hmk hB0 hx
  go_loopw [19] (fun iv wr => ∃ i : Nat, i ≤ l ∧ iv = .int .i64 i ∧ RowS wr (w.heap.size + 1) l (mix i (Gf.fl x s) (fun _ => 0)) ∧ Below w.heap.size w wr) (fun iv _ => l - (intOf iv).toNat)
  case atStart => exact ⟨0, Nat.zero_le _, rfl, hR1.out.congr (fun i _ => (mix_zero (Gf.fl x s) (fun _ => 0) i).symm), hB02.out⟩
  case round =>
    clear hB02 hR1
    obtain ⟨i, hi, rfl, hR, hB⟩ := hrel
    by_cases hil : i < l
    · have hz2 := hzh.out.below hB (Nat.le_refl _)
      have a1 := hz2.ce i (by omega)
      have a2 := hz2.ce (i + 1) (by omega)
      have b1 := @Syms.ix _ _ _ _ _ c _ hz2 i (by omega)
      have b2 := fun w' => @Syms.ix' _ _ _ _ _ c _ hz2 (i + 1) (by omega) ((i : Int) + 1) (by omega) w'
      have k4 := @RowS.ix _ _ _ l _ hR _ hil
      obtain ⟨y, hy⟩ : ∃ y, y = s i := ⟨_, rfl⟩
      obtain ⟨z, hzz⟩ : ∃ z, z = s (i + 1) := ⟨_, rfl⟩
      rw [← hy] at a1
      rw [← hzz] at a2
      have es : IntKind.i64.wrap ((i : Int) + 1) = (i : Int) + 1 := IntWalk.i64_in _ (by omega)
      have hRh := hid hR
      have hBh := hid hB
      have hyh := hid hy
      have hzzh := hid hzz
      have aa1 := cell_regrown a1
      have aa2 := cell_regrown a2
      clear hR hB hy hzz hz2
      go_wp2_with fail
      refine wpIn_wide.1 (tail2_region (F := Fence.wide) (n := 0) (by kernel_rfl) (by kernel_rfl) (by kernel_rfl) ?_); simp only [stub, lastOp]; (repeat (refine wpQuietIn_step (fun _ _ _ _ => trivial) (fun K hK => ?_); go_simp; first | (refine hK _ ?_; clear hK K) | (apply Exists.intro; refine ⟨fun _ => ?_, hK _ ?_⟩; (first | exact ⟨rfl, CallsIn.regrown_of (callsIn_wide.2 (c112B y x _ (hTh.out.below (hBh.out.trans (Below.mono (below_regrown _ _ _) hBh.out.size)) (Nat.le_refl _))))⟩); clear hK K))); refine wpQuietIn_nil ?_; intro _ hwq; obtain ⟨q, hwq⟩ := hwq; subst hwq
      have hB5 := below_regrown wr q.d q.os
      generalize grow (redrawn wr q.d) q.os = w5 at hB5 ⊢
      have hR5 := hRh.out.below hB5 hRh.out.lt
      have m1 := hR5.cell hil
      have m2 := hR5.frozen i
      have hR5h := hid hR5
      have hB5h := hid (hBh.out.trans (hB5.mono hBh.out.size))
      clear hB5 hR5 a1 a2 aa1 aa2 es
      gi_wp2
      go_wp2
      go_roundw
      case rel =>
        refine ⟨i + 1, by omega, by go_num, ?_, hB5h.out.setCell (show w.heap.size ≤ w.heap.size + 1 by omega) _⟩
        rw [xor_sv]
        refine (hR5h.out.set i _).congr (fun j _ => ?_)
        rw [hyh.out, hzzh.out]
        exact mix_step j
      case measure => simp [intOf]; omega
    · go_wp2_with fail
      go_returns
      exact ⟨w.heap.size + 1, l, rfl, by omega, Nat.le_refl _, hR.congr (fun j hj => (mix_all (show j < i by omega)).trans (by rw [hxh.out])), hB⟩
/-- The first numbers of a row, as a list. -/
def li (p : Nat → Nat) (k : Nat) : List Nat := (List.range k).map p
theorem li_len (p : Nat → Nat) (k : Nat) : (li p k).length = k := by simp [li]
theorem li_succ (p : Nat → Nat) (k : Nat) : li p (k + 1) = li p k ++ [p k] := by simp [li, List.range_succ]
theorem li_mem {p : Nat → Nat} {k x : Nat} : x ∈ li p k ↔ ∃ j, j < k ∧ p j = x := by simp [li]
theorem li_congr {p q : Nat → Nat} {k : Nat} (h : ∀ j, j < k → p j = q j) : li p k = li q k := by
  unfold li
  exact List.map_congr_left fun j hj => h j (List.mem_range.1 hj)
/-- A slice of n symbols is handed back. -/
def SAny (n : Nat) (s : Nat → S) (w : World) (e : Ending) (w' : World) : Prop :=
  ∃ (A : Option Addr) (b o c : Nat), e = .returned (.slice A n c) ∧ Syms w' A b o n s ∧ Below w.heap.size w w'
set_option maxRecDepth 100000 in
set_option maxHeartbeats 4000000 in
theorem c91 (n r : Nat) (A : Option Addr) (b o l c : Nat) (s : Nat → S) (A2 : Option Addr) (b2 o2 m c2 : Nat) (p : Nat → Nat) (w : World) (hT : Tab w) (hz : Syms w A b o l s) (hp : Ints w A2 b2 o2 m (fun k => (p k : Nat))) (hn : n ≤ 15) (hl : l ≤ 8) (hm : m ≤ l) (hpn : ∀ k, k < m → p k < n) :
    Calls Tryd.prog 91 #[cv n r, .slice A l c, .slice A2 m c2] w (SAny (l - m) (Gf.fa (Gf.ba n) (li p m) s) w) := by
  have hTh := hid hT
  have hzh := hid hz
  have hph := hid hp
  have hpnh := hid hpn
  clear hT hz hp hpn
  have hB0 : Hid (Below w.heap.size w (w.alloc (.cells #[.int .i64 (n : Nat), .int .i64 (r : Nat)] 66))) := hid (by (repeat' (first | (with_reducible exact Below.refl _ _) | (with_reducible assumption) | (with_reducible refine Below.alloc ?_ ?_ _) | (with_reducible refine Below.drew ?_) | (with_reducible refine below_drewN ?_ _) | (with_reducible refine Below.setCell ?_ ?_ _) | (with_reducible refine Below.trans ?_ (Below.mono (by with_reducible assumption) ?_)) | go_size)))
  have hX0 : Hid (Bx n r (w.alloc (.cells #[.int .i64 (n : Nat), .int .i64 (r : Nat)] 66)) w.heap.size) := hid (Bx.new n r w 66)
  go_enter Tryd.func91, Tryd.ntmps91
  go_wp2_with fail
  go_loopw [1, 11] (fun sl iv wr => ∃ k : Nat, k ≤ m ∧ iv = .int .i64 k ∧ (∃ A' b' o' c', sl = .slice A' (l - k) c' ∧ Syms wr A' b' o' (l - k) (Gf.fa (Gf.ba n) (li p k) s)) ∧ Bx n r wr w.heap.size ∧ Below w.heap.size w wr ∧ w.heap.size < wr.heap.size) (fun _ iv _ => m - (intOf iv).toNat)
  case atStart => exact ⟨0, Nat.zero_le _, rfl, ⟨A, b, o, c, rfl, hzh.out.below hB0.out (Nat.le_refl _)⟩, hX0.out, hB0.out, by simp⟩
  case round =>
    clear hB0 hX0
    obtain ⟨k, hk, rfl, ⟨A', b', o', c', rfl, hS⟩, hX, hB, hs⟩ := hrel
    by_cases hlt : k < m
    · obtain ⟨p1, p2⟩ := hX
      have hp2 := hph.out.below hB (Nat.le_refl _)
      have j1 := hp2.ce k hlt
      have j3 := hp2.lt k hlt
      have j4 := @Ints.ix _ _ _ _ _ c2 _ hp2 _ hlt
      have hX : Hid (Bx n r wr w.heap.size) := hid ⟨p1, p2⟩
      have hSh := hid hS
      have hBh := hid hB
      have hpk := hpnh.out k hlt
      obtain ⟨t, ht⟩ : ∃ t, t + 1 = l - k := ⟨l - k - 1, by omega⟩
      rw [← ht] at hSh ⊢
      have hth := hid ht
      have ht8 : t ≤ 8 := by omega
      clear hS hB hp2 ht
      go_wp2_with (go_at_call 111; refine (c111 n r A' b' o' t c' (p k) _ _ (hTh.out.below hBh.out (Nat.le_refl _)) hSh.out hn ht8 hpk).mono ?_; rintro e w2 ⟨g, c3, rfl, hg, hc3, hR2, hB2⟩; have hR2h := hid hR2; have hB2h := hid hB2; clear hR2 hB2)
      go_roundw
      case rel =>
        have e1 : l - (k + 1) = t := by have := hth.out; omega
        refine ⟨k + 1, by omega, by go_num, ⟨some ⟨g, 0, none⟩, g, 0, c3, by rw [e1], ?_⟩, hX.out.below hB2h.out (by omega), hBh.out.trans (hB2h.out.mono hBh.out.size), Nat.lt_of_lt_of_le hs hB2h.out.size⟩
        rw [e1, li_succ, Gf.fa_app]
        exact hR2h.out.syms
      case measure => simp [intOf]; omega
    · go_wp2_with fail
      go_returns
      obtain rfl : k = m := by omega
      exact ⟨A', b', o', c', rfl, hS, hB⟩
end Go.Proofs.YtnndhibhnakdoaaDoor
