/- Stage 1: Skews of package zones, when it answers. -/
import Derived.Test.YthkbiplmfbcabaaN2
set_option linter.unusedSimpArgs false
set_option linter.unusedVariables false
namespace Go.Proofs.Ythkbiplmfbcabaa
open Go.RowKit Go.Sort

def Dk.b0 (d : Dk) (st : Int) : Int := bestOf d.ck.d.tu (swOf d.ck.d.count (tracksOf d.ck)).1 d.ck.h0 st
def Dk.b1 (d : Dk) (st : Int) : Int := bestOf d.ck.d.tu (swOf d.ck.d.count (tracksOf d.ck)).2 d.ck.h1 st
def Dk.ck1 (d : Dk) (st : Int) : Ck := ⟨d, d.hl, d.hh, d.b0 st, d.cl, d.ch, d.cs⟩
def Dk.ck2 (d : Dk) (st : Int) : Ck := ⟨d, d.hl, d.hh, d.b0 st, d.cl, d.ch, d.b1 st⟩
theorem Dk.ck2_ok {d : Dk} (ok : d.Ok) {st : Int} (st0 : 1 ≤ st) : (d.ck2 st).Ok := by
  have h1 := bestOf_bd (n := (swOf d.ck.d.count (tracksOf d.ck)).1) (h := d.ck.h0) st0 ok.tu1
  have h2 := bestOf_bd (n := (swOf d.ck.d.count (tracksOf d.ck)).2) (h := d.ck.h1) st0 ok.tu1
  exact ⟨ok, h1.1, h1.2, h2.1, h2.2⟩
theorem Dk.ck2_sp {d : Dk} (ok : d.Ok) {st : Int} : (d.ck2 st).Sp := ⟨ok.hl0, ok.hl1, ok.hh2, ok.cl0, ok.cl1, ok.ch2⟩
def Dk.skR (d : Dk) (st : Int) : Int × Int := runOf (d.ck2 st) 0 d.count (tracksOf (d.ck2 st))
def Dk.ckS (d : Dk) (st : Int) (k : Nat) : Ck := if k = 0 then d.ck else if k = 1 then d.ck1 st else d.ck2 st

theorem c64_0 (d : Dk) (ok : d.Ok) (st : Int) (w : World) (st0 : 1 ≤ st) (st1 : st ≤ d.tu) :
    Calls Try.prog 64 #[d.ck.v, .agg #[.int .i64 d.ck.l0, .int .i64 d.ck.h0, .int .i64 d.ck.s0], .int .i64 (swOf d.ck.d.count (tracksOf d.ck)).1, .int .i64 st] w fun e w' => e = .returned (.int .i64 (d.b0 st)) ∧ Below w.heap.size w w' := by
  have hsb := swOf_bd d.ck.d.count (tracksOf d.ck)
  have hlen := tracks_len d.ck ok.ck
  exact c64' d.ck _ _ _ _ _ _ ok.tu1 ok.tu2 (by have := ok.sp.l00; have := ok.sp.l01; omega) ok.sp.l02 hsb.1.1 (by omega) st0 st1
theorem c64_1 (d : Dk) (ok : d.Ok) (st : Int) (w : World) (st0 : 1 ≤ st) (st1 : st ≤ d.tu) :
    Calls Try.prog 64 #[(d.ck1 st).v, .agg #[.int .i64 (d.ck1 st).l1, .int .i64 (d.ck1 st).h1, .int .i64 (d.ck1 st).s1], .int .i64 (swOf d.ck.d.count (tracksOf d.ck)).2, .int .i64 st] w fun e w' => e = .returned (.int .i64 (d.b1 st)) ∧ Below w.heap.size w w' := by
  have hsb := swOf_bd d.ck.d.count (tracksOf d.ck)
  have hlen := tracks_len d.ck ok.ck
  exact c64' (d.ck1 st) _ _ _ _ _ _ ok.tu1 ok.tu2 (by have := ok.sp.l10; have := ok.sp.l11; show (0:Int) ≤ d.ck.h1; omega) ok.sp.l12 hsb.2.1 (by omega) st0 st1

set_option maxRecDepth 100000 in
set_option maxHeartbeats 1000000 in
theorem c32_ok (d : Dk) (st : Int) (w : World) (hz : Zs w d) (ok : d.Ok) (st0 : 1 ≤ st) (st1 : st ≤ d.tu) :
    Calls Try.prog 32 #[d.v, .int .i64 st] w fun e w' => e = .returned (.tuple #[.int .i64 (d.b0 st), .int .i64 (d.b1 st), .int .i64 (d.skR st).2, .int .i64 0]) ∧ Below w.heap.size w w' := by
  have tu1 := ok.tu1
  have tu2 := ok.tu2
  have hcB := ok.cntB
  go_enter Try.func32, Try.ntmps32
  go_wp2_with (first | (go_at_call 46; refine (c46y d _ (by exact hz.below (by (repeat' (first | (with_reducible exact Below.refl _ _) | (with_reducible assumption) | (with_reducible refine Below.alloc ?_ ?_ _) | (with_reducible refine Below.drew ?_) | (with_reducible refine below_drewN ?_ _) | (with_reducible refine Below.setCell ?_ ?_ _) | (with_reducible refine Below.trans ?_ (Below.mono (by with_reducible assumption) ?_)) | go_size))) (Nat.le_refl _)) ok).mono ?_; rintro e w1 ⟨rfl, hB1⟩; obtain ⟨hc1, hf1⟩ := bcell (hB1.mono (show w.heap.size + 1 ≤ _ by first | omega | ((try simp only [World.size_alloc, World.size_drew, World.size_setCell]); omega))); have hz1 : w.heap.size < w1.heap.size := by (have := hB1.size; (try simp only [World.size_alloc, World.size_drew, World.size_setCell] at this); omega)) | (go_at_call 50; refine (c50y _ (by exact ⟨st0, st1⟩)).mono ?_; rintro e w9 ⟨rfl, rfl⟩) | (go_at_call 61; refine (c61 d.ck ok.ck _ (by exact hz.below (by (repeat' (first | (with_reducible exact Below.refl _ _) | (with_reducible assumption) | (with_reducible refine Below.alloc ?_ ?_ _) | (with_reducible refine Below.drew ?_) | (with_reducible refine below_drewN ?_ _) | (with_reducible refine Below.setCell ?_ ?_ _) | (with_reducible refine Below.trans ?_ (Below.mono (by with_reducible assumption) ?_)) | go_size))) (Nat.le_refl _))).mono ?_; rintro e w2 ⟨rfl, hB2⟩; have hy2 : w1.heap.size < w2.heap.size := (by have := hB2.size; (try simp only [World.size_alloc] at this); omega); obtain ⟨hc2, hf2⟩ := bcell (hB2.mono (show w1.heap.size + 1 ≤ _ by first | omega | (simp; done)))))
  obtain ⟨W0, hW0⟩ : ∃ W0 : World, W0 = w2.alloc (.cells #[.int .i64 (swOf d.ck.d.count (tracksOf d.ck)).1, .int .i64 (swOf d.ck.d.count (tracksOf d.ck)).2] 93) := ⟨_, rfl⟩
  have hvb0 : W0.heap[w1.heap.size]? = some (.cells d.ck.cells 73 (0, 0)) := by
    rw [hW0, Below.heap_alloc _ _ _ (by omega)]
    exact (hB2.block _ (by simp)).trans (heap_new w1 _)
  have hb0 : Below w1.heap.size w1 W0 := by rw [hW0]; (repeat' (first | (with_reducible exact Below.refl _ _) | (with_reducible assumption) | (with_reducible refine Below.alloc ?_ ?_ _) | (with_reducible refine Below.drew ?_) | (with_reducible refine below_drewN ?_ _) | (with_reducible refine Below.setCell ?_ ?_ _) | (with_reducible refine Below.trans ?_ (Below.mono (by with_reducible assumption) ?_)) | go_size))
  have hbw : Below w.heap.size w w1 := by (repeat' (first | (with_reducible exact Below.refl _ _) | (with_reducible assumption) | (with_reducible refine Below.alloc ?_ ?_ _) | (with_reducible refine Below.drew ?_) | (with_reducible refine below_drewN ?_ _) | (with_reducible refine Below.setCell ?_ ?_ _) | (with_reducible refine Below.trans ?_ (Below.mono (by with_reducible assumption) ?_)) | go_size))
  rw [← hW0]
  have hs0 : w1.heap.size < W0.heap.size := by rw [hW0]; simp; omega
  clear hW0 hc2 hf2
  have hx0 := ix93_0 (swOf d.ck.d.count (tracksOf d.ck)).1 (swOf d.ck.d.count (tracksOf d.ck)).2
  have hx1 := ix93_1 (swOf d.ck.d.count (tracksOf d.ck)).1 (swOf d.ck.d.count (tracksOf d.ck)).2
  go_loopw [30] (fun i wr => ∃ k : Nat, k ≤ 2 ∧ i = .int .i64 k ∧ wr.heap[w1.heap.size]? = some (.cells (d.ckS st k).cells 73 (0, 0)) ∧ Below w1.heap.size w1 wr) (fun i _ => 2 - (intOf i).toNat)
  case atStart => exact ⟨0, Nat.zero_le _, rfl, hvb0, hb0⟩
  case round =>
    obtain ⟨k, hk, rfl, hvb, hB⟩ := hrel
    have hy3 : w1.heap.size < wr.heap.size := (Array.getElem?_eq_some_iff.1 hvb).1
    rcases (show k = 0 ∨ k = 1 ∨ k = 2 by omega) with rfl | rfl | rfl
    · rw [show d.ckS st 0 = d.ck from rfl] at hvb
      have hct := fun j => cell_at (j := j) hvb
      have k1 := cells_regrown hvb
      go_wp2_with fail
      refine wpIn_wide.1 (tail2_region (F := Fence.wide) (n := 0) (by kernel_rfl) (by kernel_rfl) (by kernel_rfl) ?_); simp only [stub, lastOp]; (repeat (refine wpQuietIn_step (fun _ _ _ _ => trivial) (fun K hK => ?_); go_simp; first | (refine hK _ ?_; clear hK K) | (apply Exists.intro; refine ⟨fun _ => ?_, hK _ ?_⟩; (first | exact ⟨rfl, CallsIn.regrown_of (callsIn_wide.2 (c64_0 d ok st _ st0 st1))⟩); clear hK K))); refine wpQuietIn_nil ?_; intro _ hwq; obtain ⟨q, hwq⟩ := hwq; subst hwq
      have hB5 := below_regrown wr q.d q.os
      generalize grow (redrawn wr q.d) q.os = w5 at hB5 ⊢
      have h5 := (hB5.block _ hy3).trans hvb
      have hc5 := fun j => cell_at (j := j) h5
      have hf5 : ∀ j, w5.frozen? ⟨w1.heap.size, j, none⟩ = false := fun j => frozen_at (j := j) h5
      have hs5 : w1.heap.size < w5.heap.size := by have := hB5.size; omega
      clear k1 hct
      gi_wp2
      go_wp2
      go_roundw
      case rel => exact ⟨1, by omega, by go_num, heap_setCell_same h5 _, (hB.trans (hB5.mono (by omega))).setCell (by simp) _⟩
      case measure => simp [intOf]
    · rw [show d.ckS st 1 = d.ck1 st from rfl] at hvb
      have hct := fun j => cell_at (j := j) hvb
      have k1 := cells_regrown hvb
      go_wp2_with fail
      refine wpIn_wide.1 (tail2_region (F := Fence.wide) (n := 0) (by kernel_rfl) (by kernel_rfl) (by kernel_rfl) ?_); simp only [stub, lastOp]; (repeat (refine wpQuietIn_step (fun _ _ _ _ => trivial) (fun K hK => ?_); go_simp; first | (refine hK _ ?_; clear hK K) | (apply Exists.intro; refine ⟨fun _ => ?_, hK _ ?_⟩; (first | exact ⟨rfl, CallsIn.regrown_of (callsIn_wide.2 (c64_1 d ok st _ st0 st1))⟩); clear hK K))); refine wpQuietIn_nil ?_; intro _ hwq; obtain ⟨q, hwq⟩ := hwq; subst hwq
      have hB5 := below_regrown wr q.d q.os
      generalize grow (redrawn wr q.d) q.os = w5 at hB5 ⊢
      have h5 := (hB5.block _ hy3).trans hvb
      have hc5 := fun j => cell_at (j := j) h5
      have hf5 : ∀ j, w5.frozen? ⟨w1.heap.size, j, none⟩ = false := fun j => frozen_at (j := j) h5
      have hs5 : w1.heap.size < w5.heap.size := by have := hB5.size; omega
      clear k1 hct
      gi_wp2
      go_wp2
      go_roundw
      case rel => exact ⟨2, by omega, by go_num, heap_setCell_same h5 _, (hB.trans (hB5.mono (by omega))).setCell (by simp) _⟩
      case measure => simp [intOf]
    · rw [show d.ckS st 2 = d.ck2 st from rfl] at hvb
      have hct := fun j => cell_at (j := j) hvb
      go_wp2_with fail
      clear hct
      refine wpIn_wide.1 (wild_tail (F := Fence.wide) (n := 0) (C := fun w' => Below wr.heap.size wr w') (R := fun A B => Below A.heap.size A B) (G := fun i us w' => match i with
        | 0 => us 0 = (d.ck2 st).v
        | 1 => us 1 = (d.ck2 st).v
        | 2 => us 2 = .int .i64 d.count
        | 3 => us 3 = .agg #[.int .i64 (d.skR st).1, .int .i64 (d.skR st).2]
        | 4 => ∃ b : Nat, us 4 = .pointer (some ⟨b, 0, none⟩) ∧ wr.heap.size ≤ b ∧ w'.heap[b]? = some (.cells #[.int .i64 0, .int .i64 0] 24 (0, 0))
        | _ => True) (by kernel_rfl) (by kernel_rfl) (by kernel_rfl) ?loc (Below.refl _ _).drew ?stab ?steps ?fin)
      case loc =>
        intro j us i v w' hij _ hG
        rcases j with _ | _ | _ | _ | _ | j <;> first | trivial | ((try dsimp only at hG ⊢); rw [upd_ne _ _ (Ne.symm hij)]; exact hG)
      case stab =>
        intro i us A B hAB hG
        rcases i with _ | _ | _ | _ | _ | i <;> try exact hG
        obtain ⟨b, h1, h2, h3⟩ := hG
        exact ⟨b, h1, h2, (hAB.block _ (Array.getElem?_eq_some_iff.1 h3).1).trans h3⟩
      case steps =>
        dsimp only [List.dropLast, StepsW, StepW]
        refine ⟨?_, ?_, ?_, ?_, ?_, trivial⟩
        all_goals (intro A us W hA hC hG K hK; have hcw := fun j => cell_at (j := j) ((hC.block _ hy3).trans hvb); have hzw : Zs W (d.ck2 st).d := hz.below ((hbw.trans (hB.mono (by omega))).trans (hC.mono (by omega))) (Nat.le_refl _); have h8 : A.tmps[8]?.getD undef = .pointer (some ⟨w1.heap.size, 0, none⟩) := slot_none hA rfl rfl; simp only [AfterW, Region.binds, true_implies, and_true, forall_const] at hG)
        · clear hA
          go_simp
          exact hK _ W hC (Below.refl _ _) (upd_same _ _ _)
        · clear hA
          go_simp
          exact hK _ W hC (Below.refl _ _) (upd_same _ _ _)
        · have h48 := slot_some (t := 48) hA (by kernel_rfl) rfl (by simp) hG
          clear hA
          gi_wp2_with (refine ⟨trivial, rfl, ?_⟩; gi_at_call 48; refine (callsIn_wide.2 (c48 (d.ck2 st) (Dk.ck2_ok ok st0) _ hzw)).mono ?_; rintro e w3 ⟨rfl, hB3⟩)
          exact hK _ w3 (hC.trans (hB3.mono hC.size)) hB3 (upd_same _ _ _)
        · have h47 := slot_some (t := 47) hA (by kernel_rfl) rfl (by simp) hG.1
          have h49 := slot_some (t := 49) hA (by kernel_rfl) rfl (by simp) hG.2.1
          clear hA
          gi_wp2_with (refine ⟨trivial, rfl, ?_⟩; gi_at_call 59; refine (callsIn_wide.2 (c59 (d.ck2 st) (Dk.ck2_ok ok st0) (Dk.ck2_sp ok) 0 d.count _ hzw (by omega) (by omega) (by omega) (by omega))).mono ?_; rintro e w3 ⟨rfl, hB3⟩)
          exact hK _ w3 (hC.trans (hB3.mono hC.size)) hB3 (upd_same _ _ _)
        · clear hA
          gi_wp2
          exact hK (.pointer (some ⟨W.heap.size, 0, none⟩)) _ (hC.alloc hC.size _) ((Below.refl _ _).alloc (Nat.le_refl _) _) ⟨W.heap.size, upd_same _ _ _, hC.size, heap_new W _⟩
      case fin =>
        intro us W hC hG
        have g0 : us 0 = (d.ck2 st).v := hG 0 (by decide)
        have g1 : us 1 = (d.ck2 st).v := hG 1 (by decide)
        have g2 : us 2 = .int .i64 d.count := hG 2 (by decide)
        have g3 : us 3 = .agg #[.int .i64 (d.skR st).1, .int .i64 (d.skR st).2] := hG 3 (by decide)
        obtain ⟨b, g4, hb, hbk⟩ := hG 4 (by decide)
        clear hG
        simp only [frW, lastOp, Nat.reduceAdd, Nat.zero_add, g0, g1, g2, g3, g4]
        clear g0 g1 g2 g3 g4
        have hcb := fun j => cell_at (j := j) hbk
        have hfb : ∀ j, W.frozen? ⟨b, j, none⟩ = false := fun j => frozen_at (j := j) hbk
        have hbs : b < W.heap.size := (Array.getElem?_eq_some_iff.1 hbk).1
        gi_wp2
        go_wp2
        have hbF : Below w.heap.size w ((W.setCell ⟨b, 0, none⟩ (.int .i64 (d.skR st).1)).setCell ⟨b, 1, none⟩ (.int .i64 (d.skR st).2)) := by
          have h1 : Below w.heap.size w W := (hbw.trans (hB.mono (by have := hbw.size; omega))).trans (hC.mono (by have := hbw.size; omega))
          have h2 := hbw.size
          exact (h1.setCell (by dsimp only; omega) _).setCell (by dsimp only; omega) _
        have hk1 : ((W.setCell ⟨b, 0, none⟩ (.int .i64 (d.skR st).1)).setCell ⟨b, 1, none⟩ (.int .i64 (d.skR st).2)).heap[w1.heap.size]? = some (.cells (d.ck2 st).cells 73 (0, 0)) := by
          rw [Below.heap_setCell _ _ _ _ (by dsimp only; omega), Below.heap_setCell _ _ _ _ (by dsimp only; omega)]; exact (hC.block _ hy3).trans hvb
        have hk2 := put2 (v0 := .int .i64 (d.skR st).1) (v1 := .int .i64 (d.skR st).2) hbk
        generalize (W.setCell ⟨b, 0, none⟩ (.int .i64 (d.skR st).1)).setCell ⟨b, 1, none⟩ (.int .i64 (d.skR st).2) = WF at hbF hk1 hk2 ⊢
        clear hcb hfb
        have hc1 := fun j => cell_at (j := j) hk1
        have hc2 := fun j => cell_at (j := j) hk2
        go_quiet (fail)
        go_wp2
        go_returns
        exact ⟨rfl, below_drewN hbF _⟩
end Go.Proofs.Ythkbiplmfbcabaa
