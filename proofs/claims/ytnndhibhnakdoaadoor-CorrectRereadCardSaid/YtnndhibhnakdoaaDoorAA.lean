/- Stage 5: the law of the bound. -/
import Derived.Test.YtnndhibhnakdoaaDoorZ
set_option linter.unusedSimpArgs false
set_option linter.unusedVariables false
namespace Go.Proofs.YtnndhibhnakdoaaDoor
open Go.RowKit Go.BigFrame Go.Sort
open Gf (S)

theorem sy_ps {n m : Nat} {f : Nat → Int} (h : asc (n : Nat) m f) {w : World} {A : Option Addr} {b o : Nat} (hz : Ints w A b o m f) : Ints w A b o m (fun k => (ps f k : Nat)) := hz.congr (fun k hk => (ps_val h hk).1)
theorem mark_lt {n m : Nat} {f : Nat → Int} (h : asc (n : Nat) m f) : ∀ p, p ∈ li (ps f) m → p < n := fun p hp => by
  obtain ⟨k, hk, rfl⟩ := li_mem.1 hp
  exact (ps_val h hk).2
set_option maxRecDepth 100000 in
set_option maxHeartbeats 4000000 in
theorem c7a (L P : Int) (A1 : Option Addr) (n1 c1 : Nat) (A2 : Option Addr) (n2 c2 : Nat) (A3 : Option Addr) (n3 c3 : Nat) (w : World) (hT : Tab w) (h : ¬ rdy L P) : Calls Tryd.prog 7 #[.agg #[.int .i64 L, .int .i64 P], .agg #[.slice A1 n1 c1, .slice A2 n2 c2, .slice A3 n3 c3]] w fun e w' => e = .returned (.bool true) ∧ Below w.heap.size w w' := by
  have hh := hid h
  have hwk := hid c15
  have hTh := hid hT
  have hB0 : Hid (Below w.heap.size w (((w.alloc (.cells #[.int .i64 L, .int .i64 P] 23)).alloc (.cells #[.slice A1 n1 c1, .slice A2 n2 c2, .slice A3 n3 c3] 51)))) := hid (by (repeat' (first | (with_reducible exact Below.refl _ _) | (with_reducible assumption) | (with_reducible refine Below.alloc ?_ ?_ _) | (with_reducible refine Below.drew ?_) | (with_reducible refine below_drewN ?_ _) | (with_reducible refine Below.setCell ?_ ?_ _) | (with_reducible refine Below.trans ?_ (Below.mono (by with_reducible assumption) ?_)) | go_size)))
  clear h hT
  go_enter Tryd.func7, Tryd.ntmps7
  go_wp2_with (first | (go_at_call 35; refine (c35n L P _ hh.out).mono ?_; rintro e w1 ⟨rfl, hB1⟩; have hB1 := hid (hB0.out.trans (hB1.mono (by simp; omega)))) | (go_at_call 15; refine (hwk.out _ (hTh.out.below hB1.out (Nat.le_refl _))).mono ?_; rintro e w2 ⟨rfl, hB2⟩; have hB2 := hid (hB1.out.trans (hB2.mono hB1.out.size))))
  go_returns
  exact ⟨rfl, hB2.out⟩
set_option maxRecDepth 100000 in
set_option maxHeartbeats 4000000 in
theorem c7b (n r : Nat) (A1 : Option Addr) (b1 o1 n1 c1 : Nat) (f1 : Nat → Int) (A2 : Option Addr) (b2 o2 n2 c2 : Nat) (f2 : Nat → Int) (A3 : Option Addr) (b3 o3 n3 c3 : Nat) (f3 : Nat → Int) (w : World) (hT : Tab w) (h : rdy (n : Nat) (r : Nat)) (h1 : Sin w A1 b1 o1 n1 c1 f1) (h2 : Sin w A2 b2 o2 n2 c2 f2) (h3 : Sin w A3 b3 o3 n3 c3 f3) (hno : ¬ noiP n r n1 n2 n3 f1 f2 f3) :
    Calls Tryd.prog 7 #[cv n r, .agg #[.slice A1 n1 c1, .slice A2 n2 c2, .slice A3 n3 c3]] w fun e w' => e = .returned (.bool true) ∧ Below w.heap.size w w' := by
  have hh := hid h
  have hn := vld_nat h.1
  have hwk := hid c15
  have hTh := hid hT
  have h1h := hid h1
  have h2h := hid h2
  have h3h := hid h3
  have hnoh := hid hno
  have hB0 : Hid (Below w.heap.size w (((w.alloc (.cells #[.int .i64 (n : Nat), .int .i64 (r : Nat)] 23)).alloc (.cells #[.slice A1 n1 c1, .slice A2 n2 c2, .slice A3 n3 c3] 51)))) := hid (by (repeat' (first | (with_reducible exact Below.refl _ _) | (with_reducible assumption) | (with_reducible refine Below.alloc ?_ ?_ _) | (with_reducible refine Below.drew ?_) | (with_reducible refine below_drewN ?_ _) | (with_reducible refine Below.setCell ?_ ?_ _) | (with_reducible refine Below.trans ?_ (Below.mono (by with_reducible assumption) ?_)) | go_size)))
  have hX0 : Hid (NX (n : Nat) (r : Nat) A1 n1 c1 A2 n2 c2 A3 n3 c3 w.heap.size (((w.alloc (.cells #[.int .i64 (n : Nat), .int .i64 (r : Nat)] 23)).alloc (.cells #[.slice A1 n1 c1, .slice A2 n2 c2, .slice A3 n3 c3] 51)))) := hid (nx_new w)
  have hs0 : Hid ((((w.alloc (.cells #[.int .i64 (n : Nat), .int .i64 (r : Nat)] 23)).alloc (.cells #[.slice A1 n1 c1, .slice A2 n2 c2, .slice A3 n3 c3] 51))).heap.size = w.heap.size + 2) := hid (by rw [World.size_alloc, World.size_alloc])
  clear h hT h1 h2 h3 hno
  go_enter Tryd.func7, Tryd.ntmps7
  go_wp2_with (first | (go_at_call 35; (with_reducible refine (c35y (n : Nat) (r : Nat) _ hh.out).mono ?_); rintro e w1 ⟨rfl, hB1⟩; have hX1 := hid (hX0.out.below hB1 (by simp)); obtain ⟨⟨p0, p1⟩, p2, p3, p4⟩ := hX1.out; have hs1 := hB1.size; rw [hs0.out] at hs1; have hB1 := hid (hB0.out.trans (hB1.mono (by rw [hs0.out]; omega)))) | (go_at_call 36; (with_reducible refine (c36 n r A1 b1 o1 n1 c1 f1 A2 b2 o2 n2 c2 f2 A3 b3 o3 n3 c3 f3 _ (by omega) (by omega) (h1h.out.below hB1.out (Nat.le_refl _)) (h2h.out.below hB1.out (Nat.le_refl _)) (h3h.out.below hB1.out (Nat.le_refl _))).mono ?_); intro e w2 hr; obtain ⟨rfl, hB2⟩ := hr.un.2 hnoh.out; have hB2 := hid (hB1.out.trans (hB2.mono hB1.out.size)); clear hr) | (go_at_call 15; refine (hwk.out _ (hTh.out.below hB2.out (Nat.le_refl _))).mono ?_; rintro e w3 ⟨rfl, hB3⟩; have hB3 := hid (hB2.out.trans (hB3.mono hB2.out.size))))
  go_returns
  exact ⟨rfl, hB3.out⟩
set_option maxRecDepth 100000 in
set_option maxHeartbeats 8000000 in
theorem c7_1 (n r : Nat) (A1 : Option Addr) (b1 o1 c1 : Nat) (f1 : Nat → Int) (A2 : Option Addr) (b2 o2 c2 : Nat) (f2 : Nat → Int) (A3 : Option Addr) (b3 o3 n3 c3 : Nat) (f3 : Nat → Int) (w : World) (hT : Tab w) (h : rdy (n : Nat) (r : Nat)) (h1 : Sin w A1 b1 o1 (n - r) c1 f1) (h2 : Sin w A2 b2 o2 n c2 f2) (h3 : Sin w A3 b3 o3 n3 c3 f3) (hno : noiP n r (n - r) n n3 f1 f2 f3)
    (hin : (2 * Gf.apa n (Gf.enc n r (sy f1)) (noi (Gf.enc n r (sy f1)) (sy f2)) (li (ps f3) n3) + n3 ≤ r)) :
    Calls Tryd.prog 7 #[cv n r, .agg #[.slice A1 (n - r) c1, .slice A2 n c2, .slice A3 n3 c3]] w fun e w' => e = .returned (.bool true) ∧ Below w.heap.size w w' := by
  have hh := hid h
  have hv := hid h.1
  have hn := vld_nat h.1
  have hwk := hid c15
  have hTh := hid hT
  have h1h := hid h1
  have h2h := hid h2
  have h3h := hid h3
  have hnoh := hid hno
  obtain ⟨C, hC⟩ : ∃ C, C = Gf.enc n r (sy f1) := ⟨_, rfl⟩
  obtain ⟨R, hR⟩ : ∃ R, R = noi C (sy f2) := ⟨_, rfl⟩
  obtain ⟨M, hM⟩ : ∃ M, M = li (ps f3) n3 := ⟨_, rfl⟩
  rw [← hC, ← hR, ← hM] at hin
  have hcw : Hid (∀ i, i < r → Gf.syn n C i = 0) := hid (by rw [hC]; exact Gf.enc_cw (by omega) (by omega) _)
  have hql : Gf.apa n C R M ≤ n := apc_le C R M n
  have hMl : M.length = n3 := by rw [hM, li_len]
  have hMn : Hid (∀ p, p ∈ M → p < n) := hid (by rw [hM]; exact mark_lt hno.2.2.2)
  obtain ⟨q, hq⟩ : ∃ q, q = Gf.apa n C R M := ⟨_, rfl⟩
  rw [← hq] at hin hql
  have z1 := hid h1.1
  have z2 : Hid (Ints w A2 b2 o2 n (nf (sy f2))) := hid (h2.1.congr (fun k hk => nf_sy hno.2.2.1.1 hk))
  have z3 := hid h3.1
  have z3p := hid (sy_ps hno.2.2.2 h3.1)
  have a1 := hid hno.2.1.1
  have a3 := hid hno.2.2.2
  have k3 := hid h3.2.1
  have m3 := asc_le hno.2.2.2
  have hdat : Hid (∀ k, k < n - r → f1 k = nf C k) := hid (fun k hk => by rw [nf_sy hno.2.1.1 hk, hC]; unfold nf; rw [Gf.enc_data _ hk])
  have cA := hid (fun W (hz : Ints W A1 b1 o1 (n - r) f1) (hW : Tab W) => c18y n r A1 b1 o1 c1 f1 W hW hv.out hz a1.out)
  have cA2 := cA.out
  rw [← hC] at cA2
  have cAh := hid cA2
  have hqh := hid hq
  have hRh := hid hR
  have hMh := hid hM
  have hMlh := hid hMl
  have hinh := hid hin
  have e2q : (2 : Int) * (q : Int) = ((2 * q : Nat) : Int) := by push_cast; rfl
  obtain ⟨q2, hq2⟩ : ∃ q2, q2 = 2 * q := ⟨_, rfl⟩
  rw [← hq2] at e2q
  have bq2 : q2 ≤ 30 := by omega
  have w1e : IntKind.i64.wrap ((2 : Int) * (q : Int)) = (q2 : Int) := by rw [e2q]; exact IntWalk.i64_in _ (by omega)
  have w2e : IntKind.i64.wrap (q2 : Int) = (q2 : Int) := IntWalk.i64_in _ (by omega)
  have w3e : IntKind.i64.wrap ((q2 : Int) + (n3 : Int)) = (q2 : Int) + (n3 : Int) := IntWalk.i64_in _ (by omega)
  have dq : decide ((q2 : Int) + (n3 : Int) ≤ (r : Int)) = true := decide_eq_true (by omega)
  have hB0 : Hid (Below w.heap.size w ((w.alloc (.cells #[.int .i64 (n : Nat), .int .i64 (r : Nat)] 23)).alloc (.cells #[.slice A1 (n - r) c1, .slice A2 n c2, .slice A3 n3 c3] 51))) := hid (by (repeat' (first | (with_reducible exact Below.refl _ _) | (with_reducible assumption) | (with_reducible refine Below.alloc ?_ ?_ _) | (with_reducible refine Below.drew ?_) | (with_reducible refine below_drewN ?_ _) | (with_reducible refine Below.setCell ?_ ?_ _) | (with_reducible refine Below.trans ?_ (Below.mono (by with_reducible assumption) ?_)) | go_size)))
  have hX0 : Hid (NX (n : Nat) (r : Nat) A1 (n - r) c1 A2 n c2 A3 n3 c3 w.heap.size ((w.alloc (.cells #[.int .i64 (n : Nat), .int .i64 (r : Nat)] 23)).alloc (.cells #[.slice A1 (n - r) c1, .slice A2 n c2, .slice A3 n3 c3] 51))) := hid (nx_new w)
  have hs0 : Hid (((w.alloc (.cells #[.int .i64 (n : Nat), .int .i64 (r : Nat)] 23)).alloc (.cells #[.slice A1 (n - r) c1, .slice A2 n c2, .slice A3 n3 c3] 51)).heap.size = w.heap.size + 2) := hid (by rw [World.size_alloc, World.size_alloc])
  have hn0 : 0 < n := by omega
  have hn15 : n ≤ 15 := by omega
  have hr8 : r ≤ 8 := by omega
  have hrn : r < n := by omega
  clear h hT h1 h2 h3 hno hq hR hC hM cA cA2 hin hq2 hMl
  go_enter Tryd.func7, Tryd.ntmps7
  go_wp2_with (first | (go_at_call 35; (with_reducible refine (c35y (n : Nat) (r : Nat) _ hh.out).mono ?_); rintro e w1 ⟨rfl, hB1⟩; have hX1 := hid (hX0.out.below hB1 (by simp)); obtain ⟨⟨p0, p1⟩, p2, p3, p4⟩ := hX1.out; have hs1 := hB1.size; rw [hs0.out] at hs1; have hB1 := hid (hB0.out.trans (hB1.mono (by rw [hs0.out]; omega)))) | (go_at_call 36; (with_reducible refine (c36 n r A1 b1 o1 (n - r) c1 f1 A2 b2 o2 n c2 f2 A3 b3 o3 n3 c3 f3 _ (by omega) (by omega) (h1h.out.below hB1.out (Nat.le_refl _)) (h2h.out.below hB1.out (Nat.le_refl _)) (h3h.out.below hB1.out (Nat.le_refl _))).mono ?_); intro e w2 hr; obtain ⟨rfl, hB2⟩ := hr.un.1 hnoh.out; have hX2 := hid (hX1.out.below hB2 (by omega)); obtain ⟨⟨p0, p1⟩, p2, p3, p4⟩ := hX2.out; have hs2 := hB2.size; have hB2 := hid (hB1.out.trans (hB2.mono hB1.out.size)); clear hr) | (go_at_call 18; (with_reducible refine (cAh.out _ (z1.out.below hB2.out (Nat.le_refl _)) (hTh.out.below hB2.out (Nat.le_refl _))).mono ?_); rintro e w3 ⟨g3, k3', rfl, hg3, R3, hB3⟩; have I3 := hid R3.ints; have hX3 := hid (hX2.out.below hB3 (by omega)); obtain ⟨⟨p0, p1⟩, p2, p3, p4⟩ := hX3.out; have hs3 := hB3.size; have hB3 := hid (hB2.out.trans (hB3.mono hB2.out.size)); clear R3) | (go_at_call 37; (with_reducible refine (c37 (some ⟨g3, 0, none⟩) g3 0 n k3' (nf C) (n : Nat) w3 I3.out (by omega)).mono ?_); intro e w' hr; obtain ⟨rfl, rfl⟩ := hr.un.1 ⟨all_nf n C, rfl⟩; clear hr) | (go_at_call 38; (with_reducible refine (c38 n r (some ⟨g3, 0, none⟩) g3 0 k3' C w3 I3.out hn15 hr8).mono ?_); intro e w4 hr; obtain ⟨rfl, hB4⟩ := hr.un.1 hcw.out; have hX4 := hid (hX3.out.below hB4 (by omega)); have I34 := hid (I3.out.below hB4 (Nat.le_refl _)); have hs4 := hB4.size; have hB4 := hid (hB3.out.trans (hB4.mono hB3.out.size)); clear hr p0 p1 p2 p3 p4))
  go_loopw [7] (fun iv wr => ∃ k : Nat, k ≤ n - r ∧ iv = .int .i64 k ∧ NX (n : Nat) (r : Nat) A1 (n - r) c1 A2 n c2 A3 n3 c3 w.heap.size wr ∧ Below w4.heap.size w4 wr) (fun iv _ => n - r - (intOf iv).toNat)
  case atStart => exact ⟨0, Nat.zero_le _, rfl, hX4.out, Below.refl _ _⟩
  case round =>
    obtain ⟨k, hk, rfl, hX, hB⟩ := hrel
    obtain ⟨⟨p0, p1⟩, p2, p3, p4⟩ := hX
    by_cases hlt : k < n - r
    · have y1 := I34.out.below hB (Nat.le_refl _)
      have y2 := z1.out.below (hB4.out.trans (hB.mono hB4.out.size)) (Nat.le_refl _)
      have e1 := y1.ce k (by omega)
      have e2 := y2.ce k hlt
      rw [Nat.zero_add] at e1
      rw [hdat.out k hlt] at e2
      have i1 := fun w' => @Ints.ix _ _ _ _ _ k3' _ y1 k (by omega) w'
      have i2 := fun w' => @Ints.ix _ _ _ _ _ c1 _ y2 k hlt w'
      simp only [Nat.zero_add] at i1
      obtain ⟨x, hx⟩ : ∃ x, x = nf C k := ⟨_, rfl⟩
      rw [← hx] at e1 e2
      have hXh : Hid (NX (n : Nat) (r : Nat) A1 (n - r) c1 A2 n c2 A3 n3 c3 w.heap.size wr) := hid ⟨⟨p0, p1⟩, p2, p3, p4⟩
      have dk : decide ((k : Int) < ((n - r : Nat) : Int)) = true := decide_eq_true (by omega)
      clear y1 y2 hx
      go_wp2_with fail
      go_quiet (fail)
      go_wp2_with fail
      go_roundw
      case rel => exact ⟨k + 1, by omega, by go_num, hXh.out.below (below_drewN (Below.refl wr.heap.size wr) _) (by have := hB.size; omega), below_drewN hB _⟩
      case measure => simp [intOf]; omega
    · have hXr : Hid (NX (n : Nat) (r : Nat) A1 (n - r) c1 A2 n c2 A3 n3 c3 w.heap.size wr) := hid ⟨⟨p0, p1⟩, p2, p3, p4⟩
      have Ir := hid (I34.out.below hB (Nat.le_refl _))
      have hsr := hB.size
      have hBr := hid (hB4.out.trans (hB.mono hB4.out.size))
      have dk : decide ((k : Int) < ((n - r : Nat) : Int)) = false := decide_eq_false (by omega)
      have dk' : decide (k < n - r) = false := decide_eq_false hlt
      clear hB
      go_wp2_with (first | (go_at_call 39; (with_reducible refine (c39 (some ⟨g3, 0, none⟩) g3 0 n k3' C A2 b2 o2 n c2 (sy f2) wr Ir.out (z2.out.below hBr.out (Nat.le_refl _)) (Nat.le_refl _) (by omega)).mono ?_); rintro e w5 ⟨v4, rfl, hown4, hB5⟩; obtain ⟨g4, k4, rfl, I5⟩ := own_vals hown4 hn0; rw [← hRh.out] at I5; have I5 := hid I5; have I35 := hid (Ir.out.below hB5 (Nat.le_refl _)); have hX5 := hid (hXr.out.below hB5 (by omega)); obtain ⟨⟨p0, p1⟩, p2, p3, p4⟩ := hX5.out; have hs5 := hB5.size; have hB5 := hid (hBr.out.trans (hB5.mono hBr.out.size)); clear hown4) | (go_at_call 20; (with_reducible refine (c20r n r (some ⟨g4, 0, none⟩) g4 0 k4 R A3 b3 o3 n3 c3 f3 w5 (hTh.out.below hB5.out (Nat.le_refl _)) hv.out I5.out (z3.out.below hB5.out (Nat.le_refl _)) k3.out a3.out).mono ?_); rw [← hMh.out]; rintro e w6 (⟨D, g6, k6, hD, rfl, hg6, hk6, R6, hB6⟩ | ⟨hD, rfl, hB6⟩) <;> replace hD := hid hD <;> have hX6 := hid (hX5.out.below hB6 (by omega)) <;> have I36 := hid (I35.out.below hB6 (Nat.le_refl _)) <;> have I46 := hid (I5.out.below hB6 (Nat.le_refl _)) <;> clear p0 p1 p2 p3 p4 <;> have hs6 := hB6.size <;> replace hB6 := hid (hB5.out.trans (hB6.mono hB5.out.size)) <;> try replace R6 := hid R6.ints))
      all_goals (
        have x6 := hX6.out
        have y1 := x6.1.2
        have y3 := x6.2.2.2
        clear x6
        go_region_held3 (fun w' => w'.cell? ⟨w.heap.size, 1, none⟩ = some (.int .i64 (r : Nat)) ∧ w'.cell? ⟨w.heap.size + 1, 2, none⟩ = some (.slice A3 n3 c3)) (first | exact ⟨y1, y3⟩ | exact f7.out) ((go_at_call 40; (with_reducible refine (c40 (some ⟨g3, 0, none⟩) g3 0 n k3' C (some ⟨g4, 0, none⟩) g4 0 n k4 R A3 b3 o3 n3 c3 (ps f3) w6.drew (I36.out.below (Below.drew (Below.refl _ _)) (Nat.le_refl _)) (I46.out.below (Below.drew (Below.refl _ _)) (Nat.le_refl _)) (z3p.out.below hB6.out.drew (Nat.le_refl _)) (Nat.le_refl _) (by omega) (by omega)).mono ?_); rw [show apc C R (li (ps f3) n3) n = q by rw [← hMh.out]; exact hqh.out.symm]; rintro e w7 ⟨rfl, K7⟩; replace K7 : Below w6.heap.size w6 w7 := ((Below.refl _ _).drew).trans K7; have hX7 := hid (hX6.out.below K7 (by omega)); have f7 := hid (show w7.cell? ⟨w.heap.size, 1, none⟩ = some (.int .i64 (r : Nat)) ∧ w7.cell? ⟨w.heap.size + 1, 2, none⟩ = some (.slice A3 n3 c3) from ⟨hX7.out.1.2, hX7.out.2.2.2⟩); have hs7 := K7.size; have K67 := hid K7; have hB7 := hid (hB6.out.trans (K7.mono hB6.out.size)); clear K7))
        have hX7c := hX7.out
        obtain ⟨⟨p0, p1⟩, p2, p3, p4⟩ := hX7c)
      · have hDC : Hid (∀ j, j < n → D j = C j) := hid (fun j hj => hD.out.same hn15 hMn.out (show Gf.Near n r R M C from ⟨hcw.out, by rw [← hqh.out, hMlh.out]; exact hinh.out⟩) j hj)
        have I67 := hid ((R6.out.congr (g := nf C) (fun k hk => by unfold nf; rw [hDC.out k hk])).below K67.out (Nat.le_refl _))
        go_wp2_with (first | (go_at_call 22; (with_reducible refine (c22y (some ⟨g6, 0, none⟩) (some ⟨g3, 0, none⟩) g6 g3 0 0 n k6 k3' (nf C) w7 I67.out (I36.out.below K67.out (Nat.le_refl _)) (by omega)).mono ?_); rintro e w9 ⟨rfl, hB9⟩; have hB9 := hid (hB7.out.trans (hB9.mono hB7.out.size))) | (go_at_call 15; refine (hwk.out _ (hTh.out.below hB9.out (Nat.le_refl _))).mono ?_; rintro e w10 ⟨rfl, hB10⟩; have hB10 := hid (hB9.out.trans (hB10.mono hB9.out.size))))
        go_returns
        exact ⟨rfl, hB10.out⟩
      · exfalso
        exact hD.out C ⟨hcw.out, by rw [← hqh.out, hMlh.out]; exact hinh.out⟩
set_option maxRecDepth 100000 in
set_option maxHeartbeats 8000000 in
theorem c7_0 (n r : Nat) (A1 : Option Addr) (b1 o1 c1 : Nat) (f1 : Nat → Int) (A2 : Option Addr) (b2 o2 c2 : Nat) (f2 : Nat → Int) (A3 : Option Addr) (b3 o3 n3 c3 : Nat) (f3 : Nat → Int) (w : World) (hT : Tab w) (h : rdy (n : Nat) (r : Nat)) (h1 : Sin w A1 b1 o1 (n - r) c1 f1) (h2 : Sin w A2 b2 o2 n c2 f2) (h3 : Sin w A3 b3 o3 n3 c3 f3) (hno : noiP n r (n - r) n n3 f1 f2 f3)
    (hin : ¬ (2 * Gf.apa n (Gf.enc n r (sy f1)) (noi (Gf.enc n r (sy f1)) (sy f2)) (li (ps f3) n3) + n3 ≤ r)) :
    Calls Tryd.prog 7 #[cv n r, .agg #[.slice A1 (n - r) c1, .slice A2 n c2, .slice A3 n3 c3]] w fun e w' => e = .returned (.bool true) ∧ Below w.heap.size w w' := by
  have hh := hid h
  have hv := hid h.1
  have hn := vld_nat h.1
  have hwk := hid c15
  have hTh := hid hT
  have h1h := hid h1
  have h2h := hid h2
  have h3h := hid h3
  have hnoh := hid hno
  obtain ⟨C, hC⟩ : ∃ C, C = Gf.enc n r (sy f1) := ⟨_, rfl⟩
  obtain ⟨R, hR⟩ : ∃ R, R = noi C (sy f2) := ⟨_, rfl⟩
  obtain ⟨M, hM⟩ : ∃ M, M = li (ps f3) n3 := ⟨_, rfl⟩
  rw [← hC, ← hR, ← hM] at hin
  have hcw : Hid (∀ i, i < r → Gf.syn n C i = 0) := hid (by rw [hC]; exact Gf.enc_cw (by omega) (by omega) _)
  have hql : Gf.apa n C R M ≤ n := apc_le C R M n
  have hMl : M.length = n3 := by rw [hM, li_len]
  have hMn : Hid (∀ p, p ∈ M → p < n) := hid (by rw [hM]; exact mark_lt hno.2.2.2)
  obtain ⟨q, hq⟩ : ∃ q, q = Gf.apa n C R M := ⟨_, rfl⟩
  rw [← hq] at hin hql
  have z1 := hid h1.1
  have z2 : Hid (Ints w A2 b2 o2 n (nf (sy f2))) := hid (h2.1.congr (fun k hk => nf_sy hno.2.2.1.1 hk))
  have z3 := hid h3.1
  have z3p := hid (sy_ps hno.2.2.2 h3.1)
  have a1 := hid hno.2.1.1
  have a3 := hid hno.2.2.2
  have k3 := hid h3.2.1
  have m3 := asc_le hno.2.2.2
  have hdat : Hid (∀ k, k < n - r → f1 k = nf C k) := hid (fun k hk => by rw [nf_sy hno.2.1.1 hk, hC]; unfold nf; rw [Gf.enc_data _ hk])
  have cA := hid (fun W (hz : Ints W A1 b1 o1 (n - r) f1) (hW : Tab W) => c18y n r A1 b1 o1 c1 f1 W hW hv.out hz a1.out)
  have cA2 := cA.out
  rw [← hC] at cA2
  have cAh := hid cA2
  have hqh := hid hq
  have hRh := hid hR
  have hMh := hid hM
  have hMlh := hid hMl
  have hinh := hid hin
  have e2q : (2 : Int) * (q : Int) = ((2 * q : Nat) : Int) := by push_cast; rfl
  obtain ⟨q2, hq2⟩ : ∃ q2, q2 = 2 * q := ⟨_, rfl⟩
  rw [← hq2] at e2q
  have bq2 : q2 ≤ 30 := by omega
  have w1e : IntKind.i64.wrap ((2 : Int) * (q : Int)) = (q2 : Int) := by rw [e2q]; exact IntWalk.i64_in _ (by omega)
  have w2e : IntKind.i64.wrap (q2 : Int) = (q2 : Int) := IntWalk.i64_in _ (by omega)
  have w3e : IntKind.i64.wrap ((q2 : Int) + (n3 : Int)) = (q2 : Int) + (n3 : Int) := IntWalk.i64_in _ (by omega)
  have dq : decide ((q2 : Int) + (n3 : Int) ≤ (r : Int)) = false := decide_eq_false (by omega)
  have hB0 : Hid (Below w.heap.size w ((w.alloc (.cells #[.int .i64 (n : Nat), .int .i64 (r : Nat)] 23)).alloc (.cells #[.slice A1 (n - r) c1, .slice A2 n c2, .slice A3 n3 c3] 51))) := hid (by (repeat' (first | (with_reducible exact Below.refl _ _) | (with_reducible assumption) | (with_reducible refine Below.alloc ?_ ?_ _) | (with_reducible refine Below.drew ?_) | (with_reducible refine below_drewN ?_ _) | (with_reducible refine Below.setCell ?_ ?_ _) | (with_reducible refine Below.trans ?_ (Below.mono (by with_reducible assumption) ?_)) | go_size)))
  have hX0 : Hid (NX (n : Nat) (r : Nat) A1 (n - r) c1 A2 n c2 A3 n3 c3 w.heap.size ((w.alloc (.cells #[.int .i64 (n : Nat), .int .i64 (r : Nat)] 23)).alloc (.cells #[.slice A1 (n - r) c1, .slice A2 n c2, .slice A3 n3 c3] 51))) := hid (nx_new w)
  have hs0 : Hid (((w.alloc (.cells #[.int .i64 (n : Nat), .int .i64 (r : Nat)] 23)).alloc (.cells #[.slice A1 (n - r) c1, .slice A2 n c2, .slice A3 n3 c3] 51)).heap.size = w.heap.size + 2) := hid (by rw [World.size_alloc, World.size_alloc])
  have hn0 : 0 < n := by omega
  have hn15 : n ≤ 15 := by omega
  have hr8 : r ≤ 8 := by omega
  have hrn : r < n := by omega
  clear h hT h1 h2 h3 hno hq hR hC hM cA cA2 hin hq2 hMl
  go_enter Tryd.func7, Tryd.ntmps7
  go_wp2_with (first | (go_at_call 35; (with_reducible refine (c35y (n : Nat) (r : Nat) _ hh.out).mono ?_); rintro e w1 ⟨rfl, hB1⟩; have hX1 := hid (hX0.out.below hB1 (by simp)); obtain ⟨⟨p0, p1⟩, p2, p3, p4⟩ := hX1.out; have hs1 := hB1.size; rw [hs0.out] at hs1; have hB1 := hid (hB0.out.trans (hB1.mono (by rw [hs0.out]; omega)))) | (go_at_call 36; (with_reducible refine (c36 n r A1 b1 o1 (n - r) c1 f1 A2 b2 o2 n c2 f2 A3 b3 o3 n3 c3 f3 _ (by omega) (by omega) (h1h.out.below hB1.out (Nat.le_refl _)) (h2h.out.below hB1.out (Nat.le_refl _)) (h3h.out.below hB1.out (Nat.le_refl _))).mono ?_); intro e w2 hr; obtain ⟨rfl, hB2⟩ := hr.un.1 hnoh.out; have hX2 := hid (hX1.out.below hB2 (by omega)); obtain ⟨⟨p0, p1⟩, p2, p3, p4⟩ := hX2.out; have hs2 := hB2.size; have hB2 := hid (hB1.out.trans (hB2.mono hB1.out.size)); clear hr) | (go_at_call 18; (with_reducible refine (cAh.out _ (z1.out.below hB2.out (Nat.le_refl _)) (hTh.out.below hB2.out (Nat.le_refl _))).mono ?_); rintro e w3 ⟨g3, k3', rfl, hg3, R3, hB3⟩; have I3 := hid R3.ints; have hX3 := hid (hX2.out.below hB3 (by omega)); obtain ⟨⟨p0, p1⟩, p2, p3, p4⟩ := hX3.out; have hs3 := hB3.size; have hB3 := hid (hB2.out.trans (hB3.mono hB2.out.size)); clear R3) | (go_at_call 37; (with_reducible refine (c37 (some ⟨g3, 0, none⟩) g3 0 n k3' (nf C) (n : Nat) w3 I3.out (by omega)).mono ?_); intro e w' hr; obtain ⟨rfl, rfl⟩ := hr.un.1 ⟨all_nf n C, rfl⟩; clear hr) | (go_at_call 38; (with_reducible refine (c38 n r (some ⟨g3, 0, none⟩) g3 0 k3' C w3 I3.out hn15 hr8).mono ?_); intro e w4 hr; obtain ⟨rfl, hB4⟩ := hr.un.1 hcw.out; have hX4 := hid (hX3.out.below hB4 (by omega)); have I34 := hid (I3.out.below hB4 (Nat.le_refl _)); have hs4 := hB4.size; have hB4 := hid (hB3.out.trans (hB4.mono hB3.out.size)); clear hr p0 p1 p2 p3 p4))
  go_loopw [7] (fun iv wr => ∃ k : Nat, k ≤ n - r ∧ iv = .int .i64 k ∧ NX (n : Nat) (r : Nat) A1 (n - r) c1 A2 n c2 A3 n3 c3 w.heap.size wr ∧ Below w4.heap.size w4 wr) (fun iv _ => n - r - (intOf iv).toNat)
  case atStart => exact ⟨0, Nat.zero_le _, rfl, hX4.out, Below.refl _ _⟩
  case round =>
    obtain ⟨k, hk, rfl, hX, hB⟩ := hrel
    obtain ⟨⟨p0, p1⟩, p2, p3, p4⟩ := hX
    by_cases hlt : k < n - r
    · have y1 := I34.out.below hB (Nat.le_refl _)
      have y2 := z1.out.below (hB4.out.trans (hB.mono hB4.out.size)) (Nat.le_refl _)
      have e1 := y1.ce k (by omega)
      have e2 := y2.ce k hlt
      rw [Nat.zero_add] at e1
      rw [hdat.out k hlt] at e2
      have i1 := fun w' => @Ints.ix _ _ _ _ _ k3' _ y1 k (by omega) w'
      have i2 := fun w' => @Ints.ix _ _ _ _ _ c1 _ y2 k hlt w'
      simp only [Nat.zero_add] at i1
      obtain ⟨x, hx⟩ : ∃ x, x = nf C k := ⟨_, rfl⟩
      rw [← hx] at e1 e2
      have hXh : Hid (NX (n : Nat) (r : Nat) A1 (n - r) c1 A2 n c2 A3 n3 c3 w.heap.size wr) := hid ⟨⟨p0, p1⟩, p2, p3, p4⟩
      have dk : decide ((k : Int) < ((n - r : Nat) : Int)) = true := decide_eq_true (by omega)
      clear y1 y2 hx
      go_wp2_with fail
      go_quiet (fail)
      go_wp2_with fail
      go_roundw
      case rel => exact ⟨k + 1, by omega, by go_num, hXh.out.below (below_drewN (Below.refl wr.heap.size wr) _) (by have := hB.size; omega), below_drewN hB _⟩
      case measure => simp [intOf]; omega
    · have hXr : Hid (NX (n : Nat) (r : Nat) A1 (n - r) c1 A2 n c2 A3 n3 c3 w.heap.size wr) := hid ⟨⟨p0, p1⟩, p2, p3, p4⟩
      have Ir := hid (I34.out.below hB (Nat.le_refl _))
      have hsr := hB.size
      have hBr := hid (hB4.out.trans (hB.mono hB4.out.size))
      have dk : decide ((k : Int) < ((n - r : Nat) : Int)) = false := decide_eq_false (by omega)
      have dk' : decide (k < n - r) = false := decide_eq_false hlt
      clear hB
      go_wp2_with (first | (go_at_call 39; (with_reducible refine (c39 (some ⟨g3, 0, none⟩) g3 0 n k3' C A2 b2 o2 n c2 (sy f2) wr Ir.out (z2.out.below hBr.out (Nat.le_refl _)) (Nat.le_refl _) (by omega)).mono ?_); rintro e w5 ⟨v4, rfl, hown4, hB5⟩; obtain ⟨g4, k4, rfl, I5⟩ := own_vals hown4 hn0; rw [← hRh.out] at I5; have I5 := hid I5; have I35 := hid (Ir.out.below hB5 (Nat.le_refl _)); have hX5 := hid (hXr.out.below hB5 (by omega)); obtain ⟨⟨p0, p1⟩, p2, p3, p4⟩ := hX5.out; have hs5 := hB5.size; have hB5 := hid (hBr.out.trans (hB5.mono hBr.out.size)); clear hown4) | (go_at_call 20; (with_reducible refine (c20r n r (some ⟨g4, 0, none⟩) g4 0 k4 R A3 b3 o3 n3 c3 f3 w5 (hTh.out.below hB5.out (Nat.le_refl _)) hv.out I5.out (z3.out.below hB5.out (Nat.le_refl _)) k3.out a3.out).mono ?_); rw [← hMh.out]; rintro e w6 (⟨D, g6, k6, hD, rfl, hg6, hk6, R6, hB6⟩ | ⟨hD, rfl, hB6⟩) <;> replace hD := hid hD <;> have hX6 := hid (hX5.out.below hB6 (by omega)) <;> have I36 := hid (I35.out.below hB6 (Nat.le_refl _)) <;> have I46 := hid (I5.out.below hB6 (Nat.le_refl _)) <;> clear p0 p1 p2 p3 p4 <;> have hs6 := hB6.size <;> replace hB6 := hid (hB5.out.trans (hB6.mono hB5.out.size)) <;> try replace R6 := hid R6.ints))
      all_goals (
        have x6 := hX6.out
        have y1 := x6.1.2
        have y3 := x6.2.2.2
        clear x6
        go_region_held3 (fun w' => w'.cell? ⟨w.heap.size, 1, none⟩ = some (.int .i64 (r : Nat)) ∧ w'.cell? ⟨w.heap.size + 1, 2, none⟩ = some (.slice A3 n3 c3)) (first | exact ⟨y1, y3⟩ | exact f7.out) ((go_at_call 40; (with_reducible refine (c40 (some ⟨g3, 0, none⟩) g3 0 n k3' C (some ⟨g4, 0, none⟩) g4 0 n k4 R A3 b3 o3 n3 c3 (ps f3) w6.drew (I36.out.below (Below.drew (Below.refl _ _)) (Nat.le_refl _)) (I46.out.below (Below.drew (Below.refl _ _)) (Nat.le_refl _)) (z3p.out.below hB6.out.drew (Nat.le_refl _)) (Nat.le_refl _) (by omega) (by omega)).mono ?_); rw [show apc C R (li (ps f3) n3) n = q by rw [← hMh.out]; exact hqh.out.symm]; rintro e w7 ⟨rfl, K7⟩; replace K7 : Below w6.heap.size w6 w7 := ((Below.refl _ _).drew).trans K7; have hX7 := hid (hX6.out.below K7 (by omega)); have f7 := hid (show w7.cell? ⟨w.heap.size, 1, none⟩ = some (.int .i64 (r : Nat)) ∧ w7.cell? ⟨w.heap.size + 1, 2, none⟩ = some (.slice A3 n3 c3) from ⟨hX7.out.1.2, hX7.out.2.2.2⟩); have hs7 := K7.size; have K67 := hid K7; have hB7 := hid (hB6.out.trans (K7.mono hB6.out.size)); clear K7))
        have hX7c := hX7.out
        obtain ⟨⟨p0, p1⟩, p2, p3, p4⟩ := hX7c)
      · have hD1 := hid hD.out.1
        have hD2 := hid hD.out.2
        obtain ⟨t, ht⟩ : ∃ t, t = Gf.apa n D R M := ⟨_, rfl⟩
        have htb : 2 * t + n3 ≤ r := by have := hD2.out; rw [hMlh.out, ← ht] at this; exact this
        obtain ⟨t2, ht2⟩ : ∃ t2, t2 = 2 * t := ⟨_, rfl⟩
        have et2 : (2 : Int) * (t : Int) = (t2 : Int) := by omega
        have v1 : IntKind.i64.wrap ((2 : Int) * (t : Int)) = (t2 : Int) := by rw [et2]; exact IntWalk.i64_in _ (by omega)
        have v2 : IntKind.i64.wrap (t2 : Int) = (t2 : Int) := IntWalk.i64_in _ (by omega)
        have v3 : IntKind.i64.wrap ((t2 : Int) + (n3 : Int)) = (t2 : Int) + (n3 : Int) := IntWalk.i64_in _ (by omega)
        have dt : decide ((t2 : Int) + (n3 : Int) ≤ (r : Int)) = true := decide_eq_true (by omega)
        have hth := hid ht
        have I67 := hid (R6.out.below K67.out (Nat.le_refl _))
        have I47 := hid (I46.out.below K67.out (Nat.le_refl _))
        clear ht ht2
        go_wp2_with fail
        have f77 := hid (show w7.cell? ⟨w.heap.size, 0, none⟩ = some (.int .i64 (n : Nat)) ∧ w7.cell? ⟨w.heap.size, 1, none⟩ = some (.int .i64 (r : Nat)) ∧ w7.cell? ⟨w.heap.size + 1, 2, none⟩ = some (.slice A3 n3 c3) from ⟨hX7.out.1.1, hX7.out.1.2, hX7.out.2.2.2⟩)
        go_region_held3 (fun w' => w'.cell? ⟨w.heap.size, 0, none⟩ = some (.int .i64 (n : Nat)) ∧ w'.cell? ⟨w.heap.size, 1, none⟩ = some (.int .i64 (r : Nat)) ∧ w'.cell? ⟨w.heap.size + 1, 2, none⟩ = some (.slice A3 n3 c3)) (first | exact f77.out | exact f8.out | exact f9.out | exact f10.out) (first | (go_at_call 37; (with_reducible refine (c37 (some ⟨g6, 0, none⟩) g6 0 n k6 (nf D) (n : Nat) w7.drew (I67.out.below (Below.drew (Below.refl _ _)) (Nat.le_refl _)) (by omega)).mono ?_); intro e w' hr; obtain ⟨rfl, rfl⟩ := hr.un.1 ⟨all_nf n D, rfl⟩; clear hr) | (go_at_call 38; (with_reducible refine (c38 n r (some ⟨g6, 0, none⟩) g6 0 k6 D w7.drew (I67.out.below (Below.drew (Below.refl _ _)) (Nat.le_refl _)) hn15 hr8).mono ?_); intro e w8 hr; obtain ⟨rfl, K8⟩ := hr.un.1 hD1.out; clear hr; replace K8 : Below w7.heap.size w7 w8 := ((Below.refl _ _).drew).trans K8; have hX8 := hid (hX7.out.below K8 (by omega)); have f8 := hid (show w8.cell? ⟨w.heap.size, 0, none⟩ = some (.int .i64 (n : Nat)) ∧ w8.cell? ⟨w.heap.size, 1, none⟩ = some (.int .i64 (r : Nat)) ∧ w8.cell? ⟨w.heap.size + 1, 2, none⟩ = some (.slice A3 n3 c3) from ⟨hX8.out.1.1, hX8.out.1.2, hX8.out.2.2.2⟩); have hs8 := K8.size; have K78 := hid K8; have hB8 := hid (hB7.out.trans (K8.mono hB7.out.size)); clear K8) | (go_at_call 40; (with_reducible refine (c40 (some ⟨g6, 0, none⟩) g6 0 n k6 D (some ⟨g4, 0, none⟩) g4 0 n k4 R A3 b3 o3 n3 c3 (ps f3) w8 (I67.out.below K78.out (Nat.le_refl _)) (I47.out.below K78.out (Nat.le_refl _)) (z3p.out.below hB8.out (Nat.le_refl _)) (Nat.le_refl _) (by omega) (by omega)).mono ?_); rw [show apc D R (li (ps f3) n3) n = t by rw [← hMh.out]; exact hth.out.symm]; rintro e w9 ⟨rfl, K9⟩; have hX9 := hid (hX8.out.below K9 (by omega)); have f9 := hid (show w9.cell? ⟨w.heap.size, 0, none⟩ = some (.int .i64 (n : Nat)) ∧ w9.cell? ⟨w.heap.size, 1, none⟩ = some (.int .i64 (r : Nat)) ∧ w9.cell? ⟨w.heap.size + 1, 2, none⟩ = some (.slice A3 n3 c3) from ⟨hX9.out.1.1, hX9.out.1.2, hX9.out.2.2.2⟩); have hs9 := K9.size; have hB9 := hid (hB8.out.trans (K9.mono hB8.out.size)); clear K9) | (go_at_call 15; refine (hwk.out w9 (hTh.out.below hB9.out (Nat.le_refl _))).mono ?_; rintro e w10 ⟨rfl, K10⟩; have hX10 := hid (hX9.out.below K10 (by omega)); have f10 := hid (show w10.cell? ⟨w.heap.size, 0, none⟩ = some (.int .i64 (n : Nat)) ∧ w10.cell? ⟨w.heap.size, 1, none⟩ = some (.int .i64 (r : Nat)) ∧ w10.cell? ⟨w.heap.size + 1, 2, none⟩ = some (.slice A3 n3 c3) from ⟨hX10.out.1.1, hX10.out.1.2, hX10.out.2.2.2⟩); have hB10 := hid (hB9.out.trans (K10.mono hB9.out.size)); clear K10))
        go_wp2
        go_returns
        exact ⟨rfl, hB10.out⟩
      · go_wp2_with (go_at_call 15; refine (hwk.out _ (hTh.out.below hB7.out (Nat.le_refl _))).mono ?_; rintro e w10 ⟨rfl, hB10⟩; have hB10 := hid (hB7.out.trans (hB10.mono hB7.out.size)))
        go_returns
        exact ⟨rfl, hB10.out⟩
theorem c7 (L P : Int) (A1 : Option Addr) (b1 o1 n1 c1 : Nat) (f1 : Nat → Int) (A2 : Option Addr) (b2 o2 n2 c2 : Nat) (f2 : Nat → Int) (A3 : Option Addr) (b3 o3 n3 c3 : Nat) (f3 : Nat → Int) (w : World) (hT : Tab w) (h1 : Sin w A1 b1 o1 n1 c1 f1) (h2 : Sin w A2 b2 o2 n2 c2 f2) (h3 : Sin w A3 b3 o3 n3 c3 f3) :
    Calls Tryd.prog 7 #[.agg #[.int .i64 L, .int .i64 P], .agg #[.slice A1 n1 c1, .slice A2 n2 c2, .slice A3 n3 c3]] w fun e w' => e = .returned (.bool true) ∧ Below w.heap.size w w' := by
  by_cases h : rdy L P
  · obtain ⟨n, r, rfl, rfl⟩ := vld_of h.1
    by_cases hno : noiP n r n1 n2 n3 f1 f2 f3
    · obtain rfl : n1 = n - r := hno.2.1.2
      obtain rfl : n2 = n := hno.2.2.1.2
      by_cases hin : 2 * Gf.apa n2 (Gf.enc n2 r (sy f1)) (noi (Gf.enc n2 r (sy f1)) (sy f2)) (li (ps f3) n3) + n3 ≤ r
      · exact c7_1 n2 r A1 b1 o1 c1 f1 A2 b2 o2 c2 f2 A3 b3 o3 n3 c3 f3 w hT h h1 h2 h3 hno hin
      · exact c7_0 n2 r A1 b1 o1 c1 f1 A2 b2 o2 c2 f2 A3 b3 o3 n3 c3 f3 w hT h h1 h2 h3 hno hin
    · exact c7b n r A1 b1 o1 n1 c1 f1 A2 b2 o2 n2 c2 f2 A3 b3 o3 n3 c3 f3 w hT h h1 h2 h3 hno
  · exact c7a L P A1 n1 c1 A2 n2 c2 A3 n3 c3 w hT h
end Go.Proofs.YtnndhibhnakdoaaDoor
