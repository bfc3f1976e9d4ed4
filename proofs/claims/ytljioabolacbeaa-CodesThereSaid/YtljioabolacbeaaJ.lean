/- Stage 4: the code's stream of data. -/
import Derived.Test.YtljioabolacbeaaI
set_option linter.unusedSimpArgs false
set_option linter.unusedVariables false
namespace Go.Proofs.Ytljioabolacbeaa
open Go.RowKit

theorem vals_add (a b : Nat) (f : Nat → Int) : vals (a + b) f = vals a f ++ vals b (fun i => f (a + i)) := by
  induction b with
  | zero => simp [vals]
  | succ b ih => rw [← Nat.add_assoc, vals_succ, vals_succ, ih, List.append_assoc]
theorem vals_congr {n : Nat} {f g : Nat → Int} (h : ∀ i, i < n → f i = g i) : vals n f = vals n g := by
  unfold vals
  apply List.map_congr_left
  intro i hi
  rw [h i (List.mem_range.1 hi)]
theorem sm_at (q : Cd) (st : Nat) (d : Nat → Int) (k : Nat) {i : Nat} (hi : i < q.O) : sm q st d (k * q.O + i) = bt q.O (mdN q st d k) i := by
  have h1 : (k * q.O + i) / q.O = k := by rw [Nat.mul_comm, Nat.mul_add_div (by omega), Nat.div_eq_of_lt hi]; omega
  have h2 : (k * q.O + i) % q.O = i := by rw [Nat.mul_comm, Nat.mul_add_mod, Nat.mod_eq_of_lt hi]
  unfold sm
  rw [h1, h2]
theorem vals_sm (q : Cd) (st : Nat) (d : Nat → Int) (k : Nat) : vals (k * q.O) (sm q st d) ++ vals q.O (bt q.O (mdN q st d k)) = vals ((k + 1) * q.O) (sm q st d) := by
  rw [Nat.succ_mul, vals_add]
  congr 1
  exact vals_congr (fun i hi => (sm_at q st d k hi).symm)
theorem Mat.row_cell {w : World} {A : Option Addr} {b o n : Nat} {R : Nat → Row} (h : Mat w A b o n R) {k i : Nat} (hk : k < n) (hi : i < (R k).n) : w.cell? ⟨(R k).b, (R k).o + i, none⟩ = some (.int .i64 ((R k).f i)) := (h.row k hk).ce i hi

set_option maxRecDepth 100000 in
set_option maxHeartbeats 4000000 in
theorem c48 (q : Cd) (st : Nat) (A : Option Addr) (b o n c : Nat) (d : Nat → Int) (w : World) (hz : q.In w) (ok : q.Ok) (hst : st < q.wn) (hd : Ints w A b o n d) (hn : n ≤ 24) (ha : allB (2 ^ q.B : Nat) n d) :
    Calls Try.prog 48 #[q.v, .int .i64 (st : Nat), .slice A n c] w fun e w' => ∃ v, e = .returned (.tuple #[v, .int .i64 (stN q st d n : Nat)]) ∧ w'.ownsRow (w.heap.size + 1) 3 1 v (n * q.O) (vals (n * q.O) (sm q st d)) ∧ Below w.heap.size w w' := by
  obtain ⟨i0, ie0, ie1, ie2, ie3⟩ := info_parts Try.info3
  have o1 := ok.o1; have o2 := ok.o2; have s1 := ok.s1; have s2 := ok.s2
  have po := pow_o o2
  have okh := hid ok
  have hah := hid ha
  have hzh := hid hz
  have hdh := hid hd
  clear ok ha hz hd
  go_enter Try.func48, Try.ntmps48
  go_wp2_with fail
  have hB0 : Below w.heap.size w (w.alloc (.cells #[.int .i64 (q.B : Nat), .int .i64 (q.O : Nat), .int .i64 q.L, .int .i64 q.M, .slice q.wa q.wn q.wc, .slice q.na q.nn q.nc] 72)) := by (repeat' (first | (with_reducible exact Below.refl _ _) | (with_reducible assumption) | (with_reducible refine Below.alloc ?_ ?_ _) | (with_reducible refine Below.drew ?_) | (with_reducible refine below_drewN ?_ _) | (with_reducible refine Below.setCell ?_ ?_ _) | (with_reducible refine Below.trans ?_ (Below.mono (by with_reducible assumption) ?_)) | go_size))
  have hX0 : Cbx q (w.alloc (.cells #[.int .i64 (q.B : Nat), .int .i64 (q.O : Nat), .int .i64 q.L, .int .i64 q.M, .slice q.wa q.wn q.wc, .slice q.na q.nn q.nc] 72)) w.heap.size := Cbx.newk q w
  have hs0 : w.heap.size < (w.alloc (.cells #[.int .i64 (q.B : Nat), .int .i64 (q.O : Nat), .int .i64 q.L, .int .i64 q.M, .slice q.wa q.wn q.wc, .slice q.na q.nn q.nc] 72)).heap.size := by simp
  go_loopw [1, 8, 13] (fun sv v iv wr => ∃ k : Nat, k ≤ n ∧ iv = .int .i64 k ∧ sv = .int .i64 (stN q st d k : Nat) ∧ wr.ownsRow (w.heap.size + 1) 3 1 v (k * q.O) (vals (k * q.O) (sm q st d)) ∧ Cbx q wr w.heap.size ∧ Below w.heap.size w wr ∧ w.heap.size < wr.heap.size) (fun _ _ iv _ => n - (intOf iv).toNat)
  case atStart => exact ⟨0, Nat.zero_le _, rfl, rfl, (by rw [Nat.zero_mul]; exact World.ownsRow_nil _ _ _ _), hX0, hB0, hs0⟩
  case round =>
    clear hB0 hX0 hs0
    obtain ⟨k, hk, rfl, rfl, hown, hX, hB, hs⟩ := hrel
    by_cases hlt : k < n
    · obtain ⟨m1, m2, m3, m4, m5⟩ := mdN_lt okh.out hst hah.out hlt
      obtain ⟨dk, hdk⟩ : ∃ dk, dk = (d k).toNat := ⟨_, rfl⟩
      obtain ⟨md, hmd⟩ : ∃ md, md = mdN q st d k := ⟨_, rfl⟩
      obtain ⟨X, hX'⟩ : ∃ X, X = stN q st d k := ⟨_, rfl⟩
      obtain ⟨Y, hY⟩ : ∃ Y, Y = stN q st d (k + 1) := ⟨_, rfl⟩
      have hXl : X < q.wn := by rw [hX']; exact stN_lt okh.out hst hah.out k (by omega)
      have hdk2 : dk < (q.W X).n := by rw [okh.out.wl _ hXl, hdk]; exact m4
      have hdk3 : dk < (q.N X).n := by rw [okh.out.nl _ hXl, hdk]; exact m4
      have hXn : X < q.nn := by rw [okh.out.nn]; exact hXl
      have hmd2 : md < 32 := by rw [hmd]; omega
      have hz2 := hzh.out.below hB (Nat.le_refl _)
      have hd2 := hdh.out.below hB (Nat.le_refl _)
      have g1 := hd2.ce k hlt
      rw [← m5, ← hdk] at g1
      have g2 := @Ints.ix _ _ _ _ _ c _ hd2 _ hlt
      have e1 := @Mat.ix _ _ _ _ _ q.wc _ hz2.ws _ hXl
      have e2 := @Ints.ix _ _ _ _ _ (q.W X).c _ (hz2.ws.row _ hXl) _ hdk2
      have e3 := @Mat.ix _ _ _ _ _ q.nc _ hz2.ns _ hXn
      have e4 := @Ints.ix _ _ _ _ _ (q.N X).c _ (hz2.ns.row _ hXn) _ hdk3
      have hS : Hid (∀ W, Below w.heap.size w W → W.cell? ⟨q.wb, q.wo + X, none⟩ = some (.slice (q.W X).a (q.W X).n (q.W X).c) ∧ W.cell? ⟨(q.W X).b, (q.W X).o + dk, none⟩ = some (.int .i64 (md : Nat)) ∧ W.cell? ⟨q.nb, q.no + X, none⟩ = some (.slice (q.N X).a (q.N X).n (q.N X).c) ∧ W.cell? ⟨(q.N X).b, (q.N X).o + dk, none⟩ = some (.int .i64 (Y : Nat))) := hid fun W hW => by
        have hz3 := hzh.out.below hW (Nat.le_refl _)
        refine ⟨hz3.ws.ce _ hXl, ?_, hz3.ns.ce _ hXn, ?_⟩
        · rw [hz3.ws.row_cell hXl hdk2, hmd, m2, ← hX', ← hdk]
        · rw [hz3.ns.row_cell hXn hdk3, hY, m3, ← hX', ← hdk]
      have hownh := hid hown
      have hXh := hid hX
      have hmdh := hid hmd
      have hYh := hid hY
      have hXh' := hid hX'
      rw [← hX']
      clear m1 m2 m3 m4 m5 hdk hmd hX' hY hz2 hd2 hown hX hdk2 hdk3 hXl hXn
      go_wp2_with fail
      have hk0 := hid (And.intro hXh.out.all (And.intro (hS.out _ hB).1 (hS.out _ hB).2.1))
      clear g1 g2
      go_region_held3 (fun w' => (w'.cell? ⟨w.heap.size, 0, none⟩ = some (.int .i64 (q.B : Nat)) ∧ w'.cell? ⟨w.heap.size, 1, none⟩ = some (.int .i64 (q.O : Nat)) ∧ w'.cell? ⟨w.heap.size, 2, none⟩ = some (.int .i64 q.L) ∧ w'.cell? ⟨w.heap.size, 3, none⟩ = some (.int .i64 q.M) ∧ w'.cell? ⟨w.heap.size, 4, none⟩ = some (.slice q.wa q.wn q.wc) ∧ w'.cell? ⟨w.heap.size, 5, none⟩ = some (.slice q.na q.nn q.nc)) ∧ w'.cell? ⟨q.wb, q.wo + X, none⟩ = some (.slice (q.W X).a (q.W X).n (q.W X).c) ∧ w'.cell? ⟨(q.W X).b, (q.W X).o + dk, none⟩ = some (.int .i64 (md : Nat))) (first | exact hk0.out | exact hk3.out | exact hk4.out) (first | (go_at_call 65; refine (c65 q md _ o1 o2 hmd2).mono ?_; rintro e w3 ⟨g, rfl, hg, hR, hB3⟩; have hBr3 : Below wr.heap.size wr w3 := Below.trans (Below.refl _ _).drew hB3; have hX3 : Cbx q w3 w.heap.size := hXh.out.below hBr3 hs; have hB4 : Below w.heap.size w w3 := hB.trans (hBr3.mono hB.size); have hk3 := hid (And.intro hX3.all (And.intro (hS.out _ hB4).1 (hS.out _ hB4).2.1)); have hRh := hid hR; clear hR) | (refine step_append_lies _ (by rfl) (.tmp 17) (.tmp 28) 25 (by rfl) (w.heap.size + 1) 3 i0 (.int .i64 0) 1 8 Try.underlying25 ie0 ie1 ie2 ie3 rfl (by decide) _ (k * q.O) (vals (k * q.O) (sm q st d)) (by rfl) (owns_below hownh.out hBr3 (Nat.le_refl _)) ⟨g, 0, none⟩ q.O q.O (vals q.O (bt q.O md)) (by rfl) (by rw [vals_len, Nat.mul_one]) (ints_cells hRh.out.ints) (vals_one _ _) o1 (by unfold maxLen; have : k * q.O ≤ 24 * 5 := Nat.mul_le_mul (by omega) o2; omega) (by have : k * q.O ≤ 24 * 5 := Nat.mul_le_mul (by omega) o2; omega) (Nat.lt_of_lt_of_le hs hBr3.size) _ rfl ?_; intro g4 cap4 w4 hown4 hgr4 hat4 hlt4; have hB34 : Below (w.heap.size + 1) w3 w4 := (Below.refl _ _).grown hgr4 (Nat.lt_of_lt_of_le hs hBr3.size) (fun p e => (hownh.out.lt p e).1); have hX4 : Cbx q w4 w.heap.size := hX3.below hB34 (Nat.lt_succ_self _); have hB5 : Below w.heap.size w w4 := hB4.trans (hB34.mono (Nat.le_succ _)); have hs4 : w.heap.size < w4.heap.size := Nat.lt_of_lt_of_le (Nat.lt_of_lt_of_le hs hBr3.size) hB34.size; have hk4 := hid (And.intro hX4.all (And.intro (hS.out _ hB5).1 (hS.out _ hB5).2.1)); have hown5 := hid hown4; clear hown4 hgr4 hat4 hlt4))
      obtain ⟨⟨y0, y1, y2, y3, y4, y5⟩, y6, y7⟩ := hk4.out
      obtain ⟨z0, z1, z2, z3⟩ := hS.out _ hB5
      go_wp2_with fail
      go_roundw
      case rel =>
        refine ⟨k + 1, by omega, by go_num, ?_, ?_, hX4, hB5, hs4⟩
        · rw [hYh.out]
        · have := hown5.out
          rw [hmdh.out, vals_sm] at this
          rw [show (k + 1) * q.O = k * q.O + q.O from Nat.succ_mul _ _] at this ⊢
          exact this
      case measure => simp [intOf]; omega
    · go_wp2_with fail
      go_returns
      obtain rfl : k = n := by omega
      exact ⟨_, rfl, hown, hB⟩
end Go.Proofs.Ytljioabolacbeaa
