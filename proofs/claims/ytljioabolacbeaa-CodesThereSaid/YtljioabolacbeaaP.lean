/- Stage 4: maps that are keyed by pairs of states; one step of the order from equal states. -/
import Derived.Test.YtljioabolacbeaaO
import Derived.Maps.OwnSet
import Derived.Maps.RangeWalk
import Derived.DeepKeys4
import Derived.WideKeyPair
set_option linter.unusedSimpArgs false
set_option linter.unusedVariables false
namespace Go.Proofs.Ytljioabolacbeaa
open Go.RowKit Go.Maps Go.WideMaps

theorem laidOut' : laidOutB Try.prog = true := by kernel_rfl
theorem row108 : (108 : TypeId) < Try.prog.types.size := of_decide_eq_true (by kernel_rfl)
theorem wide108 : (match Try.prog.underlying 108 with | some (.array _ _) | some (.struct _) => true | _ => false) = true := by rw [Try.underlying108]
set_option maxRecDepth 1000000 in
theorem law108 : Keyed Try.prog 108 := Keyed.of_law (deep_law_laid laidOut' (m := 2) (by omega) row108 (by kernel_rfl) wide108)
set_option maxRecDepth 1000000 in
theorem cells108 : Try.prog.cellsOf 108 = 2 := by kernel_rfl
set_option maxRecDepth 1000000 in
theorem arr108 : ArrKey Try.prog 108 3 2 := ⟨Try.underlying108, by kernel_rfl, by kernel_rfl, cells108⟩
set_option maxRecDepth 1000000 in
theorem tiled108 : Try.prog.tiled 2 108 = true := tiled_of_laidOut laidOut' 2 108 (by have := row108; simp only [isVar, Bool.and_eq_true, decide_eq_true_eq]; exact ⟨row108, by rw [Try.underlying108]; rfl⟩) (by kernel_rfl)
theorem wfn {a : Nat} (h : a ≤ 1000) : (Lit.int .i64 (a : Nat)).wf = true := by
  simp only [Lit.wf, Bool.and_eq_true, decide_eq_true_eq]
  have h1 : IntKind.i64.min = -9223372036854775808 := rfl
  have h2 : IntKind.i64.max = 9223372036854775807 := rfl
  omega
/-- The key of a pair of equal states. -/
def kp (a : Nat) : Lit := .string (keyBytes [.int .i64 a, .int .i64 a])
set_option maxRecDepth 1000000 in
theorem key_kp {a : Nat} (h : a ≤ 1000) : keyOf Try.prog 108 (.agg #[.int .i64 (a : Nat), .int .i64 (a : Nat)]) = some (kp a) :=
  keyOf_pair arr108 Try.underlying3 ⟨Try.prog.types.size - 1, (Nat.sub_add_cancel (Nat.lt_of_le_of_lt (Nat.zero_le _) row108)).symm⟩ (wfn h) (wfn h)
set_option maxRecDepth 1000000 in
set_option maxHeartbeats 400000 in
theorem c67e (a P : Nat) (w : World) (h : w.cell? ⟨P, 0, none⟩ = some (.int .i64 0)) (ha : a ≤ 1000) : Calls Try.prog 67 #[.int .i64 (a : Nat), .int .i64 (a : Nat), .pointer (some ⟨P, 0, none⟩)] w fun e w' => e = .returned (.bool false) ∧ w = w' := by
  have hb : ((a : Int) != (a : Int)) = false := by simp
  go_enter Try.func67, Try.ntmps67
  go_wp2
  go_returns
  exact ⟨rfl, rfl⟩
set_option maxRecDepth 1000000 in
theorem pair_of_key {x : Value} {a : Nat} (ha : a ≤ 1000) (h : keyOf Try.prog 108 x = some (kp a)) : x = .agg #[.int .i64 (a : Nat), .int .i64 (a : Nat)] :=
  keyOf_inj_deep tiled108 wide108 h (key_kp ha)
abbrev OwnP (w : World) (B n : Nat) (D : DataW Unit) : Prop := w.ownsMap Try.prog 108 (plainElem Try.prog 4) B n D
set_option maxRecDepth 100000 in
set_option maxHeartbeats 4000000 in
theorem c66e (q : Cd) (B n P : Nat) (D : DataW Unit) (w : World) (hz : q.In w) (ok : q.Ok) (hdist : ∀ s, s < q.wn → ∀ i j, i < (q.W s).n → j < (q.W s).n → (q.W s).f i = (q.W s).f j → i = j) (hown : OwnP w B n D)
    (hD : ∀ kl, Maps.has D kl = true → ∃ s, s < q.wn ∧ kl = kp s) (hP : w.cell? ⟨P, 0, none⟩ = some (.int .i64 0)) (hPl : P < w.heap.size) :
    Calls Try.prog 66 #[q.v, .map (some B), .func (.func 67) #[] #[.pointer (some ⟨P, 0, none⟩)]] w fun e w' => ∃ B', e = .returned (.map (some B')) ∧ OwnP w' B' 0 (.map []) ∧ w.heap.size ≤ B' ∧ Below w.heap.size w w' := by
  have hmm := @run_makeMap Try.prog
  have s1 := ok.s1; have s2 := ok.s2
  have okh := hid ok
  have hzh := hid hz
  have hdh := hid hdist
  have hDh := hid hD
  have hPh := hid hP
  have hoh := hid hown
  have hBl := hown.lt
  clear ok hz hdist hD hP hown
  go_enter Try.func66, Try.ntmps66
  go_wp2_with (at_range; go_loud (refine wpList_range_own _ rfl _ 106 rfl 108 4 law108 Try.underlying106 (plainElem (H := Unit) Try.prog 4) B n D rfl (hoh.out.kept (World.grownBy.trans (World.grownBy_alloc _ _ none) (World.grownBy_alloc _ _ none)) (by simp)) ?_); intro w0 hrg0 hg0 hs0)
  have hBm : Below w.heap.size w ((w.alloc (.cells #[.int .i64 (q.B : Nat), .int .i64 (q.O : Nat), .int .i64 q.L, .int .i64 q.M, .slice q.wa q.wn q.wc, .slice q.na q.nn q.nc] 72)).alloc (.map #[] 0)) := by (repeat' (first | (with_reducible exact Below.refl _ _) | (with_reducible assumption) | (with_reducible refine Below.alloc ?_ ?_ _) | (with_reducible refine Below.drew ?_) | (with_reducible refine below_drewN ?_ _) | (with_reducible refine Below.setCell ?_ ?_ _) | (with_reducible refine Below.trans ?_ (Below.mono (by with_reducible assumption) ?_)) | go_size))
  have hB0 : Below w.heap.size w w0 := hBm.grown hg0 hBm.size (fun k e => by cases e)
  have hmade : OwnP ((w.alloc (.cells #[.int .i64 (q.B : Nat), .int .i64 (q.O : Nat), .int .i64 q.L, .int .i64 q.M, .slice q.wa q.wn q.wc, .slice q.na q.nn q.nc] 72)).alloc (.map #[] 0)) (w.heap.size + 1) 0 (.map []) := by
    have := World.ownsMap_made (w.alloc (.cells #[.int .i64 (q.B : Nat), .int .i64 (q.O : Nat), .int .i64 q.L, .int .i64 q.M, .slice q.wa q.wn q.wc, .slice q.na q.nn q.nc] 72)) Try.prog 108 (plainElem (H := Unit) Try.prog 4)
    simpa using this
  have hm0 : OwnP w0 (w.heap.size + 1) 0 (.map []) := hmade.kept hg0 (by simp)
  have hc0 : Cbx q w0 w.heap.size := by
    have h1 : Cbx q ((w.alloc (.cells #[.int .i64 (q.B : Nat), .int .i64 (q.O : Nat), .int .i64 q.L, .int .i64 q.M, .slice q.wa q.wn q.wc, .slice q.na q.nn q.nc] 72)).alloc (.map #[] 0)) w.heap.size := (Cbx.newk q w).below (B := w.heap.size + 1) ((Below.refl _ _).alloc (by simp) _) (by omega)
    exact h1.keep fun o => World.cell?_of_block (hg0.block _ (by simp; omega) (by simp))
  have hr0 : w0.ranges Try.prog 108 (plainElem Try.prog 4) B (w.heap.size + 2) n D (Maps.has D) (Maps.size D) := by
    simpa using hrg0
  have hz0 : w.heap.size + 2 < w0.heap.size := by simp at hs0; omega
  go_frame
  simp only [World.size_alloc]
  clear hBm hmade hrg0 hg0 hs0 hmm
  have hm0 := hid hm0; have hr0 := hid hr0; have hc0 := hid hc0
  go_loopw [16] (fun _ wr => ∃ (left : Lit → Bool) (cnt : Nat), wr.ranges Try.prog 108 (plainElem Try.prog 4) B (w.heap.size + 2) n D left cnt ∧ (∀ kl, left kl = true → Maps.has D kl = true) ∧ OwnP wr (w.heap.size + 1) 0 (.map []) ∧ Cbx q wr w.heap.size ∧ Below w.heap.size w wr ∧ w.heap.size + 2 < wr.heap.size) (fun _ wr => wr.rangeLeft B (w.heap.size + 2))
  case atStart => exact ⟨_, _, hr0.out, fun _ h => h, hm0.out, hc0.out, hB0, hz0⟩
  case round =>
    clear hr0 hm0 hc0 hB0 hz0
    obtain ⟨left, cnt, hrg, hle, hm, hc, hB, hz⟩ := hrel
    have hmh := hid hm; have hch := hid hc; have hleh := hid hle; have hrgh := hid hrg
    clear hm hc hle hrg
    go_wp2_with (at_next; go_loud (refine wpList_next_ranges _ rfl _ rfl 108 law108 (plainElem Try.prog 4) (fun v : Value => v) (fun v : Value => v) (fun key kl h => ⟨key, rfl⟩) (fun v y h => ⟨v, rfl⟩) B (w.heap.size + 2) n D left cnt rfl hrgh.out ?_ ?_))
    · intro _ _
      go_wp2
      go_returns
      exact ⟨w.heap.size + 1, rfl, hmh.out, by omega, hB⟩
    · intro x c kl yy yp w1 cnt1 hkey hlk hv hat hrg1 hlt hg1 hs1 hen
      obtain ⟨s, hs, rfl⟩ := hDh.out kl (hleh.out kl hlk)
      have hx := pair_of_key (show s ≤ 1000 by omega) hkey
      subst hx
      have hB1 : Below w.heap.size w w1 := hB.grown hg1 hB.size (fun k e => by injection e with e; omega)
      have hc1 : Cbx q w1 w.heap.size := hch.out.keep fun o => World.cell?_of_block (hg1.block w.heap.size (by omega) (by simp))
      have hm1 : OwnP w1 (w.heap.size + 1) 0 (.map []) := hmh.out.kept hg1 (by simp)
      have hrg1h := hid hrg1
      have hle1 : Hid (∀ kl', (left kl' && !kl'.sameKey (kp s)) = true → Maps.has D kl' = true) := hid fun kl' h => hleh.out kl' (by simp at h; exact h.1)
      have hz1 : w.heap.size + 2 < w1.heap.size := by omega
      have hz10 : w.heap.size < w1.heap.size := by omega
      have hlth := hid (And.intro hlt hs1)
      clear hkey hlk hv hat hrg1 hg1 hmh hch hleh hlt hs1
      obtain ⟨w2, hw2⟩ : ∃ w2, w2 = w1.alloc (.cells #[.int .i64 (s : Nat), .int .i64 (s : Nat)] 108) := ⟨_, rfl⟩
      have hB12 : Below w1.heap.size w1 w2 := by rw [hw2]; exact (Below.refl _ _).alloc (Nat.le_refl _) _
      have hz2 : w1.heap.size < w2.heap.size := by rw [hw2]; exact World.size_alloc _ _ ▸ Nat.lt_succ_self _
      have hB2 : Below w.heap.size w w2 := hB1.trans (hB12.mono hB1.size)
      have hc2 : Cbx q w2 w.heap.size := hc1.below hB12 (by omega)
      have hm2 := hid (show OwnP w2 (w.heap.size + 1) 0 (.map []) by rw [hw2]; exact hm1.alloc _)
      have hrg2 := hid (show w2.ranges Try.prog 108 (plainElem Try.prog 4) B (w.heap.size + 2) n D _ cnt1 by rw [hw2]; exact hrg1h.out.alloc _)
      have hzz := hzh.out.below hB2 (Nat.le_refl _)
      have hz11 := hzh.out.below hB1 (Nat.le_refl _)
      obtain ⟨y0, y1, y2, y3, y4, y5⟩ := hc1
      have yw := hz11.ws.ce s hs
      have yi := @Mat.ix _ _ _ _ _ q.wc _ hz11.ws _ hs
      have yl := hz11.ws.lt s hs
      go_wp2_with fail
      rw [← hw2]
      have k1 : w2.cell? ⟨w1.heap.size, 1, none⟩ = some (.int .i64 (s : Nat)) := by rw [hw2]; simp
      have k2 : w2.cell? ⟨P, 0, none⟩ = some (.int .i64 0) := (hB2.cell (p := ⟨P, 0, none⟩) hPl).trans hPh.out
      obtain ⟨v0, v1, v2, v3, v4, v5⟩ := hc2.all
      have vw := hzz.ws.ce s hs
      have vr := hid (hzz.ws.row s hs)
      have hc2 := hid hc2
      have wn := okh.out.wl s hs
      have pb := pow_b okh.out.b2
      obtain ⟨m, hm⟩ : ∃ m, m = (q.W s).n := ⟨_, rfl⟩
      rw [← hm] at vr vw wn ⊢
      rw [← wn] at pb
      have hmh := hid hm
      clear y0 y1 y2 y3 y4 y5 yw hw2 hzz hz11 wn hm v0 v1 v2 v3 v5
      go_loop [28] (fun iv => ∃ i : Nat, i ≤ m ∧ iv = .int .i64 (i : Nat)) (fun iv => m - (intOf iv).toNat)
      case atStart => exact ⟨0, Nat.zero_le _, rfl⟩
      case round =>
        obtain ⟨i, hi, rfl⟩ := hrel
        by_cases hil : i < m
        · have z1 := vr.out.ce i hil
          have z2 := @Ints.ix _ _ _ _ _ (q.W s).c _ vr.out _ hil
          have z3 := vr.out.lt i hil
          go_wp2_with fail
          go_loop [41] (fun iv => ∃ j : Nat, j ≤ m ∧ iv = .int .i64 (j : Nat)) (fun iv => m - (intOf iv).toNat)
          case atStart => exact ⟨0, Nat.zero_le _, rfl⟩
          case round =>
            obtain ⟨j, hj, rfl⟩ := hrel
            by_cases hjl : j < m
            · have x1 := vr.out.ce j hjl
              have x2 := @Ints.ix _ _ _ _ _ (q.W s).c _ vr.out _ hjl
              by_cases hij : i = j
              · subst hij
                have xe : ((q.W s).f i == (q.W s).f i) = true := by simp
                go_wp2_with (go_at_call 67; refine (c67e i P _ k2 (by omega)).mono ?_; rintro e w' ⟨rfl, rfl⟩)
                go_round
                case rel => exact ⟨i + 1, by omega, by go_num⟩
                case measure => simp [intOf]; omega
              · have xe : ((q.W s).f i == (q.W s).f j) = false := by
                  simp only [beq_eq_false_iff_ne]
                  exact fun h => hij (hdh.out s hs i j (by rw [← hmh.out]; exact hil) (by rw [← hmh.out]; exact hjl) h)
                have hijh := hid hij
                clear hij
                go_wp2_with fail
                go_round
                case rel => exact ⟨j + 1, by omega, by go_num⟩
                case measure => simp [intOf]; omega
            · go_wp2_with fail
              go_round
              case rel => exact ⟨i + 1, by omega, by go_num⟩
              case measure => simp [intOf]; omega
        · go_wp2_with fail
          go_roundw
          case rel => exact ⟨_, cnt1, hrg2.out, hle1.out, hm2.out, hc2.out, hB2, by omega⟩
          case measure => rw [hrg2.out.left_eq, hrgh.out.left_eq]; exact hlth.out.1
end Go.Proofs.Ytljioabolacbeaa
