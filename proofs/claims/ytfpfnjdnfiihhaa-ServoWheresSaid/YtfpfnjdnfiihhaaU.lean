/- Stage 2: the write gate. -/
import Derived.Test.YtfpfnjdnfiihhaaT
set_option linter.unusedSimpArgs false
set_option linter.unusedVariables false
namespace Go.Proofs.Ytfpfnjdnfiihhaa
open Go.RowKit

def gtP (s : Sv) (g : Wg) (t li : Int) (k : Nat) : Prop := nearP s (mvn s.N s.m (fl s g) k) (s.at_ t (g.wn + k - 1)) li
open Classical in
noncomputable def gtF (s : Sv) (g : Wg) (t li : Int) : Nat → Nat → Nat
  | 0, k => k
  | d + 1, k => if gtP s g t li k then gtF s g t li d (k + 1) else k
/-- For how many wedges the head is surely near. -/
noncomputable def gate (s : Sv) (g : Wg) (t li : Int) : Nat := gtF s g t li 24 0
theorem gtF_yes {s : Sv} {g : Wg} {t li : Int} {k : Nat} (hk : k < 24) (h : gtP s g t li k) : gtF s g t li (24 - k) k = gtF s g t li (24 - (k + 1)) (k + 1) := by
  rw [show 24 - k = (24 - (k + 1)) + 1 by omega, gtF, if_pos h]
theorem gtF_no {s : Sv} {g : Wg} {t li : Int} {k : Nat} (hk : k < 24) (h : ¬ gtP s g t li k) : gtF s g t li (24 - k) k = k := by
  rw [show 24 - k = (24 - (k + 1)) + 1 by omega, gtF, if_neg h]
theorem c59i (s : Sv) (g : Wg) (t x : Int) (i : Nat) (w : World) (hx : x = i) (hz : s.In w) (ok : s.Ok) (h0 : 0 ≤ t) (h1 : t < s.tr) (hi : i ≤ 1000) :
    Calls Try.prog 59 #[hdv s g, .int .i64 t, .int .i64 x] w fun e w' => e = .returned (.int .i64 (s.at_ t i)) ∧ Below w.heap.size w w' := by
  subst hx; exact c59 s g t i w hz ok h0 h1 hi
theorem c58y {s : Sv} {g : Wg} {b c : Nat} {f : Nat → Int} {pl li : Int} {w : World} (ok : s.Ok) (hR : RowF w b s.N f) (hp : -100 ≤ pl ∧ pl ≤ 2000) (hl : 0 ≤ li ∧ li ≤ 16) (p : nearP s f pl li) :
    Calls Try.prog 58 #[hdv s g, .slice (some ⟨b, 0, none⟩) s.N c, .int .i64 pl, .int .i64 li] w fun e w' => e = .returned (.bool true) ∧ Below w.heap.size w w' :=
  (c58 s g b c f pl li w ok hR hp hl).mono fun _ _ hr => by
    rcases hr with ⟨_, h1⟩ | ⟨h1, _⟩
    · exact h1
    · exact absurd p h1
theorem c58n {s : Sv} {g : Wg} {b c : Nat} {f : Nat → Int} {pl li : Int} {w : World} (ok : s.Ok) (hR : RowF w b s.N f) (hp : -100 ≤ pl ∧ pl ≤ 2000) (hl : 0 ≤ li ∧ li ≤ 16) (p : ¬ nearP s f pl li) :
    Calls Try.prog 58 #[hdv s g, .slice (some ⟨b, 0, none⟩) s.N c, .int .i64 pl, .int .i64 li] w fun e w' => e = .returned (.bool false) ∧ Below w.heap.size w w' :=
  (c58 s g b c f pl li w ok hR hp hl).mono fun _ _ hr => by
    rcases hr with ⟨h1, _⟩ | ⟨_, h1⟩
    · exact absurd h1 p
    · exact h1

set_option maxRecDepth 100000 in
set_option maxHeartbeats 4000000 in
theorem c25_ok (s : Sv) (g : Wg) (t li : Int) (w : World) (hz : s.In w) (hg : g.In w) (hm : s.rn ≤ 1000000) (hm2 : g.wn ≤ 1000000) (ok : s.Ok) (okg : g.Ok) (ht : 0 ≤ t ∧ t ≤ s.tr - 1) (hl : 0 ≤ li ∧ li ≤ 16) (hp : mn s.N (fl s g) ≤ s.wr) :
    Calls Try.prog 25 #[s.v, g.v, .int .i64 t, .int .i64 li] w fun e w' => e = .returned (.tuple #[.int .i64 (gate s g t li : Nat), .int .i64 0]) ∧ Below w.heap.size w w' := by
  have okh := hid ok
  have okgh := hid okg
  have hph := hid hp
  have hn2 := okg.n2
  have t1 := ok.t1; have t2 := ok.t2
  obtain ⟨gt, hgt⟩ : ∃ gt, gt = gate s g t li := ⟨_, rfl⟩
  rw [← hgt]
  have hgth := hid hgt
  clear ok okg hp hgt
  go_enter Try.func25, Try.ntmps25
  go_wp2_with (first | (go_at_call 47; refine (c47 s g _ (hz.below (by (repeat' (first | (with_reducible exact Below.refl _ _) | (with_reducible assumption) | (with_reducible refine Below.alloc ?_ ?_ _) | (with_reducible refine Below.drew ?_) | (with_reducible refine below_drewN ?_ _) | (with_reducible refine Below.setCell ?_ ?_ _) | (with_reducible refine Below.trans ?_ (Below.mono (by with_reducible assumption) ?_)) | go_size))) (Nat.le_refl _)) (hg.below (by (repeat' (first | (with_reducible exact Below.refl _ _) | (with_reducible assumption) | (with_reducible refine Below.alloc ?_ ?_ _) | (with_reducible refine Below.drew ?_) | (with_reducible refine below_drewN ?_ _) | (with_reducible refine Below.setCell ?_ ?_ _) | (with_reducible refine Below.trans ?_ (Below.mono (by with_reducible assumption) ?_)) | go_size))) (Nat.le_refl _)) hm hm2 okh.out okgh.out).mono ?_; rintro e w1 ⟨rfl, hB1⟩; have hz1 : w.heap.size + 1 ≤ w1.heap.size := (by have := hB1.size; simp at this; omega); have hBx : Below w.heap.size w w1 := Below.trans (by (repeat' (first | (with_reducible exact Below.refl _ _) | (with_reducible assumption) | (with_reducible refine Below.alloc ?_ ?_ _) | (with_reducible refine Below.drew ?_) | (with_reducible refine below_drewN ?_ _) | (with_reducible refine Below.setCell ?_ ?_ _) | (with_reducible refine Below.trans ?_ (Below.mono (by with_reducible assumption) ?_)) | go_size))) (hB1.mono (by simp))) | (go_at_call 46; refine (c46y _ (by omega)).mono ?_; rintro e w' ⟨rfl, rfl⟩) | (go_at_call 48; refine (c48 s g _ (hz.below (by (repeat' (first | (with_reducible exact Below.refl _ _) | (with_reducible assumption) | (with_reducible refine Below.alloc ?_ ?_ _) | (with_reducible refine Below.drew ?_) | (with_reducible refine below_drewN ?_ _) | (with_reducible refine Below.setCell ?_ ?_ _) | (with_reducible refine Below.trans ?_ (Below.mono (by with_reducible assumption) ?_)) | go_size))) (Nat.le_refl _)) (hg.below (by (repeat' (first | (with_reducible exact Below.refl _ _) | (with_reducible assumption) | (with_reducible refine Below.alloc ?_ ?_ _) | (with_reducible refine Below.drew ?_) | (with_reducible refine below_drewN ?_ _) | (with_reducible refine Below.setCell ?_ ?_ _) | (with_reducible refine Below.trans ?_ (Below.mono (by with_reducible assumption) ?_)) | go_size))) (Nat.le_refl _)) okh.out okgh.out hph.out).mono ?_; rintro e w2 ⟨y, c, rfl, hy, hc, hR, hB2⟩; have hBy : Below w.heap.size w w2 := Below.trans (show Below w.heap.size w _ by (repeat' (first | (with_reducible exact Below.refl _ _) | (with_reducible assumption) | (with_reducible refine Below.alloc ?_ ?_ _) | (with_reducible refine Below.drew ?_) | (with_reducible refine below_drewN ?_ _) | (with_reducible refine Below.setCell ?_ ?_ _) | (with_reducible refine Below.trans ?_ (Below.mono (by with_reducible assumption) ?_)) | go_size))) (hB2.mono (by simp; omega)); have hRh := hid hR; clear hR; have hbx := Hbx.below (Hbx.new s g w1) hB2 (by simp); have hz2 : w1.heap.size + 1 ≤ w2.heap.size := (by have := hB2.size; simp at this; omega); have hyy : w1.heap.size + 1 ≤ y := (by simp at hy; omega)))
  go_loopw [12, 14, 47] (fun fv _ iv wr => ∃ k : Nat, k ≤ 24 ∧ iv = .int .i64 k ∧ RowV wr w.heap.size s.N (mvn s.N s.m (fl s g) k) fv ∧ Below w2.heap.size w2 wr ∧ Hid (gtF s g t li (24 - k) k = gt)) (fun _ _ iv _ => 24 - (intOf iv).toNat)
  case atStart => exact ⟨0, Nat.zero_le _, rfl, ⟨y, c, rfl, by omega, hc, hRh.out⟩, Below.refl _ _, hgth.out.symm⟩
  case round =>
    obtain ⟨k, hk, rfl, ⟨y', c', rfl, hy', hc', hR'⟩, hB, hgk⟩ := hrel
    have hbxr := hbx.below hB (by omega)
    have hszr := hB.size
    have hRh' := hid hR'
    clear hR'
    have hmh := hid (mvn_100 (m := s.m) (fl_100 (s := s) okgh.out) k)
    have hBw : Below w.heap.size w wr := hBy.trans (hB.mono (by omega))
    by_cases hlt : k < 24
    · have hat := okh.out.atb ht.1 (by omega) (g.wn + k - 1)
      have e56 : IntKind.i64.wrap ((g.wn : Int) - 1 + (k : Int)) = (g.wn : Int) - 1 + (k : Int) := IntWalk.i64_in _ (by omega)
      have hmx : max ((g.wn : Int) - 1 + (k : Int)) 0 = ((g.wn + k - 1 : Nat) : Int) := by omega
      have hmxh := hid hmx
      clear hmx
      by_cases hwk : (g.wn : Int) - 1 + (k : Int) < 0
      all_goals
        by_cases hgp' : gtP s g t li k
        · have hgp := hid hgp'
          have hst := hid (gtF_yes hlt hgp')
          clear hgp'
          go_wp2_with fail
          go_region_held3 (fun w' => w'.cell? ⟨w1.heap.size, 0, none⟩ = some (.int .i64 s.tr) ∧ w'.cell? ⟨w1.heap.size, 1, none⟩ = some (.int .i64 s.st) ∧ w'.cell? ⟨w1.heap.size, 2, none⟩ = some (.int .i64 s.mv) ∧ w'.cell? ⟨w1.heap.size, 3, none⟩ = some (.int .i64 s.no) ∧ w'.cell? ⟨w1.heap.size, 4, none⟩ = some (.int .i64 s.wr) ∧ w'.cell? ⟨w1.heap.size, 5, none⟩ = some (.slice s.ra s.rn s.rc) ∧ w'.cell? ⟨w1.heap.size, 6, none⟩ = some (.slice g.wa g.wn g.wk)) (first | exact hbxr.all | exact hk3.all | exact hk4.all) (first | (go_at_call 59; refine (c59i s g t _ (g.wn + k - 1) _ (by first | omega | (split <;> omega)) (hz.below (by first | exact hBw | exact hBw.drew | (repeat' (first | (with_reducible exact Below.refl _ _) | (with_reducible assumption) | (with_reducible refine Below.alloc ?_ ?_ _) | (with_reducible refine Below.drew ?_) | (with_reducible refine below_drewN ?_ _) | (with_reducible refine Below.setCell ?_ ?_ _) | (with_reducible refine Below.trans ?_ (Below.mono (by with_reducible assumption) ?_)) | go_size))) (Nat.le_refl _)) okh.out ht.1 (by omega) (by omega)).mono ?_; rintro e w3 ⟨rfl, hB3⟩; have hk3 : Hbx s g w3 w1.heap.size := (Hbx.below (w := wr.drew) hbxr hB3 (show w1.heap.size < wr.heap.size by omega)); have hR3h := hid (RowF.below (w := wr.drew) (hRh'.out.of_block rfl) hB3 hRh'.out.lt)) | (go_at_call 58; refine (c58y okh.out hR3h.out (by omega) hl hgp.out).mono ?_; rintro e w4 ⟨rfl, hB4⟩; have hk4 : Hbx s g w4 w1.heap.size := (Hbx.below (w := w3) hk3 hB4 (show w1.heap.size < w3.heap.size from Nat.lt_of_lt_of_le (show w1.heap.size < wr.heap.size by omega) hB3.size))))
          have hBr4 : Below wr.heap.size wr w4 := Below.trans (Below.trans (Below.refl _ _).drew hB3) (hB4.mono hB3.size)
          have hR4h := hid (hRh'.out.below hBr4 hRh'.out.lt)
          have hb4 := hk4.all
          have hsz4 := hBr4.size
          clear hk3 hk4 hR3h
          go_wp2_with (go_at_call 56; refine (c56 s g y' c' _ _ okh.out hR4h.out hc' hmh.out).mono ?_; rintro e w5 ⟨y5, c5, rfl, hy5, hc5, hR5, hB5⟩; have hR5h := hid hR5; clear hR5)
          go_roundw
          case rel => exact ⟨k + 1, by omega, by go_num, ⟨y5, c5, rfl, by omega, hc5, hR5h.out⟩, hB.trans ((hBr4.trans (hB5.mono hsz4)).mono hszr), by rw [← hst.out]; exact hgk.out⟩
          case measure => simp [intOf]; omega
        · have hgp := hid hgp'
          have hst := hid (gtF_no hlt hgp')
          clear hgp'
          go_wp2_with fail
          go_region_held3 (fun w' => w'.cell? ⟨w1.heap.size, 0, none⟩ = some (.int .i64 s.tr) ∧ w'.cell? ⟨w1.heap.size, 1, none⟩ = some (.int .i64 s.st) ∧ w'.cell? ⟨w1.heap.size, 2, none⟩ = some (.int .i64 s.mv) ∧ w'.cell? ⟨w1.heap.size, 3, none⟩ = some (.int .i64 s.no) ∧ w'.cell? ⟨w1.heap.size, 4, none⟩ = some (.int .i64 s.wr) ∧ w'.cell? ⟨w1.heap.size, 5, none⟩ = some (.slice s.ra s.rn s.rc) ∧ w'.cell? ⟨w1.heap.size, 6, none⟩ = some (.slice g.wa g.wn g.wk)) (first | exact hbxr.all | exact hk3.all | exact hk4.all) (first | (go_at_call 59; refine (c59i s g t _ (g.wn + k - 1) _ (by first | omega | (split <;> omega)) (hz.below (by first | exact hBw | exact hBw.drew | (repeat' (first | (with_reducible exact Below.refl _ _) | (with_reducible assumption) | (with_reducible refine Below.alloc ?_ ?_ _) | (with_reducible refine Below.drew ?_) | (with_reducible refine below_drewN ?_ _) | (with_reducible refine Below.setCell ?_ ?_ _) | (with_reducible refine Below.trans ?_ (Below.mono (by with_reducible assumption) ?_)) | go_size))) (Nat.le_refl _)) okh.out ht.1 (by omega) (by omega)).mono ?_; rintro e w3 ⟨rfl, hB3⟩; have hk3 : Hbx s g w3 w1.heap.size := (Hbx.below (w := wr.drew) hbxr hB3 (show w1.heap.size < wr.heap.size by omega)); have hR3h := hid (RowF.below (w := wr.drew) (hRh'.out.of_block rfl) hB3 hRh'.out.lt)) | (go_at_call 58; refine (c58n okh.out hR3h.out (by omega) hl hgp.out).mono ?_; rintro e w4 ⟨rfl, hB4⟩; have hk4 : Hbx s g w4 w1.heap.size := (Hbx.below (w := w3) hk3 hB4 (show w1.heap.size < w3.heap.size from Nat.lt_of_lt_of_le (show w1.heap.size < wr.heap.size by omega) hB3.size))))
          go_wp2
          go_ret2
          have e := hgk.out
          rw [hst.out] at e
          subst e
          exact ⟨rfl, hBw.trans ((Below.trans (Below.trans (Below.refl wr.heap.size wr).drew hB3) (hB4.mono hB3.size)).mono hBw.size)⟩
    · obtain rfl : k = 24 := by omega
      go_wp2_with fail
      go_ret2
      have e := hgk.out
      exact ⟨by rw [← e]; rfl, hBw⟩
end Go.Proofs.Ytfpfnjdnfiihhaa
