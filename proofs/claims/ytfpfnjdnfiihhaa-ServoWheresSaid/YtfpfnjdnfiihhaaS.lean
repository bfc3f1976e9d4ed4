/- Stage 2: whether all that is possible is near; where the head can be, now and later. -/
import Derived.Test.YtfpfnjdnfiihhaaR
set_option linter.unusedSimpArgs false
set_option linter.unusedVariables false
namespace Go.Proofs.Ytfpfnjdnfiihhaa
open Go.RowKit

/-- Whether each position with at most wr faults is near. -/
def nearP (s : Sv) (f : Nat → Int) (pl li : Int) : Prop := ∀ p : Nat, p < s.N → f p ≤ s.wr → -li ≤ (p : Int) - pl ∧ (p : Int) - pl ≤ li
set_option maxRecDepth 100000 in
set_option maxHeartbeats 2000000 in
theorem c58 (s : Sv) (g : Wg) (b c : Nat) (f : Nat → Int) (pl li : Int) (w : World) (ok : s.Ok) (hR : RowF w b s.N f) (hp : -100 ≤ pl ∧ pl ≤ 2000) (hl : 0 ≤ li ∧ li ≤ 16) :
    Calls Try.prog 58 #[hdv s g, .slice (some ⟨b, 0, none⟩) s.N c, .int .i64 pl, .int .i64 li] w (RetBB (nearP s f pl li) w) := by
  have hN := ok.Nb
  have hN1 := hN.1; have hN2 := hN.2.1
  obtain ⟨n, hn⟩ : ∃ n, n = s.N := ⟨_, rfl⟩
  have hnn := hid hn
  rw [← hn] at hR hN1 hN2 ⊢
  obtain ⟨W0, hW0⟩ : ∃ W0 : World, W0 = w.alloc (.cells #[.int .i64 s.tr, .int .i64 s.st, .int .i64 s.mv, .int .i64 s.no, .int .i64 s.wr, .slice s.ra s.rn s.rc, .slice g.wa g.wn g.wk] 75) := ⟨_, rfl⟩
  have hB0 : Below w.heap.size w W0 := by rw [hW0]; (repeat' (first | (with_reducible exact Below.refl _ _) | (with_reducible assumption) | (with_reducible refine Below.alloc ?_ ?_ _) | (with_reducible refine Below.drew ?_) | (with_reducible refine below_drewN ?_ _) | (with_reducible refine Below.setCell ?_ ?_ _) | (with_reducible refine Below.trans ?_ (Below.mono (by with_reducible assumption) ?_)) | go_size))
  have hbx : Hbx s g W0 w.heap.size := by rw [hW0]; exact Hbx.new s g w
  have hs0 : W0.heap.size = w.heap.size + 1 := by rw [hW0]; simp
  have hRk := hR.below hB0 hR.lt
  obtain ⟨_, _, _, _, k4, _, _⟩ := hbx.all
  have hRh := hid hRk
  clear hN ok hn hR hRk hbx
  go_enter Try.func58, Try.ntmps58
  go_wp2_with fail
  rw [← hW0]
  clear hW0
  go_loop [9, 10, 13] (fun _ _ iv => ∃ k : Nat, k ≤ n ∧ iv = .int .i64 k ∧ Hid (∀ p : Nat, p < k → f p ≤ s.wr → -li ≤ (p : Int) - pl ∧ (p : Int) - pl ≤ li)) (fun _ _ iv => n - (intOf iv).toNat)
  case atStart => exact ⟨0, Nat.zero_le _, rfl, fun p hp => absurd hp (Nat.not_lt_zero _)⟩
  case round =>
    obtain ⟨k, hk, rfl, hall⟩ := hrel
    by_cases hlt : k < n
    · have h1 := hRh.out.cell hlt
      have h3 := hRh.out.lt
      have h4 := @RowF.ix _ _ _ c _ hRh.out _ hlt
      by_cases hfk : f k ≤ s.wr
      · by_cases hne : -li ≤ (k : Int) - pl ∧ (k : Int) - pl ≤ li
        · go_wp2_with (go_at_call 46; refine (c46y _ (by omega)).mono ?_; rintro e w' ⟨rfl, rfl⟩)
          go_round
          case rel =>
            refine ⟨k + 1, by omega, by go_num, fun p hp hfp => ?_⟩
            by_cases e : p = k
            · subst e; exact hne
            · exact hall.out p (by omega) hfp
          case measure => simp [intOf]; omega
        · have hneh := hid hne
          clear hne
          go_wp2_with (go_at_call 46; refine (c46n _ (by have := hneh.out; omega)).mono ?_; rintro e w' ⟨rfl, rfl⟩)
          go_returns
          exact RetBB.no (fun h => hneh.out (h k (by rw [← hnn.out]; exact hlt) hfk)) hB0
      · have hfk' : s.wr < f k := by omega
        go_wp2_with fail
        go_round
        case rel =>
          refine ⟨k + 1, by omega, by go_num, fun p hp hfp => ?_⟩
          by_cases e : p = k
          · subst e; exact absurd hfp hfk
          · exact hall.out p (by omega) hfp
        case measure => simp [intOf]; omega
    · go_wp2_with fail
      go_returns
      exact RetBB.yes (fun p hp hfp => hall.out p (by rw [← hnn.out] at hp; omega) hfp) hB0

/-- The faults, d wedges later. -/
def mvn (N m : Nat) (f : Nat → Int) : Nat → Nat → Int
  | 0 => f
  | d + 1 => mvd N m (mvn N m f d)
theorem mvn_100 {N m : Nat} {f : Nat → Int} (h : ∀ p, p < N → 0 ≤ f p ∧ f p ≤ 100) : ∀ (d p : Nat), p < N → 0 ≤ mvn N m f d p ∧ mvn N m f d p ≤ 100
  | 0, p, hp => h p hp
  | d + 1, p, hp => mvd_bd hp (mvn_100 h d)
/-- Spans and an error are handed back. -/
def SpRet2 (l : List (Nat × Nat)) (er : Int) (w : World) (e : Ending) (w' : World) : Prop :=
  ∃ v : Value, e = .returned (.tuple #[v, .int .i64 er]) ∧ w'.ownsRow w.heap.size 56 2 v l.length (enc l) ∧ Below w.heap.size w w'
theorem SpRet2.err {er : Int} {w w' : World} (h : Below w.heap.size w w') : SpRet2 [] er w (.returned (.tuple #[.slice none 0 0, .int .i64 er])) w' := ⟨_, rfl, World.ownsRow_nil _ _ _ _, h⟩
/-- Where the head can be, d wedges later: below which positions. -/
def aheadL (s : Sv) (g : Wg) (d : Nat) : List (Nat × Nat) := spn (fun p => decide (mvn s.N s.m (fl s g) d p ≤ s.wr)) s.N

set_option maxRecDepth 100000 in
set_option maxHeartbeats 2000000 in
theorem c24_ck (s : Sv) (g : Wg) (x : Int) (w : World) (hz : s.In w) (hg : g.In w) (hm : s.rn ≤ 1000000) (hm2 : g.wn ≤ 1000000) (h : ckE s g ≠ 0) :
    Calls Try.prog 24 #[s.v, g.v, .int .i64 x] w (SpRet2 [] (ckE s g) w) := by
  have hh := hid h
  have hne : ((ckE s g) == 0) = false := by simpa using h
  obtain ⟨er, her⟩ : ∃ er, er = ckE s g := ⟨_, rfl⟩
  have herh := hid her
  rw [← her] at hne ⊢
  clear h her
  go_enter Try.func24, Try.ntmps24
  go_wp2_with (go_at_call 47; refine (c47_err s g _ (hz.below (by (repeat' (first | (with_reducible exact Below.refl _ _) | (with_reducible assumption) | (with_reducible refine Below.alloc ?_ ?_ _) | (with_reducible refine Below.drew ?_) | (with_reducible refine below_drewN ?_ _) | (with_reducible refine Below.setCell ?_ ?_ _) | (with_reducible refine Below.trans ?_ (Below.mono (by with_reducible assumption) ?_)) | go_size))) (Nat.le_refl _)) (hg.below (by (repeat' (first | (with_reducible exact Below.refl _ _) | (with_reducible assumption) | (with_reducible refine Below.alloc ?_ ?_ _) | (with_reducible refine Below.drew ?_) | (with_reducible refine below_drewN ?_ _) | (with_reducible refine Below.setCell ?_ ?_ _) | (with_reducible refine Below.trans ?_ (Below.mono (by with_reducible assumption) ?_)) | go_size))) (Nat.le_refl _)) hm hm2 hh.out).mono ?_; rw [← herh.out]; rintro e w1 ⟨rfl, hB1⟩; have hz1 : w.heap.size + 1 ≤ w1.heap.size := (by have := hB1.size; simp at this; omega); have hBx : Below w.heap.size w w1 := Below.trans (by (repeat' (first | (with_reducible exact Below.refl _ _) | (with_reducible assumption) | (with_reducible refine Below.alloc ?_ ?_ _) | (with_reducible refine Below.drew ?_) | (with_reducible refine below_drewN ?_ _) | (with_reducible refine Below.setCell ?_ ?_ _) | (with_reducible refine Below.trans ?_ (Below.mono (by with_reducible assumption) ?_)) | go_size))) (hB1.mono (by simp)))
  go_ret2
  exact SpRet2.err (by (repeat' (first | (with_reducible exact Below.refl _ _) | (with_reducible assumption) | (with_reducible refine Below.alloc ?_ ?_ _) | (with_reducible refine Below.drew ?_) | (with_reducible refine below_drewN ?_ _) | (with_reducible refine Below.setCell ?_ ?_ _) | (with_reducible refine Below.trans ?_ (Below.mono (by with_reducible assumption) ?_)) | go_size)))

set_option maxRecDepth 100000 in
set_option maxHeartbeats 2000000 in
theorem c24_arg (s : Sv) (g : Wg) (x : Int) (w : World) (hz : s.In w) (hg : g.In w) (hm : s.rn ≤ 1000000) (hm2 : g.wn ≤ 1000000) (ok : s.Ok) (okg : g.Ok) (h : ¬ (0 ≤ x ∧ x ≤ 24)) :
    Calls Try.prog 24 #[s.v, g.v, .int .i64 x] w (SpRet2 [] 1 w) := by
  have hh := hid h
  have okh := hid ok
  have okgh := hid okg
  clear h ok okg
  go_enter Try.func24, Try.ntmps24
  go_wp2_with (first | (go_at_call 47; refine (c47 s g _ (hz.below (by (repeat' (first | (with_reducible exact Below.refl _ _) | (with_reducible assumption) | (with_reducible refine Below.alloc ?_ ?_ _) | (with_reducible refine Below.drew ?_) | (with_reducible refine below_drewN ?_ _) | (with_reducible refine Below.setCell ?_ ?_ _) | (with_reducible refine Below.trans ?_ (Below.mono (by with_reducible assumption) ?_)) | go_size))) (Nat.le_refl _)) (hg.below (by (repeat' (first | (with_reducible exact Below.refl _ _) | (with_reducible assumption) | (with_reducible refine Below.alloc ?_ ?_ _) | (with_reducible refine Below.drew ?_) | (with_reducible refine below_drewN ?_ _) | (with_reducible refine Below.setCell ?_ ?_ _) | (with_reducible refine Below.trans ?_ (Below.mono (by with_reducible assumption) ?_)) | go_size))) (Nat.le_refl _)) hm hm2 okh.out okgh.out).mono ?_; rintro e w1 ⟨rfl, hB1⟩; have hz1 : w.heap.size + 1 ≤ w1.heap.size := (by have := hB1.size; simp at this; omega); have hBx : Below w.heap.size w w1 := Below.trans (by (repeat' (first | (with_reducible exact Below.refl _ _) | (with_reducible assumption) | (with_reducible refine Below.alloc ?_ ?_ _) | (with_reducible refine Below.drew ?_) | (with_reducible refine below_drewN ?_ _) | (with_reducible refine Below.setCell ?_ ?_ _) | (with_reducible refine Below.trans ?_ (Below.mono (by with_reducible assumption) ?_)) | go_size))) (hB1.mono (by simp))) | (go_at_call 46; refine (c46n _ (by have := hh.out; omega)).mono ?_; rintro e w' ⟨rfl, rfl⟩))
  go_ret2
  exact SpRet2.err (by (repeat' (first | (with_reducible exact Below.refl _ _) | (with_reducible assumption) | (with_reducible refine Below.alloc ?_ ?_ _) | (with_reducible refine Below.drew ?_) | (with_reducible refine below_drewN ?_ _) | (with_reducible refine Below.setCell ?_ ?_ _) | (with_reducible refine Below.trans ?_ (Below.mono (by with_reducible assumption) ?_)) | go_size)))

set_option maxRecDepth 100000 in
set_option maxHeartbeats 2000000 in
theorem c24_none (s : Sv) (g : Wg) (x : Int) (w : World) (hz : s.In w) (hg : g.In w) (hm : s.rn ≤ 1000000) (hm2 : g.wn ≤ 1000000) (ok : s.Ok) (okg : g.Ok) (hx : 0 ≤ x ∧ x ≤ 24) (hp : ¬ mn s.N (fl s g) ≤ s.wr) :
    Calls Try.prog 24 #[s.v, g.v, .int .i64 x] w (SpRet2 [] 3 w) := by
  have okh := hid ok
  have okgh := hid okg
  have hph := hid hp
  clear ok okg hp
  go_enter Try.func24, Try.ntmps24
  go_wp2_with (first | (go_at_call 47; refine (c47 s g _ (hz.below (by (repeat' (first | (with_reducible exact Below.refl _ _) | (with_reducible assumption) | (with_reducible refine Below.alloc ?_ ?_ _) | (with_reducible refine Below.drew ?_) | (with_reducible refine below_drewN ?_ _) | (with_reducible refine Below.setCell ?_ ?_ _) | (with_reducible refine Below.trans ?_ (Below.mono (by with_reducible assumption) ?_)) | go_size))) (Nat.le_refl _)) (hg.below (by (repeat' (first | (with_reducible exact Below.refl _ _) | (with_reducible assumption) | (with_reducible refine Below.alloc ?_ ?_ _) | (with_reducible refine Below.drew ?_) | (with_reducible refine below_drewN ?_ _) | (with_reducible refine Below.setCell ?_ ?_ _) | (with_reducible refine Below.trans ?_ (Below.mono (by with_reducible assumption) ?_)) | go_size))) (Nat.le_refl _)) hm hm2 okh.out okgh.out).mono ?_; rintro e w1 ⟨rfl, hB1⟩; have hz1 : w.heap.size + 1 ≤ w1.heap.size := (by have := hB1.size; simp at this; omega); have hBx : Below w.heap.size w w1 := Below.trans (by (repeat' (first | (with_reducible exact Below.refl _ _) | (with_reducible assumption) | (with_reducible refine Below.alloc ?_ ?_ _) | (with_reducible refine Below.drew ?_) | (with_reducible refine below_drewN ?_ _) | (with_reducible refine Below.setCell ?_ ?_ _) | (with_reducible refine Below.trans ?_ (Below.mono (by with_reducible assumption) ?_)) | go_size))) (hB1.mono (by simp))) | (go_at_call 46; refine (c46y _ (by omega)).mono ?_; rintro e w' ⟨rfl, rfl⟩) | (go_at_call 48; refine (c48n s g _ (hz.below (by (repeat' (first | (with_reducible exact Below.refl _ _) | (with_reducible assumption) | (with_reducible refine Below.alloc ?_ ?_ _) | (with_reducible refine Below.drew ?_) | (with_reducible refine below_drewN ?_ _) | (with_reducible refine Below.setCell ?_ ?_ _) | (with_reducible refine Below.trans ?_ (Below.mono (by with_reducible assumption) ?_)) | go_size))) (Nat.le_refl _)) (hg.below (by (repeat' (first | (with_reducible exact Below.refl _ _) | (with_reducible assumption) | (with_reducible refine Below.alloc ?_ ?_ _) | (with_reducible refine Below.drew ?_) | (with_reducible refine below_drewN ?_ _) | (with_reducible refine Below.setCell ?_ ?_ _) | (with_reducible refine Below.trans ?_ (Below.mono (by with_reducible assumption) ?_)) | go_size))) (Nat.le_refl _)) okh.out okgh.out (by have := hph.out; omega)).mono ?_; rintro e w2 ⟨rfl, hB2⟩; have hBy : Below w.heap.size w w2 := Below.trans (show Below w.heap.size w _ by (repeat' (first | (with_reducible exact Below.refl _ _) | (with_reducible assumption) | (with_reducible refine Below.alloc ?_ ?_ _) | (with_reducible refine Below.drew ?_) | (with_reducible refine below_drewN ?_ _) | (with_reducible refine Below.setCell ?_ ?_ _) | (with_reducible refine Below.trans ?_ (Below.mono (by with_reducible assumption) ?_)) | go_size))) (hB2.mono (by simp; omega))))
  go_ret2
  exact SpRet2.err hBy

set_option maxRecDepth 100000 in
set_option maxHeartbeats 2000000 in
theorem c24_ok (s : Sv) (g : Wg) (x : Nat) (w : World) (hz : s.In w) (hg : g.In w) (hm : s.rn ≤ 1000000) (hm2 : g.wn ≤ 1000000) (ok : s.Ok) (okg : g.Ok) (hx : x ≤ 24) (hp : mn s.N (fl s g) ≤ s.wr) :
    Calls Try.prog 24 #[s.v, g.v, .int .i64 (x : Int)] w (SpRet2 (aheadL s g x) 0 w) := by
  have okh := hid ok
  have okgh := hid okg
  have hph := hid hp
  clear ok okg hp
  go_enter Try.func24, Try.ntmps24
  go_wp2_with (first | (go_at_call 47; refine (c47 s g _ (hz.below (by (repeat' (first | (with_reducible exact Below.refl _ _) | (with_reducible assumption) | (with_reducible refine Below.alloc ?_ ?_ _) | (with_reducible refine Below.drew ?_) | (with_reducible refine below_drewN ?_ _) | (with_reducible refine Below.setCell ?_ ?_ _) | (with_reducible refine Below.trans ?_ (Below.mono (by with_reducible assumption) ?_)) | go_size))) (Nat.le_refl _)) (hg.below (by (repeat' (first | (with_reducible exact Below.refl _ _) | (with_reducible assumption) | (with_reducible refine Below.alloc ?_ ?_ _) | (with_reducible refine Below.drew ?_) | (with_reducible refine below_drewN ?_ _) | (with_reducible refine Below.setCell ?_ ?_ _) | (with_reducible refine Below.trans ?_ (Below.mono (by with_reducible assumption) ?_)) | go_size))) (Nat.le_refl _)) hm hm2 okh.out okgh.out).mono ?_; rintro e w1 ⟨rfl, hB1⟩; have hz1 : w.heap.size + 1 ≤ w1.heap.size := (by have := hB1.size; simp at this; omega); have hBx : Below w.heap.size w w1 := Below.trans (by (repeat' (first | (with_reducible exact Below.refl _ _) | (with_reducible assumption) | (with_reducible refine Below.alloc ?_ ?_ _) | (with_reducible refine Below.drew ?_) | (with_reducible refine below_drewN ?_ _) | (with_reducible refine Below.setCell ?_ ?_ _) | (with_reducible refine Below.trans ?_ (Below.mono (by with_reducible assumption) ?_)) | go_size))) (hB1.mono (by simp))) | (go_at_call 46; refine (c46y _ (by omega)).mono ?_; rintro e w' ⟨rfl, rfl⟩) | (go_at_call 48; refine (c48 s g _ (hz.below (by (repeat' (first | (with_reducible exact Below.refl _ _) | (with_reducible assumption) | (with_reducible refine Below.alloc ?_ ?_ _) | (with_reducible refine Below.drew ?_) | (with_reducible refine below_drewN ?_ _) | (with_reducible refine Below.setCell ?_ ?_ _) | (with_reducible refine Below.trans ?_ (Below.mono (by with_reducible assumption) ?_)) | go_size))) (Nat.le_refl _)) (hg.below (by (repeat' (first | (with_reducible exact Below.refl _ _) | (with_reducible assumption) | (with_reducible refine Below.alloc ?_ ?_ _) | (with_reducible refine Below.drew ?_) | (with_reducible refine below_drewN ?_ _) | (with_reducible refine Below.setCell ?_ ?_ _) | (with_reducible refine Below.trans ?_ (Below.mono (by with_reducible assumption) ?_)) | go_size))) (Nat.le_refl _)) okh.out okgh.out hph.out).mono ?_; rintro e w2 ⟨y, c, rfl, hy, hc, hR, hB2⟩; have hBy : Below w.heap.size w w2 := Below.trans (show Below w.heap.size w _ by (repeat' (first | (with_reducible exact Below.refl _ _) | (with_reducible assumption) | (with_reducible refine Below.alloc ?_ ?_ _) | (with_reducible refine Below.drew ?_) | (with_reducible refine below_drewN ?_ _) | (with_reducible refine Below.setCell ?_ ?_ _) | (with_reducible refine Below.trans ?_ (Below.mono (by with_reducible assumption) ?_)) | go_size))) (hB2.mono (by simp; omega)); have hRh := hid hR; clear hR; have hbx := Hbx.below (Hbx.new s g w1) hB2 (by simp); have hz2 : w1.heap.size + 1 ≤ w2.heap.size := (by have := hB2.size; simp at this; omega); have hyy : w1.heap.size + 1 ≤ y := (by simp at hy; omega)))
  go_loopw [10, 32] (fun fv iv wr => ∃ d : Nat, d ≤ x ∧ iv = .int .i64 d ∧ RowV wr w.heap.size s.N (mvn s.N s.m (fl s g) d) fv ∧ Below w2.heap.size w2 wr) (fun _ iv _ => x - (intOf iv).toNat)
  case atStart => exact ⟨0, Nat.zero_le _, rfl, ⟨y, c, rfl, by omega, hc, hRh.out⟩, Below.refl _ _⟩
  case round =>
    obtain ⟨d, hd, rfl, ⟨y', c', rfl, hy', hc', hR'⟩, hB⟩ := hrel
    have hbxr := (hbx.below hB (by omega)).all
    have hszr := hB.size
    have hRh' := hid hR'
    clear hR'
    have hmh := hid (mvn_100 (m := s.m) (fl_100 (s := s) okgh.out) d)
    by_cases hlt : d < x
    · go_wp2_with (go_at_call 56; refine (c56 s g y' c' _ _ okh.out hRh'.out hc' hmh.out).mono ?_; rintro e w3 ⟨y3, c3, rfl, hy3, hc3, hR3, hB3⟩; have hR3h := hid hR3; clear hR3)
      go_roundw
      case rel => exact ⟨d + 1, by omega, by go_num, ⟨y3, c3, rfl, by omega, hc3, hR3h.out⟩, hB.trans (hB3.mono hB.size)⟩
      case measure => simp [intOf]; omega
    · obtain rfl : d = x := by omega
      go_wp2_with (go_at_call 57; refine (c57 s g y' c' _ _ okh.out hRh'.out).mono ?_; rintro e w3 ⟨v, rfl, hown, hB3⟩; have hownh := hid hown; clear hown)
      go_ret2
      exact ⟨v, rfl, owns_base hownh.out (by omega), hBy.trans ((hB.trans (hB3.mono hB.size)).mono (by omega))⟩
end Go.Proofs.Ytfpfnjdnfiihhaa
