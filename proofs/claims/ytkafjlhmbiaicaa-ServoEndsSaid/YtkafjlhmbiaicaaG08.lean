/- Texts put together: T, U, V. -/
import Derived.Test.YtkafjlhmbiaicaaG07
/- Stage 2: Where, Ahead and Fewest, whatever comes in. -/
set_option linter.unusedSimpArgs false
set_option linter.unusedVariables false
namespace Go.Proofs.Ytkafjlhmbiaicaa
open Go.RowKit

open Classical in
noncomputable def ahE (s : Sv) (g : Wg) (told : Prop) : Int := if ckE s g ≠ 0 then ckE s g else if ¬ told then 1 else if mn s.N (fl s g) ≤ s.wr then 0 else 3
open Classical in
noncomputable def ahL (s : Sv) (g : Wg) (told : Prop) (d : Nat) : List (Nat × Nat) := if ahE s g told = 0 then aheadL s g d else []
theorem ahE_ck {s : Sv} {g : Wg} {told : Prop} (h : ckE s g ≠ 0) : ahE s g told = ckE s g := by unfold ahE; rw [if_pos h]
theorem ahE_arg {s : Sv} {g : Wg} {told : Prop} (h : ckE s g = 0) (h2 : ¬ told) : ahE s g told = 1 := by unfold ahE; rw [if_neg (by simp [h]), if_pos h2]
theorem ahE_none {s : Sv} {g : Wg} {told : Prop} (h : ckE s g = 0) (h2 : told) (h3 : ¬ mn s.N (fl s g) ≤ s.wr) : ahE s g told = 3 := by unfold ahE; rw [if_neg (by simp [h]), if_neg (by simp [h2]), if_neg h3]
theorem ahE_ok {s : Sv} {g : Wg} {told : Prop} (h : ckE s g = 0) (h2 : told) (h3 : mn s.N (fl s g) ≤ s.wr) : ahE s g told = 0 := by unfold ahE; rw [if_neg (by simp [h]), if_neg (by simp [h2]), if_pos h3]
theorem ahL_no {s : Sv} {g : Wg} {told : Prop} {d : Nat} (h : ahE s g told ≠ 0) : ahL s g told d = [] := if_neg h
theorem ahL_ok {s : Sv} {g : Wg} {told : Prop} {d : Nat} (h : ahE s g told = 0) : ahL s g told d = aheadL s g d := if_pos h
theorem ahE_inv {s : Sv} {g : Wg} {told : Prop} (h : ahE s g told = 0) : s.Ok ∧ g.Ok ∧ told ∧ mn s.N (fl s g) ≤ s.wr := by
  by_cases h1 : ckE s g = 0
  · by_cases h2 : told
    · by_cases h3 : mn s.N (fl s g) ≤ s.wr
      · exact ⟨(ckE_inv h1).1, (ckE_inv h1).2, h2, h3⟩
      · rw [ahE_none h1 h2 h3] at h; omega
    · rw [ahE_arg h1 h2] at h; omega
  · rw [ahE_ck h1] at h; exact absurd h h1

theorem c24 (s : Sv) (g : Wg) (x : Int) (w : World) (hz : s.In w) (hg : g.In w) (hm : s.rn ≤ 1000000) (hm2 : g.wn ≤ 1000000) :
    Calls Try.prog 24 #[s.v, g.v, .int .i64 x] w (SpRet2 (ahL s g (0 ≤ x ∧ x ≤ 24) x.toNat) (ahE s g (0 ≤ x ∧ x ≤ 24)) w) := by
  by_cases h1 : ckE s g = 0
  · obtain ⟨ok, okg⟩ := ckE_inv h1
    by_cases h2 : 0 ≤ x ∧ x ≤ 24
    · by_cases h3 : mn s.N (fl s g) ≤ s.wr
      · have e := ahE_ok h1 h2 h3
        rw [ahL_ok e, e]
        have := c24_ok s g x.toNat w hz hg hm hm2 ok okg (by omega) h3
        rwa [show ((x.toNat : Nat) : Int) = x by omega] at this
      · have e := ahE_none h1 h2 h3
        rw [ahL_no (by omega), e]
        exact c24_none s g x w hz hg hm hm2 ok okg h2 h3
    · have e := ahE_arg h1 h2
      rw [ahL_no (by omega), e]
      exact c24_arg s g x w hz hg hm hm2 ok okg h2
  · have e := ahE_ck (told := 0 ≤ x ∧ x ≤ 24) h1
    rw [ahL_no (by omega), e]
    exact c24_ck s g x w hz hg hm hm2 h1

set_option maxRecDepth 100000 in
set_option maxHeartbeats 1000000 in
theorem c18 (s : Sv) (g : Wg) (w : World) (hz : s.In w) (hg : g.In w) (hm : s.rn ≤ 1000000) (hm2 : g.wn ≤ 1000000) :
    Calls Try.prog 18 #[s.v, g.v] w (SpRet2 (ahL s g True 0) (ahE s g True) w) := by
  have e1 := hid (show (ahL s g (0 ≤ (0 : Int) ∧ (0 : Int) ≤ 24) (0 : Int).toNat) = ahL s g True 0 by simp)
  have e2 := hid (show (ahE s g (0 ≤ (0 : Int) ∧ (0 : Int) ≤ 24)) = ahE s g True by simp)
  go_enter Try.func18, Try.ntmps18
  go_wp2_with (go_at_call 24; refine (c24 s g 0 _ (hz.below (by (repeat' (first | (with_reducible exact Below.refl _ _) | (with_reducible assumption) | (with_reducible refine Below.alloc ?_ ?_ _) | (with_reducible refine Below.drew ?_) | (with_reducible refine below_drewN ?_ _) | (with_reducible refine Below.setCell ?_ ?_ _) | (with_reducible refine Below.trans ?_ (Below.mono (by with_reducible assumption) ?_)) | go_size))) (Nat.le_refl _)) (hg.below (by (repeat' (first | (with_reducible exact Below.refl _ _) | (with_reducible assumption) | (with_reducible refine Below.alloc ?_ ?_ _) | (with_reducible refine Below.drew ?_) | (with_reducible refine below_drewN ?_ _) | (with_reducible refine Below.setCell ?_ ?_ _) | (with_reducible refine Below.trans ?_ (Below.mono (by with_reducible assumption) ?_)) | go_size))) (Nat.le_refl _)) hm hm2).mono ?_; rw [e1.out, e2.out]; rintro e w1 ⟨v, rfl, hown, hB1⟩; have hownh := hid hown; clear hown)
  go_ret2
  exact ⟨v, rfl, owns_base hownh.out (by simp), Below.trans (by (repeat' (first | (with_reducible exact Below.refl _ _) | (with_reducible assumption) | (with_reducible refine Below.alloc ?_ ?_ _) | (with_reducible refine Below.drew ?_) | (with_reducible refine below_drewN ?_ _) | (with_reducible refine Below.setCell ?_ ?_ _) | (with_reducible refine Below.trans ?_ (Below.mono (by with_reducible assumption) ?_)) | go_size))) (hB1.mono (by simp))⟩

open Classical in
noncomputable def fwA (s : Sv) (g : Wg) : Int := if ckE s g = 0 then mn s.N (fl s g) else 0
set_option maxRecDepth 100000 in
set_option maxHeartbeats 1000000 in
theorem c20 (s : Sv) (g : Wg) (w : World) (hz : s.In w) (hg : g.In w) (hm : s.rn ≤ 1000000) (hm2 : g.wn ≤ 1000000) :
    Calls Try.prog 20 #[s.v, g.v] w fun e w' => e = .returned (.tuple #[.int .i64 (fwA s g), .int .i64 (ckE s g)]) ∧ Below w.heap.size w w' := by
  by_cases h1 : ckE s g = 0
  · obtain ⟨ok, okg⟩ := ckE_inv h1
    have hN := ok.Nb
    have hN1 := hN.1; have hN2 := hN.2.1
    have e1 : fwA s g = mn s.N (fl s g) := if_pos h1
    rw [h1, e1]
    have okh := hid ok
    have okgh := hid okg
    clear ok okg h1 e1 hN
    go_enter Try.func20, Try.ntmps20
    go_wp2_with (first | (go_at_call 47; refine (c47 s g _ (hz.below (by (repeat' (first | (with_reducible exact Below.refl _ _) | (with_reducible assumption) | (with_reducible refine Below.alloc ?_ ?_ _) | (with_reducible refine Below.drew ?_) | (with_reducible refine below_drewN ?_ _) | (with_reducible refine Below.setCell ?_ ?_ _) | (with_reducible refine Below.trans ?_ (Below.mono (by with_reducible assumption) ?_)) | go_size))) (Nat.le_refl _)) (hg.below (by (repeat' (first | (with_reducible exact Below.refl _ _) | (with_reducible assumption) | (with_reducible refine Below.alloc ?_ ?_ _) | (with_reducible refine Below.drew ?_) | (with_reducible refine below_drewN ?_ _) | (with_reducible refine Below.setCell ?_ ?_ _) | (with_reducible refine Below.trans ?_ (Below.mono (by with_reducible assumption) ?_)) | go_size))) (Nat.le_refl _)) hm hm2 okh.out okgh.out).mono ?_; rintro e w1 ⟨rfl, hB1⟩; have hz1 : w.heap.size + 1 ≤ w1.heap.size := (by have := hB1.size; simp at this; omega); have hBx : Below w.heap.size w w1 := Below.trans (by (repeat' (first | (with_reducible exact Below.refl _ _) | (with_reducible assumption) | (with_reducible refine Below.alloc ?_ ?_ _) | (with_reducible refine Below.drew ?_) | (with_reducible refine below_drewN ?_ _) | (with_reducible refine Below.setCell ?_ ?_ _) | (with_reducible refine Below.trans ?_ (Below.mono (by with_reducible assumption) ?_)) | go_size))) (hB1.mono (by simp))) | (go_at_call 54; refine (c54 s g _ (hz.below (by (repeat' (first | (with_reducible exact Below.refl _ _) | (with_reducible assumption) | (with_reducible refine Below.alloc ?_ ?_ _) | (with_reducible refine Below.drew ?_) | (with_reducible refine below_drewN ?_ _) | (with_reducible refine Below.setCell ?_ ?_ _) | (with_reducible refine Below.trans ?_ (Below.mono (by with_reducible assumption) ?_)) | go_size))) (Nat.le_refl _)) (hg.below (by (repeat' (first | (with_reducible exact Below.refl _ _) | (with_reducible assumption) | (with_reducible refine Below.alloc ?_ ?_ _) | (with_reducible refine Below.drew ?_) | (with_reducible refine below_drewN ?_ _) | (with_reducible refine Below.setCell ?_ ?_ _) | (with_reducible refine Below.trans ?_ (Below.mono (by with_reducible assumption) ?_)) | go_size))) (Nat.le_refl _)) okh.out okgh.out).mono ?_; rintro e w2 ⟨y, c, rfl, hy, hc, hR, hB2⟩; have hBy : Below w.heap.size w w2 := Below.trans (show Below w.heap.size w _ by (repeat' (first | (with_reducible exact Below.refl _ _) | (with_reducible assumption) | (with_reducible refine Below.alloc ?_ ?_ _) | (with_reducible refine Below.drew ?_) | (with_reducible refine below_drewN ?_ _) | (with_reducible refine Below.setCell ?_ ?_ _) | (with_reducible refine Below.trans ?_ (Below.mono (by with_reducible assumption) ?_)) | go_size))) (hB2.mono (by simp; omega)); have hRh := hid hR; clear hR) | (go_at_call 53; refine (c53s hRh.out (by omega) (by omega)).mono ?_; rintro e w3 ⟨rfl, rfl⟩))
    go_ret2
    exact ⟨rfl, by assumption⟩
  · have e1 : fwA s g = 0 := if_neg h1
    rw [e1]
    have hh := hid h1
    have hne : ((ckE s g) == 0) = false := by simpa using h1
    obtain ⟨er, her⟩ : ∃ er, er = ckE s g := ⟨_, rfl⟩
    have herh := hid her
    rw [← her] at hne ⊢
    clear h1 her e1
    go_enter Try.func20, Try.ntmps20
    go_wp2_with (go_at_call 47; refine (c47_err s g _ (hz.below (by (repeat' (first | (with_reducible exact Below.refl _ _) | (with_reducible assumption) | (with_reducible refine Below.alloc ?_ ?_ _) | (with_reducible refine Below.drew ?_) | (with_reducible refine below_drewN ?_ _) | (with_reducible refine Below.setCell ?_ ?_ _) | (with_reducible refine Below.trans ?_ (Below.mono (by with_reducible assumption) ?_)) | go_size))) (Nat.le_refl _)) (hg.below (by (repeat' (first | (with_reducible exact Below.refl _ _) | (with_reducible assumption) | (with_reducible refine Below.alloc ?_ ?_ _) | (with_reducible refine Below.drew ?_) | (with_reducible refine below_drewN ?_ _) | (with_reducible refine Below.setCell ?_ ?_ _) | (with_reducible refine Below.trans ?_ (Below.mono (by with_reducible assumption) ?_)) | go_size))) (Nat.le_refl _)) hm hm2 hh.out).mono ?_; rw [← herh.out]; rintro e w1 ⟨rfl, hB1⟩; have hz1 : w.heap.size + 1 ≤ w1.heap.size := (by have := hB1.size; simp at this; omega); have hBx : Below w.heap.size w w1 := Below.trans (by (repeat' (first | (with_reducible exact Below.refl _ _) | (with_reducible assumption) | (with_reducible refine Below.alloc ?_ ?_ _) | (with_reducible refine Below.drew ?_) | (with_reducible refine below_drewN ?_ _) | (with_reducible refine Below.setCell ?_ ?_ _) | (with_reducible refine Below.trans ?_ (Below.mono (by with_reducible assumption) ?_)) | go_size))) (hB1.mono (by simp)))
    go_ret2
    exact ⟨rfl, by (repeat' (first | (with_reducible exact Below.refl _ _) | (with_reducible assumption) | (with_reducible refine Below.alloc ?_ ?_ _) | (with_reducible refine Below.drew ?_) | (with_reducible refine below_drewN ?_ _) | (with_reducible refine Below.setCell ?_ ?_ _) | (with_reducible refine Below.trans ?_ (Below.mono (by with_reducible assumption) ?_)) | go_size))⟩
end Go.Proofs.Ytkafjlhmbiaicaa

/- Stage 2: the write gate. -/
set_option linter.unusedSimpArgs false
set_option linter.unusedVariables false
namespace Go.Proofs.Ytkafjlhmbiaicaa
open Go.RowKit

def gtP (s : Sv) (g : Wg) (t li : Int) (k : Nat) : Prop := nearP s (mvn s.N s.m (fl s g) k) (s.at_ t (g.wn + k - 1)) li
open Classical in
noncomputable def gtF (s : Sv) (g : Wg) (t li : Int) : Nat → Nat → Nat
  | 0, k => k
  | d + 1, k => if gtP s g t li k then gtF s g t li d (k + 1) else k
/-- For how many wedges the head is surely near. -/
noncomputable def gate (s : Sv) (g : Wg) (t li : Int) : Nat := gtF s g t li 24 0
theorem gtF_yes {s : Sv} {g : Wg} {t li : Int} {k : Nat} (hk : k < 24) (h : gtP s g t li k) : gtF s g t li (24 - k) k = gtF s g t li (24 - (k + 1)) (k + 1) := by
  rw [show 24 - k = (24 - (k + 1)) + 1 by omega, gtF, if_pos h]
theorem gtF_no {s : Sv} {g : Wg} {t li : Int} {k : Nat} (hk : k < 24) (h : ¬ gtP s g t li k) : gtF s g t li (24 - k) k = k := by
  rw [show 24 - k = (24 - (k + 1)) + 1 by omega, gtF, if_neg h]
theorem c59i (s : Sv) (g : Wg) (t x : Int) (i : Nat) (w : World) (hx : x = i) (hz : s.In w) (ok : s.Ok) (h0 : 0 ≤ t) (h1 : t < s.tr) (hi : i ≤ 1000) :
    Calls Try.prog 59 #[hdv s g, .int .i64 t, .int .i64 x] w fun e w' => e = .returned (.int .i64 (s.at_ t i)) ∧ Below w.heap.size w w' := by
  subst hx; exact c59 s g t i w hz ok h0 h1 hi
theorem c58y {s : Sv} {g : Wg} {b c : Nat} {f : Nat → Int} {pl li : Int} {w : World} (ok : s.Ok) (hR : RowF w b s.N f) (hp : -100 ≤ pl ∧ pl ≤ 2000) (hl : 0 ≤ li ∧ li ≤ 16) (p : nearP s f pl li) :
    Calls Try.prog 58 #[hdv s g, .slice (some ⟨b, 0, none⟩) s.N c, .int .i64 pl, .int .i64 li] w fun e w' => e = .returned (.bool true) ∧ Below w.heap.size w w' :=
  (c58 s g b c f pl li w ok hR hp hl).mono fun _ _ hr => by
    rcases hr with ⟨_, h1⟩ | ⟨h1, _⟩
    · exact h1
    · exact absurd p h1
theorem c58n {s : Sv} {g : Wg} {b c : Nat} {f : Nat → Int} {pl li : Int} {w : World} (ok : s.Ok) (hR : RowF w b s.N f) (hp : -100 ≤ pl ∧ pl ≤ 2000) (hl : 0 ≤ li ∧ li ≤ 16) (p : ¬ nearP s f pl li) :
    Calls Try.prog 58 #[hdv s g, .slice (some ⟨b, 0, none⟩) s.N c, .int .i64 pl, .int .i64 li] w fun e w' => e = .returned (.bool false) ∧ Below w.heap.size w w' :=
  (c58 s g b c f pl li w ok hR hp hl).mono fun _ _ hr => by
    rcases hr with ⟨h1, _⟩ | ⟨_, h1⟩
    · exact absurd h1 p
    · exact h1

set_option maxRecDepth 100000 in
set_option maxHeartbeats 4000000 in
theorem c25_ok (s : Sv) (g : Wg) (t li : Int) (w : World) (hz : s.In w) (hg : g.In w) (hm : s.rn ≤ 1000000) (hm2 : g.wn ≤ 1000000) (ok : s.Ok) (okg : g.Ok) (ht : 0 ≤ t ∧ t ≤ s.tr - 1) (hl : 0 ≤ li ∧ li ≤ 16) (hp : mn s.N (fl s g) ≤ s.wr) :
    Calls Try.prog 25 #[s.v, g.v, .int .i64 t, .int .i64 li] w fun e w' => e = .returned (.tuple #[.int .i64 (gate s g t li : Nat), .int .i64 0]) ∧ Below w.heap.size w w' := by
  have okh := hid ok
  have okgh := hid okg
  have hph := hid hp
  have hn2 := okg.n2
  have t1 := ok.t1; have t2 := ok.t2
  obtain ⟨gt, hgt⟩ : ∃ gt, gt = gate s g t li := ⟨_, rfl⟩
  rw [← hgt]
  have hgth := hid hgt
  clear ok okg hp hgt
  go_enter Try.func25, Try.ntmps25
  go_wp2_with (first | (go_at_call 47; refine (c47 s g _ (hz.below (by (repeat' (first | (with_reducible exact Below.refl _ _) | (with_reducible assumption) | (with_reducible refine Below.alloc ?_ ?_ _) | (with_reducible refine Below.drew ?_) | (with_reducible refine below_drewN ?_ _) | (with_reducible refine Below.setCell ?_ ?_ _) | (with_reducible refine Below.trans ?_ (Below.mono (by with_reducible assumption) ?_)) | go_size))) (Nat.le_refl _)) (hg.below (by (repeat' (first | (with_reducible exact Below.refl _ _) | (with_reducible assumption) | (with_reducible refine Below.alloc ?_ ?_ _) | (with_reducible refine Below.drew ?_) | (with_reducible refine below_drewN ?_ _) | (with_reducible refine Below.setCell ?_ ?_ _) | (with_reducible refine Below.trans ?_ (Below.mono (by with_reducible assumption) ?_)) | go_size))) (Nat.le_refl _)) hm hm2 okh.out okgh.out).mono ?_; rintro e w1 ⟨rfl, hB1⟩; have hz1 : w.heap.size + 1 ≤ w1.heap.size := (by have := hB1.size; simp at this; omega); have hBx : Below w.heap.size w w1 := Below.trans (by (repeat' (first | (with_reducible exact Below.refl _ _) | (with_reducible assumption) | (with_reducible refine Below.alloc ?_ ?_ _) | (with_reducible refine Below.drew ?_) | (with_reducible refine below_drewN ?_ _) | (with_reducible refine Below.setCell ?_ ?_ _) | (with_reducible refine Below.trans ?_ (Below.mono (by with_reducible assumption) ?_)) | go_size))) (hB1.mono (by simp))) | (go_at_call 46; refine (c46y _ (by omega)).mono ?_; rintro e w' ⟨rfl, rfl⟩) | (go_at_call 48; refine (c48 s g _ (hz.below (by (repeat' (first | (with_reducible exact Below.refl _ _) | (with_reducible assumption) | (with_reducible refine Below.alloc ?_ ?_ _) | (with_reducible refine Below.drew ?_) | (with_reducible refine below_drewN ?_ _) | (with_reducible refine Below.setCell ?_ ?_ _) | (with_reducible refine Below.trans ?_ (Below.mono (by with_reducible assumption) ?_)) | go_size))) (Nat.le_refl _)) (hg.below (by (repeat' (first | (with_reducible exact Below.refl _ _) | (with_reducible assumption) | (with_reducible refine Below.alloc ?_ ?_ _) | (with_reducible refine Below.drew ?_) | (with_reducible refine below_drewN ?_ _) | (with_reducible refine Below.setCell ?_ ?_ _) | (with_reducible refine Below.trans ?_ (Below.mono (by with_reducible assumption) ?_)) | go_size))) (Nat.le_refl _)) okh.out okgh.out hph.out).mono ?_; rintro e w2 ⟨y, c, rfl, hy, hc, hR, hB2⟩; have hBy : Below w.heap.size w w2 := Below.trans (show Below w.heap.size w _ by (repeat' (first | (with_reducible exact Below.refl _ _) | (with_reducible assumption) | (with_reducible refine Below.alloc ?_ ?_ _) | (with_reducible refine Below.drew ?_) | (with_reducible refine below_drewN ?_ _) | (with_reducible refine Below.setCell ?_ ?_ _) | (with_reducible refine Below.trans ?_ (Below.mono (by with_reducible assumption) ?_)) | go_size))) (hB2.mono (by simp; omega)); have hRh := hid hR; clear hR; have hbx := Hbx.below (Hbx.new s g w1) hB2 (by simp); have hz2 : w1.heap.size + 1 ≤ w2.heap.size := (by have := hB2.size; simp at this; omega); have hyy : w1.heap.size + 1 ≤ y := (by simp at hy; omega)))
  go_loopw [12, 14, 47] (fun fv _ iv wr => ∃ k : Nat, k ≤ 24 ∧ iv = .int .i64 k ∧ RowV wr w.heap.size s.N (mvn s.N s.m (fl s g) k) fv ∧ Below w2.heap.size w2 wr ∧ Hid (gtF s g t li (24 - k) k = gt)) (fun _ _ iv _ => 24 - (intOf iv).toNat)
  case atStart => exact ⟨0, Nat.zero_le _, rfl, ⟨y, c, rfl, by omega, hc, hRh.out⟩, Below.refl _ _, hgth.out.symm⟩
  case round =>
    obtain ⟨k, hk, rfl, ⟨y', c', rfl, hy', hc', hR'⟩, hB, hgk⟩ := hrel
    have hbxr := hbx.below hB (by omega)
    have hszr := hB.size
    have hRh' := hid hR'
    clear hR'
    have hmh := hid (mvn_100 (m := s.m) (fl_100 (s := s) okgh.out) k)
    have hBw : Below w.heap.size w wr := hBy.trans (hB.mono (by omega))
    by_cases hlt : k < 24
    · have hat := okh.out.atb ht.1 (by omega) (g.wn + k - 1)
      have e56 : IntKind.i64.wrap ((g.wn : Int) - 1 + (k : Int)) = (g.wn : Int) - 1 + (k : Int) := IntWalk.i64_in _ (by omega)
      have hmx : max ((g.wn : Int) - 1 + (k : Int)) 0 = ((g.wn + k - 1 : Nat) : Int) := by omega
      have hmxh := hid hmx
      clear hmx
      by_cases hwk : (g.wn : Int) - 1 + (k : Int) < 0
      all_goals
        by_cases hgp' : gtP s g t li k
        · have hgp := hid hgp'
          have hst := hid (gtF_yes hlt hgp')
          clear hgp'
          go_wp2_with fail
          go_region_held3 (fun w' => w'.cell? ⟨w1.heap.size, 0, none⟩ = some (.int .i64 s.tr) ∧ w'.cell? ⟨w1.heap.size, 1, none⟩ = some (.int .i64 s.st) ∧ w'.cell? ⟨w1.heap.size, 2, none⟩ = some (.int .i64 s.mv) ∧ w'.cell? ⟨w1.heap.size, 3, none⟩ = some (.int .i64 s.no) ∧ w'.cell? ⟨w1.heap.size, 4, none⟩ = some (.int .i64 s.wr) ∧ w'.cell? ⟨w1.heap.size, 5, none⟩ = some (.slice s.ra s.rn s.rc) ∧ w'.cell? ⟨w1.heap.size, 6, none⟩ = some (.slice g.wa g.wn g.wk)) (first | exact hbxr.all | exact hk3.all | exact hk4.all) (first | (go_at_call 59; refine (c59i s g t _ (g.wn + k - 1) _ (by first | omega | (split <;> omega)) (hz.below (by first | exact hBw | exact hBw.drew | (repeat' (first | (with_reducible exact Below.refl _ _) | (with_reducible assumption) | (with_reducible refine Below.alloc ?_ ?_ _) | (with_reducible refine Below.drew ?_) | (with_reducible refine below_drewN ?_ _) | (with_reducible refine Below.setCell ?_ ?_ _) | (with_reducible refine Below.trans ?_ (Below.mono (by with_reducible assumption) ?_)) | go_size))) (Nat.le_refl _)) okh.out ht.1 (by omega) (by omega)).mono ?_; rintro e w3 ⟨rfl, hB3⟩; have hk3 : Hbx s g w3 w1.heap.size := (Hbx.below (w := wr.drew) hbxr hB3 (show w1.heap.size < wr.heap.size by omega)); have hR3h := hid (RowF.below (w := wr.drew) (hRh'.out.of_block rfl) hB3 hRh'.out.lt)) | (go_at_call 58; refine (c58y okh.out hR3h.out (by omega) hl hgp.out).mono ?_; rintro e w4 ⟨rfl, hB4⟩; have hk4 : Hbx s g w4 w1.heap.size := (Hbx.below (w := w3) hk3 hB4 (show w1.heap.size < w3.heap.size from Nat.lt_of_lt_of_le (show w1.heap.size < wr.heap.size by omega) hB3.size))))
          have hBr4 : Below wr.heap.size wr w4 := Below.trans (Below.trans (Below.refl _ _).drew hB3) (hB4.mono hB3.size)
          have hR4h := hid (hRh'.out.below hBr4 hRh'.out.lt)
          have hb4 := hk4.all
          have hsz4 := hBr4.size
          clear hk3 hk4 hR3h
          go_wp2_with (go_at_call 56; refine (c56 s g y' c' _ _ okh.out hR4h.out hc' hmh.out).mono ?_; rintro e w5 ⟨y5, c5, rfl, hy5, hc5, hR5, hB5⟩; have hR5h := hid hR5; clear hR5)
          go_roundw
          case rel => exact ⟨k + 1, by omega, by go_num, ⟨y5, c5, rfl, by omega, hc5, hR5h.out⟩, hB.trans ((hBr4.trans (hB5.mono hsz4)).mono hszr), by rw [← hst.out]; exact hgk.out⟩
          case measure => simp [intOf]; omega
        · have hgp := hid hgp'
          have hst := hid (gtF_no hlt hgp')
          clear hgp'
          go_wp2_with fail
          go_region_held3 (fun w' => w'.cell? ⟨w1.heap.size, 0, none⟩ = some (.int .i64 s.tr) ∧ w'.cell? ⟨w1.heap.size, 1, none⟩ = some (.int .i64 s.st) ∧ w'.cell? ⟨w1.heap.size, 2, none⟩ = some (.int .i64 s.mv) ∧ w'.cell? ⟨w1.heap.size, 3, none⟩ = some (.int .i64 s.no) ∧ w'.cell? ⟨w1.heap.size, 4, none⟩ = some (.int .i64 s.wr) ∧ w'.cell? ⟨w1.heap.size, 5, none⟩ = some (.slice s.ra s.rn s.rc) ∧ w'.cell? ⟨w1.heap.size, 6, none⟩ = some (.slice g.wa g.wn g.wk)) (first | exact hbxr.all | exact hk3.all | exact hk4.all) (first | (go_at_call 59; refine (c59i s g t _ (g.wn + k - 1) _ (by first | omega | (split <;> omega)) (hz.below (by first | exact hBw | exact hBw.drew | (repeat' (first | (with_reducible exact Below.refl _ _) | (with_reducible assumption) | (with_reducible refine Below.alloc ?_ ?_ _) | (with_reducible refine Below.drew ?_) | (with_reducible refine below_drewN ?_ _) | (with_reducible refine Below.setCell ?_ ?_ _) | (with_reducible refine Below.trans ?_ (Below.mono (by with_reducible assumption) ?_)) | go_size))) (Nat.le_refl _)) okh.out ht.1 (by omega) (by omega)).mono ?_; rintro e w3 ⟨rfl, hB3⟩; have hk3 : Hbx s g w3 w1.heap.size := (Hbx.below (w := wr.drew) hbxr hB3 (show w1.heap.size < wr.heap.size by omega)); have hR3h := hid (RowF.below (w := wr.drew) (hRh'.out.of_block rfl) hB3 hRh'.out.lt)) | (go_at_call 58; refine (c58n okh.out hR3h.out (by omega) hl hgp.out).mono ?_; rintro e w4 ⟨rfl, hB4⟩; have hk4 : Hbx s g w4 w1.heap.size := (Hbx.below (w := w3) hk3 hB4 (show w1.heap.size < w3.heap.size from Nat.lt_of_lt_of_le (show w1.heap.size < wr.heap.size by omega) hB3.size))))
          go_wp2
          go_ret2
          have e := hgk.out
          rw [hst.out] at e
          subst e
          exact ⟨rfl, hBw.trans ((Below.trans (Below.trans (Below.refl wr.heap.size wr).drew hB3) (hB4.mono hB3.size)).mono hBw.size)⟩
    · obtain rfl : k = 24 := by omega
      go_wp2_with fail
      go_ret2
      have e := hgk.out
      exact ⟨by rw [← e]; rfl, hBw⟩
end Go.Proofs.Ytkafjlhmbiaicaa

/- Stage 2: the write gate, whatever comes in. -/
set_option linter.unusedSimpArgs false
set_option linter.unusedVariables false
namespace Go.Proofs.Ytkafjlhmbiaicaa
open Go.RowKit

set_option maxRecDepth 100000 in
set_option maxHeartbeats 2000000 in
theorem c25_ck (s : Sv) (g : Wg) (t li : Int) (w : World) (hz : s.In w) (hg : g.In w) (hm : s.rn ≤ 1000000) (hm2 : g.wn ≤ 1000000) (h : ckE s g ≠ 0) :
    Calls Try.prog 25 #[s.v, g.v, .int .i64 t, .int .i64 li] w fun e w' => e = .returned (.tuple #[.int .i64 0, .int .i64 (ckE s g)]) ∧ Below w.heap.size w w' := by
  have hh := hid h
  have hne : ((ckE s g) == 0) = false := by simpa using h
  obtain ⟨er, her⟩ : ∃ er, er = ckE s g := ⟨_, rfl⟩
  have herh := hid her
  rw [← her] at hne ⊢
  clear h her
  go_enter Try.func25, Try.ntmps25
  go_wp2_with (go_at_call 47; refine (c47_err s g _ (hz.below (by (repeat' (first | (with_reducible exact Below.refl _ _) | (with_reducible assumption) | (with_reducible refine Below.alloc ?_ ?_ _) | (with_reducible refine Below.drew ?_) | (with_reducible refine below_drewN ?_ _) | (with_reducible refine Below.setCell ?_ ?_ _) | (with_reducible refine Below.trans ?_ (Below.mono (by with_reducible assumption) ?_)) | go_size))) (Nat.le_refl _)) (hg.below (by (repeat' (first | (with_reducible exact Below.refl _ _) | (with_reducible assumption) | (with_reducible refine Below.alloc ?_ ?_ _) | (with_reducible refine Below.drew ?_) | (with_reducible refine below_drewN ?_ _) | (with_reducible refine Below.setCell ?_ ?_ _) | (with_reducible refine Below.trans ?_ (Below.mono (by with_reducible assumption) ?_)) | go_size))) (Nat.le_refl _)) hm hm2 hh.out).mono ?_; rw [← herh.out]; rintro e w1 ⟨rfl, hB1⟩; have hz1 : w.heap.size + 1 ≤ w1.heap.size := (by have := hB1.size; simp at this; omega); have hBx : Below w.heap.size w w1 := Below.trans (by (repeat' (first | (with_reducible exact Below.refl _ _) | (with_reducible assumption) | (with_reducible refine Below.alloc ?_ ?_ _) | (with_reducible refine Below.drew ?_) | (with_reducible refine below_drewN ?_ _) | (with_reducible refine Below.setCell ?_ ?_ _) | (with_reducible refine Below.trans ?_ (Below.mono (by with_reducible assumption) ?_)) | go_size))) (hB1.mono (by simp)))
  go_ret2
  exact ⟨rfl, by (repeat' (first | (with_reducible exact Below.refl _ _) | (with_reducible assumption) | (with_reducible refine Below.alloc ?_ ?_ _) | (with_reducible refine Below.drew ?_) | (with_reducible refine below_drewN ?_ _) | (with_reducible refine Below.setCell ?_ ?_ _) | (with_reducible refine Below.trans ?_ (Below.mono (by with_reducible assumption) ?_)) | go_size))⟩
set_option maxRecDepth 100000 in
set_option maxHeartbeats 2000000 in
theorem c25_arg (s : Sv) (g : Wg) (t li : Int) (w : World) (hz : s.In w) (hg : g.In w) (hm : s.rn ≤ 1000000) (hm2 : g.wn ≤ 1000000) (ok : s.Ok) (okg : g.Ok) (h : ¬ ((0 ≤ t ∧ t ≤ s.tr - 1) ∧ (0 ≤ li ∧ li ≤ 16))) :
    Calls Try.prog 25 #[s.v, g.v, .int .i64 t, .int .i64 li] w fun e w' => e = .returned (.tuple #[.int .i64 0, .int .i64 1]) ∧ Below w.heap.size w w' := by
  have t1 := ok.t1; have t2 := ok.t2
  have okh := hid ok
  have okgh := hid okg
  clear ok okg
  by_cases ht : 0 ≤ t ∧ t ≤ s.tr - 1
  · have hl : ¬ (0 ≤ li ∧ li ≤ 16) := fun h2 => h ⟨ht, h2⟩
    have hlh := hid hl
    clear h hl
    go_enter Try.func25, Try.ntmps25
    go_wp2_with (first | (go_at_call 47; refine (c47 s g _ (hz.below (by (repeat' (first | (with_reducible exact Below.refl _ _) | (with_reducible assumption) | (with_reducible refine Below.alloc ?_ ?_ _) | (with_reducible refine Below.drew ?_) | (with_reducible refine below_drewN ?_ _) | (with_reducible refine Below.setCell ?_ ?_ _) | (with_reducible refine Below.trans ?_ (Below.mono (by with_reducible assumption) ?_)) | go_size))) (Nat.le_refl _)) (hg.below (by (repeat' (first | (with_reducible exact Below.refl _ _) | (with_reducible assumption) | (with_reducible refine Below.alloc ?_ ?_ _) | (with_reducible refine Below.drew ?_) | (with_reducible refine below_drewN ?_ _) | (with_reducible refine Below.setCell ?_ ?_ _) | (with_reducible refine Below.trans ?_ (Below.mono (by with_reducible assumption) ?_)) | go_size))) (Nat.le_refl _)) hm hm2 okh.out okgh.out).mono ?_; rintro e w1 ⟨rfl, hB1⟩; have hz1 : w.heap.size + 1 ≤ w1.heap.size := (by have := hB1.size; simp at this; omega); have hBx : Below w.heap.size w w1 := Below.trans (by (repeat' (first | (with_reducible exact Below.refl _ _) | (with_reducible assumption) | (with_reducible refine Below.alloc ?_ ?_ _) | (with_reducible refine Below.drew ?_) | (with_reducible refine below_drewN ?_ _) | (with_reducible refine Below.setCell ?_ ?_ _) | (with_reducible refine Below.trans ?_ (Below.mono (by with_reducible assumption) ?_)) | go_size))) (hB1.mono (by simp))) | (go_at_call 46; refine (c46y _ (by omega)).mono ?_; rintro e w' ⟨rfl, rfl⟩) | (go_at_call 46; refine (c46n _ (by have := hlh.out; omega)).mono ?_; rintro e w' ⟨rfl, rfl⟩))
    go_ret2
    exact ⟨rfl, by (repeat' (first | (with_reducible exact Below.refl _ _) | (with_reducible assumption) | (with_reducible refine Below.alloc ?_ ?_ _) | (with_reducible refine Below.drew ?_) | (with_reducible refine below_drewN ?_ _) | (with_reducible refine Below.setCell ?_ ?_ _) | (with_reducible refine Below.trans ?_ (Below.mono (by with_reducible assumption) ?_)) | go_size))⟩
  · have hth := hid ht
    clear h ht
    go_enter Try.func25, Try.ntmps25
    go_wp2_with (first | (go_at_call 47; refine (c47 s g _ (hz.below (by (repeat' (first | (with_reducible exact Below.refl _ _) | (with_reducible assumption) | (with_reducible refine Below.alloc ?_ ?_ _) | (with_reducible refine Below.drew ?_) | (with_reducible refine below_drewN ?_ _) | (with_reducible refine Below.setCell ?_ ?_ _) | (with_reducible refine Below.trans ?_ (Below.mono (by with_reducible assumption) ?_)) | go_size))) (Nat.le_refl _)) (hg.below (by (repeat' (first | (with_reducible exact Below.refl _ _) | (with_reducible assumption) | (with_reducible refine Below.alloc ?_ ?_ _) | (with_reducible refine Below.drew ?_) | (with_reducible refine below_drewN ?_ _) | (with_reducible refine Below.setCell ?_ ?_ _) | (with_reducible refine Below.trans ?_ (Below.mono (by with_reducible assumption) ?_)) | go_size))) (Nat.le_refl _)) hm hm2 okh.out okgh.out).mono ?_; rintro e w1 ⟨rfl, hB1⟩; have hz1 : w.heap.size + 1 ≤ w1.heap.size := (by have := hB1.size; simp at this; omega); have hBx : Below w.heap.size w w1 := Below.trans (by (repeat' (first | (with_reducible exact Below.refl _ _) | (with_reducible assumption) | (with_reducible refine Below.alloc ?_ ?_ _) | (with_reducible refine Below.drew ?_) | (with_reducible refine below_drewN ?_ _) | (with_reducible refine Below.setCell ?_ ?_ _) | (with_reducible refine Below.trans ?_ (Below.mono (by with_reducible assumption) ?_)) | go_size))) (hB1.mono (by simp))) | (go_at_call 46; refine (c46n _ (by have := hth.out; omega)).mono ?_; rintro e w' ⟨rfl, rfl⟩))
    go_ret2
    exact ⟨rfl, by (repeat' (first | (with_reducible exact Below.refl _ _) | (with_reducible assumption) | (with_reducible refine Below.alloc ?_ ?_ _) | (with_reducible refine Below.drew ?_) | (with_reducible refine below_drewN ?_ _) | (with_reducible refine Below.setCell ?_ ?_ _) | (with_reducible refine Below.trans ?_ (Below.mono (by with_reducible assumption) ?_)) | go_size))⟩
set_option maxRecDepth 100000 in
set_option maxHeartbeats 2000000 in
theorem c25_none (s : Sv) (g : Wg) (t li : Int) (w : World) (hz : s.In w) (hg : g.In w) (hm : s.rn ≤ 1000000) (hm2 : g.wn ≤ 1000000) (ok : s.Ok) (okg : g.Ok) (ht : 0 ≤ t ∧ t ≤ s.tr - 1) (hl : 0 ≤ li ∧ li ≤ 16) (hp : ¬ mn s.N (fl s g) ≤ s.wr) :
    Calls Try.prog 25 #[s.v, g.v, .int .i64 t, .int .i64 li] w fun e w' => e = .returned (.tuple #[.int .i64 0, .int .i64 3]) ∧ Below w.heap.size w w' := by
  have t1 := ok.t1; have t2 := ok.t2
  have okh := hid ok
  have okgh := hid okg
  have hph := hid hp
  clear ok okg hp
  go_enter Try.func25, Try.ntmps25
  go_wp2_with (first | (go_at_call 47; refine (c47 s g _ (hz.below (by (repeat' (first | (with_reducible exact Below.refl _ _) | (with_reducible assumption) | (with_reducible refine Below.alloc ?_ ?_ _) | (with_reducible refine Below.drew ?_) | (with_reducible refine below_drewN ?_ _) | (with_reducible refine Below.setCell ?_ ?_ _) | (with_reducible refine Below.trans ?_ (Below.mono (by with_reducible assumption) ?_)) | go_size))) (Nat.le_refl _)) (hg.below (by (repeat' (first | (with_reducible exact Below.refl _ _) | (with_reducible assumption) | (with_reducible refine Below.alloc ?_ ?_ _) | (with_reducible refine Below.drew ?_) | (with_reducible refine below_drewN ?_ _) | (with_reducible refine Below.setCell ?_ ?_ _) | (with_reducible refine Below.trans ?_ (Below.mono (by with_reducible assumption) ?_)) | go_size))) (Nat.le_refl _)) hm hm2 okh.out okgh.out).mono ?_; rintro e w1 ⟨rfl, hB1⟩; have hz1 : w.heap.size + 1 ≤ w1.heap.size := (by have := hB1.size; simp at this; omega); have hBx : Below w.heap.size w w1 := Below.trans (by (repeat' (first | (with_reducible exact Below.refl _ _) | (with_reducible assumption) | (with_reducible refine Below.alloc ?_ ?_ _) | (with_reducible refine Below.drew ?_) | (with_reducible refine below_drewN ?_ _) | (with_reducible refine Below.setCell ?_ ?_ _) | (with_reducible refine Below.trans ?_ (Below.mono (by with_reducible assumption) ?_)) | go_size))) (hB1.mono (by simp))) | (go_at_call 46; refine (c46y _ (by omega)).mono ?_; rintro e w' ⟨rfl, rfl⟩) | (go_at_call 48; refine (c48n s g _ (hz.below (by (repeat' (first | (with_reducible exact Below.refl _ _) | (with_reducible assumption) | (with_reducible refine Below.alloc ?_ ?_ _) | (with_reducible refine Below.drew ?_) | (with_reducible refine below_drewN ?_ _) | (with_reducible refine Below.setCell ?_ ?_ _) | (with_reducible refine Below.trans ?_ (Below.mono (by with_reducible assumption) ?_)) | go_size))) (Nat.le_refl _)) (hg.below (by (repeat' (first | (with_reducible exact Below.refl _ _) | (with_reducible assumption) | (with_reducible refine Below.alloc ?_ ?_ _) | (with_reducible refine Below.drew ?_) | (with_reducible refine below_drewN ?_ _) | (with_reducible refine Below.setCell ?_ ?_ _) | (with_reducible refine Below.trans ?_ (Below.mono (by with_reducible assumption) ?_)) | go_size))) (Nat.le_refl _)) okh.out okgh.out (by have := hph.out; omega)).mono ?_; rintro e w2 ⟨rfl, hB2⟩; have hBy : Below w.heap.size w w2 := Below.trans (show Below w.heap.size w _ by (repeat' (first | (with_reducible exact Below.refl _ _) | (with_reducible assumption) | (with_reducible refine Below.alloc ?_ ?_ _) | (with_reducible refine Below.drew ?_) | (with_reducible refine below_drewN ?_ _) | (with_reducible refine Below.setCell ?_ ?_ _) | (with_reducible refine Below.trans ?_ (Below.mono (by with_reducible assumption) ?_)) | go_size))) (hB2.mono (by simp; omega))))
  go_ret2
  exact ⟨rfl, hBy⟩
open Classical in
noncomputable def gtA (s : Sv) (g : Wg) (t li : Int) : Int := if ahE s g ((0 ≤ t ∧ t ≤ s.tr - 1) ∧ (0 ≤ li ∧ li ≤ 16)) = 0 then (gate s g t li : Nat) else 0
theorem c25 (s : Sv) (g : Wg) (t li : Int) (w : World) (hz : s.In w) (hg : g.In w) (hm : s.rn ≤ 1000000) (hm2 : g.wn ≤ 1000000) :
    Calls Try.prog 25 #[s.v, g.v, .int .i64 t, .int .i64 li] w fun e w' => e = .returned (.tuple #[.int .i64 (gtA s g t li), .int .i64 (ahE s g ((0 ≤ t ∧ t ≤ s.tr - 1) ∧ (0 ≤ li ∧ li ≤ 16)))]) ∧ Below w.heap.size w w' := by
  unfold gtA
  by_cases h1 : ckE s g = 0
  · obtain ⟨ok, okg⟩ := ckE_inv h1
    by_cases h2 : (0 ≤ t ∧ t ≤ s.tr - 1) ∧ (0 ≤ li ∧ li ≤ 16)
    · by_cases h3 : mn s.N (fl s g) ≤ s.wr
      · rw [ahE_ok h1 h2 h3, if_pos rfl]; exact c25_ok s g t li w hz hg hm hm2 ok okg h2.1 h2.2 h3
      · rw [ahE_none h1 h2 h3, if_neg (by omega)]; exact c25_none s g t li w hz hg hm hm2 ok okg h2.1 h2.2 h3
    · rw [ahE_arg h1 h2, if_neg (by omega)]; exact c25_arg s g t li w hz hg hm hm2 ok okg h2
  · rw [ahE_ck h1, if_neg h1]; exact c25_ck s g t li w hz hg hm hm2 h1
end Go.Proofs.Ytkafjlhmbiaicaa
