/- Texts put together: Tf, Op, Tg. -/
import Derived.Test.YtkafjlhmbiaicaaG20
import Derived.Lib.QuietBelow
import Derived.Test.YtkafjlhmbiaicaaG01
import Derived.ProofKit
import Derived.Deep.Slices
import Derived.Deep.Fields
import Derived.ChangeSame
import Derived.Lib.SmallJoins
import Derived.Test.YtkafjlhmbiaicaaG06
/- Stage 2: the law of the gates and the blame. -/
set_option linter.unusedSimpArgs false
set_option linter.unusedVariables false
namespace Go.Proofs.Ytkafjlhmbiaicaa
open Go.RowKit Go.Sort Go.BigFrame

theorem cp_box {s : Sv} {x2 c2 : Nat} {w3 W4 : World} (h : W4 = w3.alloc (.cells #[.int .i64 s.tr, .int .i64 s.st, .int .i64 s.mv, .int .i64 s.no, .int .i64 s.wr, .slice (some ⟨x2, 0, none⟩) s.rn c2] 30)) : Svb (cpS s x2 c2) W4 w3.heap.size ∧ Below w3.heap.size w3 W4 ∧ w3.heap.size + 1 ≤ W4.heap.size := by
  subst h
  exact ⟨Svb.new (cpS s x2 c2) w3, (Below.refl _ _).alloc (Nat.le_refl _) _, by simp⟩
set_option maxRecDepth 100000 in
set_option maxHeartbeats 8000000 in
theorem c11_near (s : Sv) (g : Wg) (t li : Int) (w : World) (hz : s.In w) (hg : g.In w) (hnr0 : s.ra = none → s.rc = 0) (hnk : g.wa = none → g.wk = 0) (hf0 : ¬ FarP s g) :
    Calls Try.prog 11 #[s.v, g.v, .agg #[.int .i64 t, .int .i64 li]] w fun e w' => e = .returned (.bool true) ∧ Below w.heap.size w w' := by
  obtain ⟨i0, ie0, ie1, ie2, ie3⟩ := info_parts Try.info46
  have hle := FarP.le hf0
  have hm1 := hle.1; have hm2 := hle.2
  have hf := hid hf0
  have hnr := hid hnr0
  have hnil : Hid (g.wa = none → g.wn = 0 ∧ g.wk = 0) := hid (fun h => ⟨hg.nil_ h, hnk h⟩)
  have hB0 : Below w.heap.size w ((w.alloc (.cells #[.int .i64 s.tr, .int .i64 s.st, .int .i64 s.mv, .int .i64 s.no, .int .i64 s.wr, .slice s.ra s.rn s.rc] 30)).alloc (.cells #[.int .i64 t, .int .i64 li] 49)) := by (repeat' (first | (with_reducible exact Below.refl _ _) | (with_reducible assumption) | (with_reducible refine Below.alloc ?_ ?_ _) | (with_reducible refine Below.drew ?_) | (with_reducible refine below_drewN ?_ _) | (with_reducible refine Below.setCell ?_ ?_ _) | (with_reducible refine Below.trans ?_ (Below.mono (by with_reducible assumption) ?_)) | go_size))
  have sv0 : Svb s ((w.alloc (.cells #[.int .i64 s.tr, .int .i64 s.st, .int .i64 s.mv, .int .i64 s.no, .int .i64 s.wr, .slice s.ra s.rn s.rc] 30)).alloc (.cells #[.int .i64 t, .int .i64 li] 49)) w.heap.size := (Svb.new s w).below ((Below.refl _ _).alloc (Nat.le_refl _) _) (by simp)
  have gb0 : Wkb ((w.alloc (.cells #[.int .i64 s.tr, .int .i64 s.st, .int .i64 s.mv, .int .i64 s.no, .int .i64 s.wr, .slice s.ra s.rn s.rc] 30)).alloc (.cells #[.int .i64 t, .int .i64 li] 49)) (w.heap.size + 1) (.int .i64 t) (.int .i64 li) := by
    constructor <;> simp
  clear hf0 hnr0 hnk hle
  obtain ⟨E0, hE00⟩ : ∃ E, E = ahE s g True := ⟨_, rfl⟩
  obtain ⟨E1, hE10⟩ : ∃ E, E = ahE s g ((0 ≤ t ∧ t ≤ s.tr - 1) ∧ (0 ≤ li ∧ li ≤ 16)) := ⟨_, rfl⟩
  obtain ⟨G0, hG00⟩ : ∃ E, E = gtA s g t li := ⟨_, rfl⟩
  obtain ⟨L, hL0⟩ : ∃ L, L = blA s g := ⟨_, rfl⟩
  have hE0 := hid hE00.symm
  have hE1 := hid hE10.symm
  have hG0 := hid hG00.symm
  have hL := hid hL0.symm
  have hll : L.length ≤ 40 := by rw [hL0]; exact Nat.le_trans (blA_len s g) hm2
  clear hE00 hE10 hG00 hL0
  go_enter Try.func11, Try.ntmps11
  go_wp2_with (first | (go_at_call 34; refine (c34n s g _ (hz.below hB0 (Nat.le_refl _)) hf.out).mono ?_; rintro e w1 ⟨rfl, hB1⟩; have hBx : Below w.heap.size w w1 := hB0.trans (hB1.mono (by simp; omega)); have hz1 : w.heap.size + 2 ≤ w1.heap.size := (by have := hB1.size; simp at this; omega); have sv1 := sv0.below hB1 (by simp; omega); have gb1 := gb0.below hB1 (by simp); obtain ⟨k0, k1, k2, k3, k4, k5⟩ := sv1.all) | (go_at_call 35; refine (c35 s _ (hz.below hBx (Nat.le_refl _)) (by omega) hnr.out).mono ?_; rintro e w2 ⟨x2, c2, he, hIn2, hB2⟩; have he' : e = .returned (.agg #[.int .i64 s.tr, .int .i64 s.st, .int .i64 s.mv, .int .i64 s.no, .int .i64 s.wr, .slice (some ⟨x2, 0, none⟩) s.rn c2]) := he; clear he; subst he'; have hIn2h := hid hIn2; clear hIn2; have hBy : Below w.heap.size w w2 := hBx.trans (hB2.mono hBx.size); have hz2 : w.heap.size + 2 ≤ w2.heap.size := Nat.le_trans hz1 hB2.size; have sv2 := sv1.below hB2 (by omega); have gb2 := gb1.below hB2 (by omega)) | (at_builtin; refine app_src rfl (.tmp 23) (.tmp 24) 31 rfl w2.heap.size 46 i0 (.agg #[.int .i64 0, .int .i64 0]) 2 16 Try.underlying31 ie0 ie1 ie2 ie3 rfl (by decide) _ _ _ rfl (own_made _ 46 2 _ _ rfl (Nat.le_refl _)) g.wa g.wn g.wk (encW g.wn g.wc g.wu) rfl hnil.out (encW_len _ _ _) (Weds.cells (hg.below (hBy.alloc hBy.size _) (Nat.le_refl _))) (encW_one _ _ _) (by unfold maxLen; omega) (by omega) (by simp) ?_; intro v3 w3 hown3 hgr3 hn3; obtain ⟨x3, c3, rfl⟩ := own_shape hown3 (fun h => by have := hn3 h; cases this); rw [Nat.zero_add, List.nil_append] at hown3; have hB3 : Below w2.heap.size w2 w3 := ((Below.refl w2.heap.size w2).alloc (Nat.le_refl _) _).grown hgr3 (by simp) (fun q e => by cases e; simp); have hG3 := hid (ownG_in hown3); clear hown3 hgr3 hn3; have hBw3 : Below w.heap.size w w3 := hBy.trans (hB3.mono hBy.size); have hz3 : w.heap.size + 2 ≤ w3.heap.size := Nat.le_trans hz2 hB3.size; have hz4 : w.heap.size + 1 < w3.heap.size := hz3; have hz5 : w.heap.size < w3.heap.size := Nat.lt_of_succ_lt hz4; have sv3 := sv2.below hB3 (by omega); have gb3 := gb2.below hB3 (by omega); obtain ⟨g0, g1⟩ := gb3) | (go_at_call 25; obtain ⟨W4, hW4⟩ : ∃ W4 : World, W4 = w3.alloc (.cells #[.int .i64 s.tr, .int .i64 s.st, .int .i64 s.mv, .int .i64 s.no, .int .i64 s.wr, .slice (some ⟨x2, 0, none⟩) s.rn c2] 30) := ⟨_, rfl⟩; rw [← hW4]; obtain ⟨hsx, hB34, hs4⟩ := cp_box hW4; have hB24 : Below w2.heap.size w2 W4 := hB3.trans (hB34.mono hB3.size); have HW : Below w.heap.size w W4 := hBy.trans (hB24.mono hBy.size); have sv4 : Svb s W4 w.heap.size := sv3.below hB34 (by omega); have gb4 := Wkb.below (v1 := .int .i64 t) (v2 := .int .i64 li) ⟨g0, g1⟩ hB34 (by omega); refine (c25 (cpS s x2 c2) (ownG x3 g.wn c3 g.wc g.wu) t li _ (hIn2h.out.below hB24 (Nat.le_refl _)) (hG3.out.below hB34 (Nat.le_refl _)) (show s.rn ≤ 1000000 by omega) (show g.wn ≤ 1000000 by omega)).mono ?_; rw [gtA_own, ahE_own]; rw [show (cpS s x2 c2).tr = s.tr from rfl, hG0.out, hE1.out]; rintro e w5 ⟨rfl, hB5⟩; have H5 : Below W4.heap.size W4 w5 := hB5; obtain ⟨k0, k1, k2, k3, k4, k5⟩ := (sv4.below H5 (by omega)).all; obtain ⟨g0, g1⟩ := gb4.below H5 (by omega)) | (go_at_call 42; refine (c42 s g t li _ (hz.below (HW.trans (H5.mono HW.size)) (Nat.le_refl _)) (hg.below (HW.trans (H5.mono HW.size)) (Nat.le_refl _)) (by omega) (by omega)).mono ?_; rw [hG0.out, hE1.out]; rintro e w6 ⟨rfl, hB6⟩; have H6 : Below W4.heap.size W4 w6 := H5.trans (hB6.mono H5.size); obtain ⟨k0, k1, k2, k3, k4, k5⟩ := (sv4.below H6 (by omega)).all; obtain ⟨l0, l1, l2, l3, l4, l5⟩ := (hsx.below H6 (by omega)).all) | (go_at_call 19; refine (c19 (cpS s x2 c2) (ownG x3 g.wn c3 g.wc g.wu) _ (hIn2h.out.below (hB24.trans (H6.mono hB24.size)) (Nat.le_refl _)) (hG3.out.below (hB34.trans (H6.mono hB34.size)) (Nat.le_refl _)) (show s.rn ≤ 1000000 by omega) (show g.wn ≤ 1000000 by omega)).mono ?_; rw [blA_own, ahE_own, hL.out, hE0.out]; rintro e w7 ⟨v7, rfl, hown7, hB7⟩; obtain ⟨va7, vg7, vc7, rfl, hin7⟩ := nat_ints hown7; clear hown7; have H7 : Below W4.heap.size W4 w7 := H6.trans (hB7.mono H6.size); obtain ⟨k0, k1, k2, k3, k4, k5⟩ := (sv4.below H7 (by omega)).all) | (go_at_call 43; refine (c43 s g _ (hz.below (HW.trans (H7.mono HW.size)) (Nat.le_refl _)) (hg.below (HW.trans (H7.mono HW.size)) (Nat.le_refl _)) (by omega) (by omega)).mono ?_; rw [hL.out, hE0.out]; rintro e w8 ⟨v8, rfl, hown8, hB8⟩; obtain ⟨va8, vg8, vc8, rfl, hin8⟩ := nat_ints hown8; clear hown8; have H8 : Below W4.heap.size W4 w8 := H7.trans (hB8.mono H7.size); have hin7' := hin7.below hB8 (Nat.le_refl _)) | (go_at_call 41; refine (c41y va7 va8 vg7 vg8 0 0 L.length vc7 vc8 _ _ hin7' hin8 (by omega)).mono ?_; rintro e w9 ⟨rfl, hB9⟩; have H9 := H8.trans (hB9.mono H8.size)) | (go_at_call 13; refine (c13 _).mono ?_; rintro e w15 ⟨rfl, hB15⟩))
  go_returns
  exact ⟨rfl, HW.trans ((H9.trans (hB15.mono H9.size)).mono HW.size)⟩
set_option maxRecDepth 100000 in
set_option maxHeartbeats 4000000 in
theorem c11_far (s : Sv) (g : Wg) (t li : Int) (w : World) (hz : s.In w) (hf0 : FarP s g) :
    Calls Try.prog 11 #[s.v, g.v, .agg #[.int .i64 t, .int .i64 li]] w fun e w' => e = .returned (.bool true) ∧ Below w.heap.size w w' := by
  have hf := hid hf0
  have hB0 : Below w.heap.size w ((w.alloc (.cells #[.int .i64 s.tr, .int .i64 s.st, .int .i64 s.mv, .int .i64 s.no, .int .i64 s.wr, .slice s.ra s.rn s.rc] 30)).alloc (.cells #[.int .i64 t, .int .i64 li] 49)) := by (repeat' (first | (with_reducible exact Below.refl _ _) | (with_reducible assumption) | (with_reducible refine Below.alloc ?_ ?_ _) | (with_reducible refine Below.drew ?_) | (with_reducible refine below_drewN ?_ _) | (with_reducible refine Below.setCell ?_ ?_ _) | (with_reducible refine Below.trans ?_ (Below.mono (by with_reducible assumption) ?_)) | go_size))
  clear hf0
  go_enter Try.func11, Try.ntmps11
  go_wp2_with (first | (go_at_call 34; refine (c34y s g _ (hz.below hB0 (Nat.le_refl _)) hf.out).mono ?_; rintro e w1 ⟨rfl, hB1⟩; have hBx : Below w.heap.size w w1 := hB0.trans (hB1.mono (by simp; omega))) | (go_at_call 13; refine (c13 _).mono ?_; rintro e w9 ⟨rfl, hB9⟩))
  go_returns
  exact ⟨rfl, hBx.trans (hB9.mono hBx.size)⟩
theorem c11 (s : Sv) (g : Wg) (t li : Int) (w : World) (hz : s.In w) (hnr : s.ra = none → s.rc = 0) (hg : g.In w) (hnk : g.wa = none → g.wk = 0) :
    Calls Try.prog 11 #[s.v, g.v, .agg #[.int .i64 t, .int .i64 li]] w fun e w' => e = .returned (.bool true) ∧ Below w.heap.size w w' := by
  by_cases h : FarP s g
  · exact c11_far s g t li w hz h
  · exact c11_near s g t li w hz hg hnr hnk h
end Go.Proofs.Ytkafjlhmbiaicaa

/- Stage 2: a servo, wedges, a path, a walk and the rest, as a call is handed them. -/
set_option linter.unusedSimpArgs false
set_option linter.unusedVariables false
namespace Go.Proofs.Ytkafjlhmbiaicaa
open Go.ChangeShapes Go.WideShapes Go.ChangeAt Go.RowKit Go.Deep Go.Joins

section
variable {H : Type} {enc : TypeId × Value → H} {w : World} {base : Nat} {spare : Nat → Bool} {held : Bool}

theorem k3 : Try.prog.cellsOf 3 = 1 := by kernel_rfl
theorem k28 : Try.prog.cellsOf 28 = 1 := by kernel_rfl
theorem one_int {fuel : Nat} {c : Value} {y : DataW H × List MemPlace} (h : DataW.trod enc Try.prog w base spare held fuel 3 [c] = some y) : ∃ a : Int, c = .int .i64 a := by
  obtain ⟨a, e, _, _⟩ := DataW.trod_int Try.underlying3 h
  cases e
  exact ⟨a, rfl⟩
theorem addr_spot {a : Addr} {v : Value} (h : w.cell? (a.add 0) = some v) : a.spot = none := by
  have := World.cell?_spot h
  simpa [Addr.add] using this
theorem addr_lt {a : Addr} {v : Value} (h : w.cell? (a.add 0) = some v) : a.block < w.heap.size := by
  have := World.block_lt_of_cell? w _ h
  simpa [Addr.add] using this
theorem addr_at {a : Addr} (hs : a.spot = none) (i : Nat) : a.add i = ⟨a.block, a.off + i, none⟩ := by
  unfold Addr.add
  split
  · rename_i h0
    rw [h0]
    cases a
    simp only at hs
    rw [hs]
    rfl
  · rfl
set_option maxRecDepth 100000 in
/-- A slice of numbers that came in. -/
theorem in_ints {fuel : Nat} {c : Value} {x : DataW H × List MemPlace} (h : DataW.trod enc Try.prog w base spare held fuel 28 [c] = some x) :
    ∃ (A : Option Addr) (b o n k : Nat) (f : Nat → Int), c = .slice A n k ∧ Ints w A b o n f ∧ (A = none → k = 0) := by
  rcases open_slice Try.underlying28 h with ⟨hc, _⟩ | ⟨a, len, cap, m, n, D, Pl, hc, hb, hl, hcap, hm, _, hi⟩
  · cases hc
    exact ⟨none, 0, 0, 0, 0, fun _ => 0, rfl, ⟨fun k hk => absurd hk (Nat.not_lt_zero _), fun k hk => absurd hk (Nat.not_lt_zero _), fun k hk => absurd hk (Nat.not_lt_zero _)⟩, fun _ => rfl⟩
  · cases hc
    have hlm : len ≤ m := by rw [hm]; split <;> omega
    have key : ∀ i, ∃ z : Int, i < len → w.cell? (a.add i) = some (.int .i64 z) := by
      intro i
      by_cases hil : i < len
      · obtain ⟨cs', hcs, ht⟩ := hi i (by omega)
        rw [k3, Nat.mul_one] at hcs
        obtain ⟨_, hlen, hat⟩ := World.cells?_some hcs
        match cs', hlen with
        | [c0], _ =>
          obtain ⟨u, rfl⟩ := one_int ht
          exact ⟨u, fun _ => by simpa [Addr.add] using hat 0 (by omega)⟩
      · exact ⟨0, fun h => absurd h hil⟩
    obtain ⟨f, hf⟩ := Classical.axiomOfChoice key
    refine ⟨some a, a.block, a.off, len, cap, f, rfl, ⟨fun k hk => ?_, fun k hk => addr_lt (hf 0 (by omega)), fun k hk => ?_⟩, fun h => by cases h⟩
    · have hs := addr_spot (hf 0 (by omega))
      cases a
      simp only at hs
      rw [hs]
    · have hs := addr_spot (hf 0 (by omega))
      rw [← addr_at hs]
      exact hf k hk
set_option maxRecDepth 100000 in
theorem two_ints {t : TypeId} {n0 n1 : String} {tg0 tg1 pp0 pp1 : String} {b0 b1 : Nat} (hs : Try.prog.underlying t = some (.struct #[{ name := n0, type := 3, offset := 0, embedded := false, tag := tg0, pkgPath := pp0, byteOffset := b0 }, { name := n1, type := 3, offset := 1, embedded := false, tag := tg1, pkgPath := pp1, byteOffset := b1 }]))
    {fuel : Nat} {cs : List Value} {x : DataW H × List MemPlace} (hC : Try.prog.cellsOf t = 2) (h : DataW.trod enc Try.prog w base spare held fuel t cs = some x) : ∃ a b : Int, cs = [.int .i64 a, .int .i64 b] := by
  obtain ⟨xs, n, _, _, hlen, hxl, hf⟩ := DataW.trod_struct hs h
  rw [hC] at hlen
  match cs, hlen with
  | [c0, c1], _ =>
    match xs, hxl with
    | [y0, y1], _ =>
      have h0 : DataW.trod enc Try.prog w base spare held n 3 (([c0, c1].drop 0).take (Try.prog.cellsOf 3)) = some y0 := hf 0 _ rfl
      have h1 : DataW.trod enc Try.prog w base spare held n 3 (([c0, c1].drop 1).take (Try.prog.cellsOf 3)) = some y1 := hf 1 _ rfl
      rw [k3] at h0 h1
      obtain ⟨a, rfl⟩ := one_int (show DataW.trod enc Try.prog w base spare held n 3 [c0] = some y0 from h0)
      obtain ⟨b, rfl⟩ := one_int (show DataW.trod enc Try.prog w base spare held n 3 [c1] = some y1 from h1)
      exact ⟨a, b, rfl⟩
set_option maxRecDepth 100000 in
/-- A slice of wedges that came in. -/
theorem in_weds {fuel : Nat} {c : Value} {x : DataW H × List MemPlace} (h : DataW.trod enc Try.prog w base spare held fuel 31 [c] = some x) :
    ∃ g : Wg, c = g.v ∧ g.In w ∧ (g.wa = none → g.wk = 0) := by
  rcases open_slice Try.underlying31 h with ⟨hc, _⟩ | ⟨a, len, cap, m, n, D, Pl, hc, hb, hl, hcap, hm, _, hi⟩
  · cases hc
    exact ⟨⟨none, 0, 0, 0, 0, fun _ => 0, fun _ => 0⟩, rfl, ⟨fun k hk => absurd hk (Nat.not_lt_zero _), fun k hk => absurd hk (Nat.not_lt_zero _), fun k hk => absurd hk (Nat.not_lt_zero _), fun k hk => absurd hk (Nat.not_lt_zero _)⟩, fun _ => rfl⟩
  · cases hc
    have hC : Try.prog.cellsOf 46 = 2 := by kernel_rfl
    have hlm : len ≤ m := by rw [hm]; split <;> omega
    have key : ∀ i, ∃ z : Int × Int, i < len → w.cell? (a.add (i * 2)) = some (.int .i64 z.1) ∧ w.cell? ((a.add (i * 2)).add 1) = some (.int .i64 z.2) := by
      intro i
      by_cases hil : i < len
      · obtain ⟨cs', hcs, ht⟩ := hi i (by omega)
        rw [hC] at hcs
        obtain ⟨u, v, rfl⟩ := two_ints Try.underlying46 hC ht
        obtain ⟨_, _, hat⟩ := World.cells?_some hcs
        exact ⟨(u, v), fun _ => ⟨by simpa [Addr.add] using hat 0 (by omega), by simpa using hat 1 (by omega)⟩⟩
      · exact ⟨(0, 0), fun h => absurd h hil⟩
    obtain ⟨f, hf⟩ := Classical.axiomOfChoice key
    have hadd : ∀ i, i < len → a.add (i * 2) = ⟨a.block, a.off + i * 2, none⟩ := fun i hi => addr_at (addr_spot (by have := (hf 0 (by omega)).1; rwa [Nat.zero_mul] at this)) _
    refine ⟨⟨some a, a.block, a.off, len, cap, fun k => (f k).1, fun k => (f k).2⟩, rfl, ⟨fun k hk => ?_, fun k hk => addr_lt (by have := (hf 0 (by have : k < len := hk; omega)).1; rwa [Nat.zero_mul] at this), fun k hk => ?_, fun k hk => ?_⟩, fun h => by cases h⟩
    · have hs := addr_spot (by have := (hf 0 (by have : k < len := hk; omega)).1; rwa [Nat.zero_mul] at this)
      cases a
      simp only at hs
      show some _ = some _
      rw [hs]
    · have := (hf k hk).1
      rw [hadd k hk] at this
      exact this
    · have := (hf k hk).2
      rw [hadd k hk] at this
      exact this
set_option maxRecDepth 100000 in
theorem open_path {r : Reach} {b0 : Nat} {v : Value} {d : DataW H} {p : List MemPlace} (hv : Value.okWide Try.prog w r b0 28 v) (h : DataW.Trod enc Try.prog w base spare held 28 v d p) :
    ∃ (A : Option Addr) (b o n k : Nat) (f : Nat → Int), v = .slice A n k ∧ Ints w A b o n f ∧ (A = none → k = 0) := by
  obtain ⟨a, len, cap, rfl⟩ := okWide_slice Try.underlying28 hv
  obtain ⟨fuel, hf⟩ := h
  exact in_ints (show DataW.trod enc Try.prog w base spare held fuel 28 [.slice a len cap] = some (d, p) from hf)
set_option maxRecDepth 100000 in
theorem open_weds {r : Reach} {b0 : Nat} {v : Value} {d : DataW H} {p : List MemPlace} (hv : Value.okWide Try.prog w r b0 31 v) (h : DataW.Trod enc Try.prog w base spare held 31 v d p) :
    ∃ g : Wg, v = g.v ∧ g.In w ∧ (g.wa = none → g.wk = 0) := by
  obtain ⟨a, len, cap, rfl⟩ := okWide_slice Try.underlying31 hv
  obtain ⟨fuel, hf⟩ := h
  exact in_weds (show DataW.trod enc Try.prog w base spare held fuel 31 [.slice a len cap] = some (d, p) from hf)
set_option maxRecDepth 100000 in
theorem open_servo {r : Reach} {b0 : Nat} {v : Value} {d : DataW H} {p : List MemPlace} (hv : Value.okWide Try.prog w r b0 30 v) (h : DataW.Trod enc Try.prog w base spare held 30 v d p) :
    ∃ s : Sv, v = s.v ∧ s.In w ∧ (s.ra = none → s.rc = 0) := by
  obtain ⟨cs, rfl, hsz⟩ := okWide_struct Try.underlying30 hv
  have hC : Try.prog.cellsOf 30 = 6 := by kernel_rfl
  obtain ⟨l⟩ := cs
  match l, hsz.trans hC with
  | [c0, c1, c2, c3, c4, c5], _ =>
    obtain ⟨fuel, hf⟩ := h
    obtain ⟨xs, n, _, _, _, hlen, hg⟩ := DataW.trod_struct Try.underlying30 hf
    match xs, hlen with
    | [y0, y1, y2, y3, y4, y5], _ =>
      have g0 : DataW.trod enc Try.prog w base spare held n 3 (([c0, c1, c2, c3, c4, c5].drop 0).take (Try.prog.cellsOf 3)) = some y0 := hg 0 _ rfl
      have g1 : DataW.trod enc Try.prog w base spare held n 3 (([c0, c1, c2, c3, c4, c5].drop 1).take (Try.prog.cellsOf 3)) = some y1 := hg 1 _ rfl
      have g2 : DataW.trod enc Try.prog w base spare held n 3 (([c0, c1, c2, c3, c4, c5].drop 2).take (Try.prog.cellsOf 3)) = some y2 := hg 2 _ rfl
      have g3 : DataW.trod enc Try.prog w base spare held n 3 (([c0, c1, c2, c3, c4, c5].drop 3).take (Try.prog.cellsOf 3)) = some y3 := hg 3 _ rfl
      have g4 : DataW.trod enc Try.prog w base spare held n 3 (([c0, c1, c2, c3, c4, c5].drop 4).take (Try.prog.cellsOf 3)) = some y4 := hg 4 _ rfl
      have g5 : DataW.trod enc Try.prog w base spare held n 28 (([c0, c1, c2, c3, c4, c5].drop 5).take (Try.prog.cellsOf 28)) = some y5 := hg 5 _ rfl
      rw [k3] at g0 g1 g2 g3 g4
      rw [k28] at g5
      obtain ⟨a0, rfl⟩ := one_int (show DataW.trod enc Try.prog w base spare held n 3 [c0] = some y0 from g0)
      obtain ⟨a1, rfl⟩ := one_int (show DataW.trod enc Try.prog w base spare held n 3 [c1] = some y1 from g1)
      obtain ⟨a2, rfl⟩ := one_int (show DataW.trod enc Try.prog w base spare held n 3 [c2] = some y2 from g2)
      obtain ⟨a3, rfl⟩ := one_int (show DataW.trod enc Try.prog w base spare held n 3 [c3] = some y3 from g3)
      obtain ⟨a4, rfl⟩ := one_int (show DataW.trod enc Try.prog w base spare held n 3 [c4] = some y4 from g4)
      obtain ⟨A, b, o, m, k, f, rfl, hi, hk⟩ := in_ints (show DataW.trod enc Try.prog w base spare held n 28 [c5] = some y5 from g5)
      exact ⟨⟨a0, a1, a2, a3, a4, A, b, o, m, k, f⟩, rfl, hi, hk⟩
set_option maxRecDepth 100000 in
theorem open_goal {r : Reach} {b0 : Nat} {v : Value} {d : DataW H} {p : List MemPlace} (hv : Value.okWide Try.prog w r b0 49 v) (h : DataW.Trod enc Try.prog w base spare held 49 v d p) : ∃ a b : Int, v = .agg #[.int .i64 a, .int .i64 b] := by
  obtain ⟨cs, rfl, hsz⟩ := okWide_struct Try.underlying49 hv
  have hC : Try.prog.cellsOf 49 = 2 := by kernel_rfl
  obtain ⟨l⟩ := cs
  obtain ⟨fuel, hf⟩ := h
  obtain ⟨a, b, e⟩ := two_ints Try.underlying49 hC (show DataW.trod enc Try.prog w base spare held fuel 49 l = some (d, p) from hf)
  subst e
  exact ⟨a, b, rfl⟩
set_option maxRecDepth 100000 in
theorem in_walk {fuel : Nat} {l : List Value} {x : DataW H × List MemPlace} (hl : l.length = 2) (h : DataW.trod enc Try.prog w base spare held fuel 33 l = some x) :
    ∃ (A : Option Addr) (b o n c : Nat) (f : Nat → Int) (A' : Option Addr) (b' o' m c' : Nat) (g : Nat → Int), l = [.slice A n c, .slice A' m c'] ∧ Ints w A b o n f ∧ (A = none → c = 0) ∧ Ints w A' b' o' m g ∧ (A' = none → c' = 0) := by
  match l, hl with
  | [c0, c1], _ =>
    obtain ⟨xs, n, _, _, _, hlen, hg⟩ := DataW.trod_struct Try.underlying33 h
    match xs, hlen with
    | [y0, y1], _ =>
      have g0 : DataW.trod enc Try.prog w base spare held n 28 (([c0, c1].drop 0).take (Try.prog.cellsOf 28)) = some y0 := hg 0 _ rfl
      have g1 : DataW.trod enc Try.prog w base spare held n 28 (([c0, c1].drop 1).take (Try.prog.cellsOf 28)) = some y1 := hg 1 _ rfl
      rw [k28] at g0 g1
      obtain ⟨A, b, o, m, k, f, rfl, hi, hk⟩ := in_ints (show DataW.trod enc Try.prog w base spare held n 28 [c0] = some y0 from g0)
      obtain ⟨A', b', o', m', k', f', rfl, hi', hk'⟩ := in_ints (show DataW.trod enc Try.prog w base spare held n 28 [c1] = some y1 from g1)
      exact ⟨A, b, o, m, k, f, A', b', o', m', k', f', rfl, hi, hk, hi', hk'⟩
set_option maxRecDepth 100000 in
theorem open_walk {r : Reach} {b0 : Nat} {v : Value} {d : DataW H} {p : List MemPlace} (hv : Value.okWide Try.prog w r b0 33 v) (h : DataW.Trod enc Try.prog w base spare held 33 v d p) :
    ∃ (A : Option Addr) (b o n c : Nat) (f : Nat → Int) (A' : Option Addr) (b' o' m c' : Nat) (g : Nat → Int), v = .agg #[.slice A n c, .slice A' m c'] ∧ Ints w A b o n f ∧ (A = none → c = 0) ∧ Ints w A' b' o' m g ∧ (A' = none → c' = 0) := by
  obtain ⟨cs, rfl, hsz⟩ := okWide_struct Try.underlying33 hv
  have hC : Try.prog.cellsOf 33 = 2 := by kernel_rfl
  obtain ⟨l⟩ := cs
  obtain ⟨fuel, hf⟩ := h
  obtain ⟨A, b, o, m, k, f, A', b', o', m', k', f', e, hi, hk, hi', hk'⟩ := in_walk (hsz.trans hC) (show DataW.trod enc Try.prog w base spare held fuel 33 l = some (d, p) from hf)
  subst e
  exact ⟨A, b, o, m, k, f, A', b', o', m', k', f', rfl, hi, hk, hi', hk'⟩
set_option maxRecDepth 100000 in
theorem open_gated {r : Reach} {b0 : Nat} {v : Value} {d : DataW H} {p : List MemPlace} (hv : Value.okWide Try.prog w r b0 51 v) (h : DataW.Trod enc Try.prog w base spare held 51 v d p) :
    ∃ (A : Option Addr) (b o n c : Nat) (f : Nat → Int) (A' : Option Addr) (b' o' m c' : Nat) (g : Nat → Int) (t e : Int), v = .agg #[.slice A n c, .slice A' m c', .int .i64 t, .int .i64 e] ∧ Ints w A b o n f ∧ (A = none → c = 0) ∧ Ints w A' b' o' m g ∧ (A' = none → c' = 0) := by
  obtain ⟨cs, rfl, hsz⟩ := okWide_struct Try.underlying51 hv
  have hC : Try.prog.cellsOf 51 = 4 := by kernel_rfl
  have k33 : Try.prog.cellsOf 33 = 2 := by kernel_rfl
  have k49 : Try.prog.cellsOf 49 = 2 := by kernel_rfl
  obtain ⟨l⟩ := cs
  match l, hsz.trans hC with
  | [c0, c1, c2, c3], _ =>
    obtain ⟨fuel, hf⟩ := h
    obtain ⟨xs, n, _, _, _, hlen, hg⟩ := DataW.trod_struct Try.underlying51 hf
    match xs, hlen with
    | [y0, y1], _ =>
      have g0 : DataW.trod enc Try.prog w base spare held n 33 (([c0, c1, c2, c3].drop 0).take (Try.prog.cellsOf 33)) = some y0 := hg 0 _ rfl
      have g1 : DataW.trod enc Try.prog w base spare held n 49 (([c0, c1, c2, c3].drop 2).take (Try.prog.cellsOf 49)) = some y1 := hg 1 _ rfl
      rw [k33] at g0
      rw [k49] at g1
      obtain ⟨A, b, o, m, k, f, A', b', o', m', k', f', e, hi, hk, hi', hk'⟩ := in_walk rfl (show DataW.trod enc Try.prog w base spare held n 33 [c0, c1] = some y0 from g0)
      obtain ⟨t, u, e'⟩ := two_ints Try.underlying49 k49 (show DataW.trod enc Try.prog w base spare held n 49 [c2, c3] = some y1 from g1)
      cases e
      cases e'
      exact ⟨A, b, o, m, k, f, A', b', o', m', k', f', t, u, rfl, hi, hk, hi', hk'⟩
set_option maxRecDepth 100000 in
theorem open_wide {r : Reach} {b0 : Nat} {v : Value} {d : DataW H} {p : List MemPlace} (hv : Value.okWide Try.prog w r b0 62 v) (h : DataW.Trod enc Try.prog w base spare held 62 v d p) : ∃ a b c e : Int, v = .agg #[.int .i64 a, .int .i64 b, .int .i64 c, .int .i64 e] := by
  obtain ⟨cs, rfl, hsz⟩ := okWide_struct Try.underlying62 hv
  have hC : Try.prog.cellsOf 62 = 4 := by kernel_rfl
  obtain ⟨l⟩ := cs
  match l, hsz.trans hC with
  | [c0, c1, c2, c3], _ =>
    obtain ⟨fuel, hf⟩ := h
    obtain ⟨xs, n, _, _, _, hlen, hg⟩ := DataW.trod_struct Try.underlying62 hf
    match xs, hlen with
    | [y0, y1, y2, y3], _ =>
      have g0 : DataW.trod enc Try.prog w base spare held n 3 (([c0, c1, c2, c3].drop 0).take (Try.prog.cellsOf 3)) = some y0 := hg 0 _ rfl
      have g1 : DataW.trod enc Try.prog w base spare held n 3 (([c0, c1, c2, c3].drop 1).take (Try.prog.cellsOf 3)) = some y1 := hg 1 _ rfl
      have g2 : DataW.trod enc Try.prog w base spare held n 3 (([c0, c1, c2, c3].drop 2).take (Try.prog.cellsOf 3)) = some y2 := hg 2 _ rfl
      have g3 : DataW.trod enc Try.prog w base spare held n 3 (([c0, c1, c2, c3].drop 3).take (Try.prog.cellsOf 3)) = some y3 := hg 3 _ rfl
      rw [k3] at g0 g1 g2 g3
      obtain ⟨a0, rfl⟩ := one_int (show DataW.trod enc Try.prog w base spare held n 3 [c0] = some y0 from g0)
      obtain ⟨a1, rfl⟩ := one_int (show DataW.trod enc Try.prog w base spare held n 3 [c1] = some y1 from g1)
      obtain ⟨a2, rfl⟩ := one_int (show DataW.trod enc Try.prog w base spare held n 3 [c2] = some y2 from g2)
      obtain ⟨a3, rfl⟩ := one_int (show DataW.trod enc Try.prog w base spare held n 3 [c3] = some y3 from g3)
      exact ⟨a0, a1, a2, a3, rfl⟩
end
end Go.Proofs.Ytkafjlhmbiaicaa

/- Stage 2: from where the head came. -/
set_option linter.unusedSimpArgs false
set_option linter.unusedVariables false
namespace Go.Proofs.Ytkafjlhmbiaicaa
open Go.RowKit

/-- A position with the least number in the window. -/
def FrRet (s : Sv) (f : Nat → Int) (to : Nat) (w : World) (e : Ending) (w' : World) : Prop :=
  ∃ q : Nat, e = .returned (.int .i64 (q : Nat)) ∧ q < s.N ∧ q ≤ to + s.m ∧ to ≤ q + s.m ∧ f q = mvd s.N s.m f to ∧ Below w.heap.size w w'
theorem win_least {N m to q : Nat} {f : Nat → Int} (ht : to < N) (h1 : q < N) (h2 : q ≤ to + m) (h3 : to ≤ q + m) (h : ∀ r, r < N → r ≤ to + m → to ≤ r + m → f q ≤ f r) : f q = mvd N m f to := by
  have h4 := (mvd_le (m := m) (f := f) (c := f q) ht).2 ⟨q, h1, h2, h3, Int.le_refl _⟩
  obtain ⟨r, r1, r2, r3, r4⟩ := (mvd_le (m := m) (f := f) (c := mvd N m f to) ht).1 (Int.le_refl _)
  have := h r r1 r2 r3
  omega
set_option maxRecDepth 100000 in
set_option maxHeartbeats 2000000 in
theorem c77 (s : Sv) (g : Wg) (b c to : Nat) (f : Nat → Int) (w : World) (ok : s.Ok) (hR : RowF w b s.N f) (ht : to < s.N) :
    Calls Try.prog 77 #[hdv s g, .slice (some ⟨b, 0, none⟩) s.N c, .int .i64 (to : Nat)] w (FrRet s f to w) := by
  have hN := ok.Nb
  have hN1 := hN.1; have hN2 := hN.2.1
  have m0 := ok.m0; have m1 := ok.m1
  have hmb := ok.mb
  have hmh := hid hmb
  have hRh := hid hR
  obtain ⟨a, ha⟩ : ∃ a, a = to - s.m := ⟨_, rfl⟩
  obtain ⟨hi, hhi⟩ : ∃ hi, hi = min (to + s.m) (s.N - 1) := ⟨_, rfl⟩
  have hab : Hid (a = to - s.m) := hid ha
  have hhb : Hid (hi = min (to + s.m) (s.N - 1)) := hid hhi
  have hal : a ≤ hi := by omega
  have hhl : hi < s.N := by omega
  obtain ⟨mx, hif⟩ : ∃ mx, (if (to : Int) + s.mv < (s.N : Int) - 1 then (to : Int) + s.mv else (s.N : Int) - 1) = mx := ⟨_, rfl⟩
  have hmxe : mx = (hi : Int) := by rw [← hif, hhi]; split <;> omega
  have hmxh := hid hmxe
  have hstart : Hid ((a : Int) = max ((to : Int) - s.mv) 0) := hid (by rw [ha]; omega)
  have ew : IntKind.i64.wrap ((to : Int) + s.mv) = (to : Int) + s.mv := IntWalk.i64_in _ (by omega)
  have hB0 : Below w.heap.size w (w.alloc (.cells #[.int .i64 s.tr, .int .i64 s.st, .int .i64 s.mv, .int .i64 s.no, .int .i64 s.wr, .slice s.ra s.rn s.rc, .slice g.wa g.wn g.wk] 75)) := by (repeat' (first | (with_reducible exact Below.refl _ _) | (with_reducible assumption) | (with_reducible refine Below.alloc ?_ ?_ _) | (with_reducible refine Below.drew ?_) | (with_reducible refine below_drewN ?_ _) | (with_reducible refine Below.setCell ?_ ?_ _) | (with_reducible refine Below.trans ?_ (Below.mono (by with_reducible assumption) ?_)) | go_size))
  have hbx0 := Hbx.new s g w
  have hs0 : w.heap.size + 1 ≤ (w.alloc (.cells #[.int .i64 s.tr, .int .i64 s.st, .int .i64 s.mv, .int .i64 s.no, .int .i64 s.wr, .slice s.ra s.rn s.rc, .slice g.wa g.wn g.wk] 75)).heap.size := by simp
  generalize hW0 : w.alloc (.cells #[.int .i64 s.tr, .int .i64 s.st, .int .i64 s.mv, .int .i64 s.no, .int .i64 s.wr, .slice s.ra s.rn s.rc, .slice g.wa g.wn g.wk] 75) = W0 at hB0 hbx0 hs0
  have hRw := hid (hR.below hB0 hR.lt)
  have hW0h := hid hW0
  clear hW0 hN hmb ok hR ha hhi hmxe
  have hhi1 : (hi : Int) ≤ (to : Int) + s.mv ∧ (hi : Int) ≤ (s.N : Int) - 1 ∧ ((to : Int) + s.mv ≤ hi ∨ (s.N : Int) - 1 ≤ hi) := by have h1 := hhb.out; have h2 := hmh.out; omega
  have hhih := hid hhi1
  clear hhi1 hif hmxh
  by_cases hmx : (to : Int) - s.mv < 0 <;> by_cases hmn : (s.N : Int) - 1 < (to : Int) + s.mv
  all_goals
    go_enter Try.func77, Try.ntmps77
    go_wp2_with fail
    rw [hW0h.out]
    go_loopw [7, 8] (fun bv pv wr => ∃ q p : Nat, bv = .int .i64 q ∧ pv = .int .i64 p ∧ a ≤ p ∧ p ≤ hi + 1 ∧ a ≤ q ∧ q ≤ hi ∧ Hid (∀ r, a ≤ r → r < p → f q ≤ f r) ∧ Below W0.heap.size W0 wr) (fun _ pv _ => hi + 1 - (intOf pv).toNat)
    case atStart => exact ⟨a, a, by have := hstart.out; first | (rw [show (to : Int) - s.mv = (a : Int) by omega]) | (rw [show (0 : Int) = (a : Int) by omega]), by have := hstart.out; first | (rw [show (to : Int) - s.mv = (a : Int) by omega]) | (rw [show (0 : Int) = (a : Int) by omega]), Nat.le_refl _, by omega, Nat.le_refl _, hal, hid (fun r h1 h2 => by omega), Below.refl _ _⟩
    case round =>
      obtain ⟨q, p, rfl, rfl, hp1, hp2, hq1, hq2, hmin, hB⟩ := hrel
      obtain ⟨k0, k1, k2, k3, k4, k5, k6⟩ := (hbx0.below hB (by omega)).all
      have hRr := hRw.out.below hB hRw.out.lt
      by_cases hlt : p ≤ hi
      · have hpm : (p : Int) ≤ (to : Int) + s.mv := by have := hhih.out; omega
        have hpm2 : (p : Int) ≤ (s.N : Int) - 1 := by have := hhih.out; omega
        have hpm3 : p < s.N := by omega
        have c1 := hRr.cell (show p < s.N by omega)
        have c2 := hRr.cell (show q < s.N by omega)
        have x1 := @RowF.ix _ _ _ c _ hRr p (by omega)
        have x2 := @RowF.ix _ _ _ c _ hRr q (by omega)
        have hpl : p < 1009 := by omega
        clear hRr
        by_cases hfl : f p < f q
        · have hflh := hid hfl
          go_wp2_with fail
          go_quiet (fail)
          go_wp2
          go_roundw
          case rel => exact ⟨p, p + 1, rfl, by go_num, by omega, by omega, hp1, hlt, hid (fun r h1 h2 => by
            by_cases e : r = p
            · subst e; exact Int.le_refl _
            · have := hmin.out r h1 (by omega); have := hflh.out; omega), below_drewN hB _⟩
          case measure => simp [intOf]; omega
        · have hflh := hid hfl
          go_wp2_with fail
          go_quiet (fail)
          go_wp2
          go_roundw
          case rel => exact ⟨q, p + 1, rfl, by go_num, by omega, by omega, hq1, hq2, hid (fun r h1 h2 => by
            by_cases e : r = p
            · subst e; have := hflh.out; omega
            · exact hmin.out r h1 (by omega)), below_drewN hB _⟩
          case measure => simp [intOf]; omega
      · have hpm : (to : Int) + s.mv < (p : Int) ∨ (s.N : Int) - 1 < (p : Int) := by have := hhih.out; omega
        first | (have hpm2 : (to : Int) + s.mv < (p : Int) := by have := hhih.out; omega) | (have hpm2 : (s.N : Int) - 1 < (p : Int) := by have := hhih.out; omega)
        clear hpm
        go_wp2_with fail
        go_returns
        have h1 := hab.out
        have h2 := hhb.out
        have h3 := hmh.out
        refine ⟨q, rfl, by omega, by omega, by omega, ?_, hB0.trans (hB.mono (by omega))⟩
        exact win_least ht (by omega) (by omega) (by omega) (fun r r1 r2 r3 => hmin.out r (by omega) (by omega))
end Go.Proofs.Ytkafjlhmbiaicaa
