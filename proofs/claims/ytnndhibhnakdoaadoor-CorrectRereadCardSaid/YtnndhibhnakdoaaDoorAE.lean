/- Stage 5: words that came in, in a list; the words that are read, in a list of their own. -/
import Derived.Test.YtnndhibhnakdoaaDoorAD
set_option linter.unusedSimpArgs false
set_option linter.unusedVariables false
namespace Go.Proofs.YtnndhibhnakdoaaDoor
open Go.RowKit Go.BigFrame Go.Sort
open Gf (S)
/-- Slices of numbers that came in, in a list. -/
structure Mtx (w : World) (A : Option Addr) (b o m : Nat) : Prop where
  ad : ∀ k, k < m → A = some ⟨b, o, none⟩
  lt : ∀ k, k < m → b < w.heap.size
  ce : ∀ k, k < m → ∃ (A' : Option Addr) (b' o' n' c' : Nat) (f : Nat → Int), w.cell? ⟨b, o + k, none⟩ = some (.slice A' n' c') ∧ Sin w A' b' o' n' c' f
theorem Mtx.below {w w' : World} {B : Nat} {A : Option Addr} {b o m : Nat} (h : Mtx w A b o m) (hb : Below B w w') (hB : w.heap.size ≤ B) : Mtx w' A b o m :=
  ⟨h.ad, fun k hk => Nat.lt_of_lt_of_le (h.lt k hk) hb.size, fun k hk => by
    obtain ⟨A', b', o', n', c', f, h1, h2⟩ := h.ce k hk
    exact ⟨A', b', o', n', c', f, (hb.cell (p := ⟨b, o + k, none⟩) (Nat.lt_of_lt_of_le (h.lt k hk) hB)).trans h1, h2.below hb hB⟩⟩
theorem Mtx.ix {w : World} {A : Option Addr} {b o m c : Nat} (h : Mtx w A b o m) {k : Nat} (hk : k < m) (w' : World) :
    (Instr.indexAt 47 (.slice A m c) (.int .i64 k)).run Tryd.prog w' = .ok (.pointer (some ⟨b, o + k, none⟩)) w' := by
  have h2 : (k : Int) < (m : Int) := by omega
  rw [h.ad k hk]
  go_simp
/-- q words stand in a list of their own. -/
structure RwI (n B : Nat) (W : Nat → Nat → S) (q : Nat) (v : Value) (rs : List Value) (w : World) : Prop where
  own : w.ownsRow B 24 1 v q rs
  all : ∀ t, t < q → ∃ d c, rs[t]? = some (.slice (some ⟨d, 0, none⟩) n c) ∧ RowF w d n (nf (W t))
theorem RowF.not_row {w : World} {d n b k : Nat} {f : Nat → Int} {v : Value} {xs : List Value} (h : RowF w d n f) (hr : w.ownsRow b 24 1 v k xs) : some d ≠ v.ownBlock := by
  intro e
  obtain ⟨c, F, ⟨cs, h1, _⟩, _⟩ := h
  obtain ⟨_, ⟨h2, _⟩ | ⟨g, cap, cur, h2, h3, h4, _⟩⟩ := hr
  · subst h2; cases e
  · subst h2
    cases e
    rw [h4] at h1
    cases h1
theorem RwI.below {n B q : Nat} {W : Nat → Nat → S} {v : Value} {rs : List Value} {w w' : World} (h : RwI n B W q v rs w) (hb : Below w.heap.size w w') : RwI n B W q v rs w' :=
  ⟨owns_keep h.own (fun g hg _ => hb.block g hg), fun t ht => by
    obtain ⟨d, c, h1, h2⟩ := h.all t ht
    exact ⟨d, c, h1, h2.below hb h2.lt⟩⟩
theorem RwI.appended {n B q d c : Nat} {W : Nat → Nat → S} {R : Nat → S} {v v' : Value} {rs : List Value} {w w1 : World} {tmp : Obj} (h : RwI n B W q v rs w) (hd : RowF w d n (nf R))
    (hown : w1.ownsRow B 24 1 v' (q + 1) (rs ++ [.slice (some ⟨d, 0, none⟩) n c])) (hgrow : (w.alloc tmp).grownBy w1 v.ownBlock) :
    RwI n B (fun t => if t = q then R else W t) (q + 1) v' (rs ++ [.slice (some ⟨d, 0, none⟩) n c]) w1 := by
  have keep : ∀ d f, RowF w d n f → RowF w1 d n f := fun d f hd =>
    (hd.alloc tmp).of_block (hgrow.block d (by rw [World.size_alloc]; exact Nat.lt_succ_of_lt hd.lt) (hd.not_row h.own))
  have hl : rs.length = q := by have := h.own.1; omega
  refine ⟨hown, fun t ht => ?_⟩
  by_cases e : t = q
  · subst e
    refine ⟨d, c, by rw [List.getElem?_append_right (by omega), hl, Nat.sub_self]; rfl, ?_⟩
    rw [if_pos rfl]
    exact keep d _ hd
  · obtain ⟨d', c', h1, h2⟩ := h.all t (by omega)
    refine ⟨d', c', by rw [List.getElem?_append_left (by omega)]; exact h1, ?_⟩
    rw [if_neg e]
    exact keep d' _ h2
theorem RwI.reads {n B q : Nat} {W : Nat → Nat → S} {v : Value} {rs : List Value} {w : World} (h : RwI n B W q v rs w) (hq : 0 < q) : ∃ g c, v = .slice (some ⟨g, 0, none⟩) q c ∧ Reads w (some ⟨g, 0, none⟩) g 0 q n W := by
  have hne : ¬ v = .slice none 0 0 := by
    rintro rfl
    obtain ⟨_, ⟨_, h2⟩ | ⟨g, cap, cur, h3, _⟩⟩ := h.own
    · omega
    · cases h3
  obtain ⟨g, c, rfl⟩ := own_shape h.own hne
  have hl : rs.length = q := by have := h.own.1; omega
  refine ⟨g, c, rfl, fun _ _ => rfl, fun _ _ => owns_lt h.own rfl, fun k hk => ?_⟩
  have e := h.own.cellAt k (by omega)
  obtain ⟨d, c', h1, h2⟩ := h.all k hk
  exact ⟨d, c', by rw [Nat.zero_add, e, h1], h2.ints⟩
theorem c40z (A : Option Addr) (b o n c : Nat) (C : Nat → S) (A2 : Option Addr) (b2 o2 c2 : Nat) (D : Nat → S) (w : World) (hz : Ints w A b o n (nf C)) (hg : Ints w A2 b2 o2 n (nf D)) (hn : n ≤ 1000) :
    Calls Tryd.prog 40 #[.slice A n c, .slice A2 n c2, .slice none 0 0] w fun e w' => e = .returned (.int .i64 (Gf.apa n C D [] : Nat)) ∧ Below w.heap.size w w' :=
  c40 A b o n c C A2 b2 o2 n c2 D none 0 0 0 0 (fun _ => 0) w hz hg (Ints.empty _ _ _ _ _) (Nat.le_refl _) hn (by omega)
/-- A word that cannot mislead is read as what was written, or refused. -/
theorem read_right {n r : Nat} {C W : Nat → S} (hn : n ≤ 15) (hC : ∀ i, i < r → Gf.syn n C i = 0) (hf : ¬ foo r ((Gf.apa n C W [] : Nat) : Int)) : ∀ C', Gf.Near n r W [] C' → ∀ j, j < n → C' j = C j := by
  intro C' hN
  have h2 := hN.2
  unfold foo at hf
  refine same_of (R := W) hn hC hN.1 ?_
  simp only [List.length_nil] at h2
  omega
theorem near_sure {n r : Nat} {C W : Nat → S} (hC : ∀ i, i < r → Gf.syn n C i = 0) (h : 2 * Gf.apa n C W [] ≤ r) : Gf.Near n r W [] C := ⟨hC, by simpa using h⟩
set_option maxRecDepth 100000 in
set_option maxHeartbeats 4000000 in
theorem c12a (L P : Int) (A1 : Option Addr) (n1 c1 : Nat) (A : Option Addr) (m c : Nat) (w : World) (hT : Tab w) (h : ¬ rdy L P) : Calls Tryd.prog 12 #[.agg #[.int .i64 L, .int .i64 P], .slice A1 n1 c1, .slice A m c] w fun e w' => e = .returned (.bool true) ∧ Below w.heap.size w w' := by
  have hh := hid h
  have hwk := hid c15
  have hTh := hid hT
  have hB0 : Hid (Below w.heap.size w (w.alloc (.cells #[.int .i64 L, .int .i64 P] 23))) := hid (by (repeat' (first | (with_reducible exact Below.refl _ _) | (with_reducible assumption) | (with_reducible refine Below.alloc ?_ ?_ _) | (with_reducible refine Below.drew ?_) | (with_reducible refine below_drewN ?_ _) | (with_reducible refine Below.setCell ?_ ?_ _) | (with_reducible refine Below.trans ?_ (Below.mono (by with_reducible assumption) ?_)) | go_size)))
  clear h hT
  go_enter Tryd.func12, Tryd.ntmps12
  go_wp2_with (first | (go_at_call 35; refine (c35n L P _ hh.out).mono ?_; rintro e w1 ⟨rfl, hB1⟩; have hB1 := hid (hB0.out.trans (hB1.mono (by simp)))) | (go_at_call 15; refine (hwk.out _ (hTh.out.below hB1.out (Nat.le_refl _))).mono ?_; rintro e w3 ⟨rfl, hB3⟩; have hB3 := hid (hB1.out.trans (hB3.mono hB1.out.size))))
  go_returns
  exact ⟨rfl, hB3.out⟩
set_option maxRecDepth 100000 in
set_option maxHeartbeats 4000000 in
theorem c12b (n r : Nat) (A1 : Option Addr) (b1 o1 n1 c1 : Nat) (f1 : Nat → Int) (A : Option Addr) (m c : Nat) (w : World) (hT : Tab w) (h : rdy (n : Nat) (r : Nat)) (h1 : Sin w A1 b1 o1 n1 c1 f1) (hno : ¬ ((allS n1 f1 ∧ n1 = n - r) ∧ 1 ≤ m ∧ m ≤ 4)) :
    Calls Tryd.prog 12 #[cv n r, .slice A1 n1 c1, .slice A m c] w fun e w' => e = .returned (.bool true) ∧ Below w.heap.size w w' := by
  have hh := hid h
  have hn := vld_nat h.1
  have hwk := hid c15
  have hTh := hid hT
  have h1h := hid h1.1
  have m1 := hid h1.2.2
  have hB0 : Hid (Below w.heap.size w ((w.alloc (.cells #[.int .i64 (n : Nat), .int .i64 (r : Nat)] 23)))) := hid (by (repeat' (first | (with_reducible exact Below.refl _ _) | (with_reducible assumption) | (with_reducible refine Below.alloc ?_ ?_ _) | (with_reducible refine Below.drew ?_) | (with_reducible refine below_drewN ?_ _) | (with_reducible refine Below.setCell ?_ ?_ _) | (with_reducible refine Below.trans ?_ (Below.mono (by with_reducible assumption) ?_)) | go_size)))
  have hX0 : Hid (Bx n r ((w.alloc (.cells #[.int .i64 (n : Nat), .int .i64 (r : Nat)] 23))) w.heap.size) := hid (Bx.new n r w 23)
  have hs0 : Hid (((w.alloc (.cells #[.int .i64 (n : Nat), .int .i64 (r : Nat)] 23))).heap.size = w.heap.size + 1) := hid (by rw [World.size_alloc])
  obtain ⟨k, hk⟩ : ∃ k, k = n - r := ⟨_, rfl⟩
  have er : (n : Int) - (r : Int) = (k : Int) := by omega
  have hkh := hid hk
  clear h hT h1 hk
  by_cases q1 : allS n1 f1 ∧ (n1 : Int) = (k : Int)
  · have q1h := hid q1
    by_cases hm1 : m < 1
    · obtain rfl : m = 0 := by omega
      clear hno q1 hm1
      go_enter Tryd.func12, Tryd.ntmps12
      go_wp2_with (first | (go_at_call 35; (with_reducible refine (c35y (n : Nat) (r : Nat) _ hh.out).mono ?_); rintro e w1 ⟨rfl, hB1⟩; have hX1 := hid (hX0.out.below hB1 (by rw [hs0.out]; omega)); obtain ⟨p0, p1⟩ := hX1.out; have hs1 := hB1.size; rw [hs0.out] at hs1; have hB1 := hid (hB0.out.trans (hB1.mono (by rw [hs0.out]; omega)))) | (go_at_call 37; (with_reducible refine (c37 A1 b1 o1 n1 c1 f1 (k : Nat) w1 (h1h.out.below hB1.out (Nat.le_refl _)) m1.out).mono ?_); intro e w2 hr; obtain ⟨rfl, rfl⟩ := hr.un.1 q1h.out; clear hr) | (go_at_call 15; refine (hwk.out _ (hTh.out.below hB1.out (Nat.le_refl _))).mono ?_; rintro e w3 ⟨rfl, hB3⟩; have hB3 := hid (hB1.out.trans (hB3.mono hB1.out.size))))
      go_returns
      exact ⟨rfl, hB3.out⟩
    · have hm2 : 4 < m := by
        have := hkh.out
        by_cases h4 : m ≤ 4
        · exact absurd ⟨⟨q1.1, by omega⟩, by omega, h4⟩ hno
        · omega
      have d1 : decide ((m : Int) < 1) = false := decide_eq_false (by omega)
      have d2 : decide ((4 : Int) < (m : Int)) = true := decide_eq_true (by omega)
      have d3 : decide (m < 1) = false := decide_eq_false (by omega)
      have d4 : decide (4 < m) = true := decide_eq_true (by omega)
      have d5 : decide (m = 0) = false := decide_eq_false (by omega)
      have hm2h := hid hm2
      clear hno q1 hm1 hm2
      go_enter Tryd.func12, Tryd.ntmps12
      go_wp2_with (first | (go_at_call 35; (with_reducible refine (c35y (n : Nat) (r : Nat) _ hh.out).mono ?_); rintro e w1 ⟨rfl, hB1⟩; have hX1 := hid (hX0.out.below hB1 (by rw [hs0.out]; omega)); obtain ⟨p0, p1⟩ := hX1.out; have hs1 := hB1.size; rw [hs0.out] at hs1; have hB1 := hid (hB0.out.trans (hB1.mono (by rw [hs0.out]; omega)))) | (go_at_call 37; (with_reducible refine (c37 A1 b1 o1 n1 c1 f1 (k : Nat) w1 (h1h.out.below hB1.out (Nat.le_refl _)) m1.out).mono ?_); intro e w2 hr; obtain ⟨rfl, rfl⟩ := hr.un.1 q1h.out; clear hr) | (go_at_call 15; refine (hwk.out _ (hTh.out.below hB1.out (Nat.le_refl _))).mono ?_; rintro e w3 ⟨rfl, hB3⟩; have hB3 := hid (hB1.out.trans (hB3.mono hB1.out.size))))
      go_returns
      exact ⟨rfl, hB3.out⟩
  · have q1h := hid q1
    clear hno q1
    go_enter Tryd.func12, Tryd.ntmps12
    go_wp2_with (first | (go_at_call 35; (with_reducible refine (c35y (n : Nat) (r : Nat) _ hh.out).mono ?_); rintro e w1 ⟨rfl, hB1⟩; have hX1 := hid (hX0.out.below hB1 (by rw [hs0.out]; omega)); obtain ⟨p0, p1⟩ := hX1.out; have hs1 := hB1.size; rw [hs0.out] at hs1; have hB1 := hid (hB0.out.trans (hB1.mono (by rw [hs0.out]; omega)))) | (go_at_call 37; (with_reducible refine (c37 A1 b1 o1 n1 c1 f1 (k : Nat) w1 (h1h.out.below hB1.out (Nat.le_refl _)) m1.out).mono ?_); intro e w2 hr; obtain ⟨rfl, rfl⟩ := hr.un.2 q1h.out; clear hr) | (go_at_call 15; refine (hwk.out _ (hTh.out.below hB1.out (Nat.le_refl _))).mono ?_; rintro e w3 ⟨rfl, hB3⟩; have hB3 := hid (hB1.out.trans (hB3.mono hB1.out.size))))
    go_returns
    exact ⟨rfl, hB3.out⟩
end Go.Proofs.YtnndhibhnakdoaaDoor
