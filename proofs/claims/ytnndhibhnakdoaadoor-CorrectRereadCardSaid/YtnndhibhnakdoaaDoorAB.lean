/- Stage 5: the law of sums and products of code words. -/
import Derived.Test.YtnndhibhnakdoaaDoorAA
set_option linter.unusedSimpArgs false
set_option linter.unusedVariables false
namespace Go.Proofs.YtnndhibhnakdoaaDoor
open Go.RowKit Go.BigFrame Go.Sort
open Gf (S)

/-- The product of a word by a symbol. -/
def tim (C : Nat → S) (b : S) (i : Nat) : S := Gf.mu (C i) b
theorem enc_sum {n r : Nat} (hn : n ≤ 15) (hr : r ≤ n) (D E : Nat → S) : ∀ j, j < n → Gf.enc n r (noi D E) j = Gf.ad (Gf.enc n r D j) (Gf.enc n r E j) :=
  Gf.enc_same (c := fun j => Gf.ad (Gf.enc n r D j) (Gf.enc n r E j)) hn hr (fun i hi => by rw [Gf.syn_ad, Gf.enc_cw hn hr D i hi, Gf.enc_cw hn hr E i hi, Gf.ad_zero]) (fun j hj => by
    show Gf.ad (Gf.enc n r D j) (Gf.enc n r E j) = Gf.ad (D j) (E j)
    rw [Gf.enc_data D hj, Gf.enc_data E hj])
theorem enc_tim {n r : Nat} (hn : n ≤ 15) (hr : r ≤ n) (D : Nat → S) (b : S) : ∀ j, j < n → Gf.enc n r (tim D b) j = Gf.mu (Gf.enc n r D j) b :=
  Gf.enc_same (c := fun j => Gf.mu (Gf.enc n r D j) b) hn hr (fun i hi => by rw [Gf.syn_mu, Gf.enc_cw hn hr D i hi, Gf.zero_mu]) (fun j hj => by
    show Gf.mu (Gf.enc n r D j) b = Gf.mu (D j) b
    rw [Gf.enc_data D hj])
/-- Encode of the numbers of symbols. -/
theorem c18f (n r : Nat) (A : Option Addr) (b o c : Nat) (D : Nat → S) (w : World) (hT : Tab w) (h : vld (n : Nat) (r : Nat)) (hz : Ints w A b o (n - r) (nf D)) :
    Calls Tryd.prog 18 #[cv n r, .slice A (n - r) c] w fun e w' => ∃ g c', e = .returned (.tuple #[.slice (some ⟨g, 0, none⟩) n c', .int .i64 0]) ∧ w.heap.size ≤ g ∧ Ints w' (some ⟨g, 0, none⟩) g 0 n (nf (Gf.enc n r D)) ∧ Below w.heap.size w w' :=
  (c18y n r A b o c (nf D) w hT h hz (all_nf _ D)).mono fun e w' ⟨g, c', he, hg, hR, hB⟩ => ⟨g, c', he, hg, by
    have e : sy (nf D) = D := funext fun k => sy_nf D k
    rw [e] at hR
    exact hR.ints, hB⟩
theorem c18k (n r k : Nat) (hk : k = n - r) (h : vld (n : Nat) (r : Nat)) (A : Option Addr) (b o c : Nat) (D : Nat → S) (w : World) (hT : Tab w) (hz : Ints w A b o k (nf D)) :
    Calls Tryd.prog 18 #[cv n r, .slice A k c] w fun e w' => ∃ g c', e = .returned (.tuple #[.slice (some ⟨g, 0, none⟩) n c', .int .i64 0]) ∧ w.heap.size ≤ g ∧ Ints w' (some ⟨g, 0, none⟩) g 0 n (nf (Gf.enc n r D)) ∧ Below w.heap.size w w' := by
  subst hk
  exact c18f n r A b o c D w hT h hz
/-- What the law looks at. -/
def linP (n r n1 n2 : Nat) (f1 f2 : Nat → Int) (x : Int) : Prop := (0 ≤ x ∧ x ≤ 15) ∧ (allS n1 f1 ∧ n1 = n - r) ∧ (allS n2 f2 ∧ n2 = n - r)
set_option maxRecDepth 100000 in
set_option maxHeartbeats 4000000 in
theorem c10a (L P : Int) (A1 : Option Addr) (n1 c1 : Nat) (A2 : Option Addr) (n2 c2 : Nat) (A3 : Option Addr) (n3 c3 : Nat) (x : Int) (w : World) (hT : Tab w) (h : ¬ rdy L P) : Calls Tryd.prog 10 #[.agg #[.int .i64 L, .int .i64 P], .agg #[.slice A1 n1 c1, .slice A2 n2 c2, .slice A3 n3 c3], .int .i64 x] w fun e w' => e = .returned (.bool true) ∧ Below w.heap.size w w' := by
  have hh := hid h
  have hwk := hid c15
  have hTh := hid hT
  have hB0 : Hid (Below w.heap.size w (((w.alloc (.cells #[.int .i64 L, .int .i64 P] 23)).alloc (.cells #[.slice A1 n1 c1, .slice A2 n2 c2, .slice A3 n3 c3] 51)))) := hid (by (repeat' (first | (with_reducible exact Below.refl _ _) | (with_reducible assumption) | (with_reducible refine Below.alloc ?_ ?_ _) | (with_reducible refine Below.drew ?_) | (with_reducible refine below_drewN ?_ _) | (with_reducible refine Below.setCell ?_ ?_ _) | (with_reducible refine Below.trans ?_ (Below.mono (by with_reducible assumption) ?_)) | go_size)))
  clear h hT
  go_enter Tryd.func10, Tryd.ntmps10
  go_wp2_with (first | (go_at_call 35; refine (c35n L P _ hh.out).mono ?_; rintro e w1 ⟨rfl, hB1⟩; have hB1 := hid (hB0.out.trans (hB1.mono (by simp; omega)))) | (go_at_call 15; refine (hwk.out _ (hTh.out.below hB1.out (Nat.le_refl _))).mono ?_; rintro e w2 ⟨rfl, hB2⟩; have hB2 := hid (hB1.out.trans (hB2.mono hB1.out.size))))
  go_returns
  exact ⟨rfl, hB2.out⟩
set_option maxRecDepth 100000 in
set_option maxHeartbeats 4000000 in
theorem c10b (n r : Nat) (A1 : Option Addr) (b1 o1 n1 c1 : Nat) (f1 : Nat → Int) (A2 : Option Addr) (b2 o2 n2 c2 : Nat) (f2 : Nat → Int) (A3 : Option Addr) (n3 c3 : Nat) (x : Int) (w : World) (hT : Tab w) (h : rdy (n : Nat) (r : Nat)) (h1 : Sin w A1 b1 o1 n1 c1 f1) (h2 : Sin w A2 b2 o2 n2 c2 f2) (hno : ¬ linP n r n1 n2 f1 f2 x) :
    Calls Tryd.prog 10 #[cv n r, .agg #[.slice A1 n1 c1, .slice A2 n2 c2, .slice A3 n3 c3], .int .i64 x] w fun e w' => e = .returned (.bool true) ∧ Below w.heap.size w w' := by
  have hh := hid h
  have hn := vld_nat h.1
  have hwk := hid c15
  have hTh := hid hT
  have h1h := hid h1.1
  have h2h := hid h2.1
  have m1 := hid h1.2.2
  have m2 := hid h2.2.2
  have hB0 : Hid (Below w.heap.size w (((w.alloc (.cells #[.int .i64 (n : Nat), .int .i64 (r : Nat)] 23)).alloc (.cells #[.slice A1 n1 c1, .slice A2 n2 c2, .slice A3 n3 c3] 51)))) := hid (by (repeat' (first | (with_reducible exact Below.refl _ _) | (with_reducible assumption) | (with_reducible refine Below.alloc ?_ ?_ _) | (with_reducible refine Below.drew ?_) | (with_reducible refine below_drewN ?_ _) | (with_reducible refine Below.setCell ?_ ?_ _) | (with_reducible refine Below.trans ?_ (Below.mono (by with_reducible assumption) ?_)) | go_size)))
  have hX0 : Hid (NX (n : Nat) (r : Nat) A1 n1 c1 A2 n2 c2 A3 n3 c3 w.heap.size (((w.alloc (.cells #[.int .i64 (n : Nat), .int .i64 (r : Nat)] 23)).alloc (.cells #[.slice A1 n1 c1, .slice A2 n2 c2, .slice A3 n3 c3] 51)))) := hid (nx_new w)
  have hs0 : Hid ((((w.alloc (.cells #[.int .i64 (n : Nat), .int .i64 (r : Nat)] 23)).alloc (.cells #[.slice A1 n1 c1, .slice A2 n2 c2, .slice A3 n3 c3] 51))).heap.size = w.heap.size + 2) := hid (by rw [World.size_alloc, World.size_alloc])
  obtain ⟨k, hk⟩ : ∃ k, k = n - r := ⟨_, rfl⟩
  have er : (n : Int) - (r : Int) = (k : Int) := by omega
  have hkh := hid hk
  clear h hT h1 h2 hk
  by_cases hx0 : x < 0
  · have d1 : decide (x < 0) = true := decide_eq_true hx0
    clear hno
    go_enter Tryd.func10, Tryd.ntmps10
    go_wp2_with (first | (go_at_call 35; (with_reducible refine (c35y (n : Nat) (r : Nat) _ hh.out).mono ?_); rintro e w1 ⟨rfl, hB1⟩; have hX1 := hid (hX0.out.below hB1 (by rw [hs0.out]; omega)); obtain ⟨⟨p0, p1⟩, p2, p3, p4⟩ := hX1.out; have hs1 := hB1.size; rw [hs0.out] at hs1; have hB1 := hid (hB0.out.trans (hB1.mono (by rw [hs0.out]; omega)))) | (go_at_call 15; refine (hwk.out _ (hTh.out.below hB1.out (Nat.le_refl _))).mono ?_; rintro e w3 ⟨rfl, hB3⟩; have hB3 := hid (hB1.out.trans (hB3.mono hB1.out.size))))
    go_returns
    exact ⟨rfl, hB3.out⟩
  have d1 : decide (x < 0) = false := decide_eq_false hx0
  by_cases hx1 : 15 < x
  · have d2 : decide (15 < x) = true := decide_eq_true hx1
    clear hno
    go_enter Tryd.func10, Tryd.ntmps10
    go_wp2_with (first | (go_at_call 35; (with_reducible refine (c35y (n : Nat) (r : Nat) _ hh.out).mono ?_); rintro e w1 ⟨rfl, hB1⟩; have hX1 := hid (hX0.out.below hB1 (by rw [hs0.out]; omega)); obtain ⟨⟨p0, p1⟩, p2, p3, p4⟩ := hX1.out; have hs1 := hB1.size; rw [hs0.out] at hs1; have hB1 := hid (hB0.out.trans (hB1.mono (by rw [hs0.out]; omega)))) | (go_at_call 15; refine (hwk.out _ (hTh.out.below hB1.out (Nat.le_refl _))).mono ?_; rintro e w3 ⟨rfl, hB3⟩; have hB3 := hid (hB1.out.trans (hB3.mono hB1.out.size))))
    go_returns
    exact ⟨rfl, hB3.out⟩
  have d2 : decide (15 < x) = false := decide_eq_false hx1
  by_cases q1 : allS n1 f1 ∧ (n1 : Int) = (k : Int)
  · have q2 : Hid (¬ (allS n2 f2 ∧ (n2 : Int) = (k : Int))) := hid (fun q2 => hno ⟨⟨by omega, by omega⟩, ⟨q1.1, by have := q1.2; have := hkh.out; omega⟩, ⟨q2.1, by have := q2.2; have := hkh.out; omega⟩⟩)
    have q1h := hid q1
    clear hno q1
    go_enter Tryd.func10, Tryd.ntmps10
    go_wp2_with (first | (go_at_call 35; (with_reducible refine (c35y (n : Nat) (r : Nat) _ hh.out).mono ?_); rintro e w1 ⟨rfl, hB1⟩; have hX1 := hid (hX0.out.below hB1 (by rw [hs0.out]; omega)); obtain ⟨⟨p0, p1⟩, p2, p3, p4⟩ := hX1.out; have hs1 := hB1.size; rw [hs0.out] at hs1; have hB1 := hid (hB0.out.trans (hB1.mono (by rw [hs0.out]; omega)))) | (go_at_call 37; (with_reducible refine (c37 A2 b2 o2 n2 c2 f2 (k : Nat) w1 (h2h.out.below hB1.out (Nat.le_refl _)) m2.out).mono ?_); intro e w2 hr; obtain ⟨rfl, rfl⟩ := hr.un.2 q2.out; clear hr) | (go_at_call 37; (with_reducible refine (c37 A1 b1 o1 n1 c1 f1 (k : Nat) w1 (h1h.out.below hB1.out (Nat.le_refl _)) m1.out).mono ?_); intro e w2 hr; obtain ⟨rfl, rfl⟩ := hr.un.1 q1h.out; clear hr) | (go_at_call 15; refine (hwk.out _ (hTh.out.below hB1.out (Nat.le_refl _))).mono ?_; rintro e w3 ⟨rfl, hB3⟩; have hB3 := hid (hB1.out.trans (hB3.mono hB1.out.size))))
    go_returns
    exact ⟨rfl, hB3.out⟩
  · have q1h := hid q1
    clear hno q1
    go_enter Tryd.func10, Tryd.ntmps10
    go_wp2_with (first | (go_at_call 35; (with_reducible refine (c35y (n : Nat) (r : Nat) _ hh.out).mono ?_); rintro e w1 ⟨rfl, hB1⟩; have hX1 := hid (hX0.out.below hB1 (by rw [hs0.out]; omega)); obtain ⟨⟨p0, p1⟩, p2, p3, p4⟩ := hX1.out; have hs1 := hB1.size; rw [hs0.out] at hs1; have hB1 := hid (hB0.out.trans (hB1.mono (by rw [hs0.out]; omega)))) | (go_at_call 37; (with_reducible refine (c37 A1 b1 o1 n1 c1 f1 (k : Nat) w1 (h1h.out.below hB1.out (Nat.le_refl _)) m1.out).mono ?_); intro e w2 hr; obtain ⟨rfl, rfl⟩ := hr.un.2 q1h.out; clear hr) | (go_at_call 15; refine (hwk.out _ (hTh.out.below hB1.out (Nat.le_refl _))).mono ?_; rintro e w3 ⟨rfl, hB3⟩; have hB3 := hid (hB1.out.trans (hB3.mono hB1.out.size))))
    go_returns
    exact ⟨rfl, hB3.out⟩
theorem wpList_append_lies {P : Program} {w : World} {ops : Array Oper} {rest : List Oper} {o : Oper} {a : Act} {Q : Exit → Act → World → Prop} (hgd : o.guard = none) (s x : Operand) (t : TypeId)
    (ho : o.op = .call { callee := .builtin .append, args := #[s, x], argTypes := #[t, t] })
    (base : Nat) (e : TypeId) (i : TypeInfo) (z : Value) (size bytes : Nat) (ht : P.underlying t = some (.slice e)) (hi : P.info? e = some i) (hz : i.zero = some z)
    (hsize : i.size = size) (hby : i.bytes = bytes) (hzs : z.cells.size = size) (hsz : 0 < size)
    (v : Value) (n : Nat) (xs : List Value) (hs : a.eval s = v) (hown : w.ownsRow base e size v n xs)
    (ad : Addr) (m c : Nat) (news : List Value) (hx : a.eval x = .slice (some ad) m c) (hl : news.length = m * size) (hnews : ∀ j u, news[j]? = some u → w.cell? (ad.add j) = some u) (h1 : ∀ u ∈ news, u.oneCell' = true)
    (hm : 0 < m) (h63 : n + m ≤ maxLen) (hbytes : (n + m) * bytes ≤ 140737488355328) (hbase : base ≤ w.heap.size) (H : Nat) (hH : w.heap.size = H)
    (h : ∀ g cap w', w'.ownsRow base e size (.slice (some ⟨g, 0, none⟩) (n + m) cap) (n + m) (xs ++ news) → w.grownBy w' v.ownBlock → (v.ownBlock = some g ∨ g = H) → g < w'.heap.size → wpList P ops Q rest (a.put o.dst (.slice (some ⟨g, 0, none⟩) (n + m) cap)) w') :
    wpList P ops Q (o :: rest) a w :=
  wpList_plain hgd fun _ hK => wp_append_lies w s x t ho base e i z size bytes ht hi hz hsize hby hzs hsz v n xs hs hown ad m c news hx hl hnews h1 hm h63 hbytes hbase H hH fun g cap w' h2 h3 h4 h5 => hK _ _ (h g cap w' h2 h3 h4 h5)
/-- Two slices that lie in blocks of their own. -/
def Apt (u v : Value) : Prop := ∀ g, u.ownBlock = some g → v.ownBlock = some g → False
theorem owns_keep {w w' : World} {b e s : Nat} {v : Value} {n : Nat} {xs : List Value} (h : w.ownsRow b e s v n xs) (k : ∀ g, g < w.heap.size → v.ownBlock = some g → w'.heap[g]? = w.heap[g]?) : w'.ownsRow b e s v n xs := by
  obtain ⟨h1, h2⟩ := h
  refine ⟨h1, ?_⟩
  rcases h2 with h2 | ⟨g, cap, cur, h3, h4, h5, h6⟩
  · exact .inl h2
  · exact .inr ⟨g, cap, cur, h3, h4, (k g (Array.getElem?_eq_some_iff.1 h5).1 (by rw [h3]; rfl)).trans h5, h6⟩
theorem owns_lt {w : World} {b e s : Nat} {v : Value} {n : Nat} {xs : List Value} (h : w.ownsRow b e s v n xs) {g : Nat} (hg : v.ownBlock = some g) : g < w.heap.size := by
  obtain ⟨h1, h2⟩ := h
  rcases h2 with ⟨h3, _⟩ | ⟨g', cap, cur, h3, h4, h5, h6⟩
  · rw [h3] at hg; cases hg
  · rw [h3] at hg
    cases hg
    exact (Array.getElem?_eq_some_iff.1 h5).1
set_option maxRecDepth 100000 in
set_option maxHeartbeats 8000000 in
theorem c10y (n r k : Nat) (A1 : Option Addr) (b1 o1 c1 : Nat) (D : Nat → S) (A2 : Option Addr) (b2 o2 c2 : Nat) (E : Nat → S) (A3 : Option Addr) (n3 c3 : Nat) (b : S) (w : World) (hT : Tab w) (h : rdy (n : Nat) (r : Nat)) (hk : k = n - r) (h1 : Ints w A1 b1 o1 k (nf D)) (h2 : Ints w A2 b2 o2 k (nf E)) :
    Calls Tryd.prog 10 #[cv n r, .agg #[.slice A1 k c1, .slice A2 k c2, .slice A3 n3 c3], .int .i64 (b.val : Nat)] w fun e w' => e = .returned (.bool true) ∧ Below w.heap.size w w' := by
  obtain ⟨i0, ie0, ie1, ie2, ie3⟩ := info_parts Tryd.info3
  have hh := hid h
  have hv := hid h.1
  have hn := vld_nat h.1
  have hwk := hid c15
  have hTh := hid hT
  have h1h := hid h1
  have h2h := hid h2
  have lb := b.isLt
  have hB0 : Hid (Below w.heap.size w ((w.alloc (.cells #[.int .i64 (n : Nat), .int .i64 (r : Nat)] 23)).alloc (.cells #[.slice A1 k c1, .slice A2 k c2, .slice A3 n3 c3] 51))) := hid (by (repeat' (first | (with_reducible exact Below.refl _ _) | (with_reducible assumption) | (with_reducible refine Below.alloc ?_ ?_ _) | (with_reducible refine Below.drew ?_) | (with_reducible refine below_drewN ?_ _) | (with_reducible refine Below.setCell ?_ ?_ _) | (with_reducible refine Below.trans ?_ (Below.mono (by with_reducible assumption) ?_)) | go_size)))
  have hX0 : Hid (NX (n : Nat) (r : Nat) A1 k c1 A2 k c2 A3 n3 c3 w.heap.size ((w.alloc (.cells #[.int .i64 (n : Nat), .int .i64 (r : Nat)] 23)).alloc (.cells #[.slice A1 k c1, .slice A2 k c2, .slice A3 n3 c3] 51))) := hid (nx_new w)
  have hs0 : Hid (((w.alloc (.cells #[.int .i64 (n : Nat), .int .i64 (r : Nat)] 23)).alloc (.cells #[.slice A1 k c1, .slice A2 k c2, .slice A3 n3 c3] 51)).heap.size = w.heap.size + 2) := hid (by rw [World.size_alloc, World.size_alloc])
  have er : (n : Int) - (r : Int) = (k : Int) := by omega
  have hkh := hid hk
  have hk15 : k ≤ 15 := by omega
  have hk0 : 0 < k := by omega
  have hn15 : n ≤ 15 := by omega
  have hrn : Hid (r ≤ n) := hid (by omega)
  have cT := hid (fun (a : S) W => c42 a b W)
  have cEh := hid (fun (A : Option Addr) (b o c : Nat) (D : Nat → S) (W : World) => c18k n r k hk h.1 A b o c D W)
  have fS := hid (enc_sum hn15 (by omega) D E : ∀ j, j < n → Gf.enc n r (noi D E) j = Gf.ad (Gf.enc n r D j) (Gf.enc n r E j))
  have fT := hid (enc_tim hn15 (by omega) D b : ∀ j, j < n → Gf.enc n r (tim D b) j = Gf.mu (Gf.enc n r D j) b)
  obtain ⟨bv, hbv⟩ : ∃ bv, bv = b.val := ⟨_, rfl⟩
  have cT2 := cT.out
  simp only [← hbv] at cT2
  have cTh := hid cT2
  rw [← hbv] at lb ⊢
  have dx1 : decide ((bv : Int) < 0) = false := decide_eq_false (by omega)
  have dx2 : decide ((15 : Int) < (bv : Int)) = false := decide_eq_false (by omega)
  have dx3 : decide (15 < bv) = false := decide_eq_false (by omega)
  clear h hT h1 h2 hk cT cT2 hbv
  go_enter Tryd.func10, Tryd.ntmps10
  go_wp2_with (first | (go_at_call 35; (with_reducible refine (c35y (n : Nat) (r : Nat) _ hh.out).mono ?_); rintro e w1 ⟨rfl, hB1⟩; have hX1 := hid (hX0.out.below hB1 (by rw [hs0.out]; omega)); obtain ⟨⟨p0, p1⟩, p2, p3, p4⟩ := hX1.out; have hs1 := hB1.size; rw [hs0.out] at hs1; have hB1 := hid (hB0.out.trans (hB1.mono (by rw [hs0.out]; omega)))) | (go_at_call 37; (with_reducible refine (c37 A1 b1 o1 k c1 (nf D) (k : Nat) w1 (h1h.out.below hB1.out (Nat.le_refl _)) (by omega)).mono ?_); intro e w2 hr; obtain ⟨rfl, rfl⟩ := hr.un.1 ⟨all_nf k D, rfl⟩; clear hr) | (go_at_call 37; (with_reducible refine (c37 A2 b2 o2 k c2 (nf E) (k : Nat) w1 (h2h.out.below hB1.out (Nat.le_refl _)) (by omega)).mono ?_); intro e w2 hr; obtain ⟨rfl, rfl⟩ := hr.un.1 ⟨all_nf k E, rfl⟩; clear hr))
  clear p0 p1 p2 p3 p4
  go_loopw [7, 8, 9] (fun sv tv iv wr => ∃ i : Nat, i ≤ k ∧ iv = .int .i64 i ∧ wr.ownsRow w1.heap.size 3 1 sv i (vals i (nf (noi D E))) ∧ wr.ownsRow w1.heap.size 3 1 tv i (vals i (nf (tim D b))) ∧ Apt sv tv ∧ Below w1.heap.size w1 wr) (fun _ _ iv _ => k - (intOf iv).toNat)
  case atStart => exact ⟨0, Nat.zero_le _, rfl, World.ownsRow_nil _ _ _ _, World.ownsRow_nil _ _ _ _, (fun g h => by cases h), Below.refl _ _⟩
  case round =>
    obtain ⟨i, hi, rfl, hs, ht, hap, hB⟩ := hrel
    have hXr := hX1.out.below hB (by omega)
    obtain ⟨⟨p0, p1⟩, p2, p3, p4⟩ := hXr
    have hsz := hB.size
    by_cases hlt : i < k
    · have z1 := h1h.out.below (hB1.out.trans (hB.mono hB1.out.size)) (Nat.le_refl _)
      have z2 := h2h.out.below (hB1.out.trans (hB.mono hB1.out.size)) (Nat.le_refl _)
      have a1 := z1.ce i hlt
      have a2 := z2.ce i hlt
      have b1' := fun w' => @Ints.ix _ _ _ _ _ c1 _ z1 _ hlt w'
      have b2' := fun w' => @Ints.ix _ _ _ _ _ c2 _ z2 _ hlt w'
      have l1 := h1h.out.lt i hlt
      have l2 := h2h.out.lt i hlt
      have lw : w.heap.size < w1.heap.size := by omega
      have e := xi_all (D i) (E i)
      have cD := fun W => cTh.out (D i) W
      obtain ⟨x, hx⟩ : ∃ x, x = (D i).val := ⟨_, rfl⟩
      obtain ⟨y, hy⟩ : ∃ y, y = (E i).val := ⟨_, rfl⟩
      obtain ⟨z, hzz⟩ : ∃ z, z = (Gf.ad (D i) (E i)).val := ⟨_, rfl⟩
      obtain ⟨u, hu⟩ : ∃ u, u = (Gf.mu (D i) b).val := ⟨_, rfl⟩
      unfold nf at a1 a2
      rw [← hx, ← hy, ← hzz] at e
      rw [← hx] at a1
      rw [← hy] at a2
      rw [← hx, ← hu] at cD
      have cDh := hid cD
      have hzzh := hid hzz
      have huh := hid hu
      have hxh := hid hx
      have hsh := hid hs
      have hth := hid ht
      have haph := hid hap
      have hBh := hid hB
      have l1' : b1 < wr.heap.size := by omega
      have l2' : b2 < wr.heap.size := by omega
      clear z1 z2 hx hy hzz hu hs ht hap cD hB
      go_wp2_with fail
      go_region_held3 (fun w' => (w'.cell? ⟨w.heap.size + 1, 0, none⟩ = some (.slice A1 k c1) ∧ w'.cell? ⟨w.heap.size + 1, 1, none⟩ = some (.slice A2 k c2)) ∧ w'.cell? ⟨b1, o1 + i, none⟩ = some (.int .i64 (x : Nat)) ∧ w'.cell? ⟨b2, o2 + i, none⟩ = some (.int .i64 (y : Nat)))
        (first | go_keep | (go_split_ands; refine ⟨⟨?_, ?_⟩, ?_, ?_⟩ <;> (rw [hgrow.cell_far _ (by simp; omega) (by intro e; have h9 := (hsh.out.lt _ e.symm).1; dsimp only at h9; omega)]; assumption)))
        ((refine step_append_lies _ (by rfl) _ _ _ (by rfl) w1.heap.size 3 i0 _ 1 8 Tryd.underlying24 ie0 ie1 ie2 ie3 rfl (by omega) _ i _ (by rfl) ((hsh.out.alloc _).drew) ⟨wr.heap.size, 0, none⟩ 1 1 [.int .i64 (z : Nat)] (by rfl) (by rfl) (World.news_of_block (cs := #[.int .i64 (z : Nat)]) (t := 3) (fr := (0, 0)) (heap_new wr _)) (by simp [Value.oneCell']) (by omega) (by unfold maxLen; omega) (by omega) (by simp; omega) (wr.heap.size + 1) (by simp) ?_; intro gg cap w7 hown7 hgrow hat hlt7))
      have hB7 : Below w1.heap.size w1 w7 := ((hBh.out.alloc hBh.out.size _).drew).grown hgrow (by simp; omega) (fun q e => (hsh.out.lt q e).1)
      have ht7 : Hid (w7.ownsRow w1.heap.size 3 1 u8 i (vals i (nf (tim D b)))) := hid (owns_keep ((hth.out.alloc (.cells #[.int .i64 (z : Nat)] 3)).drew) (fun g hg hgo => hgrow.block g hg (fun e => haph.out g e.symm hgo)))
      have hap7 : Hid (∀ g, u8.ownBlock = some g → g ≠ gg) := hid (fun g hg e => by
        subst e
        rcases hat with hat | hat
        · exact haph.out g hat hg
        · have := owns_lt hth.out hg; omega)
      have hs7h := hid hown7
      have hs7 := hB7.size
      have hX7 := hid (hX1.out.below hB7 (by omega))
      have x7 := hX7.out
      have y2 := x7.2.1
      have z7 := h1h.out.below (hB1.out.trans (hB7.mono hB1.out.size)) (Nat.le_refl _)
      have a7 := z7.ce i hlt
      unfold nf at a7
      rw [← hxh.out] at a7
      have hgg := (hs7h.out.lt gg rfl).1
      clear hgrow hat e x7 z7 p0 p1 p2 p3 p4 a1 a2
      go_wp2_with (first | (go_at_call 42; refine (cDh.out _).mono ?_; rintro e w8 ⟨rfl, rfl⟩) | (at_builtin; refine wpList_append_lies rfl (.tmp 74) (.tmp 82) 24 rfl w1.heap.size 3 i0 _ 1 8 Tryd.underlying24 ie0 ie1 ie2 ie3 rfl (by omega) _ i _ rfl (ht7.out.alloc _) ⟨w7.heap.size, 0, none⟩ 1 1 [.int .i64 (u : Nat)] rfl rfl (World.news_of_block (cs := #[.int .i64 (u : Nat)]) (t := 3) (fr := (0, 0)) (heap_new w7 _)) (by simp [Value.oneCell']) (by omega) (by unfold maxLen; omega) (by omega) (by simp; omega) (w7.heap.size + 1) (by simp) ?_; intro g2 cap2 w9 hown9 hgrow9 hat9 hlt9))
      have hB9 : Below w1.heap.size w1 w9 := (hB7.alloc hB7.size _).grown hgrow9 (by simp; omega) (fun q e => (ht7.out.lt q e).1)
      have hs9 : Hid (w9.ownsRow w1.heap.size 3 1 (.slice (some ⟨gg, 0, none⟩) (i + 1) cap) (i + 1) (vals (i + 1) (nf (noi D E)))) := hid (by
        rw [vals_succ]
        have e9 : nf (noi D E) i = (z : Nat) := by rw [hzzh.out]; rfl
        rw [e9]
        exact owns_keep (hs7h.out.alloc _) (fun g hg hgo => hgrow9.block g hg (fun e => by cases hgo; exact hap7.out gg e.symm rfl)))
      have ht9 : Hid (w9.ownsRow w1.heap.size 3 1 (.slice (some ⟨g2, 0, none⟩) (i + 1) cap2) (i + 1) (vals (i + 1) (nf (tim D b)))) := hid (by
        rw [vals_succ]
        have e9 : nf (tim D b) i = (u : Nat) := by rw [huh.out]; rfl
        rw [e9]
        exact hown9)
      have hap9 : Hid (Apt (.slice (some ⟨gg, 0, none⟩) (i + 1) cap) (.slice (some ⟨g2, 0, none⟩) (i + 1) cap2)) := hid (fun g h1 h2 => by
        cases h1
        cases h2
        rcases hat9 with hat9 | hat9
        · exact hap7.out _ hat9 rfl
        · omega)
      clear hown9 hgrow9
      go_roundw
      case rel => exact ⟨i + 1, by omega, by go_num, hs9.out, ht9.out, hap9.out, hB9⟩
      case measure => simp [intOf]; omega
    · have hik : i = k := by omega
      have dk : decide ((i : Int) < (k : Int)) = false := decide_eq_false (by omega)
      have dk' : decide (i < k) = false := decide_eq_false (by omega)
      rw [hik] at hs ht
      obtain ⟨g7, k7, rfl, I7⟩ := own_vals hs hk0
      obtain ⟨g8, k8, rfl, I8⟩ := own_vals ht hk0
      have hXr : Hid (NX (n : Nat) (r : Nat) A1 k c1 A2 k c2 A3 n3 c3 w.heap.size wr) := hid ⟨⟨p0, p1⟩, p2, p3, p4⟩
      have z1r := hid (h1h.out.below (hB1.out.trans (hB.mono hB1.out.size)) (Nat.le_refl _))
      have z2r := hid (h2h.out.below (hB1.out.trans (hB.mono hB1.out.size)) (Nat.le_refl _))
      have I7h := hid I7
      have I8h := hid I8
      have hBr := hid (hB1.out.trans (hB.mono hB1.out.size))
      clear hs ht hap hB hik I7 I8
      go_wp2_with (first | (go_at_call 18; (with_reducible refine (cEh.out (some ⟨g8, 0, none⟩) g8 0 k8 (tim D b) w5 (hTh.out.below hB5.out (Nat.le_refl _)) I85.out).mono ?_); rintro e w6 ⟨g6, k6, rfl, hg6, I6, hB6⟩; replace I6 := hid I6; have hX6 := hid (hX5.out.below hB6 (by omega)); obtain ⟨⟨p0, p1⟩, p2, p3, p4⟩ := hX6.out; have hs6 := hB6.size; have I36 := hid (I35.out.below hB6 (Nat.le_refl _)); have I46 := hid (I45.out.below hB6 (Nat.le_refl _)); have I56 := hid (I5.out.below hB6 (Nat.le_refl _)); replace hB6 := hid (hB5.out.trans (hB6.mono hB5.out.size)); clear hg6) | (go_at_call 18; (with_reducible refine (cEh.out (some ⟨g7, 0, none⟩) g7 0 k7 (noi D E) w4 (hTh.out.below hB4.out (Nat.le_refl _)) I74.out).mono ?_); rintro e w5 ⟨g5, k5, rfl, hg5, I5, hB5⟩; replace I5 := hid I5; have hX5 := hid (hX4.out.below hB5 (by omega)); obtain ⟨⟨p0, p1⟩, p2, p3, p4⟩ := hX5.out; have hs5 := hB5.size; have I35 := hid (I34.out.below hB5 (Nat.le_refl _)); have I45 := hid (I4.out.below hB5 (Nat.le_refl _)); have I85 := hid (I84.out.below hB5 (Nat.le_refl _)); replace hB5 := hid (hB4.out.trans (hB5.mono hB4.out.size)); clear hg5) | (go_at_call 18; (with_reducible refine (cEh.out A2 b2 o2 c2 E w3 (hTh.out.below hB3.out (Nat.le_refl _)) z23.out).mono ?_); rintro e w4 ⟨g4, k4, rfl, hg4, I4, hB4⟩; replace I4 := hid I4; have hX4 := hid (hX3.out.below hB4 (by omega)); obtain ⟨⟨p0, p1⟩, p2, p3, p4⟩ := hX4.out; have hs4 := hB4.size; have I34 := hid (I3.out.below hB4 (Nat.le_refl _)); have I74 := hid (I73.out.below hB4 (Nat.le_refl _)); have I84 := hid (I83.out.below hB4 (Nat.le_refl _)); replace hB4 := hid (hB3.out.trans (hB4.mono hB3.out.size)); clear hg4) | (go_at_call 18; (with_reducible refine (cEh.out A1 b1 o1 c1 D wr (hTh.out.below hBr.out (Nat.le_refl _)) z1r.out).mono ?_); rintro e w3 ⟨g3, k3, rfl, hg3, I3, hB3⟩; replace I3 := hid I3; have hX3 := hid (hXr.out.below hB3 (by omega)); obtain ⟨⟨p0, p1⟩, p2, p3, p4⟩ := hX3.out; have hs3 := hB3.size; have z23 := hid (z2r.out.below hB3 (Nat.le_refl _)); have I73 := hid (I7h.out.below hB3 (Nat.le_refl _)); have I83 := hid (I8h.out.below hB3 (Nat.le_refl _)); replace hB3 := hid (hBr.out.trans (hB3.mono hBr.out.size)); clear hg3))
      clear p0 p1 p2 p3 p4
      go_loopw [18] (fun iv wy => ∃ j : Nat, j ≤ n ∧ iv = .int .i64 j ∧ Below w6.heap.size w6 wy) (fun iv _ => n - (intOf iv).toNat)
      case atStart => exact ⟨0, Nat.zero_le _, rfl, Below.refl _ _⟩
      case round =>
        obtain ⟨j, hj, rfl, hB7⟩ := hrel
        have hX7 := hX6.out.below hB7 (by omega)
        obtain ⟨⟨p0, p1⟩, p2, p3, p4⟩ := hX7
        by_cases hlj : j < n
        · have y1 := I36.out.below hB7 (Nat.le_refl _)
          have y2 := I46.out.below hB7 (Nat.le_refl _)
          have y3 := I56.out.below hB7 (Nat.le_refl _)
          have y4 := I6.out.below hB7 (Nat.le_refl _)
          have a1 := y1.ce j hlj
          have a2 := y2.ce j hlj
          have a3 := y3.ce j hlj
          have a4 := y4.ce j hlj
          have i1 := fun w' => @Ints.ix _ _ _ _ _ k3 _ y1 j hlj w'
          have i2 := fun w' => @Ints.ix _ _ _ _ _ k4 _ y2 j hlj w'
          have i3 := fun w' => @Ints.ix _ _ _ _ _ k5 _ y3 j hlj w'
          have i4 := fun w' => @Ints.ix _ _ _ _ _ k6 _ y4 j hlj w'
          unfold nf at a1 a2 a3 a4
          rw [fS.out j hlj] at a3
          rw [fT.out j hlj] at a4
          simp only [Nat.zero_add] at a1 a2 a3 a4 i1 i2 i3 i4
          have e := xi_all (Gf.enc n r D j) (Gf.enc n r E j)
          have cD := fun W => cTh.out (Gf.enc n r D j) W
          obtain ⟨x, hx⟩ : ∃ x, x = (Gf.enc n r D j).val := ⟨_, rfl⟩
          obtain ⟨y, hy⟩ : ∃ y, y = (Gf.enc n r E j).val := ⟨_, rfl⟩
          obtain ⟨z, hzz⟩ : ∃ z, z = (Gf.ad (Gf.enc n r D j) (Gf.enc n r E j)).val := ⟨_, rfl⟩
          obtain ⟨u, hu⟩ : ∃ u, u = (Gf.mu (Gf.enc n r D j) b).val := ⟨_, rfl⟩
          rw [← hx, ← hy, ← hzz] at e
          rw [← hx] at a1
          rw [← hy] at a2
          rw [← hzz] at a3
          rw [← hu] at a4
          rw [← hx, ← hu] at cD
          have cDh := hid cD
          have d1 := cell_regrown a1
          have d2 := cell_regrown a2
          have d3 := cell_regrown a3
          have d4 := cell_regrown a4
          have hBh := hid hB7
          clear y1 y2 y3 y4 hx hy hzz hu cD hB7
          go_wp2_with fail
          refine wp_region_quiet_below (by kernel_rfl) (by kernel_rfl) ?_; (repeat (go_big_quiet_step ((first | (go_at_call 42; exact Calls.regrown_of ((cDh.out _).mono (fun _ _ h => ⟨h.1, h.2 ▸ Below.refl _ _⟩))))))); refine wpQuiet_nil ?_; intro _ hw; obtain ⟨q, hwq⟩ := hw; subst hwq
          go_wp2_with fail
          go_roundw
          case rel => exact ⟨j + 1, by omega, by go_num, hBh.out.trans ((below_regrown _ _ _).mono hBh.out.size)⟩
          case measure => simp [intOf]; omega
        · have hB7 := hid (hB6.out.trans (hB7.mono hB6.out.size))
          go_wp2_with (go_at_call 15; refine (hwk.out _ (hTh.out.below hB7.out (Nat.le_refl _))).mono ?_; rintro e w8 ⟨rfl, hB8⟩; have hB8 := hid (hB7.out.trans (hB8.mono hB7.out.size)))
          go_returns
          exact ⟨rfl, hB8.out⟩
theorem c10 (L P : Int) (A1 : Option Addr) (b1 o1 n1 c1 : Nat) (f1 : Nat → Int) (A2 : Option Addr) (b2 o2 n2 c2 : Nat) (f2 : Nat → Int) (A3 : Option Addr) (b3 o3 n3 c3 : Nat) (f3 : Nat → Int) (x : Int) (w : World) (hT : Tab w) (h1 : Sin w A1 b1 o1 n1 c1 f1) (h2 : Sin w A2 b2 o2 n2 c2 f2) (_ : Sin w A3 b3 o3 n3 c3 f3) :
    Calls Tryd.prog 10 #[.agg #[.int .i64 L, .int .i64 P], .agg #[.slice A1 n1 c1, .slice A2 n2 c2, .slice A3 n3 c3], .int .i64 x] w fun e w' => e = .returned (.bool true) ∧ Below w.heap.size w w' := by
  by_cases h : rdy L P
  · obtain ⟨n, r, rfl, rfl⟩ := vld_of h.1
    by_cases hl : linP n r n1 n2 f1 f2 x
    · obtain ⟨hx, ⟨ha1, hn1⟩, ⟨ha2, hn2⟩⟩ := hl
      obtain ⟨b, rfl⟩ : ∃ b : S, x = ((b.val : Nat) : Int) := ⟨⟨x.toNat, by omega⟩, by show x = ((x.toNat : Nat) : Int); omega⟩
      subst hn1
      subst hn2
      exact c10y n r (n - r) A1 b1 o1 c1 (sy f1) A2 b2 o2 c2 (sy f2) A3 n3 c3 b w hT h rfl (h1.1.congr (fun k hk => nf_sy ha1 hk)) (h2.1.congr (fun k hk => nf_sy ha2 hk))
    · exact c10b n r A1 b1 o1 n1 c1 f1 A2 b2 o2 n2 c2 f2 A3 n3 c3 x w hT h h1 h2 hl
  · exact c10a L P A1 n1 c1 A2 n2 c2 A3 n3 c3 x w hT h
end Go.Proofs.YtnndhibhnakdoaaDoor
