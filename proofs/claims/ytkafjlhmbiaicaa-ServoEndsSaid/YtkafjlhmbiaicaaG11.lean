/- Texts put together: Rk, Sa. -/
import Derived.Test.YtkafjlhmbiaicaaG10
import Derived.Laws.AppendOwnNone
/- Stage 2: an append of what came in, nil or not; copies of wedges; whether positions of spans are in other ones. -/
set_option linter.unusedSimpArgs false
set_option linter.unusedVariables false
namespace Go.Proofs.Ytkafjlhmbiaicaa
open Go.RowKit Go.Sort

theorem app_src {P : Program} {w : World} {ops : Array Oper} {rest : List Oper} {o : Oper} {a : Act} {Q : Exit → Act → World → Prop} (hgd : o.guard = none) (s x : Operand) (t : TypeId)
    (ho : o.op = .call { callee := .builtin .append, args := #[s, x], argTypes := #[t, t] }) (base : Nat) (e : TypeId) (i : TypeInfo) (z : Value) (size bytes : Nat)
    (ht : P.underlying t = some (.slice e)) (hi : P.info? e = some i) (hz : i.zero = some z) (hsize : i.size = size) (hby : i.bytes = bytes) (hzs : z.cells.size = size) (hsz : 0 < size)
    (v : Value) (n : Nat) (xs : List Value) (hs : a.eval s = v) (hown : w.ownsRow base e size v n xs) (A : Option Addr) (m c : Nat) (news : List Value) (hx : a.eval x = .slice A m c)
    (hnil : A = none → m = 0 ∧ c = 0) (hl : news.length = m * size) (hcells : ∀ ad, A = some ad → ∀ j u, news[j]? = some u → w.cell? (ad.add j) = some u) (h1 : ∀ u ∈ news, u.oneCell' = true)
    (h63 : n + m ≤ maxLen) (hbytes : (n + m) * bytes ≤ 140737488355328) (hbase : base ≤ w.heap.size)
    (h : ∀ v' w', w'.ownsRow base e size v' (n + m) (xs ++ news) → w.grownBy w' v.ownBlock → (v' = .slice none 0 0 → v = .slice none 0 0) → wpList P ops Q rest (a.put o.dst v') w') : wpList P ops Q (o :: rest) a w := by
  cases A with
  | none =>
    obtain ⟨rfl, rfl⟩ := hnil rfl
    have hn : news = [] := List.eq_nil_of_length_eq_zero (by omega)
    subst hn
    exact wpList_append_own_none hgd s x t ho base e i size ht hi v n xs hs hown hx (h v w (by simpa using hown) (World.grownBy.refl w _) (fun e => e))
  | some ad => exact wpList_append_own w hgd s x t ho base e i z size bytes ht hi hz hsize hby hzs hsz v n xs hs hown ad m c news hx hl (hcells ad rfl) h1 h63 hbytes hbase (fun v' w' h2 h3 h4 => h v' w' h2 h3 (fun e => (h4.1 e).1))
theorem Try.info46 : (Try.prog.info? 46).map (fun i => (i.zero, i.size, i.bytes)) = some (some (.agg #[.int .i64 0, .int .i64 0]), 2, 16) := by kernel_rfl
/-- The values of n wedges. -/
def encW (n : Nat) (f g : Nat → Int) : List Value := (List.range n).flatMap fun k => [.int .i64 (f k), .int .i64 (g k)]
theorem encW_succ (n : Nat) (f g : Nat → Int) : encW (n + 1) f g = encW n f g ++ [.int .i64 (f n), .int .i64 (g n)] := by simp [encW, List.range_succ]
theorem encW_len (n : Nat) (f g : Nat → Int) : (encW n f g).length = n * 2 := by
  induction n with
  | zero => rfl
  | succ n ih => rw [encW_succ, List.length_append, ih]; simp; omega
theorem encW_at (f g : Nat → Int) : ∀ (n k : Nat), k < n → (encW n f g)[k * 2]? = some (.int .i64 (f k)) ∧ (encW n f g)[k * 2 + 1]? = some (.int .i64 (g k))
  | 0, k, h => absurd h (Nat.not_lt_zero _)
  | n + 1, k, h => by
    rw [encW_succ]
    by_cases e : k = n
    · subst e
      rw [List.getElem?_append_right (by rw [encW_len]; omega), List.getElem?_append_right (by rw [encW_len]; omega), encW_len, Nat.sub_self, show k * 2 + 1 - k * 2 = 1 by omega]
      exact ⟨rfl, rfl⟩
    · have ih := encW_at f g n k (by omega)
      rw [List.getElem?_append_left (by rw [encW_len]; omega), List.getElem?_append_left (by rw [encW_len]; omega)]
      exact ih
theorem encW_one (n : Nat) (f g : Nat → Int) : ∀ u ∈ encW n f g, u.oneCell' = true := by
  intro u hu
  obtain ⟨k, _, h⟩ := List.mem_flatMap.1 hu
  simp only [List.mem_cons, List.not_mem_nil, or_false] at h
  rcases h with rfl | rfl <;> rfl
theorem encW_congr {n : Nat} {f g f' g' : Nat → Int} (h : ∀ k, k < n → f k = f' k ∧ g k = g' k) : encW n f g = encW n f' g' := by
  induction n with
  | zero => rfl
  | succ n ih => rw [encW_succ, encW_succ, ih (fun k hk => h k (by omega)), (h n (by omega)).1, (h n (by omega)).2]
theorem encW_set (n k : Nat) (f g : Nat → Int) (x y : Int) (hk : k < n) : ((encW n f g).set (k * 2) (.int .i64 x)).set (k * 2 + 1) (.int .i64 y) = encW n (fun j => if j = k then x else f j) (fun j => if j = k then y else g j) := by
  apply List.ext_getElem?
  intro j
  by_cases hj : j < n * 2
  · have hm : j = j / 2 * 2 + j % 2 := by omega
    have h1 := encW_at f g n (j / 2) (by omega)
    have h2 := encW_at (fun j => if j = k then x else f j) (fun j => if j = k then y else g j) n (j / 2) (by omega)
    (try dsimp only at h2)
    rcases (show j % 2 = 0 ∨ j % 2 = 1 by omega) with h0 | h0
    · rw [show j = j / 2 * 2 by omega]
      rw [h2.1, List.getElem?_set_ne (by omega)]
      by_cases e : j / 2 = k
      · rw [if_pos e, e, List.getElem?_set_self (by rw [encW_len]; omega)]
      · rw [if_neg e, List.getElem?_set_ne (by omega), h1.1]
    · rw [show j = j / 2 * 2 + 1 by omega]
      rw [h2.2]
      by_cases e : j / 2 = k
      · rw [if_pos e, e, List.getElem?_set_self (by rw [List.length_set, encW_len]; omega)]
      · rw [if_neg e, List.getElem?_set_ne (by omega), List.getElem?_set_ne (by omega), h1.2]
  · rw [List.getElem?_eq_none (by rw [List.length_set, List.length_set, encW_len]; omega), List.getElem?_eq_none (by rw [encW_len]; omega)]
theorem Weds.cells {w : World} {A : Option Addr} {b o n : Nat} {f g : Nat → Int} (hz : Weds w A b o n f g) : ∀ ad, A = some ad → ∀ j u, (encW n f g)[j]? = some u → w.cell? (ad.add j) = some u := by
  intro ad had j u hj
  have hlt : j < n * 2 := by
    have := (List.getElem?_eq_some_iff.1 hj).1
    rwa [encW_len] at this
  have hk : j / 2 < n := by omega
  have e := hz.ad _ hk
  rw [had] at e
  cases e
  have ha : (⟨b, o, none⟩ : Addr).add j = ⟨b, o + j, none⟩ := by unfold Addr.add; split <;> simp_all
  rw [ha]
  have h1 := encW_at f g n _ hk
  rcases (show j % 2 = 0 ∨ j % 2 = 1 by omega) with h0 | h0
  · rw [show o + j = o + j / 2 * 2 by omega, hz.c1 _ hk]
    rw [show j = j / 2 * 2 by omega, h1.1] at hj
    exact hj
  · rw [show o + j = o + j / 2 * 2 + 1 by omega, hz.c2 _ hk]
    rw [show j = j / 2 * 2 + 1 by omega, h1.2] at hj
    exact hj
theorem Weds.nil_ {w : World} {A : Option Addr} {b o n : Nat} {f g : Nat → Int} (hz : Weds w A b o n f g) (h : A = none) : n = 0 := by
  rcases Nat.eq_zero_or_pos n with h0 | h0
  · exact h0
  · have := hz.ad 0 h0; rw [h] at this; cases this
/-- Wedges in memory of the call's own. -/
def ownG (x n c : Nat) (f g : Nat → Int) : Wg := { wa := some ⟨x, 0, none⟩, wb := x, wo := 0, wn := n, wk := c, wc := f, wu := g }
theorem ownG_in {w : World} {b x n c : Nat} {f g : Nat → Int} (h : w.ownsRow b 46 2 (.slice (some ⟨x, 0, none⟩) n c) n (encW n f g)) : (ownG x n c f g).In w := by
  have hlt := (h.lt x rfl).2
  refine ⟨fun _ _ => rfl, fun _ _ => hlt, fun k hk => ?_, fun k hk => ?_⟩ <;> simp only [ownG, Nat.zero_add] <;> simp only [ownG] at hk
  · rw [h.cellAt _ (by omega)]; exact (encW_at f g n k hk).1
  · rw [h.cellAt _ (by omega)]; exact (encW_at f g n k hk).2

theorem c21yn {A : Option Addr} {a c n : Nat} {l : List (Nat × Nat)} {x : Int} {w : World} (hn : n = l.length) (h1 : SpIn w A a l) (hl : l.length ≤ 10000) (p : inSp l x) :
    Calls Try.prog 21 #[.slice A n c, .int .i64 x] w fun e w' => e = .returned (.bool true) ∧ Below w.heap.size w w' := by
  subst hn; exact c21y h1 hl p
theorem c21nn {A : Option Addr} {a c n : Nat} {l : List (Nat × Nat)} {x : Int} {w : World} (hn : n = l.length) (h1 : SpIn w A a l) (hl : l.length ≤ 10000) (p : ¬ inSp l x) :
    Calls Try.prog 21 #[.slice A n c, .int .i64 x] w fun e w' => e = .returned (.bool false) ∧ Below w.heap.size w w' := by
  subst hn; exact c21n h1 hl p
set_option maxRecDepth 100000 in
set_option maxHeartbeats 2000000 in
theorem c31 (s : Sv) (A B : Option Addr) (a b c d : Nat) (l m : List (Nat × Nat)) (w : World) (ok : s.Ok) (h1 : SpIn w A a l) (h2 : SpIn w B b m) (hl : l.length ≤ 10000) (hm : m.length ≤ 10000) (hsub : ∀ x : Nat, x < s.N → inSp l x → inSp m x) :
    Calls Try.prog 31 #[s.v, .slice A l.length c, .slice B m.length d] w fun e w' => e = .returned (.bool true) ∧ Below w.heap.size w w' := by
  have hN := ok.Nb
  have hN1 := hN.1; have hN2 := hN.2.1
  have okh := hid ok
  have hsubh := hid hsub
  have h1h := hid h1
  have h2h := hid h2
  obtain ⟨n1, hn1⟩ : ∃ n1, n1 = l.length := ⟨_, rfl⟩
  obtain ⟨n2, hn2⟩ : ∃ n2, n2 = m.length := ⟨_, rfl⟩
  have hn1h := hid hn1
  have hn2h := hid hn2
  have hlh := hid hl
  have hmh := hid hm
  rw [← hn1, ← hn2]
  obtain ⟨W0, hW0⟩ : ∃ W0 : World, W0 = w.alloc (.cells #[.int .i64 s.tr, .int .i64 s.st, .int .i64 s.mv, .int .i64 s.no, .int .i64 s.wr, .slice s.ra s.rn s.rc] 30) := ⟨_, rfl⟩
  have hB0 : Below w.heap.size w W0 := by rw [hW0]; exact (Below.refl _ _).alloc (Nat.le_refl _) _
  have hsv : Svb s W0 w.heap.size := by rw [hW0]; exact Svb.new s w
  have hs0 : W0.heap.size = w.heap.size + 1 := by rw [hW0]; simp
  clear ok hN hsub h1 h2 hn1 hn2 hl hm
  go_enter Try.func31, Try.ntmps31
  go_wp2_with fail
  rw [← hW0]
  clear hW0
  go_loopw [7] (fun iv wr => ∃ k : Nat, k ≤ s.N ∧ iv = .int .i64 k ∧ Below W0.heap.size W0 wr) (fun iv _ => s.N - (intOf iv).toNat)
  case atStart => exact ⟨0, Nat.zero_le _, rfl, Below.refl _ _⟩
  case round =>
    obtain ⟨k, hk, rfl, hB⟩ := hrel
    have hBw : Below w.heap.size w wr := hB0.trans (hB.mono (by omega))
    obtain ⟨q0, q1, q2, q3, q4, q5⟩ := (hsv.below hB (by omega)).all
    by_cases hlt : k < s.N
    · have hlt2 : (k : Int) ≤ (s.N : Int) - 1 := by omega
      by_cases hy : inSp l k
      · have hyh := hid hy
        have hyh2 := hid (hsubh.out k hlt hy)
        have tok1 : True := trivial
        clear hy
        go_wp2_with (first | (go_at_call 27; refine (c27 s _ okh.out).mono ?_; rintro e w1 ⟨rfl, hB1⟩; have hBx : Below w.heap.size w w1 := hBw.trans (hB1.mono hBw.size)) | (go_at_call 21; have _t := tok1; refine (c21yn hn1h.out (h1h.out.below hBx (Nat.le_refl _)) hlh.out hyh.out).mono ?_; clear tok1; rintro e w2 ⟨rfl, hB2⟩; have hBy : Below w.heap.size w w2 := hBx.trans (hB2.mono hBx.size)) | (go_at_call 21; refine (c21yn hn2h.out (h2h.out.below hBy (Nat.le_refl _)) hmh.out hyh2.out).mono ?_; rintro e w3 ⟨rfl, hB3⟩))
        go_roundw
        case rel => exact ⟨k + 1, by omega, by go_num, hB.trans ((hB1.trans ((hB2.trans (hB3.mono hB2.size)).mono hB1.size)).mono hB.size)⟩
        case measure => simp [intOf]; omega
      · have hyh := hid hy
        clear hy
        go_wp2_with (first | (go_at_call 27; refine (c27 s _ okh.out).mono ?_; rintro e w1 ⟨rfl, hB1⟩; have hBx : Below w.heap.size w w1 := hBw.trans (hB1.mono hBw.size)) | (go_at_call 21; refine (c21nn hn1h.out (h1h.out.below hBx (Nat.le_refl _)) hlh.out hyh.out).mono ?_; rintro e w2 ⟨rfl, hB2⟩))
        go_roundw
        case rel => exact ⟨k + 1, by omega, by go_num, hB.trans ((hB1.trans (hB2.mono hB1.size)).mono hB.size)⟩
        case measure => simp [intOf]; omega
    · obtain rfl : k = s.N := by omega
      go_wp2_with (go_at_call 27; refine (c27 s _ okh.out).mono ?_; rintro e w1 ⟨rfl, hB1⟩)
      go_returns
      exact ⟨rfl, hBw.trans (hB1.mono hBw.size)⟩
end Go.Proofs.Ytkafjlhmbiaicaa

/- Stage 2: a copy of a servo; Check. -/
set_option linter.unusedSimpArgs false
set_option linter.unusedVariables false
namespace Go.Proofs.Ytkafjlhmbiaicaa
open Go.RowKit Go.Sort

set_option maxRecDepth 100000 in
set_option maxHeartbeats 1000000 in
theorem c36 (s : Sv) (g : Wg) (w : World) (hz : s.In w) (hg : g.In w) (hm : s.rn ≤ 1000000) (hm2 : g.wn ≤ 1000000) :
    Calls Try.prog 36 #[s.v, g.v] w fun e w' => e = .returned (.int .i64 (ckE s g)) ∧ Below w.heap.size w w' := by
  by_cases h1 : ckE s g = 0
  · obtain ⟨ok, okg⟩ := ckE_inv h1
    rw [h1]
    have okh := hid ok
    have okgh := hid okg
    clear ok okg h1
    go_enter Try.func36, Try.ntmps36
    go_wp2_with (go_at_call 47; refine (c47 s g _ (hz.below (by (repeat' (first | (with_reducible exact Below.refl _ _) | (with_reducible assumption) | (with_reducible refine Below.alloc ?_ ?_ _) | (with_reducible refine Below.drew ?_) | (with_reducible refine below_drewN ?_ _) | (with_reducible refine Below.setCell ?_ ?_ _) | (with_reducible refine Below.trans ?_ (Below.mono (by with_reducible assumption) ?_)) | go_size))) (Nat.le_refl _)) (hg.below (by (repeat' (first | (with_reducible exact Below.refl _ _) | (with_reducible assumption) | (with_reducible refine Below.alloc ?_ ?_ _) | (with_reducible refine Below.drew ?_) | (with_reducible refine below_drewN ?_ _) | (with_reducible refine Below.setCell ?_ ?_ _) | (with_reducible refine Below.trans ?_ (Below.mono (by with_reducible assumption) ?_)) | go_size))) (Nat.le_refl _)) hm hm2 okh.out okgh.out).mono ?_; rintro e w1 ⟨rfl, hB1⟩; have hz1 : w.heap.size + 1 ≤ w1.heap.size := (by have := hB1.size; simp at this; omega); have hBx : Below w.heap.size w w1 := Below.trans (by (repeat' (first | (with_reducible exact Below.refl _ _) | (with_reducible assumption) | (with_reducible refine Below.alloc ?_ ?_ _) | (with_reducible refine Below.drew ?_) | (with_reducible refine below_drewN ?_ _) | (with_reducible refine Below.setCell ?_ ?_ _) | (with_reducible refine Below.trans ?_ (Below.mono (by with_reducible assumption) ?_)) | go_size))) (hB1.mono (by simp)))
    go_returns
    exact ⟨rfl, by (repeat' (first | (with_reducible exact Below.refl _ _) | (with_reducible assumption) | (with_reducible refine Below.alloc ?_ ?_ _) | (with_reducible refine Below.drew ?_) | (with_reducible refine below_drewN ?_ _) | (with_reducible refine Below.setCell ?_ ?_ _) | (with_reducible refine Below.trans ?_ (Below.mono (by with_reducible assumption) ?_)) | go_size))⟩
  · have hh := hid h1
    obtain ⟨er, her⟩ : ∃ er, er = ckE s g := ⟨_, rfl⟩
    have herh := hid her
    rw [← her]
    clear h1 her
    go_enter Try.func36, Try.ntmps36
    go_wp2_with (go_at_call 47; refine (c47_err s g _ (hz.below (by (repeat' (first | (with_reducible exact Below.refl _ _) | (with_reducible assumption) | (with_reducible refine Below.alloc ?_ ?_ _) | (with_reducible refine Below.drew ?_) | (with_reducible refine below_drewN ?_ _) | (with_reducible refine Below.setCell ?_ ?_ _) | (with_reducible refine Below.trans ?_ (Below.mono (by with_reducible assumption) ?_)) | go_size))) (Nat.le_refl _)) (hg.below (by (repeat' (first | (with_reducible exact Below.refl _ _) | (with_reducible assumption) | (with_reducible refine Below.alloc ?_ ?_ _) | (with_reducible refine Below.drew ?_) | (with_reducible refine below_drewN ?_ _) | (with_reducible refine Below.setCell ?_ ?_ _) | (with_reducible refine Below.trans ?_ (Below.mono (by with_reducible assumption) ?_)) | go_size))) (Nat.le_refl _)) hm hm2 hh.out).mono ?_; rw [← herh.out]; rintro e w1 ⟨rfl, hB1⟩; have hz1 : w.heap.size + 1 ≤ w1.heap.size := (by have := hB1.size; simp at this; omega); have hBx : Below w.heap.size w w1 := Below.trans (by (repeat' (first | (with_reducible exact Below.refl _ _) | (with_reducible assumption) | (with_reducible refine Below.alloc ?_ ?_ _) | (with_reducible refine Below.drew ?_) | (with_reducible refine below_drewN ?_ _) | (with_reducible refine Below.setCell ?_ ?_ _) | (with_reducible refine Below.trans ?_ (Below.mono (by with_reducible assumption) ?_)) | go_size))) (hB1.mono (by simp)))
    go_returns
    exact ⟨rfl, by (repeat' (first | (with_reducible exact Below.refl _ _) | (with_reducible assumption) | (with_reducible refine Below.alloc ?_ ?_ _) | (with_reducible refine Below.drew ?_) | (with_reducible refine below_drewN ?_ _) | (with_reducible refine Below.setCell ?_ ?_ _) | (with_reducible refine Below.trans ?_ (Below.mono (by with_reducible assumption) ?_)) | go_size))⟩

theorem Ints.nil_ {w : World} {A : Option Addr} {b o n : Nat} {f : Nat → Int} (hz : Ints w A b o n f) (h : A = none) : n = 0 := by
  rcases Nat.eq_zero_or_pos n with h0 | h0
  · exact h0
  · have := hz.ad 0 h0; rw [h] at this; cases this
theorem Ints.cells {w : World} {A : Option Addr} {b o n : Nat} {f : Nat → Int} (hz : Ints w A b o n f) : ∀ ad, A = some ad → ∀ j u, (vals n f)[j]? = some u → w.cell? (ad.add j) = some u := by
  intro ad had j u hj
  have hlt : j < n := by
    have := (List.getElem?_eq_some_iff.1 hj).1
    rwa [vals_len] at this
  have e := hz.ad _ hlt
  rw [had] at e
  cases e
  have ha : (⟨b, o, none⟩ : Addr).add j = ⟨b, o + j, none⟩ := by unfold Addr.add; split <;> simp_all
  rw [ha, hz.ce j hlt]
  rw [vals_get hlt] at hj
  exact hj
/-- An equal servo, whose Runout lies elsewhere. -/
@[reducible] def cpS (s : Sv) (x c : Nat) : Sv := { s with ra := some ⟨x, 0, none⟩, rb := x, ro := 0, rc := c }
def CopyRet (s : Sv) (w : World) (e : Ending) (w' : World) : Prop := ∃ x c : Nat, e = .returned (cpS s x c).v ∧ (cpS s x c).In w' ∧ Below w.heap.size w w'
set_option maxRecDepth 100000 in
set_option maxHeartbeats 1000000 in
theorem c35 (s : Sv) (w : World) (hz : s.In w) (hm : s.rn ≤ 1000000) (hnk : s.ra = none → s.rc = 0) : Calls Try.prog 35 #[s.v] w (CopyRet s w) := by
  obtain ⟨i0, ie0, ie1, ie2, ie3⟩ := info_parts Try.info3
  have hnil : Hid (s.ra = none → s.rn = 0 ∧ s.rc = 0) := hid (fun h => ⟨hz.nil_ h, hnk h⟩)
  clear hnk
  go_enter Try.func35, Try.ntmps35
  go_wp2_with (at_builtin; refine app_src rfl (.tmp 5) (.tmp 7) 28 rfl (w.heap.size + 3) 3 i0 (.int .i64 0) 1 8 Try.underlying28 ie0 ie1 ie2 ie3 rfl (by decide) _ _ _ rfl (own_made _ 3 1 (w.heap.size + 3) (w.heap.size + 3) (by simp) (by omega)) s.ra s.rn s.rc (vals s.rn s.rf) rfl hnil.out (by rw [vals_len, Nat.mul_one]) (Ints.cells (hz.below (show Below w.heap.size w _ by (repeat' (first | (with_reducible exact Below.refl _ _) | (with_reducible assumption) | (with_reducible refine Below.alloc ?_ ?_ _) | (with_reducible refine Below.drew ?_) | (with_reducible refine below_drewN ?_ _) | (with_reducible refine Below.setCell ?_ ?_ _) | (with_reducible refine Below.trans ?_ (Below.mono (by with_reducible assumption) ?_)) | go_size))) (Nat.le_refl _))) (vals_one _ _) (by unfold maxLen; omega) (by omega) (by simp) ?_; intro v8 w8 hown8 hgr8 hn8'; obtain ⟨x8, c8, rfl⟩ := own_shape hown8 (fun h => by have := hn8' h; cases this); rw [Nat.zero_add, List.nil_append] at hown8; have hB8 : Below (w.heap.size + 3) (((w.alloc (.cells #[.int .i64 s.tr, .int .i64 s.st, .int .i64 s.mv, .int .i64 s.no, .int .i64 s.wr, .slice s.ra s.rn s.rc] 30)).alloc (.cells #[.int .i64 0, .int .i64 0, .int .i64 0, .int .i64 0, .int .i64 0, .slice none 0 0] 30)).alloc (.cells #[.int .i64 s.tr, .int .i64 s.st, .int .i64 s.mv, .int .i64 s.no, .int .i64 s.wr, .slice s.ra s.rn s.rc] 30)) w8 := ((Below.refl _ _).alloc (by simp) _).grown hgr8 (by simp) (fun q e => by cases e; simp); have hx8 := (hown8.lt x8 rfl).1; have hx9 := (hown8.lt x8 rfl).2; have hR8 := hid (RowF.of_owns hown8); clear hown8 hgr8 hn8'; obtain ⟨hc8, hf8⟩ := bcell hB8; have hz8 : w.heap.size + 3 ≤ w8.heap.size := (by have := hB8.size; simp at this; omega))
  refine bodyPost_ret (v := (cpS s x8 c8).v) (by simp [results, Try.results35, go_sem, hc8, hf8, hz8]) rfl ?_
  have hBw8 : Below w.heap.size w w8 := Below.trans (show Below w.heap.size w _ by (repeat' (first | (with_reducible exact Below.refl _ _) | (with_reducible assumption) | (with_reducible refine Below.alloc ?_ ?_ _) | (with_reducible refine Below.drew ?_) | (with_reducible refine below_drewN ?_ _) | (with_reducible refine Below.setCell ?_ ?_ _) | (with_reducible refine Below.trans ?_ (Below.mono (by with_reducible assumption) ?_)) | go_size))) (hB8.mono (by omega))
  refine ⟨x8, c8, rfl, RowF.ints (g := x8) ?_, by (repeat' (first | (with_reducible exact Below.refl _ _) | (with_reducible assumption) | (with_reducible refine Below.alloc ?_ ?_ _) | (with_reducible refine Below.drew ?_) | (with_reducible refine below_drewN ?_ _) | (with_reducible refine Below.setCell ?_ ?_ _) | (with_reducible refine Below.trans ?_ (Below.mono (by with_reducible assumption) ?_)) | go_size))⟩
  repeat' (first | (with_reducible exact hR8.out) | (with_reducible refine RowF.setOther ?_ ?_ _) | (dsimp only; omega))
end Go.Proofs.Ytkafjlhmbiaicaa
