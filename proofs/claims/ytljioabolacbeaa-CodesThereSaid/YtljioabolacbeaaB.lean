/- Stage 4: the row of bits that changes data. -/
import Derived.Test.YtljioabolacbeaaA
import Derived.Laws.BitsAllLaws
import Derived.Laws.BitsLemmas
set_option linter.unusedSimpArgs false
set_option linter.unusedVariables false
namespace Go.Proofs.Ytljioabolacbeaa
open Go.RowKit

theorem RowF.ix {w : World} {b n c : Nat} {f : Nat → Int} (h : RowF w b n f) {k : Nat} (hk : k < n) (w' : World) :
    (Instr.indexAt 25 (.slice (some ⟨b, 0, none⟩) n c) (.int .i64 k)).run Try.prog w' = .ok (.pointer (some ⟨b, k, none⟩)) w' := by
  have := @Ints.ix _ _ _ _ _ c _ h.ints k hk w'
  rwa [Nat.zero_add] at this
theorem grown_set {w w' : World} {g : Nat} (h : w.grownBy w' (some g)) (i : Nat) (v : Value) : w.grownBy (w'.setCell ⟨g, i, none⟩ v) (some g) :=
  ⟨h.os, h.tape, h.output, by simpa [World.setCell] using h.size, fun k hk hne => (Below.heap_setCell w' ⟨g, i, none⟩ v k (by rintro rfl; exact hne rfl)).trans (h.block k hk hne)⟩
theorem below_grown {w w1 w2 : World} {B g : Nat} (h : Below B w w1) (hg : w1.grownBy w2 (some g)) (hB : B ≤ w1.heap.size) (hb : B ≤ g) : Below B w w2 :=
  h.grown hg hB (fun k e => by injection e with e; omega)
/-- The numbers, up to k judged. -/
def mix (k : Nat) (a b : Nat → Int) (q : Nat) : Int := if q < k then a q else b q
theorem mix_at {k : Nat} {a b : Nat → Int} : mix k a b k = b k := by simp [mix]
theorem mix_zero (a b : Nat → Int) (q : Nat) : mix 0 a b q = b q := by simp [mix]
theorem mix_all {n : Nat} {a b : Nat → Int} {q : Nat} (h : q < n) : mix n a b q = a q := by simp [mix, h]
theorem mix_step {k : Nat} {a b : Nat → Int} (q : Nat) : (if q = k then a k else mix k a b q) = mix (k + 1) a b q := by
  unfold mix
  by_cases h : q = k
  · subst h; simp
  · rw [if_neg h]
    by_cases h2 : q < k
    · rw [if_pos h2, if_pos (by omega)]
    · rw [if_neg h2, if_neg (by omega)]
theorem mix_skip {k : Nat} {a b : Nat → Int} (h : a k = b k) (q : Nat) : mix k a b q = mix (k + 1) a b q := by
  rw [← mix_step]
  by_cases e : q = k
  · subst e; rw [if_pos rfl, mix_at, h]
  · rw [if_neg e]
theorem RowF.grown {w w' : World} {b n x : Nat} {f : Nat → Int} (h : RowF w b n f) (hg : w.grownBy w' (some x)) (hb : b ≠ x) : RowF w' b n f := h.of_block (hg.block b h.lt (by intro e; injection e with e; exact hb e))
theorem app_src {P : Program} {w : World} {ops : Array Oper} {rest : List Oper} {o : Oper} {a : Act} {Q : Exit → Act → World → Prop} (hgd : o.guard = none) (s x : Operand) (t : TypeId)
    (ho : o.op = .call { callee := .builtin .append, args := #[s, x], argTypes := #[t, t] }) (base : Nat) (e : TypeId) (i : TypeInfo) (z : Value) (size bytes : Nat)
    (ht : P.underlying t = some (.slice e)) (hi : P.info? e = some i) (hz : i.zero = some z) (hsize : i.size = size) (hby : i.bytes = bytes) (hzs : z.cells.size = size) (hsz : 0 < size)
    (v : Value) (n : Nat) (xs : List Value) (hs : a.eval s = v) (hown : w.ownsRow base e size v n xs) (A : Option Addr) (m c : Nat) (news : List Value) (hx : a.eval x = .slice A m c)
    (hnil : A = none → m = 0 ∧ c = 0) (hl : news.length = m * size) (hcells : ∀ ad, A = some ad → ∀ j u, news[j]? = some u → w.cell? (ad.add j) = some u) (h1 : ∀ u ∈ news, u.oneCell' = true)
    (h63 : n + m ≤ maxLen) (hbytes : (n + m) * bytes ≤ 140737488355328) (hbase : base ≤ w.heap.size)
    (h : ∀ v' w', w'.ownsRow base e size v' (n + m) (xs ++ news) → w.grownBy w' v.ownBlock → (v' = .slice none 0 0 → v = .slice none 0 0) → wpList P ops Q rest (a.put o.dst v') w') : wpList P ops Q (o :: rest) a w := by
  cases A with
  | none =>
    obtain ⟨rfl, rfl⟩ := hnil rfl
    have hn : news = [] := List.eq_nil_of_length_eq_zero (by omega)
    subst hn
    exact wpList_append_own_none hgd s x t ho base e i size ht hi v n xs hs hown hx (h v w (by simpa using hown) (World.grownBy.refl w _) (fun e => e))
  | some ad => exact wpList_append_own w hgd s x t ho base e i z size bytes ht hi hz hsize hby hzs hsz v n xs hs hown ad m c news hx hl (hcells ad rfl) h1 h63 hbytes hbase (fun v' w' h2 h3 h4 => h v' w' h2 h3 (fun e => (h4.1 e).1))
theorem Ints.nil_ {w : World} {A : Option Addr} {b o n : Nat} {f : Nat → Int} (hz : Ints w A b o n f) (h : A = none) : n = 0 := by
  rcases Nat.eq_zero_or_pos n with h0 | h0
  · exact h0
  · have := hz.ad 0 h0; rw [h] at this; cases this
theorem Ints.cells {w : World} {A : Option Addr} {b o n : Nat} {f : Nat → Int} (hz : Ints w A b o n f) : ∀ ad, A = some ad → ∀ j u, (vals n f)[j]? = some u → w.cell? (ad.add j) = some u := by
  intro ad had j u hj
  have hlt : j < n := by
    have := (List.getElem?_eq_some_iff.1 hj).1
    rwa [vals_len] at this
  have e := hz.ad _ hlt
  rw [had] at e
  cases e
  have ha : (⟨b, o, none⟩ : Addr).add j = ⟨b, o + j, none⟩ := by unfold Addr.add; split <;> simp_all
  rw [ha, hz.ce j hlt]
  rw [vals_get hlt] at hj
  exact hj

/-- The register after k words, and its bit. -/
def rgN (s : Nat) : Nat → Nat
  | 0 => s
  | k + 1 => (2 * rgN s k + (rgN s k / 64 + rgN s k / 32) % 2) % 128
def topN (s k : Nat) : Nat := rgN s k / 64 % 2
/-- What becomes of a word. -/
def scr (s : Nat) (f : Nat → Int) (k : Nat) : Int := (f k + (topN s k : Nat)) % 2
theorem rgN_lt {s : Nat} (h : s < 128) : ∀ k, rgN s k < 128
  | 0 => h
  | k + 1 => Nat.mod_lt _ (by omega)
theorem scr_bit (s : Nat) (f : Nat → Int) (k : Nat) : 0 ≤ scr s f k ∧ scr s f k ≤ 1 := by unfold scr; omega
theorem scr_scr {s n : Nat} {f : Nat → Int} (h : allB 2 n f) {k : Nat} (hk : k < n) : scr s (scr s f) k = f k := by
  have := h k hk
  unfold bel at this
  unfold scr
  omega
theorem scr_same {s n : Nat} {f g : Nat → Int} (h : allB 2 n f) (h2 : allB 2 n g) {k : Nat} (hk : k < n) : scr s f k = scr s g k ↔ f k = g k := by
  have h1 := h k hk
  have h3 := h2 k hk
  unfold bel at h1 h3
  unfold scr
  omega
theorem reg_all : ∀ r : Fin 128, bits .and .i64 ((r.val : Int) / 32) 1 = ((r.val / 32 % 2 : Nat) : Int) ∧ bits .xor .i64 ((r.val / 64 : Nat) : Int) ((r.val / 32 % 2 : Nat) : Int) = (((r.val / 64 + r.val / 32) % 2 : Nat) : Int) := by decide +kernel
theorem xor_all : ∀ a b : Fin 2, bits .xor .i64 ((a.val : Nat) : Int) ((b.val : Nat) : Int) = (((a.val + b.val) % 2 : Nat) : Int) := by decide +kernel
theorem xor_bit {x : Int} {t : Nat} (h : 0 ≤ x ∧ x ≤ 1) (ht : t < 2) : bits .xor .i64 x (t : Int) = (x + (t : Int)) % 2 := by
  obtain ⟨k, rfl⟩ : ∃ k : Nat, x = k := ⟨x.toNat, by omega⟩
  have := xor_all ⟨k, by omega⟩ ⟨t, ht⟩
  simp only at this
  rw [this]; omega
set_option maxHeartbeats 400000 in
theorem c53z (A : Option Addr) (c : Nat) (w : World) (hnk : A = none → c = 0) :
    Calls Try.prog 53 #[.slice A 0 c] w fun e w' => ∃ A' c', e = .returned (.slice A' 0 c') ∧ (A' = none → c' = 0) ∧ Below w.heap.size w w' := by
  obtain ⟨i0, ie0, ie1, ie2, ie3⟩ := info_parts Try.info3
  cases A with
  | none =>
    obtain rfl := hnk rfl
    have hsl := fun W => Lib.run_eql_slice_nil (P := Try.prog) W 25 3 none 0 0 0 0 Try.underlying25
    clear hnk
    go_enter Try.func53, Try.ntmps53
    go_wp2_with fail
    go_returns
    exact ⟨none, 0, rfl, fun _ => rfl, Below.refl _ _⟩
  | some ad =>
    have hsl := fun W => Lib.run_eql_slice_nil (P := Try.prog) W 25 3 (some ad) 0 c 0 0 Try.underlying25
    clear hnk
    go_enter Try.func53, Try.ntmps53
    go_wp2_with (at_builtin; refine wpList_append_own _ rfl _ _ 25 rfl w.heap.size 3 i0 (.int .i64 0) 1 8 Try.underlying25 ie0 ie1 ie2 ie3 rfl (by decide) _ _ _ rfl (own_made _ 3 1 _ _ rfl (Nat.le_refl _)) ad 0 c [] rfl (by simp) (by simp) (by simp) (by unfold maxLen; omega) (by omega) (by simp) ?_; intro v' w1 hown hgrow hnil)
    obtain ⟨g, cap, rfl⟩ := own_shape hown (fun h => by have := (hnil.1 h).1; cases this)
    have hB : Below w.heap.size w w1 := ((Below.refl w.heap.size w).alloc (Nat.le_refl _) _).grown hgrow (by simp) (fun k e => by cases e; simp)
    clear hown hgrow hnil
    go_wp2
    go_returns
    exact ⟨_, cap, rfl, (fun h => by cases h), hB⟩
end Go.Proofs.Ytljioabolacbeaa
