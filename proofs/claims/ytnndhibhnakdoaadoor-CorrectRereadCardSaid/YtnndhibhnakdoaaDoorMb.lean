/- Stage 5: the code words that a word is near to. -/
import Derived.Test.YtnndhibhnakdoaaDoorMa
set_option linter.unusedSimpArgs false
set_option linter.unusedVariables false
namespace Go.Proofs.YtnndhibhnakdoaaDoor
namespace Gf

theorem sub_filter {L Q : List Nat} (hL : L.Nodup) (h : Q.Sublist L) : L.filter (fun x => decide (x ∈ Q)) = Q := by
  induction h with
  | slnil => rfl
  | cons a h ih =>
    obtain ⟨h1, h2⟩ := List.nodup_cons.1 hL
    rw [List.filter_cons, if_neg (by simp; exact fun hm => h1 (h.subset hm)), ih h2]
  | cons_cons a h ih =>
    rename_i Q' L'
    obtain ⟨h1, h2⟩ := List.nodup_cons.1 hL
    rw [List.filter_cons, if_pos (by simp)]
    congr 1
    rw [← ih h2]
    refine List.filter_congr fun x hx => ?_
    have : x ≠ a := fun e => h1 (e ▸ hx)
    rw [ih h2]
    simp [this]
/-- At how many positions two words differ, but for some. -/
def apa (n : Nat) (a b : Nat → S) (M : List Nat) : Nat := (List.range n).countP (fun i => decide (a i ≠ b i ∧ i ∉ M))
/-- Where two words differ, but for some positions. -/
def dif (n : Nat) (a b : Nat → S) (M : List Nat) : List Nat := (List.range n).filter (fun i => decide (a i ≠ b i ∧ i ∉ M))
theorem dif_len (n : Nat) (a b : Nat → S) (M : List Nat) : (dif n a b M).length = apa n a b M := List.countP_eq_length_filter.symm
theorem dif_mem {n : Nat} {a b : Nat → S} {M : List Nat} {j : Nat} : j ∈ dif n a b M ↔ j < n ∧ a j ≠ b j ∧ j ∉ M := by simp [dif]
/-- A code word that is within the bound of a word. -/
def Near (n r : Nat) (w : Nat → S) (M : List Nat) (c : Nat → S) : Prop := (∀ i, i < r → syn n c i = 0) ∧ 2 * apa n c w M + M.length ≤ r
theorem Near.same {n r : Nat} {w : Nat → S} {M : List Nat} {c d : Nat → S} (hn : n ≤ 15) (hM : ∀ p, p ∈ M → p < n) (hc : Near n r w M c) (hd : Near n r w M d) : ∀ j, j < n → c j = d j := by
  intro j hj
  refine ad_eq_zero _ _ (uniq (e := fun j => ad (c j) (d j)) (P := M ++ (dif n c w M ++ dif n d w M)) (r := r) hn (fun p hp => ?_) ?_ (fun i hi hp => ?_) (fun i hi => ?_) j hj)
  · rcases List.mem_append.1 hp with h | h
    · exact hM p h
    · rcases List.mem_append.1 h with h | h <;> exact (dif_mem.1 h).1
  · have h1 := hc.2; have h2 := hd.2
    rw [List.length_append, List.length_append, dif_len, dif_len]
    omega
  · have h1 : i ∉ M := fun h => hp (List.mem_append_left _ h)
    have h2 : c i = w i := Classical.byContradiction fun h => hp (List.mem_append_right _ (List.mem_append_left _ (dif_mem.2 ⟨hi, h, h1⟩)))
    have h3 : d i = w i := Classical.byContradiction fun h => hp (List.mem_append_right _ (List.mem_append_right _ (dif_mem.2 ⟨hi, h, h1⟩)))
    show ad (c i) (d i) = 0
    rw [h2, h3, ad_self]
  · rw [syn_ad, hc.1 i hi, hd.1 i hi, ad_zero]
/-- All sums of a list that are left without some positions are 0. -/
def Zer (l : Nat) (s : Nat → S) (n : Nat) (Q : List Nat) : Prop := ∀ i, i + Q.length < l → fa (ba n) Q s i = 0
/-- The positions that are not marked. -/
def susp (n : Nat) (M : List Nat) : List Nat := (List.range n).filter (fun p => decide (p ∉ M))
theorem susp_nodup (n : Nat) (M : List Nat) : (susp n M).Nodup := List.nodup_range.filter _
theorem susp_mem {n : Nat} {M : List Nat} {p : Nat} : p ∈ susp n M ↔ p < n ∧ p ∉ M := by simp [susp]
theorem near_of {n r : Nat} {w : Nat → S} {M Q : List Nat} (hn : n ≤ 15) (hM : M.Nodup) (hMn : ∀ p, p ∈ M → p < n) (hQ : Q.Sublist (susp n M)) (hb : 2 * Q.length + M.length ≤ r)
    (hz : Zer (r - M.length) (fa (ba n) M (syn n w)) n Q) : Near n r w M (mend n w (M ++ Q.reverse)) := by
  have hQn : ∀ p, p ∈ Q → p < n ∧ p ∉ M := fun p hp => susp_mem.1 (hQ.subset hp)
  have hQd : Q.Nodup := (susp_nodup n M).sublist hQ
  constructor
  · refine mend_cw hn ?_ (fun p hp => ?_) (by simp; omega) (fun i hi => ?_)
    · refine List.nodup_append.2 ⟨hM, (List.reverse_perm Q).symm.nodup hQd, fun a ha b hb e => (hQn b (List.mem_reverse.1 hb)).2 (e ▸ ha)⟩
    · rcases List.mem_append.1 hp with h | h
      · exact hMn p h
      · exact (hQn p (List.mem_reverse.1 h)).1
    · simp only [List.length_append, List.length_reverse] at hi
      rw [fa_app, fa_perm _ (List.reverse_perm Q)]
      exact hz i (by omega)
  · have h1 : apa n (mend n w (M ++ Q.reverse)) w M ≤ Q.length := by
      have h2 : (List.range n).countP (fun i => decide (i ∈ Q)) = Q.length := by
        rw [List.countP_eq_length_filter, sub_filter List.nodup_range (hQ.trans List.filter_sublist)]
      rw [← h2]
      refine List.countP_mono_left fun x _ hx => ?_
      obtain ⟨h3, h4⟩ := of_decide_eq_true hx
      refine decide_eq_true (Classical.byContradiction fun h5 => h3 ?_)
      unfold mend
      rw [if_neg fun h6 => (List.mem_append.1 h6).elim h4 fun h7 => h5 (List.mem_reverse.1 h7)]
    omega
theorem near_none {n r : Nat} {w : Nat → S} {M : List Nat} (hb : ∀ Q : List Nat, Q.Sublist (susp n M) → Q.length ≤ (r - M.length) / 2 → ¬ Zer (r - M.length) (fa (ba n) M (syn n w)) n Q) (c : Nat → S) : ¬ Near n r w M c := by
  intro ⟨h1, h2⟩
  refine hb (dif n c w M) ?_ ?_ (fun i hi => ?_)
  · have : dif n c w M = (susp n M).filter (fun i => decide (c i ≠ w i)) := by
      unfold dif susp
      rw [List.filter_filter]
      refine List.filter_congr fun x _ => ?_
      simp
    rw [this]
    exact List.filter_sublist
  · rw [dif_len]; omega
  · rw [← fa_app]
    rw [dif_len] at hi
    refine gone h1 (fun j hj hp => ?_) i (by rw [List.length_append, dif_len]; omega)
    exact Classical.byContradiction fun h => hp (List.mem_append_right _ (dif_mem.2 ⟨hj, fun e => h e.symm, fun hm => hp (List.mem_append_left _ hm)⟩))
/-- Where a list without its first ones holds what follows one of them. -/
theorem sub_cons {p : Nat} {Q L : List Nat} (h : (p :: Q).Sublist L) : ∃ j, ∃ hj : j < L.length, L[j] = p ∧ Q.Sublist (L.drop (j + 1)) := by
  induction L with
  | nil => cases h
  | cons a L ih =>
    cases h with
    | cons _ h =>
      obtain ⟨j, hj, e, hs⟩ := ih h
      exact ⟨j + 1, by simp; omega, by simpa using e, by simpa using hs⟩
    | cons_cons _ h => exact ⟨0, by simp, rfl, by simpa using h⟩
theorem zer_cons {l n p : Nat} {s : Nat → S} {Q : List Nat} : Zer (l - 1) (fl (ba n p) s) n Q ↔ Zer l s n (p :: Q) := by
  constructor
  · intro h i hi
    exact h i (by simp at hi; omega)
  · intro h i hi
    exact h i (by simp; omega)
/-- The word of some data, with the last positions made to fit. -/
def encP (n r : Nat) : List Nat := (List.range n).filter (fun p => decide (n - r ≤ p))
theorem encP_len {n r : Nat} (h : r ≤ n) : (encP n r).length = r := by
  unfold encP
  rw [← List.countP_eq_length_filter]
  have : ∀ m, (List.range m).countP (fun p => decide (n - r ≤ p)) = m - (n - r) := by
    intro m
    induction m with
    | zero => simp
    | succ m ih => rw [List.range_succ, List.countP_append, ih, List.countP_singleton]; split <;> rename_i h1 <;> simp at h1 <;> omega
  rw [this]
  omega
def enc (n r : Nat) (d : Nat → S) : Nat → S := mend n (fun j => if j < n - r then d j else 0) (encP n r)
theorem enc_cw {n r : Nat} (hn : n ≤ 15) (hr : r ≤ n) (d : Nat → S) : ∀ i, i < r → syn n (enc n r d) i = 0 :=
  mend_cw (P := encP n r) hn (List.nodup_range.filter _) (fun p hp => by simpa using (List.mem_filter.1 hp).1) (by rw [encP_len hr]; exact Nat.le_refl _) (fun i hi => by rw [encP_len hr] at hi; omega)
theorem enc_data {n r : Nat} (d : Nat → S) {j : Nat} (hj : j < n - r) : enc n r d j = d j := by
  unfold enc mend
  rw [if_neg (fun h => by have := (List.mem_filter.1 h).2; simp at this; omega)]
  exact if_pos hj
/-- There is just one code word of some data. -/
theorem enc_same {n r : Nat} (hn : n ≤ 15) (hr : r ≤ n) {d c : Nat → S} (hc : ∀ i, i < r → syn n c i = 0) (hd : ∀ j, j < n - r → c j = d j) : ∀ j, j < n → enc n r d j = c j := by
  intro j hj
  refine ad_eq_zero _ _ (uniq (e := fun j => ad (enc n r d j) (c j)) (P := encP n r) (r := r) hn (fun p hp => by simpa using (List.mem_filter.1 hp).1) (by rw [encP_len hr]; exact Nat.le_refl _) (fun i hi hp => ?_) (fun i hi => ?_) j hj)
  · have h1 : i < n - r := Nat.lt_of_not_le fun h => hp (List.mem_filter.2 ⟨by simpa using hi, decide_eq_true h⟩)
    show ad (enc n r d i) (c i) = 0
    rw [enc_data d h1, hd i h1, ad_self]
  · rw [syn_ad, enc_cw hn hr d i hi, hc i hi, ad_zero]
end Gf
end Go.Proofs.YtnndhibhnakdoaaDoor
