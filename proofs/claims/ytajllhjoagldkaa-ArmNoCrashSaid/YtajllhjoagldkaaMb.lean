/- Stage 6: the search for the steps, from the states where the arm is there back to those before them (mathematics). -/
import Derived.Test.YtajllhjoagldkaaN
set_option linter.unusedSimpArgs false
set_option linter.unusedVariables false
namespace Go.Proofs.Ytajllhjoagldkaa

theorem adL_nodup (a : Ar) (d : Int → Int → Bool) (q u : Int) (k : Nat) : (adL a d q u k).Nodup := by
  unfold adL
  refine List.Pairwise.filter _ ?_
  refine List.Pairwise.map _ (R := fun i j : Nat => i ≠ j) (fun i j h e => h ?_) List.nodup_range
  simp only [Prod.mk.injEq] at e
  omega
/-- The states stand in order. -/
def before (s t : Int × Int) : Prop := s.1 < t.1 ∨ (s.1 = t.1 ∧ s.2 < t.2)
theorem sts_order (a : Ar) : (sts a).Pairwise before := by
  unfold sts
  rw [List.pairwise_flatMap]
  constructor
  · intro p _
    refine List.Pairwise.map _ (R := fun i j : Nat => i < j) (fun i j h => .inr ⟨rfl, ?_⟩) List.pairwise_lt_range
    show ((i : Int) - (a.sp : Int)) < (j : Int) - (a.sp : Int)
    omega
  · refine List.Pairwise.imp ?_ (List.pairwise_lt_range (n := a.la + 1))
    intro p q h x hx y hy
    obtain ⟨i, _, rfl⟩ := List.mem_map.1 hx
    obtain ⟨j, _, rfl⟩ := List.mem_map.1 hy
    left
    show (p : Int) < (q : Int)
    omega
theorem sts_nodup (a : Ar) : (sts a).Nodup := (sts_order a).imp fun h e => by
  subst e
  rcases h with h | ⟨_, h⟩ <;> exact absurd h (Int.lt_irrefl _)
/-- A list without repeats is no longer than one that holds it. -/
theorem nodup_len : ∀ (L S : List (Int × Int)), L.Nodup → (∀ x ∈ L, x ∈ S) → L.length ≤ S.length
  | [], _, _, _ => Nat.zero_le _
  | x :: L, S, hn, hs => by
    have hx := hs x List.mem_cons_self
    have h1 := nodup_len L (S.erase x) (List.nodup_cons.1 hn).2 fun y hy => (List.mem_erase_of_ne (fun e => (List.nodup_cons.1 hn).1 (by rw [← e]; exact hy))).2 (hs y (List.mem_cons_of_mem _ hy))
    rw [List.length_erase_of_mem hx] at h1
    have := List.length_pos_of_mem hx
    simp only [List.length_cons]
    omega
/-- The states from which the arm is surely there after at most n steps. -/
def lvl (a : Ar) (f0 : Int → Int → Bool) : Nat → Int → Int → Bool
  | 0 => f0
  | n + 1 => fun p v => lvl a f0 n p v || (stB a p v && cans a (lvl a f0 n) p v)
theorem lvl_succ {a : Ar} {f0 : Int → Int → Bool} {n : Nat} {p v : Int} : lvl a f0 (n + 1) p v = true ↔ lvl a f0 n p v = true ∨ (stB a p v = true ∧ cans a (lvl a f0 n) p v = true) := by
  simp [lvl]
theorem lvl_mono {a : Ar} {f0 : Int → Int → Bool} {m n : Nat} (h : m ≤ n) {p v : Int} (e : lvl a f0 m p v = true) : lvl a f0 n p v = true := by
  induction n with
  | zero => obtain rfl : m = 0 := by omega
            exact e
  | succ n ih =>
    rcases Nat.lt_or_ge n m with h1 | h1
    · obtain rfl : m = n + 1 := by omega
      exact e
    · exact lvl_succ.2 (.inl (ih h1))
/-- The state after the speed u at q and the shock s. -/
def oute (q u s : Int) : Int × Int := (q + (u + s), u + s)
/-- .. has been looked at: it is one of the first i states of L, or the next one, and the shock is less than t. -/
def Pr (L : List (Int × Int)) (i : Nat) (t q u s : Int) : Bool := decide (oute q u s ∈ L.take i) || (decide (L[i]? = some (oute q u s)) && decide (s < t))
/-- How many shocks lead to states that have been looked at. -/
def cn (a : Ar) (L : List (Int × Int)) (i : Nat) (t q u : Int) : Nat := (List.range (2 * a.sh + 1)).countP fun j : Nat => Pr L i t q u ((j : Int) - (a.sh : Int))
theorem cn_start (a : Ar) (L : List (Int × Int)) (q u : Int) : cn a L 0 (-(a.sh : Int)) q u = 0 := by
  unfold cn
  rw [List.countP_eq_zero]
  intro j hj
  have := List.mem_range.1 hj
  simp [Pr]
  omega
theorem take_snoc {L : List (Int × Int)} {i : Nat} {x : Int × Int} (h : L[i]? = some x) : L.take (i + 1) = L.take i ++ [x] := by
  rw [List.take_add_one, h]; rfl
theorem cn_next (a : Ar) {L : List (Int × Int)} {i : Nat} (hi : i < L.length) (q u : Int) : cn a L i ((a.sh : Int) + 1) q u = cn a L (i + 1) (-(a.sh : Int)) q u := by
  unfold cn
  apply List.countP_congr
  intro j hj
  have := List.mem_range.1 hj
  have h1 : L[i]? = some L[i] := List.getElem?_eq_getElem hi
  have h2 : decide (((j : Int) - (a.sh : Int)) < (a.sh : Int) + 1) = true := decide_eq_true (by omega)
  have h3 : decide (((j : Int) - (a.sh : Int)) < -(a.sh : Int)) = false := decide_eq_false (by omega)
  unfold Pr
  rw [h2, h3, take_snoc h1, h1, Bool.and_true, Bool.and_false, Bool.or_false]
  simp only [Bool.or_eq_true, decide_eq_true_eq, List.mem_append, List.mem_singleton, Option.some.injEq]
  exact ⟨fun h => h.imp id Eq.symm, fun h => h.imp id Eq.symm⟩
theorem mem_take_idx {L : List (Int × Int)} {i : Nat} {x : Int × Int} (hn : L.Nodup) (hi : L[i]? = some x) : x ∉ L.take i := by
  intro h
  obtain ⟨j, hj, e⟩ := List.mem_iff_getElem.1 h
  rw [List.length_take] at hj
  rw [List.getElem_take] at e
  obtain ⟨hi2, e2⟩ := List.getElem?_eq_some_iff.1 hi
  have := (List.getElem_inj (h₀ := by omega) (h₁ := hi2) hn).1 (e.trans e2.symm)
  omega
theorem countP_one {q r : Nat → Bool} {j0 : Nat} : ∀ n, j0 < n → (∀ j, j ≠ j0 → q j = r j) → q j0 = true → r j0 = false → (List.range n).countP q = (List.range n).countP r + 1
  | 0, h, _, _, _ => absurd h (Nat.not_lt_zero _)
  | n + 1, h, he, h1, h2 => by
    rw [List.range_succ, List.countP_append, List.countP_append, List.countP_singleton, List.countP_singleton]
    by_cases e : j0 = n
    · subst e
      have : (List.range j0).countP q = (List.range j0).countP r := List.countP_congr fun j hj => by rw [he j (by have := List.mem_range.1 hj; omega)]
      simp [this, h1, h2]
    · rw [countP_one n (by omega) he h1 h2, he n (Ne.symm e)]
      omega
/-- One more shock: it counts for one speed at one position. -/
theorem cn_step (a : Ar) {L : List (Int × Int)} {i : Nat} {t : Int} {x : Int × Int} (hn : L.Nodup) (hi : L[i]? = some x) (ht : -(a.sh : Int) ≤ t ∧ t ≤ (a.sh : Int)) (q u : Int) :
    (cn a L i (t + 1) q u : Int) = if q = x.1 - x.2 ∧ u = x.2 - t then (cn a L i t q u : Int) + 1 else (cn a L i t q u : Int) := by
  have hsame : ∀ s, s ≠ t → Pr L i (t + 1) q u s = Pr L i t q u s := fun s hs => by
    unfold Pr
    have : decide (s < t + 1) = decide (s < t) := decide_eq_decide.2 (by omega)
    rw [this]
  by_cases e : q = x.1 - x.2 ∧ u = x.2 - t
  · rw [if_pos e]
    have ho : oute q u t = x := by unfold oute; rw [e.1, e.2]; ext <;> simp <;> omega
    have := countP_one (q := fun j : Nat => Pr L i (t + 1) q u ((j : Int) - (a.sh : Int))) (r := fun j : Nat => Pr L i t q u ((j : Int) - (a.sh : Int))) (j0 := (t + a.sh).toNat) (2 * a.sh + 1) (by omega) (fun j hj => hsame _ (by omega))
      (by
        show Pr L i (t + 1) q u _ = true
        rw [show (((t + a.sh).toNat : Nat) : Int) - (a.sh : Int) = t by omega]
        unfold Pr
        rw [ho, hi]
        simp
        right; omega)
      (by
        show Pr L i t q u _ = false
        rw [show (((t + a.sh).toNat : Nat) : Int) - (a.sh : Int) = t by omega]
        unfold Pr
        rw [ho, decide_eq_false (mem_take_idx hn hi)]
        simp)
    unfold cn
    omega
  · rw [if_neg e]
    have ho : oute q u t ≠ x := fun h => e (by rw [← h]; unfold oute; simp only; omega)
    unfold cn
    congr 1
    apply List.countP_congr
    intro j _
    by_cases hj : ((j : Int) - (a.sh : Int)) = t
    · rw [hj]
      unfold Pr
      rw [hi]
      simp [Ne.symm ho]
    · rw [hsame _ hj]
theorem cn_full {a : Ar} {L : List (Int × Int)} {i : Nat} {t q u : Int} : cn a L i t q u = 2 * a.sh + 1 ↔ ∀ s : Int, -(a.sh : Int) ≤ s → s ≤ (a.sh : Int) → Pr L i t q u s = true := by
  unfold cn
  constructor
  · intro h s h1 h2
    have h3 := List.countP_eq_length.1 (h.trans (by simp : 2 * a.sh + 1 = (List.range (2 * a.sh + 1)).length)) (s + a.sh).toNat (List.mem_range.2 (by omega))
    rwa [show (((s + a.sh).toNat : Nat) : Int) - (a.sh : Int) = s by omega] at h3
  · intro h
    have : (List.range (2 * a.sh + 1)).countP (fun j : Nat => Pr L i t q u ((j : Int) - (a.sh : Int))) = (List.range (2 * a.sh + 1)).length := List.countP_eq_length.2 fun j hj => by
      have := List.mem_range.1 hj
      exact h _ (by omega) (by omega)
    rw [this, List.length_range]
theorem cn_le (a : Ar) (L : List (Int × Int)) (i : Nat) (t q u : Int) : cn a L i t q u ≤ 2 * a.sh + 1 := by
  unfold cn
  exact Nat.le_trans List.countP_le_length (by simp)

/-- The search: L are the states that have been found, lv are their steps; the first i of them have been looked at, and the next one with the shocks less than t. -/
structure Bfs (a : Ar) (f0 : Int → Int → Bool) (L : List (Int × Int)) (lv : Int → Int → Nat) (i : Nat) (t : Int) : Prop where
  nd : L.Nodup
  st : ∀ p v, (p, v) ∈ L → stB a p v = true
  mo : ∀ j k (hj : j < L.length) (hk : k < L.length), j ≤ k → lv L[j].1 L[j].2 ≤ lv L[k].1 L[k].2
  tp : ∀ (h : i < L.length), ∀ p v, (p, v) ∈ L → lv p v ≤ lv L[i].1 L[i].2 + 1
  sd : ∀ p v, (p, v) ∈ L → lvl a f0 (lv p v) p v = true
  ini : ∀ p v, f0 p v = true → (p, v) ∈ L ∧ lv p v = 0
  cm : ∀ q u, (∀ s : Int, -(a.sh : Int) ≤ s → s ≤ (a.sh : Int) → Pr L i t q u s = true) → ∀ m : Nat, (∀ s : Int, -(a.sh : Int) ≤ s → s ≤ (a.sh : Int) → lv (oute q u s).1 (oute q u s).2 ≤ m) →
    ∀ c : Int, -(a.fo : Int) ≤ c → c ≤ (a.fo : Int) → stB a q (u - c) = true → (q, u - c) ∈ L ∧ lv q (u - c) ≤ m + 1
theorem Bfs.start {a : Ar} {f0 : Int → Int → Bool} (h0 : ∀ p v, f0 p v = true → stB a p v = true) (hn : (sts a).Nodup) : Bfs a f0 (lst f0 (sts a)) (fun _ _ => 0) 0 (-(a.sh : Int)) := by
  have hm : ∀ p v, (p, v) ∈ lst f0 (sts a) ↔ f0 p v = true := fun p v => by
    unfold lst
    rw [List.mem_filter, mem_sts]
    exact ⟨fun h => h.2, fun h => ⟨h0 p v h, h⟩⟩
  refine ⟨hn.filter _, fun p v h => h0 p v ((hm p v).1 h), fun _ _ _ _ _ => Nat.le_refl _, fun _ _ _ _ => by omega, fun p v h => (hm p v).1 h, fun p v h => ⟨(hm p v).2 h, rfl⟩, fun q u h => ?_⟩
  have := h (-(a.sh : Int)) (Int.le_refl _) (by omega)
  simp [Pr] at this
theorem Bfs.next {a : Ar} {f0 : Int → Int → Bool} {L : List (Int × Int)} {lv : Int → Int → Nat} {i : Nat} (h : Bfs a f0 L lv i ((a.sh : Int) + 1)) (hi : i < L.length) : Bfs a f0 L lv (i + 1) (-(a.sh : Int)) := by
  refine ⟨h.nd, h.st, h.mo, fun h2 p v hm => Nat.le_trans (h.tp hi p v hm) (Nat.succ_le_succ (h.mo i (i + 1) hi h2 (by omega))), h.sd, h.ini, fun q u hq m hm c => h.cm q u (fun s s1 s2 => ?_) m hm c⟩
  have := hq s s1 s2
  have h1 : L[i]? = some L[i] := List.getElem?_eq_getElem hi
  unfold Pr at this ⊢
  have e1 : decide (s < -(a.sh : Int)) = false := decide_eq_false (by omega)
  have e2 : decide (s < (a.sh : Int) + 1) = true := decide_eq_true (by omega)
  rw [e1, Bool.and_false, Bool.or_false, take_snoc h1, decide_eq_true_eq, List.mem_append, List.mem_singleton] at this
  rw [e2, h1]
  rcases this with h3 | h3
  · rw [decide_eq_true h3]; rfl
  · simp [h3]
/-- The shock leads from a speed at a position from which not all shocks have been looked at. -/
theorem Bfs.part {a : Ar} {f0 : Int → Int → Bool} {L : List (Int × Int)} {lv : Int → Int → Nat} {i : Nat} {t : Int} {x : Int × Int} (h : Bfs a f0 L lv i t) (hi : L[i]? = some x) (ht : -(a.sh : Int) ≤ t ∧ t ≤ (a.sh : Int)) (hc : cn a L i (t + 1) (x.1 - x.2) (x.2 - t) ≠ 2 * a.sh + 1) :
    Bfs a f0 L lv i (t + 1) := by
  refine ⟨h.nd, h.st, h.mo, h.tp, h.sd, h.ini, fun q u hq m hm c => h.cm q u (fun s s1 s2 => ?_) m hm c⟩
  have hne : ¬ (q = x.1 - x.2 ∧ u = x.2 - t) := fun e => hc (by rw [← e.1, ← e.2]; exact cn_full.2 hq)
  have := hq s s1 s2
  unfold Pr at this ⊢
  by_cases e : s = t
  · subst e
    have ho : oute q u s ≠ x := fun h => hne (by rw [← h]; unfold oute; simp only; omega)
    rw [hi] at this ⊢
    simp [Ne.symm ho] at this ⊢
    exact this
  · have e1 : decide (s < t + 1) = decide (s < t) := decide_eq_decide.2 (by omega)
    rwa [e1] at this
theorem pr_app {L l : List (Int × Int)} {i : Nat} (hi : i < L.length) (t q u s : Int) : Pr (L ++ l) i t q u s = Pr L i t q u s := by
  unfold Pr
  rw [List.take_append_of_le_length (by omega), List.getElem?_append_left hi]
theorem cn_app (a : Ar) {L l : List (Int × Int)} {i : Nat} (hi : i < L.length) (t q u : Int) : cn a (L ++ l) i t q u = cn a L i t q u := by
  unfold cn
  exact List.countP_congr fun j _ => by rw [pr_app hi]
/-- The steps with some new states. -/
def lvA (lv : Int → Int → Nat) (l : List (Int × Int)) (x : Nat) (p v : Int) : Nat := if (p, v) ∈ l then x else lv p v
/-- All shocks have been looked at: the states from which a command leads here are found. -/
theorem Bfs.full {a : Ar} {f0 : Int → Int → Bool} {L : List (Int × Int)} {lv : Int → Int → Nat} {i : Nat} {t : Int} {x : Int × Int} {d : Int → Int → Bool} (h : Bfs a f0 L lv i t) (hi : L[i]? = some x) (ht : -(a.sh : Int) ≤ t ∧ t ≤ (a.sh : Int)) (hc : cn a L i (t + 1) (x.1 - x.2) (x.2 - t) = 2 * a.sh + 1)
    (hd : ∀ p v, stB a p v = true → d p v = decide ((p, v) ∈ L)) {k : Nat} (hk : k = 2 * a.fo + 1) :
    Bfs a f0 (L ++ adL a d (x.1 - x.2) (x.2 - t) k) (lvA lv (adL a d (x.1 - x.2) (x.2 - t) k) (lv x.1 x.2 + 1)) i (t + 1) := by
  obtain ⟨hi1, hi2⟩ := List.getElem?_eq_some_iff.1 hi
  generalize hA : adL a d (x.1 - x.2) (x.2 - t) k = A
  have hfull := cn_full.1 hc
  have hfresh : ∀ p v, (p, v) ∈ A → (p, v) ∉ L := fun p v hp hl => by
    rw [← hA, adL_mem] at hp
    have h1 := hd p v hp.2.1
    rw [hp.2.2, decide_eq_true hl] at h1
    cases h1
  have hold : ∀ p v, (p, v) ∈ L → lvA lv A (lv x.1 x.2 + 1) p v = lv p v := fun p v hl => if_neg fun hp => hfresh p v hp hl
  have hnew : ∀ p v, (p, v) ∈ A → lvA lv A (lv x.1 x.2 + 1) p v = lv x.1 x.2 + 1 := fun p v hp => if_pos hp
  have hstA : ∀ p v, (p, v) ∈ A → stB a p v = true := fun p v hp => by rw [← hA, adL_mem] at hp; exact hp.2.1
  have hxL : (x.1, x.2) ∈ L := by rw [← hi2]; exact List.getElem_mem hi1
  have htop : ∀ p v, (p, v) ∈ L ++ A → lvA lv A (lv x.1 x.2 + 1) p v ≤ lv x.1 x.2 + 1 := fun p v hm => by
    rcases List.mem_append.1 hm with hm | hm
    · rw [hold p v hm]
      have := h.tp hi1 p v hm
      rwa [hi2] at this
    · rw [hnew p v hm]; exact Nat.le_refl _
  have hproc : ∀ s : Int, -(a.sh : Int) ≤ s → s ≤ (a.sh : Int) → oute (x.1 - x.2) (x.2 - t) s ∈ L ∧ lv (oute (x.1 - x.2) (x.2 - t) s).1 (oute (x.1 - x.2) (x.2 - t) s).2 ≤ lv x.1 x.2 := fun s s1 s2 => by
    have hp := hfull s s1 s2
    unfold Pr at hp
    rw [Bool.or_eq_true, Bool.and_eq_true, decide_eq_true_eq, decide_eq_true_eq] at hp
    rcases hp with hp | ⟨hp, _⟩
    · obtain ⟨j, hj, e⟩ := List.mem_iff_getElem.1 hp
      rw [List.length_take] at hj
      rw [List.getElem_take] at e
      have := h.mo j i (by omega) hi1 (by omega)
      rw [e, hi2] at this
      exact ⟨List.mem_of_mem_take hp, this⟩
    · rw [hi] at hp
      injection hp with hp
      rw [← hp]
      exact ⟨hxL, Nat.le_refl _⟩
  have hout : ∀ q u s, Pr L i (t + 1) q u s = true → oute q u s ∈ L := fun q u s hp => by
    unfold Pr at hp
    rw [Bool.or_eq_true, Bool.and_eq_true, decide_eq_true_eq, decide_eq_true_eq] at hp
    rcases hp with hp | ⟨hp, _⟩
    · exact List.mem_of_mem_take hp
    · rw [hi] at hp
      injection hp with hp
      rw [← hp]; exact hxL
  refine ⟨?_, ?_, ?_, ?_, ?_, ?_, ?_⟩
  · rw [List.nodup_append]
    refine ⟨h.nd, by rw [← hA]; exact adL_nodup _ _ _ _ _, fun y hy z hz e => ?_⟩
    subst e
    exact hfresh y.1 y.2 hz hy
  · intro p v hm
    rcases List.mem_append.1 hm with hm | hm
    · exact h.st p v hm
    · exact hstA p v hm
  · intro j k hj hk hjk
    by_cases e : k < L.length
    · rw [List.getElem_append_left (by omega), List.getElem_append_left e, hold L[j].1 L[j].2 (List.getElem_mem (by omega)), hold L[k].1 L[k].2 (List.getElem_mem e)]
      exact h.mo j k (by omega) e hjk
    · have e1 : (L ++ A)[k] ∈ A := by rw [List.getElem_append_right (by omega)]; exact List.getElem_mem _
      rw [hnew (L ++ A)[k].1 (L ++ A)[k].2 e1]
      exact htop (L ++ A)[j].1 (L ++ A)[j].2 (List.getElem_mem hj)
  · intro h1 p v hm
    rw [List.getElem_append_left hi1, hi2, hold _ _ hxL]
    exact htop p v hm
  · intro p v hm
    rcases List.mem_append.1 hm with hm | hm
    · rw [hold p v hm]; exact h.sd p v hm
    · rw [hnew p v hm]
      refine lvl_succ.2 (.inr ⟨hstA p v hm, ?_⟩)
      rw [← hA, adL_mem] at hm
      obtain ⟨⟨j, hj, e⟩, _, _⟩ := hm
      simp only [Prod.mk.injEq] at e
      obtain ⟨e1, e2⟩ := e
      rw [cans_iff]
      refine ⟨(j : Int) - (a.fo : Int), by omega, okc_iff.2 fun s s1 s2 => ?_⟩
      obtain ⟨p1, p2⟩ := hproc s s1 s2
      have := lvl_mono p2 (h.sd _ _ p1)
      unfold oute at this
      rwa [e1, e2, show x.2 - t - ((j : Int) - (a.fo : Int)) + ((j : Int) - (a.fo : Int) + s) = x.2 - t + s by omega]
  · intro p v h0
    obtain ⟨h1, h2⟩ := h.ini p v h0
    exact ⟨List.mem_append_left _ h1, by rw [hold p v h1]; exact h2⟩
  · intro q u hq m hm c c1 c2 hs
    have hq' : ∀ s : Int, -(a.sh : Int) ≤ s → s ≤ (a.sh : Int) → Pr L i (t + 1) q u s = true := fun s s1 s2 => by rw [← pr_app (l := A) hi1]; exact hq s s1 s2
    by_cases e : q = x.1 - x.2 ∧ u = x.2 - t
    · have hin : (q, u - c) ∈ L ++ A := by
        rw [List.mem_append]
        by_cases hl : (q, u - c) ∈ L
        · exact .inl hl
        · right
          rw [← hA, adL_mem]
          refine ⟨⟨(c + a.fo).toNat, by omega, ?_⟩, hs, ?_⟩
          · rw [e.1, e.2, show (((c + a.fo).toNat : Nat) : Int) - (a.fo : Int) = c by omega]
          · show d q (u - c) = false
            rw [hd _ _ hs, decide_eq_false hl]
      refine ⟨hin, Nat.le_trans (htop _ _ hin) ?_⟩
      have ho : oute q u t = x := by unfold oute; rw [e.1, e.2]; ext <;> simp <;> omega
      have := hm t ht.1 ht.2
      rw [ho, hold _ _ hxL] at this
      omega
    · have h1 := h.cm q u (fun s s1 s2 => by
        have hp := hq' s s1 s2
        unfold Pr at hp ⊢
        by_cases es : s = t
        · subst es
          have ho : oute q u s ≠ x := fun h => e (by rw [← h]; unfold oute; simp only; omega)
          rw [hi] at hp ⊢
          simp [Ne.symm ho] at hp ⊢
          exact hp
        · have e1 : decide (s < t + 1) = decide (s < t) := decide_eq_decide.2 (by omega)
          rwa [e1] at hp) m (fun s s1 s2 => by
        have := hm s s1 s2
        rwa [hold (oute q u s).1 (oute q u s).2 (hout q u s (hq' s s1 s2))] at this) c c1 c2 hs
      exact ⟨List.mem_append_left _ h1.1, by rw [hold _ _ h1.1]; exact h1.2⟩
/-- The search is over: each state has its steps. -/
theorem Bfs.done {a : Ar} {f0 : Int → Int → Bool} {L : List (Int × Int)} {lv : Int → Int → Nat} {t : Int} (h : Bfs a f0 L lv L.length t) : ∀ n p v, lvl a f0 n p v = true → (p, v) ∈ L ∧ lv p v ≤ n
  | 0, p, v, e => by have := h.ini p v e; exact ⟨this.1, by omega⟩
  | n + 1, p, v, e => by
    rcases lvl_succ.1 e with e | ⟨e1, e2⟩
    · have := Bfs.done h n p v e; exact ⟨this.1, by omega⟩
    · rw [cans_iff] at e2
      obtain ⟨c, hc, ho⟩ := e2
      rw [okc_iff] at ho
      have hk : ∀ s : Int, -(a.sh : Int) ≤ s → s ≤ (a.sh : Int) → oute p (v + c) s ∈ L ∧ lv (oute p (v + c) s).1 (oute p (v + c) s).2 ≤ n := fun s s1 s2 => by
        have := Bfs.done h n _ _ (ho s s1 s2)
        unfold oute
        rwa [show v + (c + s) = v + c + s by omega] at this
      have := h.cm p (v + c) (fun s s1 s2 => by
        unfold Pr
        rw [List.take_length, decide_eq_true (hk s s1 s2).1]; rfl) n (fun s s1 s2 => (hk s s1 s2).2) c hc.1 hc.2 (by rw [show v + c - c = v by omega]; exact e1)
      rwa [show v + c - c = v by omega] at this
end Go.Proofs.Ytajllhjoagldkaa
