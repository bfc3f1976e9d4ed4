/- A region that draws its order, whose operations may lay new blocks: each operation is walked once, knowing of those before it only what is said of them. -/
import Derived.Test.YtnndhibhnakdoaaDoorQ2
set_option linter.unusedSimpArgs false
set_option linter.unusedVariables false
namespace Go.Proofs.YtnndhibhnakdoaaDoor
open Go Go.Sort Go.RowKit
variable {F : Fence} {n : Nat} {P : Program}

def upd (us : Nat → Value) (i : Nat) (v : Value) : Nat → Value := fun j => if j = i then v else us j
theorem upd_same (us : Nat → Value) (i : Nat) (v : Value) : upd us i v i = v := if_pos rfl
theorem upd_ne {i j : Nat} (us : Nat → Value) (v : Value) (h : j ≠ i) : upd us i v j = us j := if_neg h
/-- The frame whose slots hold what the operations have given. -/
def frW : Nat → List Oper → (Nat → Value) → Act → Act
  | _, [], _, a => a
  | i, o :: r, us, a => frW (i + 1) r us (a.put o.dst (us i))
theorem frW_congr (l : List Oper) : ∀ (i : Nat) (us vs : Nat → Value) (a : Act), (∀ j, i ≤ j → us j = vs j) → frW i l us a = frW i l vs a := by
  induction l with
  | nil => intros; rfl
  | cons o r ih =>
    intro i us vs a h
    simp only [frW]
    rw [h i (Nat.le_refl _)]
    exact ih _ _ _ _ (fun j hj => h j (by omega))
theorem put_none (a : Act) (v : Value) : a.put none v = a := rfl
theorem put_put_same (a : Act) (d : Option Tmp) (x y : Value) : (a.put d x).put d y = a.put d y := by
  cases d with
  | none => rfl
  | some d => simp [Act.put]
theorem put_comm (a : Act) {d e : Tmp} (h : d ≠ e) (x y : Value) : (a.put (some d) x).put (some e) y = (a.put (some e) y).put (some d) x := by
  simp only [Act.put]
  rw [Array.setIfInBounds_comm _ _ h]
theorem put_frW (l : List Oper) : ∀ (i : Nat) (us : Nat → Value) (a : Act) (d : Tmp) (v : Value), (∀ o ∈ l, o.dst ≠ some d) → (frW i l us a).put (some d) v = frW i l us (a.put (some d) v) := by
  induction l with
  | nil => intros; rfl
  | cons o r ih =>
    intro i us a d v h
    simp only [frW]
    rw [ih _ _ _ _ _ (fun p hp => h p (List.mem_cons_of_mem _ hp))]
    have h1 := h o List.mem_cons_self
    cases hd : o.dst with
    | none => rfl
    | some e =>
      rw [hd] at h1
      rw [put_comm a (fun he => h1 (by rw [he]))]
def distB : List Oper → Bool
  | [] => true
  | o :: r => (o.dst.isNone || r.all fun p => p.dst != o.dst) && distB r
theorem frW_put (l : List Oper) : ∀ (i k : Nat) (us : Nat → Value) (a : Act) (v : Value) (o : Oper), distB l = true → l[k]? = some o → (frW i l us a).put o.dst v = frW i l (upd us (i + k) v) a := by
  induction l with
  | nil => intro i k us a v o _ h; simp at h
  | cons p r ih =>
    intro i k us a v o hd ho
    simp only [distB, Bool.and_eq_true, Bool.or_eq_true, Option.isNone_iff_eq_none, List.all_eq_true, bne_iff_ne] at hd
    cases k with
    | zero =>
      obtain rfl : p = o := by simpa using ho
      simp only [frW, Nat.add_zero, upd_same]
      rw [frW_congr r (i + 1) (upd us i v) us _ (fun j hj => upd_ne _ _ (by omega))]
      cases hp : p.dst with
      | none => rfl
      | some d =>
        have h2 := hd.1.resolve_left (by rw [hp]; simp)
        rw [put_frW _ _ _ _ _ _ (fun q hq => by rw [← hp]; exact h2 q hq), put_put_same]
    | succ k =>
      have e1 : i + (k + 1) = i + 1 + k := by omega
      simp only [frW]
      rw [ih (i + 1) k us _ v o hd.2 (by simpa using ho), e1, upd_ne _ _ (by omega)]
theorem frW_self (l : List Oper) (a : Act) : ∀ i : Nat, ∃ us, frW i l us a = a := by
  induction l with
  | nil => intro i; exact ⟨fun _ => undef, rfl⟩
  | cons o r ih =>
    intro i
    obtain ⟨us, hus⟩ := ih (i + 1)
    have hself : ∃ v, a.put o.dst v = a := by
      cases o.dst with
      | none => exact ⟨undef, rfl⟩
      | some d =>
        refine ⟨a.tmps.getD d undef, ?_⟩
        simp only [Act.put]
        congr 1
        apply Array.ext_getElem?
        intro k
        rw [Array.getElem?_setIfInBounds]
        split
        · rename_i h
          subst h
          split
          · rename_i h; simp [Array.getD, h]
          · rename_i h; exact (Array.getElem?_eq_none (by omega)).symm
        · rfl
    obtain ⟨v, hv⟩ := hself
    refine ⟨upd us i v, ?_⟩
    simp only [frW, upd_same]
    rw [hv, frW_congr r (i + 1) (upd us i v) us _ (fun j hj => upd_ne _ _ (by omega)), hus]

/-- What is said of the operations that one comes after. -/
def AfterW (G : Nat → (Nat → Value) → World → Prop) (us : Nat → Value) (w : World) : List Edge → Prop
  | [] => True
  | e :: r => (Region.binds .any e = true → G e.on us w) ∧ AfterW G us w r
theorem afterW_of {G : Nat → (Nat → Value) → World → Prop} {us : Nat → Value} {w : World} : ∀ {l : List Edge}, (∀ e ∈ l, Region.binds .any e = true → G e.on us w) → AfterW G us w l
  | [], _ => trivial
  | e :: r, h => ⟨h e List.mem_cons_self, afterW_of (fun x hx => h x (List.mem_cons_of_mem _ hx))⟩

/-- The operation that gives a slot. -/
def slotAt : List Oper → Tmp → Option Nat
  | [], _ => none
  | o :: r, t => if o.dst = some t then some 0 else (slotAt r t).map (· + 1)
theorem frW_size (l : List Oper) : ∀ (i : Nat) (us : Nat → Value) (a : Act), (frW i l us a).tmps.size = a.tmps.size := by
  induction l with
  | nil => intros; rfl
  | cons o r ih =>
    intro i us a
    simp only [frW]
    rw [ih]
    cases o.dst <;> simp [Act.put]
theorem put_get_ne (a : Act) (d : Option Tmp) (v : Value) (t : Tmp) (h : d ≠ some t) : (a.put d v).tmps[t]? = a.tmps[t]? := by
  cases d with
  | none => rfl
  | some d => simp only [Act.put]; rw [Array.getElem?_setIfInBounds_ne (fun e => h (by rw [e]))]
theorem frW_none (l : List Oper) : ∀ (i : Nat) (us : Nat → Value) (a : Act) (t : Tmp), slotAt l t = none → (frW i l us a).tmps[t]? = a.tmps[t]? := by
  induction l with
  | nil => intros; rfl
  | cons o r ih =>
    intro i us a t h
    unfold slotAt at h
    split at h
    · cases h
    · rename_i hne
      simp only [frW]
      rw [ih _ _ _ _ (by simpa using h), put_get_ne _ _ _ _ hne]
theorem distB_slot {l : List Oper} {o : Oper} (h : distB (o :: l) = true) {t : Tmp} (ho : o.dst = some t) : slotAt l t = none := by
  simp only [distB, Bool.and_eq_true, Bool.or_eq_true, Option.isNone_iff_eq_none, List.all_eq_true, bne_iff_ne] at h
  have h2 := h.1.resolve_left (by rw [ho]; simp)
  clear h
  induction l with
  | nil => rfl
  | cons p r ih =>
    unfold slotAt
    have h3 := h2 p List.mem_cons_self
    rw [ho] at h3
    rw [if_neg h3, ih (fun q hq => h2 q (List.mem_cons_of_mem _ hq))]
    rfl
theorem frW_some (l : List Oper) : ∀ (i : Nat) (us : Nat → Value) (a : Act) (t : Tmp) (k : Nat), distB l = true → slotAt l t = some k → t < a.tmps.size → (frW i l us a).tmps[t]? = some (us (i + k)) := by
  induction l with
  | nil => intro i us a t k _ h; simp [slotAt] at h
  | cons o r ih =>
    intro i us a t k hd h ht
    have hd2 : distB r = true := by simp only [distB, Bool.and_eq_true] at hd; exact hd.2
    simp only [frW]
    unfold slotAt at h
    split at h
    · rename_i hds
      obtain rfl : 0 = k := by simpa using h
      rw [frW_none _ _ _ _ _ (distB_slot hd hds), hds]
      simp [Act.put, ht]
    · obtain ⟨k', hk', rfl⟩ : ∃ k', slotAt r t = some k' ∧ k' + 1 = k := by simpa using h
      have := ih (i + 1) us (a.put o.dst (us i)) t k' hd2 hk' (by cases o.dst <;> simpa [Act.put] using ht)
      rw [this]
      congr 2
      omega
theorem slot_none {l : List Oper} {us : Nat → Value} {a A : Act} {t : Tmp} {v : Value} (hA : A = frW 0 l us a) (h : slotAt l t = none) (hv : a.tmps[t]?.getD undef = v) : A.tmps[t]?.getD undef = v := by
  rw [hA, frW_none _ _ _ _ _ h, hv]
theorem slot_some {l : List Oper} {us : Nat → Value} {a A : Act} {t : Tmp} {k : Nat} {v : Value} (hA : A = frW 0 l us a) (hd : distB l = true) (h : slotAt l t = some k) (ht : t < a.tmps.size) (hv : us k = v) : A.tmps[t]?.getD undef = v := by
  rw [hA, frW_some l 0 us a t k hd h ht, Nat.zero_add, hv]; rfl
/-- One operation comes at once after another. -/
def depB (l : List Oper) (j i : Nat) : Bool := match l[j]? with | some o => o.after.toList.any (fun e => e.on == i && Region.binds .any e) | none => false
def LocalW (l : List Oper) (G : Nat → (Nat → Value) → World → Prop) : Prop := ∀ j us i v w, i ≠ j → depB l j i = false → G j us w → G j (upd us i v) w
/-- One operation: whatever of the others has been done. -/
def StepW (F : Fence) (n : Nat) (P : Program) (l : List Oper) (Q : Exit → Act → World → Prop) (a0 : Act) (C : World → Prop) (R : World → World → Prop) (G : Nat → (Nat → Value) → World → Prop) (i : Nat) (o : Oper) : Prop :=
  ∀ (A : Act) us w, A = frW 0 l us a0 → C w → AfterW G us w o.after.toList → ∀ K : Act → World → Prop, (∀ v w', C w' → R w w' → G i (upd us i v) w' → K (A.put o.dst v) w') → (match o.guard with | none => o.wpIn F n P A w K Q | some _ => wpOpIn F n P l.toArray Q i K A w)
def StepsW (F : Fence) (n : Nat) (P : Program) (l : List Oper) (Q : Exit → Act → World → Prop) (a0 : Act) (C : World → Prop) (R : World → World → Prop) (G : Nat → (Nat → Value) → World → Prop) : Nat → List Oper → Prop
  | _, [] => True
  | i, o :: r => StepW F n P l Q a0 C R G i o ∧ StepsW F n P l Q a0 C R G (i + 1) r
theorem stepsW_get {l : List Oper} {Q : Exit → Act → World → Prop} {a0 : Act} {C : World → Prop} {R : World → World → Prop} {G : Nat → (Nat → Value) → World → Prop} : ∀ (r : List Oper) (i k : Nat) (o : Oper), StepsW F n P l Q a0 C R G i r → r[k]? = some o → StepW F n P l Q a0 C R G (i + k) o
  | [], _, k, _, _, h => by simp at h
  | p :: r, i, 0, o, h, ho => by
    obtain rfl : p = o := by simpa using ho
    exact h.1
  | p :: r, i, k + 1, o, h, ho => by
    have := stepsW_get r (i + 1) k o h.2 (by simpa using ho)
    rwa [show i + 1 + k = i + (k + 1) by omega] at this

theorem ready_back {l : List Oper} (back : ∀ (i : Nat) (o : Oper), l[i]? = some o → ∀ e ∈ o.after, Region.binds .any e = true → e.on < i) (listed : Array Bool) (hsz : listed.size = l.length) {i : Nat} (hi : i < l.length) (hl : listed.getD i true = false) : Region.ready .any l.toArray listed ≠ [] := by
  obtain ⟨k, hk, hmin⟩ := exists_least (p := fun k => k < l.length ∧ listed.getD k true = false) ⟨i, hi, hl⟩
  intro he
  have hmem : k ∈ Region.ready .any l.toArray listed := by
    unfold Region.ready
    simp only [List.size_toArray, List.getElem?_toArray, List.mem_filter, List.mem_range, Bool.and_eq_true, Bool.not_eq_true']
    refine ⟨hk.1, hk.2, ?_⟩
    rw [List.getElem?_eq_getElem hk.1]
    simp only [Option.map_some, Option.getD_some]
    rw [Array.all_eq_true_iff_forall_mem]
    intro e hme
    cases hbd : Region.binds .any e with
    | false => rfl
    | true =>
      have hlt := back k _ (List.getElem?_eq_getElem hk.1) e hme hbd
      cases hb : listed.getD e.on true with
      | false => have := hmin e.on ⟨by omega, hb⟩; omega
      | true =>
        have h8 : e.on < listed.size := by have := hk.1; omega
        have h9 : listed.getD e.on false = true := by
          simp only [Array.getD, h8, dif_pos] at hb ⊢
          exact hb
        simp [h9]
  rw [he] at hmem
  exact absurd hmem (by simp)

def backB (l : List Oper) : Bool := l.zipIdx.all fun x => x.1.after.toList.all fun e => !Region.binds .any e || decide (e.on < x.2)
theorem backB_ok {l : List Oper} (h : backB l = true) : ∀ (i : Nat) (o : Oper), l[i]? = some o → ∀ e ∈ o.after, Region.binds .any e = true → e.on < i := by
  simp only [backB, List.all_eq_true] at h
  intro i o ho e he hb
  have := h (o, i) (List.mem_zipIdx_iff_getElem?.2 ho) e (Array.mem_toList_iff.2 he)
  rw [hb] at this
  simpa using this

theorem getD_set_same {a : Array Bool} {i : Nat} (h : i < a.size) (v d : Bool) : (a.setIfInBounds i v).getD i d = v := by simp [Array.getD, h]

/-- The last one stands behind all others, if not at once. -/
def needB (l : List Oper) : Nat → Nat → Bool
  | 0, _ => false
  | f + 1, j => j + 1 == l.length || (List.range l.length).any fun k => (match l[k]? with | some o => o.after.toList.any (fun e => e.on == j && Region.binds .any e) | none => false) && needB l f k
def tail2B (l : List Oper) : Bool :=
  backB l && (List.range (l.length - 1)).all (fun j => needB l 4 j) && (lastOp l).dst.isNone && (lastOp l).guard.isNone && decide (0 < l.length)
def ClosedW (l : List Oper) (listed : Array Bool) : Prop := ∀ j o, l[j]? = some o → listed.getD j false = true → ∀ e ∈ o.after, Region.binds .any e = true → listed.getD e.on false = true
theorem need_listed {l : List Oper} {listed : Array Bool} (hcl : ClosedW l listed) (hlast : ∀ i o, i + 1 = l.length → l[i]? = some o → ∀ e ∈ o.after, Region.binds .any e = true → listed.getD e.on false = true) :
    ∀ (f j : Nat), needB l f j = true → j + 1 = l.length ∨ listed.getD j false = true
  | 0, j, h => by simp [needB] at h
  | f + 1, j, h => by
    simp only [needB, Bool.or_eq_true, beq_iff_eq, List.any_eq_true, List.mem_range, Bool.and_eq_true] at h
    rcases h with h | ⟨k, hk, h1, h2⟩
    · exact .inl h
    · right
      cases ho : l[k]? with
      | none => rw [ho] at h1; simp at h1
      | some o =>
        rw [ho] at h1
        simp only [List.any_eq_true, Bool.and_eq_true, beq_iff_eq] at h1
        obtain ⟨e, he, h3, h4⟩ := h1
        have he' := Array.mem_toList_iff.1 he
        rw [← h3]
        rcases need_listed hcl hlast f k h2 with h5 | h5
        · exact hlast k o h5 ho e he' h4
        · exact hcl k o ho h5 e he' h4
theorem closed_set {l : List Oper} {listed : Array Bool} (hcl : ClosedW l listed) {i : Nat} {o : Oper} (ho : l[i]? = some o) (h3 : ∀ e ∈ o.after, Region.binds .any e = true → listed.getD e.on false = true) : ClosedW l (listed.setIfInBounds i true) := by
  have mono : ∀ j, listed.getD j false = true → (listed.setIfInBounds i true).getD j false = true := by
    intro j hj
    by_cases hji : j = i
    · subst hji
      by_cases hs : j < listed.size
      · exact getD_set_same hs _ _
      · simp [Array.getD, hs] at hj
    · rw [getD_set_ne hji]; exact hj
  intro j p hp hj e he hb
  by_cases hji : j = i
  · subst hji
    rw [hp] at ho
    cases ho
    exact mono _ (h3 e he hb)
  · rw [getD_set_ne hji] at hj
    exact mono _ (hcl j p hp hj e he hb)
theorem closed_empty (l : List Oper) (m : Nat) : ClosedW l (Array.replicate m false) := fun j o ho hj => by exact absurd hj (by unfold Array.getD; split <;> simp)
structure Tail2 (l : List Oper) : Prop where
  back : backB l = true
  need : ∀ j, j + 1 < l.length → needB l 4 j = true
  dst : (lastOp l).dst = none
  guard : (lastOp l).guard = none
  pos : 0 < l.length
theorem tail2B_ok {l : List Oper} (h : tail2B l = true) : Tail2 l := by
  simp only [tail2B, Bool.and_eq_true, List.all_eq_true, List.mem_range, Option.isNone_iff_eq_none, decide_eq_true_eq] at h
  obtain ⟨⟨⟨⟨h1, h2⟩, h3⟩, h4⟩, h5⟩ := h
  exact ⟨h1, fun j hj => h2 j (by omega), h3, h4, h5⟩

theorem tail2_any {C : World → Prop} {l : List Oper} (ok : Tail2 l) {Q : Exit → Act → World → Prop} {QL : Act → Prop}
    (hQ : ∀ a w, C w → QL a → (lastOp l).wpIn F n P a w (fun a' w' => Q .normal a' w') Q) :
    ∀ (fuel : Nat) (listed : Array Bool) (a : Act) (w : World), listed.size = l.length → ClosedW l listed → listed.getD (l.length - 1) true = false → C w →
      wpAnyQIn F n P .any (stub l).toArray C QL fuel listed a → wpAnyIn F n P .any l.toArray Q fuel listed a w
  | 0, listed, a, w, hsz, hcl, hN, hw, h => by
    have := h.1
    rw [stub_ready] at this
    exact absurd this (ready_back (backB_ok ok.back) listed hsz (show l.length - 1 < l.length by have := ok.pos; omega) hN)
  | fuel + 1, listed, a, w, hsz, hcl, hN, hw, h => by
    have hpos := ok.pos
    refine ⟨fun h0 => absurd h0 (ready_back (backB_ok ok.back) listed hsz (show l.length - 1 < l.length by omega) hN), fun i hi => ?_⟩
    have hq := h.2 i (by rw [stub_ready]; exact hi)
    obtain ⟨h1, h2, o, ho, h3⟩ := ready_mem hi
    have hil : i < l.length := by simpa using h1
    rw [List.getElem?_toArray] at ho
    by_cases hlast : i + 1 = l.length
    · obtain ⟨e1, e2⟩ := stub_last l i hlast
      have hll : ∀ i' o', i' + 1 = l.length → l[i']? = some o' → ∀ e ∈ o'.after, Region.binds .any e = true → listed.getD e.on false = true := by
        intro i' o' hi' ho'
        obtain rfl : i' = i := by omega
        rw [ho] at ho'
        cases ho'
        exact h3
      have hall : ∀ j, j < l.length → (listed.setIfInBounds i true).getD j true = true := by
        intro j hj
        by_cases hji : j = i
        · subst hji; exact getD_set_same (by omega) _ _
        · have h4 := (need_listed hcl hll 4 j (ok.need j (by omega))).resolve_left (by omega)
          rw [getD_set_ne hji]
          simp only [Array.getD, hsz, hj, dif_pos] at h4 ⊢
          exact h4
      have hnone := ready_none (md := .any) hall
      unfold qOpIn at hq
      rw [List.getElem?_toArray, e1] at hq
      simp only [Region.wanted, ok.guard, if_true] at hq
      obtain ⟨_, v, _, hv⟩ := hq
      have hdst : ({ lastOp l with op := Op.move (.const undef) } : Oper).dst = none := ok.dst
      rw [hdst] at hv
      have hQL : QL a := by
        cases fuel with
        | zero => exact hv.2
        | succ f => exact hv.1 (by rw [stub_ready]; exact hnone)
      unfold wpOpIn
      rw [List.getElem?_toArray, e2]
      simp only [Region.wanted, ok.guard, if_true]
      refine Oper.wpIn_mono (fun a' w' hq' => ?_) (hQ a w hw hQL)
      cases fuel with
      | zero => exact ⟨hnone, hq'⟩
      | succ f => exact ⟨fun _ => hq', fun k hk => by rw [hnone] at hk; cases hk⟩
    · have e1 := stub_get l i (by omega)
      have hop : ∀ K : Act → Prop, qOpIn F n P (stub l).toArray C i K a = qOpIn F n P l.toArray C i K a := by
        intro K
        unfold qOpIn
        rw [List.getElem?_toArray, List.getElem?_toArray, e1, stub_yielded]
      rw [hop] at hq
      refine round_op_of_quiet hw (fun a' w' hw' hk => ?_) hq
      have hne : l.length - 1 ≠ i := by omega
      refine tail2_any ok hQ fuel _ a' w' (by simpa using hsz) (closed_set hcl ho h3) ?_ hw' hk
      rw [getD_set_ne hne]
      exact hN

theorem tail2_region {id : Nat} {Q : Exit → Act → World → Prop} {a : Act} {w : World} {l : List Oper} (hm : P.follows .mixedOrders = true) (hB : Region.lexB .any (stub l).toArray = true) (hT : tail2B l = true)
    (h : wpQuietIn F n P (stub l).toArray (fun w' => ∃ p : Regrown, w' = grow (redrawn w p.d) p.os) (fun a' => ∀ w', (∃ p : Regrown, w' = grow (redrawn w p.d) p.os) → (lastOp l).wpIn F n P a' w' (fun a'' w'' => Q .normal a'' w'') Q) (stub l) a) : (Code.region id l.toArray true).wpIn F n P Q a w := by
  have ok := tail2B_ok hT
  simp only [Region.lexB, Bool.and_eq_true] at hB
  refine wpIn_region_any hm ?_
  have h2 := wpAnyQIn_lex (F := F) (n := n) (C := fun w' => ∃ p : Regrown, w' = grow (redrawn w p.d) p.os) (md := .any) hB.1 (stub l) 0 (Array.replicate (stub l).length false) a (by simp) (by simpa using hB.2) h
  rw [stub_length] at h2
  simp only [List.size_toArray]
  have hpos := ok.pos
  exact tail2_any ok (C := fun w' => ∃ p : Regrown, w' = grow (redrawn w p.d) p.os) (fun a w hw hq => hq w hw) l.length _ a _ (by simp) (closed_empty _ _) (by unfold Array.getD; rw [dif_pos (by simp; omega)]; simp) ⟨⟨w.drawn + 1, #[]⟩, by rw [grow_empty]; rfl⟩ h2

section
variable {l : List Oper} {Q : Exit → Act → World → Prop} {a0 : Act} {C : World → Prop} {R : World → World → Prop} {G : Nat → (Nat → Value) → World → Prop}

theorem wild_step (hd : distB l = true) (hloc : LocalW l G) (hstab : ∀ i us w w', R w w' → G i us w → G i us w') {i : Nat} {o : Oper} (ho : l[i]? = some o) (hs : StepW F n P l Q a0 C R G i o) {listed : Array Bool} (hsz : listed.size = l.length) (hcl : ClosedW l listed) (hni : listed.getD i false = false) {us : Nat → Value} {w : World} (hC : C w)
    (hG : ∀ j, listed.getD j false = true → G j us w) (haft : ∀ e ∈ o.after, Region.binds .any e = true → listed.getD e.on false = true) (K : Act → World → Prop)
    (hK : ∀ us' w', C w' → (∀ j, (listed.setIfInBounds i true).getD j false = true → G j us' w') → K (frW 0 l us' a0) w') : wpOpIn F n P l.toArray Q i K (frW 0 l us a0) w := by
  have hil : i < l.length := (List.getElem?_eq_some_iff.1 ho).1
  have hfin := hs _ us w rfl hC (afterW_of fun e he hb => hG _ (haft e (Array.mem_toList_iff.1 he) hb)) K (fun v w' hC' hR hv => by
    rw [frW_put l 0 i us a0 v o hd ho, Nat.zero_add]
    refine hK _ w' hC' (fun j hj => ?_)
    by_cases hji : j = i
    · subst hji; exact hv
    · rw [getD_set_ne hji] at hj
      refine hloc j us i v w' (fun h => hji h.symm) ?_ (hstab _ _ _ _ hR (hG j hj))
      cases hdp : depB l j i with
      | false => rfl
      | true =>
        exfalso
        unfold depB at hdp
        split at hdp
        · rename_i p hp
          simp only [List.any_eq_true, Bool.and_eq_true, beq_iff_eq] at hdp
          obtain ⟨e, he, h3, h4⟩ := hdp
          have h5 := hcl j p hp hj e (Array.mem_toList_iff.1 he) h4
          rw [h3, hni] at h5
          cases h5
        · cases hdp)
  split at hfin
  · rename_i hg
    unfold wpOpIn
    rw [List.getElem?_toArray, ho]
    simp only [Region.wanted, hg, if_true]
    exact hfin
  · exact hfin

theorem wild_any (hb : backB l = true) (hd : distB l = true) (hloc : LocalW l G) (hstab : ∀ i us w w', R w w' → G i us w → G i us w') (hs : StepsW F n P l Q a0 C R G 0 l)
    (hend : ∀ us w, C w → (∀ j, j < l.length → G j us w) → Q .normal (frW 0 l us a0) w) :
    ∀ (fuel : Nat) (listed : Array Bool) (us : Nat → Value) (w : World), listed.size = l.length → ClosedW l listed → C w → (∀ j, listed.getD j false = true → G j us w) → (fuel = 0 → ∀ j, j < l.length → listed.getD j true = true) → (∀ m, m ≤ l.length → True) →
      ((listed.toList.filter (· == false)).length ≤ fuel) → wpAnyIn F n P .any l.toArray Q fuel listed (frW 0 l us a0) w
  | 0, listed, us, w, hsz, hcl, hC, hG, h0, _, _ => by
    have hall := h0 rfl
    refine ⟨ready_none hall, hend us w hC (fun j hj => hG j ?_)⟩
    have := hall j hj
    simp only [Array.getD, hsz, hj, dif_pos] at this ⊢
    exact this
  | fuel + 1, listed, us, w, hsz, hcl, hC, hG, _, _, hcnt => by
    refine ⟨fun h0 => ?_, fun i hi => ?_⟩
    · refine hend us w hC (fun j hj => hG j ?_)
      cases hl : listed.getD j true with
      | false => exact absurd h0 (ready_back (backB_ok hb) listed hsz hj hl)
      | true =>
        simp only [Array.getD, hsz, hj, dif_pos] at hl ⊢
        exact hl
    · obtain ⟨h1, h2, o, ho, h3⟩ := ready_mem hi
      rw [List.getElem?_toArray] at ho
      have hil : i < l.length := by simpa using h1
      have hcnt' : ((listed.setIfInBounds i true).toList.filter (· == false)).length ≤ fuel := by
        have h4 : listed.toList[i]? = some false := by
          have : i < listed.toList.length := by simpa [hsz] using hil
          rw [List.getElem?_eq_getElem this]
          simp only [Array.getD, hsz, hil, dif_pos] at h2
          simpa using h2
        have key : ∀ (L : List Bool) (k : Nat), L[k]? = some false → ((L.set k true).filter (· == false)).length + 1 = (L.filter (· == false)).length := by
          intro L
          induction L with
          | nil => intro k h; simp at h
          | cons b L ih =>
            intro k h
            cases k with
            | zero =>
              obtain rfl : b = false := by simpa using h
              simp
            | succ k =>
              have := ih k (by simpa using h)
              rw [List.set_cons_succ, List.filter_cons, List.filter_cons]
              split <;> (try simp only [List.length_cons]) <;> omega
        have := key _ _ h4
        rw [Array.toList_setIfInBounds]
        omega
      have hst := stepsW_get l 0 i o hs ho
      rw [Nat.zero_add] at hst
      have hni : listed.getD i false = false := by
        simp only [Array.getD, hsz, hil, dif_pos] at h2 ⊢
        exact h2
      refine wild_step hd hloc hstab ho hst hsz hcl hni hC hG h3 _ (fun us' w' hC' hG' => ?_)
      refine wild_any hb hd hloc hstab hs hend fuel _ us' w' (by simpa using hsz) (closed_set hcl ho h3) hC' hG' (fun hf j hj => ?_) (fun _ _ => trivial) hcnt'
      subst hf
      have h5 : (listed.setIfInBounds i true).toList.filter (· == false) = [] := List.length_eq_zero_iff.1 (by omega)
      rw [List.filter_eq_nil_iff] at h5
      have hj2 : j < (listed.setIfInBounds i true).size := by simpa [hsz] using hj
      have h6 := h5 (listed.setIfInBounds i true)[j] (by rw [← Array.getElem_toList]; exact List.getElem_mem _)
      rw [show (listed.setIfInBounds i true).getD j true = (listed.setIfInBounds i true)[j] by simp only [Array.getD, hj2, dif_pos]; rfl]
      generalize (listed.setIfInBounds i true)[j] = b at h6 ⊢
      cases b
      · exact absurd rfl h6
      · rfl

/-- The whole region; no operation is behind all others. -/
theorem wild_region {id : Nat} {w : World} (hm : P.follows .mixedOrders = true) (hb : backB l = true) (hd : distB l = true) (hloc : LocalW l G) (hC : C { w with drawn := w.drawn + 1 }) (hstab : ∀ i us w w', R w w' → G i us w → G i us w')
    (hs : StepsW F n P l Q a0 C R G 0 l) (hend : ∀ us w, C w → (∀ j, j < l.length → G j us w) → Q .normal (frW 0 l us a0) w) : (Code.region id l.toArray true).wpIn F n P Q a0 w := by
  refine wpIn_region_any hm ?_
  obtain ⟨us, hus⟩ := frW_self l a0 0
  have := wild_any (F := F) (n := n) (P := P) (Q := Q) (a0 := a0) (C := C) (R := R) (G := G) hb hd hloc hstab hs hend l.length (Array.replicate l.length false) us _ (by simp) (closed_empty _ _) hC
    (fun j hj => by exact absurd hj (by unfold Array.getD; split <;> simp)) (fun h0 j hj => by omega) (fun _ _ => trivial) (by refine Nat.le_trans (List.length_filter_le _ _) (by simp))
  rw [hus] at this
  simpa using this

theorem wild_tail_any (ok : Tail2 l) (hd : distB l = true) (hloc : LocalW l G) (hstab : ∀ i us w w', R w w' → G i us w → G i us w') (hs : StepsW F n P l Q a0 C R G 0 l.dropLast)
    (hend : ∀ us w, C w → (∀ j, j + 1 < l.length → G j us w) → (lastOp l).wpIn F n P (frW 0 l us a0) w (fun a' w' => Q .normal a' w') Q) :
    ∀ (fuel : Nat) (listed : Array Bool) (us : Nat → Value) (w : World), listed.size = l.length → ClosedW l listed → listed.getD (l.length - 1) true = false → C w → (∀ j, listed.getD j false = true → G j us w) →
      wpAnyIn F n P .any l.toArray Q fuel listed (frW 0 l us a0) w ∨ (fuel < (listed.toList.filter (· == false)).length)
  | 0, listed, us, w, hsz, hcl, hN, hC, hG => by
    right
    have hpos := ok.pos
    have hx : l.length - 1 < listed.size := by omega
    have h4 : listed[l.length - 1] = false := by simpa [Array.getD, hx] using hN
    refine List.length_pos_iff.2 (List.ne_nil_of_mem (List.mem_filter.2 ⟨(?_ : false ∈ _), rfl⟩))
    rw [← h4, ← Array.getElem_toList]
    exact List.getElem_mem _
  | fuel + 1, listed, us, w, hsz, hcl, hN, hC, hG => by
    by_cases hf : fuel + 1 < (listed.toList.filter (· == false)).length
    · exact .inr hf
    left
    have hpos := ok.pos
    refine ⟨fun h0 => absurd h0 (ready_back (backB_ok ok.back) listed hsz (show l.length - 1 < l.length by omega) hN), fun i hi => ?_⟩
    obtain ⟨h1, h2, o, ho, h3⟩ := ready_mem hi
    rw [List.getElem?_toArray] at ho
    have hil : i < l.length := by simpa using h1
    by_cases hlast : i + 1 = l.length
    · obtain ⟨_, e2⟩ := stub_last l i hlast
      have hll : ∀ i' o', i' + 1 = l.length → l[i']? = some o' → ∀ e ∈ o'.after, Region.binds .any e = true → listed.getD e.on false = true := by
        intro i' o' hi' ho'
        obtain rfl : i' = i := by omega
        rw [ho] at ho'
        cases ho'
        exact h3
      have hl : ∀ j, j + 1 < l.length → listed.getD j false = true := fun j hj => (need_listed hcl hll 4 j (ok.need j hj)).resolve_left (by omega)
      have hall : ∀ j, j < l.length → (listed.setIfInBounds i true).getD j true = true := by
        intro j hj
        by_cases hji : j = i
        · subst hji; exact getD_set_same (by omega) _ _
        · have h4 := hl j (by omega)
          rw [getD_set_ne hji]
          simp only [Array.getD, hsz, hj, dif_pos] at h4 ⊢
          exact h4
      have hnone := ready_none (md := .any) hall
      unfold wpOpIn
      rw [List.getElem?_toArray, e2]
      simp only [Region.wanted, ok.guard, if_true]
      refine Oper.wpIn_mono (fun a' w' hq' => ?_) (hend us w hC (fun j hj => hG j (hl j hj)))
      cases fuel with
      | zero => exact ⟨hnone, hq'⟩
      | succ f => exact ⟨fun _ => hq', fun k hk => by rw [hnone] at hk; cases hk⟩
    · have ho' : l.dropLast[i]? = some o := by
        rw [List.dropLast_eq_take, List.getElem?_take_of_lt (by omega)]; exact ho
      have hst := stepsW_get l.dropLast 0 i o hs ho'
      rw [Nat.zero_add] at hst
      have hni : listed.getD i false = false := by
        simp only [Array.getD, hsz, hil, dif_pos] at h2 ⊢
        exact h2
      refine wild_step hd hloc hstab ho hst hsz hcl hni hC hG h3 _ (fun us' w' hC' hG' => ?_)
      have hne : l.length - 1 ≠ i := by omega
      refine (wild_tail_any ok hd hloc hstab hs hend fuel _ us' w' (by simpa using hsz) (closed_set hcl ho h3) (by rw [getD_set_ne hne]; exact hN) hC' hG').resolve_right ?_
      have h4 : listed.toList[i]? = some false := by
        have : i < listed.toList.length := by simpa [hsz] using hil
        rw [List.getElem?_eq_getElem this]
        simp only [Array.getD, hsz, hil, dif_pos] at h2
        simpa using h2
      have key : ∀ (L : List Bool) (k : Nat), L[k]? = some false → ((L.set k true).filter (· == false)).length + 1 = (L.filter (· == false)).length := by
        intro L
        induction L with
        | nil => intro k h; simp at h
        | cons b L ih =>
          intro k h
          cases k with
          | zero =>
            obtain rfl : b = false := by simpa using h
            simp
          | succ k =>
            have := ih k (by simpa using h)
            rw [List.set_cons_succ, List.filter_cons, List.filter_cons]
            split <;> (try simp only [List.length_cons]) <;> omega
      have := key _ _ h4
      rw [Array.toList_setIfInBounds]
      omega

/-- The whole region; its last operation is behind all others. -/
theorem wild_tail {id : Nat} {w : World} (hm : P.follows .mixedOrders = true) (hT : tail2B l = true) (hd : distB l = true) (hloc : LocalW l G) (hC : C { w with drawn := w.drawn + 1 }) (hstab : ∀ i us w w', R w w' → G i us w → G i us w')
    (hs : StepsW F n P l Q a0 C R G 0 l.dropLast) (hend : ∀ us w, C w → (∀ j, j + 1 < l.length → G j us w) → (lastOp l).wpIn F n P (frW 0 l us a0) w (fun a' w' => Q .normal a' w') Q) : (Code.region id l.toArray true).wpIn F n P Q a0 w := by
  have ok := tail2B_ok hT
  have hpos := ok.pos
  refine wpIn_region_any hm ?_
  obtain ⟨us, hus⟩ := frW_self l a0 0
  have := (wild_tail_any (F := F) (n := n) (P := P) (Q := Q) (a0 := a0) (C := C) (R := R) (G := G) ok hd hloc hstab hs hend l.length (Array.replicate l.length false) us _ (by simp) (closed_empty _ _) (by unfold Array.getD; rw [dif_pos (by simp; omega)]; simp) hC
    (fun j hj => by exact absurd hj (by unfold Array.getD; split <;> simp))).resolve_right (by have := List.length_filter_le (· == false) (Array.replicate l.length false).toList; simp at this ⊢)
  rw [hus] at this
  simpa using this
end
end Go.Proofs.YtnndhibhnakdoaaDoor
