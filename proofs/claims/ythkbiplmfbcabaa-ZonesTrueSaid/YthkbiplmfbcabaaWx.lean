/- A region that draws its order, whose operations may write each its own part: what is said of an operation stays under the steps of all others. -/
import Derived.Test.YthkbiplmfbcabaaWd
set_option linter.unusedSimpArgs false
set_option linter.unusedVariables false
namespace Go.Proofs.Ythkbiplmfbcabaa
open Go Go.Sort Go.RowKit
variable {F : Fence} {n : Nat} {P : Program}

/-- One operation: whatever of the others has been done, itself not yet. -/
def StepX (F : Fence) (n : Nat) (P : Program) (l : List Oper) (Q : Exit → Act → World → Prop) (a0 : Act) (C : World → Prop) (R : Nat → World → World → Prop) (G : Nat → (Nat → Value) → World → Prop) (H : Nat → (Nat → Value) → World → Prop) (pa pb : Nat) (X : (Nat → Value) → World → Prop) (i : Nat) (o : Oper) : Prop :=
  ∀ (A : Act) us w, A = frW 0 l us a0 → C w → H i us w → AfterW G us w o.after.toList → ∀ K : Act → World → Prop, (∀ v w', C w' → R i w w' → G i (upd us i v) w' → (i = pa → G pb us w → X (upd us i v) w') → (i = pb → G pa us w → X (upd us i v) w') → K (A.put o.dst v) w') → (match o.guard with | none => o.wpIn F n P A w K Q | some _ => wpOpIn F n P l.toArray Q i K A w)
def StepsX (F : Fence) (n : Nat) (P : Program) (l : List Oper) (Q : Exit → Act → World → Prop) (a0 : Act) (C : World → Prop) (R : Nat → World → World → Prop) (G : Nat → (Nat → Value) → World → Prop) (H : Nat → (Nat → Value) → World → Prop) (pa pb : Nat) (X : (Nat → Value) → World → Prop) : Nat → List Oper → Prop
  | _, [] => True
  | i, o :: r => StepX F n P l Q a0 C R G H pa pb X i o ∧ StepsX F n P l Q a0 C R G H pa pb X (i + 1) r

section
variable {l : List Oper} {Q : Exit → Act → World → Prop} {a0 : Act} {C : World → Prop} {R : Nat → World → World → Prop} {G : Nat → (Nat → Value) → World → Prop} {H : Nat → (Nat → Value) → World → Prop} {pa pb : Nat} {X : (Nat → Value) → World → Prop}
theorem stepsX_get : ∀ (r : List Oper) (i k : Nat) (o : Oper), StepsX F n P l Q a0 C R G H pa pb X i r → r[k]? = some o → StepX F n P l Q a0 C R G H pa pb X (i + k) o
  | [], _, k, _, _, h => by simp at h
  | p :: r, i, 0, o, h, ho => by
    obtain rfl : p = o := by simpa using ho
    exact h.1
  | p :: r, i, k + 1, o, h, ho => by
    have := stepsX_get r (i + 1) k o h.2 (by simpa using ho)
    rwa [show i + 1 + k = i + (k + 1) by omega] at this

theorem wildx_step (hne : pa ≠ pb) (hd : distB l = true) (hloc : LocalW l G) (hG' : ∀ k j us w w', k ≠ j → R k w w' → G j us w → G j us w') (hH' : ∀ k j us w w', k ≠ j → R k w w' → H j us w → H j us w') (hHl : ∀ k j us v w, k ≠ j → depB l k j = false → H j us w → H j (upd us k v) w) {i : Nat} {o : Oper} (ho : l[i]? = some o) (hX : ∀ k us v w w', k ≠ pa → k ≠ pb → R k w w' → X us w → X (upd us k v) w') (hs : StepX F n P l Q a0 C R G H pa pb X i o) {listed : Array Bool} (hsz : listed.size = l.length) (hcl : ClosedW l listed) (hni : listed.getD i false = false) {us : Nat → Value} {w : World} (hC : C w)
    (hG : ∀ j, listed.getD j false = true → G j us w) (hH : ∀ j, listed.getD j false = false → H j us w) (hXi : listed.getD pa false = true → listed.getD pb false = true → X us w) (haft : ∀ e ∈ o.after, Region.binds .any e = true → listed.getD e.on false = true) (K : Act → World → Prop)
    (hK : ∀ us' w', C w' → (∀ j, (listed.setIfInBounds i true).getD j false = true → G j us' w') → (∀ j, (listed.setIfInBounds i true).getD j false = false → H j us' w') → ((listed.setIfInBounds i true).getD pa false = true → (listed.setIfInBounds i true).getD pb false = true → X us' w') → K (frW 0 l us' a0) w') : wpOpIn F n P l.toArray Q i K (frW 0 l us a0) w := by
  have hil : i < l.length := (List.getElem?_eq_some_iff.1 ho).1
  have hfin := hs _ us w rfl hC (hH i hni) (afterW_of fun e he hb => hG _ (haft e (Array.mem_toList_iff.1 he) hb)) K (fun v w' hC' hR hv hxa hxb => by
    rw [frW_put l 0 i us a0 v o hd ho, Nat.zero_add]
    refine hK _ w' hC' (fun j hj => ?_) (fun j hj => ?_) (fun ha hb => ?_)
    · by_cases hji : j = i
      · subst hji; exact hv
      · rw [getD_set_ne hji] at hj
        refine hloc j us i v w' (fun h => hji h.symm) ?_ (hG' i j _ _ _ (fun h => hji h.symm) hR (hG j hj))
        cases hdp : depB l j i with
        | false => rfl
        | true =>
          exfalso
          unfold depB at hdp
          split at hdp
          · rename_i p hp
            simp only [List.any_eq_true, Bool.and_eq_true, beq_iff_eq] at hdp
            obtain ⟨e, he, h3, h4⟩ := hdp
            have h5 := hcl j p hp hj e (Array.mem_toList_iff.1 he) h4
            rw [h3, hni] at h5
            cases h5
          · cases hdp
    · have hji : j ≠ i := by
        intro h
        subst h
        rw [getD_set_same (by omega)] at hj
        cases hj
      rw [getD_set_ne hji] at hj
      refine hHl i j us v w' (fun h => hji h.symm) ?_ (hH' i j _ _ _ (fun h => hji h.symm) hR (hH j hj))
      cases hdp : depB l i j with
      | false => rfl
      | true =>
        exfalso
        unfold depB at hdp
        rw [ho] at hdp
        simp only [List.any_eq_true, Bool.and_eq_true, beq_iff_eq] at hdp
        obtain ⟨e, he, h3, h4⟩ := hdp
        have h5 := haft e (Array.mem_toList_iff.1 he) h4
        rw [h3, hj] at h5
        cases h5
    · by_cases hia : i = pa
      · by_cases hib : i = pb
        · exact absurd (hia.symm.trans hib) hne
        · rw [getD_set_ne (fun h => hib h.symm)] at hb
          exact hxa hia (hG pb hb)
      · rw [getD_set_ne (fun h => hia h.symm)] at ha
        by_cases hib : i = pb
        · exact hxb hib (hG pa ha)
        · rw [getD_set_ne (fun h => hib h.symm)] at hb
          exact hX i us v w w' hia hib hR (hXi ha hb))
  split at hfin
  · rename_i hg
    unfold wpOpIn
    rw [List.getElem?_toArray, ho]
    simp only [Region.wanted, hg, if_true]
    exact hfin
  · exact hfin

theorem wildx_any (hne : pa ≠ pb) (hb : backB l = true) (hd : distB l = true) (hloc : LocalW l G) (hG' : ∀ k j us w w', k ≠ j → R k w w' → G j us w → G j us w') (hH' : ∀ k j us w w', k ≠ j → R k w w' → H j us w → H j us w') (hHl : ∀ k j us v w, k ≠ j → depB l k j = false → H j us w → H j (upd us k v) w) (hX : ∀ k us v w w', k ≠ pa → k ≠ pb → R k w w' → X us w → X (upd us k v) w') (hla : pa < l.length) (hlb : pb < l.length) (hs : StepsX F n P l Q a0 C R G H pa pb X 0 l)
    (hend : ∀ us w, C w → (∀ j, j < l.length → G j us w) → X us w → Q .normal (frW 0 l us a0) w) :
    ∀ (fuel : Nat) (listed : Array Bool) (us : Nat → Value) (w : World), listed.size = l.length → ClosedW l listed → C w → (∀ j, listed.getD j false = true → G j us w) → (∀ j, listed.getD j false = false → H j us w) → (listed.getD pa false = true → listed.getD pb false = true → X us w) → (fuel = 0 → ∀ j, j < l.length → listed.getD j true = true) →
      ((listed.toList.filter (· == false)).length ≤ fuel) → wpAnyIn F n P .any l.toArray Q fuel listed (frW 0 l us a0) w
  | 0, listed, us, w, hsz, hcl, hC, hG, hH, hXi, h0, _ => by
    have hall := h0 rfl
    have hl : ∀ j, j < l.length → listed.getD j false = true := by
      intro j hj
      have := hall j hj
      simp only [Array.getD, hsz, hj, dif_pos] at this ⊢
      exact this
    exact ⟨ready_none hall, hend us w hC (fun j hj => hG j (hl j hj)) (hXi (hl _ hla) (hl _ hlb))⟩
  | fuel + 1, listed, us, w, hsz, hcl, hC, hG, hH, hXi, _, hcnt => by
    refine ⟨fun h0 => ?_, fun i hi => ?_⟩
    · have hl2 : ∀ j, j < l.length → listed.getD j false = true := by
        intro j hj
        cases hl : listed.getD j true with
        | false => exact absurd h0 (ready_back (backB_ok hb) listed hsz hj hl)
        | true =>
          simp only [Array.getD, hsz, hj, dif_pos] at hl ⊢
          exact hl
      exact hend us w hC (fun j hj => hG j (hl2 j hj)) (hXi (hl2 _ hla) (hl2 _ hlb))
    · obtain ⟨h1, h2, o, ho, h3⟩ := ready_mem hi
      rw [List.getElem?_toArray] at ho
      have hil : i < l.length := by simpa using h1
      have hcnt' : ((listed.setIfInBounds i true).toList.filter (· == false)).length ≤ fuel := by
        have h4 : listed.toList[i]? = some false := by
          have : i < listed.toList.length := by simpa [hsz] using hil
          rw [List.getElem?_eq_getElem this]
          simp only [Array.getD, hsz, hil, dif_pos] at h2
          simpa using h2
        have key : ∀ (L : List Bool) (k : Nat), L[k]? = some false → ((L.set k true).filter (· == false)).length + 1 = (L.filter (· == false)).length := by
          intro L
          induction L with
          | nil => intro k h; simp at h
          | cons b L ih =>
            intro k h
            cases k with
            | zero =>
              obtain rfl : b = false := by simpa using h
              simp
            | succ k =>
              have := ih k (by simpa using h)
              rw [List.set_cons_succ, List.filter_cons, List.filter_cons]
              split <;> (try simp only [List.length_cons]) <;> omega
        have := key _ _ h4
        rw [Array.toList_setIfInBounds]
        omega
      have hst := stepsX_get l 0 i o hs ho
      rw [Nat.zero_add] at hst
      have hni : listed.getD i false = false := by
        simp only [Array.getD, hsz, hil, dif_pos] at h2 ⊢
        exact h2
      refine wildx_step hne hd hloc hG' hH' hHl ho hX hst hsz hcl hni hC hG hH hXi h3 _ (fun us' w' hC' hG2 hH2 hX2 => ?_)
      refine wildx_any hne hb hd hloc hG' hH' hHl hX hla hlb hs hend fuel _ us' w' (by simpa using hsz) (closed_set hcl ho h3) hC' hG2 hH2 hX2 (fun hf j hj => ?_) hcnt'
      subst hf
      have h5 : (listed.setIfInBounds i true).toList.filter (· == false) = [] := List.length_eq_zero_iff.1 (by omega)
      rw [List.filter_eq_nil_iff] at h5
      have hj2 : j < (listed.setIfInBounds i true).size := by simpa [hsz] using hj
      have h6 := h5 (listed.setIfInBounds i true)[j] (by rw [← Array.getElem_toList]; exact List.getElem_mem _)
      rw [show (listed.setIfInBounds i true).getD j true = (listed.setIfInBounds i true)[j] by simp only [Array.getD, hj2, dif_pos]; rfl]
      generalize (listed.setIfInBounds i true)[j] = b at h6 ⊢
      cases b
      · exact absurd rfl h6
      · rfl

theorem wildx_region {id : Nat} {w : World} (hne : pa ≠ pb) (hX : ∀ k us v w w', k ≠ pa → k ≠ pb → R k w w' → X us w → X (upd us k v) w') (hla : pa < l.length) (hlb : pb < l.length) (hm : P.follows .mixedOrders = true) (hb : backB l = true) (hd : distB l = true) (hloc : LocalW l G) (hC : C { w with drawn := w.drawn + 1 }) (hH0 : ∀ us, frW 0 l us a0 = a0 → ∀ j, H j us { w with drawn := w.drawn + 1 }) (hG' : ∀ k j us w w', k ≠ j → R k w w' → G j us w → G j us w') (hH' : ∀ k j us w w', k ≠ j → R k w w' → H j us w → H j us w') (hHl : ∀ k j us v w, k ≠ j → depB l k j = false → H j us w → H j (upd us k v) w)
    (hs : StepsX F n P l Q a0 C R G H pa pb X 0 l) (hend : ∀ us w, C w → (∀ j, j < l.length → G j us w) → X us w → Q .normal (frW 0 l us a0) w) : (Code.region id l.toArray true).wpIn F n P Q a0 w := by
  refine wpIn_region_any hm ?_
  obtain ⟨us, hus⟩ := frW_self l a0 0
  have := wildx_any (F := F) (n := n) (P := P) (Q := Q) (a0 := a0) (C := C) (R := R) (G := G) (H := H) hne hb hd hloc hG' hH' hHl hX hla hlb hs hend l.length (Array.replicate l.length false) us _ (by simp) (closed_empty _ _) hC
    (fun j hj => by exact absurd hj (by unfold Array.getD; split <;> simp)) (fun j _ => hH0 us hus j) (fun ha => by exact absurd ha (by unfold Array.getD; split <;> simp)) (fun h0 j hj => by omega) (by refine Nat.le_trans (List.length_filter_le _ _) (by simp))
  rw [hus] at this
  simpa using this
end

/-- Two rows that the call owns, in blocks of their own. -/
structure TwoRows (w : World) (base : Nat) (o p : Value) (n : Nat) (xs ys : List Int) : Prop where
  ro : w.ownsRow base 3 1 o n (xs.map (Value.int .i64))
  rp : w.ownsRow base 3 1 p n (ys.map (Value.int .i64))
  sep : ∀ b, o.ownBlock = some b → p.ownBlock ≠ some b
theorem TwoRows.keep {w w' : World} {base : Nat} {o p : Value} {n : Nat} {xs ys : List Int} (h : TwoRows w base o p n xs ys) (hb : Below w.heap.size w w') : TwoRows w' base o p n xs ys := by
  have hg : w.grownBy w' none := ⟨hb.os, hb.tape, hb.output, hb.size, fun k hk _ => hb.block k hk⟩
  have key : ∀ v : Value, v.ownBlock = none ∨ v.ownBlock ≠ none := fun v => by cases v.ownBlock <;> simp
  exact ⟨h.ro.kept hg (key _), h.rp.kept hg (key _), h.sep⟩
end Go.Proofs.Ythkbiplmfbcabaa
