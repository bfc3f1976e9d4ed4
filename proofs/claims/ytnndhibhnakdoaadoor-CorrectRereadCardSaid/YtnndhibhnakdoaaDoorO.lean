/- Stage 5: marked positions; the positions that are wrong. -/
import Derived.Test.YtnndhibhnakdoaaDoorN
set_option linter.unusedSimpArgs false
set_option linter.unusedVariables false
namespace Go.Proofs.YtnndhibhnakdoaaDoor
open Go.RowKit Go.BigFrame Go.Sort
open Gf (S)

/-- The least position that may come at a place of a list of marked ones. -/
def nxt (f : Nat → Int) : Nat → Int
  | 0 => 0
  | k + 1 => f k + 1
/-- A position that may stand at a place. -/
def okm (n : Int) (f : Nat → Int) (k : Nat) : Prop := nxt f k ≤ f k ∧ f k ≤ n - 1
/-- Positions in strictly ascending order. -/
def asc (n : Int) (m : Nat) (f : Nat → Int) : Prop := ∀ k, k < m → okm n f k
set_option maxRecDepth 100000 in
set_option maxHeartbeats 2000000 in
theorem c53 (A : Option Addr) (b o m c : Nat) (f : Nat → Int) (n : Int) (w : World) (hz : Ints w A b o m f) (hm : m ≤ 1000) (hn : 0 ≤ n ∧ n ≤ 1000) :
    Calls Tryd.prog 53 #[.slice A m c, .int .i64 n] w (RetB (asc n m f) w) := by
  go_enter Tryd.func53, Tryd.ntmps53
  go_wp2_with fail
  go_loop [5, 10] (fun nv iv => ∃ k : Nat, k ≤ m ∧ iv = .int .i64 k ∧ nv = .int .i64 (nxt f k) ∧ Hid (∀ j, j < k → okm n f j) ∧ (0 ≤ nxt f k ∧ nxt f k ≤ n)) (fun _ iv => m - (intOf iv).toNat)
  case atStart => exact ⟨0, Nat.zero_le _, rfl, rfl, fun j hj => absurd hj (Nat.not_lt_zero _), (by show 0 ≤ (0 : Int) ∧ (0 : Int) ≤ n; omega)⟩
  case round =>
    obtain ⟨k, hk, rfl, rfl, hall, hb⟩ := hrel
    by_cases hlt : k < m
    · have a1 := hz.ce k hlt
      have a3 := hz.lt k hlt
      have b1 := @Ints.ix _ _ _ _ _ c _ hz _ hlt
      obtain ⟨y, hy⟩ : ∃ y, y = nxt f k := ⟨_, rfl⟩
      rw [← hy] at hb ⊢
      by_cases hp : okm n f k
      · have hp2 := hp
        unfold okm at hp2
        have hph := hid hp
        have hyh := hid hy
        have h3 : Hid (y ≤ f k ∧ f k ≤ n - 1) := hid (by rw [hy]; exact hp2)
        have h4 : 0 ≤ f k := by have := h3.out; omega
        have h5 : f k ≤ n - 1 := hp2.2
        clear hp hp2 hy
        go_wp2_with (go_at_call 68; refine (c68y _ h3.out).mono ?_; rintro e w' ⟨rfl, rfl⟩)
        go_round
        case rel =>
          refine ⟨k + 1, by omega, by go_num, rfl, fun j hj => ?_, (by show 0 ≤ f k + 1 ∧ f k + 1 ≤ n; omega)⟩
          by_cases e : j = k
          · subst e; exact hph.out
          · exact hall.out j (by omega)
        case measure => simp [intOf]; omega
      · have hph := hid hp
        have h3 : Hid (¬ (y ≤ f k ∧ f k ≤ n - 1)) := hid (by rw [hy]; exact hp)
        clear hp hy
        go_wp2_with (go_at_call 68; refine (c68n _ h3.out).mono ?_; rintro e w' ⟨rfl, rfl⟩)
        go_returns
        exact RetB.no (fun h => hph.out (h k hlt))
    · go_wp2_with fail
      go_returns
      exact RetB.yes (fun j hj => hall.out j (by omega))
theorem li_drop (p : Nat → Nat) (m i : Nat) : li (fun t => p (i + t)) (m - i) = (li p m).drop i := by
  apply List.ext_getElem
  · simp [li]
  · intro k h1 h2
    simp [li]
theorem Ints.tail {w : World} {A : Option Addr} {b o n : Nat} {f : Nat → Int} (h : Ints w A b o n f) {i : Nat} (hi : i ≤ n) (A' : Option Addr) (hA : ∀ k, k < n - i → A' = some ⟨b, o + i, none⟩) : Ints w A' b (o + i) (n - i) (fun j => f (i + j)) :=
  ⟨hA, fun k hk => h.lt k (by omega), fun k hk => by rw [Nat.add_assoc]; exact h.ce (i + k) (by omega)⟩
theorem run_tail (b o m c k : Nat) (hk : k < m) (hc : m ≤ c) (AA : Option Addr) (h : AA = if c = k + 1 then some ⟨b, o, none⟩ else some ⟨b, o + (k + 1), none⟩) (w' : World) :
    (Instr.slice 24 (.slice (some ⟨b, o, none⟩) m c) (some (.int .i64 ((k : Int) + 1))) none none).run Tryd.prog w' = .ok (.slice AA (m - (k + 1)) (c - (k + 1))) w' := by
  have e1 : (0 : Int) ≤ (k : Int) + 1 := by omega
  have e2 : (k : Int) + 1 ≤ (m : Int) := by omega
  have e3 : ((k : Int) + 1).toNat = k + 1 := by omega
  subst h
  by_cases hcap : c = k + 1
  · subst hcap
    go_simp
  · go_simp
theorem own_base {w : World} {b b' e s n : Nat} {v : Value} {xs : List Value} (h : w.ownsRow b e s v n xs) (hb : b' ≤ b) : w.ownsRow b' e s v n xs := by
  obtain ⟨h1, h2⟩ := h
  refine ⟨h1, ?_⟩
  rcases h2 with h2 | ⟨g, cap, cur, h3, h4, h5⟩
  · exact .inl h2
  · exact .inr ⟨g, cap, cur, h3, Nat.le_trans hb h4, h5⟩
/-- What is handed back for the positions that are wrong. -/
def WRet (n l : Nat) (s : Nat → S) (L : List Nat) (most : Nat) (w : World) (e : Ending) (w' : World) : Prop :=
  (∃ (Q : List Nat) (v : Value), Q.Sublist L ∧ Q.length ≤ most ∧ Gf.Zer l s n Q ∧ e = .returned (.tuple #[v, .bool true]) ∧ w'.ownsRow w.heap.size 3 1 v Q.length (nums Q.reverse) ∧ Below w.heap.size w w') ∨
  ((∀ Q : List Nat, Q.Sublist L → Q.length ≤ most → ¬ Gf.Zer l s n Q) ∧ e = .returned (.tuple #[.slice none 0 0, .bool false]) ∧ Below w.heap.size w w')
theorem WRet.tup {n l : Nat} {s : Nat → S} {L : List Nat} {most : Nat} {w : World} {e : Ending} {w' : World} (h : WRet n l s L most w e w') :
    ∃ (v : Value) (bb : Bool), e = .returned (.tuple #[v, .bool bb]) ∧ WRet n l s L most w (.returned (.tuple #[v, .bool bb])) w' ∧ Below w.heap.size w w' := by
  have h' := h
  rcases h with ⟨Q, v, h1, h2, h3, h4, h5, h6⟩ | ⟨h1, h2, h3⟩
  · exact ⟨v, true, h4, h4 ▸ h', h6⟩
  · exact ⟨.slice none 0 0, false, h2, h2 ▸ h', h3⟩
theorem WRet.un {n l : Nat} {s : Nat → S} {L : List Nat} {most : Nat} {w : World} {v : Value} {bb : Bool} {w' : World} (h : WRet n l s L most w (.returned (.tuple #[v, .bool bb])) w') :
    (bb = true ∧ ∃ Q : List Nat, Q.Sublist L ∧ Q.length ≤ most ∧ Gf.Zer l s n Q ∧ w'.ownsRow w.heap.size 3 1 v Q.length (nums Q.reverse)) ∨ (bb = false ∧ v = .slice none 0 0 ∧ ∀ Q : List Nat, Q.Sublist L → Q.length ≤ most → ¬ Gf.Zer l s n Q) := by
  rcases h with ⟨Q, v', h1, h2, h3, h4, h5, h6⟩ | ⟨h1, h2, h3⟩
  · simp only [Ending.returned.injEq, Value.tuple.injEq, Array.mk.injEq, List.cons.injEq, Value.bool.injEq] at h4
    obtain ⟨e1, e2, _⟩ := h4
    subst e1
    exact .inl ⟨e2, Q, h1, h2, h3, h5⟩
  · simp only [Ending.returned.injEq, Value.tuple.injEq, Array.mk.injEq, List.cons.injEq, Value.bool.injEq] at h2
    obtain ⟨e1, e2, _⟩ := h2
    exact .inr ⟨e2, e1, h1⟩
theorem li_cons {p : Nat → Nat} {m k : Nat} (h : k < m) : (li p m).drop k = p k :: (li p m).drop (k + 1) := by
  have h2 : k < (li p m).length := by rw [li_len]; exact h
  rw [List.drop_eq_getElem_cons h2]
  congr 1
  simp [li]
theorem zer_nil {l n : Nat} {s : Nat → S} : Gf.Zer l s n [] ↔ allZ l s := by
  constructor
  · intro h k hk; exact h k (by simpa using hk)
  · intro h i hi; exact h i (by simpa using hi)
set_option maxRecDepth 100000 in
set_option maxHeartbeats 8000000 in
theorem c90 (n r : Nat) (hn : n ≤ 15) (hr : r ≤ 8) : ∀ (most : Nat) (A : Option Addr) (b o l c : Nat) (s : Nat → S) (A2 : Option Addr) (b2 o2 m c2 : Nat) (p : Nat → Nat) (w : World), most ≤ 8 → l ≤ 8 → m ≤ c2 → m ≤ 15 → Tab w → Syms w A b o l s → Ints w A2 b2 o2 m (fun k => (p k : Nat)) → (∀ k, k < m → p k < n) →
    Calls Tryd.prog 90 #[cv n r, .slice A l c, .slice A2 m c2, .int .i64 (most : Nat)] w (WRet n l s (li p m) most w) := by
  intro most
  induction most with
  | zero =>
    intro A b o l c s A2 b2 o2 m c2 p w hm8 hl hmc hm hT hz hp hpn
    have hB0 : Hid (Below w.heap.size w (w.alloc (.cells #[.int .i64 (n : Nat), .int .i64 (r : Nat)] 66))) := hid (by (repeat' (first | (with_reducible exact Below.refl _ _) | (with_reducible assumption) | (with_reducible refine Below.alloc ?_ ?_ _) | (with_reducible refine Below.drew ?_) | (with_reducible refine below_drewN ?_ _) | (with_reducible refine Below.setCell ?_ ?_ _) | (with_reducible refine Below.trans ?_ (Below.mono (by with_reducible assumption) ?_)) | go_size)))
    have hzh := hid hz
    clear hT hz hp hpn
    by_cases ha : allZ l s
    · have hah := hid ha
      clear ha
      go_enter Tryd.func90, Tryd.ntmps90
      go_wp2_with (go_at_call 109; refine (c109 A b o l c s _ (hzh.out.below hB0.out (Nat.le_refl _)) (by omega)).mono ?_; intro e w1 hr; obtain ⟨rfl, rfl⟩ := hr.un.2 (fun h => h hah.out); clear hr)
      go_returns
      exact .inl ⟨[], _, List.nil_sublist _, Nat.zero_le _, zer_nil.2 hah.out, rfl, World.ownsRow_nil _ _ _ _, hB0.out⟩
    · have hah := hid ha
      clear ha
      go_enter Tryd.func90, Tryd.ntmps90
      go_wp2_with (go_at_call 109; refine (c109 A b o l c s _ (hzh.out.below hB0.out (Nat.le_refl _)) (by omega)).mono ?_; intro e w1 hr; obtain ⟨rfl, rfl⟩ := hr.un.1 hah.out; clear hr)
      go_returns
      refine .inr ⟨fun Q _ hQ hZ => ?_, rfl, hB0.out⟩
      obtain rfl : Q = [] := List.eq_nil_of_length_eq_zero (by omega)
      exact hah.out (zer_nil.1 hZ)
  | succ most ih =>
    intro A b o l c s A2 b2 o2 m c2 p w hm8 hl hmc hm hT hz hp hpn
    obtain ⟨i0, ie0, ie1, ie2, ie3⟩ := info_parts Tryd.info3
    have hB0 : Hid (Below w.heap.size w (w.alloc (.cells #[.int .i64 (n : Nat), .int .i64 (r : Nat)] 66))) := hid (by (repeat' (first | (with_reducible exact Below.refl _ _) | (with_reducible assumption) | (with_reducible refine Below.alloc ?_ ?_ _) | (with_reducible refine Below.drew ?_) | (with_reducible refine below_drewN ?_ _) | (with_reducible refine Below.setCell ?_ ?_ _) | (with_reducible refine Below.trans ?_ (Below.mono (by with_reducible assumption) ?_)) | go_size)))
    have hX0 : Hid (Bx n r (w.alloc (.cells #[.int .i64 (n : Nat), .int .i64 (r : Nat)] 66)) w.heap.size) := hid (Bx.new n r w 66)
    have hs0 : Hid (w.heap.size < (w.alloc (.cells #[.int .i64 (n : Nat), .int .i64 (r : Nat)] 66)).heap.size) := hid (by simp)
    have hzh := hid hz
    have hTh := hid hT
    have hph := hid hp
    have hpnh := hid hpn
    have ihh := hid ih
    clear hT hz hp hpn ih
    by_cases ha : allZ l s
    · have hah := hid ha
      clear ha
      go_enter Tryd.func90, Tryd.ntmps90
      go_wp2_with (go_at_call 109; refine (c109 A b o l c s _ (hzh.out.below hB0.out (Nat.le_refl _)) (by omega)).mono ?_; intro e w1 hr; obtain ⟨rfl, rfl⟩ := hr.un.2 (fun h => h hah.out); clear hr)
      go_returns
      exact .inl ⟨[], _, List.nil_sublist _, Nat.zero_le _, zer_nil.2 hah.out, rfl, World.ownsRow_nil _ _ _ _, hB0.out⟩
    · have hah := hid ha
      obtain ⟨t, ht⟩ : ∃ t, t + 1 = l := ⟨l - 1, by
        rcases Nat.eq_zero_or_pos l with e | e
        · exact absurd (fun k hk => by omega) ha
        · omega⟩
      subst ht
      clear ha
      have e1 : (((most + 1 : Nat) : Int) == 0) = false := by simp; omega
      have e2 : (((most : Nat) : Int) + 1 == 0) = false := by simp; omega
      go_enter Tryd.func90, Tryd.ntmps90
      go_wp2_with (go_at_call 109; refine (c109 A b o (t + 1) c s _ (hzh.out.below hB0.out (Nat.le_refl _)) (by omega)).mono ?_; intro e w1 hr; obtain ⟨rfl, rfl⟩ := hr.un.1 hah.out; clear hr)
      go_loopw [21] (fun iv wr => ∃ k : Nat, k ≤ m ∧ iv = .int .i64 k ∧ Hid (∀ j, j < k → ∀ Q : List Nat, Q.Sublist ((li p m).drop (j + 1)) → Q.length ≤ most → ¬ Gf.Zer t (Gf.fl (Gf.ba n (p j)) s) n Q) ∧ Bx n r wr w.heap.size ∧ Below w.heap.size w wr ∧ w.heap.size < wr.heap.size) (fun iv _ => m - (intOf iv).toNat)
      case atStart => exact ⟨0, Nat.zero_le _, rfl, fun j hj => absurd hj (Nat.not_lt_zero _), hX0.out, hB0.out, hs0.out⟩
      case round =>
        clear hB0 hX0 hs0
        obtain ⟨k, hk, rfl, hall, hX, hB, hsz⟩ := hrel
        by_cases hlt : k < m
        · have hp2 := hph.out.below hB (Nat.le_refl _)
          have j1 := hp2.ce k hlt
          have j3 := hp2.lt k hlt
          have ja := hp2.ad k hlt
          subst ja
          have j4 := @Ints.ix _ _ _ _ _ c2 _ hp2 _ hlt
          have p1 := hX.1
          have p2 := hX.2
          have hpk := hpnh.out k hlt
          have es : IntKind.i64.wrap ((k : Int) + 1) = (k : Int) + 1 := IntWalk.i64_in _ (by omega)
          have hmk1 : m - (k + 1) ≤ c2 - (k + 1) := by omega
          have em : IntKind.i64.wrap (most : Int) = (most : Int) := IntWalk.i64_in _ (by omega)
          have hzd := hid (hzh.out.below (hB.trans (Below.drew (Below.refl _ _))) (Nat.le_refl _))
          have hTd := hid (hTh.out.below hB.drew (Nat.le_refl _))
          obtain ⟨p', hp'⟩ : ∃ p' : Nat → Nat, p' = fun t => p (k + 1 + t) := ⟨_, rfl⟩
          have hld : Hid (li p' (m - (k + 1)) = (li p m).drop (k + 1)) := hid (by rw [hp']; exact li_drop p m (k + 1))
          have hpn' : Hid (∀ t, t < m - (k + 1) → p' t < n) := hid (fun t ht => by rw [hp']; exact hpnh.out _ (by omega))
          have hmm : most ≤ 8 := by omega
          have hBh := hid hB
          obtain ⟨AA, hAA⟩ : ∃ AA : Option Addr, AA = if c2 = k + 1 then some ⟨b2, o2, none⟩ else some ⟨b2, o2 + (k + 1), none⟩ := ⟨_, rfl⟩
          have hsl : ∀ w', (Instr.slice 24 (.slice (some ⟨b2, o2, none⟩) m c2) (some (.int .i64 ((k : Int) + 1))) none none).run Tryd.prog w' = .ok (.slice AA (m - (k + 1)) (c2 - (k + 1))) w' := run_tail b2 o2 m c2 k hlt hmc AA hAA
          have hpd : Hid (Ints wr AA b2 (o2 + (k + 1)) (m - (k + 1)) (fun t => (p' t : Nat))) := hid (by rw [hp']; exact hp2.tail (by omega) _ (fun t ht => by rw [hAA, if_neg (by omega)]))
          clear hp2 hB hX hp' hAA
          go_wp2_with fail
          go_region_held3 (fun w' => w'.cell? ⟨w.heap.size, 0, none⟩ = some (.int .i64 (n : Nat)) ∧ w'.cell? ⟨w.heap.size, 1, none⟩ = some (.int .i64 (r : Nat))) (first | exact ⟨p1, p2⟩ | exact f3.out | exact f4.out) (first | (go_at_call 90; (with_reducible refine (ihh.out (some ⟨g3, 0, none⟩) g3 0 t c3 (Gf.fl (Gf.ba n (p k)) s) AA b2 (o2 + (k + 1)) (m - (k + 1)) (c2 - (k + 1)) p' w3 hmm (by omega) hmk1 (by omega) (hTh.out.below hB3.out (Nat.le_refl _)) hR3.out.syms (hpd.out.below hB3w.out (Nat.le_refl _)) hpn'.out).mono ?_); intro e w4 hr4; obtain ⟨v4, b4, rfl, hW4, hB4⟩ := hr4.tup; clear hr4; have hW4 := hid hW4; have f4 := hid (show w4.cell? ⟨w.heap.size, 0, none⟩ = some (.int .i64 (n : Nat)) ∧ w4.cell? ⟨w.heap.size, 1, none⟩ = some (.int .i64 (r : Nat)) from ⟨(hB4.cell (p := ⟨w.heap.size, 0, none⟩) (by have := hR3.out.lt; show w.heap.size < _; omega)).trans f3.out.1, (hB4.cell (p := ⟨w.heap.size, 1, none⟩) (by have := hR3.out.lt; show w.heap.size < _; omega)).trans f3.out.2⟩); have hB4 := hid hB4) | (go_at_call 111; (with_reducible refine (c111 n r A b o t c (p k) s wr.drew hTd.out hzd.out hn (by omega) hpk).mono ?_); rintro e w3 ⟨g3, c3, rfl, hg3, hc3, hR3, hB3⟩; have hR3 := hid hR3; replace hB3 : Below wr.heap.size wr w3 := ((Below.refl _ _).drew).trans hB3; have f3 := hid (show w3.cell? ⟨w.heap.size, 0, none⟩ = some (.int .i64 (n : Nat)) ∧ w3.cell? ⟨w.heap.size, 1, none⟩ = some (.int .i64 (r : Nat)) from ⟨(hB3.cell (p := ⟨w.heap.size, 0, none⟩) (by show w.heap.size < _; omega)).trans p1, (hB3.cell (p := ⟨w.heap.size, 1, none⟩) (by show w.heap.size < _; omega)).trans p2⟩); replace hg3 : wr.heap.size ≤ g3 := hg3; have hB3w := hid hB3; have hs3 := hB3.size; replace hB3 := hid (hBh.out.trans (hB3.mono hBh.out.size))))
          have hB04 : Hid (Below w.heap.size w w4) := hid (hB3.out.trans (hB4.out.mono hB3.out.size))
          have hsz4 : w.heap.size < w4.heap.size := by have := hB4.out.size; omega
          have hf4 := f4.out
          have p14 := hf4.1
          have p24 := hf4.2
          rcases hW4.out.un with ⟨rfl, Q, q1, q2, q3, q4⟩ | ⟨rfl, rfl, q1⟩
          · have q1h := hid q1
            have q3h := hid q3
            have hoh : Hid (w4.ownsRow w.heap.size 3 1 v4 Q.length (nums Q.reverse)) := hid (own_base q4 (by have := hB3.out.size; omega))
            have hQ8 : Q.length ≤ 8 := by omega
            obtain ⟨lq, hlq⟩ : ∃ lq, lq = Q.length := ⟨_, rfl⟩
            rw [← hlq] at hQ8 hoh q2
            have hlqh := hid hlq
            clear q1 q3 q4 hW4 hf4 f4 f3 hlq
            go_wp2_with (at_builtin; go_loud (refine app_src rfl (.tmp 42) (.tmp 44) 24 rfl w.heap.size 3 i0 (.int .i64 0) 1 8 Tryd.underlying24 ie0 ie1 ie2 ie3 rfl (by decide) _ _ _ rfl (hoh.out.alloc _) (some ⟨w4.heap.size, 0, none⟩) 1 1 [.int .i64 (p k : Nat)] rfl (fun h => by cases h) rfl (fun ad h => by cases h; exact World.news_of_block (cs := #[.int .i64 (p k : Nat)]) (t := 3) (fr := (0, 0)) (heap_new _ _)) (by simp [Value.oneCell']) (by unfold maxLen; omega) (by omega) (by simp; omega) ?_); intro v7 w7 hown7 hgr7 hn7; have hB7 : Below w.heap.size w w7 := (hB04.out.alloc (by omega) _).grown hgr7 (by simp; omega) (fun q e => (hoh.out.lt q e).1); have hown7h := hid hown7; clear hown7 hgr7 hn7)
            go_returns
            refine .inl ⟨p k :: Q, v7, ?_, by simp; rw [← hlqh.out]; omega, Gf.zer_cons.1 q3h.out, rfl, ?_, hB7⟩
            · have h1 := q1h.out
              rw [hld.out] at h1
              have h2 := h1.cons_cons (p k)
              rw [← li_cons hlt] at h2
              exact h2.trans (List.drop_sublist _ _)
            · rw [List.reverse_cons, nums_app, List.length_cons, ← hlqh.out]
              exact hown7h.out
          · have q1h := hid q1
            clear q1 hW4 hf4
            go_wp2_with fail
            go_roundw
            case rel =>
              refine ⟨k + 1, by omega, by go_num, fun j hj => ?_, ⟨p14, p24⟩, hB04.out, hsz4⟩
              by_cases e : j = k
              · subst e
                intro Q h1 h2
                rw [← hld.out] at h1
                exact q1h.out Q h1 h2
              · exact hall.out j (by omega)
            case measure => simp [intOf]; omega
        · go_wp2_with fail
          go_returns
          refine .inr ⟨fun Q hQ hQl hZ => ?_, rfl, hB⟩
          cases Q with
          | nil => exact hah.out (zer_nil.1 hZ)
          | cons q Q =>
            obtain ⟨j, hj, e, hs⟩ := Gf.sub_cons hQ
            rw [li_len] at hj
            have e3 : p j = q := by simpa [li] using e
            subst e3
            exact hall.out j (by omega) Q hs (by simp at hQl; omega) (Gf.zer_cons.2 hZ)
end Go.Proofs.YtnndhibhnakdoaaDoor
