/- Stage 5: positions that are chosen; whether a list holds a number; whether all symbols are 0. -/
import Derived.Test.YtnndhibhnakdoaaDoorH
import Derived.Deep.AppendLies
set_option linter.unusedSimpArgs false
set_option linter.unusedVariables false
namespace Go.Proofs.YtnndhibhnakdoaaDoor
open Go.RowKit Go.BigFrame Go.Sort
open Gf (S)

/-- The values of a list of positions. -/
def nums (L : List Nat) : List Value := L.map fun p => .int .i64 (p : Nat)
theorem nums_len (L : List Nat) : (nums L).length = L.length := by simp [nums]
theorem nums_app (L : List Nat) (x : Nat) : nums (L ++ [x]) = nums L ++ [.int .i64 (x : Nat)] := by simp [nums]
theorem nums_vals (L : List Nat) : nums L = vals L.length (fun t => (at_ L t : Nat)) := by
  conv => lhs; rw [← li_at L]
  unfold nums vals li
  rw [List.map_map]
  rfl
/-- An owned row of positions, as it is read. -/
theorem own_pos {w : World} {base : Nat} {v : Value} {n : Nat} {L : List Nat} (h : w.ownsRow base 3 1 v n (nums L)) (hn : n = L.length) : ∃ A b c, v = .slice A n c ∧ Ints w A b 0 n (fun t => (at_ L t : Nat)) ∧ (A = none → c = 0) := by
  subst hn
  rw [nums_vals] at h
  by_cases e : v = .slice none 0 0
  · subst e
    obtain ⟨h1, h2⟩ := h
    rcases h2 with ⟨h3, h4⟩ | ⟨g, cap, cur, h3, _⟩
    · rw [h4]; exact ⟨none, 0, 0, rfl, Ints.empty _ _ _ _ _, fun _ => rfl⟩
    · cases h3
  · obtain ⟨g, cap, rfl⟩ := own_shape h e
    exact ⟨some ⟨g, 0, none⟩, g, cap, rfl, (RowF.of_owns h).ints, fun e => by cases e⟩
set_option maxHeartbeats 400000 in
theorem c108 (A : Option Addr) (b o n c : Nat) (x : Int) (f : Nat → Int) (w : World) (hz : Ints w A b o n f) (hn : n ≤ 1000000) :
    Calls Tryd.prog 108 #[.slice A n c, .int .i64 x] w (RetIx n (fun k => ¬ x = f k) w) := by
  go_enter Tryd.func108, Tryd.ntmps108
  go_wp2
  go_loop [5, 8] (fun _ i => ∃ k : Nat, k ≤ n ∧ i = .int .i64 k ∧ Hid (∀ j, j < k → ¬ x = f j)) (fun _ i => n - (intOf i).toNat)
  case atStart => exact ⟨0, Nat.zero_le _, rfl, fun j hj => absurd hj (Nat.not_lt_zero _)⟩
  case round =>
    obtain ⟨k, hk, rfl, hall⟩ := hrel
    by_cases hlt : k < n
    · have h1 := hz.ce k hlt; have h3 := hz.lt k hlt; have h4 := @Ints.ix _ _ _ _ _ c _ hz _ hlt
      by_cases hp : x = f k
      · have hph := hid hp
        have e1 : (x == f k) = true := by simpa using hp
        clear hp
        go_wp2
        go_returns
        exact RetIx.at_ hlt (fun h => h hph.out) hall.out
      · have hph := hid hp
        have e1 : (x == f k) = false := by simpa using hp
        clear hp
        go_wp2
        go_round
        case rel =>
          refine ⟨k + 1, by omega, by go_num, fun j hj => ?_⟩
          by_cases e : j = k
          · subst e; exact hph.out
          · exact hall.out j (by omega)
        case measure => simp [intOf]; omega
    · go_wp2_with fail
      go_returns
      exact RetIx.no (fun j hj => hall.out j (by omega))
/-- A row holds a number. -/
def has (n : Nat) (f : Nat → Int) (x : Int) : Prop := ∃ k, k < n ∧ x = f k
set_option maxHeartbeats 400000 in
theorem c89 (A : Option Addr) (b o n c : Nat) (x : Int) (f : Nat → Int) (w : World) (hz : Ints w A b o n f) (hn : n ≤ 1000000) :
    Calls Tryd.prog 89 #[.slice A n c, .int .i64 x] w (RetB (has n f x) w) := by
  go_enter Tryd.func89, Tryd.ntmps89
  go_wp2_with (go_at_call 108; refine (c108 A b o n c x f _ hz hn).mono ?_; rintro e w' (⟨h1, rfl, rfl⟩ | ⟨k, hk, h1, _, rfl, rfl⟩) <;> replace h1 := hid h1)
  · go_ret
    exact RetB.no (fun ⟨k, hk, e⟩ => h1.out k hk e)
  · go_ret
    exact RetB.yes ⟨k, hk, Classical.not_not.1 h1.out⟩
set_option maxHeartbeats 400000 in
theorem c85 (x B d c : Nat) (A : Option Addr) (w : World) (hb : w.cell? ⟨B, 0, none⟩ = some (.slice A d c)) : Calls Tryd.prog 85 #[.int .i64 (x : Nat), .pointer (some ⟨B, 0, none⟩)] w fun e w' => e = .returned (.bool (decide (d ≤ x))) ∧ w = w' := by
  by_cases h : d ≤ x
  · have e1 : decide (d ≤ x) = true := decide_eq_true h
    rw [e1]
    go_enter Tryd.func85, Tryd.ntmps85
    go_wp2
    go_ret
    exact ⟨rfl, rfl⟩
  · have e1 : decide (d ≤ x) = false := decide_eq_false h
    rw [e1]
    go_enter Tryd.func85, Tryd.ntmps85
    go_wp2
    go_ret
    exact ⟨rfl, rfl⟩
/-- A position is not in a list. -/
def freeB (L : List Nat) (x : Nat) : Bool := decide (x ∉ L)
theorem has_li {p : Nat → Nat} {m x : Nat} : has m (fun k => (p k : Nat)) (x : Nat) ↔ x ∈ li p m := by
  rw [li_mem]
  constructor
  · rintro ⟨k, hk, e⟩; exact ⟨k, hk, by have e2 : (x : Int) = (p k : Nat) := e; omega⟩
  · rintro ⟨k, hk, e⟩; exact ⟨k, hk, show (x : Int) = (p k : Nat) by omega⟩
set_option maxHeartbeats 400000 in
theorem c88 (x B m c b o : Nat) (A : Option Addr) (p : Nat → Nat) (w : World) (hb : w.cell? ⟨B, 0, none⟩ = some (.slice A m c)) (hz : Ints w A b o m (fun k => (p k : Nat))) (hm : m ≤ 1000) : Calls Tryd.prog 88 #[.int .i64 (x : Nat), .pointer (some ⟨B, 0, none⟩)] w fun e w' => e = .returned (.bool (freeB (li p m) x)) ∧ w = w' := by
  by_cases h : has m (fun k => (p k : Nat)) (x : Nat)
  · have e1 : freeB (li p m) x = false := decide_eq_false (fun h2 => h2 (has_li.1 h))
    rw [e1]
    have hh := hid h
    clear h
    go_enter Tryd.func88, Tryd.ntmps88
    go_wp2_with (go_at_call 89; refine (c89 A b o m c (x : Nat) _ _ hz (by omega)).mono ?_; intro e w' hr; obtain ⟨rfl, rfl⟩ := hr.un.1 hh.out)
    go_ret
    exact ⟨rfl, rfl⟩
  · have e1 : freeB (li p m) x = true := decide_eq_true (fun h2 => h (has_li.2 h2))
    rw [e1]
    have hh := hid h
    clear h
    go_enter Tryd.func88, Tryd.ntmps88
    go_wp2_with (go_at_call 89; refine (c89 A b o m c (x : Nat) _ _ hz (by omega)).mono ?_; intro e w' hr; obtain ⟨rfl, rfl⟩ := hr.un.2 hh.out)
    go_ret
    exact ⟨rfl, rfl⟩
/-- The positions below k that are chosen. -/
def cho (ch : Nat → Bool) (k : Nat) : List Nat := (List.range k).filter ch
theorem cho_yes {ch : Nat → Bool} {k : Nat} (h : ch k = true) : cho ch (k + 1) = cho ch k ++ [k] := by simp [cho, List.range_succ, List.filter_append, h]
theorem cho_no {ch : Nat → Bool} {k : Nat} (h : ch k = false) : cho ch (k + 1) = cho ch k := by simp [cho, List.range_succ, List.filter_append, h]
theorem cho_le (ch : Nat → Bool) (k : Nat) : (cho ch k).length ≤ k := by
  have := List.length_filter_le ch (List.range k)
  simpa [cho] using this
/-- A function's answers at each later world. -/
def Clo85 (n B : Nat) (ch : Nat → Bool) (w : World) : Prop := ∀ W, Below w.heap.size w W → ∀ x, x < n → Calls Tryd.prog 85 #[.int .i64 (x : Nat), .pointer (some ⟨B, 0, none⟩)] W fun e w' => e = .returned (.bool (ch x)) ∧ W = w'
set_option maxRecDepth 100000 in
set_option maxHeartbeats 2000000 in
theorem c84_85 (n B : Nat) (ch : Nat → Bool) (w : World) (hn : n ≤ 1000) (hcl : Clo85 n B ch w) :
    Calls Tryd.prog 84 #[.int .i64 (n : Nat), .func (.func 85) #[] #[.pointer (some ⟨B, 0, none⟩)]] w fun e w' => ∃ v, e = .returned v ∧ w'.ownsRow w.heap.size 3 1 v (cho ch n).length (nums (cho ch n)) ∧ Below w.heap.size w w' := by
  obtain ⟨i0, ie0, ie1, ie2, ie3⟩ := info_parts Tryd.info3
  have hclh := hid hcl
  clear hcl
  go_enter Tryd.func84, Tryd.ntmps84
  go_wp2_with fail
  go_loopw [5, 8] (fun v iv wr => ∃ k : Nat, k ≤ n ∧ iv = .int .i64 k ∧ wr.ownsRow w.heap.size 3 1 v (cho ch k).length (nums (cho ch k)) ∧ Below w.heap.size w wr) (fun _ iv _ => n - (intOf iv).toNat)
  case atStart => exact ⟨0, Nat.zero_le _, rfl, World.ownsRow_nil _ _ _ _, Below.refl _ _⟩
  case round =>
    obtain ⟨k, hk, rfl, hown, hB⟩ := hrel
    have hkl := cho_le ch k
    obtain ⟨m, hm⟩ : ∃ m, m = (cho ch k).length := ⟨_, rfl⟩
    by_cases hlt : k < n
    · have hc := hclh.out wr hB k hlt
      by_cases hch : ch k = true
      · rw [hch] at hc
        have hchh := hid hch
        rw [← hm] at hown hkl
        have hmh := hid hm
        have hoh := hid hown
        have hcc := hid hc
        have hBh := hid hB
        clear hch hm hown hc hB
        go_wp2_with (first | (go_at_call 85; refine hcc.out.mono ?_; rintro e w' ⟨rfl, rfl⟩) | (at_builtin; go_loud (refine app_src rfl (.tmp 14) (.tmp 16) 24 rfl w.heap.size 3 i0 (.int .i64 0) 1 8 Tryd.underlying24 ie0 ie1 ie2 ie3 rfl (by decide) _ _ _ rfl (hoh.out.alloc _) (some ⟨wr.heap.size, 0, none⟩) 1 1 [.int .i64 _] rfl (fun h => by cases h) rfl (fun ad h => by cases h; exact World.news_of_block (cs := #[.int .i64 _]) (t := 3) (fr := (0, 0)) (heap_new _ _)) (by simp [Value.oneCell']) (by unfold maxLen; omega) (by omega) (by simp; have := hBh.out.size; omega) ?_); intro v7 w7 hown7 hgr7 hn7; have hB7 : Below w.heap.size w w7 := (hBh.out.alloc hBh.out.size _).grown hgr7 (by simp; exact Nat.le_succ_of_le hBh.out.size) (fun q e => (hoh.out.lt q e).1); have hown7h := hid hown7; clear hown7 hgr7 hn7))
        go_roundw
        case rel =>
          refine ⟨k + 1, by omega, by go_num, ?_, hB7⟩
          rw [cho_yes hchh.out, nums_app, List.length_append, ← hmh.out]
          exact hown7h.out
        case measure => simp [intOf]; omega
      · have hch : ch k = false := by simpa using hch
        rw [hch] at hc
        have hchh := hid hch
        have hoh := hid hown
        have hcc := hid hc
        have hBh := hid hB
        clear hch hm hown hc hB hkl
        go_wp2_with (go_at_call 85; refine hcc.out.mono ?_; rintro e w' ⟨rfl, rfl⟩)
        go_roundw
        case rel => exact ⟨k + 1, by omega, by go_num, (by rw [cho_no hchh.out]; exact hoh.out), hBh.out⟩
        case measure => simp [intOf]; omega
    · obtain rfl : k = n := by omega
      have hoh := hid hown
      have hBh := hid hB
      clear hm hown hB hkl
      go_wp2_with fail
      go_returns
      exact ⟨_, rfl, hoh.out, hBh.out⟩
/-- A function's answers at each later world. -/
def Clo88 (n B : Nat) (ch : Nat → Bool) (w : World) : Prop := ∀ W, Below w.heap.size w W → ∀ x, x < n → Calls Tryd.prog 88 #[.int .i64 (x : Nat), .pointer (some ⟨B, 0, none⟩)] W fun e w' => e = .returned (.bool (ch x)) ∧ W = w'
set_option maxRecDepth 100000 in
set_option maxHeartbeats 2000000 in
theorem c84_88 (n B : Nat) (ch : Nat → Bool) (w : World) (hn : n ≤ 1000) (hcl : Clo88 n B ch w) :
    Calls Tryd.prog 84 #[.int .i64 (n : Nat), .func (.func 88) #[] #[.pointer (some ⟨B, 0, none⟩)]] w fun e w' => ∃ v, e = .returned v ∧ w'.ownsRow w.heap.size 3 1 v (cho ch n).length (nums (cho ch n)) ∧ Below w.heap.size w w' := by
  obtain ⟨i0, ie0, ie1, ie2, ie3⟩ := info_parts Tryd.info3
  have hclh := hid hcl
  clear hcl
  go_enter Tryd.func84, Tryd.ntmps84
  go_wp2_with fail
  go_loopw [5, 8] (fun v iv wr => ∃ k : Nat, k ≤ n ∧ iv = .int .i64 k ∧ wr.ownsRow w.heap.size 3 1 v (cho ch k).length (nums (cho ch k)) ∧ Below w.heap.size w wr) (fun _ iv _ => n - (intOf iv).toNat)
  case atStart => exact ⟨0, Nat.zero_le _, rfl, World.ownsRow_nil _ _ _ _, Below.refl _ _⟩
  case round =>
    obtain ⟨k, hk, rfl, hown, hB⟩ := hrel
    have hkl := cho_le ch k
    obtain ⟨m, hm⟩ : ∃ m, m = (cho ch k).length := ⟨_, rfl⟩
    by_cases hlt : k < n
    · have hc := hclh.out wr hB k hlt
      by_cases hch : ch k = true
      · rw [hch] at hc
        have hchh := hid hch
        rw [← hm] at hown hkl
        have hmh := hid hm
        have hoh := hid hown
        have hcc := hid hc
        have hBh := hid hB
        clear hch hm hown hc hB
        go_wp2_with (first | (go_at_call 88; refine hcc.out.mono ?_; rintro e w' ⟨rfl, rfl⟩) | (at_builtin; go_loud (refine app_src rfl (.tmp 14) (.tmp 16) 24 rfl w.heap.size 3 i0 (.int .i64 0) 1 8 Tryd.underlying24 ie0 ie1 ie2 ie3 rfl (by decide) _ _ _ rfl (hoh.out.alloc _) (some ⟨wr.heap.size, 0, none⟩) 1 1 [.int .i64 _] rfl (fun h => by cases h) rfl (fun ad h => by cases h; exact World.news_of_block (cs := #[.int .i64 _]) (t := 3) (fr := (0, 0)) (heap_new _ _)) (by simp [Value.oneCell']) (by unfold maxLen; omega) (by omega) (by simp; have := hBh.out.size; omega) ?_); intro v7 w7 hown7 hgr7 hn7; have hB7 : Below w.heap.size w w7 := (hBh.out.alloc hBh.out.size _).grown hgr7 (by simp; exact Nat.le_succ_of_le hBh.out.size) (fun q e => (hoh.out.lt q e).1); have hown7h := hid hown7; clear hown7 hgr7 hn7))
        go_roundw
        case rel =>
          refine ⟨k + 1, by omega, by go_num, ?_, hB7⟩
          rw [cho_yes hchh.out, nums_app, List.length_append, ← hmh.out]
          exact hown7h.out
        case measure => simp [intOf]; omega
      · have hch : ch k = false := by simpa using hch
        rw [hch] at hc
        have hchh := hid hch
        have hoh := hid hown
        have hcc := hid hc
        have hBh := hid hB
        clear hch hm hown hc hB hkl
        go_wp2_with (go_at_call 88; refine hcc.out.mono ?_; rintro e w' ⟨rfl, rfl⟩)
        go_roundw
        case rel => exact ⟨k + 1, by omega, by go_num, (by rw [cho_no hchh.out]; exact hoh.out), hBh.out⟩
        case measure => simp [intOf]; omega
    · obtain rfl : k = n := by omega
      have hoh := hid hown
      have hBh := hid hB
      clear hm hown hB hkl
      go_wp2_with fail
      go_returns
      exact ⟨_, rfl, hoh.out, hBh.out⟩
/-- A function's answers at each later world. -/
def Clo114 (n B : Nat) (ch : Nat → Bool) (w : World) : Prop := ∀ W, Below w.heap.size w W → ∀ x, x < n → Calls Tryd.prog 114 #[.int .i64 (x : Nat), .pointer (some ⟨B, 0, none⟩)] W fun e w' => e = .returned (.bool (ch x)) ∧ W = w'
set_option maxRecDepth 100000 in
set_option maxHeartbeats 2000000 in
theorem c84_114 (n B : Nat) (ch : Nat → Bool) (w : World) (hn : n ≤ 1000) (hcl : Clo114 n B ch w) :
    Calls Tryd.prog 84 #[.int .i64 (n : Nat), .func (.func 114) #[] #[.pointer (some ⟨B, 0, none⟩)]] w fun e w' => ∃ v, e = .returned v ∧ w'.ownsRow w.heap.size 3 1 v (cho ch n).length (nums (cho ch n)) ∧ Below w.heap.size w w' := by
  obtain ⟨i0, ie0, ie1, ie2, ie3⟩ := info_parts Tryd.info3
  have hclh := hid hcl
  clear hcl
  go_enter Tryd.func84, Tryd.ntmps84
  go_wp2_with fail
  go_loopw [5, 8] (fun v iv wr => ∃ k : Nat, k ≤ n ∧ iv = .int .i64 k ∧ wr.ownsRow w.heap.size 3 1 v (cho ch k).length (nums (cho ch k)) ∧ Below w.heap.size w wr) (fun _ iv _ => n - (intOf iv).toNat)
  case atStart => exact ⟨0, Nat.zero_le _, rfl, World.ownsRow_nil _ _ _ _, Below.refl _ _⟩
  case round =>
    obtain ⟨k, hk, rfl, hown, hB⟩ := hrel
    have hkl := cho_le ch k
    obtain ⟨m, hm⟩ : ∃ m, m = (cho ch k).length := ⟨_, rfl⟩
    by_cases hlt : k < n
    · have hc := hclh.out wr hB k hlt
      by_cases hch : ch k = true
      · rw [hch] at hc
        have hchh := hid hch
        rw [← hm] at hown hkl
        have hmh := hid hm
        have hoh := hid hown
        have hcc := hid hc
        have hBh := hid hB
        clear hch hm hown hc hB
        go_wp2_with (first | (go_at_call 114; refine hcc.out.mono ?_; rintro e w' ⟨rfl, rfl⟩) | (at_builtin; go_loud (refine app_src rfl (.tmp 14) (.tmp 16) 24 rfl w.heap.size 3 i0 (.int .i64 0) 1 8 Tryd.underlying24 ie0 ie1 ie2 ie3 rfl (by decide) _ _ _ rfl (hoh.out.alloc _) (some ⟨wr.heap.size, 0, none⟩) 1 1 [.int .i64 _] rfl (fun h => by cases h) rfl (fun ad h => by cases h; exact World.news_of_block (cs := #[.int .i64 _]) (t := 3) (fr := (0, 0)) (heap_new _ _)) (by simp [Value.oneCell']) (by unfold maxLen; omega) (by omega) (by simp; have := hBh.out.size; omega) ?_); intro v7 w7 hown7 hgr7 hn7; have hB7 : Below w.heap.size w w7 := (hBh.out.alloc hBh.out.size _).grown hgr7 (by simp; exact Nat.le_succ_of_le hBh.out.size) (fun q e => (hoh.out.lt q e).1); have hown7h := hid hown7; clear hown7 hgr7 hn7))
        go_roundw
        case rel =>
          refine ⟨k + 1, by omega, by go_num, ?_, hB7⟩
          rw [cho_yes hchh.out, nums_app, List.length_append, ← hmh.out]
          exact hown7h.out
        case measure => simp [intOf]; omega
      · have hch : ch k = false := by simpa using hch
        rw [hch] at hc
        have hchh := hid hch
        have hoh := hid hown
        have hcc := hid hc
        have hBh := hid hB
        clear hch hm hown hc hB hkl
        go_wp2_with (go_at_call 114; refine hcc.out.mono ?_; rintro e w' ⟨rfl, rfl⟩)
        go_roundw
        case rel => exact ⟨k + 1, by omega, by go_num, (by rw [cho_no hchh.out]; exact hoh.out), hBh.out⟩
        case measure => simp [intOf]; omega
    · obtain rfl : k = n := by omega
      have hoh := hid hown
      have hBh := hid hB
      clear hm hown hB hkl
      go_wp2_with fail
      go_returns
      exact ⟨_, rfl, hoh.out, hBh.out⟩
/-- All symbols of a row are 0. -/
def allZ (l : Nat) (s : Nat → S) : Prop := ∀ k, k < l → s k = 0
set_option maxHeartbeats 400000 in
theorem c110y (a : S) (w : World) (h : a ≠ 0) : Calls Tryd.prog 110 #[sv a] w fun e w' => e = .returned (.bool true) ∧ w = w' := by
  have na : a.val ≠ 0 := fun e => h ((val_zero a).1 e)
  obtain ⟨x, hx⟩ : ∃ x, x = a.val := ⟨_, rfl⟩
  show Calls Tryd.prog 110 #[.int .u8 (a.val : Nat)] w _
  rw [← hx] at na ⊢
  clear hx h
  have e1 : ((x : Int) != 0) = true := by simp; omega
  have e2 : ((x : Int) == 0) = false := by simp; omega
  go_enter Tryd.func110, Tryd.ntmps110
  go_wp2
  go_ret
  exact ⟨rfl, rfl⟩
set_option maxHeartbeats 400000 in
theorem c110n (a : S) (w : World) (h : a = 0) : Calls Tryd.prog 110 #[sv a] w fun e w' => e = .returned (.bool false) ∧ w = w' := by
  subst h
  go_enter Tryd.func110, Tryd.ntmps110
  go_wp2
  go_ret
  exact ⟨rfl, rfl⟩
set_option maxHeartbeats 400000 in
theorem c117 (A : Option Addr) (b o n c : Nat) (s : Nat → S) (w : World) (hz : Syms w A b o n s) (hn : n ≤ 1000000) :
    Calls Tryd.prog 117 #[.slice A n c, .func (.func 110) #[] #[]] w (RetIx n (fun k => s k = 0) w) := by
  go_enter Tryd.func117, Tryd.ntmps117
  go_wp2
  go_loop [5, 8] (fun _ i => ∃ k : Nat, k ≤ n ∧ i = .int .i64 k ∧ Hid (∀ j, j < k → s j = 0)) (fun _ i => n - (intOf i).toNat)
  case atStart => exact ⟨0, Nat.zero_le _, rfl, fun j hj => absurd hj (Nat.not_lt_zero _)⟩
  case round =>
    obtain ⟨k, hk, rfl, hall⟩ := hrel
    by_cases hlt : k < n
    · have h1 := hz.ce k hlt; have h3 := hz.lt k hlt; have h4 := @Syms.ix _ _ _ _ _ c _ hz _ hlt
      obtain ⟨y, hy⟩ : ∃ y, y = s k := ⟨_, rfl⟩
      rw [← hy] at h1
      by_cases hp : y = 0
      · have hph := hid hp
        have hyh := hid hy
        clear hp hy
        go_wp2_with (go_at_call 110; refine (c110n y _ hph.out).mono ?_; rintro e w' ⟨rfl, rfl⟩)
        go_round
        case rel =>
          refine ⟨k + 1, by omega, by go_num, fun j hj => ?_⟩
          by_cases e : j = k
          · subst e; rw [← hyh.out]; exact hph.out
          · exact hall.out j (by omega)
        case measure => simp [intOf]; omega
      · have hph := hid hp
        have hyh := hid hy
        clear hp hy
        go_wp2_with (go_at_call 110; refine (c110y y _ hph.out).mono ?_; rintro e w' ⟨rfl, rfl⟩)
        go_returns
        exact RetIx.at_ hlt (fun h => hph.out (hyh.out.trans h)) hall.out
    · go_wp2_with fail
      go_returns
      exact RetIx.no (fun j hj => hall.out j (by omega))
set_option maxHeartbeats 400000 in
theorem c109 (A : Option Addr) (b o n c : Nat) (s : Nat → S) (w : World) (hz : Syms w A b o n s) (hn : n ≤ 1000000) :
    Calls Tryd.prog 109 #[.slice A n c, .func (.func 110) #[] #[]] w (RetB (¬ allZ n s) w) := by
  go_enter Tryd.func109, Tryd.ntmps109
  go_wp2_with (go_at_call 117; refine (c117 A b o n c s _ hz hn).mono ?_; rintro e w' (⟨h1, rfl, rfl⟩ | ⟨k, hk, h1, _, rfl, rfl⟩) <;> replace h1 := hid h1)
  · go_ret
    exact RetB.no (fun h => h h1.out)
  · go_ret
    exact RetB.yes (fun h => h1.out (h k hk))
end Go.Proofs.YtnndhibhnakdoaaDoor
