/- Stage 4: data that are changed by a row of bits. -/
import Derived.Test.YtljioabolacbeaaC
import Derived.Deep.AppendLies
set_option linter.unusedSimpArgs false
set_option linter.unusedVariables false
namespace Go.Proofs.Ytljioabolacbeaa
open Go.RowKit

theorem wrap64_in' (n : Int) (h : -9223372036854775808 ≤ n ∧ n ≤ 9223372036854775807) : wrap64 n = n := by unfold wrap64; omega
theorem RetB.un {p : Prop} {w : World} {e : Ending} {w' : World} (h : RetB p w e w') : (p → e = .returned (.bool true) ∧ w = w') ∧ (¬ p → e = .returned (.bool false) ∧ w = w') := by
  rcases h with ⟨h1, h2⟩ | ⟨h1, h2⟩
  · exact ⟨fun _ => h2, fun h => absurd h1 h⟩
  · exact ⟨fun h => absurd h h1, fun _ => h2⟩
/-- The next register and the changed bit, as the code computes them. -/
theorem reg_facts {r : Nat} (h : r < 128) : bits .and .i64 ((r : Int) / 32) 1 = ((r / 32 % 2 : Nat) : Int) ∧ bits .xor .i64 ((r : Int) / 64) ((r / 32 % 2 : Nat) : Int) = (((r / 64 + r / 32) % 2 : Nat) : Int) := by
  have := reg_all ⟨r, h⟩
  simpa using this
set_option maxRecDepth 100000 in
set_option maxHeartbeats 2000000 in
theorem c24 (s b o n c : Nat) (f : Nat → Int) (w : World) (hz : Ints w (some ⟨b, o, none⟩) b o n f) (hs : 1 ≤ s ∧ s ≤ 127) (hn : 0 < n) (hm : n ≤ 128) (ha : allB 2 n f) :
    Calls Try.prog 24 #[.int .i64 (s : Nat), .slice (some ⟨b, o, none⟩) n c] w fun e w' => ∃ g c', e = .returned (.tuple #[.slice (some ⟨g, 0, none⟩) n c', .int .i64 0]) ∧ RowF w' g n (scr s f) ∧ Below w.heap.size w w' := by
  have hah := hid ha
  clear ha
  go_enter Try.func24, Try.ntmps24
  go_wp2_with (first | (go_at_call 52; refine (c52y _ (by omega)).mono ?_; rintro e w' ⟨rfl, rfl⟩) | (go_at_call 47; refine (c47 _ b o n c f 128 2 _ hz (by omega) (by omega)).mono ?_; intro e w1 hr; obtain ⟨rfl, hB1⟩ := hr.un.1 ⟨by omega, hah.out⟩) | (go_at_call 53; refine (c53 b o n c f _ (hz.below hB1 (Nat.le_refl _)) hn (by omega)).mono ?_; rintro e w2 ⟨g, c2, rfl, hg, hc, hR, hB2⟩; have hB := hB1.trans (hB2.mono hB1.size); have hg0 : w.heap.size ≤ g := Nat.le_trans hB1.size hg; have hRh := hid hR; clear hR hB1 hB2 hg))
  go_loopw [7, 24] (fun rv iv wr => ∃ k : Nat, k ≤ n ∧ iv = .int .i64 k ∧ rv = .int .i64 (rgN s k : Nat) ∧ RowF wr g n (mix k (scr s f) f) ∧ Below w.heap.size w wr) (fun _ iv _ => n - (intOf iv).toNat)
  case atStart => exact ⟨0, Nat.zero_le _, rfl, rfl, hRh.out.congr (fun i _ => (mix_zero _ _ i).symm), hB⟩
  case round =>
    clear hB hRh
    obtain ⟨k, hk, rfl, rfl, hR, hB⟩ := hrel
    by_cases hlt : k < n
    · have h1 := hR.cell hlt
      rw [mix_at] at h1
      have h2 := hR.frozen k
      have h4 := @RowF.ix _ _ _ c2 _ hR _ hlt
      obtain ⟨r, hr⟩ : ∃ r, r = rgN s k := ⟨_, rfl⟩
      have hr1 : r < 128 := by rw [hr]; exact rgN_lt (by omega) k
      have ⟨e1, e2⟩ := reg_facts hr1
      have e3 := xor_bit (x := f k) (t := r / 64) (by have := hah.out k hlt; unfold bel at this; omega) (by omega)
      rw [← hr]
      have hrh := hid hr
      have hRh := hid hR
      clear hr hR
      go_wp2_with fail
      go_roundw
      case rel =>
        have e2' : bits .xor .i64 ((r : Int) / 64) ((r : Int) / 32 % 2) = (((r / 64 + r / 32) % 2 : Nat) : Int) := by push_cast at e2 ⊢; exact e2
        have ev : bits .xor .i64 (f k) ((r : Int) / 64) = scr s f k := by
          have : ((r / 64 : Nat) : Int) = (r : Int) / 64 := by omega
          rw [← this, e3]
          unfold scr topN
          rw [← hrh.out]
          omega
        refine ⟨k + 1, by omega, by go_num, ?_, ?_, hB.setCell (by exact hg0) _⟩
        · rw [e2', wrap64_in' _ (by omega), rgN, ← hrh.out]
          congr 1
        · rw [ev]
          exact (hRh.out.set k _).congr (fun i _ => mix_step i)
      case measure => simp [intOf]; omega
    · go_wp2_with fail
      go_returns
      exact ⟨g, c2, rfl, hR.congr (fun i hi => by rw [mix]; exact if_pos (by omega)), hB⟩
set_option maxRecDepth 100000 in
set_option maxHeartbeats 2000000 in
theorem c42 (A : Option Addr) (s b o n c : Nat) (f : Nat → Int) (w : World) (hz : Ints w A b o n f) (hs : 1 ≤ s ∧ s ≤ 127) (hm : n ≤ 128) (ha : allB 2 n f) :
    Calls Try.prog 42 #[.int .i64 (s : Nat), .slice A n c] w fun e w' => ∃ v, e = .returned (.tuple #[v, .int .i64 0]) ∧ w'.ownsRow w.heap.size 3 1 v n (vals n (scr s f)) ∧ Below w.heap.size w w' := by
  obtain ⟨i0, ie0, ie1, ie2, ie3⟩ := info_parts Try.info3
  have hah := hid ha
  clear ha
  have hd : decide ((128 : Int) < (n : Int)) = false := decide_eq_false (by omega)
  have hd2 : decide (128 < n) = false := decide_eq_false (by omega)
  go_enter Try.func42, Try.ntmps42
  go_wp2_with (first | (go_at_call 49; refine (c49y _ (by omega)).mono ?_; rintro e w' ⟨rfl, rfl⟩) | (go_at_call 23; refine (c23 _ b o n c f _ hz (by omega)).mono ?_; intro e w1 hr; obtain ⟨rfl, rfl⟩ := hr.un.1 hah.out))
  go_loopw [6, 7, 8] (fun v rv iv wr => ∃ k : Nat, k ≤ n ∧ iv = .int .i64 k ∧ rv = .int .i64 (rgN s k : Nat) ∧ wr.ownsRow w.heap.size 3 1 v k (vals k (scr s f)) ∧ Below w.heap.size w wr) (fun _ _ iv _ => n - (intOf iv).toNat)
  case atStart => exact ⟨0, Nat.zero_le _, rfl, rfl, World.ownsRow_nil _ _ _ _, Below.refl _ _⟩
  case round =>
    obtain ⟨k, hk, rfl, rfl, hown, hB⟩ := hrel
    by_cases hlt : k < n
    · have hz2 := hz.below hB (Nat.le_refl _)
      have h1 := hz2.ce k hlt; have h3 := hz2.lt k hlt; have h4 := @Ints.ix _ _ _ _ _ c _ hz2 _ hlt
      obtain ⟨r, hr⟩ : ∃ r, r = rgN s k := ⟨_, rfl⟩
      have hr1 : r < 128 := by rw [hr]; exact rgN_lt (by omega) k
      have hf := hah.out k hlt
      unfold bel at hf
      rw [← hr]
      have hrh := hid hr
      have hoh := hid hown
      clear hr hown hz2
      go_wp2_with (at_builtin; go_loud (refine app_src rfl (.tmp 37) (.tmp 45) 25 rfl w.heap.size 3 i0 (.int .i64 0) 1 8 Try.underlying25 ie0 ie1 ie2 ie3 rfl (by decide) _ _ _ rfl (hoh.out.alloc _) (some ⟨wr.heap.size, 0, none⟩) 1 1 [.int .i64 _] rfl (fun h => by cases h) rfl (fun ad h => by cases h; exact World.news_of_block (cs := #[.int .i64 _]) (t := 3) (fr := (0, 0)) (heap_new _ _)) (by simp [Value.oneCell']) (by unfold maxLen; omega) (by omega) (by simp; have := hB.size; omega) ?_); intro v7 w7 hown7 hgr7 hn7; have hB7 : Below w.heap.size w w7 := (hB.alloc hB.size _).grown hgr7 (by simp; exact Nat.le_succ_of_le hB.size) (fun q e => (hoh.out.lt q e).1); have hown7h := hid hown7; clear hown7 hgr7 hn7)
      go_roundw
      case rel =>
        refine ⟨k + 1, by omega, by go_num, ?_, ?_, hB7⟩
        · rw [rgN, ← hrh.out]
          congr 1
        · have hX : scr s f k = (f k + (r : Int) / 64) % 2 := by
            unfold scr topN
            rw [← hrh.out]
            omega
          rw [vals_succ, hX]
          exact hown7h.out
      case measure => simp [intOf]; omega
    · go_wp2_with fail
      go_returns
      obtain rfl : k = n := by omega
      exact ⟨_, rfl, hown, hB⟩
end Go.Proofs.Ytljioabolacbeaa
