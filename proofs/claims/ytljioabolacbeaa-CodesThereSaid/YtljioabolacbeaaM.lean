/- Stage 4: Find of a mark, if its arguments are right. -/
import Derived.Test.YtljioabolacbeaaL
set_option linter.unusedSimpArgs false
set_option linter.unusedVariables false
namespace Go.Proofs.Ytljioabolacbeaa
open Go.RowKit

/-- The places among the first k that are within E of a mark. -/
def plc (n : Nat) (E : Int) (f g : Nat → Int) : Nat → List Nat
  | 0 => []
  | k + 1 => plc n E f g k ++ if ((dst f (fun j => g (k + j)) n : Nat) : Int) ≤ E then [k] else []
theorem plc_len (n : Nat) (E : Int) (f g : Nat → Int) : ∀ k, (plc n E f g k).length ≤ k
  | 0 => Nat.le_refl _
  | k + 1 => by have := plc_len n E f g k; simp only [plc, List.length_append]; split <;> simp <;> omega
def nums (l : List Nat) : List Value := l.map fun i => .int .i64 (i : Nat)
theorem Ints.tail {w : World} {b o n : Nat} {f : Nat → Int} (h : Ints w (some ⟨b, o, none⟩) b o n f) {i : Nat} (hi : i ≤ n) : Ints w (some ⟨b, o + i, none⟩) b (o + i) (n - i) (fun j => f (i + j)) :=
  ⟨fun _ _ => rfl, fun k hk => h.lt k (by omega), fun k hk => by rw [Nat.add_assoc]; exact h.ce (i + k) (by omega)⟩
set_option maxRecDepth 100000 in
set_option maxHeartbeats 4000000 in
theorem c27y (A : Option Addr) (b o n c b2 o2 n2 c2 : Nat) (f g : Nat → Int) (E : Int) (w : World) (hf : Ints w A b o n f) (hg : Ints w (some ⟨b2, o2, none⟩) b2 o2 n2 g) (hc : n2 ≤ c2)
    (hn : MarkP n f) (h2 : n2 ≤ 128) (hb : allB 2 n2 g) (hE : 0 ≤ E ∧ E ≤ 16) :
    Calls Try.prog 27 #[.slice A n c, .slice (some ⟨b2, o2, none⟩) n2 c2, .int .i64 E] w fun e w' => ∃ v, e = .returned (.tuple #[v, .int .i64 0]) ∧ w'.ownsRow w.heap.size 3 1 v (plc n E f g (n2 + 1 - n)).length (nums (plc n E f g (n2 + 1 - n))) ∧ Below w.heap.size w w' := by
  obtain ⟨i0, ie0, ie1, ie2, ie3⟩ := info_parts Try.info3
  have n1 := hn.1
  have n2' := hn.2.1
  have hnh := hid hn
  have hbh := hid hb
  clear hn hb
  go_enter Try.func27, Try.ntmps27
  go_wp2_with (first | (go_at_call 54; refine (c54 A b o n c f _ hf (by omega)).mono ?_; intro e w1 hr; obtain ⟨rfl, hB1⟩ := hr.un.1 hnh.out; clear hr) | (go_at_call 47; refine (c47 (some ⟨b2, o2, none⟩) b2 o2 n2 c2 g 128 2 _ (hg.below hB1 (Nat.le_refl _)) (by omega) (by omega)).mono ?_; intro e w2 hr; obtain ⟨rfl, hB2⟩ := hr.un.1 ⟨by omega, hbh.out⟩; have hB0 := hB1.trans (hB2.mono hB1.size); clear hr hB1 hB2) | (go_at_call 52; refine (c52y _ (by omega)).mono ?_; rintro e w' ⟨rfl, rfl⟩))
  go_loopw [8, 29] (fun v iv wr => ∃ k : Nat, k ≤ n2 + 1 - n ∧ iv = .int .i64 k ∧ wr.ownsRow w.heap.size 3 1 v (plc n E f g k).length (nums (plc n E f g k)) ∧ Below w.heap.size w wr) (fun _ iv _ => (n2 + 1 - n) - (intOf iv).toNat)
  case atStart => exact ⟨0, Nat.zero_le _, rfl, World.ownsRow_nil _ _ _ _, hB0⟩
  case round =>
    clear hB0
    obtain ⟨k, hk, rfl, hown, hB⟩ := hrel
    by_cases hlt : k < n2 + 1 - n
    · have hl := plc_len n E f g k
      have hf2 := hf.below hB (Nat.le_refl _)
      have hg2 := (hg.below hB (Nat.le_refl _)).tail (i := k) (by omega)
      have hoh := hid hown
      have hfh := hid hf2; have hgh := hid hg2
      clear hown hf2 hg2
      by_cases hd : ((dst f (fun j => g (k + j)) n : Nat) : Int) ≤ E
      · have hdd : decide (((dst f (fun j => g (k + j)) n : Nat) : Int) ≤ E) = true := by simpa using hd
        have hdh := hid hd
        clear hd
        go_wp2_with (first | (go_at_call 56; refine (c56 A (some ⟨b2, o2 + k, none⟩) b o n c b2 (o2 + k) (n2 - k) (c2 - k) f (fun j => g (k + j)) _ hfh.out hgh.out (by omega) (by omega) (by omega)).mono ?_; rintro e w' ⟨rfl, rfl⟩) | (at_builtin; go_loud (refine app_src rfl (.tmp 39) (.tmp 41) 25 rfl w.heap.size 3 i0 (.int .i64 0) 1 8 Try.underlying25 ie0 ie1 ie2 ie3 rfl (by decide) _ _ _ rfl (hoh.out.alloc _) (some ⟨wr.heap.size, 0, none⟩) 1 1 [.int .i64 (k : Nat)] rfl (fun h => by cases h) rfl (fun ad h => by cases h; exact World.news_of_block (cs := #[.int .i64 (k : Nat)]) (t := 3) (fr := (0, 0)) (heap_new _ _)) (by simp [Value.oneCell']) (by unfold maxLen; omega) (by omega) (by simp; exact Nat.le_succ_of_le hB.size) ?_); intro v7 w7 hown7 hgr7 hn7; have hB7 : Below w.heap.size w w7 := (hB.alloc hB.size _).grown hgr7 (by simp; exact Nat.le_succ_of_le hB.size) (fun q e => (hoh.out.lt q e).1); have hown7h := hid hown7; clear hown7 hgr7 hn7))
        go_roundw
        case rel =>
          refine ⟨k + 1, by omega, by go_num, ?_, hB7⟩
          have hp : plc n E f g (k + 1) = plc n E f g k ++ [k] := by simp only [plc]; rw [if_pos hdh.out]
          rw [hp, List.length_append]
          have := hown7h.out
          simpa [nums] using this
        case measure => simp [intOf]; omega
      · have hdd : decide (((dst f (fun j => g (k + j)) n : Nat) : Int) ≤ E) = false := by simpa using hd
        have hdh := hid hd
        clear hd
        go_wp2_with (go_at_call 56; refine (c56 A (some ⟨b2, o2 + k, none⟩) b o n c b2 (o2 + k) (n2 - k) (c2 - k) f (fun j => g (k + j)) _ hfh.out hgh.out (by omega) (by omega) (by omega)).mono ?_; rintro e w' ⟨rfl, rfl⟩)
        go_roundw
        case rel =>
          refine ⟨k + 1, by omega, by go_num, ?_, hB⟩
          have hp : plc n E f g (k + 1) = plc n E f g k := by simp only [plc]; rw [if_neg (by have := hdh.out; omega), List.append_nil]
          rw [hp]
          exact hoh.out
        case measure => simp [intOf]; omega
    · go_wp2_with fail
      go_returns
      obtain rfl : k = n2 + 1 - n := by omega
      exact ⟨_, rfl, hown, hB⟩
end Go.Proofs.Ytljioabolacbeaa
