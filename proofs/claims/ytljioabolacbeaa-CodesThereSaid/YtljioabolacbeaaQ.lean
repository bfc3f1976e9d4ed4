/- Stage 4: the order of a code whose words are distinct in each state. -/
import Derived.Test.YtljioabolacbeaaP
set_option linter.unusedSimpArgs false
set_option linter.unusedVariables false
namespace Go.Proofs.Ytljioabolacbeaa
open Go.RowKit Go.Maps Go.WideMaps

/-- The pairs of the first k states with themselves. -/
def Dk (k : Nat) : DataW Unit := setOf (.lit (.bool true)) ((List.range k).map kp)
theorem Dk_zero : Dk 0 = .map [] := by simp [Dk, setOf]
theorem Dk_succ (k : Nat) : (Dk k).put (kp k) (.lit (.bool true)) = Dk (k + 1) := by
  unfold Dk
  rw [List.range_succ, List.map_append, List.map_cons, List.map_nil, setOf_snoc]
theorem has_Dk (k : Nat) (kl : Lit) : has (Dk k) kl = ((List.range k).map kp).any (fun x => x.sameKey kl) :=
  has_setOf _ _ _ (fun x hx => by obtain ⟨a, _, rfl⟩ := List.mem_map.1 hx; trivial)
theorem Dk_diag {k : Nat} (kl : Lit) (h : has (Dk k) kl = true) : ∃ s, s < k ∧ kl = kp s := by
  rw [has_Dk, List.any_eq_true] at h
  obtain ⟨x, hx, h2⟩ := h
  obtain ⟨s, hs, rfl⟩ := List.mem_map.1 hx
  refine ⟨s, List.mem_range.1 hs, ?_⟩
  cases kl <;> simp [kp, Lit.sameKey] at h2 ⊢
  exact h2.symm
theorem size_Dk {k : Nat} (h : 0 < k) : 0 < size (Dk k) := by
  have h1 : has (Dk k) (kp 0) = true := by
    rw [has_Dk, List.any_eq_true]
    exact ⟨kp 0, List.mem_map.2 ⟨0, List.mem_range.2 h, rfl⟩, by simp [kp, Lit.sameKey]⟩
  cases hD : Dk k with
  | map es =>
    rw [hD] at h1
    rw [has_eq, List.any_eq_true] at h1
    obtain ⟨p, hp, _⟩ := h1
    rw [size_eq]
    exact List.length_pos_of_mem hp
  | _ => rw [hD] at h1; cases h1
set_option maxRecDepth 100000 in
set_option maxHeartbeats 4000000 in
theorem c50e (q : Cd) (w : World) (hz : q.In w) (ok : q.Ok) (hdist : ∀ s, s < q.wn → ∀ i j, i < (q.W s).n → j < (q.W s).n → (q.W s).f i = (q.W s).f j → i = j) :
    Calls Try.prog 50 #[q.v] w fun e w' => e = .returned (.tuple #[.int .i64 1, .bool true]) ∧ Below w.heap.size w w' := by
  have hmm := @run_makeMap Try.prog
  have s1 := ok.s1; have s2 := ok.s2
  have okh := hid ok
  have hzh := hid hz
  have hdh := hid hdist
  clear ok hz hdist
  go_enter Try.func50, Try.ntmps50
  go_wp2_with fail
  have hB0 : Below w.heap.size w ((w.alloc (.cells #[.int .i64 (q.B : Nat), .int .i64 (q.O : Nat), .int .i64 q.L, .int .i64 q.M, .slice q.wa q.wn q.wc, .slice q.na q.nn q.nc] 72)).alloc (.map #[] 0)) := by (repeat' (first | (with_reducible exact Below.refl _ _) | (with_reducible assumption) | (with_reducible refine Below.alloc ?_ ?_ _) | (with_reducible refine Below.drew ?_) | (with_reducible refine below_drewN ?_ _) | (with_reducible refine Below.setCell ?_ ?_ _) | (with_reducible refine Below.trans ?_ (Below.mono (by with_reducible assumption) ?_)) | go_size))
  have hm0 : OwnP ((w.alloc (.cells #[.int .i64 (q.B : Nat), .int .i64 (q.O : Nat), .int .i64 q.L, .int .i64 q.M, .slice q.wa q.wn q.wc, .slice q.na q.nn q.nc] 72)).alloc (.map #[] 0)) (w.heap.size + 1) 0 (Dk 0) := by
    have := World.ownsMap_made (w.alloc (.cells #[.int .i64 (q.B : Nat), .int .i64 (q.O : Nat), .int .i64 q.L, .int .i64 q.M, .slice q.wa q.wn q.wc, .slice q.na q.nn q.nc] 72)) Try.prog 108 (plainElem (H := Unit) Try.prog 4)
    rw [Dk_zero]
    simpa using this
  have hc0 : Cbx q ((w.alloc (.cells #[.int .i64 (q.B : Nat), .int .i64 (q.O : Nat), .int .i64 q.L, .int .i64 q.M, .slice q.wa q.wn q.wc, .slice q.na q.nn q.nc] 72)).alloc (.map #[] 0)) w.heap.size := (Cbx.newk q w).below (B := w.heap.size + 1) ((Below.refl _ _).alloc (by simp) _) (by omega)
  have hz0 : w.heap.size + 1 < ((w.alloc (.cells #[.int .i64 (q.B : Nat), .int .i64 (q.O : Nat), .int .i64 q.L, .int .i64 q.M, .slice q.wa q.wn q.wc, .slice q.na q.nn q.nc] 72)).alloc (.map #[] 0)).heap.size := by simp
  go_loopw [12] (fun iv wr => ∃ k : Nat, k ≤ q.wn ∧ iv = .int .i64 (k : Nat) ∧ OwnP wr (w.heap.size + 1) k (Dk k) ∧ Cbx q wr w.heap.size ∧ Below w.heap.size w wr ∧ w.heap.size + 1 < wr.heap.size) (fun iv _ => q.wn - (intOf iv).toNat)
  case atStart => exact ⟨0, Nat.zero_le _, rfl, hm0, hc0, hB0, hz0⟩
  case round =>
    clear hB0 hm0 hc0 hz0
    obtain ⟨k, hk, rfl, hown, hc, hB, hz⟩ := hrel
    have hoh := hid hown; have hch := hid hc
    clear hown hc
    by_cases hlt : k < q.wn
    · have hkey := hid (key_kp (show k ≤ 1000 by omega))
      go_wp2_with (at_mapUpdate; go_loud (refine wpList_mapUpdate_own _ rfl _ _ _ 106 rfl 108 4 law108 Try.underlying106 (plainElem (H := Unit) Try.prog 4) (w.heap.size + 1) k _ rfl hoh.out (by unfold maxLen; omega) _ _ _ rfl rfl hkey.out _ [] (plainElem_bool Try.underlying4 true) ?_); intro w1 hown1 hgrow1; have hB1 : Below w.heap.size w w1 := hB.grown hgrow1 hB.size (fun k e => by injection e with e; omega); have hc1 : Cbx q w1 w.heap.size := hch.out.keep fun o => World.cell?_of_block (hgrow1.block w.heap.size (by omega) (by simp)); have hz1 : w.heap.size + 1 < w1.heap.size := Nat.lt_of_lt_of_le hz hgrow1.size; have hown1 := hid hown1; clear hgrow1)
      go_roundw
      case rel => exact ⟨k + 1, by omega, by go_num, by rw [← Dk_succ]; exact hown1.out, hc1, hB1, hz1⟩
      case measure => simp [intOf]; omega
    · obtain rfl : k = q.wn := by omega
      go_wp2_with fail
      have hszp := size_Dk (k := q.wn) (by omega)
      have hsz : (((Maps.size (Dk q.wn) : Nat) : Int) == 0) = false := by simp; omega
      have hsz0 : Maps.size (.map [] : DataW Unit) = 0 := rfl
      have hzl : w.heap.size < wr.heap.size := by omega
      clear hszp
      have hmm := hid hmm
      have hdia : Hid (∀ kl, has (Dk q.wn) kl = true → ∃ s, s < q.wn ∧ kl = kp s) := hid (fun kl h => Dk_diag kl h)
      have hw0 := hid (And.intro hB hz)
      clear hB hz
      go_loopw [4, 20] (fun mv iv w5 => (iv = .int .i64 0 ∧ mv = .map (some (w.heap.size + 1)) ∧ w5 = wr) ∨ (iv = .int .i64 1 ∧ ∃ B, mv = .map (some B) ∧ OwnP w5 B 0 (.map []) ∧ Below w.heap.size w w5)) (fun _ iv _ => 2 - (intOf iv).toNat)
      case atStart => exact .inl ⟨rfl, rfl, rfl⟩
      case round =>
        rcases hrel with ⟨rfl, rfl, rfl⟩ | ⟨rfl, B, rfl, hown, hB⟩
        · have hbx := hch.out.all
          obtain ⟨y0, y1, y2, y3, y4, y5⟩ := hbx
          have hw2 : Below w.heap.size w (wr.alloc (.cells #[.int .i64 0] 3)) := hw0.out.1.alloc hw0.out.1.size _
          have hw2 := hid hw2
          have hcn := hid (cell_new wr 0)
          go_wp2_with (first | (at_len; go_loud (refine wpList_len_own _ rfl _ 106 rfl 108 4 Try.underlying106 (plainElem (H := Unit) Try.prog 4) (w.heap.size + 1) q.wn (Dk q.wn) rfl (hoh.out.alloc _) ?_)) | (go_at_call 66; refine (c66e q (w.heap.size + 1) q.wn wr.heap.size (Dk q.wn) _ (hzh.out.below hw2.out (Nat.le_refl _)) okh.out hdh.out (hoh.out.alloc _) hdia.out hcn.out (by simp)).mono ?_; rintro e w6 ⟨B', rfl, hown6, hle6, hB6⟩; have hB06 := hw2.out.trans (hB6.mono hw2.out.size); have hown6 := hid hown6; clear hB6 hle6))
          go_roundw
          case rel => exact .inr ⟨by go_num, B', rfl, hown6.out, hB06⟩
          case measure => simp [intOf]
        · have hoh2 := hid hown
          clear hown
          go_wp2_with (at_len; go_loud (refine wpList_len_own _ rfl _ 106 rfl 108 4 Try.underlying106 (plainElem (H := Unit) Try.prog 4) B 0 (.map []) rfl (hoh2.out.alloc _) ?_))
          go_returns
          exact ⟨rfl, hB.alloc hB.size _⟩
set_option maxRecDepth 100000 in
set_option maxHeartbeats 4000000 in
theorem c19e (q : Cd) (w : World) (hz : q.In w) (ok : q.Ok) (hdist : ∀ s, s < q.wn → ∀ i j, i < (q.W s).n → j < (q.W s).n → (q.W s).f i = (q.W s).f j → i = j) :
    Calls Try.prog 19 #[q.v] w fun e w' => e = .returned (.tuple #[.int .i64 1, .int .i64 0]) ∧ Below w.heap.size w w' := by
  have okh := hid ok
  have hzh := hid hz
  have hdh := hid hdist
  clear ok hz hdist
  have hB0 : Hid (Below w.heap.size w (w.alloc (.cells #[.int .i64 (q.B : Nat), .int .i64 (q.O : Nat), .int .i64 q.L, .int .i64 q.M, .slice q.wa q.wn q.wc, .slice q.na q.nn q.nc] 24))) := hid (by (repeat' (first | (with_reducible exact Below.refl _ _) | (with_reducible assumption) | (with_reducible refine Below.alloc ?_ ?_ _) | (with_reducible refine Below.drew ?_) | (with_reducible refine below_drewN ?_ _) | (with_reducible refine Below.setCell ?_ ?_ _) | (with_reducible refine Below.trans ?_ (Below.mono (by with_reducible assumption) ?_)) | go_size)))
  go_enter Try.func19, Try.ntmps19
  go_wp2_with (first | (go_at_call 44; refine ((c44y q _ (hzh.out.below hB0.out (Nat.le_refl _)) okh.out : Calls Try.prog 44 #[q.v] _ fun e w' => e = .returned (.tuple #[.agg #[.int .i64 (q.B : Nat), .int .i64 (q.O : Nat), .int .i64 q.L, .int .i64 q.M, .slice q.wa q.wn q.wc, .slice q.na q.nn q.nc], .int .i64 0]) ∧ _)).mono ?_; rintro e w1 ⟨rfl, hB1⟩; have hB01 := hid (hB0.out.trans (hB1.mono (by simp))); clear hB1) | (go_at_call 50; refine (c50e q _ (hzh.out.below (Below.alloc hB01.out hB01.out.size _) (Nat.le_refl _)) okh.out hdh.out).mono ?_; rintro e w2 ⟨rfl, hB2⟩; have hB02 := hid ((hB01.out.alloc hB01.out.size _).trans (hB2.mono (by simp; exact Nat.le_succ_of_le hB01.out.size))); clear hB2))
  go_returns
  exact ⟨rfl, hB02.out⟩
end Go.Proofs.Ytljioabolacbeaa
