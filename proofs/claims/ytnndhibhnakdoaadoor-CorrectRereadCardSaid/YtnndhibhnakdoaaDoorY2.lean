/- Stage 5: words with noise, distances, marks, and whether a word is a code word. -/
import Derived.Test.YtnndhibhnakdoaaDoorY
import Derived.Deep.RegionHeld3
set_option linter.unusedSimpArgs false
set_option linter.unusedVariables false
namespace Go.Proofs.YtnndhibhnakdoaaDoor
open Go.RowKit Go.BigFrame Go.Sort
open Gf (S)

/-- A word with noise. -/
def noi (C D : Nat → S) (i : Nat) : S := Gf.ad (C i) (D i)
set_option maxRecDepth 100000 in
set_option maxHeartbeats 4000000 in
theorem c39 (A : Option Addr) (b o n c : Nat) (C : Nat → S) (A2 : Option Addr) (b2 o2 m c2 : Nat) (D : Nat → S) (w : World) (hz : Ints w A b o n (nf C)) (hg : Ints w A2 b2 o2 m (nf D)) (hm : n ≤ m) (hn : n ≤ 1000) :
    Calls Tryd.prog 39 #[.slice A n c, .slice A2 m c2] w fun e w' => ∃ v, e = .returned v ∧ w'.ownsRow w.heap.size 3 1 v n (vals n (nf (noi C D))) ∧ Below w.heap.size w w' := by
  obtain ⟨i0, ie0, ie1, ie2, ie3⟩ := info_parts Tryd.info3
  have hzh := hid hz
  have hgh := hid hg
  clear hz hg
  go_enter Tryd.func39, Tryd.ntmps39
  go_wp2_with fail
  go_loopw [5, 6] (fun v iv wr => ∃ k : Nat, k ≤ n ∧ iv = .int .i64 k ∧ wr.ownsRow w.heap.size 3 1 v k (vals k (nf (noi C D))) ∧ Below w.heap.size w wr) (fun _ iv _ => n - (intOf iv).toNat)
  case atStart => exact ⟨0, Nat.zero_le _, rfl, World.ownsRow_nil _ _ _ _, Below.refl _ _⟩
  case round =>
    obtain ⟨k, hk, rfl, hown, hB⟩ := hrel
    by_cases hlt : k < n
    · have z1 := hzh.out.below hB (Nat.le_refl _)
      have z2 := hgh.out.below hB (Nat.le_refl _)
      have a1 := z1.ce k hlt
      have a2 := z2.ce k (by omega)
      have b1 := fun w' => @Ints.ix _ _ _ _ _ c _ z1 _ hlt w'
      have b2' := fun w' => @Ints.ix _ _ _ _ _ c2 _ z2 k (by omega) w'
      have l1 := hzh.out.lt k hlt
      have l2 := hgh.out.lt k (by omega)
      have e := xi_all (C k) (D k)
      obtain ⟨x, hx⟩ : ∃ x, x = (C k).val := ⟨_, rfl⟩
      obtain ⟨y, hy⟩ : ∃ y, y = (D k).val := ⟨_, rfl⟩
      obtain ⟨z, hzz⟩ : ∃ z, z = (Gf.ad (C k) (D k)).val := ⟨_, rfl⟩
      unfold nf at a1 a2
      rw [← hx, ← hy, ← hzz] at e
      rw [← hx] at a1
      rw [← hy] at a2
      have hzzh := hid hzz
      have hownh := hid hown
      have hlw : ∀ bb, bb < w.heap.size → bb < wr.heap.size := fun bb h => Nat.lt_of_lt_of_le h hB.size
      have l1' := hlw _ l1
      have l2' := hlw _ l2
      clear z1 z2 hx hy hzz hown hlw
      go_wp2_with fail
      go_region_held3 (fun w' => w'.cell? ⟨b, o + k, none⟩ = some (.int .i64 (x : Nat)) ∧ w'.cell? ⟨b2, o2 + k, none⟩ = some (.int .i64 (y : Nat)))
        (first | go_keep | (go_split_ands; refine ⟨?_, ?_⟩ <;> (rw [hgrow.cell_far _ (by simp; omega) (by intro e; have h9 := (hownh.out.lt _ e.symm).1; dsimp only at h9; omega)]; assumption)))
        ((refine step_append_lies _ (by rfl) _ _ _ (by rfl) w.heap.size 3 i0 _ 1 8 Tryd.underlying24 ie0 ie1 ie2 ie3 rfl (by omega) _ k _ (by rfl) ((hownh.out.alloc _).drew) ⟨wr.heap.size, 0, none⟩ 1 1 [.int .i64 (z : Nat)] (by rfl) (by rfl) (World.news_of_block (cs := #[.int .i64 (z : Nat)]) (t := 3) (fr := (0, 0)) (heap_new wr _)) (by simp [Value.oneCell']) (by omega) (by unfold maxLen; omega) (by omega) (by simp; exact Nat.le_succ_of_le hB.size) (wr.heap.size + 1) (by simp) ?_; intro gg cap w7 hown7 hgrow hat hlt7))
      have hB7 : Below w.heap.size w w7 := ((hB.alloc hB.size _).drew).grown hgrow (by simp; exact Nat.le_succ_of_le hB.size) (fun q e => (hownh.out.lt q e).1)
      have hown7h := hid hown7
      clear hgrow hat hown7 e
      go_wp2
      go_roundw
      case rel =>
        refine ⟨k + 1, by omega, by go_num, ?_, hB7⟩
        have h1 : nf (noi C D) k = (z : Int) := by unfold nf noi; rw [hzzh.out]
        rw [vals_succ, h1]
        exact hown7h.out
      case measure => simp [intOf]; omega
    · obtain rfl : k = n := by omega
      go_wp2_with fail
      go_returns
      exact ⟨_, rfl, hown, hB⟩
/-- At how many of the first k positions two words differ, but for some. -/
def apc (C D : Nat → S) (M : List Nat) (k : Nat) : Nat := Gf.apa k C D M
theorem apc_succ (C D : Nat → S) (M : List Nat) (k : Nat) : apc C D M (k + 1) = apc C D M k + (if C k ≠ D k ∧ k ∉ M then 1 else 0) := by
  unfold apc Gf.apa
  rw [List.range_succ, List.countP_append, List.countP_singleton]
  simp
theorem apc_le (C D : Nat → S) (M : List Nat) (k : Nat) : apc C D M k ≤ k := by
  have := List.countP_le_length (p := fun i => decide (C i ≠ D i ∧ i ∉ M)) (l := List.range k)
  simpa [apc, Gf.apa] using this
set_option maxRecDepth 100000 in
set_option maxHeartbeats 4000000 in
theorem c40 (A : Option Addr) (b o n c : Nat) (C : Nat → S) (A2 : Option Addr) (b2 o2 l c2 : Nat) (D : Nat → S) (A3 : Option Addr) (b3 o3 m c3 : Nat) (p : Nat → Nat) (w : World) (hz : Ints w A b o n (nf C)) (hg : Ints w A2 b2 o2 l (nf D)) (hp : Ints w A3 b3 o3 m (fun k => (p k : Nat))) (hl : n ≤ l) (hn : n ≤ 1000) (hm : m ≤ 1000) :
    Calls Tryd.prog 40 #[.slice A n c, .slice A2 l c2, .slice A3 m c3] w fun e w' => e = .returned (.int .i64 (apc C D (li p m) n : Nat)) ∧ Below w.heap.size w w' := by
  have hzh := hid hz
  have hgh := hid hg
  have hph := hid hp
  clear hz hg hp
  go_enter Tryd.func40, Tryd.ntmps40
  go_wp2_with fail
  go_loopw [7, 8] (fun nv iv wr => ∃ k : Nat, k ≤ n ∧ iv = .int .i64 k ∧ nv = .int .i64 (apc C D (li p m) k : Nat) ∧ Below w.heap.size w wr) (fun _ iv _ => n - (intOf iv).toNat)
  case atStart => exact ⟨0, Nat.zero_le _, rfl, rfl, Below.refl _ _⟩
  case round =>
    obtain ⟨k, hk, rfl, rfl, hB⟩ := hrel
    have hapl := apc_le C D (li p m) k
    have hst := hid (apc_succ C D (li p m) k)
    obtain ⟨q, hq⟩ : ∃ q, q = apc C D (li p m) k := ⟨_, rfl⟩
    rw [← hq] at hapl ⊢
    have hqh := hid hq
    clear hq
    by_cases hlt : k < n
    · have z1 := hzh.out.below hB (Nat.le_refl _)
      have z2 := hgh.out.below hB (Nat.le_refl _)
      have a1 := z1.ce k hlt
      have a2 := z2.ce k (by omega)
      have b1 := fun w' => @Ints.ix _ _ _ _ _ c _ z1 _ hlt w'
      have b2' := fun w' => @Ints.ix _ _ _ _ _ c2 _ z2 k (by omega) w'
      obtain ⟨x, hx⟩ : ∃ x, x = nf C k := ⟨_, rfl⟩
      obtain ⟨y, hy⟩ : ∃ y, y = nf D k := ⟨_, rfl⟩
      have hxy : (x = y) ↔ C k = D k := by
        rw [hx, hy]
        unfold nf
        constructor
        · intro e; exact Fin.ext (by omega)
        · intro e; rw [e]
      rw [← hx] at a1
      rw [← hy] at a2
      have d1 := cell_regrown a1
      have d2 := cell_regrown a2
      have hBh := hid hB
      have hxyh := hid hxy
      clear z1 z2 hx hy hB hxy
      by_cases he : x = y
      · have q1 : (x != y) = false := by simpa using he
        have heh := hid he
        clear he
        go_wp2_with fail
        refine wp_region_quiet_below (by kernel_rfl) (by kernel_rfl) ?_; (repeat (go_big_quiet_step ((first | fail)))); refine wpQuiet_nil ?_; intro _ hw; obtain ⟨q, hwq⟩ := hw; subst hwq
        go_wp2_with fail
        go_roundw
        case rel => exact ⟨k + 1, by omega, by go_num, by rw [hst.out, if_neg (fun h => h.1 (hxyh.out.1 heh.out)), hqh.out]; rfl, hBh.out.trans ((below_regrown _ _ _).mono hBh.out.size)⟩
        case measure => simp [intOf]; omega
      · have q1 : (x != y) = true := by simpa using he
        have heh := hid he
        clear he
        by_cases hi : has m (fun k => (p k : Nat)) (k : Nat)
        · have hih := hid hi
          clear hi
          go_wp2_with fail
          refine wp_region_quiet_below (by kernel_rfl) (by kernel_rfl) ?_; (repeat (go_big_quiet_step ((first | (go_at_call 78; exact Calls.regrown_of ((c78 A3 b3 o3 m c3 (k : Nat) _ _ (hph.out.below (hBh.out.trans ((below_regrown _ _ _).mono hBh.out.size)) (Nat.le_refl _)) (by omega)).mono (fun e w' hr => ⟨(hr.un.1 hih.out).1, (hr.un.1 hih.out).2 ▸ Below.refl _ _⟩))))))); refine wpQuiet_nil ?_; intro _ hw; obtain ⟨q, hwq⟩ := hw; subst hwq
          go_wp2_with fail
          go_roundw
          case rel => exact ⟨k + 1, by omega, by go_num, by rw [hst.out, if_neg (fun h => h.2 (has_li.1 hih.out)), hqh.out]; rfl, hBh.out.trans ((below_regrown _ _ _).mono hBh.out.size)⟩
          case measure => simp [intOf]; omega
        · have hih := hid hi
          clear hi
          go_wp2_with fail
          refine wp_region_quiet_below (by kernel_rfl) (by kernel_rfl) ?_; (repeat (go_big_quiet_step ((first | (go_at_call 78; exact Calls.regrown_of ((c78 A3 b3 o3 m c3 (k : Nat) _ _ (hph.out.below (hBh.out.trans ((below_regrown _ _ _).mono hBh.out.size)) (Nat.le_refl _)) (by omega)).mono (fun e w' hr => ⟨(hr.un.2 hih.out).1, (hr.un.2 hih.out).2 ▸ Below.refl _ _⟩))))))); refine wpQuiet_nil ?_; intro _ hw; obtain ⟨q, hwq⟩ := hw; subst hwq
          go_wp2_with fail
          go_roundw
          case rel => exact ⟨k + 1, by omega, by go_num, by rw [hst.out, if_pos ⟨fun h => heh.out (hxyh.out.2 h), fun h => hih.out (has_li.2 h)⟩, hqh.out]; go_num, hBh.out.trans ((below_regrown _ _ _).mono hBh.out.size)⟩
          case measure => simp [intOf]; omega
    · obtain rfl : k = n := by omega
      have hBh := hid hB
      clear hB
      go_wp2_with fail
      go_returns
      rw [hqh.out]
      exact ⟨rfl, hBh.out⟩
end Go.Proofs.YtnndhibhnakdoaaDoor
