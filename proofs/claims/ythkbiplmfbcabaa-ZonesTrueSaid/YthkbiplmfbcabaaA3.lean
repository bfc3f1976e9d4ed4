/- Stage 1: the reference's Switches. -/
import Derived.Test.YthkbiplmfbcabaaG
import Derived.Test.YthkbiplmfbcabaaT
set_option linter.unusedSimpArgs false
set_option linter.unusedVariables false
namespace Go.Proofs.Ythkbiplmfbcabaa
open Go.RowKit

def plN (d : Dk) (i : Nat) : Pl := (places d).getD i (0, 0, 0)
theorem plN_get {d : Dk} {i : Nat} (h : i < (places d).length) : (places d)[i] = plN d i := by
  unfold plN
  rw [List.getD_eq_getElem?_getD, List.getElem?_eq_getElem h]
  rfl
/-- The switch from one place to another. -/
def kindOf (p q : Pl) : Int := if q.1 = p.1 then (if q.2.1 = p.2.1 then 0 else 1) else 2
def kindAt (d : Dk) (i : Nat) : Int := kindOf (plN d i) (plN d (i + 1))
def kinds (d : Dk) (f k : Nat) : List Int := (List.range k).map fun i => kindAt d (f + i)
theorem kinds_succ (d : Dk) (f k : Nat) : kinds d f (k + 1) = kinds d f k ++ [kindAt d (f + k)] := by simp [kinds, List.range_succ]
theorem kinds_len (d : Dk) (f k : Nat) : (kinds d f k).length = k := by simp [kinds]
theorem kindOf_bd (p q : Pl) : kindOf p q = 0 ∨ kindOf p q = 1 ∨ kindOf p q = 2 := by
  unfold kindOf
  split
  · split
    · exact .inl rfl
    · exact .inr (.inl rfl)
  · exact .inr (.inr rfl)

def KdRet (d : Dk) (f k : Nat) (w : World) (e : Ending) (w' : World) : Prop :=
  ∃ v : Value, e = .returned v ∧ w'.ownsRow w.heap.size 3 1 v k ((kinds d f k).map (Value.int .i64)) ∧ Below w.heap.size w w'

theorem Try.info3 : (Try.prog.info? 3).map (fun i => (i.zero, i.size, i.bytes)) = some (some (.int .i64 0), 1, 8) := by kernel_rfl

set_option maxRecDepth 100000 in
set_option maxHeartbeats 2000000 in
theorem c37 (d : Dk) (f n : Nat) (w : World) (hz : Zs w d) (ok : d.Ok) (hn : 1 ≤ n) (hfn : f + n ≤ (places d).length) :
    Calls Try.prog 37 #[d.v, .int .i64 f, .int .i64 n] w (KdRet d f (n - 1) w) := by
  obtain ⟨i0, ie0, ie1, ie2, ie3⟩ := info_parts Try.info3
  have hL := ok.lenPl
  have hB := ok.cntB
  unfold lenPlaces at hL
  have hlen : (places d).length ≤ 5120 := by omega
  have okh := hid ok
  obtain ⟨z, hzz⟩ : ∃ z : Nat, z = f + n := ⟨_, rfl⟩
  have hsum : IntKind.i64.wrap ((f : Int) + (n : Int)) = (z : Int) := by rw [i64w _ (by omega) (by omega), hzz]; rfl
  obtain ⟨j0, hj0⟩ : ∃ j : Nat, j = f + 1 := ⟨_, rfl⟩
  have hsum1 : IntKind.i64.wrap ((f : Int) + 1) = (j0 : Int) := by rw [i64w _ (by omega) (by omega), hj0]; rfl
  have hzzh := hid hzz
  have hj0h := hid hj0
  clear ok hL hB hzz hj0
  go_enter Try.func37, Try.ntmps37
  go_wp2_with (first | (go_at_call 51; refine (c51 d _ (by exact hz.below (by (repeat' (first | (with_reducible exact Below.refl _ _) | (with_reducible assumption) | (with_reducible refine Below.alloc ?_ ?_ _) | (with_reducible refine Below.drew ?_) | (with_reducible refine below_drewN ?_ _) | (with_reducible refine Below.setCell ?_ ?_ _) | (with_reducible refine Below.trans ?_ (Below.mono (by with_reducible assumption) ?_)) | go_size))) (Nat.le_refl _)) okh.out).mono ?_; intro e w1 hr; obtain ⟨g, cap, rfl, hg, hp, hB1⟩ := hr.pos (by omega)))
  have hs1 : w.heap.size < w1.heap.size := by have := hB1.size; simp at this; omega
  have hbw : Below w.heap.size w w1 := by (repeat' (first | (with_reducible exact Below.refl _ _) | (with_reducible assumption) | (with_reducible refine Below.alloc ?_ ?_ _) | (with_reducible refine Below.drew ?_) | (with_reducible refine below_drewN ?_ _) | (with_reducible refine Below.setCell ?_ ?_ _) | (with_reducible refine Below.trans ?_ (Below.mono (by with_reducible assumption) ?_)) | go_size))
  clear hB1
  go_loopw [8, 9] (fun o i wr => ∃ k j : Nat, Hid (j = f + 1 + k) ∧ k ≤ n - 1 ∧ i = .int .i64 j ∧ wr.ownsRow w1.heap.size 3 1 o k ((kinds d f k).map (Value.int .i64)) ∧ Below w1.heap.size w1 wr) (fun _ i _ => z - (intOf i).toNat)
  case atStart => exact ⟨0, j0, hid (by rw [hj0h.out]), by omega, rfl, World.ownsRow_nil _ _ _ _, Below.refl _ _⟩
  case round =>
    obtain ⟨k, j, hj, hk, rfl, hown, hBr⟩ := hrel
    have hownh := hid hown
    have hsz := hBr.size
    clear hown
    by_cases hlt : (j : Int) < z
    · have hjj := hj.out
      have hz2 := hzzh.out
      have hjl : j < (places d).length := by omega
      obtain ⟨i, rfl⟩ : ∃ i, j = i + 1 := ⟨f + k, by omega⟩
      have hik : f + k = i := by omega
      have hil : i < (places d).length := by omega
      obtain ⟨j, hji⟩ : ∃ j : Nat, j = i + 1 := ⟨_, rfl⟩
      rw [← hji] at hjl hlt hj hjj ⊢
      have hp1 := hp.below hBr hp.lt
      obtain ⟨a, b, s, hP⟩ : ∃ a b s, (places d)[i] = (a, b, s) := ⟨_, _, _, rfl⟩
      obtain ⟨a', b', s', hQ⟩ : ∃ a b s, (places d)[j] = (a, b, s) := ⟨_, _, _, rfl⟩
      have p0 := hp1.c0 i hil; have p1 := hp1.c1 i hil; have q0 := hp1.c0 j hjl; have q1 := hp1.c1 j hjl
      rw [hP] at p0 p1
      rw [hQ] at q0 q1
      dsimp only at p0 p1 q0 q1
      have hkind : Hid (kindAt d (f + k) = kindOf (a, b, s) (a', b', s')) := hid (by unfold kindAt; rw [hik, ← hji, ← plN_get hil, ← plN_get hjl, hP, hQ])
      have hw1 : IntKind.i64.wrap ((j : Int) - 1) = (i : Int) := by rw [i64w _ (by omega) (by omega)]; omega
      have hw2 : IntKind.i64.wrap ((j : Int) + 1) = ((j + 1 : Nat) : Int) := by rw [i64w _ (by omega) (by omega)]; omega
      have x1 : (j : Int) < (places d).length := by omega
      have x2 : (i : Int) < (places d).length := by omega
      have hkl := kinds_len d f k
      have hkst := hid (kinds_succ d f k)
      have hjh := hid hji
      have hk5 : k + 1 ≤ 5121 := by omega
      have hkn : Hid (k + 1 ≤ n - 1) := hid (by omega)
      have hjn : Hid (j + 1 = f + 1 + (k + 1)) := hid (by omega)
      clear hp1 hP hQ hjj hz2 hji hik hj
      by_cases g1 : a' = a
      · have t1 : (a' != a) = false := by simpa using g1
        by_cases g2 : b' = b
        · have t2 : (b' != b) = false := by simpa using g2
          have hkd : Hid (kindAt d (f + k) = 0) := hid (by rw [hkind.out]; unfold kindOf; rw [if_pos g1, if_pos g2])
          clear g1 g2
          go_wp2
          go_quiet (fail)
          go_wp2
          go_quiet (fail)
          generalize hwq : (wr.drewN _).drewN _ = wq
          have hBq : Below wr.heap.size wr wq := by rw [← hwq]; exact below_drewN (below_drewN (Below.refl _ _) _) _
          clear hwq
          have hsq := hBq.size
          go_wp2_with (at_builtin; refine wpList_append_own _ rfl _ _ 49 rfl w1.heap.size 3 i0 (.int .i64 0) 1 8 Try.underlying49 ie0 ie1 ie2 ie3 rfl (by decide) _ _ _ rfl ((owns_below hownh.out hBq (Nat.le_refl _)).alloc _) ⟨wq.heap.size, 0, none⟩ 1 1 [.int .i64 0] rfl rfl (World.news_of_block (cs := #[.int .i64 0]) (t := 3) (fr := (0, 0)) (heap_new _ _)) (by simp [Value.oneCell']) (by unfold maxLen; omega) (by omega) (by simp; omega) ?_; intro v' w2 hown' hgrow hnil)
          have hBb : Below w1.heap.size w1 w2 := ((hBr.trans (hBq.mono hsz)).alloc (by omega) _).grown hgrow (by simp; omega) (fun k e => ((owns_below hownh.out hBq (Nat.le_refl _)).lt k e).1)
          go_roundw
          case rel => exact ⟨k + 1, j + 1, hjn, hkn.out, by go_num, by rw [hkst.out, hkd.out, List.map_append]; exact hown', hBb⟩
          case measure => simp [intOf]; omega
        · have t2 : (b' != b) = true := by simpa using g2
          have hkd : Hid (kindAt d (f + k) = 1) := hid (by rw [hkind.out]; unfold kindOf; rw [if_pos g1, if_neg g2])
          clear g1 g2
          go_wp2
          go_quiet (fail)
          go_wp2
          go_quiet (fail)
          generalize hwq : (wr.drewN _).drewN _ = wq
          have hBq : Below wr.heap.size wr wq := by rw [← hwq]; exact below_drewN (below_drewN (Below.refl _ _) _) _
          clear hwq
          have hsq := hBq.size
          go_wp2_with (at_builtin; refine wpList_append_own _ rfl _ _ 49 rfl w1.heap.size 3 i0 (.int .i64 0) 1 8 Try.underlying49 ie0 ie1 ie2 ie3 rfl (by decide) _ _ _ rfl ((owns_below hownh.out hBq (Nat.le_refl _)).alloc _) ⟨wq.heap.size, 0, none⟩ 1 1 [.int .i64 1] rfl rfl (World.news_of_block (cs := #[.int .i64 1]) (t := 3) (fr := (0, 0)) (heap_new _ _)) (by simp [Value.oneCell']) (by unfold maxLen; omega) (by omega) (by simp; omega) ?_; intro v' w2 hown' hgrow hnil)
          have hBb : Below w1.heap.size w1 w2 := ((hBr.trans (hBq.mono hsz)).alloc (by omega) _).grown hgrow (by simp; omega) (fun k e => ((owns_below hownh.out hBq (Nat.le_refl _)).lt k e).1)
          go_roundw
          case rel => exact ⟨k + 1, j + 1, hjn, hkn.out, by go_num, by rw [hkst.out, hkd.out, List.map_append]; exact hown', hBb⟩
          case measure => simp [intOf]; omega
      · have t1 : (a' != a) = true := by simpa using g1
        have hkd : Hid (kindAt d (f + k) = 2) := hid (by rw [hkind.out]; unfold kindOf; rw [if_neg g1])
        clear g1
        go_wp2
        go_quiet (fail)
        generalize hwq : wr.drewN _ = wq
        have hBq : Below wr.heap.size wr wq := by rw [← hwq]; exact below_drewN (Below.refl _ _) _
        clear hwq
        have hsq := hBq.size
        go_wp2_with (at_builtin; refine wpList_append_own _ rfl _ _ 49 rfl w1.heap.size 3 i0 (.int .i64 0) 1 8 Try.underlying49 ie0 ie1 ie2 ie3 rfl (by decide) _ _ _ rfl ((owns_below hownh.out hBq (Nat.le_refl _)).alloc _) ⟨wq.heap.size, 0, none⟩ 1 1 [.int .i64 2] rfl rfl (World.news_of_block (cs := #[.int .i64 2]) (t := 3) (fr := (0, 0)) (heap_new _ _)) (by simp [Value.oneCell']) (by unfold maxLen; omega) (by omega) (by simp; omega) ?_; intro v' w2 hown' hgrow hnil)
        have hBb : Below w1.heap.size w1 w2 := ((hBr.trans (hBq.mono hsz)).alloc (by omega) _).grown hgrow (by simp; omega) (fun k e => ((owns_below hownh.out hBq (Nat.le_refl _)).lt k e).1)
        go_roundw
        case rel => exact ⟨k + 1, j + 1, hjn, hkn.out, by go_num, by rw [hkst.out, hkd.out, List.map_append]; exact hown', hBb⟩
        case measure => simp [intOf]; omega
    · go_wp2_with fail
      go_returns
      obtain rfl : k = n - 1 := by have := hj.out; have := hzzh.out; omega
      exact ⟨_, rfl, owns_base hownh.out (by omega), hbw.trans (hBr.mono (by omega))⟩
end Go.Proofs.Ythkbiplmfbcabaa
