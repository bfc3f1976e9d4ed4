/- Stage 6: the lowest command that surely leads to a set (asked of steps). -/
import Derived.Test.YtajllhjoagldkaaMa
import Derived.Deep.LoopGhost
set_option linter.unusedSimpArgs false
set_option linter.unusedVariables false
namespace Go.Proofs.Ytajllhjoagldkaa
open Go.RowKit Go.Maps Go.WideMaps

/-- What is asked of the closure: in each later world it tells whether a small state is in g. -/
def Asks73 (x y : Nat) (g : Int → Int → Bool) (w : World) : Prop := ∀ w', Below w.heap.size w w' → ∀ P V, Sm P → Sm V → Calls Try.prog 73 #[.agg #[.int .i64 P, .int .i64 V], .pointer (some ⟨x, 0, none⟩), .pointer (some ⟨y, 0, none⟩)] w' (Bool1 (g P V) w')
theorem Asks73.below {x y : Nat} {g : Int → Int → Bool} {w w' : World} (h : Asks73 x y g w) (hb : Below w.heap.size w w') : Asks73 x y g w' := fun w2 h2 => h w2 (hb.trans (h2.mono hb.size))
set_option maxRecDepth 100000 in
set_option maxHeartbeats 4000000 in
theorem c74_73 (a : Ar) (x y : Nat) (g : Int → Int → Bool) (p v : Int) (w : World) (ok : a.Ok) (hp : 0 ≤ p ∧ p ≤ 40) (hv : -8 ≤ v ∧ v ≤ 8) (hW : Asks73 x y g w) :
    Calls Try.prog 74 #[a.v, .agg #[.int .i64 p, .int .i64 v], .func (.func 73) #[] #[.pointer (some ⟨x, 0, none⟩), .pointer (some ⟨y, 0, none⟩)]] w fun e w' => e = .returned (.tuple #[.int .i64 ((low a g p v).getD 0), .bool (low a g p v).isSome]) ∧ Below w.heap.size w w' := by
  have o1 := ok.f; have o2 := ok.h
  clear ok
  have hWh := hid hW
  clear hW
  go_enter Try.func74, Try.ntmps74
  go_wp2_with fail
  have hb0 : Abx a ((w.alloc (.cells #[.int .i64 (a.la : Nat), .int .i64 (a.sp : Nat), .int .i64 (a.fo : Nat), .int .i64 (a.sh : Nat), .int .i64 (a.ga : Nat), .int .i64 (a.sl : Nat)] 77)).alloc (.cells #[.int .i64 p, .int .i64 v] 25)) w.heap.size := (Abx.newk a w).below (B := w.heap.size + 1) ((Below.refl _ _).alloc (by simp) _) (by omega)
  have hd0 : ((w.alloc (.cells #[.int .i64 (a.la : Nat), .int .i64 (a.sp : Nat), .int .i64 (a.fo : Nat), .int .i64 (a.sh : Nat), .int .i64 (a.ga : Nat), .int .i64 (a.sl : Nat)] 77)).alloc (.cells #[.int .i64 p, .int .i64 v] 25)).cell? ⟨w.heap.size + 1, 0, none⟩ = some (.int .i64 p) ∧ ((w.alloc (.cells #[.int .i64 (a.la : Nat), .int .i64 (a.sp : Nat), .int .i64 (a.fo : Nat), .int .i64 (a.sh : Nat), .int .i64 (a.ga : Nat), .int .i64 (a.sl : Nat)] 77)).alloc (.cells #[.int .i64 p, .int .i64 v] 25)).cell? ⟨w.heap.size + 1, 1, none⟩ = some (.int .i64 v) := by simp
  have hB0 : Below w.heap.size w ((w.alloc (.cells #[.int .i64 (a.la : Nat), .int .i64 (a.sp : Nat), .int .i64 (a.fo : Nat), .int .i64 (a.sh : Nat), .int .i64 (a.ga : Nat), .int .i64 (a.sl : Nat)] 77)).alloc (.cells #[.int .i64 p, .int .i64 v] 25)) := by (repeat' (first | (with_reducible exact Below.refl _ _) | (with_reducible assumption) | (with_reducible refine Below.alloc ?_ ?_ _) | (with_reducible refine Below.drew ?_) | (with_reducible refine below_drewN ?_ _) | (with_reducible refine Below.setCell ?_ ?_ _) | (with_reducible refine Below.trans ?_ (Below.mono (by with_reducible assumption) ?_)) | go_size))
  have hs0 : w.heap.size + 2 ≤ ((w.alloc (.cells #[.int .i64 (a.la : Nat), .int .i64 (a.sp : Nat), .int .i64 (a.fo : Nat), .int .i64 (a.sh : Nat), .int .i64 (a.ga : Nat), .int .i64 (a.sl : Nat)] 77)).alloc (.cells #[.int .i64 p, .int .i64 v] 25)).heap.size := by simp
  generalize (w.alloc (.cells #[.int .i64 (a.la : Nat), .int .i64 (a.sp : Nat), .int .i64 (a.fo : Nat), .int .i64 (a.sh : Nat), .int .i64 (a.ga : Nat), .int .i64 (a.sl : Nat)] 77)).alloc (.cells #[.int .i64 p, .int .i64 v] 25) = w0 at hb0 hd0 hB0 hs0 ⊢
  go_step3
  obtain ⟨y0, y1, y2, y3, y4, y5⟩ := hb0.all
  go_wp2_with fail
  go_step3
  go_wp2_with fail
  clear y0 y1 y2 y3 y4 y5
  go_loopg [8] (2 * a.fo + 1) (fun gk s8 wr => ∃ c : Int, c + gk = (a.fo : Int) + 1 ∧ s8 = .int .i64 c ∧ Below w0.heap.size w0 wr ∧ Hid (-(a.fo : Int) ≤ c ∧ ∀ i, -(a.fo : Int) ≤ i → i < c → okc a g p v i = false))
  case atStart => exact ⟨-(a.fo : Int), by omega, by go_num, Below.refl _ _, hid ⟨Int.le_refl _, fun q h1 h2 => absurd h1 (by omega)⟩⟩
  case round =>
    obtain ⟨c, hk, rfl, hB, hall⟩ := hrel
    rename World => wo
    have hso := hB.size
    obtain ⟨y0, y1, y2, y3, y4, y5⟩ := (hb0.below hB (by omega)).all
    have hBw : Below w.heap.size w wo := hB0.trans (hB.mono (by omega))
    cases gk with
    | zero =>
      have hc : (a.fo : Int) < c := by omega
      have hln : low a g p v = none := low_no (by have h2 := hall.out.2; rw [show c = (a.fo : Int) + 1 by omega] at h2; exact h2)
      have hln := hid hln
      clear hk hall
      go_wp2_with fail
      try rw [Exit.noGoto_ret]
      go_ret2
      exact ⟨by rw [hln.out]; rfl, hBw⟩
    | succ g' =>
      have hlt : c ≤ (a.fo : Int) := by omega
      have hlo := hall.out.1
      have hkh := hid hk
      clear hk
      go_wp2_with fail
      clear y0 y1 y2 y3 y4 y5
      go_loopg [9] (2 * a.sh + 1) (fun g2 s9 wy => ∃ s : Int, s + g2 = (a.sh : Int) + 1 ∧ s9 = .int .i64 s ∧ Below w0.heap.size w0 wy ∧ Hid (-(a.sh : Int) ≤ s ∧ ∀ i, -(a.sh : Int) ≤ i → i < s → g (p + (v + (c + i))) (v + (c + i)) = true))
      case atStart => exact ⟨-(a.sh : Int), by omega, by go_num, hB, hid ⟨Int.le_refl _, fun q h1 h2 => absurd h1 (by omega)⟩⟩
      case round =>
        obtain ⟨s, hs, rfl, hB7, hin⟩ := hrel
        rename World => wy
        have hs7 := hB7.size
        obtain ⟨y0, y1, y2, y3, y4, y5⟩ := (hb0.below hB7 (by omega)).all
        have d0 : wy.cell? ⟨w.heap.size + 1, 0, none⟩ = some (.int .i64 p) := (hB7.cell (p := ⟨w.heap.size + 1, 0, none⟩) (by show w.heap.size + 1 < _; omega)).trans hd0.1
        have d1 : wy.cell? ⟨w.heap.size + 1, 1, none⟩ = some (.int .i64 v) := (hB7.cell (p := ⟨w.heap.size + 1, 1, none⟩) (by show w.heap.size + 1 < _; omega)).trans hd0.2
        have hBy : Below w.heap.size w wy := hB0.trans (hB7.mono (by omega))
        cases gk with
        | zero =>
          have hc : (a.sh : Int) < s := by omega
          have hln : low a g p v = some c := low_at ⟨hlo, hlt⟩ (okc_iff.2 fun i h1 h2 => hin.out.2 i h1 (by omega)) hall.out.2
          have hln := hid hln
          clear hs hin
          go_wp2_with fail
          try rw [Exit.noGoto_ret]
          go_ret2
          exact ⟨by rw [hln.out]; rfl, hBy⟩
        | succ g3 =>
          have hsl : s ≤ (a.sh : Int) := by omega
          have hslo := hin.out.1
          have hsh := hid hs
          clear hs
          have hWy := hWh.out.below hBy
          cases hg : g (p + (v + (c + s))) (v + (c + s)) with
          | true =>
            have hgh := hid hg
            clear hg
            go_wp2_with (first | (go_at_call 51; refine (c51 p v (c + s) _ ⟨by omega, by omega⟩ ⟨by omega, by omega⟩ ⟨by omega, by omega⟩).mono ?_; rintro e w5 ⟨rfl, hB5⟩; have hB75 := hB7.trans (hB5.mono hs7); have hs5 := hB5.size) | (go_at_call 73; refine (hWy.below hB5 _ (Below.refl _ _) (p + (v + (c + s))) (v + (c + s)) ⟨by omega, by omega⟩ ⟨by omega, by omega⟩).mono ?_; rw [hgh.out]; rintro e w6 ⟨rfl, hB6⟩; have hs6 := hB6.size; obtain ⟨y0, y1, y2, y3, y4, y5⟩ := (hb0.below (hB75.trans (hB6.mono (by omega))) (by omega)).all))
            go_roundg g3
            case measure => omega
            case rel => exact ⟨s + 1, by have := hsh.out; omega, by go_num, hB75.trans (hB6.mono (by omega)), hid ⟨by omega, fun i h1 h2 => by
              by_cases e : i = s
              · subst e; exact hgh.out
              · exact hin.out.2 i h1 (by omega)⟩⟩
          | false =>
            have hgh := hid hg
            have hof : okc a g p v c = false := by
              cases ho : okc a g p v c with
              | false => rfl
              | true => rw [okc_iff] at ho; have := ho s hslo hsl; rw [hg] at this; cases this
            have hofh := hid hof
            clear hg hof
            go_wp2_with (first | (go_at_call 51; refine (c51 p v (c + s) _ ⟨by omega, by omega⟩ ⟨by omega, by omega⟩ ⟨by omega, by omega⟩).mono ?_; rintro e w5 ⟨rfl, hB5⟩; have hB75 := hB7.trans (hB5.mono hs7); have hs5 := hB5.size) | (go_at_call 73; refine (hWy.below hB5 _ (Below.refl _ _) (p + (v + (c + s))) (v + (c + s)) ⟨by omega, by omega⟩ ⟨by omega, by omega⟩).mono ?_; rw [hgh.out]; rintro e w6 ⟨rfl, hB6⟩; have hs6 := hB6.size; obtain ⟨y0, y1, y2, y3, y4, y5⟩ := (hb0.below (hB75.trans (hB6.mono (by omega))) (by omega)).all))
            go_roundg g'
            case measure => omega
            case rel => exact ⟨c + 1, by have := hkh.out; omega, by go_num, hB75.trans (hB6.mono (by omega)), hid ⟨by omega, fun i h1 h2 => by
              by_cases e : i = c
              · subst e; exact hofh.out
              · exact hall.out.2 i h1 (by omega)⟩⟩
end Go.Proofs.Ytajllhjoagldkaa
