/- Stage 1: the reference's Copy. -/
import Derived.Test.YthkbiplmfbcabaaD
import Derived.Laws.AppendOwnNone
set_option linter.unusedSimpArgs false
set_option linter.unusedVariables false
namespace Go.Proofs.Ythkbiplmfbcabaa
open Go.RowKit

/-- An equal disk, whose zones lie elsewhere. -/
def CopyRet (d : Dk) (w : World) (e : Ending) (w' : World) : Prop :=
  ∃ (za : Option Addr) (zb zo zc : Nat), e = .returned ({ d with za := za, zb := zb, zo := zo, zc := zc } : Dk).v ∧ Zs w' { d with za := za, zb := zb, zo := zo, zc := zc } ∧ Below w.heap.size w w'

def zEnc (z : Int × Int) : List Value := [.int .i64 z.1, .int .i64 z.2]
theorem Try.info78 : (Try.prog.info? 78).map (fun i => (i.zero, i.size, i.bytes)) = some (some (.agg #[.int .i64 0, .int .i64 0]), 2, 16) := by kernel_rfl

theorem zEnc_len (zs : List (Int × Int)) : (zs.flatMap zEnc).length = zs.length * 2 := by
  induction zs with
  | nil => rfl
  | cons z r ih => rw [List.flatMap_cons, List.length_append, ih, List.length_cons, Nat.succ_mul]; simp [zEnc]; omega
theorem zEnc_cells {w : World} {d : Dk} (hz : Zs w d) : ∀ j u, (d.zs.flatMap zEnc)[j]? = some u → w.cell? ((⟨d.zb, d.zo, none⟩ : Addr).add j) = some u := by
  intro j u hj
  have hlt : j < d.zs.length * 2 := by
    have := (List.getElem?_eq_some_iff.1 hj).1
    rwa [zEnc_len] at this
  have hk : j / 2 < d.zs.length := by omega
  have ha : (⟨d.zb, d.zo, none⟩ : Addr).add j = ⟨d.zb, d.zo + j, none⟩ := by unfold Addr.add; split <;> simp_all
  rw [ha]
  have hm : j = j / 2 * 2 + j % 2 := by omega
  have h2 := flat_get zEnc 2 (fun _ => rfl) d.zs (j / 2) hk (j % 2) (by omega)
  rw [← hm, hj] at h2
  have c1 := hz.c1 (j / 2) hk
  have c2 := hz.c2 (j / 2) hk
  rcases (show j % 2 = 0 ∨ j % 2 = 1 by omega) with h | h
  · rw [h] at h2
    rw [show d.zo + j = d.zo + j / 2 * 2 by omega, c1, h2]; rfl
  · rw [h] at h2
    rw [show d.zo + j = d.zo + j / 2 * 2 + 1 by omega, c2, h2]; rfl
theorem zEnc_one (zs : List (Int × Int)) : ∀ u ∈ zs.flatMap zEnc, u.oneCell' = true := by
  intro u hu
  obtain ⟨z, _, h⟩ := List.mem_flatMap.1 hu
  simp only [zEnc, List.mem_cons, List.not_mem_nil, or_false] at h
  rcases h with rfl | rfl <;> rfl

theorem Zs.of_owns {w : World} {base g cap : Nat} {d : Dk} (h : w.ownsRow base 78 2 (.slice (some ⟨g, 0, none⟩) d.zs.length cap) d.zs.length (d.zs.flatMap zEnc)) :
    Zs w { d with za := some ⟨g, 0, none⟩, zb := g, zo := 0, zc := cap } := by
  have hlt := (h.lt g rfl).2
  refine ⟨fun _ _ => rfl, fun _ _ => hlt, ?_, ?_, fun e => by cases e⟩ <;> intro k hk <;> simp only [Nat.zero_add] <;> simp only at hk
  · rw [h.cellAt (k * 2) (by omega)]; exact (flat_get zEnc 2 (fun _ => rfl) d.zs k hk 0 (by omega))
  · rw [h.cellAt (k * 2 + 1) (by omega)]; exact (flat_get zEnc 2 (fun _ => rfl) d.zs k hk 1 (by omega))

theorem own_shape {w : World} {base e s n : Nat} {v : Value} {xs : List Value} (h : w.ownsRow base e s v n xs) (hn : ¬ v = .slice none 0 0) : ∃ g cap, v = .slice (some ⟨g, 0, none⟩) n cap := by
  obtain ⟨_, ⟨h1, _⟩ | ⟨g, cap, cur, h1, _⟩⟩ := h
  · exact absurd h1 hn
  · exact ⟨g, cap, h1⟩

theorem Zs.setCell {w : World} {d : Dk} (h : Zs w d) {a : Addr} (ha : a.block ≠ d.zb) (u : Value) : Zs (w.setCell a u) d := by
  have key : ∀ o, (w.setCell a u).cell? ⟨d.zb, o, none⟩ = w.cell? ⟨d.zb, o, none⟩ := fun o =>
    World.cell?_of_block (w := w) (Below.heap_setCell w a u d.zb (fun e => ha e.symm))
  exact ⟨h.ad, fun k hk => by rw [World.size_setCell]; exact h.lt k hk, fun k hk => (key _).trans (h.c1 k hk), fun k hk => (key _).trans (h.c2 k hk), h.nl⟩

theorem own_made (W : World) (b g : Nat) (hg : W.heap.size = g) (h : b ≤ g) : (W.alloc (.cells #[] 78)).ownsRow b 78 2 (.slice (some ⟨g, 0, none⟩) 0 0) 0 [] := by
  subst hg
  exact ⟨rfl, .inr ⟨W.heap.size, 0, #[], rfl, h, heap_new W _, Nat.le_refl _, by unfold maxLen; omega, rfl, rfl⟩⟩

set_option maxRecDepth 100000 in
set_option maxHeartbeats 1000000 in
theorem c15 (d : Dk) (w : World) (hz : Zs w d) (hm : d.zs.length ≤ 1000000) : Calls Try.prog 15 #[d.v] w (CopyRet d w) := by
  obtain ⟨i0, ie0, ie1, ie2, ie3⟩ := info_parts Try.info78
  cases hza : d.za with
  | none =>
    have hl : d.zs.length = 0 := by
      rcases Nat.eq_zero_or_pos d.zs.length with h | h
      · exact h
      · have := hz.ad 0 h; rw [hza] at this; cases this
    have hzs := List.length_eq_zero_iff.1 hl
    have hzc := hz.nl hza
    clear hz hm hl
    obtain ⟨hd, tu, za, zb, zo, zc, zs, hs, cs, hl, hh, cl, ch⟩ := d
    simp only at hza hzs hzc
    subst hza hzs hzc
    go_enter Try.func15, Try.ntmps15
    go_wp2_with (at_builtin; go_loud (refine wpList_append_own_none rfl _ _ 22 rfl (w.heap.size + 3) 78 i0 2 Try.underlying22 ie0 _ _ _ rfl (own_made _ _ _ ?gW ?gW2) rfl ?_))
    case gW => simp
    case gW2 => omega
    · go_wp2
      refine bodyPost_ret (v := .agg #[.int .i64 hd, .int .i64 tu, .slice (some ⟨w.heap.size + 3, 0, none⟩) 0 0, .int .i64 hs, .int .i64 cs, .int .i64 hl, .int .i64 hh, .int .i64 cl, .int .i64 ch]) (by simp [results, Try.results15, go_sem]) rfl ?_
      exact ⟨some ⟨w.heap.size + 3, 0, none⟩, 0, 0, 0, rfl, ⟨fun k hk => absurd hk (Nat.not_lt_zero _), fun k hk => absurd hk (Nat.not_lt_zero _), fun k hk => absurd hk (Nat.not_lt_zero _), fun k hk => absurd hk (Nat.not_lt_zero _), fun _ => rfl⟩, by (repeat' (first | (with_reducible exact Below.refl _ _) | (with_reducible assumption) | (with_reducible refine Below.alloc ?_ ?_ _) | (with_reducible refine Below.drew ?_) | (with_reducible refine below_drewN ?_ _) | (with_reducible refine Below.setCell ?_ ?_ _) | (with_reducible refine Below.trans ?_ (Below.mono (by with_reducible assumption) ?_)) | go_size))⟩
  | some ad =>
    have hzad : d.zs.length = 0 ∨ ad = ⟨d.zb, d.zo, none⟩ := by
      rcases Nat.eq_zero_or_pos d.zs.length with h | h
      · exact .inl h
      · have := hz.ad 0 h; rw [hza] at this; cases this; exact .inr rfl
    have hcells : ∀ j u, (d.zs.flatMap zEnc)[j]? = some u → w.cell? (ad.add j) = some u := by
      intro j u hj
      rcases hzad with h | rfl
      · rw [List.length_eq_zero_iff.1 h] at hj; simp at hj
      · exact zEnc_cells hz j u hj
    have hch := hid hcells
    have hzh := hid hzad
    clear hcells hzad
    go_enter Try.func15, Try.ntmps15
    go_wp2_with (at_builtin; go_loud (refine wpList_append_own _ rfl _ _ 22 rfl (w.heap.size + 3) 78 i0 (.agg #[.int .i64 0, .int .i64 0]) 2 16 Try.underlying22 ie0 ie1 ie2 ie3 rfl (by decide) _ _ _ rfl (own_made _ _ _ ?hW ?hW2) ad d.zs.length d.zc (d.zs.flatMap zEnc) rfl (zEnc_len _) ?hcc (zEnc_one _) ?hmm ?hbb ?hss ?hgo))
    case hW => simp
    case hW2 => omega
    case hmm => unfold maxLen; omega
    case hbb => omega
    case hss => simp
    case hcc =>
      intro j u hj
      have h1 := hch.out j u hj
      have hlt := World.block_lt_of_cell? w _ h1
      have hB : Below w.heap.size w ((((w.alloc (.cells #[.int .i64 d.hd, .int .i64 d.tu, .slice d.za d.zs.length d.zc, .int .i64 d.hs, .int .i64 d.cs, .int .i64 d.hl, .int .i64 d.hh, .int .i64 d.cl, .int .i64 d.ch] 26)).alloc (.cells #[.int .i64 0, .int .i64 0, .slice none 0 0, .int .i64 0, .int .i64 0, .int .i64 0, .int .i64 0, .int .i64 0, .int .i64 0] 26)).alloc (.cells #[.int .i64 d.hd, .int .i64 d.tu, .slice d.za d.zs.length d.zc, .int .i64 d.hs, .int .i64 d.cs, .int .i64 d.hl, .int .i64 d.hh, .int .i64 d.cl, .int .i64 d.ch] 26)).alloc (.cells #[] 78)) := by (repeat' (first | (with_reducible exact Below.refl _ _) | (with_reducible assumption) | (with_reducible refine Below.alloc ?_ ?_ _) | (with_reducible refine Below.drew ?_) | (with_reducible refine below_drewN ?_ _) | (with_reducible refine Below.setCell ?_ ?_ _) | (with_reducible refine Below.trans ?_ (Below.mono (by with_reducible assumption) ?_)) | go_size))
      rw [hza] at hB
      exact (hB.cell hlt).trans h1
    case hgo =>
      intro v' w1 hown hgrow hnil
      obtain ⟨g, cap, rfl⟩ := own_shape hown hnil
      obtain ⟨Wa, hWa⟩ : ∃ Wa : World, Wa = ((((w.alloc (.cells #[.int .i64 d.hd, .int .i64 d.tu, .slice d.za d.zs.length d.zc, .int .i64 d.hs, .int .i64 d.cs, .int .i64 d.hl, .int .i64 d.hh, .int .i64 d.cl, .int .i64 d.ch] 26)).alloc (.cells #[.int .i64 0, .int .i64 0, .slice none 0 0, .int .i64 0, .int .i64 0, .int .i64 0, .int .i64 0, .int .i64 0, .int .i64 0] 26)).alloc (.cells #[.int .i64 d.hd, .int .i64 d.tu, .slice d.za d.zs.length d.zc, .int .i64 d.hs, .int .i64 d.cs, .int .i64 d.hl, .int .i64 d.hh, .int .i64 d.cl, .int .i64 d.ch] 26)).alloc (.cells #[] 78)) := ⟨_, rfl⟩
      rw [hza] at hWa
      have hsW : Wa.heap.size = w.heap.size + 4 := by rw [hWa]; simp
      have hBa : Below w.heap.size w Wa := by rw [hWa]; (repeat' (first | (with_reducible exact Below.refl _ _) | (with_reducible assumption) | (with_reducible refine Below.alloc ?_ ?_ _) | (with_reducible refine Below.drew ?_) | (with_reducible refine below_drewN ?_ _) | (with_reducible refine Below.setCell ?_ ?_ _) | (with_reducible refine Below.trans ?_ (Below.mono (by with_reducible assumption) ?_)) | go_size))
      rw [← hWa] at hgrow
      have hB : Below (w.heap.size + 3) Wa w1 := (Below.refl _ Wa).grown hgrow (by omega) (fun k e => by cases e; simp)
      obtain ⟨hc, hf⟩ := bcell hB
      have hlt := (hown.lt g rfl).2
      have hge := (hown.lt g rfl).1
      have hz1 : w.heap.size + 3 < w1.heap.size := by have := hB.size; omega
      rw [hWa] at hc hf
      have hownh := hid hown
      clear hown hgrow hnil hWa hsW
      go_wp2
      refine bodyPost_ret (v := .agg #[.int .i64 d.hd, .int .i64 d.tu, .slice (some ⟨g, 0, none⟩) d.zs.length cap, .int .i64 d.hs, .int .i64 d.cs, .int .i64 d.hl, .int .i64 d.hh, .int .i64 d.cl, .int .i64 d.ch]) (by simp [results, Try.results15, go_sem, hc, hf, hz1]) rfl ?_
      have hZ := Zs.of_owns hownh.out
      refine ⟨some ⟨g, 0, none⟩, g, 0, cap, rfl, ?_, ?_⟩
      · repeat' (first | (with_reducible exact hZ) | (with_reducible refine Zs.setCell ?_ ?_ _) | (dsimp only; omega))
      · have hBb : Below w.heap.size w w1 := hBa.trans (hB.mono (by omega))
        (repeat' (first | (with_reducible exact Below.refl _ _) | (with_reducible assumption) | (with_reducible refine Below.alloc ?_ ?_ _) | (with_reducible refine Below.drew ?_) | (with_reducible refine below_drewN ?_ _) | (with_reducible refine Below.setCell ?_ ?_ _) | (with_reducible refine Below.trans ?_ (Below.mono (by with_reducible assumption) ?_)) | go_size))
end Go.Proofs.Ythkbiplmfbcabaa
