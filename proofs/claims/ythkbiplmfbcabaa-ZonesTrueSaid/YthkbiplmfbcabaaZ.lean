/- Stage 1: Size, Place, Angle, Wait of package zones. -/
import Derived.Test.YthkbiplmfbcabaaY
import Derived.Test.YthkbiplmfbcabaaG
set_option linter.unusedSimpArgs false
set_option linter.unusedVariables false
namespace Go.Proofs.Ythkbiplmfbcabaa
open Go.RowKit Go.Sort

theorem place_at (c : Ck) (cok : c.Ok) {y h : Nat} (hy : (y : Int) < c.d.cyls) (hh : (h : Int) < c.d.hd) {n : Nat} (hn : (trk c y h).has n) :
    ∃ hl : n < (places c.d).length, (places c.d)[n] = ((y : Int), (h : Int), (n : Int) - firstOf c y h) := by
  obtain ⟨h1, h2⟩ := hn
  have h3 : firstOf c y h ≤ (n : Int) := h1
  have h4 : (n : Int) < firstOf c y h + secOf c.d.zs y := h2
  have hs := cok.ok.sec (c := (y : Int)) (by omega) hy
  have p1 : plH c.d y (h + 1) <+: plH c.d y c.d.hd.toNat := by
    obtain ⟨k, hk⟩ : ∃ k, c.d.hd.toNat = h + 1 + k := ⟨c.d.hd.toNat - (h + 1), by omega⟩
    rw [hk]
    clear hk
    induction k with
    | zero => exact List.prefix_refl _
    | succ k ih => exact ih.trans (by rw [show h + 1 + (k + 1) = (h + 1 + k) + 1 from rfl, plH_succ c.d y (h + 1 + k)]; exact List.prefix_append _ _)
  have p2 : plC c.d (y + 1) <+: places c.d := by
    unfold places
    obtain ⟨k, hk⟩ : ∃ k, c.d.cyls.toNat = y + 1 + k := ⟨c.d.cyls.toNat - (y + 1), by omega⟩
    rw [hk]
    clear hk
    induction k with
    | zero => exact List.prefix_refl _
    | succ k ih => exact ih.trans (by rw [show y + 1 + (k + 1) = (y + 1 + k) + 1 from rfl, plC_succ c.d (y + 1 + k)]; exact List.prefix_append _ _)
  rw [plC_succ] at p2
  have p3 := ((List.prefix_append_right_inj (plC c.d y)).2 p1).trans p2
  obtain ⟨s, hs2⟩ : ∃ s : Nat, (s : Int) = (n : Int) - firstOf c y h := ⟨((n : Int) - firstOf c y h).toNat, by omega⟩
  have hlen : (plC c.d y ++ plH c.d y (h + 1)).length = (plC c.d y ++ plH c.d y h).length + (secOf c.d.zs y).toNat := by
    rw [plH_succ]; simp only [List.length_append, plS_len]; omega
  have hf : firstOf c y h = ((plC c.d y ++ plH c.d y h).length : Nat) := rfl
  have hn1 : n < (plC c.d y ++ plH c.d y (h + 1)).length := by omega
  refine ⟨Nat.lt_of_lt_of_le hn1 p3.length_le, ?_⟩
  rw [← p3.getElem hn1, ← hs2]
  have e1 : plC c.d y ++ plH c.d y (h + 1) = (plC c.d y ++ plH c.d y h) ++ plS y h (secOf c.d.zs y).toNat := by rw [plH_succ, List.append_assoc]
  have e2 : (plC c.d y ++ plH c.d y (h + 1))[n]? = some ((y : Int), (h : Int), (s : Int)) := by
    rw [e1, List.getElem?_append_right (by omega)]
    have : n - (plC c.d y ++ plH c.d y h).length = s := by omega
    rw [this]
    simp only [plS, List.getElem?_map, List.getElem?_range (show s < (secOf c.d.zs y).toNat by omega), Option.map_some]
  rw [List.getElem?_eq_getElem hn1] at e2
  exact Option.some.inj e2

theorem has_sector {c : Ck} (cok : c.Ok) {t : Tk} (ht : t ∈ tracksOf c) {n : Int} (hn : t.has n) : 0 ≤ n ∧ n < c.d.count := by
  have h := tracks_ok cok ht
  obtain ⟨h1, h2⟩ := hn
  have h3 := h.fi0
  have h4 := h.en
  omega

/-- The track of a sector, from trackOf. -/
theorem c52y (d : Dk) (ok : d.Ok) (n : Nat) (w : World) (hz : Zs w d) (hn : n < (places d).length) :
    Calls Try.prog 52 #[d.ck.v, .int .i64 n] w fun e w' => ∃ t : Tk, TkOk d.ck t ∧ t.has n ∧ (places d)[n] = (t.cy, t.hd, (n : Int) - t.fi) ∧ begT d.ck t n = begAt d (places d)[n] ∧ t.ti = d.tu / secOf d.zs (places d)[n].1 ∧ e = .returned (.tuple #[t.v, .bool true]) ∧ Below w.heap.size w w' := by
  have hL := ok.lenPl
  have hB := ok.cntB
  unfold lenPlaces at hL
  refine (c52 d.ck ok.ck n w hz).mono ?_
  rintro e w' ⟨⟨t, htm, hth, rfl⟩ | ⟨hno, rfl⟩, hBw⟩
  · obtain ⟨y, h, hy, hh, rfl⟩ := mem_tracks htm
    obtain ⟨_, hp⟩ := place_at d.ck ok.ck hy hh hth
    refine ⟨_, tracks_ok ok.ck htm, hth, hp, ?_, ?_, rfl, hBw⟩
    · rw [show (places d)[n] = _ from hp]; rfl
    · rw [show (places d)[n] = _ from hp]; rfl
  · exact absurd (show 0 ≤ (n : Int) ∧ (n : Int) < d.ck.d.count from ⟨by omega, by show (n : Int) < d.count; omega⟩) hno
theorem c52n (d : Dk) (ok : d.Ok) (n : Int) (w : World) (hz : Zs w d) (hn : ¬ (0 ≤ n ∧ n < d.count)) :
    Calls Try.prog 52 #[d.ck.v, .int .i64 n] w fun e w' => e = .returned (.tuple #[.agg #[.int .i64 0, .int .i64 0, .int .i64 0, .int .i64 0, .int .i64 0, .int .i64 0, .int .i64 0], .bool false]) ∧ Below w.heap.size w w' := by
  refine (c52 d.ck ok.ck n w hz).mono ?_
  rintro e w' ⟨⟨t, htm, hth, rfl⟩ | ⟨_, rfl⟩, hBw⟩
  · exact absurd (has_sector ok.ck htm hth) hn
  · exact ⟨rfl, hBw⟩

set_option maxHeartbeats 1000000 in
theorem c18 (d : Dk) (w : World) (hz : Zs w d) (hm : d.zs.length ≤ 1000000) :
    Calls Try.prog 18 #[d.v] w fun e w' => e = .returned (.tuple #[.int .i64 (if d.err = 0 then d.count else 0), .int .i64 d.err]) ∧ Below w.heap.size w w' := by
  by_cases ok : d.Ok
  · have he := Dk.err_ok ok
    rw [if_pos he, he]
    clear he
    go_enter Try.func18, Try.ntmps18
    go_wp2_with (first | (go_at_call 46; refine (c46y d _ (by exact hz.below (by (repeat' (first | (with_reducible exact Below.refl _ _) | (with_reducible assumption) | (with_reducible refine Below.alloc ?_ ?_ _) | (with_reducible refine Below.drew ?_) | (with_reducible refine below_drewN ?_ _) | (with_reducible refine Below.setCell ?_ ?_ _) | (with_reducible refine Below.trans ?_ (Below.mono (by with_reducible assumption) ?_)) | go_size))) (Nat.le_refl _)) ok).mono ?_; rintro e w1 ⟨rfl, hB1⟩; obtain ⟨hc1, hf1⟩ := bcell (hB1.mono (show w.heap.size + 1 ≤ _ by first | omega | ((try simp only [World.size_alloc, World.size_drew, World.size_setCell]); omega))); have hz1 : w.heap.size < w1.heap.size := by (have := hB1.size; (try simp only [World.size_alloc, World.size_drew, World.size_setCell] at this); omega)) | (go_at_call 48; refine (c48 d.ck ok.ck _ (by exact hz.below (by (repeat' (first | (with_reducible exact Below.refl _ _) | (with_reducible assumption) | (with_reducible refine Below.alloc ?_ ?_ _) | (with_reducible refine Below.drew ?_) | (with_reducible refine below_drewN ?_ _) | (with_reducible refine Below.setCell ?_ ?_ _) | (with_reducible refine Below.trans ?_ (Below.mono (by with_reducible assumption) ?_)) | go_size))) (Nat.le_refl _))).mono ?_; rintro e w2 ⟨rfl, hB2⟩))
    go_returns
    exact ⟨rfl, by (repeat' (first | (with_reducible exact Below.refl _ _) | (with_reducible assumption) | (with_reducible refine Below.alloc ?_ ?_ _) | (with_reducible refine Below.drew ?_) | (with_reducible refine below_drewN ?_ _) | (with_reducible refine Below.setCell ?_ ?_ _) | (with_reducible refine Below.trans ?_ (Below.mono (by with_reducible assumption) ?_)) | go_size))⟩
  · have he := Dk.err_not ok
    rw [he, if_neg (by omega)]
    clear he
    go_enter Try.func18, Try.ntmps18
    go_wp2_with (go_at_call 46; refine (c46n d _ (by exact hz.below (by (repeat' (first | (with_reducible exact Below.refl _ _) | (with_reducible assumption) | (with_reducible refine Below.alloc ?_ ?_ _) | (with_reducible refine Below.drew ?_) | (with_reducible refine below_drewN ?_ _) | (with_reducible refine Below.setCell ?_ ?_ _) | (with_reducible refine Below.trans ?_ (Below.mono (by with_reducible assumption) ?_)) | go_size))) (Nat.le_refl _)) hm ok).mono ?_; rintro e w1 ⟨rfl, hB1⟩; obtain ⟨hc1, hf1⟩ := bcell (hB1.mono (show w.heap.size + 1 ≤ _ by first | omega | ((try simp only [World.size_alloc, World.size_drew, World.size_setCell]); omega))); have hz1 : w.heap.size < w1.heap.size := by (have := hB1.size; (try simp only [World.size_alloc, World.size_drew, World.size_setCell] at this); omega))
    go_returns
    exact ⟨rfl, by (repeat' (first | (with_reducible exact Below.refl _ _) | (with_reducible assumption) | (with_reducible refine Below.alloc ?_ ?_ _) | (with_reducible refine Below.drew ?_) | (with_reducible refine below_drewN ?_ _) | (with_reducible refine Below.setCell ?_ ?_ _) | (with_reducible refine Below.trans ?_ (Below.mono (by with_reducible assumption) ?_)) | go_size))⟩
end Go.Proofs.Ythkbiplmfbcabaa
