/- Stage 4: whether a code is valid. -/
import Derived.Test.YtljioabolacbeaaF
import Derived.Deep.RegionHeld3
set_option linter.unusedSimpArgs false
set_option linter.unusedVariables false
namespace Go.Proofs.Ytljioabolacbeaa
open Go.RowKit

theorem Cd.Ok.fw {q : Cd} (ok : q.Ok) : fill (2 ^ q.B) (2 ^ q.O) q.wn q.W := fun k hk => ⟨ok.wl k hk, ok.wv k hk⟩
theorem Cd.Ok.fn {q : Cd} (ok : q.Ok) : fill (2 ^ q.B) q.wn q.nn q.N := fun k hk => by rw [ok.nn] at hk; exact ⟨ok.nl k hk, ok.nv k hk⟩
theorem cell_new (w : World) (m : Int) : (w.alloc (.cells #[.int .i64 m] 3)).cell? ⟨w.heap.size, 0, none⟩ = some (.int .i64 m) := by simp
theorem wpow {B : Nat} (h : B ≤ 5) : wrap64 ((2 : Int) ^ B) = ((2 ^ B : Nat) : Int) := by
  have h1 : ((2 ^ B : Nat) : Int) = (2 : Int) ^ B := by push_cast; rfl
  have h2 : 2 ^ B ≤ 32 := Nat.pow_le_pow_right (n := 2) (by omega) h
  rw [← h1]
  clear h1
  generalize 2 ^ B = d at h2 ⊢
  exact wrap64_in' _ (by omega)
theorem pow_b {B : Nat} (h : B ≤ 2) : 2 ^ B ≤ 4 := Nat.pow_le_pow_right (n := 2) (by omega) h
theorem pow_o {O : Nat} (h : O ≤ 5) : 2 ^ O ≤ 32 := Nat.pow_le_pow_right (n := 2) (by omega) h
set_option maxRecDepth 100000 in
set_option maxHeartbeats 4000000 in
theorem c61y (q : Cd) (w : World) (hz : q.In w) (ok : q.Ok) : Calls Try.prog 61 #[q.v] w fun e w' => e = .returned (.bool true) ∧ Below w.heap.size w w' := by
  have b1 := ok.b1; have b2 := ok.b2; have o1 := ok.o1; have o2 := ok.o2; have m1 := ok.m1; have m2 := ok.m2; have l1 := ok.l1; have l2 := ok.l2; have s1 := ok.s1; have s2 := ok.s2
  have hnn := hid ok.nn
  have hnb : ((q.nn : Int) == (q.wn : Int)) = true := by rw [hnn.out]; simp
  have pb := pow_b b2; have po := pow_o o2
  obtain ⟨dB, hdB⟩ : ∃ d : Nat, d = 2 ^ q.B := ⟨_, rfl⟩
  obtain ⟨dO, hdO⟩ : ∃ d : Nat, d = 2 ^ q.O := ⟨_, rfl⟩
  have eB : wrap64 ((2 : Int) ^ q.B) = (dB : Int) := by rw [hdB]; exact wpow (by omega)
  have eO : wrap64 ((2 : Int) ^ q.O) = (dO : Int) := by rw [hdO]; exact wpow o2
  rw [← hdB] at pb
  rw [← hdO] at po
  have fw := ok.fw
  have fn := ok.fn
  rw [← hdB] at fw fn
  rw [← hdO] at fw
  have fwh := hid fw; have fnh := hid fn
  have wnl : Hid (∀ k, k < q.wn → (q.W k).n ≤ 1000000) := hid fun k hk => by rw [(fw k hk).1]; omega
  have nnl : Hid (∀ k, k < q.nn → (q.N k).n ≤ 1000000) := hid fun k hk => by rw [(fn k hk).1]; omega
  clear hdB hdO fw fn
  have okh := hid ok
  have hzh := hid hz
  clear ok hz
  go_enter Try.func61, Try.ntmps61
  go_wp2_with (go_at_call 52; refine (c52y _ (by omega)).mono ?_; rintro e w' ⟨rfl, rfl⟩)
  go_quiet (fail)
  go_wp2_with fail
  obtain ⟨W0, hW0⟩ : ∃ W0 : World, W0 = (w.alloc (.cells #[.int .i64 (q.B : Nat), .int .i64 (q.O : Nat), .int .i64 q.L, .int .i64 q.M, .slice q.wa q.wn q.wc, .slice q.na q.nn q.nc] 24)).drewN nq := ⟨_, rfl⟩
  have hB0 : Below w.heap.size w W0 := by rw [hW0]; (repeat' (first | (with_reducible exact Below.refl _ _) | (with_reducible assumption) | (with_reducible refine Below.alloc ?_ ?_ _) | (with_reducible refine Below.drew ?_) | (with_reducible refine below_drewN ?_ _) | (with_reducible refine Below.setCell ?_ ?_ _) | (with_reducible refine Below.trans ?_ (Below.mono (by with_reducible assumption) ?_)) | go_size))
  have hbx : W0.cell? ⟨w.heap.size, 0, none⟩ = some (.int .i64 (q.B : Nat)) ∧ W0.cell? ⟨w.heap.size, 1, none⟩ = some (.int .i64 (q.O : Nat)) ∧ W0.cell? ⟨w.heap.size, 2, none⟩ = some (.int .i64 q.L) ∧ W0.cell? ⟨w.heap.size, 3, none⟩ = some (.int .i64 q.M) ∧ W0.cell? ⟨w.heap.size, 4, none⟩ = some (.slice q.wa q.wn q.wc) ∧ W0.cell? ⟨w.heap.size, 5, none⟩ = some (.slice q.na q.nn q.nc) := by rw [hW0]; simp
  have hs0 : w.heap.size < W0.heap.size := by rw [hW0]; simp
  rw [← hW0]
  clear hW0
  go_region_held3 (fun w' => w'.cell? ⟨w.heap.size, 0, none⟩ = some (.int .i64 (q.B : Nat)) ∧ w'.cell? ⟨w.heap.size, 1, none⟩ = some (.int .i64 (q.O : Nat)) ∧ w'.cell? ⟨w.heap.size, 2, none⟩ = some (.int .i64 q.L) ∧ w'.cell? ⟨w.heap.size, 3, none⟩ = some (.int .i64 q.M) ∧ w'.cell? ⟨w.heap.size, 4, none⟩ = some (.slice q.wa q.wn q.wc) ∧ w'.cell? ⟨w.heap.size, 5, none⟩ = some (.slice q.na q.nn q.nc)) (first | exact hbx | exact hk2.all | exact hk3.all | exact hk4.all | exact hk5.all) (first | (go_at_call 52; refine (c52y _ (by omega)).mono ?_; rintro e w' ⟨rfl, rfl⟩) | (go_at_call 64; refine (c64 (dO : Nat) W0.drew).mono ?_; rintro e w2 ⟨rfl, hw2⟩; have hB02 : Below W0.heap.size W0 w2 := (by rw [hw2]; exact (Below.refl _ _).drew.alloc (Nat.le_refl _) _); have hk2 : Cbx q w2 w.heap.size := Cbx.below (w := W0) hbx hB02 hs0; have hB2 : Below w.heap.size w w2 := hB0.trans (hB02.mono hB0.size); have hm2 : w2.cell? ⟨W0.drew.heap.size, 0, none⟩ = some (.int .i64 (dO : Nat)) := (by rw [hw2]; exact cell_new _ _); have hs2 : W0.drew.heap.size < w2.heap.size := (by rw [hw2]; exact World.size_alloc _ _ ▸ Nat.lt_succ_self _); clear hw2) | (go_at_call 73; refine (c73 q.wa q.wb q.wo q.wn q.wc dB dO W0.drew.heap.size q.W w2 (hzh.out.ws.below hB2 (Nat.le_refl _)) (by omega) wnl.out hm2 (by omega) hs2).mono ?_; intro e w3 hr; obtain ⟨rfl, hB23⟩ := hr.un.1 fwh.out; have hk3 : Cbx q w3 w.heap.size := hk2.below hB23 (Nat.lt_trans hs0 hs2); have hB3 : Below w.heap.size w w3 := hB2.trans (hB23.mono hB2.size); clear hr) | (go_at_call 64; refine (c64 (q.wn : Nat) w3).mono ?_; rintro e w4 ⟨rfl, hw4⟩; have hB34 : Below w3.heap.size w3 w4 := (by rw [hw4]; exact (Below.refl _ _).alloc (Nat.le_refl _) _); have hk4 : Cbx q w4 w.heap.size := hk3.below hB34 (Nat.lt_of_lt_of_le (Nat.lt_trans hs0 hs2) hB23.size); have hB4 : Below w.heap.size w w4 := hB3.trans (hB34.mono hB3.size); have hm4 : w4.cell? ⟨w3.heap.size, 0, none⟩ = some (.int .i64 (q.wn : Nat)) := (by rw [hw4]; exact cell_new _ _); have hs4 : w3.heap.size < w4.heap.size := (by rw [hw4]; exact World.size_alloc _ _ ▸ Nat.lt_succ_self _); clear hw4) | (go_at_call 73; refine (c73 q.na q.nb q.no q.nn q.nc dB q.wn w3.heap.size q.N w4 (hzh.out.ns.below hB4 (Nat.le_refl _)) (by rw [hnn.out]; omega) nnl.out hm4 (by omega) hs4).mono ?_; intro e w5 hr; obtain ⟨rfl, hB45⟩ := hr.un.1 fnh.out; have hk5 : Cbx q w5 w.heap.size := hk4.below hB45 (Nat.lt_of_lt_of_le (Nat.lt_trans hs0 hs2) (Nat.le_trans hB23.size (Nat.le_of_lt hs4))); have hB5 : Below w.heap.size w w5 := hB4.trans (hB45.mono hB4.size); clear hr))
  go_wp2
  go_returns
  exact ⟨rfl, hB5⟩
end Go.Proofs.Ytljioabolacbeaa
