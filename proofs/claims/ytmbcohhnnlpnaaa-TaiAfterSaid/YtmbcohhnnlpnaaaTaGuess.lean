/-
  The contracts of tai.inRange and guess.
-/
import Derived.Test.YtmbcohhnnlpnaaaTaROf
import Derived.Test.YtmbcohhnnlpnaaaRdBig
namespace Go.Proofs.Ytmbcohhnnlpnaaa
open Go.RowKit

/-- the time that guess gives -/
def guessN (s : List UInt8) : Nat := ((numB (s.take 8) + 18446744073709551616 - epochN) % 18446744073709551616 * 1000 + numB (s.drop 8) / 1000000) % 18446744073709551616
def guessV (s : List UInt8) : Int := IntKind.i64.wrap (guessN s : Int)
theorem guess_tick (s : List UInt8) (hs : s.length = 12) (h1 : epochN ≤ numB (s.take 8)) (h2 : numB (s.take 8) ≤ epochN + 1099511627) : guessV s = (tickT s : Int) := by
  have hn := numB_lt (s.drop 8)
  rw [List.length_drop, hs] at hn
  unfold guessV guessN tickT
  generalize numB (s.take 8) = a at *
  generalize numB (s.drop 8) = b at *
  unfold epochN at *
  rw [show (a + 18446744073709551616 - 4611686018427387914) % 18446744073709551616 = a - 4611686018427387914 by omega]
  have hb : b / 1000000 ≤ 4294 := by omega
  generalize b / 1000000 = p at *
  obtain ⟨d, rfl⟩ : ∃ d, a = 4611686018427387914 + d := ⟨a - 4611686018427387914, by omega⟩
  rw [show 4611686018427387914 + d - 4611686018427387914 = d by omega, Nat.mod_eq_of_lt (by omega)]
  exact IntWalk.i64_in _ (by omega)
/-- a time is right exactly if its stamp is the stamp at hand -/
theorem tickL_guess (s : List UInt8) (hs : s.length = 12) (t : Nat) (ht : t ≤ 1099511627776) (hg : guessV s = (t : Int)) : tickL s = if stampN t = s then ((t : Int), 0) else (0, 5) := by
  by_cases h : stampN t = s
  · rw [if_pos h, ← h, tickL_stamp t ht]
  · rw [if_neg h]
    unfold tickL
    split
    · rfl
    · next hr =>
      have h3 := guess_tick s hs (by omega) (by omega)
      rw [hg] at h3
      have h4 : t = tickT s := by omega
      rw [if_pos (.inr (by rw [← h4]; exact h))]
theorem tickL_out (s : List UInt8) (hs : s.length = 12) (hg : guessV s < 0 ∨ 1099511627776 < guessV s) : tickL s = (0, 5) := by
  unfold tickL
  split
  · rfl
  · next hr =>
    have h3 := guess_tick s hs (by omega) (by omega)
    rw [if_pos (.inl (by omega))]
theorem guessV_in (s : List UInt8) : -9223372036854775808 ≤ guessV s ∧ guessV s ≤ 9223372036854775807 := by
  unfold guessV
  rw [IntKind.wrap_i64]
  omega

set_option maxRecDepth 100000 in
theorem inRange_yes (t : Int) (h0 : 0 ≤ t) (h1 : t ≤ 1099511627776) (w : World) :
    Calls Try.prog 15 #[.int .i64 t] w fun e w' => e = .returned (.bool true) ∧ Below w.heap.size w w' := by
  have c1 : decide (0 ≤ t) = true := by simpa using h0
  have c2 : decide (t ≤ 1099511627776) = true := by simpa using h1
  clear h0 h1
  go_enter Try.func15, Try.ntmps15
  go_wp2
  go_ret
  exact ⟨rfl, Below.refl _ _⟩
set_option maxRecDepth 100000 in
theorem inRange_no (t : Int) (h : t < 0 ∨ 1099511627776 < t) (w : World) :
    Calls Try.prog 15 #[.int .i64 t] w fun e w' => e = .returned (.bool false) ∧ Below w.heap.size w w' := by
  by_cases h0 : t < 0
  · have c1 : decide (0 ≤ t) = false := by simpa using h0
    clear h h0
    go_enter Try.func15, Try.ntmps15
    go_wp2
    go_ret
    exact ⟨rfl, Below.refl _ _⟩
  · have c1 : decide (0 ≤ t) = true := by simpa using h0
    have c2 : decide (t ≤ 1099511627776) = false := by simp; omega
    clear h h0
    go_enter Try.func15, Try.ntmps15
    go_wp2
    go_ret
    exact ⟨rfl, Below.refl _ _⟩

set_option maxRecDepth 100000 in
set_option maxHeartbeats 2000000 in
theorem guess_any (s : List UInt8) (hs : s.length = 12) (w : World) :
    Calls Try.prog 18 #[.agg (s.map u8v).toArray] w fun e w' => e = .returned (.int .i64 (guessV s)) ∧ Below w.heap.size w w' := by
  obtain ⟨cs, hcs⟩ : ∃ x, (s.map u8v).toArray = x := ⟨_, rfl⟩
  rw [hcs]
  have HM := Lib.hid (show Mem w [blkE w.heap.size 23 (s.map u8v)] (w.alloc (.cells cs 23)) from (Mem.nil w).alloc rfl 23 cs (s.map u8v) hcs.symm)
  have HL := Lib.hid hs
  obtain ⟨sec, hsec⟩ : ∃ x, numB (s.take 8) = x := ⟨_, rfl⟩
  obtain ⟨nn, hnn⟩ : ∃ x, numB (s.drop 8) = x := ⟨_, rfl⟩
  have hb8 : sec < 18446744073709551616 := by
    have h := numB_lt (s.take 8)
    rw [List.length_take, hs, hsec] at h
    exact h
  have hb4 : nn < 4294967296 := by
    have h := numB_lt (s.drop 8)
    rw [List.length_drop, hs, hnn] at h
    exact h
  have R8 := Lib.hid (fun (w' : World) (hr : Rd w' w'.heap.size (some ⟨w.heap.size, 0, none⟩) 8 (s.take 8)) => readBig_any w'.heap.size (some ⟨w.heap.size, 0, none⟩) 8 12 (s.take 8) (by omega) w' hr)
  have R4 := Lib.hid (fun (w' : World) (hr : Rd w' w'.heap.size (some ⟨w.heap.size, 8, none⟩) 4 (s.drop 8)) => readBig_any w'.heap.size (some ⟨w.heap.size, 8, none⟩) 4 4 (s.drop 8) (by omega) w' hr)
  rw [hsec, Nat.mod_eq_of_lt hb8] at R8
  rw [hnn, Nat.mod_eq_of_lt (show nn < 18446744073709551616 by omega)] at R4
  obtain ⟨d, hd⟩ : ∃ d, (sec + 18446744073709551616 - epochN) % 18446744073709551616 = d := ⟨_, rfl⟩
  obtain ⟨m, hm⟩ : ∃ m, d * 1000 % 18446744073709551616 = m := ⟨_, rfl⟩
  obtain ⟨p, hp⟩ : ∃ p, nn / 1000000 = p := ⟨_, rfl⟩
  obtain ⟨q, hq⟩ : ∃ q, (m + p) % 18446744073709551616 = q := ⟨_, rfl⟩
  have hg : guessN s = q := by
    rw [guessN, hsec, hnn, hd, hp, ← hq, ← hm]
    omega
  have HG := Lib.hid (show wrap64 (q : Int) = guessV s by rw [guessV, hg, IntKind.wrap_i64, wrap64])
  unfold epochN at hd
  have k1 : IntKind.u64.wrap ((sec : Int) - 4611686018427387914) = (d : Int) := by rw [IntKind.wrap_u64]; omega
  have k1' : ((sec : Int) - 4611686018427387914) % 18446744073709551616 = (d : Int) := by omega
  have k2 : IntKind.u64.wrap ((d : Int) * 1000) = (m : Int) := by rw [IntKind.wrap_u64]; omega
  have k2' : ((d : Int) * 1000) % 18446744073709551616 = (m : Int) := by omega
  have k3 : ((nn : Int)).tdiv 1000000 = (p : Int) := by rw [Int.tdiv_eq_ediv_of_nonneg (by omega)]; omega
  have k4 : (nn : Int) / 1000000 = (p : Int) := by omega
  have k5 : IntKind.u64.wrap (p : Int) = (p : Int) := by rw [IntKind.wrap_u64]; omega
  have k5' : (p : Int) % 18446744073709551616 = (p : Int) := by omega
  have k6 : IntKind.u64.wrap ((m : Int) + (p : Int)) = (q : Int) := by rw [IntKind.wrap_u64]; omega
  have k6' : ((m : Int) + (p : Int)) % 18446744073709551616 = (q : Int) := by omega
  clear hcs hs hd hm hp hq hg hsec hnn hb8 hb4
  go_enter Try.func18, Try.ntmps18
  go_upto_region 1 with fail
  generalize w.alloc (.cells cs 23) = w1 at HM ⊢
  go_wp2_with fail
  refine (R8.out _ (by have h := (blk_all (HM.out.blk 0 rfl) HL.out).take (m := 8) (by omega); exact h)).mono ?_
  rintro e wy ⟨rfl, rfl⟩
  go_wp2_with fail
  refine (R4.out _ (by have h := (blk_all (HM.out.blk 0 rfl) HL.out).drop 8 w.heap.size 0 rfl (by omega); rwa [Nat.zero_add] at h)).mono ?_
  rintro e wy ⟨rfl, rfl⟩
  go_wp2_with fail
  go_ret
  exact ⟨ret_int HG.out, HM.out.bel⟩
end Go.Proofs.Ytmbcohhnnlpnaaa
