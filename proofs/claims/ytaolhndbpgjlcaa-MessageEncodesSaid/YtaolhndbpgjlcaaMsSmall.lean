/-
  The contracts of message's small functions, and of Kind. No statement is proved here.
-/
import Derived.Test.YtaolhndbpgjlcaaMsC
import Derived.Test.YtaolhndbpgjlcaaLit
import Derived.Test.YtaolhndbpgjlcaaLittle
import Derived.Test.YtaolhndbpgjlcaaSlice3
import Derived.Test.YtaolhndbpgjlcaaEnt
import Derived.Deep.QuietTactic
import Derived.BigQuiet
import Derived.RegionTactic
import Derived.BigRegion
import Derived.Deep.RegionWith
import Derived.Deep.DeepCutAuto
import Derived.Outline
namespace Go.Proofs.Ytaolhndbpgjlcaa
open Go.RowKit

set_option maxRecDepth 100000 in
theorem pHeader_any (v : Nat) (hv : v < 4294967296) (w : World) :
    Calls Try.prog 24 #[.int .i64 (v : Int)] w fun e w' => ∃ A c, e = .returned (.slice A 4 c) ∧ Rd w' w'.heap.size A 4 (littleL v 4) ∧ Below w.heap.size w w' := by
  have HC := Lib.hid (little_any v (by omega) 4 (by omega) (by omega) w)
  have h1 : IntKind.u64.wrap (v : Int) = (v : Int) := by rw [IntKind.wrap_u64]; omega
  have h2 : (v : Int) % 18446744073709551616 = (v : Int) := by omega
  go_enter Try.func24, Try.ntmps24
  go_wp2_with fail
  refine HC.out.mono ?_
  rintro e w1 ⟨rfl, ho, hb⟩
  have HO := Lib.hid (And.intro (Rd.of_own ho) hb)
  clear ho hb
  go_wp2_with fail
  go_ret
  exact ⟨_, _, rfl, HO.out.1, HO.out.2⟩
set_option maxRecDepth 100000 in
theorem pIndex_any (v : Nat) (hv : v < 4294967296) (w : World) :
    Calls Try.prog 25 #[.int .u32 (v : Int)] w fun e w' => ∃ A c, e = .returned (.slice A 4 c) ∧ Rd w' w'.heap.size A 4 (littleL v 4) ∧ Below w.heap.size w w' := by
  have HC := Lib.hid (little_any v (by omega) 4 (by omega) (by omega) w)
  have h1 : IntKind.u64.wrap (v : Int) = (v : Int) := by rw [IntKind.wrap_u64]; omega
  have h2 : (v : Int) % 18446744073709551616 = (v : Int) := by omega
  go_enter Try.func25, Try.ntmps25
  go_wp2_with fail
  refine HC.out.mono ?_
  rintro e w1 ⟨rfl, ho, hb⟩
  have HO := Lib.hid (And.intro (Rd.of_own ho) hb)
  clear ho hb
  go_wp2_with fail
  go_ret
  exact ⟨_, _, rfl, HO.out.1, HO.out.2⟩
theorem four_lt {l : List UInt8} (h : l.length ≤ 4) : numL l < 4294967296 :=
  Nat.lt_of_lt_of_le (numL_lt l) (Nat.pow_le_pow_right (n := 256) (by omega) h)
set_option maxRecDepth 100000 in
theorem pReadIndex_any (A : Option Addr) (c : Nat) (l : List UInt8) (w : World) (hr : Rd w w.heap.size A 4 l) :
    Calls Try.prog 35 #[.slice A 4 c] w fun e w' => e = .returned (.int .u32 (numL l : Int)) ∧ w = w' := by
  have HC := Lib.hid (readLittle_any w.heap.size A 4 c l (by omega) w hr)
  have hlt : numL l < 4294967296 := four_lt (by rw [hr.1]; omega)
  have e8 : l.take 8 = l := List.take_of_length_le (by rw [hr.1]; omega)
  rw [e8] at HC
  generalize numL l = v at HC hlt
  have h1 : IntKind.u32.wrap (v : Int) = (v : Int) := by rw [IntKind.wrap_u32]; omega
  have h2 : (v : Int) % 4294967296 = (v : Int) := by omega
  clear hr e8
  go_enter Try.func35, Try.ntmps35
  go_wp2_with fail
  refine HC.out.mono ?_
  rintro e w1 ⟨rfl, rfl⟩
  go_wp2_with fail
  go_ret
  exact ⟨rfl, rfl⟩
/-- the sizes that a kind can have -/
def fitB (k n : Nat) : Bool := if k = 1 then decide (n = 148) else if k = 2 then decide (n = 92) else if k = 3 then decide (n = 64) else if k = 4 then decide (32 ≤ n ∧ n ≤ 2100) else false
set_option maxRecDepth 100000 in
set_option maxHeartbeats 4000000 in
theorem fits_any (k n : Nat) (w : World) :
    Calls Try.prog 38 #[.int .i64 (k : Int), .int .i64 (n : Int)] w fun e w' => e = .returned (.bool (fitB k n)) ∧ w = w' := by
  by_cases h1 : k = 1
  · subst h1
    obtain ⟨t, ht⟩ : ∃ t, decide (n = 148) = t := ⟨_, rfl⟩
    have e1 : ((n : Int) == 148) = t := by rw [← ht]; by_cases h : n = 148 <;> simp [h]; omega
    have hf : fitB 1 n = t := by rw [fitB, if_pos rfl, ht]
    clear ht
    go_enter Try.func38, Try.ntmps38
    go_wp2
    go_ret
    exact ⟨by rw [hf]; rfl, rfl⟩
  have d1 : ((k : Int) == 1) = false := by rw [beq_eq_false_iff_ne]; omega
  by_cases h2 : k = 2
  · subst h2
    obtain ⟨t, ht⟩ : ∃ t, decide (n = 92) = t := ⟨_, rfl⟩
    have e1 : ((n : Int) == 92) = t := by rw [← ht]; by_cases h : n = 92 <;> simp [h]; omega
    have hf : fitB 2 n = t := by rw [fitB, if_neg (by omega), if_pos rfl, ht]
    clear ht d1 h1
    go_enter Try.func38, Try.ntmps38
    go_wp2
    go_ret
    exact ⟨by rw [hf]; rfl, rfl⟩
  have d2 : ((k : Int) == 2) = false := by rw [beq_eq_false_iff_ne]; omega
  by_cases h3 : k = 3
  · subst h3
    obtain ⟨t, ht⟩ : ∃ t, decide (n = 64) = t := ⟨_, rfl⟩
    have e1 : ((n : Int) == 64) = t := by rw [← ht]; by_cases h : n = 64 <;> simp [h]; omega
    have hf : fitB 3 n = t := by rw [fitB, if_neg (by omega), if_neg (by omega), if_pos rfl, ht]
    clear ht d1 d2 h1 h2
    go_enter Try.func38, Try.ntmps38
    go_wp2
    go_ret
    exact ⟨by rw [hf]; rfl, rfl⟩
  have d3 : ((k : Int) == 3) = false := by rw [beq_eq_false_iff_ne]; omega
  by_cases h4 : k = 4
  · subst h4
    by_cases hn : 32 ≤ n
    · have en : decide ((32 : Int) ≤ (n : Int)) = true := by simp; omega
      by_cases hm : n ≤ 2100
      · have em : decide ((n : Int) ≤ 2100) = true := by simp; omega
        have hf : fitB 4 n = true := by rw [fitB, if_neg (by omega), if_neg (by omega), if_neg (by omega), if_pos rfl]; simp; omega
        go_enter Try.func38, Try.ntmps38
        go_wp2
        go_ret
        exact ⟨by rw [hf]; rfl, rfl⟩
      · have em : decide ((n : Int) ≤ 2100) = false := by simp; omega
        have hf : fitB 4 n = false := by rw [fitB, if_neg (by omega), if_neg (by omega), if_neg (by omega), if_pos rfl]; simp; omega
        go_enter Try.func38, Try.ntmps38
        go_wp2
        go_ret
        exact ⟨by rw [hf]; rfl, rfl⟩
    · have en : decide ((32 : Int) ≤ (n : Int)) = false := by simp; omega
      have hf : fitB 4 n = false := by rw [fitB, if_neg (by omega), if_neg (by omega), if_neg (by omega), if_pos rfl]; simp; omega
      go_enter Try.func38, Try.ntmps38
      go_wp2
      go_ret
      exact ⟨by rw [hf]; rfl, rfl⟩
  have d4 : ((k : Int) == 4) = false := by rw [beq_eq_false_iff_ne]; omega
  have hf : fitB k n = false := by rw [fitB, if_neg h1, if_neg h2, if_neg h3, if_neg h4]
  go_enter Try.func38, Try.ntmps38
  go_wp2
  go_ret
  exact ⟨by rw [hf]; rfl, rfl⟩
theorem kindB_fit {l : List UInt8} (h4 : 4 ≤ l.length) : kindB l = if fitB (numL (l.take 4)) l.length then numL (l.take 4) else 0 := by
  obtain ⟨a, b, c, d, r, rfl⟩ : ∃ a b c d r, l = a :: b :: c :: d :: r := by
    match l, h4 with
    | a :: b :: c :: d :: r, _ => exact ⟨a, b, c, d, r, rfl⟩
  have hv : numL ((a :: b :: c :: d :: r).take 4) = a.toNat + 256 * (b.toNat + 256 * (c.toNat + 256 * d.toNat)) := by simp [numL]
  generalize hn : (a :: b :: c :: d :: r).length = n at *
  have ha := a.toNat_lt
  have hz : ∀ x : UInt8, x ≠ 0 → x.toNat ≠ 0 := fun x hx h => hx (UInt8.toNat.inj (by simpa using h))
  by_cases h0 : b ≠ 0 ∨ c ≠ 0 ∨ d ≠ 0
  · have hk : kindB (a :: b :: c :: d :: r) = 0 := by
      rw [kindB, if_neg (by omega), if_pos]
      exact h0
    have hbig : 5 ≤ numL ((a :: b :: c :: d :: r).take 4) := by
      rw [hv]
      rcases h0 with h | h | h
      · have := hz _ h; omega
      · have := hz _ h; omega
      · have := hz _ h; omega
    have hfb : fitB (numL ((a :: b :: c :: d :: r).take 4)) n = false := by rw [fitB, if_neg (by omega), if_neg (by omega), if_neg (by omega), if_neg (by omega)]
    rw [hk, hfb]
    rfl
  · obtain ⟨rfl, rfl, rfl⟩ : b = 0 ∧ c = 0 ∧ d = 0 := by
      refine ⟨?_, ?_, ?_⟩ <;> (apply Classical.byContradiction; intro h; apply h0; simp [h])
    have hv2 : numL ((a :: 0 :: 0 :: 0 :: r).take 4) = a.toNat := by rw [hv]; simp
    rw [kindB_some (by omega) rfl rfl rfl, hv2, hn]
    show (if (a.toNat = 1 ∧ n = 148) ∨ (a.toNat = 2 ∧ n = 92) ∨ (a.toNat = 3 ∧ n = 64) ∨ (a.toNat = 4 ∧ 32 ≤ n ∧ n ≤ 2100) then a.toNat else 0) = _
    generalize a.toNat = x
    unfold fitB
    by_cases h1 : x = 1
    · subst h1; simp
    by_cases h2 : x = 2
    · subst h2; simp
    by_cases h3 : x = 3
    · subst h3; simp
    by_cases h4 : x = 4
    · subst h4; simp
    simp [h1, h2, h3, h4]
set_option maxRecDepth 100000 in
set_option maxHeartbeats 4000000 in
theorem msKindC : MsKindC 22 := by
  intro A n c l hnc _h2 hn6 w hr
  have hl : l.length = n := hr.1
  by_cases h4 : n < 4
  · have d4 : decide ((n : Int) < 4) = true := by simp; omega
    have hK : kindB l = 0 := by rw [kindB, if_pos (by omega)]
    clear hl hr
    go_enter Try.func22, Try.ntmps22
    go_wp2
    go_ret
    exact ⟨ret_int (by rw [hK]; rfl), Below.refl _ _⟩
  have d4 : decide ((n : Int) < 4) = false := by simp; omega
  obtain ⟨b, off, rfl, -, -⟩ := hr.at_ (by omega)
  have HC := Lib.hid (readLittle_any w.heap.size (some ⟨b, off, none⟩) 4 4 (l.take 4) (by omega) w (hr.take (by omega)))
  have hsl := slice_hm b off n c 4 4 (by omega) (by omega) w
  have hK := kindB_fit (l := l) (by omega)
  have hlt : numL (l.take 4) < 4294967296 := four_lt (by rw [List.length_take]; omega)
  rw [List.take_of_length_le (show (l.take 4).length ≤ 8 by rw [List.length_take]; omega)] at HC
  rw [hl] at hK
  generalize numL (l.take 4) = v at HC hlt hK
  have HF := Lib.hid (fits_any v n w)
  have h1 : IntKind.i64.wrap (v : Int) = (v : Int) := by rw [IntKind.wrap_i64]; omega
  have HK := Lib.hid hK
  clear hK hr hl
  rw [show ((4 : Nat) : Int) = 4 from rfl] at hsl
  obtain ⟨t, ht⟩ : ∃ t, fitB v n = t := ⟨_, rfl⟩
  rw [ht] at HF HK
  clear ht
  cases t with
  | false =>
    go_enter Try.func22, Try.ntmps22
    go_wp2_with fail
    refine HC.out.mono ?_
    rintro e w1 ⟨rfl, rfl⟩
    clear hsl
    go_wp2_with fail
    refine HF.out.mono ?_
    rintro e w1 ⟨rfl, rfl⟩
    go_wp2_with fail
    go_ret
    exact ⟨ret_int (by rw [HK.out, if_neg (by decide)]; rfl), Below.refl _ _⟩
  | true =>
    go_enter Try.func22, Try.ntmps22
    go_wp2_with fail
    refine HC.out.mono ?_
    rintro e w1 ⟨rfl, rfl⟩
    clear hsl
    go_wp2_with fail
    refine HF.out.mono ?_
    rintro e w1 ⟨rfl, rfl⟩
    go_wp2_with fail
    go_ret
    exact ⟨ret_int (by rw [HK.out]; simp), Below.refl _ _⟩
end Go.Proofs.Ytaolhndbpgjlcaa
