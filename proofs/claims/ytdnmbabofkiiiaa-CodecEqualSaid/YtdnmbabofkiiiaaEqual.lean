/-
  The contracts of codec.Equal (the same length and the same bytes) and codec.Join (the parts one after the other).
-/
import Derived.Test.YtdnmbabofkiiiaaMem
import Derived.Laws.BitsAllLaws
import Derived.RegionTactic
import Derived.BigQuiet
import Derived.Deep.QuietTactic
import Derived.Maps.AppendAt
import Derived.Outline
namespace Go.Proofs.Ytdnmbabofkiiiaa
open Go.RowKit

theorem or_zero (a b : Nat) : a ||| b = 0 ↔ a = 0 ∧ b = 0 := Nat.or_eq_zero_iff
theorem xor_zero (a b : Nat) : a ^^^ b = 0 ↔ a = b := by
  constructor
  · intro h
    apply Nat.eq_of_testBit_eq
    intro i
    have := congrArg (fun x => x.testBit i) h
    simp only [Nat.testBit_xor, Nat.zero_testBit] at this
    simpa using this
  · rintro rfl
    simp
/-- one round of Equal -/
theorem equal_step (d : Nat) (a b : UInt8) (hd : d < 256) : ∃ d' : Nat, d' < 256 ∧ bits BinOp.or IntKind.u8 (d : Int) (bits BinOp.xor IntKind.u8 (a.toNat : Int) (b.toNat : Int)) = (d' : Int) ∧ (d' = 0 ↔ d = 0 ∧ a = b) := by
  have h1 := a.toNat_lt
  have h2 := b.toNat_lt
  have hx : a.toNat ^^^ b.toNat < 2 ^ 8 := Nat.xor_lt_two_pow h1 h2
  refine ⟨d ||| (a.toNat ^^^ b.toNat), Nat.or_lt_two_pow hd hx, ?_, ?_⟩
  · rw [u8_xor_nat _ _ (by omega) (by omega), u8_or_nat _ _ (by omega) (by omega)]
  · rw [or_zero, xor_zero, UInt8.toNat_inj]
theorem take_eq_step (la lb : List UInt8) (j : Nat) (ha : j < la.length) (hb : j < lb.length) : la.take (j + 1) = lb.take (j + 1) ↔ la.take j = lb.take j ∧ la[j] = lb[j] := by
  rw [List.take_succ_eq_append_getElem ha, List.take_succ_eq_append_getElem hb]
  constructor
  · intro h
    have h2 := List.append_inj h (by simp; omega)
    exact ⟨h2.1, by simpa using h2.2⟩
  · rintro ⟨h1, h2⟩
    rw [h1, h2]

theorem equal_any (B n n' c c' : Nat) (A A' : Option Addr) (la lb : List UInt8) (hn : n ≤ 1000000) (hn' : n' ≤ 1000000) (w : World) (hB : B ≤ w.heap.size) (ha : Rd w B A n la) (hb : Rd w B A' n' lb) :
    Calls Try.prog 28 #[.slice A n c, .slice A' n' c'] w fun e w' => e = .returned (.bool (la == lb)) ∧ Below w.heap.size w w' := by
  have hla : la.length = n := ha.1
  have hlb : lb.length = n' := hb.1
  have HA := Lib.hid ha
  have HB := Lib.hid hb
  have HLA := Lib.hid hla
  have HLB := Lib.hid hlb
  clear ha hb hla hlb
  by_cases hne : n = n'
  · subst hne
    go_enter Try.func28, Try.ntmps28
    go_wp2
    go_loopw [5, 14, 6] (fun d i _ wr => ∃ j dn : Nat, j ≤ n ∧ i = .int .i64 j ∧ dn < 256 ∧ d = .int .u8 dn ∧ (dn = 0 ↔ la.take j = lb.take j) ∧ Below w.heap.size w wr) (fun _ i _ _ => n - (intOf i).toNat)
    case atStart => exact ⟨0, 0, by omega, rfl, by omega, rfl, by simp, Below.refl _ _⟩
    case round =>
      obtain ⟨j, dn, hj, rfl, hd, rfl, hiff, hbl⟩ := hrel
      by_cases hlt : j < n
      · obtain ⟨b1, o1, rfl, hb1, hc1⟩ := HA.out.at_ (by omega)
        obtain ⟨b2, o2, rfl, hb2, hc2⟩ := HB.out.at_ (by omega)
        have hja : j < la.length := by have := HLA.out; omega
        have hjb : j < lb.length := by have := HLB.out; omega
        have q1 := (hbl.cell (p := ⟨b1, o1 + j, none⟩) (Nat.lt_of_lt_of_le hb1 hB)).trans (hc1 j hja)
        have q2 := (hbl.cell (p := ⟨b2, o2 + j, none⟩) (Nat.lt_of_lt_of_le hb2 hB)).trans (hc2 j hjb)
        clear hc1 hc2
        obtain ⟨d', hd', hbits, hz⟩ := equal_step dn la[j] lb[j] hd
        have HI := Lib.hid hiff
        have HZ := Lib.hid hz
        clear hiff hz
        go_wp2
        go_quiet (fail)
        go_wp2
        go_roundw
        case rel => exact ⟨j + 1, d', by omega, by go_num, hd', rfl, by rw [take_eq_step _ _ _ hja hjb, HZ.out, HI.out], below_drewN hbl _⟩
        case measure => simp [intOf]; omega
      · obtain rfl : j = n := by omega
        rw [List.take_of_length_le (by have := HLA.out; omega), List.take_of_length_le (by have := HLB.out; omega)] at hiff
        have hfin : ((dn : Int) == 0) = (la == lb) := by
          rw [Bool.eq_iff_iff, beq_iff_eq, beq_iff_eq, ← hiff]
          omega
        have HF := Lib.hid hfin
        clear hfin hiff
        go_wp2
        go_ret
        exact ⟨by rw [← HF.out]; rfl, hbl⟩
  · have hfin : (la == lb) = false := by
      rw [beq_eq_false_iff_ne]
      intro h
      have := HLA.out
      have := HLB.out
      rw [h] at *
      omega
    rw [hfin]
    have hne' : ((n : Int) == (n' : Int)) = false := by
      rw [beq_eq_false_iff_ne]; omega
    clear hfin
    go_enter Try.func28, Try.ntmps28
    go_wp2
    go_ret
    exact ⟨rfl, Below.refl _ _⟩

/-- one part of a join: a slice and what it reads as -/
structure Part where
  A : Option Addr
  n : Nat
  c : Nat
  l : List UInt8
def flat (ps : List Part) (j : Nat) : List UInt8 := ((ps.take j).map Part.l).flatten
theorem flat_succ (ps : List Part) (j : Nat) (h : j < ps.length) : flat ps (j + 1) = flat ps j ++ ps[j].l := by
  unfold flat
  rw [List.take_succ_eq_append_getElem h, List.map_append, List.flatten_append]
  simp only [List.map_cons, List.map_nil, List.flatten_cons, List.flatten_nil, List.append_nil]
theorem flat_le (ps : List Part) (j : Nat) : (flat ps j).length ≤ (flat ps ps.length).length := by
  unfold flat
  rw [List.take_of_length_le (Nat.le_refl _), ← List.take_append_drop j (ps.map Part.l), List.flatten_append, List.length_append, ← List.map_take]
  omega
/-- the slice of slices reads as the parts -/
def PartsRd (w : World) (B : Nat) (A : Option Addr) (ps : List Part) : Prop :=
  0 < ps.length → ∃ g, A = some ⟨g, 0, none⟩ ∧ g < B ∧ ∀ j (h : j < ps.length), w.cell? ⟨g, j, none⟩ = some (.slice ps[j].A ps[j].n ps[j].c) ∧ Rd w B ps[j].A ps[j].n ps[j].l

set_option maxHeartbeats 400000 in
theorem join_any (B c : Nat) (A : Option Addr) (ps : List Part) (hm : ps.length ≤ 1000000) (ht : (flat ps ps.length).length ≤ 1000000) (w : World) (hB : B ≤ w.heap.size) (hp : PartsRd w B A ps) :
    Calls Try.prog 29 #[.slice A ps.length c] w fun e w' => ∃ A' c', e = .returned (.slice A' (flat ps ps.length).length c') ∧ w'.ownsRow w.heap.size 5 1 (.slice A' (flat ps ps.length).length c') (flat ps ps.length).length ((flat ps ps.length).map u8v) ∧ Below w.heap.size w w' := by
  obtain ⟨i0, hi, hz0, hz1, hz2⟩ := info_parts Try.info5
  have HP := Lib.hid hp
  clear hp
  obtain ⟨n, hn⟩ : ∃ n, ps.length = n := ⟨_, rfl⟩
  have HN := Lib.hid hn
  have hfl := flat_le ps
  rw [hn] at hm ht hfl ⊢
  have HFL := Lib.hid hfl
  clear hn hfl
  go_enter Try.func29, Try.ntmps29
  go_wp2
  go_loop [3, 11, 5] (fun s i _ => ∃ j : Nat, j ≤ n ∧ i = .int .i64 j ∧ s = .int .i64 (flat ps j).length) (fun _ i _ => n - (intOf i).toNat)
  case atStart => exact ⟨0, by omega, rfl, rfl⟩
  case round =>
    obtain ⟨j, hj, rfl, rfl⟩ := hrel
    by_cases hlt : j < n
    · have hjp : j < ps.length := by have := HN.out; omega
      obtain ⟨g, rfl, _, hc⟩ := HP.out (by omega)
      obtain ⟨hc1, hr⟩ := hc j hjp
      have hl : ps[j].n = ps[j].l.length := hr.1.symm
      have HL := Lib.hid hl
      have b1 := HFL.out j
      have b2 := HFL.out (j + 1)
      have e2 := congrArg List.length (flat_succ ps j hjp)
      rw [List.length_append] at e2
      have b3 : (flat ps j).length + ps[j].n ≤ 1000000 := by omega
      have HE := Lib.hid e2
      clear hc hr hl e2 b2
      go_wp2
      go_round
      case rel => exact ⟨j + 1, by omega, by go_num, by rw [HE.out, HL.out]; go_num⟩
      case measure => simp [intOf]; omega
    · obtain rfl : j = n := by omega
      go_wp2_with (refine wpList_make_own _ rfl (.const (.int .i64 0)) (.tmp 20) 23 rfl w.heap.size 5 i0 (.int .u8 0) 1 Try.underlying23 hi hz0 hz1 .i64 .i64 (flat ps j).length (flat ps j).length rfl rfl rfl (by rw [hz2]; omega) (by unfold maxLen; omega) (Nat.le_refl _) ?_; intro w1 hown1 hg1)
      go_loopw [6, 24, 8] (fun v i _ wr => ∃ k : Nat, k ≤ j ∧ i = .int .i64 k ∧ wr.ownsRow w.heap.size 5 1 v (flat ps k).length ((flat ps k).map u8v) ∧ Below w.heap.size w wr) (fun _ i _ _ => j - (intOf i).toNat)
      case atStart => exact ⟨0, by omega, rfl, hown1, (Below.refl _ _).grown hg1 (Nat.le_refl _) (by simp)⟩
      case round =>
        obtain ⟨k, hk, rfl, hown, hb⟩ := hrel
        by_cases hlt : k < j
        · have hjp : k < ps.length := by have := HN.out; omega
          obtain ⟨g, rfl, hgB, hc⟩ := HP.out (by omega)
          obtain ⟨hc0, hr0⟩ := hc k hjp
          have hc1 := (hb.cell (p := ⟨g, k, none⟩) (Nat.lt_of_lt_of_le hgB hB)).trans hc0
          have hr := Lib.hid (hr0.below (hb.mono hB))
          have hl : (flat ps (k + 1)).length = (flat ps k).length + ps[k].n := by rw [flat_succ ps k hjp, List.length_append, hr0.1]
          have b3 : (flat ps k).length + ps[k].n ≤ 1000000 := by have := HFL.out (k + 1); omega
          have HL := Lib.hid hl
          have hsz := hb.size
          clear hc hc0 hr0 hl
          go_wp2_with (at_builtin; refine wpList_append_rd _ rfl (.tmp 28) (.tmp 29) 23 rfl w.heap.size 5 i0 (.int .u8 0) Try.underlying23 hi hz0 hz1 hz2 rfl u6 (flat ps k).length _ rfl hown _ _ _ _ _ rfl hr.out (by omega) hsz ?_; intro v' w' hown' hg')
          have HO := Lib.hid hown'
          clear hown'
          go_wp2
          go_roundw
          case rel =>
            refine ⟨k + 1, by omega, by go_num, ?_, hb.grown hg' hsz (own_from hown)⟩
            have h := HO.out
            rw [HL.out, flat_succ ps k hjp, List.map_append]
            exact h
          case measure => simp [intOf]; omega
        · obtain rfl : k = j := by omega
          obtain ⟨A', c', rfl, _⟩ := own_slice hown
          have HO := Lib.hid hown
          clear hown
          go_wp2
          go_ret
          exact ⟨A', c', rfl, HO.out, hb⟩
end Go.Proofs.Ytdnmbabofkiiiaa
