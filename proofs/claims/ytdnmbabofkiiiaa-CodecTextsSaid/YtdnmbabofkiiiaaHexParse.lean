/-
  The contracts of codec.hexValue and codec.ParseHex: the bytes of a text of hexadecimal digits in either case, or the error.
-/
import Derived.Test.YtdnmbabofkiiiaaMem
import Derived.Test.YtdnmbabofkiiiaaB64
import Derived.Laws.BitsAllLaws
import Derived.Outline
namespace Go.Proofs.Ytdnmbabofkiiiaa
open Go.RowKit

theorem ret_int2 {k : IntKind} {a b : Int} {v : Value} (h : a = b) : Ending.returned (.tuple #[.int k a, v]) = .returned (.tuple #[.int k b, v]) := by rw [h]

set_option maxHeartbeats 400000 in
theorem hexValue_any (c : UInt8) (w : World) :
    Calls Try.prog 31 #[.int .u8 (c.toNat : Int)] w fun e w' => e = .returned (.tuple #[.int .u8 (hexV c : Nat), .bool (hexOk c)]) ∧ w = w' := by
  have hb := c.toNat_lt
  by_cases h1 : 48 ≤ c.toNat ∧ c.toNat ≤ 57
  · have hv : hexVal c = c.toNat - 48 := by unfold hexVal; rw [if_pos h1]
    have hV : hexV c = c.toNat - 48 := by unfold hexV; rw [hv, if_pos (by omega)]
    have hO : hexOk c = true := by unfold hexOk; rw [hv]; simp; omega
    rw [hV, hO]
    clear hv hV hO
    obtain ⟨a1, a2⟩ := h1
    go_enter Try.func31, Try.ntmps31
    go_wp2
    go_ret2
    exact ⟨ret_int2 (by omega), rfl⟩
  by_cases h2 : 97 ≤ c.toNat ∧ c.toNat ≤ 102
  · have hv : hexVal c = c.toNat - 87 := by unfold hexVal; rw [if_neg h1]; rw [if_pos h2]
    have hV : hexV c = c.toNat - 87 := by unfold hexV; rw [hv, if_pos (by omega)]
    have hO : hexOk c = true := by unfold hexOk; rw [hv]; simp; omega
    rw [hV, hO]
    clear hv hV hO
    obtain ⟨a1, a2⟩ := h2
    have a3 : ¬ c.toNat ≤ 57 := by omega
    clear h1
    go_enter Try.func31, Try.ntmps31
    go_wp2
    go_ret2
    exact ⟨ret_int2 (by omega), rfl⟩
  by_cases h3 : 65 ≤ c.toNat ∧ c.toNat ≤ 70
  · have hv : hexVal c = c.toNat - 55 := by unfold hexVal; rw [if_neg h1, if_neg h2]; rw [if_pos h3]
    have hV : hexV c = c.toNat - 55 := by unfold hexV; rw [hv, if_pos (by omega)]
    have hO : hexOk c = true := by unfold hexOk; rw [hv]; simp; omega
    rw [hV, hO]
    clear hv hV hO
    obtain ⟨a1, a2⟩ := h3
    have a3 : ¬ c.toNat ≤ 57 := by omega
    have a4 : ¬ 97 ≤ c.toNat := by omega
    clear h1 h2
    go_enter Try.func31, Try.ntmps31
    go_wp2
    go_ret2
    exact ⟨ret_int2 (by omega), rfl⟩
  · have hv : hexVal c = 16 := by unfold hexVal; rw [if_neg h1, if_neg h2, if_neg h3]
    have hV : hexV c = 0 := by unfold hexV; rw [hv, if_neg (by omega)]
    have hO : hexOk c = false := by unfold hexOk; rw [hv]; rfl
    rw [hV, hO]
    clear hv hV hO
    rcases (by omega : c.toNat < 48 ∨ (57 < c.toNat ∧ c.toNat < 65) ∨ (70 < c.toNat ∧ c.toNat < 97) ∨ 102 < c.toNat) with g | ⟨g, g'⟩ | ⟨g, g'⟩ | g
    all_goals
      clear h1 h2 h3
      go_enter Try.func31, Try.ntmps31
      go_wp2
      go_ret2
      exact ⟨rfl, rfl⟩

/-- what a call of ParseHex gives -/
def HexRes (l : List UInt8) (w : World) (e : Ending) (w' : World) : Prop :=
  (∃ r A c, parseH l = some r ∧ e = .returned (.tuple #[.slice A r.length c, .int .i64 0]) ∧ Rd w' w'.heap.size A r.length r ∧ Below w.heap.size w w') ∨
  (parseH l = none ∧ e = .returned (.tuple #[.slice none 0 0, .int .i64 5]) ∧ Below w.heap.size w w')

/-- one byte of two digits -/
theorem pair_bits (a b : Nat) (ha : a < 16) (hb : b < 16) : bits BinOp.or IntKind.u8 ((a : Int) * 16) (b : Int) = ((UInt8.ofNat (a * 16 + b)).toNat : Int) := by
  have e1 : (a : Int) * 16 = ((a * 16 : Nat) : Int) := by omega
  rw [e1, u8_or_nat _ _ (by omega) (by omega), nat_join 4 _ _ (by omega) (by omega), UInt8.toNat_ofNat', Nat.mod_eq_of_lt (by omega)]

theorem all_take_two (l : List UInt8) (j : Nat) (h : 2 * j + 1 < l.length) : (l.take (2 * (j + 1))).all hexOk = ((l.take (2 * j)).all hexOk && (hexOk (l.getD (2 * j) 0) && hexOk (l.getD (2 * j + 1) 0))) := by
  rw [show 2 * (j + 1) = 2 * j + 1 + 1 from by omega, List.take_succ_eq_append_getElem (by omega), List.take_succ_eq_append_getElem (by omega), getD_lt (by omega), getD_lt (by omega)]
  simp only [List.all_append, List.all_cons, List.all_nil, Bool.and_true, Bool.and_assoc]

set_option maxHeartbeats 1000000 in
theorem parseHex_any (S : ByteArray) (l : List UInt8) (hS : S = ⟨l.toArray⟩) (hn : l.length ≤ 1000000) (w : World) :
    Calls Try.prog 24 #[.string S] w (HexRes l w) := by
  have hsz : S.size = l.length := by rw [hS]; simp [ByteArray.size]
  have hat : ∀ i (h : i < S.size), S[i] = l.getD i 0 := by
    intro i h
    subst hS
    have hi : i < l.length := by simpa [ByteArray.size] using h
    rw [getD_lt hi]
    rfl
  have HS := Lib.hid hsz
  have HAT := Lib.hid hat
  clear hsz hat hS
  obtain ⟨n, hn2⟩ : ∃ n, n = S.size := ⟨_, rfl⟩
  by_cases hodd : l.length % 2 = 0
  · obtain ⟨m, hm⟩ : ∃ m, l.length = 2 * m := ⟨l.length / 2, by omega⟩
    have hSm : S.size = 2 * m := by rw [HS.out, hm]
    have hm1 : m ≤ 500000 := by omega
    have b0 : ((2 * m : Nat) : Int) % 2 = 0 := by omega
    have b1 : ((2 * m : Nat) : Int) / 2 = (m : Int) := by omega
    obtain ⟨i0, hi, hz0, hz1, hz2⟩ := info_parts Try.info5
    have HM := Lib.hid hm
    clear hn2 hm hodd hn
    go_enter Try.func24, Try.ntmps24
    go_wp2_with (refine wpList_make_full _ rfl (.tmp 16) (.tmp 16) 23 rfl w.heap.size 5 i0 (.int .u8 0) 1 Try.underlying23 hi hz0 hz1 .i64 .i64 m m m rfl rfl rfl rfl (by rw [hz2]; omega) (by unfold maxLen; omega) (Nat.le_refl _) ?_; intro w1 hown1 hg1)
    go_loopw [20] (fun i wr => ∃ j : Nat, j ≤ m ∧ i = .int .i64 j ∧ Hid ((l.take (2 * j)).all hexOk = true) ∧ wr.ownsRow w.heap.size 5 1 (.slice (some ⟨w.heap.size, 0, none⟩) m m) m ((pairRow l m j).map u8v) ∧ Below w.heap.size w wr) (fun i _ => m - (intOf i).toNat)
    case atStart =>
      refine ⟨0, by omega, rfl, Lib.hid rfl, ?_, (Below.refl _ _).grown hg1 (Nat.le_refl _) (by simp)⟩
      rw [pairRow_zero, List.map_replicate]
      rw [show (Value.int IntKind.u8 0).cells = #[.int .u8 0] from rfl, toList_madeCells_one, Nat.mul_one] at hown1
      exact hown1
    case round =>
      obtain ⟨j, hj, rfl, hall, hown, hb⟩ := hrel
      by_cases hlt : j < m
      · obtain ⟨c1, h1⟩ : ∃ c, l.getD (2 * j) 0 = c := ⟨_, rfl⟩
        obtain ⟨c2, h2⟩ : ∃ c, l.getD (2 * j + 1) 0 = c := ⟨_, rfl⟩
        have hI1 : ∀ h, S[2 * j]'h = c1 := fun h => by rw [HAT.out, h1]
        have hI2 : ∀ h, S[2 * j + 1]'h = c2 := fun h => by rw [HAT.out, h2]
        have hnext : (l.take (2 * (j + 1))).all hexOk = (hexOk c1 && hexOk c2) := by
          rw [all_take_two l j (by have := HM.out; omega), hall.out, h1, h2, Bool.true_and]
        have HN := Lib.hid hnext
        have H1 := Lib.hid h1
        have H2 := Lib.hid h2
        clear h1 h2 hnext
        have q0 : (0 : Int) ≤ 2 * (j : Int) := by omega
        have q1 : 2 * (j : Int) < ((2 * m : Nat) : Int) := by omega
        have q2 : (0 : Int) ≤ 2 * (j : Int) + 1 := by omega
        have q3 : 2 * (j : Int) + 1 < ((2 * m : Nat) : Int) := by omega
        by_cases o1 : hexOk c1 = true
        by_cases o2 : hexOk c2 = true
        · have v1 := hexV_lt c1
          have v2 := hexV_lt c2
          have hbits := pair_bits (hexV c1) (hexV c2) v1 v2
          have hpb : pairB l j = UInt8.ofNat (hexV c1 * 16 + hexV c2) := by unfold pairB; rw [H1.out, H2.out]
          obtain ⟨z, hz⟩ : ∃ z, UInt8.ofNat (hexV c1 * 16 + hexV c2) = z := ⟨_, rfl⟩
          rw [hz] at hbits hpb
          have HPB := Lib.hid hpb
          have hfz := hown.frozenAt j
          have hcl : ∃ u, wr.cell? ⟨w.heap.size, j, none⟩ = some u := by
            rw [hown.cellAt j (by omega)]
            exact ⟨_, List.getElem?_eq_getElem (by rw [hown.1]; omega)⟩
          obtain ⟨u, hcl⟩ := hcl
          have HST := Lib.hid (hown.stored j (u8v z)).1
          clear hz hpb
          go_wp2_with fail
          refine (hexValue_any c1 _).mono ?_
          rintro e w2 ⟨rfl, rfl⟩
          go_wp2_with fail
          refine (hexValue_any c2 _).mono ?_
          rintro e w2 ⟨rfl, rfl⟩
          go_wp2
          go_roundw
          case rel =>
            refine ⟨j + 1, by omega, by go_num, Lib.hid (by rw [HN.out, o1, o2]; rfl), ?_, hb.setCell (Nat.le_refl _) _⟩
            have h := HST.out
            rw [← List.map_set, ← HPB.out, pairRow_set l m j hlt, HPB.out] at h
            exact h
          case measure => simp [intOf]; omega
        · have o2' : hexOk c2 = false := by simpa using o2
          clear o2
          have hnone : parseH l = none := by
            unfold parseH
            rw [if_neg]
            rintro ⟨_, h⟩
            have h2 : (l.take (2 * (j + 1))).all hexOk = true := by
              rw [List.all_eq_true] at h ⊢
              exact fun x hx => h x (List.mem_of_mem_take hx)
            rw [HN.out, o1, o2'] at h2
            simp at h2
          have HNO := Lib.hid hnone
          clear hnone
          go_wp2_with fail
          refine (hexValue_any c1 _).mono ?_
          rintro e w2 ⟨rfl, rfl⟩
          go_wp2_with fail
          refine (hexValue_any c2 _).mono ?_
          rintro e w2 ⟨rfl, rfl⟩
          go_wp2
          go_ret2
          exact .inr ⟨HNO.out, rfl, hb⟩
        · have o1' : hexOk c1 = false := by simpa using o1
          clear o1
          have hnone : parseH l = none := by
            unfold parseH
            rw [if_neg]
            rintro ⟨_, h⟩
            have h2 : (l.take (2 * (j + 1))).all hexOk = true := by
              rw [List.all_eq_true] at h ⊢
              exact fun x hx => h x (List.mem_of_mem_take hx)
            rw [HN.out, o1'] at h2
            simp at h2
          have HNO := Lib.hid hnone
          clear hnone
          go_wp2_with fail
          refine (hexValue_any c1 _).mono ?_
          rintro e w2 ⟨rfl, rfl⟩
          go_wp2_with fail
          refine (hexValue_any c2 _).mono ?_
          rintro e w2 ⟨rfl, rfl⟩
          go_wp2
          go_ret2
          exact .inr ⟨HNO.out, rfl, hb⟩
      · obtain rfl : j = m := by omega
        have hsome : parseH l = some (pairs l j) := by
          unfold parseH
          rw [if_pos ⟨by have := HM.out; omega, by have := hall.out; rwa [← HM.out, List.take_of_length_le (Nat.le_refl _)] at this⟩, HM.out, show 2 * j / 2 = j from by omega]
        have HSO := Lib.hid hsome
        rw [pairRow_end] at hown
        have HRD := Lib.hid (Rd.of_own hown)
        clear hsome hown
        go_wp2
        go_ret2
        exact .inl ⟨pairs l j, some ⟨w.heap.size, 0, none⟩, j, HSO.out, by rw [pairs_length]; rfl, by rw [pairs_length]; exact HRD.out, hb⟩
  · have hnone : parseH l = none := by
      unfold parseH
      rw [if_neg]
      rintro ⟨h, _⟩
      exact hodd h
    have HNO := Lib.hid hnone
    have b0 : ¬ ((S.size : Int) % 2 = 0) := by have := HS.out; omega
    have b1 : ((S.size : Int) % 2 == 0) = false := by simpa using b0
    have b2 : S.size ≤ 1000000 := by have := HS.out; omega
    clear hnone hodd hn2
    go_enter Try.func24, Try.ntmps24
    go_wp2
    go_ret2
    exact .inr ⟨HNO.out, rfl, Below.refl _ _⟩
end Go.Proofs.Ytdnmbabofkiiiaa
