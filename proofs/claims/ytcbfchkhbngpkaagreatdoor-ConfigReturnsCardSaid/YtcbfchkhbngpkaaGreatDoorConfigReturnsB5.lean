/-
  The contracts of codec.hexValue and codec.ParseHex: the bytes of a text of hexadecimal digits in either case, or the error. The contracts of config's number, hexNumber, validPort and unwrap. A byte row of a call's own: its cells and its block. The contract of config's formatFour. strconv.FormatUint at base 16, for numbers of 16 bits: the library's own text walked. One round of reading a number: bits joined. The contract of codec.ReadBig: the number of bytes, the most significant one first. The contract of config's formatSix. When an address lies in a prefix. The contracts of inner's size and first: how many bits an address has, and an address without the bits behind the first ones. An address with another byte. What a walk keeps of the memory that it has made, where the call changes one block of its caller's. The contracts of the choices that the statements are made of: Left, Next. A row that was made is a block; bytes that were read stay. The choices that the statements are made of: New. The contracts of the choices that the statements are made of: Bytes, New, Cut. The contracts of the choices that the statements are made of: Masked, Addr, Prefix. No statement is proved here.
-/
import Derived.Laws.BitsAllLaws
import Derived.Outline
import Derived.Deep.DeepCutAuto
import Derived.Laws.Bits64
import Derived.Test.YtcbfchkhbngpkaaGreatDoorConfigReturnsB4
namespace Go.Proofs.YtcbfchkhbngpkaaGreatDoor
open Go.RowKit

theorem ret_int2 {k : IntKind} {a b : Int} {v : Value} (h : a = b) : Ending.returned (.tuple #[.int k a, v]) = .returned (.tuple #[.int k b, v]) := by rw [h]

set_option maxRecDepth 100000 in
set_option maxHeartbeats 400000 in
theorem hexValue_any (c : UInt8) (w : World) :
    Calls Tryz.prog 163 #[.int .u8 (c.toNat : Int)] w fun e w' => e = .returned (.tuple #[.int .u8 (hexV c : Nat), .bool (hexOk c)]) ∧ w = w' := by
  have hb := c.toNat_lt
  by_cases h1 : 48 ≤ c.toNat ∧ c.toNat ≤ 57
  · have hv : hexVal c = c.toNat - 48 := by unfold hexVal; rw [if_pos h1]
    have hV : hexV c = c.toNat - 48 := by unfold hexV; rw [hv, if_pos (by omega)]
    have hO : hexOk c = true := by unfold hexOk; rw [hv]; simp; omega
    rw [hV, hO]
    clear hv hV hO
    obtain ⟨a1, a2⟩ := h1
    go_enter Tryz.func163, Tryz.ntmps163
    go_wp2
    go_ret2
    exact ⟨ret_int2 (by omega), rfl⟩
  by_cases h2 : 97 ≤ c.toNat ∧ c.toNat ≤ 102
  · have hv : hexVal c = c.toNat - 87 := by unfold hexVal; rw [if_neg h1]; rw [if_pos h2]
    have hV : hexV c = c.toNat - 87 := by unfold hexV; rw [hv, if_pos (by omega)]
    have hO : hexOk c = true := by unfold hexOk; rw [hv]; simp; omega
    rw [hV, hO]
    clear hv hV hO
    obtain ⟨a1, a2⟩ := h2
    have a3 : ¬ c.toNat ≤ 57 := by omega
    clear h1
    go_enter Tryz.func163, Tryz.ntmps163
    go_wp2
    go_ret2
    exact ⟨ret_int2 (by omega), rfl⟩
  by_cases h3 : 65 ≤ c.toNat ∧ c.toNat ≤ 70
  · have hv : hexVal c = c.toNat - 55 := by unfold hexVal; rw [if_neg h1, if_neg h2]; rw [if_pos h3]
    have hV : hexV c = c.toNat - 55 := by unfold hexV; rw [hv, if_pos (by omega)]
    have hO : hexOk c = true := by unfold hexOk; rw [hv]; simp; omega
    rw [hV, hO]
    clear hv hV hO
    obtain ⟨a1, a2⟩ := h3
    have a3 : ¬ c.toNat ≤ 57 := by omega
    have a4 : ¬ 97 ≤ c.toNat := by omega
    clear h1 h2
    go_enter Tryz.func163, Tryz.ntmps163
    go_wp2
    go_ret2
    exact ⟨ret_int2 (by omega), rfl⟩
  · have hv : hexVal c = 16 := by unfold hexVal; rw [if_neg h1, if_neg h2, if_neg h3]
    have hV : hexV c = 0 := by unfold hexV; rw [hv, if_neg (by omega)]
    have hO : hexOk c = false := by unfold hexOk; rw [hv]; rfl
    rw [hV, hO]
    clear hv hV hO
    rcases (by omega : c.toNat < 48 ∨ (57 < c.toNat ∧ c.toNat < 65) ∨ (70 < c.toNat ∧ c.toNat < 97) ∨ 102 < c.toNat) with g | ⟨g, g'⟩ | ⟨g, g'⟩ | g
    all_goals
      clear h1 h2 h3
      go_enter Tryz.func163, Tryz.ntmps163
      go_wp2
      go_ret2
      exact ⟨rfl, rfl⟩

/-- what a call of ParseHex gives -/
def HexRes (l : List UInt8) (w : World) (e : Ending) (w' : World) : Prop :=
  (∃ r A c, parseH l = some r ∧ e = .returned (.tuple #[.slice A r.length c, .int .i64 0]) ∧ Rd w' w'.heap.size A r.length r ∧ Below w.heap.size w w') ∨
  (parseH l = none ∧ e = .returned (.tuple #[.slice none 0 0, .int .i64 5]) ∧ Below w.heap.size w w')

/-- one byte of two digits -/
theorem pair_bits (a b : Nat) (ha : a < 16) (hb : b < 16) : bits BinOp.or IntKind.u8 ((a : Int) * 16) (b : Int) = ((UInt8.ofNat (a * 16 + b)).toNat : Int) := by
  have e1 : (a : Int) * 16 = ((a * 16 : Nat) : Int) := by omega
  rw [e1, u8_or_nat _ _ (by omega) (by omega), nat_join 4 _ _ (by omega) (by omega), UInt8.toNat_ofNat', Nat.mod_eq_of_lt (by omega)]

theorem all_take_two (l : List UInt8) (j : Nat) (h : 2 * j + 1 < l.length) : (l.take (2 * (j + 1))).all hexOk = ((l.take (2 * j)).all hexOk && (hexOk (l.getD (2 * j) 0) && hexOk (l.getD (2 * j + 1) 0))) := by
  rw [show 2 * (j + 1) = 2 * j + 1 + 1 from by omega, List.take_succ_eq_append_getElem (by omega), List.take_succ_eq_append_getElem (by omega), getD_lt (by omega), getD_lt (by omega)]
  simp only [List.all_append, List.all_cons, List.all_nil, Bool.and_true, Bool.and_assoc]

set_option maxRecDepth 100000 in
set_option maxHeartbeats 1000000 in
theorem parseHex_any (S : ByteArray) (l : List UInt8) (hS : S = ⟨l.toArray⟩) (hn : l.length ≤ 1000000) (w : World) :
    Calls Tryz.prog 137 #[.string S] w (HexRes l w) := by
  have hsz : S.size = l.length := by rw [hS]; simp [ByteArray.size]
  have hat : ∀ i (h : i < S.size), S[i] = l.getD i 0 := by
    intro i h
    subst hS
    have hi : i < l.length := by simpa [ByteArray.size] using h
    rw [getD_lt hi]
    rfl
  have HS := Lib.hid hsz
  have HAT := Lib.hid hat
  clear hsz hat hS
  obtain ⟨n, hn2⟩ : ∃ n, n = S.size := ⟨_, rfl⟩
  by_cases hodd : l.length % 2 = 0
  · obtain ⟨m, hm⟩ : ∃ m, l.length = 2 * m := ⟨l.length / 2, by omega⟩
    have hSm : S.size = 2 * m := by rw [HS.out, hm]
    have hm1 : m ≤ 500000 := by omega
    have b0 : ((2 * m : Nat) : Int) % 2 = 0 := by omega
    have b1 : ((2 * m : Nat) : Int) / 2 = (m : Int) := by omega
    obtain ⟨i0, hi, hz0, hz1, hz2⟩ := info_parts Tryz.info5
    have HM := Lib.hid hm
    clear hn2 hm hodd hn
    go_enter Tryz.func137, Tryz.ntmps137
    go_wp2_with (refine wpList_make_full _ rfl (.tmp 16) (.tmp 16) 22 rfl w.heap.size 5 i0 (.int .u8 0) 1 Tryz.underlying22 hi hz0 hz1 .i64 .i64 m m m rfl rfl rfl rfl (by rw [hz2]; omega) (by unfold maxLen; omega) (Nat.le_refl _) ?_; intro w1 hown1 hg1)
    go_loopw [20] (fun i wr => ∃ j : Nat, j ≤ m ∧ i = .int .i64 j ∧ Hid ((l.take (2 * j)).all hexOk = true) ∧ wr.ownsRow w.heap.size 5 1 (.slice (some ⟨w.heap.size, 0, none⟩) m m) m ((pairRow l m j).map u8v) ∧ Below w.heap.size w wr) (fun i _ => m - (intOf i).toNat)
    case atStart =>
      refine ⟨0, by omega, rfl, Lib.hid rfl, ?_, (Below.refl _ _).grown hg1 (Nat.le_refl _) (by simp)⟩
      rw [pairRow_zero, List.map_replicate]
      rw [show (Value.int IntKind.u8 0).cells = #[.int .u8 0] from rfl, toList_madeCells_one, Nat.mul_one] at hown1
      exact hown1
    case round =>
      obtain ⟨j, hj, rfl, hall, hown, hb⟩ := hrel
      by_cases hlt : j < m
      · obtain ⟨c1, h1⟩ : ∃ c, l.getD (2 * j) 0 = c := ⟨_, rfl⟩
        obtain ⟨c2, h2⟩ : ∃ c, l.getD (2 * j + 1) 0 = c := ⟨_, rfl⟩
        have hI1 : ∀ h, S[2 * j]'h = c1 := fun h => by rw [HAT.out, h1]
        have hI2 : ∀ h, S[2 * j + 1]'h = c2 := fun h => by rw [HAT.out, h2]
        have hnext : (l.take (2 * (j + 1))).all hexOk = (hexOk c1 && hexOk c2) := by
          rw [all_take_two l j (by have := HM.out; omega), hall.out, h1, h2, Bool.true_and]
        have HN := Lib.hid hnext
        have H1 := Lib.hid h1
        have H2 := Lib.hid h2
        clear h1 h2 hnext
        have q0 : (0 : Int) ≤ 2 * (j : Int) := by omega
        have q1 : 2 * (j : Int) < ((2 * m : Nat) : Int) := by omega
        have q2 : (0 : Int) ≤ 2 * (j : Int) + 1 := by omega
        have q3 : 2 * (j : Int) + 1 < ((2 * m : Nat) : Int) := by omega
        by_cases o1 : hexOk c1 = true
        by_cases o2 : hexOk c2 = true
        · have v1 := hexV_lt c1
          have v2 := hexV_lt c2
          have hbits := pair_bits (hexV c1) (hexV c2) v1 v2
          have hpb : pairB l j = UInt8.ofNat (hexV c1 * 16 + hexV c2) := by unfold pairB; rw [H1.out, H2.out]
          obtain ⟨z, hz⟩ : ∃ z, UInt8.ofNat (hexV c1 * 16 + hexV c2) = z := ⟨_, rfl⟩
          rw [hz] at hbits hpb
          have HPB := Lib.hid hpb
          have hfz := hown.frozenAt j
          have hcl : ∃ u, wr.cell? ⟨w.heap.size, j, none⟩ = some u := by
            rw [hown.cellAt j (by omega)]
            exact ⟨_, List.getElem?_eq_getElem (by rw [hown.1]; omega)⟩
          obtain ⟨u, hcl⟩ := hcl
          have HST := Lib.hid (hown.stored j (u8v z)).1
          clear hz hpb
          go_wp2_with fail
          refine (hexValue_any c1 _).mono ?_
          rintro e w2 ⟨rfl, rfl⟩
          go_wp2_with fail
          refine (hexValue_any c2 _).mono ?_
          rintro e w2 ⟨rfl, rfl⟩
          go_wp2
          go_roundw
          case rel =>
            refine ⟨j + 1, by omega, by go_num, Lib.hid (by rw [HN.out, o1, o2]; rfl), ?_, hb.setCell (Nat.le_refl _) _⟩
            have h := HST.out
            rw [← List.map_set, ← HPB.out, pairRow_set l m j hlt, HPB.out] at h
            exact h
          case measure => simp [intOf]; omega
        · have o2' : hexOk c2 = false := by simpa using o2
          clear o2
          have hnone : parseH l = none := by
            unfold parseH
            rw [if_neg]
            rintro ⟨_, h⟩
            have h2 : (l.take (2 * (j + 1))).all hexOk = true := by
              rw [List.all_eq_true] at h ⊢
              exact fun x hx => h x (List.mem_of_mem_take hx)
            rw [HN.out, o1, o2'] at h2
            simp at h2
          have HNO := Lib.hid hnone
          clear hnone
          go_wp2_with fail
          refine (hexValue_any c1 _).mono ?_
          rintro e w2 ⟨rfl, rfl⟩
          go_wp2_with fail
          refine (hexValue_any c2 _).mono ?_
          rintro e w2 ⟨rfl, rfl⟩
          go_wp2
          go_ret2
          exact .inr ⟨HNO.out, rfl, hb⟩
        · have o1' : hexOk c1 = false := by simpa using o1
          clear o1
          have hnone : parseH l = none := by
            unfold parseH
            rw [if_neg]
            rintro ⟨_, h⟩
            have h2 : (l.take (2 * (j + 1))).all hexOk = true := by
              rw [List.all_eq_true] at h ⊢
              exact fun x hx => h x (List.mem_of_mem_take hx)
            rw [HN.out, o1'] at h2
            simp at h2
          have HNO := Lib.hid hnone
          clear hnone
          go_wp2_with fail
          refine (hexValue_any c1 _).mono ?_
          rintro e w2 ⟨rfl, rfl⟩
          go_wp2_with fail
          refine (hexValue_any c2 _).mono ?_
          rintro e w2 ⟨rfl, rfl⟩
          go_wp2
          go_ret2
          exact .inr ⟨HNO.out, rfl, hb⟩
      · obtain rfl : j = m := by omega
        have hsome : parseH l = some (pairs l j) := by
          unfold parseH
          rw [if_pos ⟨by have := HM.out; omega, by have := hall.out; rwa [← HM.out, List.take_of_length_le (Nat.le_refl _)] at this⟩, HM.out, show 2 * j / 2 = j from by omega]
        have HSO := Lib.hid hsome
        rw [pairRow_end] at hown
        have HRD := Lib.hid (Rd.of_own hown)
        clear hsome hown
        go_wp2
        go_ret2
        exact .inl ⟨pairs l j, some ⟨w.heap.size, 0, none⟩, j, HSO.out, by rw [pairs_length]; rfl, by rw [pairs_length]; exact HRD.out, hb⟩
  · have hnone : parseH l = none := by
      unfold parseH
      rw [if_neg]
      rintro ⟨h, _⟩
      exact hodd h
    have HNO := Lib.hid hnone
    have b0 : ¬ ((S.size : Int) % 2 = 0) := by have := HS.out; omega
    have b1 : ((S.size : Int) % 2 == 0) = false := by simpa using b0
    have b2 : S.size ≤ 1000000 := by have := HS.out; omega
    clear hnone hodd hn2
    go_enter Tryz.func137, Tryz.ntmps137
    go_wp2
    go_ret2
    exact .inr ⟨HNO.out, rfl, Below.refl _ _⟩
end Go.Proofs.YtcbfchkhbngpkaaGreatDoor
namespace Go.Proofs.YtcbfchkhbngpkaaGreatDoor
open Go.RowKit

def okN (b : Bool) : Int := if b then 0 else 5
set_option maxRecDepth 100000 in
set_option maxHeartbeats 4000000 in
theorem number_any (l : List UInt8) (hl : l.length ≤ 1000000) (w : World) (hlv : LvCf w) :
    Calls Tryz.prog 67 #[.string ⟨l.toArray⟩] w fun e w' => e = .returned (.tuple #[.int .i64 ((numP l 10).1 : Int), .int .i64 (okN (numP l 10).2)]) ∧ Below w.heap.size w w' := by
  have HPU := Lib.hid (fun h => parseUint_c l h w hlv)
  obtain ⟨S, hS⟩ : ∃ S : ByteArray, ⟨l.toArray⟩ = S := ⟨_, rfl⟩
  have hsz : S.size = l.length := by rw [← hS]; exact text_size l
  have hat : ∀ i (h : i < S.size), S[i] = l.getD i 0 := by
    intro i h
    subst hS
    exact text_at l i h
  rw [hS] at HPU ⊢
  have HAT := Lib.hid hat
  have hS6 : S.size ≤ 1000000 := by omega
  clear hS hat hlv
  by_cases h1 : 10 < S.size
  · have hv : numP l 10 = (0, false) := by rw [numP, if_neg]; rintro ⟨⟨_, h, _⟩, _⟩; omega
    rw [hv]
    clear hsz hv
    go_enter Tryz.func67, Tryz.ntmps67
    go_wp2
    go_ret2
    exact ⟨rfl, Below.refl _ _⟩
  obtain ⟨c0, hc0⟩ : ∃ c, l.getD 0 0 = c := ⟨_, rfl⟩
  have hI0 : ∀ h, S[0]'h = c0 := fun h => by rw [HAT.out, hc0]
  by_cases h2 : 1 < S.size ∧ c0 = 48
  · have hv : numP l 10 = (0, false) := by rw [numP, if_neg]; rintro ⟨⟨_, _, h⟩, _⟩; exact h ⟨by omega, by rw [hc0]; exact h2.2⟩
    rw [hv]
    obtain ⟨h2, rfl⟩ := h2
    clear hsz hv hc0
    go_enter Tryz.func67, Tryz.ntmps67
    go_wp2
    go_ret2
    exact ⟨rfl, Below.refl _ _⟩
  have hv : numP l 10 = if l ≠ [] ∧ l.all isDig = true then (numV l, true) else (0, false) := by
    rw [numP]
    by_cases ha : l ≠ [] ∧ l.all isDig = true
    · rw [if_pos ⟨⟨fun h => ha.1 (List.eq_nil_of_length_eq_zero h), by omega, by rw [hc0]; intro h; exact h2 ⟨by omega, h.2⟩⟩, ha.2⟩, if_pos ha]
    · rw [if_neg (fun h => ha ⟨fun e => h.1.1 (by rw [e]; rfl), h.2⟩), if_neg ha]
  have HV := Lib.hid hv
  have HC48 := Lib.hid (show 1 < S.size → ¬ (c0.toNat : Int) = 48 from fun h e => h2 ⟨h, UInt8.toNat_inj.1 (show c0.toNat = (48 : UInt8).toNat from by have : (48 : UInt8).toNat = 48 := rfl; omega)⟩)
  have hnl : (numV l : Int) < 10000000000 ∨ ¬(l ≠ [] ∧ l.all isDig = true) := by
    by_cases ha : l ≠ [] ∧ l.all isDig = true
    · left
      have h3 := numV_lt l ha.2
      have h4 : 10 ^ l.length ≤ 10 ^ 10 := Nat.pow_le_pow_right (by omega) (by omega)
      omega
    · exact .inr ha
  have HNL := Lib.hid hnl
  have HP := Lib.hid (HPU.out (by omega))
  clear hv hc0 h2 hnl HPU hl
  by_cases h3 : 1 < S.size
  · have hcc : ((c0.toNat : Int) == 48) = false := by rw [beq_eq_false_iff_ne]; exact HC48.out h3
    clear HC48 hsz
    go_enter Tryz.func67, Tryz.ntmps67
    go_wp2_with fail
    refine HP.out.mono ?_
    rintro e w2 ⟨⟨hd, rfl⟩ | ⟨hd, T, v, rfl⟩, hb⟩
    · obtain ⟨n, hn⟩ : ∃ n, numV l = n := ⟨_, rfl⟩
      have hlt := HNL.out.resolve_right (fun h => h hd)
      rw [hn] at hlt ⊢
      have hw : IntKind.i64.wrap (n : Int) = (n : Int) := IntWalk.i64_in _ (by omega)
      have HR := Lib.hid (HV.out.trans (if_pos hd))
      rw [hn] at HR
      have HB := Lib.hid hb
      clear hd hn hb HNL HV
      go_wp2
      go_ret2
      exact ⟨by rw [HR.out]; rfl, HB.out⟩
    · have HR := Lib.hid (HV.out.trans (if_neg hd))
      have HB := Lib.hid hb
      clear hd hb HNL HV
      go_wp2
      go_ret2
      exact ⟨by rw [HR.out]; rfl, HB.out⟩
  · clear HC48 hsz
    go_enter Tryz.func67, Tryz.ntmps67
    go_wp2_with fail
    refine HP.out.mono ?_
    rintro e w2 ⟨⟨hd, rfl⟩ | ⟨hd, T, v, rfl⟩, hb⟩
    · obtain ⟨n, hn⟩ : ∃ n, numV l = n := ⟨_, rfl⟩
      have hlt := HNL.out.resolve_right (fun h => h hd)
      rw [hn] at hlt ⊢
      have hw : IntKind.i64.wrap (n : Int) = (n : Int) := IntWalk.i64_in _ (by omega)
      have HR := Lib.hid (HV.out.trans (if_pos hd))
      rw [hn] at HR
      have HB := Lib.hid hb
      clear hd hn hb HNL HV
      go_wp2
      go_ret2
      exact ⟨by rw [HR.out]; rfl, HB.out⟩
    · have HR := Lib.hid (HV.out.trans (if_neg hd))
      have HB := Lib.hid hb
      clear hd hb HNL HV
      go_wp2
      go_ret2
      exact ⟨by rw [HR.out]; rfl, HB.out⟩
set_option maxRecDepth 100000 in
theorem validPort_any (p : Int) (w : World) :
    Calls Tryz.prog 74 #[.int .i64 p] w fun e w' => e = .returned (.bool (decide (1 ≤ p ∧ p ≤ 65535))) ∧ w = w' := by
  by_cases h1 : 1 ≤ p
  · by_cases h2 : p ≤ 65535
    · rw [decide_eq_true ⟨h1, h2⟩]
      go_enter Tryz.func74, Tryz.ntmps74
      go_wp2
      go_ret
      exact ⟨rfl, rfl⟩
    · rw [decide_eq_false (fun h => h2 h.2)]
      go_enter Tryz.func74, Tryz.ntmps74
      go_wp2
      go_ret
      exact ⟨rfl, rfl⟩
  · rw [decide_eq_false (fun h => h1 h.1)]
    go_enter Tryz.func74, Tryz.ntmps74
    go_wp2
    go_ret
    exact ⟨rfl, rfl⟩
set_option maxRecDepth 100000 in
set_option maxHeartbeats 4000000 in
theorem unwrap_any (l : List UInt8) (hl : l.length ≤ 1000000) (w : World) :
    Calls Tryz.prog 171 #[.string ⟨l.toArray⟩] w fun e w' => e = .returned (.tuple #[.string ⟨(innerB l).toArray⟩, .bool (brack l)]) ∧ Below w.heap.size w w' := by
  have HPC := Lib.hid (hasPrefix_c l [91] w)
  have HSC := Lib.hid (fun W => hasSuffix_c l [93] hl W)
  have hB := brack_prog l
  have HI := Lib.hid (show innerB l = if brack l then (l.drop 1).take (l.length - 2) else l from rfl)
  obtain ⟨S, hS⟩ : ∃ S : ByteArray, ⟨l.toArray⟩ = S := ⟨_, rfl⟩
  have hsz : S.size = l.length := by rw [← hS]; exact text_size l
  have HX := Lib.hid (show S.extract 1 (l.length - 1) = ⟨((l.drop 1).take (l.length - 2)).toArray⟩ from by rw [← hS, text_mid]; rfl)
  rw [hS] at HPC HSC ⊢
  have HS := Lib.hid hS
  have HL := Lib.hid (show brack l = true → 2 ≤ l.length from fun h => (of_decide_eq_true h).1)
  generalize ([91] : List UInt8).isPrefixOf l = bp at HPC hB
  generalize ([93] : List UInt8).isSuffixOf l = bs at HSC hB
  clear hS
  go_enter Tryz.func171, Tryz.ntmps171
  go_wp2_with fail
  refine HPC.out.mono ?_
  rintro e w2 ⟨rfl, hb⟩
  have HB := Lib.hid hb
  clear hb HPC
  cases bp
  · rw [Bool.false_and] at hB
    have HR := Lib.hid hB.symm
    clear hB hl hsz
    go_wp2
    go_ret2
    exact ⟨by rw [HI.out, HR.out, ← HS.out]; rfl, HB.out⟩
  · rw [Bool.true_and] at hB
    have HR := Lib.hid hB.symm
    clear hB
    go_wp2_with fail
    refine (HSC.out _).mono ?_
    rintro e w3 ⟨rfl, hb⟩
    replace HB := Lib.hid (HB.out.trans (hb.mono HB.out.size))
    clear hb HSC
    cases bs
    · clear hl hsz
      go_wp2
      go_ret2
      exact ⟨by rw [HI.out, HR.out, ← HS.out]; rfl, HB.out⟩
    · have h2 := HL.out HR.out
      have hx := HX.out
      obtain ⟨n, hn⟩ : ∃ n, l.length - 1 = n := ⟨_, rfl⟩
      have hw : IntKind.i64.wrap ((l.length : Int) - 1) = (n : Int) := by rw [IntWalk.i64_in _ (by omega)]; omega
      rw [hn] at hx
      have hn1 : (1 : Int) ≤ (n : Int) := by omega
      have hn2 : (n : Int) ≤ (l.length : Int) := by omega
      have hn3 : n ≤ S.size := by omega
      have hn4 : 1 ≤ n := by omega
      clear hn
      go_wp2
      go_ret2
      exact ⟨by rw [HI.out, HR.out, if_pos rfl, List.drop_one]; rfl, HB.out⟩
end Go.Proofs.YtcbfchkhbngpkaaGreatDoor
namespace Go.Proofs.YtcbfchkhbngpkaaGreatDoor
open Go.RowKit

theorem own_at {w : World} {base e n c g : Nat} {xs : List Value} (h : w.ownsRow base e 1 (.slice (some ⟨g, 0, none⟩) n c) n xs) : At w g 0 xs := fun j v hv => by
  have hj := (List.getElem?_eq_some_iff.1 hv).1
  have hl := h.1
  rw [Nat.zero_add, h.cellAt j (by omega)]
  exact hv
theorem own_top {w : World} {base e n c g : Nat} {xs : List Value} (h : w.ownsRow base e 1 (.slice (some ⟨g, 0, none⟩) n c) n xs) : g < w.heap.size := (h.lt g rfl).2
end Go.Proofs.YtcbfchkhbngpkaaGreatDoor
namespace Go.Proofs.YtcbfchkhbngpkaaGreatDoor
open Go.RowKit

theorem ip_blk {W : World} {g : Nat} {t : TypeId} {ip : List UInt8} (h : Blk W g t (ip.map u8v)) (j : Nat) (hj : j < ip.length) : W.cell? ⟨g, j, none⟩ = some (.int .u8 ((ip.getD j 0).toNat : Int)) := by
  rw [h.cell j, List.getElem?_map, List.getElem?_eq_getElem hj, getD_lt hj]
  rfl
theorem cell_str (w : World) (v : Value) (t : TypeId) : ∀ j u, [v][j]? = some u → (w.alloc (.cells #[v] t)).cell? ((⟨w.heap.size, 0, none⟩ : Addr).add j) = some u := by
  intro j u hj
  match j, hj with
  | 0, hj =>
    simp at hj
    subst hj
    simp [Addr.add]
set_option maxRecDepth 100000 in
set_option maxHeartbeats 4000000 in
theorem formatFour_any (ip : List UInt8) (hip : ip.length = 16) (w : World) (hlv : LvCf w) :
    Calls Tryz.prog 93 #[.agg (ip.map u8v).toArray] w fun e w' => e = .returned (.string ⟨(joinT 46 ((List.range 4).map fun i => decT (ip.getD i 0).toNat)).toArray⟩) ∧ Below w.heap.size w w' := by
  obtain ⟨i0, hti, hz0, hz1, hz2⟩ := info_parts (P := Tryz.prog) (e := 9) (z := .string ⟨#[]⟩) (size := 1) (bytes := 16) (by kernel_rfl)
  obtain ⟨f, hf⟩ : ∃ f : Nat → List UInt8, (fun i => decT (ip.getD i 0).toNat) = f := ⟨_, rfl⟩
  have HF := Lib.hid (fun i => (congrFun hf i).symm)
  rw [hf]
  have HLV := Lib.hid hlv
  have HIP := Lib.hid hip
  obtain ⟨ca, hca⟩ : ∃ z, (ip.map u8v).toArray = z := ⟨_, rfl⟩
  rw [hca]
  have hm0 := (Mem.nil w).alloc rfl 51 ca (ip.map u8v) hca.symm
  have hsz0 : (w.alloc (.cells ca 51)).heap.size = w.heap.size + 1 := by simp
  have hmb := hm0.fix
  rw [hsz0] at hmb
  have HM := Lib.hid hmb
  have HS0 := Lib.hid hsz0
  clear hlv hip hm0 hmb hsz0 hca hf
  go_enter Tryz.func93, Tryz.ntmps93
  go_upto_region 1 with fail
  generalize w.alloc (.cells ca 51) = w1 at HM HS0 ⊢
  go_wp2_with fail
  go_loopw [3, 5] (fun v i wr => ∃ j : Nat, j ≤ 4 ∧ i = .int .i64 (j : Int) ∧ wr.ownsRow (w.heap.size + 1) 9 1 v j ((List.range j).map fun k => strV (f k)) ∧ MemB w (w.heap.size + 1) [blkE w.heap.size 51 (ip.map u8v)] wr) (fun _ i _ => 4 - (intOf i).toNat)
  case atStart => exact ⟨0, by omega, rfl, World.ownsRow_nil _ _ _ _, HM.out⟩
  case round =>
    obtain ⟨j, hj, rfl, hown, hM⟩ := hrel
    by_cases hlt : j < 4
    · obtain ⟨x, hx⟩ : ∃ x, ip.getD j 0 = x := ⟨_, rfl⟩
      have hc := ip_blk (hM.mem.blk 0 rfl) j (by have := HIP.out; omega)
      rw [hx] at hc
      have HD := Lib.hid (show f j = decT x.toNat from by rw [HF.out j, hx])
      have hxb := x.toNat_lt
      have HIC := Lib.hid (itoa_c (x.toNat : Int) (by omega) (by omega) wr (HLV.out.below hM.mem.bel))
      have hw := IntWalk.i64_in (x.toNat : Int) (by omega)
      replace HM := Lib.hid hM
      have HO := Lib.hid hown
      have hj0 : (0 : Int) ≤ (j : Int) := by omega
      clear hx hM hown
      go_wp2_with fail
      refine HIC.out.mono ?_
      rintro e w5 ⟨rfl, hb⟩
      rw [Int.toNat_natCast, ← HD.out]
      obtain ⟨s, hs⟩ : ∃ z, f j = z := ⟨_, rfl⟩
      rw [hs]
      have HS := Lib.hid (show (List.range (j + 1)).map (fun k => strV (f k)) = (List.range j).map (fun k => strV (f k)) ++ [.string ⟨s.toArray⟩] from by rw [List.range_succ, List.map_append, ← hs]; rfl)
      replace HM := Lib.hid (HM.out.below (hb.mono HM.out.2.2))
      replace HO := Lib.hid (own_below HO.out hb)
      clear hc hb HIC hs
      go_wp2_with (at_builtin; refine wpList_append_own _ rfl (.tmp 8) (.tmp 14) 43 rfl (w.heap.size + 1) 9 i0 (.string ⟨#[]⟩) 1 16 Tryz.underlying43 hti hz0 hz1 hz2 rfl (by omega) _ j _ rfl (HO.out.alloc _) ⟨w5.heap.size, 0, none⟩ 1 1 [.string ⟨s.toArray⟩] rfl rfl (cell_str _ _ _) (fun u hu => by simp only [List.mem_singleton] at hu; subst hu; rfl) (by unfold maxLen; omega) (by omega) (by have := HM.out.2.2; simp; omega) ?_; intro v' w' hown' hg' _)
      replace HM := Lib.hid (MemB.grown (HM.out.below ((Below.refl _ _).alloc HM.out.2.2 _)) (HO.out.alloc _) hg')
      go_wp2
      go_roundw
      case rel => exact ⟨j + 1, by omega, by go_num, by rw [HS.out]; exact hown', HM.out⟩
      case measure => simp [intOf]; omega
    · obtain rfl : j = 4 := by omega
      obtain ⟨A, k, rfl, hA⟩ := own_slice hown
      obtain ⟨g, rfl⟩ := (own_addr hown).2.2 (by omega)
      have hl4 : ((List.range 4).map f).length = 4 := by simp
      have HJ := Lib.hid (join_c g k ((List.range 4).map f) 46 wr (by rw [List.map_map]; exact own_at hown) (own_top hown) (by omega) (fun x hx => by
        obtain ⟨i, _, rfl⟩ := List.mem_map.1 hx
        rw [HF.out i]
        exact Nat.le_trans (decT_len _ 3 (by omega) (by have := (ip.getD i 0).toNat_lt; omega)) (by omega)) (by rw [hl4]; exact (own_addr hown).1))
      have HB := Lib.hid hM.mem.bel
      rw [hl4] at HJ
      clear hown hM hA
      go_wp2_with fail
      refine HJ.out.mono ?_
      rintro e w6 ⟨rfl, hb⟩
      replace HB := Lib.hid (HB.out.trans (hb.mono HB.out.size))
      clear hb HJ
      go_wp2
      go_ret
      exact ⟨rfl, HB.out⟩
end Go.Proofs.YtcbfchkhbngpkaaGreatDoor
namespace Go.Proofs.YtcbfchkhbngpkaaGreatDoor
open Go.RowKit

set_option maxRecDepth 100000 in
theorem pow_any (w : World) : Calls Tryz.prog 130 #[.int .i64 16] w fun e w' => e = .returned (.bool true) ∧ w = w' := by
  have h1 : IntKind.i64.wrap (16 - 1) = 15 := by decide
  have h2 : bits BinOp.and IntKind.i64 16 15 = 0 := by decide
  go_enter Tryz.func130, Tryz.ntmps130
  go_wp2
  go_ret
  exact ⟨rfl, rfl⟩
set_option maxRecDepth 100000 in
theorem trail64_any (w : World) (h : w.cell? ⟨7, 15, none⟩ = some (.int .u8 4)) : Calls Tryz.prog 158 #[.int .u64 16] w fun e w' => e = .returned (.int .i64 4) ∧ w = w' := by
  have h1 : IntKind.u64.wrap (-16) = 18446744073709551600 := by decide
  have h2 : bits BinOp.and IntKind.u64 16 18446744073709551600 = 16 := by decide
  have h3 : IntKind.u64.wrap (16 * 285870213051353865) = 4573923408821661840 := by decide
  have h4 : IntKind.i64.wrap 4 = 4 := by decide
  go_enter Tryz.func158, Tryz.ntmps158
  go_wp2
  go_ret
  exact ⟨rfl, rfl⟩
set_option maxRecDepth 100000 in
theorem trail_any (w : World) (h : w.cell? ⟨7, 15, none⟩ = some (.int .u8 4)) : Calls Tryz.prog 131 #[.int .u64 16] w fun e w' => e = .returned (.int .i64 4) ∧ w = w' := by
  go_enter Tryz.func131, Tryz.ntmps131
  go_wp2_with fail
  refine (trail64_any w h).mono ?_
  rintro e w' ⟨rfl, rfl⟩
  go_wp2
  go_ret
  exact ⟨rfl, rfl⟩
def digS : ByteArray := ⟨#[48, 49, 50, 51, 52, 53, 54, 55, 56, 57, 97, 98, 99, 100, 101, 102, 103, 104, 105, 106, 107, 108, 109, 110, 111, 112, 113, 114, 115, 116, 117, 118, 119, 120, 121, 122]⟩
theorem digS_at : ∀ d : Fin 16, digS.data[d.val]! = hexD d.val := by decide
theorem digS_in (d : Nat) (h : d < 16) : ∀ hh, digS[d]'hh = hexD d := fun hh => by
  rw [← digS_at ⟨d, h⟩]
  exact (getElem!_pos digS.data d hh).symm
/-- the row of digits, filled from its end -/
def hexRow (t : List UInt8) : List Value := (List.replicate (65 - t.length) (0 : UInt8) ++ t).map u8v
theorem hexRow_set (t : List UInt8) (d : UInt8) (h : t.length < 65) : (hexRow t).set (64 - t.length) (.int .u8 (d.toNat : Int)) = hexRow (d :: t) := by
  rw [hexRow, hexRow, List.map_append, List.map_append, List.set_append_left _ _ (by simp; omega), show 65 - t.length = 64 - t.length + 1 from by omega, List.replicate_succ', List.map_append, List.set_append_right _ _ (by simp), List.length_map, List.length_replicate, Nat.sub_self, List.length_cons, show 65 - (t.length + 1) = 64 - t.length from by omega]
  simp [u8v]
set_option maxRecDepth 100000 in
theorem array65_from (g q : Nat) (hq : q ≤ 64) (w : World) :
    (Instr.sliceAt 163 (.pointer (some ⟨g, 0, none⟩)) (some (.int .i64 (q : Int))) none none).run Tryz.prog w = .ok (.slice (some ⟨g, q, none⟩) (65 - q) (65 - q)) w := by
  have hs : (sizeOf 5).run Tryz.prog w = .ok 1 w := by
    obtain ⟨i0, hi, hz0, hz1, hz2⟩ := info_parts Tryz.info5
    simp [sizeOf, typeInfo, hi, hz1]
  have hl : Tryz.prog.arrayLen 163 = 65 := by kernel_rfl
  have he : Tryz.prog.elem 163 = 5 := by kernel_rfl
  rw [run_sliceAt_array_l (P := Tryz.prog) w 163 ⟨g, 0, none⟩ (by rw [hl, he]; exact Tryz.underlying163) .i64 (q : Int) (by omega) (by rw [hl]; omega), hl, he, hs]
  simp only [Result.andThen, slicedAt, Int.toNat_natCast, Go.WideShapes.add_plain, Nat.mul_one]
  rw [if_neg (by omega), Nat.zero_add]
set_option maxRecDepth 100000 in
set_option maxHeartbeats 8000000 in
theorem bits16_any (z : Nat) (hz : z < 65536) (w : World) (hlv : LvCf w) :
    Calls Tryz.prog 109 #[.slice none 0 0, .int .u64 (z : Int), .int .i64 16, .bool false, .bool false] w fun e w' => e = .returned (.tuple #[.slice none 0 0, .string ⟨(hexT z).toArray⟩]) ∧ Below w.heap.size w w' := by
  have HT := Lib.hid (fun W (hb : Below w.heap.size w W) => trail_any W (hlv.below hb).2.1)
  have HM := Lib.hid (show Mem w [blkE w.heap.size 163 (hexRow [])] (w.alloc (.cells Tryz.zeroCells163 163)) from (Mem.nil w).alloc rfl 163 Tryz.zeroCells163 (hexRow []) (by kernel_rfl))
  have hk1 : IntKind.u64.wrap 16 = 16 := by decide
  have hk2 : IntKind.u64.wrap 4 = 4 := by decide
  have hk3 : IntKind.u64.wrap (16 - 1) = 15 := by decide
  clear hlv
  go_enter Tryz.func109, Tryz.ntmps109
  go_wp2_with fail
  refine (pow_any _).mono ?_
  rintro e w2 ⟨rfl, rfl⟩
  go_wp2_with fail
  generalize w.alloc (.cells Tryz.zeroCells163 163) = w1 at HM ⊢
  refine (HT.out _ HM.out.bel).mono ?_
  rintro e w2 ⟨rfl, rfl⟩
  go_wp2_with fail
  go_loopw [1, 13] (fun u i wr => ∃ (n : Nat) (t : List UInt8), t.length ≤ 4 ∧ n < 16 ^ (4 - t.length) ∧ u = .int .u64 (n : Int) ∧ i = .int .i64 ((65 - t.length : Nat) : Int) ∧ Hid (hexT z = hexT n ++ t) ∧ Mem w [blkE w.heap.size 163 (hexRow t)] wr) (fun u _ _ => (intOf u).toNat)
  case atStart => exact ⟨z, [], by simp, by simpa using hz, rfl, rfl, Lib.hid (by simp), HM.out⟩
  case round =>
    obtain ⟨n, t, ht, hn, rfl, rfl, hx, hM⟩ := hrel
    replace HM := Lib.hid hM
    have hn16 : n < 65536 := Nat.lt_of_lt_of_le hn (Nat.le_trans (Nat.pow_le_pow_right (by omega) (show 4 - t.length ≤ 4 by omega)) (by decide))
    clear hM
    by_cases hge : 16 ≤ n
    · have ht3 : t.length ≤ 3 := by
        apply Nat.le_of_not_lt
        intro h
        have e : t.length = 4 := by omega
        rw [e] at hn
        simp at hn
        omega
      obtain ⟨q, hq⟩ : ∃ q, 64 - t.length = q := ⟨_, rfl⟩
      have hd16 : n % 16 < 16 := Nat.mod_lt _ (by omega)
      obtain ⟨d, hd⟩ : ∃ d, n % 16 = d := ⟨_, rfl⟩
      rw [hd] at hd16
      have hI := digS_in d hd16
      unfold digS at hI
      have HD := Lib.hid (show hexT n = hexT (n / 16) ++ [hexD d] from by rw [hexT_big (by omega), hd])
      have hw1 : IntKind.i64.wrap (((65 - t.length : Nat) : Int) - 1) = (q : Int) := by rw [IntWalk.i64_in _ (by omega)]; omega
      have hand : bits BinOp.and IntKind.u64 (n : Int) 15 = (d : Int) := by
        rw [show (15 : Int) = ((15 : Nat) : Int) from rfl, u64_and_nat n 15 (by omega) (by omega), show (15 : Nat) = 2 ^ 4 - 1 from rfl, Nat.and_two_pow_sub_one_eq_mod]
        omega
      have hset := hexRow_set t (hexD d) (by omega)
      rw [hq] at hset
      have HSET := Lib.hid hset
      have fx : wr.cell? ⟨w.heap.size, q, none⟩ = some (.int .u8 0) := by
        rw [(HM.out.blk 0 rfl).cell q, hexRow, List.map_append, List.getElem?_append_left (by simp; omega), List.getElem?_map, List.getElem?_replicate, if_pos (by omega)]
        rfl
      have zx := (HM.out.blk 0 rfl).frozen q
      have hq65 : (q : Int) < 65 := by omega
      have hd36 : (d : Int) < 36 := by omega
      obtain ⟨x, hxd⟩ : ∃ x, hexD d = x := ⟨_, rfl⟩
      rw [hxd] at hI HD HSET
      obtain ⟨m, hm⟩ : ∃ m, n / 16 = m := ⟨_, rfl⟩
      have hmi : (n : Int) / 16 = (m : Int) := by omega
      have HN := Lib.hid hn
      have HQ := Lib.hid hq
      have HMM := Lib.hid hm
      rw [hm] at HD
      clear hset hxd hd hn hq hm
      go_wp2
      have hm2 := HM.out.setCell 0 rfl q (.int .u8 (x.toNat : Int))
      rw [HSET.out] at hm2
      refine ⟨⟨m, x :: t, by simp only [List.length_cons]; omega, ?_, rfl, by rw [show 65 - (x :: t).length = q from by rw [List.length_cons, ← HQ.out]; omega], Lib.hid (by rw [hx.out, HD.out]; simp), hm2⟩, by simp [intOf]; have := HMM.out; omega⟩
      have h1 := HN.out
      rw [show 4 - t.length = (4 - (t.length + 1)) + 1 from by omega, Nat.pow_succ] at h1
      have := HMM.out
      simp only [List.length_cons]
      omega
    · obtain ⟨q, hq⟩ : ∃ q, 64 - t.length = q := ⟨_, rfl⟩
      have hI := digS_in n (by omega)
      unfold digS at hI
      have HD := Lib.hid (show hexT n = [hexD n] from hexT_small (by omega))
      have hw1 : IntKind.i64.wrap (((65 - t.length : Nat) : Int) - 1) = (q : Int) := by rw [IntWalk.i64_in _ (by omega)]; omega
      have hset := hexRow_set t (hexD n) (by omega)
      rw [hq] at hset
      have HSET := Lib.hid hset
      have fx : wr.cell? ⟨w.heap.size, q, none⟩ = some (.int .u8 0) := by
        rw [(HM.out.blk 0 rfl).cell q, hexRow, List.map_append, List.getElem?_append_left (by simp; omega), List.getElem?_map, List.getElem?_replicate, if_pos (by omega)]
        rfl
      have zx := (HM.out.blk 0 rfl).frozen q
      have hq65 : (q : Int) < 65 := by omega
      have hn36 : (n : Int) < 36 := by omega
      obtain ⟨x, hxd⟩ : ∃ x, hexD n = x := ⟨_, rfl⟩
      rw [hxd] at hI HD HSET
      have HQ := Lib.hid hq
      have HXX := Lib.hid (show hexT z = x :: t from by rw [hx.out, HD.out]; rfl)
      have hn16' : (n : Int) < 16 := by omega
      clear hset hxd hn hq hx
      go_upto_region 30 with (fail)
      have hm2 := HM.out.setCell 0 rfl q (.int .u8 (x.toNat : Int))
      rw [HSET.out] at hm2
      generalize wr.setCell ⟨w.heap.size, q, none⟩ (.int .u8 (x.toNat : Int)) = w3 at hm2 ⊢
      replace HM := Lib.hid hm2
      have hq1 : q ≤ 64 := by omega
      have hl : (x :: t).length = 65 - q := by rw [List.length_cons]; have := HQ.out; omega
      have hcv := run_convert_bytes_back (P := Tryz.prog) w3 22 9 5 ⟨w.heap.size, q, none⟩ (65 - q) (x :: t) Tryz.underlying22 Tryz.underlying5 Tryz.underlying9 (fun j hj => by
        have hc := (HM.out.blk 0 rfl).cell (q + j)
        rw [Go.WideShapes.add_plain, hc, hexRow, List.map_append, List.getElem?_append_right (by rw [List.length_map, List.length_replicate, List.length_cons]; have := HQ.out; omega), List.length_map, List.length_replicate, show q + j - (65 - (x :: t).length) = j from by rw [hl]; omega, List.getElem?_map, List.getElem?_eq_getElem hj]
        rfl)
      rw [hl] at hcv
      clear hm2 fx zx
      have h65 : ¬ (65 : Nat) = q := by omega
      have hsl : q ≤ 65 := by omega
      have hsa := array65_from w.heap.size q hq1 w3
      go_wp2_with fail
      go_ret2
      exact ⟨by rw [HXX.out]; rfl, HM.out.bel⟩
set_option maxRecDepth 100000 in
theorem fmtIn_any (z : Nat) (hz : z < 65536) (w : World) (hlv : LvCf w) :
    Calls Tryz.prog 146 #[.int .u64 (z : Int), .int .i64 16] w fun e w' => e = .returned (.string ⟨(hexT z).toArray⟩) ∧ Below w.heap.size w w' := by
  have HC := Lib.hid (bits16_any z hz w hlv)
  clear hlv hz
  go_enter Tryz.func146, Tryz.ntmps146
  go_wp2_with fail
  refine HC.out.mono ?_
  rintro e w' ⟨rfl, hb⟩
  have HB := Lib.hid hb
  clear hb HC
  go_wp2
  go_ret
  exact ⟨rfl, HB.out⟩
set_option maxRecDepth 100000 in
theorem fmtUint_any (z : Nat) (hz : z < 65536) (w : World) (hlv : LvCf w) :
    Calls Tryz.prog 119 #[.int .u64 (z : Int), .int .i64 16] w fun e w' => e = .returned (.string ⟨(hexT z).toArray⟩) ∧ Below w.heap.size w w' := by
  have HC := Lib.hid (fmtIn_any z hz w hlv)
  clear hlv hz
  go_enter Tryz.func119, Tryz.ntmps119
  go_wp2_with fail
  refine HC.out.mono ?_
  rintro e w' ⟨rfl, hb⟩
  have HB := Lib.hid hb
  clear hb HC
  go_wp2
  go_ret
  exact ⟨rfl, HB.out⟩
end Go.Proofs.YtcbfchkhbngpkaaGreatDoor
namespace Go.Proofs.YtcbfchkhbngpkaaGreatDoor
open Go.RowKit

/-- one round of ReadBig -/
theorem or64_big (a : Nat) (b : UInt8) : bits BinOp.or IntKind.u64 (IntKind.u64.wrap ((a : Int) % 18446744073709551616 * 256)) (IntKind.u64.wrap (b.toNat : Int)) = (((a * 256 + b.toNat) % 18446744073709551616 : Nat) : Int) := by
  have hb := b.toNat_lt
  have e1 : IntKind.u64.wrap ((a : Int) % 18446744073709551616 * 256) = (((a % 18446744073709551616 * 256) % 18446744073709551616 : Nat) : Int) := by
    rw [IntKind.wrap_u64]; omega
  have e2 : IntKind.u64.wrap (b.toNat : Int) = (b.toNat : Int) := by
    rw [IntKind.wrap_u64]; omega
  rw [e1, e2, u64_or_nat _ _ (by omega) (by omega), nat_join 8 _ _ (by omega) (by omega)]
  congr 1
  omega
end Go.Proofs.YtcbfchkhbngpkaaGreatDoor
namespace Go.Proofs.YtcbfchkhbngpkaaGreatDoor
open Go.RowKit

set_option maxRecDepth 100000 in
theorem readBig_any (B : Nat) (A : Option Addr) (n cap : Nat) (l : List UInt8) (hn : n ≤ 1000000) (w : World) (hr : Rd w B A n l) :
    Calls Tryz.prog 47 #[.slice A n cap] w fun e w' => e = .returned (.int .u64 (numB l % 18446744073709551616 : Nat)) ∧ w = w' := by
  have hl : l.length = n := hr.1
  have HR := Lib.hid hr
  have HL := Lib.hid hl
  clear hr hl
  go_enter Tryz.func47, Tryz.ntmps47
  go_wp2
  go_loop [3, 8, 5] (fun v i _ => ∃ j : Nat, j ≤ n ∧ i = .int .i64 j ∧ v = .int .u64 (numB (l.take j) % 18446744073709551616 : Nat)) (fun _ i _ => n - (intOf i).toNat)
  case atStart => exact ⟨0, by omega, rfl, rfl⟩
  case round =>
    obtain ⟨j, hj, rfl, rfl⟩ := hrel
    by_cases hlt : j < n
    · obtain ⟨b, off, rfl, _, hc⟩ := HR.out.at_ (by omega)
      have hlj : j < l.length := by have := HL.out; omega
      have hc1 := hc j hlj
      clear hc
      go_wp2
      go_round
      case rel => exact ⟨j + 1, by omega, by go_num, by rw [or64_big, numB_take_succ l j hlj]⟩
      case measure => simp [intOf]; omega
    · obtain rfl : j = n := by omega
      go_wp2
      go_ret
      exact ⟨ret_int (by rw [List.take_of_length_le (by have := HL.out; omega)]), rfl⟩
end Go.Proofs.YtcbfchkhbngpkaaGreatDoor
namespace Go.Proofs.YtcbfchkhbngpkaaGreatDoor
open Go.RowKit

set_option maxRecDepth 100000 in
set_option maxHeartbeats 4000000 in
theorem formatSix_any (ip : List UInt8) (hip : ip.length = 16) (w : World) (hlv : LvCf w) :
    Calls Tryz.prog 92 #[.agg (ip.map u8v).toArray] w fun e w' => e = .returned (.string ⟨(joinT 58 ((List.range 8).map fun i => hexT (256 * (ip.getD (2 * i) 0).toNat + (ip.getD (2 * i + 1) 0).toNat))).toArray⟩) ∧ Below w.heap.size w w' := by
  obtain ⟨i0, hti, hz0, hz1, hz2⟩ := info_parts (P := Tryz.prog) (e := 9) (z := .string ⟨#[]⟩) (size := 1) (bytes := 16) (by kernel_rfl)
  obtain ⟨f, hf⟩ : ∃ f : Nat → List UInt8, (fun i => hexT (256 * (ip.getD (2 * i) 0).toNat + (ip.getD (2 * i + 1) 0).toNat)) = f := ⟨_, rfl⟩
  have HF := Lib.hid (fun i => (congrFun hf i).symm)
  rw [hf]
  have HLV := Lib.hid hlv
  have HIP := Lib.hid hip
  obtain ⟨ca, hca⟩ : ∃ z, (ip.map u8v).toArray = z := ⟨_, rfl⟩
  rw [hca]
  have hm0 := (Mem.nil w).alloc rfl 51 ca (ip.map u8v) hca.symm
  have hsz0 : (w.alloc (.cells ca 51)).heap.size = w.heap.size + 1 := by simp
  have hmb := hm0.fix
  rw [hsz0] at hmb
  have HM := Lib.hid hmb
  have HS0 := Lib.hid hsz0
  clear hlv hip hm0 hmb hsz0 hca hf
  go_enter Tryz.func92, Tryz.ntmps92
  go_upto_region 1 with fail
  generalize w.alloc (.cells ca 51) = w1 at HM HS0 ⊢
  go_wp2_with fail
  go_loopw [3, 6] (fun v i wr => ∃ j : Nat, j ≤ 8 ∧ i = .int .i64 (j : Int) ∧ wr.ownsRow (w.heap.size + 1) 9 1 v j ((List.range j).map fun k => strV (f k)) ∧ MemB w (w.heap.size + 1) [blkE w.heap.size 51 (ip.map u8v)] wr) (fun _ i _ => 8 - (intOf i).toNat)
  case atStart => exact ⟨0, by omega, rfl, World.ownsRow_nil _ _ _ _, HM.out⟩
  case round =>
    obtain ⟨j, hj, rfl, hown, hM⟩ := hrel
    by_cases hlt : j < 8
    · obtain ⟨x, hx⟩ : ∃ x, ip.getD (2 * j) 0 = x := ⟨_, rfl⟩
      obtain ⟨y, hy⟩ : ∃ y, ip.getD (2 * j + 1) 0 = y := ⟨_, rfl⟩
      obtain ⟨p, hp⟩ : ∃ p, 2 * j = p := ⟨_, rfl⟩
      have hr : Rd wr wr.heap.size (some ⟨w.heap.size, p, none⟩) 2 [x, y] := by
        refine ⟨rfl, fun _ => ⟨w.heap.size, p, rfl, (hM.mem.blk 0 rfl).lt, fun k hk => ?_⟩⟩
        have h2 := ip_blk (hM.mem.blk 0 rfl) (p + k) (by have := HIP.out; simp only [List.length_cons, List.length_nil] at hk; omega)
        match k, hk with
        | 0, _ => rw [h2]; show _ = some (u8v x); rw [← hx, hp]; rfl
        | 1, _ => rw [h2]; show _ = some (u8v y); rw [← hy, hp]; rfl
      have HRB := Lib.hid (readBig_any wr.heap.size (some ⟨w.heap.size, p, none⟩) 2 (16 - p) [x, y] (by omega) wr hr)
      have hxb := x.toNat_lt
      have hyb := y.toNat_lt
      obtain ⟨z, hz⟩ : ∃ z, 256 * x.toNat + y.toNat = z := ⟨_, rfl⟩
      have HN := Lib.hid (show numB [x, y] % 18446744073709551616 = z from by rw [numB]; simp [numL]; omega)
      have HD := Lib.hid (show f j = hexT z from by rw [HF.out j, hx, hy, hz])
      have HFU := Lib.hid (fmtUint_any z (by omega) wr (HLV.out.below hM.mem.bel))
      replace HM := Lib.hid hM
      have HO := Lib.hid hown
      have hj0 : (0 : Int) ≤ (j : Int) := by omega
      have hw1 : IntKind.i64.wrap (2 * (j : Int)) = (p : Int) := by rw [IntWalk.i64_in _ (by omega)]; omega
      have hw2 : IntKind.i64.wrap ((j : Int) + 1) = (j : Int) + 1 := IntWalk.i64_in _ (by omega)
      obtain ⟨q, hq⟩ : ∃ q, p + 2 = q := ⟨_, rfl⟩
      have hw3 : IntKind.i64.wrap (2 * ((j : Int) + 1)) = (q : Int) := by rw [IntWalk.i64_in _ (by omega)]; omega
      have hq1 : (q : Int) ≤ 16 := by omega
      have hq2 : (p : Int) ≤ (q : Int) := by omega
      have hq3 : q - p = 2 := by omega
      have hq4 : p ≤ q := by omega
      have hq5 : q ≤ 16 := by omega
      have hp16 : ¬ (16 : Nat) = p := by omega
      clear hx hy hM hown hr hz
      have HPP := Lib.hid hp
      clear hp hq
      go_upto_region 5 with fail
      go_wp2_with fail
      refine HRB.out.mono ?_
      rintro e w5 ⟨rfl, rfl⟩
      rw [HN.out]
      clear HN HRB
      go_wp2_with fail
      refine HFU.out.mono ?_
      rintro e w5 ⟨rfl, hb⟩
      rw [← HD.out]
      obtain ⟨s, hs⟩ : ∃ z, f j = z := ⟨_, rfl⟩
      rw [hs]
      have HS := Lib.hid (show (List.range (j + 1)).map (fun k => strV (f k)) = (List.range j).map (fun k => strV (f k)) ++ [.string ⟨s.toArray⟩] from by rw [List.range_succ, List.map_append, ← hs]; rfl)
      replace HM := Lib.hid (HM.out.below (hb.mono HM.out.2.2))
      replace HO := Lib.hid (own_below HO.out hb)
      clear hb HFU hs
      go_wp2_with (at_builtin; refine wpList_append_own _ rfl (.tmp 16) (.tmp 19) 43 rfl (w.heap.size + 1) 9 i0 (.string ⟨#[]⟩) 1 16 Tryz.underlying43 hti hz0 hz1 hz2 rfl (by omega) _ j _ rfl (HO.out.alloc _) ⟨w5.heap.size, 0, none⟩ 1 1 [.string ⟨s.toArray⟩] rfl rfl (cell_str _ _ _) (fun u hu => by simp only [List.mem_singleton] at hu; subst hu; rfl) (by unfold maxLen; omega) (by omega) (by have := HM.out.2.2; simp; omega) ?_; intro v' w' hown' hg' _)
      replace HM := Lib.hid (MemB.grown (HM.out.below ((Below.refl _ _).alloc HM.out.2.2 _)) (HO.out.alloc _) hg')
      go_wp2
      go_roundw
      case rel => exact ⟨j + 1, by omega, by go_num, by rw [HS.out]; exact hown', HM.out⟩
      case measure => simp [intOf]; omega
    · obtain rfl : j = 8 := by omega
      obtain ⟨A, k, rfl, hA⟩ := own_slice hown
      obtain ⟨g, rfl⟩ := (own_addr hown).2.2 (by omega)
      have hl4 : ((List.range 8).map f).length = 8 := by simp
      have HJ := Lib.hid (join_c g k ((List.range 8).map f) 58 wr (by rw [List.map_map]; exact own_at hown) (own_top hown) (by omega) (fun x hx => by
        obtain ⟨i, _, rfl⟩ := List.mem_map.1 hx
        rw [HF.out i]
        exact Nat.le_trans (hexT_len _ 4 (by omega) (by have := (ip.getD (2 * i) 0).toNat_lt; have := (ip.getD (2 * i + 1) 0).toNat_lt; omega)) (by omega)) (by rw [hl4]; exact (own_addr hown).1))
      have HB := Lib.hid hM.mem.bel
      rw [hl4] at HJ
      clear hown hM hA
      go_wp2_with fail
      refine HJ.out.mono ?_
      rintro e w6 ⟨rfl, hb⟩
      replace HB := Lib.hid (HB.out.trans (hb.mono HB.out.size))
      clear hb HJ
      go_wp2
      go_ret
      exact ⟨rfl, HB.out⟩
end Go.Proofs.YtcbfchkhbngpkaaGreatDoor
namespace Go.Proofs.YtcbfchkhbngpkaaGreatDoor
open Go.RowKit

theorem containsM_iff (a x : AddrM) (bits : Int) (hv : validM a bits = true) (hs : soundM x = true) (h6 : (x.six == a.six) = true) : containsM a bits x = true ↔ ∀ i : Nat, (i : Int) < bits → i < 128 → bitM x.ip i = bitM a.ip i := by
  rw [containsM, hv, hs, h6, Bool.true_and, Bool.true_and, Bool.true_and, List.all_eq_true]
  constructor
  · intro h i hi hlt
    have := h i (List.mem_range.2 hlt)
    rw [Bool.or_eq_true, decide_eq_true_iff, beq_iff_eq] at this
    rcases this with h2 | h2
    · omega
    · exact h2
  · intro h i hi
    rw [Bool.or_eq_true, decide_eq_true_iff, beq_iff_eq]
    by_cases h2 : bits ≤ (i : Int)
    · exact .inl h2
    · exact .inr (h i (by omega) (List.mem_range.1 hi))
end Go.Proofs.YtcbfchkhbngpkaaGreatDoor
namespace Go.Proofs.YtcbfchkhbngpkaaGreatDoor
open Go.RowKit

/-- a byte without the bits behind the first m -/
def cutByte (x : UInt8) (m : Nat) : UInt8 := x &&& ~~~(UInt8.ofNat (255 / 2 ^ m))
theorem cut_all : ∀ m : Fin 8, ∀ n : Fin 256, bits BinOp.andNot IntKind.u8 (n.val : Int) ((255 / 2 ^ m.val : Nat) : Int) = ((cutByte (UInt8.ofNat n.val) m.val).toNat : Int) := by decide +kernel
theorem cut_bits (x : UInt8) (m : Nat) (h : m < 8) : bits BinOp.andNot IntKind.u8 (x.toNat : Int) (255 / 2 ^ m) = ((cutByte x m).toNat : Int) := by
  have h1 := cut_all ⟨m, h⟩ ⟨x.toNat, x.toNat_lt⟩
  simp only [UInt8.ofNat_toNat] at h1
  rw [← h1, Int.natCast_ediv, Int.natCast_pow]
  rfl
theorem bit_cut_all : ∀ m : Fin 8, ∀ k : Fin 8, ∀ x : Fin 256, (cutByte (UInt8.ofNat x.val) m.val).toNat / 2 ^ (7 - k.val) % 2 = if k.val < m.val then x.val / 2 ^ (7 - k.val) % 2 else 0 := by decide +kernel
theorem bit_cut (x : UInt8) (m k : Nat) (hm : m < 8) (hk : k < 8) : (cutByte x m).toNat / 2 ^ (7 - k) % 2 = if k < m then x.toNat / 2 ^ (7 - k) % 2 else 0 := by
  have h := bit_cut_all ⟨m, hm⟩ ⟨k, hk⟩ ⟨x.toNat, x.toNat_lt⟩
  simp only [UInt8.ofNat_toNat] at h
  exact h
/-- an address without the bits behind the first k -/
def firstM (a : AddrM) (k : Nat) : AddrM := if k / 8 < 16 then ⟨a.six, (a.ip.set (k / 8) (cutByte (a.ip.getD (k / 8) 0) (k % 8))).take (k / 8 + 1) ++ List.replicate (15 - k / 8) 0⟩ else a
theorem firstM_ok (a : AddrM) (h : a.ok) (k : Nat) : (firstM a k).ok := by
  unfold firstM
  split
  · simp only [AddrM.ok, List.length_append, List.length_take, List.length_set, List.length_replicate]
    have : a.ip.length = 16 := h
    omega
  · exact h
theorem firstM_six (a : AddrM) (k : Nat) : (firstM a k).six = a.six := by unfold firstM; split <;> rfl
theorem firstM_bit (a : AddrM) (h : a.ok) (k i : Nat) (hi : i < 128) : bitM (firstM a k).ip i = if i < k then bitM a.ip i else 0 := by
  have hl : a.ip.length = 16 := h
  unfold firstM
  by_cases hk : k / 8 < 16
  · rw [if_pos hk]
    unfold bitM
    dsimp only
    rw [List.getD_eq_getElem?_getD, List.getElem?_append, List.length_take, List.length_set, List.getElem?_take]
    by_cases h1 : i / 8 < k / 8
    · rw [if_pos (by omega), if_pos (by omega), List.getElem?_set_ne (by omega), if_pos (by omega), ← List.getD_eq_getElem?_getD]
    · by_cases h2 : i / 8 = k / 8
      · rw [if_pos (by omega), if_pos (by omega), h2, List.getElem?_set_self (by omega), Option.getD_some, bit_cut _ _ _ (by omega) (by omega)]
        by_cases h3 : i % 8 < k % 8
        · rw [if_pos h3, if_pos (by omega)]
        · rw [if_neg h3, if_neg (by omega)]
      · rw [if_neg (by omega), if_neg (by omega), List.getElem?_replicate]
        split <;> simp
  · rw [if_neg hk, if_pos (by omega)]
/-- bytes whose bits are the same are the same -/
theorem byte_sum : ∀ x : Fin 256, x.val = 128 * (x.val / 2 ^ (7 - 0) % 2) + 64 * (x.val / 2 ^ (7 - 1) % 2) + 32 * (x.val / 2 ^ (7 - 2) % 2) + 16 * (x.val / 2 ^ (7 - 3) % 2) + 8 * (x.val / 2 ^ (7 - 4) % 2) + 4 * (x.val / 2 ^ (7 - 5) % 2) + 2 * (x.val / 2 ^ (7 - 6) % 2) + x.val / 2 ^ (7 - 7) % 2 := by decide +kernel
theorem byte_bits (x y : UInt8) (h : ∀ k, k < 8 → x.toNat / 2 ^ (7 - k) % 2 = y.toNat / 2 ^ (7 - k) % 2) : x = y := by
  have hx := byte_sum ⟨x.toNat, x.toNat_lt⟩
  have hy := byte_sum ⟨y.toNat, y.toNat_lt⟩
  simp only [] at hx hy
  rw [h 0 (by omega), h 1 (by omega), h 2 (by omega), h 3 (by omega), h 4 (by omega), h 5 (by omega), h 6 (by omega), h 7 (by omega), ← hy] at hx
  exact UInt8.toNat.inj hx
theorem ip_bits (l m : List UInt8) (hl : l.length = 16) (hm : m.length = 16) (h : ∀ i, i < 128 → bitM l i = bitM m i) : l = m := by
  apply List.ext_getElem (by omega)
  intro j h1 h2
  refine byte_bits _ _ (fun k hk => ?_)
  have := h (8 * j + k) (by omega)
  unfold bitM at this
  rw [show (8 * j + k) / 8 = j by omega, show (8 * j + k) % 8 = k by omega, List.getD_eq_getElem?_getD, List.getElem?_eq_getElem h1, List.getD_eq_getElem?_getD, List.getElem?_eq_getElem h2] at this
  exact this
theorem AddrM.ext_bits (a b : AddrM) (ha : a.ok) (hb : b.ok) (h6 : a.six = b.six) (h : ∀ i, i < 128 → bitM a.ip i = bitM b.ip i) : a = b := by
  have hi := ip_bits _ _ ha hb h
  cases a; cases b
  simp_all
theorem firstM_eq (a b : AddrM) (ha : a.ok) (hb : b.ok) (k : Nat) : firstM a k = b ↔ a.six = b.six ∧ ∀ i, i < 128 → (if i < k then bitM a.ip i else 0) = bitM b.ip i := by
  constructor
  · rintro rfl
    exact ⟨(firstM_six a k).symm, fun i hi => (firstM_bit a ha k i hi).symm⟩
  · rintro ⟨h6, h⟩
    exact AddrM.ext_bits _ _ (firstM_ok a ha k) hb ((firstM_six a k).trans h6) (fun i hi => (firstM_bit a ha k i hi).trans (h i hi))
theorem cells_inj (a b : AddrM) (h : a.cells = b.cells) : a = b := by
  cases a; cases b
  simp only [AddrM.cells, List.cons.injEq] at h
  obtain ⟨h1, h2⟩ := h
  injection h1 with h1
  subst h1
  congr 1
  refine List.map_inj_right ?_ |>.1 h2
  intro x y hxy
  have : ((x.toNat : Nat) : Int) = (y.toNat : Int) := by simpa [u8v] using hxy
  exact UInt8.toNat.inj (by omega)
/-- the bytes of IPv4 behind the fourth are zero exactly if the bits behind the 32nd are -/
theorem sound_first (a : AddrM) (h : a.ok) : soundM a = decide (firstM a (widthM a) = a) := by
  rw [Bool.eq_iff_iff, decide_eq_true_iff, firstM_eq a a h h]
  cases h6 : a.six with
  | true =>
    rw [soundM, h6, widthM, h6]
    simp only [Bool.true_or, true_and, true_iff, if_true]
    intro i hi
    rw [if_pos hi]
  | false =>
    rw [soundM_four a h h6, widthM, h6]
    simp only [true_and]
    constructor
    · intro hz i hi
      by_cases hlt : i < 32
      · rw [if_pos (by simpa using hlt)]
      · rw [if_neg (by simpa using hlt)]
        have := hz (i / 8 - 4) (by omega)
        rw [show 4 + (i / 8 - 4) = i / 8 by omega] at this
        rw [bitM, this]
        simp
    · intro hz j hj
      refine byte_bits _ _ (fun k hk => ?_)
      have := hz (8 * (4 + j) + k) (by omega)
      rw [if_neg (by simp; omega)] at this
      unfold bitM at this
      rw [show (8 * (4 + j) + k) / 8 = 4 + j by omega, show (8 * (4 + j) + k) % 8 = k by omega] at this
      rw [← this]
      simp
theorem valid_first (a : AddrM) (h : a.ok) (bits : Int) : validM a bits = (decide (0 ≤ bits) && (decide (bits ≤ (widthM a : Int)) && decide (firstM a bits.toNat = a))) := by
  by_cases h0 : 0 ≤ bits
  · by_cases h1 : bits ≤ (widthM a : Int)
    · rw [decide_eq_true h0, decide_eq_true h1, Bool.true_and, Bool.true_and, Bool.eq_iff_iff, decide_eq_true_iff, firstM_eq a a h h]
      constructor
      · intro hv
        have hs : soundM a = true := by rw [validM] at hv; exact (Bool.and_eq_true _ _ ▸ hv).1
        rw [validM_iff a bits hs h0 h1] at hv
        refine ⟨rfl, fun i hi => ?_⟩
        by_cases hlt : i < bits.toNat
        · rw [if_pos hlt]
        · rw [if_neg hlt, hv i (by omega) hi]
      · rintro ⟨_, hv⟩
        have hs : soundM a = true := by
          rw [sound_first a h, decide_eq_true_iff, firstM_eq a a h h]
          refine ⟨rfl, fun i hi => ?_⟩
          by_cases hlt : i < widthM a
          · rw [if_pos hlt]
          · have := hv i hi
            rw [if_neg (by omega)] at this
            rw [if_neg hlt, this]
        rw [validM_iff a bits hs h0 h1]
        intro i hb hi
        have := hv i hi
        rw [if_neg (by omega)] at this
        exact this.symm
    · rw [decide_eq_true h0, decide_eq_false h1, validM, decide_eq_true h0, decide_eq_false h1]
      simp
  · rw [decide_eq_false h0, validM, decide_eq_false h0]
    simp
theorem contains_first (a x : AddrM) (h : a.ok) (hx : x.ok) (bits : Int) : containsM a bits x = (validM a bits && (soundM x && decide (firstM x bits.toNat = a))) := by
  by_cases hv : validM a bits = true
  · by_cases hs : soundM x = true
    · rw [hv, hs, Bool.true_and, Bool.true_and]
      have hv2 := hv
      rw [valid_first a h, Bool.and_eq_true, Bool.and_eq_true, decide_eq_true_iff, decide_eq_true_iff, decide_eq_true_iff, firstM_eq a a h h] at hv2
      obtain ⟨h0, h1, _, h2⟩ := hv2
      by_cases h6 : x.six = a.six
      · rw [Bool.eq_iff_iff, containsM_iff a x bits hv hs (by rw [h6]; simp), decide_eq_true_iff, firstM_eq x a hx h]
        constructor
        · intro hc
          refine ⟨h6, fun i hi => ?_⟩
          by_cases hlt : i < bits.toNat
          · rw [if_pos hlt, hc i (by omega) hi]
          · have := h2 i hi
            rw [if_neg hlt] at this
            rw [if_neg hlt, this]
        · rintro ⟨_, hc⟩ i hb hi
          have := hc i hi
          rw [if_pos (by omega)] at this
          exact this
      · rw [containsM, hv, hs, show (x.six == a.six) = false by simpa using h6]
        simp only [Bool.true_and, Bool.false_and]
        refine (decide_eq_false fun e => h6 ?_).symm
        rw [← e, firstM_six]
    · rw [Bool.not_eq_true] at hs
      rw [hs, containsM, hs]
      simp
  · rw [Bool.not_eq_true] at hv
    rw [hv, containsM, hv]
    simp
end Go.Proofs.YtcbfchkhbngpkaaGreatDoor
namespace Go.Proofs.YtcbfchkhbngpkaaGreatDoor
open Go.RowKit

theorem AddrM.set_cell (a : AddrM) (q : Nat) (y : UInt8) : a.cells.set (1 + q) (u8v y) = (AddrM.mk a.six (a.ip.set q y)).cells := by
  rw [AddrM.cells, AddrM.cells, Nat.add_comm, List.set_cons_succ, ← List.map_set]
end Go.Proofs.YtcbfchkhbngpkaaGreatDoor
namespace Go.Proofs.YtcbfchkhbngpkaaGreatDoor
open Go.RowKit

theorem grownD {a w : World} {row : Option Nat} (h : a.grownBy w row) : a.grownBy w.drew row := ⟨h.os, h.tape, h.output, h.size, h.block⟩
theorem grownB {a w w' : World} {row : Option Nat} (h : a.grownBy w row) (hb : Below w.heap.size w w') : a.grownBy w' row :=
  grownBy_trans h ⟨hb.os, hb.tape, hb.output, hb.size, fun k hk _ => hb.block k hk⟩
theorem grown_refl (w : World) (k : Option Nat) : w.grownBy w k := ⟨rfl, rfl, rfl, Nat.le_refl _, fun _ _ _ => rfl⟩
/-- a change above w is none below it -/
theorem grownA {w W W' : World} {g : Nat} {row : Option Nat} (h : w.grownBy W (some g)) (hb : W.grownBy W' row) (hr : ∀ k, row = some k → w.heap.size ≤ k) : w.grownBy W' (some g) :=
  ⟨hb.os.trans h.os, hb.tape.trans h.tape, hb.output.trans h.output, Nat.le_trans h.size hb.size, fun k hk hne => (hb.block k (Nat.lt_of_lt_of_le hk h.size) (fun e => absurd (hr k e.symm) (by omega))).trans (h.block k hk hne)⟩
/-- the entries, and that of what was there ahead of w0 only the block g has changed -/
def MemG (w0 : World) (g : Nat) (E : List Ent) (W : World) : Prop := MemE w0.heap.size E W.heap.size W ∧ w0.grownBy W (some g)
section
variable {w0 W W' : World} {g : Nat} {E : List Ent}
theorem MemG.nil (w0 : World) (g : Nat) : MemG w0 g [] w0 := ⟨Nat.le_refl _, grown_refl _ _⟩
theorem MemG.get (h : MemG w0 g E W) (i : Nat) {e : Ent} (he : E[i]? = some e) : e.P W := h.1.get i e he
theorem MemG.blk (h : MemG w0 g E W) (i : Nat) {b : Nat} {t : TypeId} {cs : List Value} (he : E[i]? = some (blkE b t cs)) : Blk W b t cs := h.1.get i _ he
theorem MemG.rd (h : MemG w0 g E W) (i : Nat) {lo hi : Nat} {A : Option Addr} {n : Nat} {l : List UInt8} (he : E[i]? = some (rdE lo hi A n l)) : Rd W W.heap.size A n l :=
  (RdIn.rd (h.1.get i _ he)).mono (MemE.put.MemE.under h.1 i _ he)
theorem MemG.below (h : MemG w0 g E W) (hb : Below W.heap.size W W') : MemG w0 g E W' := ⟨h.1.keep hb.size (fun k _ hk => hb.block k hk), grownB h.2 hb⟩
theorem MemG.drew (h : MemG w0 g E W) : MemG w0 g E W.drew := h.below ((Below.refl _ _).drew)
/-- the block g changes -/
theorem MemG.next (h : MemG w0 g E W) (hg : g < w0.heap.size) (hb : W.grownBy W' (some g)) : MemG w0 g E W' :=
  ⟨h.1.keep hb.size (fun k h1 hk => hb.block k hk (fun e => by injection e with e; omega)), grownBy_trans h.2 hb⟩
theorem MemG.alloc (h : MemG w0 g E W) {b : Nat} (hb0 : b = W.heap.size) (t : TypeId) (arr : Array Value) (cs : List Value) (ha : arr = cs.toArray) : MemG w0 g (blkE b t cs :: E) (W.alloc (.cells arr t)) := by
  subst hb0 ha
  have hb : Below W.heap.size W (W.alloc (.cells cs.toArray t)) := (Below.refl _ _).alloc (Nat.le_refl _) _
  refine ⟨⟨?_, Nat.le_succ _, Blk.new W t cs, h.1.keep (Nat.le_refl _) (fun k _ hk => hb.block k hk)⟩, grownB h.2 hb⟩
  show W.heap.size + 1 ≤ _
  simp
theorem MemG.call (h : MemG w0 g E W) (hb : Below W.heap.size W W') (e : Ent) (hl : e.lo = W.heap.size) (hh : e.hi = W'.heap.size) (hp : e.P W') : MemG w0 g (e :: E) W' :=
  ⟨⟨by rw [hh]; exact Nat.le_refl _, by rw [hl, hh]; exact hb.size, hp, by rw [hl]; exact h.1.keep (Nat.le_refl _) (fun k _ hk => hb.block k hk)⟩, grownB h.2 hb⟩
theorem MemG.put (h : MemG w0 g E W) (i : Nat) {b : Nat} {t : TypeId} {cs : List Value} (he : E[i]? = some (blkE b t cs)) (cs' : List Value) (hg : W.grownBy W' (some b)) (hb : Blk W' b t cs') : MemG w0 g (E.set i (blkE b t cs')) W' := by
  have hlow : w0.heap.size ≤ b := MemE.low h.1 i _ he
  refine ⟨(MemE.put h.1 i _ (blkE b t cs') he rfl rfl (fun k hk hne => hg.block k hk (fun e => hne ?_)) hb).keep hg.size (fun _ _ _ => rfl), grownA h.2 hg (fun k hk => by injection hk with hk; omega)⟩
  injection e with e
  subst e
  exact ⟨Nat.le_refl _, Nat.lt_succ_self _⟩
theorem MemG.setCell (h : MemG w0 g E W) (i : Nat) {b : Nat} {t : TypeId} {cs : List Value} (he : E[i]? = some (blkE b t cs)) (j : Nat) (u : Value) : MemG w0 g (E.set i (blkE b t (cs.set j u))) (W.setCell ⟨b, j, none⟩ u) :=
  h.put i he _ ⟨rfl, rfl, rfl, by simp [World.setCell], fun k _ hne => Below.heap_setCell _ _ _ _ (fun e => hne (by rw [e]))⟩ ((h.blk i he).set_ j u)
end
end Go.Proofs.YtcbfchkhbngpkaaGreatDoor
namespace Go.Proofs.YtcbfchkhbngpkaaGreatDoor
open Go.RowKit

/-- the list of choices that lies at A, p of them taken -/
def codesC (A : Option Addr) (n c p : Nat) : List Value := [.slice A n c, .int .i64 (p : Int)]
def nextV (l : List UInt8) (p m : Nat) : Nat := if p < l.length ∧ 1 ≤ m then (l.getD p 0).toNat % m else 0
def nextP (l : List UInt8) (p m : Nat) : Nat := if p < l.length ∧ 1 ≤ m then p + 1 else p
theorem nextP_le (l : List UInt8) (p m : Nat) (h : p ≤ l.length) : nextP l p m ≤ l.length := by unfold nextP; split <;> omega
theorem nextV_lt (l : List UInt8) (p m : Nat) (h : 1 ≤ m) : nextV l p m < m := by unfold nextV; split; exact Nat.mod_lt _ h; omega
set_option maxRecDepth 100000 in
theorem caseLeft_any (g : Nat) (A : Option Addr) (n c : Nat) (p : Nat) (w : World) (hg : Blk w g 46 (codesC A n c p)) :
    Calls Tryz.prog 45 #[.pointer (some ⟨g, 0, none⟩)] w fun e w' => e = .returned (.bool (decide (p < n))) ∧ Below w.heap.size w w' := by
  have HG := Lib.hid hg
  have hd : decide ((p : Int) < (n : Int)) = decide (p < n) := by simp
  obtain ⟨q, hq⟩ : ∃ q, decide (p < n) = q := ⟨_, rfl⟩
  rw [hq] at hd
  have HQ := Lib.hid hq
  clear hg hq
  go_enter Tryz.func45, Tryz.ntmps45
  have f0 := HG.out.cell 0
  have f1 := HG.out.cell 1
  rw [show (codesC A n c p)[0]? = some (.slice A n c) from rfl] at f0
  rw [show (codesC A n c p)[1]? = some (.int .i64 (p : Int)) from rfl] at f1
  go_upto_region 1 with fail
  go_region
  go_wp2
  go_ret
  exact ⟨by rw [HQ.out]; rfl, (Below.refl _ _).drew⟩
set_option maxRecDepth 100000 in
set_option maxHeartbeats 2000000 in
theorem caseNext_any (g : Nat) (A : Option Addr) (n c : Nat) (l : List UInt8) (p : Nat) (hn : n ≤ 100000) (hp : p ≤ n) (m : Nat) (hm : m ≤ 1000000) (B : Nat) (hB : B ≤ g) (w : World) (hg : Blk w g 46 (codesC A n c p)) (hr : Rd w B A n l) :
    Calls Tryz.prog 19 #[.pointer (some ⟨g, 0, none⟩), .int .i64 (m : Int)] w fun e w' => e = .returned (.int .i64 (nextV l p m : Int)) ∧ Blk w' g 46 (codesC A n c (nextP l p m)) ∧ w.grownBy w' (some g) := by
  have hl := hr.1
  have LC := caseLeft_any g A n c p w hg
  have HG := Lib.hid hg
  have HR := Lib.hid hr
  have HLC := Lib.hid LC
  clear hg hr LC
  by_cases hpn : p < n
  · by_cases hm1 : 1 ≤ m
    · have HV := Lib.hid (show nextV l p m = (l.getD p 0).toNat % m ∧ nextP l p m = p + 1 from ⟨if_pos ⟨by omega, hm1⟩, if_pos ⟨by omega, hm1⟩⟩)
      obtain ⟨b, off, rfl, hb0, _⟩ := HR.out.at_ (by omega)
      go_enter Tryz.func19, Tryz.ntmps19
      go_upto_region 1 with fail
      go_wp2_with fail
      refine HLC.out.mono ?_
      rintro e w1 ⟨rfl, hb⟩
      rw [decide_eq_true hpn]
      have HG1 := Lib.hid (HG.out.below hb HG.out.lt)
      have HR1 := Lib.hid ((HR.out.mono (Nat.le_trans hB (Nat.le_of_lt HG.out.lt))).below hb)
      have HW := Lib.hid (grownB (grown_refl w (some g)) hb)
      clear hb HLC
      have dm : decide ((m : Int) < 1) = false := by simp; omega
      have f0 := HG1.out.cell 0
      have f1 := HG1.out.cell 1
      rw [show (codesC (some ⟨b, off, none⟩) n c p)[0]? = some (.slice (some ⟨b, off, none⟩) n c) from rfl] at f0
      rw [show (codesC (some ⟨b, off, none⟩) n c p)[1]? = some (.int .i64 (p : Int)) from rfl] at f1
      have z1 := HG1.out.frozen 1
      have hw1 : IntKind.i64.wrap ((p : Int) + 1) = ((p + 1 : Nat) : Int) := by rw [IntWalk.i64_in _ (by omega)]; omega
      obtain ⟨p1, hp1⟩ : ∃ q, p + 1 = q := ⟨_, rfl⟩
      rw [hp1] at hw1
      have hs := HG1.out.set_ 1 (.int .i64 (p1 : Int))
      have HS := Lib.hid (show Blk (w1.setCell ⟨g, 1, none⟩ (.int .i64 (p1 : Int))) g 46 (codesC (some ⟨b, off, none⟩) n c p1) from hs)
      have HW2 := Lib.hid (show w.grownBy (w1.setCell ⟨g, 1, none⟩ (.int .i64 (p1 : Int))) (some g) from grown_set HW.out 1 _)
      have hfx : (w1.setCell ⟨g, 1, none⟩ (.int .i64 (p1 : Int))).cell? ⟨b, off + p, none⟩ = some (.int .u8 ((l.getD p 0).toNat : Int)) := by
        rw [World.cell?_of_block (w := w1) (Below.heap_setCell _ _ _ _ (by dsimp only; omega))]
        exact HR1.out.byt p hpn
      have HFX := Lib.hid hfx
      clear hs hfx
      go_upto_region 4 with fail
      clear f0 f1 z1 dm
      (try simp only [hw1])
      generalize w1.setCell ⟨g, 1, none⟩ (.int .i64 (p1 : Int)) = w2 at HS HW2 HFX ⊢
      clear hw1
      have f0 := HS.out.cell 0
      have f1 := HS.out.cell 1
      rw [show (codesC (some ⟨b, off, none⟩) n c p1)[0]? = some (.slice (some ⟨b, off, none⟩) n c) from rfl] at f0
      rw [show (codesC (some ⟨b, off, none⟩) n c p1)[1]? = some (.int .i64 (p1 : Int)) from rfl] at f1
      have fx := HFX.out
      generalize l.getD p 0 = x at fx HV
      have hw2 : IntKind.i64.wrap ((p1 : Int) - 1) = (p : Int) := by rw [IntWalk.i64_in _ (by omega)]; omega
      have hw3 : (p1 : Int) - 1 = (p : Int) := by omega
      have hw4 : IntKind.i64.wrap (p : Int) = (p : Int) := IntWalk.i64_in _ (by omega)
      have hx256 := x.toNat_lt
      have hw5 : IntKind.i64.wrap (x.toNat : Int) = (x.toNat : Int) := IntWalk.i64_in _ (by omega)
      have bp : (p : Int) < (n : Int) := by omega
      have hmz : ((m : Int) == 0) = false := by rw [beq_eq_false_iff_ne]; omega
      have hmz' : ¬ (m : Int) = 0 := by omega
      obtain ⟨r, hr⟩ : ∃ r, x.toNat % m = r := ⟨_, rfl⟩
      have hmod : (x.toNat : Int).tmod (m : Int) = (r : Int) := by rw [← hr, Int.tmod_eq_emod_of_nonneg (by omega), Int.natCast_emod]
      have hmod2 : (x.toNat : Int) % (m : Int) = (r : Int) := by rw [← hr, Int.natCast_emod]
      rw [hr, hp1] at HV
      have hwr : IntKind.i64.wrap (r : Int) = (r : Int) := IntWalk.i64_in _ (by rw [← hr]; have := Nat.mod_le x.toNat m; omega)
      clear hr
      go_region
      go_wp2
      go_ret
      exact ⟨by rw [HV.out.1]; rfl, by rw [HV.out.2]; exact HS.out.drew, grownD HW2.out⟩
    · have HV := Lib.hid (show nextV l p m = 0 ∧ nextP l p m = p from ⟨if_neg (by omega), if_neg (by omega)⟩)
      go_enter Tryz.func19, Tryz.ntmps19
      go_upto_region 1 with fail
      go_wp2_with fail
      refine HLC.out.mono ?_
      rintro e w1 ⟨rfl, hb⟩
      rw [decide_eq_true hpn]
      have HG1 := Lib.hid (HG.out.below hb HG.out.lt)
      have HW := Lib.hid (grownB (grown_refl w (some g)) hb)
      clear hb HLC
      have dm : decide ((m : Int) < 1) = true := by simp; omega
      go_wp2
      go_ret
      exact ⟨by rw [HV.out.1]; rfl, by rw [HV.out.2]; exact HG1.out, HW.out⟩
  · have HV := Lib.hid (show nextV l p m = 0 ∧ nextP l p m = p from ⟨if_neg (by omega), if_neg (by omega)⟩)
    go_enter Tryz.func19, Tryz.ntmps19
    go_upto_region 1 with fail
    go_wp2_with fail
    refine HLC.out.mono ?_
    rintro e w1 ⟨rfl, hb⟩
    rw [decide_eq_false hpn]
    have HG1 := Lib.hid (HG.out.below hb HG.out.lt)
    have HW := Lib.hid (grownB (grown_refl w (some g)) hb)
    clear hb HLC
    go_wp2
    go_ret
    exact ⟨by rw [HV.out.1]; rfl, by rw [HV.out.2]; exact HG1.out, HW.out⟩
end Go.Proofs.YtcbfchkhbngpkaaGreatDoor
namespace Go.Proofs.YtcbfchkhbngpkaaGreatDoor
open Go.RowKit

theorem row_blk {w : World} {base e g n : Nat} {xs : List Value} (h : w.ownsRow base e 1 (.slice (some ⟨g, 0, none⟩) n n) n xs) : Blk w g e xs := by
  rcases h.2 with ⟨h0, _⟩ | ⟨g', cap, cur, hv, _, hg, _, _, hcs, ht⟩
  · cases h0
  · simp only [Value.slice.injEq, Option.some.injEq, Addr.mk.injEq, and_true, true_and] at hv
    obtain ⟨rfl, rfl⟩ := hv
    have : cur.toList = xs := by
      rw [← ht, List.take_of_length_le (by simp; omega)]
    unfold Blk
    rw [hg, ← this]

theorem Rd.kept {w w' : World} {B g n : Nat} {A : Option Addr} {l : List UInt8} (h : Rd w B A n l) (hB : B ≤ g) (hg : g < w.heap.size) (hb : w.grownBy w' (some g)) : Rd w' B A n l :=
  h.keep fun q hq => World.cell?_of_block (hb.block q.block (by omega) (fun e => by injection e with e; omega))
theorem Rd.below2 {w w' : World} {B n : Nat} {A : Option Addr} {l : List UInt8} (h : Rd w B A n l) (hB : B ≤ w.heap.size) (hb : Below w.heap.size w w') : Rd w' B A n l := h.below (hb.mono hB)
end Go.Proofs.YtcbfchkhbngpkaaGreatDoor
namespace Go.Proofs.YtcbfchkhbngpkaaGreatDoor
open Go.RowKit

set_option maxRecDepth 100000 in
theorem caseNew_any (A : Option Addr) (n c m k : Nat) (hm : m ≤ 1000000) (hnc : n ≤ c) (hcm : c ≤ maxLen) (hk : min n m = k) (w : World) :
    Calls Tryz.prog 5 #[.slice A n c, .int .i64 (m : Int)] w fun e w' => e = .returned (.pointer (some ⟨w.heap.size, 0, none⟩)) ∧ Mem w [blkE w.heap.size 46 (codesC A k c 0)] w' := by
  have hc63 : (c : Int) ≤ 9223372036854775807 := by unfold maxLen at hcm; omega
  have HM := Lib.hid ((Mem.nil w).alloc rfl 46 #[.slice A k c, .int .i64 0] (codesC A k c 0) rfl)
  by_cases h : n ≤ m
  · obtain rfl : k = n := by omega
    have h1 : ¬ (m : Int) < (k : Int) := by omega
    have h2 : (k : Int) ≤ (m : Int) := by omega
    have h3 : (k : Int) ≤ (c : Int) := by omega
    have h4 : (if (m : Int) < (k : Int) then (m : Int) else (k : Int)) = (k : Int) := if_neg h1
    have h5 : min (k : Int) (m : Int) = (k : Int) := by omega
    clear hk
    go_enter Tryz.func5, Tryz.ntmps5
    go_wp2
    go_ret
    exact ⟨rfl, HM.out⟩
  · obtain rfl : k = m := by omega
    have h1 : (k : Int) < (n : Int) := by omega
    have h2 : ¬ (n : Int) ≤ (k : Int) := by omega
    have h3 : (k : Int) ≤ (c : Int) := by omega
    have h4 : (if (k : Int) < (n : Int) then (k : Int) else (n : Int)) = (k : Int) := if_pos h1
    have h5 : min (n : Int) (k : Int) = (k : Int) := by omega
    clear hk
    go_enter Tryz.func5, Tryz.ntmps5
    go_wp2
    go_ret
    exact ⟨rfl, HM.out⟩
end Go.Proofs.YtcbfchkhbngpkaaGreatDoor
namespace Go.Proofs.YtcbfchkhbngpkaaGreatDoor
open Go.RowKit

theorem codeByte_wrap (v : Nat) : IntKind.u8.wrap (v : Int) = ((UInt8.ofNat v).toNat : Int) := by
  rw [IntKind.wrap_u8, UInt8.toNat_ofNat']
  omega
def codeByte (x p1 i : Nat) : UInt8 := UInt8.ofNat (x + i * (2 * p1 + 1))
/-- k bytes of choices -/
def pickB (l : List UInt8) (p k : Nat) : List UInt8 := (List.range k).map (codeByte (nextV l p 256) (nextP l p 256))
theorem pickB_length (l : List UInt8) (p k : Nat) : (pickB l p k).length = k := by simp [pickB]
def codeJ (l : List UInt8) (p k j : Nat) : List UInt8 := (pickB l p k).take j ++ List.replicate (k - j) 0
theorem codeJ_length (l : List UInt8) (p k j : Nat) (h : j ≤ k) : (codeJ l p k j).length = k := by simp [codeJ, pickB_length]; omega
theorem codeJ_step (l : List UInt8) (p k j : Nat) (h : j < k) : (codeJ l p k j).set j (codeByte (nextV l p 256) (nextP l p 256) j) = codeJ l p k (j + 1) := by
  have hl := pickB_length l p k
  have hj : (pickB l p k)[j]'(by omega) = codeByte (nextV l p 256) (nextP l p 256) j := by simp [pickB]
  rw [codeJ, codeJ, List.set_append_right _ _ (by rw [List.length_take]; omega), List.length_take, Nat.min_eq_left (by omega), Nat.sub_self, show k - j = (k - (j + 1)) + 1 by omega, List.replicate_succ, List.set_cons_zero, List.take_succ_eq_append_getElem (by omega), hj, List.append_assoc]
  rfl
set_option maxRecDepth 100000 in
set_option maxHeartbeats 2000000 in
theorem caseBytes_any (g : Nat) (A : Option Addr) (n c : Nat) (l : List UInt8) (p : Nat) (hn : n ≤ 100000) (hp : p ≤ n) (k : Nat) (hk : k ≤ 1000) (B : Nat) (hB : B ≤ g) (w : World) (hg : Blk w g 46 (codesC A n c p)) (hr : Rd w B A n l) :
    Calls Tryz.prog 43 #[.pointer (some ⟨g, 0, none⟩), .int .i64 (k : Int)] w fun e w' => e = .returned (.slice (some ⟨w.heap.size, 0, none⟩) k k) ∧ Blk w' g 46 (codesC A n c (nextP l p 256)) ∧ MemG w g [blkE w.heap.size 5 ((pickB l p k).map u8v)] w' := by
  obtain ⟨i0, hi, hz0, hz1, hz2⟩ := info_parts Tryz.info5
  have hgl := hg.lt
  have hl := hr.1
  have HG := Lib.hid hg
  have HR := Lib.hid hr
  clear hg hr
  go_enter Tryz.func43, Tryz.ntmps43
  go_upto_region 2 with (refine wpList_make_full _ rfl (.tmp 9) (.tmp 9) 22 rfl w.heap.size 5 i0 (.int .u8 0) 1 Tryz.underlying22 hi hz0 hz1 .i64 .i64 k k k rfl rfl rfl rfl (by rw [hz2]; omega) (by unfold maxLen; omega) (Nat.le_refl _) ?_; intro w1 hown1 hg1)
  rw [show (Value.int IntKind.u8 0).cells = #[.int .u8 0] from rfl, toList_madeCells_one, Nat.mul_one] at hown1
  have hM1 : MemG w g [blkE w.heap.size 5 ((codeJ l p k 0).map u8v)] w1 := by
    have hb1 := row_blk hown1
    have h2 : (codeJ l p k 0).map u8v = List.replicate k (.int .u8 0) := by simp [codeJ, u8v]
    refine ⟨⟨hb1.lt, Nat.le_succ _, by rw [h2]; exact hb1, Nat.le_refl _⟩, ⟨hg1.os, hg1.tape, hg1.output, hg1.size, fun q hq _ => hg1.block q hq (by simp)⟩⟩
  have HM := Lib.hid hM1
  have HG1 := Lib.hid (HG.out.grown hg1 (by simp))
  have HR1 := Lib.hid (HR.out.below2 (by omega) (⟨hg1.os, hg1.tape, hg1.output, hg1.size, fun q hq => hg1.block q hq (by simp)⟩ : Below w.heap.size w w1))
  clear hM1 hown1 hg1
  go_wp2_with fail
  refine (caseNext_any g A n c l p hn hp 256 (by omega) B hB w1 HG1.out HR1.out).mono ?_
  rintro e w2 ⟨rfl, hG2, hgr⟩
  have hp1 := nextP_le l p 256 (by omega)
  have hxl := nextV_lt l p 256 (by omega)
  replace HM := Lib.hid (HM.out.next hgl hgr)
  have HG2 := Lib.hid hG2
  clear hG2 hgr HG1 HR1
  have HJ := Lib.hid (codeJ_step l p k)
  generalize nextV l p 256 = x at hxl HJ ⊢
  obtain ⟨p1, hp1e⟩ : ∃ q, nextP l p 256 = q := ⟨_, rfl⟩
  rw [hp1e] at hp1 HG2 HJ
  have HP1 := Lib.hid hp1e
  clear hp1e
  have f1 := HG2.out.cell 1
  rw [show (codesC A n c p1)[1]? = some (.int .i64 (p1 : Int)) from rfl] at f1
  obtain ⟨s2, hs2⟩ : ∃ q, 2 * p1 = q := ⟨_, rfl⟩
  have hw1 : IntKind.i64.wrap (2 * (p1 : Int)) = (s2 : Int) := by rw [IntWalk.i64_in _ (by omega)]; omega
  obtain ⟨s3, hs3⟩ : ∃ q, s2 + 1 = q := ⟨_, rfl⟩
  have hw2 : IntKind.i64.wrap ((s2 : Int) + 1) = (s3 : Int) := by rw [IntWalk.i64_in _ (by omega)]; omega
  have HS := Lib.hid (show 2 * p1 + 1 = s3 by omega)
  have hs3l : s3 ≤ 200001 := by omega
  clear hs2 hs3
  go_upto_region 4 with fail
  clear f1 hw1 hw2
  go_wp2_with fail
  go_loopw [21, 8] (fun z _ wr => ∃ j : Nat, j ≤ k ∧ z = .int .i64 (j : Int) ∧ Blk wr g 46 (codesC A n c p1) ∧ MemG w g [blkE w.heap.size 5 ((codeJ l p k j).map u8v)] wr) (fun z _ _ => k - (intOf z).toNat)
  case atStart => exact ⟨0, by omega, rfl, HG2.out, HM.out⟩
  case round =>
    clear HM HG2
    obtain ⟨j, hj, rfl, hgb, hM⟩ := hrel
    have HM := Lib.hid hM
    have HGB := Lib.hid hgb
    clear hM hgb
    by_cases hlt : j < k
    · have dl : decide ((j : Int) < (k : Int)) = true := by simp; omega
      have bj : (j : Int) < (k : Int) := by omega
      have hcl := codeJ_length l p k j hj
      have hlk : ((codeJ l p k j).map u8v)[j]? = some (u8v ((codeJ l p k j).getD j 0)) := by rw [List.getElem?_map, List.getD_eq_getElem?_getD, List.getElem?_eq_getElem (by omega)]; rfl
      have fx := ((HM.out.blk 0 rfl).cell j).trans hlk
      generalize u8v ((codeJ l p k j).getD j 0) = y at fx
      have zx := (HM.out.blk 0 rfl).frozen j
      obtain ⟨m1, hm1⟩ : ∃ q, j * s3 = q := ⟨_, rfl⟩
      have hmb : m1 ≤ 1000 * 200001 := by rw [← hm1]; exact Nat.mul_le_mul (by omega) hs3l
      have hm2 : (j : Int) * (s3 : Int) = (m1 : Int) := by rw [← hm1, Int.natCast_mul]
      have hw3 : IntKind.i64.wrap ((j : Int) * (s3 : Int)) = (m1 : Int) := by rw [hm2]; exact IntWalk.i64_in _ (by omega)
      obtain ⟨v, hv⟩ : ∃ q, x + m1 = q := ⟨_, rfl⟩
      have hw4 : IntKind.i64.wrap ((x : Int) + (m1 : Int)) = (v : Int) := by rw [IntWalk.i64_in _ (by omega)]; omega
      have hw5 := codeByte_wrap v
      have hst : (codeJ l p k j).set j (UInt8.ofNat v) = codeJ l p k (j + 1) := by rw [← HJ.out j hlt, codeByte, HS.out, hm1, hv]
      generalize UInt8.ofNat v = u at hw5 hst
      have HN := Lib.hid (show MemG w g [blkE w.heap.size 5 ((codeJ l p k (j + 1)).map u8v)] (wr.setCell ⟨w.heap.size, j, none⟩ (.int .u8 (u.toNat : Int))) from by have h := HM.out.setCell 0 rfl j (u8v u); rw [← List.map_set, hst] at h; exact h)
      have HGN := Lib.hid (show Blk (wr.setCell ⟨w.heap.size, j, none⟩ (.int .u8 (u.toNat : Int))) g 46 (codesC A n c p1) from HGB.out.far (by dsimp only; omega) _)
      clear hst hm1 hmb hm2 hv hcl hlk HM HGB
      go_wp2
      go_roundw
      case rel => exact ⟨j + 1, by omega, by go_num, HGN.out, HN.out⟩
      case measure => simp [intOf]; omega
    · obtain rfl : j = k := by omega
      have dl : decide ((j : Int) < (j : Int)) = false := by simp
      have he : codeJ l p j j = pickB l p j := by rw [codeJ, Nat.sub_self, List.replicate_zero, List.append_nil, List.take_of_length_le (by rw [pickB_length]; omega)]
      rw [he] at HM
      go_wp2
      go_ret
      exact ⟨rfl, by rw [HP1.out]; exact HGB.out, HM.out⟩
end Go.Proofs.YtcbfchkhbngpkaaGreatDoor
namespace Go.Proofs.YtcbfchkhbngpkaaGreatDoor
open Go.RowKit

/-- a byte without one bit, counted from the highest -/
def clearBit (x : UInt8) (m : Nat) : UInt8 := x &&& ~~~(UInt8.ofNat (128 / 2 ^ m))
theorem clear_all : ∀ m : Fin 8, ∀ n : Fin 256, bits BinOp.andNot IntKind.u8 (n.val : Int) ((128 / 2 ^ m.val : Nat) : Int) = ((clearBit (UInt8.ofNat n.val) m.val).toNat : Int) := by decide +kernel
theorem clear_bits (x : UInt8) (m : Nat) (h : m < 8) : bits BinOp.andNot IntKind.u8 (x.toNat : Int) (128 / 2 ^ m) = ((clearBit x m).toNat : Int) := by
  have h1 := clear_all ⟨m, h⟩ ⟨x.toNat, x.toNat_lt⟩
  simp only [UInt8.ofNat_toNat] at h1
  rw [← h1, Int.natCast_ediv, Int.natCast_pow]
  rfl
/-- the j bits behind b cleared -/
def clearS (ip : List UInt8) (b : Nat) : Nat → List UInt8
  | 0 => ip
  | j + 1 => (clearS ip b j).set ((b + j) / 8) (clearBit ((clearS ip b j).getD ((b + j) / 8) 0) ((b + j) % 8))
theorem clearS_length (ip : List UInt8) (b : Nat) : ∀ j, (clearS ip b j).length = ip.length
  | 0 => rfl
  | j + 1 => by rw [clearS, List.length_set, clearS_length]
def maskM (a : AddrM) (b : Nat) : AddrM := ⟨a.six, clearS a.ip b (128 - b)⟩
theorem maskM_ok (a : AddrM) (h : a.ok) (b : Nat) : (maskM a b).ok := (clearS_length _ _ _).trans h
def pref0 : List Value := prefC addr0 0
theorem pref_built (a : AddrM) (ha : a.ok) (q : Int) : Tryz.prog.built 60 [(0, .agg a.cells.toArray), (1, .int .i64 q)] = some (prefC a q).toArray := by
  rw [built_of 60 [17, 1] [addr0.cells, [.int .i64 0]] rfl #[(0, 17), (17, 1)] (fun parts => by kernel_rfl) (fun i h => by
    match i, h with
    | 0, _ => rfl
    | 1, _ => rfl) _ (fun p hp => by
    simp only [List.mem_cons, List.not_mem_nil, or_false] at hp
    rcases hp with rfl | rfl
    · simp [Value.cells, AddrM.cells_length ha]
    · rfl)]
  simp [prefC, Value.cells]
set_option maxRecDepth 100000 in
set_option maxHeartbeats 4000000 in
theorem caseMasked_any (a : AddrM) (h : a.ok) (b : Nat) (hb : b ≤ 128) (w : World) :
    Calls Tryz.prog 37 #[.agg a.cells.toArray, .int .i64 (b : Int)] w fun e w' => e = .returned (.agg (prefC (maskM a b) (b : Int)).toArray) ∧ Below w.heap.size w w' := by
  obtain ⟨ca, hca⟩ : ∃ x, a.cells.toArray = x := ⟨_, rfl⟩
  rw [hca]
  have HM := Lib.hid (show Mem w [blkE (w.heap.size + 1) 60 pref0, blkE w.heap.size 53 a.cells] ((w.alloc (.cells ca 53)).alloc (.cells #[.bool false, .int .u8 0, .int .u8 0, .int .u8 0, .int .u8 0, .int .u8 0, .int .u8 0, .int .u8 0, .int .u8 0, .int .u8 0, .int .u8 0, .int .u8 0, .int .u8 0, .int .u8 0, .int .u8 0, .int .u8 0, .int .u8 0, .int .i64 0] 60)) from ((Mem.nil w).alloc rfl 53 ca a.cells hca.symm).alloc (by simp) 60 #[.bool false, .int .u8 0, .int .u8 0, .int .u8 0, .int .u8 0, .int .u8 0, .int .u8 0, .int .u8 0, .int .u8 0, .int .u8 0, .int .u8 0, .int .u8 0, .int .u8 0, .int .u8 0, .int .u8 0, .int .u8 0, .int .u8 0, .int .i64 0] pref0 rfl)
  have HO := Lib.hid h
  clear hca h
  go_enter Tryz.func37, Tryz.ntmps37
  go_upto_region 1 with fail
  generalize ((w.alloc (.cells ca 53)).alloc (.cells #[.bool false, .int .u8 0, .int .u8 0, .int .u8 0, .int .u8 0, .int .u8 0, .int .u8 0, .int .u8 0, .int .u8 0, .int .u8 0, .int .u8 0, .int .u8 0, .int .u8 0, .int .u8 0, .int .u8 0, .int .u8 0, .int .u8 0, .int .i64 0] 60)) = w1 at HM ⊢
  go_wp2_with fail
  go_loopw [5] (fun z wr => ∃ k : Nat, b ≤ k ∧ k ≤ 128 ∧ z = .int .i64 (k : Int) ∧ Mem w [blkE (w.heap.size + 1) 60 pref0, blkE w.heap.size 53 (AddrM.mk a.six (clearS a.ip b (k - b))).cells] wr) (fun z _ => 128 - (intOf z).toNat)
  case atStart => exact ⟨b, by omega, by omega, rfl, by rw [Nat.sub_self]; exact HM.out⟩
  case round =>
    clear HM
    obtain ⟨k, hbk, hk, rfl, hM⟩ := hrel
    have HM := Lib.hid hM
    clear hM
    have hok : (AddrM.mk a.six (clearS a.ip b (k - b))).ok := (clearS_length _ _ _).trans HO.out
    by_cases hlt : k < 128
    · have dl : decide ((k : Int) < 128) = true := by simp; omega
      obtain ⟨j, hj⟩ : ∃ j, k - b = j := ⟨_, rfl⟩
      obtain ⟨q, hq⟩ : ∃ q, k / 8 = q := ⟨_, rfl⟩
      obtain ⟨m, hm⟩ : ∃ q, k % 8 = q := ⟨_, rfl⟩
      have hq16 : q < 16 := by omega
      have hm8 : m < 8 := by omega
      have hn : clearS a.ip b (k + 1 - b) = (clearS a.ip b (k - b)).set q (clearBit ((clearS a.ip b (k - b)).getD q 0) m) := by
        rw [show k + 1 - b = (k - b) + 1 by omega, clearS, show b + (k - b) = k by omega, hq, hm]
      have fx := ((HM.out.blk 1 rfl).cell (1 + q)).trans (AddrM.ip_cell _ hok q hq16)
      have zx := (HM.out.blk 1 rfl).frozen (1 + q)
      have hset := AddrM.set_cell (AddrM.mk a.six (clearS a.ip b (k - b))) q
      generalize (clearS a.ip b (k - b)) = ip at HM hn fx hset hok
      generalize hx : ip.getD q 0 = x at fx hn
      have hcb := clear_bits x m hm8
      generalize clearBit x m = y at hcb hn
      have hqI : (k : Int) / 8 = (q : Int) := by omega
      have hmI : (k : Int) % 8 = (m : Int) := by omega
      have hmin : min m 8 = m := by omega
      have bq : (q : Int) < 16 := by omega
      have HN := Lib.hid (show Mem w [blkE (w.heap.size + 1) 60 pref0, blkE w.heap.size 53 (AddrM.mk a.six (clearS a.ip b (k + 1 - b))).cells] (wr.drew.setCell ⟨w.heap.size, 1 + q, none⟩ (.int .u8 (y.toNat : Int))) from by have h := HM.out.drew.setCell 1 rfl (1 + q) (u8v y); rw [hset, ← hn] at h; exact h)
      clear hset hn hx hok HM
      go_upto_region 4 with fail
      go_region
      go_wp2_with fail
      go_roundw
      case rel => exact ⟨k + 1, by omega, by omega, by go_num, HN.out⟩
      case measure => simp [intOf]; omega
    · obtain rfl : k = 128 := by omega
      have HMO := Lib.hid (maskM_ok a HO.out b)
      have hb2 := pref_built (maskM a b) HMO.out (b : Int)
      obtain ⟨cm, hcm⟩ : ∃ x, (maskM a b).cells.toArray = x := ⟨_, rfl⟩
      obtain ⟨cp, hcp⟩ : ∃ x, (prefC (maskM a b) (b : Int)).toArray = x := ⟨_, rfl⟩
      rw [hcm, hcp] at hb2
      have HB := Lib.hid (And.intro hb2 (And.intro hcm hcp))
      have HM2 := Lib.hid (show Mem w [blkE (w.heap.size + 1) 60 pref0, blkE w.heap.size 53 (maskM a b).cells] wr from HM.out)
      have HLP := Lib.hid (prefC_length (maskM a b) HMO.out (b : Int))
      clear hb2 hcm hcp HM hok
      (try rw [show ((128 : Nat) : Int) = 128 from rfl])
      go_wp2_with (first | (refine wpList_load_obj rfl 53 (.tmp 2) rfl w.heap.size 0 rfl (maskM a b).cells (HM2.out.blk 1 rfl).all _ Tryz.underlying53 rfl (addr_cellsOf _ HMO.out) ?_; rw [HB.out.2.1]) | (refine wpList_build_as rfl 60 [(0, .tmp 22), (1, .tmp 23)] rfl cp ?_ ?_; exact HB.out.1) | (refine wpList_store_blk rfl 60 (.tmp 4) (.tmp 24) rfl (w.heap.size + 1) (prefC (maskM a b) (b : Int)) rfl (by show Value.agg cp = _; rw [HB.out.2.2]) 60 pref0 (HM2.out.blk 0 rfl) (pref_cellsOf _ HMO.out _) (by rw [HLP.out]; rfl) (prefC_one _ _) ?_; intro w9 hb9 hg9))
      exact bodyPost_ret (results_obj rfl _ _ (w.heap.size + 1) 60 (prefC (maskM a b) (b : Int)) _ rfl hb9 Tryz.underlying60 rfl (pref_cellsOf _ HMO.out _)) rfl ⟨rfl, (HM2.out.put 0 rfl _ hg9 hb9).bel⟩
end Go.Proofs.YtcbfchkhbngpkaaGreatDoor
