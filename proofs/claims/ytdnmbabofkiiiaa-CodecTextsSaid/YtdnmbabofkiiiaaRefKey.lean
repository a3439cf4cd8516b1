/-
  The contracts of the reference's keys in base64: burrowref01.Text, value, ParseKey.
-/
import Derived.Test.YtdnmbabofkiiiaaRefText
import Derived.Test.YtdnmbabofkiiiaaKeyMem
import Derived.Test.YtdnmbabofkiiiaaBits
import Derived.Outline
namespace Go.Proofs.Ytdnmbabofkiiiaa
open Go.RowKit

theorem bit_and (x E : Nat) (hx : x < 256) : bits BinOp.and IntKind.u8 ((x : Int) / 2 ^ E) 1 = ((x / 2 ^ E % 2 : Nat) : Int) := by
  have e1 : (x : Int) / 2 ^ E = ((x / 2 ^ E : Nat) : Int) := by rw [Int.natCast_ediv, Int.natCast_pow]; rfl
  have h := Nat.div_le_self x (2 ^ E)
  have := u8_and_nat (x / 2 ^ E) 1 (by omega) (by omega)
  rw [nat_mask1] at this
  rw [e1]
  exact this
theorem bitK_low (k : List UInt8) (j : Nat) (h : j / 8 < k.length) : bitK (k ++ [0]) j = (k.getD (j / 8) 0).toNat / 2 ^ (7 - j % 8) % 2 := by
  unfold bitK
  rw [getD_lt h, getD_lt (by simp; omega), List.getElem_append_left h]
theorem bitK_high (k : List UInt8) (j : Nat) (h : j / 8 = k.length) : bitK (k ++ [0]) j = 0 := by
  unfold bitK
  rw [h, getD_lt (by simp), List.getElem_append_right (Nat.le_refl _)]
  simp
theorem b64Cut (k : Nat) (hk : k < 64) : ByteArray.extract (ByteArray.mk #[65, 66, 67, 68, 69, 70, 71, 72, 73, 74, 75, 76, 77, 78, 79, 80, 81, 82, 83, 84, 85, 86, 87, 88, 89, 90, 97, 98, 99, 100, 101, 102, 103, 104, 105, 106, 107, 108, 109, 110, 111, 112, 113, 114, 115, 116, 117, 118, 119, 120, 121, 122, 48, 49, 50, 51, 52, 53, 54, 55, 56, 57, 43, 47]) k (k + 1) = ⟨#[b64D k]⟩ := by
  have : ∀ d : Fin 64, ByteArray.extract (ByteArray.mk #[65, 66, 67, 68, 69, 70, 71, 72, 73, 74, 75, 76, 77, 78, 79, 80, 81, 82, 83, 84, 85, 86, 87, 88, 89, 90, 97, 98, 99, 100, 101, 102, 103, 104, 105, 106, 107, 108, 109, 110, 111, 112, 113, 114, 115, 116, 117, 118, 119, 120, 121, 122, 48, 49, 50, 51, 52, 53, 54, 55, 56, 57, 43, 47]) d.val (d.val + 1) = ⟨#[b64D d.val]⟩ := by decide +kernel
  exact this ⟨k, hk⟩
theorem val_string {a b : ByteArray} (h : a.data.toList = b.data.toList) : Value.string a = Value.string b := by rw [Go.WideShapes.bytes_inj h]

set_option maxRecDepth 100000 in
set_option maxHeartbeats 1000000 in
theorem refText_any (k : List UInt8) (hk : k.length = 32) (ck : Array Value) (hck : ck = (k.map u8v).toArray) (w : World) :
    Calls Try.prog 21 #[.agg ck] w fun e w' => e = .returned (.string ⟨(textL k).toArray⟩) ∧ Below w.heap.size w w' := by
  have hbk : Blk (w.alloc (.cells ck 33)) w.heap.size 33 (k.map u8v) := by rw [hck]; exact Blk.new w _ _
  have HB := Lib.hid hbk
  have HK := Lib.hid hk
  clear hbk hck hk
  go_enter Try.func21, Try.ntmps21
  go_wp2_with fail
  have hblk := HB.out
  have hbw : Below w.heap.size w (w.alloc (.cells ck 33)) := (Below.refl _ _).alloc (Nat.le_refl _) _
  generalize w.alloc _ = W at hblk hbw ⊢
  have HBLK := Lib.hid hblk
  have HBW := Lib.hid hbw
  clear hblk hbw HB
  go_loop [3, 4] (fun v i => ∃ i' : Nat, i' ≤ 43 ∧ i = .int .i64 i' ∧ v = .string ⟨(chrs k i').toArray⟩) (fun _ i => 43 - (intOf i).toNat)
  case atStart => exact ⟨0, by omega, rfl, rfl⟩
  case round =>
    obtain ⟨i, hi, rfl, rfl⟩ := hrel
    by_cases hlt : i < 43
    · go_wp2_with fail
      go_loop [5, 6] (fun n j => ∃ m : Nat, m ≤ 6 ∧ j = .int .i64 (6 * (i : Int) + (m : Int)) ∧ n = .int .i64 (bitsN (k ++ [0]) (6 * i) m : Nat)) (fun _ j => 6 * i + 6 - (intOf j).toNat)
      case atStart => exact ⟨0, by omega, by go_num, rfl⟩
      case round =>
        obtain ⟨m, hm, rfl, rfl⟩ := hrel
        by_cases hm6 : m < 6
        · by_cases h256 : 6 * i + m < 256
          · have hbd := bitsN_lt (k ++ [0]) (6 * i) m
            have hp : 2 ^ m ≤ 2 ^ 6 := Nat.pow_le_pow_right (by omega) (by omega)
            obtain ⟨b, hb⟩ : ∃ b, bitsN (k ++ [0]) (6 * i) m = b := ⟨_, rfl⟩
            have hb64 : b < 64 := by omega
            obtain ⟨x, hx⟩ : ∃ x, k.getD ((6 * i + m) / 8) 0 = x := ⟨_, rfl⟩
            have hj8 : (6 * i + m) / 8 < k.length := by have := HK.out; omega
            have hcell : W.cell? ⟨w.heap.size, (6 * i + m) / 8, none⟩ = some (.int .u8 (x.toNat : Int)) := by
              rw [HBLK.out.cell, map_u8v_getElem? k _ hj8, ← hx, getD_lt hj8]
            rw [hb]
            have s1 : 6 * (i : Int) + (m : Int) < 256 := by omega
            have hbit := bit_and x.toNat (7 - (6 * i + m) % 8) x.toNat_lt
            have hnext : bitsN (k ++ [0]) (6 * i) (m + 1) = 2 * b + x.toNat / 2 ^ (7 - (6 * i + m) % 8) % 2 := by
              rw [bitsN, hb, bitK_low k _ hj8, hx]
            obtain ⟨y, hy⟩ : ∃ y, x.toNat / 2 ^ (7 - (6 * i + m) % 8) % 2 = y := ⟨_, rfl⟩
            have hy2 : y < 2 := by rw [← hy]; exact Nat.mod_lt _ (by omega)
            rw [hy] at hbit hnext
            have HNX := Lib.hid hnext
            clear hbd hp hb hx hy hnext
            obtain rfl | rfl : y = 0 ∨ y = 1 := by omega
            · go_wp2_with fail
              go_round
              case rel => exact ⟨m + 1, by omega, by go_num, by rw [HNX.out]; go_num⟩
              case measure => simp [intOf]; omega
            · go_wp2_with fail
              go_round
              case rel => exact ⟨m + 1, by omega, by go_num, by rw [HNX.out]; go_num⟩
              case measure => simp [intOf]; omega
          · have hj8 : (6 * i + m) / 8 = k.length := by have := HK.out; omega
            have hnext : bitsN (k ++ [0]) (6 * i) (m + 1) = 2 * bitsN (k ++ [0]) (6 * i) m + 0 := by rw [bitsN, bitK_high k _ hj8]
            have hbd := bitsN_lt (k ++ [0]) (6 * i) m
            have hp : 2 ^ m ≤ 2 ^ 6 := Nat.pow_le_pow_right (by omega) (by omega)
            obtain ⟨b, hb⟩ : ∃ b, bitsN (k ++ [0]) (6 * i) m = b := ⟨_, rfl⟩
            have hb64 : b < 64 := by omega
            rw [hb] at hnext ⊢
            have HNX := Lib.hid hnext
            have s1 : decide (6 * (i : Int) + (m : Int) < 256) = false := by rw [decide_eq_false_iff_not]; omega
            have s2 : 256 ≤ 6 * (i : Int) + (m : Int) := by omega
            clear hbd hp hb hnext
            go_wp2_with fail
            go_round
            case rel => exact ⟨m + 1, by omega, by go_num, by rw [HNX.out]; go_num⟩
            case measure => simp [intOf]; omega
        · obtain rfl : m = 6 := by omega
          have hs : bitsN (k ++ [0]) (6 * i) 6 = sext (k ++ [0]) i := (sext_bits _ i (by simp [HK.out]; omega)).symm
          have hs64 := sext_lt (k ++ [0]) i
          rw [hs]
          obtain ⟨d, hd⟩ : ∃ d, sext (k ++ [0]) i = d := ⟨_, rfl⟩
          rw [hd] at hs64 ⊢
          have HD := Lib.hid hd
          have e1 : (0 : Int) ≤ (d : Int) := by omega
          have e2 : (d : Int) ≤ (d : Int) + 1 := by omega
          have e3 : (d : Int) + 1 ≤ 64 := by omega
          have e4 : (0 : Int) ≤ (d : Int) + 1 := by omega
          have had : ∀ w' : World, (Op.stringOp .add ⟨(chrs k i).toArray⟩ (ByteArray.extract (ByteArray.mk #[65, 66, 67, 68, 69, 70, 71, 72, 73, 74, 75, 76, 77, 78, 79, 80, 81, 82, 83, 84, 85, 86, 87, 88, 89, 90, 97, 98, 99, 100, 101, 102, 103, 104, 105, 106, 107, 108, 109, 110, 111, 112, 113, 114, 115, 116, 117, 118, 119, 120, 121, 122, 48, 49, 50, 51, 52, 53, 54, 55, 56, 57, 43, 47]) d (d + 1))).run Try.prog w' = .ok (.string ⟨(chrs k i ++ [b64D d]).toArray⟩) w' := fun w' => by
            rw [b64Cut d hs64]
            exact run_string_add_lists w' (chrs k i) [b64D d] (by rw [chrs_length]; omega) (by simp)
          clear hs hd
          go_wp2_with fail
          go_round
          case rel => exact ⟨i + 1, by omega, by go_num, by rw [chrs_succ, HD.out]⟩
          case measure => simp [intOf]; omega
    · obtain rfl : i = 43 := by omega
      have had : ∀ w' : World, (Op.stringOp .add ⟨(chrs k 43).toArray⟩ ⟨#[61]⟩).run Try.prog w' = .ok (.string ⟨(chrs k 43 ++ [61]).toArray⟩) w' := fun w' =>
        run_string_add_lists w' (chrs k 43) [61] (by rw [chrs_length]; omega) (by simp)
      go_wp2
      go_ret
      exact ⟨rfl, HBW.out⟩

/-- the reference's value of a character: the number, or 64 -/
theorem value_any (c : UInt8) (v : Nat) (hv : v = if valid c then (b64V c).toNat else 64) (w : World) :
    Calls Try.prog 34 #[.int .u8 (c.toNat : Int)] w fun e w' => e = .returned (.int .i64 (v : Int)) ∧ w = w' := by
  have HV := Lib.hid hv
  clear hv
  go_enter Try.func34, Try.ntmps34
  go_wp2
  go_loop [3] (fun i => ∃ i' : Nat, i' ≤ 64 ∧ i = .int .i64 i' ∧ Hid (∀ d, d < i' → b64D d ≠ c)) (fun i => 64 - (intOf i).toNat)
  case atStart => exact ⟨0, by omega, rfl, Lib.hid fun d hd => absurd hd (by omega)⟩
  case round =>
    obtain ⟨i, hi, rfl, hno⟩ := hrel
    by_cases hlt : i < 64
    · have hI : ∀ h, (ByteArray.mk #[65, 66, 67, 68, 69, 70, 71, 72, 73, 74, 75, 76, 77, 78, 79, 80, 81, 82, 83, 84, 85, 86, 87, 88, 89, 90, 97, 98, 99, 100, 101, 102, 103, 104, 105, 106, 107, 108, 109, 110, 111, 112, 113, 114, 115, 116, 117, 118, 119, 120, 121, 122, 48, 49, 50, 51, 52, 53, 54, 55, 56, 57, 43, 47])[i]'h = b64D i := fun h => b64Idx _ ⟨rfl, hlt⟩ h
      by_cases he : b64D i = c
      · have hval : valid c = true := by rw [valid_iff, ← he, b64V_D i hlt]; omega
        obtain rfl : v = i := by rw [HV.out, if_pos hval, ← he, b64V_D i hlt, Int.toNat_natCast]
        rw [he] at hI
        have hH := Lib.hid he
        clear he HV
        go_wp2
        go_ret
        exact ⟨rfl, rfl⟩
      · have hne : ((b64D i).toNat : Int) ≠ (c.toNat : Int) := fun h => he (UInt8.toNat_inj.1 (by omega))
        have hnb : (((b64D i).toNat : Int) == (c.toNat : Int)) = false := by rw [beq_eq_false_iff_ne]; exact hne
        have HE := Lib.hid he
        clear he hne
        go_wp2
        go_round
        case rel => exact ⟨i + 1, by omega, by go_num, Lib.hid fun d hd => by
          rcases Nat.lt_or_ge d i with h | h
          · exact hno.out d h
          · obtain rfl : d = i := by omega
            exact HE.out⟩
        case measure => simp [intOf]; omega
    · obtain rfl : i = 64 := by omega
      have hval : ¬ valid c = true := by
        intro h
        have h1 := valid_back c h
        exact hno.out _ (b64V_lt c) h1
      obtain rfl : v = 64 := by rw [HV.out, if_neg hval]
      clear hval HV
      go_wp2
      go_ret
      exact ⟨rfl, rfl⟩
end Go.Proofs.Ytdnmbabofkiiiaa
