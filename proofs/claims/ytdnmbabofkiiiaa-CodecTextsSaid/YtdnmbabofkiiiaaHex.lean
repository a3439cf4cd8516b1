/-
  The contract of codec.Hex: two lower-case hexadecimal digits for each byte.
-/
import Derived.Test.YtdnmbabofkiiiaaMem
import Derived.Test.YtdnmbabofkiiiaaNum
import Derived.Deep.RegionLaw
import Derived.RegionTactic
import Derived.BigRegion
import Derived.BigQuiet
import Derived.Deep.QuietTactic
import Derived.Laws.BitsAllLaws
import Derived.Outline
namespace Go.Proofs.Ytdnmbabofkiiiaa
open Go.RowKit

theorem hex_any (B : Nat) (A : Option Addr) (n cap : Nat) (l : List UInt8) (hn : n ≤ 1000000) (w : World) (hr : Rd w B A n l) (hB : B ≤ w.heap.size) :
    Calls Try.prog 22 #[.slice A n cap] w fun e w' => e = .returned (.string ⟨(hexL l).toArray⟩) ∧ Below w.heap.size w w' := by
  have hl : l.length = n := hr.1
  have HR := Lib.hid hr
  have HL := Lib.hid hl
  clear hr hl
  obtain ⟨i0, hi, hz0, hz1, hz2⟩ := info_parts Try.info5
  go_enter Try.func22, Try.ntmps22
  go_wp2_with (refine wpList_make_own _ rfl (.const (.int .i64 0)) (.tmp 8) 23 rfl w.heap.size 5 i0 (.int .u8 0) 1 Try.underlying23 hi hz0 hz1 .i64 .i64 (2 * n) (2 * n) rfl rfl (by omega) (by rw [hz2]; omega) (by unfold maxLen; omega) (Nat.le_refl _) ?_; intro w1 hown1 hg1)
  go_loopw [3, 12, 5] (fun v i _ wr => ∃ j : Nat, j ≤ n ∧ i = .int .i64 j ∧ wr.ownsRow w.heap.size 5 1 v (2 * j) ((hexL (l.take j)).map u8v) ∧ Below w.heap.size w wr) (fun _ i _ _ => n - (intOf i).toNat)
  case atStart => exact ⟨0, by omega, rfl, hown1, (Below.refl _ _).grown hg1 (Nat.le_refl _) (by simp)⟩
  case round =>
    obtain ⟨j, hj, rfl, hown, hb⟩ := hrel
    by_cases hlt : j < n
    · obtain ⟨b, off, rfl, hbB, hc⟩ := HR.out.at_ (by omega)
      have hlj : j < l.length := by have := HL.out; omega
      obtain ⟨x, hx⟩ : ∃ x, l[j] = x := ⟨_, rfl⟩
      have hc1 := (hb.cell (p := ⟨b, off + j, none⟩) (Nat.lt_of_lt_of_le hbB hB)).trans (hc j hlj)
      rw [hx] at hc1
      have HX := Lib.hid hx
      clear hc hx
      have hb8 := x.toNat_lt
      have ha : bits BinOp.and IntKind.u8 (x.toNat : Int) 15 = ((x.toNat % 16 : Nat) : Int) := by
        have := u8_and_nat x.toNat 15 (by omega) (by omega)
        rw [nat_mask4] at this
        exact this
      have d1 : (0 : Int) ≤ (x.toNat : Int) / 16 := by omega
      have d2 : (x.toNat : Int) / 16 < 16 := by omega
      have d3 : (0 : Int) ≤ (x.toNat : Int) % 16 := by omega
      have d4 : (x.toNat : Int) % 16 < 16 := by omega
      have hI1 : ∀ h, (ByteArray.mk #[48, 49, 50, 51, 52, 53, 54, 55, 56, 57, 97, 98, 99, 100, 101, 102])[((x.toNat : Int) / 16).toNat]'h = hexD (x.toNat / 16) := fun h => hexIdx' _ (by omega) h
      have hI2 : ∀ h, (ByteArray.mk #[48, 49, 50, 51, 52, 53, 54, 55, 56, 57, 97, 98, 99, 100, 101, 102])[((x.toNat : Int) % 16).toNat]'h = hexD (x.toNat % 16) := fun h => hexIdx' _ (by omega) h
      have hsz := hb.size
      have hm1 : ∀ u ∈ [Value.int .u8 (hexD (x.toNat / 16)).toNat, .int .u8 (hexD (x.toNat % 16)).toNat], u.oneCell' = true := by
        intro u hu
        simp only [List.mem_cons, List.not_mem_nil, or_false] at hu
        rcases hu with rfl | rfl <;> rfl
      have HM1 := Lib.hid hm1
      clear hm1
      go_wp2_with fail
      go_region_law (refine step_append_bytes _ rfl (.tmp 16) (.tmp 23) 23 rfl w.heap.size 5 i0 (.int .u8 0) Try.underlying23 hi hz0 hz1 hz2 rfl u3 (2 * j) ((hexL (l.take j)).map u8v) (by simp [Act.eval]) (hown.alloc _).drew ⟨wr.heap.size, 0, none⟩ 2 2 [.int .u8 (hexD (x.toNat / 16)).toNat, .int .u8 (hexD (x.toNat % 16)).toNat] (by simp [Act.eval]) rfl (cell_two_new _ _ _ _) HM1.out (by omega) (by simp; omega) ?_; intro v' w' hown' hg')
      all_goals
        have HO := Lib.hid hown'
        clear hown'
        go_wp2
        go_roundw
        case rel =>
          refine ⟨j + 1, by omega, by go_num, ?_, (((hb.alloc hsz _).drew).grown hg' (by simp; omega) (own_from hown))⟩
          have h := HO.out
          rw [hexL_take_succ l j hlj, HX.out, List.map_append]
          exact h
        case measure => simp [intOf]; omega
    · obtain rfl : j = n := by omega
      obtain ⟨A', c', rfl, _⟩ := own_slice hown
      have hcv := run_string_of_rd (P := Try.prog) 23 9 5 c' Try.underlying23 Try.underlying5 Try.underlying9 (Rd.of_own hown)
      have HE : Hid (l.take j = l) := Lib.hid (List.take_of_length_le (by have := HL.out; omega))
      go_wp2
      go_ret
      exact ⟨ret_str (by rw [HE.out]), hb⟩
end Go.Proofs.Ytdnmbabofkiiiaa
