/-
  The contract of codec.Text: the key in base64.
-/
import Derived.Test.YtdnmbabofkiiiaaRead
import Derived.Deep.RegionLaw
import Derived.RegionTactic
import Derived.BigRegion
import Derived.BigQuiet
import Derived.Deep.QuietTactic
import Derived.Laws.CopyOwn
import Derived.Maps.AppendAt
import Derived.Outline
namespace Go.Proofs.Ytdnmbabofkiiiaa
open Go.RowKit

/-- a key as a value -/
def keyV (k : List UInt8) : Value := .agg (k.map u8v).toArray

set_option maxRecDepth 100000 in
set_option maxHeartbeats 1000000 in
theorem text_any (k : List UInt8) (hk : k.length = 32) (ck : Array Value) (hck : ck = (k.map u8v).toArray) (w : World) :
    Calls Try.prog 23 #[.agg ck] w fun e w' => e = .returned (.string ⟨(textL k).toArray⟩) ∧ Below w.heap.size w w' := by
  have hbk : Blk (w.alloc (.cells ck 33)) w.heap.size 33 (k.map u8v) := by rw [hck]; exact Blk.new w _ _
  have HB := Lib.hid hbk
  have HK := Lib.hid hk
  clear hbk hck hk
  obtain ⟨i0, hi, hz0, hz1, hz2⟩ := info_parts Try.info5
  go_enter Try.func23, Try.ntmps23
  go_wp2_with fail
  generalize hW : (w.alloc (.cells ck 33)).alloc _ = W
  have hb1 : Blk W w.heap.size 33 (k.map u8v) := by rw [← hW]; exact HB.out.alloc _
  have hb2 : Blk W (w.heap.size + 1) 50 (List.replicate 33 (.int .u8 0)) := by
    rw [← hW]
    have := Blk.new (w.alloc (.cells ck 33)) 50 (List.replicate 33 (.int .u8 0))
    rw [World.size_alloc] at this
    exact this
  have hbw : Below w.heap.size w W := by
    rw [← hW]
    exact ((Below.refl _ _).alloc (Nat.le_refl _) _).alloc (by simp) _
  have hsz : w.heap.size + 2 ≤ W.heap.size := by rw [← hW]; simp
  have hs1 : (k.map u8v).length = Nat.min 32 33 := by simp [HK.out]
  have hs2 : ∀ j v, (k.map u8v)[j]? = some v → W.cell? ((⟨w.heap.size, 0, none⟩ : Addr).add j) = some v := by
    intro j v hj
    rw [Go.WideShapes.add_plain, Nat.zero_add, hb1.cell, hj]
  have hs3 : 0 + (k.map u8v).length ≤ (List.replicate 33 (Value.int .u8 0)).length := by simp [HK.out]
  have hs4 : ∀ v ∈ k.map u8v, v.oneCell' = true := u8v_one k
  have H1 := Lib.hid hs1
  have H2 := Lib.hid hs2
  have H3 := Lib.hid hs3
  have H4 := Lib.hid hs4
  clear hs1 hs2 hs3 hs4 hb1 hW
  go_region_law (refine step_copy_bytes _ rfl (.tmp 8) (.tmp 9) 23 23 rfl 5 Try.underlying23 (by kernel_rfl) (w.heap.size + 1) 0 33 33 ⟨w.heap.size, 0, none⟩ 32 32 (by simp [Act.eval, Act.put]) (by simp [Act.eval, Act.put]) _ _ hb2.drew (k.map u8v) H1.out H2.out H3.out H4.out ?_; intro w2 hb3 hg3)
  have hb4 : Blk w2 (w.heap.size + 1) 50 ((k ++ [0]).map u8v) := by
    have h := hb3
    simp only [List.take_zero, List.nil_append, Nat.zero_add, List.length_map, HK.out, List.drop_replicate, Nat.reduceSub] at h
    rw [List.map_append]
    exact h
  have hbw2 : Below w.heap.size w w2 := (hbw.drew).grown hg3 (by simp; omega) (by intro q hq; injection hq with hq; omega)
  have hsz2 : w.heap.size + 2 ≤ w2.heap.size := Nat.le_trans hsz hg3.size
  clear hb3 hg3 hb2 hbw hsz H1 H2 H3 H4
  clear HB
  go_wp2_with (refine wpList_make_own _ rfl (.const (.int .i64 0)) (.const (.int .i64 44)) 23 rfl (w.heap.size + 2) 5 i0 (.int .u8 0) 1 Try.underlying23 hi hz0 hz1 .i64 .i64 44 44 rfl rfl rfl (by rw [hz2]; omega) (by unfold maxLen; omega) hsz2 ?_; intro w3 hown3 hg4)
  go_loopw [4, 12] (fun v i wr => ∃ g : Nat, g ≤ 11 ∧ i = .int .i64 g ∧ wr.ownsRow (w.heap.size + 2) 5 1 v (4 * g) ((chrs k (4 * g)).map u8v) ∧ Below (w.heap.size + 2) w2 wr) (fun _ i _ => 11 - (intOf i).toNat)
  case atStart => exact ⟨0, by omega, rfl, hown3, (Below.refl _ _).grown hg4 hsz2 (by simp)⟩
  case round =>
    obtain ⟨g, hg, rfl, hown, hb⟩ := hrel
    by_cases hlt : g < 11
    · have hrd := (hb4.below hb (by omega)).rd (g * 3) 3 (by simp [HK.out]; omega)
      have hN24 : numB (((k ++ [0]).drop (g * 3)).take 3) < 16777216 := by
        have := numL_lt (((k ++ [0]).drop (g * 3)).take 3).reverse
        rw [List.length_reverse, hrd.1] at this
        exact this
      generalize hN : numB (((k ++ [0]).drop (g * 3)).take 3) = N at hN24
      have HN := Lib.hid hN
      clear hN
      have HRd := Lib.hid hrd
      clear hrd
      have hsl := run_slice_array (P := Try.prog) wr 50 5 33 Try.underlying50 i0 hi hz1 (w.heap.size + 1) .i64 .i64 (g * 3) ((g + 1) * 3) ((g : Int) * 3) (((g : Int) + 1) * 3) (by omega) (by omega) (by omega) (by omega) (by omega)
      rw [show (g + 1) * 3 - g * 3 = 3 from by omega] at hsl
      go_wp2_with fail
      refine (readBig_any _ _ 3 _ _ (by omega) _ HRd.out).mono ?_
      rintro e w4 ⟨rfl, rfl⟩
      rw [HN.out, Nat.mod_eq_of_lt (by omega)]
      go_wp2
      go_loopw [4, 22] (fun v c wx => ∃ c' : Nat, c' ≤ 4 ∧ c = .int .i64 c' ∧ wx.ownsRow (w.heap.size + 2) 5 1 v (4 * g + c') ((chrs k (4 * g + c')).map u8v) ∧ Below (w.heap.size + 2) w2 wx) (fun _ c _ => 4 - (intOf c).toNat)
      case atStart => exact ⟨0, by omega, rfl, hown, hb⟩
      case round =>
        clear hown hb
        obtain ⟨c, hc, rfl, hown, hb⟩ := hrel
        by_cases hlc : c < 4
        · obtain rfl | rfl | rfl | rfl : c = 0 ∨ c = 1 ∨ c = 2 ∨ c = 3 := by omega
          · have ha : bits BinOp.and IntKind.u64 ((N : Int) / 262144) 63 = ((N / 262144 % 64 : Nat) : Int) := by
              have := u64_and_nat (N / 262144) 63 (by omega) (by omega)
              rw [nat_mask6] at this
              exact this
            have d1 : (0 : Int) ≤ (N : Int) / 262144 % 64 := by omega
            have d2 : (N : Int) / 262144 % 64 < 64 := by omega
            have hI1 : ∀ h, (ByteArray.mk #[65, 66, 67, 68, 69, 70, 71, 72, 73, 74, 75, 76, 77, 78, 79, 80, 81, 82, 83, 84, 85, 86, 87, 88, 89, 90, 97, 98, 99, 100, 101, 102, 103, 104, 105, 106, 107, 108, 109, 110, 111, 112, 113, 114, 115, 116, 117, 118, 119, 120, 121, 122, 48, 49, 50, 51, 52, 53, 54, 55, 56, 57, 43, 47])[((N : Int) / 262144 % 64).toNat]'h = b64D (N / 262144 % 64) := fun h => b64Idx _ (by omega) h
            have hsx : sext (k ++ [0]) (4 * g) = N / 262144 % 64 := by
              unfold sext
              rw [show 4 * g / 4 * 3 = g * 3 from by omega, show 4 * g % 4 = 0 from by omega, HN.out] <;> simp
            have HS := Lib.hid hsx
            clear hsx
            have hsz := hb.size
            go_wp2_with (at_builtin; refine wpList_append_bytes _ rfl (.tmp 25) (.tmp 33) 23 rfl (w.heap.size + 2) 5 i0 (.int .u8 0) Try.underlying23 hi hz0 hz1 hz2 rfl u4 (4 * g) _ rfl (hown.alloc _) ⟨wr.heap.size, 0, none⟩ 1 1 [.int .u8 (b64D (N / 262144 % 64)).toNat] rfl rfl (cell_one_new _ _ _) (one_u8 _) (by omega) (by simp; omega) ?_; intro v' w' hown' hg')
            have HO := Lib.hid hown'
            clear hown'
            go_roundw
            case rel =>
              refine ⟨1, by omega, by go_num, ?_, (hb.alloc (by omega) _).grown hg' (by simp; omega) (own_from hown)⟩
              have h := HO.out
              rw [show 4 * g + 1 = (4 * g) + 1 from by omega, chrs_succ, HS.out, List.map_append]
              exact h
            case measure => simp [intOf]
          · have ha : bits BinOp.and IntKind.u64 ((N : Int) / 4096) 63 = ((N / 4096 % 64 : Nat) : Int) := by
              have := u64_and_nat (N / 4096) 63 (by omega) (by omega)
              rw [nat_mask6] at this
              exact this
            have d1 : (0 : Int) ≤ (N : Int) / 4096 % 64 := by omega
            have d2 : (N : Int) / 4096 % 64 < 64 := by omega
            have hI1 : ∀ h, (ByteArray.mk #[65, 66, 67, 68, 69, 70, 71, 72, 73, 74, 75, 76, 77, 78, 79, 80, 81, 82, 83, 84, 85, 86, 87, 88, 89, 90, 97, 98, 99, 100, 101, 102, 103, 104, 105, 106, 107, 108, 109, 110, 111, 112, 113, 114, 115, 116, 117, 118, 119, 120, 121, 122, 48, 49, 50, 51, 52, 53, 54, 55, 56, 57, 43, 47])[((N : Int) / 4096 % 64).toNat]'h = b64D (N / 4096 % 64) := fun h => b64Idx _ (by omega) h
            have hsx : sext (k ++ [0]) (4 * g + 1) = N / 4096 % 64 := by
              unfold sext
              rw [show (4 * g + 1) / 4 * 3 = g * 3 from by omega, show (4 * g + 1) % 4 = 1 from by omega, HN.out] <;> simp
            have HS := Lib.hid hsx
            clear hsx
            have hsz := hb.size
            go_wp2_with (at_builtin; refine wpList_append_bytes _ rfl (.tmp 25) (.tmp 33) 23 rfl (w.heap.size + 2) 5 i0 (.int .u8 0) Try.underlying23 hi hz0 hz1 hz2 rfl u4 (4 * g + 1) _ rfl (hown.alloc _) ⟨wr.heap.size, 0, none⟩ 1 1 [.int .u8 (b64D (N / 4096 % 64)).toNat] rfl rfl (cell_one_new _ _ _) (one_u8 _) (by omega) (by simp; omega) ?_; intro v' w' hown' hg')
            have HO := Lib.hid hown'
            clear hown'
            go_roundw
            case rel =>
              refine ⟨2, by omega, by go_num, ?_, (hb.alloc (by omega) _).grown hg' (by simp; omega) (own_from hown)⟩
              have h := HO.out
              rw [show 4 * g + 2 = (4 * g + 1) + 1 from by omega, chrs_succ, HS.out, List.map_append]
              exact h
            case measure => simp [intOf]
          · have ha : bits BinOp.and IntKind.u64 ((N : Int) / 64) 63 = ((N / 64 % 64 : Nat) : Int) := by
              have := u64_and_nat (N / 64) 63 (by omega) (by omega)
              rw [nat_mask6] at this
              exact this
            have d1 : (0 : Int) ≤ (N : Int) / 64 % 64 := by omega
            have d2 : (N : Int) / 64 % 64 < 64 := by omega
            have hI1 : ∀ h, (ByteArray.mk #[65, 66, 67, 68, 69, 70, 71, 72, 73, 74, 75, 76, 77, 78, 79, 80, 81, 82, 83, 84, 85, 86, 87, 88, 89, 90, 97, 98, 99, 100, 101, 102, 103, 104, 105, 106, 107, 108, 109, 110, 111, 112, 113, 114, 115, 116, 117, 118, 119, 120, 121, 122, 48, 49, 50, 51, 52, 53, 54, 55, 56, 57, 43, 47])[((N : Int) / 64 % 64).toNat]'h = b64D (N / 64 % 64) := fun h => b64Idx _ (by omega) h
            have hsx : sext (k ++ [0]) (4 * g + 2) = N / 64 % 64 := by
              unfold sext
              rw [show (4 * g + 2) / 4 * 3 = g * 3 from by omega, show (4 * g + 2) % 4 = 2 from by omega, HN.out] <;> simp
            have HS := Lib.hid hsx
            clear hsx
            have hsz := hb.size
            go_wp2_with (at_builtin; refine wpList_append_bytes _ rfl (.tmp 25) (.tmp 33) 23 rfl (w.heap.size + 2) 5 i0 (.int .u8 0) Try.underlying23 hi hz0 hz1 hz2 rfl u4 (4 * g + 2) _ rfl (hown.alloc _) ⟨wr.heap.size, 0, none⟩ 1 1 [.int .u8 (b64D (N / 64 % 64)).toNat] rfl rfl (cell_one_new _ _ _) (one_u8 _) (by omega) (by simp; omega) ?_; intro v' w' hown' hg')
            have HO := Lib.hid hown'
            clear hown'
            go_roundw
            case rel =>
              refine ⟨3, by omega, by go_num, ?_, (hb.alloc (by omega) _).grown hg' (by simp; omega) (own_from hown)⟩
              have h := HO.out
              rw [show 4 * g + 3 = (4 * g + 2) + 1 from by omega, chrs_succ, HS.out, List.map_append]
              exact h
            case measure => simp [intOf]
          · have ha : bits BinOp.and IntKind.u64 ((N : Int)) 63 = ((N % 64 : Nat) : Int) := by
              have := u64_and_nat (N) 63 (by omega) (by omega)
              rw [nat_mask6] at this
              exact this
            have d1 : (0 : Int) ≤ (N : Int) % 64 := by omega
            have d2 : (N : Int) % 64 < 64 := by omega
            have hI1 : ∀ h, (ByteArray.mk #[65, 66, 67, 68, 69, 70, 71, 72, 73, 74, 75, 76, 77, 78, 79, 80, 81, 82, 83, 84, 85, 86, 87, 88, 89, 90, 97, 98, 99, 100, 101, 102, 103, 104, 105, 106, 107, 108, 109, 110, 111, 112, 113, 114, 115, 116, 117, 118, 119, 120, 121, 122, 48, 49, 50, 51, 52, 53, 54, 55, 56, 57, 43, 47])[((N : Int) % 64).toNat]'h = b64D (N % 64) := fun h => b64Idx _ (by omega) h
            have hsx : sext (k ++ [0]) (4 * g + 3) = N % 64 := by
              unfold sext
              rw [show (4 * g + 3) / 4 * 3 = g * 3 from by omega, show (4 * g + 3) % 4 = 3 from by omega, HN.out] <;> simp
            have HS := Lib.hid hsx
            clear hsx
            have hsz := hb.size
            go_wp2_with (at_builtin; refine wpList_append_bytes _ rfl (.tmp 25) (.tmp 33) 23 rfl (w.heap.size + 2) 5 i0 (.int .u8 0) Try.underlying23 hi hz0 hz1 hz2 rfl u4 (4 * g + 3) _ rfl (hown.alloc _) ⟨wr.heap.size, 0, none⟩ 1 1 [.int .u8 (b64D (N % 64)).toNat] rfl rfl (cell_one_new _ _ _) (one_u8 _) (by omega) (by simp; omega) ?_; intro v' w' hown' hg')
            have HO := Lib.hid hown'
            clear hown'
            go_roundw
            case rel =>
              refine ⟨4, by omega, by go_num, ?_, (hb.alloc (by omega) _).grown hg' (by simp; omega) (own_from hown)⟩
              have h := HO.out
              rw [show 4 * g + 4 = (4 * g + 3) + 1 from by omega, chrs_succ, HS.out, List.map_append]
              exact h
            case measure => simp [intOf]
        · obtain rfl : c = 4 := by omega
          go_wp2
          go_roundw
          case rel =>
            refine ⟨g + 1, by omega, by go_num, ?_, hb⟩
            rw [show 4 * (g + 1) = 4 * g + 4 from by omega]
            exact hown
          case measure => simp [intOf]; omega
    · obtain rfl : g = 11 := by omega
      obtain ⟨gt, ct, rfl, hgt1, hgt2⟩ := hown.form (by omega)
      have hfz := hown.frozenAt 43
      have hcl : ∃ u, wr.cell? ⟨gt, 43, none⟩ = some u := by
        rw [hown.cellAt 43 (by omega)]
        exact ⟨_, List.getElem?_eq_getElem (by rw [hown.1]; omega)⟩
      obtain ⟨u, hcl⟩ := hcl
      have hst := (hown.stored 43 (u8v 61)).1
      have hbt := (hown.stored 43 (u8v 61)).2
      rw [← List.map_set, chrs_set] at hst
      have hcv : (convert 23 9 (.slice (some ⟨gt, 0, none⟩) 44 ct)).run Try.prog (wr.setCell ⟨gt, 43, none⟩ (.int .u8 61)) = .ok (.string ⟨(textL k).toArray⟩) (wr.setCell ⟨gt, 43, none⟩ (.int .u8 61)) := run_string_of_rd (P := Try.prog) 23 9 5 ct Try.underlying23 Try.underlying5 Try.underlying9 (Rd.of_own hst)
      have hbe : Below w.heap.size w (wr.setCell ⟨gt, 43, none⟩ (.int .u8 61)) := (hbw2.trans (hb.mono (by omega))).grown hbt (by have := hb.size; omega) (by intro q hq; injection hq with hq; omega)
      have HBE := Lib.hid hbe
      clear hbe hbt hst
      go_wp2
      go_ret
      exact ⟨rfl, HBE.out⟩
end Go.Proofs.Ytdnmbabofkiiiaa
