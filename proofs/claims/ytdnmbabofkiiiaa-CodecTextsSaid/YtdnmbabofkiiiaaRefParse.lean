/-
  The contract of the reference's ParseHex: the bytes of a text of hexadecimal digits in either case, or the error.
-/
import Derived.Test.YtdnmbabofkiiiaaRefText
import Derived.Test.YtdnmbabofkiiiaaHexParse
namespace Go.Proofs.Ytdnmbabofkiiiaa
open Go.RowKit

set_option maxHeartbeats 1000000 in
theorem refParseHex_any (S : ByteArray) (l : List UInt8) (hS : S = ⟨l.toArray⟩) (hn : l.length ≤ 1000000) (w : World) :
    Calls Try.prog 25 #[.string S] w (HexRes l w) := by
  have hsz : S.size = l.length := by rw [hS]; simp [ByteArray.size]
  have hat : ∀ i (h : i < S.size), S[i] = l.getD i 0 := by
    intro i h
    subst hS
    have hi : i < l.length := by simpa [ByteArray.size] using h
    rw [getD_lt hi]
    rfl
  have HS := Lib.hid hsz
  have HAT := Lib.hid hat
  clear hsz hat hS
  by_cases hodd : l.length % 2 = 0
  · obtain ⟨m, hm⟩ : ∃ m, l.length = 2 * m := ⟨l.length / 2, by omega⟩
    have hSm : S.size = 2 * m := by rw [HS.out, hm]
    have hm1 : m ≤ 500000 := by omega
    have b0 : ((2 * m : Nat) : Int) % 2 = 0 := by omega
    obtain ⟨i0, hi, hz0, hz1, hz2⟩ := info_parts Try.info5
    have HM := Lib.hid hm
    clear hm hodd hn
    go_enter Try.func25, Try.ntmps25
    go_wp2_with fail
    go_loopw [4, 5] (fun v i wr => ∃ j : Nat, j ≤ m ∧ i = .int .i64 (2 * (j : Int)) ∧ Hid ((l.take (2 * j)).all hexOk = true) ∧ wr.ownsRow w.heap.size 5 1 v j ((pairs l j).map u8v) ∧ Below w.heap.size w wr) (fun _ i _ => 2 * m - (intOf i).toNat)
    case atStart => exact ⟨0, by omega, rfl, Lib.hid rfl, World.ownsRow_lit w #[] 0 (Nat.le_refl _) (by simp) rfl, (Below.refl _ _).alloc (Nat.le_refl _) _⟩
    case round =>
      obtain ⟨j, hj, rfl, hall, hown, hb⟩ := hrel
      by_cases hlt : j < m
      · obtain ⟨c1, h1⟩ : ∃ c, l.getD (2 * j) 0 = c := ⟨_, rfl⟩
        obtain ⟨c2, h2⟩ : ∃ c, l.getD (2 * j + 1) 0 = c := ⟨_, rfl⟩
        have hI1 : ∀ h, S[(2 * (j : Int)).toNat]'h = c1 := fun h => by rw [HAT.out, ← h1]; congr 1
        have hI2 : ∀ h, S[(2 * (j : Int) + 1).toNat]'h = c2 := fun h => by rw [HAT.out, ← h2]; congr 1
        have hnext : (l.take (2 * (j + 1))).all hexOk = (hexOk c1 && hexOk c2) := by
          rw [all_take_two l j (by have := HM.out; omega), hall.out, h1, h2, Bool.true_and]
        have HN := Lib.hid hnext
        have H1 := Lib.hid h1
        have H2 := Lib.hid h2
        clear h1 h2 hnext
        have q0 : (0 : Int) ≤ 2 * (j : Int) := by omega
        have q1 : 2 * (j : Int) < 2 * (m : Int) := by omega
        have q2 : (0 : Int) ≤ 2 * (j : Int) + 1 := by omega
        have q3 : 2 * (j : Int) + 1 < 2 * (m : Int) := by omega
        have q4 : IntKind.i64.wrap (2 * (j : Int) + 1) = 2 * (j : Int) + 1 := IntWalk.i64_in _ (by omega)
        by_cases o1 : hexVal c1 < 16
        by_cases o2 : hexVal c2 < 16
        · have k1 : hexOk c1 = true := by simp [hexOk, o1]
          have k2 : hexOk c2 = true := by simp [hexOk, o2]
          have hpb : pairB l j = UInt8.ofNat (hexVal c1 * 16 + hexVal c2) := by
            unfold pairB hexV; rw [H1.out, H2.out, if_pos o1, if_pos o2]
          obtain ⟨z, hz⟩ : ∃ z, UInt8.ofNat (hexVal c1 * 16 + hexVal c2) = z := ⟨_, rfl⟩
          have hwz : IntKind.u8.wrap (16 * (hexVal c1 : Int) + (hexVal c2 : Int)) = (z.toNat : Int) := by
            rw [← hz, UInt8.toNat_ofNat', Nat.mod_eq_of_lt (by omega), IntKind.wrap_u8']; omega
          rw [hz] at hpb
          have HPB := Lib.hid hpb
          have HK1 := Lib.hid k1
          have HK2 := Lib.hid k2
          clear hz hpb k1 k2
          go_wp2_with fail
          refine wp_region_held_drew (S := fun _ => True) (by kernel_rfl) (trivial) (fun hHeld => ?_)
          refine take_first (v := ?_) 0 rfl (by kernel_rfl) (by kernel_rfl) (by kernel_rfl) (fun _ _ _ h => h) (Or.inl ⟨by rfl, ?_⟩) (by assumption) ?_
          rotate_left
          · (intro w hSw; (try dsimp only at hSw); go_simp; try with_reducible rfl)
          (try simp only [Act.put, List.setIfInBounds_toArray, List.set_cons_zero, List.set_cons_succ])
          refine take_first (v := ?_) 1 rfl (by kernel_rfl) (by kernel_rfl) (by kernel_rfl) (fun _ _ _ h => h) (Or.inl ⟨by rfl, ?_⟩) (by assumption) ?_
          rotate_left
          · (intro w hSw; (try dsimp only at hSw); go_simp; try with_reducible rfl)
          (try simp only [Act.put, List.setIfInBounds_toArray, List.set_cons_zero, List.set_cons_succ])
          refine take_first (v := ?_) 2 rfl (by kernel_rfl) (by kernel_rfl) (by kernel_rfl) (fun _ _ _ h => h) (Or.inl ⟨by rfl, ?_⟩) (by assumption) ?_
          rotate_left
          · (intro w hSw; (try dsimp only at hSw); go_simp; try with_reducible rfl)
          (try simp only [Act.put, List.setIfInBounds_toArray, List.set_cons_zero, List.set_cons_succ])
          refine take_first (v := ?_) 4 rfl (by kernel_rfl) (by kernel_rfl) (by kernel_rfl) (fun _ _ _ h => h) (Or.inl ⟨by rfl, ?_⟩) (by assumption) ?_
          rotate_left
          · (intro w hSw; (try dsimp only at hSw); go_simp; try with_reducible rfl)
          (try simp only [Act.put, List.setIfInBounds_toArray, List.set_cons_zero, List.set_cons_succ])
          refine take_first (v := ?_) 5 rfl (by kernel_rfl) (by kernel_rfl) (by kernel_rfl) (fun _ _ _ h => h) (Or.inl ⟨by rfl, ?_⟩) (by assumption) ?_
          rotate_left
          · (intro w hSw; (try dsimp only at hSw); go_simp; try with_reducible rfl)
          (try simp only [Act.put, List.setIfInBounds_toArray, List.set_cons_zero, List.set_cons_succ])
          refine take_first (v := ?_) 6 rfl (by kernel_rfl) (by kernel_rfl) (by kernel_rfl) (fun _ _ _ h => h) (Or.inl ⟨by rfl, ?_⟩) (by assumption) ?_
          rotate_left
          · (intro w hSw; (try dsimp only at hSw); go_simp; try with_reducible rfl)
          (try simp only [Act.put, List.setIfInBounds_toArray, List.set_cons_zero, List.set_cons_succ])
          refine take_first (v := ?_) 7 rfl (by kernel_rfl) (by kernel_rfl) (by kernel_rfl) (fun _ _ _ h => h) (Or.inl ⟨by rfl, ?_⟩) (by assumption) ?_
          rotate_left
          · (intro w hSw; (try dsimp only at hSw); go_simp; try with_reducible rfl)
          (try simp only [Act.put, List.setIfInBounds_toArray, List.set_cons_zero, List.set_cons_succ])
          refine step_one 3 rfl (by kernel_rfl) (fun K hK => ?_)
          go_simp
          refine (digit_any c1 _).mono ?_
          rintro e wa ⟨rfl, rfl⟩
          go_wp2_with fail
          refine hK.out _ _ (trivial) (fun hHeld => ?_)
          clear hK K
          (try simp only [Act.put, List.setIfInBounds_toArray, List.set_cons_zero, List.set_cons_succ])
          refine step_one 8 rfl (by kernel_rfl) (fun K hK => ?_)
          go_simp
          refine (digit_any c2 _).mono ?_
          rintro e wb ⟨rfl, rfl⟩
          go_wp2_with fail
          refine hK.out _ _ (trivial) (fun hHeld => ?_)
          clear hK K
          (try simp only [Act.put, List.setIfInBounds_toArray, List.set_cons_zero, List.set_cons_succ])
          refine take_first (v := ?_) 9 rfl (by kernel_rfl) (by kernel_rfl) (by kernel_rfl) (fun _ _ _ h => h) (Or.inl ⟨by rfl, ?_⟩) (by assumption) ?_
          rotate_left
          · (intro w hSw; (try dsimp only at hSw); go_simp; try with_reducible rfl)
          (try simp only [Act.put, List.setIfInBounds_toArray, List.set_cons_zero, List.set_cons_succ])
          refine take_first (v := ?_) 10 rfl (by kernel_rfl) (by kernel_rfl) (by kernel_rfl) (fun _ _ _ h => h) (Or.inl ⟨by rfl, ?_⟩) (by assumption) ?_
          rotate_left
          · (intro w hSw; (try dsimp only at hSw); go_simp; try with_reducible rfl)
          (try simp only [Act.put, List.setIfInBounds_toArray, List.set_cons_zero, List.set_cons_succ])
          refine wpAnyH_done (by kernel_rfl) ?_ _
          clear hHeld
          have hsz := hb.size
          go_wp2_with (at_builtin; refine wpList_append_bytes _ rfl (.tmp 34) (.tmp 40) 23 rfl w.heap.size 5 i0 (.int .u8 0) Try.underlying23 hi hz0 hz1 hz2 rfl u4 j _ rfl (hown.drew.alloc _) ⟨wr.heap.size, 0, none⟩ 1 1 [.int .u8 z.toNat] rfl rfl (cell_one_new _ _ _) (one_u8 _) (by omega) (by simp; omega) ?_; intro v' w' hown' hg')
          have HO := Lib.hid hown'
          clear hown'
          go_wp2
          go_roundw
          case rel =>
            refine ⟨j + 1, by omega, by go_num, Lib.hid (by rw [HN.out, HK1.out, HK2.out]; rfl), ?_, (hb.drew.alloc (by simpa using hsz) _).grown hg' (by simp; omega) (own_from hown)⟩
            have h := HO.out
            rw [pairs_succ, HPB.out, List.map_append]
            exact h
          case measure => simp [intOf]; omega
        · have k2 : hexOk c2 = false := by simp [hexOk]; omega
          have o2' : 15 < hexVal c2 := by omega
          have o1' : ¬ 15 < hexVal c1 := by omega
          have hnone : parseH l = none := by
            unfold parseH
            rw [if_neg]
            rintro ⟨_, h⟩
            have h2 : (l.take (2 * (j + 1))).all hexOk = true := by
              rw [List.all_eq_true] at h ⊢
              exact fun x hx => h x (List.mem_of_mem_take hx)
            rw [HN.out, k2, Bool.and_false] at h2
            simp at h2
          have HNO := Lib.hid hnone
          clear hnone
          clear k2 o2 o1
          go_wp2_with fail
          refine wp_region_held_drew (S := fun _ => True) (by kernel_rfl) (trivial) (fun hHeld => ?_)
          refine take_first (v := ?_) 0 rfl (by kernel_rfl) (by kernel_rfl) (by kernel_rfl) (fun _ _ _ h => h) (Or.inl ⟨by rfl, ?_⟩) (by assumption) ?_
          rotate_left
          · (intro w hSw; (try dsimp only at hSw); go_simp; try with_reducible rfl)
          (try simp only [Act.put, List.setIfInBounds_toArray, List.set_cons_zero, List.set_cons_succ])
          refine take_first (v := ?_) 1 rfl (by kernel_rfl) (by kernel_rfl) (by kernel_rfl) (fun _ _ _ h => h) (Or.inl ⟨by rfl, ?_⟩) (by assumption) ?_
          rotate_left
          · (intro w hSw; (try dsimp only at hSw); go_simp; try with_reducible rfl)
          (try simp only [Act.put, List.setIfInBounds_toArray, List.set_cons_zero, List.set_cons_succ])
          refine take_first (v := ?_) 2 rfl (by kernel_rfl) (by kernel_rfl) (by kernel_rfl) (fun _ _ _ h => h) (Or.inl ⟨by rfl, ?_⟩) (by assumption) ?_
          rotate_left
          · (intro w hSw; (try dsimp only at hSw); go_simp; try with_reducible rfl)
          (try simp only [Act.put, List.setIfInBounds_toArray, List.set_cons_zero, List.set_cons_succ])
          refine take_first (v := ?_) 4 rfl (by kernel_rfl) (by kernel_rfl) (by kernel_rfl) (fun _ _ _ h => h) (Or.inl ⟨by rfl, ?_⟩) (by assumption) ?_
          rotate_left
          · (intro w hSw; (try dsimp only at hSw); go_simp; try with_reducible rfl)
          (try simp only [Act.put, List.setIfInBounds_toArray, List.set_cons_zero, List.set_cons_succ])
          refine take_first (v := ?_) 5 rfl (by kernel_rfl) (by kernel_rfl) (by kernel_rfl) (fun _ _ _ h => h) (Or.inl ⟨by rfl, ?_⟩) (by assumption) ?_
          rotate_left
          · (intro w hSw; (try dsimp only at hSw); go_simp; try with_reducible rfl)
          (try simp only [Act.put, List.setIfInBounds_toArray, List.set_cons_zero, List.set_cons_succ])
          refine take_first (v := ?_) 6 rfl (by kernel_rfl) (by kernel_rfl) (by kernel_rfl) (fun _ _ _ h => h) (Or.inl ⟨by rfl, ?_⟩) (by assumption) ?_
          rotate_left
          · (intro w hSw; (try dsimp only at hSw); go_simp; try with_reducible rfl)
          (try simp only [Act.put, List.setIfInBounds_toArray, List.set_cons_zero, List.set_cons_succ])
          refine take_first (v := ?_) 7 rfl (by kernel_rfl) (by kernel_rfl) (by kernel_rfl) (fun _ _ _ h => h) (Or.inl ⟨by rfl, ?_⟩) (by assumption) ?_
          rotate_left
          · (intro w hSw; (try dsimp only at hSw); go_simp; try with_reducible rfl)
          (try simp only [Act.put, List.setIfInBounds_toArray, List.set_cons_zero, List.set_cons_succ])
          refine step_one 3 rfl (by kernel_rfl) (fun K hK => ?_)
          go_simp
          refine (digit_any c1 _).mono ?_
          rintro e wa ⟨rfl, rfl⟩
          go_wp2_with fail
          refine hK.out _ _ (trivial) (fun hHeld => ?_)
          clear hK K
          (try simp only [Act.put, List.setIfInBounds_toArray, List.set_cons_zero, List.set_cons_succ])
          refine step_one 8 rfl (by kernel_rfl) (fun K hK => ?_)
          go_simp
          refine (digit_any c2 _).mono ?_
          rintro e wb ⟨rfl, rfl⟩
          go_wp2_with fail
          refine hK.out _ _ (trivial) (fun hHeld => ?_)
          clear hK K
          (try simp only [Act.put, List.setIfInBounds_toArray, List.set_cons_zero, List.set_cons_succ])
          refine take_first (v := ?_) 9 rfl (by kernel_rfl) (by kernel_rfl) (by kernel_rfl) (fun _ _ _ h => h) (Or.inl ⟨by rfl, ?_⟩) (by assumption) ?_
          rotate_left
          · (intro w hSw; (try dsimp only at hSw); go_simp; try with_reducible rfl)
          (try simp only [Act.put, List.setIfInBounds_toArray, List.set_cons_zero, List.set_cons_succ])
          refine take_first (v := ?_) 10 rfl (by kernel_rfl) (by kernel_rfl) (by kernel_rfl) (fun _ _ _ h => h) (Or.inl ⟨by rfl, ?_⟩) (by assumption) ?_
          rotate_left
          · (intro w hSw; (try dsimp only at hSw); go_simp; try with_reducible rfl)
          (try simp only [Act.put, List.setIfInBounds_toArray, List.set_cons_zero, List.set_cons_succ])
          refine wpAnyH_done (by kernel_rfl) ?_ _
          clear hHeld
          go_wp2
          go_ret2
          exact .inr ⟨HNO.out, rfl, hb.drew⟩
        · have k1 : hexOk c1 = false := by simp [hexOk]; omega
          have o1' : 15 < hexVal c1 := by omega
          have hnone : parseH l = none := by
            unfold parseH
            rw [if_neg]
            rintro ⟨_, h⟩
            have h2 : (l.take (2 * (j + 1))).all hexOk = true := by
              rw [List.all_eq_true] at h ⊢
              exact fun x hx => h x (List.mem_of_mem_take hx)
            rw [HN.out, k1] at h2
            simp at h2
          have HNO := Lib.hid hnone
          clear hnone
          clear k1 o1
          go_wp2_with fail
          refine wp_region_held_drew (S := fun _ => True) (by kernel_rfl) (trivial) (fun hHeld => ?_)
          refine take_first (v := ?_) 0 rfl (by kernel_rfl) (by kernel_rfl) (by kernel_rfl) (fun _ _ _ h => h) (Or.inl ⟨by rfl, ?_⟩) (by assumption) ?_
          rotate_left
          · (intro w hSw; (try dsimp only at hSw); go_simp; try with_reducible rfl)
          (try simp only [Act.put, List.setIfInBounds_toArray, List.set_cons_zero, List.set_cons_succ])
          refine take_first (v := ?_) 1 rfl (by kernel_rfl) (by kernel_rfl) (by kernel_rfl) (fun _ _ _ h => h) (Or.inl ⟨by rfl, ?_⟩) (by assumption) ?_
          rotate_left
          · (intro w hSw; (try dsimp only at hSw); go_simp; try with_reducible rfl)
          (try simp only [Act.put, List.setIfInBounds_toArray, List.set_cons_zero, List.set_cons_succ])
          refine take_first (v := ?_) 2 rfl (by kernel_rfl) (by kernel_rfl) (by kernel_rfl) (fun _ _ _ h => h) (Or.inl ⟨by rfl, ?_⟩) (by assumption) ?_
          rotate_left
          · (intro w hSw; (try dsimp only at hSw); go_simp; try with_reducible rfl)
          (try simp only [Act.put, List.setIfInBounds_toArray, List.set_cons_zero, List.set_cons_succ])
          refine take_first (v := ?_) 4 rfl (by kernel_rfl) (by kernel_rfl) (by kernel_rfl) (fun _ _ _ h => h) (Or.inl ⟨by rfl, ?_⟩) (by assumption) ?_
          rotate_left
          · (intro w hSw; (try dsimp only at hSw); go_simp; try with_reducible rfl)
          (try simp only [Act.put, List.setIfInBounds_toArray, List.set_cons_zero, List.set_cons_succ])
          refine take_first (v := ?_) 5 rfl (by kernel_rfl) (by kernel_rfl) (by kernel_rfl) (fun _ _ _ h => h) (Or.inl ⟨by rfl, ?_⟩) (by assumption) ?_
          rotate_left
          · (intro w hSw; (try dsimp only at hSw); go_simp; try with_reducible rfl)
          (try simp only [Act.put, List.setIfInBounds_toArray, List.set_cons_zero, List.set_cons_succ])
          refine take_first (v := ?_) 6 rfl (by kernel_rfl) (by kernel_rfl) (by kernel_rfl) (fun _ _ _ h => h) (Or.inl ⟨by rfl, ?_⟩) (by assumption) ?_
          rotate_left
          · (intro w hSw; (try dsimp only at hSw); go_simp; try with_reducible rfl)
          (try simp only [Act.put, List.setIfInBounds_toArray, List.set_cons_zero, List.set_cons_succ])
          refine take_first (v := ?_) 7 rfl (by kernel_rfl) (by kernel_rfl) (by kernel_rfl) (fun _ _ _ h => h) (Or.inl ⟨by rfl, ?_⟩) (by assumption) ?_
          rotate_left
          · (intro w hSw; (try dsimp only at hSw); go_simp; try with_reducible rfl)
          (try simp only [Act.put, List.setIfInBounds_toArray, List.set_cons_zero, List.set_cons_succ])
          refine step_one 3 rfl (by kernel_rfl) (fun K hK => ?_)
          go_simp
          refine (digit_any c1 _).mono ?_
          rintro e wa ⟨rfl, rfl⟩
          go_wp2_with fail
          refine hK.out _ _ (trivial) (fun hHeld => ?_)
          clear hK K
          (try simp only [Act.put, List.setIfInBounds_toArray, List.set_cons_zero, List.set_cons_succ])
          refine step_one 8 rfl (by kernel_rfl) (fun K hK => ?_)
          go_simp
          refine (digit_any c2 _).mono ?_
          rintro e wb ⟨rfl, rfl⟩
          go_wp2_with fail
          refine hK.out _ _ (trivial) (fun hHeld => ?_)
          clear hK K
          (try simp only [Act.put, List.setIfInBounds_toArray, List.set_cons_zero, List.set_cons_succ])
          refine take_first (v := ?_) 9 rfl (by kernel_rfl) (by kernel_rfl) (by kernel_rfl) (fun _ _ _ h => h) (Or.inl ⟨by rfl, ?_⟩) (by assumption) ?_
          rotate_left
          · (intro w hSw; (try dsimp only at hSw); go_simp; try with_reducible rfl)
          (try simp only [Act.put, List.setIfInBounds_toArray, List.set_cons_zero, List.set_cons_succ])
          refine take_first (v := ?_) 10 rfl (by kernel_rfl) (by kernel_rfl) (by kernel_rfl) (fun _ _ _ h => h) (Or.inl ⟨by rfl, ?_⟩) (by assumption) ?_
          rotate_left
          · (intro w hSw; (try dsimp only at hSw); go_simp; try with_reducible rfl)
          (try simp only [Act.put, List.setIfInBounds_toArray, List.set_cons_zero, List.set_cons_succ])
          refine wpAnyH_done (by kernel_rfl) ?_ _
          clear hHeld
          go_wp2
          go_ret2
          exact .inr ⟨HNO.out, rfl, hb.drew⟩
      · obtain rfl : j = m := by omega
        have hsome : parseH l = some (pairs l j) := by
          unfold parseH
          rw [if_pos ⟨by have := HM.out; omega, by have := hall.out; rwa [← HM.out, List.take_of_length_le (Nat.le_refl _)] at this⟩, HM.out, show 2 * j / 2 = j from by omega]
        have HSO := Lib.hid hsome
        obtain ⟨A, c, rfl, _⟩ := own_slice hown
        have HRD := Lib.hid (Rd.of_own hown)
        clear hsome hown
        go_wp2
        go_ret2
        exact .inl ⟨pairs l j, A, c, HSO.out, by rw [pairs_length]; rfl, by rw [pairs_length]; exact HRD.out, hb⟩
  · have hnone : parseH l = none := by
      unfold parseH
      rw [if_neg]
      rintro ⟨h, _⟩
      exact hodd h
    have HNO := Lib.hid hnone
    have b0 : ¬ ((S.size : Int) % 2 = 0) := by have := HS.out; omega
    have b1 : ((S.size : Int) % 2 == 0) = false := by simpa using b0
    have b2 : S.size ≤ 1000000 := by have := HS.out; omega
    clear hnone hodd
    go_enter Try.func25, Try.ntmps25
    go_wp2
    go_ret2
    exact .inr ⟨HNO.out, rfl, Below.refl _ _⟩
end Go.Proofs.Ytdnmbabofkiiiaa
