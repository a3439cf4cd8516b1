/-
  The contracts of message's small functions, and of Kind. The program's Join of a list of slices, its headers, and numbers as slices somewhere. The contract of the program's EncodeInitiation. What is asked of the function that SealInitiation hands on holds of the landed one. What is asked of SealInitiation holds of the landed function. The contract of the program's EncodeCookie. The contracts of the program's EncodeInitiation, EncodeResponse and EncodeCookie. What is asked of the function that SealResponse hands on holds of the landed one. What is asked of SealResponse holds of the landed function. The contract of slices.Reverse at a byte slice that the call's own memory holds: behind the call the slice reads as the reversed list; nothing else has changed. The contract of codec.Big: for a size from 1 to 8 it returns a new slice with the size lowest bytes of n, the most significant one first; for any other size nothing. What is asked of Cookie holds of the landed function. The contract of the program's hasCodes. The contract of codec.Equal: the same length and the same bytes (as XEqual, without Join). No statement is proved here.
-/
import Derived.Deep.QuietTactic
import Derived.BigQuiet
import Derived.RegionTactic
import Derived.BigRegion
import Derived.Deep.RegionWith
import Derived.Deep.DeepCutAuto
import Derived.Outline
import Derived.Shelf.Abstract
import Derived.ChangeAlike
import Derived.Laws.BitsAllLaws
import Derived.Maps.AppendAt
import Derived.Test.YtlddafkikkaonaaDoorMacsSealsB11
namespace Go.Proofs.YtlddafkikkaonaaDoor
open Go.RowKit

set_option maxRecDepth 100000 in
theorem pHeader_any (v : Nat) (hv : v < 4294967296) (w : World) :
    Calls Tryd.prog 57 #[.int .i64 (v : Int)] w fun e w' => ∃ A c, e = .returned (.slice A 4 c) ∧ Rd w' w'.heap.size A 4 (littleL v 4) ∧ Below w.heap.size w w' := by
  have HC := Lib.hid (little_any v (by omega) 4 (by omega) (by omega) w)
  have h1 : IntKind.u64.wrap (v : Int) = (v : Int) := by rw [IntKind.wrap_u64]; omega
  have h2 : (v : Int) % 18446744073709551616 = (v : Int) := by omega
  go_enter Tryd.func57, Tryd.ntmps57
  go_wp2_with fail
  refine HC.out.mono ?_
  rintro e w1 ⟨rfl, ho, hb⟩
  have HO := Lib.hid (And.intro (Rd.of_own ho) hb)
  clear ho hb
  go_wp2_with fail
  go_ret
  exact ⟨_, _, rfl, HO.out.1, HO.out.2⟩
set_option maxRecDepth 100000 in
theorem pIndex_any (v : Nat) (hv : v < 4294967296) (w : World) :
    Calls Tryd.prog 58 #[.int .u32 (v : Int)] w fun e w' => ∃ A c, e = .returned (.slice A 4 c) ∧ Rd w' w'.heap.size A 4 (littleL v 4) ∧ Below w.heap.size w w' := by
  have HC := Lib.hid (little_any v (by omega) 4 (by omega) (by omega) w)
  have h1 : IntKind.u64.wrap (v : Int) = (v : Int) := by rw [IntKind.wrap_u64]; omega
  have h2 : (v : Int) % 18446744073709551616 = (v : Int) := by omega
  go_enter Tryd.func58, Tryd.ntmps58
  go_wp2_with fail
  refine HC.out.mono ?_
  rintro e w1 ⟨rfl, ho, hb⟩
  have HO := Lib.hid (And.intro (Rd.of_own ho) hb)
  clear ho hb
  go_wp2_with fail
  go_ret
  exact ⟨_, _, rfl, HO.out.1, HO.out.2⟩
theorem four_lt {l : List UInt8} (h : l.length ≤ 4) : numL l < 4294967296 :=
  Nat.lt_of_lt_of_le (numL_lt l) (Nat.pow_le_pow_right (n := 256) (by omega) h)
/-- the sizes that a kind can have -/
def fitB (k n : Nat) : Bool := if k = 1 then decide (n = 148) else if k = 2 then decide (n = 92) else if k = 3 then decide (n = 64) else if k = 4 then decide (32 ≤ n ∧ n ≤ 2100) else false
set_option maxRecDepth 100000 in
set_option maxHeartbeats 4000000 in
theorem fits_any (k n : Nat) (w : World) :
    Calls Tryd.prog 71 #[.int .i64 (k : Int), .int .i64 (n : Int)] w fun e w' => e = .returned (.bool (fitB k n)) ∧ w = w' := by
  by_cases h1 : k = 1
  · subst h1
    obtain ⟨t, ht⟩ : ∃ t, decide (n = 148) = t := ⟨_, rfl⟩
    have e1 : ((n : Int) == 148) = t := by rw [← ht]; by_cases h : n = 148 <;> simp [h]; omega
    have hf : fitB 1 n = t := by rw [fitB, if_pos rfl, ht]
    clear ht
    go_enter Tryd.func71, Tryd.ntmps71
    go_wp2
    go_ret
    exact ⟨by rw [hf]; rfl, rfl⟩
  have d1 : ((k : Int) == 1) = false := by rw [beq_eq_false_iff_ne]; omega
  by_cases h2 : k = 2
  · subst h2
    obtain ⟨t, ht⟩ : ∃ t, decide (n = 92) = t := ⟨_, rfl⟩
    have e1 : ((n : Int) == 92) = t := by rw [← ht]; by_cases h : n = 92 <;> simp [h]; omega
    have hf : fitB 2 n = t := by rw [fitB, if_neg (by omega), if_pos rfl, ht]
    clear ht d1 h1
    go_enter Tryd.func71, Tryd.ntmps71
    go_wp2
    go_ret
    exact ⟨by rw [hf]; rfl, rfl⟩
  have d2 : ((k : Int) == 2) = false := by rw [beq_eq_false_iff_ne]; omega
  by_cases h3 : k = 3
  · subst h3
    obtain ⟨t, ht⟩ : ∃ t, decide (n = 64) = t := ⟨_, rfl⟩
    have e1 : ((n : Int) == 64) = t := by rw [← ht]; by_cases h : n = 64 <;> simp [h]; omega
    have hf : fitB 3 n = t := by rw [fitB, if_neg (by omega), if_neg (by omega), if_pos rfl, ht]
    clear ht d1 d2 h1 h2
    go_enter Tryd.func71, Tryd.ntmps71
    go_wp2
    go_ret
    exact ⟨by rw [hf]; rfl, rfl⟩
  have d3 : ((k : Int) == 3) = false := by rw [beq_eq_false_iff_ne]; omega
  by_cases h4 : k = 4
  · subst h4
    by_cases hn : 32 ≤ n
    · have en : decide ((32 : Int) ≤ (n : Int)) = true := by simp; omega
      by_cases hm : n ≤ 2100
      · have em : decide ((n : Int) ≤ 2100) = true := by simp; omega
        have hf : fitB 4 n = true := by rw [fitB, if_neg (by omega), if_neg (by omega), if_neg (by omega), if_pos rfl]; simp; omega
        go_enter Tryd.func71, Tryd.ntmps71
        go_wp2
        go_ret
        exact ⟨by rw [hf]; rfl, rfl⟩
      · have em : decide ((n : Int) ≤ 2100) = false := by simp; omega
        have hf : fitB 4 n = false := by rw [fitB, if_neg (by omega), if_neg (by omega), if_neg (by omega), if_pos rfl]; simp; omega
        go_enter Tryd.func71, Tryd.ntmps71
        go_wp2
        go_ret
        exact ⟨by rw [hf]; rfl, rfl⟩
    · have en : decide ((32 : Int) ≤ (n : Int)) = false := by simp; omega
      have hf : fitB 4 n = false := by rw [fitB, if_neg (by omega), if_neg (by omega), if_neg (by omega), if_pos rfl]; simp; omega
      go_enter Tryd.func71, Tryd.ntmps71
      go_wp2
      go_ret
      exact ⟨by rw [hf]; rfl, rfl⟩
  have d4 : ((k : Int) == 4) = false := by rw [beq_eq_false_iff_ne]; omega
  have hf : fitB k n = false := by rw [fitB, if_neg h1, if_neg h2, if_neg h3, if_neg h4]
  go_enter Tryd.func71, Tryd.ntmps71
  go_wp2
  go_ret
  exact ⟨by rw [hf]; rfl, rfl⟩
theorem kindB_fit {l : List UInt8} (h4 : 4 ≤ l.length) : kindB l = if fitB (numL (l.take 4)) l.length then numL (l.take 4) else 0 := by
  obtain ⟨a, b, c, d, r, rfl⟩ : ∃ a b c d r, l = a :: b :: c :: d :: r := by
    match l, h4 with
    | a :: b :: c :: d :: r, _ => exact ⟨a, b, c, d, r, rfl⟩
  have hv : numL ((a :: b :: c :: d :: r).take 4) = a.toNat + 256 * (b.toNat + 256 * (c.toNat + 256 * d.toNat)) := by simp [numL]
  generalize hn : (a :: b :: c :: d :: r).length = n at *
  have ha := a.toNat_lt
  have hz : ∀ x : UInt8, x ≠ 0 → x.toNat ≠ 0 := fun x hx h => hx (UInt8.toNat.inj (by simpa using h))
  by_cases h0 : b ≠ 0 ∨ c ≠ 0 ∨ d ≠ 0
  · have hk : kindB (a :: b :: c :: d :: r) = 0 := by
      rw [kindB, if_neg (by omega), if_pos]
      exact h0
    have hbig : 5 ≤ numL ((a :: b :: c :: d :: r).take 4) := by
      rw [hv]
      rcases h0 with h | h | h
      · have := hz _ h; omega
      · have := hz _ h; omega
      · have := hz _ h; omega
    have hfb : fitB (numL ((a :: b :: c :: d :: r).take 4)) n = false := by rw [fitB, if_neg (by omega), if_neg (by omega), if_neg (by omega), if_neg (by omega)]
    rw [hk, hfb]
    rfl
  · obtain ⟨rfl, rfl, rfl⟩ : b = 0 ∧ c = 0 ∧ d = 0 := by
      refine ⟨?_, ?_, ?_⟩ <;> (apply Classical.byContradiction; intro h; apply h0; simp [h])
    have hv2 : numL ((a :: 0 :: 0 :: 0 :: r).take 4) = a.toNat := by rw [hv]; simp
    rw [kindB_some (by omega) rfl rfl rfl, hv2, hn]
    show (if (a.toNat = 1 ∧ n = 148) ∨ (a.toNat = 2 ∧ n = 92) ∨ (a.toNat = 3 ∧ n = 64) ∨ (a.toNat = 4 ∧ 32 ≤ n ∧ n ≤ 2100) then a.toNat else 0) = _
    generalize a.toNat = x
    unfold fitB
    by_cases h1 : x = 1
    · subst h1; simp
    by_cases h2 : x = 2
    · subst h2; simp
    by_cases h3 : x = 3
    · subst h3; simp
    by_cases h4 : x = 4
    · subst h4; simp
    simp [h1, h2, h3, h4]
set_option maxRecDepth 100000 in
set_option maxHeartbeats 4000000 in
theorem msKindC : MsKindC 51 := by
  intro A n c l hnc _h2 hn6 w hr
  have hl : l.length = n := hr.1
  by_cases h4 : n < 4
  · have d4 : decide ((n : Int) < 4) = true := by simp; omega
    have hK : kindB l = 0 := by rw [kindB, if_pos (by omega)]
    clear hl hr
    go_enter Tryd.func51, Tryd.ntmps51
    go_wp2
    go_ret
    exact ⟨ret_int (by rw [hK]; rfl), Below.refl _ _⟩
  have d4 : decide ((n : Int) < 4) = false := by simp; omega
  obtain ⟨b, off, rfl, -, -⟩ := hr.at_ (by omega)
  have HC := Lib.hid (readLittle_any w.heap.size (some ⟨b, off, none⟩) 4 4 (l.take 4) (by omega) w (hr.take (by omega)))
  have hsl := slice_hm b off n c 4 4 (by omega) (by omega) w
  have hK := kindB_fit (l := l) (by omega)
  have hlt : numL (l.take 4) < 4294967296 := four_lt (by rw [List.length_take]; omega)
  rw [List.take_of_length_le (show (l.take 4).length ≤ 8 by rw [List.length_take]; omega)] at HC
  rw [hl] at hK
  generalize numL (l.take 4) = v at HC hlt hK
  have HF := Lib.hid (fits_any v n w)
  have h1 : IntKind.i64.wrap (v : Int) = (v : Int) := by rw [IntKind.wrap_i64]; omega
  have HK := Lib.hid hK
  clear hK hr hl
  rw [show ((4 : Nat) : Int) = 4 from rfl] at hsl
  obtain ⟨t, ht⟩ : ∃ t, fitB v n = t := ⟨_, rfl⟩
  rw [ht] at HF HK
  clear ht
  cases t with
  | false =>
    go_enter Tryd.func51, Tryd.ntmps51
    go_wp2_with fail
    refine HC.out.mono ?_
    rintro e w1 ⟨rfl, rfl⟩
    clear hsl
    go_wp2_with fail
    refine HF.out.mono ?_
    rintro e w1 ⟨rfl, rfl⟩
    go_wp2_with fail
    go_ret
    exact ⟨ret_int (by rw [HK.out, if_neg (by decide)]; rfl), Below.refl _ _⟩
  | true =>
    go_enter Tryd.func51, Tryd.ntmps51
    go_wp2_with fail
    refine HC.out.mono ?_
    rintro e w1 ⟨rfl, rfl⟩
    clear hsl
    go_wp2_with fail
    refine HF.out.mono ?_
    rintro e w1 ⟨rfl, rfl⟩
    go_wp2_with fail
    go_ret
    exact ⟨ret_int (by rw [HK.out]; simp), Below.refl _ _⟩
end Go.Proofs.YtlddafkikkaonaaDoor
namespace Go.Proofs.YtlddafkikkaonaaDoor
open Go.RowKit

theorem coJoin_new (g : Nat) (t : TypeId) (ps : List Part) (k : Nat) (hk : ps.length = k) (hk1 : k ≤ 1000) (L : List UInt8) (hL : (ps.map Part.l).flatten = L) (M : Nat) (hM : L.length = M) (hM6 : M ≤ 1000000) (w : World) (hb : Blk w g t (ps.map Part.v)) (hr : ∀ p ∈ ps, Rd w w.heap.size p.A p.n p.l) :
    Calls Tryd.prog 56 #[.slice (some ⟨g, 0, none⟩) k k] w fun e w' => ∃ A' c', e = .returned (.slice A' M c') ∧ M ≤ c' ∧ c' ≤ maxLen ∧ RdIn w.heap.size w'.heap.size A' M L w' ∧ Below w.heap.size w w' := by
  subst hk
  have hf : flat ps ps.length = L := by rw [flat, List.take_of_length_le (Nat.le_refl _), hL]
  have hJ := coJoin_any w.heap.size ps.length (some ⟨g, 0, none⟩) ps (by omega) (by rw [hf, hM]; exact hM6) w (Nat.le_refl _) (parts_rd hb hr)
  refine hJ.mono ?_
  rintro e w' ⟨A', c', he, ho, hbl⟩
  rw [hf, hM] at he ho
  obtain ⟨q1, q2, _⟩ := own_addr ho
  exact ⟨A', c', he, q1, q2, RdIn.of_own ho, hbl⟩
theorem head_little : ∀ k : Nat, k ≤ 4 → littleL k 4 = msHead k := by
  intro k hk
  match k, hk with
  | 0, _ => decide +kernel
  | 1, _ => decide +kernel
  | 2, _ => decide +kernel
  | 3, _ => decide +kernel
  | 4, _ => decide +kernel
theorem pHeader_k (k : Nat) (hk : k ≤ 4) (w : World) :
    Calls Tryd.prog 57 #[.int .i64 (k : Int)] w fun e w' => ∃ A c, e = .returned (.slice A 4 c) ∧ Rd w' w'.heap.size A 4 (msHead k) ∧ Below w.heap.size w w' := by
  rw [← head_little k hk]
  exact pHeader_any k (by omega) w
end Go.Proofs.YtlddafkikkaonaaDoor
namespace Go.Proofs.YtlddafkikkaonaaDoor
open Go.RowKit

theorem encParts1 (s : Nat) (bs : List UInt8) (hb : bs.length = 140) : (msHead 1 ++ (littleL s 4 ++ ((bs.drop 0).take 32 ++ ((bs.drop 32).take 48 ++ ((bs.drop 80).take 28 ++ ((bs.drop 108).take 16 ++ ((bs.drop 124).take 16))))))) = encB 1 (MsgM.mk [s] bs) := by
  have e : (bs.drop 0).take 32 ++ ((bs.drop 32).take 48 ++ ((bs.drop 80).take 28 ++ ((bs.drop 108).take 16 ++ ((bs.drop 124).take 16)))) = bs := by
    apply List.ext_getElem
    · simp only [List.length_append, List.length_take, List.length_drop]; omega
    · intro i h1 h2
      simp only [List.getElem_append, List.getElem_take, List.getElem_drop, List.length_take, List.length_drop]
      repeat' split
      all_goals (congr 1; omega)
  rw [e]
  simp only [encB, numsB, List.flatMap_cons, List.flatMap_nil, List.append_nil, List.append_assoc]
set_option maxRecDepth 100000 in
set_option maxHeartbeats 8000000 in
theorem msEncN1 : MsEncNC 30 1 := by
  intro m0 hok w
  obtain ⟨nums, bs⟩ := m0
  obtain ⟨s, hnum⟩ : ∃ s, nums = [s] := by
    have h := hok.1
    match nums, h with
    | [s], _ => exact ⟨s, rfl⟩
  subst hnum
  have HOK := Lib.hid hok
  have HH := Lib.hid (fun W => show Calls Tryd.prog 57 #[.int .i64 1] W (fun e w' => ∃ A c, e = .returned (.slice A 4 c) ∧ Rd w' w'.heap.size A 4 (msHead 1) ∧ Below W.heap.size W w') from pHeader_k 1 (by omega) W)
  have HU0 := Lib.hid (pIndex_any s (hok.2.2 s (by simp)))
  have HLEN := Lib.hid (show (encB 1 (MsgM.mk [s] bs)).length = 148 from encB_length hok)
  have hfl := encParts1 s bs hok.2.1
  obtain ⟨cm, hcm⟩ : ∃ z, (MsgM.mk [s] bs).cells.toArray = z := ⟨_, rfl⟩
  have HM := Lib.hid (show Lows w [blkL w.heap.size 35 (MsgM.mk [s] bs).cells] (w.alloc (.cells cm 35)) from (Lows.nil w).alloc 35 cm (MsgM.mk [s] bs).cells hcm.symm)
  rw [hcm]
  have HFL := Lib.hid (show ([(msHead 1 : List UInt8), (littleL s 4 : List UInt8), ((bs.drop 0).take 32 : List UInt8), ((bs.drop 32).take 48 : List UInt8), ((bs.drop 80).take 28 : List UInt8), ((bs.drop 108).take 16 : List UInt8), ((bs.drop 124).take 16 : List UInt8)] : List (List UInt8)).flatten = encB 1 (MsgM.mk [s] bs) from by
    rw [← hfl]; simp only [List.flatten_cons, List.flatten_nil, List.append_nil])
  clear hok hfl hcm
  go_enter Tryd.func30, Tryd.ntmps30
  go_upto_region 1 with fail
  generalize w.alloc (.cells cm 35) = w1 at HM ⊢
  refine wp_region_held_drew (S := fun W' => Lows w [blkL w.heap.size 35 (MsgM.mk [s] bs).cells] W') (by kernel_rfl) (HM.out.drew) (fun hHeld => ?_)
  replace HM := Lib.hid HM.out.drew
  generalize w1.drew = wd1 at HM hHeld ⊢
  refine take_first (v := ?_) 1 rfl (by kernel_rfl) (by kernel_rfl) (by kernel_rfl) (fun _ _ _ h => h) (Or.inl ⟨by rfl, ?_⟩) (by assumption) ?_
  rotate_left
  · (intro w hSw; (try dsimp only at hSw); go_simp; try with_reducible rfl)
  (try simp only [Act.put, List.setIfInBounds_toArray, List.set_cons_zero, List.set_cons_succ])
  refine take_first (v := ?_) 2 rfl (by kernel_rfl) (by kernel_rfl) (by kernel_rfl) (fun _ _ _ h => h) (Or.inl ⟨by rfl, ?_⟩) (by assumption) ?_
  rotate_left
  · (intro w hSw; (try dsimp only at hSw); have fl := msg_num (Lows.blk hSw 0 rfl) 0 s rfl; go_simp; try with_reducible rfl)
  (try simp only [Act.put, List.setIfInBounds_toArray, List.set_cons_zero, List.set_cons_succ])
  refine take_first (v := ?_) 4 rfl (by kernel_rfl) (by kernel_rfl) (by kernel_rfl) (fun _ _ _ h => h) (Or.inl ⟨by rfl, ?_⟩) (by assumption) ?_
  rotate_left
  · (intro w hSw; (try dsimp only at hSw); go_simp; try with_reducible rfl)
  (try simp only [Act.put, List.setIfInBounds_toArray, List.set_cons_zero, List.set_cons_succ])
  refine take_first (v := ?_) 5 rfl (by kernel_rfl) (by kernel_rfl) (by kernel_rfl) (fun _ _ _ h => h) (Or.inl ⟨by rfl, ?_⟩) (by assumption) ?_
  rotate_left
  · (intro w hSw; (try dsimp only at hSw); go_simp; try with_reducible rfl)
  (try simp only [Act.put, List.setIfInBounds_toArray, List.set_cons_zero, List.set_cons_succ])
  refine take_first (v := ?_) 6 rfl (by kernel_rfl) (by kernel_rfl) (by kernel_rfl) (fun _ _ _ h => h) (Or.inl ⟨by rfl, ?_⟩) (by assumption) ?_
  rotate_left
  · (intro w hSw; (try dsimp only at hSw); go_simp; try with_reducible rfl)
  (try simp only [Act.put, List.setIfInBounds_toArray, List.set_cons_zero, List.set_cons_succ])
  refine take_first (v := ?_) 7 rfl (by kernel_rfl) (by kernel_rfl) (by kernel_rfl) (fun _ _ _ h => h) (Or.inl ⟨by rfl, ?_⟩) (by assumption) ?_
  rotate_left
  · (intro w hSw; (try dsimp only at hSw); go_simp; try with_reducible rfl)
  (try simp only [Act.put, List.setIfInBounds_toArray, List.set_cons_zero, List.set_cons_succ])
  refine take_first (v := ?_) 8 rfl (by kernel_rfl) (by kernel_rfl) (by kernel_rfl) (fun _ _ _ h => h) (Or.inl ⟨by rfl, ?_⟩) (by assumption) ?_
  rotate_left
  · (intro w hSw; (try dsimp only at hSw); go_simp; try with_reducible rfl)
  (try simp only [Act.put, List.setIfInBounds_toArray, List.set_cons_zero, List.set_cons_succ])
  refine take_first (v := ?_) 9 rfl (by kernel_rfl) (by kernel_rfl) (by kernel_rfl) (fun _ _ _ h => h) (Or.inl ⟨by rfl, ?_⟩) (by assumption) ?_
  rotate_left
  · (intro w hSw; (try dsimp only at hSw); go_simp; try with_reducible rfl)
  (try simp only [Act.put, List.setIfInBounds_toArray, List.set_cons_zero, List.set_cons_succ])
  refine take_first (v := ?_) 10 rfl (by kernel_rfl) (by kernel_rfl) (by kernel_rfl) (fun _ _ _ h => h) (Or.inl ⟨by rfl, ?_⟩) (by assumption) ?_
  rotate_left
  · (intro w hSw; (try dsimp only at hSw); go_simp; try with_reducible rfl)
  (try simp only [Act.put, List.setIfInBounds_toArray, List.set_cons_zero, List.set_cons_succ])
  refine take_first (v := ?_) 11 rfl (by kernel_rfl) (by kernel_rfl) (by kernel_rfl) (fun _ _ _ h => h) (Or.inl ⟨by rfl, ?_⟩) (by assumption) ?_
  rotate_left
  · (intro w hSw; (try dsimp only at hSw); go_simp; try with_reducible rfl)
  (try simp only [Act.put, List.setIfInBounds_toArray, List.set_cons_zero, List.set_cons_succ])
  refine take_first (v := ?_) 12 rfl (by kernel_rfl) (by kernel_rfl) (by kernel_rfl) (fun _ _ _ h => h) (Or.inl ⟨by rfl, ?_⟩) (by assumption) ?_
  rotate_left
  · (intro w hSw; (try dsimp only at hSw); go_simp; try with_reducible rfl)
  (try simp only [Act.put, List.setIfInBounds_toArray, List.set_cons_zero, List.set_cons_succ])
  refine take_first (v := ?_) 13 rfl (by kernel_rfl) (by kernel_rfl) (by kernel_rfl) (fun _ _ _ h => h) (Or.inl ⟨by rfl, ?_⟩) (by assumption) ?_
  rotate_left
  · (intro w hSw; (try dsimp only at hSw); go_simp; try with_reducible rfl)
  (try simp only [Act.put, List.setIfInBounds_toArray, List.set_cons_zero, List.set_cons_succ])
  refine step_one 0 rfl (by kernel_rfl) (fun K hK => ?_)
  clear hHeld
  go_simp
  refine (HH.out _).mono ?_
  rintro e wy2 ⟨Ah, ch, rfl, hr, hb⟩
  replace HM := Lib.hid (show Lows w [rdL Ah 4 (msHead 1), blkL w.heap.size 35 (MsgM.mk [s] bs).cells] wy2 from (HM.out.below hb).cons (rdL Ah 4 (msHead 1)) (hr))
  clear hb
  go_wp2_with fail
  refine hK.out _ _ (HM.out.tail 0) (fun hHeld => ?_)
  clear hK K
  (try simp only [Act.put, List.setIfInBounds_toArray, List.set_cons_zero, List.set_cons_succ])
  refine wpAnyH_stronger (T := fun W' => Lows w [rdL Ah 4 (msHead 1), blkL w.heap.size 35 (MsgM.mk [s] bs).cells] W') (fun _ h' => (h'.tail 0)) _ _ _ _ ?_
  replace hHeld := HM.out
  refine step_one 3 rfl (by kernel_rfl) (fun K hK => ?_)
  clear hHeld
  go_simp
  refine (HU0.out _).mono ?_
  rintro e wy3 ⟨A0, c0, rfl, hr, hb⟩
  replace HM := Lib.hid (show Lows w [rdL A0 4 (littleL s 4), rdL Ah 4 (msHead 1), blkL w.heap.size 35 (MsgM.mk [s] bs).cells] wy3 from (HM.out.below hb).cons (rdL A0 4 (littleL s 4)) (hr))
  clear hb
  go_wp2_with fail
  refine hK.out _ _ (HM.out.tail 0) (fun hHeld => ?_)
  clear hK K
  (try simp only [Act.put, List.setIfInBounds_toArray, List.set_cons_zero, List.set_cons_succ])
  refine wpAnyH_stronger (T := fun W' => Lows w [rdL A0 4 (littleL s 4), rdL Ah 4 (msHead 1), blkL w.heap.size 35 (MsgM.mk [s] bs).cells] W') (fun _ h' => (h'.tail 0)) _ _ _ _ ?_
  replace hHeld := HM.out
  refine step_one 14 rfl (by kernel_rfl) (fun K hK => ?_)
  clear hHeld
  go_simp
  have hm9 := HM.out.alloc 24 #[.slice Ah 4 ch, .slice A0 4 c0, .slice (some ⟨w.heap.size, 1, none⟩) 32 32, .slice (some ⟨w.heap.size, 33, none⟩) 48 48, .slice (some ⟨w.heap.size, 81, none⟩) 28 28, .slice (some ⟨w.heap.size, 109, none⟩) 16 16, .slice (some ⟨w.heap.size, 125, none⟩) 16 16] ([.slice Ah 4 ch, .slice A0 4 c0, .slice (some ⟨w.heap.size, 1, none⟩) 32 32, .slice (some ⟨w.heap.size, 33, none⟩) 48 48, .slice (some ⟨w.heap.size, 81, none⟩) 28 28, .slice (some ⟨w.heap.size, 109, none⟩) 16 16, .slice (some ⟨w.heap.size, 125, none⟩) 16 16]) rfl
  generalize wy3.alloc (.cells #[.slice Ah 4 ch, .slice A0 4 c0, .slice (some ⟨w.heap.size, 1, none⟩) 32 32, .slice (some ⟨w.heap.size, 33, none⟩) 48 48, .slice (some ⟨w.heap.size, 81, none⟩) 28 28, .slice (some ⟨w.heap.size, 109, none⟩) 16 16, .slice (some ⟨w.heap.size, 125, none⟩) 16 16] 24) = wy4 at hm9 ⊢
  generalize wy3.heap.size = g7 at hm9 ⊢
  replace HM := Lib.hid (show Lows w [blkL g7 24 ([.slice Ah 4 ch, .slice A0 4 c0, .slice (some ⟨w.heap.size, 1, none⟩) 32 32, .slice (some ⟨w.heap.size, 33, none⟩) 48 48, .slice (some ⟨w.heap.size, 81, none⟩) 28 28, .slice (some ⟨w.heap.size, 109, none⟩) 16 16, .slice (some ⟨w.heap.size, 125, none⟩) 16 16]), rdL A0 4 (littleL s 4), rdL Ah 4 (msHead 1), blkL w.heap.size 35 (MsgM.mk [s] bs).cells] wy4 from hm9)
  clear hm9
  refine hK.out _ _ (HM.out.tail 0) (fun hHeld => ?_)
  clear hK K
  (try simp only [Act.put, List.setIfInBounds_toArray, List.set_cons_zero, List.set_cons_succ])
  refine wpAnyH_stronger (T := fun W' => Lows w [blkL g7 24 ([.slice Ah 4 ch, .slice A0 4 c0, .slice (some ⟨w.heap.size, 1, none⟩) 32 32, .slice (some ⟨w.heap.size, 33, none⟩) 48 48, .slice (some ⟨w.heap.size, 81, none⟩) 28 28, .slice (some ⟨w.heap.size, 109, none⟩) 16 16, .slice (some ⟨w.heap.size, 125, none⟩) 16 16]), rdL A0 4 (littleL s 4), rdL Ah 4 (msHead 1), blkL w.heap.size 35 (MsgM.mk [s] bs).cells] W') (fun _ h' => (h'.tail 0)) _ _ _ _ ?_
  replace hHeld := HM.out
  refine step_one 15 rfl (by kernel_rfl) (fun K hK => ?_)
  clear hHeld
  go_simp
  refine (coJoin_new g7 24 [⟨Ah, 4, ch, msHead 1⟩, ⟨A0, 4, c0, littleL s 4⟩, ⟨(some ⟨w.heap.size, 1, none⟩), 32, 32, (bs.drop 0).take 32⟩, ⟨(some ⟨w.heap.size, 33, none⟩), 48, 48, (bs.drop 32).take 48⟩, ⟨(some ⟨w.heap.size, 81, none⟩), 28, 28, (bs.drop 80).take 28⟩, ⟨(some ⟨w.heap.size, 109, none⟩), 16, 16, (bs.drop 108).take 16⟩, ⟨(some ⟨w.heap.size, 125, none⟩), 16, 16, (bs.drop 124).take 16⟩] 7 rfl (by omega) (encB 1 (MsgM.mk [s] bs)) HFL.out 148 HLEN.out (by omega) _ (HM.out.blk 0 rfl) (by
    intro p hp
    simp only [List.mem_cons, List.not_mem_nil, or_false] at hp
    rcases hp with rfl | rfl | rfl | rfl | rfl | rfl | rfl
    · exact HM.out.rd 2 rfl
    · exact HM.out.rd 1 rfl
    · exact msg_rd (HM.out.blk 3 rfl) HOK.out 1 0 32 rfl (by decide)
    · exact msg_rd (HM.out.blk 3 rfl) HOK.out 33 32 48 rfl (by decide)
    · exact msg_rd (HM.out.blk 3 rfl) HOK.out 81 80 28 rfl (by decide)
    · exact msg_rd (HM.out.blk 3 rfl) HOK.out 109 108 16 rfl (by decide)
    · exact msg_rd (HM.out.blk 3 rfl) HOK.out 125 124 16 rfl (by decide)
    )).mono ?_
  rintro e wy5 ⟨A9, c9, rfl, hc1, hc2, hr, hb⟩
  have HRES := Lib.hid (And.intro hc1 (And.intro hc2 (And.intro (hr.from_ HM.out.size) (HM.out.below hb).bel)))
  replace HM := Lib.hid (show Lows w [blkL g7 24 ([.slice Ah 4 ch, .slice A0 4 c0, .slice (some ⟨w.heap.size, 1, none⟩) 32 32, .slice (some ⟨w.heap.size, 33, none⟩) 48 48, .slice (some ⟨w.heap.size, 81, none⟩) 28 28, .slice (some ⟨w.heap.size, 109, none⟩) 16 16, .slice (some ⟨w.heap.size, 125, none⟩) 16 16]), rdL A0 4 (littleL s 4), rdL Ah 4 (msHead 1), blkL w.heap.size 35 (MsgM.mk [s] bs).cells] wy5 from HM.out.below hb)
  clear hr hb hc1 hc2
  go_wp2_with fail
  refine hK.out _ _ (HM.out) (fun hHeld => ?_)
  clear hK K
  (try simp only [Act.put, List.setIfInBounds_toArray, List.set_cons_zero, List.set_cons_succ])
  refine take_first (v := ?_) 16 rfl (by kernel_rfl) (by kernel_rfl) (by kernel_rfl) (fun _ _ _ h => h) (Or.inl ⟨by rfl, ?_⟩) (by assumption) ?_
  rotate_left
  · (intro w hSw; (try dsimp only at hSw); go_simp; try with_reducible rfl)
  (try simp only [Act.put, List.setIfInBounds_toArray, List.set_cons_zero, List.set_cons_succ])
  refine wpAnyH_done (by kernel_rfl) ?_ _
  clear HM hHeld
  go_wp2_with fail
  go_ret
  exact ⟨A9, c9, rfl, HRES.out.1, HRES.out.2.1, HRES.out.2.2.1, HRES.out.2.2.2⟩
end Go.Proofs.YtlddafkikkaonaaDoor
namespace Go.Proofs.YtlddafkikkaonaaDoor
open Go.RowKit

set_option maxRecDepth 100000 in
set_option maxHeartbeats 4000000 in
theorem mcEnc1 : McEncF 29 1 35 := by
  intro m hok f s hf hs w0 w E i G he hm
  have HF := Lib.hid hf
  have HS := Lib.hid hs
  have HE := Lib.hid he
  have hml := MsgM.cells_length hok
  have HML := Lib.hid (show m.cells.length = 141 from hml)
  have HEN := Lib.hid (msEncN1 (withC 1 m f s) (withC_ok (.inl rfl) hok hf hs))
  have hwl := MsgM.cells_length (withC_ok (.inl rfl) hok hf hs)
  have HUM := Lib.hid (show (Tryd.prog.info? 35).map (·.size) = some (withC 1 m f s).cells.length from by rw [hwl]; kernel_rfl)
  have HSC := Lib.hid (show setL (setL m.cells 109 (f.map u8v)) 125 (s.map u8v) = (withC 1 m f s).cells from set_codes (.inl rfl) hok f s hf hs 109 125 rfl rfl)
  obtain ⟨cf, hcf⟩ : ∃ z, (f.map u8v).toArray = z := ⟨_, rfl⟩
  obtain ⟨cs, hcs⟩ : ∃ z, (s.map u8v).toArray = z := ⟨_, rfl⟩
  obtain ⟨cm, hcm⟩ : ∃ z, (withC 1 m f s).cells.toArray = z := ⟨_, rfl⟩
  rw [hcm] at HEN
  rw [hcf, hcs]
  have HM := Lib.hid (show Mem w0 (blkE (w.heap.size + 1) 30 (s.map u8v) :: blkE w.heap.size 30 (f.map u8v) :: E) ((w.alloc (.cells cf 30)).alloc (.cells cs 30)) from (hm.alloc rfl 30 cf (f.map u8v) hcf.symm).alloc (by simp) 30 cs (s.map u8v) hcs.symm)
  have HCF := Lib.hid hcf
  have HCS := Lib.hid hcs
  have HCM := Lib.hid hcm
  have HLT := Lib.hid (show G < w.heap.size from (hm.blk i he).lt)
  clear hcf hcs hcm hf hs he hm hok hml hwl
  go_enter Tryd.func29, Tryd.ntmps29
  go_upto_region 1 with fail
  generalize ((w.alloc (.cells cf 30)).alloc (.cells cs 30)) = w1 at HM ⊢
  have HNE := Lib.hid (show w.heap.size ≠ G ∧ w.heap.size + 1 ≠ G from ⟨by have := HLT.out; omega, by have := HLT.out; omega⟩)
  refine wp_region_held_drew (S := fun W' => Blk W' w.heap.size 30 (f.map u8v) ∧ Blk W' (w.heap.size + 1) 30 (s.map u8v)) (by kernel_rfl) ⟨HM.out.drew.blk 1 rfl, HM.out.drew.blk 0 rfl⟩ (fun hHeld => ?_)
  replace HM := Lib.hid HM.out.drew
  generalize w1.drew = wd1 at HM hHeld ⊢
  refine take_first (v := .agg cf) 0 rfl (by kernel_rfl) (by kernel_rfl) (by kernel_rfl) (fun _ _ _ h => h) (by rw [← HCF.out]; exact yields_load_blk (by rfl) 30 (.tmp 3) rfl w.heap.size rfl 30 (f.map u8v) (fun w' hb => hb.1) 16 5 Tryd.underlying30 (ae_cellsT f HF.out)) (by assumption) ?_
  (try simp only [Act.put, List.setIfInBounds_toArray, List.set_cons_zero, List.set_cons_succ])
  refine take_first (v := .agg cs) 1 rfl (by kernel_rfl) (by kernel_rfl) (by kernel_rfl) (fun _ _ _ h => h) (by rw [← HCS.out]; exact yields_load_blk (by rfl) 30 (.tmp 4) rfl (w.heap.size + 1) rfl 30 (s.map u8v) (fun w' hb => hb.2) 16 5 Tryd.underlying30 (ae_cellsT s HS.out)) (by assumption) ?_
  (try simp only [Act.put, List.setIfInBounds_toArray, List.set_cons_zero, List.set_cons_succ])
  refine take_first (v := ?_) 2 rfl (by kernel_rfl) (by kernel_rfl) (by kernel_rfl) (fun _ _ _ h => h) (Or.inl ⟨by rfl, ?_⟩) (by assumption) ?_
  rotate_left
  · (intro w hSw; (try dsimp only at hSw); go_simp; try with_reducible rfl)
  (try simp only [Act.put, List.setIfInBounds_toArray, List.set_cons_zero, List.set_cons_succ])
  refine step_one 3 rfl (by kernel_rfl) (fun K hK => ?_)
  clear hHeld
  refine step_store_obj rfl 30 (.tmp 8) (.tmp 6) rfl G 109 (f.map u8v) rfl (by show Value.agg cf = _; rw [HCF.out]) 35 m.cells (HM.out.blk (i + 2) HE.out) (ae_cellsT f HF.out) (by rw [List.length_map, HF.out, HML.out]; omega) (u8v_one _) ?_
  intro wy2 hb hg
  replace HM := Lib.hid (show Mem w0 (blkE (w.heap.size + 1) 30 (s.map u8v) :: blkE w.heap.size 30 (f.map u8v) :: E.set i (blkE G 35 (setL m.cells 109 (f.map u8v)))) wy2 from HM.out.put (i + 2) HE.out _ hg hb)
  clear hb hg
  refine hK.out _ _ (⟨HM.out.blk 1 rfl, HM.out.blk 0 rfl⟩) (fun hHeld => ?_)
  clear hK K
  (try simp only [Act.put])
  refine take_first (v := ?_) 4 rfl (by kernel_rfl) (by kernel_rfl) (by kernel_rfl) (fun _ _ _ h => h) (Or.inl ⟨by rfl, ?_⟩) (by assumption) ?_
  rotate_left
  · (intro w hSw; (try dsimp only at hSw); go_simp; try with_reducible rfl)
  (try simp only [Act.put, List.setIfInBounds_toArray, List.set_cons_zero, List.set_cons_succ])
  refine step_one 5 rfl (by kernel_rfl) (fun K hK => ?_)
  clear hHeld
  refine step_store_obj rfl 30 (.tmp 9) (.tmp 7) rfl G 125 (s.map u8v) rfl (by show Value.agg cs = _; rw [HCS.out]) 35 (setL m.cells 109 (f.map u8v)) (HM.out.blk (i + 2) (mem_set_get HE.out)) (ae_cellsT s HS.out) (by rw [List.length_map, HS.out, setL_len _ _ _ (by rw [List.length_map, HF.out, HML.out]; omega), HML.out]; omega) (u8v_one _) ?_
  intro wy3 hb hg
  rw [HSC.out] at hb
  have hm3 := HM.out.put (i + 2) (mem_set_get HE.out) _ hg hb
  replace HM := Lib.hid (show Mem w0 (blkE (w.heap.size + 1) 30 (s.map u8v) :: blkE w.heap.size 30 (f.map u8v) :: E.set i (blkE G 35 (withC 1 m f s).cells)) wy3 from by
    have h := hm3
    simp only [List.set_cons_succ, mem_set_set] at h
    exact h)
  clear hb hg hm3
  refine hK.out _ _ (⟨HM.out.blk 1 rfl, HM.out.blk 0 rfl⟩) (fun hHeld => ?_)
  clear hK K
  (try simp only [Act.put])
  refine wpAnyH_done (by kernel_rfl) ?_ _
  clear hHeld
  have HG := Lib.hid (HM.out.blk (i + 2) (mem_set_get HE.out))
  go_wp2_with (refine wpList_load_obj rfl 35 (.tmp 2) rfl G 0 rfl (withC 1 m f s).cells HG.out.all _ Tryd.underlying35 rfl HUM.out ?_)
  rw [HCM.out]
  refine (HEN.out _).mono ?_
  rintro e wy4 ⟨A, c, rfl, h1, h2, hr, hb⟩
  have HR := Lib.hid (And.intro h1 (And.intro h2 hr))
  replace HM := Lib.hid ((HM.out.call hb (rdE wy3.heap.size wy4.heap.size A 148 (encB 1 (withC 1 m f s))) rfl rfl hr))
  clear hb h1 h2 hr
  go_wp2_with fail
  go_ret
  exact ⟨A, c, rfl, HR.out.1, HR.out.2.1, widen HM.out rfl rfl rfl⟩
end Go.Proofs.YtlddafkikkaonaaDoor
namespace Go.Proofs.YtlddafkikkaonaaDoor
open Go.RowKit

set_option maxRecDepth 100000 in
set_option maxHeartbeats 4000000 in
theorem mcSealI : McSealC 7 1 := by
  intro p ck hp hck has m hok w hlv
  have HP := Lib.hid hp
  have HK := Lib.hid hck
  have HLV := Lib.hid hlv
  have HOK := Lib.hid hok
  obtain ⟨cp, hcp⟩ : ∃ z, (p.map u8v).toArray = z := ⟨_, rfl⟩
  obtain ⟨cc, hcc⟩ : ∃ z, (ck.map u8v).toArray = z := ⟨_, rfl⟩
  obtain ⟨cm, hcm⟩ : ∃ z, m.cells.toArray = z := ⟨_, rfl⟩
  have HSA := Lib.hid (fun W G (E : List Ent) i hei (hm : Mem w E W) => seal_any (F := 29) (k := 1) (T := 35) (.inl rfl) mcEnc1 (enters_of Tryd.func29 (by kernel_rfl) rfl) p ck hp hck has m hok w W E i G hei hlv hm)
  obtain ⟨mt, hmt⟩ : ∃ z, macM p 1 m = z := ⟨_, rfl⟩
  have HML := Lib.hid (show mt.length = 16 from by rw [← hmt]; exact macM_length _ _ _)
  obtain ⟨cmt, hct⟩ : ∃ z, (mt.map u8v).toArray = z := ⟨_, rfl⟩
  rw [hmt, hct, hcp, hcc] at HSA
  rw [hmt, hct, hcp, hcc, hcm]
  have HCT := Lib.hid hct
  have HM := Lib.hid (show Mem w [blkE (w.heap.size + 1 + 1 + 1) 30 ((List.replicate 16 (0 : UInt8)).map u8v), blkE (w.heap.size + 1 + 1) 35 m.cells, blkE (w.heap.size + 1) 30 (ck.map u8v), blkE w.heap.size 23 (p.map u8v)] ((((w.alloc (.cells cp 23)).alloc (.cells cc 30)).alloc (.cells cm 35)).alloc (.cells #[.int .u8 0, .int .u8 0, .int .u8 0, .int .u8 0, .int .u8 0, .int .u8 0, .int .u8 0, .int .u8 0, .int .u8 0, .int .u8 0, .int .u8 0, .int .u8 0, .int .u8 0, .int .u8 0, .int .u8 0, .int .u8 0] 30)) from ((((Mem.nil w).alloc rfl 23 cp (p.map u8v) hcp.symm).alloc (by simp) 30 cc (ck.map u8v) hcc.symm).alloc (by simp) 35 cm m.cells hcm.symm).alloc (by simp) 30 #[.int .u8 0, .int .u8 0, .int .u8 0, .int .u8 0, .int .u8 0, .int .u8 0, .int .u8 0, .int .u8 0, .int .u8 0, .int .u8 0, .int .u8 0, .int .u8 0, .int .u8 0, .int .u8 0, .int .u8 0, .int .u8 0] ((List.replicate 16 (0 : UInt8)).map u8v) rfl)
  have HCP := Lib.hid hcp
  have HCC := Lib.hid hcc
  clear hcp hcc hcm hmt hct hp hck hok hlv
  go_enter Tryd.func7, Tryd.ntmps7
  go_upto_region 1 with fail
  generalize ((((w.alloc (.cells cp 23)).alloc (.cells cc 30)).alloc (.cells cm 35)).alloc (.cells #[.int .u8 0, .int .u8 0, .int .u8 0, .int .u8 0, .int .u8 0, .int .u8 0, .int .u8 0, .int .u8 0, .int .u8 0, .int .u8 0, .int .u8 0, .int .u8 0, .int .u8 0, .int .u8 0, .int .u8 0, .int .u8 0] 30)) = w1 at HM ⊢
  have hmf : ∀ (fn : Fn) (first cap : Array Value) (w : World), (Instr.makeFunc fn first cap).run Tryd.prog w = .ok (.func fn first cap) w := fun _ _ _ _ => rfl
  go_wp2_with (first | (refine wpList_load_blk rfl 23 (.tmp 4) rfl w.heap.size rfl 23 (p.map u8v) (HM.out.blk 3 rfl) 32 5 Tryd.underlying23 (cells32 p HP.out) ?_) | (refine wpList_load_blk rfl 30 (.tmp 6) rfl (w.heap.size + 1) rfl 30 (ck.map u8v) (HM.out.blk 2 rfl) 16 5 Tryd.underlying30 (ae_cellsT ck HK.out) ?_))
  clear hmf
  rw [HCP.out, HCC.out]
  refine (HSA.out w1 (w.heap.size + 1 + 1) [blkE (w.heap.size + 1 + 1 + 1) 30 ((List.replicate 16 (0 : UInt8)).map u8v), blkE (w.heap.size + 1 + 1) 35 m.cells, blkE (w.heap.size + 1) 30 (ck.map u8v), blkE w.heap.size 23 (p.map u8v)] 1 rfl HM.out).mono ?_
  rintro e w2 ⟨A, c, rfl, h1, h2, m', hm⟩
  have HC := Lib.hid (And.intro h1 h2)
  replace HM := Lib.hid (show Mem w [rdE w1.heap.size w2.heap.size A 148 (encB 1 (sealM p has ck 1 m)), blkE (w.heap.size + 1 + 1 + 1) 30 ((List.replicate 16 (0 : UInt8)).map u8v), blkE (w.heap.size + 1 + 1) 35 m'.cells, blkE (w.heap.size + 1) 30 (ck.map u8v), blkE w.heap.size 23 (p.map u8v)] w2 from hm)
  clear h1 h2 hm HSA
  go_wp2_with (refine wpList_store_blk rfl 30 (.tmp 9) (.tmp 16) rfl (w.heap.size + 1 + 1 + 1) (mt.map u8v) rfl (by show Value.agg cmt = _; rw [HCT.out]) 30 ((List.replicate 16 (0 : UInt8)).map u8v) (HM.out.blk 1 rfl) (ae_cellsT mt HML.out) (by rw [List.length_map, List.length_map, HML.out]; rfl) (u8v_one _) ?_; intro w9 hb hg)
  replace HM := Lib.hid (HM.out.put 1 rfl _ hg hb)
  exact bodyPost_ret (results_tmp_obj rfl _ _ (w.heap.size + 1 + 1 + 1) 30 (mt.map u8v) _ rfl (HM.out.blk 1 rfl) Tryd.underlying30 rfl (ae_cellsT mt HML.out)) rfl ⟨A, c, by rw [HCT.out]; rfl, HC.out.1, HC.out.2, Mem.rdIn0 HM.out (by omega), HM.out.bel⟩
end Go.Proofs.YtlddafkikkaonaaDoor
namespace Go.Proofs.YtlddafkikkaonaaDoor
open Go.RowKit

end Go.Proofs.YtlddafkikkaonaaDoor
namespace Go.Proofs.YtlddafkikkaonaaDoor
open Go.RowKit

theorem encParts2 (s r : Nat) (bs : List UInt8) (hb : bs.length = 80) : (msHead 2 ++ (littleL s 4 ++ (littleL r 4 ++ ((bs.drop 0).take 32 ++ ((bs.drop 32).take 16 ++ ((bs.drop 48).take 16 ++ ((bs.drop 64).take 16))))))) = encB 2 (MsgM.mk [s, r] bs) := by
  have e : (bs.drop 0).take 32 ++ ((bs.drop 32).take 16 ++ ((bs.drop 48).take 16 ++ ((bs.drop 64).take 16))) = bs := by
    apply List.ext_getElem
    · simp only [List.length_append, List.length_take, List.length_drop]; omega
    · intro i h1 h2
      simp only [List.getElem_append, List.getElem_take, List.getElem_drop, List.length_take, List.length_drop]
      repeat' split
      all_goals (congr 1; omega)
  rw [e]
  simp only [encB, numsB, List.flatMap_cons, List.flatMap_nil, List.append_nil, List.append_assoc]
set_option maxRecDepth 100000 in
set_option maxHeartbeats 8000000 in
theorem msEncN2 : MsEncNC 34 2 := by
  intro m0 hok w
  obtain ⟨nums, bs⟩ := m0
  obtain ⟨s, r, hnum⟩ : ∃ s r, nums = [s, r] := by
    have h := hok.1
    match nums, h with
    | [s, r], _ => exact ⟨s, r, rfl⟩
  subst hnum
  have HOK := Lib.hid hok
  have HH := Lib.hid (fun W => show Calls Tryd.prog 57 #[.int .i64 2] W (fun e w' => ∃ A c, e = .returned (.slice A 4 c) ∧ Rd w' w'.heap.size A 4 (msHead 2) ∧ Below W.heap.size W w') from pHeader_k 2 (by omega) W)
  have HU0 := Lib.hid (pIndex_any s (hok.2.2 s (by simp)))
  have HU1 := Lib.hid (pIndex_any r (hok.2.2 r (by simp)))
  have HLEN := Lib.hid (show (encB 2 (MsgM.mk [s, r] bs)).length = 92 from encB_length hok)
  have hfl := encParts2 s r bs hok.2.1
  obtain ⟨cm, hcm⟩ : ∃ z, (MsgM.mk [s, r] bs).cells.toArray = z := ⟨_, rfl⟩
  have HM := Lib.hid (show Lows w [blkL w.heap.size 37 (MsgM.mk [s, r] bs).cells] (w.alloc (.cells cm 37)) from (Lows.nil w).alloc 37 cm (MsgM.mk [s, r] bs).cells hcm.symm)
  rw [hcm]
  have HFL := Lib.hid (show ([(msHead 2 : List UInt8), (littleL s 4 : List UInt8), (littleL r 4 : List UInt8), ((bs.drop 0).take 32 : List UInt8), ((bs.drop 32).take 16 : List UInt8), ((bs.drop 48).take 16 : List UInt8), ((bs.drop 64).take 16 : List UInt8)] : List (List UInt8)).flatten = encB 2 (MsgM.mk [s, r] bs) from by
    rw [← hfl]; simp only [List.flatten_cons, List.flatten_nil, List.append_nil])
  clear hok hfl hcm
  go_enter Tryd.func34, Tryd.ntmps34
  go_upto_region 1 with fail
  generalize w.alloc (.cells cm 37) = w1 at HM ⊢
  refine wp_region_held_drew (S := fun W' => Lows w [blkL w.heap.size 37 (MsgM.mk [s, r] bs).cells] W') (by kernel_rfl) (HM.out.drew) (fun hHeld => ?_)
  replace HM := Lib.hid HM.out.drew
  generalize w1.drew = wd1 at HM hHeld ⊢
  refine take_first (v := ?_) 1 rfl (by kernel_rfl) (by kernel_rfl) (by kernel_rfl) (fun _ _ _ h => h) (Or.inl ⟨by rfl, ?_⟩) (by assumption) ?_
  rotate_left
  · (intro w hSw; (try dsimp only at hSw); go_simp; try with_reducible rfl)
  (try simp only [Act.put, List.setIfInBounds_toArray, List.set_cons_zero, List.set_cons_succ])
  refine take_first (v := ?_) 2 rfl (by kernel_rfl) (by kernel_rfl) (by kernel_rfl) (fun _ _ _ h => h) (Or.inl ⟨by rfl, ?_⟩) (by assumption) ?_
  rotate_left
  · (intro w hSw; (try dsimp only at hSw); have fl := msg_num (Lows.blk hSw 0 rfl) 0 s rfl; go_simp; try with_reducible rfl)
  (try simp only [Act.put, List.setIfInBounds_toArray, List.set_cons_zero, List.set_cons_succ])
  refine take_first (v := ?_) 4 rfl (by kernel_rfl) (by kernel_rfl) (by kernel_rfl) (fun _ _ _ h => h) (Or.inl ⟨by rfl, ?_⟩) (by assumption) ?_
  rotate_left
  · (intro w hSw; (try dsimp only at hSw); go_simp; try with_reducible rfl)
  (try simp only [Act.put, List.setIfInBounds_toArray, List.set_cons_zero, List.set_cons_succ])
  refine take_first (v := ?_) 5 rfl (by kernel_rfl) (by kernel_rfl) (by kernel_rfl) (fun _ _ _ h => h) (Or.inl ⟨by rfl, ?_⟩) (by assumption) ?_
  rotate_left
  · (intro w hSw; (try dsimp only at hSw); have fl := msg_num (Lows.blk hSw 0 rfl) 1 r rfl; go_simp; try with_reducible rfl)
  (try simp only [Act.put, List.setIfInBounds_toArray, List.set_cons_zero, List.set_cons_succ])
  refine take_first (v := ?_) 7 rfl (by kernel_rfl) (by kernel_rfl) (by kernel_rfl) (fun _ _ _ h => h) (Or.inl ⟨by rfl, ?_⟩) (by assumption) ?_
  rotate_left
  · (intro w hSw; (try dsimp only at hSw); go_simp; try with_reducible rfl)
  (try simp only [Act.put, List.setIfInBounds_toArray, List.set_cons_zero, List.set_cons_succ])
  refine take_first (v := ?_) 8 rfl (by kernel_rfl) (by kernel_rfl) (by kernel_rfl) (fun _ _ _ h => h) (Or.inl ⟨by rfl, ?_⟩) (by assumption) ?_
  rotate_left
  · (intro w hSw; (try dsimp only at hSw); go_simp; try with_reducible rfl)
  (try simp only [Act.put, List.setIfInBounds_toArray, List.set_cons_zero, List.set_cons_succ])
  refine take_first (v := ?_) 9 rfl (by kernel_rfl) (by kernel_rfl) (by kernel_rfl) (fun _ _ _ h => h) (Or.inl ⟨by rfl, ?_⟩) (by assumption) ?_
  rotate_left
  · (intro w hSw; (try dsimp only at hSw); go_simp; try with_reducible rfl)
  (try simp only [Act.put, List.setIfInBounds_toArray, List.set_cons_zero, List.set_cons_succ])
  refine take_first (v := ?_) 10 rfl (by kernel_rfl) (by kernel_rfl) (by kernel_rfl) (fun _ _ _ h => h) (Or.inl ⟨by rfl, ?_⟩) (by assumption) ?_
  rotate_left
  · (intro w hSw; (try dsimp only at hSw); go_simp; try with_reducible rfl)
  (try simp only [Act.put, List.setIfInBounds_toArray, List.set_cons_zero, List.set_cons_succ])
  refine take_first (v := ?_) 11 rfl (by kernel_rfl) (by kernel_rfl) (by kernel_rfl) (fun _ _ _ h => h) (Or.inl ⟨by rfl, ?_⟩) (by assumption) ?_
  rotate_left
  · (intro w hSw; (try dsimp only at hSw); go_simp; try with_reducible rfl)
  (try simp only [Act.put, List.setIfInBounds_toArray, List.set_cons_zero, List.set_cons_succ])
  refine take_first (v := ?_) 12 rfl (by kernel_rfl) (by kernel_rfl) (by kernel_rfl) (fun _ _ _ h => h) (Or.inl ⟨by rfl, ?_⟩) (by assumption) ?_
  rotate_left
  · (intro w hSw; (try dsimp only at hSw); go_simp; try with_reducible rfl)
  (try simp only [Act.put, List.setIfInBounds_toArray, List.set_cons_zero, List.set_cons_succ])
  refine take_first (v := ?_) 13 rfl (by kernel_rfl) (by kernel_rfl) (by kernel_rfl) (fun _ _ _ h => h) (Or.inl ⟨by rfl, ?_⟩) (by assumption) ?_
  rotate_left
  · (intro w hSw; (try dsimp only at hSw); go_simp; try with_reducible rfl)
  (try simp only [Act.put, List.setIfInBounds_toArray, List.set_cons_zero, List.set_cons_succ])
  refine take_first (v := ?_) 14 rfl (by kernel_rfl) (by kernel_rfl) (by kernel_rfl) (fun _ _ _ h => h) (Or.inl ⟨by rfl, ?_⟩) (by assumption) ?_
  rotate_left
  · (intro w hSw; (try dsimp only at hSw); go_simp; try with_reducible rfl)
  (try simp only [Act.put, List.setIfInBounds_toArray, List.set_cons_zero, List.set_cons_succ])
  refine step_one 0 rfl (by kernel_rfl) (fun K hK => ?_)
  clear hHeld
  go_simp
  refine (HH.out _).mono ?_
  rintro e wy2 ⟨Ah, ch, rfl, hr, hb⟩
  replace HM := Lib.hid (show Lows w [rdL Ah 4 (msHead 2), blkL w.heap.size 37 (MsgM.mk [s, r] bs).cells] wy2 from (HM.out.below hb).cons (rdL Ah 4 (msHead 2)) (hr))
  clear hb
  go_wp2_with fail
  refine hK.out _ _ (HM.out.tail 0) (fun hHeld => ?_)
  clear hK K
  (try simp only [Act.put, List.setIfInBounds_toArray, List.set_cons_zero, List.set_cons_succ])
  refine wpAnyH_stronger (T := fun W' => Lows w [rdL Ah 4 (msHead 2), blkL w.heap.size 37 (MsgM.mk [s, r] bs).cells] W') (fun _ h' => (h'.tail 0)) _ _ _ _ ?_
  replace hHeld := HM.out
  refine step_one 3 rfl (by kernel_rfl) (fun K hK => ?_)
  clear hHeld
  go_simp
  refine (HU0.out _).mono ?_
  rintro e wy3 ⟨A0, c0, rfl, hr, hb⟩
  replace HM := Lib.hid (show Lows w [rdL A0 4 (littleL s 4), rdL Ah 4 (msHead 2), blkL w.heap.size 37 (MsgM.mk [s, r] bs).cells] wy3 from (HM.out.below hb).cons (rdL A0 4 (littleL s 4)) (hr))
  clear hb
  go_wp2_with fail
  refine hK.out _ _ (HM.out.tail 0) (fun hHeld => ?_)
  clear hK K
  (try simp only [Act.put, List.setIfInBounds_toArray, List.set_cons_zero, List.set_cons_succ])
  refine wpAnyH_stronger (T := fun W' => Lows w [rdL A0 4 (littleL s 4), rdL Ah 4 (msHead 2), blkL w.heap.size 37 (MsgM.mk [s, r] bs).cells] W') (fun _ h' => (h'.tail 0)) _ _ _ _ ?_
  replace hHeld := HM.out
  refine step_one 6 rfl (by kernel_rfl) (fun K hK => ?_)
  clear hHeld
  go_simp
  refine (HU1.out _).mono ?_
  rintro e wy4 ⟨A1, c1, rfl, hr, hb⟩
  replace HM := Lib.hid (show Lows w [rdL A1 4 (littleL r 4), rdL A0 4 (littleL s 4), rdL Ah 4 (msHead 2), blkL w.heap.size 37 (MsgM.mk [s, r] bs).cells] wy4 from (HM.out.below hb).cons (rdL A1 4 (littleL r 4)) (hr))
  clear hb
  go_wp2_with fail
  refine hK.out _ _ (HM.out.tail 0) (fun hHeld => ?_)
  clear hK K
  (try simp only [Act.put, List.setIfInBounds_toArray, List.set_cons_zero, List.set_cons_succ])
  refine wpAnyH_stronger (T := fun W' => Lows w [rdL A1 4 (littleL r 4), rdL A0 4 (littleL s 4), rdL Ah 4 (msHead 2), blkL w.heap.size 37 (MsgM.mk [s, r] bs).cells] W') (fun _ h' => (h'.tail 0)) _ _ _ _ ?_
  replace hHeld := HM.out
  refine step_one 15 rfl (by kernel_rfl) (fun K hK => ?_)
  clear hHeld
  go_simp
  have hm9 := HM.out.alloc 24 #[.slice Ah 4 ch, .slice A0 4 c0, .slice A1 4 c1, .slice (some ⟨w.heap.size, 2, none⟩) 32 32, .slice (some ⟨w.heap.size, 34, none⟩) 16 16, .slice (some ⟨w.heap.size, 50, none⟩) 16 16, .slice (some ⟨w.heap.size, 66, none⟩) 16 16] ([.slice Ah 4 ch, .slice A0 4 c0, .slice A1 4 c1, .slice (some ⟨w.heap.size, 2, none⟩) 32 32, .slice (some ⟨w.heap.size, 34, none⟩) 16 16, .slice (some ⟨w.heap.size, 50, none⟩) 16 16, .slice (some ⟨w.heap.size, 66, none⟩) 16 16]) rfl
  generalize wy4.alloc (.cells #[.slice Ah 4 ch, .slice A0 4 c0, .slice A1 4 c1, .slice (some ⟨w.heap.size, 2, none⟩) 32 32, .slice (some ⟨w.heap.size, 34, none⟩) 16 16, .slice (some ⟨w.heap.size, 50, none⟩) 16 16, .slice (some ⟨w.heap.size, 66, none⟩) 16 16] 24) = wy5 at hm9 ⊢
  generalize wy4.heap.size = g7 at hm9 ⊢
  replace HM := Lib.hid (show Lows w [blkL g7 24 ([.slice Ah 4 ch, .slice A0 4 c0, .slice A1 4 c1, .slice (some ⟨w.heap.size, 2, none⟩) 32 32, .slice (some ⟨w.heap.size, 34, none⟩) 16 16, .slice (some ⟨w.heap.size, 50, none⟩) 16 16, .slice (some ⟨w.heap.size, 66, none⟩) 16 16]), rdL A1 4 (littleL r 4), rdL A0 4 (littleL s 4), rdL Ah 4 (msHead 2), blkL w.heap.size 37 (MsgM.mk [s, r] bs).cells] wy5 from hm9)
  clear hm9
  refine hK.out _ _ (HM.out.tail 0) (fun hHeld => ?_)
  clear hK K
  (try simp only [Act.put, List.setIfInBounds_toArray, List.set_cons_zero, List.set_cons_succ])
  refine wpAnyH_stronger (T := fun W' => Lows w [blkL g7 24 ([.slice Ah 4 ch, .slice A0 4 c0, .slice A1 4 c1, .slice (some ⟨w.heap.size, 2, none⟩) 32 32, .slice (some ⟨w.heap.size, 34, none⟩) 16 16, .slice (some ⟨w.heap.size, 50, none⟩) 16 16, .slice (some ⟨w.heap.size, 66, none⟩) 16 16]), rdL A1 4 (littleL r 4), rdL A0 4 (littleL s 4), rdL Ah 4 (msHead 2), blkL w.heap.size 37 (MsgM.mk [s, r] bs).cells] W') (fun _ h' => (h'.tail 0)) _ _ _ _ ?_
  replace hHeld := HM.out
  refine step_one 16 rfl (by kernel_rfl) (fun K hK => ?_)
  clear hHeld
  go_simp
  refine (coJoin_new g7 24 [⟨Ah, 4, ch, msHead 2⟩, ⟨A0, 4, c0, littleL s 4⟩, ⟨A1, 4, c1, littleL r 4⟩, ⟨(some ⟨w.heap.size, 2, none⟩), 32, 32, (bs.drop 0).take 32⟩, ⟨(some ⟨w.heap.size, 34, none⟩), 16, 16, (bs.drop 32).take 16⟩, ⟨(some ⟨w.heap.size, 50, none⟩), 16, 16, (bs.drop 48).take 16⟩, ⟨(some ⟨w.heap.size, 66, none⟩), 16, 16, (bs.drop 64).take 16⟩] 7 rfl (by omega) (encB 2 (MsgM.mk [s, r] bs)) HFL.out 92 HLEN.out (by omega) _ (HM.out.blk 0 rfl) (by
    intro p hp
    simp only [List.mem_cons, List.not_mem_nil, or_false] at hp
    rcases hp with rfl | rfl | rfl | rfl | rfl | rfl | rfl
    · exact HM.out.rd 3 rfl
    · exact HM.out.rd 2 rfl
    · exact HM.out.rd 1 rfl
    · exact msg_rd (HM.out.blk 4 rfl) HOK.out 2 0 32 rfl (by decide)
    · exact msg_rd (HM.out.blk 4 rfl) HOK.out 34 32 16 rfl (by decide)
    · exact msg_rd (HM.out.blk 4 rfl) HOK.out 50 48 16 rfl (by decide)
    · exact msg_rd (HM.out.blk 4 rfl) HOK.out 66 64 16 rfl (by decide)
    )).mono ?_
  rintro e wy6 ⟨A9, c9, rfl, hc1, hc2, hr, hb⟩
  have HRES := Lib.hid (And.intro hc1 (And.intro hc2 (And.intro (hr.from_ HM.out.size) (HM.out.below hb).bel)))
  replace HM := Lib.hid (show Lows w [blkL g7 24 ([.slice Ah 4 ch, .slice A0 4 c0, .slice A1 4 c1, .slice (some ⟨w.heap.size, 2, none⟩) 32 32, .slice (some ⟨w.heap.size, 34, none⟩) 16 16, .slice (some ⟨w.heap.size, 50, none⟩) 16 16, .slice (some ⟨w.heap.size, 66, none⟩) 16 16]), rdL A1 4 (littleL r 4), rdL A0 4 (littleL s 4), rdL Ah 4 (msHead 2), blkL w.heap.size 37 (MsgM.mk [s, r] bs).cells] wy6 from HM.out.below hb)
  clear hr hb hc1 hc2
  go_wp2_with fail
  refine hK.out _ _ (HM.out) (fun hHeld => ?_)
  clear hK K
  (try simp only [Act.put, List.setIfInBounds_toArray, List.set_cons_zero, List.set_cons_succ])
  refine take_first (v := ?_) 17 rfl (by kernel_rfl) (by kernel_rfl) (by kernel_rfl) (fun _ _ _ h => h) (Or.inl ⟨by rfl, ?_⟩) (by assumption) ?_
  rotate_left
  · (intro w hSw; (try dsimp only at hSw); go_simp; try with_reducible rfl)
  (try simp only [Act.put, List.setIfInBounds_toArray, List.set_cons_zero, List.set_cons_succ])
  refine wpAnyH_done (by kernel_rfl) ?_ _
  clear HM hHeld
  go_wp2_with fail
  go_ret
  exact ⟨A9, c9, rfl, HRES.out.1, HRES.out.2.1, HRES.out.2.2.1, HRES.out.2.2.2⟩
end Go.Proofs.YtlddafkikkaonaaDoor
namespace Go.Proofs.YtlddafkikkaonaaDoor
open Go.RowKit

set_option maxRecDepth 100000 in
set_option maxHeartbeats 4000000 in
theorem mcEnc2 : McEncF 33 2 37 := by
  intro m hok f s hf hs w0 w E i G he hm
  have HF := Lib.hid hf
  have HS := Lib.hid hs
  have HE := Lib.hid he
  have hml := MsgM.cells_length hok
  have HML := Lib.hid (show m.cells.length = 82 from hml)
  have HEN := Lib.hid (msEncN2 (withC 2 m f s) (withC_ok (.inr rfl) hok hf hs))
  have hwl := MsgM.cells_length (withC_ok (.inr rfl) hok hf hs)
  have HUM := Lib.hid (show (Tryd.prog.info? 37).map (·.size) = some (withC 2 m f s).cells.length from by rw [hwl]; kernel_rfl)
  have HSC := Lib.hid (show setL (setL m.cells 50 (f.map u8v)) 66 (s.map u8v) = (withC 2 m f s).cells from set_codes (.inr rfl) hok f s hf hs 50 66 rfl rfl)
  obtain ⟨cf, hcf⟩ : ∃ z, (f.map u8v).toArray = z := ⟨_, rfl⟩
  obtain ⟨cs, hcs⟩ : ∃ z, (s.map u8v).toArray = z := ⟨_, rfl⟩
  obtain ⟨cm, hcm⟩ : ∃ z, (withC 2 m f s).cells.toArray = z := ⟨_, rfl⟩
  rw [hcm] at HEN
  rw [hcf, hcs]
  have HM := Lib.hid (show Mem w0 (blkE (w.heap.size + 1) 30 (s.map u8v) :: blkE w.heap.size 30 (f.map u8v) :: E) ((w.alloc (.cells cf 30)).alloc (.cells cs 30)) from (hm.alloc rfl 30 cf (f.map u8v) hcf.symm).alloc (by simp) 30 cs (s.map u8v) hcs.symm)
  have HCF := Lib.hid hcf
  have HCS := Lib.hid hcs
  have HCM := Lib.hid hcm
  have HLT := Lib.hid (show G < w.heap.size from (hm.blk i he).lt)
  clear hcf hcs hcm hf hs he hm hok hml hwl
  go_enter Tryd.func33, Tryd.ntmps33
  go_upto_region 1 with fail
  generalize ((w.alloc (.cells cf 30)).alloc (.cells cs 30)) = w1 at HM ⊢
  have HNE := Lib.hid (show w.heap.size ≠ G ∧ w.heap.size + 1 ≠ G from ⟨by have := HLT.out; omega, by have := HLT.out; omega⟩)
  refine wp_region_held_drew (S := fun W' => Blk W' w.heap.size 30 (f.map u8v) ∧ Blk W' (w.heap.size + 1) 30 (s.map u8v)) (by kernel_rfl) ⟨HM.out.drew.blk 1 rfl, HM.out.drew.blk 0 rfl⟩ (fun hHeld => ?_)
  replace HM := Lib.hid HM.out.drew
  generalize w1.drew = wd1 at HM hHeld ⊢
  refine take_first (v := .agg cf) 0 rfl (by kernel_rfl) (by kernel_rfl) (by kernel_rfl) (fun _ _ _ h => h) (by rw [← HCF.out]; exact yields_load_blk (by rfl) 30 (.tmp 3) rfl w.heap.size rfl 30 (f.map u8v) (fun w' hb => hb.1) 16 5 Tryd.underlying30 (ae_cellsT f HF.out)) (by assumption) ?_
  (try simp only [Act.put, List.setIfInBounds_toArray, List.set_cons_zero, List.set_cons_succ])
  refine take_first (v := .agg cs) 1 rfl (by kernel_rfl) (by kernel_rfl) (by kernel_rfl) (fun _ _ _ h => h) (by rw [← HCS.out]; exact yields_load_blk (by rfl) 30 (.tmp 4) rfl (w.heap.size + 1) rfl 30 (s.map u8v) (fun w' hb => hb.2) 16 5 Tryd.underlying30 (ae_cellsT s HS.out)) (by assumption) ?_
  (try simp only [Act.put, List.setIfInBounds_toArray, List.set_cons_zero, List.set_cons_succ])
  refine take_first (v := ?_) 2 rfl (by kernel_rfl) (by kernel_rfl) (by kernel_rfl) (fun _ _ _ h => h) (Or.inl ⟨by rfl, ?_⟩) (by assumption) ?_
  rotate_left
  · (intro w hSw; (try dsimp only at hSw); go_simp; try with_reducible rfl)
  (try simp only [Act.put, List.setIfInBounds_toArray, List.set_cons_zero, List.set_cons_succ])
  refine step_one 3 rfl (by kernel_rfl) (fun K hK => ?_)
  clear hHeld
  refine step_store_obj rfl 30 (.tmp 8) (.tmp 6) rfl G 50 (f.map u8v) rfl (by show Value.agg cf = _; rw [HCF.out]) 37 m.cells (HM.out.blk (i + 2) HE.out) (ae_cellsT f HF.out) (by rw [List.length_map, HF.out, HML.out]; omega) (u8v_one _) ?_
  intro wy2 hb hg
  replace HM := Lib.hid (show Mem w0 (blkE (w.heap.size + 1) 30 (s.map u8v) :: blkE w.heap.size 30 (f.map u8v) :: E.set i (blkE G 37 (setL m.cells 50 (f.map u8v)))) wy2 from HM.out.put (i + 2) HE.out _ hg hb)
  clear hb hg
  refine hK.out _ _ (⟨HM.out.blk 1 rfl, HM.out.blk 0 rfl⟩) (fun hHeld => ?_)
  clear hK K
  (try simp only [Act.put])
  refine take_first (v := ?_) 4 rfl (by kernel_rfl) (by kernel_rfl) (by kernel_rfl) (fun _ _ _ h => h) (Or.inl ⟨by rfl, ?_⟩) (by assumption) ?_
  rotate_left
  · (intro w hSw; (try dsimp only at hSw); go_simp; try with_reducible rfl)
  (try simp only [Act.put, List.setIfInBounds_toArray, List.set_cons_zero, List.set_cons_succ])
  refine step_one 5 rfl (by kernel_rfl) (fun K hK => ?_)
  clear hHeld
  refine step_store_obj rfl 30 (.tmp 9) (.tmp 7) rfl G 66 (s.map u8v) rfl (by show Value.agg cs = _; rw [HCS.out]) 37 (setL m.cells 50 (f.map u8v)) (HM.out.blk (i + 2) (mem_set_get HE.out)) (ae_cellsT s HS.out) (by rw [List.length_map, HS.out, setL_len _ _ _ (by rw [List.length_map, HF.out, HML.out]; omega), HML.out]; omega) (u8v_one _) ?_
  intro wy3 hb hg
  rw [HSC.out] at hb
  have hm3 := HM.out.put (i + 2) (mem_set_get HE.out) _ hg hb
  replace HM := Lib.hid (show Mem w0 (blkE (w.heap.size + 1) 30 (s.map u8v) :: blkE w.heap.size 30 (f.map u8v) :: E.set i (blkE G 37 (withC 2 m f s).cells)) wy3 from by
    have h := hm3
    simp only [List.set_cons_succ, mem_set_set] at h
    exact h)
  clear hb hg hm3
  refine hK.out _ _ (⟨HM.out.blk 1 rfl, HM.out.blk 0 rfl⟩) (fun hHeld => ?_)
  clear hK K
  (try simp only [Act.put])
  refine wpAnyH_done (by kernel_rfl) ?_ _
  clear hHeld
  have HG := Lib.hid (HM.out.blk (i + 2) (mem_set_get HE.out))
  go_wp2_with (refine wpList_load_obj rfl 37 (.tmp 2) rfl G 0 rfl (withC 2 m f s).cells HG.out.all _ Tryd.underlying37 rfl HUM.out ?_)
  rw [HCM.out]
  refine (HEN.out _).mono ?_
  rintro e wy4 ⟨A, c, rfl, h1, h2, hr, hb⟩
  have HR := Lib.hid (And.intro h1 (And.intro h2 hr))
  replace HM := Lib.hid ((HM.out.call hb (rdE wy3.heap.size wy4.heap.size A 92 (encB 2 (withC 2 m f s))) rfl rfl hr))
  clear hb h1 h2 hr
  go_wp2_with fail
  go_ret
  exact ⟨A, c, rfl, HR.out.1, HR.out.2.1, widen HM.out rfl rfl rfl⟩
end Go.Proofs.YtlddafkikkaonaaDoor
namespace Go.Proofs.YtlddafkikkaonaaDoor
open Go.RowKit

set_option maxRecDepth 100000 in
set_option maxHeartbeats 4000000 in
theorem mcSealR : McSealC 9 2 := by
  intro p ck hp hck has m hok w hlv
  have HP := Lib.hid hp
  have HK := Lib.hid hck
  have HLV := Lib.hid hlv
  have HOK := Lib.hid hok
  obtain ⟨cp, hcp⟩ : ∃ z, (p.map u8v).toArray = z := ⟨_, rfl⟩
  obtain ⟨cc, hcc⟩ : ∃ z, (ck.map u8v).toArray = z := ⟨_, rfl⟩
  obtain ⟨cm, hcm⟩ : ∃ z, m.cells.toArray = z := ⟨_, rfl⟩
  have HSA := Lib.hid (fun W G (E : List Ent) i hei (hm : Mem w E W) => seal_any (F := 33) (k := 2) (T := 37) (.inr rfl) mcEnc2 (enters_of Tryd.func33 (by kernel_rfl) rfl) p ck hp hck has m hok w W E i G hei hlv hm)
  obtain ⟨mt, hmt⟩ : ∃ z, macM p 2 m = z := ⟨_, rfl⟩
  have HML := Lib.hid (show mt.length = 16 from by rw [← hmt]; exact macM_length _ _ _)
  obtain ⟨cmt, hct⟩ : ∃ z, (mt.map u8v).toArray = z := ⟨_, rfl⟩
  rw [hmt, hct, hcp, hcc] at HSA
  rw [hmt, hct, hcp, hcc, hcm]
  have HCT := Lib.hid hct
  have HM := Lib.hid (show Mem w [blkE (w.heap.size + 1 + 1 + 1) 30 ((List.replicate 16 (0 : UInt8)).map u8v), blkE (w.heap.size + 1 + 1) 37 m.cells, blkE (w.heap.size + 1) 30 (ck.map u8v), blkE w.heap.size 23 (p.map u8v)] ((((w.alloc (.cells cp 23)).alloc (.cells cc 30)).alloc (.cells cm 37)).alloc (.cells #[.int .u8 0, .int .u8 0, .int .u8 0, .int .u8 0, .int .u8 0, .int .u8 0, .int .u8 0, .int .u8 0, .int .u8 0, .int .u8 0, .int .u8 0, .int .u8 0, .int .u8 0, .int .u8 0, .int .u8 0, .int .u8 0] 30)) from ((((Mem.nil w).alloc rfl 23 cp (p.map u8v) hcp.symm).alloc (by simp) 30 cc (ck.map u8v) hcc.symm).alloc (by simp) 37 cm m.cells hcm.symm).alloc (by simp) 30 #[.int .u8 0, .int .u8 0, .int .u8 0, .int .u8 0, .int .u8 0, .int .u8 0, .int .u8 0, .int .u8 0, .int .u8 0, .int .u8 0, .int .u8 0, .int .u8 0, .int .u8 0, .int .u8 0, .int .u8 0, .int .u8 0] ((List.replicate 16 (0 : UInt8)).map u8v) rfl)
  have HCP := Lib.hid hcp
  have HCC := Lib.hid hcc
  clear hcp hcc hcm hmt hct hp hck hok hlv
  go_enter Tryd.func9, Tryd.ntmps9
  go_upto_region 1 with fail
  generalize ((((w.alloc (.cells cp 23)).alloc (.cells cc 30)).alloc (.cells cm 37)).alloc (.cells #[.int .u8 0, .int .u8 0, .int .u8 0, .int .u8 0, .int .u8 0, .int .u8 0, .int .u8 0, .int .u8 0, .int .u8 0, .int .u8 0, .int .u8 0, .int .u8 0, .int .u8 0, .int .u8 0, .int .u8 0, .int .u8 0] 30)) = w1 at HM ⊢
  have hmf : ∀ (fn : Fn) (first cap : Array Value) (w : World), (Instr.makeFunc fn first cap).run Tryd.prog w = .ok (.func fn first cap) w := fun _ _ _ _ => rfl
  go_wp2_with (first | (refine wpList_load_blk rfl 23 (.tmp 4) rfl w.heap.size rfl 23 (p.map u8v) (HM.out.blk 3 rfl) 32 5 Tryd.underlying23 (cells32 p HP.out) ?_) | (refine wpList_load_blk rfl 30 (.tmp 6) rfl (w.heap.size + 1) rfl 30 (ck.map u8v) (HM.out.blk 2 rfl) 16 5 Tryd.underlying30 (ae_cellsT ck HK.out) ?_))
  clear hmf
  rw [HCP.out, HCC.out]
  refine (HSA.out w1 (w.heap.size + 1 + 1) [blkE (w.heap.size + 1 + 1 + 1) 30 ((List.replicate 16 (0 : UInt8)).map u8v), blkE (w.heap.size + 1 + 1) 37 m.cells, blkE (w.heap.size + 1) 30 (ck.map u8v), blkE w.heap.size 23 (p.map u8v)] 1 rfl HM.out).mono ?_
  rintro e w2 ⟨A, c, rfl, h1, h2, m', hm⟩
  have HC := Lib.hid (And.intro h1 h2)
  replace HM := Lib.hid (show Mem w [rdE w1.heap.size w2.heap.size A 92 (encB 2 (sealM p has ck 2 m)), blkE (w.heap.size + 1 + 1 + 1) 30 ((List.replicate 16 (0 : UInt8)).map u8v), blkE (w.heap.size + 1 + 1) 37 m'.cells, blkE (w.heap.size + 1) 30 (ck.map u8v), blkE w.heap.size 23 (p.map u8v)] w2 from hm)
  clear h1 h2 hm HSA
  go_wp2_with (refine wpList_store_blk rfl 30 (.tmp 9) (.tmp 16) rfl (w.heap.size + 1 + 1 + 1) (mt.map u8v) rfl (by show Value.agg cmt = _; rw [HCT.out]) 30 ((List.replicate 16 (0 : UInt8)).map u8v) (HM.out.blk 1 rfl) (ae_cellsT mt HML.out) (by rw [List.length_map, List.length_map, HML.out]; rfl) (u8v_one _) ?_; intro w9 hb hg)
  replace HM := Lib.hid (HM.out.put 1 rfl _ hg hb)
  exact bodyPost_ret (results_tmp_obj rfl _ _ (w.heap.size + 1 + 1 + 1) 30 (mt.map u8v) _ rfl (HM.out.blk 1 rfl) Tryd.underlying30 rfl (ae_cellsT mt HML.out)) rfl ⟨A, c, by rw [HCT.out]; rfl, HC.out.1, HC.out.2, Mem.rdIn0 HM.out (by omega), HM.out.bel⟩
end Go.Proofs.YtlddafkikkaonaaDoor
namespace Go.Proofs.YtlddafkikkaonaaDoor
open Go.RowKit

set_option maxHeartbeats 400000 in
set_option maxRecDepth 100000 in
theorem reverse_own (B g n cap : Nat) (l : List UInt8) (hn : n ≤ 1000000) (w : World) (hown : w.ownsRow B 5 1 (.slice (some ⟨g, 0, none⟩) n cap) n (l.map u8v)) :
    Calls Tryd.prog 64 #[.slice (some ⟨g, 0, none⟩) n cap] w fun e w' => e = .returned (.tuple #[]) ∧ w'.ownsRow B 5 1 (.slice (some ⟨g, 0, none⟩) n cap) n (l.reverse.map u8v) ∧ w.grownBy w' (some g) := by
  have hl : l.length = n := by simpa using hown.1
  go_enter Tryd.func64, Tryd.ntmps64
  go_wp2
  go_loopw [2, 3] (fun i j wr => ∃ k : Nat, 2 * k ≤ n ∧ i = .int .i64 k ∧ j = .int .i64 ((n : Int) - 1 - k) ∧ wr.ownsRow B 5 1 (.slice (some ⟨g, 0, none⟩) n cap) n ((revRow l k).map u8v) ∧ w.grownBy wr (some g)) (fun i _ _ => n - (intOf i).toNat)
  case atStart => exact ⟨0, by omega, rfl, by simp, by rw [revRow_zero]; exact hown, World.grownBy.refl w _⟩
  case round =>
    obtain ⟨k, hk, rfl, rfl, how, hg⟩ := hrel
    by_cases hlt : (k : Int) < (n : Int) - 1 - k
    · have hfz1 := how.frozenAt k
      have hfz2 := how.frozenAt (n - 1 - k)
      have hc1 := how.cellAt k (by omega)
      have hc2 := how.cellAt (n - 1 - k) (by omega)
      rw [map_u8v_getElem? _ _ (by rw [revRow_length]; omega)] at hc1 hc2
      have HO := Lib.hid how
      clear how
      go_wp2
      go_region
      all_goals
        go_wp2
        go_roundw
        case rel =>
          have h2 := (HO.out.stored k (u8v ((revRow l k).getD (l.length - 1 - k) 0))).1.stored (l.length - 1 - k) (u8v ((revRow l k).getD k 0))
          have h3 := (HO.out.stored k (u8v ((revRow l k).getD (l.length - 1 - k) 0))).2
          rw [← List.map_set, ← List.map_set, revRow_step l k (by omega), getD_lt (by rw [revRow_length]; omega), getD_lt (by rw [revRow_length]; omega)] at h2
          rw [getD_lt (by rw [revRow_length]; omega)] at h3
          simp only [hl, u8v] at h2 h3
          exact ⟨k + 1, by omega, by go_num, by go_num, h2.1.drew, only_drew (grownBy_trans (grownBy_trans hg h3) h2.2)⟩
        case measure => simp [intOf]; omega
    · rw [revRow_end l k (by omega)] at how
      go_wp2
      go_end0
      exact ⟨rfl, by rw [← List.map_reverse]; exact how, hg⟩
end Go.Proofs.YtlddafkikkaonaaDoor
namespace Go.Proofs.YtlddafkikkaonaaDoor
open Go.RowKit

set_option maxRecDepth 100000 in
theorem big_any (n : Nat) (hn : n < 18446744073709551616) (k : Nat) (h1 : 1 ≤ k) (h8 : k ≤ 8) (w : World) :
    Calls Tryd.prog 40 #[.int .u64 n, .int .i64 k] w fun e w' => e = .returned (.slice (some ⟨w.heap.size, 0, none⟩) k k) ∧ w'.ownsRow w.heap.size 5 1 (.slice (some ⟨w.heap.size, 0, none⟩) k k) k ((littleL n k).reverse.map u8v) ∧ Below w.heap.size w w' := by
  have L := little_any n hn k h1 h8
  have HL := Lib.hid L
  clear L hn
  go_enter Tryd.func40, Tryd.ntmps40
  go_wp2_with fail
  refine (HL.out _).mono ?_
  rintro e w1 ⟨rfl, hown, hb⟩
  have R := reverse_own w.heap.size w.heap.size k k (littleL n k) (by omega) w1 hown
  have HR := Lib.hid R
  clear R
  go_wp2_with fail
  refine HR.out.mono ?_
  rintro e w2 ⟨rfl, hown2, hg2⟩
  go_wp2_with fail
  go_ret
  exact ⟨rfl, hown2, hb.grown hg2 hb.size (by simp)⟩
end Go.Proofs.YtlddafkikkaonaaDoor
namespace Go.Proofs.YtlddafkikkaonaaDoor
open Go.RowKit

theorem end_at {w : World} {g : Nat} {t : TypeId} {a : AddrM} {port : Int} (h : Blk w g t (endC a port)) (_ho : a.ok) : At w g 0 a.cells := fun j v hv => by
  rw [h.cell (0 + j), Nat.zero_add, endC, List.getElem?_append_left (List.getElem?_eq_some_iff.1 hv).1]
  exact hv
set_option maxRecDepth 100000 in
theorem addressBytes_any (a : AddrM) (ha : a.ok) (n : Nat) (hn : (if a.six then 16 else 4) = n) (w : World) :
    Calls Tryd.prog 39 #[.agg a.cells.toArray] w fun e w' => ∃ g, e = .returned (.slice (some ⟨g, 1, none⟩) n 16) ∧ RdIn w.heap.size w'.heap.size (some ⟨g, 1, none⟩) n (a.ip.take n) w' ∧ Below w.heap.size w w' := by
  obtain ⟨ca, hca⟩ : ∃ z, a.cells.toArray = z := ⟨_, rfl⟩
  rw [hca]
  have HM := Lib.hid (show Mem w [blkE w.heap.size 27 a.cells] (w.alloc (.cells ca 27)) from (Mem.nil w).alloc rfl 27 ca a.cells hca.symm)
  clear hca
  have h16 : n ≤ 16 := by rw [← hn]; split <;> omega
  have HR := Lib.hid (show RdIn w.heap.size (w.alloc (.cells ca 27)).heap.size (some ⟨w.heap.size, 1, none⟩) n (a.ip.take n) (w.alloc (.cells ca 27)) from by
    refine ⟨by rw [List.length_take, ha]; omega, fun _ => ⟨w.heap.size, 1, rfl, Nat.le_refl _, (HM.out.blk 0 rfl).lt, fun j hj => ?_⟩⟩
    rw [List.length_take, ha] at hj
    have hc := (HM.out.blk 0 rfl).cell (1 + j)
    rw [hc, AddrM.cells, Nat.add_comm, List.getElem?_cons_succ, List.getElem?_map, List.getElem?_eq_getElem (by rw [ha]; omega), List.getElem_take]
    rfl)
  have fsix : (w.alloc (.cells ca 27)).cell? ⟨w.heap.size, 0, none⟩ = some (.bool a.six) := (HM.out.blk 0 rfl).cell 0
  go_enter Tryd.func39, Tryd.ntmps39
  go_upto_region 1 with fail
  generalize w.alloc (.cells ca 27) = w1 at HM HR fsix ⊢
  cases h6 : a.six
  · rw [h6] at fsix hn
    rw [if_neg (by decide)] at hn
    subst hn
    go_wp2
    go_ret
    exact ⟨_, rfl, HR.out, HM.out.bel⟩
  · rw [h6] at fsix hn
    rw [if_pos rfl] at hn
    subst hn
    go_wp2
    go_ret
    exact ⟨_, rfl, HR.out, HM.out.bel⟩
set_option maxRecDepth 100000 in
set_option maxHeartbeats 8000000 in
theorem mcCookieC : McCookieC 14 := by
  intro s hs a ha port q hq hq6 w hlv
  have HS := Lib.hid hs
  have HA := Lib.hid ha
  have HLV := Lib.hid hlv
  obtain ⟨n, hn⟩ : ∃ z, (if a.six then 16 else 4) = z := ⟨_, rfl⟩
  have HN := Lib.hid (show n ≤ 16 from by rw [← hn]; split <;> omega)
  have HBG := Lib.hid (show ∀ W, Calls Tryd.prog 40 #[.int .u64 (q : Int), .int .i64 2] W (fun e w' => ∃ gb, e = .returned (.slice (some ⟨gb, 0, none⟩) 2 2) ∧ RdIn W.heap.size w'.heap.size (some ⟨gb, 0, none⟩) 2 (bigL q 2) w' ∧ Below W.heap.size W w') from fun W => (big_any q hq6 2 (by omega) (by omega) W).mono (fun e w' h => by
    obtain ⟨rfl, ho, hb⟩ := h
    exact ⟨_, rfl, RdIn.of_own ho, hb⟩))
  have HAB := Lib.hid (addressBytes_any a ha n hn)
  have HV := Lib.hid (show cookieB s a q = codeB s (a.ip.take n ++ bigL q 2) from by rw [cookieB, hn])
  obtain ⟨ca, hca⟩ : ∃ z, a.cells.toArray = z := ⟨_, rfl⟩
  rw [hca] at HAB
  have HCA := Lib.hid hca
  obtain ⟨cs, hcs⟩ : ∃ z, (s.map u8v).toArray = z := ⟨_, rfl⟩
  obtain ⟨ce, hce⟩ : ∃ z, (endC a port).toArray = z := ⟨_, rfl⟩
  rw [hcs, hce]
  have HM := Lib.hid (show Mem w [blkE (w.heap.size + 2) 30 ((List.replicate 16 (0 : UInt8)).map u8v), blkE (w.heap.size + 1) 29 (endC a port), blkE w.heap.size 23 (s.map u8v)] (((w.alloc (.cells cs 23)).alloc (.cells ce 29)).alloc (.cells #[.int .u8 0, .int .u8 0, .int .u8 0, .int .u8 0, .int .u8 0, .int .u8 0, .int .u8 0, .int .u8 0, .int .u8 0, .int .u8 0, .int .u8 0, .int .u8 0, .int .u8 0, .int .u8 0, .int .u8 0, .int .u8 0] 30)) from (((Mem.nil w).alloc rfl 23 cs (s.map u8v) hcs.symm).alloc (g := (w.heap.size + 1)) (by simp) 29 ce (endC a port) hce.symm).alloc (g := w.heap.size + 2) (by simp) 30 #[.int .u8 0, .int .u8 0, .int .u8 0, .int .u8 0, .int .u8 0, .int .u8 0, .int .u8 0, .int .u8 0, .int .u8 0, .int .u8 0, .int .u8 0, .int .u8 0, .int .u8 0, .int .u8 0, .int .u8 0, .int .u8 0] ((List.replicate 16 (0 : UInt8)).map u8v) rfl)
  have HCC := Lib.hid (fun (ga gb g1 : Nat) (W : World) (hlw : LvBlake W) (hk : Rd W W.heap.size (some ⟨w.heap.size, 0, none⟩) 32 s) (hp : PartsRd W W.heap.size (some ⟨g1, 0, none⟩) [⟨some ⟨ga, 1, none⟩, n, 16, a.ip.take n⟩, ⟨some ⟨gb, 0, none⟩, 2, 2, bigL q 2⟩]) => (show Calls Tryd.prog 27 #[.slice (some ⟨w.heap.size, 0, none⟩) 32 32, .slice (some ⟨g1, 0, none⟩) 2 2] W fun e w' => e = .returned (.agg ((codeB s (a.ip.take n ++ bigL q 2)).map u8v).toArray) ∧ Below W.heap.size W w' from by
    have h := blCodeC (some ⟨w.heap.size, 0, none⟩) 32 32 s (Nat.le_refl _) (by decide) (by decide) 2 (some ⟨g1, 0, none⟩) [⟨some ⟨ga, 1, none⟩, n, 16, a.ip.take n⟩, ⟨some ⟨gb, 0, none⟩, 2, 2, bigL q 2⟩] ⟨by simp, by show (flat _ 2).length ≤ _; rw [show flat [⟨some ⟨ga, 1, none⟩, n, 16, a.ip.take n⟩, ⟨some ⟨gb, 0, none⟩, 2, 2, bigL q 2⟩] 2 = a.ip.take n ++ bigL q 2 from by simp [flat], List.length_append, List.length_take, bigL_length]; have := HN.out; omega, by
      intro x hx
      simp only [List.mem_cons, List.not_mem_nil, or_false] at hx
      rcases hx with rfl | rfl
      · exact ⟨HN.out, (show 16 ≤ maxLen by decide)⟩
      · exact ⟨Nat.le_refl _, (show 2 ≤ maxLen by decide)⟩⟩ (by simp) (by decide) W hlw hk hp
    rwa [show ([⟨some ⟨ga, 1, none⟩, n, 16, a.ip.take n⟩, ⟨some ⟨gb, 0, none⟩, 2, 2, bigL q 2⟩] : List Part).length = 2 from rfl, show flat [⟨some ⟨ga, 1, none⟩, n, 16, a.ip.take n⟩, ⟨some ⟨gb, 0, none⟩, 2, 2, bigL q 2⟩] 2 = a.ip.take n ++ bigL q 2 from by simp [flat]] at h))
  obtain ⟨mt, hmt⟩ : ∃ z, codeB s (a.ip.take n ++ bigL q 2) = z := ⟨_, rfl⟩
  have HML := Lib.hid (show mt.length = 16 from by rw [← hmt]; exact codeB_length _ _)
  rw [hmt] at HCC HV
  obtain ⟨cm, hcm⟩ : ∃ z, (mt.map u8v).toArray = z := ⟨_, rfl⟩
  rw [hcm] at HCC
  have HCM := Lib.hid hcm
  clear hcs hce hs hca hmt hcm hn hlv
  go_enter Tryd.func14, Tryd.ntmps14
  go_upto_region 1 with fail
  generalize (((w.alloc (.cells cs 23)).alloc (.cells ce 29)).alloc (.cells #[.int .u8 0, .int .u8 0, .int .u8 0, .int .u8 0, .int .u8 0, .int .u8 0, .int .u8 0, .int .u8 0, .int .u8 0, .int .u8 0, .int .u8 0, .int .u8 0, .int .u8 0, .int .u8 0, .int .u8 0, .int .u8 0] 30)) = w1 at HM ⊢
  refine wp_region_held_drew (S := fun W' => Mem w [blkE (w.heap.size + 1) 29 (endC a port), blkE w.heap.size 23 (s.map u8v)] W') (by kernel_rfl) (((HM.out.erase 0)).drew) (fun hHeld => ?_)
  replace HM := Lib.hid HM.out.drew
  generalize w1.drew = wd1 at HM hHeld ⊢
  refine take_first (v := ?_) 0 rfl (by kernel_rfl) (by kernel_rfl) (by kernel_rfl) (fun _ _ _ h => h) (Or.inl ⟨by rfl, ?_⟩) (by assumption) ?_
  rotate_left
  · (intro w hSw; (try dsimp only at hSw); go_simp; try with_reducible rfl)
  (try simp only [Act.put, List.setIfInBounds_toArray, List.set_cons_zero, List.set_cons_succ])
  refine take_first (v := ?_) 1 rfl (by kernel_rfl) (by kernel_rfl) (by kernel_rfl) (fun _ _ _ h => h) (Or.inl ⟨by rfl, ?_⟩) (by assumption) ?_
  rotate_left
  · (intro w hSw; (try dsimp only at hSw); go_simp; try with_reducible rfl)
  (try simp only [Act.put, List.setIfInBounds_toArray, List.set_cons_zero, List.set_cons_succ])
  refine take_first (v := .agg ca) 2 rfl (by kernel_rfl) (by kernel_rfl) (by kernel_rfl) (fun _ _ _ h => h) (by rw [← HCA.out]; exact yields_load_obj (by rfl) 27 (.tmp 6) rfl (w.heap.size + 1) 0 rfl a.cells (fun w' hb => end_at (Mem.blk hb 0 rfl) HA.out) _ Tryd.underlying27 rfl (by rw [AddrM.cells_length HA.out]; kernel_rfl)) (by assumption) ?_
  (try simp only [Act.put, List.setIfInBounds_toArray, List.set_cons_zero, List.set_cons_succ])
  refine take_first (v := ?_) 4 rfl (by kernel_rfl) (by kernel_rfl) (by kernel_rfl) (fun _ _ _ h => h) (Or.inl ⟨by rfl, ?_⟩) (by assumption) ?_
  rotate_left
  · (intro w hSw; (try dsimp only at hSw); go_simp; try with_reducible rfl)
  (try simp only [Act.put, List.setIfInBounds_toArray, List.set_cons_zero, List.set_cons_succ])
  refine take_first (v := ?_) 5 rfl (by kernel_rfl) (by kernel_rfl) (by kernel_rfl) (fun _ _ _ h => h) (Or.inl ⟨by rfl, ?_⟩) (by assumption) ?_
  rotate_left
  · (intro w hSw; (try dsimp only at hSw); have hc := (Mem.blk hSw 0 rfl).cell 17; rw [endC_port HA.out] at hc; go_simp; try with_reducible rfl)
  (try simp only [Act.put, List.setIfInBounds_toArray, List.set_cons_zero, List.set_cons_succ])
  refine take_first (v := ?_) 6 rfl (by kernel_rfl) (by kernel_rfl) (by kernel_rfl) (fun _ _ _ h => h) (Or.inl ⟨by rfl, ?_⟩) (by assumption) ?_
  rotate_left
  · (intro w hSw; (try dsimp only at hSw); go_simp; try with_reducible rfl)
  (try simp only [Act.put, List.setIfInBounds_toArray, List.set_cons_zero, List.set_cons_succ])
  refine step_one 3 rfl (by kernel_rfl) (fun K hK => ?_)
  clear hHeld
  go_simp
  refine (HAB.out _).mono ?_
  rintro e wy2 ⟨ga, rfl, hr, hb⟩
  replace HM := Lib.hid (show Mem w [rdE wd1.heap.size wy2.heap.size (some ⟨ga, 1, none⟩) n (a.ip.take n), blkE (w.heap.size + 2) 30 ((List.replicate 16 (0 : UInt8)).map u8v), blkE (w.heap.size + 1) 29 (endC a port), blkE w.heap.size 23 (s.map u8v)] wy2 from HM.out.call hb _ rfl rfl hr)
  clear hr
  obtain ⟨hi1, hhi⟩ : ∃ z, wy2.heap.size = z := ⟨_, rfl⟩
  rw [hhi] at HM
  clear hhi
  clear hb
  go_wp2_with fail
  refine hK.out _ _ (((HM.out.erase 0).erase 0)) (fun hHeld => ?_)
  clear hK K
  (try simp only [Act.put, List.setIfInBounds_toArray, List.set_cons_zero, List.set_cons_succ])
  refine step_one 7 rfl (by kernel_rfl) (fun K hK => ?_)
  clear hHeld
  go_simp
  refine (HBG.out _).mono ?_
  rintro e wy3 ⟨gb, rfl, hr, hb⟩
  replace HM := Lib.hid (show Mem w [rdE wy2.heap.size wy3.heap.size (some ⟨gb, 0, none⟩) 2 (bigL q 2), rdE wd1.heap.size hi1 (some ⟨ga, 1, none⟩) n (a.ip.take n), blkE (w.heap.size + 2) 30 ((List.replicate 16 (0 : UInt8)).map u8v), blkE (w.heap.size + 1) 29 (endC a port), blkE w.heap.size 23 (s.map u8v)] wy3 from HM.out.call hb _ rfl rfl hr)
  clear hr
  obtain ⟨hi2, hhi⟩ : ∃ z, wy3.heap.size = z := ⟨_, rfl⟩
  rw [hhi] at HM
  clear hhi
  clear hb
  go_wp2_with fail
  refine hK.out _ _ ((((HM.out.erase 0).erase 0).erase 0)) (fun hHeld => ?_)
  clear hK K
  (try simp only [Act.put, List.setIfInBounds_toArray, List.set_cons_zero, List.set_cons_succ])
  refine step_one 8 rfl (by kernel_rfl) (fun K hK => ?_)
  clear hHeld
  go_simp
  replace HM := Lib.hid (show Mem w [blkE wy3.heap.size 24 ([.slice (some ⟨ga, 1, none⟩) n 16, .slice (some ⟨gb, 0, none⟩) 2 2]), rdE wy2.heap.size hi2 (some ⟨gb, 0, none⟩) 2 (bigL q 2), rdE wd1.heap.size hi1 (some ⟨ga, 1, none⟩) n (a.ip.take n), blkE (w.heap.size + 2) 30 ((List.replicate 16 (0 : UInt8)).map u8v), blkE (w.heap.size + 1) 29 (endC a port), blkE w.heap.size 23 (s.map u8v)] (wy3.alloc (.cells #[.slice (some ⟨ga, 1, none⟩) n 16, .slice (some ⟨gb, 0, none⟩) 2 2] 24)) from HM.out.alloc rfl 24 #[.slice (some ⟨ga, 1, none⟩) n 16, .slice (some ⟨gb, 0, none⟩) 2 2] ([.slice (some ⟨ga, 1, none⟩) n 16, .slice (some ⟨gb, 0, none⟩) 2 2]) rfl)
  generalize wy3.alloc (.cells #[.slice (some ⟨ga, 1, none⟩) n 16, .slice (some ⟨gb, 0, none⟩) 2 2] 24) = wy4 at HM ⊢
  generalize wy3.heap.size = GP at HM ⊢
  refine hK.out _ _ (((((HM.out.erase 0).erase 0).erase 0).erase 0)) (fun hHeld => ?_)
  clear hK K
  (try simp only [Act.put, List.setIfInBounds_toArray, List.set_cons_zero, List.set_cons_succ])
  refine step_one 9 rfl (by kernel_rfl) (fun K hK => ?_)
  clear hHeld
  go_simp
  refine (HCC.out ga gb GP _ (HLV.out.below HM.out.bel) (blk_all (HM.out.blk 5 rfl) HS.out) (parts_rd (g := GP) (t := 24) (ps := [⟨some ⟨ga, 1, none⟩, n, 16, a.ip.take n⟩, ⟨some ⟨gb, 0, none⟩, 2, 2, bigL q 2⟩]) (HM.out.blk 0 rfl) (by intro x hx; simp only [List.mem_cons, List.not_mem_nil, or_false] at hx; rcases hx with rfl | rfl; exact HM.out.rd 2 rfl; exact HM.out.rd 1 rfl))).mono ?_
  rintro e wy5 ⟨rfl, hb⟩
  replace HM := Lib.hid (show Mem w [blkE GP 24 ([.slice (some ⟨ga, 1, none⟩) n 16, .slice (some ⟨gb, 0, none⟩) 2 2]), rdE wy2.heap.size hi2 (some ⟨gb, 0, none⟩) 2 (bigL q 2), rdE wd1.heap.size hi1 (some ⟨ga, 1, none⟩) n (a.ip.take n), blkE (w.heap.size + 2) 30 ((List.replicate 16 (0 : UInt8)).map u8v), blkE (w.heap.size + 1) 29 (endC a port), blkE w.heap.size 23 (s.map u8v)] wy5 from HM.out.below hb)
  clear hb
  go_wp2_with fail
  refine hK.out _ _ (((((HM.out.erase 0).erase 0).erase 0).erase 0)) (fun hHeld => ?_)
  clear hK K
  (try simp only [Act.put, List.setIfInBounds_toArray, List.set_cons_zero, List.set_cons_succ])
  refine step_one 10 rfl (by kernel_rfl) (fun K hK => ?_)
  clear hHeld
  refine step_store_blk _ rfl 30 (.tmp 4) (.tmp 14) rfl (w.heap.size + 2) (mt.map u8v) rfl (by show Value.agg cm = _; rw [HCM.out]) 30 ((List.replicate 16 (0 : UInt8)).map u8v) (HM.out.blk 3 rfl) (ae_cellsT mt HML.out) (by rw [List.length_map, List.length_map, HML.out]; rfl) (by intro v hv; obtain ⟨_, _, rfl⟩ := List.mem_map.1 hv; rfl) ?_
  intro wy6 hb hg
  replace HM := Lib.hid (show Mem w [blkE GP 24 ([.slice (some ⟨ga, 1, none⟩) n 16, .slice (some ⟨gb, 0, none⟩) 2 2]), rdE wy2.heap.size hi2 (some ⟨gb, 0, none⟩) 2 (bigL q 2), rdE wd1.heap.size hi1 (some ⟨ga, 1, none⟩) n (a.ip.take n), blkE (w.heap.size + 2) 30 (mt.map u8v), blkE (w.heap.size + 1) 29 (endC a port), blkE w.heap.size 23 (s.map u8v)] wy6 from HM.out.put 3 rfl _ hg hb)
  clear hb hg
  refine hK.out _ _ (((((HM.out.erase 0).erase 0).erase 0).erase 0)) (fun hHeld => ?_)
  clear hK K
  (try simp only [Act.put])
  refine wpAnyH_done (by kernel_rfl) ?_ _
  clear hHeld
  go_wp2
  exact bodyPost_ret (results_blk rfl _ _ (w.heap.size + 2) 30 (mt.map u8v) 16 5 rfl (HM.out.blk 3 rfl) Tryd.underlying30 (ae_cellsT mt HML.out)) rfl ⟨by rw [HV.out], HM.out.bel⟩
end Go.Proofs.YtlddafkikkaonaaDoor
namespace Go.Proofs.YtlddafkikkaonaaDoor
open Go.RowKit

set_option maxRecDepth 100000 in
theorem hasCodes_any (A : Option Addr) (n c : Nat) (l : List UInt8) (hnc : n ≤ c) (hcm : c ≤ maxLen) (hn : n ≤ 100000) (w : World) (hr : Rd w w.heap.size A n l) :
    Calls Tryd.prog 42 #[.slice A n c] w fun e w' => e = .returned (.bool (codedB l)) ∧ Below w.heap.size w w' := by
  have HK := Lib.hid (msKindC A n c l hnc hcm hn)
  have HR := Lib.hid hr
  have HCB := Lib.hid (show codedB l = (kindB l == 1 || kindB l == 2) from rfl)
  generalize kindB l = k at HK HCB
  clear hr
  go_enter Tryd.func42, Tryd.ntmps42
  go_wp2_with fail
  refine (HK.out _ HR.out).mono ?_
  rintro e w1 ⟨rfl, hb⟩
  have HB := Lib.hid hb
  clear hb
  by_cases h1 : k = 1
  · subst h1
    go_wp2
    go_ret
    exact ⟨by rw [HCB.out]; rfl, HB.out⟩
  · have e1 : ((k : Int) == 1) = false := by rw [beq_eq_false_iff_ne]; omega
    have hk : codedB l = ((k : Int) == 2) := by
      rw [HCB.out, show (k == 1) = false from by simpa using h1, Bool.false_or]
      by_cases h2 : k = 2
      · subst h2; rfl
      · rw [show (k == 2) = false from by simpa using h2, show ((k : Int) == 2) = false from by rw [beq_eq_false_iff_ne]; omega]
    have h1' : ¬ ((k : Int) = 1) := by omega
    clear h1
    go_wp2
    go_ret
    exact ⟨by rw [hk]; rfl, HB.out⟩
end Go.Proofs.YtlddafkikkaonaaDoor
namespace Go.Proofs.YtlddafkikkaonaaDoor
open Go.RowKit

theorem or_zero (a b : Nat) : a ||| b = 0 ↔ a = 0 ∧ b = 0 := Nat.or_eq_zero_iff
theorem xor_zero (a b : Nat) : a ^^^ b = 0 ↔ a = b := by
  constructor
  · intro h
    apply Nat.eq_of_testBit_eq
    intro i
    have := congrArg (fun x => x.testBit i) h
    simp only [Nat.testBit_xor, Nat.zero_testBit] at this
    simpa using this
  · rintro rfl
    simp
/-- one round of Equal -/
theorem equal_step (d : Nat) (a b : UInt8) (hd : d < 256) : ∃ d' : Nat, d' < 256 ∧ bits BinOp.or IntKind.u8 (d : Int) (bits BinOp.xor IntKind.u8 (a.toNat : Int) (b.toNat : Int)) = (d' : Int) ∧ (d' = 0 ↔ d = 0 ∧ a = b) := by
  have h1 := a.toNat_lt
  have h2 := b.toNat_lt
  have hx : a.toNat ^^^ b.toNat < 2 ^ 8 := Nat.xor_lt_two_pow h1 h2
  refine ⟨d ||| (a.toNat ^^^ b.toNat), Nat.or_lt_two_pow hd hx, ?_, ?_⟩
  · rw [u8_xor_nat _ _ (by omega) (by omega), u8_or_nat _ _ (by omega) (by omega)]
  · rw [or_zero, xor_zero, UInt8.toNat_inj]
theorem take_eq_step (la lb : List UInt8) (j : Nat) (ha : j < la.length) (hb : j < lb.length) : la.take (j + 1) = lb.take (j + 1) ↔ la.take j = lb.take j ∧ la[j] = lb[j] := by
  rw [List.take_succ_eq_append_getElem ha, List.take_succ_eq_append_getElem hb]
  constructor
  · intro h
    have h2 := List.append_inj h (by simp; omega)
    exact ⟨h2.1, by simpa using h2.2⟩
  · rintro ⟨h1, h2⟩
    rw [h1, h2]

set_option maxRecDepth 100000 in
theorem equal_any (B n n' c c' : Nat) (A A' : Option Addr) (la lb : List UInt8) (hn : n ≤ 1000000) (hn' : n' ≤ 1000000) (w : World) (hB : B ≤ w.heap.size) (ha : Rd w B A n la) (hb : Rd w B A' n' lb) :
    Calls Tryd.prog 44 #[.slice A n c, .slice A' n' c'] w fun e w' => e = .returned (.bool (la == lb)) ∧ Below w.heap.size w w' := by
  have hla : la.length = n := ha.1
  have hlb : lb.length = n' := hb.1
  have HA := Lib.hid ha
  have HB := Lib.hid hb
  have HLA := Lib.hid hla
  have HLB := Lib.hid hlb
  clear ha hb hla hlb
  by_cases hne : n = n'
  · subst hne
    go_enter Tryd.func44, Tryd.ntmps44
    go_wp2
    go_loopw [5, 14, 6] (fun d i _ wr => ∃ j dn : Nat, j ≤ n ∧ i = .int .i64 j ∧ dn < 256 ∧ d = .int .u8 dn ∧ (dn = 0 ↔ la.take j = lb.take j) ∧ Below w.heap.size w wr) (fun _ i _ _ => n - (intOf i).toNat)
    case atStart => exact ⟨0, 0, by omega, rfl, by omega, rfl, by simp, Below.refl _ _⟩
    case round =>
      obtain ⟨j, dn, hj, rfl, hd, rfl, hiff, hbl⟩ := hrel
      by_cases hlt : j < n
      · obtain ⟨b1, o1, rfl, hb1, hc1⟩ := HA.out.at_ (by omega)
        obtain ⟨b2, o2, rfl, hb2, hc2⟩ := HB.out.at_ (by omega)
        have hja : j < la.length := by have := HLA.out; omega
        have hjb : j < lb.length := by have := HLB.out; omega
        have q1 := (hbl.cell (p := ⟨b1, o1 + j, none⟩) (Nat.lt_of_lt_of_le hb1 hB)).trans (hc1 j hja)
        have q2 := (hbl.cell (p := ⟨b2, o2 + j, none⟩) (Nat.lt_of_lt_of_le hb2 hB)).trans (hc2 j hjb)
        clear hc1 hc2
        obtain ⟨d', hd', hbits, hz⟩ := equal_step dn la[j] lb[j] hd
        have HI := Lib.hid hiff
        have HZ := Lib.hid hz
        clear hiff hz
        go_wp2
        go_quiet (fail)
        go_wp2
        go_roundw
        case rel => exact ⟨j + 1, d', by omega, by go_num, hd', rfl, by rw [take_eq_step _ _ _ hja hjb, HZ.out, HI.out], below_drewN hbl _⟩
        case measure => simp [intOf]; omega
      · obtain rfl : j = n := by omega
        rw [List.take_of_length_le (by have := HLA.out; omega), List.take_of_length_le (by have := HLB.out; omega)] at hiff
        have hfin : ((dn : Int) == 0) = (la == lb) := by
          rw [Bool.eq_iff_iff, beq_iff_eq, beq_iff_eq, ← hiff]
          omega
        have HF := Lib.hid hfin
        clear hfin hiff
        go_wp2
        go_ret
        exact ⟨by rw [← HF.out]; rfl, hbl⟩
  · have hfin : (la == lb) = false := by
      rw [beq_eq_false_iff_ne]
      intro h
      have := HLA.out
      have := HLB.out
      rw [h] at *
      omega
    rw [hfin]
    have hne' : ((n : Int) == (n' : Int)) = false := by
      rw [beq_eq_false_iff_ne]; omega
    clear hfin
    go_enter Tryd.func44, Tryd.ntmps44
    go_wp2
    go_ret
    exact ⟨rfl, Below.refl _ _⟩
end Go.Proofs.YtlddafkikkaonaaDoor
