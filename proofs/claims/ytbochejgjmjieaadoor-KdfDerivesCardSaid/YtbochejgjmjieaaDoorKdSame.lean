/-
  Lists of keys that are read, and the reference's SameKeys. No statement is proved here.
-/
import Derived.Test.YtbochejgjmjieaaDoorCells32
import Derived.Test.YtbochejgjmjieaaDoorKdC
import Derived.Test.YtbochejgjmjieaaDoorLoadOff
import Derived.Test.YtbochejgjmjieaaDoorBlSame
import Derived.RegionTactic
namespace Go.Proofs.YtbochejgjmjieaaDoor
open Go.RowKit

theorem yields_load_off {P : Program} {ops : Array Oper} {S : World → Prop} {o : Oper} {a : Act} (hw : Region.wanted o (yielded ops a.tmps) = true) (ty : TypeId) (x : Operand) (ho : o.op = .load ty x)
    (g off : Nat) (hx : a.eval x = .pointer (some ⟨g, off, none⟩)) (cs : List Value) (hS : ∀ w, S w → ∀ j v, cs[j]? = some v → w.cell? ⟨g, off + j, none⟩ = some v) (n : Nat) (e : TypeId) (hu : P.underlying ty = some (.array n e)) (hi : (P.info? ty).map (·.size) = some cs.length) :
    YieldsIf P ops S o (.agg cs.toArray) a := by
  refine .inl ⟨hw, fun w h => ?_⟩
  unfold execOp
  simp only [ho, hx, Instr.loadAt, Instr.sureAddr, Sem.run_bind, Sem.run_pure, Result.andThen_ok, run_load_off w g off ty cs (hS w h) n e hu hi]
/-- keys that lie one after the other below B -/
def RdKeys (W : World) (B : Nat) (A : Option Addr) (n : Nat) (ks : List (List UInt8)) : Prop :=
  ks.length = n ∧ (∀ k ∈ ks, k.length = 32) ∧ (0 < n → ∃ b off, A = some ⟨b, off, none⟩ ∧ b < B ∧ ∀ j v, (keysV ks)[j]? = some v → W.cell? ⟨b, off + j, none⟩ = some v)
theorem RdKeys.below {w W : World} {B : Nat} {A : Option Addr} {n : Nat} {ks : List (List UInt8)} (h : RdKeys w B A n ks) (hb : Below B w W) : RdKeys W B A n ks :=
  ⟨h.1, h.2.1, fun hn => by
    obtain ⟨b, off, e, hlt, hc⟩ := h.2.2 hn
    exact ⟨b, off, e, hlt, fun j v hv => (World.cell?_of_block (hb.block b hlt)).trans (hc j v hv)⟩⟩
theorem RdKeys.of_own {W : World} {B n c : Nat} {A : Option Addr} {ks : List (List UInt8)} (hn : ks.length = n) (hk : ∀ k ∈ ks, k.length = 32) (h : W.ownsRow B 30 32 (.slice A n c) n (keysV ks)) : RdKeys W W.heap.size A n ks := by
  refine ⟨hn, hk, fun h0 => ?_⟩
  rcases h.2 with ⟨_, e⟩ | ⟨g, cap, cur, hv, hbg, hg, hcap, hm, hs, hr⟩
  · omega
  · injection hv with hA _ _
    refine ⟨g, 0, hA, ?_, fun j v hj => ?_⟩
    · rcases Nat.lt_or_ge g W.heap.size with h | h
      · exact h
      · rw [Array.getElem?_eq_none h] at hg; cases hg
    · rw [← hr, List.getElem?_take] at hj
      split at hj
      · rw [Nat.zero_add]
        simp only [World.cell?, hg]
        simpa using hj
      · cases hj
theorem keysV_row : ∀ (ks : List (List UInt8)), (∀ k ∈ ks, k.length = 32) → ∀ (i : Nat) (h : i < ks.length) (j : Nat) (v : Value), (ks[i].map u8v)[j]? = some v → (keysV ks)[i * 32 + j]? = some v
  | k :: r, hk, 0, _, j, v, hj => by
    have hl := hk k (List.mem_cons_self ..)
    have hj2 : j < 32 := by
      rcases Nat.lt_or_ge j 32 with h | h
      · exact h
      · rw [List.getElem?_eq_none (by simp only [List.getElem_cons_zero, List.length_map, hl]; exact h)] at hj; cases hj
    show (k.map u8v ++ keysV r)[0 * 32 + j]? = _
    rw [Nat.zero_mul, Nat.zero_add, List.getElem?_append_left (by rw [List.length_map, hl]; exact hj2)]
    exact hj
  | k :: r, hk, i + 1, h, j, v, hj => by
    have hl := hk k (List.mem_cons_self ..)
    show (k.map u8v ++ keysV r)[(i + 1) * 32 + j]? = _
    rw [List.getElem?_append_right (by rw [List.length_map, hl]; omega), List.length_map, hl, show (i + 1) * 32 + j - 32 = i * 32 + j by omega]
    exact keysV_row r (fun x hx => hk x (List.mem_cons_of_mem _ hx)) i (by simpa using h) j v (by simpa using hj)

set_option maxRecDepth 100000 in
set_option maxHeartbeats 8000000 in
theorem same_keys_any (A A' : Option Addr) (n c c' : Nat) (ks : List (List UInt8)) (hn : n ≤ 1000) (w : World) (ha : RdKeys w w.heap.size A n ks) (hb : RdKeys w w.heap.size A' n ks) :
    Calls Tryd.prog 8 #[.slice A n c, .slice A' n c'] w fun e w' => e = .returned (.bool true) ∧ Below w.heap.size w w' := by
  obtain ⟨ik, hki, hkz, hks, hkb⟩ := keyInfo
  have HA := Lib.hid ha
  have HB := Lib.hid hb
  clear ha hb
  go_enter Tryd.func8, Tryd.ntmps8
  go_wp2_with fail
  go_loopw [13] (fun i wr => ∃ j : Nat, j ≤ n ∧ i = .int .i64 (j : Int) ∧ Below w.heap.size w wr) (fun i _ => n - (intOf i).toNat)
  case atStart => exact ⟨0, Nat.zero_le _, rfl, Below.refl _ _⟩
  case round =>
    obtain ⟨j, hj, rfl, hW⟩ := hrel
    have HW := Lib.hid hW
    clear hW
    by_cases hjn : j < n
    · have d1 : decide ((j : Int) < (n : Int)) = true := by simp; omega
      obtain ⟨b, off, rfl, hb1, hc1⟩ := HA.out.2.2 (by omega)
      obtain ⟨b', off', rfl, hb2, hc2⟩ := HB.out.2.2 (by omega)
      have hjl : j < ks.length := by rw [HA.out.1]; exact hjn
      obtain ⟨k, hk⟩ : ∃ k, ks[j] = k := ⟨_, rfl⟩
      have HK32 := Lib.hid (show k.length = 32 by rw [← hk]; exact HA.out.2.1 _ (List.getElem_mem hjl))
      have HLA := Lib.hid (show ∀ W, Below w.heap.size w W → ∀ q v, (k.map u8v)[q]? = some v → W.cell? ⟨b, off + j * 32 + q, none⟩ = some v from fun W hW q v hv => by
        rw [Nat.add_assoc]
        exact (World.cell?_of_block (hW.block b hb1)).trans (hc1 _ v (keysV_row ks HA.out.2.1 j hjl q v (by rw [hk]; exact hv))))
      have HLB := Lib.hid (show ∀ W, Below w.heap.size w W → ∀ q v, (k.map u8v)[q]? = some v → W.cell? ⟨b', off' + j * 32 + q, none⟩ = some v from fun W hW q v hv => by
        rw [Nat.add_assoc]
        exact (World.cell?_of_block (hW.block b' hb2)).trans (hc2 _ v (keysV_row ks HA.out.2.1 j hjl q v (by rw [hk]; exact hv))))
      obtain ⟨ck, hck⟩ : ∃ c, (k.map u8v).toArray = c := ⟨_, rfl⟩
      have e1 := fun w' : World => run_key_same k HK32.out w'
      rw [hck] at e1
      have HCK := Lib.hid hck
      clear hck hk hc1 hc2
      go_upto_region 6 with fail
      refine wp_region_held_drew (S := fun W' => Below w.heap.size w W') (by kernel_rfl) (HW.out.drew) (fun hHeld => ?_)
      refine take_first (v := ?_) 0 rfl (by kernel_rfl) (by kernel_rfl) (by kernel_rfl) (fun _ _ _ h => h) (Or.inl ⟨by rfl, ?_⟩) (by assumption) ?_
      rotate_left
      · (intro w hSw; (try dsimp only at hSw); go_simp; try with_reducible rfl)
      (try simp only [Act.put, List.setIfInBounds_toArray, List.set_cons_zero, List.set_cons_succ])
      refine take_first (v := ?_) 1 rfl (by kernel_rfl) (by kernel_rfl) (by kernel_rfl) (fun _ _ _ h => h) (Or.inl ⟨by rfl, ?_⟩) (by assumption) ?_
      rotate_left
      · (intro w hSw; (try dsimp only at hSw); go_simp; try with_reducible rfl)
      (try simp only [Act.put, List.setIfInBounds_toArray, List.set_cons_zero, List.set_cons_succ])
      refine take_first (v := ?_) 2 rfl (by kernel_rfl) (by kernel_rfl) (by kernel_rfl) (fun _ _ _ h => h) (Or.inl ⟨by rfl, ?_⟩) (by assumption) ?_
      rotate_left
      · (intro w hSw; (try dsimp only at hSw); go_simp; try with_reducible rfl)
      (try simp only [Act.put, List.setIfInBounds_toArray, List.set_cons_zero, List.set_cons_succ])
      refine take_first (v := .agg ck) 3 rfl (by kernel_rfl) (by kernel_rfl) (by kernel_rfl) (fun _ _ _ h => h) (by rw [← HCK.out]; exact yields_load_off (by rfl) 30 (.tmp 18) rfl b _ rfl _ (fun W hW => HLA.out W hW) 32 5 Tryd.underlying30 (cells32 _ HK32.out)) (by assumption) ?_
      (try simp only [Act.put, List.setIfInBounds_toArray, List.set_cons_zero, List.set_cons_succ])
      refine take_first (v := ?_) 4 rfl (by kernel_rfl) (by kernel_rfl) (by kernel_rfl) (fun _ _ _ h => h) (Or.inl ⟨by rfl, ?_⟩) (by assumption) ?_
      rotate_left
      · (intro w hSw; (try dsimp only at hSw); go_simp; try with_reducible rfl)
      (try simp only [Act.put, List.setIfInBounds_toArray, List.set_cons_zero, List.set_cons_succ])
      refine take_first (v := ?_) 5 rfl (by kernel_rfl) (by kernel_rfl) (by kernel_rfl) (fun _ _ _ h => h) (Or.inl ⟨by rfl, ?_⟩) (by assumption) ?_
      rotate_left
      · (intro w hSw; (try dsimp only at hSw); go_simp; try with_reducible rfl)
      (try simp only [Act.put, List.setIfInBounds_toArray, List.set_cons_zero, List.set_cons_succ])
      refine take_first (v := ?_) 6 rfl (by kernel_rfl) (by kernel_rfl) (by kernel_rfl) (fun _ _ _ h => h) (Or.inl ⟨by rfl, ?_⟩) (by assumption) ?_
      rotate_left
      · (intro w hSw; (try dsimp only at hSw); go_simp; try with_reducible rfl)
      (try simp only [Act.put, List.setIfInBounds_toArray, List.set_cons_zero, List.set_cons_succ])
      refine take_first (v := .agg ck) 7 rfl (by kernel_rfl) (by kernel_rfl) (by kernel_rfl) (fun _ _ _ h => h) (by rw [← HCK.out]; exact yields_load_off (by rfl) 30 (.tmp 22) rfl b' _ rfl _ (fun W hW => HLB.out W hW) 32 5 Tryd.underlying30 (cells32 _ HK32.out)) (by assumption) ?_
      (try simp only [Act.put, List.setIfInBounds_toArray, List.set_cons_zero, List.set_cons_succ])
      refine take_first (v := ?_) 8 rfl (by kernel_rfl) (by kernel_rfl) (by kernel_rfl) (fun _ _ _ h => h) (Or.inl ⟨by rfl, ?_⟩) (by assumption) ?_
      rotate_left
      · (intro w hSw; (try dsimp only at hSw); go_simp; try with_reducible rfl)
      (try simp only [Act.put, List.setIfInBounds_toArray, List.set_cons_zero, List.set_cons_succ])
      refine wpAnyH_done (by kernel_rfl) ?_ _
      go_wp2
      go_roundw
      case rel => exact ⟨j + 1, by omega, by go_num, by assumption⟩
      case measure => simp [intOf]; omega
    · obtain rfl : j = n := by omega
      have d1 : decide ((j : Int) < (j : Int)) = false := by simp
      have HF := Lib.hid HW.out
      go_wp2
      go_ret
      exact ⟨rfl, HF.out⟩
end Go.Proofs.YtbochejgjmjieaaDoor
