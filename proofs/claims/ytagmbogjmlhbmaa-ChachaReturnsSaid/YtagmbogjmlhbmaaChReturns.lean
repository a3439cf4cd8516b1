/-
  ChachaReturns returns true for every key, counter, nonce, data and place, and changes nothing that was there: the walk.
-/
import Derived.Test.YtagmbogjmlhbmaaChEnv
namespace Go.Proofs.Ytagmbogjmlhbmaa
open Go.RowKit

set_option maxRecDepth 100000 in
set_option maxHeartbeats 2000000 in
theorem returns_walk (w : World) (k : List UInt8) (c : UInt32) (nn : List UInt8) (A : Option Addr) (len cap : Nat) (l : List UInt8) (p : Nat) (hk : k.length = 32) (hn : nn.length = 12) (hlc : len ≤ cap) (hcm : cap ≤ maxLen) (hr : Rd w w.heap.size A len l) (hp : p ≤ 255) :
    Calls Try.prog 5 #[.agg (k.map u8v).toArray, .int .u32 (c.toNat : Int), .agg (nn.map u8v).toArray, .slice A len cap, .int .u8 (p : Int)] w fun e w' => e = .returned (.bool true) ∧ Below w.heap.size w w' := by
  have XC := fun (c' : UInt32) (D : Option Addr) (n' cap' : Nat) (l' : List UInt8) (hn6 : n' ≤ 1000000) (w' : World) (hr' : Rd w' w'.heap.size D n' l') => xor_rd k nn hk hn c' D n' cap' l' hn6 w' hr'
  obtain ⟨ck, hck⟩ : ∃ ck, (k.map u8v).toArray = ck := ⟨_, rfl⟩
  obtain ⟨cn, hcn⟩ : ∃ cn, (nn.map u8v).toArray = cn := ⟨_, rfl⟩
  rw [hck, hcn] at XC
  rw [hck, hcn]
  have HK0 := Lib.hid (show Blk (w.alloc (.cells ck 25)) w.heap.size 25 (k.map u8v) by rw [← hck]; exact Blk.new w _ _)
  have HN0 := Lib.hid (show Blk ((w.alloc (.cells ck 25)).alloc (.cells cn 27)) (w.heap.size + 1) 27 (nn.map u8v) by rw [← hcn]; exact Blk.new' _ (by simp) _ _)
  have HCK := Lib.hid hck
  have HCN := Lib.hid hcn
  have HXC := Lib.hid XC
  have HK := Lib.hid hk
  have HN := Lib.hid hn
  clear hk hn hck hcn XC
  have HR := Lib.hid hr
  clear hr
  go_enter Try.func5, Try.ntmps5
  go_upto_region 1 with fail
  have hbel1 : Below w.heap.size w ((w.alloc (.cells ck 25)).alloc (.cells cn 27)) := ((Below.refl _ _).alloc (Nat.le_refl _) _).alloc (by simp) _
  have E1 : Env w w.heap.size k nn [(A, len, l)] ((w.alloc (.cells ck 25)).alloc (.cells cn 27)) := ⟨HK0.out.alloc _, HN0.out, fun q hq => by
    rw [List.mem_singleton] at hq
    subst hq
    exact (HR.out.below hbel1).mono hbel1.size, hbel1⟩
  clear HK0 HN0 HR hbel1
  generalize (w.alloc (.cells ck 25)).alloc (.cells cn 27) = w1 at E1 ⊢
  go_wp2_with fail
  refine (cut_any _ A len cap 300 l hlc hcm _ (E1.rd (by simp))).mono ?_
  rintro e w2 ⟨rfl, hr2, rfl⟩
  have E2 := E1.cons hr2
  have hdl : (l.take 300).length = min len 300 := hr2.1
  clear E1 hr2
  obtain ⟨n, hn⟩ : ∃ n, min len 300 = n := ⟨_, rfl⟩
  obtain ⟨dl, hdle⟩ : ∃ dl, l.take 300 = dl := ⟨_, rfl⟩
  rw [hn, hdle] at E2
  rw [hn, hdle] at hdl
  rw [hn]
  have hn300 : n ≤ 300 := by omega
  have hncap : n ≤ cap := by omega
  have HDL := Lib.hid hdl
  have H2 := Lib.hid E2
  clear hn hdle hdl E2 hlc
  go_wp2_with (first | (refine wpList_load_blk rfl 25 (.tmp 5) rfl w.heap.size rfl 25 (k.map u8v) H2.out.1 32 5 Try.underlying25 (cells32 k HK.out) ?_; rw [HCK.out]) | (refine wpList_load_blk rfl 27 (.tmp 7) rfl (w.heap.size + 1) rfl 27 (nn.map u8v) H2.out.2.1 12 5 Try.underlying27 (cells12 nn HN.out) ?_; rw [HCN.out]))
  refine (HXC.out c A n cap dl (by omega) _ (H2.out.rd (by simp))).mono ?_
  rintro e w3 ⟨G, rfl, hr3, hb3⟩
  have E3 := (H2.out.below hb3).cons hr3
  clear hr3 hb3 H2
  obtain ⟨el, hel⟩ : ∃ el, xorL k c nn dl = el := ⟨_, rfl⟩
  rw [hel] at E3
  have HEL := Lib.hid hel
  clear hel
  obtain ⟨i, hi⟩ : ∃ i, (if n < p then n else p) = i := ⟨_, rfl⟩
  have hiv : (if (n : Int) < (p : Int) then (n : Int) else (p : Int)) = (i : Int) := by
    rw [← hi]; split <;> split <;> omega
  have hiw : (if n < p then (n : Int) else (p : Int)) = (i : Int) := by
    rw [← hi]; split <;> rfl
  have hin : i ≤ n := by rw [← hi]; split <;> omega
  clear hi
  replace E3 := Lib.hid E3
  go_upto_region 4 with fail
  clear hiv hiw
  have b1 : (i : Int) ≤ (cap : Int) := by omega
  have b2 : (i : Int) ≤ (n : Int) := by omega
  have cvd : ∀ w' : World, Below w3.heap.size w3 w' → (convert 33 9 (.slice A n cap)).run Try.prog w' = .ok (.string ⟨dl.toArray⟩) w' := fun w' hb => conv_str ((E3.out.below hb).rd (by simp)) cap
  have cve : ∀ w' : World, Below w3.heap.size w3 w' → (convert 33 9 (.slice (some ⟨G, 0, none⟩) i n)).run Try.prog w' = .ok (.string ⟨(el.take i).toArray⟩) w' := fun w' hb => conv_str (((E3.out.below hb).rd (List.mem_cons_self)).take hin) n
  refine wp_region_held_drew (S := fun w' => Below w3.heap.size w3 w') (by kernel_rfl) ((Below.refl w3.heap.size w3).drew) (fun hHeld => ?_)
  refine take_first (v := ?_) 0 rfl (by kernel_rfl) (by kernel_rfl) (by kernel_rfl) (fun _ _ _ h => h) (Or.inl ⟨by rfl, ?_⟩) (by assumption) ?_
  rotate_left
  · (intro w hSw; (try dsimp only at hSw); go_simp; try with_reducible rfl)
  (try simp only [Act.put, List.setIfInBounds_toArray, List.set_cons_zero, List.set_cons_succ])
  refine take_first (v := ?_) 1 rfl (by kernel_rfl) (by kernel_rfl) (by kernel_rfl) (fun _ _ _ h => h) (Or.inl ⟨by rfl, ?_⟩) (by assumption) ?_
  rotate_left
  · (intro w hSw; (try dsimp only at hSw); go_simp; try with_reducible rfl)
  (try simp only [Act.put, List.setIfInBounds_toArray, List.set_cons_zero, List.set_cons_succ])
  refine take_first (v := ?_) 2 rfl (by kernel_rfl) (by kernel_rfl) (by kernel_rfl) (fun _ _ _ h => h) (Or.inl ⟨by rfl, ?_⟩) (by assumption) ?_
  rotate_left
  · (intro w hSw; (try dsimp only at hSw); go_simp; try with_reducible rfl)
  (try simp only [Act.put, List.setIfInBounds_toArray, List.set_cons_zero, List.set_cons_succ])
  refine take_first (v := ?_) 3 rfl (by kernel_rfl) (by kernel_rfl) (by kernel_rfl) (fun _ _ _ h => h) (Or.inl ⟨by rfl, ?_⟩) (by assumption) ?_
  rotate_left
  · (intro w hSw; (try dsimp only at hSw); go_simp; try with_reducible rfl)
  (try simp only [Act.put, List.setIfInBounds_toArray, List.set_cons_zero, List.set_cons_succ])
  refine take_first (v := ?_) 4 rfl (by kernel_rfl) (by kernel_rfl) (by kernel_rfl) (fun _ _ _ h => h) (Or.inl ⟨by rfl, ?_⟩) (by assumption) ?_
  rotate_left
  · (intro w hSw; (try dsimp only at hSw); go_simp; try with_reducible rfl)
  (try simp only [Act.put, List.setIfInBounds_toArray, List.set_cons_zero, List.set_cons_succ])
  refine take_first (v := ?_) 5 rfl (by kernel_rfl) (by kernel_rfl) (by kernel_rfl) (fun _ _ _ h => h) (Or.inl ⟨by rfl, ?_⟩) (by assumption) ?_
  rotate_left
  · (intro w hSw; (try dsimp only at hSw); go_simp; try with_reducible rfl)
  (try simp only [Act.put, List.setIfInBounds_toArray, List.set_cons_zero, List.set_cons_succ])
  refine take_first (v := .agg ck) 6 rfl (by kernel_rfl) (by kernel_rfl) (by kernel_rfl) (fun _ _ _ h => h) ((by rw [← HCK.out]; exact yields_load_blk (by rfl) 25 (.tmp 5) rfl w.heap.size rfl 25 (k.map u8v) (fun w' hb => (E3.out.below hb).1) 32 5 Try.underlying25 (cells32 k HK.out))) (by assumption) ?_
  (try simp only [Act.put, List.setIfInBounds_toArray, List.set_cons_zero, List.set_cons_succ])
  refine take_first (v := ?_) 7 rfl (by kernel_rfl) (by kernel_rfl) (by kernel_rfl) (fun _ _ _ h => h) (Or.inl ⟨by rfl, ?_⟩) (by assumption) ?_
  rotate_left
  · (intro w hSw; (try dsimp only at hSw); go_simp; try with_reducible rfl)
  (try simp only [Act.put, List.setIfInBounds_toArray, List.set_cons_zero, List.set_cons_succ])
  refine take_first (v := .agg cn) 8 rfl (by kernel_rfl) (by kernel_rfl) (by kernel_rfl) (fun _ _ _ h => h) ((by rw [← HCN.out]; exact yields_load_blk (by rfl) 27 (.tmp 7) rfl (w.heap.size + 1) rfl 27 (nn.map u8v) (fun w' hb => (E3.out.below hb).2.1) 12 5 Try.underlying27 (cells12 nn HN.out))) (by assumption) ?_
  (try simp only [Act.put, List.setIfInBounds_toArray, List.set_cons_zero, List.set_cons_succ])
  refine take_first (v := ?_) 9 rfl (by kernel_rfl) (by kernel_rfl) (by kernel_rfl) (fun _ _ _ h => h) (Or.inl ⟨by rfl, ?_⟩) (by assumption) ?_
  rotate_left
  · (intro w hSw; (try dsimp only at hSw); go_simp; try with_reducible rfl)
  (try simp only [Act.put, List.setIfInBounds_toArray, List.set_cons_zero, List.set_cons_succ])
  refine take_first (v := ?_) 12 rfl (by kernel_rfl) (by kernel_rfl) (by kernel_rfl) (fun _ _ _ h => h) (Or.inl ⟨by rfl, ?_⟩) (by assumption) ?_
  rotate_left
  · (intro w hSw; (try dsimp only at hSw); go_simp; try with_reducible rfl)
  (try simp only [Act.put, List.setIfInBounds_toArray, List.set_cons_zero, List.set_cons_succ])
  refine take_first (v := ?_) 13 rfl (by kernel_rfl) (by kernel_rfl) (by kernel_rfl) (fun _ _ _ h => h) (Or.inl ⟨by rfl, ?_⟩) (by assumption) ?_
  rotate_left
  · (intro w hSw; (try dsimp only at hSw); go_simp; try with_reducible rfl)
  (try simp only [Act.put, List.setIfInBounds_toArray, List.set_cons_zero, List.set_cons_succ])
  refine step_one 10 rfl (by kernel_rfl) (fun K hK => ?_)
  go_simp
  refine (HXC.out c (some ⟨G, 0, none⟩) n n el (by omega) _ ((E3.out.below hHeld).rd (List.mem_cons_self))).mono ?_
  rintro e wA ⟨G2, rfl, hrA, hbA⟩
  go_wp2_with fail
  refine hK.out _ _ (hHeld.trans (hbA.mono hHeld.size)) (fun hHeld => ?_)
  clear hK K
  (try simp only [Act.put, List.setIfInBounds_toArray, List.set_cons_zero, List.set_cons_succ])
  have E4 := (E3.out.below hHeld).cons hrA
  rw [← HEL.out, xorL_xorL, HEL.out] at E4
  replace E4 := Lib.hid E4
  refine wpAnyH_later hHeld ?_
  replace hHeld := Below.refl wA.heap.size wA
  have cvA : ∀ w' : World, Below wA.heap.size wA w' → (convert 33 9 (.slice (some ⟨G2, 0, none⟩) n n)).run Try.prog w' = .ok (.string ⟨dl.toArray⟩) w' := fun w' hb => conv_str ((E4.out.below hb).rd (List.mem_cons_self)) n
  replace cve : ∀ w' : World, Below wA.heap.size wA w' → (convert 33 9 (.slice (some ⟨G, 0, none⟩) i n)).run Try.prog w' = .ok (.string ⟨(el.take i).toArray⟩) w' := fun w' hb => conv_str (((E4.out.below hb).rd (by simp)).take hin) n
  clear hrA hbA cvd
  refine take_first (v := ?_) 11 rfl (by kernel_rfl) (by kernel_rfl) (by kernel_rfl) (fun _ _ _ h => h) (Or.inl ⟨by rfl, ?_⟩) (by assumption) ?_
  rotate_left
  · (intro w hSw; (try dsimp only at hSw); go_simp; try with_reducible rfl)
  (try simp only [Act.put, List.setIfInBounds_toArray, List.set_cons_zero, List.set_cons_succ])
  refine take_first (v := ?_) 14 rfl (by kernel_rfl) (by kernel_rfl) (by kernel_rfl) (fun _ _ _ h => h) (Or.inl ⟨by rfl, ?_⟩) (by assumption) ?_
  rotate_left
  · (intro w hSw; (try dsimp only at hSw); go_simp; try with_reducible rfl)
  (try simp only [Act.put, List.setIfInBounds_toArray, List.set_cons_zero, List.set_cons_succ])
  refine take_first (v := ?_) 15 rfl (by kernel_rfl) (by kernel_rfl) (by kernel_rfl) (fun _ _ _ h => h) (Or.inl ⟨by rfl, ?_⟩) (by assumption) ?_
  rotate_left
  · (intro w hSw; (try dsimp only at hSw); go_simp; try with_reducible rfl)
  (try simp only [Act.put, List.setIfInBounds_toArray, List.set_cons_zero, List.set_cons_succ])
  refine take_first (v := ?_) 16 rfl (by kernel_rfl) (by kernel_rfl) (by kernel_rfl) (fun _ _ _ h => h) (Or.inl ⟨by rfl, ?_⟩) (by assumption) ?_
  rotate_left
  · (intro w hSw; (try dsimp only at hSw); go_simp; try with_reducible rfl)
  (try simp only [Act.put, List.setIfInBounds_toArray, List.set_cons_zero, List.set_cons_succ])
  refine take_first (v := .agg ck) 17 rfl (by kernel_rfl) (by kernel_rfl) (by kernel_rfl) (fun _ _ _ h => h) ((by rw [← HCK.out]; exact yields_load_blk (by rfl) 25 (.tmp 5) rfl w.heap.size rfl 25 (k.map u8v) (fun w' hb => (E4.out.below hb).1) 32 5 Try.underlying25 (cells32 k HK.out))) (by assumption) ?_
  (try simp only [Act.put, List.setIfInBounds_toArray, List.set_cons_zero, List.set_cons_succ])
  refine take_first (v := ?_) 18 rfl (by kernel_rfl) (by kernel_rfl) (by kernel_rfl) (fun _ _ _ h => h) (Or.inl ⟨by rfl, ?_⟩) (by assumption) ?_
  rotate_left
  · (intro w hSw; (try dsimp only at hSw); go_simp; try with_reducible rfl)
  (try simp only [Act.put, List.setIfInBounds_toArray, List.set_cons_zero, List.set_cons_succ])
  refine take_first (v := .agg cn) 19 rfl (by kernel_rfl) (by kernel_rfl) (by kernel_rfl) (fun _ _ _ h => h) ((by rw [← HCN.out]; exact yields_load_blk (by rfl) 27 (.tmp 7) rfl (w.heap.size + 1) rfl 27 (nn.map u8v) (fun w' hb => (E4.out.below hb).2.1) 12 5 Try.underlying27 (cells12 nn HN.out))) (by assumption) ?_
  (try simp only [Act.put, List.setIfInBounds_toArray, List.set_cons_zero, List.set_cons_succ])
  refine take_first (v := ?_) 20 rfl (by kernel_rfl) (by kernel_rfl) (by kernel_rfl) (fun _ _ _ h => h) (Or.inl ⟨by rfl, ?_⟩) (by assumption) ?_
  rotate_left
  · (intro w hSw; (try dsimp only at hSw); go_simp; try with_reducible rfl)
  (try simp only [Act.put, List.setIfInBounds_toArray, List.set_cons_zero, List.set_cons_succ])
  refine take_first (v := ?_) 21 rfl (by kernel_rfl) (by kernel_rfl) (by kernel_rfl) (fun _ _ _ h => h) (Or.inl ⟨by rfl, ?_⟩) (by assumption) ?_
  rotate_left
  · (intro w hSw; (try dsimp only at hSw); go_simp; try with_reducible rfl)
  (try simp only [Act.put, List.setIfInBounds_toArray, List.set_cons_zero, List.set_cons_succ])
  refine take_first (v := ?_) 22 rfl (by kernel_rfl) (by kernel_rfl) (by kernel_rfl) (fun _ _ _ h => h) (Or.inl ⟨by rfl, ?_⟩) (by assumption) ?_
  rotate_left
  · (intro w hSw; (try dsimp only at hSw); go_simp; try with_reducible rfl)
  (try simp only [Act.put, List.setIfInBounds_toArray, List.set_cons_zero, List.set_cons_succ])
  refine take_first (v := ?_) 25 rfl (by kernel_rfl) (by kernel_rfl) (by kernel_rfl) (fun _ _ _ h => h) (Or.inl ⟨by rfl, ?_⟩) (by assumption) ?_
  rotate_left
  · (intro w hSw; (try dsimp only at hSw); go_simp; try with_reducible rfl)
  (try simp only [Act.put, List.setIfInBounds_toArray, List.set_cons_zero, List.set_cons_succ])
  refine take_first (v := ?_) 26 rfl (by kernel_rfl) (by kernel_rfl) (by kernel_rfl) (fun _ _ _ h => h) (Or.inl ⟨by rfl, ?_⟩) (by assumption) ?_
  rotate_left
  · (intro w hSw; (try dsimp only at hSw); go_simp; try with_reducible rfl)
  (try simp only [Act.put, List.setIfInBounds_toArray, List.set_cons_zero, List.set_cons_succ])
  refine take_first (v := ?_) 27 rfl (by kernel_rfl) (by kernel_rfl) (by kernel_rfl) (fun _ _ _ h => h) (Or.inl ⟨by rfl, ?_⟩) (by assumption) ?_
  rotate_left
  · (intro w hSw; (try dsimp only at hSw); go_simp; try with_reducible rfl)
  (try simp only [Act.put, List.setIfInBounds_toArray, List.set_cons_zero, List.set_cons_succ])
  refine take_first (v := ?_) 28 rfl (by kernel_rfl) (by kernel_rfl) (by kernel_rfl) (fun _ _ _ h => h) (Or.inl ⟨by rfl, ?_⟩) (by assumption) ?_
  rotate_left
  · (intro w hSw; (try dsimp only at hSw); go_simp; try with_reducible rfl)
  (try simp only [Act.put, List.setIfInBounds_toArray, List.set_cons_zero, List.set_cons_succ])
  refine step_one 23 rfl (by kernel_rfl) (fun K hK => ?_)
  go_simp
  refine (HXC.out c A i cap (dl.take i) (by omega) _ (((E4.out.below hHeld).rd (by simp)).take hin)).mono ?_
  rintro e wB ⟨G3, rfl, hrB, hbB⟩
  go_wp2_with fail
  refine hK.out _ _ (hHeld.trans (hbB.mono hHeld.size)) (fun hHeld => ?_)
  clear hK K
  (try simp only [Act.put, List.setIfInBounds_toArray, List.set_cons_zero, List.set_cons_succ])
  have E5 := (E4.out.below hHeld).cons hrB
  rw [xorL_take, HEL.out] at E5
  replace E5 := Lib.hid E5
  refine wpAnyH_later hHeld ?_
  replace hHeld := Below.refl wB.heap.size wB
  have cvB : ∀ w' : World, Below wB.heap.size wB w' → (convert 33 9 (.slice (some ⟨G3, 0, none⟩) i i)).run Try.prog w' = .ok (.string ⟨(el.take i).toArray⟩) w' := fun w' hb => conv_str ((E5.out.below hb).rd (List.mem_cons_self)) i
  clear hrB hbB cve cvA
  refine take_first (v := ?_) 24 rfl (by kernel_rfl) (by kernel_rfl) (by kernel_rfl) (fun _ _ _ h => h) (Or.inl ⟨by rfl, ?_⟩) (by assumption) ?_
  rotate_left
  · (intro w hSw; (try dsimp only at hSw); go_simp; try with_reducible rfl)
  (try simp only [Act.put, List.setIfInBounds_toArray, List.set_cons_zero, List.set_cons_succ])
  refine take_first (v := ?_) 29 rfl (by kernel_rfl) (by kernel_rfl) (by kernel_rfl) (fun _ _ _ h => h) (Or.inl ⟨by rfl, ?_⟩) (by assumption) ?_
  rotate_left
  · (intro w hSw; (try dsimp only at hSw); go_simp; try with_reducible rfl)
  (try simp only [Act.put, List.setIfInBounds_toArray, List.set_cons_zero, List.set_cons_succ])
  refine take_first (v := ?_) 30 rfl (by kernel_rfl) (by kernel_rfl) (by kernel_rfl) (fun _ _ _ h => h) (Or.inl ⟨by rfl, ?_⟩) (by assumption) ?_
  rotate_left
  · (intro w hSw; (try dsimp only at hSw); go_simp; try with_reducible rfl)
  (try simp only [Act.put, List.setIfInBounds_toArray, List.set_cons_zero, List.set_cons_succ])
  refine wpAnyH_done (by kernel_rfl) ?_ _
  clear hHeld cvB b1 b2
  go_wp2_with fail
  by_cases h64 : n < 64
  · have d64 : decide ((n : Int) < 64) = true := by simp; omega
    refine wp_region_held_drew (S := fun w' => Below wB.heap.size wB w') (by kernel_rfl) ((Below.refl wB.heap.size wB).drew) (fun hHeld => ?_)
    refine take_first (v := ?_) 0 rfl (by kernel_rfl) (by kernel_rfl) (by kernel_rfl) (fun _ _ _ h => h) (Or.inl ⟨by rfl, ?_⟩) (by assumption) ?_
    rotate_left
    · (intro w hSw; (try dsimp only at hSw); go_simp; try with_reducible rfl)
    (try simp only [Act.put, List.setIfInBounds_toArray, List.set_cons_zero, List.set_cons_succ])
    refine take_first (v := ?_) 1 rfl (by kernel_rfl) (by kernel_rfl) (by kernel_rfl) (fun _ _ _ h => h) (Or.inl ⟨by rfl, ?_⟩) (by assumption) ?_
    rotate_left
    · (intro w hSw; (try dsimp only at hSw); go_simp; try with_reducible rfl)
    (try simp only [Act.put, List.setIfInBounds_toArray, List.set_cons_zero, List.set_cons_succ])
    refine take_first (v := ?_) 2 rfl (by kernel_rfl) (by kernel_rfl) (by kernel_rfl) (fun _ _ _ h => h) (Or.inl ⟨by rfl, ?_⟩) (by assumption) ?_
    rotate_left
    · (intro w hSw; (try dsimp only at hSw); go_simp; try with_reducible rfl)
    (try simp only [Act.put, List.setIfInBounds_toArray, List.set_cons_zero, List.set_cons_succ])
    refine take_first (v := ?_) 3 rfl (by kernel_rfl) (by kernel_rfl) (by kernel_rfl) (fun _ _ _ h => h) (Or.inl ⟨by rfl, ?_⟩) (by assumption) ?_
    rotate_left
    · (intro w hSw; (try dsimp only at hSw); go_simp; try with_reducible rfl)
    (try simp only [Act.put, List.setIfInBounds_toArray, List.set_cons_zero, List.set_cons_succ])
    refine take_first (v := undef) 4 rfl (by kernel_rfl) (by kernel_rfl) (by kernel_rfl) (fun _ _ _ h => h) (Or.inr ⟨by rfl, rfl⟩) (by assumption) ?_
    (try simp only [Act.put, List.setIfInBounds_toArray, List.set_cons_zero, List.set_cons_succ])
    refine take_first (v := undef) 5 rfl (by kernel_rfl) (by kernel_rfl) (by kernel_rfl) (fun _ _ _ h => h) (Or.inr ⟨by rfl, rfl⟩) (by assumption) ?_
    (try simp only [Act.put, List.setIfInBounds_toArray, List.set_cons_zero, List.set_cons_succ])
    refine take_first (v := undef) 6 rfl (by kernel_rfl) (by kernel_rfl) (by kernel_rfl) (fun _ _ _ h => h) (Or.inr ⟨by rfl, rfl⟩) (by assumption) ?_
    (try simp only [Act.put, List.setIfInBounds_toArray, List.set_cons_zero, List.set_cons_succ])
    refine take_first (v := undef) 7 rfl (by kernel_rfl) (by kernel_rfl) (by kernel_rfl) (fun _ _ _ h => h) (Or.inr ⟨by rfl, rfl⟩) (by assumption) ?_
    (try simp only [Act.put, List.setIfInBounds_toArray, List.set_cons_zero, List.set_cons_succ])
    refine take_first (v := undef) 8 rfl (by kernel_rfl) (by kernel_rfl) (by kernel_rfl) (fun _ _ _ h => h) (Or.inr ⟨by rfl, rfl⟩) (by assumption) ?_
    (try simp only [Act.put, List.setIfInBounds_toArray, List.set_cons_zero, List.set_cons_succ])
    refine take_first (v := undef) 9 rfl (by kernel_rfl) (by kernel_rfl) (by kernel_rfl) (fun _ _ _ h => h) (Or.inr ⟨by rfl, rfl⟩) (by assumption) ?_
    (try simp only [Act.put, List.setIfInBounds_toArray, List.set_cons_zero, List.set_cons_succ])
    refine take_first (v := undef) 10 rfl (by kernel_rfl) (by kernel_rfl) (by kernel_rfl) (fun _ _ _ h => h) (Or.inr ⟨by rfl, rfl⟩) (by assumption) ?_
    (try simp only [Act.put, List.setIfInBounds_toArray, List.set_cons_zero, List.set_cons_succ])
    refine take_first (v := undef) 11 rfl (by kernel_rfl) (by kernel_rfl) (by kernel_rfl) (fun _ _ _ h => h) (Or.inr ⟨by rfl, rfl⟩) (by assumption) ?_
    (try simp only [Act.put, List.setIfInBounds_toArray, List.set_cons_zero, List.set_cons_succ])
    refine take_first (v := undef) 12 rfl (by kernel_rfl) (by kernel_rfl) (by kernel_rfl) (fun _ _ _ h => h) (Or.inr ⟨by rfl, rfl⟩) (by assumption) ?_
    (try simp only [Act.put, List.setIfInBounds_toArray, List.set_cons_zero, List.set_cons_succ])
    refine take_first (v := undef) 13 rfl (by kernel_rfl) (by kernel_rfl) (by kernel_rfl) (fun _ _ _ h => h) (Or.inr ⟨by rfl, rfl⟩) (by assumption) ?_
    (try simp only [Act.put, List.setIfInBounds_toArray, List.set_cons_zero, List.set_cons_succ])
    refine take_first (v := undef) 14 rfl (by kernel_rfl) (by kernel_rfl) (by kernel_rfl) (fun _ _ _ h => h) (Or.inr ⟨by rfl, rfl⟩) (by assumption) ?_
    (try simp only [Act.put, List.setIfInBounds_toArray, List.set_cons_zero, List.set_cons_succ])
    refine take_first (v := undef) 15 rfl (by kernel_rfl) (by kernel_rfl) (by kernel_rfl) (fun _ _ _ h => h) (Or.inr ⟨by rfl, rfl⟩) (by assumption) ?_
    (try simp only [Act.put, List.setIfInBounds_toArray, List.set_cons_zero, List.set_cons_succ])
    refine take_first (v := ?_) 16 rfl (by kernel_rfl) (by kernel_rfl) (by kernel_rfl) (fun _ _ _ h => h) (Or.inl ⟨by rfl, ?_⟩) (by assumption) ?_
    rotate_left
    · (intro w hSw; (try dsimp only at hSw); go_simp; try with_reducible rfl)
    (try simp only [Act.put, List.setIfInBounds_toArray, List.set_cons_zero, List.set_cons_succ])
    refine take_first (v := ?_) 17 rfl (by kernel_rfl) (by kernel_rfl) (by kernel_rfl) (fun _ _ _ h => h) (Or.inl ⟨by rfl, ?_⟩) (by assumption) ?_
    rotate_left
    · (intro w hSw; (try dsimp only at hSw); go_simp; try with_reducible rfl)
    (try simp only [Act.put, List.setIfInBounds_toArray, List.set_cons_zero, List.set_cons_succ])
    refine step_one 18 rfl (by kernel_rfl) (fun K hK => ?_)
    go_simp
    refine (begun_any _).mono ?_
    rintro e wC ⟨rfl, hbC⟩
    go_wp2_with fail
    refine hK.out _ _ (hHeld.trans (hbC.mono hHeld.size)) (fun hHeld => ?_)
    clear hK K
    (try simp only [Act.put, List.setIfInBounds_toArray, List.set_cons_zero, List.set_cons_succ])
    refine take_first (v := ?_) 19 rfl (by kernel_rfl) (by kernel_rfl) (by kernel_rfl) (fun _ _ _ h => h) (Or.inl ⟨by rfl, ?_⟩) (by assumption) ?_
    rotate_left
    · (intro w hSw; (try dsimp only at hSw); go_simp; try with_reducible rfl)
    (try simp only [Act.put, List.setIfInBounds_toArray, List.set_cons_zero, List.set_cons_succ])
    refine take_first (v := ?_) 20 rfl (by kernel_rfl) (by kernel_rfl) (by kernel_rfl) (fun _ _ _ h => h) (Or.inl ⟨by rfl, ?_⟩) (by assumption) ?_
    rotate_left
    · (intro w hSw; (try dsimp only at hSw); go_simp; try with_reducible rfl)
    (try simp only [Act.put, List.setIfInBounds_toArray, List.set_cons_zero, List.set_cons_succ])
    refine wpAnyH_done (by kernel_rfl) ?_ _
    have HEND := Lib.hid (E5.out.2.2.2.trans (hHeld.mono E5.out.2.2.2.size))
    clear hHeld
    go_wp2
    go_ret
    exact ⟨rfl, HEND.out⟩
  · have d64 : decide ((n : Int) < 64) = false := by simp; omega
    obtain ⟨b, off, rfl, _, _⟩ := (E5.out.rd (show (A, n, dl) ∈ _ by simp)).2 (by omega)
    obtain ⟨c1, hc1⟩ : ∃ c1, c + 1 = c1 := ⟨_, rfl⟩
    have hcv : IntKind.u32.wrap ((c.toNat : Int) + 1) = (c1.toNat : Int) := by
      rw [← hc1]
      exact u32_add c 1
    have hxd : xorL k c1 nn (dl.drop 64) = el.drop 64 := by rw [← hc1, xorL_drop, HEL.out]
    have HXD := Lib.hid hxd
    clear hxd hc1
    have b1 : (64 : Int) ≤ (n : Int) := by omega
    have b3 : (n : Int) ≤ (cap : Int) := by omega
    obtain ⟨Ae, hAe⟩ : ∃ Ae, (if n = 64 then some ⟨G, 0, none⟩ else some ⟨G, 64, none⟩ : Option Addr) = Ae := ⟨_, rfl⟩
    obtain ⟨Ad, hAd⟩ : ∃ Ad, (if cap = 64 then some ⟨b, off, none⟩ else some ⟨b, off + 64, none⟩ : Option Addr) = Ad := ⟨_, rfl⟩
    have re := Lib.hid (fun (w' : World) (hb : Below wB.heap.size wB w') => show Rd w' w'.heap.size Ae (n - 64) (el.drop 64) from Rd.drop_if (b := G) (off := 0) (m := 64) (by rw [← hAe]; by_cases h : n = 64 <;> simp [h]) (Nat.le_of_not_lt h64) ((E5.out.below hb).rd (by simp)))
    have rd := Lib.hid (fun (w' : World) (hb : Below wB.heap.size wB w') => show Rd w' w'.heap.size Ad (n - 64) (dl.drop 64) from Rd.drop_if (b := b) (off := off) (m := 64) (by rw [← hAd]; by_cases h : cap = 64 <;> simp [h]; omega) (Nat.le_of_not_lt h64) ((E5.out.below hb).rd (by simp)))
    have cve : ∀ w' : World, Below wB.heap.size wB w' → (convert 33 9 (.slice Ae (n - 64) (n - 64))).run Try.prog w' = .ok (.string ⟨(el.drop 64).toArray⟩) w' := fun w' hb => conv_str (re.out w' hb) (n - 64)
    refine wp_region_held_drew (S := fun w' => Below wB.heap.size wB w') (by kernel_rfl) ((Below.refl wB.heap.size wB).drew) (fun hHeld => ?_)
    refine take_first (v := ?_) 0 rfl (by kernel_rfl) (by kernel_rfl) (by kernel_rfl) (fun _ _ _ h => h) (Or.inl ⟨by rfl, ?_⟩) (by assumption) ?_
    rotate_left
    · (intro w hSw; (try dsimp only at hSw); go_simp; try with_reducible rfl)
    (try simp only [Act.put, List.setIfInBounds_toArray, List.set_cons_zero, List.set_cons_succ])
    refine take_first (v := ?_) 1 rfl (by kernel_rfl) (by kernel_rfl) (by kernel_rfl) (fun _ _ _ h => h) (Or.inl ⟨by rfl, ?_⟩) (by assumption) ?_
    rotate_left
    · (intro w hSw; (try dsimp only at hSw); go_simp; try with_reducible rfl)
    (try simp only [Act.put, List.setIfInBounds_toArray, List.set_cons_zero, List.set_cons_succ])
    refine take_first (v := ?_) 2 rfl (by kernel_rfl) (by kernel_rfl) (by kernel_rfl) (fun _ _ _ h => h) (Or.inl ⟨by rfl, ?_⟩) (by assumption) ?_
    rotate_left
    · (intro w hSw; (try dsimp only at hSw); go_simp; try with_reducible rfl)
    (try simp only [Act.put, List.setIfInBounds_toArray, List.set_cons_zero, List.set_cons_succ])
    refine take_first (v := ?_) 3 rfl (by kernel_rfl) (by kernel_rfl) (by kernel_rfl) (fun _ _ _ h => h) (Or.inl ⟨by rfl, ?_⟩) (by assumption) ?_
    rotate_left
    · (intro w hSw; (try dsimp only at hSw); go_simp; try with_reducible rfl)
    (try simp only [Act.put, List.setIfInBounds_toArray, List.set_cons_zero, List.set_cons_succ])
    refine take_first (v := .agg ck) 4 rfl (by kernel_rfl) (by kernel_rfl) (by kernel_rfl) (fun _ _ _ h => h) ((by rw [← HCK.out]; exact yields_load_blk (by rfl) 25 (.tmp 5) rfl w.heap.size rfl 25 (k.map u8v) (fun w' hb => (E5.out.below hb).1) 32 5 Try.underlying25 (cells32 k HK.out))) (by assumption) ?_
    (try simp only [Act.put, List.setIfInBounds_toArray, List.set_cons_zero, List.set_cons_succ])
    refine take_first (v := ?_) 5 rfl (by kernel_rfl) (by kernel_rfl) (by kernel_rfl) (fun _ _ _ h => h) (Or.inl ⟨by rfl, ?_⟩) (by assumption) ?_
    rotate_left
    · (intro w hSw; (try dsimp only at hSw); go_simp; try with_reducible rfl)
    (try simp only [Act.put, List.setIfInBounds_toArray, List.set_cons_zero, List.set_cons_succ])
    refine take_first (v := ?_) 6 rfl (by kernel_rfl) (by kernel_rfl) (by kernel_rfl) (fun _ _ _ h => h) (Or.inl ⟨by rfl, ?_⟩) (by assumption) ?_
    rotate_left
    · (intro w hSw; (try dsimp only at hSw); go_simp; try with_reducible rfl)
    (try simp only [Act.put, List.setIfInBounds_toArray, List.set_cons_zero, List.set_cons_succ])
    refine take_first (v := .agg cn) 7 rfl (by kernel_rfl) (by kernel_rfl) (by kernel_rfl) (fun _ _ _ h => h) ((by rw [← HCN.out]; exact yields_load_blk (by rfl) 27 (.tmp 7) rfl (w.heap.size + 1) rfl 27 (nn.map u8v) (fun w' hb => (E5.out.below hb).2.1) 12 5 Try.underlying27 (cells12 nn HN.out))) (by assumption) ?_
    (try simp only [Act.put, List.setIfInBounds_toArray, List.set_cons_zero, List.set_cons_succ])
    refine take_first (v := ?_) 8 rfl (by kernel_rfl) (by kernel_rfl) (by kernel_rfl) (fun _ _ _ h => h) (Or.inl ⟨by rfl, ?_⟩) (by assumption) ?_
    rotate_left
    · (intro w hSw; (try dsimp only at hSw); go_simp; try with_reducible rfl)
    (try simp only [Act.put, List.setIfInBounds_toArray, List.set_cons_zero, List.set_cons_succ])
    refine take_first (v := ?_) 9 rfl (by kernel_rfl) (by kernel_rfl) (by kernel_rfl) (fun _ _ _ h => h) (Or.inl ⟨by rfl, ?_⟩) (by assumption) ?_
    rotate_left
    · (intro w hSw; (try dsimp only at hSw); go_simp; try with_reducible rfl)
    (try simp only [Act.put, List.setIfInBounds_toArray, List.set_cons_zero, List.set_cons_succ])
    refine take_first (v := ?_) 12 rfl (by kernel_rfl) (by kernel_rfl) (by kernel_rfl) (fun _ _ _ h => h) (Or.inl ⟨by rfl, ?_⟩) (by assumption) ?_
    rotate_left
    · (intro w hSw; (try dsimp only at hSw); go_simp; try with_reducible rfl)
    (try simp only [Act.put, List.setIfInBounds_toArray, List.set_cons_zero, List.set_cons_succ])
    refine take_first (v := ?_) 13 rfl (by kernel_rfl) (by kernel_rfl) (by kernel_rfl) (fun _ _ _ h => h) (Or.inl ⟨by rfl, ?_⟩) (by assumption) ?_
    rotate_left
    · (intro w hSw; (try dsimp only at hSw); go_simp; try with_reducible rfl)
    (try simp only [Act.put, List.setIfInBounds_toArray, List.set_cons_zero, List.set_cons_succ])
    refine take_first (v := ?_) 14 rfl (by kernel_rfl) (by kernel_rfl) (by kernel_rfl) (fun _ _ _ h => h) (Or.inl ⟨by rfl, ?_⟩) (by assumption) ?_
    rotate_left
    · (intro w hSw; (try dsimp only at hSw); go_simp; try with_reducible rfl)
    (try simp only [Act.put, List.setIfInBounds_toArray, List.set_cons_zero, List.set_cons_succ])
    refine step_one 10 rfl (by kernel_rfl) (fun K hK => ?_)
    go_simp
    refine (HXC.out c1 Ad (n - 64) (cap - 64) (dl.drop 64) (by omega) _ (rd.out _ hHeld)).mono ?_
    rintro e wD ⟨G4, rfl, hrD, hbD⟩
    go_wp2_with fail
    refine hK.out _ _ (hHeld.trans (hbD.mono hHeld.size)) (fun hHeld => ?_)
    clear hK K
    (try simp only [Act.put, List.setIfInBounds_toArray, List.set_cons_zero, List.set_cons_succ])
    have E6 := (E5.out.below hHeld).cons hrD
    rw [HXD.out] at E6
    replace E6 := Lib.hid E6
    refine wpAnyH_later hHeld ?_
    replace hHeld := Below.refl wD.heap.size wD
    have cvD : ∀ w' : World, Below wD.heap.size wD w' → (convert 33 9 (.slice (some ⟨G4, 0, none⟩) (n - 64) (n - 64))).run Try.prog w' = .ok (.string ⟨(el.drop 64).toArray⟩) w' := fun w' hb => conv_str ((E6.out.below hb).rd (List.mem_cons_self)) (n - 64)
    clear hrD hbD cve
    refine take_first (v := ?_) 11 rfl (by kernel_rfl) (by kernel_rfl) (by kernel_rfl) (fun _ _ _ h => h) (Or.inl ⟨by rfl, ?_⟩) (by assumption) ?_
    rotate_left
    · (intro w hSw; (try dsimp only at hSw); go_simp; try with_reducible rfl)
    (try simp only [Act.put, List.setIfInBounds_toArray, List.set_cons_zero, List.set_cons_succ])
    refine take_first (v := ?_) 15 rfl (by kernel_rfl) (by kernel_rfl) (by kernel_rfl) (fun _ _ _ h => h) (Or.inl ⟨by rfl, ?_⟩) (by assumption) ?_
    rotate_left
    · (intro w hSw; (try dsimp only at hSw); go_simp; try with_reducible rfl)
    (try simp only [Act.put, List.setIfInBounds_toArray, List.set_cons_zero, List.set_cons_succ])
    refine take_first (v := ?_) 16 rfl (by kernel_rfl) (by kernel_rfl) (by kernel_rfl) (fun _ _ _ h => h) (Or.inl ⟨by rfl, ?_⟩) (by assumption) ?_
    rotate_left
    · (intro w hSw; (try dsimp only at hSw); go_simp; try with_reducible rfl)
    (try simp only [Act.put, List.setIfInBounds_toArray, List.set_cons_zero, List.set_cons_succ])
    refine take_first (v := ?_) 17 rfl (by kernel_rfl) (by kernel_rfl) (by kernel_rfl) (fun _ _ _ h => h) (Or.inl ⟨by rfl, ?_⟩) (by assumption) ?_
    rotate_left
    · (intro w hSw; (try dsimp only at hSw); go_simp; try with_reducible rfl)
    (try simp only [Act.put, List.setIfInBounds_toArray, List.set_cons_zero, List.set_cons_succ])
    refine step_one 18 rfl (by kernel_rfl) (fun K hK => ?_)
    go_simp
    refine (begun_any _).mono ?_
    rintro e wC ⟨rfl, hbC⟩
    go_wp2_with fail
    refine hK.out _ _ (hHeld.trans (hbC.mono hHeld.size)) (fun hHeld => ?_)
    clear hK K
    (try simp only [Act.put, List.setIfInBounds_toArray, List.set_cons_zero, List.set_cons_succ])
    refine take_first (v := ?_) 19 rfl (by kernel_rfl) (by kernel_rfl) (by kernel_rfl) (fun _ _ _ h => h) (Or.inl ⟨by rfl, ?_⟩) (by assumption) ?_
    rotate_left
    · (intro w hSw; (try dsimp only at hSw); go_simp; try with_reducible rfl)
    (try simp only [Act.put, List.setIfInBounds_toArray, List.set_cons_zero, List.set_cons_succ])
    refine take_first (v := ?_) 20 rfl (by kernel_rfl) (by kernel_rfl) (by kernel_rfl) (fun _ _ _ h => h) (Or.inl ⟨by rfl, ?_⟩) (by assumption) ?_
    rotate_left
    · (intro w hSw; (try dsimp only at hSw); go_simp; try with_reducible rfl)
    (try simp only [Act.put, List.setIfInBounds_toArray, List.set_cons_zero, List.set_cons_succ])
    refine wpAnyH_done (by kernel_rfl) ?_ _
    have HEND := Lib.hid (E6.out.2.2.2.trans (hHeld.mono E6.out.2.2.2.size))
    clear hHeld
    go_wp2
    go_ret
    exact ⟨rfl, HEND.out⟩
end Go.Proofs.Ytagmbogjmlhbmaa
