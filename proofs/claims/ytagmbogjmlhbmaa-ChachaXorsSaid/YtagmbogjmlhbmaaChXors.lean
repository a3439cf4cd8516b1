/-
  ChachaXors returns true for every key, counter, nonce and data, and changes nothing that was there: the walk.
-/
import Derived.Test.YtagmbogjmlhbmaaChEnv
import Derived.Test.YtagmbogjmlhbmaaChRefXor
namespace Go.Proofs.Ytagmbogjmlhbmaa
open Go.RowKit

set_option maxRecDepth 100000 in
set_option maxHeartbeats 2000000 in
theorem xors_walk (w : World) (k : List UInt8) (c : UInt32) (nn : List UInt8) (A : Option Addr) (len cap : Nat) (l : List UInt8) (hk : k.length = 32) (hn : nn.length = 12) (hlc : len ≤ cap) (hcm : cap ≤ maxLen) (hr : Rd w w.heap.size A len l) :
    Calls Try.prog 4 #[.agg (k.map u8v).toArray, .int .u32 (c.toNat : Int), .agg (nn.map u8v).toArray, .slice A len cap] w fun e w' => e = .returned (.bool true) ∧ Below w.heap.size w w' := by
  have RC := fun (c' : UInt32) (D : Option Addr) (n' cap' : Nat) (l' : List UInt8) (hn6 : n' ≤ 1000000) (w' : World) (hr' : Rd w' w'.heap.size D n' l') => refXor_any k nn hk hn c' D n' cap' l' hn6 w' hr'
  have XC := fun (c' : UInt32) (D : Option Addr) (n' cap' : Nat) (l' : List UInt8) (hn6 : n' ≤ 1000000) (w' : World) (hr' : Rd w' w'.heap.size D n' l') => xor_rd k nn hk hn c' D n' cap' l' hn6 w' hr'
  obtain ⟨ck, hck⟩ : ∃ ck, (k.map u8v).toArray = ck := ⟨_, rfl⟩
  obtain ⟨cn, hcn⟩ : ∃ cn, (nn.map u8v).toArray = cn := ⟨_, rfl⟩
  rw [hck, hcn] at XC
  rw [hck, hcn]
  have HK0 := Lib.hid (show Blk (w.alloc (.cells ck 25)) w.heap.size 25 (k.map u8v) by rw [← hck]; exact Blk.new w _ _)
  have HN0 := Lib.hid (show Blk ((w.alloc (.cells ck 25)).alloc (.cells cn 27)) (w.heap.size + 1) 27 (nn.map u8v) by rw [← hcn]; exact Blk.new' _ (by simp) _ _)
  have HCK := Lib.hid hck
  have HCN := Lib.hid hcn
  have HXC := Lib.hid XC
  have HK := Lib.hid hk
  have HN := Lib.hid hn
  clear hk hn hck hcn XC
  rw [HCK.out, HCN.out] at RC
  have HRC := Lib.hid RC
  clear RC
  have HR := Lib.hid hr
  clear hr
  go_enter Try.func4, Try.ntmps4
  go_upto_region 1 with fail
  have hbel1 : Below w.heap.size w ((w.alloc (.cells ck 25)).alloc (.cells cn 27)) := ((Below.refl _ _).alloc (Nat.le_refl _) _).alloc (by simp) _
  have E1 : Env w w.heap.size k nn [(A, len, l)] ((w.alloc (.cells ck 25)).alloc (.cells cn 27)) := ⟨HK0.out.alloc _, HN0.out, fun q hq => by
    rw [List.mem_singleton] at hq
    subst hq
    exact (HR.out.below hbel1).mono hbel1.size, hbel1⟩
  clear HK0 HN0 HR hbel1
  generalize (w.alloc (.cells ck 25)).alloc (.cells cn 27) = w1 at E1 ⊢
  go_wp2_with fail
  refine (cut_any _ A len cap 300 l hlc hcm _ (E1.rd (by simp))).mono ?_
  rintro e w2 ⟨rfl, hr2, rfl⟩
  have E2 := E1.cons hr2
  have hdl : (l.take 300).length = min len 300 := hr2.1
  clear E1 hr2
  obtain ⟨n, hn⟩ : ∃ n, min len 300 = n := ⟨_, rfl⟩
  obtain ⟨dl, hdle⟩ : ∃ dl, l.take 300 = dl := ⟨_, rfl⟩
  rw [hn, hdle] at E2
  rw [hn, hdle] at hdl
  rw [hn]
  have hn300 : n ≤ 300 := by omega
  have H2 := Lib.hid E2
  clear hn hdle hdl E2 hlc hcm
  obtain ⟨c2, hc2⟩ : ∃ c2 : UInt32, (c2.toNat : Int) = 4294967295 - (c.toNat : Int) % 3 := ⟨UInt32.ofNat (4294967295 - c.toNat % 3), by rw [UInt32.toNat_ofNat', Nat.mod_eq_of_lt (by omega)]; omega⟩
  have hcv : 4294967295 - (c.toNat : Int) % 3 = (c2.toNat : Int) := hc2.symm
  clear hc2
  go_upto_region 3 with fail
  clear hcv
  have hb3 : Below w1.heap.size w1 (w1.alloc (.cells #[.int .u32 (c.toNat : Int), .int .u32 (c2.toNat : Int)] 22)) := (Below.refl _ _).alloc (Nat.le_refl _) _
  have E3 := H2.out.below hb3
  have B3 : Blk (w1.alloc (.cells #[.int .u32 (c.toNat : Int), .int .u32 (c2.toNat : Int)] 22)) w1.heap.size 22 ([c, c2].map u32v) := Blk.new w1 22 ([c, c2].map u32v)
  generalize w1.alloc (.cells #[.int .u32 (c.toNat : Int), .int .u32 (c2.toNat : Int)] 22) = w3 at E3 B3 ⊢
  clear hb3 H2
  generalize w1.heap.size = g at B3 ⊢
  have H3 := Lib.hid (And.intro E3 B3)
  clear E3 B3
  go_loopw [20, 11] (fun i _ wr => ∃ j : Nat, j ≤ 2 ∧ i = .int .i64 (j : Int) ∧ Env w w.heap.size k nn [(A, n, dl), (A, len, l)] wr ∧ Blk wr g 22 ([c, c2].map u32v)) (fun i _ _ => 2 - (intOf i).toNat)
  case atStart => exact ⟨0, by omega, rfl, H3.out.1, H3.out.2⟩
  case round =>
    clear H3
    obtain ⟨j, hj, rfl, hE, hB⟩ := hrel
    by_cases hlt : j < 2
    · have d2 : decide ((j : Int) < 2) = true := by simp; omega
      have fx := hB.word j (by simpa using hlt)
      obtain ⟨cj, hcj⟩ : ∃ cj, wd [c, c2] j = cj := ⟨_, rfl⟩
      rw [hcj] at fx
      clear hcj
      have E4 := Lib.hid hE
      have B4 := Lib.hid hB
      clear hE hB
      obtain ⟨X, hX⟩ : ∃ X, xorL k cj nn dl = X := ⟨_, rfl⟩
      have HX := Lib.hid hX
      clear hX
      go_upto_region 5 with fail
      clear fx d2
      go_cut [36] (fun v wx => v = .bool false ∧ Env w w.heap.size k nn [(A, n, dl), (A, len, l)] wx ∧ Blk wx g 22 ([c, c2].map u32v))
      case first =>
        refine wp_region_held_drew (S := fun w' => Below wr.heap.size wr w') (by kernel_rfl) ((Below.refl wr.heap.size wr).drew) (fun hHeld => ?_)
        refine take_first (v := ?_) 1 rfl (by kernel_rfl) (by kernel_rfl) (by kernel_rfl) (fun _ _ _ h => h) (Or.inl ⟨by rfl, ?_⟩) (by assumption) ?_
        rotate_left
        · (intro w hSw; (try dsimp only at hSw); go_simp; try with_reducible rfl)
        (try simp only [Act.put, List.setIfInBounds_toArray, List.set_cons_zero, List.set_cons_succ])
        refine take_first (v := ?_) 3 rfl (by kernel_rfl) (by kernel_rfl) (by kernel_rfl) (fun _ _ _ h => h) (Or.inl ⟨by rfl, ?_⟩) (by assumption) ?_
        rotate_left
        · (intro w hSw; (try dsimp only at hSw); go_simp; try with_reducible rfl)
        (try simp only [Act.put, List.setIfInBounds_toArray, List.set_cons_zero, List.set_cons_succ])
        refine take_first (v := ?_) 7 rfl (by kernel_rfl) (by kernel_rfl) (by kernel_rfl) (fun _ _ _ h => h) (Or.inl ⟨by rfl, ?_⟩) (by assumption) ?_
        rotate_left
        · (intro w hSw; (try dsimp only at hSw); go_simp; try with_reducible rfl)
        (try simp only [Act.put, List.setIfInBounds_toArray, List.set_cons_zero, List.set_cons_succ])
        refine take_first (v := ?_) 9 rfl (by kernel_rfl) (by kernel_rfl) (by kernel_rfl) (fun _ _ _ h => h) (Or.inl ⟨by rfl, ?_⟩) (by assumption) ?_
        rotate_left
        · (intro w hSw; (try dsimp only at hSw); go_simp; try with_reducible rfl)
        (try simp only [Act.put, List.setIfInBounds_toArray, List.set_cons_zero, List.set_cons_succ])
        refine take_first (v := .agg ck) 0 rfl (by kernel_rfl) (by kernel_rfl) (by kernel_rfl) (fun _ _ _ h => h) ((by rw [← HCK.out]; exact yields_load_blk (by rfl) 25 (.tmp 4) rfl w.heap.size rfl 25 (k.map u8v) (fun w' hb => (E4.out.below hb).1) 32 5 Try.underlying25 (cells32 k HK.out))) (by assumption) ?_
        (try simp only [Act.put, List.setIfInBounds_toArray, List.set_cons_zero, List.set_cons_succ])
        refine take_first (v := .agg cn) 2 rfl (by kernel_rfl) (by kernel_rfl) (by kernel_rfl) (fun _ _ _ h => h) ((by rw [← HCN.out]; exact yields_load_blk (by rfl) 27 (.tmp 6) rfl (w.heap.size + 1) rfl 27 (nn.map u8v) (fun w' hb => (E4.out.below hb).2.1) 12 5 Try.underlying27 (cells12 nn HN.out))) (by assumption) ?_
        (try simp only [Act.put, List.setIfInBounds_toArray, List.set_cons_zero, List.set_cons_succ])
        refine take_first (v := .agg ck) 6 rfl (by kernel_rfl) (by kernel_rfl) (by kernel_rfl) (fun _ _ _ h => h) ((by rw [← HCK.out]; exact yields_load_blk (by rfl) 25 (.tmp 4) rfl w.heap.size rfl 25 (k.map u8v) (fun w' hb => (E4.out.below hb).1) 32 5 Try.underlying25 (cells32 k HK.out))) (by assumption) ?_
        (try simp only [Act.put, List.setIfInBounds_toArray, List.set_cons_zero, List.set_cons_succ])
        refine take_first (v := .agg cn) 8 rfl (by kernel_rfl) (by kernel_rfl) (by kernel_rfl) (fun _ _ _ h => h) ((by rw [← HCN.out]; exact yields_load_blk (by rfl) 27 (.tmp 6) rfl (w.heap.size + 1) rfl 27 (nn.map u8v) (fun w' hb => (E4.out.below hb).2.1) 12 5 Try.underlying27 (cells12 nn HN.out))) (by assumption) ?_
        (try simp only [Act.put, List.setIfInBounds_toArray, List.set_cons_zero, List.set_cons_succ])
        refine step_one 4 rfl (by kernel_rfl) (fun K hK => ?_)
        go_simp
        refine (HXC.out cj A n cap dl (by omega) _ ((E4.out.below hHeld).rd (by simp))).mono ?_
        rintro e wA ⟨G, rfl, hrwA, hbwA⟩
        rw [HX.out] at hrwA
        go_wp2_with fail
        refine hK.out _ _ (hHeld.trans (hbwA.mono hHeld.size)) (fun hHeld => ?_)
        clear hK K
        (try simp only [Act.put, List.setIfInBounds_toArray, List.set_cons_zero, List.set_cons_succ])
        have EwA := Lib.hid ((E4.out.below hHeld).cons hrwA)
        refine wpAnyH_later hHeld ?_
        have HBwA := Lib.hid hHeld
        replace hHeld := Below.refl wA.heap.size wA
        have cvwA : ∀ w' : World, Below wA.heap.size wA w' → (convert 33 9 (.slice (some ⟨G, 0, none⟩) n n)).run Try.prog w' = .ok (.string ⟨X.toArray⟩) w' := fun w' hb => conv_str ((EwA.out.below hb).rd (List.mem_cons_self)) n
        clear hrwA hbwA
        refine take_first (v := ?_) 5 rfl (by kernel_rfl) (by kernel_rfl) (by kernel_rfl) (fun _ _ _ h => h) (Or.inl ⟨by rfl, ?_⟩) (by assumption) ?_
        rotate_left
        · (intro w hSw; (try dsimp only at hSw); go_simp; try with_reducible rfl)
        (try simp only [Act.put, List.setIfInBounds_toArray, List.set_cons_zero, List.set_cons_succ])
        refine step_one 10 rfl (by kernel_rfl) (fun K hK => ?_)
        go_simp
        refine (HRC.out cj A n cap dl (by omega) _ ((EwA.out.below hHeld).rd (by simp))).mono ?_
        rintro e wB ⟨Ar, cr, rfl, hrwB, hbwB⟩
        rw [HX.out] at hrwB
        go_wp2_with fail
        refine hK.out _ _ (hHeld.trans (hbwB.mono hHeld.size)) (fun hHeld => ?_)
        clear hK K
        (try simp only [Act.put, List.setIfInBounds_toArray, List.set_cons_zero, List.set_cons_succ])
        have EwB := Lib.hid ((EwA.out.below hHeld).cons hrwB)
        refine wpAnyH_later hHeld ?_
        have HBwB := Lib.hid hHeld
        replace hHeld := Below.refl wB.heap.size wB
        have cvwB : ∀ w' : World, Below wB.heap.size wB w' → (convert 33 9 (.slice Ar n cr)).run Try.prog w' = .ok (.string ⟨X.toArray⟩) w' := fun w' hb => conv_str ((EwB.out.below hb).rd (List.mem_cons_self)) cr
        clear hrwB hbwB
        refine take_first (v := ?_) 11 rfl (by kernel_rfl) (by kernel_rfl) (by kernel_rfl) (fun _ _ _ h => h) (Or.inl ⟨by rfl, ?_⟩) (by assumption) ?_
        rotate_left
        · (intro w hSw; (try dsimp only at hSw); go_simp; try with_reducible rfl)
        (try simp only [Act.put, List.setIfInBounds_toArray, List.set_cons_zero, List.set_cons_succ])
        refine take_first (v := ?_) 12 rfl (by kernel_rfl) (by kernel_rfl) (by kernel_rfl) (fun _ _ _ h => h) (Or.inl ⟨by rfl, ?_⟩) (by assumption) ?_
        rotate_left
        · (intro w hSw; (try dsimp only at hSw); go_simp; try with_reducible rfl)
        (try simp only [Act.put, List.setIfInBounds_toArray, List.set_cons_zero, List.set_cons_succ])
        refine wpAnyH_done (by kernel_rfl) ?_ _
        have HF := Lib.hid (show Env w w.heap.size k nn [(A, n, dl), (A, len, l)] wB ∧ Blk wB g 22 ([c, c2].map u32v) from ⟨(E4.out.below HBwA.out).below HBwB.out, (B4.out.below HBwA.out B4.out.lt).below HBwB.out (Nat.lt_of_lt_of_le B4.out.lt HBwA.out.size)⟩)
        clear hHeld cvwB cvwA
        go_wp2
        go_meet
        exact ⟨rfl, HF.out⟩
      case rest =>
        obtain ⟨rfl, hE, hB⟩ := hcut
        have HF := Lib.hid (And.intro hE hB)
        clear hE hB E4 B4
        go_wp2
        go_roundw
        case rel => exact ⟨j + 1, by omega, by go_num, HF.out.1, HF.out.2⟩
        case measure => simp [intOf]; omega
    · obtain rfl : j = 2 := by omega
      have HE := Lib.hid hE
      clear hE hB
      rw [show ((2 : Nat) : Int) = 2 from rfl]
      go_wp2_with fail
      refine (begun_any _).mono ?_
      rintro e w9 ⟨rfl, hb9⟩
      have HF := Lib.hid (HE.out.2.2.2.trans (hb9.mono HE.out.2.2.2.size))
      clear hb9
      go_wp2_with fail
      go_ret
      exact ⟨rfl, HF.out⟩
end Go.Proofs.Ytagmbogjmlhbmaa
