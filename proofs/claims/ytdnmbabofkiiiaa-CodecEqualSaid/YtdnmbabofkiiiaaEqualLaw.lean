/-
  CodecEqual returns true for every two byte strings, place and byte, and changes nothing that was there: the walk.
-/
import Derived.Test.YtdnmbabofkiiiaaEqual
import Derived.Test.YtdnmbabofkiiiaaAppend
import Derived.Test.YtdnmbabofkiiiaaRegion
import Derived.Test.YtdnmbabofkiiiaaCase
import Derived.Test.YtdnmbabofkiiiaaBegun
import Derived.BigRegion
import Derived.Outline
namespace Go.Proofs.Ytdnmbabofkiiiaa
open Go.RowKit

/-- a slice that reads as l becomes the same string in every later world -/
theorem later_str {w0 : World} {B : Nat} {A : Option Addr} {k : Nat} {l : List UInt8} (hB : B ≤ w0.heap.size) (h : Rd w0 B A k l) (c : Nat) : ∀ w' : World, Below w0.heap.size w0 w' → (convert 23 9 (.slice A k c)).run Try.prog w' = .ok (.string ⟨l.toArray⟩) w' :=
  fun _ hb => run_string_of_rd (P := Try.prog) 23 9 5 c Try.underlying23 Try.underlying5 Try.underlying9 ((h.mono hB).below hb)

/-- the law's own change of one byte: equal exactly if the byte that is combined is 0 -/
theorem changed_eq (la : List UInt8) (p : Nat) (hp : p < la.length) (x z : UInt8) (y : Nat) (hy : y ≤ 255) (hx : la[p] = x) (hz : UInt8.ofNat (x.toNat ^^^ y) = z) : (la == la.set p z) = ((y : Int) == 0) := by
  rw [Bool.eq_iff_iff, beq_iff_eq, beq_iff_eq]
  have hzn : z.toNat = x.toNat ^^^ y := by
    rw [← hz, UInt8.toNat_ofNat', Nat.mod_eq_of_lt (Nat.xor_lt_two_pow (n := 8) x.toNat_lt (by omega))]
  constructor
  · intro h
    have h1 : la[p] = (la.set p z)[p]'(by simpa using hp) := by
      have := congrArg (fun q : List UInt8 => q[p]?) h
      simp only [List.getElem?_eq_getElem hp] at this
      rw [List.getElem?_eq_getElem (by simpa using hp)] at this
      exact Option.some.inj this
    rw [List.getElem_set_self, hx] at h1
    rw [← h1] at hzn
    have : (x.toNat ^^^ (x.toNat ^^^ y)) = 0 := by rw [← hzn]; simp
    rw [← Nat.xor_assoc, Nat.xor_self, Nat.zero_xor] at this
    omega
  · intro h
    have h0 : y = 0 := by omega
    subst h0
    have : z = x := UInt8.toNat_inj.1 (by rw [hzn]; simp)
    rw [this, ← hx, List.set_getElem_self]
theorem longer_ne (la lx : List UInt8) (h : lx.length = la.length) : (la == lx ++ [0]) = false := by
  rw [beq_eq_false_iff_ne]
  intro he
  have := congrArg List.length he
  simp at this
  omega

set_option maxHeartbeats 2000000 in
theorem equalLaw_nil (w : World) (A : Option Addr) (len cap : Nat) (l : List UInt8) (A' : Option Addr) (len' cap' : Nat) (l' : List UInt8) (i y : Nat) (hlc : len ≤ cap) (hcm : cap ≤ maxLen) (hr : Rd w w.heap.size A len l) (hlc' : len' ≤ cap') (hcm' : cap' ≤ maxLen) (hr' : Rd w w.heap.size A' len' l') (_hi : i ≤ 255) (_hy : y ≤ 255) (h0 : min len 60 = 0) :
    Calls Try.prog 7 #[.slice A len cap, .slice A' len' cap', .int .u8 i, .int .u8 y] w fun e w' => e = .returned (.bool true) ∧ Below w.heap.size w w' := by
  obtain ⟨i0, hi0, hz0, hz1, hz2⟩ := info_parts Try.info5
  have C1 := Lib.hid (cut_any _ A len cap 60 l hlc hcm w hr)
  have C2 := Lib.hid (cut_any _ A' len' cap' 60 l' hlc' hcm' w hr')
  clear hr hr' hlc hlc' hcm hcm'
  obtain ⟨N, hN⟩ : ∃ N, min len 60 = N := ⟨_, rfl⟩
  obtain ⟨N', hN'⟩ : ∃ N', min len' 60 = N' := ⟨_, rfl⟩
  have hN60 : N ≤ 60 := by omega
  have hN60' : N' ≤ 60 := by omega
  obtain ⟨la, hla⟩ : ∃ la, l.take 60 = la := ⟨_, rfl⟩
  obtain ⟨lb, hlb⟩ : ∃ lb, l'.take 60 = lb := ⟨_, rfl⟩
  rw [hN] at h0
  rw [hN, hla] at C1
  rw [hN', hlb] at C2
  clear hN hN' hla hlb
  go_enter Try.func7, Try.ntmps7
  go_wp2_with fail
  refine C1.out.mono ?_
  rintro e w1 ⟨rfl, hra, rfl⟩
  go_wp2_with fail
  refine C2.out.mono ?_
  rintro e w1 ⟨rfl, hrb, rfl⟩
  clear C1 C2
  have HA := Lib.hid hra
  have HB := Lib.hid hrb
  clear hra hrb
  subst h0
  have hla0 : la = [] := List.eq_nil_of_length_eq_zero HA.out.1
  go_wp2_with (at_builtin; refine wpList_append_rd _ rfl (.const (.slice none 0 0)) (.tmp 14) 23 rfl w.heap.size 5 i0 (.int .u8 0) Try.underlying23 hi0 hz0 hz1 hz2 rfl (.slice none 0 0) 0 [] rfl (World.ownsRow_nil _ _ _ _) _ _ _ _ _ rfl HA.out (by omega) (Nat.le_refl _) ?_; intro v1 W hoW hg1; simp only [Nat.zero_add, List.nil_append] at hoW; obtain ⟨Ax, cx, rfl, _⟩ := own_slice hoW)
  obtain ⟨N, hN⟩ : ∃ N : Nat, N = 0 := ⟨0, rfl⟩
  have hbW : Below w.heap.size w W := (Below.refl w.heap.size w).grown hg1 (Nat.le_refl _) (by simp [Value.ownBlock])
  obtain ⟨lx, hlx⟩ : ∃ lx, lx = la := ⟨_, rfl⟩
  rw [← hlx] at hoW
  have HXL := Lib.hid (show lx.length = 0 by rw [hlx, hla0]; rfl)
  have HT := Lib.hid (show (la == lx) = true by rw [hlx]; exact beq_self_eq_true la)
  have HF := Lib.hid (longer_ne la lx (by rw [hlx]))
  have K0 := Keep.refl hoW
  clear hlx hoW hg1 hN hla0
  have HBW := Lib.hid hbW
  have hszW := hbW.size
  have RA : ∀ w', Keep W w.heap.size 5 (.slice Ax 0 cx) 0 (lx.map u8v) w' → Rd w' w.heap.size A 0 la := fun w' k => k.rd (HA.out.below HBW.out) (Nat.le_refl _) hszW
  have RB : ∀ w', Keep W w.heap.size 5 (.slice Ax 0 cx) 0 (lx.map u8v) w' → Rd w' w.heap.size A' N' lb := fun w' k => k.rd (HB.out.below HBW.out) (Nat.le_refl _) hszW
  have SZ : ∀ w', Keep W w.heap.size 5 (.slice Ax 0 cx) 0 (lx.map u8v) w' → w.heap.size ≤ w'.heap.size := fun w' k => Nat.le_trans hszW k.size
  have E1 := Lib.hid (show ∀ w', Keep W w.heap.size 5 (.slice Ax 0 cx) 0 (lx.map u8v) w' → Calls Try.prog 28 #[.slice A 0 cap, .slice A' N' cap'] w' fun e w'' => e = .returned (.bool (la == lb)) ∧ Below w'.heap.size w' w'' from
    fun w' k => equal_any w.heap.size _ _ _ _ _ _ _ _ (by omega) (by omega) w' (SZ w' k) (RA w' k) (RB w' k))
  have E2 := Lib.hid (show ∀ w', Keep W w.heap.size 5 (.slice Ax 0 cx) 0 (lx.map u8v) w' → Calls Try.prog 28 #[.slice A 0 cap, .slice Ax 0 cx] w' fun e w'' => e = .returned (.bool true) ∧ Below w'.heap.size w' w'' from
    fun w' k => by rw [← HT.out]; exact equal_any w'.heap.size _ _ _ _ _ _ _ _ (by omega) (by omega) w' (Nat.le_refl _) ((RA w' k).mono (SZ w' k)) (Rd.of_own k.2))
  have E3 := Lib.hid (show ∀ w' (A3 : Option Addr) (c3 : Nat), Keep W w.heap.size 5 (.slice Ax 0 cx) 0 (lx.map u8v) w' → Rd w' w'.heap.size A3 (0 + 1) (lx ++ [0]) → Calls Try.prog 28 #[.slice A 0 cap, .slice A3 (0 + 1) c3] w' fun e w'' => e = .returned (.bool false) ∧ Below w'.heap.size w' w'' from
    fun w' A3 c3 k r => by rw [← HF.out]; exact equal_any w'.heap.size _ _ _ _ _ _ _ _ (by omega) (by omega) w' (Nat.le_refl _) ((RA w' k).mono (SZ w' k)) r)
  have CA : ∀ w', Keep W w.heap.size 5 (.slice Ax 0 cx) 0 (lx.map u8v) w' → (convert 23 9 (.slice A 0 cap)).run Try.prog w' = .ok (.string ⟨la.toArray⟩) w' := fun w' k => run_string_of_rd (P := Try.prog) 23 9 5 cap Try.underlying23 Try.underlying5 Try.underlying9 (RA w' k)
  have CB : ∀ w', Keep W w.heap.size 5 (.slice Ax 0 cx) 0 (lx.map u8v) w' → (convert 23 9 (.slice A' N' cap')).run Try.prog w' = .ok (.string ⟨lb.toArray⟩) w' := fun w' k => run_string_of_rd (P := Try.prog) 23 9 5 cap' Try.underlying23 Try.underlying5 Try.underlying9 (RB w' k)
  have CX : ∀ w', Keep W w.heap.size 5 (.slice Ax 0 cx) 0 (lx.map u8v) w' → (convert 23 9 (.slice Ax 0 cx)).run Try.prog w' = .ok (.string ⟨lx.toArray⟩) w' := fun w' k => run_string_of_rd (P := Try.prog) 23 9 5 cx Try.underlying23 Try.underlying5 Try.underlying9 (Rd.of_own k.2)
  have J1 := Lib.hid (show ∀ w' : World, Keep W w.heap.size 5 (.slice Ax 0 cx) 0 (lx.map u8v) (w'.alloc (.cells #[.slice A 0 cap, .slice none 0 0, .slice A' N' cap', .slice Ax 0 cx] 23)) → Calls Try.prog 29 #[.slice (some ⟨w'.heap.size, 0, none⟩) 4 4]
      (w'.alloc (.cells #[.slice A 0 cap, .slice none 0 0, .slice A' N' cap', .slice Ax 0 cx] 23)) fun e w'' => ∃ A5 n5 c5, e = .returned (.slice A5 n5 c5) ∧ Rd w'' w''.heap.size A5 n5 (la ++ lb ++ lx) ∧ Below (w'.alloc (.cells #[.slice A 0 cap, .slice none 0 0, .slice A' N' cap', .slice Ax 0 cx] 23)).heap.size (w'.alloc (.cells #[.slice A 0 cap, .slice none 0 0, .slice A' N' cap', .slice Ax 0 cx] 23)) w'' from
    fun w' k => by
      obtain ⟨ps, hps⟩ : ∃ ps : List Part, ps = [⟨A, 0, cap, la⟩, ⟨none, 0, 0, []⟩, ⟨A', N', cap', lb⟩, ⟨Ax, 0, cx, lx⟩] := ⟨_, rfl⟩
      have hfl : flat ps 4 = la ++ lb ++ lx := by rw [hps]; simp [flat]
      have hlen : ps.length = 4 := by rw [hps]; rfl
      have h1 := HA.out.1
      have h2 := HB.out.1
      have h3 := HXL.out
      have h := join_any (w'.heap.size + 1) 4 (some ⟨w'.heap.size, 0, none⟩) ps (by omega) (by rw [hlen, hfl]; simp; omega) (w'.alloc (.cells #[.slice A 0 cap, .slice none 0 0, .slice A' N' cap', .slice Ax 0 cx] 23)) (by simp) (by
        intro _
        refine ⟨w'.heap.size, rfl, by omega, fun j hj => ?_⟩
        have hb := Blk.new w' 23 [.slice A 0 cap, .slice none 0 0, .slice A' N' cap', .slice Ax 0 cx]
        subst hps
        have hj4 : j < 4 := hj
        obtain rfl | rfl | rfl | rfl : j = 0 ∨ j = 1 ∨ j = 2 ∨ j = 3 := by omega
        · exact ⟨hb.cell 0, (RA _ k).mono (by have := SZ _ k; simpa using this)⟩
        · exact ⟨hb.cell 1, Rd.nil _ _ _⟩
        · exact ⟨hb.cell 2, (RB _ k).mono (by have := SZ _ k; simpa using this)⟩
        · exact ⟨hb.cell 3, (Rd.of_own k.2).mono (by simp)⟩)
      rw [hlen, hfl] at h
      exact h.mono fun e w'' ⟨A5, c5, he, ho, hb⟩ => ⟨A5, _, c5, he, Rd.of_own ho, hb⟩)
  have J2 := Lib.hid (show ∀ w', Calls Try.prog 29 #[.slice none 0 0] w' fun e w'' => ∃ A6 c6, e = .returned (.slice A6 0 c6) ∧ Below w'.heap.size w' w'' from
    fun w' => (join_any 0 0 none [] (by simp) (by simp [flat]) w' (by omega) (fun h => by simp at h)).mono fun e w'' ⟨A6, c6, he, _, hb⟩ => ⟨A6, c6, he, hb⟩)
  have hl1 := HA.out.1
  have hl2 := HB.out.1
  have had1 : ∀ w' : World, (Op.stringOp .add ⟨la.toArray⟩ ⟨lb.toArray⟩).run Try.prog w' = .ok (.string ⟨(la ++ lb).toArray⟩) w' := fun w' => run_string_add_lists w' la lb (by omega) (by omega)
  have had2 : ∀ w' : World, (Op.stringOp .add ⟨(la ++ lb).toArray⟩ ⟨lx.toArray⟩).run Try.prog w' = .ok (.string ⟨(la ++ lb ++ lx).toArray⟩) w' := fun w' => run_string_add_lists w' (la ++ lb) lx (by simp; omega) (by have := HXL.out; omega)
  clear hl1 hl2 hbW hszW
  refine wp_region_held_drew (S := fun w' => Keep W w.heap.size 5 (.slice Ax 0 cx) 0 (lx.map u8v) w') (by kernel_rfl) (K0.drew) (fun hHeld => ?_)
  refine take_first (v := ?_) 0 rfl (by kernel_rfl) (by kernel_rfl) (by kernel_rfl) (fun _ _ _ h => h) (Or.inl ⟨by rfl, ?_⟩) (by assumption) ?_
  rotate_left
  · (intro w hSw; (try dsimp only at hSw); go_simp; try with_reducible rfl)
  (try simp only [Act.put, List.setIfInBounds_toArray, List.set_cons_zero, List.set_cons_succ])
  refine take_first (v := ?_) 1 rfl (by kernel_rfl) (by kernel_rfl) (by kernel_rfl) (fun _ _ _ h => h) (Or.inl ⟨by rfl, ?_⟩) (by assumption) ?_
  rotate_left
  · (intro w hSw; (try dsimp only at hSw); go_simp; try with_reducible rfl)
  (try simp only [Act.put, List.setIfInBounds_toArray, List.set_cons_zero, List.set_cons_succ])
  refine take_first (v := ?_) 3 rfl (by kernel_rfl) (by kernel_rfl) (by kernel_rfl) (fun _ _ _ h => h) (Or.inl ⟨by rfl, ?_⟩) (by assumption) ?_
  rotate_left
  · (intro w hSw; (try dsimp only at hSw); go_simp; try with_reducible rfl)
  (try simp only [Act.put, List.setIfInBounds_toArray, List.set_cons_zero, List.set_cons_succ])
  refine take_first (v := ?_) 4 rfl (by kernel_rfl) (by kernel_rfl) (by kernel_rfl) (fun _ _ _ h => h) (Or.inl ⟨by rfl, ?_⟩) (by assumption) ?_
  rotate_left
  · (intro w hSw; (try dsimp only at hSw); go_simp; try with_reducible rfl)
  (try simp only [Act.put, List.setIfInBounds_toArray, List.set_cons_zero, List.set_cons_succ])
  refine take_first (v := ?_) 5 rfl (by kernel_rfl) (by kernel_rfl) (by kernel_rfl) (fun _ _ _ h => h) (Or.inl ⟨by rfl, ?_⟩) (by assumption) ?_
  rotate_left
  · (intro w hSw; (try dsimp only at hSw); go_simp; try with_reducible rfl)
  (try simp only [Act.put, List.setIfInBounds_toArray, List.set_cons_zero, List.set_cons_succ])
  refine take_first (v := ?_) 6 rfl (by kernel_rfl) (by kernel_rfl) (by kernel_rfl) (fun _ _ _ h => h) (Or.inl ⟨by rfl, ?_⟩) (by assumption) ?_
  rotate_left
  · (intro w hSw; (try dsimp only at hSw); go_simp; try with_reducible rfl)
  (try simp only [Act.put, List.setIfInBounds_toArray, List.set_cons_zero, List.set_cons_succ])
  refine take_first (v := ?_) 7 rfl (by kernel_rfl) (by kernel_rfl) (by kernel_rfl) (fun _ _ _ h => h) (Or.inl ⟨by rfl, ?_⟩) (by assumption) ?_
  rotate_left
  · (intro w hSw; (try dsimp only at hSw); go_simp; try with_reducible rfl)
  (try simp only [Act.put, List.setIfInBounds_toArray, List.set_cons_zero, List.set_cons_succ])
  refine step_one 2 rfl (by kernel_rfl) (fun K hK => ?_)
  go_simp
  refine (E1.out _ hHeld).mono ?_
  rintro e wa ⟨rfl, hb1⟩
  go_wp2_with fail
  refine hK.out _ _ (hHeld.below hb1) (fun hHeld => ?_)
  clear hK K
  (try simp only [Act.put, List.setIfInBounds_toArray, List.set_cons_zero, List.set_cons_succ])
  refine take_first (v := ?_) 8 rfl (by kernel_rfl) (by kernel_rfl) (by kernel_rfl) (fun _ _ _ h => h) (Or.inl ⟨by rfl, ?_⟩) (by assumption) ?_
  rotate_left
  · (intro w hSw; (try dsimp only at hSw); go_simp; try with_reducible rfl)
  (try simp only [Act.put, List.setIfInBounds_toArray, List.set_cons_zero, List.set_cons_succ])
  refine take_first (v := ?_) 9 rfl (by kernel_rfl) (by kernel_rfl) (by kernel_rfl) (fun _ _ _ h => h) (Or.inl ⟨by rfl, ?_⟩) (by assumption) ?_
  rotate_left
  · (intro w hSw; (try dsimp only at hSw); go_simp; try with_reducible rfl)
  (try simp only [Act.put, List.setIfInBounds_toArray, List.set_cons_zero, List.set_cons_succ])
  refine take_first (v := ?_) 10 rfl (by kernel_rfl) (by kernel_rfl) (by kernel_rfl) (fun _ _ _ h => h) (Or.inl ⟨by rfl, ?_⟩) (by assumption) ?_
  rotate_left
  · (intro w hSw; (try dsimp only at hSw); go_simp; try with_reducible rfl)
  (try simp only [Act.put, List.setIfInBounds_toArray, List.set_cons_zero, List.set_cons_succ])
  refine take_first (v := ?_) 11 rfl (by kernel_rfl) (by kernel_rfl) (by kernel_rfl) (fun _ _ _ h => h) (Or.inl ⟨by rfl, ?_⟩) (by assumption) ?_
  rotate_left
  · (intro w hSw; (try dsimp only at hSw); go_simp; try with_reducible rfl)
  (try simp only [Act.put, List.setIfInBounds_toArray, List.set_cons_zero, List.set_cons_succ])
  refine take_first (v := ?_) 13 rfl (by kernel_rfl) (by kernel_rfl) (by kernel_rfl) (fun _ _ _ h => h) (Or.inl ⟨by rfl, ?_⟩) (by assumption) ?_
  rotate_left
  · (intro w hSw; (try dsimp only at hSw); go_simp; try with_reducible rfl)
  (try simp only [Act.put, List.setIfInBounds_toArray, List.set_cons_zero, List.set_cons_succ])
  refine take_first (v := ?_) 14 rfl (by kernel_rfl) (by kernel_rfl) (by kernel_rfl) (fun _ _ _ h => h) (Or.inl ⟨by rfl, ?_⟩) (by assumption) ?_
  rotate_left
  · (intro w hSw; (try dsimp only at hSw); go_simp; try with_reducible rfl)
  (try simp only [Act.put, List.setIfInBounds_toArray, List.set_cons_zero, List.set_cons_succ])
  refine take_first (v := ?_) 15 rfl (by kernel_rfl) (by kernel_rfl) (by kernel_rfl) (fun _ _ _ h => h) (Or.inl ⟨by rfl, ?_⟩) (by assumption) ?_
  rotate_left
  · (intro w hSw; (try dsimp only at hSw); go_simp; try with_reducible rfl)
  (try simp only [Act.put, List.setIfInBounds_toArray, List.set_cons_zero, List.set_cons_succ])
  refine step_one 12 rfl (by kernel_rfl) (fun K hK => ?_)
  go_simp
  refine (E2.out _ hHeld).mono ?_
  rintro e wb ⟨rfl, hb2⟩
  go_wp2_with fail
  refine hK.out _ _ (hHeld.below hb2) (fun hHeld => ?_)
  clear hK K
  (try simp only [Act.put, List.setIfInBounds_toArray, List.set_cons_zero, List.set_cons_succ])
  refine take_first (v := ?_) 16 rfl (by kernel_rfl) (by kernel_rfl) (by kernel_rfl) (fun _ _ _ h => h) (Or.inl ⟨by rfl, ?_⟩) (by assumption) ?_
  rotate_left
  · (intro w hSw; (try dsimp only at hSw); go_simp; try with_reducible rfl)
  (try simp only [Act.put, List.setIfInBounds_toArray, List.set_cons_zero, List.set_cons_succ])
  refine take_first (v := undef) 17 rfl (by kernel_rfl) (by kernel_rfl) (by kernel_rfl) (fun _ _ _ h => h) (Or.inr ⟨by rfl, rfl⟩) (by assumption) ?_
  (try simp only [Act.put, List.setIfInBounds_toArray, List.set_cons_zero, List.set_cons_succ])
  refine take_first (v := undef) 18 rfl (by kernel_rfl) (by kernel_rfl) (by kernel_rfl) (fun _ _ _ h => h) (Or.inr ⟨by rfl, rfl⟩) (by assumption) ?_
  (try simp only [Act.put, List.setIfInBounds_toArray, List.set_cons_zero, List.set_cons_succ])
  refine take_first (v := ?_) 19 rfl (by kernel_rfl) (by kernel_rfl) (by kernel_rfl) (fun _ _ _ h => h) (Or.inl ⟨by rfl, ?_⟩) (by assumption) ?_
  rotate_left
  · (intro w hSw; (try dsimp only at hSw); go_simp; try with_reducible rfl)
  (try simp only [Act.put, List.setIfInBounds_toArray, List.set_cons_zero, List.set_cons_succ])
  refine take_first (v := ?_) 20 rfl (by kernel_rfl) (by kernel_rfl) (by kernel_rfl) (fun _ _ _ h => h) (Or.inl ⟨by rfl, ?_⟩) (by assumption) ?_
  rotate_left
  · (intro w hSw; (try dsimp only at hSw); go_simp; try with_reducible rfl)
  (try simp only [Act.put, List.setIfInBounds_toArray, List.set_cons_zero, List.set_cons_succ])
  refine take_first (v := ?_) 21 rfl (by kernel_rfl) (by kernel_rfl) (by kernel_rfl) (fun _ _ _ h => h) (Or.inl ⟨by rfl, ?_⟩) (by assumption) ?_
  rotate_left
  · (intro w hSw; (try dsimp only at hSw); go_simp; try with_reducible rfl)
  (try simp only [Act.put, List.setIfInBounds_toArray, List.set_cons_zero, List.set_cons_succ])
  refine take_first (v := ?_) 22 rfl (by kernel_rfl) (by kernel_rfl) (by kernel_rfl) (fun _ _ _ h => h) (Or.inl ⟨by rfl, ?_⟩) (by assumption) ?_
  rotate_left
  · (intro w hSw; (try dsimp only at hSw); go_simp; try with_reducible rfl)
  (try simp only [Act.put, List.setIfInBounds_toArray, List.set_cons_zero, List.set_cons_succ])
  refine take_first (v := ?_) 23 rfl (by kernel_rfl) (by kernel_rfl) (by kernel_rfl) (fun _ _ _ h => h) (Or.inl ⟨by rfl, ?_⟩) (by assumption) ?_
  rotate_left
  · (intro w hSw; (try dsimp only at hSw); go_simp; try with_reducible rfl)
  (try simp only [Act.put, List.setIfInBounds_toArray, List.set_cons_zero, List.set_cons_succ])
  refine take_first (v := ?_) 24 rfl (by kernel_rfl) (by kernel_rfl) (by kernel_rfl) (fun _ _ _ h => h) (Or.inl ⟨by rfl, ?_⟩) (by assumption) ?_
  rotate_left
  · (intro w hSw; (try dsimp only at hSw); go_simp; try with_reducible rfl)
  (try simp only [Act.put, List.setIfInBounds_toArray, List.set_cons_zero, List.set_cons_succ])
  refine step_one 25 rfl (by kernel_rfl) (fun K hK => ?_)
  go_simp
  refine hK.out _ _ (hHeld.alloc _) (fun hHeld => ?_)
  clear hK K
  (try simp only [Act.put, List.setIfInBounds_toArray, List.set_cons_zero, List.set_cons_succ])
  refine step_one 26 rfl (by kernel_rfl) (fun K hK => ?_)
  refine step_append_keeps _ (.tmp 54) (.tmp 55) 23 (by rfl) w.heap.size 5 i0 (.int .u8 0) Try.underlying23 hi0 hz0 hz1 hz2 rfl (.slice Ax 0 cx) 0 (lx.map u8v) (by rfl) hHeld.own ⟨wb.heap.size, 0, none⟩ 1 1 [.int .u8 0] (by rfl) rfl (cell_one_new _ _ _) (one_u8 0) (by omega) (SZ _ hHeld) (by rfl) ?_
  intro v3 w3 ho3 hg3 ho4
  obtain ⟨A3, c3, rfl, _⟩ := own_slice ho3
  refine hK.out _ _ (hHeld.app hg3 ho4) (fun hHeld => ?_)
  clear hK K
  (try simp only [Act.put, List.setIfInBounds_toArray, List.set_cons_zero, List.set_cons_succ])
  refine step_one 27 rfl (by kernel_rfl) (fun K hK => ?_)
  go_simp
  refine (E3.out _ _ _ hHeld (Rd.of_own (l := lx ++ [0]) (by rw [List.map_append]; exact ho3))).mono ?_
  rintro e wc ⟨rfl, hb3⟩
  go_wp2_with fail
  refine hK.out _ _ (hHeld.below hb3) (fun hHeld => ?_)
  clear hK K
  (try simp only [Act.put, List.setIfInBounds_toArray, List.set_cons_zero, List.set_cons_succ])
  refine take_first (v := ?_) 28 rfl (by kernel_rfl) (by kernel_rfl) (by kernel_rfl) (fun _ _ _ h => h) (Or.inl ⟨by rfl, ?_⟩) (by assumption) ?_
  rotate_left
  · (intro w hSw; (try dsimp only at hSw); go_simp; try with_reducible rfl)
  (try simp only [Act.put, List.setIfInBounds_toArray, List.set_cons_zero, List.set_cons_succ])
  refine take_first (v := ?_) 29 rfl (by kernel_rfl) (by kernel_rfl) (by kernel_rfl) (fun _ _ _ h => h) (Or.inl ⟨by rfl, ?_⟩) (by assumption) ?_
  rotate_left
  · (intro w hSw; (try dsimp only at hSw); go_simp; try with_reducible rfl)
  (try simp only [Act.put, List.setIfInBounds_toArray, List.set_cons_zero, List.set_cons_succ])
  refine take_first (v := ?_) 30 rfl (by kernel_rfl) (by kernel_rfl) (by kernel_rfl) (fun _ _ _ h => h) (Or.inl ⟨by rfl, ?_⟩) (by assumption) ?_
  rotate_left
  · (intro w hSw; (try dsimp only at hSw); go_simp; try with_reducible rfl)
  (try simp only [Act.put, List.setIfInBounds_toArray, List.set_cons_zero, List.set_cons_succ])
  refine take_first (v := ?_) 31 rfl (by kernel_rfl) (by kernel_rfl) (by kernel_rfl) (fun _ _ _ h => h) (Or.inl ⟨by rfl, ?_⟩) (by assumption) ?_
  rotate_left
  · (intro w hSw; (try dsimp only at hSw); go_simp; try with_reducible rfl)
  (try simp only [Act.put, List.setIfInBounds_toArray, List.set_cons_zero, List.set_cons_succ])
  refine take_first (v := ?_) 32 rfl (by kernel_rfl) (by kernel_rfl) (by kernel_rfl) (fun _ _ _ h => h) (Or.inl ⟨by rfl, ?_⟩) (by assumption) ?_
  rotate_left
  · (intro w hSw; (try dsimp only at hSw); go_simp; try with_reducible rfl)
  (try simp only [Act.put, List.setIfInBounds_toArray, List.set_cons_zero, List.set_cons_succ])
  refine take_first (v := ?_) 33 rfl (by kernel_rfl) (by kernel_rfl) (by kernel_rfl) (fun _ _ _ h => h) (Or.inl ⟨by rfl, ?_⟩) (by assumption) ?_
  rotate_left
  · (intro w hSw; (try dsimp only at hSw); go_simp; try with_reducible rfl)
  (try simp only [Act.put, List.setIfInBounds_toArray, List.set_cons_zero, List.set_cons_succ])
  refine take_first (v := ?_) 37 rfl (by kernel_rfl) (by kernel_rfl) (by kernel_rfl) (fun _ _ _ h => h) (Or.inl ⟨by rfl, ?_⟩) (by assumption) ?_
  rotate_left
  · (intro w hSw; (try dsimp only at hSw); go_simp; try with_reducible rfl)
  (try simp only [Act.put, List.setIfInBounds_toArray, List.set_cons_zero, List.set_cons_succ])
  refine take_first (v := ?_) 38 rfl (by kernel_rfl) (by kernel_rfl) (by kernel_rfl) (fun _ _ _ h => h) (Or.inl ⟨by rfl, ?_⟩) (by assumption) ?_
  rotate_left
  · (intro w hSw; (try dsimp only at hSw); go_simp; try with_reducible rfl)
  (try simp only [Act.put, List.setIfInBounds_toArray, List.set_cons_zero, List.set_cons_succ])
  refine take_first (v := ?_) 39 rfl (by kernel_rfl) (by kernel_rfl) (by kernel_rfl) (fun _ _ _ h => h) (Or.inl ⟨by rfl, ?_⟩) (by assumption) ?_
  rotate_left
  · (intro w hSw; (try dsimp only at hSw); go_simp; try with_reducible rfl)
  (try simp only [Act.put, List.setIfInBounds_toArray, List.set_cons_zero, List.set_cons_succ])
  refine take_first (v := ?_) 40 rfl (by kernel_rfl) (by kernel_rfl) (by kernel_rfl) (fun _ _ _ h => h) (Or.inl ⟨by rfl, ?_⟩) (by assumption) ?_
  rotate_left
  · (intro w hSw; (try dsimp only at hSw); go_simp; try with_reducible rfl)
  (try simp only [Act.put, List.setIfInBounds_toArray, List.set_cons_zero, List.set_cons_succ])
  refine take_first (v := ?_) 41 rfl (by kernel_rfl) (by kernel_rfl) (by kernel_rfl) (fun _ _ _ h => h) (Or.inl ⟨by rfl, ?_⟩) (by assumption) ?_
  rotate_left
  · (intro w hSw; (try dsimp only at hSw); go_simp; try with_reducible rfl)
  (try simp only [Act.put, List.setIfInBounds_toArray, List.set_cons_zero, List.set_cons_succ])
  refine take_first (v := ?_) 42 rfl (by kernel_rfl) (by kernel_rfl) (by kernel_rfl) (fun _ _ _ h => h) (Or.inl ⟨by rfl, ?_⟩) (by assumption) ?_
  rotate_left
  · (intro w hSw; (try dsimp only at hSw); go_simp; try with_reducible rfl)
  (try simp only [Act.put, List.setIfInBounds_toArray, List.set_cons_zero, List.set_cons_succ])
  refine take_first (v := ?_) 43 rfl (by kernel_rfl) (by kernel_rfl) (by kernel_rfl) (fun _ _ _ h => h) (Or.inl ⟨by rfl, ?_⟩) (by assumption) ?_
  rotate_left
  · (intro w hSw; (try dsimp only at hSw); go_simp; try with_reducible rfl)
  (try simp only [Act.put, List.setIfInBounds_toArray, List.set_cons_zero, List.set_cons_succ])
  refine take_first (v := ?_) 44 rfl (by kernel_rfl) (by kernel_rfl) (by kernel_rfl) (fun _ _ _ h => h) (Or.inl ⟨by rfl, ?_⟩) (by assumption) ?_
  rotate_left
  · (intro w hSw; (try dsimp only at hSw); go_simp; try with_reducible rfl)
  (try simp only [Act.put, List.setIfInBounds_toArray, List.set_cons_zero, List.set_cons_succ])
  refine step_one 34 rfl (by kernel_rfl) (fun K hK => ?_)
  go_simp
  refine hK.out _ _ (hHeld.alloc _) (fun hHeld => ?_)
  clear hK K
  (try simp only [Act.put, List.setIfInBounds_toArray, List.set_cons_zero, List.set_cons_succ])
  refine step_one 35 rfl (by kernel_rfl) (fun K hK => ?_)
  go_simp
  refine (J1.out _ hHeld).mono ?_
  rintro e wd ⟨A5, n5, c5, rfl, hr5, hb5⟩
  have c5x := later_str (Nat.le_refl _) hr5 c5
  go_wp2_with fail
  refine hK.out _ _ (hHeld.below hb5) (fun hHeld => ?_)
  clear hK K
  (try simp only [Act.put, List.setIfInBounds_toArray, List.set_cons_zero, List.set_cons_succ])
  replace hHeld := And.intro hHeld (Below.refl wd.heap.size wd)
  refine wpAnyH_stronger (T := fun w' => Keep W w.heap.size 5 (.slice Ax 0 cx) 0 (lx.map u8v) w' ∧ Below wd.heap.size wd w') (fun _ h => h.1) _ _ _ _ ?_
  refine take_first (v := ?_) 36 rfl (by kernel_rfl) (by kernel_rfl) (by kernel_rfl) (fun _ _ _ h => h) (Or.inl ⟨by rfl, ?_⟩) (by assumption) ?_
  rotate_left
  · (intro w hSw; (try dsimp only at hSw); go_simp; try with_reducible rfl)
  (try simp only [Act.put, List.setIfInBounds_toArray, List.set_cons_zero, List.set_cons_succ])
  refine take_first (v := ?_) 45 rfl (by kernel_rfl) (by kernel_rfl) (by kernel_rfl) (fun _ _ _ h => h) (Or.inl ⟨by rfl, ?_⟩) (by assumption) ?_
  rotate_left
  · (intro w hSw; (try dsimp only at hSw); go_simp; try with_reducible rfl)
  (try simp only [Act.put, List.setIfInBounds_toArray, List.set_cons_zero, List.set_cons_succ])
  refine take_first (v := ?_) 46 rfl (by kernel_rfl) (by kernel_rfl) (by kernel_rfl) (fun _ _ _ h => h) (Or.inl ⟨by rfl, ?_⟩) (by assumption) ?_
  rotate_left
  · (intro w hSw; (try dsimp only at hSw); go_simp; try with_reducible rfl)
  (try simp only [Act.put, List.setIfInBounds_toArray, List.set_cons_zero, List.set_cons_succ])
  refine take_first (v := ?_) 47 rfl (by kernel_rfl) (by kernel_rfl) (by kernel_rfl) (fun _ _ _ h => h) (Or.inl ⟨by rfl, ?_⟩) (by assumption) ?_
  rotate_left
  · (intro w hSw; (try dsimp only at hSw); go_simp; try with_reducible rfl)
  (try simp only [Act.put, List.setIfInBounds_toArray, List.set_cons_zero, List.set_cons_succ])
  refine step_one 48 rfl (by kernel_rfl) (fun K hK => ?_)
  go_simp
  refine (J2.out _).mono ?_
  rintro e we ⟨A6, c6, rfl, hb6⟩
  go_wp2_with fail
  refine hK.out _ _ (⟨hHeld.1.below hb6, hHeld.2.trans (hb6.mono hHeld.2.size)⟩) (fun hHeld => ?_)
  clear hK K
  (try simp only [Act.put, List.setIfInBounds_toArray, List.set_cons_zero, List.set_cons_succ])
  refine take_first (v := ?_) 49 rfl (by kernel_rfl) (by kernel_rfl) (by kernel_rfl) (fun _ _ _ h => h) (Or.inl ⟨by rfl, ?_⟩) (by assumption) ?_
  rotate_left
  · (intro w hSw; (try dsimp only at hSw); go_simp; try with_reducible rfl)
  (try simp only [Act.put, List.setIfInBounds_toArray, List.set_cons_zero, List.set_cons_succ])
  refine take_first (v := ?_) 50 rfl (by kernel_rfl) (by kernel_rfl) (by kernel_rfl) (fun _ _ _ h => h) (Or.inl ⟨by rfl, ?_⟩) (by assumption) ?_
  rotate_left
  · (intro w hSw; (try dsimp only at hSw); go_simp; try with_reducible rfl)
  (try simp only [Act.put, List.setIfInBounds_toArray, List.set_cons_zero, List.set_cons_succ])
  refine take_first (v := ?_) 51 rfl (by kernel_rfl) (by kernel_rfl) (by kernel_rfl) (fun _ _ _ h => h) (Or.inl ⟨by rfl, ?_⟩) (by assumption) ?_
  rotate_left
  · (intro w hSw; (try dsimp only at hSw); go_simp; try with_reducible rfl)
  (try simp only [Act.put, List.setIfInBounds_toArray, List.set_cons_zero, List.set_cons_succ])
  refine take_first (v := ?_) 52 rfl (by kernel_rfl) (by kernel_rfl) (by kernel_rfl) (fun _ _ _ h => h) (Or.inl ⟨by rfl, ?_⟩) (by assumption) ?_
  rotate_left
  · (intro w hSw; (try dsimp only at hSw); go_simp; try with_reducible rfl)
  (try simp only [Act.put, List.setIfInBounds_toArray, List.set_cons_zero, List.set_cons_succ])
  refine step_one 53 rfl (by kernel_rfl) (fun K hK => ?_)
  go_simp
  refine (begun_any _).mono ?_
  rintro e wf ⟨rfl, hb7⟩
  go_wp2_with fail
  refine hK.out _ _ (⟨hHeld.1.below hb7, hHeld.2.trans (hb7.mono hHeld.2.size)⟩) (fun hHeld => ?_)
  clear hK K
  (try simp only [Act.put, List.setIfInBounds_toArray, List.set_cons_zero, List.set_cons_succ])
  refine take_first (v := ?_) 54 rfl (by kernel_rfl) (by kernel_rfl) (by kernel_rfl) (fun _ _ _ h => h) (Or.inl ⟨by rfl, ?_⟩) (by assumption) ?_
  rotate_left
  · (intro w hSw; (try dsimp only at hSw); go_simp; try with_reducible rfl)
  (try simp only [Act.put, List.setIfInBounds_toArray, List.set_cons_zero, List.set_cons_succ])
  refine take_first (v := ?_) 55 rfl (by kernel_rfl) (by kernel_rfl) (by kernel_rfl) (fun _ _ _ h => h) (Or.inl ⟨by rfl, ?_⟩) (by assumption) ?_
  rotate_left
  · (intro w hSw; (try dsimp only at hSw); go_simp; try with_reducible rfl)
  (try simp only [Act.put, List.setIfInBounds_toArray, List.set_cons_zero, List.set_cons_succ])
  refine wpAnyH_done (by kernel_rfl) ?_ _
  have HEND := Lib.hid (hHeld.1.end_ HBW.out (Nat.le_refl _))
  clear hHeld RA RB SZ CA CB CX had1 had2
  go_wp2
  go_ret
  exact ⟨rfl, HEND.out⟩

set_option maxHeartbeats 2000000 in
theorem equalLaw_pos (w : World) (A : Option Addr) (len cap : Nat) (l : List UInt8) (A' : Option Addr) (len' cap' : Nat) (l' : List UInt8) (i y : Nat) (hlc : len ≤ cap) (hcm : cap ≤ maxLen) (hr : Rd w w.heap.size A len l) (hlc' : len' ≤ cap') (hcm' : cap' ≤ maxLen) (hr' : Rd w w.heap.size A' len' l') (hi : i ≤ 255) (hy : y ≤ 255) (h0 : ¬ min len 60 = 0) :
    Calls Try.prog 7 #[.slice A len cap, .slice A' len' cap', .int .u8 i, .int .u8 y] w fun e w' => e = .returned (.bool true) ∧ Below w.heap.size w w' := by
  obtain ⟨i0, hi0, hz0, hz1, hz2⟩ := info_parts Try.info5
  have C1 := Lib.hid (cut_any _ A len cap 60 l hlc hcm w hr)
  have C2 := Lib.hid (cut_any _ A' len' cap' 60 l' hlc' hcm' w hr')
  clear hr hr' hlc hlc' hcm hcm'
  obtain ⟨N, hN⟩ : ∃ N, min len 60 = N := ⟨_, rfl⟩
  obtain ⟨N', hN'⟩ : ∃ N', min len' 60 = N' := ⟨_, rfl⟩
  have hN60 : N ≤ 60 := by omega
  have hN60' : N' ≤ 60 := by omega
  obtain ⟨la, hla⟩ : ∃ la, l.take 60 = la := ⟨_, rfl⟩
  obtain ⟨lb, hlb⟩ : ∃ lb, l'.take 60 = lb := ⟨_, rfl⟩
  rw [hN] at h0
  rw [hN, hla] at C1
  rw [hN', hlb] at C2
  clear hN hN' hla hlb
  go_enter Try.func7, Try.ntmps7
  go_wp2_with fail
  refine C1.out.mono ?_
  rintro e w1 ⟨rfl, hra, rfl⟩
  go_wp2_with fail
  refine C2.out.mono ?_
  rintro e w1 ⟨rfl, hrb, rfl⟩
  clear C1 C2
  have HA := Lib.hid hra
  have HB := Lib.hid hrb
  clear hra hrb
  have hp : i % N < N := Nat.mod_lt _ (by omega)
  have d1 : (0 : Int) ≤ (i : Int) % (N : Int) := by omega
  have d2 : (i : Int) % (N : Int) < (N : Int) := by omega
  have hlN : la.length = N := HA.out.1
  have hpl : i % N < la.length := by omega
  obtain ⟨x, hx⟩ : ∃ x, la[i % N] = x := ⟨_, rfl⟩
  have hxor : bits BinOp.xor IntKind.u8 (x.toNat : Int) (y : Int) = ((UInt8.ofNat (x.toNat ^^^ y)).toNat : Int) := by
    rw [u8_xor_nat _ _ x.toNat_lt (by omega), UInt8.toNat_ofNat', Nat.mod_eq_of_lt (Nat.xor_lt_two_pow (n := 8) x.toNat_lt (by omega))]
  obtain ⟨z, hz⟩ : ∃ z, UInt8.ofNat (x.toNat ^^^ y) = z := ⟨_, rfl⟩
  rw [hz] at hxor
  have HX := Lib.hid hx
  have HZ := Lib.hid hz
  have HL := Lib.hid hlN
  clear hx hz hlN
  go_wp2_with (at_builtin; refine wpList_append_rd _ rfl (.const (.slice none 0 0)) (.tmp 14) 23 rfl w.heap.size 5 i0 (.int .u8 0) Try.underlying23 hi0 hz0 hz1 hz2 rfl (.slice none 0 0) 0 [] rfl (World.ownsRow_nil _ _ _ _) _ _ _ _ _ rfl HA.out (by omega) (Nat.le_refl _) ?_; intro v1 w1 hown1 hg1; simp only [Nat.zero_add, List.nil_append] at hown1; obtain ⟨gx, cx, rfl, hgx1, hgx2⟩ := hown1.form (by omega); have hfz := hown1.frozenAt (i % N); have hcl := hown1.cellAt (i % N) (by omega); rw [map_u8v_getElem? _ _ hpl, HX.out] at hcl)
  have hbw := (Below.refl w.heap.size w).grown hg1 (Nat.le_refl _) (by simp [Value.ownBlock])
  have hbW : Below w.heap.size w (w1.setCell ⟨gx, i % N, none⟩ (.int .u8 (z.toNat : Int))) := hbw.setCell (p := ⟨gx, i % N, none⟩) hgx1 _
  have hoW := (hown1.stored (i % N) (u8v z)).1
  rw [← List.map_set] at hoW
  unfold u8v at hoW
  generalize w1.setCell _ _ = W at hbW hoW
  change W.ownsRow _ _ _ _ _ ((la.set (i % N) z).map u8v) at hoW
  generalize hlx : la.set (i % N) z = lx at hoW
  have HXL := Lib.hid (show lx.length = N by rw [← hlx, List.length_set, HL.out])
  have HT := Lib.hid (show (la == lx) = ((y : Int) == 0) by rw [← hlx]; exact changed_eq la _ hpl x z y hy HX.out HZ.out)
  have HF := Lib.hid (longer_ne la lx (by rw [HXL.out, HL.out]))
  have K0 := Keep.refl hoW
  clear hlx hoW hbw hown1 hfz hcl hg1 hxor HX HZ hpl hp d1 d2 hgx1 hgx2
  have HBW := Lib.hid hbW
  have hszW := hbW.size
  have RA : ∀ w', Keep W w.heap.size 5 (.slice ((some ⟨gx, 0, none⟩)) N cx) N (lx.map u8v) w' → Rd w' w.heap.size A N la := fun w' k => k.rd (HA.out.below HBW.out) (Nat.le_refl _) hszW
  have RB : ∀ w', Keep W w.heap.size 5 (.slice ((some ⟨gx, 0, none⟩)) N cx) N (lx.map u8v) w' → Rd w' w.heap.size A' N' lb := fun w' k => k.rd (HB.out.below HBW.out) (Nat.le_refl _) hszW
  have SZ : ∀ w', Keep W w.heap.size 5 (.slice ((some ⟨gx, 0, none⟩)) N cx) N (lx.map u8v) w' → w.heap.size ≤ w'.heap.size := fun w' k => Nat.le_trans hszW k.size
  have E1 := Lib.hid (show ∀ w', Keep W w.heap.size 5 (.slice ((some ⟨gx, 0, none⟩)) N cx) N (lx.map u8v) w' → Calls Try.prog 28 #[.slice A N cap, .slice A' N' cap'] w' fun e w'' => e = .returned (.bool (la == lb)) ∧ Below w'.heap.size w' w'' from
    fun w' k => equal_any w.heap.size _ _ _ _ _ _ _ _ (by omega) (by omega) w' (SZ w' k) (RA w' k) (RB w' k))
  have E2 := Lib.hid (show ∀ w', Keep W w.heap.size 5 (.slice ((some ⟨gx, 0, none⟩)) N cx) N (lx.map u8v) w' → Calls Try.prog 28 #[.slice A N cap, .slice ((some ⟨gx, 0, none⟩)) N cx] w' fun e w'' => e = .returned (.bool ((y : Int) == 0)) ∧ Below w'.heap.size w' w'' from
    fun w' k => by rw [← HT.out]; exact equal_any w'.heap.size _ _ _ _ _ _ _ _ (by omega) (by omega) w' (Nat.le_refl _) ((RA w' k).mono (SZ w' k)) (Rd.of_own k.2))
  have E3 := Lib.hid (show ∀ w' (A3 : Option Addr) (c3 : Nat), Keep W w.heap.size 5 (.slice ((some ⟨gx, 0, none⟩)) N cx) N (lx.map u8v) w' → Rd w' w'.heap.size A3 (N + 1) (lx ++ [0]) → Calls Try.prog 28 #[.slice A N cap, .slice A3 (N + 1) c3] w' fun e w'' => e = .returned (.bool false) ∧ Below w'.heap.size w' w'' from
    fun w' A3 c3 k r => by rw [← HF.out]; exact equal_any w'.heap.size _ _ _ _ _ _ _ _ (by omega) (by omega) w' (Nat.le_refl _) ((RA w' k).mono (SZ w' k)) r)
  have CA : ∀ w', Keep W w.heap.size 5 (.slice ((some ⟨gx, 0, none⟩)) N cx) N (lx.map u8v) w' → (convert 23 9 (.slice A N cap)).run Try.prog w' = .ok (.string ⟨la.toArray⟩) w' := fun w' k => run_string_of_rd (P := Try.prog) 23 9 5 cap Try.underlying23 Try.underlying5 Try.underlying9 (RA w' k)
  have CB : ∀ w', Keep W w.heap.size 5 (.slice ((some ⟨gx, 0, none⟩)) N cx) N (lx.map u8v) w' → (convert 23 9 (.slice A' N' cap')).run Try.prog w' = .ok (.string ⟨lb.toArray⟩) w' := fun w' k => run_string_of_rd (P := Try.prog) 23 9 5 cap' Try.underlying23 Try.underlying5 Try.underlying9 (RB w' k)
  have CX : ∀ w', Keep W w.heap.size 5 (.slice ((some ⟨gx, 0, none⟩)) N cx) N (lx.map u8v) w' → (convert 23 9 (.slice ((some ⟨gx, 0, none⟩)) N cx)).run Try.prog w' = .ok (.string ⟨lx.toArray⟩) w' := fun w' k => run_string_of_rd (P := Try.prog) 23 9 5 cx Try.underlying23 Try.underlying5 Try.underlying9 (Rd.of_own k.2)
  have hne : ((N : Int) == 0) = false := by rw [beq_eq_false_iff_ne]; omega
  have J1 := Lib.hid (show ∀ w' : World, Keep W w.heap.size 5 (.slice ((some ⟨gx, 0, none⟩)) N cx) N (lx.map u8v) (w'.alloc (.cells #[.slice A N cap, .slice none 0 0, .slice A' N' cap', .slice ((some ⟨gx, 0, none⟩)) N cx] 23)) → Calls Try.prog 29 #[.slice (some ⟨w'.heap.size, 0, none⟩) 4 4]
      (w'.alloc (.cells #[.slice A N cap, .slice none 0 0, .slice A' N' cap', .slice ((some ⟨gx, 0, none⟩)) N cx] 23)) fun e w'' => ∃ A5 n5 c5, e = .returned (.slice A5 n5 c5) ∧ Rd w'' w''.heap.size A5 n5 (la ++ lb ++ lx) ∧ Below (w'.alloc (.cells #[.slice A N cap, .slice none 0 0, .slice A' N' cap', .slice ((some ⟨gx, 0, none⟩)) N cx] 23)).heap.size (w'.alloc (.cells #[.slice A N cap, .slice none 0 0, .slice A' N' cap', .slice ((some ⟨gx, 0, none⟩)) N cx] 23)) w'' from
    fun w' k => by
      obtain ⟨ps, hps⟩ : ∃ ps : List Part, ps = [⟨A, N, cap, la⟩, ⟨none, 0, 0, []⟩, ⟨A', N', cap', lb⟩, ⟨(some ⟨gx, 0, none⟩), N, cx, lx⟩] := ⟨_, rfl⟩
      have hfl : flat ps 4 = la ++ lb ++ lx := by rw [hps]; simp [flat]
      have hlen : ps.length = 4 := by rw [hps]; rfl
      have h1 := HA.out.1
      have h2 := HB.out.1
      have h3 := HXL.out
      have h := join_any (w'.heap.size + 1) 4 (some ⟨w'.heap.size, 0, none⟩) ps (by omega) (by rw [hlen, hfl]; simp; omega) (w'.alloc (.cells #[.slice A N cap, .slice none 0 0, .slice A' N' cap', .slice ((some ⟨gx, 0, none⟩)) N cx] 23)) (by simp) (by
        intro _
        refine ⟨w'.heap.size, rfl, by omega, fun j hj => ?_⟩
        have hb := Blk.new w' 23 [.slice A N cap, .slice none 0 0, .slice A' N' cap', .slice ((some ⟨gx, 0, none⟩)) N cx]
        subst hps
        have hj4 : j < 4 := hj
        obtain rfl | rfl | rfl | rfl : j = 0 ∨ j = 1 ∨ j = 2 ∨ j = 3 := by omega
        · exact ⟨hb.cell 0, (RA _ k).mono (by have := SZ _ k; simpa using this)⟩
        · exact ⟨hb.cell 1, Rd.nil _ _ _⟩
        · exact ⟨hb.cell 2, (RB _ k).mono (by have := SZ _ k; simpa using this)⟩
        · exact ⟨hb.cell 3, (Rd.of_own k.2).mono (by simp)⟩)
      rw [hlen, hfl] at h
      exact h.mono fun e w'' ⟨A5, c5, he, ho, hb⟩ => ⟨A5, _, c5, he, Rd.of_own ho, hb⟩)
  have J2 := Lib.hid (show ∀ w', Calls Try.prog 29 #[.slice none 0 0] w' fun e w'' => ∃ A6 c6, e = .returned (.slice A6 0 c6) ∧ Below w'.heap.size w' w'' from
    fun w' => (join_any 0 0 none [] (by simp) (by simp [flat]) w' (by omega) (fun h => by simp at h)).mono fun e w'' ⟨A6, c6, he, _, hb⟩ => ⟨A6, c6, he, hb⟩)
  have hl1 := HA.out.1
  have hl2 := HB.out.1
  have had1 : ∀ w' : World, (Op.stringOp .add ⟨la.toArray⟩ ⟨lb.toArray⟩).run Try.prog w' = .ok (.string ⟨(la ++ lb).toArray⟩) w' := fun w' => run_string_add_lists w' la lb (by omega) (by omega)
  have had2 : ∀ w' : World, (Op.stringOp .add ⟨(la ++ lb).toArray⟩ ⟨lx.toArray⟩).run Try.prog w' = .ok (.string ⟨(la ++ lb ++ lx).toArray⟩) w' := fun w' => run_string_add_lists w' (la ++ lb) lx (by simp; omega) (by have := HXL.out; omega)
  clear hl1 hl2 hbW hszW
  refine wp_region_held_drew (S := fun w' => Keep W w.heap.size 5 (.slice (some ⟨gx, 0, none⟩) N cx) N (lx.map u8v) w') (by kernel_rfl) (K0.drew) (fun hHeld => ?_)
  refine take_first (v := ?_) 0 rfl (by kernel_rfl) (by kernel_rfl) (by kernel_rfl) (fun _ _ _ h => h) (Or.inl ⟨by rfl, ?_⟩) (by assumption) ?_
  rotate_left
  · (intro w hSw; (try dsimp only at hSw); go_simp; try with_reducible rfl)
  (try simp only [Act.put, List.setIfInBounds_toArray, List.set_cons_zero, List.set_cons_succ])
  refine take_first (v := ?_) 1 rfl (by kernel_rfl) (by kernel_rfl) (by kernel_rfl) (fun _ _ _ h => h) (Or.inl ⟨by rfl, ?_⟩) (by assumption) ?_
  rotate_left
  · (intro w hSw; (try dsimp only at hSw); go_simp; try with_reducible rfl)
  (try simp only [Act.put, List.setIfInBounds_toArray, List.set_cons_zero, List.set_cons_succ])
  refine take_first (v := ?_) 3 rfl (by kernel_rfl) (by kernel_rfl) (by kernel_rfl) (fun _ _ _ h => h) (Or.inl ⟨by rfl, ?_⟩) (by assumption) ?_
  rotate_left
  · (intro w hSw; (try dsimp only at hSw); go_simp; try with_reducible rfl)
  (try simp only [Act.put, List.setIfInBounds_toArray, List.set_cons_zero, List.set_cons_succ])
  refine take_first (v := ?_) 4 rfl (by kernel_rfl) (by kernel_rfl) (by kernel_rfl) (fun _ _ _ h => h) (Or.inl ⟨by rfl, ?_⟩) (by assumption) ?_
  rotate_left
  · (intro w hSw; (try dsimp only at hSw); go_simp; try with_reducible rfl)
  (try simp only [Act.put, List.setIfInBounds_toArray, List.set_cons_zero, List.set_cons_succ])
  refine take_first (v := ?_) 5 rfl (by kernel_rfl) (by kernel_rfl) (by kernel_rfl) (fun _ _ _ h => h) (Or.inl ⟨by rfl, ?_⟩) (by assumption) ?_
  rotate_left
  · (intro w hSw; (try dsimp only at hSw); go_simp; try with_reducible rfl)
  (try simp only [Act.put, List.setIfInBounds_toArray, List.set_cons_zero, List.set_cons_succ])
  refine take_first (v := ?_) 6 rfl (by kernel_rfl) (by kernel_rfl) (by kernel_rfl) (fun _ _ _ h => h) (Or.inl ⟨by rfl, ?_⟩) (by assumption) ?_
  rotate_left
  · (intro w hSw; (try dsimp only at hSw); go_simp; try with_reducible rfl)
  (try simp only [Act.put, List.setIfInBounds_toArray, List.set_cons_zero, List.set_cons_succ])
  refine take_first (v := ?_) 7 rfl (by kernel_rfl) (by kernel_rfl) (by kernel_rfl) (fun _ _ _ h => h) (Or.inl ⟨by rfl, ?_⟩) (by assumption) ?_
  rotate_left
  · (intro w hSw; (try dsimp only at hSw); go_simp; try with_reducible rfl)
  (try simp only [Act.put, List.setIfInBounds_toArray, List.set_cons_zero, List.set_cons_succ])
  refine step_one 2 rfl (by kernel_rfl) (fun K hK => ?_)
  go_simp
  refine (E1.out _ hHeld).mono ?_
  rintro e wa ⟨rfl, hb1⟩
  go_wp2_with fail
  refine hK.out _ _ (hHeld.below hb1) (fun hHeld => ?_)
  clear hK K
  (try simp only [Act.put, List.setIfInBounds_toArray, List.set_cons_zero, List.set_cons_succ])
  refine take_first (v := ?_) 8 rfl (by kernel_rfl) (by kernel_rfl) (by kernel_rfl) (fun _ _ _ h => h) (Or.inl ⟨by rfl, ?_⟩) (by assumption) ?_
  rotate_left
  · (intro w hSw; (try dsimp only at hSw); go_simp; try with_reducible rfl)
  (try simp only [Act.put, List.setIfInBounds_toArray, List.set_cons_zero, List.set_cons_succ])
  refine take_first (v := ?_) 9 rfl (by kernel_rfl) (by kernel_rfl) (by kernel_rfl) (fun _ _ _ h => h) (Or.inl ⟨by rfl, ?_⟩) (by assumption) ?_
  rotate_left
  · (intro w hSw; (try dsimp only at hSw); go_simp; try with_reducible rfl)
  (try simp only [Act.put, List.setIfInBounds_toArray, List.set_cons_zero, List.set_cons_succ])
  refine take_first (v := ?_) 10 rfl (by kernel_rfl) (by kernel_rfl) (by kernel_rfl) (fun _ _ _ h => h) (Or.inl ⟨by rfl, ?_⟩) (by assumption) ?_
  rotate_left
  · (intro w hSw; (try dsimp only at hSw); go_simp; try with_reducible rfl)
  (try simp only [Act.put, List.setIfInBounds_toArray, List.set_cons_zero, List.set_cons_succ])
  refine take_first (v := ?_) 11 rfl (by kernel_rfl) (by kernel_rfl) (by kernel_rfl) (fun _ _ _ h => h) (Or.inl ⟨by rfl, ?_⟩) (by assumption) ?_
  rotate_left
  · (intro w hSw; (try dsimp only at hSw); go_simp; try with_reducible rfl)
  (try simp only [Act.put, List.setIfInBounds_toArray, List.set_cons_zero, List.set_cons_succ])
  refine take_first (v := ?_) 13 rfl (by kernel_rfl) (by kernel_rfl) (by kernel_rfl) (fun _ _ _ h => h) (Or.inl ⟨by rfl, ?_⟩) (by assumption) ?_
  rotate_left
  · (intro w hSw; (try dsimp only at hSw); go_simp; try with_reducible rfl)
  (try simp only [Act.put, List.setIfInBounds_toArray, List.set_cons_zero, List.set_cons_succ])
  refine take_first (v := ?_) 14 rfl (by kernel_rfl) (by kernel_rfl) (by kernel_rfl) (fun _ _ _ h => h) (Or.inl ⟨by rfl, ?_⟩) (by assumption) ?_
  rotate_left
  · (intro w hSw; (try dsimp only at hSw); go_simp; try with_reducible rfl)
  (try simp only [Act.put, List.setIfInBounds_toArray, List.set_cons_zero, List.set_cons_succ])
  refine take_first (v := ?_) 15 rfl (by kernel_rfl) (by kernel_rfl) (by kernel_rfl) (fun _ _ _ h => h) (Or.inl ⟨by rfl, ?_⟩) (by assumption) ?_
  rotate_left
  · (intro w hSw; (try dsimp only at hSw); go_simp; try with_reducible rfl)
  (try simp only [Act.put, List.setIfInBounds_toArray, List.set_cons_zero, List.set_cons_succ])
  refine step_one 12 rfl (by kernel_rfl) (fun K hK => ?_)
  go_simp
  refine (E2.out _ hHeld).mono ?_
  rintro e wb ⟨rfl, hb2⟩
  go_wp2_with fail
  refine hK.out _ _ (hHeld.below hb2) (fun hHeld => ?_)
  clear hK K
  (try simp only [Act.put, List.setIfInBounds_toArray, List.set_cons_zero, List.set_cons_succ])
  refine take_first (v := ?_) 16 rfl (by kernel_rfl) (by kernel_rfl) (by kernel_rfl) (fun _ _ _ h => h) (Or.inl ⟨by rfl, ?_⟩) (by assumption) ?_
  rotate_left
  · (intro w hSw; (try dsimp only at hSw); go_simp; try with_reducible rfl)
  (try simp only [Act.put, List.setIfInBounds_toArray, List.set_cons_zero, List.set_cons_succ])
  refine take_first (v := ?_) 17 rfl (by kernel_rfl) (by kernel_rfl) (by kernel_rfl) (fun _ _ _ h => h) (Or.inl ⟨by rfl, ?_⟩) (by assumption) ?_
  rotate_left
  · (intro w hSw; (try dsimp only at hSw); go_simp; try with_reducible rfl)
  (try simp only [Act.put, List.setIfInBounds_toArray, List.set_cons_zero, List.set_cons_succ])
  refine take_first (v := ?_) 18 rfl (by kernel_rfl) (by kernel_rfl) (by kernel_rfl) (fun _ _ _ h => h) (Or.inl ⟨by rfl, ?_⟩) (by assumption) ?_
  rotate_left
  · (intro w hSw; (try dsimp only at hSw); go_simp; try with_reducible rfl)
  (try simp only [Act.put, List.setIfInBounds_toArray, List.set_cons_zero, List.set_cons_succ])
  refine take_first (v := ?_) 19 rfl (by kernel_rfl) (by kernel_rfl) (by kernel_rfl) (fun _ _ _ h => h) (Or.inl ⟨by rfl, ?_⟩) (by assumption) ?_
  rotate_left
  · (intro w hSw; (try dsimp only at hSw); go_simp; try with_reducible rfl)
  (try simp only [Act.put, List.setIfInBounds_toArray, List.set_cons_zero, List.set_cons_succ])
  refine take_first (v := ?_) 20 rfl (by kernel_rfl) (by kernel_rfl) (by kernel_rfl) (fun _ _ _ h => h) (Or.inl ⟨by rfl, ?_⟩) (by assumption) ?_
  rotate_left
  · (intro w hSw; (try dsimp only at hSw); go_simp; try with_reducible rfl)
  (try simp only [Act.put, List.setIfInBounds_toArray, List.set_cons_zero, List.set_cons_succ])
  refine take_first (v := ?_) 21 rfl (by kernel_rfl) (by kernel_rfl) (by kernel_rfl) (fun _ _ _ h => h) (Or.inl ⟨by rfl, ?_⟩) (by assumption) ?_
  rotate_left
  · (intro w hSw; (try dsimp only at hSw); go_simp; try with_reducible rfl)
  (try simp only [Act.put, List.setIfInBounds_toArray, List.set_cons_zero, List.set_cons_succ])
  refine take_first (v := ?_) 22 rfl (by kernel_rfl) (by kernel_rfl) (by kernel_rfl) (fun _ _ _ h => h) (Or.inl ⟨by rfl, ?_⟩) (by assumption) ?_
  rotate_left
  · (intro w hSw; (try dsimp only at hSw); go_simp; try with_reducible rfl)
  (try simp only [Act.put, List.setIfInBounds_toArray, List.set_cons_zero, List.set_cons_succ])
  refine take_first (v := ?_) 23 rfl (by kernel_rfl) (by kernel_rfl) (by kernel_rfl) (fun _ _ _ h => h) (Or.inl ⟨by rfl, ?_⟩) (by assumption) ?_
  rotate_left
  · (intro w hSw; (try dsimp only at hSw); go_simp; try with_reducible rfl)
  (try simp only [Act.put, List.setIfInBounds_toArray, List.set_cons_zero, List.set_cons_succ])
  refine take_first (v := ?_) 24 rfl (by kernel_rfl) (by kernel_rfl) (by kernel_rfl) (fun _ _ _ h => h) (Or.inl ⟨by rfl, ?_⟩) (by assumption) ?_
  rotate_left
  · (intro w hSw; (try dsimp only at hSw); go_simp; try with_reducible rfl)
  (try simp only [Act.put, List.setIfInBounds_toArray, List.set_cons_zero, List.set_cons_succ])
  refine step_one 25 rfl (by kernel_rfl) (fun K hK => ?_)
  go_simp
  refine hK.out _ _ (hHeld.alloc _) (fun hHeld => ?_)
  clear hK K
  (try simp only [Act.put, List.setIfInBounds_toArray, List.set_cons_zero, List.set_cons_succ])
  refine step_one 26 rfl (by kernel_rfl) (fun K hK => ?_)
  refine step_append_keeps _ (.tmp 54) (.tmp 55) 23 (by rfl) w.heap.size 5 i0 (.int .u8 0) Try.underlying23 hi0 hz0 hz1 hz2 rfl (.slice (some ⟨gx, 0, none⟩) N cx) N (lx.map u8v) (by rfl) hHeld.own ⟨wb.heap.size, 0, none⟩ 1 1 [.int .u8 0] (by rfl) rfl (cell_one_new _ _ _) (one_u8 0) (by omega) (SZ _ hHeld) (by rfl) ?_
  intro v3 w3 ho3 hg3 ho4
  obtain ⟨A3, c3, rfl, _⟩ := own_slice ho3
  refine hK.out _ _ (hHeld.app hg3 ho4) (fun hHeld => ?_)
  clear hK K
  (try simp only [Act.put, List.setIfInBounds_toArray, List.set_cons_zero, List.set_cons_succ])
  refine step_one 27 rfl (by kernel_rfl) (fun K hK => ?_)
  go_simp
  refine (E3.out _ _ _ hHeld (Rd.of_own (l := lx ++ [0]) (by rw [List.map_append]; exact ho3))).mono ?_
  rintro e wc ⟨rfl, hb3⟩
  go_wp2_with fail
  refine hK.out _ _ (hHeld.below hb3) (fun hHeld => ?_)
  clear hK K
  (try simp only [Act.put, List.setIfInBounds_toArray, List.set_cons_zero, List.set_cons_succ])
  refine take_first (v := ?_) 28 rfl (by kernel_rfl) (by kernel_rfl) (by kernel_rfl) (fun _ _ _ h => h) (Or.inl ⟨by rfl, ?_⟩) (by assumption) ?_
  rotate_left
  · (intro w hSw; (try dsimp only at hSw); go_simp; try with_reducible rfl)
  (try simp only [Act.put, List.setIfInBounds_toArray, List.set_cons_zero, List.set_cons_succ])
  refine take_first (v := ?_) 29 rfl (by kernel_rfl) (by kernel_rfl) (by kernel_rfl) (fun _ _ _ h => h) (Or.inl ⟨by rfl, ?_⟩) (by assumption) ?_
  rotate_left
  · (intro w hSw; (try dsimp only at hSw); go_simp; try with_reducible rfl)
  (try simp only [Act.put, List.setIfInBounds_toArray, List.set_cons_zero, List.set_cons_succ])
  refine take_first (v := ?_) 30 rfl (by kernel_rfl) (by kernel_rfl) (by kernel_rfl) (fun _ _ _ h => h) (Or.inl ⟨by rfl, ?_⟩) (by assumption) ?_
  rotate_left
  · (intro w hSw; (try dsimp only at hSw); go_simp; try with_reducible rfl)
  (try simp only [Act.put, List.setIfInBounds_toArray, List.set_cons_zero, List.set_cons_succ])
  refine take_first (v := ?_) 31 rfl (by kernel_rfl) (by kernel_rfl) (by kernel_rfl) (fun _ _ _ h => h) (Or.inl ⟨by rfl, ?_⟩) (by assumption) ?_
  rotate_left
  · (intro w hSw; (try dsimp only at hSw); go_simp; try with_reducible rfl)
  (try simp only [Act.put, List.setIfInBounds_toArray, List.set_cons_zero, List.set_cons_succ])
  refine take_first (v := ?_) 32 rfl (by kernel_rfl) (by kernel_rfl) (by kernel_rfl) (fun _ _ _ h => h) (Or.inl ⟨by rfl, ?_⟩) (by assumption) ?_
  rotate_left
  · (intro w hSw; (try dsimp only at hSw); go_simp; try with_reducible rfl)
  (try simp only [Act.put, List.setIfInBounds_toArray, List.set_cons_zero, List.set_cons_succ])
  refine take_first (v := ?_) 33 rfl (by kernel_rfl) (by kernel_rfl) (by kernel_rfl) (fun _ _ _ h => h) (Or.inl ⟨by rfl, ?_⟩) (by assumption) ?_
  rotate_left
  · (intro w hSw; (try dsimp only at hSw); go_simp; try with_reducible rfl)
  (try simp only [Act.put, List.setIfInBounds_toArray, List.set_cons_zero, List.set_cons_succ])
  refine take_first (v := ?_) 37 rfl (by kernel_rfl) (by kernel_rfl) (by kernel_rfl) (fun _ _ _ h => h) (Or.inl ⟨by rfl, ?_⟩) (by assumption) ?_
  rotate_left
  · (intro w hSw; (try dsimp only at hSw); go_simp; try with_reducible rfl)
  (try simp only [Act.put, List.setIfInBounds_toArray, List.set_cons_zero, List.set_cons_succ])
  refine take_first (v := ?_) 38 rfl (by kernel_rfl) (by kernel_rfl) (by kernel_rfl) (fun _ _ _ h => h) (Or.inl ⟨by rfl, ?_⟩) (by assumption) ?_
  rotate_left
  · (intro w hSw; (try dsimp only at hSw); go_simp; try with_reducible rfl)
  (try simp only [Act.put, List.setIfInBounds_toArray, List.set_cons_zero, List.set_cons_succ])
  refine take_first (v := ?_) 39 rfl (by kernel_rfl) (by kernel_rfl) (by kernel_rfl) (fun _ _ _ h => h) (Or.inl ⟨by rfl, ?_⟩) (by assumption) ?_
  rotate_left
  · (intro w hSw; (try dsimp only at hSw); go_simp; try with_reducible rfl)
  (try simp only [Act.put, List.setIfInBounds_toArray, List.set_cons_zero, List.set_cons_succ])
  refine take_first (v := ?_) 40 rfl (by kernel_rfl) (by kernel_rfl) (by kernel_rfl) (fun _ _ _ h => h) (Or.inl ⟨by rfl, ?_⟩) (by assumption) ?_
  rotate_left
  · (intro w hSw; (try dsimp only at hSw); go_simp; try with_reducible rfl)
  (try simp only [Act.put, List.setIfInBounds_toArray, List.set_cons_zero, List.set_cons_succ])
  refine take_first (v := ?_) 41 rfl (by kernel_rfl) (by kernel_rfl) (by kernel_rfl) (fun _ _ _ h => h) (Or.inl ⟨by rfl, ?_⟩) (by assumption) ?_
  rotate_left
  · (intro w hSw; (try dsimp only at hSw); go_simp; try with_reducible rfl)
  (try simp only [Act.put, List.setIfInBounds_toArray, List.set_cons_zero, List.set_cons_succ])
  refine take_first (v := ?_) 42 rfl (by kernel_rfl) (by kernel_rfl) (by kernel_rfl) (fun _ _ _ h => h) (Or.inl ⟨by rfl, ?_⟩) (by assumption) ?_
  rotate_left
  · (intro w hSw; (try dsimp only at hSw); go_simp; try with_reducible rfl)
  (try simp only [Act.put, List.setIfInBounds_toArray, List.set_cons_zero, List.set_cons_succ])
  refine take_first (v := ?_) 43 rfl (by kernel_rfl) (by kernel_rfl) (by kernel_rfl) (fun _ _ _ h => h) (Or.inl ⟨by rfl, ?_⟩) (by assumption) ?_
  rotate_left
  · (intro w hSw; (try dsimp only at hSw); go_simp; try with_reducible rfl)
  (try simp only [Act.put, List.setIfInBounds_toArray, List.set_cons_zero, List.set_cons_succ])
  refine take_first (v := ?_) 44 rfl (by kernel_rfl) (by kernel_rfl) (by kernel_rfl) (fun _ _ _ h => h) (Or.inl ⟨by rfl, ?_⟩) (by assumption) ?_
  rotate_left
  · (intro w hSw; (try dsimp only at hSw); go_simp; try with_reducible rfl)
  (try simp only [Act.put, List.setIfInBounds_toArray, List.set_cons_zero, List.set_cons_succ])
  refine step_one 34 rfl (by kernel_rfl) (fun K hK => ?_)
  go_simp
  refine hK.out _ _ (hHeld.alloc _) (fun hHeld => ?_)
  clear hK K
  (try simp only [Act.put, List.setIfInBounds_toArray, List.set_cons_zero, List.set_cons_succ])
  refine step_one 35 rfl (by kernel_rfl) (fun K hK => ?_)
  go_simp
  refine (J1.out _ hHeld).mono ?_
  rintro e wd ⟨A5, n5, c5, rfl, hr5, hb5⟩
  have c5x := later_str (Nat.le_refl _) hr5 c5
  go_wp2_with fail
  refine hK.out _ _ (hHeld.below hb5) (fun hHeld => ?_)
  clear hK K
  (try simp only [Act.put, List.setIfInBounds_toArray, List.set_cons_zero, List.set_cons_succ])
  replace hHeld := And.intro hHeld (Below.refl wd.heap.size wd)
  refine wpAnyH_stronger (T := fun w' => Keep W w.heap.size 5 (.slice (some ⟨gx, 0, none⟩) N cx) N (lx.map u8v) w' ∧ Below wd.heap.size wd w') (fun _ h => h.1) _ _ _ _ ?_
  refine take_first (v := ?_) 36 rfl (by kernel_rfl) (by kernel_rfl) (by kernel_rfl) (fun _ _ _ h => h) (Or.inl ⟨by rfl, ?_⟩) (by assumption) ?_
  rotate_left
  · (intro w hSw; (try dsimp only at hSw); go_simp; try with_reducible rfl)
  (try simp only [Act.put, List.setIfInBounds_toArray, List.set_cons_zero, List.set_cons_succ])
  refine take_first (v := ?_) 45 rfl (by kernel_rfl) (by kernel_rfl) (by kernel_rfl) (fun _ _ _ h => h) (Or.inl ⟨by rfl, ?_⟩) (by assumption) ?_
  rotate_left
  · (intro w hSw; (try dsimp only at hSw); go_simp; try with_reducible rfl)
  (try simp only [Act.put, List.setIfInBounds_toArray, List.set_cons_zero, List.set_cons_succ])
  refine take_first (v := ?_) 46 rfl (by kernel_rfl) (by kernel_rfl) (by kernel_rfl) (fun _ _ _ h => h) (Or.inl ⟨by rfl, ?_⟩) (by assumption) ?_
  rotate_left
  · (intro w hSw; (try dsimp only at hSw); go_simp; try with_reducible rfl)
  (try simp only [Act.put, List.setIfInBounds_toArray, List.set_cons_zero, List.set_cons_succ])
  refine take_first (v := ?_) 47 rfl (by kernel_rfl) (by kernel_rfl) (by kernel_rfl) (fun _ _ _ h => h) (Or.inl ⟨by rfl, ?_⟩) (by assumption) ?_
  rotate_left
  · (intro w hSw; (try dsimp only at hSw); go_simp; try with_reducible rfl)
  (try simp only [Act.put, List.setIfInBounds_toArray, List.set_cons_zero, List.set_cons_succ])
  refine step_one 48 rfl (by kernel_rfl) (fun K hK => ?_)
  go_simp
  refine (J2.out _).mono ?_
  rintro e we ⟨A6, c6, rfl, hb6⟩
  go_wp2_with fail
  refine hK.out _ _ (⟨hHeld.1.below hb6, hHeld.2.trans (hb6.mono hHeld.2.size)⟩) (fun hHeld => ?_)
  clear hK K
  (try simp only [Act.put, List.setIfInBounds_toArray, List.set_cons_zero, List.set_cons_succ])
  refine take_first (v := ?_) 49 rfl (by kernel_rfl) (by kernel_rfl) (by kernel_rfl) (fun _ _ _ h => h) (Or.inl ⟨by rfl, ?_⟩) (by assumption) ?_
  rotate_left
  · (intro w hSw; (try dsimp only at hSw); go_simp; try with_reducible rfl)
  (try simp only [Act.put, List.setIfInBounds_toArray, List.set_cons_zero, List.set_cons_succ])
  refine take_first (v := ?_) 50 rfl (by kernel_rfl) (by kernel_rfl) (by kernel_rfl) (fun _ _ _ h => h) (Or.inl ⟨by rfl, ?_⟩) (by assumption) ?_
  rotate_left
  · (intro w hSw; (try dsimp only at hSw); go_simp; try with_reducible rfl)
  (try simp only [Act.put, List.setIfInBounds_toArray, List.set_cons_zero, List.set_cons_succ])
  refine take_first (v := ?_) 51 rfl (by kernel_rfl) (by kernel_rfl) (by kernel_rfl) (fun _ _ _ h => h) (Or.inl ⟨by rfl, ?_⟩) (by assumption) ?_
  rotate_left
  · (intro w hSw; (try dsimp only at hSw); go_simp; try with_reducible rfl)
  (try simp only [Act.put, List.setIfInBounds_toArray, List.set_cons_zero, List.set_cons_succ])
  refine take_first (v := ?_) 52 rfl (by kernel_rfl) (by kernel_rfl) (by kernel_rfl) (fun _ _ _ h => h) (Or.inl ⟨by rfl, ?_⟩) (by assumption) ?_
  rotate_left
  · (intro w hSw; (try dsimp only at hSw); go_simp; try with_reducible rfl)
  (try simp only [Act.put, List.setIfInBounds_toArray, List.set_cons_zero, List.set_cons_succ])
  refine step_one 53 rfl (by kernel_rfl) (fun K hK => ?_)
  go_simp
  refine (begun_any _).mono ?_
  rintro e wf ⟨rfl, hb7⟩
  go_wp2_with fail
  refine hK.out _ _ (⟨hHeld.1.below hb7, hHeld.2.trans (hb7.mono hHeld.2.size)⟩) (fun hHeld => ?_)
  clear hK K
  (try simp only [Act.put, List.setIfInBounds_toArray, List.set_cons_zero, List.set_cons_succ])
  refine take_first (v := ?_) 54 rfl (by kernel_rfl) (by kernel_rfl) (by kernel_rfl) (fun _ _ _ h => h) (Or.inl ⟨by rfl, ?_⟩) (by assumption) ?_
  rotate_left
  · (intro w hSw; (try dsimp only at hSw); go_simp; try with_reducible rfl)
  (try simp only [Act.put, List.setIfInBounds_toArray, List.set_cons_zero, List.set_cons_succ])
  refine take_first (v := ?_) 55 rfl (by kernel_rfl) (by kernel_rfl) (by kernel_rfl) (fun _ _ _ h => h) (Or.inl ⟨by rfl, ?_⟩) (by assumption) ?_
  rotate_left
  · (intro w hSw; (try dsimp only at hSw); go_simp; try with_reducible rfl)
  (try simp only [Act.put, List.setIfInBounds_toArray, List.set_cons_zero, List.set_cons_succ])
  refine wpAnyH_done (by kernel_rfl) ?_ _
  have HEND := Lib.hid (hHeld.1.end_ HBW.out (Nat.le_refl _))
  clear hHeld RA RB SZ CA CB CX had1 had2
  go_wp2
  go_ret
  exact ⟨rfl, HEND.out⟩

theorem equalLaw_walk (w : World) (A : Option Addr) (len cap : Nat) (l : List UInt8) (A' : Option Addr) (len' cap' : Nat) (l' : List UInt8) (i y : Nat) (hlc : len ≤ cap) (hcm : cap ≤ maxLen) (hr : Rd w w.heap.size A len l) (hlc' : len' ≤ cap') (hcm' : cap' ≤ maxLen) (hr' : Rd w w.heap.size A' len' l') (hi : i ≤ 255) (hy : y ≤ 255) :
    Calls Try.prog 7 #[.slice A len cap, .slice A' len' cap', .int .u8 i, .int .u8 y] w fun e w' => e = .returned (.bool true) ∧ Below w.heap.size w w' := by
  by_cases h0 : min len 60 = 0
  · exact equalLaw_nil w A len cap l A' len' cap' l' i y hlc hcm hr hlc' hcm' hr' hi hy h0
  · exact equalLaw_pos w A len cap l A' len' cap' l' i y hlc hcm hr hlc' hcm' hr' hi hy h0
end Go.Proofs.Ytdnmbabofkiiiaa
