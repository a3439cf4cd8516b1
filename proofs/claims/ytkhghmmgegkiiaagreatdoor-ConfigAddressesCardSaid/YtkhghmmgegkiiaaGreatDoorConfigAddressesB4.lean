/-
  The contract of the reference's six. The contract of the reference's ParseAddr. A row that was made is a block; bytes that were read stay. What a walk keeps of the memory that it has made, where the call changes one block of its caller's. The contracts of the choices that the statements are made of: Left, Next. The contracts of the choices that the statements are made of: Bytes, New, Cut. The contracts of the choices that the statements are made of: Masked, Addr, Prefix. The contract of the reference's ParsePrefix. The contract of the reference's last. A slice built of arrays of one size: its block holds them one behind the other. No statement is proved here.
-/
import Derived.Deep.DeepCutAuto
import Derived.Outline
import Derived.Test.YtkhghmmgegkiiaaGreatDoorConfigAddressesB3
namespace Go.Proofs.YtkhghmmgegkiiaaGreatDoor
open Go.RowKit

/-- the bytes of the first parts of a text -/
def sixIp (ls : List (List UInt8)) (j : Nat) : List UInt8 := ((ls.take j).flatMap fun s => [UInt8.ofNat (hexN s / 256), UInt8.ofNat (hexN s % 256)]) ++ List.replicate (16 - 2 * j) 0
theorem two_flat (ls : List (List UInt8)) : (ls.flatMap fun s => [UInt8.ofNat (hexN s / 256), UInt8.ofNat (hexN s % 256)]).length = 2 * ls.length := by
  induction ls with
  | nil => rfl
  | cons a r ih => rw [List.flatMap_cons, List.length_append, ih]; simp only [List.length_cons, List.length_nil]; omega
theorem sixIp_length (ls : List (List UInt8)) (j : Nat) (h : j ≤ ls.length) (h8 : j ≤ 8) : (sixIp ls j).length = 16 := by
  rw [sixIp, List.length_append, two_flat, List.length_take, List.length_replicate]; omega
theorem six_set (ls : List (List UInt8)) (j : Nat) (h : j < ls.length) (h8 : j < 8) : ((sixIp ls j).set (2 * j) (UInt8.ofNat (hexN (ls.getD j []) / 256))).set (2 * j + 1) (UInt8.ofNat (hexN (ls.getD j []) % 256)) = sixIp ls (j + 1) := by
  have hl : ((ls.take j).flatMap fun s => [UInt8.ofNat (hexN s / 256), UInt8.ofNat (hexN s % 256)]).length = 2 * j := by rw [two_flat, List.length_take]; omega
  rw [sixIp, List.set_append_right _ _ (by omega), hl, Nat.sub_self, List.set_append_right _ _ (by omega), hl, show 2 * j + 1 - 2 * j = 1 from by omega, show 16 - 2 * j = (14 - 2 * j) + 1 + 1 from by omega, List.replicate_succ, List.replicate_succ, List.set_cons_zero, List.set_cons_succ, List.set_cons_zero, sixIp, List.take_add_one, List.getElem?_eq_getElem h, Option.toList_some, List.flatMap_append, List.getD_eq_getElem?_getD, List.getElem?_eq_getElem h, show 16 - 2 * (j + 1) = 14 - 2 * j from by omega]
  simp
theorem hexN_take (l : List UInt8) (j : Nat) (h : j < l.length) : hexN (l.take (j + 1)) = 16 * hexN (l.take j) + hexVal (l.getD j 0) := by
  rw [List.take_add_one, List.getElem?_eq_getElem h, Option.toList_some, hexN_snoc, List.getD_eq_getElem?_getD, List.getElem?_eq_getElem h]
  rfl
theorem hexN_lt (l : List UInt8) (h : (l.all fun c => decide (hexVal c ≤ 15)) = true) : hexN l < 16 ^ l.length := by
  induction l using snoc_ind with
  | h0 => simp [hexN]
  | h1 l x ih =>
    rw [List.all_append, Bool.and_eq_true] at h
    have h1 := ih h.1
    have h2 : hexVal x ≤ 15 := by simpa using h.2
    rw [hexN_snoc, List.length_append, List.length_cons, List.length_nil, Nat.zero_add, Nat.pow_succ]
    omega
set_option maxRecDepth 100000 in
set_option maxHeartbeats 8000000 in
theorem refSix_any (ls : List (List UInt8)) (h8 : ls.length = 8) (hlen : ∀ s ∈ ls, s.length ≤ 100000) (g k : Nat) (w : World) (hg : g < w.heap.size) (hat : At w g 0 (ls.map strV)) :
    Calls Tryz.prog 79 #[.slice (some ⟨g, 0, none⟩) 8 k] w fun e w' => e = .returned (.tuple #[.agg (sixP ls).1.cells.toArray, .int .i64 ((sixP ls).2 : Int)]) ∧ Below w.heap.size w w' := by
  have HL := Lib.hid h8
  have HG := Lib.hid hg
  have HAT := Lib.hid hat
  have HLEN := Lib.hid hlen
  have HV := Lib.hid (show sixP ls = if ls.all hxsOk = true then (⟨true, ls.flatMap fun s => [UInt8.ofNat (hexN s / 256), UInt8.ofNat (hexN s % 256)]⟩, 0) else (addr0, 5) from rfl)
  have HU0 := Lib.hid (show (Tryz.prog.info? 25).map (·.size) = some addr0.cells.length from by kernel_rfl)
  have hbt : Tryz.prog.built 25 [(0, .bool true)] = some #[.bool true, .int .u8 0, .int .u8 0, .int .u8 0, .int .u8 0, .int .u8 0, .int .u8 0, .int .u8 0, .int .u8 0, .int .u8 0, .int .u8 0, .int .u8 0, .int .u8 0, .int .u8 0, .int .u8 0, .int .u8 0, .int .u8 0] := by kernel_rfl
  have HBT := Lib.hid hbt
  have HM := Lib.hid (show Mem w [blkE (w.heap.size + 1) 25 (AddrM.mk false (List.replicate 16 0)).cells, blkE w.heap.size 25 addr0.cells] ((w.alloc (.cells #[.bool false, .int .u8 0, .int .u8 0, .int .u8 0, .int .u8 0, .int .u8 0, .int .u8 0, .int .u8 0, .int .u8 0, .int .u8 0, .int .u8 0, .int .u8 0, .int .u8 0, .int .u8 0, .int .u8 0, .int .u8 0, .int .u8 0] 25)).alloc (.cells #[.bool false, .int .u8 0, .int .u8 0, .int .u8 0, .int .u8 0, .int .u8 0, .int .u8 0, .int .u8 0, .int .u8 0, .int .u8 0, .int .u8 0, .int .u8 0, .int .u8 0, .int .u8 0, .int .u8 0, .int .u8 0, .int .u8 0] 25)) from ((Mem.nil w).alloc rfl 25 #[.bool false, .int .u8 0, .int .u8 0, .int .u8 0, .int .u8 0, .int .u8 0, .int .u8 0, .int .u8 0, .int .u8 0, .int .u8 0, .int .u8 0, .int .u8 0, .int .u8 0, .int .u8 0, .int .u8 0, .int .u8 0, .int .u8 0] addr0.cells rfl).alloc (by simp) 25 #[.bool false, .int .u8 0, .int .u8 0, .int .u8 0, .int .u8 0, .int .u8 0, .int .u8 0, .int .u8 0, .int .u8 0, .int .u8 0, .int .u8 0, .int .u8 0, .int .u8 0, .int .u8 0, .int .u8 0, .int .u8 0, .int .u8 0] (AddrM.mk false (List.replicate 16 0)).cells rfl)
  clear h8 hg hat hlen hbt
  go_enter Tryz.func79, Tryz.ntmps79
  go_upto_region 2 with (first | (refine wpList_build_as rfl 25 [(0, .const (.bool true))] rfl #[.bool true, .int .u8 0, .int .u8 0, .int .u8 0, .int .u8 0, .int .u8 0, .int .u8 0, .int .u8 0, .int .u8 0, .int .u8 0, .int .u8 0, .int .u8 0, .int .u8 0, .int .u8 0, .int .u8 0, .int .u8 0, .int .u8 0] ?_ ?_; exact HBT.out) | (refine wpList_store_blk rfl 25 (.tmp 4) (.tmp 10) rfl (w.heap.size + 1) (AddrM.mk true (sixIp ls 0)).cells rfl (by rfl) 25 (AddrM.mk false (List.replicate 16 0)).cells (HM.out.blk 0 rfl) (addr_cellsOf _ rfl) (by rfl) (AddrM.one _) ?_; intro w1 hb1 hg1))
  replace HM := Lib.hid (show Mem w [blkE (w.heap.size + 1) 25 (AddrM.mk true (sixIp ls 0)).cells, blkE w.heap.size 25 addr0.cells] w1 from HM.out.put 0 rfl _ hg1 hb1)
  clear hb1 hg1
  (try simp only [Act.put])
  go_wp2_with fail
  go_loopw [13] (fun i wr => ∃ j : Nat, j ≤ 8 ∧ i = .int .i64 (j : Int) ∧ Hid ((ls.take j).all hxsOk = true) ∧ Mem w [blkE (w.heap.size + 1) 25 (AddrM.mk true (sixIp ls j)).cells, blkE w.heap.size 25 addr0.cells] wr) (fun i _ => 8 - (intOf i).toNat)
  case atStart => exact ⟨0, by omega, rfl, Lib.hid rfl, HM.out⟩
  case round =>
    obtain ⟨j, hj, rfl, hall, hM⟩ := hrel
    replace HM := Lib.hid hM
    clear hM
    by_cases hlt : j < 8
    · have hjl : j < ls.length := by have := HL.out; omega
      obtain ⟨s, hs⟩ : ∃ z, ls.getD j [] = z := ⟨_, rfl⟩
      have hsl : s.length ≤ 100000 := HLEN.out s (by rw [← hs, List.getD_eq_getElem?_getD, List.getElem?_eq_getElem hjl]; exact List.getElem_mem _)
      have HSET := Lib.hid (show ((sixIp ls j).set (2 * j) (UInt8.ofNat (hexN s / 256))).set (2 * j + 1) (UInt8.ofNat (hexN s % 256)) = sixIp ls (j + 1) from by rw [← hs]; exact six_set ls j hjl hlt)
      have HALL := Lib.hid (show (ls.take (j + 1)).all hxsOk = hxsOk s from by rw [all_take_ls hxsOk ls j hjl, hall.out, hs, Bool.true_and])
      have HNOT := Lib.hid (fun h : hxsOk s = false => all_not (p := hxsOk) hjl (by rw [hs]; exact h))
      obtain ⟨S, hS⟩ : ∃ S : ByteArray, ⟨s.toArray⟩ = S := ⟨_, rfl⟩
      have hcell : wr.cell? ⟨g, j, none⟩ = some (.string S) := by
        have h := HAT.out j (.string ⟨s.toArray⟩) (by rw [List.getElem?_map, List.getElem?_eq_getElem hjl, ← hs, List.getD_eq_getElem?_getD, List.getElem?_eq_getElem hjl]; rfl)
        rw [Nat.zero_add] at h
        rw [← hS]
        exact (HM.out.bel.cell (p := ⟨g, j, none⟩) HG.out).trans h
      have hsz : S.size = s.length := by rw [← hS]; exact text_size s
      have hat : ∀ i (h : i < S.size), S[i] = s.getD i 0 := by
        intro i h
        subst hS
        have hi : i < s.length := by rwa [text_size] at h
        rw [getD_lt hi]
        rfl
      have HAS := Lib.hid hat
      have HZ := Lib.hid hsz
      have hjj : (0 : Int) ≤ (j : Int) := by omega
      clear hs hS hat hsz hsl
      by_cases hb : S.size < 1
      · have HNO := Lib.hid (show ¬ ls.all hxsOk = true from by rw [HNOT.out (by rw [hxsOk, decide_eq_false (by have := HZ.out; omega)]; rfl)]; decide)
        go_wp2_with (first | (refine wpList_build_as rfl 25 [] rfl #[.bool false, .int .u8 0, .int .u8 0, .int .u8 0, .int .u8 0, .int .u8 0, .int .u8 0, .int .u8 0, .int .u8 0, .int .u8 0, .int .u8 0, .int .u8 0, .int .u8 0, .int .u8 0, .int .u8 0, .int .u8 0, .int .u8 0] ?_ ?_; kernel_rfl) | (refine wpList_store_blk rfl 25 (.tmp 2) (.tmp 26) rfl w.heap.size addr0.cells rfl (by rfl) 25 addr0.cells (HM.out.blk 1 rfl) HU0.out rfl (AddrM.one _) ?_; intro w9 hb9 hg9))
        exact bodyPost_ret (results_obj_tmp rfl _ _ w.heap.size 25 addr0.cells _ rfl hb9 Tryz.underlying25 rfl HU0.out) rfl ⟨by rw [HV.out, if_neg HNO.out]; rfl, (HM.out.put 1 rfl _ hg9 hb9).bel⟩
      by_cases hb2 : 4 < S.size
      · have HNO := Lib.hid (show ¬ ls.all hxsOk = true from by rw [HNOT.out (by rw [hxsOk, decide_eq_false (by have := HZ.out; omega)]; rfl)]; decide)
        go_wp2_with (first | (refine wpList_build_as rfl 25 [] rfl #[.bool false, .int .u8 0, .int .u8 0, .int .u8 0, .int .u8 0, .int .u8 0, .int .u8 0, .int .u8 0, .int .u8 0, .int .u8 0, .int .u8 0, .int .u8 0, .int .u8 0, .int .u8 0, .int .u8 0, .int .u8 0, .int .u8 0] ?_ ?_; kernel_rfl) | (refine wpList_store_blk rfl 25 (.tmp 2) (.tmp 26) rfl w.heap.size addr0.cells rfl (by rfl) 25 addr0.cells (HM.out.blk 1 rfl) HU0.out rfl (AddrM.one _) ?_; intro w9 hb9 hg9))
        exact bodyPost_ret (results_obj_tmp rfl _ _ w.heap.size 25 addr0.cells _ rfl hb9 Tryz.underlying25 rfl HU0.out) rfl ⟨by rw [HV.out, if_neg HNO.out]; rfl, (HM.out.put 1 rfl _ hg9 hb9).bel⟩
      go_wp2_with fail
      clear hcell
      go_loopw [8, 7] (fun kk nn wq => ∃ q : Nat, q ≤ S.size ∧ kk = .int .i64 (q : Int) ∧ nn = .int .i64 ((hexN (s.take q) : Nat) : Int) ∧ Hid (((s.take q).all fun c => decide (hexVal c ≤ 15)) = true) ∧ wq = wr) (fun kk _ _ => S.size - (intOf kk).toNat)
      case atStart => exact ⟨0, by omega, rfl, rfl, Lib.hid rfl, rfl⟩
      case round =>
        obtain ⟨q, hq, rfl, rfl, hqa, rfl⟩ := hrel
        by_cases hqlt : q < S.size
        · obtain ⟨c, hc⟩ : ∃ c, s.getD q 0 = c := ⟨_, rfl⟩
          have hI : ∀ h, S[(q : Int).toNat]'h = c := fun h => by rw [HAS.out, ← hc]; congr 1
          have hI' : ∀ h, S[q]'h = c := fun h => by rw [HAS.out, ← hc]
          have hql : q < s.length := by have := HZ.out; omega
          have hn16 : hexN (s.take q) < 4096 := by
            have h1 := hexN_lt _ hqa.out
            have : 16 ^ (s.take q).length ≤ 16 ^ 3 := Nat.pow_le_pow_right (by omega) (by rw [List.length_take]; omega)
            omega
          have HN := Lib.hid (show hexN (s.take (q + 1)) = 16 * hexN (s.take q) + hexVal c from by rw [hexN_take s q hql, hc])
          have HA := Lib.hid (show ((s.take (q + 1)).all fun c => decide (hexVal c ≤ 15)) = decide (hexVal c ≤ 15) from by rw [all_take _ s q hql, hqa.out, hc, Bool.true_and])
          have HDG := Lib.hid (fun W => digit_any c W)
          have HBAD := Lib.hid (fun h : ¬ hexVal c ≤ 15 => show hxsOk s = false from by
            rw [hxsOk, show (s.all fun c => decide (hexVal c ≤ 15)) = false from by
              cases ha : s.all fun c => decide (hexVal c ≤ 15) with
              | false => rfl
              | true =>
                have := List.all_eq_true.1 ha c (by rw [← hc, List.getD_eq_getElem?_getD, List.getElem?_eq_getElem hql]; exact List.getElem_mem _)
                exact absurd (of_decide_eq_true this) h, Bool.and_false])
          obtain ⟨m, hm⟩ : ∃ z, hexN (s.take q) = z := ⟨_, rfl⟩
          rw [hm] at HN hn16 ⊢
          obtain ⟨d, hd⟩ : ∃ z, hexVal c = z := ⟨_, rfl⟩
          rw [hd] at HN HA HDG HBAD
          have hcb := c.toNat_lt
          clear hc hm hd
          go_wp2_with fail
          refine (HDG.out _).mono ?_
          rintro e w5 ⟨rfl, rfl⟩
          by_cases hbad : 15 < d
          · have HNO := Lib.hid (show ¬ ls.all hxsOk = true from by rw [HNOT.out (HBAD.out (by omega))]; decide)
            go_wp2_with (first | (refine wpList_build_as rfl 25 [] rfl #[.bool false, .int .u8 0, .int .u8 0, .int .u8 0, .int .u8 0, .int .u8 0, .int .u8 0, .int .u8 0, .int .u8 0, .int .u8 0, .int .u8 0, .int .u8 0, .int .u8 0, .int .u8 0, .int .u8 0, .int .u8 0, .int .u8 0] ?_ ?_; kernel_rfl) | (refine wpList_store_blk rfl 25 (.tmp 2) (.tmp 39) rfl w.heap.size addr0.cells rfl (by rfl) 25 addr0.cells (HM.out.blk 1 rfl) HU0.out rfl (AddrM.one _) ?_; intro w9 hb9 hg9))
            exact bodyPost_ret (results_obj_tmp rfl _ _ w.heap.size 25 addr0.cells _ rfl hb9 Tryz.underlying25 rfl HU0.out) rfl ⟨by rw [HV.out, if_neg HNO.out]; rfl, (HM.out.put 1 rfl _ hg9 hb9).bel⟩
          · obtain ⟨z, hz⟩ : ∃ z, 16 * m + d = z := ⟨_, rfl⟩
            have w1 : IntKind.i64.wrap (16 * (m : Int)) = 16 * (m : Int) := IntWalk.i64_in _ (by omega)
            have w2 : 16 * (m : Int) + (d : Int) = (z : Int) := by omega
            have w3 : IntKind.i64.wrap (z : Int) = (z : Int) := IntWalk.i64_in _ (by omega)
            rw [hz] at HN
            have HD15 := Lib.hid (show decide (d ≤ 15) = true from decide_eq_true (by omega))
            clear hz
            go_wp2
            go_roundw
            case rel => exact ⟨q + 1, by omega, by go_num, by rw [HN.out], Lib.hid (HA.out.trans HD15.out), by first | rfl | trivial⟩
            case measure => simp [intOf]; omega
        · have HTK := Lib.hid (show s.take q = s from List.take_of_length_le (by have := HZ.out; omega))
          rw [HTK.out] at hqa ⊢
          have HOK := Lib.hid (show hxsOk s = true from by rw [hxsOk, hqa.out, decide_eq_true (by have := HZ.out; omega)]; rfl)
          have hN6 : hexN s < 65536 := by
            have h1 := hexN_lt _ hqa.out
            have : 16 ^ s.length ≤ 16 ^ 4 := Nat.pow_le_pow_right (by omega) (by have := HZ.out; omega)
            omega
          generalize hexN s = N at HSET hN6 ⊢
          obtain ⟨x, hx⟩ : ∃ z, UInt8.ofNat (N / 256) = z := ⟨_, rfl⟩
          obtain ⟨y, hy⟩ : ∃ z, UInt8.ofNat (N % 256) = z := ⟨_, rfl⟩
          have hxn : IntKind.u8.wrap ((N : Int) / 256) = (x.toNat : Int) := by rw [← hx, UInt8.toNat_ofNat', IntKind.wrap_u8']; omega
          have hyn : IntKind.u8.wrap (N : Int) = (y.toNat : Int) := by rw [← hy, UInt8.toNat_ofNat', IntKind.wrap_u8']; omega
          rw [hx, hy] at HSET
          obtain ⟨p, hp⟩ : ∃ z, 2 * j = z := ⟨_, rfl⟩
          obtain ⟨p1, hp1⟩ : ∃ z, p + 1 = z := ⟨_, rfl⟩
          have hp16 : p + 1 < 16 := by omega
          have hwp : IntKind.i64.wrap (2 * (j : Int)) = (p : Int) := by rw [IntWalk.i64_in _ (by omega)]; omega
          have hwp1 : IntKind.i64.wrap ((p : Int) + 1) = (p1 : Int) := by rw [IntWalk.i64_in _ (by omega)]; omega
          rw [hp, hp1] at HSET
          have q1 : (p : Int) < 16 := by omega
          have q2 : (p1 : Int) < 16 := by omega
          have HIL := Lib.hid (show (AddrM.mk true (sixIp ls j)).ok from sixIp_length ls j (by omega) (by omega))
          have fx := (HM.out.blk 0 rfl).cell (1 + p)
          rw [AddrM.ip_cell _ HIL.out p (by omega)] at fx
          have zx := (HM.out.blk 0 rfl).frozen (1 + p)
          have hm := HM.out.setCell 0 rfl (1 + p) (.int .u8 (x.toNat : Int))
          have hmv : (AddrM.mk true (sixIp ls j)).cells.set (1 + p) (.int .u8 (x.toNat : Int)) = (AddrM.mk true ((sixIp ls j).set p x)).cells := AddrM.set_cell _ p x
          rw [hmv] at hm
          have HM2 := Lib.hid hm
          have fx2 := (HM2.out.blk 0 rfl).cell (1 + p1)
          rw [AddrM.ip_cell _ (show (AddrM.mk true ((sixIp ls j).set p x)).ok from (List.length_set).trans HIL.out) p1 (by omega)] at fx2
          have zx2 := (HM2.out.blk 0 rfl).frozen (1 + p1)
          clear hx hy hp hp1 hm hmv
          go_wp2_with fail
          have hm2 := HM2.out.setCell 0 rfl (1 + p1) (.int .u8 (y.toNat : Int))
          have hmv2 : (AddrM.mk true ((sixIp ls j).set p x)).cells.set (1 + p1) (.int .u8 (y.toNat : Int)) = (AddrM.mk true (sixIp ls (j + 1))).cells := by rw [← HSET.out]; exact AddrM.set_cell _ p1 y
          rw [hmv2] at hm2
          exact ⟨⟨j + 1, by omega, by go_num, Lib.hid (HALL.out.trans HOK.out), hm2⟩, by simp [intOf]; omega⟩
    · obtain rfl : j = 8 := by omega
      have HALL := Lib.hid (show ls.all hxsOk = true from by have h := hall.out; rwa [List.take_of_length_le (by have := HL.out; omega)] at h)
      have HE := Lib.hid (show sixIp ls 8 = ls.flatMap fun s => [UInt8.ofNat (hexN s / 256), UInt8.ofNat (hexN s % 256)] from by rw [sixIp, List.take_of_length_le (by have := HL.out; omega)]; simp)
      have hok8 : (AddrM.mk true (sixIp ls 8)).ok := sixIp_length ls 8 (by have := HL.out; omega) (by omega)
      have HU1 := Lib.hid (addr_cellsOf _ hok8)
      have HCL := Lib.hid (show addr0.cells.length = (AddrM.mk true (sixIp ls 8)).cells.length from (AddrM.cells_length addr0_ok).trans (AddrM.cells_length hok8).symm)
      obtain ⟨cz, hcz⟩ : ∃ z, (AddrM.mk true (sixIp ls 8)).cells.toArray = z := ⟨_, rfl⟩
      have HCZ := Lib.hid hcz
      clear hcz hok8
      go_wp2_with (first | (refine wpList_load_obj rfl 25 (.tmp 4) rfl (w.heap.size + 1) 0 rfl (AddrM.mk true (sixIp ls 8)).cells (HM.out.blk 0 rfl).all _ Tryz.underlying25 rfl HU1.out ?_; rw [HCZ.out]) | (refine wpList_store_blk rfl 25 (.tmp 2) (.tmp 59) rfl w.heap.size (AddrM.mk true (sixIp ls 8)).cells rfl (by show Value.agg cz = _; rw [HCZ.out]) 25 addr0.cells (HM.out.blk 1 rfl) HU1.out HCL.out (AddrM.one _) ?_; intro w9 hb9 hg9))
      exact bodyPost_ret (results_obj_tmp rfl _ _ w.heap.size 25 (AddrM.mk true (sixIp ls 8)).cells _ rfl hb9 Tryz.underlying25 rfl HU1.out) rfl ⟨by rw [HV.out, if_pos HALL.out, ← HE.out]; rfl, (HM.out.put 1 rfl _ hg9 hb9).bel⟩
end Go.Proofs.YtkhghmmgegkiiaaGreatDoor
namespace Go.Proofs.YtkhghmmgegkiiaaGreatDoor
open Go.RowKit

theorem four_ok (ls : List (List UInt8)) (h : ls.length = 4) : (fourP ls).1.ok := by
  rw [fourP]
  split
  · show ((ls.map _) ++ _).length = 16
    rw [List.length_append, List.length_map, List.length_replicate, h]
  · exact addr0_ok
theorem six_ok (ls : List (List UInt8)) (h : ls.length = 8) : (sixP ls).1.ok := by
  rw [sixP]
  split
  · show (ls.flatMap _).length = 16
    rw [two_flat, h]
  · exact addr0_ok
theorem addrP_ok (l : List UInt8) : (addrP l).1.ok := by
  rw [addrP]
  split
  · exact four_ok _ (by assumption)
  · split
    · exact six_ok _ (by assumption)
    · exact addr0_ok
theorem own_at {w : World} {base e n c g : Nat} {xs : List Value} (h : w.ownsRow base e 1 (.slice (some ⟨g, 0, none⟩) n c) n xs) : At w g 0 xs := fun j v hv => by
  have hj := (List.getElem?_eq_some_iff.1 hv).1
  have hl := h.1
  rw [Nat.zero_add, h.cellAt j (by omega)]
  exact hv
theorem own_top {w : World} {base e n c g : Nat} {xs : List Value} (h : w.ownsRow base e 1 (.slice (some ⟨g, 0, none⟩) n c) n xs) : g < w.heap.size := (h.lt g rfl).2
set_option maxRecDepth 100000 in
set_option maxHeartbeats 4000000 in
theorem refParseAddr_any (l : List UInt8) (hl : l.length ≤ 100000) (w : World) :
    Calls Tryz.prog 42 #[.string ⟨l.toArray⟩] w fun e w' => e = .returned (.tuple #[.agg (addrP l).1.cells.toArray, .int .i64 ((addrP l).2 : Int)]) ∧ Below w.heap.size w w' := by
  have HS1 := Lib.hid (refSplit_any l 46 hl)
  have HS2 := Lib.hid (refSplit_any l 58 hl)
  have HV := Lib.hid (show addrP l = if (splitB 46 l).length = 4 then fourP (splitB 46 l) else if (splitB 58 l).length = 8 then sixP (splitB 58 l) else (addr0, 5) from rfl)
  have HU0 := Lib.hid (show (Tryz.prog.info? 25).map (·.size) = some addr0.cells.length from by kernel_rfl)
  have hp1 : ∀ s ∈ splitB 46 l, s.length ≤ 100000 := fun s h => Nat.le_trans (split_part 46 l s h) hl
  have hp2 : ∀ s ∈ splitB 58 l, s.length ≤ 100000 := fun s h => Nat.le_trans (split_part 58 l s h) hl
  have hq1 := split_len 46 l
  have hq2 := split_len 58 l
  have HM := Lib.hid (show Mem w [blkE w.heap.size 25 addr0.cells] (w.alloc (.cells #[.bool false, .int .u8 0, .int .u8 0, .int .u8 0, .int .u8 0, .int .u8 0, .int .u8 0, .int .u8 0, .int .u8 0, .int .u8 0, .int .u8 0, .int .u8 0, .int .u8 0, .int .u8 0, .int .u8 0, .int .u8 0, .int .u8 0] 25)) from (Mem.nil w).alloc rfl 25 #[.bool false, .int .u8 0, .int .u8 0, .int .u8 0, .int .u8 0, .int .u8 0, .int .u8 0, .int .u8 0, .int .u8 0, .int .u8 0, .int .u8 0, .int .u8 0, .int .u8 0, .int .u8 0, .int .u8 0, .int .u8 0, .int .u8 0] addr0.cells rfl)
  obtain ⟨S, hS⟩ : ∃ S : ByteArray, ⟨l.toArray⟩ = S := ⟨_, rfl⟩
  rw [hS] at HS1 HS2 ⊢
  clear hS
  go_enter Tryz.func42, Tryz.ntmps42
  go_upto_region 1 with fail
  generalize w.alloc (.cells #[.bool false, .int .u8 0, .int .u8 0, .int .u8 0, .int .u8 0, .int .u8 0, .int .u8 0, .int .u8 0, .int .u8 0, .int .u8 0, .int .u8 0, .int .u8 0, .int .u8 0, .int .u8 0, .int .u8 0, .int .u8 0, .int .u8 0] 25) = w1 at HM ⊢
  go_wp2_with fail
  refine (HS1.out _).mono ?_
  rintro e w2 ⟨A, k, rfl, ho, hb⟩
  replace HM := Lib.hid (show Mem w [blkE w.heap.size 25 addr0.cells] w2 from HM.out.below hb)
  clear hb HS1
  by_cases hn4 : (splitB 46 l).length = 4
  · replace HV := Lib.hid (HV.out.trans (if_pos hn4))
    generalize splitB 46 l = ls at HV hn4 hp1 ho ⊢
    have hpl := hp1
    clear HS2 hp2 hq1 hq2 hp1
    have HFC := Lib.hid (refFour_any ls hn4 hpl)
    have HV2 := Lib.hid (show addrP l = fourP ls from HV.out)
    have hok := four_ok ls hn4
    obtain ⟨g, rfl⟩ := (own_addr ho).2.2 (by rw [hn4]; omega)
    have HAT := Lib.hid (own_at ho)
    have HGT := Lib.hid (own_top ho)
    rw [hn4] at ho ⊢
    obtain ⟨r, hr⟩ : ∃ z, fourP ls = z := ⟨_, rfl⟩
    rw [hr] at HFC HV2 hok
    obtain ⟨ra, re⟩ := r
    have HU1 := Lib.hid (addr_cellsOf ra hok)
    have HCL := Lib.hid (show addr0.cells.length = ra.cells.length from (AddrM.cells_length addr0_ok).trans (AddrM.cells_length hok).symm)
    obtain ⟨cr, hcr⟩ : ∃ z, ra.cells.toArray = z := ⟨_, rfl⟩
    dsimp only at HFC
    rw [hcr] at HFC
    have HCR := Lib.hid hcr
    clear hcr hr hok ho
    go_wp2_with fail
    refine (HFC.out g k _ HGT.out HAT.out).mono ?_
    rintro e w5 ⟨rfl, hb⟩
    replace HM := Lib.hid (show Mem w [blkE w.heap.size 25 addr0.cells] w5 from HM.out.below hb)
    clear hb HGT HAT
    go_wp2_with (refine wpList_store_blk rfl 25 (.tmp 2) (.tmp 13) rfl w.heap.size ra.cells rfl (by show Value.agg cr = _; rw [HCR.out]) 25 addr0.cells (HM.out.blk 0 rfl) HU1.out HCL.out (AddrM.one _) ?_; intro w9 hb9 hg9)
    exact bodyPost_ret (results_obj_tmp rfl _ _ w.heap.size 25 ra.cells _ rfl hb9 Tryz.underlying25 rfl HU1.out) rfl ⟨by rw [HV2.out]; rfl, (HM.out.put 0 rfl _ hg9 hb9).bel⟩
  replace HV := Lib.hid (HV.out.trans (if_neg hn4))
  have hn4' : (((splitB 46 l).length : Nat) : Int) ≠ 4 := by omega
  have e4 : ((((splitB 46 l).length : Nat) : Int) == 4) = false := by rw [beq_eq_false_iff_ne]; exact hn4'
  generalize (splitB 46 l).length = n1 at hn4 hn4' e4 ho hq1 ⊢
  clear ho hp1
  go_wp2_with fail
  refine (HS2.out _).mono ?_
  rintro e w3 ⟨A2, k2, rfl, ho, hb⟩
  replace HM := Lib.hid (show Mem w [blkE w.heap.size 25 addr0.cells] w3 from HM.out.below hb)
  clear hb HS2
  by_cases hn8 : (splitB 58 l).length = 8
  · replace HV := Lib.hid (HV.out.trans (if_pos hn8))
    generalize splitB 58 l = ls at HV hn8 hp2 ho ⊢
    have hpl := hp2
    clear hq1 hq2 hp2
    have HFC := Lib.hid (refSix_any ls hn8 hpl)
    have HV2 := Lib.hid (show addrP l = sixP ls from HV.out)
    have hok := six_ok ls hn8
    obtain ⟨g, rfl⟩ := (own_addr ho).2.2 (by rw [hn8]; omega)
    have HAT := Lib.hid (own_at ho)
    have HGT := Lib.hid (own_top ho)
    rw [hn8] at ho ⊢
    obtain ⟨r, hr⟩ : ∃ z, sixP ls = z := ⟨_, rfl⟩
    rw [hr] at HFC HV2 hok
    obtain ⟨ra, re⟩ := r
    have HU1 := Lib.hid (addr_cellsOf ra hok)
    have HCL := Lib.hid (show addr0.cells.length = ra.cells.length from (AddrM.cells_length addr0_ok).trans (AddrM.cells_length hok).symm)
    obtain ⟨cr, hcr⟩ : ∃ z, ra.cells.toArray = z := ⟨_, rfl⟩
    dsimp only at HFC
    rw [hcr] at HFC
    have HCR := Lib.hid hcr
    clear hcr hr hok ho
    go_wp2_with fail
    refine (HFC.out g k2 _ HGT.out HAT.out).mono ?_
    rintro e w5 ⟨rfl, hb⟩
    replace HM := Lib.hid (show Mem w [blkE w.heap.size 25 addr0.cells] w5 from HM.out.below hb)
    clear hb HGT HAT
    go_wp2_with (refine wpList_store_blk rfl 25 (.tmp 2) (.tmp 22) rfl w.heap.size ra.cells rfl (by show Value.agg cr = _; rw [HCR.out]) 25 addr0.cells (HM.out.blk 0 rfl) HU1.out HCL.out (AddrM.one _) ?_; intro w9 hb9 hg9)
    exact bodyPost_ret (results_obj_tmp rfl _ _ w.heap.size 25 ra.cells _ rfl hb9 Tryz.underlying25 rfl HU1.out) rfl ⟨by rw [HV2.out]; rfl, (HM.out.put 0 rfl _ hg9 hb9).bel⟩
  replace HV := Lib.hid (HV.out.trans (if_neg hn8))
  have e8 : ((((splitB 58 l).length : Nat) : Int) == 8) = false := by rw [beq_eq_false_iff_ne]; omega
  generalize (splitB 58 l).length = n2 at hn8 e8 ho hq2 ⊢
  clear ho hp2
  go_wp2_with (first | (refine wpList_build_as rfl 25 [] rfl #[.bool false, .int .u8 0, .int .u8 0, .int .u8 0, .int .u8 0, .int .u8 0, .int .u8 0, .int .u8 0, .int .u8 0, .int .u8 0, .int .u8 0, .int .u8 0, .int .u8 0, .int .u8 0, .int .u8 0, .int .u8 0, .int .u8 0] ?_ ?_; kernel_rfl) | (refine wpList_store_blk rfl 25 (.tmp 2) (.tmp 24) rfl w.heap.size addr0.cells rfl (by rfl) 25 addr0.cells (HM.out.blk 0 rfl) HU0.out rfl (AddrM.one _) ?_; intro w9 hb9 hg9))
  exact bodyPost_ret (results_obj_tmp rfl _ _ w.heap.size 25 addr0.cells _ rfl hb9 Tryz.underlying25 rfl HU0.out) rfl ⟨by rw [HV.out]; rfl, (HM.out.put 0 rfl _ hg9 hb9).bel⟩
end Go.Proofs.YtkhghmmgegkiiaaGreatDoor
namespace Go.Proofs.YtkhghmmgegkiiaaGreatDoor
open Go.RowKit

theorem row_blk {w : World} {base e g n : Nat} {xs : List Value} (h : w.ownsRow base e 1 (.slice (some ⟨g, 0, none⟩) n n) n xs) : Blk w g e xs := by
  rcases h.2 with ⟨h0, _⟩ | ⟨g', cap, cur, hv, _, hg, _, _, hcs, ht⟩
  · cases h0
  · simp only [Value.slice.injEq, Option.some.injEq, Addr.mk.injEq, and_true, true_and] at hv
    obtain ⟨rfl, rfl⟩ := hv
    have : cur.toList = xs := by
      rw [← ht, List.take_of_length_le (by simp; omega)]
    unfold Blk
    rw [hg, ← this]

theorem Rd.kept {w w' : World} {B g n : Nat} {A : Option Addr} {l : List UInt8} (h : Rd w B A n l) (hB : B ≤ g) (hg : g < w.heap.size) (hb : w.grownBy w' (some g)) : Rd w' B A n l :=
  h.keep fun q hq => World.cell?_of_block (hb.block q.block (by omega) (fun e => by injection e with e; omega))
theorem Rd.below2 {w w' : World} {B n : Nat} {A : Option Addr} {l : List UInt8} (h : Rd w B A n l) (hB : B ≤ w.heap.size) (hb : Below w.heap.size w w') : Rd w' B A n l := h.below (hb.mono hB)
end Go.Proofs.YtkhghmmgegkiiaaGreatDoor
namespace Go.Proofs.YtkhghmmgegkiiaaGreatDoor
open Go.RowKit

theorem grownD {a w : World} {row : Option Nat} (h : a.grownBy w row) : a.grownBy w.drew row := ⟨h.os, h.tape, h.output, h.size, h.block⟩
theorem grownB {a w w' : World} {row : Option Nat} (h : a.grownBy w row) (hb : Below w.heap.size w w') : a.grownBy w' row :=
  grownBy_trans h ⟨hb.os, hb.tape, hb.output, hb.size, fun k hk _ => hb.block k hk⟩
theorem grown_refl (w : World) (k : Option Nat) : w.grownBy w k := ⟨rfl, rfl, rfl, Nat.le_refl _, fun _ _ _ => rfl⟩
/-- a change above w is none below it -/
theorem grownA {w W W' : World} {g : Nat} {row : Option Nat} (h : w.grownBy W (some g)) (hb : W.grownBy W' row) (hr : ∀ k, row = some k → w.heap.size ≤ k) : w.grownBy W' (some g) :=
  ⟨hb.os.trans h.os, hb.tape.trans h.tape, hb.output.trans h.output, Nat.le_trans h.size hb.size, fun k hk hne => (hb.block k (Nat.lt_of_lt_of_le hk h.size) (fun e => absurd (hr k e.symm) (by omega))).trans (h.block k hk hne)⟩
/-- the entries, and that of what was there ahead of w0 only the block g has changed -/
def MemG (w0 : World) (g : Nat) (E : List Ent) (W : World) : Prop := MemE w0.heap.size E W.heap.size W ∧ w0.grownBy W (some g)
section
variable {w0 W W' : World} {g : Nat} {E : List Ent}
theorem MemG.nil (w0 : World) (g : Nat) : MemG w0 g [] w0 := ⟨Nat.le_refl _, grown_refl _ _⟩
theorem MemG.get (h : MemG w0 g E W) (i : Nat) {e : Ent} (he : E[i]? = some e) : e.P W := h.1.get i e he
theorem MemG.blk (h : MemG w0 g E W) (i : Nat) {b : Nat} {t : TypeId} {cs : List Value} (he : E[i]? = some (blkE b t cs)) : Blk W b t cs := h.1.get i _ he
theorem MemG.rd (h : MemG w0 g E W) (i : Nat) {lo hi : Nat} {A : Option Addr} {n : Nat} {l : List UInt8} (he : E[i]? = some (rdE lo hi A n l)) : Rd W W.heap.size A n l :=
  (RdIn.rd (h.1.get i _ he)).mono (MemE.put.MemE.under h.1 i _ he)
theorem MemG.erase (h : MemG w0 g E W) (i : Nat) : MemG w0 g (E.eraseIdx i) W := ⟨h.1.erase i, h.2⟩
theorem MemG.below (h : MemG w0 g E W) (hb : Below W.heap.size W W') : MemG w0 g E W' := ⟨h.1.keep hb.size (fun k _ hk => hb.block k hk), grownB h.2 hb⟩
theorem MemG.drew (h : MemG w0 g E W) : MemG w0 g E W.drew := h.below ((Below.refl _ _).drew)
/-- the block g changes -/
theorem MemG.next (h : MemG w0 g E W) (hg : g < w0.heap.size) (hb : W.grownBy W' (some g)) : MemG w0 g E W' :=
  ⟨h.1.keep hb.size (fun k h1 hk => hb.block k hk (fun e => by injection e with e; omega)), grownBy_trans h.2 hb⟩
theorem MemG.alloc (h : MemG w0 g E W) {b : Nat} (hb0 : b = W.heap.size) (t : TypeId) (arr : Array Value) (cs : List Value) (ha : arr = cs.toArray) : MemG w0 g (blkE b t cs :: E) (W.alloc (.cells arr t)) := by
  subst hb0 ha
  have hb : Below W.heap.size W (W.alloc (.cells cs.toArray t)) := (Below.refl _ _).alloc (Nat.le_refl _) _
  refine ⟨⟨?_, Nat.le_succ _, Blk.new W t cs, h.1.keep (Nat.le_refl _) (fun k _ hk => hb.block k hk)⟩, grownB h.2 hb⟩
  show W.heap.size + 1 ≤ _
  simp
theorem MemG.call (h : MemG w0 g E W) (hb : Below W.heap.size W W') (e : Ent) (hl : e.lo = W.heap.size) (hh : e.hi = W'.heap.size) (hp : e.P W') : MemG w0 g (e :: E) W' :=
  ⟨⟨by rw [hh]; exact Nat.le_refl _, by rw [hl, hh]; exact hb.size, hp, by rw [hl]; exact h.1.keep (Nat.le_refl _) (fun k _ hk => hb.block k hk)⟩, grownB h.2 hb⟩
theorem MemG.put (h : MemG w0 g E W) (i : Nat) {b : Nat} {t : TypeId} {cs : List Value} (he : E[i]? = some (blkE b t cs)) (cs' : List Value) (hg : W.grownBy W' (some b)) (hb : Blk W' b t cs') : MemG w0 g (E.set i (blkE b t cs')) W' := by
  have hlow : w0.heap.size ≤ b := MemE.low h.1 i _ he
  refine ⟨(MemE.put h.1 i _ (blkE b t cs') he rfl rfl (fun k hk hne => hg.block k hk (fun e => hne ?_)) hb).keep hg.size (fun _ _ _ => rfl), grownA h.2 hg (fun k hk => by injection hk with hk; omega)⟩
  injection e with e
  subst e
  exact ⟨Nat.le_refl _, Nat.lt_succ_self _⟩
theorem MemG.setCell (h : MemG w0 g E W) (i : Nat) {b : Nat} {t : TypeId} {cs : List Value} (he : E[i]? = some (blkE b t cs)) (j : Nat) (u : Value) : MemG w0 g (E.set i (blkE b t (cs.set j u))) (W.setCell ⟨b, j, none⟩ u) :=
  h.put i he _ ⟨rfl, rfl, rfl, by simp [World.setCell], fun k _ hne => Below.heap_setCell _ _ _ _ (fun e => hne (by rw [e]))⟩ ((h.blk i he).set_ j u)
end
end Go.Proofs.YtkhghmmgegkiiaaGreatDoor
namespace Go.Proofs.YtkhghmmgegkiiaaGreatDoor
open Go.RowKit

/-- the list of choices that lies at A, p of them taken -/
def codesC (A : Option Addr) (n c p : Nat) : List Value := [.slice A n c, .int .i64 (p : Int)]
def nextV (l : List UInt8) (p m : Nat) : Nat := if p < l.length ∧ 1 ≤ m then (l.getD p 0).toNat % m else 0
def nextP (l : List UInt8) (p m : Nat) : Nat := if p < l.length ∧ 1 ≤ m then p + 1 else p
theorem nextP_le (l : List UInt8) (p m : Nat) (h : p ≤ l.length) : nextP l p m ≤ l.length := by unfold nextP; split <;> omega
theorem nextV_lt (l : List UInt8) (p m : Nat) (h : 1 ≤ m) : nextV l p m < m := by unfold nextV; split; exact Nat.mod_lt _ h; omega
set_option maxRecDepth 100000 in
theorem caseLeft_any (g : Nat) (A : Option Addr) (n c : Nat) (p : Nat) (w : World) (hg : Blk w g 71 (codesC A n c p)) :
    Calls Tryz.prog 74 #[.pointer (some ⟨g, 0, none⟩)] w fun e w' => e = .returned (.bool (decide (p < n))) ∧ Below w.heap.size w w' := by
  have HG := Lib.hid hg
  have hd : decide ((p : Int) < (n : Int)) = decide (p < n) := by simp
  obtain ⟨q, hq⟩ : ∃ q, decide (p < n) = q := ⟨_, rfl⟩
  rw [hq] at hd
  have HQ := Lib.hid hq
  clear hg hq
  go_enter Tryz.func74, Tryz.ntmps74
  have f0 := HG.out.cell 0
  have f1 := HG.out.cell 1
  rw [show (codesC A n c p)[0]? = some (.slice A n c) from rfl] at f0
  rw [show (codesC A n c p)[1]? = some (.int .i64 (p : Int)) from rfl] at f1
  go_upto_region 1 with fail
  go_region
  go_wp2
  go_ret
  exact ⟨by rw [HQ.out]; rfl, (Below.refl _ _).drew⟩
set_option maxRecDepth 100000 in
set_option maxHeartbeats 2000000 in
theorem caseNext_any (g : Nat) (A : Option Addr) (n c : Nat) (l : List UInt8) (p : Nat) (hn : n ≤ 100000) (hp : p ≤ n) (m : Nat) (hm : m ≤ 1000000) (B : Nat) (hB : B ≤ g) (w : World) (hg : Blk w g 71 (codesC A n c p)) (hr : Rd w B A n l) :
    Calls Tryz.prog 34 #[.pointer (some ⟨g, 0, none⟩), .int .i64 (m : Int)] w fun e w' => e = .returned (.int .i64 (nextV l p m : Int)) ∧ Blk w' g 71 (codesC A n c (nextP l p m)) ∧ w.grownBy w' (some g) := by
  have hl := hr.1
  have LC := caseLeft_any g A n c p w hg
  have HG := Lib.hid hg
  have HR := Lib.hid hr
  have HLC := Lib.hid LC
  clear hg hr LC
  by_cases hpn : p < n
  · by_cases hm1 : 1 ≤ m
    · have HV := Lib.hid (show nextV l p m = (l.getD p 0).toNat % m ∧ nextP l p m = p + 1 from ⟨if_pos ⟨by omega, hm1⟩, if_pos ⟨by omega, hm1⟩⟩)
      obtain ⟨b, off, rfl, hb0, _⟩ := HR.out.at_ (by omega)
      go_enter Tryz.func34, Tryz.ntmps34
      go_upto_region 1 with fail
      go_wp2_with fail
      refine HLC.out.mono ?_
      rintro e w1 ⟨rfl, hb⟩
      rw [decide_eq_true hpn]
      have HG1 := Lib.hid (HG.out.below hb HG.out.lt)
      have HR1 := Lib.hid ((HR.out.mono (Nat.le_trans hB (Nat.le_of_lt HG.out.lt))).below hb)
      have HW := Lib.hid (grownB (grown_refl w (some g)) hb)
      clear hb HLC
      have dm : decide ((m : Int) < 1) = false := by simp; omega
      have f0 := HG1.out.cell 0
      have f1 := HG1.out.cell 1
      rw [show (codesC (some ⟨b, off, none⟩) n c p)[0]? = some (.slice (some ⟨b, off, none⟩) n c) from rfl] at f0
      rw [show (codesC (some ⟨b, off, none⟩) n c p)[1]? = some (.int .i64 (p : Int)) from rfl] at f1
      have z1 := HG1.out.frozen 1
      have hw1 : IntKind.i64.wrap ((p : Int) + 1) = ((p + 1 : Nat) : Int) := by rw [IntWalk.i64_in _ (by omega)]; omega
      obtain ⟨p1, hp1⟩ : ∃ q, p + 1 = q := ⟨_, rfl⟩
      rw [hp1] at hw1
      have hs := HG1.out.set_ 1 (.int .i64 (p1 : Int))
      have HS := Lib.hid (show Blk (w1.setCell ⟨g, 1, none⟩ (.int .i64 (p1 : Int))) g 71 (codesC (some ⟨b, off, none⟩) n c p1) from hs)
      have HW2 := Lib.hid (show w.grownBy (w1.setCell ⟨g, 1, none⟩ (.int .i64 (p1 : Int))) (some g) from grown_set HW.out 1 _)
      have hfx : (w1.setCell ⟨g, 1, none⟩ (.int .i64 (p1 : Int))).cell? ⟨b, off + p, none⟩ = some (.int .u8 ((l.getD p 0).toNat : Int)) := by
        rw [World.cell?_of_block (w := w1) (Below.heap_setCell _ _ _ _ (by dsimp only; omega))]
        exact HR1.out.byt p hpn
      have HFX := Lib.hid hfx
      clear hs hfx
      go_upto_region 4 with fail
      clear f0 f1 z1 dm
      (try simp only [hw1])
      generalize w1.setCell ⟨g, 1, none⟩ (.int .i64 (p1 : Int)) = w2 at HS HW2 HFX ⊢
      clear hw1
      have f0 := HS.out.cell 0
      have f1 := HS.out.cell 1
      rw [show (codesC (some ⟨b, off, none⟩) n c p1)[0]? = some (.slice (some ⟨b, off, none⟩) n c) from rfl] at f0
      rw [show (codesC (some ⟨b, off, none⟩) n c p1)[1]? = some (.int .i64 (p1 : Int)) from rfl] at f1
      have fx := HFX.out
      generalize l.getD p 0 = x at fx HV
      have hw2 : IntKind.i64.wrap ((p1 : Int) - 1) = (p : Int) := by rw [IntWalk.i64_in _ (by omega)]; omega
      have hw3 : (p1 : Int) - 1 = (p : Int) := by omega
      have hw4 : IntKind.i64.wrap (p : Int) = (p : Int) := IntWalk.i64_in _ (by omega)
      have hx256 := x.toNat_lt
      have hw5 : IntKind.i64.wrap (x.toNat : Int) = (x.toNat : Int) := IntWalk.i64_in _ (by omega)
      have bp : (p : Int) < (n : Int) := by omega
      have hmz : ((m : Int) == 0) = false := by rw [beq_eq_false_iff_ne]; omega
      have hmz' : ¬ (m : Int) = 0 := by omega
      obtain ⟨r, hr⟩ : ∃ r, x.toNat % m = r := ⟨_, rfl⟩
      have hmod : (x.toNat : Int).tmod (m : Int) = (r : Int) := by rw [← hr, Int.tmod_eq_emod_of_nonneg (by omega), Int.natCast_emod]
      have hmod2 : (x.toNat : Int) % (m : Int) = (r : Int) := by rw [← hr, Int.natCast_emod]
      rw [hr, hp1] at HV
      have hwr : IntKind.i64.wrap (r : Int) = (r : Int) := IntWalk.i64_in _ (by rw [← hr]; have := Nat.mod_le x.toNat m; omega)
      clear hr
      go_region
      go_wp2
      go_ret
      exact ⟨by rw [HV.out.1]; rfl, by rw [HV.out.2]; exact HS.out.drew, grownD HW2.out⟩
    · have HV := Lib.hid (show nextV l p m = 0 ∧ nextP l p m = p from ⟨if_neg (by omega), if_neg (by omega)⟩)
      go_enter Tryz.func34, Tryz.ntmps34
      go_upto_region 1 with fail
      go_wp2_with fail
      refine HLC.out.mono ?_
      rintro e w1 ⟨rfl, hb⟩
      rw [decide_eq_true hpn]
      have HG1 := Lib.hid (HG.out.below hb HG.out.lt)
      have HW := Lib.hid (grownB (grown_refl w (some g)) hb)
      clear hb HLC
      have dm : decide ((m : Int) < 1) = true := by simp; omega
      go_wp2
      go_ret
      exact ⟨by rw [HV.out.1]; rfl, by rw [HV.out.2]; exact HG1.out, HW.out⟩
  · have HV := Lib.hid (show nextV l p m = 0 ∧ nextP l p m = p from ⟨if_neg (by omega), if_neg (by omega)⟩)
    go_enter Tryz.func34, Tryz.ntmps34
    go_upto_region 1 with fail
    go_wp2_with fail
    refine HLC.out.mono ?_
    rintro e w1 ⟨rfl, hb⟩
    rw [decide_eq_false hpn]
    have HG1 := Lib.hid (HG.out.below hb HG.out.lt)
    have HW := Lib.hid (grownB (grown_refl w (some g)) hb)
    clear hb HLC
    go_wp2
    go_ret
    exact ⟨by rw [HV.out.1]; rfl, by rw [HV.out.2]; exact HG1.out, HW.out⟩
end Go.Proofs.YtkhghmmgegkiiaaGreatDoor
namespace Go.Proofs.YtkhghmmgegkiiaaGreatDoor
open Go.RowKit

theorem codeByte_wrap (v : Nat) : IntKind.u8.wrap (v : Int) = ((UInt8.ofNat v).toNat : Int) := by
  rw [IntKind.wrap_u8, UInt8.toNat_ofNat']
  omega
def codeByte (x p1 i : Nat) : UInt8 := UInt8.ofNat (x + i * (2 * p1 + 1))
/-- k bytes of choices -/
def pickB (l : List UInt8) (p k : Nat) : List UInt8 := (List.range k).map (codeByte (nextV l p 256) (nextP l p 256))
theorem pickB_length (l : List UInt8) (p k : Nat) : (pickB l p k).length = k := by simp [pickB]
def codeJ (l : List UInt8) (p k j : Nat) : List UInt8 := (pickB l p k).take j ++ List.replicate (k - j) 0
theorem codeJ_length (l : List UInt8) (p k j : Nat) (h : j ≤ k) : (codeJ l p k j).length = k := by simp [codeJ, pickB_length]; omega
theorem codeJ_step (l : List UInt8) (p k j : Nat) (h : j < k) : (codeJ l p k j).set j (codeByte (nextV l p 256) (nextP l p 256) j) = codeJ l p k (j + 1) := by
  have hl := pickB_length l p k
  have hj : (pickB l p k)[j]'(by omega) = codeByte (nextV l p 256) (nextP l p 256) j := by simp [pickB]
  rw [codeJ, codeJ, List.set_append_right _ _ (by rw [List.length_take]; omega), List.length_take, Nat.min_eq_left (by omega), Nat.sub_self, show k - j = (k - (j + 1)) + 1 by omega, List.replicate_succ, List.set_cons_zero, List.take_succ_eq_append_getElem (by omega), hj, List.append_assoc]
  rfl
set_option maxRecDepth 100000 in
set_option maxHeartbeats 2000000 in
theorem caseBytes_any (g : Nat) (A : Option Addr) (n c : Nat) (l : List UInt8) (p : Nat) (hn : n ≤ 100000) (hp : p ≤ n) (k : Nat) (hk : k ≤ 1000) (B : Nat) (hB : B ≤ g) (w : World) (hg : Blk w g 71 (codesC A n c p)) (hr : Rd w B A n l) :
    Calls Tryz.prog 35 #[.pointer (some ⟨g, 0, none⟩), .int .i64 (k : Int)] w fun e w' => e = .returned (.slice (some ⟨w.heap.size, 0, none⟩) k k) ∧ Blk w' g 71 (codesC A n c (nextP l p 256)) ∧ MemG w g [blkE w.heap.size 5 ((pickB l p k).map u8v)] w' := by
  obtain ⟨i0, hi, hz0, hz1, hz2⟩ := info_parts Tryz.info5
  have hgl := hg.lt
  have hl := hr.1
  have HG := Lib.hid hg
  have HR := Lib.hid hr
  clear hg hr
  go_enter Tryz.func35, Tryz.ntmps35
  go_upto_region 2 with (refine wpList_make_full _ rfl (.tmp 9) (.tmp 9) 22 rfl w.heap.size 5 i0 (.int .u8 0) 1 Tryz.underlying22 hi hz0 hz1 .i64 .i64 k k k rfl rfl rfl rfl (by rw [hz2]; omega) (by unfold maxLen; omega) (Nat.le_refl _) ?_; intro w1 hown1 hg1)
  rw [show (Value.int IntKind.u8 0).cells = #[.int .u8 0] from rfl, toList_madeCells_one, Nat.mul_one] at hown1
  have hM1 : MemG w g [blkE w.heap.size 5 ((codeJ l p k 0).map u8v)] w1 := by
    have hb1 := row_blk hown1
    have h2 : (codeJ l p k 0).map u8v = List.replicate k (.int .u8 0) := by simp [codeJ, u8v]
    refine ⟨⟨hb1.lt, Nat.le_succ _, by rw [h2]; exact hb1, Nat.le_refl _⟩, ⟨hg1.os, hg1.tape, hg1.output, hg1.size, fun q hq _ => hg1.block q hq (by simp)⟩⟩
  have HM := Lib.hid hM1
  have HG1 := Lib.hid (HG.out.grown hg1 (by simp))
  have HR1 := Lib.hid (HR.out.below2 (by omega) (⟨hg1.os, hg1.tape, hg1.output, hg1.size, fun q hq => hg1.block q hq (by simp)⟩ : Below w.heap.size w w1))
  clear hM1 hown1 hg1
  go_wp2_with fail
  refine (caseNext_any g A n c l p hn hp 256 (by omega) B hB w1 HG1.out HR1.out).mono ?_
  rintro e w2 ⟨rfl, hG2, hgr⟩
  have hp1 := nextP_le l p 256 (by omega)
  have hxl := nextV_lt l p 256 (by omega)
  replace HM := Lib.hid (HM.out.next hgl hgr)
  have HG2 := Lib.hid hG2
  clear hG2 hgr HG1 HR1
  have HJ := Lib.hid (codeJ_step l p k)
  generalize nextV l p 256 = x at hxl HJ ⊢
  obtain ⟨p1, hp1e⟩ : ∃ q, nextP l p 256 = q := ⟨_, rfl⟩
  rw [hp1e] at hp1 HG2 HJ
  have HP1 := Lib.hid hp1e
  clear hp1e
  have f1 := HG2.out.cell 1
  rw [show (codesC A n c p1)[1]? = some (.int .i64 (p1 : Int)) from rfl] at f1
  obtain ⟨s2, hs2⟩ : ∃ q, 2 * p1 = q := ⟨_, rfl⟩
  have hw1 : IntKind.i64.wrap (2 * (p1 : Int)) = (s2 : Int) := by rw [IntWalk.i64_in _ (by omega)]; omega
  obtain ⟨s3, hs3⟩ : ∃ q, s2 + 1 = q := ⟨_, rfl⟩
  have hw2 : IntKind.i64.wrap ((s2 : Int) + 1) = (s3 : Int) := by rw [IntWalk.i64_in _ (by omega)]; omega
  have HS := Lib.hid (show 2 * p1 + 1 = s3 by omega)
  have hs3l : s3 ≤ 200001 := by omega
  clear hs2 hs3
  go_upto_region 4 with fail
  clear f1 hw1 hw2
  go_wp2_with fail
  go_loopw [21, 8] (fun z _ wr => ∃ j : Nat, j ≤ k ∧ z = .int .i64 (j : Int) ∧ Blk wr g 71 (codesC A n c p1) ∧ MemG w g [blkE w.heap.size 5 ((codeJ l p k j).map u8v)] wr) (fun z _ _ => k - (intOf z).toNat)
  case atStart => exact ⟨0, by omega, rfl, HG2.out, HM.out⟩
  case round =>
    clear HM HG2
    obtain ⟨j, hj, rfl, hgb, hM⟩ := hrel
    have HM := Lib.hid hM
    have HGB := Lib.hid hgb
    clear hM hgb
    by_cases hlt : j < k
    · have dl : decide ((j : Int) < (k : Int)) = true := by simp; omega
      have bj : (j : Int) < (k : Int) := by omega
      have hcl := codeJ_length l p k j hj
      have hlk : ((codeJ l p k j).map u8v)[j]? = some (u8v ((codeJ l p k j).getD j 0)) := by rw [List.getElem?_map, List.getD_eq_getElem?_getD, List.getElem?_eq_getElem (by omega)]; rfl
      have fx := ((HM.out.blk 0 rfl).cell j).trans hlk
      generalize u8v ((codeJ l p k j).getD j 0) = y at fx
      have zx := (HM.out.blk 0 rfl).frozen j
      obtain ⟨m1, hm1⟩ : ∃ q, j * s3 = q := ⟨_, rfl⟩
      have hmb : m1 ≤ 1000 * 200001 := by rw [← hm1]; exact Nat.mul_le_mul (by omega) hs3l
      have hm2 : (j : Int) * (s3 : Int) = (m1 : Int) := by rw [← hm1, Int.natCast_mul]
      have hw3 : IntKind.i64.wrap ((j : Int) * (s3 : Int)) = (m1 : Int) := by rw [hm2]; exact IntWalk.i64_in _ (by omega)
      obtain ⟨v, hv⟩ : ∃ q, x + m1 = q := ⟨_, rfl⟩
      have hw4 : IntKind.i64.wrap ((x : Int) + (m1 : Int)) = (v : Int) := by rw [IntWalk.i64_in _ (by omega)]; omega
      have hw5 := codeByte_wrap v
      have hst : (codeJ l p k j).set j (UInt8.ofNat v) = codeJ l p k (j + 1) := by rw [← HJ.out j hlt, codeByte, HS.out, hm1, hv]
      generalize UInt8.ofNat v = u at hw5 hst
      have HN := Lib.hid (show MemG w g [blkE w.heap.size 5 ((codeJ l p k (j + 1)).map u8v)] (wr.setCell ⟨w.heap.size, j, none⟩ (.int .u8 (u.toNat : Int))) from by have h := HM.out.setCell 0 rfl j (u8v u); rw [← List.map_set, hst] at h; exact h)
      have HGN := Lib.hid (show Blk (wr.setCell ⟨w.heap.size, j, none⟩ (.int .u8 (u.toNat : Int))) g 71 (codesC A n c p1) from HGB.out.far (by dsimp only; omega) _)
      clear hst hm1 hmb hm2 hv hcl hlk HM HGB
      go_wp2
      go_roundw
      case rel => exact ⟨j + 1, by omega, by go_num, HGN.out, HN.out⟩
      case measure => simp [intOf]; omega
    · obtain rfl : j = k := by omega
      have dl : decide ((j : Int) < (j : Int)) = false := by simp
      have he : codeJ l p j j = pickB l p j := by rw [codeJ, Nat.sub_self, List.replicate_zero, List.append_nil, List.take_of_length_le (by rw [pickB_length]; omega)]
      rw [he] at HM
      go_wp2
      go_ret
      exact ⟨rfl, by rw [HP1.out]; exact HGB.out, HM.out⟩
set_option maxRecDepth 100000 in
theorem caseNew_any (A : Option Addr) (n c m k : Nat) (hm : m ≤ 1000000) (hnc : n ≤ c) (hcm : c ≤ maxLen) (hk : min n m = k) (w : World) :
    Calls Tryz.prog 8 #[.slice A n c, .int .i64 (m : Int)] w fun e w' => e = .returned (.pointer (some ⟨w.heap.size, 0, none⟩)) ∧ Mem w [blkE w.heap.size 71 (codesC A k c 0)] w' := by
  have hc63 : (c : Int) ≤ 9223372036854775807 := by unfold maxLen at hcm; omega
  have HM := Lib.hid ((Mem.nil w).alloc rfl 71 #[.slice A k c, .int .i64 0] (codesC A k c 0) rfl)
  by_cases h : n ≤ m
  · obtain rfl : k = n := by omega
    have h1 : ¬ (m : Int) < (k : Int) := by omega
    have h2 : (k : Int) ≤ (m : Int) := by omega
    have h3 : (k : Int) ≤ (c : Int) := by omega
    have h4 : (if (m : Int) < (k : Int) then (m : Int) else (k : Int)) = (k : Int) := if_neg h1
    clear hk
    go_enter Tryz.func8, Tryz.ntmps8
    go_wp2
    go_ret
    exact ⟨rfl, HM.out⟩
  · obtain rfl : k = m := by omega
    have h1 : (k : Int) < (n : Int) := by omega
    have h2 : ¬ (n : Int) ≤ (k : Int) := by omega
    have h3 : (k : Int) ≤ (c : Int) := by omega
    have h4 : (if (k : Int) < (n : Int) then (k : Int) else (n : Int)) = (k : Int) := if_pos h1
    clear hk
    go_enter Tryz.func8, Tryz.ntmps8
    go_wp2
    go_ret
    exact ⟨rfl, HM.out⟩
end Go.Proofs.YtkhghmmgegkiiaaGreatDoor
namespace Go.Proofs.YtkhghmmgegkiiaaGreatDoor
open Go.RowKit

/-- a byte without one bit, counted from the highest -/
def clearBit (x : UInt8) (m : Nat) : UInt8 := x &&& ~~~(UInt8.ofNat (128 / 2 ^ m))
theorem clear_all : ∀ m : Fin 8, ∀ n : Fin 256, bits BinOp.andNot IntKind.u8 (n.val : Int) ((128 / 2 ^ m.val : Nat) : Int) = ((clearBit (UInt8.ofNat n.val) m.val).toNat : Int) := by decide +kernel
theorem clear_bits (x : UInt8) (m : Nat) (h : m < 8) : bits BinOp.andNot IntKind.u8 (x.toNat : Int) (128 / 2 ^ m) = ((clearBit x m).toNat : Int) := by
  have h1 := clear_all ⟨m, h⟩ ⟨x.toNat, x.toNat_lt⟩
  simp only [UInt8.ofNat_toNat] at h1
  rw [← h1, Int.natCast_ediv, Int.natCast_pow]
  rfl
/-- the j bits behind b cleared -/
def clearS (ip : List UInt8) (b : Nat) : Nat → List UInt8
  | 0 => ip
  | j + 1 => (clearS ip b j).set ((b + j) / 8) (clearBit ((clearS ip b j).getD ((b + j) / 8) 0) ((b + j) % 8))
theorem clearS_length (ip : List UInt8) (b : Nat) : ∀ j, (clearS ip b j).length = ip.length
  | 0 => rfl
  | j + 1 => by rw [clearS, List.length_set, clearS_length]
def maskM (a : AddrM) (b : Nat) : AddrM := ⟨a.six, clearS a.ip b (128 - b)⟩
theorem maskM_ok (a : AddrM) (h : a.ok) (b : Nat) : (maskM a b).ok := (clearS_length _ _ _).trans h
def pref0 : List Value := prefC addr0 0
theorem prefC_one (a : AddrM) (bits : Int) : ∀ v ∈ prefC a bits, v.oneCell' = true := by
  intro v hv
  rw [prefC, List.mem_append, List.mem_singleton] at hv
  rcases hv with hv | rfl
  · exact a.one v hv
  · rfl
theorem pref_built (a : AddrM) (ha : a.ok) (q : Int) : Tryz.prog.built 29 [(0, .agg a.cells.toArray), (1, .int .i64 q)] = some (prefC a q).toArray := by
  rw [built_of 29 [17, 1] [addr0.cells, [.int .i64 0]] rfl #[(0, 17), (17, 1)] (fun parts => by kernel_rfl) (fun i h => by
    match i, h with
    | 0, _ => rfl
    | 1, _ => rfl) _ (fun p hp => by
    simp only [List.mem_cons, List.not_mem_nil, or_false] at hp
    rcases hp with rfl | rfl
    · simp [Value.cells, AddrM.cells_length ha]
    · rfl)]
  simp [prefC, Value.cells]
set_option maxRecDepth 100000 in
set_option maxHeartbeats 4000000 in
theorem caseMasked_any (a : AddrM) (h : a.ok) (b : Nat) (hb : b ≤ 128) (w : World) :
    Calls Tryz.prog 37 #[.agg a.cells.toArray, .int .i64 (b : Int)] w fun e w' => e = .returned (.agg (prefC (maskM a b) (b : Int)).toArray) ∧ Below w.heap.size w w' := by
  obtain ⟨ca, hca⟩ : ∃ x, a.cells.toArray = x := ⟨_, rfl⟩
  rw [hca]
  have HM := Lib.hid (show Mem w [blkE (w.heap.size + 1) 29 pref0, blkE w.heap.size 25 a.cells] ((w.alloc (.cells ca 25)).alloc (.cells #[.bool false, .int .u8 0, .int .u8 0, .int .u8 0, .int .u8 0, .int .u8 0, .int .u8 0, .int .u8 0, .int .u8 0, .int .u8 0, .int .u8 0, .int .u8 0, .int .u8 0, .int .u8 0, .int .u8 0, .int .u8 0, .int .u8 0, .int .i64 0] 29)) from ((Mem.nil w).alloc rfl 25 ca a.cells hca.symm).alloc (by simp) 29 #[.bool false, .int .u8 0, .int .u8 0, .int .u8 0, .int .u8 0, .int .u8 0, .int .u8 0, .int .u8 0, .int .u8 0, .int .u8 0, .int .u8 0, .int .u8 0, .int .u8 0, .int .u8 0, .int .u8 0, .int .u8 0, .int .u8 0, .int .i64 0] pref0 rfl)
  have HO := Lib.hid h
  clear hca h
  go_enter Tryz.func37, Tryz.ntmps37
  go_upto_region 1 with fail
  generalize ((w.alloc (.cells ca 25)).alloc (.cells #[.bool false, .int .u8 0, .int .u8 0, .int .u8 0, .int .u8 0, .int .u8 0, .int .u8 0, .int .u8 0, .int .u8 0, .int .u8 0, .int .u8 0, .int .u8 0, .int .u8 0, .int .u8 0, .int .u8 0, .int .u8 0, .int .u8 0, .int .i64 0] 29)) = w1 at HM ⊢
  go_wp2_with fail
  go_loopw [5] (fun z wr => ∃ k : Nat, b ≤ k ∧ k ≤ 128 ∧ z = .int .i64 (k : Int) ∧ Mem w [blkE (w.heap.size + 1) 29 pref0, blkE w.heap.size 25 (AddrM.mk a.six (clearS a.ip b (k - b))).cells] wr) (fun z _ => 128 - (intOf z).toNat)
  case atStart => exact ⟨b, by omega, by omega, rfl, by rw [Nat.sub_self]; exact HM.out⟩
  case round =>
    clear HM
    obtain ⟨k, hbk, hk, rfl, hM⟩ := hrel
    have HM := Lib.hid hM
    clear hM
    have hok : (AddrM.mk a.six (clearS a.ip b (k - b))).ok := (clearS_length _ _ _).trans HO.out
    by_cases hlt : k < 128
    · have dl : decide ((k : Int) < 128) = true := by simp; omega
      obtain ⟨j, hj⟩ : ∃ j, k - b = j := ⟨_, rfl⟩
      obtain ⟨q, hq⟩ : ∃ q, k / 8 = q := ⟨_, rfl⟩
      obtain ⟨m, hm⟩ : ∃ q, k % 8 = q := ⟨_, rfl⟩
      have hq16 : q < 16 := by omega
      have hm8 : m < 8 := by omega
      have hn : clearS a.ip b (k + 1 - b) = (clearS a.ip b (k - b)).set q (clearBit ((clearS a.ip b (k - b)).getD q 0) m) := by
        rw [show k + 1 - b = (k - b) + 1 by omega, clearS, show b + (k - b) = k by omega, hq, hm]
      have fx := ((HM.out.blk 1 rfl).cell (1 + q)).trans (AddrM.ip_cell _ hok q hq16)
      have zx := (HM.out.blk 1 rfl).frozen (1 + q)
      have hset := AddrM.set_cell (AddrM.mk a.six (clearS a.ip b (k - b))) q
      generalize (clearS a.ip b (k - b)) = ip at HM hn fx hset hok
      generalize hx : ip.getD q 0 = x at fx hn
      have hcb := clear_bits x m hm8
      generalize clearBit x m = y at hcb hn
      have hqI : (k : Int) / 8 = (q : Int) := by omega
      have hmI : (k : Int) % 8 = (m : Int) := by omega
      have hmin : min m 8 = m := by omega
      have bq : (q : Int) < 16 := by omega
      have HN := Lib.hid (show Mem w [blkE (w.heap.size + 1) 29 pref0, blkE w.heap.size 25 (AddrM.mk a.six (clearS a.ip b (k + 1 - b))).cells] (wr.drew.setCell ⟨w.heap.size, 1 + q, none⟩ (.int .u8 (y.toNat : Int))) from by have h := HM.out.drew.setCell 1 rfl (1 + q) (u8v y); rw [hset, ← hn] at h; exact h)
      clear hset hn hx hok HM
      go_upto_region 4 with fail
      go_region
      go_wp2_with fail
      go_roundw
      case rel => exact ⟨k + 1, by omega, by omega, by go_num, HN.out⟩
      case measure => simp [intOf]; omega
    · obtain rfl : k = 128 := by omega
      have HMO := Lib.hid (maskM_ok a HO.out b)
      have hb2 := pref_built (maskM a b) HMO.out (b : Int)
      obtain ⟨cm, hcm⟩ : ∃ x, (maskM a b).cells.toArray = x := ⟨_, rfl⟩
      obtain ⟨cp, hcp⟩ : ∃ x, (prefC (maskM a b) (b : Int)).toArray = x := ⟨_, rfl⟩
      rw [hcm, hcp] at hb2
      have HB := Lib.hid (And.intro hb2 (And.intro hcm hcp))
      have HM2 := Lib.hid (show Mem w [blkE (w.heap.size + 1) 29 pref0, blkE w.heap.size 25 (maskM a b).cells] wr from HM.out)
      have HLP := Lib.hid (prefC_length (maskM a b) HMO.out (b : Int))
      clear hb2 hcm hcp HM hok
      (try rw [show ((128 : Nat) : Int) = 128 from rfl])
      go_wp2_with (first | (refine wpList_load_obj rfl 25 (.tmp 2) rfl w.heap.size 0 rfl (maskM a b).cells (HM2.out.blk 1 rfl).all _ Tryz.underlying25 rfl (addr_cellsOf _ HMO.out) ?_; rw [HB.out.2.1]) | (refine wpList_build_as rfl 29 [(0, .tmp 22), (1, .tmp 23)] rfl cp ?_ ?_; exact HB.out.1) | (refine wpList_store_blk rfl 29 (.tmp 4) (.tmp 24) rfl (w.heap.size + 1) (prefC (maskM a b) (b : Int)) rfl (by show Value.agg cp = _; rw [HB.out.2.2]) 29 pref0 (HM2.out.blk 0 rfl) (pref_cellsOf _ HMO.out _) (by rw [HLP.out]; rfl) (prefC_one _ _) ?_; intro w9 hb9 hg9))
      exact bodyPost_ret (results_obj rfl _ _ (w.heap.size + 1) 29 (prefC (maskM a b) (b : Int)) _ rfl hb9 Tryz.underlying29 rfl (pref_cellsOf _ HMO.out _)) rfl ⟨rfl, (HM2.out.put 0 rfl _ hg9 hb9).bel⟩
end Go.Proofs.YtkhghmmgegkiiaaGreatDoor
namespace Go.Proofs.YtkhghmmgegkiiaaGreatDoor
open Go.RowKit

set_option maxRecDepth 100000 in
set_option maxHeartbeats 8000000 in
theorem refParsePref_any (l : List UInt8) (hl : l.length ≤ 100000) (w : World) :
    Calls Tryz.prog 44 #[.string ⟨l.toArray⟩] w fun e w' => e = .returned (.tuple #[.agg (prefC (prefP l).1.1 ((prefP l).1.2 : Int)).toArray, .int .i64 ((prefP l).2 : Int)]) ∧ Below w.heap.size w w' := by
  have HS1 := Lib.hid (refSplit_any l 47 hl)
  have hv0 : prefP l = if (splitB 47 l).length ≠ 2 then ((addr0, 0), 5) else if (addrP ((splitB 47 l).getD 0 [])).2 ≠ 0 ∨ (numP ((splitB 47 l).getD 1 []) 3).2 = false ∨ validM (addrP ((splitB 47 l).getD 0 [])).1 ((numP ((splitB 47 l).getD 1 []) 3).1 : Int) = false then ((addr0, 0), 5) else (((addrP ((splitB 47 l).getD 0 [])).1, (numP ((splitB 47 l).getD 1 []) 3).1), 0) := rfl
  have HV := Lib.hid hv0
  have HU0 := Lib.hid (show (Tryz.prog.info? 29).map (·.size) = some (prefC addr0 0).length from by kernel_rfl)
  have hp1 : ∀ s ∈ splitB 47 l, s.length ≤ 100000 := fun s h => Nat.le_trans (split_part 47 l s h) hl
  have hq1 := split_len 47 l
  have HM := Lib.hid (show Mem w [blkE w.heap.size 29 (prefC addr0 0)] (w.alloc (.cells #[.bool false, .int .u8 0, .int .u8 0, .int .u8 0, .int .u8 0, .int .u8 0, .int .u8 0, .int .u8 0, .int .u8 0, .int .u8 0, .int .u8 0, .int .u8 0, .int .u8 0, .int .u8 0, .int .u8 0, .int .u8 0, .int .u8 0, .int .i64 0] 29)) from (Mem.nil w).alloc rfl 29 #[.bool false, .int .u8 0, .int .u8 0, .int .u8 0, .int .u8 0, .int .u8 0, .int .u8 0, .int .u8 0, .int .u8 0, .int .u8 0, .int .u8 0, .int .u8 0, .int .u8 0, .int .u8 0, .int .u8 0, .int .u8 0, .int .u8 0, .int .i64 0] (prefC addr0 0) rfl)
  obtain ⟨S, hS⟩ : ∃ S : ByteArray, ⟨l.toArray⟩ = S := ⟨_, rfl⟩
  rw [hS] at HS1 ⊢
  clear hS hv0
  go_enter Tryz.func44, Tryz.ntmps44
  go_upto_region 1 with fail
  generalize w.alloc (.cells #[.bool false, .int .u8 0, .int .u8 0, .int .u8 0, .int .u8 0, .int .u8 0, .int .u8 0, .int .u8 0, .int .u8 0, .int .u8 0, .int .u8 0, .int .u8 0, .int .u8 0, .int .u8 0, .int .u8 0, .int .u8 0, .int .u8 0, .int .i64 0] 29) = w1 at HM ⊢
  go_wp2_with fail
  refine (HS1.out _).mono ?_
  rintro e w2 ⟨A, k, rfl, ho, hb⟩
  replace HM := Lib.hid (show Mem w [blkE w.heap.size 29 (prefC addr0 0)] w2 from HM.out.below hb)
  clear hb HS1
  by_cases hn : (splitB 47 l).length = 2
  case neg =>
    replace HV := Lib.hid (HV.out.trans (if_pos hn))
    have e2 : ((((splitB 47 l).length : Nat) : Int) == 2) = false := by rw [beq_eq_false_iff_ne]; omega
    have e2' : ((((splitB 47 l).length : Nat) : Int) != 2) = true := by rw [bne, e2]; rfl
    generalize (splitB 47 l).length = n1 at hn e2 e2' ho hq1 ⊢
    clear ho hp1
    go_wp2_with (first | (refine wpList_build_as rfl 29 [] rfl #[.bool false, .int .u8 0, .int .u8 0, .int .u8 0, .int .u8 0, .int .u8 0, .int .u8 0, .int .u8 0, .int .u8 0, .int .u8 0, .int .u8 0, .int .u8 0, .int .u8 0, .int .u8 0, .int .u8 0, .int .u8 0, .int .u8 0, .int .i64 0] ?_ ?_; kernel_rfl) | (refine wpList_store_blk rfl 29 (.tmp 2) (.tmp 15) rfl w.heap.size (prefC addr0 0) rfl (by rfl) 29 (prefC addr0 0) (HM.out.blk 0 rfl) HU0.out rfl (prefC_one addr0 0) ?_; intro w9 hb9 hg9))
    exact bodyPost_ret (results_obj_tmp rfl _ _ w.heap.size 29 (prefC addr0 0) _ rfl hb9 Tryz.underlying29 rfl HU0.out) rfl ⟨by rw [HV.out]; rfl, (HM.out.put 0 rfl _ hg9 hb9).bel⟩
  replace HV := Lib.hid (HV.out.trans (if_neg (not_not_intro hn)))
  generalize splitB 47 l = ls at HV hn hp1 ho ⊢
  rw [hn] at ho ⊢
  obtain ⟨g, rfl⟩ := (own_addr ho).2.2 (by omega)
  obtain ⟨s0, s1, rfl⟩ : ∃ s0 s1, ls = [s0, s1] := by
    match ls, hn with
    | [a, b], _ => exact ⟨a, b, rfl⟩
  have hl0 := hp1 s0 (by simp)
  have hl1 := hp1 s1 (by simp)
  have fc0 : w2.cell? ⟨g, 0, none⟩ = some (.string ⟨s0.toArray⟩) := by have h := own_at ho 0 (strV s0) rfl; exact h
  have fc1 : w2.cell? ⟨g, 1, none⟩ = some (.string ⟨s1.toArray⟩) := by have h := own_at ho 1 (strV s1) rfl; rw [Nat.zero_add] at h; exact h
  have HGT := Lib.hid (own_top ho)
  simp only [List.getD_cons_zero, List.getD_cons_succ] at HV
  have HPA := Lib.hid (refParseAddr_any s0 hl0)
  have HPN := Lib.hid (fun W => refNumberT_any s1 3 (by omega) (by omega) W)
  have hn3 : (numP s1 3).1 < 1000 := by
    rw [numP]
    split
    · rename_i h
      have h1 := numV_lt s1 h.2
      have : 10 ^ s1.length ≤ 10 ^ 3 := Nat.pow_le_pow_right (by omega) h.1.2.1
      show numV s1 < 1000
      omega
    · show 0 < 1000; omega
  have hok := addrP_ok s0
  obtain ⟨r, hr⟩ : ∃ z, addrP s0 = z := ⟨_, rfl⟩
  rw [hr] at HPA HV hok
  obtain ⟨ra, re⟩ := r
  obtain ⟨nb, hnb⟩ : ∃ z, numP s1 3 = z := ⟨_, rfl⟩
  rw [hnb] at HPN HV hn3
  obtain ⟨q, okq⟩ := nb
  dsimp only at HPA HPN HV hok hn3
  obtain ⟨cr, hcr⟩ : ∃ z, ra.cells.toArray = z := ⟨_, rfl⟩
  have hbt := pref_built ra hok (q : Int)
  obtain ⟨cpx, hcpx⟩ : ∃ z, (prefC ra (q : Int)).toArray = z := ⟨_, rfl⟩
  rw [hcr, hcpx] at hbt
  rw [hcr] at HPA
  have HBT := Lib.hid hbt
  have HCR := Lib.hid hcr
  have HCP := Lib.hid hcpx
  have HU1 := Lib.hid (addr_cellsOf ra hok)
  have HUP := Lib.hid (pref_cellsOf ra hok (q : Int))
  have HVA := Lib.hid (refValid_any ra hok (q : Int) (by omega) (by omega))
  rw [hcpx] at HVA
  have HZA := Lib.hid (show addr0.cells.length = ra.cells.length from (AddrM.cells_length addr0_ok).trans (AddrM.cells_length hok).symm)
  have HZP := Lib.hid (show (prefC addr0 0).length = (prefC ra (q : Int)).length from (prefC_length addr0 addr0_ok 0).trans (prefC_length ra hok _).symm)
  clear hcr hcpx hbt hr hnb hl0 hl1 ho hp1 hq1 hn
  go_wp2_with fail
  refine (HPA.out _).mono ?_
  rintro e w3 ⟨rfl, hb⟩
  have fc2 := (hb.cell (p := ⟨g, 1, none⟩) HGT.out).trans fc1
  have hg3 : g < w3.heap.size := Nat.lt_of_lt_of_le HGT.out hb.size
  replace HM := Lib.hid (show Mem w [blkE w.heap.size 29 (prefC addr0 0)] w3 from HM.out.below hb)
  have HMZ := Lib.hid (show Mem w [blkE w3.heap.size 25 addr0.cells, blkE w.heap.size 29 (prefC addr0 0)] (w3.alloc (.cells #[.bool false, .int .u8 0, .int .u8 0, .int .u8 0, .int .u8 0, .int .u8 0, .int .u8 0, .int .u8 0, .int .u8 0, .int .u8 0, .int .u8 0, .int .u8 0, .int .u8 0, .int .u8 0, .int .u8 0, .int .u8 0, .int .u8 0] 25)) from HM.out.alloc rfl 25 #[.bool false, .int .u8 0, .int .u8 0, .int .u8 0, .int .u8 0, .int .u8 0, .int .u8 0, .int .u8 0, .int .u8 0, .int .u8 0, .int .u8 0, .int .u8 0, .int .u8 0, .int .u8 0, .int .u8 0, .int .u8 0, .int .u8 0] addr0.cells rfl)
  clear hb fc0 fc1 HM
  go_upto_region 5 with (refine wpList_store_blk rfl 25 (.tmp 5) (.tmp 21) rfl w3.heap.size ra.cells rfl (by show Value.agg cr = _; rw [HCR.out]) 25 addr0.cells (HMZ.out.blk 0 rfl) HU1.out HZA.out (AddrM.one _) ?_; intro w4 hb4 hg4)
  (try simp only [Act.put])
  have hm4 := HMZ.out.put 0 rfl _ hg4 hb4
  have fc3 := ((((Below.refl w3.heap.size w3).alloc (Nat.le_refl _) (.cells #[.bool false, .int .u8 0, .int .u8 0, .int .u8 0, .int .u8 0, .int .u8 0, .int .u8 0, .int .u8 0, .int .u8 0, .int .u8 0, .int .u8 0, .int .u8 0, .int .u8 0, .int .u8 0, .int .u8 0, .int .u8 0, .int .u8 0] 25)).grown hg4 (by simp) (by intro k hk; injection hk with hk; omega)).cell (p := ⟨g, 1, none⟩) hg3).trans fc2
  clear hb4 hg4 fc2 hg3 HMZ
  generalize w3.heap.size = gA at hm4 ⊢
  have HM := Lib.hid (show Mem w [blkE gA 25 ra.cells, blkE w.heap.size 29 (prefC addr0 0)] w4 from hm4)
  clear hm4
  go_wp2_with fail
  refine (HPN.out _).mono ?_
  rintro e w5 ⟨rfl, rfl⟩
  clear fc3
  have HMZ := Lib.hid (show Mem w [blkE w4.heap.size 29 (prefC addr0 0), blkE gA 25 ra.cells, blkE w.heap.size 29 (prefC addr0 0)] (w4.alloc (.cells #[.bool false, .int .u8 0, .int .u8 0, .int .u8 0, .int .u8 0, .int .u8 0, .int .u8 0, .int .u8 0, .int .u8 0, .int .u8 0, .int .u8 0, .int .u8 0, .int .u8 0, .int .u8 0, .int .u8 0, .int .u8 0, .int .u8 0, .int .i64 0] 29)) from HM.out.alloc rfl 29 #[.bool false, .int .u8 0, .int .u8 0, .int .u8 0, .int .u8 0, .int .u8 0, .int .u8 0, .int .u8 0, .int .u8 0, .int .u8 0, .int .u8 0, .int .u8 0, .int .u8 0, .int .u8 0, .int .u8 0, .int .u8 0, .int .u8 0, .int .i64 0] (prefC addr0 0) rfl)
  go_upto_region 7 with (first | (refine wpList_load_obj rfl 25 (.tmp 5) rfl gA 0 rfl ra.cells (HM.out.blk 0 rfl).all _ Tryz.underlying25 rfl HU1.out ?_; rw [HCR.out]) | (refine wpList_build_as rfl 29 [(0, .tmp 30), (1, .tmp 31)] rfl cpx ?_ ?_; exact HBT.out) | (refine wpList_store_blk rfl 29 (.tmp 9) (.tmp 32) rfl w4.heap.size (prefC ra (q : Int)) rfl (by show Value.agg cpx = _; rw [HCP.out]) 29 (prefC addr0 0) (HMZ.out.blk 0 rfl) HUP.out HZP.out (prefC_one _ _) ?_; intro w6 hb6 hg6))
  (try simp only [Act.put])
  have hm6 := HMZ.out.put 0 rfl _ hg6 hb6
  clear hb6 hg6 HMZ HM
  generalize w4.heap.size = gP at hm6 ⊢
  have HM := Lib.hid (show Mem w [blkE gP 29 (prefC ra (q : Int)), blkE gA 25 ra.cells, blkE w.heap.size 29 (prefC addr0 0)] w6 from hm6)
  clear hm6
  by_cases he : re = 0
  case neg =>
    replace HV := Lib.hid (HV.out.trans (if_pos (.inl he)))
    have e1 : ((re : Int) != 0) = true := by rw [bne_iff_ne]; omega
    clear he
    go_wp2_with (first | (refine wpList_build_as rfl 29 [] rfl #[.bool false, .int .u8 0, .int .u8 0, .int .u8 0, .int .u8 0, .int .u8 0, .int .u8 0, .int .u8 0, .int .u8 0, .int .u8 0, .int .u8 0, .int .u8 0, .int .u8 0, .int .u8 0, .int .u8 0, .int .u8 0, .int .u8 0, .int .i64 0] ?_ ?_; kernel_rfl) | (refine wpList_store_blk rfl 29 (.tmp 2) (.tmp 44) rfl w.heap.size (prefC addr0 0) rfl (by rfl) 29 (prefC addr0 0) (HM.out.blk 2 rfl) HU0.out rfl (prefC_one addr0 0) ?_; intro w9 hb9 hg9))
    exact bodyPost_ret (results_obj_tmp rfl _ _ w.heap.size 29 (prefC addr0 0) _ rfl hb9 Tryz.underlying29 rfl HU0.out) rfl ⟨by rw [HV.out]; rfl, (HM.out.put 2 rfl _ hg9 hb9).bel⟩
  subst he
  cases okq
  case false =>
    replace HV := Lib.hid (HV.out.trans (if_pos (.inr (.inl rfl))))
    go_wp2_with (first | (refine wpList_build_as rfl 29 [] rfl #[.bool false, .int .u8 0, .int .u8 0, .int .u8 0, .int .u8 0, .int .u8 0, .int .u8 0, .int .u8 0, .int .u8 0, .int .u8 0, .int .u8 0, .int .u8 0, .int .u8 0, .int .u8 0, .int .u8 0, .int .u8 0, .int .u8 0, .int .i64 0] ?_ ?_; kernel_rfl) | (refine wpList_store_blk rfl 29 (.tmp 2) (.tmp 44) rfl w.heap.size (prefC addr0 0) rfl (by rfl) 29 (prefC addr0 0) (HM.out.blk 2 rfl) HU0.out rfl (prefC_one addr0 0) ?_; intro w9 hb9 hg9))
    exact bodyPost_ret (results_obj_tmp rfl _ _ w.heap.size 29 (prefC addr0 0) _ rfl hb9 Tryz.underlying29 rfl HU0.out) rfl ⟨by rw [HV.out]; rfl, (HM.out.put 2 rfl _ hg9 hb9).bel⟩
  go_wp2_with (refine wpList_load_obj_g (by rfl) 29 (.tmp 9) rfl gP 0 rfl (prefC ra (q : Int)) (HM.out.blk 0 rfl).all _ Tryz.underlying29 rfl HUP.out ?_)
  rw [HCP.out]
  refine (HVA.out _).mono ?_
  rintro e w7 ⟨rfl, hb⟩
  replace HM := Lib.hid (show Mem w [blkE gP 29 (prefC ra (q : Int)), blkE gA 25 ra.cells, blkE w.heap.size 29 (prefC addr0 0)] w7 from HM.out.below hb)
  clear hb
  cases hvv : validM ra (q : Int)
  case false =>
    replace HV := Lib.hid (HV.out.trans (if_pos (.inr (.inr hvv))))
    clear hvv
    go_wp2_with (first | (refine wpList_build_as rfl 29 [] rfl #[.bool false, .int .u8 0, .int .u8 0, .int .u8 0, .int .u8 0, .int .u8 0, .int .u8 0, .int .u8 0, .int .u8 0, .int .u8 0, .int .u8 0, .int .u8 0, .int .u8 0, .int .u8 0, .int .u8 0, .int .u8 0, .int .u8 0, .int .i64 0] ?_ ?_; kernel_rfl) | (refine wpList_store_blk rfl 29 (.tmp 2) (.tmp 44) rfl w.heap.size (prefC addr0 0) rfl (by rfl) 29 (prefC addr0 0) (HM.out.blk 2 rfl) HU0.out rfl (prefC_one addr0 0) ?_; intro w9 hb9 hg9))
    exact bodyPost_ret (results_obj_tmp rfl _ _ w.heap.size 29 (prefC addr0 0) _ rfl hb9 Tryz.underlying29 rfl HU0.out) rfl ⟨by rw [HV.out]; rfl, (HM.out.put 2 rfl _ hg9 hb9).bel⟩
  replace HV := Lib.hid (HV.out.trans (if_neg (by rw [hvv]; simp)))
  clear hvv
  go_wp2_with (first | (refine wpList_load_obj rfl 29 (.tmp 9) rfl gP 0 rfl (prefC ra (q : Int)) (HM.out.blk 0 rfl).all _ Tryz.underlying29 rfl HUP.out ?_; rw [HCP.out]) | (refine wpList_store_blk rfl 29 (.tmp 2) (.tmp 45) rfl w.heap.size (prefC ra (q : Int)) rfl (by show Value.agg cpx = _; rw [HCP.out]) 29 (prefC addr0 0) (HM.out.blk 2 rfl) HUP.out HZP.out (prefC_one _ _) ?_; intro w9 hb9 hg9))
  exact bodyPost_ret (results_obj_tmp rfl _ _ w.heap.size 29 (prefC ra (q : Int)) _ rfl hb9 Tryz.underlying29 rfl HUP.out) rfl ⟨by rw [HV.out]; rfl, (HM.out.put 2 rfl _ hg9 hb9).bel⟩
end Go.Proofs.YtkhghmmgegkiiaaGreatDoor
namespace Go.Proofs.YtkhghmmgegkiiaaGreatDoor
open Go.RowKit

set_option maxRecDepth 100000 in
theorem refLast_any (l : List UInt8) (hl : l.length ≤ 1000000) (w : World) :
    Calls Tryz.prog 80 #[.string ⟨l.toArray⟩] w fun e w' => e = .returned (.int .i64 ((lastC l : Int) - 1)) ∧ w = w' := by
  obtain ⟨S, hS⟩ : ∃ S : ByteArray, ⟨l.toArray⟩ = S := ⟨_, rfl⟩
  have hsz : S.size = l.length := by rw [← hS]; exact text_size l
  have hat : ∀ i (h : i < S.size), S[i] = l.getD i 0 := by
    intro i h
    subst hS
    have hi : i < l.length := by rwa [text_size] at h
    rw [getD_lt hi]
    rfl
  rw [hS]
  have HAT := Lib.hid hat
  have HZ := Lib.hid hsz
  have hS6 : S.size ≤ 1000000 := by omega
  clear hS hat hsz
  go_enter Tryz.func80, Tryz.ntmps80
  go_wp2_with fail
  go_loopw [3, 4] (fun v i wr => ∃ j : Nat, j ≤ S.size ∧ i = .int .i64 (j : Int) ∧ v = .int .i64 ((lastC (l.take j) : Int) - 1) ∧ w = wr) (fun _ i _ => S.size - (intOf i).toNat)
  case atStart => exact ⟨0, by omega, rfl, rfl, rfl⟩
  case round =>
    obtain ⟨j, hj, rfl, rfl, rfl⟩ := hrel
    by_cases hlt : j < S.size
    · obtain ⟨c, hc⟩ : ∃ c, l.getD j 0 = c := ⟨_, rfl⟩
      have hI : ∀ h, S[(j : Int).toNat]'h = c := fun h => by rw [HAT.out, ← hc]; congr 1
      have hI' : ∀ h, S[j]'h = c := fun h => by rw [HAT.out, ← hc]
      have hb := c.toNat_lt
      have hlj : j < l.length := by have := HZ.out; omega
      have htk : l.take (j + 1) = l.take j ++ [c] := by
        rw [List.take_add_one, List.getElem?_eq_getElem hlj, Option.toList_some, ← hc, List.getD_eq_getElem?_getD, List.getElem?_eq_getElem hlj]
        rfl
      have hn : lastC (l.take (j + 1)) = if c = 58 then j + 1 else lastC (l.take j) := by
        rw [htk, last_snoc, List.length_take, Nat.min_eq_left (Nat.le_of_lt hlj)]
      have HN := Lib.hid hn
      by_cases h58 : c = 58
      · have e1 : ((c.toNat : Int) == 58) = true := by rw [h58]; rfl
        have HN2 := Lib.hid (show ((lastC (l.take (j + 1)) : Nat) : Int) - 1 = (j : Int) from by rw [HN.out, if_pos h58]; omega)
        clear hc htk hn h58
        go_wp2
        go_roundw
        case rel => exact ⟨j + 1, by omega, by go_num, by rw [HN2.out], by first | rfl | trivial⟩
        case measure => simp [intOf]; omega
      · have e1 : ((c.toNat : Int) == 58) = false := by
          rw [beq_eq_false_iff_ne]
          intro e
          exact h58 (UInt8.toNat_inj.1 (by show c.toNat = 58; omega))
        have HN2 := Lib.hid (show lastC (l.take (j + 1)) = lastC (l.take j) from by rw [HN.out, if_neg h58])
        clear hc htk hn h58
        go_wp2
        go_roundw
        case rel => exact ⟨j + 1, by omega, by go_num, by rw [HN2.out], by first | rfl | trivial⟩
        case measure => simp [intOf]; omega
    · have hje : l.take j = l := List.take_of_length_le (by have := HZ.out; omega)
      have HE := Lib.hid hje
      clear hje
      go_wp2
      go_ret
      exact ⟨by rw [HE.out]; rfl, rfl⟩
end Go.Proofs.YtkhghmmgegkiiaaGreatDoor
namespace Go.Proofs.YtkhghmmgegkiiaaGreatDoor
open Go.RowKit

end Go.Proofs.YtkhghmmgegkiiaaGreatDoor
