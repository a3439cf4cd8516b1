/-
  Pieces of an address's text: mathematics. Pieces of an address's text of version 6: mathematics. What a text of an address stands for is an address. What texts of endpoints and prefixes stand for. The contract of config's parseFour. The contract of config's parseSix. The contract of config's ParseAddr. The contract of config's ParsePrefix. An endpoint that is built of its parts. The contract of config's ParseEndpoint. What is asked of config's functions that read and write addresses holds of the landed code. The contracts of config's require and must where nothing is wrong. The contract of config's readInterface on entries that it accepts. The contract of the parser's endSection where nothing is missing. The contract of the parser's readEntry in the section of the interface. No statement is proved here.
-/
import Derived.Deep.DeepCutAuto
import Derived.RegionTactic
import Derived.Laws.Cover3
import Derived.Test.YtcbfchkhbngpkaaGreatDoorConfigReturnsB6
namespace Go.Proofs.YtcbfchkhbngpkaaGreatDoor
open Go.RowKit

/-- the bytes of the first parts of a text -/
def fourIp (ls : List (List UInt8)) (j : Nat) : List UInt8 := ((ls.take j).map fun s => UInt8.ofNat (numP s 3).1) ++ List.replicate (16 - j) 0
theorem four_set (ls : List (List UInt8)) (j : Nat) (h : j < ls.length) (h16 : j < 16) : (fourIp ls j).set j (UInt8.ofNat (numP (ls.getD j []) 3).1) = fourIp ls (j + 1) := by
  have hl : ((ls.take j).map fun s => UInt8.ofNat (numP s 3).1).length = j := by rw [List.length_map, List.length_take]; omega
  rw [fourIp, List.set_append_right _ _ (by omega), hl, Nat.sub_self, show 16 - j = (15 - j) + 1 from by omega, List.replicate_succ, List.set_cons_zero, fourIp, List.take_add_one, List.getElem?_eq_getElem h, Option.toList_some, List.map_append, List.getD_eq_getElem?_getD, List.getElem?_eq_getElem h, show 16 - (j + 1) = 15 - j from by omega]
  simp
theorem all_take_ls (p : List UInt8 → Bool) (ls : List (List UInt8)) (j : Nat) (h : j < ls.length) : (ls.take (j + 1)).all p = ((ls.take j).all p && p (ls.getD j [])) := by
  rw [List.take_add_one, List.getElem?_eq_getElem h, Option.toList_some, List.all_append, List.getD_eq_getElem?_getD, List.getElem?_eq_getElem h]
  simp
theorem all_not {p : List UInt8 → Bool} {ls : List (List UInt8)} {j : Nat} (h : j < ls.length) (hp : p (ls.getD j []) = false) : ls.all p = false := by
  cases ha : ls.all p with
  | false => rfl
  | true =>
    have := List.all_eq_true.1 ha (ls.getD j []) (by rw [List.getD_eq_getElem?_getD, List.getElem?_eq_getElem h]; exact List.getElem_mem _)
    rw [hp] at this
    cases this
end Go.Proofs.YtcbfchkhbngpkaaGreatDoor
namespace Go.Proofs.YtcbfchkhbngpkaaGreatDoor
open Go.RowKit

/-- the bytes of the first parts of a text -/
def sixIp (ls : List (List UInt8)) (j : Nat) : List UInt8 := ((ls.take j).flatMap fun s => [UInt8.ofNat (hexN s / 256), UInt8.ofNat (hexN s % 256)]) ++ List.replicate (16 - 2 * j) 0
theorem two_flat (ls : List (List UInt8)) : (ls.flatMap fun s => [UInt8.ofNat (hexN s / 256), UInt8.ofNat (hexN s % 256)]).length = 2 * ls.length := by
  induction ls with
  | nil => rfl
  | cons a r ih => rw [List.flatMap_cons, List.length_append, ih]; simp only [List.length_cons, List.length_nil]; omega
theorem sixIp_length (ls : List (List UInt8)) (j : Nat) (h : j ≤ ls.length) (h8 : j ≤ 8) : (sixIp ls j).length = 16 := by
  rw [sixIp, List.length_append, two_flat, List.length_take, List.length_replicate]; omega
theorem six_set (ls : List (List UInt8)) (j : Nat) (h : j < ls.length) (h8 : j < 8) : ((sixIp ls j).set (2 * j) (UInt8.ofNat (hexN (ls.getD j []) / 256))).set (2 * j + 1) (UInt8.ofNat (hexN (ls.getD j []) % 256)) = sixIp ls (j + 1) := by
  have hl : ((ls.take j).flatMap fun s => [UInt8.ofNat (hexN s / 256), UInt8.ofNat (hexN s % 256)]).length = 2 * j := by rw [two_flat, List.length_take]; omega
  rw [sixIp, List.set_append_right _ _ (by omega), hl, Nat.sub_self, List.set_append_right _ _ (by omega), hl, show 2 * j + 1 - 2 * j = 1 from by omega, show 16 - 2 * j = (14 - 2 * j) + 1 + 1 from by omega, List.replicate_succ, List.replicate_succ, List.set_cons_zero, List.set_cons_succ, List.set_cons_zero, sixIp, List.take_add_one, List.getElem?_eq_getElem h, Option.toList_some, List.flatMap_append, List.getD_eq_getElem?_getD, List.getElem?_eq_getElem h, show 16 - 2 * (j + 1) = 14 - 2 * j from by omega]
  simp
end Go.Proofs.YtcbfchkhbngpkaaGreatDoor
namespace Go.Proofs.YtcbfchkhbngpkaaGreatDoor
open Go.RowKit

theorem four_ok (ls : List (List UInt8)) (h : ls.length = 4) : (fourP ls).1.ok := by
  rw [fourP]
  split
  · show ((ls.map _) ++ _).length = 16
    rw [List.length_append, List.length_map, List.length_replicate, h]
  · exact addr0_ok
theorem six_ok (ls : List (List UInt8)) (h : ls.length = 8) : (sixP ls).1.ok := by
  rw [sixP]
  split
  · show (ls.flatMap _).length = 16
    rw [two_flat, h]
  · exact addr0_ok
theorem addrP_ok (l : List UInt8) : (addrP l).1.ok := by
  rw [addrP]
  split
  · exact four_ok _ (by assumption)
  · split
    · exact six_ok _ (by assumption)
    · exact addr0_ok
end Go.Proofs.YtcbfchkhbngpkaaGreatDoor
namespace Go.Proofs.YtcbfchkhbngpkaaGreatDoor
open Go.RowKit

theorem endP_one (inner : List UInt8) (b : Bool) (n : Nat × Bool) (r : (AddrM × Nat) × Nat) (hr : r = if (addrP inner).2 ≠ 0 ∨ (addrP inner).1.six ≠ b ∨ n.2 = false ∨ n.1 < 1 ∨ 65535 < n.1 then ((addr0, 0), 5) else (((addrP inner).1, n.1), 0)) : r.1.1.ok ∧ r.1.2 ≤ 65535 := by
  by_cases h : (addrP inner).2 ≠ 0 ∨ (addrP inner).1.six ≠ b ∨ n.2 = false ∨ n.1 < 1 ∨ 65535 < n.1
  · rw [if_pos h] at hr
    subst hr
    exact ⟨addr0_ok, Nat.zero_le _⟩
  · rw [if_neg h] at hr
    subst hr
    refine ⟨addrP_ok _, ?_⟩
    show n.1 ≤ 65535
    omega
theorem endP_ok (l : List UInt8) : (endP l).1.1.ok ∧ (endP l).1.2 ≤ 65535 := by
  rw [endP]
  dsimp only
  by_cases h : lastC l < 2
  · rw [if_pos h]
    exact ⟨addr0_ok, Nat.zero_le _⟩
  · rw [if_neg h]
    exact endP_one _ _ _ _ rfl
theorem numP_lt (l : List UInt8) (k : Nat) : (numP l k).1 < 10 ^ k := by
  rw [numP]
  split
  · rename_i h
    have h1 := numV_lt l h.2
    exact Nat.lt_of_lt_of_le h1 (Nat.pow_le_pow_right (by omega) h.1.2.1)
  · exact Nat.pos_of_ne_zero (by simp)
theorem prefP_ok (l : List UInt8) : (prefP l).1.1.ok ∧ (prefP l).1.2 ≤ 1000 := by
  have hn := numP_lt ((splitB 47 l).getD 1 []) 3
  have ha := addrP_ok ((splitB 47 l).getD 0 [])
  rw [prefP]
  dsimp only
  generalize addrP ((splitB 47 l).getD 0 []) = r at ha ⊢
  generalize numP ((splitB 47 l).getD 1 []) 3 = n at hn ⊢
  by_cases h : (splitB 47 l).length ≠ 2
  · rw [if_pos h]
    exact ⟨addr0_ok, Nat.zero_le _⟩
  · rw [if_neg h]
    by_cases h2 : r.2 ≠ 0 ∨ n.2 = false ∨ validM r.1 (n.1 : Int) = false
    · rw [if_pos h2]
      exact ⟨addr0_ok, Nat.zero_le _⟩
    · rw [if_neg h2]
      exact ⟨ha, show n.1 ≤ 1000 from by omega⟩
end Go.Proofs.YtcbfchkhbngpkaaGreatDoor
namespace Go.Proofs.YtcbfchkhbngpkaaGreatDoor
open Go.RowKit

set_option maxRecDepth 100000 in
set_option maxHeartbeats 8000000 in
theorem parseFour_any (l : List UInt8) (hl : l.length ≤ 100000) (R : AddrM × Nat) (hR : R = if (partsN 46 4 l).length = 4 then fourP (partsN 46 4 l) else (addr0, 5)) (w : World) (hlv : LvCf w) :
    Calls Tryz.prog 87 #[.string ⟨l.toArray⟩] w fun e w' => e = .returned (.tuple #[.agg R.1.cells.toArray, .int .i64 (R.2 : Int)]) ∧ Below w.heap.size w w' := by
  have HLV := Lib.hid hlv
  have HSN := Lib.hid (fun W h => splitN_c l 46 4 (by omega) (by omega) (by omega) W h)
  have hpl := parts_part 46 4 l
  have hps := parts_size 46 4 (by omega) l
  generalize partsN 46 4 l = ls at HSN hpl hps hR
  have HLEN := Lib.hid (show ∀ s ∈ ls, s.length ≤ 100000 from fun s hs => Nat.le_trans (hpl s hs) hl)
  have HR := Lib.hid hR
  obtain ⟨S, hS⟩ : ∃ S : ByteArray, ⟨l.toArray⟩ = S := ⟨_, rfl⟩
  rw [hS] at HSN ⊢
  have HU0 := Lib.hid (show (Tryz.prog.info? 53).map (·.size) = some addr0.cells.length from by kernel_rfl)
  have HM := Lib.hid (show Mem w [blkE w.heap.size 53 addr0.cells] (w.alloc (.cells #[.bool false, .int .u8 0, .int .u8 0, .int .u8 0, .int .u8 0, .int .u8 0, .int .u8 0, .int .u8 0, .int .u8 0, .int .u8 0, .int .u8 0, .int .u8 0, .int .u8 0, .int .u8 0, .int .u8 0, .int .u8 0, .int .u8 0] 53)) from (Mem.nil w).alloc rfl 53 #[.bool false, .int .u8 0, .int .u8 0, .int .u8 0, .int .u8 0, .int .u8 0, .int .u8 0, .int .u8 0, .int .u8 0, .int .u8 0, .int .u8 0, .int .u8 0, .int .u8 0, .int .u8 0, .int .u8 0, .int .u8 0, .int .u8 0] addr0.cells rfl)
  clear hlv hpl hR hS hl
  go_enter Tryz.func87, Tryz.ntmps87
  go_upto_region 1 with fail
  generalize w.alloc (.cells #[.bool false, .int .u8 0, .int .u8 0, .int .u8 0, .int .u8 0, .int .u8 0, .int .u8 0, .int .u8 0, .int .u8 0, .int .u8 0, .int .u8 0, .int .u8 0, .int .u8 0, .int .u8 0, .int .u8 0, .int .u8 0, .int .u8 0] 53) = w1 at HM ⊢
  go_wp2_with fail
  refine (HSN.out _ (HLV.out.below HM.out.bel)).mono ?_
  rintro e w2 ⟨g, c, rfl, hc1, hc2, hat, hg, hb⟩
  replace HM := Lib.hid (HM.out.below hb)
  have HAT := Lib.hid hat
  have HG := Lib.hid hg
  clear hat hg hb HSN
  obtain ⟨n, hn⟩ : ∃ n, ls.length = n := ⟨_, rfl⟩
  rw [hn] at HR hps hc1 ⊢
  by_cases h4 : n = 4
  rotate_left
  · replace HR := Lib.hid (HR.out.trans (if_neg h4))
    have hne : ¬ (n : Int) = 4 := by omega
    clear hn
    go_wp2_with (first | (refine wpList_build_as rfl 53 [] rfl #[.bool false, .int .u8 0, .int .u8 0, .int .u8 0, .int .u8 0, .int .u8 0, .int .u8 0, .int .u8 0, .int .u8 0, .int .u8 0, .int .u8 0, .int .u8 0, .int .u8 0, .int .u8 0, .int .u8 0, .int .u8 0, .int .u8 0] ?_ ?_; kernel_rfl) | (refine wpList_store_blk rfl 53 (.tmp 2) (.tmp 15) rfl w.heap.size addr0.cells rfl (by rfl) 53 addr0.cells (HM.out.blk 0 rfl) HU0.out rfl (AddrM.one _) ?_; intro w9 hb9 hg9))
    exact bodyPost_ret (results_obj_tmp rfl _ _ w.heap.size 53 addr0.cells _ rfl hb9 Tryz.underlying53 rfl HU0.out) rfl ⟨by rw [HR.out]; rfl, (HM.out.put 0 rfl _ hg9 hb9).bel⟩
  subst h4
  replace HR := Lib.hid (show R = if ls.all fourOk = true then (⟨false, (ls.map fun s => UInt8.ofNat (numP s 3).1) ++ List.replicate 12 0⟩, 0) else (addr0, 5) from HR.out.trans (if_pos rfl))
  have HL := Lib.hid hn
  clear hn hps hc1
  have hm3 : Mem w [blkE w2.heap.size 53 (AddrM.mk false (fourIp ls 0)).cells, blkE w.heap.size 53 addr0.cells] (w2.alloc (.cells #[.bool false, .int .u8 0, .int .u8 0, .int .u8 0, .int .u8 0, .int .u8 0, .int .u8 0, .int .u8 0, .int .u8 0, .int .u8 0, .int .u8 0, .int .u8 0, .int .u8 0, .int .u8 0, .int .u8 0, .int .u8 0, .int .u8 0] 53)) := HM.out.alloc rfl 53 #[.bool false, .int .u8 0, .int .u8 0, .int .u8 0, .int .u8 0, .int .u8 0, .int .u8 0, .int .u8 0, .int .u8 0, .int .u8 0, .int .u8 0, .int .u8 0, .int .u8 0, .int .u8 0, .int .u8 0, .int .u8 0, .int .u8 0] (AddrM.mk false (fourIp ls 0)).cells rfl
  have hb3 : Below w2.heap.size w2 (w2.alloc (.cells #[.bool false, .int .u8 0, .int .u8 0, .int .u8 0, .int .u8 0, .int .u8 0, .int .u8 0, .int .u8 0, .int .u8 0, .int .u8 0, .int .u8 0, .int .u8 0, .int .u8 0, .int .u8 0, .int .u8 0, .int .u8 0, .int .u8 0] 53)) := (Below.refl _ _).alloc (Nat.le_refl _) _
  go_upto_region 5 with fail
  generalize w2.alloc (.cells #[.bool false, .int .u8 0, .int .u8 0, .int .u8 0, .int .u8 0, .int .u8 0, .int .u8 0, .int .u8 0, .int .u8 0, .int .u8 0, .int .u8 0, .int .u8 0, .int .u8 0, .int .u8 0, .int .u8 0, .int .u8 0, .int .u8 0] 53) = w3 at hm3 hb3 ⊢
  replace HM := Lib.hid hm3
  have HB := Lib.hid hb3
  clear hm3 hb3
  go_wp2_with fail
  go_loopw [18] (fun i wr => ∃ j : Nat, j ≤ 4 ∧ i = .int .i64 (j : Int) ∧ Hid ((ls.take j).all fourOk = true) ∧ Mem w [blkE w2.heap.size 53 (AddrM.mk false (fourIp ls j)).cells, blkE w.heap.size 53 addr0.cells] wr ∧ Below w2.heap.size w2 wr) (fun i _ => 4 - (intOf i).toNat)
  case atStart => exact ⟨0, by omega, rfl, Lib.hid rfl, HM.out, HB.out⟩
  case round =>
    obtain ⟨j, hj, rfl, hall, hM, hB⟩ := hrel
    replace HM := Lib.hid hM
    replace HB := Lib.hid hB
    clear hM hB
    by_cases hlt : j < 4
    · have hjl : j < ls.length := by have := HL.out; omega
      obtain ⟨s, hs⟩ : ∃ z, ls.getD j [] = z := ⟨_, rfl⟩
      have hcell : wr.cell? ⟨g, j, none⟩ = some (.string ⟨s.toArray⟩) := by
        have h := HAT.out j (.string ⟨s.toArray⟩) (by rw [List.getElem?_map, List.getElem?_eq_getElem hjl, ← hs, List.getD_eq_getElem?_getD, List.getElem?_eq_getElem hjl]; rfl)
        rw [Nat.zero_add] at h
        exact (HB.out.cell (p := ⟨g, j, none⟩) HG.out).trans h
      have hsl : s.length ≤ 100000 := HLEN.out s (by rw [← hs, List.getD_eq_getElem?_getD, List.getElem?_eq_getElem hjl]; exact List.getElem_mem _)
      have HALL := Lib.hid (show (ls.take (j + 1)).all fourOk = fourOk s from by rw [all_take_ls fourOk ls j hjl, hall.out, hs, Bool.true_and])
      have HNOT := Lib.hid (fun h : fourOk s = false => all_not (p := fourOk) hjl (by rw [hs]; exact h))
      have hnc := number_any s (by omega) wr (HLV.out.below HM.out.bel)
      have hfo := fourOk_ten s
      have HSET := Lib.hid (fun h : fourOk s = true => show (fourIp ls j).set j (UInt8.ofNat (numP s 10).1) = fourIp ls (j + 1) from by rw [four_ten s h, ← hs]; exact four_set ls j hjl (by omega))
      have hlt10 := numP_lt s 10
      generalize hn : numP s 10 = nb at hnc HSET hfo hlt10
      obtain ⟨n, ok⟩ := nb
      dsimp only at hfo HSET hnc hlt10
      have hjj : (0 : Int) ≤ (j : Int) := by omega
      clear hs hn
      cases ok
      · rw [show okN false = 5 from rfl] at hnc
        have HNC := Lib.hid hnc
        have HNO := Lib.hid (show ¬ ls.all fourOk = true from by rw [HNOT.out (by rw [hfo]; rfl)]; decide)
        clear hnc
        go_wp2_with fail
        refine HNC.out.mono ?_
        rintro e w5 ⟨rfl, hb⟩
        replace HM := Lib.hid (HM.out.below hb)
        clear hb hcell
        go_wp2_with (first | (refine wpList_build_as rfl 53 [] rfl #[.bool false, .int .u8 0, .int .u8 0, .int .u8 0, .int .u8 0, .int .u8 0, .int .u8 0, .int .u8 0, .int .u8 0, .int .u8 0, .int .u8 0, .int .u8 0, .int .u8 0, .int .u8 0, .int .u8 0, .int .u8 0, .int .u8 0] ?_ ?_; kernel_rfl) | (refine wpList_store_blk rfl 53 (.tmp 2) (.tmp 34) rfl w.heap.size addr0.cells rfl (by rfl) 53 addr0.cells (HM.out.blk 1 rfl) HU0.out rfl (AddrM.one _) ?_; intro w9 hb9 hg9))
        exact bodyPost_ret (results_obj_tmp rfl _ _ w.heap.size 53 addr0.cells _ rfl hb9 Tryz.underlying53 rfl HU0.out) rfl ⟨by rw [HR.out, if_neg HNO.out]; rfl, (HM.out.put 1 rfl _ hg9 hb9).bel⟩
      rw [show okN true = 0 from rfl] at hnc
      have HNC := Lib.hid hnc
      by_cases hbig : 255 < n
      · have HNO := Lib.hid (show ¬ ls.all fourOk = true from by rw [HNOT.out (by rw [hfo]; simp; omega)]; decide)
        clear hnc
        go_wp2_with fail
        refine HNC.out.mono ?_
        rintro e w5 ⟨rfl, hb⟩
        replace HM := Lib.hid (HM.out.below hb)
        clear hb hcell
        go_wp2_with (first | (refine wpList_build_as rfl 53 [] rfl #[.bool false, .int .u8 0, .int .u8 0, .int .u8 0, .int .u8 0, .int .u8 0, .int .u8 0, .int .u8 0, .int .u8 0, .int .u8 0, .int .u8 0, .int .u8 0, .int .u8 0, .int .u8 0, .int .u8 0, .int .u8 0, .int .u8 0] ?_ ?_; kernel_rfl) | (refine wpList_store_blk rfl 53 (.tmp 2) (.tmp 34) rfl w.heap.size addr0.cells rfl (by rfl) 53 addr0.cells (HM.out.blk 1 rfl) HU0.out rfl (AddrM.one _) ?_; intro w9 hb9 hg9))
        exact bodyPost_ret (results_obj_tmp rfl _ _ w.heap.size 53 addr0.cells _ rfl hb9 Tryz.underlying53 rfl HU0.out) rfl ⟨by rw [HR.out, if_neg HNO.out]; rfl, (HM.out.put 1 rfl _ hg9 hb9).bel⟩
      · have hok : fourOk s = true := by rw [hfo]; simp; omega
        have HOK := Lib.hid hok
        have hset := HSET.out hok
        obtain ⟨x, hx⟩ : ∃ z, UInt8.ofNat n = z := ⟨_, rfl⟩
        have hxn : IntKind.u8.wrap (n : Int) = (x.toNat : Int) := by rw [← hx, UInt8.toNat_ofNat', IntKind.wrap_u8']; omega
        rw [hx] at hset
        have HST := Lib.hid hset
        clear hx hnc hset hok
        go_wp2_with fail
        refine HNC.out.mono ?_
        rintro e w5 ⟨rfl, hb⟩
        replace HM := Lib.hid (HM.out.below hb)
        replace HB := Lib.hid (HB.out.trans (hb.mono HB.out.size))
        clear hb hcell
        have fx := (HM.out.blk 0 rfl).cell (1 + j)
        rw [AddrM.ip_cell _ (by show (fourIp ls j).length = 16; rw [fourIp, List.length_append, List.length_map, List.length_take, List.length_replicate]; have := HL.out; omega) j (by omega)] at fx
        have zx := (HM.out.blk 0 rfl).frozen (1 + j)
        go_wp2_with fail
        have hm := HM.out.setCell 0 rfl (1 + j) (.int .u8 (x.toNat : Int))
        have hmv : (AddrM.mk false (fourIp ls j)).cells.set (1 + j) (.int .u8 (x.toNat : Int)) = (AddrM.mk false (fourIp ls (j + 1))).cells := by rw [← HST.out]; exact AddrM.set_cell _ j x
        rw [hmv] at hm
        exact ⟨⟨j + 1, by omega, by go_num, Lib.hid (HALL.out.trans HOK.out), hm, HB.out.setCell (Nat.le_refl _) _⟩, by simp [intOf]; omega⟩
    · obtain rfl : j = 4 := by omega
      have HALL := Lib.hid (show ls.all fourOk = true from by have h := hall.out; rwa [List.take_of_length_le (by have := HL.out; omega)] at h)
      have HE := Lib.hid (show fourIp ls 4 = (ls.map fun s => UInt8.ofNat (numP s 3).1) ++ List.replicate 12 0 from by rw [fourIp, List.take_of_length_le (by have := HL.out; omega)])
      have hok4 : (AddrM.mk false (fourIp ls 4)).ok := by
        show (fourIp ls 4).length = 16
        rw [fourIp, List.length_append, List.length_map, List.length_take, List.length_replicate]
        have := HL.out
        omega
      have HU1 := Lib.hid (addr_cellsOf _ hok4)
      have HCL := Lib.hid (show addr0.cells.length = (AddrM.mk false (fourIp ls 4)).cells.length from (AddrM.cells_length addr0_ok).trans (AddrM.cells_length hok4).symm)
      obtain ⟨cz, hcz⟩ : ∃ z, (AddrM.mk false (fourIp ls 4)).cells.toArray = z := ⟨_, rfl⟩
      have HCZ := Lib.hid hcz
      clear hcz
      go_wp2_with (first | (refine wpList_load_obj rfl 53 (.tmp 5) rfl w2.heap.size 0 rfl (AddrM.mk false (fourIp ls 4)).cells (HM.out.blk 0 rfl).all _ Tryz.underlying53 rfl HU1.out ?_; rw [HCZ.out]) | (refine wpList_store_blk rfl 53 (.tmp 2) (.tmp 41) rfl w.heap.size (AddrM.mk false (fourIp ls 4)).cells rfl (by show Value.agg cz = _; rw [HCZ.out]) 53 addr0.cells (HM.out.blk 1 rfl) HU1.out HCL.out (AddrM.one _) ?_; intro w9 hb9 hg9))
      exact bodyPost_ret (results_obj_tmp rfl _ _ w.heap.size 53 (AddrM.mk false (fourIp ls 4)).cells _ rfl hb9 Tryz.underlying53 rfl HU1.out) rfl ⟨by rw [HR.out, if_pos HALL.out, ← HE.out]; rfl, (HM.out.put 1 rfl _ hg9 hb9).bel⟩
end Go.Proofs.YtcbfchkhbngpkaaGreatDoor
namespace Go.Proofs.YtcbfchkhbngpkaaGreatDoor
open Go.RowKit

theorem six_cells (ip : List UInt8) (h : ip.length = 16) (p : Nat) (hp : p + 1 < 16) (x y : UInt8) : (AddrM.mk true ip).cells.take (1 + p) ++ [x, y].map u8v ++ (AddrM.mk true ip).cells.drop (1 + p + ([x, y].map u8v).length) = (AddrM.mk true ((ip.set p x).set (p + 1) y)).cells := by
  have e : (ip.set p x).set (p + 1) y = ip.take p ++ [x, y] ++ ip.drop (p + 2) := by
    have h1 : (ip.take p).length = p := by rw [List.length_take]; omega
    have e0 : ip.set p x = ip.take p ++ x :: ip.drop (p + 1) := by rw [List.set_eq_take_append_cons_drop, if_pos (by omega)]
    rw [e0, List.set_append_right _ _ (by omega), h1, show p + 1 - p = 1 from by omega, List.set_cons_succ, List.drop_eq_getElem_cons (show p + 1 < ip.length by omega), List.set_cons_zero]
    simp
  rw [e]
  simp only [AddrM.cells, List.map_append, List.map_take, List.map_drop, List.length_map, List.length_cons, List.length_nil, List.append_assoc]
  rw [Nat.add_comm 1 p, List.take_succ_cons, show p + 1 + (0 + 1 + 1) = p + 2 + 1 from by omega, List.drop_succ_cons]
  simp
set_option maxRecDepth 100000 in
theorem array16_from (g p : Nat) (hp : p ≤ 15) (w : World) :
    (Instr.sliceAt 51 (.pointer (some ⟨g, 1, none⟩)) (some (.int .i64 (p : Int))) none none).run Tryz.prog w = .ok (.slice (some ⟨g, 1 + p, none⟩) (16 - p) (16 - p)) w := by
  have hs : (sizeOf 5).run Tryz.prog w = .ok 1 w := by
    obtain ⟨i0, hi, hz0, hz1, hz2⟩ := info_parts Tryz.info5
    simp [sizeOf, typeInfo, hi, hz1]
  have hl : Tryz.prog.arrayLen 51 = 16 := by kernel_rfl
  have he : Tryz.prog.elem 51 = 5 := by kernel_rfl
  rw [run_sliceAt_array_l (P := Tryz.prog) w 51 ⟨g, 1, none⟩ (by rw [hl, he]; exact Tryz.underlying51) .i64 (p : Int) (by omega) (by rw [hl]; omega), hl, he, hs]
  simp only [Result.andThen, slicedAt, Int.toNat_natCast, Go.WideShapes.add_plain, Nat.mul_one]
  rw [if_neg (by omega)]
set_option maxRecDepth 100000 in
set_option maxHeartbeats 8000000 in
theorem parseSix_any (l : List UInt8) (hl : l.length ≤ 100000) (R : AddrM × Nat) (hR : R = if (partsN 58 8 l).length = 8 then sixP (partsN 58 8 l) else (addr0, 5)) (w : World) (hlv : LvCf w) :
    Calls Tryz.prog 86 #[.string ⟨l.toArray⟩] w fun e w' => e = .returned (.tuple #[.agg R.1.cells.toArray, .int .i64 (R.2 : Int)]) ∧ Below w.heap.size w w' := by
  have HLV := Lib.hid hlv
  have HSN := Lib.hid (fun W h => splitN_c l 58 8 (by omega) (by omega) (by omega) W h)
  have hpl := parts_part 58 8 l
  have hps := parts_size 58 8 (by omega) l
  generalize partsN 58 8 l = ls at HSN hpl hps hR
  have HLEN := Lib.hid (show ∀ s ∈ ls, s.length ≤ 100000 from fun s hs => Nat.le_trans (hpl s hs) hl)
  have HR := Lib.hid hR
  obtain ⟨S, hS⟩ : ∃ S : ByteArray, ⟨l.toArray⟩ = S := ⟨_, rfl⟩
  rw [hS] at HSN ⊢
  have HU0 := Lib.hid (show (Tryz.prog.info? 53).map (·.size) = some addr0.cells.length from by kernel_rfl)
  have HM := Lib.hid (show Mem w [blkE w.heap.size 53 addr0.cells] (w.alloc (.cells #[.bool false, .int .u8 0, .int .u8 0, .int .u8 0, .int .u8 0, .int .u8 0, .int .u8 0, .int .u8 0, .int .u8 0, .int .u8 0, .int .u8 0, .int .u8 0, .int .u8 0, .int .u8 0, .int .u8 0, .int .u8 0, .int .u8 0] 53)) from (Mem.nil w).alloc rfl 53 #[.bool false, .int .u8 0, .int .u8 0, .int .u8 0, .int .u8 0, .int .u8 0, .int .u8 0, .int .u8 0, .int .u8 0, .int .u8 0, .int .u8 0, .int .u8 0, .int .u8 0, .int .u8 0, .int .u8 0, .int .u8 0, .int .u8 0] addr0.cells rfl)
  clear hlv hpl hR hS hl
  go_enter Tryz.func86, Tryz.ntmps86
  go_upto_region 1 with fail
  generalize w.alloc (.cells #[.bool false, .int .u8 0, .int .u8 0, .int .u8 0, .int .u8 0, .int .u8 0, .int .u8 0, .int .u8 0, .int .u8 0, .int .u8 0, .int .u8 0, .int .u8 0, .int .u8 0, .int .u8 0, .int .u8 0, .int .u8 0, .int .u8 0] 53) = w1 at HM ⊢
  go_wp2_with fail
  refine (HSN.out _ (HLV.out.below HM.out.bel)).mono ?_
  rintro e w2 ⟨g, c, rfl, hc1, hc2, hat, hg, hb⟩
  replace HM := Lib.hid (HM.out.below hb)
  have HAT := Lib.hid hat
  have HG := Lib.hid hg
  clear hat hg hb HSN
  obtain ⟨n, hn⟩ : ∃ n, ls.length = n := ⟨_, rfl⟩
  rw [hn] at HR hps hc1 ⊢
  by_cases h4 : n = 8
  rotate_left
  · replace HR := Lib.hid (HR.out.trans (if_neg h4))
    have hne : ¬ (n : Int) = 8 := by omega
    clear hn
    go_wp2_with (first | (refine wpList_build_as rfl 53 [] rfl #[.bool false, .int .u8 0, .int .u8 0, .int .u8 0, .int .u8 0, .int .u8 0, .int .u8 0, .int .u8 0, .int .u8 0, .int .u8 0, .int .u8 0, .int .u8 0, .int .u8 0, .int .u8 0, .int .u8 0, .int .u8 0, .int .u8 0] ?_ ?_; kernel_rfl) | (refine wpList_store_blk rfl 53 (.tmp 2) (.tmp 15) rfl w.heap.size addr0.cells rfl (by rfl) 53 addr0.cells (HM.out.blk 0 rfl) HU0.out rfl (AddrM.one _) ?_; intro w9 hb9 hg9))
    exact bodyPost_ret (results_obj_tmp rfl _ _ w.heap.size 53 addr0.cells _ rfl hb9 Tryz.underlying53 rfl HU0.out) rfl ⟨by rw [HR.out]; rfl, (HM.out.put 0 rfl _ hg9 hb9).bel⟩
  subst h4
  replace HR := Lib.hid (show R = if ls.all hxsOk = true then (⟨true, ls.flatMap fun s => [UInt8.ofNat (hexN s / 256), UInt8.ofNat (hexN s % 256)]⟩, 0) else (addr0, 5) from HR.out.trans (if_pos rfl))
  have HL := Lib.hid hn
  clear hn hps hc1
  have hbt : Tryz.prog.built 53 [(0, .bool true)] = some #[.bool true, .int .u8 0, .int .u8 0, .int .u8 0, .int .u8 0, .int .u8 0, .int .u8 0, .int .u8 0, .int .u8 0, .int .u8 0, .int .u8 0, .int .u8 0, .int .u8 0, .int .u8 0, .int .u8 0, .int .u8 0, .int .u8 0] := by kernel_rfl
  have HBT := Lib.hid hbt
  have HMZ := Lib.hid (show Mem w [blkE w2.heap.size 53 (AddrM.mk false (List.replicate 16 0)).cells, blkE w.heap.size 53 addr0.cells] (w2.alloc (.cells #[.bool false, .int .u8 0, .int .u8 0, .int .u8 0, .int .u8 0, .int .u8 0, .int .u8 0, .int .u8 0, .int .u8 0, .int .u8 0, .int .u8 0, .int .u8 0, .int .u8 0, .int .u8 0, .int .u8 0, .int .u8 0, .int .u8 0] 53)) from HM.out.alloc rfl 53 #[.bool false, .int .u8 0, .int .u8 0, .int .u8 0, .int .u8 0, .int .u8 0, .int .u8 0, .int .u8 0, .int .u8 0, .int .u8 0, .int .u8 0, .int .u8 0, .int .u8 0, .int .u8 0, .int .u8 0, .int .u8 0, .int .u8 0] (AddrM.mk false (List.replicate 16 0)).cells rfl)
  have hb3 : Below w2.heap.size w2 (w2.alloc (.cells #[.bool false, .int .u8 0, .int .u8 0, .int .u8 0, .int .u8 0, .int .u8 0, .int .u8 0, .int .u8 0, .int .u8 0, .int .u8 0, .int .u8 0, .int .u8 0, .int .u8 0, .int .u8 0, .int .u8 0, .int .u8 0, .int .u8 0] 53)) := (Below.refl _ _).alloc (Nat.le_refl _) _
  have HB3 := Lib.hid hb3
  clear hbt hb3
  go_upto_region 5 with (first | (refine wpList_build_as rfl 53 [(0, .const (.bool true))] rfl #[.bool true, .int .u8 0, .int .u8 0, .int .u8 0, .int .u8 0, .int .u8 0, .int .u8 0, .int .u8 0, .int .u8 0, .int .u8 0, .int .u8 0, .int .u8 0, .int .u8 0, .int .u8 0, .int .u8 0, .int .u8 0, .int .u8 0] ?_ ?_; exact HBT.out) | (refine wpList_store_blk rfl 53 (.tmp 5) (.tmp 16) rfl w2.heap.size (AddrM.mk true (sixIp ls 0)).cells rfl (by rfl) 53 (AddrM.mk false (List.replicate 16 0)).cells (HMZ.out.blk 0 rfl) (by kernel_rfl) rfl (AddrM.one _) ?_; intro w3 hb31 hg31))
  (try simp only [Act.put])
  have hm3 : Mem w [blkE w2.heap.size 53 (AddrM.mk true (sixIp ls 0)).cells, blkE w.heap.size 53 addr0.cells] w3 := HMZ.out.put 0 rfl _ hg31 hb31
  have hb3 : Below w2.heap.size w2 w3 := HB3.out.grown hg31 HB3.out.size (by intro q hq; injection hq with hq; omega)
  clear hb31 hg31 HB3 HMZ HBT
  replace HM := Lib.hid hm3
  have HB := Lib.hid hb3
  clear hm3 hb3
  go_wp2_with fail
  go_loopw [19] (fun i wr => ∃ j : Nat, j ≤ 8 ∧ i = .int .i64 (j : Int) ∧ Hid ((ls.take j).all hxsOk = true) ∧ Mem w [blkE w2.heap.size 53 (AddrM.mk true (sixIp ls j)).cells, blkE w.heap.size 53 addr0.cells] wr ∧ Below w2.heap.size w2 wr) (fun i _ => 8 - (intOf i).toNat)
  case atStart => exact ⟨0, by omega, rfl, Lib.hid rfl, HM.out, HB.out⟩
  case round =>
    obtain ⟨j, hj, rfl, hall, hM, hB⟩ := hrel
    replace HM := Lib.hid hM
    replace HB := Lib.hid hB
    clear hM hB
    by_cases hlt : j < 8
    · have hjl : j < ls.length := by have := HL.out; omega
      obtain ⟨s, hs⟩ : ∃ z, ls.getD j [] = z := ⟨_, rfl⟩
      have hcell : wr.cell? ⟨g, j, none⟩ = some (.string ⟨s.toArray⟩) := by
        have h := HAT.out j (.string ⟨s.toArray⟩) (by rw [List.getElem?_map, List.getElem?_eq_getElem hjl, ← hs, List.getD_eq_getElem?_getD, List.getElem?_eq_getElem hjl]; rfl)
        rw [Nat.zero_add] at h
        exact (HB.out.cell (p := ⟨g, j, none⟩) HG.out).trans h
      have hsl : s.length ≤ 100000 := HLEN.out s (by rw [← hs, List.getD_eq_getElem?_getD, List.getElem?_eq_getElem hjl]; exact List.getElem_mem _)
      have HALL := Lib.hid (show (ls.take (j + 1)).all hxsOk = hxsOk s from by rw [all_take_ls hxsOk ls j hjl, hall.out, hs, Bool.true_and])
      have HNOT := Lib.hid (fun h : hxsOk s = false => all_not (p := hxsOk) hjl (by rw [hs]; exact h))
      have hnc := hexNumber_any s (by omega) wr
      have HNC := Lib.hid hnc
      have HSET := Lib.hid (show ((sixIp ls j).set (2 * j) (UInt8.ofNat (hexN s / 256))).set (2 * j + 1) (UInt8.ofNat (hexN s % 256)) = sixIp ls (j + 1) from by rw [← hs]; exact six_set ls j hjl (by omega))
      have hjj : (0 : Int) ≤ (j : Int) := by omega
      clear hs hnc
      go_wp2_with fail
      refine HNC.out.mono ?_
      rintro e w5 (⟨hok, ⟨A, k, rfl, hrd⟩, hb⟩ | ⟨hno, rfl, hb⟩)
      rotate_left
      · have HNO := Lib.hid (show ¬ ls.all hxsOk = true from by rw [HNOT.out hno]; decide)
        replace HM := Lib.hid (HM.out.below hb)
        clear hb hcell hno
        go_wp2_with (first | (refine wpList_build_as rfl 53 [] rfl #[.bool false, .int .u8 0, .int .u8 0, .int .u8 0, .int .u8 0, .int .u8 0, .int .u8 0, .int .u8 0, .int .u8 0, .int .u8 0, .int .u8 0, .int .u8 0, .int .u8 0, .int .u8 0, .int .u8 0, .int .u8 0, .int .u8 0] ?_ ?_; kernel_rfl) | (refine wpList_store_blk rfl 53 (.tmp 2) (.tmp 31) rfl w.heap.size addr0.cells rfl (by rfl) 53 addr0.cells (HM.out.blk 1 rfl) HU0.out rfl (AddrM.one _) ?_; intro w9 hb9 hg9))
        exact bodyPost_ret (results_obj_tmp rfl _ _ w.heap.size 53 addr0.cells _ rfl hb9 Tryz.underlying53 rfl HU0.out) rfl ⟨by rw [HR.out, if_neg HNO.out]; rfl, (HM.out.put 1 rfl _ hg9 hb9).bel⟩
      · have HOK := Lib.hid hok
        replace HM := Lib.hid (HM.out.below hb)
        replace HB := Lib.hid (HB.out.trans (hb.mono HB.out.size))
        have HRD := Lib.hid hrd
        obtain ⟨p, hp⟩ : ∃ p, 2 * j = p := ⟨_, rfl⟩
        have hw1 : IntKind.i64.wrap (2 * (j : Int)) = (p : Int) := by rw [IntWalk.i64_in _ (by omega)]; omega
        have hsa := array16_from w2.heap.size p (by omega)
        have HP := Lib.hid hp
        obtain ⟨ad, rfl⟩ : ∃ ad, A = some ad := by
          obtain ⟨b, o, h, _⟩ := hrd.2 (by decide)
          exact ⟨_, h⟩
        obtain ⟨x, hx⟩ : ∃ x, UInt8.ofNat (hexN s / 256) = x := ⟨_, rfl⟩
        obtain ⟨y, hy⟩ : ∃ y, UInt8.ofNat (hexN s % 256) = y := ⟨_, rfl⟩
        rw [hx, hy] at HRD HSET
        clear hb hcell hok hrd hx hy hp
        have hmin : ([x, y].map u8v).length = Nat.min 2 (16 - p) := (Nat.min_eq_left (show 2 ≤ 16 - p by have := HP.out; omega)).symm
        have hfit : 1 + p + ([x, y].map u8v).length ≤ (AddrM.mk true (sixIp ls j)).cells.length := by
          rw [AddrM.cells_length (show (AddrM.mk true (sixIp ls j)).ok from sixIp_length ls j (by omega) hj)]
          have := HP.out
          simp only [List.length_map, List.length_cons, List.length_nil]
          omega
        go_wp2_with (refine wpList_copy_bytes _ rfl (.tmp 35) (.tmp 36) 22 22 rfl 5 Tryz.underlying22 (by kernel_rfl) w2.heap.size (1 + p) (16 - p) (16 - p) ad 2 k rfl rfl (AddrM.mk true (sixIp ls j)).cells 53 (HM.out.blk 0 rfl) ([x, y].map u8v) hmin HRD.out.src hfit (u8v_one _) ?_; intro w6 hb6 hg6)
        have hm := HM.out.put 0 rfl _ hg6 hb6
        have hcs : (AddrM.mk true (sixIp ls j)).cells.take (1 + p) ++ [x, y].map u8v ++ (AddrM.mk true (sixIp ls j)).cells.drop (1 + p + ([x, y].map u8v).length) = (AddrM.mk true (sixIp ls (j + 1))).cells := by
          rw [← HSET.out]
          rw [HP.out]
          exact six_cells _ (sixIp_length ls j (by omega) hj) p (by have := HP.out; omega) x y
        rw [hcs] at hm
        replace HM := Lib.hid hm
        replace HB := Lib.hid (HB.out.grown hg6 HB.out.size (by intro q hq; injection hq with hq; omega))
        clear hm hcs hb6 hg6
        go_wp2
        exact ⟨⟨j + 1, by omega, by go_num, Lib.hid (HALL.out.trans HOK.out), HM.out, HB.out⟩, by simp [intOf]; omega⟩
    · obtain rfl : j = 8 := by omega
      have HALL := Lib.hid (show ls.all hxsOk = true from by have h := hall.out; rwa [List.take_of_length_le (by have := HL.out; omega)] at h)
      have HE := Lib.hid (show sixIp ls 8 = ls.flatMap fun s => [UInt8.ofNat (hexN s / 256), UInt8.ofNat (hexN s % 256)] from by rw [sixIp, List.take_of_length_le (by have := HL.out; omega)]; simp)
      have hok4 : (AddrM.mk true (sixIp ls 8)).ok := sixIp_length ls 8 (by have := HL.out; omega) (by omega)
      have HU1 := Lib.hid (addr_cellsOf _ hok4)
      have HCL := Lib.hid (show addr0.cells.length = (AddrM.mk true (sixIp ls 8)).cells.length from (AddrM.cells_length addr0_ok).trans (AddrM.cells_length hok4).symm)
      obtain ⟨cz, hcz⟩ : ∃ z, (AddrM.mk true (sixIp ls 8)).cells.toArray = z := ⟨_, rfl⟩
      have HCZ := Lib.hid hcz
      clear hcz
      go_wp2_with (first | (refine wpList_load_obj rfl 53 (.tmp 5) rfl w2.heap.size 0 rfl (AddrM.mk true (sixIp ls 8)).cells (HM.out.blk 0 rfl).all _ Tryz.underlying53 rfl HU1.out ?_; rw [HCZ.out]) | (refine wpList_store_blk rfl 53 (.tmp 2) (.tmp 39) rfl w.heap.size (AddrM.mk true (sixIp ls 8)).cells rfl (by show Value.agg cz = _; rw [HCZ.out]) 53 addr0.cells (HM.out.blk 1 rfl) HU1.out HCL.out (AddrM.one _) ?_; intro w9 hb9 hg9))
      exact bodyPost_ret (results_obj_tmp rfl _ _ w.heap.size 53 (AddrM.mk true (sixIp ls 8)).cells _ rfl hb9 Tryz.underlying53 rfl HU1.out) rfl ⟨by rw [HR.out, if_pos HALL.out, ← HE.out]; rfl, (HM.out.put 1 rfl _ hg9 hb9).bel⟩
end Go.Proofs.YtcbfchkhbngpkaaGreatDoor
namespace Go.Proofs.YtcbfchkhbngpkaaGreatDoor
open Go.RowKit

set_option maxRecDepth 100000 in
set_option maxHeartbeats 4000000 in
theorem parseAddr_any (l : List UInt8) (hl : l.length ≤ 100000) (w : World) (hlv : LvCf w) :
    Calls Tryz.prog 66 #[.string ⟨l.toArray⟩] w fun e w' => e = .returned (.tuple #[.agg (addrP l).1.cells.toArray, .int .i64 ((addrP l).2 : Int)]) ∧ Below w.heap.size w w' := by
  have HLV := Lib.hid hlv
  have HCC := Lib.hid (contains_c l 58)
  have HM := Lib.hid (show Mem w [blkE w.heap.size 53 addr0.cells] (w.alloc (.cells #[.bool false, .int .u8 0, .int .u8 0, .int .u8 0, .int .u8 0, .int .u8 0, .int .u8 0, .int .u8 0, .int .u8 0, .int .u8 0, .int .u8 0, .int .u8 0, .int .u8 0, .int .u8 0, .int .u8 0, .int .u8 0, .int .u8 0] 53)) from (Mem.nil w).alloc rfl 53 #[.bool false, .int .u8 0, .int .u8 0, .int .u8 0, .int .u8 0, .int .u8 0, .int .u8 0, .int .u8 0, .int .u8 0, .int .u8 0, .int .u8 0, .int .u8 0, .int .u8 0, .int .u8 0, .int .u8 0, .int .u8 0, .int .u8 0] addr0.cells rfl)
  obtain ⟨S, hS⟩ : ∃ S : ByteArray, ⟨l.toArray⟩ = S := ⟨_, rfl⟩
  rw [hS] at HCC ⊢
  clear hlv
  go_enter Tryz.func66, Tryz.ntmps66
  go_upto_region 1 with fail
  generalize w.alloc (.cells #[.bool false, .int .u8 0, .int .u8 0, .int .u8 0, .int .u8 0, .int .u8 0, .int .u8 0, .int .u8 0, .int .u8 0, .int .u8 0, .int .u8 0, .int .u8 0, .int .u8 0, .int .u8 0, .int .u8 0, .int .u8 0, .int .u8 0] 53) = w1 at HM ⊢
  go_wp2_with fail
  refine (HCC.out _).mono ?_
  rintro e w2 ⟨rfl, hb⟩
  replace HM := Lib.hid (show Mem w [blkE w.heap.size 53 addr0.cells] w2 from HM.out.below hb)
  clear hb HCC
  by_cases hc : (58 : UInt8) ∈ l
  · rw [decide_eq_true hc]
    have hr := parseSix_any l hl (addrP l) (addrP_six l hc)
    obtain ⟨r, hrr⟩ : ∃ z, addrP l = z := ⟨_, rfl⟩
    have hok := addrP_ok l
    rw [hrr] at hr hok
    obtain ⟨ra, re⟩ := r
    have HU1 := Lib.hid (addr_cellsOf ra hok)
    have HCL := Lib.hid (show addr0.cells.length = ra.cells.length from (AddrM.cells_length addr0_ok).trans (AddrM.cells_length hok).symm)
    obtain ⟨cr, hcr⟩ : ∃ z, ra.cells.toArray = z := ⟨_, rfl⟩
    dsimp only at hr
    rw [hcr, hS] at hr
    have HPR := Lib.hid hr
    have HCR := Lib.hid hcr
    have HRR := Lib.hid hrr
    clear hr hcr hrr hok hc hS
    go_wp2_with fail
    refine (HPR.out _ (HLV.out.below HM.out.bel)).mono ?_
    rintro e w5 ⟨rfl, hb⟩
    replace HM := Lib.hid (show Mem w [blkE w.heap.size 53 addr0.cells] w5 from HM.out.below hb)
    clear hb
    go_wp2_with (refine wpList_store_blk rfl 53 (.tmp 2) (.tmp 8) rfl w.heap.size ra.cells rfl (by show Value.agg cr = _; rw [HCR.out]) 53 addr0.cells (HM.out.blk 0 rfl) HU1.out HCL.out (AddrM.one _) ?_; intro w9 hb9 hg9)
    exact bodyPost_ret (results_obj_tmp rfl _ _ w.heap.size 53 ra.cells _ rfl hb9 Tryz.underlying53 rfl HU1.out) rfl ⟨by rw [HRR.out]; rfl, (HM.out.put 0 rfl _ hg9 hb9).bel⟩
  · rw [decide_eq_false hc]
    have hr := parseFour_any l hl (addrP l) (addrP_four l hc)
    obtain ⟨r, hrr⟩ : ∃ z, addrP l = z := ⟨_, rfl⟩
    have hok := addrP_ok l
    rw [hrr] at hr hok
    obtain ⟨ra, re⟩ := r
    have HU1 := Lib.hid (addr_cellsOf ra hok)
    have HCL := Lib.hid (show addr0.cells.length = ra.cells.length from (AddrM.cells_length addr0_ok).trans (AddrM.cells_length hok).symm)
    obtain ⟨cr, hcr⟩ : ∃ z, ra.cells.toArray = z := ⟨_, rfl⟩
    dsimp only at hr
    rw [hcr, hS] at hr
    have HPR := Lib.hid hr
    have HCR := Lib.hid hcr
    have HRR := Lib.hid hrr
    clear hr hcr hrr hok hc hS
    go_wp2_with fail
    refine (HPR.out _ (HLV.out.below HM.out.bel)).mono ?_
    rintro e w5 ⟨rfl, hb⟩
    replace HM := Lib.hid (show Mem w [blkE w.heap.size 53 addr0.cells] w5 from HM.out.below hb)
    clear hb
    go_wp2_with (refine wpList_store_blk rfl 53 (.tmp 2) (.tmp 12) rfl w.heap.size ra.cells rfl (by show Value.agg cr = _; rw [HCR.out]) 53 addr0.cells (HM.out.blk 0 rfl) HU1.out HCL.out (AddrM.one _) ?_; intro w9 hb9 hg9)
    exact bodyPost_ret (results_obj_tmp rfl _ _ w.heap.size 53 ra.cells _ rfl hb9 Tryz.underlying53 rfl HU1.out) rfl ⟨by rw [HRR.out]; rfl, (HM.out.put 0 rfl _ hg9 hb9).bel⟩
end Go.Proofs.YtcbfchkhbngpkaaGreatDoor
namespace Go.Proofs.YtcbfchkhbngpkaaGreatDoor
open Go.RowKit

set_option maxRecDepth 100000 in
set_option maxHeartbeats 8000000 in
theorem parsePref_any (l : List UInt8) (hl : l.length ≤ 100000) (w : World) (hlv : LvCf w) :
    Calls Tryz.prog 39 #[.string ⟨l.toArray⟩] w fun e w' => e = .returned (.tuple #[.agg (prefC (prefP l).1.1 ((prefP l).1.2 : Int)).toArray, .int .i64 ((prefP l).2 : Int)]) ∧ Below w.heap.size w w' := by
  have HLV := Lib.hid hlv
  have HV := Lib.hid (prefP_prog l)
  have HCU := Lib.hid (fun W h => cut_c l [47] (by omega) W h)
  have HU0 := Lib.hid (show (Tryz.prog.info? 60).map (·.size) = some (prefC addr0 0).length from by kernel_rfl)
  have hcl : (Lib.cut l [47]).1.length ≤ 100000 ∧ (Lib.cut l [47]).2.1.length ≤ 100000 := by
    rcases index_at 47 l with ⟨h1, _⟩ | ⟨a, r, rfl, h2, _⟩
    · rw [cut_none h1]; exact ⟨hl, by simp⟩
    · rw [cut_some h2]; simp only [List.length_append, List.length_cons] at hl; exact ⟨by show a.length ≤ _; omega, by show r.length ≤ _; omega⟩
  obtain ⟨⟨s0, s1, fd⟩, hct⟩ : ∃ z, Lib.cut l [47] = z := ⟨_, rfl⟩
  rw [hct] at HCU HV hcl
  dsimp only at HCU HV hcl
  have HM := Lib.hid (show Mem w [blkE w.heap.size 60 (prefC addr0 0)] (w.alloc (.cells #[.bool false, .int .u8 0, .int .u8 0, .int .u8 0, .int .u8 0, .int .u8 0, .int .u8 0, .int .u8 0, .int .u8 0, .int .u8 0, .int .u8 0, .int .u8 0, .int .u8 0, .int .u8 0, .int .u8 0, .int .u8 0, .int .u8 0, .int .i64 0] 60)) from (Mem.nil w).alloc rfl 60 #[.bool false, .int .u8 0, .int .u8 0, .int .u8 0, .int .u8 0, .int .u8 0, .int .u8 0, .int .u8 0, .int .u8 0, .int .u8 0, .int .u8 0, .int .u8 0, .int .u8 0, .int .u8 0, .int .u8 0, .int .u8 0, .int .u8 0, .int .i64 0] (prefC addr0 0) rfl)
  obtain ⟨S, hS⟩ : ∃ S : ByteArray, ⟨l.toArray⟩ = S := ⟨_, rfl⟩
  rw [hS] at HCU ⊢
  have HPA := Lib.hid (fun W h => parseAddr_any s0 hcl.1 W h)
  have HPN := Lib.hid (fun W h => number_any s1 (by omega) W h)
  have hn3 := numP_lt s1 10
  have hok := addrP_ok s0
  obtain ⟨r, hr⟩ : ∃ z, addrP s0 = z := ⟨_, rfl⟩
  rw [hr] at HPA HV hok
  obtain ⟨ra, re⟩ := r
  obtain ⟨nb, hnb⟩ : ∃ z, numP s1 10 = z := ⟨_, rfl⟩
  rw [hnb] at HPN HV hn3
  obtain ⟨q, okq⟩ := nb
  dsimp only at HPA HPN HV hok hn3
  obtain ⟨cr, hcr⟩ : ∃ z, ra.cells.toArray = z := ⟨_, rfl⟩
  have hbt := pref_built ra hok (q : Int)
  obtain ⟨cpx, hcpx⟩ : ∃ z, (prefC ra (q : Int)).toArray = z := ⟨_, rfl⟩
  rw [hcr, hcpx] at hbt
  rw [hcr] at HPA
  have HBT := Lib.hid hbt
  have HCR := Lib.hid hcr
  have HCP := Lib.hid hcpx
  have HU1 := Lib.hid (addr_cellsOf ra hok)
  have HUP := Lib.hid (pref_cellsOf ra hok (q : Int))
  have hva := valid_any ra (q : Int) hok
  rw [hcpx] at hva
  have HVA := Lib.hid hva
  have HZA := Lib.hid (show addr0.cells.length = ra.cells.length from (AddrM.cells_length addr0_ok).trans (AddrM.cells_length hok).symm)
  have HZP := Lib.hid (show (prefC addr0 0).length = (prefC ra (q : Int)).length from (prefC_length addr0 addr0_ok 0).trans (prefC_length ra hok _).symm)
  have hwq : IntKind.i64.wrap (q : Int) = (q : Int) := IntWalk.i64_in _ (by omega)
  clear hcr hcpx hbt hr hnb hva hcl hct hS hlv hl
  go_enter Tryz.func39, Tryz.ntmps39
  go_upto_region 1 with fail
  generalize w.alloc (.cells #[.bool false, .int .u8 0, .int .u8 0, .int .u8 0, .int .u8 0, .int .u8 0, .int .u8 0, .int .u8 0, .int .u8 0, .int .u8 0, .int .u8 0, .int .u8 0, .int .u8 0, .int .u8 0, .int .u8 0, .int .u8 0, .int .u8 0, .int .i64 0] 60) = w1 at HM ⊢
  go_wp2_with fail
  refine (HCU.out _ (HLV.out.below HM.out.bel)).mono ?_
  rintro e w2 ⟨rfl, hb⟩
  replace HM := Lib.hid (show Mem w [blkE w.heap.size 60 (prefC addr0 0)] w2 from HM.out.below hb)
  clear hb HCU
  go_wp2_with fail
  refine (HPA.out _ (HLV.out.below HM.out.bel)).mono ?_
  rintro e w3 ⟨rfl, hb⟩
  replace HM := Lib.hid (show Mem w [blkE w.heap.size 60 (prefC addr0 0)] w3 from HM.out.below hb)
  have HMZ := Lib.hid (show Mem w [blkE w3.heap.size 53 addr0.cells, blkE w.heap.size 60 (prefC addr0 0)] (w3.alloc (.cells #[.bool false, .int .u8 0, .int .u8 0, .int .u8 0, .int .u8 0, .int .u8 0, .int .u8 0, .int .u8 0, .int .u8 0, .int .u8 0, .int .u8 0, .int .u8 0, .int .u8 0, .int .u8 0, .int .u8 0, .int .u8 0, .int .u8 0] 53)) from HM.out.alloc rfl 53 #[.bool false, .int .u8 0, .int .u8 0, .int .u8 0, .int .u8 0, .int .u8 0, .int .u8 0, .int .u8 0, .int .u8 0, .int .u8 0, .int .u8 0, .int .u8 0, .int .u8 0, .int .u8 0, .int .u8 0, .int .u8 0, .int .u8 0] addr0.cells rfl)
  clear hb HM
  go_upto_region 3 with (refine wpList_store_blk rfl 53 (.tmp 7) (.tmp 21) rfl w3.heap.size ra.cells rfl (by show Value.agg cr = _; rw [HCR.out]) 53 addr0.cells (HMZ.out.blk 0 rfl) HU1.out HZA.out (AddrM.one _) ?_; intro w4 hb4 hg4)
  (try simp only [Act.put])
  have hm4 := HMZ.out.put 0 rfl _ hg4 hb4
  clear hb4 hg4 HMZ
  generalize w3.heap.size = gA at hm4 ⊢
  have HM := Lib.hid (show Mem w [blkE gA 53 ra.cells, blkE w.heap.size 60 (prefC addr0 0)] w4 from hm4)
  clear hm4
  go_wp2_with fail
  refine (HPN.out _ (HLV.out.below HM.out.bel)).mono ?_
  rintro e w5 ⟨rfl, hb⟩
  replace HM := Lib.hid (show Mem w [blkE gA 53 ra.cells, blkE w.heap.size 60 (prefC addr0 0)] w5 from HM.out.below hb)
  clear hb
  have HMZ := Lib.hid (show Mem w [blkE w5.heap.size 60 (prefC addr0 0), blkE gA 53 ra.cells, blkE w.heap.size 60 (prefC addr0 0)] (w5.alloc (.cells #[.bool false, .int .u8 0, .int .u8 0, .int .u8 0, .int .u8 0, .int .u8 0, .int .u8 0, .int .u8 0, .int .u8 0, .int .u8 0, .int .u8 0, .int .u8 0, .int .u8 0, .int .u8 0, .int .u8 0, .int .u8 0, .int .u8 0, .int .i64 0] 60)) from HM.out.alloc rfl 60 #[.bool false, .int .u8 0, .int .u8 0, .int .u8 0, .int .u8 0, .int .u8 0, .int .u8 0, .int .u8 0, .int .u8 0, .int .u8 0, .int .u8 0, .int .u8 0, .int .u8 0, .int .u8 0, .int .u8 0, .int .u8 0, .int .u8 0, .int .i64 0] (prefC addr0 0) rfl)
  go_upto_region 5 with (first | (refine wpList_load_obj rfl 53 (.tmp 7) rfl gA 0 rfl ra.cells (HM.out.blk 0 rfl).all _ Tryz.underlying53 rfl HU1.out ?_; rw [HCR.out]) | (refine wpList_build_as rfl 60 [(0, .tmp 28), (1, .tmp 29)] rfl cpx ?_ ?_; exact HBT.out) | (refine wpList_store_blk rfl 60 (.tmp 11) (.tmp 30) rfl w5.heap.size (prefC ra (q : Int)) rfl (by show Value.agg cpx = _; rw [HCP.out]) 60 (prefC addr0 0) (HMZ.out.blk 0 rfl) HUP.out HZP.out (prefC_one _ _) ?_; intro w6 hb6 hg6))
  (try simp only [Act.put])
  have hm6 := HMZ.out.put 0 rfl _ hg6 hb6
  clear hb6 hg6 HMZ HM
  generalize w5.heap.size = gP at hm6 ⊢
  have HM := Lib.hid (show Mem w [blkE gP 60 (prefC ra (q : Int)), blkE gA 53 ra.cells, blkE w.heap.size 60 (prefC addr0 0)] w6 from hm6)
  clear hm6
  by_cases he : re = 0
  case neg =>
    replace HV := Lib.hid (HV.out.trans (if_pos (.inl he)))
    have e1 : ((re : Int) != 0) = true := by rw [bne_iff_ne]; omega
    clear he
    go_wp2_with (first | (refine wpList_build_as rfl 60 [] rfl #[.bool false, .int .u8 0, .int .u8 0, .int .u8 0, .int .u8 0, .int .u8 0, .int .u8 0, .int .u8 0, .int .u8 0, .int .u8 0, .int .u8 0, .int .u8 0, .int .u8 0, .int .u8 0, .int .u8 0, .int .u8 0, .int .u8 0, .int .i64 0] ?_ ?_; kernel_rfl) | (refine wpList_store_blk rfl 60 (.tmp 2) (.tmp 42) rfl w.heap.size (prefC addr0 0) rfl (by rfl) 60 (prefC addr0 0) (HM.out.blk 2 rfl) HU0.out rfl (prefC_one addr0 0) ?_; intro w9 hb9 hg9))
    exact bodyPost_ret (results_obj_tmp rfl _ _ w.heap.size 60 (prefC addr0 0) _ rfl hb9 Tryz.underlying60 rfl HU0.out) rfl ⟨by rw [HV.out]; rfl, (HM.out.put 2 rfl _ hg9 hb9).bel⟩
  subst he
  cases okq
  case false =>
    replace HV := Lib.hid (HV.out.trans (if_pos (.inr (.inl rfl))))
    rw [show okN false = 5 from rfl]
    go_wp2_with (first | (refine wpList_build_as rfl 60 [] rfl #[.bool false, .int .u8 0, .int .u8 0, .int .u8 0, .int .u8 0, .int .u8 0, .int .u8 0, .int .u8 0, .int .u8 0, .int .u8 0, .int .u8 0, .int .u8 0, .int .u8 0, .int .u8 0, .int .u8 0, .int .u8 0, .int .u8 0, .int .i64 0] ?_ ?_; kernel_rfl) | (refine wpList_store_blk rfl 60 (.tmp 2) (.tmp 42) rfl w.heap.size (prefC addr0 0) rfl (by rfl) 60 (prefC addr0 0) (HM.out.blk 2 rfl) HU0.out rfl (prefC_one addr0 0) ?_; intro w9 hb9 hg9))
    exact bodyPost_ret (results_obj_tmp rfl _ _ w.heap.size 60 (prefC addr0 0) _ rfl hb9 Tryz.underlying60 rfl HU0.out) rfl ⟨by rw [HV.out]; rfl, (HM.out.put 2 rfl _ hg9 hb9).bel⟩
  rw [show okN true = 0 from rfl]
  go_wp2_with (refine wpList_load_obj_g (by rfl) 60 (.tmp 11) rfl gP 0 rfl (prefC ra (q : Int)) (HM.out.blk 0 rfl).all _ Tryz.underlying60 rfl HUP.out ?_)
  rw [HCP.out]
  refine (HVA.out _).mono ?_
  rintro e w7 ⟨rfl, hb⟩
  replace HM := Lib.hid (show Mem w [blkE gP 60 (prefC ra (q : Int)), blkE gA 53 ra.cells, blkE w.heap.size 60 (prefC addr0 0)] w7 from HM.out.below hb)
  clear hb
  cases hvv : validM ra (q : Int)
  case false =>
    replace HV := Lib.hid (HV.out.trans (if_pos (.inr (.inr hvv))))
    clear hvv
    go_wp2_with (first | (refine wpList_build_as rfl 60 [] rfl #[.bool false, .int .u8 0, .int .u8 0, .int .u8 0, .int .u8 0, .int .u8 0, .int .u8 0, .int .u8 0, .int .u8 0, .int .u8 0, .int .u8 0, .int .u8 0, .int .u8 0, .int .u8 0, .int .u8 0, .int .u8 0, .int .u8 0, .int .i64 0] ?_ ?_; kernel_rfl) | (refine wpList_store_blk rfl 60 (.tmp 2) (.tmp 42) rfl w.heap.size (prefC addr0 0) rfl (by rfl) 60 (prefC addr0 0) (HM.out.blk 2 rfl) HU0.out rfl (prefC_one addr0 0) ?_; intro w9 hb9 hg9))
    exact bodyPost_ret (results_obj_tmp rfl _ _ w.heap.size 60 (prefC addr0 0) _ rfl hb9 Tryz.underlying60 rfl HU0.out) rfl ⟨by rw [HV.out]; rfl, (HM.out.put 2 rfl _ hg9 hb9).bel⟩
  replace HV := Lib.hid (HV.out.trans (if_neg (by rw [hvv]; simp)))
  clear hvv
  go_wp2_with (first | (refine wpList_load_obj rfl 60 (.tmp 11) rfl gP 0 rfl (prefC ra (q : Int)) (HM.out.blk 0 rfl).all _ Tryz.underlying60 rfl HUP.out ?_; rw [HCP.out]) | (refine wpList_store_blk rfl 60 (.tmp 2) (.tmp 43) rfl w.heap.size (prefC ra (q : Int)) rfl (by show Value.agg cpx = _; rw [HCP.out]) 60 (prefC addr0 0) (HM.out.blk 2 rfl) HUP.out HZP.out (prefC_one _ _) ?_; intro w9 hb9 hg9))
  exact bodyPost_ret (results_obj_tmp rfl _ _ w.heap.size 60 (prefC ra (q : Int)) _ rfl hb9 Tryz.underlying60 rfl HUP.out) rfl ⟨by rw [HV.out]; rfl, (HM.out.put 2 rfl _ hg9 hb9).bel⟩
end Go.Proofs.YtcbfchkhbngpkaaGreatDoor
namespace Go.Proofs.YtcbfchkhbngpkaaGreatDoor
open Go.RowKit

theorem end_built (a : AddrM) (ha : a.ok) (q : Int) : Tryz.prog.built 55 [(0, .agg a.cells.toArray), (1, .int .i64 q)] = some (a.cells ++ [Value.int .i64 q]).toArray := by
  rw [built_of 55 [17, 1] [addr0.cells, [.int .i64 0]] rfl #[(0, 17), (17, 1)] (fun parts => by kernel_rfl) (fun i h => by
    match i, h with
    | 0, _ => rfl
    | 1, _ => rfl) _ (fun p hp => by
    simp only [List.mem_cons, List.not_mem_nil, or_false] at hp
    rcases hp with rfl | rfl
    · simp [Value.cells, AddrM.cells_length ha]
    · rfl)]
  simp [Value.cells]
end Go.Proofs.YtcbfchkhbngpkaaGreatDoor
namespace Go.Proofs.YtcbfchkhbngpkaaGreatDoor
open Go.RowKit

theorem end_cells_is (a : AddrM) (q : Int) : (a.cells ++ [Value.int .i64 q]).toArray = (prefC a q).toArray := rfl
set_option maxRecDepth 100000 in
set_option maxHeartbeats 8000000 in
theorem parseEnd_any (l : List UInt8) (hl : l.length ≤ 100000) (w : World) (hlv : LvCf w) :
    Calls Tryz.prog 150 #[.string ⟨l.toArray⟩] w fun e w' => e = .returned (.tuple #[.agg (prefC (endP l).1.1 ((endP l).1.2 : Int)).toArray, .int .i64 ((endP l).2 : Int)]) ∧ Below w.heap.size w w' := by
  have HLV := Lib.hid hlv
  have HV := Lib.hid (endP_prog l)
  have HLI := Lib.hid (lastIndex_c l (by omega))
  have hlq := last_le l
  have HU0 := Lib.hid (show (Tryz.prog.info? 55).map (·.size) = some (prefC addr0 0).length from by kernel_rfl)
  have HM := Lib.hid (show Mem w [blkE w.heap.size 55 (prefC addr0 0)] (w.alloc (.cells #[.bool false, .int .u8 0, .int .u8 0, .int .u8 0, .int .u8 0, .int .u8 0, .int .u8 0, .int .u8 0, .int .u8 0, .int .u8 0, .int .u8 0, .int .u8 0, .int .u8 0, .int .u8 0, .int .u8 0, .int .u8 0, .int .u8 0, .int .i64 0] 55)) from (Mem.nil w).alloc rfl 55 #[.bool false, .int .u8 0, .int .u8 0, .int .u8 0, .int .u8 0, .int .u8 0, .int .u8 0, .int .u8 0, .int .u8 0, .int .u8 0, .int .u8 0, .int .u8 0, .int .u8 0, .int .u8 0, .int .u8 0, .int .u8 0, .int .u8 0, .int .i64 0] (prefC addr0 0) rfl)
  generalize lastC l = p at HLI hlq HV
  obtain ⟨S, hS⟩ : ∃ S : ByteArray, ⟨l.toArray⟩ = S := ⟨_, rfl⟩
  have hsz : S.size = l.length := by rw [← hS]; exact text_size l
  have HX1 := Lib.hid (show S.extract 0 (p - 1) = ⟨(l.take (p - 1)).toArray⟩ from by rw [← hS]; exact text_take l (p - 1))
  have HX2 := Lib.hid (show S.extract p l.length = ⟨(l.drop p).toArray⟩ from by rw [← hS]; exact text_drop l p _ rfl)
  rw [hS] at HLI ⊢
  clear hS hlv
  go_enter Tryz.func150, Tryz.ntmps150
  go_upto_region 1 with fail
  generalize w.alloc (.cells #[.bool false, .int .u8 0, .int .u8 0, .int .u8 0, .int .u8 0, .int .u8 0, .int .u8 0, .int .u8 0, .int .u8 0, .int .u8 0, .int .u8 0, .int .u8 0, .int .u8 0, .int .u8 0, .int .u8 0, .int .u8 0, .int .u8 0, .int .i64 0] 55) = w1 at HM ⊢
  go_wp2_with fail
  refine (HLI.out _).mono ?_
  rintro e w2 ⟨rfl, hb⟩
  replace HM := Lib.hid (show Mem w [blkE w.heap.size 55 (prefC addr0 0)] w2 from HM.out.below hb)
  clear hb HLI
  by_cases h0 : p = 0
  case pos =>
    subst h0
    replace HV := Lib.hid (HV.out.trans (if_pos rfl))
    go_wp2_with (first | (refine wpList_build_as rfl 55 [] rfl #[.bool false, .int .u8 0, .int .u8 0, .int .u8 0, .int .u8 0, .int .u8 0, .int .u8 0, .int .u8 0, .int .u8 0, .int .u8 0, .int .u8 0, .int .u8 0, .int .u8 0, .int .u8 0, .int .u8 0, .int .u8 0, .int .u8 0, .int .i64 0] ?_ ?_; kernel_rfl) | (refine wpList_store_blk rfl 55 (.tmp 2) (.tmp 15) rfl w.heap.size (prefC addr0 0) rfl (by rfl) 55 (prefC addr0 0) (HM.out.blk 0 rfl) HU0.out rfl (prefC_one addr0 0) ?_; intro w9 hb9 hg9))
    exact bodyPost_ret (results_obj_tmp rfl _ _ w.heap.size 55 (prefC addr0 0) _ rfl hb9 Tryz.underlying55 rfl HU0.out) rfl ⟨by rw [HV.out]; rfl, (HM.out.put 0 rfl _ hg9 hb9).bel⟩
  replace HV := Lib.hid (HV.out.trans (if_neg h0))
  obtain ⟨k, hk⟩ : ∃ k, p - 1 = k := ⟨_, rfl⟩
  have hki : (p : Int) - 1 = (k : Int) := by omega
  rw [hk] at HV HX1
  rw [hki]
  have k1 : (k : Int) ≤ (l.length : Int) := by omega
  have k2 : (0 : Int) ≤ (k : Int) := by omega
  have k3 : k ≤ l.length := by omega
  have k4 : (p : Int) ≤ (l.length : Int) := by omega
  have k5 : p ≤ l.length := by omega
  have hwp : IntKind.i64.wrap ((k : Int) + 1) = (p : Int) := by rw [IntWalk.i64_in _ (by omega)]; omega
  obtain ⟨h, hh⟩ : ∃ z, l.take k = z := ⟨_, rfl⟩
  have hhl : h.length ≤ 100000 := by rw [← hh, List.length_take]; omega
  obtain ⟨s1, hs1⟩ : ∃ z, l.drop p = z := ⟨_, rfl⟩
  have hs1l : s1.length ≤ 100000 := by rw [← hs1, List.length_drop]; omega
  rw [hh] at HV HX1
  rw [hs1] at HV HX2
  have hx1 := HX1.out
  have hx2 := HX2.out
  have HUW := Lib.hid (unwrap_any h (by omega))
  obtain ⟨inn, hin⟩ : ∃ z, innerB h = z := ⟨_, rfl⟩
  have hinl : inn.length ≤ 100000 := by
    rw [← hin, innerB]
    split
    · rw [List.length_take, List.length_drop]; omega
    · exact hhl
  replace HV := Lib.hid (show endP l = if (addrP inn).2 ≠ 0 ∨ (numP s1 10).2 = false ∨ (addrP inn).1.six ≠ brack h ∨ ¬(1 ≤ (numP s1 10).1 ∧ (numP s1 10).1 ≤ 65535) then ((addr0, 0), 5) else (((addrP inn).1, (numP s1 10).1), 0) from by rw [← hin]; exact HV.out)
  rw [hin] at HUW
  have HPA := Lib.hid (fun W h => parseAddr_any inn hinl W h)
  have HPN := Lib.hid (fun W h => number_any s1 (by omega) W h)
  have hn3 := numP_lt s1 10
  have hok := addrP_ok inn
  obtain ⟨r, hr⟩ : ∃ z, addrP inn = z := ⟨_, rfl⟩
  rw [hr] at HPA HV hok
  obtain ⟨ra, re⟩ := r
  obtain ⟨nb, hnb⟩ : ∃ z, numP s1 10 = z := ⟨_, rfl⟩
  rw [hnb] at HPN HV hn3
  obtain ⟨q, okq⟩ := nb
  obtain ⟨br, hbr⟩ : ∃ z, brack h = z := ⟨_, rfl⟩
  rw [hbr] at HUW HV
  dsimp only at HPA HPN HV hok hn3
  obtain ⟨cr, hcr⟩ : ∃ z, ra.cells.toArray = z := ⟨_, rfl⟩
  have hbt := end_built ra hok (q : Int)
  rw [end_cells_is] at hbt
  obtain ⟨cpx, hcpx⟩ : ∃ z, (prefC ra (q : Int)).toArray = z := ⟨_, rfl⟩
  rw [hcr, hcpx] at hbt
  rw [hcr] at HPA
  have HBT := Lib.hid hbt
  have HCR := Lib.hid hcr
  have HCP := Lib.hid hcpx
  have HU1 := Lib.hid (addr_cellsOf ra hok)
  have HUP := Lib.hid (end_cellsOf ra hok (q : Int))
  have HZA := Lib.hid (show addr0.cells.length = ra.cells.length from (AddrM.cells_length addr0_ok).trans (AddrM.cells_length hok).symm)
  have HZP := Lib.hid (show (prefC addr0 0).length = (prefC ra (q : Int)).length from (prefC_length addr0 addr0_ok 0).trans (prefC_length ra hok _).symm)
  have hwq : IntKind.i64.wrap (q : Int) = (q : Int) := IntWalk.i64_in _ (by omega)
  have HVP := Lib.hid (validPort_any (q : Int))
  clear hcr hcpx hbt hr hnb hin hinl hh hhl hs1 hs1l hbr hlq hl h0 hk hki
  go_wp2_with fail
  refine (HUW.out _).mono ?_
  rintro e w3 ⟨rfl, hb⟩
  replace HM := Lib.hid (show Mem w [blkE w.heap.size 55 (prefC addr0 0)] w3 from HM.out.below hb)
  clear hb HUW hx1
  go_wp2_with fail
  refine (HPA.out _ (HLV.out.below HM.out.bel)).mono ?_
  rintro e w4 ⟨rfl, hb⟩
  replace HM := Lib.hid (show Mem w [blkE w.heap.size 55 (prefC addr0 0)] w4 from HM.out.below hb)
  have HMZ := Lib.hid (show Mem w [blkE w4.heap.size 53 addr0.cells, blkE w.heap.size 55 (prefC addr0 0)] (w4.alloc (.cells #[.bool false, .int .u8 0, .int .u8 0, .int .u8 0, .int .u8 0, .int .u8 0, .int .u8 0, .int .u8 0, .int .u8 0, .int .u8 0, .int .u8 0, .int .u8 0, .int .u8 0, .int .u8 0, .int .u8 0, .int .u8 0, .int .u8 0] 53)) from HM.out.alloc rfl 53 #[.bool false, .int .u8 0, .int .u8 0, .int .u8 0, .int .u8 0, .int .u8 0, .int .u8 0, .int .u8 0, .int .u8 0, .int .u8 0, .int .u8 0, .int .u8 0, .int .u8 0, .int .u8 0, .int .u8 0, .int .u8 0, .int .u8 0] addr0.cells rfl)
  clear hb HM
  go_upto_region 6 with (refine wpList_store_blk rfl 53 (.tmp 7) (.tmp 26) rfl w4.heap.size ra.cells rfl (by show Value.agg cr = _; rw [HCR.out]) 53 addr0.cells (HMZ.out.blk 0 rfl) HU1.out HZA.out (AddrM.one _) ?_; intro w5 hb5 hg5)
  (try simp only [Act.put])
  have hm5 := HMZ.out.put 0 rfl _ hg5 hb5
  clear hb5 hg5 HMZ
  generalize w4.heap.size = gA at hm5 ⊢
  have HM := Lib.hid (show Mem w [blkE gA 53 ra.cells, blkE w.heap.size 55 (prefC addr0 0)] w5 from hm5)
  clear hm5
  go_wp2_with fail
  refine (HPN.out _ (HLV.out.below HM.out.bel)).mono ?_
  rintro e w6 ⟨rfl, hb⟩
  replace HM := Lib.hid (show Mem w [blkE gA 53 ra.cells, blkE w.heap.size 55 (prefC addr0 0)] w6 from HM.out.below hb)
  clear hb hx2 hwp
  by_cases he : re = 0
  case neg =>
    replace HV := Lib.hid (HV.out.trans (if_pos (.inl he)))
    have e1 : ((re : Int) != 0) = true := by rw [bne_iff_ne]; omega
    clear he
    go_wp2_with (first | (refine wpList_build_as rfl 55 [] rfl #[.bool false, .int .u8 0, .int .u8 0, .int .u8 0, .int .u8 0, .int .u8 0, .int .u8 0, .int .u8 0, .int .u8 0, .int .u8 0, .int .u8 0, .int .u8 0, .int .u8 0, .int .u8 0, .int .u8 0, .int .u8 0, .int .u8 0, .int .i64 0] ?_ ?_; kernel_rfl) | (refine wpList_store_blk rfl 55 (.tmp 2) (.tmp 53) rfl w.heap.size (prefC addr0 0) rfl (by rfl) 55 (prefC addr0 0) (HM.out.blk 1 rfl) HU0.out rfl (prefC_one addr0 0) ?_; intro w9 hb9 hg9))
    exact bodyPost_ret (results_obj_tmp rfl _ _ w.heap.size 55 (prefC addr0 0) _ rfl hb9 Tryz.underlying55 rfl HU0.out) rfl ⟨by rw [HV.out]; rfl, (HM.out.put 1 rfl _ hg9 hb9).bel⟩
  subst he
  cases okq
  case false =>
    replace HV := Lib.hid (HV.out.trans (if_pos (.inr (.inl rfl))))
    rw [show okN false = 5 from rfl]
    go_wp2_with (first | (refine wpList_build_as rfl 55 [] rfl #[.bool false, .int .u8 0, .int .u8 0, .int .u8 0, .int .u8 0, .int .u8 0, .int .u8 0, .int .u8 0, .int .u8 0, .int .u8 0, .int .u8 0, .int .u8 0, .int .u8 0, .int .u8 0, .int .u8 0, .int .u8 0, .int .u8 0, .int .i64 0] ?_ ?_; kernel_rfl) | (refine wpList_store_blk rfl 55 (.tmp 2) (.tmp 53) rfl w.heap.size (prefC addr0 0) rfl (by rfl) 55 (prefC addr0 0) (HM.out.blk 1 rfl) HU0.out rfl (prefC_one addr0 0) ?_; intro w9 hb9 hg9))
    exact bodyPost_ret (results_obj_tmp rfl _ _ w.heap.size 55 (prefC addr0 0) _ rfl hb9 Tryz.underlying55 rfl HU0.out) rfl ⟨by rw [HV.out]; rfl, (HM.out.put 1 rfl _ hg9 hb9).bel⟩
  rw [show okN true = 0 from rfl]
  have fsix : w6.cell? ⟨gA, 0, none⟩ = some (.bool ra.six) := (HM.out.blk 0 rfl).cell 0
  obtain ⟨sx, hsx⟩ : ∃ z, ra.six = z := ⟨_, rfl⟩
  rw [hsx] at fsix HV
  by_cases hbb : sx = br
  case neg =>
    replace HV := Lib.hid (HV.out.trans (if_pos (.inr (.inr (.inl hbb)))))
    cases sx <;> cases br <;> try (exact absurd rfl hbb)
    all_goals clear hbb hsx
    · skip
      go_wp2_with (first | (refine wpList_build_as rfl 55 [] rfl #[.bool false, .int .u8 0, .int .u8 0, .int .u8 0, .int .u8 0, .int .u8 0, .int .u8 0, .int .u8 0, .int .u8 0, .int .u8 0, .int .u8 0, .int .u8 0, .int .u8 0, .int .u8 0, .int .u8 0, .int .u8 0, .int .u8 0, .int .i64 0] ?_ ?_; kernel_rfl) | (refine wpList_store_blk rfl 55 (.tmp 2) (.tmp 53) rfl w.heap.size (prefC addr0 0) rfl (by rfl) 55 (prefC addr0 0) (HM.out.blk 1 rfl) HU0.out rfl (prefC_one addr0 0) ?_; intro w9 hb9 hg9))
      exact bodyPost_ret (results_obj_tmp rfl _ _ w.heap.size 55 (prefC addr0 0) _ rfl hb9 Tryz.underlying55 rfl HU0.out) rfl ⟨by rw [HV.out]; rfl, (HM.out.put 1 rfl _ hg9 hb9).bel⟩
    · skip
      go_wp2_with (first | (refine wpList_build_as rfl 55 [] rfl #[.bool false, .int .u8 0, .int .u8 0, .int .u8 0, .int .u8 0, .int .u8 0, .int .u8 0, .int .u8 0, .int .u8 0, .int .u8 0, .int .u8 0, .int .u8 0, .int .u8 0, .int .u8 0, .int .u8 0, .int .u8 0, .int .u8 0, .int .i64 0] ?_ ?_; kernel_rfl) | (refine wpList_store_blk rfl 55 (.tmp 2) (.tmp 53) rfl w.heap.size (prefC addr0 0) rfl (by rfl) 55 (prefC addr0 0) (HM.out.blk 1 rfl) HU0.out rfl (prefC_one addr0 0) ?_; intro w9 hb9 hg9))
      exact bodyPost_ret (results_obj_tmp rfl _ _ w.heap.size 55 (prefC addr0 0) _ rfl hb9 Tryz.underlying55 rfl HU0.out) rfl ⟨by rw [HV.out]; rfl, (HM.out.put 1 rfl _ hg9 hb9).bel⟩
  subst hbb
  by_cases hvp : 1 ≤ (q : Int) ∧ (q : Int) ≤ 65535
  case neg =>
    replace HV := Lib.hid (HV.out.trans (if_pos (.inr (.inr (.inr (by omega))))))
    rw [decide_eq_false hvp] at HVP
    clear hvp hsx
    cases sx
    · go_wp2_with fail
      refine (HVP.out _).mono ?_
      rintro e w7 ⟨rfl, rfl⟩
      go_wp2_with (first | (refine wpList_build_as rfl 55 [] rfl #[.bool false, .int .u8 0, .int .u8 0, .int .u8 0, .int .u8 0, .int .u8 0, .int .u8 0, .int .u8 0, .int .u8 0, .int .u8 0, .int .u8 0, .int .u8 0, .int .u8 0, .int .u8 0, .int .u8 0, .int .u8 0, .int .u8 0, .int .i64 0] ?_ ?_; kernel_rfl) | (refine wpList_store_blk rfl 55 (.tmp 2) (.tmp 53) rfl w.heap.size (prefC addr0 0) rfl (by rfl) 55 (prefC addr0 0) (HM.out.blk 1 rfl) HU0.out rfl (prefC_one addr0 0) ?_; intro w9 hb9 hg9))
      exact bodyPost_ret (results_obj_tmp rfl _ _ w.heap.size 55 (prefC addr0 0) _ rfl hb9 Tryz.underlying55 rfl HU0.out) rfl ⟨by rw [HV.out]; rfl, (HM.out.put 1 rfl _ hg9 hb9).bel⟩
    · go_wp2_with fail
      refine (HVP.out _).mono ?_
      rintro e w7 ⟨rfl, rfl⟩
      go_wp2_with (first | (refine wpList_build_as rfl 55 [] rfl #[.bool false, .int .u8 0, .int .u8 0, .int .u8 0, .int .u8 0, .int .u8 0, .int .u8 0, .int .u8 0, .int .u8 0, .int .u8 0, .int .u8 0, .int .u8 0, .int .u8 0, .int .u8 0, .int .u8 0, .int .u8 0, .int .u8 0, .int .i64 0] ?_ ?_; kernel_rfl) | (refine wpList_store_blk rfl 55 (.tmp 2) (.tmp 53) rfl w.heap.size (prefC addr0 0) rfl (by rfl) 55 (prefC addr0 0) (HM.out.blk 1 rfl) HU0.out rfl (prefC_one addr0 0) ?_; intro w9 hb9 hg9))
      exact bodyPost_ret (results_obj_tmp rfl _ _ w.heap.size 55 (prefC addr0 0) _ rfl hb9 Tryz.underlying55 rfl HU0.out) rfl ⟨by rw [HV.out]; rfl, (HM.out.put 1 rfl _ hg9 hb9).bel⟩
  replace HV := Lib.hid (HV.out.trans (if_neg (by rintro (h | h | h | h); exact h rfl; cases h; exact h rfl; omega)))
  rw [decide_eq_true hvp] at HVP
  have HMY := Lib.hid HM.out
  clear hvp hsx
  cases sx
  · go_wp2_with fail
    refine (HVP.out _).mono ?_
    rintro e w7 ⟨rfl, rfl⟩
    go_wp2_with (first | (refine wpList_load_obj rfl 53 (.tmp 7) rfl gA 0 rfl ra.cells (HM.out.blk 0 rfl).all _ Tryz.underlying53 rfl HU1.out ?_; rw [HCR.out]) | (refine wpList_build_as rfl 55 [(0, .tmp 54), (1, .tmp 55)] rfl cpx ?_ ?_; exact HBT.out) | (refine wpList_store_blk rfl 55 (.tmp 2) (.tmp 56) rfl w.heap.size (prefC ra (q : Int)) rfl (by show Value.agg cpx = _; rw [HCP.out]) 55 (prefC addr0 0) (HM.out.blk 1 rfl) HUP.out HZP.out (prefC_one _ _) ?_; intro w9 hb9 hg9))
    exact bodyPost_ret (results_obj_tmp rfl _ _ w.heap.size 55 (prefC ra (q : Int)) _ rfl hb9 Tryz.underlying55 rfl HUP.out) rfl ⟨by rw [HV.out]; rfl, (HM.out.put 1 rfl _ hg9 hb9).bel⟩
  · go_wp2_with fail
    refine (HVP.out _).mono ?_
    rintro e w7 ⟨rfl, rfl⟩
    go_wp2_with (first | (refine wpList_load_obj rfl 53 (.tmp 7) rfl gA 0 rfl ra.cells (HM.out.blk 0 rfl).all _ Tryz.underlying53 rfl HU1.out ?_; rw [HCR.out]) | (refine wpList_build_as rfl 55 [(0, .tmp 54), (1, .tmp 55)] rfl cpx ?_ ?_; exact HBT.out) | (refine wpList_store_blk rfl 55 (.tmp 2) (.tmp 56) rfl w.heap.size (prefC ra (q : Int)) rfl (by show Value.agg cpx = _; rw [HCP.out]) 55 (prefC addr0 0) (HM.out.blk 1 rfl) HUP.out HZP.out (prefC_one _ _) ?_; intro w9 hb9 hg9))
    exact bodyPost_ret (results_obj_tmp rfl _ _ w.heap.size 55 (prefC ra (q : Int)) _ rfl hb9 Tryz.underlying55 rfl HUP.out) rfl ⟨by rw [HV.out]; rfl, (HM.out.put 1 rfl _ hg9 hb9).bel⟩
end Go.Proofs.YtcbfchkhbngpkaaGreatDoor
namespace Go.Proofs.YtcbfchkhbngpkaaGreatDoor
open Go.RowKit

theorem cfFmtEndC : CfFmtEndC 49 := fun a h p h1 h2 w hl => fmtEnd_any a h p h1 h2 w hl
theorem cfParseEndC : CfParseEndC 150 := fun l h w hl => parseEnd_any l h w hl
theorem cfFmtPrefC : CfFmtPrefC 40 := fun a h b h1 h2 w hl => fmtPref_any a h b h1 h2 w hl
theorem cfParsePrefC : CfParsePrefC 39 := fun l h w hl => parsePref_any l h w hl
end Go.Proofs.YtcbfchkhbngpkaaGreatDoor
namespace Go.Proofs.YtcbfchkhbngpkaaGreatDoor
open Go.RowKit

set_option maxRecDepth 100000 in
set_option maxHeartbeats 8000000 in
theorem require_true (w : World) :
    Calls Tryz.prog 95 #[.bool true] w fun e w' => e = .returned (.tuple #[]) ∧ w' = w := by
  go_enter Tryz.func95, Tryz.ntmps95
  go_wp2
  go_end0
  exact ⟨rfl, rfl⟩
set_option maxRecDepth 100000 in
set_option maxHeartbeats 8000000 in
theorem must_i64 (n : Int) (w : World) :
    Calls Tryz.prog 151 #[.int .i64 n, .int .i64 0] w fun e w' => e = .returned (.int .i64 n) ∧ w' = w := by
  go_enter Tryz.func151, Tryz.ntmps151
  go_wp2_with fail
  refine (require_true _).mono ?_
  rintro e w2 ⟨rfl, rfl⟩
  go_wp2
  go_ret
  exact ⟨rfl, rfl⟩
set_option maxRecDepth 100000 in
set_option maxHeartbeats 8000000 in
theorem must_key (cs : List Value) (hl : cs.length = 32) (h1 : ∀ v ∈ cs, v.oneCell' = true) (w : World) :
    Calls Tryz.prog 147 #[.agg cs.toArray, .int .i64 0] w fun e w' => e = .returned (.agg cs.toArray) ∧ Below w.heap.size w w' := by
  have HL := Lib.hid hl
  have H1 := Lib.hid h1
  have HU := Lib.hid (show (Tryz.prog.info? 24).map (·.size) = some cs.length from by rw [hl]; kernel_rfl)
  obtain ⟨xc, hxc⟩ : ∃ z, cs.toArray = z := ⟨_, rfl⟩
  rw [hxc]
  have HXC := Lib.hid hxc
  obtain ⟨zs, hzs⟩ : ∃ z : List Value, [Value.int .u8 0, Value.int .u8 0, Value.int .u8 0, Value.int .u8 0, Value.int .u8 0, Value.int .u8 0, Value.int .u8 0, Value.int .u8 0, Value.int .u8 0, Value.int .u8 0, Value.int .u8 0, Value.int .u8 0, Value.int .u8 0, Value.int .u8 0, Value.int .u8 0, Value.int .u8 0, Value.int .u8 0, Value.int .u8 0, Value.int .u8 0, Value.int .u8 0, Value.int .u8 0, Value.int .u8 0, Value.int .u8 0, Value.int .u8 0, Value.int .u8 0, Value.int .u8 0, Value.int .u8 0, Value.int .u8 0, Value.int .u8 0, Value.int .u8 0, Value.int .u8 0, Value.int .u8 0] = z := ⟨_, rfl⟩
  have HZL := Lib.hid (show zs.length = 32 from by rw [← hzs]; rfl)
  have hm := ((Mem.nil w).alloc rfl 24 xc cs hxc.symm).alloc rfl 24 [Value.int .u8 0, Value.int .u8 0, Value.int .u8 0, Value.int .u8 0, Value.int .u8 0, Value.int .u8 0, Value.int .u8 0, Value.int .u8 0, Value.int .u8 0, Value.int .u8 0, Value.int .u8 0, Value.int .u8 0, Value.int .u8 0, Value.int .u8 0, Value.int .u8 0, Value.int .u8 0, Value.int .u8 0, Value.int .u8 0, Value.int .u8 0, Value.int .u8 0, Value.int .u8 0, Value.int .u8 0, Value.int .u8 0, Value.int .u8 0, Value.int .u8 0, Value.int .u8 0, Value.int .u8 0, Value.int .u8 0, Value.int .u8 0, Value.int .u8 0, Value.int .u8 0, Value.int .u8 0].toArray zs (by rw [← hzs])
  have HM := Lib.hid (show Mem w [blkE (w.heap.size + 1) 24 zs, blkE w.heap.size 24 cs] ((w.alloc (.cells xc 24)).alloc (.cells [Value.int .u8 0, Value.int .u8 0, Value.int .u8 0, Value.int .u8 0, Value.int .u8 0, Value.int .u8 0, Value.int .u8 0, Value.int .u8 0, Value.int .u8 0, Value.int .u8 0, Value.int .u8 0, Value.int .u8 0, Value.int .u8 0, Value.int .u8 0, Value.int .u8 0, Value.int .u8 0, Value.int .u8 0, Value.int .u8 0, Value.int .u8 0, Value.int .u8 0, Value.int .u8 0, Value.int .u8 0, Value.int .u8 0, Value.int .u8 0, Value.int .u8 0, Value.int .u8 0, Value.int .u8 0, Value.int .u8 0, Value.int .u8 0, Value.int .u8 0, Value.int .u8 0, Value.int .u8 0].toArray 24)) from by simpa using hm)
  clear hm hl h1 hxc hzs
  go_enter Tryz.func147, Tryz.ntmps147
  go_upto_region 1 with fail
  generalize (w.alloc (.cells xc 24)).alloc (.cells _ 24) = w1 at HM ⊢
  generalize w.heap.size + 1 = P4 at HM ⊢
  generalize w.heap.size = P2 at HM ⊢
  go_wp2_with fail
  refine (require_true _).mono ?_
  rintro e w2 ⟨rfl, rfl⟩
  go_upto_region 2 with fail
  go_wp2_with (first | ((with_reducible refine at_op (.load 24 (.tmp 2)) rfl ?_); refine wpList_load_obj rfl 24 (.tmp 2) rfl P2 0 rfl cs (HM.out.blk 1 rfl).all _ Tryz.underlying24 rfl HU.out ?_; rw [HXC.out]) | ((with_reducible refine at_op (.store 24 (.tmp 4) (.tmp 8)) rfl ?_); refine wpList_store_obj rfl 24 (.tmp 4) (.tmp 8) rfl P4 0 cs rfl (by show Value.agg xc = _; rw [HXC.out]) 24 zs (HM.out.blk 0 rfl) HU.out (by rw [HL.out, HZL.out]; omega) H1.out ?_; intro w9 hb9 hg9))
  rw [setL_all zs _ (by rw [HL.out, HZL.out])] at hb9
  exact bodyPost_ret (results_obj rfl _ _ P4 24 cs _ rfl hb9 Tryz.underlying24 rfl HU.out) rfl ⟨by rw [HXC.out], (HM.out.put 0 rfl _ hg9 hb9).bel⟩
set_option maxRecDepth 100000 in
set_option maxHeartbeats 8000000 in
theorem must_end (cs : List Value) (hl : cs.length = 18) (h1 : ∀ v ∈ cs, v.oneCell' = true) (w : World) :
    Calls Tryz.prog 149 #[.agg cs.toArray, .int .i64 0] w fun e w' => e = .returned (.agg cs.toArray) ∧ Below w.heap.size w w' := by
  have HL := Lib.hid hl
  have H1 := Lib.hid h1
  have HU := Lib.hid (show (Tryz.prog.info? 55).map (·.size) = some cs.length from by rw [hl]; kernel_rfl)
  obtain ⟨xc, hxc⟩ : ∃ z, cs.toArray = z := ⟨_, rfl⟩
  rw [hxc]
  have HXC := Lib.hid hxc
  obtain ⟨zs, hzs⟩ : ∃ z : List Value, [Value.bool false, Value.int .u8 0, Value.int .u8 0, Value.int .u8 0, Value.int .u8 0, Value.int .u8 0, Value.int .u8 0, Value.int .u8 0, Value.int .u8 0, Value.int .u8 0, Value.int .u8 0, Value.int .u8 0, Value.int .u8 0, Value.int .u8 0, Value.int .u8 0, Value.int .u8 0, Value.int .u8 0, Value.int .i64 0] = z := ⟨_, rfl⟩
  have HZL := Lib.hid (show zs.length = 18 from by rw [← hzs]; rfl)
  have hm := ((Mem.nil w).alloc rfl 55 xc cs hxc.symm).alloc rfl 55 [Value.bool false, Value.int .u8 0, Value.int .u8 0, Value.int .u8 0, Value.int .u8 0, Value.int .u8 0, Value.int .u8 0, Value.int .u8 0, Value.int .u8 0, Value.int .u8 0, Value.int .u8 0, Value.int .u8 0, Value.int .u8 0, Value.int .u8 0, Value.int .u8 0, Value.int .u8 0, Value.int .u8 0, Value.int .i64 0].toArray zs (by rw [← hzs])
  have HM := Lib.hid (show Mem w [blkE (w.heap.size + 1) 55 zs, blkE w.heap.size 55 cs] ((w.alloc (.cells xc 55)).alloc (.cells [Value.bool false, Value.int .u8 0, Value.int .u8 0, Value.int .u8 0, Value.int .u8 0, Value.int .u8 0, Value.int .u8 0, Value.int .u8 0, Value.int .u8 0, Value.int .u8 0, Value.int .u8 0, Value.int .u8 0, Value.int .u8 0, Value.int .u8 0, Value.int .u8 0, Value.int .u8 0, Value.int .u8 0, Value.int .i64 0].toArray 55)) from by simpa using hm)
  clear hm hl h1 hxc hzs
  go_enter Tryz.func149, Tryz.ntmps149
  go_upto_region 1 with fail
  generalize (w.alloc (.cells xc 55)).alloc (.cells _ 55) = w1 at HM ⊢
  generalize w.heap.size + 1 = P4 at HM ⊢
  generalize w.heap.size = P2 at HM ⊢
  go_wp2_with fail
  refine (require_true _).mono ?_
  rintro e w2 ⟨rfl, rfl⟩
  go_upto_region 2 with fail
  go_wp2_with (first | ((with_reducible refine at_op (.load 55 (.tmp 2)) rfl ?_); refine wpList_load_obj rfl 55 (.tmp 2) rfl P2 0 rfl cs (HM.out.blk 1 rfl).all _ Tryz.underlying55 rfl HU.out ?_; rw [HXC.out]) | ((with_reducible refine at_op (.store 55 (.tmp 4) (.tmp 8)) rfl ?_); refine wpList_store_obj rfl 55 (.tmp 4) (.tmp 8) rfl P4 0 cs rfl (by show Value.agg xc = _; rw [HXC.out]) 55 zs (HM.out.blk 0 rfl) HU.out (by rw [HL.out, HZL.out]; omega) H1.out ?_; intro w9 hb9 hg9))
  rw [setL_all zs _ (by rw [HL.out, HZL.out])] at hb9
  exact bodyPost_ret (results_obj rfl _ _ P4 55 cs _ rfl hb9 Tryz.underlying55 rfl HU.out) rfl ⟨by rw [HXC.out], (HM.out.put 0 rfl _ hg9 hb9).bel⟩
set_option maxRecDepth 100000 in
set_option maxHeartbeats 8000000 in
theorem must_pref (cs : List Value) (hl : cs.length = 18) (h1 : ∀ v ∈ cs, v.oneCell' = true) (w : World) :
    Calls Tryz.prog 153 #[.agg cs.toArray, .int .i64 0] w fun e w' => e = .returned (.agg cs.toArray) ∧ Below w.heap.size w w' := by
  have HL := Lib.hid hl
  have H1 := Lib.hid h1
  have HU := Lib.hid (show (Tryz.prog.info? 60).map (·.size) = some cs.length from by rw [hl]; kernel_rfl)
  obtain ⟨xc, hxc⟩ : ∃ z, cs.toArray = z := ⟨_, rfl⟩
  rw [hxc]
  have HXC := Lib.hid hxc
  obtain ⟨zs, hzs⟩ : ∃ z : List Value, [Value.bool false, Value.int .u8 0, Value.int .u8 0, Value.int .u8 0, Value.int .u8 0, Value.int .u8 0, Value.int .u8 0, Value.int .u8 0, Value.int .u8 0, Value.int .u8 0, Value.int .u8 0, Value.int .u8 0, Value.int .u8 0, Value.int .u8 0, Value.int .u8 0, Value.int .u8 0, Value.int .u8 0, Value.int .i64 0] = z := ⟨_, rfl⟩
  have HZL := Lib.hid (show zs.length = 18 from by rw [← hzs]; rfl)
  have hm := ((Mem.nil w).alloc rfl 60 xc cs hxc.symm).alloc rfl 60 [Value.bool false, Value.int .u8 0, Value.int .u8 0, Value.int .u8 0, Value.int .u8 0, Value.int .u8 0, Value.int .u8 0, Value.int .u8 0, Value.int .u8 0, Value.int .u8 0, Value.int .u8 0, Value.int .u8 0, Value.int .u8 0, Value.int .u8 0, Value.int .u8 0, Value.int .u8 0, Value.int .u8 0, Value.int .i64 0].toArray zs (by rw [← hzs])
  have HM := Lib.hid (show Mem w [blkE (w.heap.size + 1) 60 zs, blkE w.heap.size 60 cs] ((w.alloc (.cells xc 60)).alloc (.cells [Value.bool false, Value.int .u8 0, Value.int .u8 0, Value.int .u8 0, Value.int .u8 0, Value.int .u8 0, Value.int .u8 0, Value.int .u8 0, Value.int .u8 0, Value.int .u8 0, Value.int .u8 0, Value.int .u8 0, Value.int .u8 0, Value.int .u8 0, Value.int .u8 0, Value.int .u8 0, Value.int .u8 0, Value.int .i64 0].toArray 60)) from by simpa using hm)
  clear hm hl h1 hxc hzs
  go_enter Tryz.func153, Tryz.ntmps153
  go_upto_region 1 with fail
  generalize (w.alloc (.cells xc 60)).alloc (.cells _ 60) = w1 at HM ⊢
  generalize w.heap.size + 1 = P4 at HM ⊢
  generalize w.heap.size = P2 at HM ⊢
  go_wp2_with fail
  refine (require_true _).mono ?_
  rintro e w2 ⟨rfl, rfl⟩
  go_upto_region 2 with fail
  go_wp2_with (first | ((with_reducible refine at_op (.load 60 (.tmp 2)) rfl ?_); refine wpList_load_obj rfl 60 (.tmp 2) rfl P2 0 rfl cs (HM.out.blk 1 rfl).all _ Tryz.underlying60 rfl HU.out ?_; rw [HXC.out]) | ((with_reducible refine at_op (.store 60 (.tmp 4) (.tmp 8)) rfl ?_); refine wpList_store_obj rfl 60 (.tmp 4) (.tmp 8) rfl P4 0 cs rfl (by show Value.agg xc = _; rw [HXC.out]) 60 zs (HM.out.blk 0 rfl) HU.out (by rw [HL.out, HZL.out]; omega) H1.out ?_; intro w9 hb9 hg9))
  rw [setL_all zs _ (by rw [HL.out, HZL.out])] at hb9
  exact bodyPost_ret (results_obj rfl _ _ P4 60 cs _ rfl hb9 Tryz.underlying60 rfl HU.out) rfl ⟨by rw [HXC.out], (HM.out.put 0 rfl _ hg9 hb9).bel⟩
end Go.Proofs.YtcbfchkhbngpkaaGreatDoor
namespace Go.Proofs.YtcbfchkhbngpkaaGreatDoor
open Go.RowKit

theorem iface_cases {c d : ConfM} {name value : List UInt8} (h : ifaceM c name value = some d) : (name = tPriv ∧ ∃ k, parseK value = some k ∧ d = { c with priv := k }) ∨ (name = tPort ∧ (numP value 10).2 = true ∧ d = { c with port := ((numP value 10).1 : Int) }) := by
  unfold ifaceM at h
  split at h
  · rename_i hn
    cases hk : parseK value with
    | none => rw [hk] at h; cases h
    | some k =>
      rw [hk] at h
      simp only [Option.map_some, Option.some.injEq] at h
      exact .inl ⟨hn, k, rfl, h.symm⟩
  · split at h
    · rename_i hn
      split at h
      · rename_i hv
        simp only [Option.some.injEq] at h
        exact .inr ⟨hn, hv, h.symm⟩
      · cases h
    · cases h
theorem key_some {l k : List UInt8} {w w' : World} {e : Ending} (hk : parseK l = some k) (h : KeyRes l w e w') : e = .returned (.tuple #[.agg (k.map u8v).toArray, .int .i64 0]) ∧ Below w.heap.size w w' := by
  rcases h with ⟨q, hq, he, hb⟩ | ⟨hn, _⟩
  · have h2 := hk.symm.trans hq
    injection h2 with h2
    subst h2
    exact ⟨he, hb⟩
  · rw [hk] at hn; cases hn
theorem grown_own {w0 W W' : World} {g : Nat} (h : Below w0.heap.size w0 W) (hg : W.grownBy W' (some g)) (hl : w0.heap.size ≤ g) : Below w0.heap.size w0 W' := h.grown hg h.size (by intro k hk; injection hk with hk; omega)
theorem set_own {w0 W : World} {g j : Nat} {v : Value} (h : Below w0.heap.size w0 W) (hl : w0.heap.size ≤ g) : Below w0.heap.size w0 (W.setCell ⟨g, j, none⟩ v) := h.setCell hl _
set_option maxRecDepth 100000 in
set_option maxHeartbeats 8000000 in
theorem iface_any (w0 W : World) (gp m line : Nat) (s : PsM) (mv v : Value) (Bs : List Nat) (name value : List UInt8) (c : ConfM) (hlv : LvCf w0) (hb0 : Below w0.heap.size w0 W) (hp : PsAt w0.heap.size gp m W s line mv v Bs) (hv : value.length ≤ 4000) (h : ifaceM s.conf name value = some c) :
    Calls Tryz.prog 122 #[.pointer (some ⟨gp, 0, none⟩), .string ⟨name.toArray⟩, .string ⟨value.toArray⟩] W fun e W' => e = .returned (.tuple #[]) ∧ PsAt w0.heap.size gp m W' ⟨c, s.seen⟩ line mv v Bs ∧ Below w0.heap.size w0 W' := by
  have HP := Lib.hid hp
  have HB := Lib.hid hb0
  have HLV := Lib.hid hlv
  have HV := Lib.hid hv
  clear hp hb0 hlv hv
  rcases iface_cases h with ⟨rfl, k, hk, rfl⟩ | ⟨rfl, hn, rfl⟩
  · have HK := Lib.hid hk
    clear hk h
    rw [show tPriv.toArray = #[80, 114, 105, 118, 97, 116, 101, 75, 101, 121] from rfl]
    obtain ⟨S, hS⟩ : ∃ S : ByteArray, ⟨value.toArray⟩ = S := ⟨_, rfl⟩
    rw [hS]
    have HS := Lib.hid hS
    clear hS
    go_enter Tryz.func122, Tryz.ntmps122
    go_wp2_with fail
    refine (parseKey_any S value HS.out.symm (by have := HV.out; omega) _).mono ?_
    intro e w2 hk2
    obtain ⟨rfl, hb⟩ := key_some HK.out hk2
    have hk32 := (text_parse value k HK.out).1
    have HK32 := Lib.hid hk32
    replace HP := Lib.hid (HP.out.below hb)
    replace HB := Lib.hid (HB.out.trans (hb.mono HB.out.size))
    clear hb hk32 hk2
    go_wp2_with fail
    refine (must_key (k.map u8v) (by rw [List.length_map, HK32.out]) (u8v_one k) _).mono ?_
    rintro e w3 ⟨rfl, hb⟩
    replace HP := Lib.hid (HP.out.below hb)
    replace HB := Lib.hid (HB.out.trans (hb.mono HB.out.size))
    clear hb
    obtain ⟨kc, hkc⟩ : ∃ z, (k.map u8v).toArray = z := ⟨_, rfl⟩
    rw [hkc]
    have HKC := Lib.hid hkc
    clear hkc
    go_wp2_with ((with_reducible refine at_op (.store 24 (.tmp 17) (.tmp 15)) rfl ?_); refine wpList_store_obj rfl 24 (.tmp 17) (.tmp 15) rfl gp 0 (k.map u8v) rfl (by show Value.agg kc = _; rw [HKC.out]) 83 (psC s.conf line mv v) HP.out.blk (size32 (by rw [List.length_map, HK32.out])) (by rw [List.length_map, HK32.out, psC_length HP.out.ok]; decide) (u8v_one k) ?_; intro w9 hb9 hg9)
    rw [psC_set_priv HP.out.ok line mv v k HK32.out] at hb9
    go_end0
    exact ⟨rfl, HP.out.put (.of_grown hg9) ⟨HK32.out, HP.out.ok.2⟩ rfl hb9, grown_own HB.out hg9 HP.out.low⟩
  · have HN := Lib.hid hn
    clear hn h
    rw [show tPort.toArray = #[76, 105, 115, 116, 101, 110, 80, 111, 114, 116] from rfl]
    have hnum := fun W' (hb : Below w0.heap.size w0 W') => number_any value (by have := HV.out; omega) W' (HLV.out.below hb)
    rw [HN.out] at hnum
    have hlt := numP_lt value 10
    obtain ⟨S, hS⟩ : ∃ S : ByteArray, ⟨value.toArray⟩ = S := ⟨_, rfl⟩
    rw [hS] at hnum ⊢
    obtain ⟨n, hn⟩ : ∃ n, (numP value 10).1 = n := ⟨_, rfl⟩
    rw [hn] at hnum hlt ⊢
    have HNUM := Lib.hid hnum
    have HIN := Lib.hid (show inI64 (n : Int) from ⟨by omega, by simp only [Nat.reducePow] at hlt; omega⟩)
    clear hnum hlt hS hn
    go_enter Tryz.func122, Tryz.ntmps122
    go_wp2_with fail
    refine (HNUM.out _ HB.out).mono ?_
    rintro e w2 ⟨rfl, hb⟩
    replace HP := Lib.hid (HP.out.below hb)
    replace HB := Lib.hid (HB.out.trans (hb.mono HB.out.size))
    clear hb HNUM
    go_wp2_with fail
    refine (must_i64 _ _).mono ?_
    rintro e w3 ⟨rfl, rfl⟩
    have fo := HP.out.portC
    have zx := HP.out.blk.frozen 32
    have hm9 : Blk (w3.setCell ⟨gp, 32, none⟩ (.int .i64 (n : Int))) gp 83 _ := HP.out.blk.set_ 32 (.int .i64 (n : Int))
    rw [psC_set_port HP.out.ok line mv v] at hm9
    have HM9 := Lib.hid hm9
    clear hm9
    go_wp2
    go_end0
    exact ⟨rfl, HP.out.put .of_set ⟨HP.out.ok.1, HIN.out, HP.out.ok.2.2⟩ rfl HM9.out, set_own HB.out HP.out.low⟩
end Go.Proofs.YtcbfchkhbngpkaaGreatDoor
namespace Go.Proofs.YtcbfchkhbngpkaaGreatDoor
open Go.RowKit

theorem boolZero (w : World) : (zeroValue 4).run Tryz.prog w = .ok (.bool false) w := by kernel_rfl
theorem endOk_cases {s : PsM} (h : endOk s = true) : ∃ S, s.seen = some S ∧ ((s.conf.peers = [] ∧ S.contains tPriv = true ∧ S.contains tPort = true) ∨ (s.conf.peers ≠ [] ∧ S.contains tPub = true)) := by
  unfold endOk at h
  cases hs : s.seen with
  | none => rw [hs] at h; cases h
  | some S =>
    rw [hs] at h
    simp only at h
    refine ⟨S, rfl, ?_⟩
    cases hp : s.conf.peers with
    | nil =>
      rw [hp] at h
      exact .inl ⟨rfl, by simpa using h⟩
    | cons p r =>
      rw [hp] at h
      exact .inr ⟨by simp, by simpa using h⟩
set_option maxRecDepth 100000 in
set_option maxHeartbeats 8000000 in
theorem endSection_any (base : Nat) (W : World) (gp m line : Nat) (s : PsM) (mv v : Value) (Bs : List Nat) (hp : PsAt base gp m W s line mv v Bs) (h : endOk s = true) :
    Calls Tryz.prog 72 #[.pointer (some ⟨gp, 0, none⟩)] W fun e W' => e = .returned (.tuple #[]) ∧ W' = W := by
  obtain ⟨S, hs, hc⟩ := endOk_cases h
  have hseen := hp.seen
  rw [hs] at hseen
  obtain ⟨gm, rfl, _, _, _, _, hnm⟩ := hseen
  obtain ⟨A, c, rfl, _, _⟩ := hp.slice
  have HNM := Lib.hid hnm
  have fv := hp.peersC
  have fs := hp.seenC
  clear h hnm hp hs
  obtain ⟨n, hn⟩ : ∃ n, s.conf.peers.length = n := ⟨_, rfl⟩
  rw [hn] at fv
  rcases hc with ⟨he, h1, h2⟩ | ⟨he, h1⟩
  · obtain rfl : n = 0 := by rw [← hn, he]; rfl
    have H1 := Lib.hid h1
    have H2 := Lib.hid h2
    clear h1 h2 hn he
    go_enter Tryz.func72, Tryz.ntmps72
    go_wp2_with (at_lookup; first | (refine wpList_lookup_names (by rfl) (.tmp 12) (.const (.string ⟨#[80, 114, 105, 118, 97, 116, 101, 75, 101, 121]⟩)) 81 rfl 9 4 Tryz.underlying9 Tryz.underlying81 Tryz.underlying4 boolZero gm _ S rfl HNM.out tPriv (by decide) rfl _ H1.out ?_) | (refine wpList_lookup_names (by rfl) (.tmp 18) (.const (.string ⟨#[76, 105, 115, 116, 101, 110, 80, 111, 114, 116]⟩)) 81 rfl 9 4 Tryz.underlying9 Tryz.underlying81 Tryz.underlying4 boolZero gm _ S rfl HNM.out tPort (by decide) rfl _ H2.out ?_))
    refine (require_true _).mono ?_
    rintro e w2 ⟨rfl, rfl⟩
    go_wp2
    go_end0
    exact ⟨rfl, rfl⟩
  · have H1 := Lib.hid h1
    have h0 : ¬ n = 0 := fun e => he (List.length_eq_zero_iff.1 (hn.trans e))
    have d1 : ((n : Int) == 0) = false := beq_eq_false_iff_ne.2 (by omega)
    have d2 : (n == 0) = false := beq_eq_false_iff_ne.2 h0
    clear h1 hn he
    go_enter Tryz.func72, Tryz.ntmps72
    go_wp2_with (at_lookup; (refine wpList_lookup_names (by rfl) (.tmp 25) (.const (.string ⟨#[80, 117, 98, 108, 105, 99, 75, 101, 121]⟩)) 81 rfl 9 4 Tryz.underlying9 Tryz.underlying81 Tryz.underlying4 boolZero gm _ S rfl HNM.out tPub (by decide) rfl _ H1.out ?_))
    refine (require_true _).mono ?_
    rintro e w2 ⟨rfl, rfl⟩
    go_wp2
    go_end0
    exact ⟨rfl, rfl⟩
end Go.Proofs.YtcbfchkhbngpkaaGreatDoor
namespace Go.Proofs.YtcbfchkhbngpkaaGreatDoor
open Go.RowKit

theorem entry_iface_cases {s t : PsM} {name value : List UInt8} (hp : s.conf.peers = []) (h : entryM s name value = some t) : ∃ S c, s.seen = some S ∧ S.contains name = false ∧ ifaceM s.conf name value = some c ∧ t = ⟨c, some (name :: S)⟩ := by
  unfold entryM at h
  cases hs : s.seen with
  | none => rw [hs] at h; cases h
  | some S =>
    rw [hs] at h
    simp only [hp, List.getLast?_nil] at h
    cases hc : S.contains name with
    | true => rw [hc, if_pos rfl] at h; cases h
    | false =>
      rw [hc, if_neg (by simp)] at h
      cases hi : ifaceM s.conf name value with
      | none => rw [hi] at h; cases h
      | some c =>
        rw [hi] at h
        simp only [Option.map_some, Option.some.injEq] at h
        exact ⟨S, c, rfl, hc, rfl, h.symm⟩
set_option maxRecDepth 100000 in
set_option maxHeartbeats 8000000 in
theorem entry_iface (w0 W : World) (gp m line : Nat) (s t : PsM) (name value : List UInt8) (hlv : LvCf w0) (hb0 : Below w0.heap.size w0 W) (hp : PsA w0.heap.size gp m W s line) (hm : m ≤ 5000) (hnl : name.length ≤ 4000) (hvl : value.length ≤ 4000) (hpe : s.conf.peers = []) (h : entryM s name value = some t) :
    Calls Tryz.prog 96 #[.pointer (some ⟨gp, 0, none⟩), .string ⟨name.toArray⟩, .string ⟨value.toArray⟩] W fun e W' => e = .returned (.tuple #[]) ∧ PsA w0.heap.size gp (m + 1) W' t line ∧ Below w0.heap.size w0 W' := by
  obtain ⟨S, c, hs, hc, hi, rfl⟩ := entry_iface_cases hpe h
  obtain ⟨mv, v, Bs, hp⟩ := hp
  have hseen := hp.seen
  rw [hs] at hseen
  obtain ⟨gm, rfl, hgl, hgp, hgB, hSm, hnm⟩ := hseen
  obtain ⟨A, cp, rfl, _, _⟩ := hp.slice
  have fv := hp.peersC
  have fs := hp.seenC
  have HNM := Lib.hid hnm
  have HP := Lib.hid hp
  have HB := Lib.hid hb0
  have HLV := Lib.hid hlv
  have HC := Lib.hid hc
  have HS := Lib.hid hs
  have HI := Lib.hid hi
  have HL := Lib.hid (And.intro hnl hvl)
  have HGL := Lib.hid hgl
  have hml : S.length < maxLen := by have : maxLen = 9223372036854775807 := rfl; omega
  have HML := Lib.hid hml
  rw [hpe, List.length_nil] at fv
  have HPE := Lib.hid hpe
  obtain ⟨N, hN⟩ : ∃ S : ByteArray, ⟨name.toArray⟩ = S := ⟨_, rfl⟩
  obtain ⟨V, hV⟩ : ∃ S : ByteArray, ⟨value.toArray⟩ = S := ⟨_, rfl⟩
  rw [hN, hV]
  have HN := Lib.hid hN
  have HV := Lib.hid hV
  clear h hi hs hc hp hb0 hlv hnm hgl hgp hgB hSm hml hpe hN hV hnl hvl hm
  have d1 : decide ((-1 : Int) ≥ 0) = false := by decide
  have hne : ∀ W : World, (binOp .neq 81 (.map (some gm)) (.map none)).run Tryz.prog W = .ok (.bool true) W := fun W => run_neq_map_nil (P := Tryz.prog) W 81 9 4 (some gm) Tryz.underlying81
  go_enter Tryz.func96, Tryz.ntmps96
  go_wp2_with (at_lookup; refine wpList_lookup_names (by rfl) (.tmp 16) (.tmp 17) 81 rfl 9 4 Tryz.underlying9 Tryz.underlying81 Tryz.underlying4 boolZero gm _ S rfl HNM.out name (by have := HL.out.1; omega) (by show Value.string N = _; rw [HN.out]) _ HC.out ?_)
  refine (require_true _).mono ?_
  rintro e w2 ⟨rfl, rfl⟩
  go_upto_region 2 with (at_mapUpdate; refine wpList_update_names rfl (.tmp 25) (.tmp 26) (.const (.bool true)) 81 rfl 9 4 Tryz.underlying9 Tryz.underlying81 Tryz.underlying4 gm _ S rfl HNM.out HML.out name (by have := HL.out.1; omega) (by show Value.string N = _; rw [HN.out]) rfl ?_; intro w3 hn3 hg3)
  have hp3 := HP.out.note HS.out (.of_grown hg3) hn3
  have hb3 := grown_own HB.out hg3 HGL.out
  replace HP := Lib.hid hp3
  replace HB := Lib.hid hb3
  have fv2 := HP.out.peersC
  clear hp3 hb3 hn3 hg3 HNM fv fs
  rw [HPE.out, List.length_nil] at fv2
  go_wp2_with fail
  have hcall := iface_any w0 w3 gp (m + 1) line ⟨s.conf, some (name :: S)⟩ _ _ _ name value c HLV.out HB.out HP.out HL.out.2 HI.out
  rw [HN.out, HV.out] at hcall
  refine hcall.mono ?_
  rintro e w4 ⟨rfl, hp4, hb4⟩
  have HP4 := Lib.hid hp4
  have HB4 := Lib.hid hb4
  clear hcall hp4 hb4 fv2
  go_wp2
  go_end0
  exact ⟨rfl, ⟨_, _, _, HP4.out⟩, HB4.out⟩
end Go.Proofs.YtcbfchkhbngpkaaGreatDoor
