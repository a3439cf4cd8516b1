/-
  The contracts of slices.Contains and config's repeats at keys and at prefixes. What is asked of the functions of layer 13 that read and write addresses, endpoints and prefixes, by a function's number. An endpoint and a prefix with a number of their own are found equal to themselves. The library's contracts that layer 13 wants, off the library's shelf, at this translation's numbers. The mathematics of what the library's functions give, beside that of the texts of addresses. No function of the program is named here. Texts as values. What the library's functions give that layer 13 calls. The mathematics of what layer 13's functions make of the library's answers. No function of the program is named here. Parts of a text, each behind a byte; how long the text of an address is. Parts of a text. Decimal numbers: mathematics. No statement is proved here.
-/
import Derived.RegionTactic
import Derived.Deep.DeepCutAuto
import Derived.Shelf.Strings.Builder1
import Derived.Shelf.Strings.Builder2
import Derived.Shelf.Strings.OnBuilder
import Derived.Shelf.Small.Strs
import Derived.Shelf.Strings.BuilderF
import Derived.Shelf.Strconv.Itoa0
import Derived.Shelf.Strconv.Itoa1
import Derived.Shelf.LaysM
import Derived.Shelf.Strconv.Itoa2
import Derived.Shelf.Strconv.Itoa3
import Derived.Ground.MpProg
import Derived.Shelf.Pu.ParseUintPublic10
import Derived.Shelf.Pu.ErrVarParseUint
import Derived.Shelf.Strings.Search1
import Derived.Shelf.Strings.Search2
import Derived.Shelf.Strings.Search3
import Derived.Shelf.Strings.Cut
import Derived.Shelf.Strings.Count
import Derived.Shelf.Strings.LastIndex
import Derived.Shelf.Strings.Prefix
import Derived.Shelf.Strings.Split
import Derived.Shelf.Strings.SplitShaped
import Derived.Shelf.Bits.Mul64
import Derived.Shelf.Strings.Repeat
import Derived.Test.YtcbfchkhbngpkaaGreatDoorProg
import Derived.Lib.ItoaNum
import Derived.Lib.Join
import Derived.Lib.SplitLaws
import Derived.Lib.ParseIntB
import Derived.Lib.LastIndexByte
import Derived.Lib.IndexMore
import Derived.Lib.Repeat
import Derived.Lib.Strings
import Derived.Laws.Concat
import Derived.Test.YtcbfchkhbngpkaaGreatDoorConfigReturnsB3
namespace Go.Proofs.YtcbfchkhbngpkaaGreatDoor
open Go.RowKit

set_option maxRecDepth 100000 in
set_option maxHeartbeats 8000000 in
theorem keyHas_any (A : Option Addr) (n c : Nat) (l : List (List UInt8)) (x : List UInt8) (w : World) (hr : RdRow w w.heap.size A 32 n (l.map fun z => (z).map u8v)) (hk : ∀ z ∈ l, (z).length = 32) (hx : (x).length = 32) (hn : n ≤ 1000000) :
    Calls Tryz.prog 62 #[.slice A n c, .agg ((x).map u8v).toArray] w fun e w' => e = .returned (.bool (hasN eqK l x n)) ∧ Below w.heap.size w w' := by
  have HX := Lib.hid hx
  have HIX := Lib.hid (fun W (hb : Below w.heap.size w W) => keyIndex_any A n c l x W ((hr.below hb).mono hb.size) hk hx hn)
  have hge := idxN_ge (fun i => l[i]?.any fun z => eqK x z) n
  rw [show (List.range n).any (fun i => l[i]?.any fun z => eqK x z) = hasN eqK l x n from rfl] at hge
  obtain ⟨y, hy⟩ : ∃ y, hasN eqK l x n = y := ⟨_, rfl⟩
  obtain ⟨q, hq⟩ : ∃ q, idxN (fun i => l[i]?.any fun z => eqK x z) n = q := ⟨_, rfl⟩
  have hIX2 : ∀ W, Below w.heap.size w W → Calls Tryz.prog 82 #[.slice A n c, .agg ((x).map u8v).toArray] W fun e W' => e = .returned (.int .i64 q) ∧ Below W.heap.size W W' := fun W hb => by rw [← hq]; exact HIX.out W hb
  rw [hy, hq] at hge
  rw [hy]
  have HI2 := Lib.hid hIX2
  obtain ⟨cx, hcx⟩ : ∃ z, ((x).map u8v).toArray = z := ⟨_, rfl⟩
  rw [hcx]
  have HCX := Lib.hid hcx
  have HM := Lib.hid ((Lows.nil w).alloc 24 cx ((x).map u8v) hcx.symm)
  have HGE := Lib.hid hge
  clear hr hk hx hn hcx hge hIX2 hy hq HIX
  go_enter Tryz.func62, Tryz.ntmps62
  go_upto_region 1 with fail
  generalize w.alloc (.cells cx 24) = w1 at HM ⊢
  obtain ⟨g, hg⟩ : ∃ g, w.heap.size = g := ⟨_, rfl⟩
  rw [show blkL w.heap.size 24 ((x).map u8v) = blkL g 24 ((x).map u8v) from by rw [hg]] at HM
  rw [hg]
  have HG := Lib.hid hg
  clear hg
  go_wp2_with ((with_reducible refine at_op (.load 24 (.tmp 3)) rfl ?_); refine wpList_load_obj rfl 24 (.tmp 3) rfl g 0 rfl ((x).map u8v) (HM.out.blk 0 rfl).all _ Tryz.underlying24 rfl (size32 (by rw [List.length_map, HX.out])) ?_; rw [HCX.out])
  have hcall := HI2.out w1 HM.out.bel
  rw [HCX.out] at hcall
  refine hcall.mono ?_
  rintro e w2 ⟨rfl, hb⟩
  have HB2 := Lib.hid (HM.out.bel.trans (hb.mono HM.out.size))
  clear hb HM HI2 hcall
  have hd : decide (q ≥ 0) = y := HGE.out
  go_wp2
  go_ret
  exact ⟨by first | rfl | rw [← HGE.out]; rfl, HB2.out⟩
set_option maxRecDepth 100000 in
set_option maxHeartbeats 8000000 in
theorem keyRep_any (A : Option Addr) (n c : Nat) (l : List (List UInt8)) (w : World) (hr : RdRow w w.heap.size A 32 n (l.map fun z => (z).map u8v)) (hk : ∀ z ∈ l, (z).length = 32) (hn : n ≤ 1000000) (hnc : n ≤ c) :
    Calls Tryz.prog 34 #[.slice A n c] w fun e w' => e = .returned (.bool (repM eqK l)) ∧ Below w.heap.size w w' := by
  have HR := Lib.hid hr
  have HK := Lib.hid hk
  have HN := Lib.hid (And.intro hn hnc)
  have hll : l.length = n := by have h := hr.1; rwa [List.length_map] at h
  have HLN := Lib.hid hll
  obtain ⟨p, hp⟩ : ∃ p : Nat → Bool, (fun i => l[i]?.any fun x => hasN eqK (l.take i) x i) = p := ⟨_, rfl⟩
  have hrep : repM eqK l = (List.range n).any p := by rw [← hp, ← hll]; rfl
  rw [hrep]
  have HPP := Lib.hid (show ∀ j z, l[j]? = some z → p j = hasN eqK (l.take j) z j from fun j z h => by rw [← hp]; simp only [h, Option.any_some])
  clear hr hk hp hll hrep
  go_enter Tryz.func34, Tryz.ntmps34
  go_wp2_with fail
  go_loopw [7] (fun i wr => ∃ j : Nat, j ≤ n ∧ i = .int .i64 (j : Int) ∧ Lows w [] wr ∧ ∀ q, q < j → p q = false) (fun i _ => n - (intOf i).toNat)
  case atStart => exact ⟨0, Nat.zero_le _, rfl, Lows.nil w, fun q h => absurd h (Nat.not_lt_zero _)⟩
  case round =>
    obtain ⟨j, hj, rfl, hM, hno⟩ := hrel
    have HM := Lib.hid hM
    have HNO := Lib.hid hno
    clear hM hno
    by_cases hjn : j < n
    · have d1 : decide ((j : Int) < (n : Int)) = true := by simp; omega
      obtain ⟨b, off, rfl⟩ := HR.out.addr (by omega)
      obtain ⟨z, hz⟩ : ∃ z, l[j]? = some z := ⟨l[j]'(by rw [HLN.out]; exact hjn), List.getElem?_eq_getElem _⟩
      have HZ := Lib.hid (And.intro hz (HK.out z (List.mem_of_getElem? hz)))
      have hat := HR.out.at j ((z).map u8v) (by rw [List.getElem?_map, hz]; rfl)
      have HAT := Lib.hid (hat.2.mono HM.out.bel hat.1)
      have hpj := HPP.out j z hz
      have hhas := fun W (hb : Below w.heap.size w W) => keyHas_any (addrK (some ⟨b, off, none⟩) 0 c 32) j c (l.take j) z W (by
        rw [List.map_take]
        exact ((HR.out.below hb).mono hb.size).ahead j c hj) (fun q hq => HK.out q (List.mem_of_mem_take hq)) HZ.out.2 (by have := HN.out; omega)
      obtain ⟨y, hy⟩ : ∃ y, hasN eqK (l.take j) z j = y := ⟨_, rfl⟩
      rw [hy] at hpj
      simp only [hy] at hhas
      have HSL := Lib.hid (ks_h (n := n) (some ⟨b, off, none⟩) c j hj HN.out.2)
      obtain ⟨co, hco⟩ : ∃ c, ((z).map u8v).toArray = c := ⟨_, rfl⟩
      rw [hco] at hhas
      have HHAS := Lib.hid hhas
      have HPJ := Lib.hid hpj
      have HCO := Lib.hid hco
      have HRT := Lib.hid (show (∀ q, q < j → p q = false) → y = true → (List.range n).any p = true from fun _ hyt => List.any_eq_true.2 ⟨j, List.mem_range.2 hjn, by rw [hpj, hyt]⟩)
      obtain ⟨zs, hzs⟩ : ∃ z : List Value, [Value.int .u8 0, Value.int .u8 0, Value.int .u8 0, Value.int .u8 0, Value.int .u8 0, Value.int .u8 0, Value.int .u8 0, Value.int .u8 0, Value.int .u8 0, Value.int .u8 0, Value.int .u8 0, Value.int .u8 0, Value.int .u8 0, Value.int .u8 0, Value.int .u8 0, Value.int .u8 0, Value.int .u8 0, Value.int .u8 0, Value.int .u8 0, Value.int .u8 0, Value.int .u8 0, Value.int .u8 0, Value.int .u8 0, Value.int .u8 0, Value.int .u8 0, Value.int .u8 0, Value.int .u8 0, Value.int .u8 0, Value.int .u8 0, Value.int .u8 0, Value.int .u8 0, Value.int .u8 0] = z := ⟨_, rfl⟩
      have HZB := Lib.hid (show Blk (wr.alloc (.cells [Value.int .u8 0, Value.int .u8 0, Value.int .u8 0, Value.int .u8 0, Value.int .u8 0, Value.int .u8 0, Value.int .u8 0, Value.int .u8 0, Value.int .u8 0, Value.int .u8 0, Value.int .u8 0, Value.int .u8 0, Value.int .u8 0, Value.int .u8 0, Value.int .u8 0, Value.int .u8 0, Value.int .u8 0, Value.int .u8 0, Value.int .u8 0, Value.int .u8 0, Value.int .u8 0, Value.int .u8 0, Value.int .u8 0, Value.int .u8 0, Value.int .u8 0, Value.int .u8 0, Value.int .u8 0, Value.int .u8 0, Value.int .u8 0, Value.int .u8 0, Value.int .u8 0, Value.int .u8 0].toArray 24)) wr.heap.size 24 zs from by rw [← hzs]; exact Blk.new wr 24 _)
      have HZL := Lib.hid (show zs.length = 32 from by rw [← hzs]; rfl)
      clear hz hat hhas hpj hy hco hzs
      go_upto_region 3 with fail
      go_upto_region 4 with (first | ((with_reducible refine at_op (.load 24 (.tmp 10)) rfl ?_); refine wpList_load_obj rfl 24 (.tmp 10) rfl b _ rfl _ HAT.out _ Tryz.underlying24 rfl (size32 (by rw [List.length_map, HZ.out.2])) ?_; rw [HCO.out]) | ((with_reducible refine at_op (.store 24 (.tmp 4) (.tmp 11)) rfl ?_); refine wpList_store_obj rfl 24 (.tmp 4) (.tmp 11) rfl wr.heap.size 0 ((z).map u8v) rfl (by show Value.agg co = _; rw [HCO.out]) 24 zs HZB.out (size32 (by rw [List.length_map, HZ.out.2])) (by rw [HZL.out]; simp [HZ.out.2]) (u8v_one z) ?_; intro w2 hb2 hg2))
      rw [setL_all zs _ (by rw [HZL.out]; simp [HZ.out.2])] at hb2
      have hM2 := HM.out.stored hg2 hb2
      replace HM := Lib.hid hM2
      generalize wr.heap.size = g at HM HZB hb2 hg2 hM2 ⊢
      clear d1 hb2 hg2 hM2 HZB HAT
      refine wp_region_held_drew (S := fun W' => Lows w [blkL g 24 ((z).map u8v)] W') (by kernel_rfl) (HM.out.drew) (fun hHeld => ?_)
      replace HM := Lib.hid HM.out.drew
      generalize w2.drew = wd1 at HM hHeld ⊢
      refine take_first (v := ?_) 0 rfl (by kernel_rfl) (by kernel_rfl) (by kernel_rfl) (fun _ _ _ h => h) (Or.inl ⟨by rfl, ?_⟩) (by assumption) ?_
      rotate_left
      · (intro w hSw; (try dsimp only at hSw); go_simp; try with_reducible rfl)
      (try simp only [Act.put, List.setIfInBounds_toArray, List.set_cons_zero, List.set_cons_succ])
      refine take_first (v := ?_) 1 rfl (by kernel_rfl) (by kernel_rfl) (by kernel_rfl) (fun _ _ _ h => h) (Or.inl ⟨by rfl, ?_⟩) (by assumption) ?_
      rotate_left
      · (intro w hSw; (try dsimp only at hSw); go_simp; try with_reducible rfl)
      (try simp only [Act.put, List.setIfInBounds_toArray, List.set_cons_zero, List.set_cons_succ])
      refine take_first (v := ?_) 2 rfl (by kernel_rfl) (by kernel_rfl) (by kernel_rfl) (fun _ _ _ h => h) (Or.inl ⟨by rfl, ?_⟩) (by assumption) ?_
      rotate_left
      · (intro w hSw; (try dsimp only at hSw); have hsl := HSL.out; go_simp; try with_reducible rfl)
      (try simp only [Act.put, List.setIfInBounds_toArray, List.set_cons_zero, List.set_cons_succ])
      refine take_first (v := .agg co) 3 rfl (by kernel_rfl) (by kernel_rfl) (by kernel_rfl) (fun _ _ _ h => h) (by rw [← HCO.out]; exact yields_load_obj (by rfl) 24 (.tmp 4) rfl g 0 rfl _ (fun W hW => (Lows.blk hW 0 rfl).all) _ Tryz.underlying24 rfl (size32 (by rw [List.length_map, HZ.out.2]))) (by assumption) ?_
      (try simp only [Act.put, List.setIfInBounds_toArray, List.set_cons_zero, List.set_cons_succ])
      refine step_one 4 rfl (by kernel_rfl) (fun K hK => ?_)
      clear hHeld
      go_simp
      refine ((HHAS.out wd1 HM.out.bel)).mono ?_
      rintro e wy2 ⟨rfl, hb⟩
      replace HM := Lib.hid (show Lows w [blkL g 24 ((z).map u8v)] wy2 from HM.out.below hb)
      clear hb
      go_wp2_with fail
      refine hK.out _ _ (HM.out) (fun hHeld => ?_)
      clear hK K
      (try simp only [Act.put, List.setIfInBounds_toArray, List.set_cons_zero, List.set_cons_succ])
      refine wpAnyH_done (by kernel_rfl) ?_ _
      clear hHeld
      cases y with
      | true =>
        go_wp2
        go_ret
        exact ⟨by rw [HRT.out HNO.out (by simp)]; rfl, HM.out.bel⟩
      | false =>
        go_wp2_with fail
        go_roundw
        case rel => exact ⟨j + 1, by omega, by go_num, HM.out.tail 0, fun q hq => by
          rcases Nat.lt_or_ge q j with h | h
          · exact HNO.out q h
          · obtain rfl : q = j := by omega
            exact HPJ.out⟩
        case measure => simp [intOf]; omega
    · obtain rfl : j = n := by omega
      have d1 : decide ((j : Int) < (j : Int)) = false := by simp
      have HF := Lib.hid HM.out.bel
      have HX2 := Lib.hid (show (List.range j).any p = false from List.any_eq_false.2 fun x hx => by rw [HNO.out x (List.mem_range.1 hx)]; simp)
      clear HM HNO
      go_wp2
      go_ret
      exact ⟨by rw [HX2.out]; rfl, HF.out⟩
set_option maxRecDepth 100000 in
set_option maxHeartbeats 8000000 in
theorem prefHas_any (A : Option Addr) (n c : Nat) (l : List (AddrM × Int)) (x : AddrM × Int) (w : World) (hr : RdRow w w.heap.size A 18 n (l.map fun z => prefC (z).1 (z).2)) (hk : ∀ z ∈ l, okP z) (hx : okP x) (hn : n ≤ 1000000) :
    Calls Tryz.prog 63 #[.slice A n c, .agg (prefC (x).1 (x).2).toArray] w fun e w' => e = .returned (.bool (hasN eqP l x n)) ∧ Below w.heap.size w w' := by
  have HX := Lib.hid hx
  have HIX := Lib.hid (fun W (hb : Below w.heap.size w W) => prefIndex_any A n c l x W ((hr.below hb).mono hb.size) hk hx hn)
  have hge := idxN_ge (fun i => l[i]?.any fun z => eqP x z) n
  rw [show (List.range n).any (fun i => l[i]?.any fun z => eqP x z) = hasN eqP l x n from rfl] at hge
  obtain ⟨y, hy⟩ : ∃ y, hasN eqP l x n = y := ⟨_, rfl⟩
  obtain ⟨q, hq⟩ : ∃ q, idxN (fun i => l[i]?.any fun z => eqP x z) n = q := ⟨_, rfl⟩
  have hIX2 : ∀ W, Below w.heap.size w W → Calls Tryz.prog 83 #[.slice A n c, .agg (prefC (x).1 (x).2).toArray] W fun e W' => e = .returned (.int .i64 q) ∧ Below W.heap.size W W' := fun W hb => by rw [← hq]; exact HIX.out W hb
  rw [hy, hq] at hge
  rw [hy]
  have HI2 := Lib.hid hIX2
  obtain ⟨cx, hcx⟩ : ∃ z, (prefC (x).1 (x).2).toArray = z := ⟨_, rfl⟩
  rw [hcx]
  have HCX := Lib.hid hcx
  have HM := Lib.hid ((Lows.nil w).alloc 60 cx (prefC (x).1 (x).2) hcx.symm)
  have HGE := Lib.hid hge
  clear hr hk hx hn hcx hge hIX2 hy hq HIX
  go_enter Tryz.func63, Tryz.ntmps63
  go_upto_region 1 with fail
  generalize w.alloc (.cells cx 60) = w1 at HM ⊢
  obtain ⟨g, hg⟩ : ∃ g, w.heap.size = g := ⟨_, rfl⟩
  rw [show blkL w.heap.size 60 (prefC (x).1 (x).2) = blkL g 60 (prefC (x).1 (x).2) from by rw [hg]] at HM
  rw [hg]
  have HG := Lib.hid hg
  clear hg
  go_wp2_with ((with_reducible refine at_op (.load 60 (.tmp 3)) rfl ?_); refine wpList_load_obj rfl 60 (.tmp 3) rfl g 0 rfl (prefC (x).1 (x).2) (HM.out.blk 0 rfl).all _ Tryz.underlying60 rfl (pref_cellsOf' x.1 HX.out.1 x.2) ?_; rw [HCX.out])
  have hcall := HI2.out w1 HM.out.bel
  rw [HCX.out] at hcall
  refine hcall.mono ?_
  rintro e w2 ⟨rfl, hb⟩
  have HB2 := Lib.hid (HM.out.bel.trans (hb.mono HM.out.size))
  clear hb HM HI2 hcall
  have hd : decide (q ≥ 0) = y := HGE.out
  go_wp2
  go_ret
  exact ⟨by first | rfl | rw [← HGE.out]; rfl, HB2.out⟩
set_option maxRecDepth 100000 in
set_option maxHeartbeats 8000000 in
theorem prefRep_any (A : Option Addr) (n c : Nat) (l : List (AddrM × Int)) (w : World) (hr : RdRow w w.heap.size A 18 n (l.map fun z => prefC (z).1 (z).2)) (hk : ∀ z ∈ l, okP z) (hn : n ≤ 1000000) (hnc : n ≤ c) :
    Calls Tryz.prog 35 #[.slice A n c] w fun e w' => e = .returned (.bool (repM eqP l)) ∧ Below w.heap.size w w' := by
  have HR := Lib.hid hr
  have HK := Lib.hid hk
  have HN := Lib.hid (And.intro hn hnc)
  have hll : l.length = n := by have h := hr.1; rwa [List.length_map] at h
  have HLN := Lib.hid hll
  obtain ⟨p, hp⟩ : ∃ p : Nat → Bool, (fun i => l[i]?.any fun x => hasN eqP (l.take i) x i) = p := ⟨_, rfl⟩
  have hrep : repM eqP l = (List.range n).any p := by rw [← hp, ← hll]; rfl
  rw [hrep]
  have HPP := Lib.hid (show ∀ j z, l[j]? = some z → p j = hasN eqP (l.take j) z j from fun j z h => by rw [← hp]; simp only [h, Option.any_some])
  clear hr hk hp hll hrep
  go_enter Tryz.func35, Tryz.ntmps35
  go_wp2_with fail
  go_loopw [7] (fun i wr => ∃ j : Nat, j ≤ n ∧ i = .int .i64 (j : Int) ∧ Lows w [] wr ∧ ∀ q, q < j → p q = false) (fun i _ => n - (intOf i).toNat)
  case atStart => exact ⟨0, Nat.zero_le _, rfl, Lows.nil w, fun q h => absurd h (Nat.not_lt_zero _)⟩
  case round =>
    obtain ⟨j, hj, rfl, hM, hno⟩ := hrel
    have HM := Lib.hid hM
    have HNO := Lib.hid hno
    clear hM hno
    by_cases hjn : j < n
    · have d1 : decide ((j : Int) < (n : Int)) = true := by simp; omega
      obtain ⟨b, off, rfl⟩ := HR.out.addr (by omega)
      obtain ⟨z, hz⟩ : ∃ z, l[j]? = some z := ⟨l[j]'(by rw [HLN.out]; exact hjn), List.getElem?_eq_getElem _⟩
      have HZ := Lib.hid (And.intro hz (HK.out z (List.mem_of_getElem? hz)))
      have hat := HR.out.at j (prefC (z).1 (z).2) (by rw [List.getElem?_map, hz]; rfl)
      have HAT := Lib.hid (hat.2.mono HM.out.bel hat.1)
      have hpj := HPP.out j z hz
      have hhas := fun W (hb : Below w.heap.size w W) => prefHas_any (addrK (some ⟨b, off, none⟩) 0 c 18) j c (l.take j) z W (by
        rw [List.map_take]
        exact ((HR.out.below hb).mono hb.size).ahead j c hj) (fun q hq => HK.out q (List.mem_of_mem_take hq)) HZ.out.2 (by have := HN.out; omega)
      obtain ⟨y, hy⟩ : ∃ y, hasN eqP (l.take j) z j = y := ⟨_, rfl⟩
      rw [hy] at hpj
      simp only [hy] at hhas
      have HSL := Lib.hid (ps_h (n := n) (some ⟨b, off, none⟩) c j hj HN.out.2)
      obtain ⟨co, hco⟩ : ∃ c, (prefC (z).1 (z).2).toArray = c := ⟨_, rfl⟩
      rw [hco] at hhas
      have HHAS := Lib.hid hhas
      have HPJ := Lib.hid hpj
      have HCO := Lib.hid hco
      have HRT := Lib.hid (show (∀ q, q < j → p q = false) → y = true → (List.range n).any p = true from fun _ hyt => List.any_eq_true.2 ⟨j, List.mem_range.2 hjn, by rw [hpj, hyt]⟩)
      obtain ⟨zs, hzs⟩ : ∃ z : List Value, [Value.bool false, Value.int .u8 0, Value.int .u8 0, Value.int .u8 0, Value.int .u8 0, Value.int .u8 0, Value.int .u8 0, Value.int .u8 0, Value.int .u8 0, Value.int .u8 0, Value.int .u8 0, Value.int .u8 0, Value.int .u8 0, Value.int .u8 0, Value.int .u8 0, Value.int .u8 0, Value.int .u8 0, Value.int .i64 0] = z := ⟨_, rfl⟩
      have HZB := Lib.hid (show Blk (wr.alloc (.cells [Value.bool false, Value.int .u8 0, Value.int .u8 0, Value.int .u8 0, Value.int .u8 0, Value.int .u8 0, Value.int .u8 0, Value.int .u8 0, Value.int .u8 0, Value.int .u8 0, Value.int .u8 0, Value.int .u8 0, Value.int .u8 0, Value.int .u8 0, Value.int .u8 0, Value.int .u8 0, Value.int .u8 0, Value.int .i64 0].toArray 60)) wr.heap.size 60 zs from by rw [← hzs]; exact Blk.new wr 60 _)
      have HZL := Lib.hid (show zs.length = 18 from by rw [← hzs]; rfl)
      clear hz hat hhas hpj hy hco hzs
      go_upto_region 3 with fail
      go_upto_region 4 with (first | ((with_reducible refine at_op (.load 60 (.tmp 10)) rfl ?_); refine wpList_load_obj rfl 60 (.tmp 10) rfl b _ rfl _ HAT.out _ Tryz.underlying60 rfl (pref_cellsOf' z.1 HZ.out.2.1 z.2) ?_; rw [HCO.out]) | ((with_reducible refine at_op (.store 60 (.tmp 4) (.tmp 11)) rfl ?_); refine wpList_store_obj rfl 60 (.tmp 4) (.tmp 11) rfl wr.heap.size 0 (prefC (z).1 (z).2) rfl (by show Value.agg co = _; rw [HCO.out]) 60 zs HZB.out (pref_cellsOf' z.1 HZ.out.2.1 z.2) (by rw [HZL.out]; simp [prefC_length z.1 HZ.out.2.1]) (prefC_one _ _) ?_; intro w2 hb2 hg2))
      rw [setL_all zs _ (by rw [HZL.out]; simp [prefC_length z.1 HZ.out.2.1])] at hb2
      have hM2 := HM.out.stored hg2 hb2
      replace HM := Lib.hid hM2
      generalize wr.heap.size = g at HM HZB hb2 hg2 hM2 ⊢
      clear d1 hb2 hg2 hM2 HZB HAT
      refine wp_region_held_drew (S := fun W' => Lows w [blkL g 60 (prefC (z).1 (z).2)] W') (by kernel_rfl) (HM.out.drew) (fun hHeld => ?_)
      replace HM := Lib.hid HM.out.drew
      generalize w2.drew = wd1 at HM hHeld ⊢
      refine take_first (v := ?_) 0 rfl (by kernel_rfl) (by kernel_rfl) (by kernel_rfl) (fun _ _ _ h => h) (Or.inl ⟨by rfl, ?_⟩) (by assumption) ?_
      rotate_left
      · (intro w hSw; (try dsimp only at hSw); go_simp; try with_reducible rfl)
      (try simp only [Act.put, List.setIfInBounds_toArray, List.set_cons_zero, List.set_cons_succ])
      refine take_first (v := ?_) 1 rfl (by kernel_rfl) (by kernel_rfl) (by kernel_rfl) (fun _ _ _ h => h) (Or.inl ⟨by rfl, ?_⟩) (by assumption) ?_
      rotate_left
      · (intro w hSw; (try dsimp only at hSw); go_simp; try with_reducible rfl)
      (try simp only [Act.put, List.setIfInBounds_toArray, List.set_cons_zero, List.set_cons_succ])
      refine take_first (v := ?_) 2 rfl (by kernel_rfl) (by kernel_rfl) (by kernel_rfl) (fun _ _ _ h => h) (Or.inl ⟨by rfl, ?_⟩) (by assumption) ?_
      rotate_left
      · (intro w hSw; (try dsimp only at hSw); have hsl := HSL.out; go_simp; try with_reducible rfl)
      (try simp only [Act.put, List.setIfInBounds_toArray, List.set_cons_zero, List.set_cons_succ])
      refine take_first (v := .agg co) 3 rfl (by kernel_rfl) (by kernel_rfl) (by kernel_rfl) (fun _ _ _ h => h) (by rw [← HCO.out]; exact yields_load_obj (by rfl) 60 (.tmp 4) rfl g 0 rfl _ (fun W hW => (Lows.blk hW 0 rfl).all) _ Tryz.underlying60 rfl (pref_cellsOf' z.1 HZ.out.2.1 z.2)) (by assumption) ?_
      (try simp only [Act.put, List.setIfInBounds_toArray, List.set_cons_zero, List.set_cons_succ])
      refine step_one 4 rfl (by kernel_rfl) (fun K hK => ?_)
      clear hHeld
      go_simp
      refine ((HHAS.out wd1 HM.out.bel)).mono ?_
      rintro e wy2 ⟨rfl, hb⟩
      replace HM := Lib.hid (show Lows w [blkL g 60 (prefC (z).1 (z).2)] wy2 from HM.out.below hb)
      clear hb
      go_wp2_with fail
      refine hK.out _ _ (HM.out) (fun hHeld => ?_)
      clear hK K
      (try simp only [Act.put, List.setIfInBounds_toArray, List.set_cons_zero, List.set_cons_succ])
      refine wpAnyH_done (by kernel_rfl) ?_ _
      clear hHeld
      cases y with
      | true =>
        go_wp2
        go_ret
        exact ⟨by rw [HRT.out HNO.out (by simp)]; rfl, HM.out.bel⟩
      | false =>
        go_wp2_with fail
        go_roundw
        case rel => exact ⟨j + 1, by omega, by go_num, HM.out.tail 0, fun q hq => by
          rcases Nat.lt_or_ge q j with h | h
          · exact HNO.out q h
          · obtain rfl : q = j := by omega
            exact HPJ.out⟩
        case measure => simp [intOf]; omega
    · obtain rfl : j = n := by omega
      have d1 : decide ((j : Int) < (j : Int)) = false := by simp
      have HF := Lib.hid HM.out.bel
      have HX2 := Lib.hid (show (List.range j).any p = false from List.any_eq_false.2 fun x hx => by rw [HNO.out x (List.mem_range.1 hx)]; simp)
      clear HM HNO
      go_wp2
      go_ret
      exact ⟨by rw [HX2.out]; rfl, HF.out⟩
end Go.Proofs.YtcbfchkhbngpkaaGreatDoor
namespace Go.Proofs.YtcbfchkhbngpkaaGreatDoor
open Go.RowKit

def CfFmtEndC (F : Nat) : Prop := ∀ a : AddrM, a.ok → ∀ port : Int, -9223372036854775808 ≤ port → port ≤ 9223372036854775807 → ∀ w : World, LvCf w →
  Calls Tryz.prog F #[.agg (prefC a port).toArray] w fun e w' => e = .returned (.string ⟨(endT a port).toArray⟩) ∧ Below w.heap.size w w'
def CfParseEndC (F : Nat) : Prop := ∀ l : List UInt8, l.length ≤ 100000 → ∀ w : World, LvCf w →
  Calls Tryz.prog F #[.string ⟨l.toArray⟩] w fun e w' => e = .returned (.tuple #[.agg (prefC (endP l).1.1 ((endP l).1.2 : Int)).toArray, .int .i64 ((endP l).2 : Int)]) ∧ Below w.heap.size w w'
def CfFmtPrefC (F : Nat) : Prop := ∀ a : AddrM, a.ok → ∀ bits : Int, -9223372036854775808 ≤ bits → bits ≤ 9223372036854775807 → ∀ w : World, LvCf w →
  Calls Tryz.prog F #[.agg (prefC a bits).toArray] w fun e w' => e = .returned (.string ⟨(prefT a bits).toArray⟩) ∧ Below w.heap.size w w'
def CfParsePrefC (F : Nat) : Prop := ∀ l : List UInt8, l.length ≤ 100000 → ∀ w : World, LvCf w →
  Calls Tryz.prog F #[.string ⟨l.toArray⟩] w fun e w' => e = .returned (.tuple #[.agg (prefC (prefP l).1.1 ((prefP l).1.2 : Int)).toArray, .int .i64 ((prefP l).2 : Int)]) ∧ Below w.heap.size w w'

theorem end_cellsOf (a : AddrM) (h : a.ok) (q : Int) : (Tryz.prog.info? 55).map (·.size) = some (prefC a q).length := by
  rw [prefC_length a h q]; kernel_rfl
theorem end_noguard : Tryz.prog.eqGuardType Tryz.prog.depth 55 = false := by kernel_rfl
end Go.Proofs.YtcbfchkhbngpkaaGreatDoor
namespace Go.Proofs.YtcbfchkhbngpkaaGreatDoor
open Go.Shelf
def sh_lays156_ren : Go.Shelf.Ren := ⟨fun | 156 => 26 | 165 => 52 | 166 => 53 | 169 => 54 | 240 => 75 | 241 => 76 | 276 => 110 | 277 => 111 | n => n, fun | 31 => 43 | 9 => 9 | 3 => 3 | 4 => 4 | 0 => 0 | 20 => 20 | 72 => 96 | 76 => 100 | 70 => 94 | 37 => 22 | 75 => 99 | 127 => 118 | 164 => 144 | 5 => 5 | 80 => 102 | n => n, fun | n => n⟩
theorem sh_lays156 : Go.Proofs.Lays.n156 Tryz.prog sh_lays156_ren := {
  mixed := by kernel_rfl
  f156 := Tryz.func26.trans (congrArg some (by kernel_rfl))
  f165 := Tryz.func52.trans (congrArg some (by kernel_rfl))
  f166 := Tryz.func53.trans (congrArg some (by kernel_rfl))
  f169 := Tryz.func54.trans (congrArg some (by kernel_rfl))
  f240 := Tryz.func75.trans (congrArg some (by kernel_rfl))
  f241 := Tryz.func76.trans (congrArg some (by kernel_rfl))
  f276 := Tryz.func110.trans (congrArg some (by kernel_rfl))
  f277 := Tryz.func111.trans (congrArg some (by kernel_rfl))
  t0 := Tryz.underlying0
  a0 := Tryz.isAgg0
  z0 := Tryz.sizeOf0
  v0 := Tryz.zeroValue0
  t3 := Tryz.underlying3
  a3 := Tryz.isAgg3
  z3 := Tryz.sizeOf3
  v3 := Tryz.zeroValue3
  t4 := Tryz.underlying4
  a4 := Tryz.isAgg4
  z4 := Tryz.sizeOf4
  v4 := Tryz.zeroValue4
  t9 := Tryz.underlying9
  a9 := Tryz.isAgg9
  z9 := Tryz.sizeOf9
  v9 := Tryz.zeroValue9
  t20 := Tryz.underlying20
  a20 := Tryz.isAgg20
  z20 := Tryz.sizeOf20
  v20 := Tryz.zeroValue20
  t31 := Tryz.underlying43
  a31 := Tryz.isAgg43
  z31 := Tryz.sizeOf43
  v31 := Tryz.zeroValue43
  t37 := Tryz.underlying22
  a37 := Tryz.isAgg22
  z37 := Tryz.sizeOf22
  v37 := Tryz.zeroValue22
  t70 := Tryz.underlying94
  a70 := Tryz.isAgg94
  z70 := Tryz.sizeOf94
  v70 := Tryz.zeroValue94
  t72 := Tryz.underlying96
  a72 := Tryz.isAgg96
  z72 := Tryz.sizeOf96
  v72 := Tryz.zeroValue96
  t75 := Tryz.underlying99
  a75 := Tryz.isAgg99
  z75 := Tryz.sizeOf99
  v75 := Tryz.zeroValue99
  t76 := Tryz.underlying100
  a76 := Tryz.isAgg100
  z76 := Tryz.sizeOf100
  v76 := Tryz.zeroValue100
  t127 := Tryz.underlying118
  a127 := Tryz.isAgg118
  z127 := Tryz.sizeOf118
  v127 := Tryz.zeroValue118
  t164 := Tryz.underlying144
  a164 := Tryz.isAgg144
  z164 := Tryz.sizeOf144
  v164 := Tryz.zeroValue144 }
theorem sh_Builder_Extra_156 : Builder.Extra Tryz.prog sh_lays156_ren := {
  sizeBuilder := by kernel_rfl
  liesBuilder := by kernel_rfl
  t5 := Tryz.underlying5
  a5 := Tryz.isAgg5
  z5 := Tryz.sizeOf5
  v5 := Tryz.zeroValue5
  infoByte := by kernel_rfl
  cellsByte := by kernel_rfl
  sizeByte := by kernel_rfl
  neB5 := by decide }
open Go.RowKit in
theorem sh_strings_Join (bk o c : Nat) (xs : List ByteArray) (sep : ByteArray) (w : World) (hcells : ∀ (j : Nat) x, xs[j]? = some x → w.cell? ⟨bk, o + j, none⟩ = some (.string x)) (hbk : bk < w.heap.size) (hN : xs.length ≤ 140737488355328) (hcap : xs.length ≤ c) (hlen : (Lib.join (xs.map (·.data.toList)) sep.data.toList).length ≤ 140737488355328) :
    Calls Tryz.prog 26 #[.slice (some ⟨bk, o, none⟩) xs.length c, .string sep] w fun e w' => e = .returned (.string ⟨(Lib.join (xs.map (·.data.toList)) sep.data.toList).toArray⟩) ∧ Below w.heap.size w w' := Any.strings_Join sh_lays156 sh_Builder_Extra_156 bk o c xs sep w hcells hbk hN hcap hlen
def sh_laysM171_ren : Go.Shelf.Ren := ⟨fun | 171 => 24 | 243 => 48 | 246 => 73 | 283 => 106 | 284 => 107 | 285 => 108 | 286 => 109 | 129 => 128 | 317 => 127 | 318 => 129 | 319 => 130 | 320 => 131 | 337 => 157 | 338 => 158 | n => n, fun | 3 => 3 | 9 => 9 | 2 => 2 | 4 => 4 | 171 => 139 | 0 => 0 | 53 => 90 | 37 => 22 | 5 => 5 | 173 => 142 | 212 => 161 | 51 => 162 | 20 => 20 | 213 => 163 | 46 => 86 | 232 => 23 | 233 => 207 | n => n, fun | 17 => 0 | 18 => 6 | 19 => 7 | n => n⟩
theorem sh_laysM171 : Go.Proofs.LaysM.n171 Tryz.prog sh_laysM171_ren := {
  mixed := by kernel_rfl
  f129 := Tryz.func128.trans (congrArg some (by kernel_rfl))
  f171 := Tryz.func24.trans (congrArg some (by kernel_rfl))
  f243 := Tryz.func48.trans (congrArg some (by kernel_rfl))
  f246 := Tryz.func73.trans (congrArg some (by kernel_rfl))
  f283 := Tryz.func106.trans (congrArg some (by kernel_rfl))
  f284 := Tryz.func107.trans (congrArg some (by kernel_rfl))
  f285 := Tryz.func108.trans (congrArg some (by kernel_rfl))
  f286 := Tryz.func109.trans (congrArg some (by kernel_rfl))
  f317 := Tryz.func127.trans (congrArg some (by kernel_rfl))
  f318 := Tryz.func129.trans (congrArg some (by kernel_rfl))
  f319 := Tryz.func130.trans (congrArg some (by kernel_rfl))
  f320 := Tryz.func131.trans (congrArg some (by kernel_rfl))
  f337 := Tryz.func157.trans (congrArg some (by kernel_rfl))
  f338 := Tryz.func158.trans (congrArg some (by kernel_rfl))
  t0 := Tryz.underlying0
  a0 := Tryz.isAgg0
  z0 := Tryz.sizeOf0
  v0 := Tryz.zeroValue0
  t2 := Tryz.underlying2
  a2 := Tryz.isAgg2
  z2 := Tryz.sizeOf2
  v2 := Tryz.zeroValue2
  t3 := Tryz.underlying3
  a3 := Tryz.isAgg3
  z3 := Tryz.sizeOf3
  v3 := Tryz.zeroValue3
  t4 := Tryz.underlying4
  a4 := Tryz.isAgg4
  z4 := Tryz.sizeOf4
  v4 := Tryz.zeroValue4
  t5 := Tryz.underlying5
  a5 := Tryz.isAgg5
  z5 := Tryz.sizeOf5
  v5 := Tryz.zeroValue5
  t9 := Tryz.underlying9
  a9 := Tryz.isAgg9
  z9 := Tryz.sizeOf9
  v9 := Tryz.zeroValue9
  t20 := Tryz.underlying20
  a20 := Tryz.isAgg20
  z20 := Tryz.sizeOf20
  v20 := Tryz.zeroValue20
  t37 := Tryz.underlying22
  a37 := Tryz.isAgg22
  z37 := Tryz.sizeOf22
  v37 := Tryz.zeroValue22
  t46 := Tryz.underlying86
  a46 := Tryz.isAgg86
  z46 := Tryz.sizeOf86
  v46 := Tryz.zeroValue86
  t51 := Tryz.underlying162
  a51 := Tryz.isAgg162
  z51 := Tryz.sizeOf162
  v51 := Tryz.zeroValue162
  t53 := Tryz.underlying90
  a53 := Tryz.isAgg90
  z53 := Tryz.sizeOf90
  v53 := Tryz.zeroValue90
  t171 := Tryz.underlying139
  a171 := Tryz.isAgg139
  z171 := Tryz.sizeOf139
  v171 := Tryz.zeroValue139
  t173 := Tryz.underlying142
  a173 := Tryz.isAgg142
  z173 := Tryz.sizeOf142
  v173 := Tryz.zeroValue142
  t212 := Tryz.underlying161
  a212 := Tryz.isAgg161
  z212 := Tryz.sizeOf161
  v212 := Tryz.zeroValue161
  t213 := Tryz.underlying163
  a213 := Tryz.isAgg163
  z213 := Tryz.sizeOf163
  t232 := Tryz.underlying23
  a232 := Tryz.isAgg23
  z232 := Tryz.sizeOf23
  v232 := Tryz.zeroValue23
  t233 := Tryz.underlying207
  a233 := Tryz.isAgg207
  z233 := Tryz.sizeOf207
  v233 := Tryz.zeroValue207
  g17 := by kernel_rfl
  g18 := by kernel_rfl
  g19 := by kernel_rfl
  i0 := by kernel_rfl
  i2 := by kernel_rfl
  i3 := by kernel_rfl
  i4 := by kernel_rfl
  i5 := by kernel_rfl
  i9 := by kernel_rfl
  i20 := by kernel_rfl
  i37 := by kernel_rfl
  i46 := by kernel_rfl
  i51 := by kernel_rfl
  i53 := by kernel_rfl
  i171 := by kernel_rfl
  i173 := by kernel_rfl
  i212 := by kernel_rfl
  i232 := by kernel_rfl
  i233 := by kernel_rfl
  m17 := by kernel_rfl
  m18 := by kernel_rfl
  m19 := by kernel_rfl }
open Go.RowKit Go.Sort Go.Lib in
theorem sh_strconv_Itoa (n : Int) (h0 : -9223372036854775808 ≤ n) (h1 : n ≤ 9223372036854775807) (w : World) (htab : Lib.TabIs Tryz.prog w "internal/strconv.uint64pow10" .u64 Lib.pow10Tab) :
    Calls Tryz.prog 24 #[.int .i64 n] w fun e w' => e = .returned (.string ⟨(Lib.itoa n).toArray⟩) ∧ ∃ k os, w' = grow (w.drewN k) os := Any.strconv_Itoa sh_laysM171 n h0 h1 w htab
def sh_laysPu14_ren : Go.Shelf.Ren := ⟨fun | 14 => 88 | 16 => 116 | 17 => 117 | 19 => 139 | 20 => 140 | 21 => 141 | 22 => 142 | 23 => 143 | 24 => 144 | 25 => 166 | 27 => 24 | 26 => 167 | 28 => 48 | 29 => 73 | 30 => 106 | 31 => 107 | 32 => 108 | 33 => 109 | 35 => 128 | 34 => 127 | 36 => 129 | 37 => 130 | 38 => 131 | 39 => 157 | 40 => 158 | n => n, fun | 9 => 9 | 3 => 3 | 22 => 90 | 24 => 99 | 25 => 126 | 4 => 4 | 34 => 168 | 5 => 5 | 36 => 86 | 37 => 22 | 0 => 0 | 39 => 171 | 21 => 21 | 44 => 195 | 47 => 118 | 50 => 214 | 48 => 212 | 2 => 2 | 52 => 139 | 55 => 142 | 59 => 161 | 60 => 162 | 20 => 20 | 61 => 163 | 65 => 23 | 66 => 207 | 67 => 102 | n => n, fun | 0 => 2 | 1 => 3 | 2 => 0 | 3 => 6 | 4 => 7 | n => n⟩
theorem sh_laysPu14 : Go.Proofs.LaysPu.n14 Tryz.prog sh_laysPu14_ren := {
  mixed := by kernel_rfl
  f14 := Tryz.func88.trans (congrArg some (by kernel_rfl))
  f16 := Tryz.func116.trans (congrArg some (by kernel_rfl))
  f17 := Tryz.func117.trans (congrArg some (by kernel_rfl))
  f19 := Tryz.func139.trans (congrArg some (by kernel_rfl))
  f20 := Tryz.func140.trans (congrArg some (by kernel_rfl))
  f21 := Tryz.func141.trans (congrArg some (by kernel_rfl))
  f22 := Tryz.func142.trans (congrArg some (by kernel_rfl))
  f23 := Tryz.func143.trans (congrArg some (by kernel_rfl))
  f24 := Tryz.func144.trans (congrArg some (by kernel_rfl))
  f25 := Tryz.func166.trans (congrArg some (by kernel_rfl))
  f26 := Tryz.func167.trans (congrArg some (by kernel_rfl))
  f27 := Tryz.func24.trans (congrArg some (by kernel_rfl))
  f28 := Tryz.func48.trans (congrArg some (by kernel_rfl))
  f29 := Tryz.func73.trans (congrArg some (by kernel_rfl))
  f30 := Tryz.func106.trans (congrArg some (by kernel_rfl))
  f31 := Tryz.func107.trans (congrArg some (by kernel_rfl))
  f32 := Tryz.func108.trans (congrArg some (by kernel_rfl))
  f33 := Tryz.func109.trans (congrArg some (by kernel_rfl))
  f34 := Tryz.func127.trans (congrArg some (by kernel_rfl))
  f35 := Tryz.func128.trans (congrArg some (by kernel_rfl))
  f36 := Tryz.func129.trans (congrArg some (by kernel_rfl))
  f37 := Tryz.func130.trans (congrArg some (by kernel_rfl))
  f38 := Tryz.func131.trans (congrArg some (by kernel_rfl))
  f39 := Tryz.func157.trans (congrArg some (by kernel_rfl))
  f40 := Tryz.func158.trans (congrArg some (by kernel_rfl))
  t0 := Tryz.underlying0
  a0 := Tryz.isAgg0
  z0 := Tryz.sizeOf0
  v0 := Tryz.zeroValue0
  i0 := by kernel_rfl
  t2 := Tryz.underlying2
  a2 := Tryz.isAgg2
  z2 := Tryz.sizeOf2
  v2 := Tryz.zeroValue2
  i2 := by kernel_rfl
  t3 := Tryz.underlying3
  a3 := Tryz.isAgg3
  z3 := Tryz.sizeOf3
  v3 := Tryz.zeroValue3
  i3 := by kernel_rfl
  t4 := Tryz.underlying4
  a4 := Tryz.isAgg4
  z4 := Tryz.sizeOf4
  v4 := Tryz.zeroValue4
  i4 := by kernel_rfl
  t5 := Tryz.underlying5
  a5 := Tryz.isAgg5
  z5 := Tryz.sizeOf5
  v5 := Tryz.zeroValue5
  i5 := by kernel_rfl
  t9 := Tryz.underlying9
  a9 := Tryz.isAgg9
  z9 := Tryz.sizeOf9
  v9 := Tryz.zeroValue9
  i9 := by kernel_rfl
  t20 := Tryz.underlying20
  a20 := Tryz.isAgg20
  z20 := Tryz.sizeOf20
  v20 := Tryz.zeroValue20
  i20 := by kernel_rfl
  t21 := Tryz.underlying21
  a21 := Tryz.isAgg21
  z21 := Tryz.sizeOf21
  v21 := Tryz.zeroValue21
  i21 := by kernel_rfl
  t22 := Tryz.underlying90
  a22 := Tryz.isAgg90
  z22 := Tryz.sizeOf90
  v22 := Tryz.zeroValue90
  i22 := by kernel_rfl
  t24 := Tryz.underlying99
  a24 := Tryz.isAgg99
  z24 := Tryz.sizeOf99
  v24 := Tryz.zeroValue99
  i24 := by kernel_rfl
  t25 := Tryz.underlying126
  a25 := Tryz.isAgg126
  z25 := Tryz.sizeOf126
  v25 := Tryz.zeroValue126
  i25 := by kernel_rfl
  t34 := Tryz.underlying168
  a34 := Tryz.isAgg168
  z34 := Tryz.sizeOf168
  v34 := Tryz.zeroValue168
  i34 := by kernel_rfl
  c34 := by kernel_rfl
  t36 := Tryz.underlying86
  a36 := Tryz.isAgg86
  z36 := Tryz.sizeOf86
  v36 := Tryz.zeroValue86
  i36 := by kernel_rfl
  t37 := Tryz.underlying22
  a37 := Tryz.isAgg22
  z37 := Tryz.sizeOf22
  v37 := Tryz.zeroValue22
  i37 := by kernel_rfl
  t39 := Tryz.underlying171
  a39 := Tryz.isAgg171
  z39 := Tryz.sizeOf171
  v39 := Tryz.zeroValue171
  i39 := by kernel_rfl
  t44 := Tryz.underlying195
  a44 := Tryz.isAgg195
  z44 := Tryz.sizeOf195
  v44 := Tryz.zeroValue195
  i44 := by kernel_rfl
  t47 := Tryz.underlying118
  a47 := Tryz.isAgg118
  z47 := Tryz.sizeOf118
  v47 := Tryz.zeroValue118
  i47 := by kernel_rfl
  t48 := Tryz.underlying212
  a48 := Tryz.isAgg212
  z48 := Tryz.sizeOf212
  v48 := Tryz.zeroValue212
  i48 := by kernel_rfl
  t50 := Tryz.underlying214
  a50 := Tryz.isAgg214
  z50 := Tryz.sizeOf214
  v50 := Tryz.zeroValue214
  i50 := by kernel_rfl
  t52 := Tryz.underlying139
  a52 := Tryz.isAgg139
  z52 := Tryz.sizeOf139
  v52 := Tryz.zeroValue139
  i52 := by kernel_rfl
  t55 := Tryz.underlying142
  a55 := Tryz.isAgg142
  z55 := Tryz.sizeOf142
  v55 := Tryz.zeroValue142
  i55 := by kernel_rfl
  t59 := Tryz.underlying161
  a59 := Tryz.isAgg161
  z59 := Tryz.sizeOf161
  v59 := Tryz.zeroValue161
  i59 := by kernel_rfl
  t60 := Tryz.underlying162
  a60 := Tryz.isAgg162
  z60 := Tryz.sizeOf162
  v60 := Tryz.zeroValue162
  i60 := by kernel_rfl
  t61 := Tryz.underlying163
  a61 := Tryz.isAgg163
  z61 := Tryz.sizeOf163
  t65 := Tryz.underlying23
  a65 := Tryz.isAgg23
  z65 := Tryz.sizeOf23
  v65 := Tryz.zeroValue23
  i65 := by kernel_rfl
  t66 := Tryz.underlying207
  a66 := Tryz.isAgg207
  z66 := Tryz.sizeOf207
  v66 := Tryz.zeroValue207
  i66 := by kernel_rfl
  t67 := Tryz.underlying102
  a67 := Tryz.isAgg102
  z67 := Tryz.sizeOf102
  v67 := Tryz.zeroValue102
  i67 := by kernel_rfl
  g0 := by kernel_rfl
  m0 := by kernel_rfl
  g1 := by kernel_rfl
  m1 := by kernel_rfl
  g2 := by kernel_rfl
  m2 := by kernel_rfl
  g3 := by kernel_rfl
  m3 := by kernel_rfl
  g4 := by kernel_rfl
  m4 := by kernel_rfl }
open Go.RowKit in
theorem sh_strconv_ParseUint_10_at64_ok (s : ByteArray) (hmax : s.size ≤ 9223372036854775806) (u : Nat) (h : Lib.parseUintB 64 s.data.toList = .ok u) (w : World) :
    Calls Tryz.prog 88 #[.string s, .int .i64 10, .int .i64 64] w fun e w' => e = .returned (.tuple #[.int .u64 u, .nilIface]) ∧ (w' = w ∨ w' = Lib.bytesWorld w 5 s) := Any.strconv_ParseUint_10_at64_ok sh_laysPu14 s hmax u h w
open Go.RowKit in
theorem sh_strconv_ParseUint_10_at64_syntax_var (s : ByteArray) (hlim : s.size ≤ 281474976710656) (h : Lib.parseUintB 64 s.data.toList = .«syntax») (tp : TypeId) (p : Value) (w : World) (hvar : w.var? Tryz.prog "strconv.ErrSyntax" = some #[.iface tp p]) :
    Calls Tryz.prog 88 #[.string s, .int .i64 10, .int .i64 64] w fun e w' => ∃ N, e = .returned (.tuple #[.int .u64 0, .iface 171 (.pointer (some ⟨N, 0, none⟩))]) ∧ w.heap.size ≤ N ∧ w'.heap[N]? = some (.cells #[.string ⟨#[80, 97, 114, 115, 101, 85, 105, 110, 116]⟩, .string s, .iface tp p] 195 (0, 0)) ∧ Below w.heap.size w w' := Any.strconv_ParseUint_10_at64_syntax_var sh_laysPu14 s hlim h tp p w hvar
def sh_lays144_ren : Go.Shelf.Ren := ⟨fun | 144 => 85 | 143 => 113 | 219 => 112 | 217 => 132 | 225 => 133 | 224 => 134 | 267 => 135 | 266 => 159 | 314 => 160 | n => n, fun | 9 => 9 | 4 => 4 | 3 => 3 | 5 => 5 | 46 => 86 | 146 => 185 | 51 => 162 | n => n, fun | 1 => 1 | n => n⟩
theorem sh_lays144 : Go.Proofs.Lays.n144 Tryz.prog sh_lays144_ren := {
  mixed := by kernel_rfl
  f143 := Tryz.func113.trans (congrArg some (by kernel_rfl))
  f144 := Tryz.func85.trans (congrArg some (by kernel_rfl))
  f217 := Tryz.func132.trans (congrArg some (by kernel_rfl))
  f219 := Tryz.func112.trans (congrArg some (by kernel_rfl))
  f224 := Tryz.func134.trans (congrArg some (by kernel_rfl))
  f225 := Tryz.func133.trans (congrArg some (by kernel_rfl))
  f266 := Tryz.func159.trans (congrArg some (by kernel_rfl))
  f267 := Tryz.func135.trans (congrArg some (by kernel_rfl))
  f314 := Tryz.func160.trans (congrArg some (by kernel_rfl))
  t3 := Tryz.underlying3
  a3 := Tryz.isAgg3
  z3 := Tryz.sizeOf3
  v3 := Tryz.zeroValue3
  t4 := Tryz.underlying4
  a4 := Tryz.isAgg4
  z4 := Tryz.sizeOf4
  v4 := Tryz.zeroValue4
  t5 := Tryz.underlying5
  a5 := Tryz.isAgg5
  z5 := Tryz.sizeOf5
  v5 := Tryz.zeroValue5
  t9 := Tryz.underlying9
  a9 := Tryz.isAgg9
  z9 := Tryz.sizeOf9
  v9 := Tryz.zeroValue9
  t46 := Tryz.underlying86
  a46 := Tryz.isAgg86
  z46 := Tryz.sizeOf86
  v46 := Tryz.zeroValue86
  t51 := Tryz.underlying162
  a51 := Tryz.isAgg162
  z51 := Tryz.sizeOf162
  v51 := Tryz.zeroValue162
  t146 := Tryz.underlying185
  a146 := Tryz.isAgg185
  z146 := Tryz.sizeOf185
  v146 := Tryz.zeroValue185
  g1 := by kernel_rfl }
open Go.RowKit Go.Lib in
theorem sh_strings_Contains_one (s : ByteArray) (c : UInt8) (w : World) :
    Calls Tryz.prog 85 #[.string s, .string ⟨#[c]⟩] w fun e w' => e = .returned (.bool (decide (0 ≤ Lib.indexByte s.data.toList c))) ∧ w' = w := Any.strings_Contains_one sh_lays144 s c w
def sh_lays145_ren : Go.Shelf.Ren := ⟨fun | 145 => 65 | 220 => 84 | 219 => 112 | 217 => 132 | 225 => 133 | 224 => 134 | 267 => 135 | 266 => 159 | 314 => 160 | n => n, fun | 9 => 9 | 4 => 4 | 59 => 110 | 3 => 3 | 5 => 5 | 46 => 86 | 146 => 185 | 51 => 162 | n => n, fun | 1 => 1 | n => n⟩
theorem sh_lays145 : Go.Proofs.Lays.n145 Tryz.prog sh_lays145_ren := {
  mixed := by kernel_rfl
  f145 := Tryz.func65.trans (congrArg some (by kernel_rfl))
  f217 := Tryz.func132.trans (congrArg some (by kernel_rfl))
  f219 := Tryz.func112.trans (congrArg some (by kernel_rfl))
  f220 := Tryz.func84.trans (congrArg some (by kernel_rfl))
  f224 := Tryz.func134.trans (congrArg some (by kernel_rfl))
  f225 := Tryz.func133.trans (congrArg some (by kernel_rfl))
  f266 := Tryz.func159.trans (congrArg some (by kernel_rfl))
  f267 := Tryz.func135.trans (congrArg some (by kernel_rfl))
  f314 := Tryz.func160.trans (congrArg some (by kernel_rfl))
  t3 := Tryz.underlying3
  a3 := Tryz.isAgg3
  z3 := Tryz.sizeOf3
  v3 := Tryz.zeroValue3
  t4 := Tryz.underlying4
  a4 := Tryz.isAgg4
  z4 := Tryz.sizeOf4
  v4 := Tryz.zeroValue4
  t5 := Tryz.underlying5
  a5 := Tryz.isAgg5
  z5 := Tryz.sizeOf5
  v5 := Tryz.zeroValue5
  t9 := Tryz.underlying9
  a9 := Tryz.isAgg9
  z9 := Tryz.sizeOf9
  v9 := Tryz.zeroValue9
  t46 := Tryz.underlying86
  a46 := Tryz.isAgg86
  z46 := Tryz.sizeOf86
  v46 := Tryz.zeroValue86
  t51 := Tryz.underlying162
  a51 := Tryz.isAgg162
  z51 := Tryz.sizeOf162
  v51 := Tryz.zeroValue162
  t59 := Tryz.underlying110
  a59 := Tryz.isAgg110
  z59 := Tryz.sizeOf110
  v59 := Tryz.zeroValue110
  t146 := Tryz.underlying185
  a146 := Tryz.isAgg185
  z146 := Tryz.sizeOf185
  v146 := Tryz.zeroValue185
  g1 := by kernel_rfl }
open Go.RowKit Go.Lib in
theorem sh_strings_Cut (s sep : ByteArray) (m : Int) (w : World) (hs : s.size < 4294967281) (hm : w.cell? ⟨1, 0, none⟩ = some (.int .i64 m)) :
    Calls Tryz.prog 65 #[.string s, .string sep] w fun e w' => e = .returned (.tuple #[.string ⟨(Lib.cut s.data.toList sep.data.toList).1.toArray⟩, .string ⟨(Lib.cut s.data.toList sep.data.toList).2.1.toArray⟩, .bool (Lib.cut s.data.toList sep.data.toList).2.2]) ∧ ∃ n, w' = w.drewN n := Any.strings_Cut sh_lays145 s sep m w hs hm
def sh_lays148_ren : Go.Shelf.Ren := ⟨fun | 148 => 170 | 222 => 180 | 223 => 181 | 269 => 183 | n => n, fun | 9 => 9 | 3 => 3 | 4 => 4 | 5 => 5 | 146 => 185 | 51 => 162 | 46 => 86 | n => n, fun | n => n⟩
theorem sh_lays148 : Go.Proofs.Lays.n148 Tryz.prog sh_lays148_ren := {
  mixed := by kernel_rfl
  f148 := Tryz.func170.trans (congrArg some (by kernel_rfl))
  f222 := Tryz.func180.trans (congrArg some (by kernel_rfl))
  f223 := Tryz.func181.trans (congrArg some (by kernel_rfl))
  f269 := Tryz.func183.trans (congrArg some (by kernel_rfl))
  t3 := Tryz.underlying3
  a3 := Tryz.isAgg3
  z3 := Tryz.sizeOf3
  v3 := Tryz.zeroValue3
  t4 := Tryz.underlying4
  a4 := Tryz.isAgg4
  z4 := Tryz.sizeOf4
  v4 := Tryz.zeroValue4
  t5 := Tryz.underlying5
  a5 := Tryz.isAgg5
  z5 := Tryz.sizeOf5
  v5 := Tryz.zeroValue5
  t9 := Tryz.underlying9
  a9 := Tryz.isAgg9
  z9 := Tryz.sizeOf9
  v9 := Tryz.zeroValue9
  t46 := Tryz.underlying86
  a46 := Tryz.isAgg86
  z46 := Tryz.sizeOf86
  v46 := Tryz.zeroValue86
  t51 := Tryz.underlying162
  a51 := Tryz.isAgg162
  z51 := Tryz.sizeOf162
  v51 := Tryz.zeroValue162
  t146 := Tryz.underlying185
  a146 := Tryz.isAgg185
  z146 := Tryz.sizeOf185
  v146 := Tryz.zeroValue185 }
open Go.RowKit Go.Lib in
theorem sh_strings_LastIndex_one (s sub : ByteArray) (h1 : sub.size = 1) (hs : s.size < 4611686018427387904) (w : World) :
    Calls Tryz.prog 170 #[.string s, .string sub] w fun e w' => e = .returned (.int .i64 (Lib.lastIndexByte s ((sub[0]'(by omega)).toNat : Int))) ∧ w' = w := Any.strings_LastIndex_one sh_lays148 s sub h1 hs w
def sh_lays99_ren : Go.Shelf.Ren := ⟨fun | 99 => 94 | 206 => 120 | n => n, fun | 9 => 9 | 4 => 4 | 3 => 3 | n => n, fun | n => n⟩
theorem sh_lays99 : Go.Proofs.Lays.n99 Tryz.prog sh_lays99_ren := {
  mixed := by kernel_rfl
  f99 := Tryz.func94.trans (congrArg some (by kernel_rfl))
  f206 := Tryz.func120.trans (congrArg some (by kernel_rfl))
  t3 := Tryz.underlying3
  a3 := Tryz.isAgg3
  z3 := Tryz.sizeOf3
  v3 := Tryz.zeroValue3
  t4 := Tryz.underlying4
  a4 := Tryz.isAgg4
  z4 := Tryz.sizeOf4
  v4 := Tryz.zeroValue4
  t9 := Tryz.underlying9
  a9 := Tryz.isAgg9
  z9 := Tryz.sizeOf9
  v9 := Tryz.zeroValue9 }
open Go.RowKit Go.Lib in
theorem sh_strings_HasPrefix (s p : ByteArray) (w : World) :
    Calls Tryz.prog 94 #[.string s, .string p] w fun e w' => e = .returned (.bool (Lib.hasPrefix s.data.toList p.data.toList)) ∧ w' = w := Any.strings_HasPrefix sh_lays99 s p w
def sh_lays100_ren : Go.Shelf.Ren := ⟨fun | 100 => 182 | 207 => 184 | n => n, fun | 9 => 9 | 4 => 4 | 3 => 3 | n => n, fun | n => n⟩
theorem sh_lays100 : Go.Proofs.Lays.n100 Tryz.prog sh_lays100_ren := {
  mixed := by kernel_rfl
  f100 := Tryz.func182.trans (congrArg some (by kernel_rfl))
  f207 := Tryz.func184.trans (congrArg some (by kernel_rfl))
  t3 := Tryz.underlying3
  a3 := Tryz.isAgg3
  z3 := Tryz.sizeOf3
  v3 := Tryz.zeroValue3
  t4 := Tryz.underlying4
  a4 := Tryz.isAgg4
  z4 := Tryz.sizeOf4
  v4 := Tryz.zeroValue4
  t9 := Tryz.underlying9
  a9 := Tryz.isAgg9
  z9 := Tryz.sizeOf9
  v9 := Tryz.zeroValue9 }
open Go.RowKit Go.Lib in
theorem sh_strings_HasSuffix (s p : ByteArray) (w : World) (hs : s.size ≤ 9223372036854775807) :
    Calls Tryz.prog 182 #[.string s, .string p] w fun e w' => e = .returned (.bool (Lib.hasSuffix s.data.toList p.data.toList)) ∧ w' = w := Any.strings_HasSuffix sh_lays100 s p w hs
def sh_lays147_ren : Go.Shelf.Ren := ⟨fun | 147 => 114 | 221 => 136 | 268 => 161 | 138 => 162 | 143 => 113 | 195 => 174 | 197 => 124 | 218 => 175 | 219 => 112 | 260 => 154 | 217 => 132 | 225 => 133 | 224 => 134 | 267 => 135 | 266 => 159 | 314 => 160 | n => n, fun | 9 => 9 | 3 => 3 | 31 => 43 | 4 => 4 | 0 => 0 | 105 => 157 | 21 => 21 | 5 => 5 | 46 => 86 | 119 => 202 | 139 => 205 | 138 => 204 | 146 => 185 | 51 => 162 | n => n, fun | 1 => 1 | 3 => 4 | 4 => 5 | n => n⟩
theorem sh_lays147 : Go.Proofs.Lays.n147 Tryz.prog sh_lays147_ren := {
  mixed := by kernel_rfl
  f138 := Tryz.func162.trans (congrArg some (by kernel_rfl))
  f143 := Tryz.func113.trans (congrArg some (by kernel_rfl))
  f147 := Tryz.func114.trans (congrArg some (by kernel_rfl))
  f195 := Tryz.func174.trans (congrArg some (by kernel_rfl))
  f197 := Tryz.func124.trans (congrArg some (by kernel_rfl))
  f217 := Tryz.func132.trans (congrArg some (by kernel_rfl))
  f218 := Tryz.func175.trans (congrArg some (by kernel_rfl))
  f219 := Tryz.func112.trans (congrArg some (by kernel_rfl))
  f221 := Tryz.func136.trans (congrArg some (by kernel_rfl))
  f224 := Tryz.func134.trans (congrArg some (by kernel_rfl))
  f225 := Tryz.func133.trans (congrArg some (by kernel_rfl))
  f260 := Tryz.func154.trans (congrArg some (by kernel_rfl))
  f266 := Tryz.func159.trans (congrArg some (by kernel_rfl))
  f267 := Tryz.func135.trans (congrArg some (by kernel_rfl))
  f268 := Tryz.func161.trans (congrArg some (by kernel_rfl))
  f314 := Tryz.func160.trans (congrArg some (by kernel_rfl))
  t0 := Tryz.underlying0
  a0 := Tryz.isAgg0
  z0 := Tryz.sizeOf0
  v0 := Tryz.zeroValue0
  t3 := Tryz.underlying3
  a3 := Tryz.isAgg3
  z3 := Tryz.sizeOf3
  v3 := Tryz.zeroValue3
  t4 := Tryz.underlying4
  a4 := Tryz.isAgg4
  z4 := Tryz.sizeOf4
  v4 := Tryz.zeroValue4
  t5 := Tryz.underlying5
  a5 := Tryz.isAgg5
  z5 := Tryz.sizeOf5
  v5 := Tryz.zeroValue5
  t9 := Tryz.underlying9
  a9 := Tryz.isAgg9
  z9 := Tryz.sizeOf9
  v9 := Tryz.zeroValue9
  t21 := Tryz.underlying21
  a21 := Tryz.isAgg21
  z21 := Tryz.sizeOf21
  v21 := Tryz.zeroValue21
  t31 := Tryz.underlying43
  a31 := Tryz.isAgg43
  z31 := Tryz.sizeOf43
  v31 := Tryz.zeroValue43
  t46 := Tryz.underlying86
  a46 := Tryz.isAgg86
  z46 := Tryz.sizeOf86
  v46 := Tryz.zeroValue86
  t51 := Tryz.underlying162
  a51 := Tryz.isAgg162
  z51 := Tryz.sizeOf162
  v51 := Tryz.zeroValue162
  t105 := Tryz.underlying157
  a105 := Tryz.isAgg157
  z105 := Tryz.sizeOf157
  v105 := Tryz.zeroValue157
  t119 := Tryz.underlying202
  a119 := Tryz.isAgg202
  z119 := Tryz.sizeOf202
  t138 := Tryz.underlying204
  a138 := Tryz.isAgg204
  z138 := Tryz.sizeOf204
  v138 := Tryz.zeroValue204
  t139 := Tryz.underlying205
  a139 := Tryz.isAgg205
  z139 := Tryz.sizeOf205
  v139 := Tryz.zeroValue205
  t146 := Tryz.underlying185
  a146 := Tryz.isAgg185
  z146 := Tryz.sizeOf185
  v146 := Tryz.zeroValue185
  g1 := by kernel_rfl
  g3 := by kernel_rfl
  g4 := by kernel_rfl }
open Go.RowKit Go.Lib in
theorem sh_strings_SplitN (s sep : ByteArray) (n : Nat) (m : Int) (w : World) (hs : s.size < 4294967281) (hm : w.cell? ⟨1, 0, none⟩ = some (.int .i64 m)) (h1 : 1 ≤ sep.size) (hn : 1 ≤ n) (hn63 : n ≤ 9223372036854775807) :
    Calls Tryz.prog 114 #[.string s, .string sep, .int .i64 n] w fun e w' =>
      e = .returned (.slice (some ⟨w.heap.size, 0, none⟩) (Lib.splitB sep 0 (min n (s.size + 1) - 1) s).length (min n (s.size + 1))) ∧ w' = w.alloc (.cells (Lib.cellsOf (Lib.splitB sep 0 (min n (s.size + 1) - 1) s) (min n (s.size + 1))) 9) := Any.strings_SplitN sh_lays147 (by kernel_rfl) s sep n m w hs hm h1 hn hn63
def sh_lays105_ren : Go.Shelf.Ren := ⟨fun | 105 => 138 | 212 => 164 | 99 => 94 | 165 => 52 | 166 => 53 | 170 => 165 | 169 => 54 | 263 => 176 | 264 => 177 | 206 => 120 | 240 => 75 | 241 => 76 | 276 => 110 | 277 => 111 | n => n, fun | 9 => 9 | 3 => 3 | 4 => 4 | 20 => 20 | 0 => 0 | 46 => 86 | 109 => 190 | 5 => 5 | 72 => 96 | 76 => 100 | 51 => 162 | 146 => 185 | 53 => 90 | 148 => 210 | 70 => 94 | 37 => 22 | 75 => 99 | 127 => 118 | 164 => 144 | 80 => 102 | n => n, fun | n => n⟩
theorem sh_lays105 : Go.Proofs.Lays.n105 Tryz.prog sh_lays105_ren := {
  mixed := by kernel_rfl
  f99 := Tryz.func94.trans (congrArg some (by kernel_rfl))
  f105 := Tryz.func138.trans (congrArg some (by kernel_rfl))
  f165 := Tryz.func52.trans (congrArg some (by kernel_rfl))
  f166 := Tryz.func53.trans (congrArg some (by kernel_rfl))
  f169 := Tryz.func54.trans (congrArg some (by kernel_rfl))
  f170 := Tryz.func165.trans (congrArg some (by kernel_rfl))
  f206 := Tryz.func120.trans (congrArg some (by kernel_rfl))
  f212 := Tryz.func164.trans (congrArg some (by kernel_rfl))
  f240 := Tryz.func75.trans (congrArg some (by kernel_rfl))
  f241 := Tryz.func76.trans (congrArg some (by kernel_rfl))
  f263 := Tryz.func176.trans (congrArg some (by kernel_rfl))
  f264 := Tryz.func177.trans (congrArg some (by kernel_rfl))
  f276 := Tryz.func110.trans (congrArg some (by kernel_rfl))
  f277 := Tryz.func111.trans (congrArg some (by kernel_rfl))
  t0 := Tryz.underlying0
  a0 := Tryz.isAgg0
  z0 := Tryz.sizeOf0
  v0 := Tryz.zeroValue0
  t3 := Tryz.underlying3
  a3 := Tryz.isAgg3
  z3 := Tryz.sizeOf3
  v3 := Tryz.zeroValue3
  t4 := Tryz.underlying4
  a4 := Tryz.isAgg4
  z4 := Tryz.sizeOf4
  v4 := Tryz.zeroValue4
  t5 := Tryz.underlying5
  a5 := Tryz.isAgg5
  z5 := Tryz.sizeOf5
  v5 := Tryz.zeroValue5
  t9 := Tryz.underlying9
  a9 := Tryz.isAgg9
  z9 := Tryz.sizeOf9
  v9 := Tryz.zeroValue9
  t20 := Tryz.underlying20
  a20 := Tryz.isAgg20
  z20 := Tryz.sizeOf20
  v20 := Tryz.zeroValue20
  t37 := Tryz.underlying22
  a37 := Tryz.isAgg22
  z37 := Tryz.sizeOf22
  v37 := Tryz.zeroValue22
  t46 := Tryz.underlying86
  a46 := Tryz.isAgg86
  z46 := Tryz.sizeOf86
  v46 := Tryz.zeroValue86
  t51 := Tryz.underlying162
  a51 := Tryz.isAgg162
  z51 := Tryz.sizeOf162
  v51 := Tryz.zeroValue162
  t53 := Tryz.underlying90
  a53 := Tryz.isAgg90
  z53 := Tryz.sizeOf90
  v53 := Tryz.zeroValue90
  t70 := Tryz.underlying94
  a70 := Tryz.isAgg94
  z70 := Tryz.sizeOf94
  v70 := Tryz.zeroValue94
  t72 := Tryz.underlying96
  a72 := Tryz.isAgg96
  z72 := Tryz.sizeOf96
  v72 := Tryz.zeroValue96
  t75 := Tryz.underlying99
  a75 := Tryz.isAgg99
  z75 := Tryz.sizeOf99
  v75 := Tryz.zeroValue99
  t76 := Tryz.underlying100
  a76 := Tryz.isAgg100
  z76 := Tryz.sizeOf100
  v76 := Tryz.zeroValue100
  t109 := Tryz.underlying190
  a109 := Tryz.isAgg190
  z109 := Tryz.sizeOf190
  v109 := Tryz.zeroValue190
  t127 := Tryz.underlying118
  a127 := Tryz.isAgg118
  z127 := Tryz.sizeOf118
  v127 := Tryz.zeroValue118
  t146 := Tryz.underlying185
  a146 := Tryz.isAgg185
  z146 := Tryz.sizeOf185
  v146 := Tryz.zeroValue185
  t148 := Tryz.underlying210
  a148 := Tryz.isAgg210
  z148 := Tryz.sizeOf210
  v148 := Tryz.zeroValue210
  t164 := Tryz.underlying144
  a164 := Tryz.isAgg144
  z164 := Tryz.sizeOf144
  v164 := Tryz.zeroValue144 }
theorem sh_Builder_Extra_105 : Builder.Extra Tryz.prog sh_lays105_ren := {
  sizeBuilder := by kernel_rfl
  liesBuilder := by kernel_rfl
  t5 := Tryz.underlying5
  a5 := Tryz.isAgg5
  z5 := Tryz.sizeOf5
  v5 := Tryz.zeroValue5
  infoByte := by kernel_rfl
  cellsByte := by kernel_rfl
  sizeByte := by kernel_rfl
  neB5 := by decide }
open Go.RowKit Go.Lib in
theorem sh_strings_Repeat (s : ByteArray) (c : Nat) (w : World) (hc : c ≤ 9223372036854775807) (hlen : s.size * c ≤ 140737488355328) :
    Calls Tryz.prog 138 #[.string s, .int .i64 c] w fun e w' => e = .returned (.string ⟨(Lib.repeatL s.data.toList c).toArray⟩) ∧ Below w.heap.size w w' := Any.strings_Repeat sh_lays105 sh_Builder_Extra_105 s c w hc hlen
end Go.Proofs.YtcbfchkhbngpkaaGreatDoor
namespace Go.Proofs.YtcbfchkhbngpkaaGreatDoor
open Go.RowKit

theorem dec_lib (n : Nat) : Lib.decDigits n = decT n := by
  induction n using Nat.strongRecOn with
  | ind n ih =>
    by_cases h : n < 10
    · rw [decT_small h, Lib.decDigits, dif_pos h]
    · rw [decT_big h, Lib.decDigits, dif_neg h, ih _ (by omega)]
theorem itoa_lib (n : Int) (h : 0 ≤ n) : Lib.itoa n = decT n.toNat := by rw [Lib.itoa, if_neg (by omega), dec_lib]
theorem join_lib (c : UInt8) : ∀ ls : List (List UInt8), Lib.join ls [c] = joinT c ls
  | [] => rfl
  | [a] => Lib.join_one _ _
  | a :: b :: r => by
    rw [Lib.join_cons, joinT, ← join_lib c (b :: r), Lib.join_cons]
    simp [Lib.joinTail]
/-- the first place of a byte -/
theorem index_at (c : UInt8) : ∀ l : List UInt8, (c ∉ l ∧ Lib.index l [c] = -1) ∨ ∃ a r, l = a ++ c :: r ∧ c ∉ a ∧ Lib.index l [c] = (a.length : Int)
  | [] => .inl ⟨by simp, by simp [Lib.index]⟩
  | x :: l => by
    by_cases h : x = c
    · subst h
      exact .inr ⟨[], l, rfl, by simp, by rw [Lib.index]; simp [List.isPrefixOf]⟩
    · have hp : ([c] : List UInt8).isPrefixOf (x :: l) = false := by simp [List.isPrefixOf, Ne.symm h]
      rcases index_at c l with ⟨h1, h2⟩ | ⟨a, r, h1, h2, h3⟩
      · refine .inl ⟨by simp [h1, Ne.symm h], ?_⟩
        rw [Lib.index, hp, h2]
        rfl
      · refine .inr ⟨x :: a, r, by rw [h1]; rfl, by simp [h2, Ne.symm h], ?_⟩
        rw [Lib.index, hp, h3]
        have : (((a.length : Nat) : Int) == -1) = false := by rw [beq_eq_false_iff_ne]; omega
        simp [this]
theorem splitK_cases (c : UInt8) : ∀ (k : Nat) (l : List UInt8), (Lib.splitK [c] 0 k l = splitB c l ∧ (splitB c l).length ≤ k + 1) ∨
    ((Lib.splitK [c] 0 k l).length = k + 1 ∧ k + 1 < (splitB c l).length ∧ ∃ z ∈ Lib.splitK [c] 0 k l, c ∈ z)
  | 0, l => by
    rcases index_at c l with ⟨h1, _⟩ | ⟨a, r, rfl, h2, _⟩
    · left
      rw [split_none h1]
      exact ⟨rfl, by simp⟩
    · right
      refine ⟨rfl, ?_, a ++ c :: r, by simp [Lib.splitK], by simp⟩
      rw [split_at h2]
      have := List.length_pos_iff.2 (split_ne c r)
      simp only [List.length_cons]
      omega
  | k + 1, l => by
    rcases index_at c l with ⟨h1, h2⟩ | ⟨a, r, rfl, h2, h3⟩
    · left
      rw [split_none h1, Lib.splitK, if_pos (by rw [h2]; rfl)]
      exact ⟨rfl, by simp⟩
    · have e : Lib.splitK [c] 0 (k + 1) (a ++ c :: r) = a :: Lib.splitK [c] 0 k r := by
        have hne : ¬ (((a.length : Nat) : Int) == -1) = true := fun h => by have := beq_iff_eq.1 h; omega
        have hd : (a ++ c :: r).drop (((a.length : Nat) : Int).toNat + ([c] : List UInt8).length) = r := by
          rw [show ((a.length : Nat) : Int).toNat + ([c] : List UInt8).length = (a ++ [c]).length from by simp, show a ++ c :: r = (a ++ [c]) ++ r from by simp, List.drop_left]
        rw [Lib.splitK, h3, if_neg hne, hd]
        simp
      rw [e, split_at h2]
      rcases splitK_cases c k r with ⟨g1, g2⟩ | ⟨g1, g2, z, g3, g4⟩
      · left
        rw [g1]
        exact ⟨rfl, by simp only [List.length_cons]; omega⟩
      · right
        exact ⟨by simp only [List.length_cons]; omega, by simp only [List.length_cons]; omega, z, List.mem_cons_of_mem _ g3, g4⟩
/-- the parts of a text, at most n of them -/
def partsN (c : UInt8) (n : Nat) (l : List UInt8) : List (List UInt8) := Lib.splitK [c] 0 (min n (l.length + 1) - 1) l
theorem partsN_cases (c : UInt8) (n : Nat) (hn : 1 ≤ n) (l : List UInt8) : (partsN c n l = splitB c l ∧ (splitB c l).length ≤ n) ∨
    ((partsN c n l).length = n ∧ n < (splitB c l).length ∧ ∃ z ∈ partsN c n l, c ∈ z) := by
  have hs := split_len c l
  rcases splitK_cases c (min n (l.length + 1) - 1) l with ⟨h1, h2⟩ | ⟨h1, h2, h3⟩
  · exact .inl ⟨h1, by omega⟩
  · refine .inr ⟨?_, by omega, h3⟩
    show (Lib.splitK [c] 0 (min n (l.length + 1) - 1) l).length = n
    omega
theorem split_mem {c x : UInt8} (hx : x ≠ c) : ∀ l : List UInt8, x ∈ l → ∃ a ∈ splitB c l, x ∈ a
  | [], h => by cases h
  | y :: r, h => by
    by_cases hy : y = c
    · subst hy
      rcases List.mem_cons.1 h with h | h
      · exact absurd h hx
      · obtain ⟨a, ha, hxa⟩ := split_mem hx r h
        exact ⟨a, by rw [splitB, if_pos rfl]; exact List.mem_cons_of_mem _ ha, hxa⟩
    · obtain ⟨hd, tl, hs⟩ : ∃ hd tl, splitB c r = hd :: tl := by
        cases hq : splitB c r with
        | nil => exact absurd hq (split_ne c r)
        | cons a b => exact ⟨a, b, rfl⟩
      have e : splitB c (y :: r) = (y :: hd) :: tl := by rw [splitB, if_neg hy, hs]
      rw [e]
      rcases List.mem_cons.1 h with rfl | h
      · exact ⟨_, List.mem_cons_self .., List.mem_cons_self ..⟩
      · obtain ⟨a, ha, hxa⟩ := split_mem hx r h
        rw [hs] at ha
        rcases List.mem_cons.1 ha with rfl | ha
        · exact ⟨_, List.mem_cons_self .., List.mem_cons_of_mem _ hxa⟩
        · exact ⟨a, List.mem_cons_of_mem _ ha, hxa⟩
theorem parts_size (c : UInt8) (n : Nat) (hn : 1 ≤ n) (l : List UInt8) : (partsN c n l).length ≤ n := by
  rcases partsN_cases c n hn l with ⟨h1, h2⟩ | ⟨h1, _⟩
  · rw [h1]; exact h2
  · omega
theorem splitK_part (c : UInt8) : ∀ (k : Nat) (l : List UInt8), ∀ a ∈ Lib.splitK [c] 0 k l, a.length ≤ l.length
  | 0, l, a, h => by
    rw [show Lib.splitK [c] 0 0 l = [l] from rfl] at h
    simp only [List.mem_singleton] at h
    rw [h]; exact Nat.le_refl _
  | k + 1, l, a, h => by
    rw [Lib.splitK] at h
    split at h
    · simp only [List.mem_singleton] at h
      rw [h]; exact Nat.le_refl _
    · rcases List.mem_cons.1 h with rfl | h
      · rw [List.length_take]; omega
      · have := splitK_part c k _ a h
        rw [List.length_drop] at this
        omega
theorem parts_part (c : UInt8) (n : Nat) (l : List UInt8) : ∀ a ∈ partsN c n l, a.length ≤ l.length := splitK_part c _ l
/-! numbers -/
theorem numV_ge (l : List UInt8) : l ≠ [] → l.all isDig = true → l.getD 0 0 ≠ 48 → 10 ^ (l.length - 1) ≤ numV l := by
  induction l using snoc_ind with
  | h0 => intro h; exact absurd rfl h
  | h1 l x ih =>
    intro _ ha hd
    rw [List.all_append, Bool.and_eq_true] at ha
    rw [numV_snoc]
    cases l with
    | nil =>
      have hx : isDig x = true := by simpa using ha.2
      have hx2 : 48 ≤ x.toNat ∧ x.toNat ≤ 57 := of_decide_eq_true hx
      have hne : x ≠ 48 := by simpa using hd
      have hne2 : x.toNat ≠ 48 := fun e => hne (UInt8.toNat_inj.1 (by rw [e]; rfl))
      simp only [List.nil_append, List.length_cons, List.length_nil]
      omega
    | cons y r =>
      have h := ih (by simp) ha.1 (by simpa using hd)
      simp only [List.length_append, List.length_cons, List.length_nil] at h ⊢
      rw [show r.length + 1 + (0 + 1) - 1 = (r.length + 1 - 1) + 1 from by omega, Nat.pow_succ]
      omega
theorem numP_more (l : List UInt8) (k K : Nat) (h : k ≤ K) (h1 : (numP l k).2 = true) : numP l K = numP l k := by
  by_cases hc : (l.length ≠ 0 ∧ l.length ≤ k ∧ ¬(1 < l.length ∧ l.getD 0 0 = 48)) ∧ l.all isDig = true
  · rw [numP, if_pos ⟨⟨hc.1.1, Nat.le_trans hc.1.2.1 h, hc.1.2.2⟩, hc.2⟩, numP, if_pos hc]
  · rw [numP, if_neg hc] at h1
    cases h1
theorem numP_less (l : List UInt8) (k K : Nat) (hk : 1 ≤ k) (h1 : (numP l K).2 = true) (h2 : (numP l K).1 < 10 ^ k) : numP l k = numP l K := by
  by_cases hc : (l.length ≠ 0 ∧ l.length ≤ K ∧ ¬(1 < l.length ∧ l.getD 0 0 = 48)) ∧ l.all isDig = true
  · have e : numP l K = (numV l, true) := by rw [numP, if_pos hc]
    rw [e] at h2
    rw [e, numP, if_pos]
    refine ⟨⟨hc.1.1, ?_, hc.1.2.2⟩, hc.2⟩
    apply Nat.le_of_not_lt
    intro hlt
    have h3 := numV_ge l (fun e => hc.1.1 (by rw [e]; rfl)) hc.2 (fun e => hc.1.2.2 ⟨by omega, e⟩)
    have h4 : 10 ^ k ≤ 10 ^ (l.length - 1) := Nat.pow_le_pow_right (by omega) (by omega)
    dsimp only at h2
    omega
  · rw [numP, if_neg hc] at h1
    cases h1
theorem parseM_num (M : Nat) (hM : 10000000000 ≤ M) : ∀ (l : List UInt8) (k acc : Nat), acc < 10 ^ k → k + l.length ≤ 10 →
    Lib.parseUintM M acc l = if l.all isDig = true then .ok (l.foldl (fun n c => 10 * n + (c.toNat - 48)) acc) else .«syntax»
  | [], k, acc, _, _ => by simp [Lib.parseUintM]
  | c :: r, k, acc, h, hk => by
    have hk' : k + 1 + r.length ≤ 10 := by simp only [List.length_cons] at hk; omega
    have h10 : 10 ^ (k + 1) ≤ 10 ^ 10 := Nat.pow_le_pow_right (by omega) (by omega)
    have h11 : 10 ^ (k + 1) = 10 ^ k * 10 := Nat.pow_succ ..
    have h12 : (10 : Nat) ^ 10 = 10000000000 := rfl
    rw [Lib.parseUintM]
    by_cases hd : 48 ≤ c.toNat ∧ c.toNat ≤ 57
    · have hi : isDig c = true := decide_eq_true hd
      rw [if_pos hd, if_neg (by omega), if_neg (by omega), parseM_num M hM r (k + 1) _ (by omega) hk', List.all_cons, hi, Bool.true_and, List.foldl_cons, Nat.mul_comm acc 10]
    · have hi : isDig c = false := decide_eq_false hd
      rw [if_neg hd, List.all_cons, hi, Bool.false_and]
      rfl
theorem parseU_num (l : List UInt8) (h : l.length ≤ 10) : Lib.parseUintB 64 l = if l ≠ [] ∧ l.all isDig = true then .ok (numV l) else .«syntax» := by
  rw [Lib.parseUintB]
  by_cases h0 : l = []
  · rw [if_pos h0, if_neg (fun hc => hc.1 h0)]
  · rw [if_neg h0, parseM_num _ (by decide) l 0 0 (by decide) (by omega)]
    by_cases ha : l.all isDig = true
    · rw [if_pos ha, if_pos ⟨h0, ha⟩]; rfl
    · rw [if_neg ha, if_neg (fun hc => ha hc.2)]
/-! the last colon -/
theorem lastIdx_lib (l : List UInt8) : ∀ k, k ≤ l.length → Lib.lastIdx ⟨l.toArray⟩ 58 k = (lastC (l.take k) : Int) - 1
  | 0, _ => rfl
  | k + 1, h => by
    have hg : (ByteArray.mk l.toArray).data[k]! = l[k] := by simp [List.getElem?_eq_getElem (show k < l.length by omega)]
    have ht : l.take (k + 1) = l.take k ++ [l[k]] := by simp [List.take_append_getElem]
    rw [ht, last_snoc, List.length_take, Nat.min_eq_left (by omega)]
    by_cases hx : l[k] = 58
    · rw [if_pos hx, Lib.lastIdx_hit _ _ _ (by rw [hg, hx]; rfl)]; omega
    · rw [if_neg hx, Lib.lastIdx_miss _ _ _ (by rw [hg]; intro e; exact hx (UInt8.toNat_inj.1 (by have : (58 : UInt8).toNat = 58 := rfl; omega))), lastIdx_lib l k (by omega)]
theorem lastIndex_lib (l : List UInt8) : Lib.lastIndexByte ⟨l.toArray⟩ 58 = (lastC l : Int) - 1 := by
  have h := lastIdx_lib l l.length (Nat.le_refl _)
  rw [List.take_length] at h
  rw [Lib.lastIndexByte, ← h]
  simp [ByteArray.size]
end Go.Proofs.YtcbfchkhbngpkaaGreatDoor
namespace Go.Proofs.YtcbfchkhbngpkaaGreatDoor
open Go.RowKit

/-- a text as a value -/
def strV (l : List UInt8) : Value := .string ⟨l.toArray⟩
end Go.Proofs.YtcbfchkhbngpkaaGreatDoor
namespace Go.Proofs.YtcbfchkhbngpkaaGreatDoor
open Go.RowKit

theorem mk_size (l : List UInt8) : (ByteArray.mk l.toArray).size = l.length := by simp [ByteArray.size]
theorem mk_data (l : List UInt8) : (ByteArray.mk l.toArray).data.toList = l := by simp
theorem itoa_c (n : Int) (h0 : 0 ≤ n) (h1 : n ≤ 9223372036854775807) (w : World) (hlv : LvCf w) :
    Calls Tryz.prog 24 #[.int .i64 n] w fun e w' => e = .returned (.string ⟨(decT n.toNat).toArray⟩) ∧ Below w.heap.size w w' := by
  refine (sh_strconv_Itoa n (by omega) h1 w hlv.1).mono ?_
  rintro e w' ⟨rfl, k, os, rfl⟩
  rw [itoa_lib n h0]
  exact ⟨rfl, ⟨rfl, rfl, rfl, by simp [Go.Sort.grow], fun j hj => by simp [Go.Sort.grow, Array.getElem?_append_left hj]⟩⟩
theorem join_c (g c : Nat) (xs : List (List UInt8)) (ch : UInt8) (w : World) (h : At w g 0 (xs.map strV)) (hg : g < w.heap.size) (hn : xs.length ≤ 100) (hl : ∀ x ∈ xs, x.length ≤ 1000) (hc : xs.length ≤ c) :
    Calls Tryz.prog 26 #[.slice (some ⟨g, 0, none⟩) xs.length c, .string ⟨#[ch]⟩] w fun e w' => e = .returned (.string ⟨(joinT ch xs).toArray⟩) ∧ Below w.heap.size w w' := by
  have e1 : (xs.map fun l => ByteArray.mk l.toArray).length = xs.length := by simp
  have e2 : (xs.map fun l => ByteArray.mk l.toArray).map (·.data.toList) = xs := by rw [List.map_map]; exact (List.map_congr_left fun l _ => mk_data l).trans (List.map_id _)
  have e3 : Lib.join ((xs.map fun l => ByteArray.mk l.toArray).map (·.data.toList)) (ByteArray.mk #[ch]).data.toList = joinT ch xs := by rw [e2]; exact join_lib ch xs
  have hj : ∀ ys : List (List UInt8), ys.length ≤ 100 → (∀ x ∈ ys, x.length ≤ 1000) → (joinT ch ys).length ≤ 1001 * ys.length := by
    intro ys
    induction ys with
    | nil => intro _ _; simp [joinT]
    | cons a r ih =>
      intro h1 h2
      have ha := h2 a (List.mem_cons_self ..)
      cases r with
      | nil => simp only [joinT, List.length_cons, List.length_nil]; omega
      | cons b r =>
        have := ih (by simp only [List.length_cons] at h1 ⊢; omega) (fun x hx => h2 x (List.mem_cons_of_mem _ hx))
        simp only [joinT, List.length_append, List.length_cons] at this ⊢
        omega
  have hc2 := sh_strings_Join g 0 c (xs.map fun l => ByteArray.mk l.toArray) ⟨#[ch]⟩ w (fun j x hx => h j (.string x) (by
    rw [List.getElem?_map] at hx ⊢
    cases hq : xs[j]? with
    | none => rw [hq] at hx; cases hx
    | some y =>
      rw [hq] at hx
      rw [← Option.some.inj hx]; rfl)) hg (by rw [e1]; omega) (by rw [e1]; exact hc) (by rw [e3]; have := hj xs hn hl; omega)
  rw [e3, e1] at hc2
  exact hc2
theorem byte_at (c : UInt8) : ∀ l : List UInt8, decide (0 ≤ Lib.indexByte l c) = decide (c ∈ l) := by
  intro l
  by_cases h : c ∈ l
  · rw [decide_eq_true h]
    apply decide_eq_true
    apply Int.not_lt.1
    intro hlt
    have hge := Lib.indexByte_ge l c
    obtain ⟨k, hk, he⟩ := List.mem_iff_getElem.1 h
    exact Lib.indexByte_none (show Lib.indexByte l c = -1 from by omega) k (by rw [List.getElem?_eq_getElem hk, he])
  · rw [decide_eq_false h]
    apply decide_eq_false
    intro h0
    obtain ⟨o, ho⟩ : ∃ o : Nat, Lib.indexByte l c = o := ⟨(Lib.indexByte l c).toNat, by omega⟩
    exact h (List.mem_of_getElem? (Lib.indexByte_some ho).1)
theorem contains_c (l : List UInt8) (ch : UInt8) (w : World) :
    Calls Tryz.prog 85 #[.string ⟨l.toArray⟩, .string ⟨#[ch]⟩] w fun e w' => e = .returned (.bool (decide (ch ∈ l))) ∧ Below w.heap.size w w' := by
  refine (sh_strings_Contains_one ⟨l.toArray⟩ ch w).mono ?_
  rintro e w' ⟨rfl, rfl⟩
  rw [mk_data, byte_at]
  exact ⟨rfl, Below.refl _ _⟩
theorem splitN_c (l : List UInt8) (ch : UInt8) (n : Nat) (h1 : 1 ≤ n) (hn : n ≤ 100) (hl : l.length ≤ 1000000) (w : World) (hlv : LvCf w) :
    Calls Tryz.prog 114 #[.string ⟨l.toArray⟩, .string ⟨#[ch]⟩, .int .i64 (n : Int)] w fun e w' => ∃ g c, e = .returned (.slice (some ⟨g, 0, none⟩) (partsN ch n l).length c) ∧ (partsN ch n l).length ≤ c ∧ c ≤ 100 ∧ At w' g 0 ((partsN ch n l).map strV) ∧ g < w'.heap.size ∧ Below w.heap.size w w' := by
  obtain ⟨_, _, _, m, hm⟩ := hlv
  refine (sh_strings_SplitN ⟨l.toArray⟩ ⟨#[ch]⟩ n m w (by rw [mk_size]; omega) hm (Nat.le_refl _) h1 (by omega)).mono ?_
  rintro e w' ⟨rfl, rfl⟩
  have hd := Lib.splitB_data ⟨#[ch]⟩ 0 (min n (l.length + 1) - 1) ⟨l.toArray⟩
  rw [mk_data] at hd
  rw [mk_size]
  generalize hP : Lib.splitB ⟨#[ch]⟩ 0 (min n (l.length + 1) - 1) ⟨l.toArray⟩ = ps at hd ⊢
  have hd2 : ps.map (·.data.toList) = partsN ch n l := hd
  have hlen : ps.length = (partsN ch n l).length := by rw [← hd2, List.length_map]
  have hle : ps.length ≤ min n (l.length + 1) := by
    have := Lib.splitB_length_le ⟨#[ch]⟩ 0 (min n (l.length + 1) - 1) ⟨l.toArray⟩
    rw [hP] at this
    omega
  have hmap : (partsN ch n l).map strV = ps.map Value.string := by
    rw [← hd2, List.map_map]
    exact List.map_congr_left fun x _ => by simp [strV]
  refine ⟨w.heap.size, min n (l.length + 1), by rw [hlen], by omega, by omega, ?_, by simp, (Below.refl _ _).alloc (Nat.le_refl _) _⟩
  rw [hmap]
  intro j v hj
  have hcell : (Lib.cellsOf ps (min n (l.length + 1)))[j]? = some v := by
    unfold Lib.cellsOf
    rw [List.getElem?_toArray, List.getElem?_append_left (List.getElem?_eq_some_iff.1 hj).1]
    exact hj
  rw [Nat.zero_add]
  rw [World.cell?_alloc_at _ _ _ _ rfl]
  exact hcell
theorem repeat_c (k : Nat) (hk : k ≤ 10) (w : World) :
    Calls Tryz.prog 138 #[.string ⟨#[48]⟩, .int .i64 (k : Int)] w fun e w' => e = .returned (.string ⟨(List.replicate k (48 : UInt8)).toArray⟩) ∧ Below w.heap.size w w' := by
  have h := sh_strings_Repeat ⟨#[48]⟩ k w (by omega) (by show 1 * k ≤ _; omega)
  have e : ∀ k, Lib.repeatL [48] k = List.replicate k (48 : UInt8) := by
    intro k
    induction k with
    | zero => rfl
    | succ k ih => rw [Lib.repeatL, ih, List.replicate_succ]; rfl
  rw [show (ByteArray.mk #[48]).data.toList = [48] from rfl, e] at h
  exact h
theorem parseUint_c (l : List UInt8) (hl : l.length ≤ 10) (w : World) (hlv : LvCf w) :
    Calls Tryz.prog 88 #[.string ⟨l.toArray⟩, .int .i64 10, .int .i64 64] w fun e w' =>
      (((l ≠ [] ∧ l.all isDig = true) ∧ e = .returned (.tuple #[.int .u64 (numV l : Int), .nilIface])) ∨ (¬(l ≠ [] ∧ l.all isDig = true) ∧ ∃ T v, e = .returned (.tuple #[.int .u64 0, .iface T v]))) ∧ Below w.heap.size w w' := by
  have hp := parseU_num l hl
  by_cases h : l ≠ [] ∧ l.all isDig = true
  · rw [if_pos h] at hp
    refine (sh_strconv_ParseUint_10_at64_ok ⟨l.toArray⟩ (by rw [mk_size]; omega) (numV l) (by rw [mk_data]; exact hp) w).mono ?_
    rintro e w' ⟨rfl, hw⟩
    refine ⟨.inl ⟨h, rfl⟩, ?_⟩
    rcases hw with rfl | rfl
    · exact Below.refl _ _
    · exact Lib.bytesWorld_below ..
  · rw [if_neg h] at hp
    obtain ⟨_, _, ⟨tp, p, hv⟩, _⟩ := hlv
    refine (sh_strconv_ParseUint_10_at64_syntax_var ⟨l.toArray⟩ (by rw [mk_size]; omega) (by rw [mk_data]; exact hp) tp p w hv).mono ?_
    rintro e w' ⟨N, rfl, _, _, hb⟩
    exact ⟨.inr ⟨h, _, _, rfl⟩, hb⟩
theorem lastIndex_c (l : List UInt8) (hl : l.length ≤ 1000000) (w : World) :
    Calls Tryz.prog 170 #[.string ⟨l.toArray⟩, .string ⟨#[58]⟩] w fun e w' => e = .returned (.int .i64 ((lastC l : Int) - 1)) ∧ Below w.heap.size w w' := by
  refine (sh_strings_LastIndex_one ⟨l.toArray⟩ ⟨#[58]⟩ rfl (by rw [mk_size]; omega) w).mono ?_
  rintro e w' ⟨rfl, rfl⟩
  refine ⟨?_, Below.refl _ _⟩
  rw [← lastIndex_lib l]
  rfl
theorem hasPrefix_c (l p : List UInt8) (w : World) :
    Calls Tryz.prog 94 #[.string ⟨l.toArray⟩, .string ⟨p.toArray⟩] w fun e w' => e = .returned (.bool (p.isPrefixOf l)) ∧ Below w.heap.size w w' := by
  refine (sh_strings_HasPrefix ⟨l.toArray⟩ ⟨p.toArray⟩ w).mono ?_
  rintro e w' ⟨rfl, rfl⟩
  rw [mk_data, mk_data]
  exact ⟨rfl, Below.refl _ _⟩
theorem hasSuffix_c (l p : List UInt8) (hl : l.length ≤ 1000000) (w : World) :
    Calls Tryz.prog 182 #[.string ⟨l.toArray⟩, .string ⟨p.toArray⟩] w fun e w' => e = .returned (.bool (p.isSuffixOf l)) ∧ Below w.heap.size w w' := by
  refine (sh_strings_HasSuffix ⟨l.toArray⟩ ⟨p.toArray⟩ w (by rw [mk_size]; omega)).mono ?_
  rintro e w' ⟨rfl, rfl⟩
  rw [mk_data, mk_data]
  exact ⟨rfl, Below.refl _ _⟩
theorem cut_c (l p : List UInt8) (hl : l.length ≤ 1000000) (w : World) (hlv : LvCf w) :
    Calls Tryz.prog 65 #[.string ⟨l.toArray⟩, .string ⟨p.toArray⟩] w fun e w' => e = .returned (.tuple #[.string ⟨(Lib.cut l p).1.toArray⟩, .string ⟨(Lib.cut l p).2.1.toArray⟩, .bool (Lib.cut l p).2.2]) ∧ Below w.heap.size w w' := by
  obtain ⟨_, _, _, m, hm⟩ := hlv
  refine (sh_strings_Cut ⟨l.toArray⟩ ⟨p.toArray⟩ m w (by rw [mk_size]; omega) hm).mono ?_
  rintro e w' ⟨rfl, n, rfl⟩
  rw [mk_data, mk_data]
  exact ⟨rfl, ⟨rfl, rfl, rfl, Nat.le_refl _, fun _ _ => rfl⟩⟩
end Go.Proofs.YtcbfchkhbngpkaaGreatDoor
namespace Go.Proofs.YtcbfchkhbngpkaaGreatDoor
open Go.RowKit

theorem all_mem {p : List UInt8 → Bool} {ls : List (List UInt8)} {z : List UInt8} (hz : z ∈ ls) (hp : p z = false) : ¬ ls.all p = true := fun ha => by
  have := List.all_eq_true.1 ha z hz
  rw [hp] at this
  cases this
theorem numP_not {z : List UInt8} {c : UInt8} (k : Nat) (hc : c ∈ z) (hd : isDig c = false) : numP z k = (0, false) := by
  rw [numP, if_neg]
  rintro ⟨_, ha⟩
  have := List.all_eq_true.1 ha c hc
  rw [hd] at this
  cases this
theorem fourOk_not {z : List UInt8} {c : UInt8} (hc : c ∈ z) (hd : isDig c = false) : fourOk z = false := by
  rw [fourOk, numP_not 3 hc hd]
  rfl
theorem hxsOk_not {z : List UInt8} {c : UInt8} (hc : c ∈ z) (hd : hexVal c = 16) : hxsOk z = false := by
  rw [hxsOk, Bool.and_eq_false_iff]
  refine .inr ?_
  cases ha : z.all fun c => decide (hexVal c ≤ 15) with
  | false => rfl
  | true =>
    have h1 := of_decide_eq_true (List.all_eq_true.1 ha c hc)
    omega
theorem addrP_six (l : List UInt8) (h : (58 : UInt8) ∈ l) : addrP l = if (partsN 58 8 l).length = 8 then sixP (partsN 58 8 l) else (addr0, 5) := by
  rw [addrP]
  by_cases h4 : (splitB 46 l).length = 4
  · rw [if_pos h4]
    obtain ⟨z, hz, hc⟩ := split_mem (c := 46) (x := 58) (by decide) l h
    have hf : fourP (splitB 46 l) = (addr0, 5) := by rw [fourP, if_neg (all_mem hz (fourOk_not hc rfl))]
    rw [hf]
    have h46 : (46 : UInt8) ∈ l := Classical.byContradiction fun hn => by
      rw [split_none hn] at h4
      simp at h4
    by_cases h8 : (partsN 58 8 l).length = 8
    · rw [if_pos h8, sixP, if_neg]
      rcases partsN_cases 58 8 (by omega) l with ⟨h1, _⟩ | ⟨_, _, y, hy, hd⟩
      · obtain ⟨y, hy, hd⟩ := split_mem (c := 58) (x := 46) (by decide) l h46
        rw [h1]
        exact all_mem hy (hxsOk_not hd rfl)
      · exact all_mem hy (hxsOk_not hd rfl)
    · rw [if_neg h8]
  · rw [if_neg h4]
    rcases partsN_cases 58 8 (by omega) l with ⟨h1, h2⟩ | ⟨h1, h2, z, hz, hc⟩
    · rw [h1]
    · rw [if_neg (by omega), if_pos h1, sixP, if_neg (all_mem hz (hxsOk_not hc rfl))]
theorem addrP_four (l : List UInt8) (h : (58 : UInt8) ∉ l) : addrP l = if (partsN 46 4 l).length = 4 then fourP (partsN 46 4 l) else (addr0, 5) := by
  have h8 : ¬ (splitB 58 l).length = 8 := by rw [split_none h]; simp
  rw [addrP]
  rcases partsN_cases 46 4 (by omega) l with ⟨h1, h2⟩ | ⟨h1, h2, z, hz, hc⟩
  · rw [h1, if_neg h8]
  · rw [if_neg (by omega), if_neg h8, if_pos h1, fourP, if_neg (all_mem hz (fourOk_not hc rfl))]
theorem num_ten (s : List UInt8) (k : Nat) (hk : 1 ≤ k) (h10 : k ≤ 10) (h : (numP s k).2 = true ∨ ((numP s 10).2 = true ∧ (numP s 10).1 < 10 ^ k)) : numP s 10 = numP s k := by
  rcases h with h | ⟨h1, h2⟩
  · exact numP_more s k 10 h10 h
  · exact (numP_less s k 10 hk h1 h2).symm
theorem fourOk_ten (s : List UInt8) : fourOk s = ((numP s 10).2 && decide ((numP s 10).1 ≤ 255)) := by
  rw [fourOk]
  by_cases h : (numP s 3).2 = true ∨ ((numP s 10).2 = true ∧ (numP s 10).1 < 10 ^ 3)
  · rw [num_ten s 3 (by omega) (by omega) h]
  · have h3 : (numP s 3).2 = false := by
      cases hq : (numP s 3).2 with
      | false => rfl
      | true => exact absurd (.inl hq) h
    rw [h3, Bool.false_and]
    cases hq : (numP s 10).2 with
    | false => rfl
    | true =>
      have h4 : ¬ (numP s 10).1 < 10 ^ 3 := fun hlt => h (.inr ⟨hq, hlt⟩)
      symm
      rw [Bool.true_and]
      exact decide_eq_false (by omega)
theorem four_ten (s : List UInt8) (h : fourOk s = true) : numP s 10 = numP s 3 := by
  rw [fourOk, Bool.and_eq_true] at h
  exact num_ten s 3 (by omega) (by omega) (.inl h.1)
theorem cut_none {c : UInt8} {l : List UInt8} (h : c ∉ l) : Lib.cut l [c] = (l, [], false) := by
  rcases index_at c l with ⟨_, h2⟩ | ⟨a, r, rfl, _, _⟩
  · rw [Lib.cut, h2, if_neg (by omega)]
  · exact absurd (by simp) h
theorem cut_some {c : UInt8} {a r : List UInt8} (h : c ∉ a) : Lib.cut (a ++ c :: r) [c] = (a, r, true) := by
  rcases index_at c (a ++ c :: r) with ⟨h1, _⟩ | ⟨b, s, h1, h2, h3⟩
  · exact absurd (by simp) h1
  · have hlen : a.length = b.length := by
      rcases Nat.lt_trichotomy a.length b.length with hlt | he | hgt
      · have e := congrArg (fun l => l[a.length]?) h1
        simp only [List.getElem?_append_right (Nat.le_refl _), Nat.sub_self, List.getElem?_cons_zero, List.getElem?_append_left hlt] at e
        exact absurd (List.mem_of_getElem? e.symm) h2
      · exact he
      · have e := congrArg (fun l => l[b.length]?) h1
        simp only [List.getElem?_append_right (Nat.le_refl _), Nat.sub_self, List.getElem?_cons_zero, List.getElem?_append_left hgt] at e
        exact absurd (List.mem_of_getElem? e) h
    have hd : (a ++ c :: r).drop (((b.length : Nat) : Int).toNat + ([c] : List UInt8).length) = r := by
      rw [show ((b.length : Nat) : Int).toNat + ([c] : List UInt8).length = (a ++ [c]).length from by simp [hlen], show a ++ c :: r = (a ++ [c]) ++ r from by simp, List.drop_left]
    rw [Lib.cut, h3, if_pos (by omega), hd]
    simp [← hlen]
theorem prefP_prog (l : List UInt8) : prefP l = if (addrP (Lib.cut l [47]).1).2 ≠ 0 ∨ (numP (Lib.cut l [47]).2.1 10).2 = false ∨ validM (addrP (Lib.cut l [47]).1).1 ((numP (Lib.cut l [47]).2.1 10).1 : Int) = false then ((addr0, 0), 5)
    else (((addrP (Lib.cut l [47]).1).1, (numP (Lib.cut l [47]).2.1 10).1), 0) := by
  rcases index_at 47 l with ⟨h1, _⟩ | ⟨a, r, rfl, h2, _⟩
  · have e : (numP ([] : List UInt8) 10).2 = false := rfl
    rw [cut_none h1, prefP, split_none h1]
    dsimp only
    rw [if_pos (show [l].length ≠ 2 by simp), if_pos (.inr (.inl e))]
  · rw [cut_some h2, prefP, split_at h2]
    dsimp only
    by_cases hr : (47 : UInt8) ∈ r
    · have hl : ¬ (splitB 47 r).length = 1 := fun hl => by
        obtain ⟨a', r', rfl, h3⟩ : ∃ a' r', r = a' ++ 47 :: r' ∧ (47 : UInt8) ∉ a' := by
          rcases index_at 47 r with ⟨h, _⟩ | ⟨a', r', h, h', _⟩
          · exact absurd hr h
          · exact ⟨a', r', h, h'⟩
        rw [split_at h3] at hl
        have := List.length_pos_iff.2 (split_ne 47 r')
        simp only [List.length_cons] at hl
        omega
      rw [if_pos (by simp only [List.length_cons]; omega), if_pos (.inr (.inl (by rw [numP_not 10 hr rfl])))]
    · rw [split_none hr, if_neg (by simp)]
      show (if (addrP a).2 ≠ 0 ∨ (numP r 3).2 = false ∨ validM (addrP a).1 ((numP r 3).1 : Int) = false then ((addr0, 0), 5) else (((addrP a).1, (numP r 3).1), 0)) = _
      by_cases h : (numP r 3).2 = true ∨ ((numP r 10).2 = true ∧ (numP r 10).1 < 10 ^ 3)
      · rw [num_ten r 3 (by omega) (by omega) h]
      · have h3 : (numP r 3).2 = false := by
          cases hq : (numP r 3).2 with
          | false => rfl
          | true => exact absurd (.inl hq) h
        rw [if_pos (.inr (.inl h3)), if_pos]
        cases hq : (numP r 10).2 with
        | false => exact .inr (.inl rfl)
        | true =>
          have h4 : ¬ (numP r 10).1 < 10 ^ 3 := fun hlt => h (.inr ⟨hq, hlt⟩)
          refine .inr (.inr ?_)
          cases hv : validM (addrP a).1 ((numP r 10).1 : Int) with
          | false => rfl
          | true =>
            have := validM_bits (addrP a).1 _ hv
            omega
theorem endP_prog (l : List UInt8) : endP l = if lastC l = 0 then ((addr0, 0), 5) else
    if (addrP (if brack (l.take (lastC l - 1)) then ((l.take (lastC l - 1)).drop 1).take ((l.take (lastC l - 1)).length - 2) else l.take (lastC l - 1))).2 ≠ 0 ∨ (numP (l.drop (lastC l)) 10).2 = false ∨
      (addrP (if brack (l.take (lastC l - 1)) then ((l.take (lastC l - 1)).drop 1).take ((l.take (lastC l - 1)).length - 2) else l.take (lastC l - 1))).1.six ≠ brack (l.take (lastC l - 1)) ∨ ¬(1 ≤ (numP (l.drop (lastC l)) 10).1 ∧ (numP (l.drop (lastC l)) 10).1 ≤ 65535) then ((addr0, 0), 5)
    else (((addrP (if brack (l.take (lastC l - 1)) then ((l.take (lastC l - 1)).drop 1).take ((l.take (lastC l - 1)).length - 2) else l.take (lastC l - 1))).1, (numP (l.drop (lastC l)) 10).1), 0) := by
  rw [endP]
  dsimp only
  by_cases h0 : lastC l = 0
  · rw [if_pos (by omega), if_pos h0]
  rw [if_neg h0]
  by_cases h1 : lastC l = 1
  · rw [if_pos (by omega), if_pos]
    have e : l.take (lastC l - 1) = [] := by rw [h1]; rfl
    rw [e]
    refine .inl ?_
    decide
  rw [if_neg (by omega)]
  generalize lastC l = q
  generalize l.take (q - 1) = host
  generalize (if brack host then (host.drop 1).take (host.length - 2) else host) = inn
  generalize l.drop q = z
  by_cases h : (numP z 5).2 = true ∨ ((numP z 10).2 = true ∧ (numP z 10).1 < 10 ^ 5)
  · rw [num_ten z 5 (by omega) (by omega) h]
    by_cases hc : (addrP inn).2 ≠ 0 ∨ (addrP inn).1.six ≠ brack host ∨ (numP z 5).2 = false ∨ (numP z 5).1 < 1 ∨ 65535 < (numP z 5).1
    · rw [if_pos hc, if_pos]
      rcases hc with hc | hc | hc | hc | hc
      · exact .inl hc
      · exact .inr (.inr (.inl hc))
      · exact .inr (.inl hc)
      · exact .inr (.inr (.inr (by omega)))
      · exact .inr (.inr (.inr (by omega)))
    · rw [if_neg hc, if_neg]
      intro hd
      apply hc
      rcases hd with hd | hd | hd | hd
      · exact .inl hd
      · exact .inr (.inr (.inl hd))
      · exact .inr (.inl hd)
      · refine .inr (.inr (.inr ?_))
        omega
  · have h3 : (numP z 5).2 = false := by
      cases hq : (numP z 5).2 with
      | false => rfl
      | true => exact absurd (.inl hq) h
    rw [if_pos (.inr (.inr (.inl h3))), if_pos]
    cases hq : (numP z 10).2 with
    | false => exact .inr (.inl rfl)
    | true =>
      have h4 : ¬ (numP z 10).1 < 10 ^ 5 := fun hlt => h (.inr ⟨hq, hlt⟩)
      exact .inr (.inr (.inr (by omega)))
/-! numbers in hexadecimal -/
theorem hexOk_le (c : UInt8) : hexOk c = decide (hexVal c ≤ 15) := by
  rw [hexOk]
  by_cases h : hexVal c < 16
  · rw [decide_eq_true h, decide_eq_true (by omega)]
  · rw [decide_eq_false h, decide_eq_false (by omega)]
theorem hex_four (a b c d : UInt8) : parseH [a, b, c, d] = if (hexVal a ≤ 15 ∧ hexVal b ≤ 15) ∧ hexVal c ≤ 15 ∧ hexVal d ≤ 15 then some [UInt8.ofNat (hexVal a * 16 + hexVal b), UInt8.ofNat (hexVal c * 16 + hexVal d)] else none := by
  by_cases h : (hexVal a ≤ 15 ∧ hexVal b ≤ 15) ∧ hexVal c ≤ 15 ∧ hexVal d ≤ 15
  · obtain ⟨⟨ha, hb⟩, hc, hd⟩ := h
    rw [if_pos ⟨⟨ha, hb⟩, hc, hd⟩, parseH, if_pos ⟨by simp, by simp [hexOk_le, ha, hb, hc, hd]⟩]
    have e : pairs [a, b, c, d] ([a, b, c, d].length / 2) = [UInt8.ofNat (hexV a * 16 + hexV b), UInt8.ofNat (hexV c * 16 + hexV d)] := by simp [pairs, List.range, List.range.loop, pairB]
    rw [e, hexV, if_pos (by omega), hexV, if_pos (by omega), hexV, if_pos (by omega), hexV, if_pos (by omega)]
  · rw [if_neg h, parseH, if_neg]
    rintro ⟨_, h2⟩
    apply h
    simp only [List.all_cons, List.all_nil, Bool.and_true, Bool.and_eq_true, hexOk_le, decide_eq_true_eq] at h2
    exact ⟨⟨h2.1, h2.2.1⟩, h2.2.2.1, h2.2.2.2⟩
theorem hexVal_48 : hexVal 48 = 0 := rfl
theorem two_ofNat (x y n : Nat) (h1 : x = n / 256) (h2 : y = n % 256) : some [UInt8.ofNat x, UInt8.ofNat y] = some [UInt8.ofNat (n / 256), UInt8.ofNat (n % 256)] := by rw [h1, h2]
theorem hex_prog (s : List UInt8) (h1 : 1 ≤ s.length) (h4 : s.length ≤ 4) : parseH (List.replicate (4 - s.length) 48 ++ s) = if hxsOk s = true then some [UInt8.ofNat (hexN s / 256), UInt8.ofNat (hexN s % 256)] else none := by
  have hk : hxsOk s = s.all fun c => decide (hexVal c ≤ 15) := by rw [hxsOk, decide_eq_true ⟨h1, h4⟩, Bool.true_and]
  rw [hk]
  match s, h1, h4 with
  | [d], _, _ =>
    show parseH [48, 48, 48, d] = _
    rw [hex_four, hexVal_48]
    simp only [List.all_cons, List.all_nil, Bool.and_true, decide_eq_true_eq, hexN, List.foldl_cons, List.foldl_nil]
    by_cases h : hexVal d ≤ 15
    · rw [if_pos (by omega), if_pos (by omega)]
      exact two_ofNat _ _ _ (by omega) (by omega)
    · rw [if_neg (by omega), if_neg (by omega)]
  | [c, d], _, _ =>
    show parseH [48, 48, c, d] = _
    rw [hex_four, hexVal_48]
    simp only [List.all_cons, List.all_nil, Bool.and_true, Bool.and_eq_true, decide_eq_true_eq, hexN, List.foldl_cons, List.foldl_nil]
    by_cases h : hexVal c ≤ 15 ∧ hexVal d ≤ 15
    · rw [if_pos (by omega), if_pos (by omega)]
      exact two_ofNat _ _ _ (by omega) (by omega)
    · rw [if_neg (by omega), if_neg (by omega)]
  | [b, c, d], _, _ =>
    show parseH [48, b, c, d] = _
    rw [hex_four, hexVal_48]
    simp only [List.all_cons, List.all_nil, Bool.and_true, Bool.and_eq_true, decide_eq_true_eq, hexN, List.foldl_cons, List.foldl_nil]
    by_cases h : hexVal b ≤ 15 ∧ hexVal c ≤ 15 ∧ hexVal d ≤ 15
    · rw [if_pos (by omega), if_pos (by omega)]
      exact two_ofNat _ _ _ (by omega) (by omega)
    · rw [if_neg (by omega), if_neg (by omega)]
  | [a, b, c, d], _, _ =>
    show parseH [a, b, c, d] = _
    rw [hex_four]
    simp only [List.all_cons, List.all_nil, Bool.and_true, Bool.and_eq_true, decide_eq_true_eq, hexN, List.foldl_cons, List.foldl_nil]
    by_cases h : hexVal a ≤ 15 ∧ hexVal b ≤ 15 ∧ hexVal c ≤ 15 ∧ hexVal d ≤ 15
    · rw [if_pos (by omega), if_pos (by omega)]
      exact two_ofNat _ _ _ (by omega) (by omega)
    · rw [if_neg (by omega), if_neg (by omega)]
/-! square brackets -/
theorem brack_prog (l : List UInt8) : (([91] : List UInt8).isPrefixOf l && ([93] : List UInt8).isSuffixOf l) = brack l := by
  cases l with
  | nil => rfl
  | cons x r =>
    rcases List.eq_nil_or_concat r with rfl | ⟨m, y, rfl⟩
    · have e : brack [x] = false := decide_eq_false (fun h => by have := h.1; simp at this)
      rw [e]
      by_cases hx : x = 91
      · subst hx; decide
      · simp [List.isPrefixOf, Ne.symm hx]
    · have e1 : ([91] : List UInt8).isPrefixOf (x :: (m ++ [y])) = decide (x = 91) := by
        by_cases hx : x = 91
        · subst hx; simp [List.isPrefixOf]
        · simp [List.isPrefixOf, Ne.symm hx, hx]
      have e2 : ([93] : List UInt8).isSuffixOf (x :: (m ++ [y])) = decide (y = 93) := by
        by_cases hy : y = 93
        · subst hy; simp [List.isSuffixOf, List.isPrefixOf]
        · simp [List.isSuffixOf, List.isPrefixOf, Ne.symm hy, hy]
      have e3 : (x :: (m ++ [y])).getD ((x :: (m ++ [y])).length - 1) 0 = y := by simp
      rw [List.concat_eq_append, e1, e2, brack, e3]
      simp
end Go.Proofs.YtcbfchkhbngpkaaGreatDoor
namespace Go.Proofs.YtcbfchkhbngpkaaGreatDoor
open Go.RowKit

/-- parts, each behind a byte -/
def dotT (c : UInt8) (f : Nat → List UInt8) (n : Nat) : List UInt8 := (List.range n).flatMap fun k => c :: f k
theorem dot_succ (c : UInt8) (f : Nat → List UInt8) (n : Nat) : dotT c f (n + 1) = dotT c f n ++ ([c] ++ f n) := by
  simp [dotT, List.range_succ, List.flatMap_append]
theorem dot_len (c : UInt8) (f : Nat → List UInt8) (k : Nat) (hf : ∀ i, (f i).length ≤ k) (n : Nat) : (dotT c f n).length ≤ (k + 1) * n := by
  induction n with
  | zero => simp [dotT]
  | succ n ih =>
    rw [dot_succ, List.length_append, List.length_append, Nat.mul_succ]
    have := hf n
    simp only [List.length_cons, List.length_nil]
    omega
theorem dot_four (c : UInt8) (f : Nat → List UInt8) : (dotT c f 4).drop 1 = joinT c ((List.range 4).map f) := by
  simp [dotT, range4, joinT]
theorem dot_eight (c : UInt8) (f : Nat → List UInt8) : (dotT c f 8).drop 1 = joinT c ((List.range 8).map f) := by
  simp [dotT, range8, joinT]
theorem text_drop (l : List UInt8) (k : Nat) (n : Nat) (hn : l.length = n) : (ByteArray.mk l.toArray).extract k n = ⟨(l.drop k).toArray⟩ := by
  apply Go.WideShapes.bytes_inj
  rw [Lib.extract_data]
  show (l.drop k).take (n - k) = l.drop k
  exact List.take_of_length_le (by rw [List.length_drop, hn]; exact Nat.le_refl _)
theorem text_size (l : List UInt8) : (ByteArray.mk l.toArray).size = l.length := by simp [ByteArray.size]
theorem addrT_len (a : AddrM) : (addrT a).length ≤ 39 := by
  rw [addrT]
  split
  · simp
  · split
    · have h := dot_len 58 (fun k => hexT (groupV a k)) 4 (fun i => hexT_len _ 4 (by omega) (by have := group_lt a i; omega)) 8
      have h2 := dot_eight 58 (fun k => hexT (groupV a k))
      rw [← h2, List.length_drop]
      omega
    · have h := dot_len 46 (fun k => decT (a.ip.getD k 0).toNat) 3 (fun i => decT_len _ 3 (by omega) (by have := (a.ip.getD i 0).toNat_lt; omega)) 4
      have h2 := dot_four 46 (fun k => decT (a.ip.getD k 0).toNat)
      rw [← h2, List.length_drop]
      omega
end Go.Proofs.YtcbfchkhbngpkaaGreatDoor
namespace Go.Proofs.YtcbfchkhbngpkaaGreatDoor
open Go.RowKit

theorem text_take (l : List UInt8) (k : Nat) : (ByteArray.mk l.toArray).extract 0 k = ⟨(l.take k).toArray⟩ := by
  apply Go.WideShapes.bytes_inj
  rw [Lib.extract_data]
  show (l.drop 0).take (k - 0) = l.take k
  rw [List.drop_zero, Nat.sub_zero]
theorem text_mid (l : List UInt8) (i k : Nat) : (ByteArray.mk l.toArray).extract i k = ⟨((l.drop i).take (k - i)).toArray⟩ := by
  apply Go.WideShapes.bytes_inj
  rw [Lib.extract_data]
theorem text_at (l : List UInt8) (i : Nat) (h : i < (ByteArray.mk l.toArray).size) : (ByteArray.mk l.toArray)[i] = l.getD i 0 := by
  have hi : i < l.length := by rwa [text_size] at h
  rw [getD_lt hi]
  rfl
def innerB (host : List UInt8) : List UInt8 := if brack host then (host.drop 1).take (host.length - 2) else host
end Go.Proofs.YtcbfchkhbngpkaaGreatDoor
namespace Go.Proofs.YtcbfchkhbngpkaaGreatDoor
open Go.RowKit

theorem numV_lt (l : List UInt8) (h : l.all isDig = true) : numV l < 10 ^ l.length := by
  have : ∀ (l : List UInt8) (a : Nat), l.all isDig = true → l.foldl (fun n c => 10 * n + (c.toNat - 48)) a < (a + 1) * 10 ^ l.length := by
    intro l
    induction l with
    | nil => intro a _; simp
    | cons c r ih =>
      intro a hr
      rw [List.all_cons, Bool.and_eq_true] at hr
      have hc := of_decide_eq_true hr.1
      have h1 := ih (10 * a + (c.toNat - 48)) hr.2
      rw [List.foldl_cons, List.length_cons, Nat.pow_succ]
      refine Nat.lt_of_lt_of_le h1 ?_
      have h2 : 10 * a + (c.toNat - 48) + 1 ≤ (a + 1) * 10 := by omega
      calc _ ≤ (a + 1) * 10 * 10 ^ r.length := Nat.mul_le_mul_right _ h2
        _ = (a + 1) * (10 ^ r.length * 10) := by rw [Nat.mul_assoc, Nat.mul_comm 10]
  have h2 := this l 0 h
  rw [Nat.zero_add, Nat.one_mul] at h2
  exact h2
end Go.Proofs.YtcbfchkhbngpkaaGreatDoor
