/-
  The contract of the laws' made: valid routes to the peers 1 to 3. The contract of an address that the statements are made of: Host. The example of the chapter on routes: begun of the laws. The order of routes: what inserting and removing keep. No function of the program is named here. The bits of an exclusive or of two bytes. Prefixes that are addresses with bits cleared: valid, and what they contain. What is made of choices is valid and in order; routes that are inserted one after the other. No function of the program is named here. The mathematics of RoutesLongest: the longest prefix that contains an address, and what Lookup gives. No function of the program is named here. The mathematics of RoutesOrders: prefixes inserted in two orders, and what is found then. No function of the program is named here. What is asked of the functions of routes, with the results under names of their own. Prefixes, as an entry of what lies in memory. No function of the program is named here. Lists of routes and of prefixes that are equal: same, prefixes of the laws. The contract of the reference's Lookup. The walk of RoutesLongest over what is asked of the program. The walk of RoutesOrders over what is asked of the program. Words for lists of objects of one size that a slice holds: the first one for which a predicate holds, a place that is written, a predicate that is handed on. No function of the program is named here. The elements of type burrow/api.Route: size, zero value, pieces of their slices. No statement is proved here.
-/
import Derived.RegionTactic
import Derived.Deep.DeepCutAuto
import Derived.Lib.AppendZerosOnto
import Derived.Test.YtnblofbbbkjhpaaRoutesOrdersB2
namespace Go.Proofs.Ytnblofbbbkjhpaa
open Go.RowKit

theorem RdRow.kept {W W' : World} {B k n g : Nat} {A : Option Addr} {os : List (List Value)} (h : RdRow W B A k n os) (hB : B ≤ W.heap.size) (hg : W.grownBy W' (some g)) (hne : ∀ ad, A = some ad → g < ad.block) : RdRow W' B A k n os :=
  ⟨h.1, h.2.1, fun hn => by
    obtain ⟨b, off, e, hlt, hc⟩ := h.2.2 hn
    exact ⟨b, off, e, hlt, fun j v hv => (World.cell?_of_block (hg.block b (by omega) (fun e2 => by injection e2 with e2; have := hne _ e; simp only at this; omega))).trans (hc j v hv)⟩⟩
theorem RtRd.kept {W W' : World} {n g : Nat} {A : Option Addr} {l : List RouteM} (h : RtRd W W.heap.size A n l) (hg : W.grownBy W' (some g)) (hne : ∀ ad, A = some ad → g < ad.block) : RtRd W' W'.heap.size A n l := ⟨(h.1.kept (Nat.le_refl _) hg hne).mono hg.size, h.2⟩
theorem PfRd.kept {W W' : World} {n g : Nat} {A : Option Addr} {l : List (AddrM × Int)} (h : PfRd W W.heap.size A n l) (hg : W.grownBy W' (some g)) (hne : ∀ ad, A = some ad → g < ad.block) : PfRd W' W'.heap.size A n l := ⟨(h.1.kept (Nat.le_refl _) hg hne).mono hg.size, h.2⟩
theorem At.kept {W W' : World} {b off g : Nat} {cs : List Value} (h : At W b off cs) (hb : b < W.heap.size) (hg : W.grownBy W' (some g)) (hne : g < b) : At W' b off cs := fun j v hv => (World.cell?_of_block (hg.block b hb (fun e2 => by injection e2 with e2; omega))).trans (h j v hv)
/-- a key of one byte -/
def keyB (y : UInt8) : List UInt8 := y :: List.replicate 31 0
theorem keyB_length (y : UInt8) : (keyB y).length = 32 := rfl
theorem key_byte (y : UInt8) : Try.prog.built 30 [(0, .int .u8 (y.toNat : Int))] = some ((keyB y).map u8v).toArray := by kernel_rfl
/-- routes inserted one after the other -/
def insAll (xs : List ((AddrM × Int) × UInt8)) : List RouteM := xs.foldl (fun l x => (insM l x.1.1 x.1.2 (keyB x.2)).1) []
theorem insAll_snoc (xs : List ((AddrM × Int) × UInt8)) (x : (AddrM × Int) × UInt8) : insAll (xs ++ [x]) = (insM (insAll xs) x.1.1 x.1.2 (keyB x.2)).1 := by simp [insAll]
end Go.Proofs.Ytnblofbbbkjhpaa
namespace Go.Proofs.Ytnblofbbbkjhpaa
open Go.RowKit

def hostB (u v : UInt8) : List UInt8 := [10, u, 0, v, 0, 0, 0, 0, 0, 0, 0, 0, 0, 0, 0, 0]
/-- the address 10.x.0.y -/
def hostM (x y : Nat) : AddrM := ⟨false, hostB (UInt8.ofNat x) (UInt8.ofNat y)⟩
theorem hostM_ok (x y : Nat) : (hostM x y).ok := rfl
theorem ip_built (u v : UInt8) : Try.prog.built 24 [(0, .int .u8 10), (1, .int .u8 (u.toNat : Int)), (2, .int .u8 0), (3, .int .u8 (v.toNat : Int))] = some ((hostB u v).map u8v).toArray := by kernel_rfl
theorem addr_built (l : List UInt8) (h : l.length = 16) : Try.prog.built 26 [(1, .agg (l.map u8v).toArray)] = some (AddrM.mk false l).cells.toArray := by
  rw [built_of 26 [1, 16] [[.bool false], (List.replicate 16 (0 : UInt8)).map u8v] rfl #[(0, 1), (1, 16)] (fun parts => by kernel_rfl) (fun i h => by
    match i, h with
    | 0, _ => rfl
    | 1, _ => rfl) _ (fun p hp => by
    simp only [List.mem_cons, List.not_mem_nil, or_false] at hp
    subst hp
    simp [Value.cells, h])]
  simp [AddrM.cells, Value.cells]
set_option maxRecDepth 100000 in
set_option maxHeartbeats 2000000 in
theorem caseHost_any (x y : Nat) (w : World) :
    Calls Try.prog 31 #[.int .i64 (x : Int), .int .i64 (y : Int)] w fun e w' => e = .returned (.agg (hostM x y).cells.toArray) ∧ Below w.heap.size w w' := by
  rw [hostM]
  have hw1 := codeByte_wrap x
  have hw2 := codeByte_wrap y
  generalize UInt8.ofNat x = u at hw1 ⊢
  generalize UInt8.ofNat y = v at hw2 ⊢
  have hb1 := ip_built u v
  have hb2 := addr_built (hostB u v) rfl
  have hok : (AddrM.mk false (hostB u v)).ok := rfl
  generalize hl : hostB u v = l at hb1 hb2 hok ⊢
  clear hl
  obtain ⟨ci, hci⟩ : ∃ c, (l.map u8v).toArray = c := ⟨_, rfl⟩
  obtain ⟨ca, hca⟩ : ∃ c, (AddrM.mk false l).cells.toArray = c := ⟨_, rfl⟩
  rw [hci] at hb1 hb2
  rw [hca] at hb2 ⊢
  have HB := Lib.hid (And.intro hb1 (And.intro hb2 hca))
  have HO := Lib.hid hok
  have HAL := Lib.hid (AddrM.cells_length HO.out)
  have HCO := Lib.hid (addr_cellsOf _ HO.out)
  clear hb1 hb2 hci hca hok
  have HM := Lib.hid (show Mem w [blkE w.heap.size 26 addr0.cells] (w.alloc (.cells #[.bool false, .int .u8 0, .int .u8 0, .int .u8 0, .int .u8 0, .int .u8 0, .int .u8 0, .int .u8 0, .int .u8 0, .int .u8 0, .int .u8 0, .int .u8 0, .int .u8 0, .int .u8 0, .int .u8 0, .int .u8 0, .int .u8 0] 26)) from (Mem.nil w).alloc rfl 26 #[.bool false, .int .u8 0, .int .u8 0, .int .u8 0, .int .u8 0, .int .u8 0, .int .u8 0, .int .u8 0, .int .u8 0, .int .u8 0, .int .u8 0, .int .u8 0, .int .u8 0, .int .u8 0, .int .u8 0, .int .u8 0, .int .u8 0] addr0.cells rfl)
  go_enter Try.func31, Try.ntmps31
  go_upto_region 1 with fail
  generalize w.alloc (.cells #[.bool false, .int .u8 0, .int .u8 0, .int .u8 0, .int .u8 0, .int .u8 0, .int .u8 0, .int .u8 0, .int .u8 0, .int .u8 0, .int .u8 0, .int .u8 0, .int .u8 0, .int .u8 0, .int .u8 0, .int .u8 0, .int .u8 0] 26) = w1 at HM ⊢
  go_wp2_with (first | (refine wpList_build_as rfl 24 [(0, .const (.int .u8 10)), (1, .tmp 6), (2, .const (.int .u8 0)), (3, .tmp 8)] rfl ci ?_ ?_; exact HB.out.1) | (refine wpList_build_as rfl 26 [(1, .tmp 9)] rfl ca ?_ ?_; exact HB.out.2.1) | (refine wpList_store_blk rfl 26 (.tmp 4) (.tmp 10) rfl w.heap.size (AddrM.mk false l).cells rfl (by show Value.agg ca = _; rw [HB.out.2.2]) 26 addr0.cells (HM.out.blk 0 rfl) HCO.out (by rw [HAL.out]; rfl) (AddrM.one _) ?_; intro w9 hb9 hg9))
  exact bodyPost_ret (results_obj rfl _ _ w.heap.size 26 (AddrM.mk false l).cells _ rfl hb9 Try.underlying26 rfl HCO.out) rfl ⟨by rw [HB.out.2.2], (HM.out.put 0 rfl _ hg9 hb9).bel⟩
end Go.Proofs.Ytnblofbbbkjhpaa
namespace Go.Proofs.Ytnblofbbbkjhpaa
open Go.RowKit

theorem wpList_build_as_g {P : Program} {ops : Array Oper} {rest : List Oper} {o : Oper} {a : Act} {w : World} {Q : Exit → Act → World → Prop} (hw : Region.wanted o (yielded ops a.tmps) = true) (t : TypeId) (parts : List (Nat × Operand)) (ho : o.op = .build t parts.toArray) (v : Array Value)
    (hb : P.built t (parts.map fun p => (p.1, a.eval p.2)) = some v) (h : wpList P ops Q rest (a.put o.dst (.agg v)) w) : wpList P ops Q (o :: rest) a w :=
  wpList_step fun K hK => by
    rw [if_pos hw]
    have e : (parts.toArray.map fun (i, x) => (i, a.eval x)).toList = parts.map fun p => (p.1, a.eval p.2) := by simp
    exact wp_build t parts.toArray ho (by rw [e, hb]; rfl) (by rw [e, hb]; exact hK _ _ h)
/-- routes, as an entry of what lies in memory -/
def rtL (A : Option Addr) (n : Nat) (l : List RouteM) : Low := ⟨fun W => RtRd W W.heap.size A n l, fun _ _ hb h => (h.below hb).mono hb.size⟩
def bl1 : List RouteM := (insM [] (maskM (hostM 0 0) 8) 8 (keyB 1)).1
def bl2 : List RouteM := (insM bl1 (maskM (hostM 1 0) 16) 16 (keyB 2)).1
def x11 : AddrM := ⟨false, 11 :: List.replicate 15 0⟩
theorem bl1_len : bl1.length = 1 := by decide +kernel
theorem bl2_len : bl2.length = 2 := by decide +kernel
theorem bl1_err : (insM [] (maskM (hostM 0 0) 8) 8 (keyB 1)).2 = 0 := by decide +kernel
theorem bl2_err : (insM bl1 (maskM (hostM 1 0) 16) 16 (keyB 2)).2 = 0 := by decide +kernel
theorem bl_one : lookM bl2 (hostM 1 3) = (keyB 2, true) := by decide +kernel
theorem bl_two : lookM bl2 (hostM 2 3) = (keyB 1, true) := by decide +kernel
theorem bl_none : lookM bl2 x11 = (List.replicate 32 0, false) := by decide +kernel
set_option maxRecDepth 100000 in
set_option maxHeartbeats 8000000 in
theorem rt_begun_any (HINS : RtInsC 12) (HLK : RtLookC 26) (w : World) : Calls Try.prog 24 #[] w fun e w' => e = .returned (.bool true) ∧ Below w.heap.size w w' := by
  obtain ⟨a00, ha00⟩ : ∃ z, (hostM 0 0).cells.toArray = z := ⟨_, rfl⟩
  obtain ⟨a10, ha10⟩ : ∃ z, (hostM 1 0).cells.toArray = z := ⟨_, rfl⟩
  obtain ⟨a13, ha13⟩ : ∃ z, (hostM 1 3).cells.toArray = z := ⟨_, rfl⟩
  obtain ⟨a23, ha23⟩ : ∃ z, (hostM 2 3).cells.toArray = z := ⟨_, rfl⟩
  obtain ⟨p8, hp8⟩ : ∃ z, (prefC (maskM (hostM 0 0) 8) (8 : Int)).toArray = z := ⟨_, rfl⟩
  obtain ⟨p16, hp16⟩ : ∃ z, (prefC (maskM (hostM 1 0) 16) (16 : Int)).toArray = z := ⟨_, rfl⟩
  obtain ⟨k1, hk1⟩ : ∃ z, ((keyB 1).map u8v).toArray = z := ⟨_, rfl⟩
  obtain ⟨k2, hk2⟩ : ∃ z, ((keyB 2).map u8v).toArray = z := ⟨_, rfl⟩
  obtain ⟨k0, hk0⟩ : ∃ z, ((List.replicate 32 (0 : UInt8)).map u8v).toArray = z := ⟨_, rfl⟩
  obtain ⟨x1, hx1⟩ : ∃ z, x11.cells.toArray = z := ⟨_, rfl⟩
  have HI1 := fun W : World => (show Calls Try.prog 12 #[.slice none 0 0, .agg (prefC (maskM (hostM 0 0) 8) (8 : Int)).toArray, .agg ((keyB 1).map u8v).toArray] W (fun e w' => ∃ A c, e = .returned (.tuple #[.slice A 1 c, .int .i64 0]) ∧ (1 ≤ c ∧ c ≤ maxLen) ∧ RtRd w' w'.heap.size A 1 bl1 ∧ Below W.heap.size W w') from by
    have h := HINS none 0 0 [] (maskM (hostM 0 0) 8) 8 (keyB 1) W (maskM_ok _ (hostM_ok 0 0) 8) (by unfold inI64; omega) rfl ⟨by omega, by omega, by unfold maxLen; omega, RtRd.nil⟩
    rw [bl1_err] at h
    refine h.mono ?_
    rintro e w' ⟨v, he, A, c, hv, h1, h2, hr, hb⟩
    subst hv
    have hl : (insM [] (maskM (hostM 0 0) 8) 8 (keyB 1)).1.length = 1 := bl1_len
    rw [hl] at he hr h1
    exact ⟨A, c, he, ⟨h1, h2⟩, hr, hb⟩)
  rw [hp8, hk1] at HI1
  have HHI1 := Lib.hid HI1
  clear HI1
  have HI2 := fun (A : Option Addr) (c : Nat) (W : World) (h1 : 1 ≤ c ∧ c ≤ maxLen) (hr : RtRd W W.heap.size A 1 bl1) => (show Calls Try.prog 12 #[.slice A 1 c, .agg (prefC (maskM (hostM 1 0) 16) (16 : Int)).toArray, .agg ((keyB 2).map u8v).toArray] W (fun e w' => ∃ A c, e = .returned (.tuple #[.slice A 2 c, .int .i64 0]) ∧ (2 ≤ c ∧ c ≤ maxLen) ∧ RtRd w' w'.heap.size A 2 bl2 ∧ Below W.heap.size W w') from by
    have h := HINS A 1 c bl1 (maskM (hostM 1 0) 16) 16 (keyB 2) W (maskM_ok _ (hostM_ok 1 0) 16) (by unfold inI64; omega) rfl ⟨by omega, h1.1, h1.2, hr⟩
    rw [bl2_err] at h
    refine h.mono ?_
    rintro e w' ⟨v, he, A, c, hv, h1, h2, hr, hb⟩
    subst hv
    have hl : (insM bl1 (maskM (hostM 1 0) 16) 16 (keyB 2)).1.length = 2 := bl2_len
    rw [hl] at he hr h1
    exact ⟨A, c, he, ⟨h1, h2⟩, hr, hb⟩)
  rw [hp16, hk2] at HI2
  have HHI2 := Lib.hid HI2
  clear HI2
  have L1 := fun (A : Option Addr) (c : Nat) (W : World) (h1 : 2 ≤ c ∧ c ≤ maxLen) (hr : RtRd W W.heap.size A 2 bl2) => (show Calls Try.prog 26 #[.slice A 2 c, .agg ((hostM 1 3).cells).toArray] W (fun e w' => e = .returned (.tuple #[.agg ((keyB 2).map u8v).toArray, .bool true]) ∧ Below W.heap.size W w') from by
    have h := HLK A 2 c bl2 (hostM 1 3) W (hostM_ok 1 3) ⟨by omega, h1.1, h1.2, hr⟩
    rw [bl_one] at h
    exact h)
  rw [ha13, hk2] at L1
  have HL1 := Lib.hid L1
  clear L1
  have L2 := fun (A : Option Addr) (c : Nat) (W : World) (h1 : 2 ≤ c ∧ c ≤ maxLen) (hr : RtRd W W.heap.size A 2 bl2) => (show Calls Try.prog 26 #[.slice A 2 c, .agg ((hostM 2 3).cells).toArray] W (fun e w' => e = .returned (.tuple #[.agg ((keyB 1).map u8v).toArray, .bool true]) ∧ Below W.heap.size W w') from by
    have h := HLK A 2 c bl2 (hostM 2 3) W (hostM_ok 2 3) ⟨by omega, h1.1, h1.2, hr⟩
    rw [bl_two] at h
    exact h)
  rw [ha23, hk1] at L2
  have HL2 := Lib.hid L2
  clear L2
  have L3 := fun (A : Option Addr) (c : Nat) (W : World) (h1 : 2 ≤ c ∧ c ≤ maxLen) (hr : RtRd W W.heap.size A 2 bl2) => (show Calls Try.prog 26 #[.slice A 2 c, .agg (x11.cells).toArray] W (fun e w' => e = .returned (.tuple #[.agg ((List.replicate 32 (0 : UInt8)).map u8v).toArray, .bool false]) ∧ Below W.heap.size W w') from by
    have h := HLK A 2 c bl2 x11 W rfl ⟨by omega, h1.1, h1.2, hr⟩
    rw [bl_none] at h
    exact h)
  rw [hx1, hk0] at L3
  have HL3 := Lib.hid L3
  clear L3
  have M8 := fun W : World => (show Calls Try.prog 30 #[.agg (hostM 0 0).cells.toArray, .int .i64 8] W (fun e w' => e = .returned (.agg (prefC (maskM (hostM 0 0) 8) (8 : Int)).toArray) ∧ Below W.heap.size W w') from caseMasked_any (hostM 0 0) (hostM_ok 0 0) 8 (by omega) W)
  rw [ha00, hp8] at M8
  have HM8 := Lib.hid M8
  clear M8
  have M16 := fun W : World => (show Calls Try.prog 30 #[.agg (hostM 1 0).cells.toArray, .int .i64 16] W (fun e w' => e = .returned (.agg (prefC (maskM (hostM 1 0) 16) (16 : Int)).toArray) ∧ Below W.heap.size W w') from caseMasked_any (hostM 1 0) (hostM_ok 1 0) 16 (by omega) W)
  rw [ha10, hp16] at M16
  have HM16 := Lib.hid M16
  clear M16
  have A00 := fun W : World => (show Calls Try.prog 31 #[.int .i64 0, .int .i64 0] W (fun e w' => e = .returned (.agg (hostM 0 0).cells.toArray) ∧ Below W.heap.size W w') from caseHost_any 0 0 W)
  rw [ha00] at A00
  have HA00 := Lib.hid A00
  clear A00
  have A10 := fun W : World => (show Calls Try.prog 31 #[.int .i64 1, .int .i64 0] W (fun e w' => e = .returned (.agg (hostM 1 0).cells.toArray) ∧ Below W.heap.size W w') from caseHost_any 1 0 W)
  rw [ha10] at A10
  have HA10 := Lib.hid A10
  clear A10
  have A13 := fun W : World => (show Calls Try.prog 31 #[.int .i64 1, .int .i64 3] W (fun e w' => e = .returned (.agg (hostM 1 3).cells.toArray) ∧ Below W.heap.size W w') from caseHost_any 1 3 W)
  rw [ha13] at A13
  have HA13 := Lib.hid A13
  clear A13
  have A23 := fun W : World => (show Calls Try.prog 31 #[.int .i64 2, .int .i64 3] W (fun e w' => e = .returned (.agg (hostM 2 3).cells.toArray) ∧ Below W.heap.size W w') from caseHost_any 2 3 W)
  rw [ha23] at A23
  have HA23 := Lib.hid A23
  clear A23
  have b1 : Try.prog.built 30 [(0, .int .u8 1)] = some ((keyB 1).map u8v).toArray := by kernel_rfl
  have b2 : Try.prog.built 30 [(0, .int .u8 2)] = some ((keyB 2).map u8v).toArray := by kernel_rfl
  have b3 : Try.prog.built 24 [(0, .int .u8 11)] = some (x11.ip.map u8v).toArray := by kernel_rfl
  have b4 : Try.prog.built 26 [(1, .agg (x11.ip.map u8v).toArray)] = some x11.cells.toArray := by kernel_rfl
  obtain ⟨ip, hip⟩ : ∃ z, (x11.ip.map u8v).toArray = z := ⟨_, rfl⟩
  rw [hk1] at b1
  rw [hk2] at b2
  rw [hip] at b3 b4
  rw [hx1] at b4
  have HB1 := Lib.hid b1
  have HB2 := Lib.hid b2
  have HB3 := Lib.hid b3
  have HB4 := Lib.hid b4
  have HK1 := Lib.hid hk1
  have HK2 := Lib.hid hk2
  have HK0 := Lib.hid hk0
  have heq := fun (k : List UInt8) (hk : k.length = 32) (w' : World) => key_eq k k hk hk w'
  have he1 := heq (keyB 1) rfl
  have he2 := heq (keyB 2) rfl
  rw [hk1, decide_eq_true rfl] at he1
  rw [hk2, decide_eq_true rfl] at he2
  have HE1 := Lib.hid he1
  have HE2 := Lib.hid he2
  clear heq he1 he2 b1 b2 b3 b4 hip hk1 hk2 hk0 hx1 ha00 ha10 ha13 ha23 hp8 hp16 HINS HLK
  have HM := Lib.hid (Lows.nil w)
  go_enter Try.func24, Try.ntmps24
  go_wp2_with fail
  refine (HA00.out _).mono ?_
  rintro e w1 ⟨rfl, hb⟩
  replace HM := Lib.hid (HM.out.below hb)
  clear hb
  go_wp2_with fail
  refine (HM8.out _).mono ?_
  rintro e w2 ⟨rfl, hb⟩
  replace HM := Lib.hid (HM.out.below hb)
  clear hb
  go_wp2_with (refine wpList_build_as rfl 30 [(0, .const (.int .u8 1))] rfl k1 ?_ ?_; exact HB1.out)
  refine (HHI1.out _).mono ?_
  rintro e w3 ⟨A1, c1, rfl, hc, hr, hb⟩
  have HC1 := Lib.hid hc
  replace HM := Lib.hid (show Lows w [rtL A1 1 bl1] w3 from (HM.out.below hb).cons (rtL A1 1 bl1) hr)
  clear hc hr hb
  go_wp2_with fail
  refine (HA10.out _).mono ?_
  rintro e w4 ⟨rfl, hb⟩
  replace HM := Lib.hid (HM.out.below hb)
  clear hb
  go_wp2_with fail
  refine (HM16.out _).mono ?_
  rintro e w5 ⟨rfl, hb⟩
  replace HM := Lib.hid (HM.out.below hb)
  clear hb
  go_wp2_with (refine wpList_build_as rfl 30 [(0, .const (.int .u8 2))] rfl k2 ?_ ?_; exact HB2.out)
  refine (HHI2.out A1 c1 _ HC1.out (HM.out.get (f := rtL A1 1 bl1) 0 rfl)).mono ?_
  rintro e w6 ⟨A2, c2, rfl, hc, hr, hb⟩
  have HC2 := Lib.hid hc
  replace HM := Lib.hid (show Lows w [rtL A2 2 bl2] w6 from ((HM.out.below hb).cons (rtL A2 2 bl2) hr).tail 1)
  clear hc hr hb
  go_wp2_with fail
  refine (HA13.out _).mono ?_
  rintro e w7 ⟨rfl, hb⟩
  replace HM := Lib.hid (HM.out.below hb)
  clear hb
  go_wp2_with fail
  refine (HL1.out A2 c2 _ HC2.out (HM.out.get (f := rtL A2 2 bl2) 0 rfl)).mono ?_
  rintro e w8 ⟨rfl, hb⟩
  replace HM := Lib.hid (HM.out.below hb)
  clear hb
  have HZ := Lib.hid (Blk.new w8 30 (aeZ 32))
  go_upto_region 4 with (refine wpList_store_obj rfl 30 (.tmp 4) (.tmp 29) rfl w8.heap.size 0 ((keyB 2).map u8v) rfl (by show Value.agg k2 = _; rw [HK2.out]) 30 (aeZ 32) HZ.out (key_cellsOf _ rfl) (by decide) (u8v_one _) ?_; intro w9 hb9 hg9)
  rw [setL_all (aeZ 32) ((keyB 2).map u8v) rfl] at hb9
  replace HM := Lib.hid (show Lows w [blkL w8.heap.size 30 ((keyB 2).map u8v), rtL A2 2 bl2] w9 from HM.out.stored hg9 hb9)
  clear hb9 hg9 HZ
  generalize w8.heap.size = g4 at HM ⊢
  go_wp2_with fail
  refine (HA23.out _).mono ?_
  rintro e w10 ⟨rfl, hb⟩
  replace HM := Lib.hid (HM.out.below hb)
  clear hb
  go_wp2_with fail
  refine (HL2.out A2 c2 _ HC2.out (HM.out.get (f := rtL A2 2 bl2) 1 rfl)).mono ?_
  rintro e w11 ⟨rfl, hb⟩
  replace HM := Lib.hid (HM.out.below hb)
  clear hb
  have HZ := Lib.hid (Blk.new w11 30 (aeZ 32))
  go_upto_region 5 with (refine wpList_store_obj rfl 30 (.tmp 6) (.tmp 35) rfl w11.heap.size 0 ((keyB 1).map u8v) rfl (by show Value.agg k1 = _; rw [HK1.out]) 30 (aeZ 32) HZ.out (key_cellsOf _ rfl) (by decide) (u8v_one _) ?_; intro w12 hb9 hg9)
  rw [setL_all (aeZ 32) ((keyB 1).map u8v) rfl] at hb9
  replace HM := Lib.hid (show Lows w [blkL w11.heap.size 30 ((keyB 1).map u8v), blkL g4 30 ((keyB 2).map u8v), rtL A2 2 bl2] w12 from HM.out.stored hg9 hb9)
  clear hb9 hg9 HZ
  generalize w11.heap.size = g6 at HM ⊢
  go_wp2_with (first | (refine wpList_build_as rfl 24 [(0, .const (.int .u8 11))] rfl ip ?_ ?_; exact HB3.out) | (refine wpList_build_as rfl 26 [(1, .tmp 39)] rfl x1 ?_ ?_; exact HB4.out))
  refine (HL3.out A2 c2 _ HC2.out (HM.out.get (f := rtL A2 2 bl2) 2 rfl)).mono ?_
  rintro e w13 ⟨rfl, hb⟩
  replace HM := Lib.hid (HM.out.below hb)
  clear hb
  have HZ := Lib.hid (Blk.new w13 30 (aeZ 32))
  go_upto_region 6 with (refine wpList_store_obj rfl 30 (.tmp 8) (.tmp 42) rfl w13.heap.size 0 ((List.replicate 32 (0 : UInt8)).map u8v) rfl (by show Value.agg k0 = _; rw [HK0.out]) 30 (aeZ 32) HZ.out (key_cellsOf _ rfl) (by decide) (u8v_one _) ?_; intro w14 hb9 hg9)
  rw [setL_all (aeZ 32) ((List.replicate 32 (0 : UInt8)).map u8v) rfl] at hb9
  replace HM := Lib.hid (show Lows w [blkL w13.heap.size 30 ((List.replicate 32 (0 : UInt8)).map u8v), blkL g6 30 ((keyB 1).map u8v), blkL g4 30 ((keyB 2).map u8v), rtL A2 2 bl2] w14 from HM.out.stored hg9 hb9)
  clear hb9 hg9 HZ
  generalize w13.heap.size = g8 at HM ⊢
  go_wp2_with (first | (refine wpList_load_obj_g (by rfl) 30 (.tmp 4) rfl g4 0 rfl ((keyB 2).map u8v) (HM.out.blk 2 rfl).all _ Try.underlying30 rfl (key_cellsOf _ rfl) ?_; rw [HK2.out]) | (refine wpList_load_obj_g (by rfl) 30 (.tmp 6) rfl g6 0 rfl ((keyB 1).map u8v) (HM.out.blk 1 rfl).all _ Try.underlying30 rfl (key_cellsOf _ rfl) ?_; rw [HK1.out]) | (refine wpList_build_as_g (by rfl) 30 [(0, .const (.int .u8 2))] rfl k2 ?_ ?_; exact HB2.out) | (refine wpList_build_as_g (by rfl) 30 [(0, .const (.int .u8 1))] rfl k1 ?_ ?_; exact HB1.out) | (refine wpList_eql_agg (by rfl) 30 30 61 62 rfl k2 k2 true rfl rfl key_noguard (HE2.out _) ?_) | (refine wpList_eql_agg (by rfl) 30 30 66 67 rfl k1 k1 true rfl rfl key_noguard (HE1.out _) ?_))
  go_ret
  exact ⟨rfl, HM.out.bel⟩
end Go.Proofs.Ytnblofbbbkjhpaa
namespace Go.Proofs.Ytnblofbbbkjhpaa
open Go.RowKit

theorem bl_irrefl : ∀ a : List UInt8, Op.bytesLess a a = false
  | [] => rfl
  | x :: a => by
    unfold Op.bytesLess
    rw [bl_irrefl a]
    simp
theorem bl_trans : ∀ a b c : List UInt8, Op.bytesLess a b = true → Op.bytesLess b c = true → Op.bytesLess a c = true
  | _, [], _, h, _ => by cases ‹List UInt8› <;> simp [Op.bytesLess] at h
  | _, _ :: _, [], _, h => by simp [Op.bytesLess] at h
  | [], _ :: _, _ :: _, _, _ => rfl
  | x :: a, y :: b, z :: c, h, k => by
    unfold Op.bytesLess at h k ⊢
    simp only [Bool.or_eq_true, Bool.and_eq_true, decide_eq_true_eq, beq_iff_eq] at h k ⊢
    have key := bl_trans a b c
    rcases h with h | ⟨rfl, h⟩
    · rcases k with k | ⟨rfl, k⟩
      · exact .inl (UInt8.lt_trans h k)
      · exact .inl h
    · rcases k with k | ⟨rfl, k⟩
      · exact .inl k
      · exact .inr ⟨rfl, key h k⟩
theorem bl_total : ∀ a b : List UInt8, a.length = b.length → a ≠ b → Op.bytesLess a b = true ∨ Op.bytesLess b a = true
  | [], [], _, h => absurd rfl h
  | [], _ :: _, h, _ => by simp at h
  | _ :: _, [], h, _ => by simp at h
  | x :: a, y :: b, hl, h => by
    unfold Op.bytesLess
    simp only [Bool.or_eq_true, Bool.and_eq_true, decide_eq_true_eq, beq_iff_eq]
    by_cases e : x = y
    · subst e
      rcases bl_total a b (by simpa using hl) (fun e => h (by rw [e])) with k | k
      · exact .inl (.inr ⟨rfl, k⟩)
      · exact .inr (.inr ⟨rfl, k⟩)
    · have hn : x.toNat ≠ y.toNat := fun k => e (UInt8.toNat.inj k)
      rcases Nat.lt_or_ge x.toNat y.toNat with k | k
      · exact .inl (.inl (UInt8.lt_iff_toNat_lt.2 k))
      · exact .inr (.inl (UInt8.lt_iff_toNat_lt.2 (by omega)))
theorem less_irrefl (a : AddrM) : lessM a a = false := by rw [lessM, if_pos rfl, bl_irrefl]
theorem less_trans {a b c : AddrM} (h : lessM a b = true) (k : lessM b c = true) : lessM a c = true := by
  unfold lessM at *
  cases hs : a.six <;> cases hb : b.six <;> cases hc : c.six <;> simp_all
  · exact bl_trans _ _ _ h k
  · exact bl_trans _ _ _ h k
theorem less_total {a b : AddrM} (ha : a.ok) (hb : b.ok) (h : a ≠ b) : lessM a b = true ∨ lessM b a = true := by
  unfold lessM
  cases hs : a.six <;> cases ht : b.six <;> simp
  · exact bl_total _ _ (by rw [ha, hb]) (fun e => h (by cases a; cases b; simp_all))
  · exact bl_total _ _ (by rw [ha, hb]) (fun e => h (by cases a; cases b; simp_all))
theorem bef_irrefl (a : AddrM) (i : Int) : befM a i a i = false := by rw [befM, if_pos rfl]; simp
theorem bef_trans {a b c : AddrM} {i j k : Int} (h : befM a i b j = true) (h2 : befM b j c k = true) : befM a i c k = true := by
  unfold befM at *
  by_cases e1 : a = b
  · subst e1
    rw [if_pos rfl] at h
    by_cases e2 : a = c
    · subst e2
      rw [if_pos rfl] at h2 ⊢
      simp only [decide_eq_true_eq] at *
      omega
    · rw [if_neg e2] at h2 ⊢
      exact h2
  · rw [if_neg e1] at h
    by_cases e2 : b = c
    · subst e2
      rw [if_neg e1]
      exact h
    · rw [if_neg e2] at h2
      have ht := less_trans h h2
      by_cases e3 : a = c
      · subst e3
        rw [less_irrefl] at ht
        cases ht
      · rw [if_neg e3]
        exact ht
theorem bef_total {a b : AddrM} {i j : Int} (ha : a.ok) (hb : b.ok) (h : ¬(a = b ∧ i = j)) : befM a i b j = true ∨ befM b j a i = true := by
  unfold befM
  by_cases e : a = b
  · subst e
    rw [if_pos rfl, if_pos rfl]
    simp only [decide_eq_true_eq]
    have : i ≠ j := fun k => h ⟨rfl, k⟩
    omega
  · rw [if_neg e, if_neg (fun k => e k.symm)]
    exact less_total ha hb e
def befR (r s : RouteM) : Prop := befM r.a r.bits s.a s.bits = true
theorem befR_trans {r s t : RouteM} (h : befR r s) (k : befR s t) : befR r t := bef_trans h k
theorem befR_asymm {r s : RouteM} (h : befR r s) (k : befR s r) : False := by
  have := bef_trans h k
  rw [bef_irrefl] at this
  cases this
/-- routes with valid prefixes in ascending order -/
def SortedM (l : List RouteM) : Prop := (∀ r ∈ l, validM r.a r.bits = true) ∧ l.Pairwise befR
theorem sorted_chain {l : List RouteM} (h : SortedM l) : chainM l = true := by
  refine chainM_good fun i hi => ?_
  cases i with
  | zero => rw [stepM_zero (List.getElem?_eq_getElem hi)]; exact h.1 _ (List.getElem_mem hi)
  | succ k =>
    rw [stepM_succ (List.getElem?_eq_getElem (by omega)) (List.getElem?_eq_getElem hi), h.1 _ (List.getElem_mem hi), Bool.true_and]
    exact List.pairwise_iff_getElem.1 h.2 k (k + 1) (by omega) hi (by omega)
theorem chain_sorted {l : List RouteM} (h : chainM l = true) : SortedM l := by
  have hs : ∀ i, i < l.length → stepM l i = true := fun i hi => List.all_eq_true.1 h i (List.mem_range.2 hi)
  constructor
  · intro r hr
    obtain ⟨i, hi, rfl⟩ := List.getElem_of_mem hr
    have := hs i hi
    cases hv : validM l[i].a l[i].bits with
    | true => rfl
    | false => rw [stepM_bad (List.getElem?_eq_getElem hi) hv] at this; cases this
  · rw [List.pairwise_iff_getElem]
    intro i j hi hj hij
    have key : ∀ d (hd : i + d + 1 < l.length), befR l[i] (l[i + d + 1]) := by
      intro d
      induction d with
      | zero =>
        intro hd
        have := hs (i + 1) hd
        rw [stepM_succ (List.getElem?_eq_getElem hi) (List.getElem?_eq_getElem hd), Bool.and_eq_true] at this
        exact this.2
      | succ d ih =>
        intro hd
        have := hs (i + d + 1 + 1) (by omega)
        rw [stepM_succ (List.getElem?_eq_getElem (by omega)) (List.getElem?_eq_getElem (by omega)), Bool.and_eq_true] at this
        exact befR_trans (ih (by omega)) this.2
    have := key (j - i - 1) (by omega)
    have e : i + (j - i - 1) + 1 = j := by omega
    simp only [e] at this
    exact this
theorem valid_sorted {l : List RouteM} : validRoutesM l = true ↔ SortedM l ∧ l.length ≤ 16 := by
  rw [validRoutesM, Bool.and_eq_true, decide_eq_true_eq]
  exact ⟨fun h => ⟨chain_sorted h.1, h.2⟩, fun h => ⟨sorted_chain h.1, h.2⟩⟩
/-- no route has this prefix -/
def FreshM (a : AddrM) (b : Int) (l : List RouteM) : Prop := ∀ r ∈ l, RouteM.is a b r = false
theorem fresh_find {a : AddrM} {b : Int} {l : List RouteM} (h : FreshM a b l) : findM a b l = none := List.findIdx?_eq_none_iff.2 h
theorem ins_fresh {a : AddrM} {b : Int} {l : List RouteM} (k : List UInt8) (hv : validM a b = true) (h : FreshM a b l) (hl : l.length < 16) : insM l a b k = (l.take (aheadM a b l) ++ ⟨a, b, k⟩ :: l.drop (aheadM a b l), 0) := by
  unfold insM
  rw [if_neg (by rw [hv]; simp), fresh_find h]
  exact if_neg (by omega)
theorem ins_perm {a : AddrM} {b : Int} {l : List RouteM} (k : List UInt8) (hv : validM a b = true) (h : FreshM a b l) (hl : l.length < 16) : List.Perm (insM l a b k).1 (⟨a, b, k⟩ :: l) := by
  rw [ins_fresh k hv h hl]
  have := List.perm_middle (a := (⟨a, b, k⟩ : RouteM)) (l₁ := l.take (aheadM a b l)) (l₂ := l.drop (aheadM a b l))
  rwa [List.take_append_drop] at this
theorem ahead_take {a : AddrM} {b : Int} {l : List RouteM} : ∀ r ∈ l.take (aheadM a b l), befM a b r.a r.bits = false := by
  intro r hr
  obtain ⟨i, hi, rfl⟩ := List.getElem_of_mem hr
  rw [List.length_take] at hi
  rw [List.getElem_take]
  cases hb : befM a b l[i].a l[i].bits with
  | false => rfl
  | true =>
    have := (aheadM_step a b l i (by omega) l[i] (List.getElem?_eq_getElem (by omega))).2 hb
    omega
theorem ahead_drop {a : AddrM} {b : Int} {l : List RouteM} (hs : l.Pairwise befR) : ∀ r ∈ l.drop (aheadM a b l), befM a b r.a r.bits = true := by
  intro r hr
  obtain ⟨i, hi, rfl⟩ := List.getElem_of_mem hr
  rw [List.length_drop] at hi
  rw [List.getElem_drop]
  have h0 : aheadM a b l < l.length := by omega
  have hb : befM a b (l[aheadM a b l]).a (l[aheadM a b l]).bits = true := by
    cases hb : befM a b (l[aheadM a b l]).a (l[aheadM a b l]).bits with
    | true => rfl
    | false =>
      have := (aheadM_step a b l _ (Nat.le_refl _) _ (List.getElem?_eq_getElem h0)).1 hb
      omega
  rcases Nat.eq_zero_or_pos i with h | h
  · subst h
    exact hb
  · exact bef_trans hb (List.pairwise_iff_getElem.1 hs _ _ h0 (by omega) (by omega))
theorem ins_sorted_fresh {a : AddrM} {b : Int} {l : List RouteM} (k : List UInt8) (ha : a.ok) (hok : ∀ r ∈ l, r.ok) (hv : validM a b = true) (h : FreshM a b l) (hl : l.length < 16) (hs : SortedM l) : SortedM (insM l a b k).1 := by
  refine ⟨fun r hr => ?_, ?_⟩
  · rcases List.mem_cons.1 ((ins_perm k hv h hl).subset hr) with rfl | hr
    · exact hv
    · exact hs.1 r hr
  · rw [ins_fresh k hv h hl, List.pairwise_append]
    refine ⟨hs.2.sublist (List.take_sublist _ _), ?_, ?_⟩
    · rw [List.pairwise_cons]
      exact ⟨fun r hr => ahead_drop hs.2 r hr, hs.2.sublist (List.drop_sublist _ _)⟩
    · intro r hr s hsm
      have hrb : befR r ⟨a, b, k⟩ := by
        have h1 := ahead_take r hr
        have h2 := h r (List.mem_of_mem_take hr)
        rw [RouteM.is, decide_eq_false_iff_not] at h2
        rcases bef_total (hok r (List.mem_of_mem_take hr)).1 ha h2 with h3 | h3
        · exact h3
        · rw [h1] at h3; cases h3
      rcases List.mem_cons.1 hsm with rfl | hsm
      · exact hrb
      · exact befR_trans hrb (ahead_drop hs.2 s hsm)
theorem sorted_perm_eq {l m : List RouteM} (hl : l.Pairwise befR) (hm : m.Pairwise befR) (h : List.Perm l m) : l = m :=
  h.eq_of_pairwise (fun _ _ _ _ h1 h2 => (befR_asymm h1 h2).elim) hl hm
theorem contains_self {a : AddrM} {b : Int} (h : validM a b = true) : containsM a b a = true := by
  unfold containsM
  have hs : soundM a = true := by
    unfold validM at h
    simp only [Bool.and_eq_true] at h
    exact h.1
  rw [h, hs]
  simp
end Go.Proofs.Ytnblofbbbkjhpaa
namespace Go.Proofs.Ytnblofbbbkjhpaa
open Go.RowKit

end Go.Proofs.Ytnblofbbbkjhpaa
namespace Go.Proofs.Ytnblofbbbkjhpaa
open Go.RowKit

theorem bit_clear_all : ∀ m : Fin 8, ∀ k : Fin 8, ∀ x : Fin 256, (clearBit (UInt8.ofNat x.val) m.val).toNat / 2 ^ (7 - k.val) % 2 = if k = m then 0 else x.val / 2 ^ (7 - k.val) % 2 := by decide +kernel
theorem bit_clear (x : UInt8) (m k : Nat) (hm : m < 8) (hk : k < 8) : (clearBit x m).toNat / 2 ^ (7 - k) % 2 = if k = m then 0 else x.toNat / 2 ^ (7 - k) % 2 := by
  have h := bit_clear_all ⟨m, hm⟩ ⟨k, hk⟩ ⟨x.toNat, x.toNat_lt⟩
  simp only [UInt8.ofNat_toNat, Fin.mk.injEq] at h
  exact h
theorem clear_zero : ∀ m : Fin 8, clearBit 0 m.val = 0 := by decide
theorem mask_bit (ip : List UInt8) (hl : ip.length = 16) (b i : Nat) (hi : i < 128) : ∀ j, b + j ≤ 128 → bitM (clearS ip b j) i = if b ≤ i ∧ i < b + j then 0 else bitM ip i
  | 0, _ => by rw [if_neg (by omega)]; rfl
  | j + 1, h => by
    have ih := mask_bit ip hl b i hi j (by omega)
    have hml := clearS_length ip b j
    rw [clearS]
    generalize clearS ip b j = y at ih hml ⊢
    by_cases hq : i / 8 = (b + j) / 8
    · rw [bitM, hq, List.getD_eq_getElem?_getD, List.getElem?_set_self (by omega), Option.getD_some, bit_clear _ _ _ (by omega) (by omega)]
      rw [bitM, hq] at ih
      by_cases he : i % 8 = (b + j) % 8
      · rw [if_pos he, if_pos (by omega)]
      · rw [if_neg he, ih]
        by_cases hc : b ≤ i ∧ i < b + j
        · rw [if_pos hc, if_pos (by omega)]
        · rw [if_neg hc, if_neg (by omega)]
    · rw [bitM, List.getD_eq_getElem?_getD, List.getElem?_set_ne (by omega), ← List.getD_eq_getElem?_getD]
      rw [bitM] at ih
      rw [ih]
      by_cases hc : b ≤ i ∧ i < b + j
      · rw [if_pos hc, if_pos (by omega)]
      · rw [if_neg hc, if_neg (by omega)]
theorem mask_bits (a : AddrM) (h : a.ok) (b i : Nat) (hb : b ≤ 128) (hi : i < 128) : bitM (maskM a b).ip i = if b ≤ i then 0 else bitM a.ip i := by
  have := mask_bit a.ip h b i hi (128 - b) (by omega)
  rw [maskM]
  rw [this]
  by_cases hc : b ≤ i
  · rw [if_pos hc, if_pos (by omega)]
  · rw [if_neg hc, if_neg (by omega)]
theorem sound_iff (a : AddrM) : soundM a = true ↔ a.six = true ∨ ∀ q, 4 ≤ q → a.ip.getD q 0 = 0 := by
  rw [soundM, Bool.or_eq_true, List.all_eq_true]
  refine or_congr Iff.rfl ⟨fun h q hq => ?_, fun h x hx => ?_⟩
  · by_cases hl : q < a.ip.length
    · have := h (a.ip[q]) (by
        rw [List.mem_iff_getElem]
        exact ⟨q - 4, by rw [List.length_drop]; omega, by rw [List.getElem_drop]; congr 1; omega⟩)
      rw [List.getD_eq_getElem?_getD, List.getElem?_eq_getElem hl]
      exact beq_iff_eq.1 this
    · rw [List.getD_eq_getElem?_getD, List.getElem?_eq_none (by omega)]; rfl
  · obtain ⟨n, hn, rfl⟩ := List.mem_iff_getElem.1 hx
    rw [List.length_drop] at hn
    have := h (4 + n) (by omega)
    rw [List.getD_eq_getElem?_getD, List.getElem?_eq_getElem (by omega)] at this
    rw [List.getElem_drop]
    exact beq_iff_eq.2 this
theorem clearS_zero (ip : List UInt8) (b q : Nat) (hq : ip.getD q 0 = 0) : ∀ j, (clearS ip b j).getD q 0 = 0
  | 0 => hq
  | j + 1 => by
    have ih := clearS_zero ip b q hq j
    rw [clearS]
    by_cases he : (b + j) / 8 = q
    · rw [he, ih, clear_zero ⟨(b + j) % 8, Nat.mod_lt _ (by omega)⟩, List.getD_eq_getElem?_getD, List.getElem?_set]
      rw [if_pos rfl]
      split <;> rfl
    · rw [List.getD_eq_getElem?_getD, List.getElem?_set_ne he, ← List.getD_eq_getElem?_getD, ih]
theorem mask_sound (a : AddrM) (b : Nat) (hs : soundM a = true) : soundM (maskM a b) = true := by
  rw [sound_iff] at hs ⊢
  rcases hs with h | h
  · exact .inl h
  · exact .inr fun q hq => clearS_zero _ _ _ (h q hq) _
theorem width_le (a : AddrM) : widthM a ≤ 128 := by unfold widthM; split <;> omega
theorem mask_valid (a : AddrM) (h : a.ok) (b : Nat) (hb : b ≤ widthM a) (hs : soundM a = true) : validM (maskM a b) (b : Int) = true := by
  have hw := width_le a
  rw [validM_iff _ _ (mask_sound a b hs) (by omega) (by show (b : Int) ≤ (widthM a : Int); omega)]
  intro i hi hlt
  rw [mask_bits a h b i (by omega) hlt, if_pos (by omega)]
theorem codeA_sound (l : List UInt8) (p : Nat) : soundM (codeA l p) = true := by
  rw [sound_iff]
  by_cases h : sixV l p = true
  · exact .inl h
  · refine .inr fun q hq => ?_
    rw [codeA]
    dsimp only
    rw [if_neg h, fourB]
    generalize UInt8.ofNat (nextV l (nextP l p 3) 4) = u1
    generalize UInt8.ofNat (nextV l (nextP l (nextP l p 3) 4) 4) = u2
    generalize UInt8.ofNat (nextV l (nextP l (nextP l (nextP l p 3) 4) 4) 256) = u3
    obtain ⟨k, rfl⟩ : ∃ k, q = k + 4 := ⟨q - 4, by omega⟩
    show ([10, u1, u2, u3] ++ List.replicate 12 0 : List UInt8).getD (k + 4) 0 = 0
    rw [List.getD_eq_getElem?_getD, List.getElem?_append_right (by simp), show k + 4 - ([10, u1, u2, u3] : List UInt8).length = k from rfl, List.getElem?_replicate]
    split <;> rfl
end Go.Proofs.Ytnblofbbbkjhpaa
namespace Go.Proofs.Ytnblofbbbkjhpaa
open Go.RowKit

theorem codeM_valid (l : List UInt8) (p : Nat) : validM (codeM l p) (codePb l p : Int) = true := by
  refine mask_valid (codeA l p) (codeA_ok l p) (codePb l p) ?_ (codeA_sound l p)
  have h := nextV_lt l (codeAP l p) (codePn l p) (by unfold codePn; split <;> omega)
  have hw : codePn l p = widthM (codeA l p) + 1 := by
    unfold codePn widthM
    cases hs : sixV l p with
    | true => simp [codeA, hs]
    | false => simp [codeA, hs]
  unfold codePb
  omega
def toRt (x : (AddrM × Int) × UInt8) : RouteM := ⟨x.1.1, x.1.2, keyB x.2⟩
def GoodP (p : AddrM × Int) : Prop := p.1.ok ∧ validM p.1 p.2 = true
theorem GoodP.bits {p : AddrM × Int} (h : GoodP p) : 0 ≤ p.2 ∧ p.2 ≤ 128 := by
  have hw := widthM p.1
  have h2 := h.2
  unfold validM widthM at h2
  simp only [Bool.and_eq_true, decide_eq_true_eq] at h2
  have : (if p.1.six = true then 128 else 32 : Nat) ≤ 128 := by split <;> omega
  omega
theorem GoodP.i64 {p : AddrM × Int} (h : GoodP p) : inI64 p.2 := by
  have := h.bits
  unfold inI64
  omega
theorem insAll_spec : ∀ ys : List ((AddrM × Int) × UInt8), (ys.map (·.1)).Nodup → (∀ y ∈ ys, GoodP y.1) → ys.length ≤ 15 → List.Perm (insAll ys) (ys.map toRt) ∧ SortedM (insAll ys) ∧ (∀ r ∈ insAll ys, r.ok) := by
  suffices h : ∀ (q : Nat) (ys : List ((AddrM × Int) × UInt8)), ys.length = q → (ys.map (·.1)).Nodup → (∀ y ∈ ys, GoodP y.1) → ys.length ≤ 15 → List.Perm (insAll ys) (ys.map toRt) ∧ SortedM (insAll ys) ∧ (∀ r ∈ insAll ys, r.ok) from fun ys => h ys.length ys rfl
  intro q
  induction q with
  | zero =>
    intro ys h _ _ _
    obtain rfl := List.eq_nil_of_length_eq_zero h
    exact ⟨by simp [insAll], ⟨by simp [insAll], by simp [insAll]⟩, by simp [insAll]⟩
  | succ q ih0 =>
    intro ys hq hn hg hl
    rcases List.eq_nil_or_concat ys with rfl | ⟨ws, y, rfl⟩
    · simp at hq
    rw [List.concat_eq_append] at *
    have ih := ih0 ws (by simpa using hq)
    rw [List.map_append, List.nodup_append] at hn
    rw [List.length_append, List.length_singleton] at hl
    obtain ⟨h1, h2, h3⟩ := ih hn.1 (fun z hz => hg z (List.mem_append_left _ hz)) (by omega)
    have hy := hg y (List.mem_append_right _ (List.mem_singleton_self _))
    have hlen : (insAll ws).length = ws.length := by rw [h1.length_eq, List.length_map]
    have hf : FreshM y.1.1 y.1.2 (insAll ws) := by
      intro r hr
      obtain ⟨z, hz, rfl⟩ := List.mem_map.1 (h1.subset hr)
      rw [RouteM.is, decide_eq_false_iff_not]
      rintro ⟨e1, e2⟩
      exact hn.2.2 z.1 (List.mem_map_of_mem hz) y.1 (by simp) (Prod.ext e1 e2)
    rw [insAll_snoc]
    have hp := ins_perm (keyB y.2) hy.2 hf (by omega)
    refine ⟨?_, ins_sorted_fresh _ hy.1 h3 hy.2 hf (by omega) h2, ?_⟩
    · rw [List.map_append]
      exact hp.trans (((List.Perm.cons _ h1)).trans (List.perm_append_comm (l₁ := [toRt y]) (l₂ := ws.map toRt)))
    · intro r hr
      rcases List.mem_cons.1 (hp.subset hr) with rfl | hr
      · exact ⟨hy.1, rfl, hy.i64⟩
      · exact h3 r hr
end Go.Proofs.Ytnblofbbbkjhpaa
namespace Go.Proofs.Ytnblofbbbkjhpaa
open Go.RowKit

theorem contains_nonneg {a x : AddrM} {b : Int} (h : containsM a b x = true) : 0 ≤ b := by
  unfold containsM validM at h
  simp only [Bool.and_eq_true, decide_eq_true_eq] at h
  omega
theorem bestTo_some {l : List RouteM} {x : AddrM} : ∀ {j i : Nat}, bestTo l x j = some i → ∃ r, l[i]? = some r ∧ containsM r.a r.bits x = true
  | 0, _, h => by cases h
  | j + 1, i, h => by
    cases hj : l[j]? with
    | none =>
      rw [bestTo, hj] at h
      exact bestTo_some h
    | some r =>
      cases hc : containsM r.a r.bits x with
      | false =>
        rw [bestTo_no hj hc] at h
        exact bestTo_some h
      | true =>
        cases hb : bestTo l x j with
        | none =>
          rw [bestTo_first hj hc hb] at h
          injection h with h
          subst h
          exact ⟨r, hj, hc⟩
        | some k =>
          obtain ⟨q, hq, hqc⟩ := bestTo_some hb
          rw [bestTo_more hj hc hb hq] at h
          split at h
          · injection h with h
            subst h
            exact ⟨r, hj, hc⟩
          · injection h with h
            subst h
            exact ⟨q, hq, hqc⟩
/-- the bits and the peer of the longest prefix so far -/
def longTo (l : List RouteM) (x : AddrM) (j : Nat) : Int × List UInt8 := match bestTo l x j with
  | none => (-1, List.replicate 32 0)
  | some i => match l[i]? with
    | none => (-1, List.replicate 32 0)
    | some r => (r.bits, r.peer)
theorem longTo_none {l : List RouteM} {x : AddrM} {j : Nat} (h : bestTo l x j = none) : longTo l x j = (-1, List.replicate 32 0) := by rw [longTo, h]
theorem longTo_some {l : List RouteM} {x : AddrM} {j i : Nat} {r : RouteM} (h : bestTo l x j = some i) (hr : l[i]? = some r) : longTo l x j = (r.bits, r.peer) := by
  rw [longTo, h]
  show (match l[i]? with | none => _ | some r => (r.bits, r.peer)) = _
  rw [hr]
theorem longTo_step {l : List RouteM} {x : AddrM} {j : Nat} {r : RouteM} (hj : l[j]? = some r) : longTo l x (j + 1) = if containsM r.a r.bits x = true ∧ (longTo l x j).1 < r.bits then (r.bits, r.peer) else longTo l x j := by
  cases hc : containsM r.a r.bits x with
  | false =>
    rw [if_neg (by simp), longTo, bestTo_no hj hc]
    rfl
  | true =>
    have h0 := contains_nonneg hc
    cases hb : bestTo l x j with
    | none =>
      rw [longTo_some (bestTo_first hj hc hb) hj, longTo_none hb, if_pos ⟨rfl, by show (-1 : Int) < _; omega⟩]
    | some k =>
      obtain ⟨q, hq, _⟩ := bestTo_some hb
      have hm := bestTo_more hj hc hb hq
      rw [longTo_some hb hq]
      by_cases h : q.bits < r.bits
      · rw [if_pos h] at hm
        rw [longTo_some hm hj, if_pos ⟨rfl, h⟩]
      · rw [if_neg h] at hm
        rw [longTo_some hm hq, if_neg (fun e => h e.2)]
theorem longTo_end (l : List RouteM) (x : AddrM) : lookM l x = ((longTo l x l.length).2, decide (0 ≤ (longTo l x l.length).1)) := by
  cases hb : bestTo l x l.length with
  | none => rw [longTo_none hb, lookM, hb]; rfl
  | some k =>
    obtain ⟨q, hq, hc⟩ := bestTo_some hb
    have h0 := contains_nonneg hc
    rw [longTo_some hb hq, lookM, hb]
    show (match l[k]? with | none => _ | some r => (r.peer, true)) = _
    rw [hq]
    simp [h0]
end Go.Proofs.Ytnblofbbbkjhpaa
namespace Go.Proofs.Ytnblofbbbkjhpaa
open Go.RowKit

/-- prefixes, each with the byte of its bits -/
def xsOf (ps : List (AddrM × Int)) : List ((AddrM × Int) × UInt8) := ps.map fun p => (p, UInt8.ofNat p.2.toNat)
theorem xsOf_fst (ps : List (AddrM × Int)) : (xsOf ps).map (·.1) = ps := by
  rw [xsOf, List.map_map]
  exact List.map_id ps
theorem xsOf_len (ps : List (AddrM × Int)) : (xsOf ps).length = ps.length := by rw [xsOf, List.length_map]
theorem xsOf_snoc {ps : List (AddrM × Int)} {j : Nat} {p : AddrM × Int} (h : ps[j]? = some p) : xsOf (ps.take (j + 1)) = xsOf (ps.take j) ++ [(p, UInt8.ofNat p.2.toNat)] := by
  rw [take_snoc h, xsOf, List.map_append]
  rfl
/-- the list turned by t places -/
def rotP (ps : List (AddrM × Int)) (t : Nat) : List (AddrM × Int) := ps.drop (t % ps.length) ++ ps.take (t % ps.length)
theorem rotP_perm (ps : List (AddrM × Int)) (t : Nat) : List.Perm (rotP ps t) ps := by
  have h := List.perm_append_comm (l₁ := ps.drop (t % ps.length)) (l₂ := ps.take (t % ps.length))
  rwa [List.take_append_drop] at h
theorem rotL_at (ps : List (AddrM × Int)) (k i : Nat) (hi : i < ps.length) (hk : k < ps.length) : (ps.drop k ++ ps.take k)[i]? = ps[(i + k) % ps.length]? := by
  by_cases h : i + k < ps.length
  · rw [Nat.mod_eq_of_lt h, List.getElem?_append_left (by rw [List.length_drop]; omega), List.getElem?_drop, Nat.add_comm]
  · rw [List.getElem?_append_right (by rw [List.length_drop]; omega), List.length_drop, List.getElem?_take, if_pos (by omega), Nat.mod_eq_sub_mod (by omega), Nat.mod_eq_of_lt (by omega)]
    congr 1
    omega
theorem rotP_at (ps : List (AddrM × Int)) (t i : Nat) (hi : i < ps.length) : (rotP ps t)[i]? = ps[(i + t) % ps.length]? := by
  rw [rotP, rotL_at ps _ i hi (Nat.mod_lt _ (by omega)), Nat.add_mod_mod]
def AllGood (ps : List (AddrM × Int)) : Prop := ps.Nodup ∧ (∀ p ∈ ps, GoodP p) ∧ ps.length ≤ 15
theorem AllGood.rot {ps : List (AddrM × Int)} (h : AllGood ps) (t : Nat) : AllGood (rotP ps t) :=
  ⟨(rotP_perm ps t).nodup_iff.2 h.1, fun p hp => h.2.1 p ((rotP_perm ps t).subset hp), by rw [(rotP_perm ps t).length_eq]; exact h.2.2⟩
theorem AllGood.take {ps : List (AddrM × Int)} (h : AllGood ps) (j : Nat) : AllGood (ps.take j) :=
  ⟨h.1.sublist (List.take_sublist _ _), fun p hp => h.2.1 p (List.mem_of_mem_take hp), by rw [List.length_take]; have := h.2.2; omega⟩
theorem AllGood.spec {ps : List (AddrM × Int)} (h : AllGood ps) : List.Perm (insAll (xsOf ps)) ((xsOf ps).map toRt) ∧ SortedM (insAll (xsOf ps)) ∧ (∀ r ∈ insAll (xsOf ps), r.ok) :=
  insAll_spec (xsOf ps) (by rw [xsOf_fst]; exact h.1) (fun y hy => by
    obtain ⟨p, hp, rfl⟩ := List.mem_map.1 hy
    exact h.2.1 p hp) (by rw [xsOf_len]; exact h.2.2)
theorem AllGood.len {ps : List (AddrM × Int)} (h : AllGood ps) : (insAll (xsOf ps)).length = ps.length := by rw [h.spec.1.length_eq, List.length_map, xsOf_len]
/-- the next prefix is inserted -/
theorem AllGood.next {ps : List (AddrM × Int)} (h : AllGood ps) {j : Nat} {p : AddrM × Int} (hp : ps[j]? = some p) : insM (insAll (xsOf (ps.take j))) p.1 p.2 (keyB (UInt8.ofNat p.2.toNat)) = (insAll (xsOf (ps.take (j + 1))), 0) := by
  have hj : j < ps.length := (List.getElem?_eq_some_iff.1 hp).1
  have h1 := (h.take j).spec
  have hf : FreshM p.1 p.2 (insAll (xsOf (ps.take j))) := by
    intro r hr
    obtain ⟨z, hz, rfl⟩ := List.mem_map.1 (h1.1.subset hr)
    obtain ⟨q, hq, rfl⟩ := List.mem_map.1 hz
    rw [RouteM.is, decide_eq_false_iff_not]
    rintro ⟨e1, e2⟩
    have hn := (h.take (j + 1)).1
    rw [take_snoc hp, List.nodup_append] at hn
    exact hn.2.2 q hq p (by simp) (Prod.ext e1 e2)
  have hg := h.2.1 p (List.mem_of_getElem? hp)
  refine Prod.ext ?_ (by rw [ins_fresh _ hg.2 hf (by rw [(h.take j).len, List.length_take]; have := h.2.2; omega)])
  rw [xsOf_snoc hp, insAll_snoc]
theorem AllGood.same {ps : List (AddrM × Int)} (h : AllGood ps) (t : Nat) : insAll (xsOf (rotP ps t)) = insAll (xsOf ps) := by
  have h1 := h.spec
  have h2 := (h.rot t).spec
  refine sorted_perm_eq h2.2.1.2 h1.2.1.2 (h2.1.trans (List.Perm.trans ?_ h1.1.symm))
  exact ((rotP_perm ps t).map _).map _
theorem longTo_ge {l : List RouteM} {x : AddrM} {r : RouteM} (hr : r ∈ l) (hc : containsM r.a r.bits x = true) : r.bits ≤ (longTo l x l.length).1 := by
  obtain ⟨i, hi, rfl⟩ := List.getElem_of_mem hr
  have key : ∀ d, i + 1 + d ≤ l.length → l[i].bits ≤ (longTo l x (i + 1 + d)).1 := by
    intro d
    induction d with
    | zero =>
      intro _
      rw [Nat.add_zero, longTo_step (List.getElem?_eq_getElem hi)]
      split
      · exact Int.le_refl _
      · rename_i h
        rw [hc] at h
        simp only [true_and, Int.not_lt] at h
        exact h
    | succ d ih =>
      intro hd
      have := ih (by omega)
      rw [← Nat.add_assoc, longTo_step (List.getElem?_eq_getElem (by omega))]
      split
      · rename_i h
        show _ ≤ (l[i + 1 + d]).bits
        omega
      · exact this
  have := key (l.length - (i + 1)) (by omega)
  rwa [show i + 1 + (l.length - (i + 1)) = l.length by omega] at this
theorem look_found {l : List RouteM} {x : AddrM} {r : RouteM} (hr : r ∈ l) (hc : containsM r.a r.bits x = true) : ∃ q ∈ l, lookM l x = (q.peer, true) ∧ r.bits ≤ q.bits := by
  have h1 := longTo_ge hr hc
  have h0 := contains_nonneg hc
  rw [longTo_end]
  cases hb : bestTo l x l.length with
  | none => rw [longTo_none hb] at h1; simp only at h1; omega
  | some k =>
    obtain ⟨q, hq, _⟩ := bestTo_some hb
    rw [longTo_some hb hq] at h1 ⊢
    exact ⟨q, List.mem_of_getElem? hq, by simp only [Prod.mk.injEq, true_and, decide_eq_true_eq]; simp only at h1; omega, h1⟩
theorem AllGood.look {ps : List (AddrM × Int)} (h : AllGood ps) {p : AddrM × Int} (hp : p ∈ ps) : ∃ y : UInt8, lookM (insAll (xsOf ps)) p.1 = (keyB y, true) ∧ p.2 ≤ (y.toNat : Int) := by
  have hs := h.spec
  have hm : toRt (p, UInt8.ofNat p.2.toNat) ∈ insAll (xsOf ps) := hs.1.symm.subset (List.mem_map_of_mem (List.mem_map_of_mem hp))
  obtain ⟨q, hq, hl, hb⟩ := look_found (x := p.1) hm (contains_self (h.2.1 p hp).2)
  obtain ⟨z, hz, rfl⟩ := List.mem_map.1 (hs.1.subset hq)
  obtain ⟨p', hp', rfl⟩ := List.mem_map.1 hz
  refine ⟨UInt8.ofNat p'.2.toNat, hl, ?_⟩
  have hbb := (h.2.1 p' hp').bits
  rw [UInt8.toNat_ofNat', Nat.mod_eq_of_lt (by omega)]
  have hb2 : p.2 ≤ p'.2 := hb
  omega
end Go.Proofs.Ytnblofbbbkjhpaa
namespace Go.Proofs.Ytnblofbbbkjhpaa
open Go.RowKit

section
variable {F n m : Nat} {l l' : List RouteM}
def CapOk (m c : Nat) : Prop := m ≤ c ∧ c ≤ maxLen
theorem valid_use (H : RtValidC F) {y : Bool} (h : validRoutesM l = y) (hn : n ≤ 100) (A : Option Addr) (c : Nat) (W : World) (hc : CapOk n c) (hr : RtRd W W.heap.size A n l) :
    Calls Try.prog F #[.slice A n c] W fun e w' => e = .returned (.bool y) ∧ Below W.heap.size W w' := by
  have h2 := H A n c l W ⟨hn, hc.1, hc.2, hr⟩
  rw [h] at h2
  exact h2
theorem look_use (H : RtLookC F) {x : AddrM} {k : List UInt8} {y : Bool} (h : lookM l x = (k, y)) (hx : x.ok) (hn : n ≤ 100) (A : Option Addr) (c : Nat) (W : World) (hc : CapOk n c) (hr : RtRd W W.heap.size A n l) :
    Calls Try.prog F #[.slice A n c, .agg x.cells.toArray] W fun e w' => e = .returned (.tuple #[.agg (k.map u8v).toArray, .bool y]) ∧ Below W.heap.size W w' := by
  have h2 := H A n c l x W hx ⟨hn, hc.1, hc.2, hr⟩
  rw [h] at h2
  exact h2
theorem insU (H : RtInsC F) {a : AddrM} {b : Int} {k : List UInt8} {er : Nat} (h : insM l a b k = (l', er)) (hm : l'.length = m) (hn : n ≤ 100) (ha : a.ok) (hb : inI64 b) (hk : k.length = 32) (A : Option Addr) (c : Nat) (W : World) (hc : CapOk n c) (hr : RtRd W W.heap.size A n l) :
    Calls Try.prog F #[.slice A n c, .agg (prefC a b).toArray, .agg (k.map u8v).toArray] W fun e w' => ∃ A c, e = .returned (.tuple #[.slice A m c, .int .i64 (er : Int)]) ∧ CapOk m c ∧ RtRd w' w'.heap.size A m l' ∧ Below W.heap.size W w' := by
  have h2 := H A n c l a b k W ha hb hk ⟨hn, hc.1, hc.2, hr⟩
  rw [h] at h2
  refine h2.mono ?_
  rintro e w' ⟨v, he, A, c, hv, h1, h2, hr, hb⟩
  subst hv hm
  exact ⟨A, c, he, ⟨h1, h2⟩, hr, hb⟩
end
end Go.Proofs.Ytnblofbbbkjhpaa
namespace Go.Proofs.Ytnblofbbbkjhpaa
open Go.RowKit

def pfL (A : Option Addr) (n : Nat) (l : List (AddrM × Int)) : Low := ⟨fun W => PfRd W W.heap.size A n l, fun _ _ hb h => (h.below hb).mono hb.size⟩
end Go.Proofs.Ytnblofbbbkjhpaa
namespace Go.Proofs.Ytnblofbbbkjhpaa
open Go.RowKit

set_option maxRecDepth 100000 in
set_option maxHeartbeats 8000000 in
theorem same_any (A A' : Option Addr) (n c c' : Nat) (l : List RouteM) (hn : n ≤ 1000) (w : World) (ha : RtRd w w.heap.size A n l) (hb : RtRd w w.heap.size A' n l) :
    Calls Try.prog 14 #[.slice A n c, .slice A' n c'] w fun e w' => e = .returned (.bool true) ∧ Below w.heap.size w w' := by
  have HA := Lib.hid ha
  have HB := Lib.hid hb
  clear ha hb
  have sn : ((n : Int) != (n : Int)) = false := by simp
  go_enter Try.func14, Try.ntmps14
  go_wp2_with fail
  clear sn
  go_loopw [13] (fun i wr => ∃ j : Nat, j ≤ n ∧ i = .int .i64 (j : Int) ∧ Below w.heap.size w wr) (fun i _ => n - (intOf i).toNat)
  case atStart => exact ⟨0, Nat.zero_le _, rfl, Below.refl _ _⟩
  case round =>
    obtain ⟨j, hj, rfl, hW⟩ := hrel
    have HW := Lib.hid hW
    clear hW
    by_cases hjn : j < n
    · have d1 : decide ((j : Int) < (n : Int)) = true := by simp; omega
      obtain ⟨b, off, rfl⟩ := HA.out.1.addr (by omega)
      obtain ⟨b', off', rfl⟩ := HB.out.1.addr (by omega)
      obtain ⟨r, hr⟩ : ∃ r, l[j]? = some r := ⟨l[j]'(by rw [HA.out.len]; exact hjn), List.getElem?_eq_getElem _⟩
      have HOK := Lib.hid (HA.out.ok hr)
      have HLA := Lib.hid (show ∀ W, Below w.heap.size w W → At W b (off + j * 50) r.cells from fun W hW => (HA.out.at j r hr).2.mono hW (HA.out.at j r hr).1)
      have HLB := Lib.hid (show ∀ W, Below w.heap.size w W → At W b' (off' + j * 50) r.cells from fun W hW => (HB.out.at j r hr).2.mono hW (HB.out.at j r hr).1)
      have heq := fun w' : World => (route_eqd r r HOK.out HOK.out w' true (by simp))
      obtain ⟨ck, hck⟩ : ∃ c, (r.cells).toArray = c := ⟨_, rfl⟩
      rw [hck] at heq
      have HEQ := Lib.hid heq
      have HCK := Lib.hid hck
      clear hck hr heq
      go_upto_region 6 with fail
      clear d1
      refine wp_region_held_drew (S := fun W' => Below w.heap.size w W') (by kernel_rfl) (HW.out.drew) (fun hHeld => ?_)
      refine take_first (v := ?_) 0 rfl (by kernel_rfl) (by kernel_rfl) (by kernel_rfl) (fun _ _ _ h => h) (Or.inl ⟨by rfl, ?_⟩) (by assumption) ?_
      rotate_left
      · (intro w hSw; (try dsimp only at hSw); go_simp; try with_reducible rfl)
      (try simp only [Act.put, List.setIfInBounds_toArray, List.set_cons_zero, List.set_cons_succ])
      refine take_first (v := ?_) 1 rfl (by kernel_rfl) (by kernel_rfl) (by kernel_rfl) (fun _ _ _ h => h) (Or.inl ⟨by rfl, ?_⟩) (by assumption) ?_
      rotate_left
      · (intro w hSw; (try dsimp only at hSw); go_simp; try with_reducible rfl)
      (try simp only [Act.put, List.setIfInBounds_toArray, List.set_cons_zero, List.set_cons_succ])
      refine take_first (v := ?_) 2 rfl (by kernel_rfl) (by kernel_rfl) (by kernel_rfl) (fun _ _ _ h => h) (Or.inl ⟨by rfl, ?_⟩) (by assumption) ?_
      rotate_left
      · (intro w hSw; (try dsimp only at hSw); go_simp; try with_reducible rfl)
      (try simp only [Act.put, List.setIfInBounds_toArray, List.set_cons_zero, List.set_cons_succ])
      refine take_first (v := .agg ck) 3 rfl (by kernel_rfl) (by kernel_rfl) (by kernel_rfl) (fun _ _ _ h => h) (by rw [← HCK.out]; exact yields_load_obj (by rfl) 37 (.tmp 18) rfl b _ rfl _ (fun W hW => HLA.out W hW) _ Try.underlying37 rfl (route_cellsOf r HOK.out)) (by assumption) ?_
      (try simp only [Act.put, List.setIfInBounds_toArray, List.set_cons_zero, List.set_cons_succ])
      refine take_first (v := ?_) 4 rfl (by kernel_rfl) (by kernel_rfl) (by kernel_rfl) (fun _ _ _ h => h) (Or.inl ⟨by rfl, ?_⟩) (by assumption) ?_
      rotate_left
      · (intro w hSw; (try dsimp only at hSw); go_simp; try with_reducible rfl)
      (try simp only [Act.put, List.setIfInBounds_toArray, List.set_cons_zero, List.set_cons_succ])
      refine take_first (v := ?_) 5 rfl (by kernel_rfl) (by kernel_rfl) (by kernel_rfl) (fun _ _ _ h => h) (Or.inl ⟨by rfl, ?_⟩) (by assumption) ?_
      rotate_left
      · (intro w hSw; (try dsimp only at hSw); go_simp; try with_reducible rfl)
      (try simp only [Act.put, List.setIfInBounds_toArray, List.set_cons_zero, List.set_cons_succ])
      refine take_first (v := ?_) 6 rfl (by kernel_rfl) (by kernel_rfl) (by kernel_rfl) (fun _ _ _ h => h) (Or.inl ⟨by rfl, ?_⟩) (by assumption) ?_
      rotate_left
      · (intro w hSw; (try dsimp only at hSw); go_simp; try with_reducible rfl)
      (try simp only [Act.put, List.setIfInBounds_toArray, List.set_cons_zero, List.set_cons_succ])
      refine take_first (v := .agg ck) 7 rfl (by kernel_rfl) (by kernel_rfl) (by kernel_rfl) (fun _ _ _ h => h) (by rw [← HCK.out]; exact yields_load_obj (by rfl) 37 (.tmp 22) rfl b' _ rfl _ (fun W hW => HLB.out W hW) _ Try.underlying37 rfl (route_cellsOf r HOK.out)) (by assumption) ?_
      (try simp only [Act.put, List.setIfInBounds_toArray, List.set_cons_zero, List.set_cons_succ])
      refine take_first (v := .bool false) 8 rfl (by kernel_rfl) (by kernel_rfl) (by kernel_rfl) (fun _ _ _ h => h) (yields_cmp_agg true (by rfl) 37 37 19 23 rfl ck ck true rfl rfl route_noguard (fun w' => HEQ.out w')) (by assumption) ?_
      (try simp only [Act.put, List.setIfInBounds_toArray, List.set_cons_zero, List.set_cons_succ])
      refine wpAnyH_done (by kernel_rfl) ?_ _
      go_wp2
      go_roundw
      case rel => exact ⟨j + 1, by omega, by go_num, by assumption⟩
      case measure => simp [intOf]; omega
    · obtain rfl : j = n := by omega
      have d1 : decide ((j : Int) < (j : Int)) = false := by simp
      have HF := Lib.hid HW.out
      go_wp2
      go_ret
      exact ⟨rfl, HF.out⟩

end Go.Proofs.Ytnblofbbbkjhpaa
namespace Go.Proofs.Ytnblofbbbkjhpaa
open Go.RowKit

theorem route_bits (r : RouteM) (h : r.ok) : r.cells[17]? = some (.int .i64 r.bits) := by
  rw [RouteM.cells, List.getElem?_append_left (by rw [prefC_length r.a h.1]; omega)]
  exact prefC_bits r.a h.1 r.bits
end Go.Proofs.Ytnblofbbbkjhpaa
namespace Go.Proofs.Ytnblofbbbkjhpaa
open Go.RowKit

end Go.Proofs.Ytnblofbbbkjhpaa
namespace Go.Proofs.Ytnblofbbbkjhpaa
open Go.RowKit

set_option maxRecDepth 100000 in
set_option maxHeartbeats 8000000 in
theorem rt_orders_walk (HINS : RtInsC 12) (HVLC : RtValidC 22) (HLK : RtLookC 26) (w : World) (A : Option Addr) (n c : Nat) (l : List UInt8) (t : Nat) (hnc : n ≤ c) (hcm : c ≤ maxLen) (hr : Rd w w.heap.size A n l) (ht : t ≤ 255) :
    Calls Try.prog 6 #[.slice A n c, .int .u8 (t : Int)] w fun e w' => e = .returned (.bool true) ∧ Below w.heap.size w w' := by
  have HBG := Lib.hid (fun W : World => rt_begun_any HINS HLK W)
  have HINH := Lib.hid HINS
  have HVLH := Lib.hid HVLC
  have HLKH := Lib.hid HLK
  obtain ⟨k0, hk⟩ : ∃ k, min n 160 = k := ⟨_, rfl⟩
  have HR := Lib.hid (hr.take (show k0 ≤ n by omega))
  have HW1 := Lib.hid (caseNew_any A n c 160 k0 (by omega) hnc hcm hk w)
  have hk160 : k0 ≤ 160 := by omega
  generalize l.take k0 = lk at HR
  clear hr hk hnc hcm HINS HVLC HLK
  go_enter Try.func6, Try.ntmps6
  go_wp2_with fail
  refine HW1.out.mono ?_
  rintro e w1 ⟨rfl, hm⟩
  have hc : CodesAt w1 w.heap.size A k0 c lk w.heap.size 0 := ⟨hm.blk 0 rfl, HR.out.below hm.bel, Nat.le_refl _, (hm.blk 0 rfl).lt, by omega, Nat.zero_le _⟩
  have hps := casePrefixes_any w.heap.size A k0 c lk w.heap.size 0 10 (by omega) w1 hc
  rw [show ((10 : Nat) : Int) = 10 from rfl] at hps
  have HPS := Lib.hid hps
  have HB1 := Lib.hid hm.bel
  clear hc hm HW1 hps
  go_wp2_with fail
  refine HPS.out.mono ?_
  rintro e w2 ⟨ps, Ap, cp, q0, rfl, hps, _, _, hg, hle, hnd, hall⟩
  have hb2 : Below w.heap.size w w2 := HB1.out.grown hg HB1.out.size (fun b hb => by injection hb with hb; omega)
  have HAG := Lib.hid (show AllGood ps from ⟨hnd, fun p hp => by
    obtain ⟨i, rfl⟩ := hall p hp
    exact ⟨codeM_ok lk i, codeM_valid lk i⟩, by omega⟩)
  obtain ⟨np, hnp⟩ : ∃ z, ps.length = z := ⟨_, rfl⟩
  rw [hnp] at hps hle ⊢
  have HNP := Lib.hid hnp
  have HM := Lib.hid (show Lows w [pfL Ap np ps] w2 from Lows.cons (E := []) ⟨by simp, hb2⟩ (pfL Ap np ps) hps)
  have HROT := Lib.hid (HAG.out.rot t)
  obtain ⟨qs, hqs⟩ : ∃ z, rotP ps t = z := ⟨_, rfl⟩
  rw [hqs] at HROT
  have HQS := Lib.hid hqs
  clear hps hg hnd hall hnp hb2 HPS HB1 HR hk160 hqs
  go_wp2_with fail
  go_loopw [24, 7, 8] (fun i va vb wr => ∃ (j : Nat) (Aa Ab : Option Addr) (ca cb : Nat), j ≤ np ∧ i = .int .i64 (j : Int) ∧ va = .slice Aa j ca ∧ vb = .slice Ab j cb ∧ CapOk j ca ∧ CapOk j cb ∧ Lows w [rtL Ab j (insAll (xsOf (qs.take j))), rtL Aa j (insAll (xsOf (ps.take j))), pfL Ap np ps] wr) (fun i _ _ _ => np - (intOf i).toNat)
  case atStart => exact ⟨0, none, none, 0, 0, Nat.zero_le _, rfl, rfl, rfl, ⟨Nat.le_refl _, by unfold maxLen; omega⟩, ⟨Nat.le_refl _, by unfold maxLen; omega⟩, (HM.out.cons (rtL none 0 []) RtRd.nil).cons (rtL none 0 []) RtRd.nil⟩
  case round =>
    clear HM
    obtain ⟨j, Aa, Ab, ca, cb, hj, rfl, rfl, rfl, hca, hcb, hM⟩ := hrel
    have HCA := Lib.hid hca
    have HCB := Lib.hid hcb
    by_cases hjn : j < np
    · have d1 : decide ((j : Int) < (np : Int)) = true := by simp; omega
      obtain ⟨q, hq⟩ : ∃ z, (j + t) % np = z := ⟨_, rfl⟩
      have hqn : q < np := by rw [← hq]; exact Nat.mod_lt _ (by omega)
      obtain ⟨x, hx⟩ : ∃ x, ps[j]? = some x := ⟨ps[j]'(by rw [HNP.out]; exact hjn), List.getElem?_eq_getElem _⟩
      obtain ⟨y, hy⟩ : ∃ y, ps[q]? = some y := ⟨ps[q]'(by rw [HNP.out]; exact hqn), List.getElem?_eq_getElem _⟩
      have hyq : qs[j]? = some y := by rw [← HQS.out, rotP_at ps t j (by rw [HNP.out]; exact hjn), HNP.out, hq]; exact hy
      obtain ⟨b, off, rfl⟩ := (hM.get (f := pfL Ap np ps) 2 rfl).1.addr (by omega)
      have hpf : PfRd wr wr.heap.size (some ⟨b, off, none⟩) np ps := hM.get (f := pfL (some ⟨b, off, none⟩) np ps) 2 rfl
      have HXO := Lib.hid (show x.1.ok ∧ inI64 x.2 from hpf.ok hx)
      have HYPO := Lib.hid (show y.1.ok ∧ inI64 y.2 from hpf.ok hy)
      have HXA0 := Lib.hid (hpf.at j x hx)
      have HYA0 := Lib.hid (hpf.at q y hy)
      have hgx := (HAG.out.2.1 x (List.mem_of_getElem? hx)).bits
      have hgy := (HAG.out.2.1 y (List.mem_of_getElem? hy)).bits
      have ha := HAG.out.next hx
      have hb := HROT.out.next hyq
      have hla : (insAll (xsOf (ps.take j))).length = j := by rw [(HAG.out.take j).len, List.length_take, HNP.out]; omega
      have hla2 : (insAll (xsOf (ps.take (j + 1)))).length = j + 1 := by rw [(HAG.out.take (j + 1)).len, List.length_take, HNP.out]; omega
      have hlq : qs.length = np := by rw [← HQS.out, (rotP_perm ps t).length_eq, HNP.out]
      have hlb2 : (insAll (xsOf (qs.take (j + 1)))).length = j + 1 := by rw [(HROT.out.take (j + 1)).len, List.length_take, hlq]; omega
      have hvs : validRoutesM (insAll (xsOf (ps.take (j + 1)))) = true := valid_sorted.2 ⟨(HAG.out.take (j + 1)).spec.2.1, by rw [hla2]; omega⟩
      obtain ⟨ux, hux⟩ : ∃ u : UInt8, UInt8.ofNat x.2.toNat = u := ⟨_, rfl⟩
      obtain ⟨uy, huy⟩ : ∃ u : UInt8, UInt8.ofNat y.2.toNat = u := ⟨_, rfl⟩
      have hcx : (ux.toNat : Int) = x.2 := by rw [← hux, UInt8.toNat_ofNat', Nat.mod_eq_of_lt (by omega)]; omega
      have hcy : (uy.toNat : Int) = y.2 := by rw [← huy, UInt8.toNat_ofNat', Nat.mod_eq_of_lt (by omega)]; omega
      rw [hux] at ha
      rw [huy] at hb
      have hM0 := hM
      generalize insAll (xsOf (ps.take j)) = la at ha hM0 hla
      generalize insAll (xsOf (qs.take j)) = lb at hb hM0
      obtain ⟨la2, hla2e⟩ : ∃ z, insAll (xsOf (ps.take (j + 1))) = z := ⟨_, rfl⟩
      obtain ⟨lb2, hlb2e⟩ : ∃ z, insAll (xsOf (qs.take (j + 1))) = z := ⟨_, rfl⟩
      rw [hla2e] at ha hla2 hvs
      rw [hlb2e] at hb hlb2
      have HM := Lib.hid (show Lows w [rtL Ab (j) lb, rtL Aa (j) la, pfL (some ⟨b, off, none⟩) np ps] wr from hM0)
      have hi1 := insU HINH.out (n := j) ha hla2 (by omega) HXO.out.1 HXO.out.2 rfl
      have hi2 := insU HINH.out (n := j) hb hlb2 (by omega) HYPO.out.1 HYPO.out.2 rfl
      have hv1 := valid_use HVLH.out (n := j + 1) hvs (by omega)
      obtain ⟨xc, hxc⟩ : ∃ z, (prefC x.1 x.2).toArray = z := ⟨_, rfl⟩
      obtain ⟨yc, hyc⟩ : ∃ z, (prefC y.1 y.2).toArray = z := ⟨_, rfl⟩
      obtain ⟨kx, hkx⟩ : ∃ z, ((keyB ux).map u8v).toArray = z := ⟨_, rfl⟩
      obtain ⟨ky, hky⟩ : ∃ z, ((keyB uy).map u8v).toArray = z := ⟨_, rfl⟩
      have hbx := key_byte ux
      have hby := key_byte uy
      rw [hxc, hkx, show ((0 : Nat) : Int) = 0 from rfl] at hi1
      rw [hyc, hky, show ((0 : Nat) : Int) = 0 from rfl] at hi2
      rw [hkx] at hbx
      rw [hky] at hby
      have HX := Lib.hid hxc
      have HYP := Lib.hid hyc
      have HI1 := Lib.hid hi1
      have HI2 := Lib.hid hi2
      have HV1 := Lib.hid hv1
      have HBX := Lib.hid hbx
      have HBY := Lib.hid hby
      have HLE := Lib.hid (And.intro hla2e hlb2e)
      have HCX := Lib.hid hcx
      have HCY := Lib.hid hcy
      obtain ⟨jt, hjt⟩ : ∃ z, j + t = z := ⟨_, rfl⟩
      have hadd : (j : Int) + (t : Int) = (jt : Int) := by omega
      have haddw : IntKind.i64.wrap (jt : Int) = (jt : Int) := IntWalk.i64_in _ (by omega)
      have htw : IntKind.i64.wrap (t : Int) = (t : Int) := IntWalk.i64_in _ (by omega)
      have hrem : Int.tmod (jt : Int) (np : Int) = (q : Int) := by rw [← hq, ← hjt]; rfl
      have hnz : ¬ np = 0 := by omega
      have hqi : (q : Int) < (np : Int) := by omega
      clear hM hM0 hpf hx hy hyq hgx hgy ha hb hla hla2 hlq hlb2 hvs hux huy hcx hcy hla2e hlb2e hi1 hi2 hv1 hxc hyc hkx hky hbx hby hq hqn hjt
      go_upto_region 7 with fail
      generalize hwq : wr = wq at HM HXA0 HYA0 ⊢
      have HXA := Lib.hid (show ∀ W, Below wq.heap.size wq W → At W b (off + j * 18) (prefC x.1 x.2) from fun W hW => HXA0.out.2.mono hW HXA0.out.1)
      have HYPA := Lib.hid (show ∀ W, Below wq.heap.size wq W → At W b (off + q * 18) (prefC y.1 y.2) from fun W hW => HYA0.out.2.mono hW HYA0.out.1)
      clear HXA0 HYA0 hwq d1
      go_cut [10, 11] (fun v10 v11 wx => ∃ g10 g11, v10 = .pointer (some ⟨g10, 0, none⟩) ∧ v11 = .pointer (some ⟨g11, 0, none⟩) ∧ Blk wx g10 28 (prefC x.1 x.2) ∧ Blk wx g11 28 (prefC y.1 y.2) ∧ Below wq.heap.size wq wx)
      case first =>
        have HMQ := HM
        clear HM
        have HM := Lib.hid (Mem.nil wq)
        refine wp_region_held_drew (S := fun W' => Mem wq [] W') (by kernel_rfl) ((HM.out).drew) (fun hHeld => ?_)
        replace HM := Lib.hid HM.out.drew
        generalize wq.drew = wd1 at HM hHeld ⊢
        refine take_first (v := ?_) 0 rfl (by kernel_rfl) (by kernel_rfl) (by kernel_rfl) (fun _ _ _ h => h) (Or.inl ⟨by rfl, ?_⟩) (by assumption) ?_
        rotate_left
        · (intro w hSw; (try dsimp only at hSw); go_simp; try with_reducible rfl)
        (try simp only [Act.put, List.setIfInBounds_toArray, List.set_cons_zero, List.set_cons_succ])
        refine take_first (v := ?_) 1 rfl (by kernel_rfl) (by kernel_rfl) (by kernel_rfl) (fun _ _ _ h => h) (Or.inl ⟨by rfl, ?_⟩) (by assumption) ?_
        rotate_left
        · (intro w hSw; (try dsimp only at hSw); go_simp; try with_reducible rfl)
        (try simp only [Act.put, List.setIfInBounds_toArray, List.set_cons_zero, List.set_cons_succ])
        refine take_first (v := ?_) 2 rfl (by kernel_rfl) (by kernel_rfl) (by kernel_rfl) (fun _ _ _ h => h) (Or.inl ⟨by rfl, ?_⟩) (by assumption) ?_
        rotate_left
        · (intro w hSw; (try dsimp only at hSw); go_simp; try with_reducible rfl)
        (try simp only [Act.put, List.setIfInBounds_toArray, List.set_cons_zero, List.set_cons_succ])
        refine take_first (v := .agg xc) 3 rfl (by kernel_rfl) (by kernel_rfl) (by kernel_rfl) (fun _ _ _ h => h) (by rw [← HX.out]; exact yields_load_obj (by rfl) 28 (.tmp 29) rfl b _ rfl (prefC x.1 x.2) (fun W hW => HXA.out W hW.bel) _ Try.underlying28 rfl (pref_cellsOf' x.1 HXO.out.1 x.2)) (by assumption) ?_
        (try simp only [Act.put, List.setIfInBounds_toArray, List.set_cons_zero, List.set_cons_succ])
        refine take_first (v := ?_) 4 rfl (by kernel_rfl) (by kernel_rfl) (by kernel_rfl) (fun _ _ _ h => h) (Or.inl ⟨by rfl, ?_⟩) (by assumption) ?_
        rotate_left
        · (intro w hSw; (try dsimp only at hSw); go_simp; try with_reducible rfl)
        (try simp only [Act.put, List.setIfInBounds_toArray, List.set_cons_zero, List.set_cons_succ])
        refine take_first (v := ?_) 5 rfl (by kernel_rfl) (by kernel_rfl) (by kernel_rfl) (fun _ _ _ h => h) (Or.inl ⟨by rfl, ?_⟩) (by assumption) ?_
        rotate_left
        · (intro w hSw; (try dsimp only at hSw); go_simp; try with_reducible rfl)
        (try simp only [Act.put, List.setIfInBounds_toArray, List.set_cons_zero, List.set_cons_succ])
        refine take_first (v := ?_) 6 rfl (by kernel_rfl) (by kernel_rfl) (by kernel_rfl) (fun _ _ _ h => h) (Or.inl ⟨by rfl, ?_⟩) (by assumption) ?_
        rotate_left
        · (intro w hSw; (try dsimp only at hSw); go_simp; try with_reducible rfl)
        (try simp only [Act.put, List.setIfInBounds_toArray, List.set_cons_zero, List.set_cons_succ])
        refine take_first (v := ?_) 7 rfl (by kernel_rfl) (by kernel_rfl) (by kernel_rfl) (fun _ _ _ h => h) (Or.inl ⟨by rfl, ?_⟩) (by assumption) ?_
        rotate_left
        · (intro w hSw; (try dsimp only at hSw); go_simp; try with_reducible rfl)
        (try simp only [Act.put, List.setIfInBounds_toArray, List.set_cons_zero, List.set_cons_succ])
        refine take_first (v := ?_) 8 rfl (by kernel_rfl) (by kernel_rfl) (by kernel_rfl) (fun _ _ _ h => h) (Or.inl ⟨by rfl, ?_⟩) (by assumption) ?_
        rotate_left
        · (intro w hSw; (try dsimp only at hSw); have s := hadd; go_simp; try with_reducible rfl)
        (try simp only [Act.put, List.setIfInBounds_toArray, List.set_cons_zero, List.set_cons_succ])
        refine take_first (v := ?_) 9 rfl (by kernel_rfl) (by kernel_rfl) (by kernel_rfl) (fun _ _ _ h => h) (Or.inl ⟨by rfl, ?_⟩) (by assumption) ?_
        rotate_left
        · (intro w hSw; (try dsimp only at hSw); go_simp; try with_reducible rfl)
        (try simp only [Act.put, List.setIfInBounds_toArray, List.set_cons_zero, List.set_cons_succ])
        refine take_first (v := ?_) 10 rfl (by kernel_rfl) (by kernel_rfl) (by kernel_rfl) (fun _ _ _ h => h) (Or.inl ⟨by rfl, ?_⟩) (by assumption) ?_
        rotate_left
        · (intro w hSw; (try dsimp only at hSw); go_simp; try with_reducible rfl)
        (try simp only [Act.put, List.setIfInBounds_toArray, List.set_cons_zero, List.set_cons_succ])
        refine take_first (v := ?_) 11 rfl (by kernel_rfl) (by kernel_rfl) (by kernel_rfl) (fun _ _ _ h => h) (Or.inl ⟨by rfl, ?_⟩) (by assumption) ?_
        rotate_left
        · (intro w hSw; (try dsimp only at hSw); have s := hrem; go_simp; try with_reducible rfl)
        (try simp only [Act.put, List.setIfInBounds_toArray, List.set_cons_zero, List.set_cons_succ])
        refine take_first (v := ?_) 12 rfl (by kernel_rfl) (by kernel_rfl) (by kernel_rfl) (fun _ _ _ h => h) (Or.inl ⟨by rfl, ?_⟩) (by assumption) ?_
        rotate_left
        · (intro w hSw; (try dsimp only at hSw); go_simp; try with_reducible rfl)
        (try simp only [Act.put, List.setIfInBounds_toArray, List.set_cons_zero, List.set_cons_succ])
        refine take_first (v := .agg yc) 13 rfl (by kernel_rfl) (by kernel_rfl) (by kernel_rfl) (fun _ _ _ h => h) (by rw [← HYP.out]; exact yields_load_obj (by rfl) 28 (.tmp 39) rfl b _ rfl (prefC y.1 y.2) (fun W hW => HYPA.out W hW.bel) _ Try.underlying28 rfl (pref_cellsOf' y.1 HYPO.out.1 y.2)) (by assumption) ?_
        (try simp only [Act.put, List.setIfInBounds_toArray, List.set_cons_zero, List.set_cons_succ])
        refine step_two 14 15 rfl rfl (by kernel_rfl) (fun K hK => ?_) (fun K hK => ?_)
        · clear hHeld
          go_simp
          replace HM := Lib.hid (show Mem wq [blkE wd1.heap.size 28 (prefC addr0 0)] (wd1.alloc (.cells #[.bool false, .int .u8 0, .int .u8 0, .int .u8 0, .int .u8 0, .int .u8 0, .int .u8 0, .int .u8 0, .int .u8 0, .int .u8 0, .int .u8 0, .int .u8 0, .int .u8 0, .int .u8 0, .int .u8 0, .int .u8 0, .int .u8 0, .int .i64 0] 28)) from HM.out.alloc rfl 28 #[.bool false, .int .u8 0, .int .u8 0, .int .u8 0, .int .u8 0, .int .u8 0, .int .u8 0, .int .u8 0, .int .u8 0, .int .u8 0, .int .u8 0, .int .u8 0, .int .u8 0, .int .u8 0, .int .u8 0, .int .u8 0, .int .u8 0, .int .i64 0] (prefC addr0 0) rfl)
          generalize wd1.alloc (.cells #[.bool false, .int .u8 0, .int .u8 0, .int .u8 0, .int .u8 0, .int .u8 0, .int .u8 0, .int .u8 0, .int .u8 0, .int .u8 0, .int .u8 0, .int .u8 0, .int .u8 0, .int .u8 0, .int .u8 0, .int .u8 0, .int .u8 0, .int .i64 0] 28) = wy2 at HM ⊢
          generalize wd1.heap.size = g10 at HM ⊢
          refine hK.out _ _ ((HM.out.erase 0)) (fun hHeld => ?_)
          clear hK K
          (try simp only [Act.put, List.setIfInBounds_toArray, List.set_cons_zero, List.set_cons_succ])
          refine step_one 15 rfl (by kernel_rfl) (fun K hK => ?_)
          clear hHeld
          go_simp
          replace HM := Lib.hid (show Mem wq [blkE wy2.heap.size 28 (prefC addr0 0), blkE g10 28 (prefC addr0 0)] (wy2.alloc (.cells #[.bool false, .int .u8 0, .int .u8 0, .int .u8 0, .int .u8 0, .int .u8 0, .int .u8 0, .int .u8 0, .int .u8 0, .int .u8 0, .int .u8 0, .int .u8 0, .int .u8 0, .int .u8 0, .int .u8 0, .int .u8 0, .int .u8 0, .int .i64 0] 28)) from HM.out.alloc rfl 28 #[.bool false, .int .u8 0, .int .u8 0, .int .u8 0, .int .u8 0, .int .u8 0, .int .u8 0, .int .u8 0, .int .u8 0, .int .u8 0, .int .u8 0, .int .u8 0, .int .u8 0, .int .u8 0, .int .u8 0, .int .u8 0, .int .u8 0, .int .i64 0] (prefC addr0 0) rfl)
          generalize wy2.alloc (.cells #[.bool false, .int .u8 0, .int .u8 0, .int .u8 0, .int .u8 0, .int .u8 0, .int .u8 0, .int .u8 0, .int .u8 0, .int .u8 0, .int .u8 0, .int .u8 0, .int .u8 0, .int .u8 0, .int .u8 0, .int .u8 0, .int .u8 0, .int .i64 0] 28) = wy3 at HM ⊢
          generalize wy2.heap.size = g11 at HM ⊢
          refine hK.out _ _ (((HM.out.erase 0).erase 0)) (fun hHeld => ?_)
          clear hK K
          (try simp only [Act.put, List.setIfInBounds_toArray, List.set_cons_zero, List.set_cons_succ])
          refine step_one 16 rfl (by kernel_rfl) (fun K hK => ?_)
          clear hHeld
          refine step_store_obj rfl 28 (.tmp 10) (.tmp 30) rfl g10 0 (prefC x.1 x.2) rfl (by show Value.agg xc = _; rw [HX.out]) 28 (prefC addr0 0) (HM.out.blk 1 rfl) (pref_cellsOf' x.1 HXO.out.1 x.2) (by rw [prefC_length x.1 HXO.out.1]; decide) (pref_oneR _ _) ?_
          intro wy4 hb hg
          rw [setL_all _ _ (by rw [prefC_length x.1 HXO.out.1]; rfl)] at hb
          replace HM := Lib.hid (show Mem wq [blkE g11 28 (prefC addr0 0), blkE g10 28 (prefC x.1 x.2)] wy4 from HM.out.put 1 rfl _ hg hb)
          clear hb hg
          refine hK.out _ _ (((HM.out.erase 0).erase 0)) (fun hHeld => ?_)
          clear hK K
          (try simp only [Act.put])
          refine step_one 17 rfl (by kernel_rfl) (fun K hK => ?_)
          clear hHeld
          refine step_store_obj rfl 28 (.tmp 11) (.tmp 40) rfl g11 0 (prefC y.1 y.2) rfl (by show Value.agg yc = _; rw [HYP.out]) 28 (prefC addr0 0) (HM.out.blk 0 rfl) (pref_cellsOf' y.1 HYPO.out.1 y.2) (by rw [prefC_length y.1 HYPO.out.1]; decide) (pref_oneR _ _) ?_
          intro wy5 hb hg
          rw [setL_all _ _ (by rw [prefC_length y.1 HYPO.out.1]; rfl)] at hb
          replace HM := Lib.hid (show Mem wq [blkE g11 28 (prefC y.1 y.2), blkE g10 28 (prefC x.1 x.2)] wy5 from HM.out.put 0 rfl _ hg hb)
          clear hb hg
          refine hK.out _ _ (((HM.out.erase 0).erase 0)) (fun hHeld => ?_)
          clear hK K
          (try simp only [Act.put])
          refine wpAnyH_done (by kernel_rfl) ?_ _
          clear hHeld
          go_wp2_with fail
          go_meet
          exact ⟨g10, g11, rfl, rfl, HM.out.blk 1 rfl, HM.out.blk 0 rfl, HM.out.bel⟩
        · clear hHeld
          go_simp
          replace HM := Lib.hid (show Mem wq [blkE wd1.heap.size 28 (prefC addr0 0)] (wd1.alloc (.cells #[.bool false, .int .u8 0, .int .u8 0, .int .u8 0, .int .u8 0, .int .u8 0, .int .u8 0, .int .u8 0, .int .u8 0, .int .u8 0, .int .u8 0, .int .u8 0, .int .u8 0, .int .u8 0, .int .u8 0, .int .u8 0, .int .u8 0, .int .i64 0] 28)) from HM.out.alloc rfl 28 #[.bool false, .int .u8 0, .int .u8 0, .int .u8 0, .int .u8 0, .int .u8 0, .int .u8 0, .int .u8 0, .int .u8 0, .int .u8 0, .int .u8 0, .int .u8 0, .int .u8 0, .int .u8 0, .int .u8 0, .int .u8 0, .int .u8 0, .int .i64 0] (prefC addr0 0) rfl)
          generalize wd1.alloc (.cells #[.bool false, .int .u8 0, .int .u8 0, .int .u8 0, .int .u8 0, .int .u8 0, .int .u8 0, .int .u8 0, .int .u8 0, .int .u8 0, .int .u8 0, .int .u8 0, .int .u8 0, .int .u8 0, .int .u8 0, .int .u8 0, .int .u8 0, .int .i64 0] 28) = wy2 at HM ⊢
          generalize wd1.heap.size = g11 at HM ⊢
          refine hK.out _ _ ((HM.out.erase 0)) (fun hHeld => ?_)
          clear hK K
          (try simp only [Act.put, List.setIfInBounds_toArray, List.set_cons_zero, List.set_cons_succ])
          refine step_one 14 rfl (by kernel_rfl) (fun K hK => ?_)
          clear hHeld
          go_simp
          replace HM := Lib.hid (show Mem wq [blkE wy2.heap.size 28 (prefC addr0 0), blkE g11 28 (prefC addr0 0)] (wy2.alloc (.cells #[.bool false, .int .u8 0, .int .u8 0, .int .u8 0, .int .u8 0, .int .u8 0, .int .u8 0, .int .u8 0, .int .u8 0, .int .u8 0, .int .u8 0, .int .u8 0, .int .u8 0, .int .u8 0, .int .u8 0, .int .u8 0, .int .u8 0, .int .i64 0] 28)) from HM.out.alloc rfl 28 #[.bool false, .int .u8 0, .int .u8 0, .int .u8 0, .int .u8 0, .int .u8 0, .int .u8 0, .int .u8 0, .int .u8 0, .int .u8 0, .int .u8 0, .int .u8 0, .int .u8 0, .int .u8 0, .int .u8 0, .int .u8 0, .int .u8 0, .int .i64 0] (prefC addr0 0) rfl)
          generalize wy2.alloc (.cells #[.bool false, .int .u8 0, .int .u8 0, .int .u8 0, .int .u8 0, .int .u8 0, .int .u8 0, .int .u8 0, .int .u8 0, .int .u8 0, .int .u8 0, .int .u8 0, .int .u8 0, .int .u8 0, .int .u8 0, .int .u8 0, .int .u8 0, .int .i64 0] 28) = wy3 at HM ⊢
          generalize wy2.heap.size = g10 at HM ⊢
          refine hK.out _ _ (((HM.out.erase 0).erase 0)) (fun hHeld => ?_)
          clear hK K
          (try simp only [Act.put, List.setIfInBounds_toArray, List.set_cons_zero, List.set_cons_succ])
          refine step_one 16 rfl (by kernel_rfl) (fun K hK => ?_)
          clear hHeld
          refine step_store_obj rfl 28 (.tmp 10) (.tmp 30) rfl g10 0 (prefC x.1 x.2) rfl (by show Value.agg xc = _; rw [HX.out]) 28 (prefC addr0 0) (HM.out.blk 0 rfl) (pref_cellsOf' x.1 HXO.out.1 x.2) (by rw [prefC_length x.1 HXO.out.1]; decide) (pref_oneR _ _) ?_
          intro wy4 hb hg
          rw [setL_all _ _ (by rw [prefC_length x.1 HXO.out.1]; rfl)] at hb
          replace HM := Lib.hid (show Mem wq [blkE g10 28 (prefC x.1 x.2), blkE g11 28 (prefC addr0 0)] wy4 from HM.out.put 0 rfl _ hg hb)
          clear hb hg
          refine hK.out _ _ (((HM.out.erase 0).erase 0)) (fun hHeld => ?_)
          clear hK K
          (try simp only [Act.put])
          refine step_one 17 rfl (by kernel_rfl) (fun K hK => ?_)
          clear hHeld
          refine step_store_obj rfl 28 (.tmp 11) (.tmp 40) rfl g11 0 (prefC y.1 y.2) rfl (by show Value.agg yc = _; rw [HYP.out]) 28 (prefC addr0 0) (HM.out.blk 1 rfl) (pref_cellsOf' y.1 HYPO.out.1 y.2) (by rw [prefC_length y.1 HYPO.out.1]; decide) (pref_oneR _ _) ?_
          intro wy5 hb hg
          rw [setL_all _ _ (by rw [prefC_length y.1 HYPO.out.1]; rfl)] at hb
          replace HM := Lib.hid (show Mem wq [blkE g10 28 (prefC x.1 x.2), blkE g11 28 (prefC y.1 y.2)] wy5 from HM.out.put 1 rfl _ hg hb)
          clear hb hg
          refine hK.out _ _ (((HM.out.erase 0).erase 0)) (fun hHeld => ?_)
          clear hK K
          (try simp only [Act.put])
          refine wpAnyH_done (by kernel_rfl) ?_ _
          clear hHeld
          go_wp2_with fail
          go_meet
          exact ⟨g10, g11, rfl, rfl, HM.out.blk 0 rfl, HM.out.blk 1 rfl, HM.out.bel⟩
      case rest =>
        clear hadd haddw htw hrem hqi hnz HXA HYPA
        obtain ⟨g10, g11, rfl, rfl, hb10, hb11, hbl⟩ := hcut
        replace HM := Lib.hid (show Lows w [blkL g11 28 (prefC y.1 y.2), blkL g10 28 (prefC x.1 x.2), rtL Ab (j) lb, rtL Aa (j) la, pfL (some ⟨b, off, none⟩) np ps] wc from ((HM.out.below hbl).cons (blkL g10 28 (prefC x.1 x.2)) hb10).cons (blkL g11 28 (prefC y.1 y.2)) hb11)
        clear hb10 hb11 hbl
        have fx := pref_bits_at ((HM.out.blk 1 rfl).all) HXO.out.1
        have cx1 : x.2 % 256 = (ux.toNat : Int) := by have := HCX.out; have := ux.toNat_lt; omega
        have cx2 : IntKind.u8.wrap x.2 = (ux.toNat : Int) := by rw [IntKind.wrap_u8]; exact cx1
        go_wp2_with (first | (refine wpList_load_obj rfl 28 (.tmp 10) rfl g10 0 rfl (prefC x.1 x.2) ((HM.out.blk 1 rfl).all) _ Try.underlying28 rfl (pref_cellsOf' x.1 HXO.out.1 x.2) ?_; rw [HX.out]) | (refine wpList_build_as rfl 30 [(0, .tmp 46)] rfl kx ?_ ?_; exact HBX.out))
        refine (HI1.out Aa ca _ HCA.out (HM.out.get (f := rtL Aa j la) 3 rfl)).mono ?_
        rintro e w5 ⟨Aa2, ca2, rfl, hca2, hr7, hb⟩
        have HCA2 := Lib.hid hca2
        replace HM := Lib.hid ((HM.out.below hb).cons (rtL Aa2 (j + 1) la2) hr7)
        clear hb hr7 HI1 fx cx1 cx2 hca2
        have fy := pref_bits_at ((HM.out.blk 1 rfl).all) HYPO.out.1
        have cy1 : y.2 % 256 = (uy.toNat : Int) := by have := HCY.out; have := uy.toNat_lt; omega
        have cy2 : IntKind.u8.wrap y.2 = (uy.toNat : Int) := by rw [IntKind.wrap_u8]; exact cy1
        go_wp2_with (first | (refine wpList_load_obj rfl 28 (.tmp 11) rfl g11 0 rfl (prefC y.1 y.2) ((HM.out.blk 1 rfl).all) _ Try.underlying28 rfl (pref_cellsOf' y.1 HYPO.out.1 y.2) ?_; rw [HYP.out]) | (refine wpList_build_as rfl 30 [(0, .tmp 56)] rfl ky ?_ ?_; exact HBY.out))
        refine (HI2.out Ab cb _ HCB.out (HM.out.get (f := rtL Ab j lb) 3 rfl)).mono ?_
        rintro e w6 ⟨Ab2, cb2, rfl, hcb2, hr7, hb⟩
        have HCB2 := Lib.hid hcb2
        replace HM := Lib.hid ((HM.out.below hb).cons (rtL Ab2 (j + 1) lb2) hr7)
        clear hb hr7 HI2 fy cy1 cy2 hcb2
        go_wp2_with fail
        refine (HV1.out Aa2 ca2 _ HCA2.out (HM.out.get (f := rtL Aa2 (j + 1) la2) 1 rfl)).mono ?_
        rintro e w7 ⟨rfl, hb⟩
        have hmf := HM.out.below hb
        have HF := Lib.hid (show Lows w [rtL Ab2 (j + 1) lb2, rtL Aa2 (j + 1) la2, pfL (some ⟨b, off, none⟩) np ps] w7 from ⟨fun f hf => hmf.1 f (by simp only [List.mem_cons, List.not_mem_nil, or_false] at hf ⊢; rcases hf with h | h | h <;> simp [h]), hmf.2⟩)
        clear hb HV1 hmf HM
        go_wp2_with fail
        go_roundw
        case rel => exact ⟨j + 1, Aa2, Ab2, ca2, cb2, by omega, by go_num, rfl, rfl, HCA2.out, HCB2.out, by rw [HLE.out.1, HLE.out.2]; exact HF.out⟩
        case measure => simp [intOf]; omega
    · obtain rfl : np = j := by omega
      have d1 : decide ((np : Int) < (np : Int)) = false := by simp
      have htp : ps.take np = ps := List.take_of_length_le (by rw [HNP.out]; exact Nat.le_refl _)
      have htq : qs.take np = qs := List.take_of_length_le (by rw [← HQS.out, (rotP_perm ps t).length_eq, HNP.out]; exact Nat.le_refl _)
      have hsame : insAll (xsOf qs) = insAll (xsOf ps) := by rw [← HQS.out]; exact HAG.out.same t
      rw [htp, htq, hsame] at hM
      obtain ⟨ra, hra⟩ : ∃ z, insAll (xsOf ps) = z := ⟨_, rfl⟩
      rw [hra] at hM
      have HRA := Lib.hid hra
      have HM := Lib.hid (show Lows w [rtL Ab np ra, rtL Aa np ra, pfL Ap np ps] wr from hM)
      clear hM htp htq hsame hra
      go_wp2_with fail
      go_loopw [75] (fun i wr => ∃ j : Nat, j ≤ np ∧ i = .int .i64 (j : Int) ∧ Lows w [rtL Ab np ra, rtL Aa np ra, pfL Ap np ps] wr) (fun i _ => np - (intOf i).toNat)
      case atStart => exact ⟨0, Nat.zero_le _, rfl, HM.out⟩
      case round =>
        clear HM
        obtain ⟨j, hj, rfl, hM⟩ := hrel
        have HM := Lib.hid hM
        by_cases hjn : j < np
        · have d1 : decide ((j : Int) < (np : Int)) = true := by simp; omega
          obtain ⟨x, hx⟩ : ∃ x, ps[j]? = some x := ⟨ps[j]'(by rw [HNP.out]; exact hjn), List.getElem?_eq_getElem _⟩
          obtain ⟨b, off, rfl⟩ := (hM.get (f := pfL Ap np ps) 2 rfl).1.addr (by omega)
          have hpf : PfRd wr wr.heap.size (some ⟨b, off, none⟩) np ps := hM.get (f := pfL (some ⟨b, off, none⟩) np ps) 2 rfl
          have HXO := Lib.hid (show x.1.ok ∧ inI64 x.2 from hpf.ok hx)
          have HXA := Lib.hid (hpf.at j x hx).2
          have hgx := (HAG.out.2.1 x (List.mem_of_getElem? hx)).bits
          obtain ⟨u, hlk, hub⟩ := HAG.out.look (List.mem_of_getElem? hx)
          rw [HRA.out] at hlk
          have hl1 := look_use HLKH.out (n := np) hlk HXO.out.1 (by omega)
          obtain ⟨xc, hxc⟩ : ∃ z, (prefC x.1 x.2).toArray = z := ⟨_, rfl⟩
          obtain ⟨xa, hxa⟩ : ∃ z, x.1.cells.toArray = z := ⟨_, rfl⟩
          obtain ⟨kk, hkk⟩ : ∃ z, ((keyB u).map u8v).toArray = z := ⟨_, rfl⟩
          rw [hxa, hkk] at hl1
          have HXC := Lib.hid hxc
          have HXS := Lib.hid hxa
          have HKK := Lib.hid hkk
          have HL1 := Lib.hid hl1
          have HUB := Lib.hid hub
          clear hM hx hpf hgx hlk hl1 hxc hxa hkk hub
          have HZ := Lib.hid (Blk.new wr 28 (prefC addr0 0))
          go_upto_region 17 with (first | (refine wpList_load_obj rfl 28 (.tmp 77) rfl b _ rfl (prefC x.1 x.2) HXA.out _ Try.underlying28 rfl (pref_cellsOf' x.1 HXO.out.1 x.2) ?_; rw [HXC.out]) | (refine wpList_store_obj rfl 28 (.tmp 15) (.tmp 78) rfl wr.heap.size 0 (prefC x.1 x.2) rfl (by show Value.agg xc = _; rw [HXC.out]) 28 (prefC addr0 0) HZ.out (pref_cellsOf' x.1 HXO.out.1 x.2) (by rw [prefC_length x.1 HXO.out.1]; decide) (pref_oneR _ _) ?_; intro w8 hb8 hg8))
          rw [setL_all _ _ (by rw [prefC_length x.1 HXO.out.1]; rfl)] at hb8
          have HM8 := Lib.hid (HM.out.stored hg8 hb8)
          clear hb8 hg8 HZ HXA HM d1
          generalize wr.heap.size = P15 at HM8 ⊢
          go_wp2_with (refine wpList_load_obj rfl 26 (.tmp 81) rfl P15 0 rfl x.1.cells (prefA_at (HM8.out.blk 0 rfl).all) _ Try.underlying26 rfl (addr_cellsOf x.1 HXO.out.1) ?_; rw [HXS.out])
          refine (HL1.out Aa ca _ HCA.out (HM8.out.get (f := rtL Aa np ra) 2 rfl)).mono ?_
          rintro e w9 ⟨rfl, hb⟩
          replace HM8 := Lib.hid (HM8.out.below hb)
          clear hb HL1
          have HZ := Lib.hid (Blk.new w9 30 (aeZ 32))
          go_upto_region 18 with (refine wpList_store_obj rfl 30 (.tmp 16) (.tmp 84) rfl w9.heap.size 0 ((keyB u).map u8v) rfl (by show Value.agg kk = _; rw [HKK.out]) 30 (aeZ 32) HZ.out (key_cellsOf _ rfl) (by rw [List.length_map, keyB_length]; decide) (u8v_one _) ?_; intro w10 hb6 hg6)
          rw [setL_all _ _ (by rw [List.length_map, keyB_length]; rfl)] at hb6
          have HM9 := Lib.hid (HM8.out.stored hg6 hb6)
          clear hb6 hg6 HZ HM8
          generalize w9.heap.size = P16 at HM9 ⊢
          have f0 : w10.cell? ⟨P16, 0, none⟩ = some (.int .u8 (u.toNat : Int)) := (HM9.out.blk 0 rfl).cell 0
          have f17 := pref_bits_at ((HM9.out.blk 1 rfl).all) HXO.out.1
          have hcv : IntKind.i64.wrap (u.toNat : Int) = (u.toNat : Int) := IntWalk.i64_in _ (by have := u.toNat_lt; omega)
          have dlt : decide ((u.toNat : Int) < x.2) = false := by have := HUB.out; simp; omega
          have HF := Lib.hid ((HM9.out.tail 0).tail 0)
          clear HM9
          go_wp2_with fail
          go_roundw
          case rel => exact ⟨j + 1, by omega, by go_num, HF.out⟩
          case measure => simp [intOf]; omega
        · obtain rfl : np = j := by omega
          have d1 : decide ((np : Int) < (np : Int)) = false := by simp
          have HSM := Lib.hid (same_any Aa Ab np ca cb ra (by omega) wr (HM.out.get (f := rtL Aa np ra) 1 rfl) (HM.out.get (f := rtL Ab np ra) 0 rfl))
          have deq : ((np : Int) == (np : Int)) = true := by simp
          clear hM
          go_wp2_with fail
          refine HSM.out.mono ?_
          rintro e w11 ⟨rfl, hb⟩
          replace HM := Lib.hid (HM.out.below hb)
          clear hb HSM
          go_wp2_with fail
          refine (HBG.out _).mono ?_
          rintro e w15 ⟨rfl, hb⟩
          have HF := Lib.hid (HM.out.below hb).bel
          clear hb HM
          go_wp2_with fail
          go_ret
          exact ⟨rfl, HF.out⟩
end Go.Proofs.Ytnblofbbbkjhpaa
namespace Go.Proofs.Ytnblofbbbkjhpaa
open Go.RowKit

/-- what is asked of a predicate that is handed on, in every world in which what lies below B is as it was -/
def PredB (P : Program) (F : Nat) (lb : Array Value) (p : List Value → Bool) (B : Nat) (w : World) (os : List (List Value)) : Prop :=
  ∀ o ∈ os, ∀ W, Below B w W → Calls P F (#[.agg o.toArray] ++ lb) W fun e W' => e = .returned (.bool (p o)) ∧ Below W.heap.size W W'
def idxM (p : List Value → Bool) (os : List (List Value)) : Int := match os.findIdx? p with
  | none => -1
  | some i => (i : Int)
theorem idxM_none {p : List Value → Bool} {os : List (List Value)} (h : ∀ o ∈ os, p o = false) : idxM p os = -1 := by
  have e : os.findIdx? p = none := List.findIdx?_eq_none_iff.2 h
  unfold idxM
  rw [e]
theorem idxM_some {p : List Value → Bool} {os : List (List Value)} {j : Nat} {o : List Value} (ho : os[j]? = some o) (hp : p o = true) (hn : ∀ (q : Nat) x, q < j → os[q]? = some x → p x = false) : idxM p os = (j : Int) := by
  obtain ⟨hi, rfl⟩ := List.getElem?_eq_some_iff.1 ho
  have e : os.findIdx? p = some j := by
    rw [List.findIdx?_eq_some_iff_getElem]
    exact ⟨hi, hp, fun q hq => by simpa using hn q _ hq (List.getElem?_eq_getElem (by omega))⟩
  unfold idxM
  rw [e]
theorem all_false {p : List Value → Bool} {os : List (List Value)} {n : Nat} (hl : os.length = n) (h : ∀ (q : Nat) x, q < n → os[q]? = some x → p x = false) : ∀ o ∈ os, p o = false := by
  intro o ho
  obtain ⟨i, hi, rfl⟩ := List.getElem_of_mem ho
  exact h i _ (by omega) (List.getElem?_eq_getElem hi)
theorem one_flat {cs : List (List Value)} (h : ∀ o ∈ cs, ∀ v ∈ o, v.oneCell' = true) : ∀ v ∈ cs.flatten, v.oneCell' = true := fun v hv => by
  obtain ⟨o, ho, h2⟩ := List.mem_flatten.1 hv
  exact h o ho v h2
theorem own_sliceK {w : World} {base e k n : Nat} {v : Value} {xs : List Value} (h : w.ownsRow base e k v n xs) : ∃ A c, v = .slice A n c ∧ n ≤ c ∧ c ≤ maxLen ∧ ∀ ad, A = some ad → base ≤ ad.block := by
  rcases h.2 with ⟨rfl, rfl⟩ | ⟨g, cap, cur, rfl, hb, _, hn, hm, _⟩
  · exact ⟨none, 0, rfl, Nat.le_refl _, by unfold maxLen; omega, fun _ h => by cases h⟩
  · exact ⟨_, _, rfl, hn, hm, fun ad h => by injection h with h; subst h; exact hb⟩
end Go.Proofs.Ytnblofbbbkjhpaa
namespace Go.Proofs.Ytnblofbbbkjhpaa
open Go.RowKit

theorem rt_size (o : List Value) (h : o.length = 50) : (Try.prog.info? 37).map (·.size) = some o.length := by
  rw [h]; kernel_rfl
theorem rt_under : Try.prog.underlying 23 = some (.slice (Try.prog.elem 23)) := by kernel_rfl
theorem rt_elem : Try.prog.elem 23 = 37 := by kernel_rfl
theorem rt_sizeOf (w : World) : (sizeOf (Try.prog.elem 23)).run Try.prog w = .ok 50 w := by
  obtain ⟨i0, hi, _, hs, _⟩ := routeInfo
  rw [rt_elem]
  simp [sizeOf, typeInfo, hi, hs]
set_option maxRecDepth 100000 in
theorem rt_l (A : Option Addr) (n c i : Nat) (h2 : i ≤ n) (w : World) : (Instr.sliceAt 23 (.slice A n c) (some (.int .i64 (i : Int))) none none).run Try.prog w = .ok (.slice (addrK A i c 50) (n - i) (c - i)) w := by
  rw [run_sliceAt_slice (P := Try.prog) (w := w) 23 _ _ _ _ rt_under, run_slice_l (P := Try.prog) (w := w) 23 A n c rt_under .i64 i (by omega) (by omega), rt_sizeOf]
  simp only [Result.andThen, sliced, Int.toNat_natCast]
  rfl
set_option maxRecDepth 100000 in
theorem rt_h {n : Nat} (A : Option Addr) (c j : Nat) (h2 : j ≤ n) (h3 : n ≤ c) (w : World) : (Instr.sliceAt 23 (.slice A n c) none (some (.int .i64 (j : Int))) none).run Try.prog w = .ok (.slice (addrK A 0 c 50) j c) w := by
  rw [run_sliceAt_slice (P := Try.prog) (w := w) 23 _ _ _ _ rt_under, run_slice_h (P := Try.prog) (w := w) 23 A n c rt_under .i64 j (by omega) (by omega), rt_sizeOf]
  simp only [Result.andThen, sliced, Int.toNat_natCast, Nat.sub_zero]
  rfl
theorem addrK_zero_some (b off c k : Nat) : addrK (some ⟨b, off, none⟩) 0 c k = some ⟨b, off, none⟩ := by
  unfold addrK
  split
  · rfl
  · rw [Option.map_some, Go.WideShapes.add_plain, Nat.zero_mul, Nat.add_zero]
end Go.Proofs.Ytnblofbbbkjhpaa
