/-
  The contracts of the choices that the statements are made of: Big, Endpoint. Equality of two structs under a guard, as an operation. ConfigAddressesReturn returns true for every input, over what is asked of the functions: the walk. The library's contracts that layer 13 wants, off the library's shelf, at this translation's numbers. The contract of the reference's Decimal. The contracts of burrowcase.Short and of the reference's Digit. The contract of the reference's Number. The mathematics of what the library's functions give, beside that of the texts of addresses. No function of the program is named here. Words for a region that draws its order, in which several loads may come up at once, all ahead of what changes memory: such a load can be taken first, though its cell is written later. The contract of the reference's Split. What the library's functions give that layer 13 calls. No statement is proved here.
-/
import Derived.Laws.Bits64
import Derived.Laws.BitsAllLaws
import Derived.Deep.DeepCutAuto
import Derived.Shelf.Strings.Builder1
import Derived.Shelf.Strings.Builder2
import Derived.Shelf.Strings.OnBuilder
import Derived.Shelf.Small.Strs
import Derived.Shelf.Strings.BuilderF
import Derived.Shelf.Strconv.Itoa0
import Derived.Shelf.Strconv.Itoa1
import Derived.Shelf.LaysM
import Derived.Shelf.Strconv.Itoa2
import Derived.Shelf.Strconv.Itoa3
import Derived.Ground.MpProg
import Derived.Shelf.Pu.ParseUintPublic10
import Derived.Shelf.Pu.ErrVarParseUint
import Derived.Shelf.Strings.Search1
import Derived.Shelf.Strings.Search2
import Derived.Shelf.Strings.Search3
import Derived.Shelf.Strings.Cut
import Derived.Shelf.Strings.Count
import Derived.Shelf.Strings.LastIndex
import Derived.Shelf.Strings.Prefix
import Derived.Shelf.Strings.Split
import Derived.Shelf.Strings.SplitShaped
import Derived.Shelf.Bits.Mul64
import Derived.Shelf.Strings.Repeat
import Derived.Test.YtkhghmmgegkiiaaGreatDoorProg
import Derived.Laws.Concat
import Derived.RegionTactic
import Derived.BigRegion
import Derived.Outline
import Derived.Lib.SmallJoins
import Derived.Lib.Strings
import Derived.BigQuiet
import Derived.Deep.QuietTactic
import Derived.Deep.RegionLaw
import Derived.Maps.AppendAt
import Derived.Lib.ItoaNum
import Derived.Lib.Join
import Derived.Lib.SplitLaws
import Derived.Lib.ParseIntB
import Derived.Lib.LastIndexByte
import Derived.Lib.IndexMore
import Derived.Lib.Repeat
import Derived.Test.YtkhghmmgegkiiaaGreatDoorConfigAddressesReturnB2
namespace Go.Proofs.YtkhghmmgegkiiaaGreatDoor
open Go.RowKit

theorem or_i64_nat (a b : Nat) (ha : a < 9223372036854775808) (hb : b < 9223372036854775808) : bits BinOp.or IntKind.i64 (a : Int) (b : Int) = ((a ||| b : Nat) : Int) := by
  have hx : a ||| b < 2 ^ 63 := Nat.or_lt_two_pow (by omega) (by omega)
  have h1 : (BitVec.ofInt 64 (a : Int)).toNat = a := by
    rw [BitVec.ofInt_natCast, BitVec.toNat_ofNat]; exact Nat.mod_eq_of_lt (by omega)
  have h2 : (BitVec.ofInt 64 (b : Int)).toNat = b := by
    rw [BitVec.ofInt_natCast, BitVec.toNat_ofNat]; exact Nat.mod_eq_of_lt (by omega)
  show IntKind.i64.wrap ((BitVec.ofInt 64 (a : Int) ||| BitVec.ofInt 64 (b : Int)).toNat : Int) = _
  rw [BitVec.toNat_or, h1, h2, IntKind.wrap_i64]
  omega
/-- three choices as one number -/
def bigV (l : List UInt8) (p : Nat) : Nat := nextV l p 256 * 65536 ||| nextV l (nextP l p 256) 256 * 256 ||| nextV l (nextP l (nextP l p 256) 256) 256
def bigP (l : List UInt8) (p : Nat) : Nat := nextP l (nextP l (nextP l p 256) 256) 256
set_option maxRecDepth 100000 in
set_option maxHeartbeats 2000000 in
theorem caseBig_any (g : Nat) (A : Option Addr) (n c : Nat) (l : List UInt8) (B : Nat) (p : Nat) (m : Nat) (h1 : 1 ≤ m) (hm : m ≤ 1000000) (w : World) (hc : CodesAt w g A n c l B p) :
    Calls Tryz.prog 36 #[.pointer (some ⟨g, 0, none⟩), .int .i64 (m : Int)] w fun e w' => e = .returned (.int .i64 ((bigV l p % m : Nat) : Int)) ∧ CodesAt w' g A n c l B (bigP l p) ∧ w.grownBy w' (some g) := by
  have d1 : decide ((m : Int) < 1) = false := by simp; omega
  have HC := Lib.hid hc
  have C1 := hc.callNext 256 (by omega)
  have hx := nextV_lt l p 256 (by omega)
  have hy := nextV_lt l (nextP l p 256) 256 (by omega)
  have hz := nextV_lt l (nextP l (nextP l p 256) 256) 256 (by omega)
  have hv : bigV l p = nextV l p 256 * 65536 ||| nextV l (nextP l p 256) 256 * 256 ||| nextV l (nextP l (nextP l p 256) 256) 256 := rfl
  have hpp : bigP l p = nextP l (nextP l (nextP l p 256) 256) 256 := rfl
  rw [hv, hpp]
  obtain ⟨P1, hP1⟩ : ∃ z, nextP l p 256 = z := ⟨_, rfl⟩
  rw [hP1] at hy hz C1 ⊢
  obtain ⟨P2, hP2⟩ : ∃ z, nextP l P1 256 = z := ⟨_, rfl⟩
  rw [hP2] at hz ⊢
  obtain ⟨a, ha⟩ : ∃ z, nextV l p 256 = z := ⟨_, rfl⟩
  obtain ⟨b, hb⟩ : ∃ z, nextV l P1 256 = z := ⟨_, rfl⟩
  obtain ⟨d, hd⟩ : ∃ z, nextV l P2 256 = z := ⟨_, rfl⟩
  rw [ha] at hx C1 ⊢
  rw [hb] at hy ⊢
  rw [hd] at hz ⊢
  have HX := Lib.hid (And.intro hx (And.intro hy hz))
  have HA1 := Lib.hid hP2
  have HA2 := Lib.hid hb
  have HA3 := Lib.hid hd
  have HC1 := Lib.hid C1
  have e1 : (a : Int) * 65536 = ((a * 65536 : Nat) : Int) := by omega
  have e2 : (b : Int) * 256 = ((b * 256 : Nat) : Int) := by omega
  have o1 : bits BinOp.or IntKind.i64 ((a : Int) * 65536) ((b : Int) * 256) = ((a * 65536 ||| b * 256 : Nat) : Int) := by rw [e1, e2, or_i64_nat _ _ (by omega) (by omega)]
  have hlt1 : a * 65536 ||| b * 256 < 16777216 := Nat.or_lt_two_pow (n := 24) (by omega) (by omega)
  have o2 : bits BinOp.or IntKind.i64 ((a * 65536 ||| b * 256 : Nat) : Int) (d : Int) = ((a * 65536 ||| b * 256 ||| d : Nat) : Int) := or_i64_nat _ _ (by omega) (by omega)
  obtain ⟨v, hv2⟩ : ∃ z, a * 65536 ||| b * 256 ||| d = z := ⟨_, rfl⟩
  rw [hv2] at o2 ⊢
  obtain ⟨u, hu⟩ : ∃ z, a * 65536 ||| b * 256 = z := ⟨_, rfl⟩
  rw [hu] at o1 o2
  have w1 : IntKind.i64.wrap ((a : Int) * 65536) = (a : Int) * 65536 := IntWalk.i64_in _ (by omega)
  have w2 : IntKind.i64.wrap ((b : Int) * 256) = (b : Int) * 256 := IntWalk.i64_in _ (by omega)
  have m0 : ((m : Int) == 0) = false := by rw [beq_eq_false_iff_ne]; omega
  have m1 : ((v : Int)).tmod (m : Int) = ((v % m : Nat) : Int) := by rw [Int.tmod_eq_emod_of_nonneg (by omega)]; omega
  clear hx hy hz hP1 hP2 ha hb hd hv hpp C1 e1 e2 hlt1 hv2 hu hc
  go_enter Tryz.func36, Tryz.ntmps36
  go_wp2_with fail
  refine HC1.out.mono ?_
  rintro e w1' ⟨rfl, hc1, hg1⟩
  have HC2 := Lib.hid (hc1.callNext 256 (by omega))
  rw [HA1.out, HA2.out] at HC2
  have HG1 := Lib.hid hg1
  clear hc1 hg1
  go_wp2_with fail
  refine HC2.out.mono ?_
  rintro e w2' ⟨rfl, hc2, hg2⟩
  have HC3 := Lib.hid (hc2.callNext 256 (by omega))
  rw [HA3.out] at HC3
  have HG2 := Lib.hid (grownBy_trans HG1.out hg2)
  clear hc2 hg2
  go_wp2_with fail
  refine HC3.out.mono ?_
  rintro e w3' ⟨rfl, hc3, hg3⟩
  have HF := Lib.hid (And.intro hc3 (grownBy_trans HG2.out hg3))
  clear hc3 hg3
  go_wp2_with fail
  go_ret
  exact ⟨rfl, HF.out.1, HF.out.2⟩
/-- an endpoint of choices: its address, its port, and where the choices go on -/
def codeE (l : List UInt8) (p : Nat) : List Value := (codeA l p).cells ++ [.int .i64 ((1 + bigV l (codeAP l p) % 65535 : Nat) : Int)]
def codeEP (l : List UInt8) (p : Nat) : Nat := bigP l (codeAP l p)
theorem end_built (a : AddrM) (ha : a.ok) (q : Int) : Tryz.prog.built 27 [(0, .agg a.cells.toArray), (1, .int .i64 q)] = some (a.cells ++ [Value.int .i64 q]).toArray := by
  rw [built_of 27 [17, 1] [addr0.cells, [.int .i64 0]] rfl #[(0, 17), (17, 1)] (fun parts => by kernel_rfl) (fun i h => by
    match i, h with
    | 0, _ => rfl
    | 1, _ => rfl) _ (fun p hp => by
    simp only [List.mem_cons, List.not_mem_nil, or_false] at hp
    rcases hp with rfl | rfl
    · simp [Value.cells, AddrM.cells_length ha]
    · rfl)]
  simp [Value.cells]
def end0 : List Value := addr0.cells ++ [.int .i64 0]
set_option maxRecDepth 100000 in
set_option maxHeartbeats 2000000 in
theorem caseEndpoint_any (g : Nat) (A : Option Addr) (n c : Nat) (l : List UInt8) (B : Nat) (p : Nat) (w : World) (hc : CodesAt w g A n c l B p) :
    Calls Tryz.prog 10 #[.pointer (some ⟨g, 0, none⟩)] w fun e w' => e = .returned (.agg (codeE l p).toArray) ∧ CodesAt w' g A n c l B (codeEP l p) ∧ w.grownBy w' (some g) := by
  have hgl := hc.lt
  have hlt : bigV l (codeAP l p) % 65535 < 65535 := Nat.mod_lt _ (by omega)
  have hE : codeE l p = (codeA l p).cells ++ [.int .i64 ((1 + bigV l (codeAP l p) % 65535 : Nat) : Int)] := rfl
  have hP : codeEP l p = bigP l (codeAP l p) := rfl
  have hok := codeA_ok l p
  have HM := Lib.hid (show MemG w g [blkE w.heap.size 27 end0] (w.alloc (.cells #[.bool false, .int .u8 0, .int .u8 0, .int .u8 0, .int .u8 0, .int .u8 0, .int .u8 0, .int .u8 0, .int .u8 0, .int .u8 0, .int .u8 0, .int .u8 0, .int .u8 0, .int .u8 0, .int .u8 0, .int .u8 0, .int .u8 0, .int .i64 0] 27)) from (MemG.nil w g).alloc rfl 27 #[.bool false, .int .u8 0, .int .u8 0, .int .u8 0, .int .u8 0, .int .u8 0, .int .u8 0, .int .u8 0, .int .u8 0, .int .u8 0, .int .u8 0, .int .u8 0, .int .u8 0, .int .u8 0, .int .u8 0, .int .u8 0, .int .u8 0, .int .i64 0] end0 rfl)
  have HC0 := Lib.hid (caseAddr_any g A n c l B p _ (hc.below ((Below.refl _ _).alloc (Nat.le_refl w.heap.size) (.cells #[.bool false, .int .u8 0, .int .u8 0, .int .u8 0, .int .u8 0, .int .u8 0, .int .u8 0, .int .u8 0, .int .u8 0, .int .u8 0, .int .u8 0, .int .u8 0, .int .u8 0, .int .u8 0, .int .u8 0, .int .u8 0, .int .u8 0, .int .i64 0] 27))))
  rw [hE, hP]
  obtain ⟨q, hq⟩ : ∃ z, bigV l (codeAP l p) % 65535 = z := ⟨_, rfl⟩
  rw [hq] at hlt ⊢
  have HQ := Lib.hid hq
  have w1 : IntKind.i64.wrap (((1 + q : Nat)) : Int) = ((1 + q : Nat) : Int) := IntWalk.i64_in _ (by omega)
  have e1 : (1 : Int) + (q : Int) = ((1 + q : Nat) : Int) := by omega
  obtain ⟨r, hr⟩ : ∃ z, 1 + q = z := ⟨_, rfl⟩
  rw [hr] at w1 e1 ⊢
  obtain ⟨ca, hca⟩ : ∃ z, (codeA l p).cells.toArray = z := ⟨_, rfl⟩
  obtain ⟨ce, hce⟩ : ∃ z, ((codeA l p).cells ++ [Value.int .i64 (r : Int)]).toArray = z := ⟨_, rfl⟩
  have hbt := end_built (codeA l p) hok (r : Int)
  rw [hca] at HC0 hbt
  rw [hce] at hbt ⊢
  have HBT := Lib.hid hbt
  have HCE := Lib.hid hce
  have hlen : ((codeA l p).cells ++ [Value.int .i64 (r : Int)]).length = 18 := by rw [List.length_append, AddrM.cells_length hok]; rfl
  have HLN := Lib.hid hlen
  have HUE := Lib.hid (show (Tryz.prog.info? 27).map (·.size) = some ((codeA l p).cells ++ [Value.int .i64 (r : Int)]).length from by rw [hlen]; kernel_rfl)
  have HONE := Lib.hid (show ∀ v ∈ (codeA l p).cells ++ [Value.int .i64 (r : Int)], v.oneCell' = true from by
    intro v hv
    rcases List.mem_append.1 hv with hv | hv
    · exact AddrM.one _ v hv
    · rw [List.mem_singleton.1 hv]; rfl)
  clear hE hP hok hq hr hca hce hbt hlen hlt hc
  go_enter Tryz.func10, Tryz.ntmps10
  go_upto_region 1 with fail
  go_wp2_with fail
  refine HC0.out.mono ?_
  rintro e w1' ⟨rfl, hc1, hg1⟩
  have HC1 := Lib.hid (caseBig_any g A n c l B (codeAP l p) 65535 (by omega) (by omega) w1' hc1)
  rw [HQ.out] at HC1
  replace HM := Lib.hid (HM.out.next hgl hg1)
  clear hc1 hg1 HC0
  go_wp2_with fail
  refine HC1.out.mono ?_
  rintro e w2' ⟨rfl, hc2, hg2⟩
  replace HM := Lib.hid (HM.out.next hgl hg2)
  have HC2 := Lib.hid hc2
  clear hc2 hg2 HC1
  go_wp2_with (first | (refine wpList_build_as rfl 27 [(0, .tmp 4), (1, .tmp 7)] rfl ce ?_ ?_; exact HBT.out) | (refine wpList_store_blk rfl 27 (.tmp 2) (.tmp 8) rfl w.heap.size ((codeA l p).cells ++ [Value.int .i64 (r : Int)]) rfl (by show Value.agg ce = _; rw [HCE.out]) 27 end0 (HM.out.blk 0 rfl) HUE.out (by rw [HLN.out]; rfl) HONE.out ?_; intro w9 hb9 hg9))
  exact bodyPost_ret (results_obj rfl _ _ w.heap.size 27 ((codeA l p).cells ++ [Value.int .i64 (r : Int)]) _ rfl hb9 Tryz.underlying27 rfl HUE.out) rfl ⟨by rw [HCE.out], HC2.out.put hg9 hgl, (HM.out.put 0 rfl _ hg9 hb9).2⟩
end Go.Proofs.YtkhghmmgegkiiaaGreatDoor
namespace Go.Proofs.YtkhghmmgegkiiaaGreatDoor
open Go.RowKit

theorem wpList_eql_agg {P : Program} {w : World} {ops : Array Oper} {rest : List Oper} {o : Oper} {a : Act} {Q : Exit → Act → World → Prop} (hw : Region.wanted o (yielded ops a.tmps) = true) (t r : TypeId) (i j : Tmp) (ho : o.op = .binOp .eql t (.tmp i) (.tmp j) r) (u v : Array Value) (b : Bool)
    (hx : a.eval (.tmp i) = .agg u) (hy : a.eval (.tmp j) = .agg v) (hg : P.eqGuardType P.depth t = false) (he : (Op.equalIn 10000 t (.agg u) (.agg v)).run P w = .ok b w)
    (h : wpList P ops Q rest (a.put o.dst (.bool b)) w) : wpList P ops Q (o :: rest) a w :=
  wpList_step fun K hK => by
    rw [if_pos hw]
    have he2 : (Op.equalIn Op.maxDepth t (.agg u) (.agg v)).run P w = .ok b w := he
    have hr : (execOp a.eval o).run P w = .ok (.value (.bool b)) w := by
      unfold execOp
      simp only [ho, hx, hy, eqGuard]
      simp [binOp, Op.equal, he2, hg, Result.andThen]
    unfold Oper.wp
    rw [hr]
    exact hK _ _ h
end Go.Proofs.YtkhghmmgegkiiaaGreatDoor
namespace Go.Proofs.YtkhghmmgegkiiaaGreatDoor
open Go.RowKit

theorem endT_len (a : AddrM) (port : Int) (h : port ≤ 65535) : (endT a port).length ≤ 60 := by
  have h1 := addrT_len a
  rw [endT]
  split
  · simp
  · have h2 := decT_len port.toNat 5 (by omega) (by omega)
    split
    · simp only [List.length_append, List.length_cons, List.length_nil]; omega
    · simp only [List.length_append, List.length_cons]; omega
theorem prefT_len (a : AddrM) (bits : Int) (h : bits ≤ 128) : (prefT a bits).length ≤ 60 := by
  have h1 := addrT_len a
  rw [prefT]
  split
  · simp
  · have h2 := decT_len bits.toNat 3 (by omega) (by omega)
    simp only [List.length_append, List.length_cons]; omega
theorem codeM_valid (l : List UInt8) (p : Nat) : validM (codeM l p) (codePb l p : Int) = true := by
  refine mask_valid (codeA l p) (codeA_ok l p) (codePb l p) ?_ (codeA_sound l p)
  have h := nextV_lt l (codeAP l p) (codePn l p) (by unfold codePn; split <;> omega)
  unfold codePb widthM
  unfold codePn at h ⊢
  have h6 : (codeA l p).six = sixV l p := rfl
  rw [h6]
  split at h <;> simp_all <;> omega
set_option maxRecDepth 100000 in
set_option maxHeartbeats 16000000 in
theorem cf_return_walk (HC1 : CfFmtAddrC 17) (HC2 : CfParseAddrC 21) (HC3 : CfFmtEndC 18) (HC4 : CfParseEndC 22) (HC5 : CfFmtPrefC 19) (HC6 : CfParsePrefC 23)
    (w : World) (A : Option Addr) (n c : Nat) (l0 : List UInt8) (hnc : n ≤ c) (hcm : c ≤ maxLen) (hr : Rd w w.heap.size A n l0) (hlv : LvCf w) :
    Calls Tryz.prog 4 #[.slice A n c] w fun e w' => e = .returned (.bool true) ∧ Below w.heap.size w w' := by
  have HLV := Lib.hid hlv
  have HBG := Lib.hid (cf_begun_any HC5 HC6)
  obtain ⟨k, hk⟩ : ∃ k, min n 60 = k := ⟨_, rfl⟩
  have HR := Lib.hid (hr.take (show k ≤ n by omega))
  have HW1 := Lib.hid (caseNew_any A n c 60 k (by omega) hnc hcm hk)
  have hk60 : k ≤ 60 := by omega
  clear hr hk hnc hcm
  generalize l0.take k = l at HR
  go_enter Tryz.func4, Tryz.ntmps4
  go_wp2_with fail
  refine (HW1.out w).mono ?_
  rintro e w1 ⟨rfl, hm⟩
  have hc : CodesAt w1 w.heap.size A k c l w.heap.size 0 := ⟨hm.blk 0 rfl, HR.out.below hm.bel, Nat.le_refl _, (hm.blk 0 rfl).lt, by omega, Nat.zero_le _⟩
  have HPC := Lib.hid (caseAddr_any w.heap.size A k c l w.heap.size 0 w1 hc)
  have HEC := Lib.hid (fun W (h : CodesAt W w.heap.size A k c l w.heap.size (codeAP l 0)) => caseEndpoint_any w.heap.size A k c l w.heap.size (codeAP l 0) W h)
  have HQC := Lib.hid (fun W (h : CodesAt W w.heap.size A k c l w.heap.size (codeEP l (codeAP l 0))) => casePrefix_any w.heap.size A k c l w.heap.size (codeEP l (codeAP l 0)) W h)
  have hb1 := hm.bel
  clear hc hm HW1 HR
  generalize codeAP l 0 = q1 at HPC HEC HQC
  generalize codeEP l q1 = q2 at HEC HQC
  have hx1 := codeA_ok l 0
  have hx2 := codeA_sound l 0
  generalize codeA l 0 = x at HPC hx1 hx2
  have hpe : codeE l q1 = prefC (codeA l q1) ((1 + bigV l (codeAP l q1) % 65535 : Nat) : Int) := rfl
  rw [hpe] at HEC
  have hy1 := codeA_ok l q1
  have hy2 := codeA_sound l q1
  have hpy : 1 + bigV l (codeAP l q1) % 65535 ≤ 65535 := by have := Nat.mod_lt (bigV l (codeAP l q1)) (show 0 < 65535 by omega); omega
  have hpy1 : 1 ≤ 1 + bigV l (codeAP l q1) % 65535 := by omega
  generalize 1 + bigV l (codeAP l q1) % 65535 = py at HEC hpy hpy1
  clear hpe
  generalize codeA l q1 = y at HEC hy1 hy2
  have hz1 := codeM_ok l q2
  have hzb := codePb_le l q2
  have hz2 := codeM_valid l q2
  generalize codeM l q2 = z at HQC hz1 hz2
  generalize codePb l q2 = bz at HQC hzb hz2
  have hFA := fun W => HC1 x hx1 W
  have hPA := fun W => HC2 (addrT x) (by have := addrT_len x; omega) W
  have hFE := fun W => HC3 y hy1 (py : Int) (by omega) (by omega) W
  have hPE := fun W => HC4 (endT y (py : Int)) (by have := endT_len y (py : Int) (by omega); omega) W
  have hFP := fun W => HC5 z hz1 (bz : Int) (by omega) (by omega) W
  have hPP := fun W => HC6 (prefT z (bz : Int)) (by have := prefT_len z (bz : Int) (by omega); omega) W
  rw [addr_back x hx1 hx2] at hPA
  rw [end_back y hy1 hy2 py hpy1 hpy] at hPE
  rw [pref_back z hz1 bz (by omega) hz2] at hPP
  dsimp only at hPA hPE hPP
  generalize addrT x = tx at hFA hPA
  generalize endT y (py : Int) = ty at hFE hPE
  generalize prefT z (bz : Int) = tz at hFP hPP
  have HUX := Lib.hid (addr_cellsOf x hx1)
  have HUY := Lib.hid (end_cellsOf y hy1 (py : Int))
  have HUZ := Lib.hid (pref_cellsOf z hz1 (bz : Int))
  have HLX := Lib.hid (show addr0.cells.length = x.cells.length from (AddrM.cells_length addr0_ok).trans (AddrM.cells_length hx1).symm)
  have HLY := Lib.hid (show (prefC addr0 0).length = (prefC y (py : Int)).length from (prefC_length addr0 addr0_ok 0).trans (prefC_length y hy1 _).symm)
  have HLZ := Lib.hid (show (prefC addr0 0).length = (prefC z (bz : Int)).length from (prefC_length addr0 addr0_ok 0).trans (prefC_length z hz1 _).symm)
  have hSX := addr_same x hx1
  have hSY := end_same y hy1 (py : Int) (by omega) (by omega)
  have hSZ := pref_same z hz1 (bz : Int) (by omega) (by omega)
  obtain ⟨ax, hax⟩ : ∃ v, x.cells.toArray = v := ⟨_, rfl⟩
  obtain ⟨ay, hay⟩ : ∃ v, (prefC y (py : Int)).toArray = v := ⟨_, rfl⟩
  obtain ⟨az, haz⟩ : ∃ v, (prefC z (bz : Int)).toArray = v := ⟨_, rfl⟩
  rw [hax] at HPC hFA hPA hSX
  rw [hay] at HEC hFE hPE hSY
  rw [haz] at HQC hFP hPP hSZ
  have HAX := Lib.hid hax
  have HAY := Lib.hid hay
  have HAZ := Lib.hid haz
  have HFA := Lib.hid hFA
  have HPA := Lib.hid hPA
  have HFE := Lib.hid hFE
  have HPE := Lib.hid hPE
  have HFP := Lib.hid hFP
  have HPP := Lib.hid hPP
  have HSX := Lib.hid hSX
  have HSY := Lib.hid hSY
  have HSZ := Lib.hid hSZ
  have HB1 := Lib.hid hb1
  clear hax hay haz hFA hPA hFE hPE hFP hPP hSX hSY hSZ hx1 hx2 hy1 hy2 hz1 hz2 hpy hpy1 hzb hb1 hlv HC1 HC2 HC3 HC4 HC5 HC6
  go_wp2_with fail
  refine HPC.out.mono ?_
  rintro e w2 ⟨rfl, hc2, hg2⟩
  have HB2 := Lib.hid (show Below w.heap.size w w2 from HB1.out.grown hg2 HB1.out.size (by intro q hq; injection hq with hq; omega))
  have HC2 := Lib.hid hc2
  clear hg2 hc2 HPC HB1
  go_wp2_with fail
  refine (HEC.out _ HC2.out).mono ?_
  rintro e w3 ⟨rfl, hc3, hg3⟩
  have HB3 := Lib.hid (show Below w.heap.size w w3 from HB2.out.grown hg3 HB2.out.size (by intro q hq; injection hq with hq; omega))
  have HC3 := Lib.hid hc3
  clear hg3 hc3 HC2 HEC HB2
  go_wp2_with fail
  refine (HQC.out _ HC3.out).mono ?_
  rintro e w4 ⟨rfl, hc4, hg4⟩
  have hb4 : Below w.heap.size w w4 := HB3.out.grown hg4 HB3.out.size (by intro q hq; injection hq with hq; omega)
  have HM := Lib.hid (show Mem w [] w4 from ⟨hb4.size, hb4⟩)
  have HMZ := Lib.hid (show Mem w [blkE (w4.heap.size + 1 + 1) 29 (prefC addr0 0), blkE (w4.heap.size + 1) 27 (prefC addr0 0), blkE w4.heap.size 25 addr0.cells] (((w4.alloc (.cells #[.bool false, .int .u8 0, .int .u8 0, .int .u8 0, .int .u8 0, .int .u8 0, .int .u8 0, .int .u8 0, .int .u8 0, .int .u8 0, .int .u8 0, .int .u8 0, .int .u8 0, .int .u8 0, .int .u8 0, .int .u8 0, .int .u8 0] 25)).alloc (.cells #[.bool false, .int .u8 0, .int .u8 0, .int .u8 0, .int .u8 0, .int .u8 0, .int .u8 0, .int .u8 0, .int .u8 0, .int .u8 0, .int .u8 0, .int .u8 0, .int .u8 0, .int .u8 0, .int .u8 0, .int .u8 0, .int .u8 0, .int .i64 0] 27)).alloc (.cells #[.bool false, .int .u8 0, .int .u8 0, .int .u8 0, .int .u8 0, .int .u8 0, .int .u8 0, .int .u8 0, .int .u8 0, .int .u8 0, .int .u8 0, .int .u8 0, .int .u8 0, .int .u8 0, .int .u8 0, .int .u8 0, .int .u8 0, .int .i64 0] 29)) from ((HM.out.alloc rfl 25 #[.bool false, .int .u8 0, .int .u8 0, .int .u8 0, .int .u8 0, .int .u8 0, .int .u8 0, .int .u8 0, .int .u8 0, .int .u8 0, .int .u8 0, .int .u8 0, .int .u8 0, .int .u8 0, .int .u8 0, .int .u8 0, .int .u8 0] addr0.cells rfl).alloc (by simp) 27 #[.bool false, .int .u8 0, .int .u8 0, .int .u8 0, .int .u8 0, .int .u8 0, .int .u8 0, .int .u8 0, .int .u8 0, .int .u8 0, .int .u8 0, .int .u8 0, .int .u8 0, .int .u8 0, .int .u8 0, .int .u8 0, .int .u8 0, .int .i64 0] (prefC addr0 0) rfl).alloc (by simp) 29 #[.bool false, .int .u8 0, .int .u8 0, .int .u8 0, .int .u8 0, .int .u8 0, .int .u8 0, .int .u8 0, .int .u8 0, .int .u8 0, .int .u8 0, .int .u8 0, .int .u8 0, .int .u8 0, .int .u8 0, .int .u8 0, .int .u8 0, .int .i64 0] (prefC addr0 0) rfl)
  clear hg4 hc4 hb4 HC3 HQC HB3 HM
  go_upto_region 3 with (first | (refine wpList_store_blk rfl 25 (.tmp 4) (.tmp 16) rfl w4.heap.size x.cells rfl (by show Value.agg ax = _; rw [HAX.out]) 25 addr0.cells (HMZ.out.blk 2 rfl) HUX.out HLX.out (AddrM.one _) ?_; intro w5 hb5 hg5; have HM5 := Lib.hid (HMZ.out.put 2 rfl _ hg5 hb5)) | (refine wpList_store_blk rfl 27 (.tmp 5) (.tmp 18) rfl (w4.heap.size + 1) (prefC y (py : Int)) rfl (by show Value.agg ay = _; rw [HAY.out]) 27 (prefC addr0 0) (HM5.out.blk 1 rfl) HUY.out HLY.out (prefC_one _ _) ?_; intro w6 hb6 hg6; have HM6 := Lib.hid (HM5.out.put 1 rfl _ hg6 hb6)) | (refine wpList_store_blk rfl 29 (.tmp 6) (.tmp 20) rfl (w4.heap.size + 1 + 1) (prefC z (bz : Int)) rfl (by show Value.agg az = _; rw [HAZ.out]) 29 (prefC addr0 0) (HM6.out.blk 0 rfl) HUZ.out HLZ.out (prefC_one _ _) ?_; intro w7 hb7 hg7; have HM7 := Lib.hid (HM6.out.put 0 rfl _ hg7 hb7)))
  (try simp only [Act.put])
  clear hb5 hg5 hb6 hg6 hb7 hg7 HMZ HM5 HM6
  generalize w4.heap.size = gx at HM7 ⊢
  have HM := Lib.hid (show Mem w [blkE (gx + 1 + 1) 29 (prefC z (bz : Int)), blkE (gx + 1) 27 (prefC y (py : Int)), blkE gx 25 x.cells] w7 from HM7.out)
  clear HM7
  go_wp2_with (refine wpList_load_obj rfl 25 (.tmp 4) rfl gx 0 rfl x.cells (HM.out.blk 2 rfl).all _ Tryz.underlying25 rfl HUX.out ?_; rw [HAX.out])
  refine (HFA.out _ (HLV.out.below HM.out.bel)).mono ?_
  rintro e wa1 ⟨rfl, hb⟩
  replace HM := Lib.hid (show Mem w [blkE (gx + 1 + 1) 29 (prefC z (bz : Int)), blkE (gx + 1) 27 (prefC y (py : Int)), blkE gx 25 x.cells] wa1 from HM.out.below hb)
  clear hb
  go_wp2_with fail
  refine (HPA.out _ (HLV.out.below HM.out.bel)).mono ?_
  rintro e wb1 ⟨rfl, hb⟩
  replace HM := Lib.hid (show Mem w [blkE (gx + 1 + 1) 29 (prefC z (bz : Int)), blkE (gx + 1) 27 (prefC y (py : Int)), blkE gx 25 x.cells] wb1 from HM.out.below hb)
  have HMZ := Lib.hid (show Mem w [blkE wb1.heap.size 25 addr0.cells, blkE (gx + 1 + 1) 29 (prefC z (bz : Int)), blkE (gx + 1) 27 (prefC y (py : Int)), blkE gx 25 x.cells] (wb1.alloc (.cells #[.bool false, .int .u8 0, .int .u8 0, .int .u8 0, .int .u8 0, .int .u8 0, .int .u8 0, .int .u8 0, .int .u8 0, .int .u8 0, .int .u8 0, .int .u8 0, .int .u8 0, .int .u8 0, .int .u8 0, .int .u8 0, .int .u8 0] 25)) from HM.out.alloc rfl 25 #[.bool false, .int .u8 0, .int .u8 0, .int .u8 0, .int .u8 0, .int .u8 0, .int .u8 0, .int .u8 0, .int .u8 0, .int .u8 0, .int .u8 0, .int .u8 0, .int .u8 0, .int .u8 0, .int .u8 0, .int .u8 0, .int .u8 0] addr0.cells rfl)
  clear hb HM
  go_upto_region 4 with (refine wpList_store_blk rfl 25 (.tmp 7) (.tmp 25) rfl wb1.heap.size x.cells rfl (by show Value.agg ax = _; rw [HAX.out]) 25 addr0.cells (HMZ.out.blk 0 rfl) HUX.out HLX.out (AddrM.one _) ?_; intro wc1 hb hg; have HM9 := Lib.hid (HMZ.out.put 0 rfl _ hg hb))
  (try simp only [Act.put])
  clear hb hg HMZ
  generalize wb1.heap.size = ga at HM9 ⊢
  have HM := Lib.hid (show Mem w [blkE ga 25 x.cells, blkE (gx + 1 + 1) 29 (prefC z (bz : Int)), blkE (gx + 1) 27 (prefC y (py : Int)), blkE gx 25 x.cells] wc1 from HM9.out)
  clear HM9
  go_wp2_with (refine wpList_load_obj rfl 27 (.tmp 5) rfl (gx + 1) 0 rfl (prefC y (py : Int)) (HM.out.blk 2 rfl).all _ Tryz.underlying27 rfl HUY.out ?_; rw [HAY.out])
  refine (HFE.out _ (HLV.out.below HM.out.bel)).mono ?_
  rintro e wa2 ⟨rfl, hb⟩
  replace HM := Lib.hid (show Mem w [blkE ga 25 x.cells, blkE (gx + 1 + 1) 29 (prefC z (bz : Int)), blkE (gx + 1) 27 (prefC y (py : Int)), blkE gx 25 x.cells] wa2 from HM.out.below hb)
  clear hb
  go_wp2_with fail
  refine (HPE.out _ (HLV.out.below HM.out.bel)).mono ?_
  rintro e wb2 ⟨rfl, hb⟩
  replace HM := Lib.hid (show Mem w [blkE ga 25 x.cells, blkE (gx + 1 + 1) 29 (prefC z (bz : Int)), blkE (gx + 1) 27 (prefC y (py : Int)), blkE gx 25 x.cells] wb2 from HM.out.below hb)
  have HMZ := Lib.hid (show Mem w [blkE wb2.heap.size 27 (prefC addr0 0), blkE ga 25 x.cells, blkE (gx + 1 + 1) 29 (prefC z (bz : Int)), blkE (gx + 1) 27 (prefC y (py : Int)), blkE gx 25 x.cells] (wb2.alloc (.cells #[.bool false, .int .u8 0, .int .u8 0, .int .u8 0, .int .u8 0, .int .u8 0, .int .u8 0, .int .u8 0, .int .u8 0, .int .u8 0, .int .u8 0, .int .u8 0, .int .u8 0, .int .u8 0, .int .u8 0, .int .u8 0, .int .u8 0, .int .i64 0] 27)) from HM.out.alloc rfl 27 #[.bool false, .int .u8 0, .int .u8 0, .int .u8 0, .int .u8 0, .int .u8 0, .int .u8 0, .int .u8 0, .int .u8 0, .int .u8 0, .int .u8 0, .int .u8 0, .int .u8 0, .int .u8 0, .int .u8 0, .int .u8 0, .int .u8 0, .int .i64 0] (prefC addr0 0) rfl)
  clear hb HM
  go_upto_region 5 with (refine wpList_store_blk rfl 27 (.tmp 9) (.tmp 31) rfl wb2.heap.size (prefC y (py : Int)) rfl (by show Value.agg ay = _; rw [HAY.out]) 27 (prefC addr0 0) (HMZ.out.blk 0 rfl) HUY.out HLY.out (prefC_one _ _) ?_; intro wc2 hb hg; have HM9 := Lib.hid (HMZ.out.put 0 rfl _ hg hb))
  (try simp only [Act.put])
  clear hb hg HMZ
  generalize wb2.heap.size = gb at HM9 ⊢
  have HM := Lib.hid (show Mem w [blkE gb 27 (prefC y (py : Int)), blkE ga 25 x.cells, blkE (gx + 1 + 1) 29 (prefC z (bz : Int)), blkE (gx + 1) 27 (prefC y (py : Int)), blkE gx 25 x.cells] wc2 from HM9.out)
  clear HM9
  go_wp2_with (refine wpList_load_obj rfl 29 (.tmp 6) rfl (gx + 1 + 1) 0 rfl (prefC z (bz : Int)) (HM.out.blk 2 rfl).all _ Tryz.underlying29 rfl HUZ.out ?_; rw [HAZ.out])
  refine (HFP.out _ (HLV.out.below HM.out.bel)).mono ?_
  rintro e wa3 ⟨rfl, hb⟩
  replace HM := Lib.hid (show Mem w [blkE gb 27 (prefC y (py : Int)), blkE ga 25 x.cells, blkE (gx + 1 + 1) 29 (prefC z (bz : Int)), blkE (gx + 1) 27 (prefC y (py : Int)), blkE gx 25 x.cells] wa3 from HM.out.below hb)
  clear hb
  go_wp2_with fail
  refine (HPP.out _ (HLV.out.below HM.out.bel)).mono ?_
  rintro e wb3 ⟨rfl, hb⟩
  replace HM := Lib.hid (show Mem w [blkE gb 27 (prefC y (py : Int)), blkE ga 25 x.cells, blkE (gx + 1 + 1) 29 (prefC z (bz : Int)), blkE (gx + 1) 27 (prefC y (py : Int)), blkE gx 25 x.cells] wb3 from HM.out.below hb)
  have HMZ := Lib.hid (show Mem w [blkE wb3.heap.size 29 (prefC addr0 0), blkE gb 27 (prefC y (py : Int)), blkE ga 25 x.cells, blkE (gx + 1 + 1) 29 (prefC z (bz : Int)), blkE (gx + 1) 27 (prefC y (py : Int)), blkE gx 25 x.cells] (wb3.alloc (.cells #[.bool false, .int .u8 0, .int .u8 0, .int .u8 0, .int .u8 0, .int .u8 0, .int .u8 0, .int .u8 0, .int .u8 0, .int .u8 0, .int .u8 0, .int .u8 0, .int .u8 0, .int .u8 0, .int .u8 0, .int .u8 0, .int .u8 0, .int .i64 0] 29)) from HM.out.alloc rfl 29 #[.bool false, .int .u8 0, .int .u8 0, .int .u8 0, .int .u8 0, .int .u8 0, .int .u8 0, .int .u8 0, .int .u8 0, .int .u8 0, .int .u8 0, .int .u8 0, .int .u8 0, .int .u8 0, .int .u8 0, .int .u8 0, .int .u8 0, .int .i64 0] (prefC addr0 0) rfl)
  clear hb HM
  go_upto_region 6 with (refine wpList_store_blk rfl 29 (.tmp 11) (.tmp 37) rfl wb3.heap.size (prefC z (bz : Int)) rfl (by show Value.agg az = _; rw [HAZ.out]) 29 (prefC addr0 0) (HMZ.out.blk 0 rfl) HUZ.out HLZ.out (prefC_one _ _) ?_; intro wc3 hb hg; have HM9 := Lib.hid (HMZ.out.put 0 rfl _ hg hb))
  (try simp only [Act.put])
  clear hb hg HMZ
  generalize wb3.heap.size = gd at HM9 ⊢
  have HM := Lib.hid (show Mem w [blkE gd 29 (prefC z (bz : Int)), blkE gb 27 (prefC y (py : Int)), blkE ga 25 x.cells, blkE (gx + 1 + 1) 29 (prefC z (bz : Int)), blkE (gx + 1) 27 (prefC y (py : Int)), blkE gx 25 x.cells] wc3 from HM9.out)
  clear HM9
  go_wp2_with (first | (refine wpList_load_obj_g (by rfl) 25 (.tmp 7) rfl ga 0 rfl x.cells (HM.out.blk 2 rfl).all _ Tryz.underlying25 rfl HUX.out ?_; rw [HAX.out]) | (refine wpList_load_obj_g (by rfl) 25 (.tmp 4) rfl gx 0 rfl x.cells (HM.out.blk 5 rfl).all _ Tryz.underlying25 rfl HUX.out ?_; rw [HAX.out]) | (refine wpList_eql_agg (by rfl) 25 25 50 51 rfl ax ax true rfl rfl addr_noguard (HSX.out _) ?_) | (refine wpList_load_obj_g (by rfl) 27 (.tmp 9) rfl gb 0 rfl (prefC y (py : Int)) (HM.out.blk 1 rfl).all _ Tryz.underlying27 rfl HUY.out ?_; rw [HAY.out]) | (refine wpList_load_obj_g (by rfl) 27 (.tmp 5) rfl (gx + 1) 0 rfl (prefC y (py : Int)) (HM.out.blk 4 rfl).all _ Tryz.underlying27 rfl HUY.out ?_; rw [HAY.out]) | (refine wpList_eql_agg (by rfl) 27 27 55 56 rfl ay ay true rfl rfl end_noguard (HSY.out _) ?_) | (refine wpList_load_obj_g (by rfl) 29 (.tmp 11) rfl gd 0 rfl (prefC z (bz : Int)) (HM.out.blk 0 rfl).all _ Tryz.underlying29 rfl HUZ.out ?_; rw [HAZ.out]) | (refine wpList_load_obj_g (by rfl) 29 (.tmp 6) rfl (gx + 1 + 1) 0 rfl (prefC z (bz : Int)) (HM.out.blk 3 rfl).all _ Tryz.underlying29 rfl HUZ.out ?_; rw [HAZ.out]) | (refine wpList_eql_agg (by rfl) 29 29 60 61 rfl az az true rfl rfl pref_noguard (HSZ.out _) ?_))
  refine (HBG.out _ (HLV.out.below HM.out.bel)).mono ?_
  rintro e w9 ⟨rfl, hb⟩
  have HB := Lib.hid (HM.out.below hb).bel
  clear hb HM HBG
  go_wp2_with fail
  go_ret
  exact ⟨rfl, HB.out⟩
end Go.Proofs.YtkhghmmgegkiiaaGreatDoor
namespace Go.Proofs.YtkhghmmgegkiiaaGreatDoor
open Go.Shelf
def sh_lays156_ren : Go.Shelf.Ren := ⟨fun | 156 => 65 | 165 => 99 | 166 => 100 | 169 => 101 | 240 => 126 | 241 => 127 | 276 => 161 | 277 => 162 | n => n, fun | 31 => 39 | 9 => 9 | 3 => 3 | 4 => 4 | 0 => 0 | 20 => 20 | 72 => 136 | 76 => 138 | 70 => 134 | 37 => 22 | 75 => 128 | 127 => 153 | 164 => 182 | 5 => 5 | 80 => 140 | n => n, fun | n => n⟩
theorem sh_lays156 : Go.Proofs.Lays.n156 Tryz.prog sh_lays156_ren := {
  mixed := by kernel_rfl
  f156 := Tryz.func65.trans (congrArg some (by kernel_rfl))
  f165 := Tryz.func99.trans (congrArg some (by kernel_rfl))
  f166 := Tryz.func100.trans (congrArg some (by kernel_rfl))
  f169 := Tryz.func101.trans (congrArg some (by kernel_rfl))
  f240 := Tryz.func126.trans (congrArg some (by kernel_rfl))
  f241 := Tryz.func127.trans (congrArg some (by kernel_rfl))
  f276 := Tryz.func161.trans (congrArg some (by kernel_rfl))
  f277 := Tryz.func162.trans (congrArg some (by kernel_rfl))
  t0 := Tryz.underlying0
  a0 := Tryz.isAgg0
  z0 := Tryz.sizeOf0
  v0 := Tryz.zeroValue0
  t3 := Tryz.underlying3
  a3 := Tryz.isAgg3
  z3 := Tryz.sizeOf3
  v3 := Tryz.zeroValue3
  t4 := Tryz.underlying4
  a4 := Tryz.isAgg4
  z4 := Tryz.sizeOf4
  v4 := Tryz.zeroValue4
  t9 := Tryz.underlying9
  a9 := Tryz.isAgg9
  z9 := Tryz.sizeOf9
  v9 := Tryz.zeroValue9
  t20 := Tryz.underlying20
  a20 := Tryz.isAgg20
  z20 := Tryz.sizeOf20
  v20 := Tryz.zeroValue20
  t31 := Tryz.underlying39
  a31 := Tryz.isAgg39
  z31 := Tryz.sizeOf39
  v31 := Tryz.zeroValue39
  t37 := Tryz.underlying22
  a37 := Tryz.isAgg22
  z37 := Tryz.sizeOf22
  v37 := Tryz.zeroValue22
  t70 := Tryz.underlying134
  a70 := Tryz.isAgg134
  z70 := Tryz.sizeOf134
  v70 := Tryz.zeroValue134
  t72 := Tryz.underlying136
  a72 := Tryz.isAgg136
  z72 := Tryz.sizeOf136
  v72 := Tryz.zeroValue136
  t75 := Tryz.underlying128
  a75 := Tryz.isAgg128
  z75 := Tryz.sizeOf128
  v75 := Tryz.zeroValue128
  t76 := Tryz.underlying138
  a76 := Tryz.isAgg138
  z76 := Tryz.sizeOf138
  v76 := Tryz.zeroValue138
  t127 := Tryz.underlying153
  a127 := Tryz.isAgg153
  z127 := Tryz.sizeOf153
  v127 := Tryz.zeroValue153
  t164 := Tryz.underlying182
  a164 := Tryz.isAgg182
  z164 := Tryz.sizeOf182
  v164 := Tryz.zeroValue182 }
theorem sh_Builder_Extra_156 : Builder.Extra Tryz.prog sh_lays156_ren := {
  sizeBuilder := by kernel_rfl
  liesBuilder := by kernel_rfl
  t5 := Tryz.underlying5
  a5 := Tryz.isAgg5
  z5 := Tryz.sizeOf5
  v5 := Tryz.zeroValue5
  infoByte := by kernel_rfl
  cellsByte := by kernel_rfl
  sizeByte := by kernel_rfl
  neB5 := by decide }
open Go.RowKit in
theorem sh_strings_Join (bk o c : Nat) (xs : List ByteArray) (sep : ByteArray) (w : World) (hcells : ∀ (j : Nat) x, xs[j]? = some x → w.cell? ⟨bk, o + j, none⟩ = some (.string x)) (hbk : bk < w.heap.size) (hN : xs.length ≤ 140737488355328) (hcap : xs.length ≤ c) (hlen : (Lib.join (xs.map (·.data.toList)) sep.data.toList).length ≤ 140737488355328) :
    Calls Tryz.prog 65 #[.slice (some ⟨bk, o, none⟩) xs.length c, .string sep] w fun e w' => e = .returned (.string ⟨(Lib.join (xs.map (·.data.toList)) sep.data.toList).toArray⟩) ∧ Below w.heap.size w w' := Any.strings_Join sh_lays156 sh_Builder_Extra_156 bk o c xs sep w hcells hbk hN hcap hlen
def sh_laysM171_ren : Go.Shelf.Ren := ⟨fun | 171 => 49 | 243 => 85 | 246 => 116 | 283 => 142 | 284 => 143 | 285 => 144 | 286 => 145 | 129 => 170 | 317 => 169 | 318 => 171 | 319 => 172 | 320 => 173 | 337 => 191 | 338 => 192 | n => n, fun | 3 => 3 | 9 => 9 | 2 => 2 | 4 => 4 | 171 => 166 | 0 => 0 | 53 => 119 | 37 => 22 | 5 => 5 | 173 => 169 | 212 => 192 | 51 => 149 | 20 => 20 | 213 => 193 | 46 => 78 | 232 => 51 | 233 => 222 | n => n, fun | 17 => 1 | 18 => 6 | 19 => 7 | n => n⟩
theorem sh_laysM171 : Go.Proofs.LaysM.n171 Tryz.prog sh_laysM171_ren := {
  mixed := by kernel_rfl
  f129 := Tryz.func170.trans (congrArg some (by kernel_rfl))
  f171 := Tryz.func49.trans (congrArg some (by kernel_rfl))
  f243 := Tryz.func85.trans (congrArg some (by kernel_rfl))
  f246 := Tryz.func116.trans (congrArg some (by kernel_rfl))
  f283 := Tryz.func142.trans (congrArg some (by kernel_rfl))
  f284 := Tryz.func143.trans (congrArg some (by kernel_rfl))
  f285 := Tryz.func144.trans (congrArg some (by kernel_rfl))
  f286 := Tryz.func145.trans (congrArg some (by kernel_rfl))
  f317 := Tryz.func169.trans (congrArg some (by kernel_rfl))
  f318 := Tryz.func171.trans (congrArg some (by kernel_rfl))
  f319 := Tryz.func172.trans (congrArg some (by kernel_rfl))
  f320 := Tryz.func173.trans (congrArg some (by kernel_rfl))
  f337 := Tryz.func191.trans (congrArg some (by kernel_rfl))
  f338 := Tryz.func192.trans (congrArg some (by kernel_rfl))
  t0 := Tryz.underlying0
  a0 := Tryz.isAgg0
  z0 := Tryz.sizeOf0
  v0 := Tryz.zeroValue0
  t2 := Tryz.underlying2
  a2 := Tryz.isAgg2
  z2 := Tryz.sizeOf2
  v2 := Tryz.zeroValue2
  t3 := Tryz.underlying3
  a3 := Tryz.isAgg3
  z3 := Tryz.sizeOf3
  v3 := Tryz.zeroValue3
  t4 := Tryz.underlying4
  a4 := Tryz.isAgg4
  z4 := Tryz.sizeOf4
  v4 := Tryz.zeroValue4
  t5 := Tryz.underlying5
  a5 := Tryz.isAgg5
  z5 := Tryz.sizeOf5
  v5 := Tryz.zeroValue5
  t9 := Tryz.underlying9
  a9 := Tryz.isAgg9
  z9 := Tryz.sizeOf9
  v9 := Tryz.zeroValue9
  t20 := Tryz.underlying20
  a20 := Tryz.isAgg20
  z20 := Tryz.sizeOf20
  v20 := Tryz.zeroValue20
  t37 := Tryz.underlying22
  a37 := Tryz.isAgg22
  z37 := Tryz.sizeOf22
  v37 := Tryz.zeroValue22
  t46 := Tryz.underlying78
  a46 := Tryz.isAgg78
  z46 := Tryz.sizeOf78
  v46 := Tryz.zeroValue78
  t51 := Tryz.underlying149
  a51 := Tryz.isAgg149
  z51 := Tryz.sizeOf149
  v51 := Tryz.zeroValue149
  t53 := Tryz.underlying119
  a53 := Tryz.isAgg119
  z53 := Tryz.sizeOf119
  v53 := Tryz.zeroValue119
  t171 := Tryz.underlying166
  a171 := Tryz.isAgg166
  z171 := Tryz.sizeOf166
  v171 := Tryz.zeroValue166
  t173 := Tryz.underlying169
  a173 := Tryz.isAgg169
  z173 := Tryz.sizeOf169
  v173 := Tryz.zeroValue169
  t212 := Tryz.underlying192
  a212 := Tryz.isAgg192
  z212 := Tryz.sizeOf192
  v212 := Tryz.zeroValue192
  t213 := Tryz.underlying193
  a213 := Tryz.isAgg193
  z213 := Tryz.sizeOf193
  t232 := Tryz.underlying51
  a232 := Tryz.isAgg51
  z232 := Tryz.sizeOf51
  v232 := Tryz.zeroValue51
  t233 := Tryz.underlying222
  a233 := Tryz.isAgg222
  z233 := Tryz.sizeOf222
  v233 := Tryz.zeroValue222
  g17 := by kernel_rfl
  g18 := by kernel_rfl
  g19 := by kernel_rfl
  i0 := by kernel_rfl
  i2 := by kernel_rfl
  i3 := by kernel_rfl
  i4 := by kernel_rfl
  i5 := by kernel_rfl
  i9 := by kernel_rfl
  i20 := by kernel_rfl
  i37 := by kernel_rfl
  i46 := by kernel_rfl
  i51 := by kernel_rfl
  i53 := by kernel_rfl
  i171 := by kernel_rfl
  i173 := by kernel_rfl
  i212 := by kernel_rfl
  i232 := by kernel_rfl
  i233 := by kernel_rfl
  m17 := by kernel_rfl
  m18 := by kernel_rfl
  m19 := by kernel_rfl }
open Go.RowKit Go.Sort Go.Lib in
theorem sh_strconv_Itoa (n : Int) (h0 : -9223372036854775808 ≤ n) (h1 : n ≤ 9223372036854775807) (w : World) (htab : Lib.TabIs Tryz.prog w "internal/strconv.uint64pow10" .u64 Lib.pow10Tab) :
    Calls Tryz.prog 49 #[.int .i64 n] w fun e w' => e = .returned (.string ⟨(Lib.itoa n).toArray⟩) ∧ ∃ k os, w' = grow (w.drewN k) os := Any.strconv_Itoa sh_laysM171 n h0 h1 w htab
def sh_laysPu14_ren : Go.Shelf.Ren := ⟨fun | 14 => 95 | 16 => 124 | 17 => 125 | 19 => 155 | 20 => 156 | 21 => 157 | 22 => 158 | 23 => 159 | 24 => 160 | 25 => 180 | 27 => 49 | 26 => 181 | 28 => 85 | 29 => 116 | 30 => 142 | 31 => 143 | 32 => 144 | 33 => 145 | 35 => 170 | 34 => 169 | 36 => 171 | 37 => 172 | 38 => 173 | 39 => 191 | 40 => 192 | n => n, fun | 9 => 9 | 3 => 3 | 22 => 119 | 24 => 128 | 25 => 129 | 4 => 4 | 34 => 177 | 5 => 5 | 36 => 78 | 37 => 22 | 0 => 0 | 39 => 179 | 21 => 21 | 44 => 200 | 47 => 153 | 50 => 213 | 48 => 211 | 2 => 2 | 52 => 166 | 55 => 169 | 59 => 192 | 60 => 149 | 20 => 20 | 61 => 193 | 65 => 51 | 66 => 222 | 67 => 140 | n => n, fun | 0 => 2 | 1 => 3 | 2 => 1 | 3 => 6 | 4 => 7 | n => n⟩
theorem sh_laysPu14 : Go.Proofs.LaysPu.n14 Tryz.prog sh_laysPu14_ren := {
  mixed := by kernel_rfl
  f14 := Tryz.func95.trans (congrArg some (by kernel_rfl))
  f16 := Tryz.func124.trans (congrArg some (by kernel_rfl))
  f17 := Tryz.func125.trans (congrArg some (by kernel_rfl))
  f19 := Tryz.func155.trans (congrArg some (by kernel_rfl))
  f20 := Tryz.func156.trans (congrArg some (by kernel_rfl))
  f21 := Tryz.func157.trans (congrArg some (by kernel_rfl))
  f22 := Tryz.func158.trans (congrArg some (by kernel_rfl))
  f23 := Tryz.func159.trans (congrArg some (by kernel_rfl))
  f24 := Tryz.func160.trans (congrArg some (by kernel_rfl))
  f25 := Tryz.func180.trans (congrArg some (by kernel_rfl))
  f26 := Tryz.func181.trans (congrArg some (by kernel_rfl))
  f27 := Tryz.func49.trans (congrArg some (by kernel_rfl))
  f28 := Tryz.func85.trans (congrArg some (by kernel_rfl))
  f29 := Tryz.func116.trans (congrArg some (by kernel_rfl))
  f30 := Tryz.func142.trans (congrArg some (by kernel_rfl))
  f31 := Tryz.func143.trans (congrArg some (by kernel_rfl))
  f32 := Tryz.func144.trans (congrArg some (by kernel_rfl))
  f33 := Tryz.func145.trans (congrArg some (by kernel_rfl))
  f34 := Tryz.func169.trans (congrArg some (by kernel_rfl))
  f35 := Tryz.func170.trans (congrArg some (by kernel_rfl))
  f36 := Tryz.func171.trans (congrArg some (by kernel_rfl))
  f37 := Tryz.func172.trans (congrArg some (by kernel_rfl))
  f38 := Tryz.func173.trans (congrArg some (by kernel_rfl))
  f39 := Tryz.func191.trans (congrArg some (by kernel_rfl))
  f40 := Tryz.func192.trans (congrArg some (by kernel_rfl))
  t0 := Tryz.underlying0
  a0 := Tryz.isAgg0
  z0 := Tryz.sizeOf0
  v0 := Tryz.zeroValue0
  i0 := by kernel_rfl
  t2 := Tryz.underlying2
  a2 := Tryz.isAgg2
  z2 := Tryz.sizeOf2
  v2 := Tryz.zeroValue2
  i2 := by kernel_rfl
  t3 := Tryz.underlying3
  a3 := Tryz.isAgg3
  z3 := Tryz.sizeOf3
  v3 := Tryz.zeroValue3
  i3 := by kernel_rfl
  t4 := Tryz.underlying4
  a4 := Tryz.isAgg4
  z4 := Tryz.sizeOf4
  v4 := Tryz.zeroValue4
  i4 := by kernel_rfl
  t5 := Tryz.underlying5
  a5 := Tryz.isAgg5
  z5 := Tryz.sizeOf5
  v5 := Tryz.zeroValue5
  i5 := by kernel_rfl
  t9 := Tryz.underlying9
  a9 := Tryz.isAgg9
  z9 := Tryz.sizeOf9
  v9 := Tryz.zeroValue9
  i9 := by kernel_rfl
  t20 := Tryz.underlying20
  a20 := Tryz.isAgg20
  z20 := Tryz.sizeOf20
  v20 := Tryz.zeroValue20
  i20 := by kernel_rfl
  t21 := Tryz.underlying21
  a21 := Tryz.isAgg21
  z21 := Tryz.sizeOf21
  v21 := Tryz.zeroValue21
  i21 := by kernel_rfl
  t22 := Tryz.underlying119
  a22 := Tryz.isAgg119
  z22 := Tryz.sizeOf119
  v22 := Tryz.zeroValue119
  i22 := by kernel_rfl
  t24 := Tryz.underlying128
  a24 := Tryz.isAgg128
  z24 := Tryz.sizeOf128
  v24 := Tryz.zeroValue128
  i24 := by kernel_rfl
  t25 := Tryz.underlying129
  a25 := Tryz.isAgg129
  z25 := Tryz.sizeOf129
  v25 := Tryz.zeroValue129
  i25 := by kernel_rfl
  t34 := Tryz.underlying177
  a34 := Tryz.isAgg177
  z34 := Tryz.sizeOf177
  v34 := Tryz.zeroValue177
  i34 := by kernel_rfl
  c34 := by kernel_rfl
  t36 := Tryz.underlying78
  a36 := Tryz.isAgg78
  z36 := Tryz.sizeOf78
  v36 := Tryz.zeroValue78
  i36 := by kernel_rfl
  t37 := Tryz.underlying22
  a37 := Tryz.isAgg22
  z37 := Tryz.sizeOf22
  v37 := Tryz.zeroValue22
  i37 := by kernel_rfl
  t39 := Tryz.underlying179
  a39 := Tryz.isAgg179
  z39 := Tryz.sizeOf179
  v39 := Tryz.zeroValue179
  i39 := by kernel_rfl
  t44 := Tryz.underlying200
  a44 := Tryz.isAgg200
  z44 := Tryz.sizeOf200
  v44 := Tryz.zeroValue200
  i44 := by kernel_rfl
  t47 := Tryz.underlying153
  a47 := Tryz.isAgg153
  z47 := Tryz.sizeOf153
  v47 := Tryz.zeroValue153
  i47 := by kernel_rfl
  t48 := Tryz.underlying211
  a48 := Tryz.isAgg211
  z48 := Tryz.sizeOf211
  v48 := Tryz.zeroValue211
  i48 := by kernel_rfl
  t50 := Tryz.underlying213
  a50 := Tryz.isAgg213
  z50 := Tryz.sizeOf213
  v50 := Tryz.zeroValue213
  i50 := by kernel_rfl
  t52 := Tryz.underlying166
  a52 := Tryz.isAgg166
  z52 := Tryz.sizeOf166
  v52 := Tryz.zeroValue166
  i52 := by kernel_rfl
  t55 := Tryz.underlying169
  a55 := Tryz.isAgg169
  z55 := Tryz.sizeOf169
  v55 := Tryz.zeroValue169
  i55 := by kernel_rfl
  t59 := Tryz.underlying192
  a59 := Tryz.isAgg192
  z59 := Tryz.sizeOf192
  v59 := Tryz.zeroValue192
  i59 := by kernel_rfl
  t60 := Tryz.underlying149
  a60 := Tryz.isAgg149
  z60 := Tryz.sizeOf149
  v60 := Tryz.zeroValue149
  i60 := by kernel_rfl
  t61 := Tryz.underlying193
  a61 := Tryz.isAgg193
  z61 := Tryz.sizeOf193
  t65 := Tryz.underlying51
  a65 := Tryz.isAgg51
  z65 := Tryz.sizeOf51
  v65 := Tryz.zeroValue51
  i65 := by kernel_rfl
  t66 := Tryz.underlying222
  a66 := Tryz.isAgg222
  z66 := Tryz.sizeOf222
  v66 := Tryz.zeroValue222
  i66 := by kernel_rfl
  t67 := Tryz.underlying140
  a67 := Tryz.isAgg140
  z67 := Tryz.sizeOf140
  v67 := Tryz.zeroValue140
  i67 := by kernel_rfl
  g0 := by kernel_rfl
  m0 := by kernel_rfl
  g1 := by kernel_rfl
  m1 := by kernel_rfl
  g2 := by kernel_rfl
  m2 := by kernel_rfl
  g3 := by kernel_rfl
  m3 := by kernel_rfl
  g4 := by kernel_rfl
  m4 := by kernel_rfl }
open Go.RowKit in
theorem sh_strconv_ParseUint_10_at64_ok (s : ByteArray) (hmax : s.size ≤ 9223372036854775806) (u : Nat) (h : Lib.parseUintB 64 s.data.toList = .ok u) (w : World) :
    Calls Tryz.prog 95 #[.string s, .int .i64 10, .int .i64 64] w fun e w' => e = .returned (.tuple #[.int .u64 u, .nilIface]) ∧ (w' = w ∨ w' = Lib.bytesWorld w 5 s) := Any.strconv_ParseUint_10_at64_ok sh_laysPu14 s hmax u h w
open Go.RowKit in
theorem sh_strconv_ParseUint_10_at64_syntax_var (s : ByteArray) (hlim : s.size ≤ 281474976710656) (h : Lib.parseUintB 64 s.data.toList = .«syntax») (tp : TypeId) (p : Value) (w : World) (hvar : w.var? Tryz.prog "strconv.ErrSyntax" = some #[.iface tp p]) :
    Calls Tryz.prog 95 #[.string s, .int .i64 10, .int .i64 64] w fun e w' => ∃ N, e = .returned (.tuple #[.int .u64 0, .iface 179 (.pointer (some ⟨N, 0, none⟩))]) ∧ w.heap.size ≤ N ∧ w'.heap[N]? = some (.cells #[.string ⟨#[80, 97, 114, 115, 101, 85, 105, 110, 116]⟩, .string s, .iface tp p] 200 (0, 0)) ∧ Below w.heap.size w w' := Any.strconv_ParseUint_10_at64_syntax_var sh_laysPu14 s hlim h tp p w hvar
def sh_lays144_ren : Go.Shelf.Ren := ⟨fun | 144 => 52 | 143 => 88 | 219 => 117 | 217 => 146 | 225 => 147 | 224 => 148 | 267 => 149 | 266 => 174 | 314 => 175 | n => n, fun | 9 => 9 | 4 => 4 | 3 => 3 | 5 => 5 | 46 => 78 | 146 => 150 | 51 => 149 | n => n, fun | 1 => 0 | n => n⟩
theorem sh_lays144 : Go.Proofs.Lays.n144 Tryz.prog sh_lays144_ren := {
  mixed := by kernel_rfl
  f143 := Tryz.func88.trans (congrArg some (by kernel_rfl))
  f144 := Tryz.func52.trans (congrArg some (by kernel_rfl))
  f217 := Tryz.func146.trans (congrArg some (by kernel_rfl))
  f219 := Tryz.func117.trans (congrArg some (by kernel_rfl))
  f224 := Tryz.func148.trans (congrArg some (by kernel_rfl))
  f225 := Tryz.func147.trans (congrArg some (by kernel_rfl))
  f266 := Tryz.func174.trans (congrArg some (by kernel_rfl))
  f267 := Tryz.func149.trans (congrArg some (by kernel_rfl))
  f314 := Tryz.func175.trans (congrArg some (by kernel_rfl))
  t3 := Tryz.underlying3
  a3 := Tryz.isAgg3
  z3 := Tryz.sizeOf3
  v3 := Tryz.zeroValue3
  t4 := Tryz.underlying4
  a4 := Tryz.isAgg4
  z4 := Tryz.sizeOf4
  v4 := Tryz.zeroValue4
  t5 := Tryz.underlying5
  a5 := Tryz.isAgg5
  z5 := Tryz.sizeOf5
  v5 := Tryz.zeroValue5
  t9 := Tryz.underlying9
  a9 := Tryz.isAgg9
  z9 := Tryz.sizeOf9
  v9 := Tryz.zeroValue9
  t46 := Tryz.underlying78
  a46 := Tryz.isAgg78
  z46 := Tryz.sizeOf78
  v46 := Tryz.zeroValue78
  t51 := Tryz.underlying149
  a51 := Tryz.isAgg149
  z51 := Tryz.sizeOf149
  v51 := Tryz.zeroValue149
  t146 := Tryz.underlying150
  a146 := Tryz.isAgg150
  z146 := Tryz.sizeOf150
  v146 := Tryz.zeroValue150
  g1 := by kernel_rfl }
open Go.RowKit Go.Lib in
theorem sh_strings_Contains_one (s : ByteArray) (c : UInt8) (w : World) :
    Calls Tryz.prog 52 #[.string s, .string ⟨#[c]⟩] w fun e w' => e = .returned (.bool (decide (0 ≤ Lib.indexByte s.data.toList c))) ∧ w' = w := Any.strings_Contains_one sh_lays144 s c w
def sh_lays145_ren : Go.Shelf.Ren := ⟨fun | 145 => 58 | 220 => 96 | 219 => 117 | 217 => 146 | 225 => 147 | 224 => 148 | 267 => 149 | 266 => 174 | 314 => 175 | n => n, fun | 9 => 9 | 4 => 4 | 59 => 89 | 3 => 3 | 5 => 5 | 46 => 78 | 146 => 150 | 51 => 149 | n => n, fun | 1 => 0 | n => n⟩
theorem sh_lays145 : Go.Proofs.Lays.n145 Tryz.prog sh_lays145_ren := {
  mixed := by kernel_rfl
  f145 := Tryz.func58.trans (congrArg some (by kernel_rfl))
  f217 := Tryz.func146.trans (congrArg some (by kernel_rfl))
  f219 := Tryz.func117.trans (congrArg some (by kernel_rfl))
  f220 := Tryz.func96.trans (congrArg some (by kernel_rfl))
  f224 := Tryz.func148.trans (congrArg some (by kernel_rfl))
  f225 := Tryz.func147.trans (congrArg some (by kernel_rfl))
  f266 := Tryz.func174.trans (congrArg some (by kernel_rfl))
  f267 := Tryz.func149.trans (congrArg some (by kernel_rfl))
  f314 := Tryz.func175.trans (congrArg some (by kernel_rfl))
  t3 := Tryz.underlying3
  a3 := Tryz.isAgg3
  z3 := Tryz.sizeOf3
  v3 := Tryz.zeroValue3
  t4 := Tryz.underlying4
  a4 := Tryz.isAgg4
  z4 := Tryz.sizeOf4
  v4 := Tryz.zeroValue4
  t5 := Tryz.underlying5
  a5 := Tryz.isAgg5
  z5 := Tryz.sizeOf5
  v5 := Tryz.zeroValue5
  t9 := Tryz.underlying9
  a9 := Tryz.isAgg9
  z9 := Tryz.sizeOf9
  v9 := Tryz.zeroValue9
  t46 := Tryz.underlying78
  a46 := Tryz.isAgg78
  z46 := Tryz.sizeOf78
  v46 := Tryz.zeroValue78
  t51 := Tryz.underlying149
  a51 := Tryz.isAgg149
  z51 := Tryz.sizeOf149
  v51 := Tryz.zeroValue149
  t59 := Tryz.underlying89
  a59 := Tryz.isAgg89
  z59 := Tryz.sizeOf89
  v59 := Tryz.zeroValue89
  t146 := Tryz.underlying150
  a146 := Tryz.isAgg150
  z146 := Tryz.sizeOf150
  v146 := Tryz.zeroValue150
  g1 := by kernel_rfl }
open Go.RowKit Go.Lib in
theorem sh_strings_Cut (s sep : ByteArray) (m : Int) (w : World) (hs : s.size < 4294967281) (hm : w.cell? ⟨0, 0, none⟩ = some (.int .i64 m)) :
    Calls Tryz.prog 58 #[.string s, .string sep] w fun e w' => e = .returned (.tuple #[.string ⟨(Lib.cut s.data.toList sep.data.toList).1.toArray⟩, .string ⟨(Lib.cut s.data.toList sep.data.toList).2.1.toArray⟩, .bool (Lib.cut s.data.toList sep.data.toList).2.2]) ∧ ∃ n, w' = w.drewN n := Any.strings_Cut sh_lays145 s sep m w hs hm
def sh_lays148_ren : Go.Shelf.Ren := ⟨fun | 148 => 55 | 222 => 91 | 223 => 92 | 269 => 121 | n => n, fun | 9 => 9 | 3 => 3 | 4 => 4 | 5 => 5 | 146 => 150 | 51 => 149 | 46 => 78 | n => n, fun | n => n⟩
theorem sh_lays148 : Go.Proofs.Lays.n148 Tryz.prog sh_lays148_ren := {
  mixed := by kernel_rfl
  f148 := Tryz.func55.trans (congrArg some (by kernel_rfl))
  f222 := Tryz.func91.trans (congrArg some (by kernel_rfl))
  f223 := Tryz.func92.trans (congrArg some (by kernel_rfl))
  f269 := Tryz.func121.trans (congrArg some (by kernel_rfl))
  t3 := Tryz.underlying3
  a3 := Tryz.isAgg3
  z3 := Tryz.sizeOf3
  v3 := Tryz.zeroValue3
  t4 := Tryz.underlying4
  a4 := Tryz.isAgg4
  z4 := Tryz.sizeOf4
  v4 := Tryz.zeroValue4
  t5 := Tryz.underlying5
  a5 := Tryz.isAgg5
  z5 := Tryz.sizeOf5
  v5 := Tryz.zeroValue5
  t9 := Tryz.underlying9
  a9 := Tryz.isAgg9
  z9 := Tryz.sizeOf9
  v9 := Tryz.zeroValue9
  t46 := Tryz.underlying78
  a46 := Tryz.isAgg78
  z46 := Tryz.sizeOf78
  v46 := Tryz.zeroValue78
  t51 := Tryz.underlying149
  a51 := Tryz.isAgg149
  z51 := Tryz.sizeOf149
  v51 := Tryz.zeroValue149
  t146 := Tryz.underlying150
  a146 := Tryz.isAgg150
  z146 := Tryz.sizeOf150
  v146 := Tryz.zeroValue150 }
open Go.RowKit Go.Lib in
theorem sh_strings_LastIndex_one (s sub : ByteArray) (h1 : sub.size = 1) (hs : s.size < 4611686018427387904) (w : World) :
    Calls Tryz.prog 55 #[.string s, .string sub] w fun e w' => e = .returned (.int .i64 (Lib.lastIndexByte s ((sub[0]'(by omega)).toNat : Int))) ∧ w' = w := Any.strings_LastIndex_one sh_lays148 s sub h1 hs w
def sh_lays99_ren : Go.Shelf.Ren := ⟨fun | 99 => 93 | 206 => 122 | n => n, fun | 9 => 9 | 4 => 4 | 3 => 3 | n => n, fun | n => n⟩
theorem sh_lays99 : Go.Proofs.Lays.n99 Tryz.prog sh_lays99_ren := {
  mixed := by kernel_rfl
  f99 := Tryz.func93.trans (congrArg some (by kernel_rfl))
  f206 := Tryz.func122.trans (congrArg some (by kernel_rfl))
  t3 := Tryz.underlying3
  a3 := Tryz.isAgg3
  z3 := Tryz.sizeOf3
  v3 := Tryz.zeroValue3
  t4 := Tryz.underlying4
  a4 := Tryz.isAgg4
  z4 := Tryz.sizeOf4
  v4 := Tryz.zeroValue4
  t9 := Tryz.underlying9
  a9 := Tryz.isAgg9
  z9 := Tryz.sizeOf9
  v9 := Tryz.zeroValue9 }
open Go.RowKit Go.Lib in
theorem sh_strings_HasPrefix (s p : ByteArray) (w : World) :
    Calls Tryz.prog 93 #[.string s, .string p] w fun e w' => e = .returned (.bool (Lib.hasPrefix s.data.toList p.data.toList)) ∧ w' = w := Any.strings_HasPrefix sh_lays99 s p w
def sh_lays100_ren : Go.Shelf.Ren := ⟨fun | 100 => 94 | 207 => 123 | n => n, fun | 9 => 9 | 4 => 4 | 3 => 3 | n => n, fun | n => n⟩
theorem sh_lays100 : Go.Proofs.Lays.n100 Tryz.prog sh_lays100_ren := {
  mixed := by kernel_rfl
  f100 := Tryz.func94.trans (congrArg some (by kernel_rfl))
  f207 := Tryz.func123.trans (congrArg some (by kernel_rfl))
  t3 := Tryz.underlying3
  a3 := Tryz.isAgg3
  z3 := Tryz.sizeOf3
  v3 := Tryz.zeroValue3
  t4 := Tryz.underlying4
  a4 := Tryz.isAgg4
  z4 := Tryz.sizeOf4
  v4 := Tryz.zeroValue4
  t9 := Tryz.underlying9
  a9 := Tryz.isAgg9
  z9 := Tryz.sizeOf9
  v9 := Tryz.zeroValue9 }
open Go.RowKit Go.Lib in
theorem sh_strings_HasSuffix (s p : ByteArray) (w : World) (hs : s.size ≤ 9223372036854775807) :
    Calls Tryz.prog 94 #[.string s, .string p] w fun e w' => e = .returned (.bool (Lib.hasSuffix s.data.toList p.data.toList)) ∧ w' = w := Any.strings_HasSuffix sh_lays100 s p w hs
def sh_lays147_ren : Go.Shelf.Ren := ⟨fun | 147 => 89 | 221 => 118 | 268 => 150 | 138 => 151 | 143 => 88 | 195 => 176 | 197 => 166 | 218 => 177 | 219 => 117 | 260 => 188 | 217 => 146 | 225 => 147 | 224 => 148 | 267 => 149 | 266 => 174 | 314 => 175 | n => n, fun | 9 => 9 | 3 => 3 | 31 => 39 | 4 => 4 | 0 => 0 | 105 => 188 | 21 => 21 | 5 => 5 | 46 => 78 | 119 => 217 | 139 => 220 | 138 => 219 | 146 => 150 | 51 => 149 | n => n, fun | 1 => 0 | 3 => 4 | 4 => 5 | n => n⟩
theorem sh_lays147 : Go.Proofs.Lays.n147 Tryz.prog sh_lays147_ren := {
  mixed := by kernel_rfl
  f138 := Tryz.func151.trans (congrArg some (by kernel_rfl))
  f143 := Tryz.func88.trans (congrArg some (by kernel_rfl))
  f147 := Tryz.func89.trans (congrArg some (by kernel_rfl))
  f195 := Tryz.func176.trans (congrArg some (by kernel_rfl))
  f197 := Tryz.func166.trans (congrArg some (by kernel_rfl))
  f217 := Tryz.func146.trans (congrArg some (by kernel_rfl))
  f218 := Tryz.func177.trans (congrArg some (by kernel_rfl))
  f219 := Tryz.func117.trans (congrArg some (by kernel_rfl))
  f221 := Tryz.func118.trans (congrArg some (by kernel_rfl))
  f224 := Tryz.func148.trans (congrArg some (by kernel_rfl))
  f225 := Tryz.func147.trans (congrArg some (by kernel_rfl))
  f260 := Tryz.func188.trans (congrArg some (by kernel_rfl))
  f266 := Tryz.func174.trans (congrArg some (by kernel_rfl))
  f267 := Tryz.func149.trans (congrArg some (by kernel_rfl))
  f268 := Tryz.func150.trans (congrArg some (by kernel_rfl))
  f314 := Tryz.func175.trans (congrArg some (by kernel_rfl))
  t0 := Tryz.underlying0
  a0 := Tryz.isAgg0
  z0 := Tryz.sizeOf0
  v0 := Tryz.zeroValue0
  t3 := Tryz.underlying3
  a3 := Tryz.isAgg3
  z3 := Tryz.sizeOf3
  v3 := Tryz.zeroValue3
  t4 := Tryz.underlying4
  a4 := Tryz.isAgg4
  z4 := Tryz.sizeOf4
  v4 := Tryz.zeroValue4
  t5 := Tryz.underlying5
  a5 := Tryz.isAgg5
  z5 := Tryz.sizeOf5
  v5 := Tryz.zeroValue5
  t9 := Tryz.underlying9
  a9 := Tryz.isAgg9
  z9 := Tryz.sizeOf9
  v9 := Tryz.zeroValue9
  t21 := Tryz.underlying21
  a21 := Tryz.isAgg21
  z21 := Tryz.sizeOf21
  v21 := Tryz.zeroValue21
  t31 := Tryz.underlying39
  a31 := Tryz.isAgg39
  z31 := Tryz.sizeOf39
  v31 := Tryz.zeroValue39
  t46 := Tryz.underlying78
  a46 := Tryz.isAgg78
  z46 := Tryz.sizeOf78
  v46 := Tryz.zeroValue78
  t51 := Tryz.underlying149
  a51 := Tryz.isAgg149
  z51 := Tryz.sizeOf149
  v51 := Tryz.zeroValue149
  t105 := Tryz.underlying188
  a105 := Tryz.isAgg188
  z105 := Tryz.sizeOf188
  v105 := Tryz.zeroValue188
  t119 := Tryz.underlying217
  a119 := Tryz.isAgg217
  z119 := Tryz.sizeOf217
  t138 := Tryz.underlying219
  a138 := Tryz.isAgg219
  z138 := Tryz.sizeOf219
  v138 := Tryz.zeroValue219
  t139 := Tryz.underlying220
  a139 := Tryz.isAgg220
  z139 := Tryz.sizeOf220
  v139 := Tryz.zeroValue220
  t146 := Tryz.underlying150
  a146 := Tryz.isAgg150
  z146 := Tryz.sizeOf150
  v146 := Tryz.zeroValue150
  g1 := by kernel_rfl
  g3 := by kernel_rfl
  g4 := by kernel_rfl }
open Go.RowKit Go.Lib in
theorem sh_strings_SplitN (s sep : ByteArray) (n : Nat) (m : Int) (w : World) (hs : s.size < 4294967281) (hm : w.cell? ⟨0, 0, none⟩ = some (.int .i64 m)) (h1 : 1 ≤ sep.size) (hn : 1 ≤ n) (hn63 : n ≤ 9223372036854775807) :
    Calls Tryz.prog 89 #[.string s, .string sep, .int .i64 n] w fun e w' =>
      e = .returned (.slice (some ⟨w.heap.size, 0, none⟩) (Lib.splitB sep 0 (min n (s.size + 1) - 1) s).length (min n (s.size + 1))) ∧ w' = w.alloc (.cells (Lib.cellsOf (Lib.splitB sep 0 (min n (s.size + 1) - 1) s) (min n (s.size + 1))) 9) := Any.strings_SplitN sh_lays147 (by kernel_rfl) s sep n m w hs hm h1 hn hn63
def sh_lays105_ren : Go.Shelf.Ren := ⟨fun | 105 => 120 | 212 => 153 | 99 => 93 | 165 => 99 | 166 => 100 | 170 => 154 | 169 => 101 | 263 => 178 | 264 => 179 | 206 => 122 | 240 => 126 | 241 => 127 | 276 => 161 | 277 => 162 | n => n, fun | 9 => 9 | 3 => 3 | 4 => 4 | 20 => 20 | 0 => 0 | 46 => 78 | 109 => 174 | 5 => 5 | 72 => 136 | 76 => 138 | 51 => 149 | 146 => 150 | 53 => 119 | 148 => 196 | 70 => 134 | 37 => 22 | 75 => 128 | 127 => 153 | 164 => 182 | 80 => 140 | n => n, fun | n => n⟩
theorem sh_lays105 : Go.Proofs.Lays.n105 Tryz.prog sh_lays105_ren := {
  mixed := by kernel_rfl
  f99 := Tryz.func93.trans (congrArg some (by kernel_rfl))
  f105 := Tryz.func120.trans (congrArg some (by kernel_rfl))
  f165 := Tryz.func99.trans (congrArg some (by kernel_rfl))
  f166 := Tryz.func100.trans (congrArg some (by kernel_rfl))
  f169 := Tryz.func101.trans (congrArg some (by kernel_rfl))
  f170 := Tryz.func154.trans (congrArg some (by kernel_rfl))
  f206 := Tryz.func122.trans (congrArg some (by kernel_rfl))
  f212 := Tryz.func153.trans (congrArg some (by kernel_rfl))
  f240 := Tryz.func126.trans (congrArg some (by kernel_rfl))
  f241 := Tryz.func127.trans (congrArg some (by kernel_rfl))
  f263 := Tryz.func178.trans (congrArg some (by kernel_rfl))
  f264 := Tryz.func179.trans (congrArg some (by kernel_rfl))
  f276 := Tryz.func161.trans (congrArg some (by kernel_rfl))
  f277 := Tryz.func162.trans (congrArg some (by kernel_rfl))
  t0 := Tryz.underlying0
  a0 := Tryz.isAgg0
  z0 := Tryz.sizeOf0
  v0 := Tryz.zeroValue0
  t3 := Tryz.underlying3
  a3 := Tryz.isAgg3
  z3 := Tryz.sizeOf3
  v3 := Tryz.zeroValue3
  t4 := Tryz.underlying4
  a4 := Tryz.isAgg4
  z4 := Tryz.sizeOf4
  v4 := Tryz.zeroValue4
  t5 := Tryz.underlying5
  a5 := Tryz.isAgg5
  z5 := Tryz.sizeOf5
  v5 := Tryz.zeroValue5
  t9 := Tryz.underlying9
  a9 := Tryz.isAgg9
  z9 := Tryz.sizeOf9
  v9 := Tryz.zeroValue9
  t20 := Tryz.underlying20
  a20 := Tryz.isAgg20
  z20 := Tryz.sizeOf20
  v20 := Tryz.zeroValue20
  t37 := Tryz.underlying22
  a37 := Tryz.isAgg22
  z37 := Tryz.sizeOf22
  v37 := Tryz.zeroValue22
  t46 := Tryz.underlying78
  a46 := Tryz.isAgg78
  z46 := Tryz.sizeOf78
  v46 := Tryz.zeroValue78
  t51 := Tryz.underlying149
  a51 := Tryz.isAgg149
  z51 := Tryz.sizeOf149
  v51 := Tryz.zeroValue149
  t53 := Tryz.underlying119
  a53 := Tryz.isAgg119
  z53 := Tryz.sizeOf119
  v53 := Tryz.zeroValue119
  t70 := Tryz.underlying134
  a70 := Tryz.isAgg134
  z70 := Tryz.sizeOf134
  v70 := Tryz.zeroValue134
  t72 := Tryz.underlying136
  a72 := Tryz.isAgg136
  z72 := Tryz.sizeOf136
  v72 := Tryz.zeroValue136
  t75 := Tryz.underlying128
  a75 := Tryz.isAgg128
  z75 := Tryz.sizeOf128
  v75 := Tryz.zeroValue128
  t76 := Tryz.underlying138
  a76 := Tryz.isAgg138
  z76 := Tryz.sizeOf138
  v76 := Tryz.zeroValue138
  t109 := Tryz.underlying174
  a109 := Tryz.isAgg174
  z109 := Tryz.sizeOf174
  v109 := Tryz.zeroValue174
  t127 := Tryz.underlying153
  a127 := Tryz.isAgg153
  z127 := Tryz.sizeOf153
  v127 := Tryz.zeroValue153
  t146 := Tryz.underlying150
  a146 := Tryz.isAgg150
  z146 := Tryz.sizeOf150
  v146 := Tryz.zeroValue150
  t148 := Tryz.underlying196
  a148 := Tryz.isAgg196
  z148 := Tryz.sizeOf196
  v148 := Tryz.zeroValue196
  t164 := Tryz.underlying182
  a164 := Tryz.isAgg182
  z164 := Tryz.sizeOf182
  v164 := Tryz.zeroValue182 }
theorem sh_Builder_Extra_105 : Builder.Extra Tryz.prog sh_lays105_ren := {
  sizeBuilder := by kernel_rfl
  liesBuilder := by kernel_rfl
  t5 := Tryz.underlying5
  a5 := Tryz.isAgg5
  z5 := Tryz.sizeOf5
  v5 := Tryz.zeroValue5
  infoByte := by kernel_rfl
  cellsByte := by kernel_rfl
  sizeByte := by kernel_rfl
  neB5 := by decide }
open Go.RowKit Go.Lib in
theorem sh_strings_Repeat (s : ByteArray) (c : Nat) (w : World) (hc : c ≤ 9223372036854775807) (hlen : s.size * c ≤ 140737488355328) :
    Calls Tryz.prog 120 #[.string s, .int .i64 c] w fun e w' => e = .returned (.string ⟨(Lib.repeatL s.data.toList c).toArray⟩) ∧ Below w.heap.size w w' := Any.strings_Repeat sh_lays105 sh_Builder_Extra_105 s c w hc hlen
end Go.Proofs.YtkhghmmgegkiiaaGreatDoor
namespace Go.Proofs.YtkhghmmgegkiiaaGreatDoor
open Go.RowKit

theorem add_text (x y : List UInt8) (hx : x.length ≤ 1000000) (hy : y.length ≤ 1000000) (W : World) : (Op.stringOp .add ⟨x.toArray⟩ ⟨y.toArray⟩).run Tryz.prog W = .ok (.string ⟨(x ++ y).toArray⟩) W :=
  run_string_add_lists W x y (by omega) (by omega)
end Go.Proofs.YtkhghmmgegkiiaaGreatDoor
namespace Go.Proofs.YtkhghmmgegkiiaaGreatDoor
open Go.RowKit

theorem ret_string {a b : ByteArray} (h : a.data.toList = b.data.toList) : Ending.returned (.string a) = .returned (.string b) := by rw [Go.WideShapes.bytes_inj h]

end Go.Proofs.YtkhghmmgegkiiaaGreatDoor
namespace Go.Proofs.YtkhghmmgegkiiaaGreatDoor
open Go.RowKit

theorem numV_lt (l : List UInt8) (h : l.all isDig = true) : numV l < 10 ^ l.length := by
  have : ∀ (l : List UInt8) (a : Nat), l.all isDig = true → l.foldl (fun n c => 10 * n + (c.toNat - 48)) a < (a + 1) * 10 ^ l.length := by
    intro l
    induction l with
    | nil => intro a _; simp
    | cons c r ih =>
      intro a hr
      rw [List.all_cons, Bool.and_eq_true] at hr
      have hc := of_decide_eq_true hr.1
      have h1 := ih (10 * a + (c.toNat - 48)) hr.2
      rw [List.foldl_cons, List.length_cons, Nat.pow_succ]
      refine Nat.lt_of_lt_of_le h1 ?_
      have h2 : 10 * a + (c.toNat - 48) + 1 ≤ (a + 1) * 10 := by omega
      calc _ ≤ (a + 1) * 10 * 10 ^ r.length := Nat.mul_le_mul_right _ h2
        _ = (a + 1) * (10 ^ r.length * 10) := by rw [Nat.mul_assoc, Nat.mul_comm 10]
  have h2 := this l 0 h
  rw [Nat.zero_add, Nat.one_mul] at h2
  exact h2
end Go.Proofs.YtkhghmmgegkiiaaGreatDoor
namespace Go.Proofs.YtkhghmmgegkiiaaGreatDoor
open Go.RowKit

theorem dec_lib (n : Nat) : Lib.decDigits n = decT n := by
  induction n using Nat.strongRecOn with
  | ind n ih =>
    by_cases h : n < 10
    · rw [decT_small h, Lib.decDigits, dif_pos h]
    · rw [decT_big h, Lib.decDigits, dif_neg h, ih _ (by omega)]
theorem itoa_lib (n : Int) (h : 0 ≤ n) : Lib.itoa n = decT n.toNat := by rw [Lib.itoa, if_neg (by omega), dec_lib]
theorem join_lib (c : UInt8) : ∀ ls : List (List UInt8), Lib.join ls [c] = joinT c ls
  | [] => rfl
  | [a] => Lib.join_one _ _
  | a :: b :: r => by
    rw [Lib.join_cons, joinT, ← join_lib c (b :: r), Lib.join_cons]
    simp [Lib.joinTail]
/-- the first place of a byte -/
theorem index_at (c : UInt8) : ∀ l : List UInt8, (c ∉ l ∧ Lib.index l [c] = -1) ∨ ∃ a r, l = a ++ c :: r ∧ c ∉ a ∧ Lib.index l [c] = (a.length : Int)
  | [] => .inl ⟨by simp, by simp [Lib.index]⟩
  | x :: l => by
    by_cases h : x = c
    · subst h
      exact .inr ⟨[], l, rfl, by simp, by rw [Lib.index]; simp [List.isPrefixOf]⟩
    · have hp : ([c] : List UInt8).isPrefixOf (x :: l) = false := by simp [List.isPrefixOf, Ne.symm h]
      rcases index_at c l with ⟨h1, h2⟩ | ⟨a, r, h1, h2, h3⟩
      · refine .inl ⟨by simp [h1, Ne.symm h], ?_⟩
        rw [Lib.index, hp, h2]
        rfl
      · refine .inr ⟨x :: a, r, by rw [h1]; rfl, by simp [h2, Ne.symm h], ?_⟩
        rw [Lib.index, hp, h3]
        have : (((a.length : Nat) : Int) == -1) = false := by rw [beq_eq_false_iff_ne]; omega
        simp [this]
theorem splitK_cases (c : UInt8) : ∀ (k : Nat) (l : List UInt8), (Lib.splitK [c] 0 k l = splitB c l ∧ (splitB c l).length ≤ k + 1) ∨
    ((Lib.splitK [c] 0 k l).length = k + 1 ∧ k + 1 < (splitB c l).length ∧ ∃ z ∈ Lib.splitK [c] 0 k l, c ∈ z)
  | 0, l => by
    rcases index_at c l with ⟨h1, _⟩ | ⟨a, r, rfl, h2, _⟩
    · left
      rw [split_none h1]
      exact ⟨rfl, by simp⟩
    · right
      refine ⟨rfl, ?_, a ++ c :: r, by simp [Lib.splitK], by simp⟩
      rw [split_at h2]
      have := List.length_pos_iff.2 (split_ne c r)
      simp only [List.length_cons]
      omega
  | k + 1, l => by
    rcases index_at c l with ⟨h1, h2⟩ | ⟨a, r, rfl, h2, h3⟩
    · left
      rw [split_none h1, Lib.splitK, if_pos (by rw [h2]; rfl)]
      exact ⟨rfl, by simp⟩
    · have e : Lib.splitK [c] 0 (k + 1) (a ++ c :: r) = a :: Lib.splitK [c] 0 k r := by
        have hne : ¬ (((a.length : Nat) : Int) == -1) = true := fun h => by have := beq_iff_eq.1 h; omega
        have hd : (a ++ c :: r).drop (((a.length : Nat) : Int).toNat + ([c] : List UInt8).length) = r := by
          rw [show ((a.length : Nat) : Int).toNat + ([c] : List UInt8).length = (a ++ [c]).length from by simp, show a ++ c :: r = (a ++ [c]) ++ r from by simp, List.drop_left]
        rw [Lib.splitK, h3, if_neg hne, hd]
        simp
      rw [e, split_at h2]
      rcases splitK_cases c k r with ⟨g1, g2⟩ | ⟨g1, g2, z, g3, g4⟩
      · left
        rw [g1]
        exact ⟨rfl, by simp only [List.length_cons]; omega⟩
      · right
        exact ⟨by simp only [List.length_cons]; omega, by simp only [List.length_cons]; omega, z, List.mem_cons_of_mem _ g3, g4⟩
/-- the parts of a text, at most n of them -/
def partsN (c : UInt8) (n : Nat) (l : List UInt8) : List (List UInt8) := Lib.splitK [c] 0 (min n (l.length + 1) - 1) l
theorem partsN_cases (c : UInt8) (n : Nat) (hn : 1 ≤ n) (l : List UInt8) : (partsN c n l = splitB c l ∧ (splitB c l).length ≤ n) ∨
    ((partsN c n l).length = n ∧ n < (splitB c l).length ∧ ∃ z ∈ partsN c n l, c ∈ z) := by
  have hs := split_len c l
  rcases splitK_cases c (min n (l.length + 1) - 1) l with ⟨h1, h2⟩ | ⟨h1, h2, h3⟩
  · exact .inl ⟨h1, by omega⟩
  · refine .inr ⟨?_, by omega, h3⟩
    show (Lib.splitK [c] 0 (min n (l.length + 1) - 1) l).length = n
    omega
theorem split_mem {c x : UInt8} (hx : x ≠ c) : ∀ l : List UInt8, x ∈ l → ∃ a ∈ splitB c l, x ∈ a
  | [], h => by cases h
  | y :: r, h => by
    by_cases hy : y = c
    · subst hy
      rcases List.mem_cons.1 h with h | h
      · exact absurd h hx
      · obtain ⟨a, ha, hxa⟩ := split_mem hx r h
        exact ⟨a, by rw [splitB, if_pos rfl]; exact List.mem_cons_of_mem _ ha, hxa⟩
    · obtain ⟨hd, tl, hs⟩ : ∃ hd tl, splitB c r = hd :: tl := by
        cases hq : splitB c r with
        | nil => exact absurd hq (split_ne c r)
        | cons a b => exact ⟨a, b, rfl⟩
      have e : splitB c (y :: r) = (y :: hd) :: tl := by rw [splitB, if_neg hy, hs]
      rw [e]
      rcases List.mem_cons.1 h with rfl | h
      · exact ⟨_, List.mem_cons_self .., List.mem_cons_self ..⟩
      · obtain ⟨a, ha, hxa⟩ := split_mem hx r h
        rw [hs] at ha
        rcases List.mem_cons.1 ha with rfl | ha
        · exact ⟨_, List.mem_cons_self .., List.mem_cons_of_mem _ hxa⟩
        · exact ⟨a, List.mem_cons_of_mem _ ha, hxa⟩
theorem parts_size (c : UInt8) (n : Nat) (hn : 1 ≤ n) (l : List UInt8) : (partsN c n l).length ≤ n := by
  rcases partsN_cases c n hn l with ⟨h1, h2⟩ | ⟨h1, _⟩
  · rw [h1]; exact h2
  · omega
theorem splitK_part (c : UInt8) : ∀ (k : Nat) (l : List UInt8), ∀ a ∈ Lib.splitK [c] 0 k l, a.length ≤ l.length
  | 0, l, a, h => by
    rw [show Lib.splitK [c] 0 0 l = [l] from rfl] at h
    simp only [List.mem_singleton] at h
    rw [h]; exact Nat.le_refl _
  | k + 1, l, a, h => by
    rw [Lib.splitK] at h
    split at h
    · simp only [List.mem_singleton] at h
      rw [h]; exact Nat.le_refl _
    · rcases List.mem_cons.1 h with rfl | h
      · rw [List.length_take]; omega
      · have := splitK_part c k _ a h
        rw [List.length_drop] at this
        omega
theorem parts_part (c : UInt8) (n : Nat) (l : List UInt8) : ∀ a ∈ partsN c n l, a.length ≤ l.length := splitK_part c _ l
/-! numbers -/
theorem numV_ge (l : List UInt8) : l ≠ [] → l.all isDig = true → l.getD 0 0 ≠ 48 → 10 ^ (l.length - 1) ≤ numV l := by
  induction l using snoc_ind with
  | h0 => intro h; exact absurd rfl h
  | h1 l x ih =>
    intro _ ha hd
    rw [List.all_append, Bool.and_eq_true] at ha
    rw [numV_snoc]
    cases l with
    | nil =>
      have hx : isDig x = true := by simpa using ha.2
      have hx2 : 48 ≤ x.toNat ∧ x.toNat ≤ 57 := of_decide_eq_true hx
      have hne : x ≠ 48 := by simpa using hd
      have hne2 : x.toNat ≠ 48 := fun e => hne (UInt8.toNat_inj.1 (by rw [e]; rfl))
      simp only [List.nil_append, List.length_cons, List.length_nil]
      omega
    | cons y r =>
      have h := ih (by simp) ha.1 (by simpa using hd)
      simp only [List.length_append, List.length_cons, List.length_nil] at h ⊢
      rw [show r.length + 1 + (0 + 1) - 1 = (r.length + 1 - 1) + 1 from by omega, Nat.pow_succ]
      omega
theorem numP_more (l : List UInt8) (k K : Nat) (h : k ≤ K) (h1 : (numP l k).2 = true) : numP l K = numP l k := by
  by_cases hc : (l.length ≠ 0 ∧ l.length ≤ k ∧ ¬(1 < l.length ∧ l.getD 0 0 = 48)) ∧ l.all isDig = true
  · rw [numP, if_pos ⟨⟨hc.1.1, Nat.le_trans hc.1.2.1 h, hc.1.2.2⟩, hc.2⟩, numP, if_pos hc]
  · rw [numP, if_neg hc] at h1
    cases h1
theorem numP_less (l : List UInt8) (k K : Nat) (hk : 1 ≤ k) (h1 : (numP l K).2 = true) (h2 : (numP l K).1 < 10 ^ k) : numP l k = numP l K := by
  by_cases hc : (l.length ≠ 0 ∧ l.length ≤ K ∧ ¬(1 < l.length ∧ l.getD 0 0 = 48)) ∧ l.all isDig = true
  · have e : numP l K = (numV l, true) := by rw [numP, if_pos hc]
    rw [e] at h2
    rw [e, numP, if_pos]
    refine ⟨⟨hc.1.1, ?_, hc.1.2.2⟩, hc.2⟩
    apply Nat.le_of_not_lt
    intro hlt
    have h3 := numV_ge l (fun e => hc.1.1 (by rw [e]; rfl)) hc.2 (fun e => hc.1.2.2 ⟨by omega, e⟩)
    have h4 : 10 ^ k ≤ 10 ^ (l.length - 1) := Nat.pow_le_pow_right (by omega) (by omega)
    dsimp only at h2
    omega
  · rw [numP, if_neg hc] at h1
    cases h1
theorem parseM_num (M : Nat) (hM : 10000000000 ≤ M) : ∀ (l : List UInt8) (k acc : Nat), acc < 10 ^ k → k + l.length ≤ 10 →
    Lib.parseUintM M acc l = if l.all isDig = true then .ok (l.foldl (fun n c => 10 * n + (c.toNat - 48)) acc) else .«syntax»
  | [], k, acc, _, _ => by simp [Lib.parseUintM]
  | c :: r, k, acc, h, hk => by
    have hk' : k + 1 + r.length ≤ 10 := by simp only [List.length_cons] at hk; omega
    have h10 : 10 ^ (k + 1) ≤ 10 ^ 10 := Nat.pow_le_pow_right (by omega) (by omega)
    have h11 : 10 ^ (k + 1) = 10 ^ k * 10 := Nat.pow_succ ..
    have h12 : (10 : Nat) ^ 10 = 10000000000 := rfl
    rw [Lib.parseUintM]
    by_cases hd : 48 ≤ c.toNat ∧ c.toNat ≤ 57
    · have hi : isDig c = true := decide_eq_true hd
      rw [if_pos hd, if_neg (by omega), if_neg (by omega), parseM_num M hM r (k + 1) _ (by omega) hk', List.all_cons, hi, Bool.true_and, List.foldl_cons, Nat.mul_comm acc 10]
    · have hi : isDig c = false := decide_eq_false hd
      rw [if_neg hd, List.all_cons, hi, Bool.false_and]
      rfl
theorem parseU_num (l : List UInt8) (h : l.length ≤ 10) : Lib.parseUintB 64 l = if l ≠ [] ∧ l.all isDig = true then .ok (numV l) else .«syntax» := by
  rw [Lib.parseUintB]
  by_cases h0 : l = []
  · rw [if_pos h0, if_neg (fun hc => hc.1 h0)]
  · rw [if_neg h0, parseM_num _ (by decide) l 0 0 (by decide) (by omega)]
    by_cases ha : l.all isDig = true
    · rw [if_pos ha, if_pos ⟨h0, ha⟩]; rfl
    · rw [if_neg ha, if_neg (fun hc => ha hc.2)]
/-! the last colon -/
theorem lastIdx_lib (l : List UInt8) : ∀ k, k ≤ l.length → Lib.lastIdx ⟨l.toArray⟩ 58 k = (lastC (l.take k) : Int) - 1
  | 0, _ => rfl
  | k + 1, h => by
    have hg : (ByteArray.mk l.toArray).data[k]! = l[k] := by simp [List.getElem?_eq_getElem (show k < l.length by omega)]
    have ht : l.take (k + 1) = l.take k ++ [l[k]] := by simp [List.take_append_getElem]
    rw [ht, last_snoc, List.length_take, Nat.min_eq_left (by omega)]
    by_cases hx : l[k] = 58
    · rw [if_pos hx, Lib.lastIdx_hit _ _ _ (by rw [hg, hx]; rfl)]; omega
    · rw [if_neg hx, Lib.lastIdx_miss _ _ _ (by rw [hg]; intro e; exact hx (UInt8.toNat_inj.1 (by have : (58 : UInt8).toNat = 58 := rfl; omega))), lastIdx_lib l k (by omega)]
theorem lastIndex_lib (l : List UInt8) : Lib.lastIndexByte ⟨l.toArray⟩ 58 = (lastC l : Int) - 1 := by
  have h := lastIdx_lib l l.length (Nat.le_refl _)
  rw [List.take_length] at h
  rw [Lib.lastIndexByte, ← h]
  simp [ByteArray.size]
end Go.Proofs.YtkhghmmgegkiiaaGreatDoor
namespace Go.Proofs.YtkhghmmgegkiiaaGreatDoor
open Go.RowKit

section
variable {P : Program} {ops : Array Oper} {Q : Exit → Act → World → Prop} {md : Region.Mode} {S : World → Prop}
end
end Go.Proofs.YtkhghmmgegkiiaaGreatDoor
namespace Go.Proofs.YtkhghmmgegkiiaaGreatDoor
open Go.RowKit

/-- a text as a value -/
def strV (l : List UInt8) : Value := .string ⟨l.toArray⟩
end Go.Proofs.YtkhghmmgegkiiaaGreatDoor
namespace Go.Proofs.YtkhghmmgegkiiaaGreatDoor
open Go.RowKit

theorem mk_size (l : List UInt8) : (ByteArray.mk l.toArray).size = l.length := by simp [ByteArray.size]
theorem mk_data (l : List UInt8) : (ByteArray.mk l.toArray).data.toList = l := by simp
theorem itoa_c (n : Int) (h0 : 0 ≤ n) (h1 : n ≤ 9223372036854775807) (w : World) (hlv : LvCf w) :
    Calls Tryz.prog 49 #[.int .i64 n] w fun e w' => e = .returned (.string ⟨(decT n.toNat).toArray⟩) ∧ Below w.heap.size w w' := by
  refine (sh_strconv_Itoa n (by omega) h1 w hlv.1).mono ?_
  rintro e w' ⟨rfl, k, os, rfl⟩
  rw [itoa_lib n h0]
  exact ⟨rfl, ⟨rfl, rfl, rfl, by simp [Go.Sort.grow], fun j hj => by simp [Go.Sort.grow, Array.getElem?_append_left hj]⟩⟩
theorem join_c (g c : Nat) (xs : List (List UInt8)) (ch : UInt8) (w : World) (h : At w g 0 (xs.map strV)) (hg : g < w.heap.size) (hn : xs.length ≤ 100) (hl : ∀ x ∈ xs, x.length ≤ 1000) (hc : xs.length ≤ c) :
    Calls Tryz.prog 65 #[.slice (some ⟨g, 0, none⟩) xs.length c, .string ⟨#[ch]⟩] w fun e w' => e = .returned (.string ⟨(joinT ch xs).toArray⟩) ∧ Below w.heap.size w w' := by
  have e1 : (xs.map fun l => ByteArray.mk l.toArray).length = xs.length := by simp
  have e2 : (xs.map fun l => ByteArray.mk l.toArray).map (·.data.toList) = xs := by rw [List.map_map]; exact (List.map_congr_left fun l _ => mk_data l).trans (List.map_id _)
  have e3 : Lib.join ((xs.map fun l => ByteArray.mk l.toArray).map (·.data.toList)) (ByteArray.mk #[ch]).data.toList = joinT ch xs := by rw [e2]; exact join_lib ch xs
  have hj : ∀ ys : List (List UInt8), ys.length ≤ 100 → (∀ x ∈ ys, x.length ≤ 1000) → (joinT ch ys).length ≤ 1001 * ys.length := by
    intro ys
    induction ys with
    | nil => intro _ _; simp [joinT]
    | cons a r ih =>
      intro h1 h2
      have ha := h2 a (List.mem_cons_self ..)
      cases r with
      | nil => simp only [joinT, List.length_cons, List.length_nil]; omega
      | cons b r =>
        have := ih (by simp only [List.length_cons] at h1 ⊢; omega) (fun x hx => h2 x (List.mem_cons_of_mem _ hx))
        simp only [joinT, List.length_append, List.length_cons] at this ⊢
        omega
  have hc2 := sh_strings_Join g 0 c (xs.map fun l => ByteArray.mk l.toArray) ⟨#[ch]⟩ w (fun j x hx => h j (.string x) (by
    rw [List.getElem?_map] at hx ⊢
    cases hq : xs[j]? with
    | none => rw [hq] at hx; cases hx
    | some y =>
      rw [hq] at hx
      rw [← Option.some.inj hx]; rfl)) hg (by rw [e1]; omega) (by rw [e1]; exact hc) (by rw [e3]; have := hj xs hn hl; omega)
  rw [e3, e1] at hc2
  exact hc2
theorem byte_at (c : UInt8) : ∀ l : List UInt8, decide (0 ≤ Lib.indexByte l c) = decide (c ∈ l) := by
  intro l
  by_cases h : c ∈ l
  · rw [decide_eq_true h]
    apply decide_eq_true
    apply Int.not_lt.1
    intro hlt
    have hge := Lib.indexByte_ge l c
    obtain ⟨k, hk, he⟩ := List.mem_iff_getElem.1 h
    exact Lib.indexByte_none (show Lib.indexByte l c = -1 from by omega) k (by rw [List.getElem?_eq_getElem hk, he])
  · rw [decide_eq_false h]
    apply decide_eq_false
    intro h0
    obtain ⟨o, ho⟩ : ∃ o : Nat, Lib.indexByte l c = o := ⟨(Lib.indexByte l c).toNat, by omega⟩
    exact h (List.mem_of_getElem? (Lib.indexByte_some ho).1)
theorem contains_c (l : List UInt8) (ch : UInt8) (w : World) :
    Calls Tryz.prog 52 #[.string ⟨l.toArray⟩, .string ⟨#[ch]⟩] w fun e w' => e = .returned (.bool (decide (ch ∈ l))) ∧ Below w.heap.size w w' := by
  refine (sh_strings_Contains_one ⟨l.toArray⟩ ch w).mono ?_
  rintro e w' ⟨rfl, rfl⟩
  rw [mk_data, byte_at]
  exact ⟨rfl, Below.refl _ _⟩
theorem splitN_c (l : List UInt8) (ch : UInt8) (n : Nat) (h1 : 1 ≤ n) (hn : n ≤ 100) (hl : l.length ≤ 1000000) (w : World) (hlv : LvCf w) :
    Calls Tryz.prog 89 #[.string ⟨l.toArray⟩, .string ⟨#[ch]⟩, .int .i64 (n : Int)] w fun e w' => ∃ g c, e = .returned (.slice (some ⟨g, 0, none⟩) (partsN ch n l).length c) ∧ (partsN ch n l).length ≤ c ∧ c ≤ 100 ∧ At w' g 0 ((partsN ch n l).map strV) ∧ g < w'.heap.size ∧ Below w.heap.size w w' := by
  obtain ⟨_, _, _, m, hm⟩ := hlv
  refine (sh_strings_SplitN ⟨l.toArray⟩ ⟨#[ch]⟩ n m w (by rw [mk_size]; omega) hm (Nat.le_refl _) h1 (by omega)).mono ?_
  rintro e w' ⟨rfl, rfl⟩
  have hd := Lib.splitB_data ⟨#[ch]⟩ 0 (min n (l.length + 1) - 1) ⟨l.toArray⟩
  rw [mk_data] at hd
  rw [mk_size]
  generalize hP : Lib.splitB ⟨#[ch]⟩ 0 (min n (l.length + 1) - 1) ⟨l.toArray⟩ = ps at hd ⊢
  have hd2 : ps.map (·.data.toList) = partsN ch n l := hd
  have hlen : ps.length = (partsN ch n l).length := by rw [← hd2, List.length_map]
  have hle : ps.length ≤ min n (l.length + 1) := by
    have := Lib.splitB_length_le ⟨#[ch]⟩ 0 (min n (l.length + 1) - 1) ⟨l.toArray⟩
    rw [hP] at this
    omega
  have hmap : (partsN ch n l).map strV = ps.map Value.string := by
    rw [← hd2, List.map_map]
    exact List.map_congr_left fun x _ => by simp [strV]
  refine ⟨w.heap.size, min n (l.length + 1), by rw [hlen], by omega, by omega, ?_, by simp, (Below.refl _ _).alloc (Nat.le_refl _) _⟩
  rw [hmap]
  intro j v hj
  have hcell : (Lib.cellsOf ps (min n (l.length + 1)))[j]? = some v := by
    unfold Lib.cellsOf
    rw [List.getElem?_toArray, List.getElem?_append_left (List.getElem?_eq_some_iff.1 hj).1]
    exact hj
  rw [Nat.zero_add]
  rw [World.cell?_alloc_at _ _ _ _ rfl]
  exact hcell
theorem repeat_c (k : Nat) (hk : k ≤ 10) (w : World) :
    Calls Tryz.prog 120 #[.string ⟨#[48]⟩, .int .i64 (k : Int)] w fun e w' => e = .returned (.string ⟨(List.replicate k (48 : UInt8)).toArray⟩) ∧ Below w.heap.size w w' := by
  have h := sh_strings_Repeat ⟨#[48]⟩ k w (by omega) (by show 1 * k ≤ _; omega)
  have e : ∀ k, Lib.repeatL [48] k = List.replicate k (48 : UInt8) := by
    intro k
    induction k with
    | zero => rfl
    | succ k ih => rw [Lib.repeatL, ih, List.replicate_succ]; rfl
  rw [show (ByteArray.mk #[48]).data.toList = [48] from rfl, e] at h
  exact h
theorem parseUint_c (l : List UInt8) (hl : l.length ≤ 10) (w : World) (hlv : LvCf w) :
    Calls Tryz.prog 95 #[.string ⟨l.toArray⟩, .int .i64 10, .int .i64 64] w fun e w' =>
      (((l ≠ [] ∧ l.all isDig = true) ∧ e = .returned (.tuple #[.int .u64 (numV l : Int), .nilIface])) ∨ (¬(l ≠ [] ∧ l.all isDig = true) ∧ ∃ T v, e = .returned (.tuple #[.int .u64 0, .iface T v]))) ∧ Below w.heap.size w w' := by
  have hp := parseU_num l hl
  by_cases h : l ≠ [] ∧ l.all isDig = true
  · rw [if_pos h] at hp
    refine (sh_strconv_ParseUint_10_at64_ok ⟨l.toArray⟩ (by rw [mk_size]; omega) (numV l) (by rw [mk_data]; exact hp) w).mono ?_
    rintro e w' ⟨rfl, hw⟩
    refine ⟨.inl ⟨h, rfl⟩, ?_⟩
    rcases hw with rfl | rfl
    · exact Below.refl _ _
    · exact Lib.bytesWorld_below ..
  · rw [if_neg h] at hp
    obtain ⟨_, _, ⟨tp, p, hv⟩, _⟩ := hlv
    refine (sh_strconv_ParseUint_10_at64_syntax_var ⟨l.toArray⟩ (by rw [mk_size]; omega) (by rw [mk_data]; exact hp) tp p w hv).mono ?_
    rintro e w' ⟨N, rfl, _, _, hb⟩
    exact ⟨.inr ⟨h, _, _, rfl⟩, hb⟩
theorem lastIndex_c (l : List UInt8) (hl : l.length ≤ 1000000) (w : World) :
    Calls Tryz.prog 55 #[.string ⟨l.toArray⟩, .string ⟨#[58]⟩] w fun e w' => e = .returned (.int .i64 ((lastC l : Int) - 1)) ∧ Below w.heap.size w w' := by
  refine (sh_strings_LastIndex_one ⟨l.toArray⟩ ⟨#[58]⟩ rfl (by rw [mk_size]; omega) w).mono ?_
  rintro e w' ⟨rfl, rfl⟩
  refine ⟨?_, Below.refl _ _⟩
  rw [← lastIndex_lib l]
  rfl
theorem hasPrefix_c (l p : List UInt8) (w : World) :
    Calls Tryz.prog 93 #[.string ⟨l.toArray⟩, .string ⟨p.toArray⟩] w fun e w' => e = .returned (.bool (p.isPrefixOf l)) ∧ Below w.heap.size w w' := by
  refine (sh_strings_HasPrefix ⟨l.toArray⟩ ⟨p.toArray⟩ w).mono ?_
  rintro e w' ⟨rfl, rfl⟩
  rw [mk_data, mk_data]
  exact ⟨rfl, Below.refl _ _⟩
theorem hasSuffix_c (l p : List UInt8) (hl : l.length ≤ 1000000) (w : World) :
    Calls Tryz.prog 94 #[.string ⟨l.toArray⟩, .string ⟨p.toArray⟩] w fun e w' => e = .returned (.bool (p.isSuffixOf l)) ∧ Below w.heap.size w w' := by
  refine (sh_strings_HasSuffix ⟨l.toArray⟩ ⟨p.toArray⟩ w (by rw [mk_size]; omega)).mono ?_
  rintro e w' ⟨rfl, rfl⟩
  rw [mk_data, mk_data]
  exact ⟨rfl, Below.refl _ _⟩
theorem cut_c (l p : List UInt8) (hl : l.length ≤ 1000000) (w : World) (hlv : LvCf w) :
    Calls Tryz.prog 58 #[.string ⟨l.toArray⟩, .string ⟨p.toArray⟩] w fun e w' => e = .returned (.tuple #[.string ⟨(Lib.cut l p).1.toArray⟩, .string ⟨(Lib.cut l p).2.1.toArray⟩, .bool (Lib.cut l p).2.2]) ∧ Below w.heap.size w w' := by
  obtain ⟨_, _, _, m, hm⟩ := hlv
  refine (sh_strings_Cut ⟨l.toArray⟩ ⟨p.toArray⟩ m w (by rw [mk_size]; omega) hm).mono ?_
  rintro e w' ⟨rfl, n, rfl⟩
  rw [mk_data, mk_data]
  exact ⟨rfl, ⟨rfl, rfl, rfl, Nat.le_refl _, fun _ _ => rfl⟩⟩
end Go.Proofs.YtkhghmmgegkiiaaGreatDoor
