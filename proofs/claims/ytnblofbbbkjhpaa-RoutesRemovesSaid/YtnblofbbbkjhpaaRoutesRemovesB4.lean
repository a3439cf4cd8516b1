/-
  The contracts of the choices that the statements are made of: Bytes, New, Cut. An address with another byte. A slice built of arrays of one size: its block holds them one behind the other. The contracts of the choices that the statements are made of: Addr, Prefix. The contracts of the choices that the statements are made of: Masked, Addr, Prefix. The contracts of the choices that the statements are made of: Prefix. The contract of the choices that the statements are made of: Prefixes. The contract of the laws' made: valid routes to the peers 1 to 3. The contract of an address that the statements are made of: Host. No statement is proved here.
-/
import Derived.Outline
import Derived.RegionTactic
import Derived.Deep.DeepCutAuto
import Derived.Test.YtnblofbbbkjhpaaRoutesRemovesB3
namespace Go.Proofs.Ytnblofbbbkjhpaa
open Go.RowKit

theorem codeByte_wrap (v : Nat) : IntKind.u8.wrap (v : Int) = ((UInt8.ofNat v).toNat : Int) := by
  rw [IntKind.wrap_u8, UInt8.toNat_ofNat']
  omega
def codeByte (x p1 i : Nat) : UInt8 := UInt8.ofNat (x + i * (2 * p1 + 1))
/-- k bytes of choices -/
def pickB (l : List UInt8) (p k : Nat) : List UInt8 := (List.range k).map (codeByte (nextV l p 256) (nextP l p 256))
theorem pickB_length (l : List UInt8) (p k : Nat) : (pickB l p k).length = k := by simp [pickB]
def codeJ (l : List UInt8) (p k j : Nat) : List UInt8 := (pickB l p k).take j ++ List.replicate (k - j) 0
theorem codeJ_length (l : List UInt8) (p k j : Nat) (h : j ≤ k) : (codeJ l p k j).length = k := by simp [codeJ, pickB_length]; omega
theorem codeJ_step (l : List UInt8) (p k j : Nat) (h : j < k) : (codeJ l p k j).set j (codeByte (nextV l p 256) (nextP l p 256) j) = codeJ l p k (j + 1) := by
  have hl := pickB_length l p k
  have hj : (pickB l p k)[j]'(by omega) = codeByte (nextV l p 256) (nextP l p 256) j := by simp [pickB]
  rw [codeJ, codeJ, List.set_append_right _ _ (by rw [List.length_take]; omega), List.length_take, Nat.min_eq_left (by omega), Nat.sub_self, show k - j = (k - (j + 1)) + 1 by omega, List.replicate_succ, List.set_cons_zero, List.take_succ_eq_append_getElem (by omega), hj, List.append_assoc]
  rfl
set_option maxRecDepth 100000 in
set_option maxHeartbeats 2000000 in
theorem caseBytes_any (g : Nat) (A : Option Addr) (n c : Nat) (l : List UInt8) (p : Nat) (hn : n ≤ 100000) (hp : p ≤ n) (k : Nat) (hk : k ≤ 1000) (B : Nat) (hB : B ≤ g) (w : World) (hg : Blk w g 64 (codesC A n c p)) (hr : Rd w B A n l) :
    Calls Try.prog 45 #[.pointer (some ⟨g, 0, none⟩), .int .i64 (k : Int)] w fun e w' => e = .returned (.slice (some ⟨w.heap.size, 0, none⟩) k k) ∧ Blk w' g 64 (codesC A n c (nextP l p 256)) ∧ MemG w g [blkE w.heap.size 5 ((pickB l p k).map u8v)] w' := by
  obtain ⟨i0, hi, hz0, hz1, hz2⟩ := info_parts Try.info5
  have hgl := hg.lt
  have hl := hr.1
  have HG := Lib.hid hg
  have HR := Lib.hid hr
  clear hg hr
  go_enter Try.func45, Try.ntmps45
  go_upto_region 2 with (refine wpList_make_full _ rfl (.tmp 9) (.tmp 9) 22 rfl w.heap.size 5 i0 (.int .u8 0) 1 Try.underlying22 hi hz0 hz1 .i64 .i64 k k k rfl rfl rfl rfl (by rw [hz2]; omega) (by unfold maxLen; omega) (Nat.le_refl _) ?_; intro w1 hown1 hg1)
  rw [show (Value.int IntKind.u8 0).cells = #[.int .u8 0] from rfl, toList_madeCells_one, Nat.mul_one] at hown1
  have hM1 : MemG w g [blkE w.heap.size 5 ((codeJ l p k 0).map u8v)] w1 := by
    have hb1 := row_blk hown1
    have h2 : (codeJ l p k 0).map u8v = List.replicate k (.int .u8 0) := by simp [codeJ, u8v]
    refine ⟨⟨hb1.lt, Nat.le_succ _, by rw [h2]; exact hb1, Nat.le_refl _⟩, ⟨hg1.os, hg1.tape, hg1.output, hg1.size, fun q hq _ => hg1.block q hq (by simp)⟩⟩
  have HM := Lib.hid hM1
  have HG1 := Lib.hid (HG.out.grown hg1 (by simp))
  have HR1 := Lib.hid (HR.out.below2 (by omega) (⟨hg1.os, hg1.tape, hg1.output, hg1.size, fun q hq => hg1.block q hq (by simp)⟩ : Below w.heap.size w w1))
  clear hM1 hown1 hg1
  go_wp2_with fail
  refine (caseNext_any g A n c l p hn hp 256 (by omega) B hB w1 HG1.out HR1.out).mono ?_
  rintro e w2 ⟨rfl, hG2, hgr⟩
  have hp1 := nextP_le l p 256 (by omega)
  have hxl := nextV_lt l p 256 (by omega)
  replace HM := Lib.hid (HM.out.next hgl hgr)
  have HG2 := Lib.hid hG2
  clear hG2 hgr HG1 HR1
  have HJ := Lib.hid (codeJ_step l p k)
  generalize nextV l p 256 = x at hxl HJ ⊢
  obtain ⟨p1, hp1e⟩ : ∃ q, nextP l p 256 = q := ⟨_, rfl⟩
  rw [hp1e] at hp1 HG2 HJ
  have HP1 := Lib.hid hp1e
  clear hp1e
  have f1 := HG2.out.cell 1
  rw [show (codesC A n c p1)[1]? = some (.int .i64 (p1 : Int)) from rfl] at f1
  obtain ⟨s2, hs2⟩ : ∃ q, 2 * p1 = q := ⟨_, rfl⟩
  have hw1 : IntKind.i64.wrap (2 * (p1 : Int)) = (s2 : Int) := by rw [IntWalk.i64_in _ (by omega)]; omega
  obtain ⟨s3, hs3⟩ : ∃ q, s2 + 1 = q := ⟨_, rfl⟩
  have hw2 : IntKind.i64.wrap ((s2 : Int) + 1) = (s3 : Int) := by rw [IntWalk.i64_in _ (by omega)]; omega
  have HS := Lib.hid (show 2 * p1 + 1 = s3 by omega)
  have hs3l : s3 ≤ 200001 := by omega
  clear hs2 hs3
  go_upto_region 4 with fail
  clear f1 hw1 hw2
  go_wp2_with fail
  go_loopw [21, 8] (fun z _ wr => ∃ j : Nat, j ≤ k ∧ z = .int .i64 (j : Int) ∧ Blk wr g 64 (codesC A n c p1) ∧ MemG w g [blkE w.heap.size 5 ((codeJ l p k j).map u8v)] wr) (fun z _ _ => k - (intOf z).toNat)
  case atStart => exact ⟨0, by omega, rfl, HG2.out, HM.out⟩
  case round =>
    clear HM HG2
    obtain ⟨j, hj, rfl, hgb, hM⟩ := hrel
    have HM := Lib.hid hM
    have HGB := Lib.hid hgb
    clear hM hgb
    by_cases hlt : j < k
    · have dl : decide ((j : Int) < (k : Int)) = true := by simp; omega
      have bj : (j : Int) < (k : Int) := by omega
      have hcl := codeJ_length l p k j hj
      have hlk : ((codeJ l p k j).map u8v)[j]? = some (u8v ((codeJ l p k j).getD j 0)) := by rw [List.getElem?_map, List.getD_eq_getElem?_getD, List.getElem?_eq_getElem (by omega)]; rfl
      have fx := ((HM.out.blk 0 rfl).cell j).trans hlk
      generalize u8v ((codeJ l p k j).getD j 0) = y at fx
      have zx := (HM.out.blk 0 rfl).frozen j
      obtain ⟨m1, hm1⟩ : ∃ q, j * s3 = q := ⟨_, rfl⟩
      have hmb : m1 ≤ 1000 * 200001 := by rw [← hm1]; exact Nat.mul_le_mul (by omega) hs3l
      have hm2 : (j : Int) * (s3 : Int) = (m1 : Int) := by rw [← hm1, Int.natCast_mul]
      have hw3 : IntKind.i64.wrap ((j : Int) * (s3 : Int)) = (m1 : Int) := by rw [hm2]; exact IntWalk.i64_in _ (by omega)
      obtain ⟨v, hv⟩ : ∃ q, x + m1 = q := ⟨_, rfl⟩
      have hw4 : IntKind.i64.wrap ((x : Int) + (m1 : Int)) = (v : Int) := by rw [IntWalk.i64_in _ (by omega)]; omega
      have hw5 := codeByte_wrap v
      have hst : (codeJ l p k j).set j (UInt8.ofNat v) = codeJ l p k (j + 1) := by rw [← HJ.out j hlt, codeByte, HS.out, hm1, hv]
      generalize UInt8.ofNat v = u at hw5 hst
      have HN := Lib.hid (show MemG w g [blkE w.heap.size 5 ((codeJ l p k (j + 1)).map u8v)] (wr.setCell ⟨w.heap.size, j, none⟩ (.int .u8 (u.toNat : Int))) from by have h := HM.out.setCell 0 rfl j (u8v u); rw [← List.map_set, hst] at h; exact h)
      have HGN := Lib.hid (show Blk (wr.setCell ⟨w.heap.size, j, none⟩ (.int .u8 (u.toNat : Int))) g 64 (codesC A n c p1) from HGB.out.far (by dsimp only; omega) _)
      clear hst hm1 hmb hm2 hv hcl hlk HM HGB
      go_wp2
      go_roundw
      case rel => exact ⟨j + 1, by omega, by go_num, HGN.out, HN.out⟩
      case measure => simp [intOf]; omega
    · obtain rfl : j = k := by omega
      have dl : decide ((j : Int) < (j : Int)) = false := by simp
      have he : codeJ l p j j = pickB l p j := by rw [codeJ, Nat.sub_self, List.replicate_zero, List.append_nil, List.take_of_length_le (by rw [pickB_length]; omega)]
      rw [he] at HM
      go_wp2
      go_ret
      exact ⟨rfl, by rw [HP1.out]; exact HGB.out, HM.out⟩
set_option maxRecDepth 100000 in
theorem caseNew_any (A : Option Addr) (n c m k : Nat) (hm : m ≤ 1000000) (hnc : n ≤ c) (hcm : c ≤ maxLen) (hk : min n m = k) (w : World) :
    Calls Try.prog 10 #[.slice A n c, .int .i64 (m : Int)] w fun e w' => e = .returned (.pointer (some ⟨w.heap.size, 0, none⟩)) ∧ Mem w [blkE w.heap.size 64 (codesC A k c 0)] w' := by
  have hc63 : (c : Int) ≤ 9223372036854775807 := by unfold maxLen at hcm; omega
  have HM := Lib.hid ((Mem.nil w).alloc rfl 64 #[.slice A k c, .int .i64 0] (codesC A k c 0) rfl)
  by_cases h : n ≤ m
  · obtain rfl : k = n := by omega
    have h1 : ¬ (m : Int) < (k : Int) := by omega
    have h2 : (k : Int) ≤ (m : Int) := by omega
    have h3 : (k : Int) ≤ (c : Int) := by omega
    have h4 : (if (m : Int) < (k : Int) then (m : Int) else (k : Int)) = (k : Int) := if_neg h1
    clear hk
    go_enter Try.func10, Try.ntmps10
    go_wp2
    go_ret
    exact ⟨rfl, HM.out⟩
  · obtain rfl : k = m := by omega
    have h1 : (k : Int) < (n : Int) := by omega
    have h2 : ¬ (n : Int) ≤ (k : Int) := by omega
    have h3 : (k : Int) ≤ (c : Int) := by omega
    have h4 : (if (k : Int) < (n : Int) then (k : Int) else (n : Int)) = (k : Int) := if_pos h1
    clear hk
    go_enter Try.func10, Try.ntmps10
    go_wp2
    go_ret
    exact ⟨rfl, HM.out⟩
end Go.Proofs.Ytnblofbbbkjhpaa
namespace Go.Proofs.Ytnblofbbbkjhpaa
open Go.RowKit

theorem AddrM.set_cell (a : AddrM) (q : Nat) (y : UInt8) : a.cells.set (1 + q) (u8v y) = (AddrM.mk a.six (a.ip.set q y)).cells := by
  rw [AddrM.cells, AddrM.cells, Nat.add_comm, List.set_cons_succ, ← List.map_set]
end Go.Proofs.Ytnblofbbbkjhpaa
namespace Go.Proofs.Ytnblofbbbkjhpaa
open Go.RowKit

end Go.Proofs.Ytnblofbbbkjhpaa
namespace Go.Proofs.Ytnblofbbbkjhpaa
open Go.RowKit

theorem MemE.join {b m : Nat} : ∀ {E2 E : List Ent} {top : Nat} {W : World}, MemE m E2 top W → MemE b E m W → MemE b (E2 ++ E) top W
  | [], _, _, _, h, k => MemE.keep k h (fun _ _ _ => rfl)
  | _ :: _, _, _, _, h, k => ⟨h.1, h.2.1, h.2.2.1, MemE.join h.2.2.2 k⟩
theorem MemG.join {w0 W W' : World} {g : Nat} {E E2 : List Ent} (h : MemG w0 g E W) (hg : g < w0.heap.size) (k : MemG W g E2 W') : MemG w0 g (E2 ++ E) W' :=
  ⟨MemE.join k.1 (h.1.keep (Nat.le_refl _) (fun q h1 hq => k.2.block q hq (fun e => by injection e with e; omega))), grownBy_trans h.2 k.2⟩
/-- the choices at a world: p of them taken -/
structure CodesAt (W : World) (g : Nat) (A : Option Addr) (n c : Nat) (l : List UInt8) (B : Nat) (p : Nat) : Prop where
  blk : Blk W g 64 (codesC A n c p)
  rd : Rd W B A n l
  le : B ≤ g
  lt : g < W.heap.size
  small : n ≤ 100000
  pos : p ≤ n
section
variable {W W' : World} {g : Nat} {A : Option Addr} {n c : Nat} {l : List UInt8} {B p : Nat}
theorem CodesAt.below (h : CodesAt W g A n c l B p) (hb : Below W.heap.size W W') : CodesAt W' g A n c l B p :=
  ⟨h.blk.below hb h.lt, h.rd.below2 (by have := h.le; have := h.lt; omega) hb, h.le, Nat.lt_of_lt_of_le h.lt hb.size, h.small, h.pos⟩
theorem CodesAt.put (h : CodesAt W g A n c l B p) {b : Nat} (hg : W.grownBy W' (some b)) (hb : g < b) : CodesAt W' g A n c l B p :=
  ⟨h.blk.grown hg (fun e => by injection e with e; omega), h.rd.keep (fun q hq => World.cell?_of_block (hg.block q.block (by have := h.le; have := h.lt; omega) (fun e => by injection e with e; have := h.le; omega))), h.le, Nat.lt_of_lt_of_le h.lt hg.size, h.small, h.pos⟩
theorem CodesAt.next (h : CodesAt W g A n c l B p) {q : Nat} (hq : q ≤ n) (hb : Blk W' g 64 (codesC A n c q)) (hg : W.grownBy W' (some g)) : CodesAt W' g A n c l B q :=
  ⟨hb, h.rd.kept h.le h.lt hg, h.le, Nat.lt_of_lt_of_le h.lt hg.size, h.small, hq⟩
theorem CodesAt.nextLe (h : CodesAt W g A n c l B p) (m : Nat) : nextP l p m ≤ n := by have := nextP_le l p m (by rw [h.rd.1]; exact h.pos); rw [h.rd.1] at this; exact this
theorem CodesAt.callNext (h : CodesAt W g A n c l B p) (m : Nat) (hm : m ≤ 1000000) :
    Calls Try.prog 32 #[.pointer (some ⟨g, 0, none⟩), .int .i64 (m : Int)] W fun e w' => e = .returned (.int .i64 (nextV l p m : Int)) ∧ CodesAt w' g A n c l B (nextP l p m) ∧ W.grownBy w' (some g) :=
  (caseNext_any g A n c l p h.small h.pos m hm B h.le W h.blk h.rd).mono fun _ _ k => ⟨k.1, h.next (h.nextLe m) k.2.1 k.2.2, k.2.2⟩
theorem CodesAt.callBytes (h : CodesAt W g A n c l B p) (m : Nat) (hm : m ≤ 1000) :
    Calls Try.prog 45 #[.pointer (some ⟨g, 0, none⟩), .int .i64 (m : Int)] W fun e w' => e = .returned (.slice (some ⟨W.heap.size, 0, none⟩) m m) ∧ CodesAt w' g A n c l B (nextP l p 256) ∧ MemG W g [blkE W.heap.size 5 ((pickB l p m).map u8v)] w' :=
  (caseBytes_any g A n c l p h.small h.pos m hm B h.le W h.blk h.rd).mono fun _ _ k => ⟨k.1, h.next (h.nextLe 256) k.2.1 k.2.2.2, k.2.2⟩
end
/-- an address of choices -/
def sixV (l : List UInt8) (p : Nat) : Bool := nextV l p 3 == 1
def fourB (l : List UInt8) (p : Nat) : List UInt8 := [10, UInt8.ofNat (nextV l p 4), UInt8.ofNat (nextV l (nextP l p 4) 4), UInt8.ofNat (nextV l (nextP l (nextP l p 4) 4) 256)]
def codeA (l : List UInt8) (p : Nat) : AddrM := ⟨sixV l p, if sixV l p then (pickB l (nextP l p 3) 16).set 0 253 else putL (List.replicate 16 0) 0 (fourB l (nextP l p 3))⟩
def codeAP (l : List UInt8) (p : Nat) : Nat := if sixV l p then nextP l (nextP l p 3) 256 else nextP l (nextP l (nextP l (nextP l p 3) 4) 4) 256
theorem codeA_ok (l : List UInt8) (p : Nat) : (codeA l p).ok := by
  unfold AddrM.ok codeA
  dsimp only
  split
  · rw [List.length_set, pickB_length]
  · rfl
theorem addr_put16 (b : Bool) (l : List UInt8) (h : l.length = 16) : setL (.bool b :: (List.replicate 16 (0 : UInt8)).map u8v) 1 (l.map u8v) = (AddrM.mk b l).cells := by
  rw [addr_put, AddrM.cells, putL, List.take_zero, List.nil_append, List.drop_of_length_le (by simp [h]), List.append_nil]
set_option maxRecDepth 100000 in
set_option maxHeartbeats 4000000 in
theorem caseAddr_any (g : Nat) (A : Option Addr) (n c : Nat) (l : List UInt8) (B : Nat) (p : Nat) (w : World) (hc : CodesAt w g A n c l B p) :
    Calls Try.prog 25 #[.pointer (some ⟨g, 0, none⟩)] w fun e w' => e = .returned (.agg (codeA l p).cells.toArray) ∧ CodesAt w' g A n c l B (codeAP l p) ∧ w.grownBy w' (some g) := by
  have hgl := hc.lt
  have HM := Lib.hid (show MemG w g [blkE w.heap.size 26 addr0.cells] (w.alloc (.cells #[.bool false, .int .u8 0, .int .u8 0, .int .u8 0, .int .u8 0, .int .u8 0, .int .u8 0, .int .u8 0, .int .u8 0, .int .u8 0, .int .u8 0, .int .u8 0, .int .u8 0, .int .u8 0, .int .u8 0, .int .u8 0, .int .u8 0] 26)) from (MemG.nil w g).alloc rfl 26 #[.bool false, .int .u8 0, .int .u8 0, .int .u8 0, .int .u8 0, .int .u8 0, .int .u8 0, .int .u8 0, .int .u8 0, .int .u8 0, .int .u8 0, .int .u8 0, .int .u8 0, .int .u8 0, .int .u8 0, .int .u8 0, .int .u8 0] addr0.cells rfl)
  have HC := Lib.hid (hc.below ((Below.refl _ _).alloc (Nat.le_refl _) (.cells #[.bool false, .int .u8 0, .int .u8 0, .int .u8 0, .int .u8 0, .int .u8 0, .int .u8 0, .int .u8 0, .int .u8 0, .int .u8 0, .int .u8 0, .int .u8 0, .int .u8 0, .int .u8 0, .int .u8 0, .int .u8 0, .int .u8 0] 26)))
  have HAO := Lib.hid (codeA_ok l p)
  have HCA := Lib.hid (show codeA l p = _ ∧ codeAP l p = _ from ⟨rfl, rfl⟩)
  clear hc
  go_enter Try.func25, Try.ntmps25
  go_upto_region 1 with fail
  generalize w.alloc (.cells #[.bool false, .int .u8 0, .int .u8 0, .int .u8 0, .int .u8 0, .int .u8 0, .int .u8 0, .int .u8 0, .int .u8 0, .int .u8 0, .int .u8 0, .int .u8 0, .int .u8 0, .int .u8 0, .int .u8 0, .int .u8 0, .int .u8 0] 26) = w1 at HM HC ⊢
  go_wp2_with fail
  refine (HC.out.callNext 3 (by omega)).mono ?_
  rintro e w2 ⟨rfl, hc2, hg2⟩
  have hsx : ((nextV l p 3 : Int) == 1) = sixV l p := by rw [sixV, Bool.eq_iff_iff, beq_iff_eq, beq_iff_eq]; omega
  replace HM := Lib.hid (HM.out.next hgl hg2)
  have HC := Lib.hid hc2
  clear hc2 hg2
  have HA := Lib.hid (show MemG w g [blkE w2.heap.size 26 addr0.cells, blkE w.heap.size 26 addr0.cells] (w2.alloc (.cells #[.bool false, .int .u8 0, .int .u8 0, .int .u8 0, .int .u8 0, .int .u8 0, .int .u8 0, .int .u8 0, .int .u8 0, .int .u8 0, .int .u8 0, .int .u8 0, .int .u8 0, .int .u8 0, .int .u8 0, .int .u8 0, .int .u8 0] 26)) from HM.out.alloc rfl 26 #[.bool false, .int .u8 0, .int .u8 0, .int .u8 0, .int .u8 0, .int .u8 0, .int .u8 0, .int .u8 0, .int .u8 0, .int .u8 0, .int .u8 0, .int .u8 0, .int .u8 0, .int .u8 0, .int .u8 0, .int .u8 0, .int .u8 0] addr0.cells rfl)
  have HC3 := Lib.hid (HC.out.below ((Below.refl _ _).alloc (Nat.le_refl _) (.cells #[.bool false, .int .u8 0, .int .u8 0, .int .u8 0, .int .u8 0, .int .u8 0, .int .u8 0, .int .u8 0, .int .u8 0, .int .u8 0, .int .u8 0, .int .u8 0, .int .u8 0, .int .u8 0, .int .u8 0, .int .u8 0, .int .u8 0] 26)))
  have hP3 := HC.out.lt
  obtain ⟨sx, hsxe⟩ : ∃ q, sixV l p = q := ⟨_, rfl⟩
  rw [hsxe] at hsx
  have HSX := Lib.hid hsxe
  clear hsxe
  go_upto_region 2 with (refine wpList_store_blk rfl 26 (.tmp 3) (.tmp 7) rfl w2.heap.size (.bool sx :: (List.replicate 16 (0 : UInt8)).map u8v) rfl rfl 26 addr0.cells (HA.out.blk 0 rfl) (by kernel_rfl) rfl (addr_one sx _) ?_; intro w3 hb hg)
  clear hsx
  (try simp only [Act.put])
  replace HM := Lib.hid (show MemG w g [blkE w2.heap.size 26 (.bool sx :: (List.replicate 16 (0 : UInt8)).map u8v), blkE w.heap.size 26 addr0.cells] w3 from HA.out.put 0 rfl _ hg hb)
  replace HC := Lib.hid (HC3.out.put hg hP3)
  clear HA HC3 hb hg
  have HPG := Lib.hid hP3
  clear hP3
  generalize w2.heap.size = P3 at HM HPG ⊢
  have f6 := (HM.out.blk 0 rfl).cell 0
  rw [show (.bool sx :: (List.replicate 16 (0 : UInt8)).map u8v : List Value)[0]? = some (.bool sx) from rfl] at f6
  cases sx with
  | true =>
    have HR := Lib.hid (show (AddrM.mk true ((pickB l (nextP l p 3) 16).set 0 253)) = codeA l p ∧ nextP l (nextP l p 3) 256 = codeAP l p from by rw [codeA, codeAP, HSX.out]; exact ⟨rfl, rfl⟩)
    have HBL := Lib.hid (pickB_length l (nextP l p 3) 16)
    have HPUT := Lib.hid (addr_put16 true (pickB l (nextP l p 3) 16) HBL.out)
    go_upto_region 3 with fail
    clear f6
    refine wp_region_held_drew (S := fun _ => True) (by kernel_rfl) (trivial) (fun hHeld => ?_)
    replace HM := Lib.hid HM.out.drew
    replace HC := Lib.hid (HC.out.below ((Below.refl _ _).drew))
    generalize w3.drew = wd1 at HM HC hHeld ⊢
    refine take_first (v := ?_) 0 rfl (by kernel_rfl) (by kernel_rfl) (by kernel_rfl) (fun _ _ _ h => h) (Or.inl ⟨by rfl, ?_⟩) (by assumption) ?_
    rotate_left
    · (intro w hSw; (try dsimp only at hSw); go_simp; try with_reducible rfl)
    (try simp only [Act.put, List.setIfInBounds_toArray, List.set_cons_zero, List.set_cons_succ])
    refine take_first (v := ?_) 1 rfl (by kernel_rfl) (by kernel_rfl) (by kernel_rfl) (fun _ _ _ h => h) (Or.inl ⟨by rfl, ?_⟩) (by assumption) ?_
    rotate_left
    · (intro w hSw; (try dsimp only at hSw); go_simp; try with_reducible rfl)
    (try simp only [Act.put, List.setIfInBounds_toArray, List.set_cons_zero, List.set_cons_succ])
    refine take_first (v := ?_) 2 rfl (by kernel_rfl) (by kernel_rfl) (by kernel_rfl) (fun _ _ _ h => h) (Or.inl ⟨by rfl, ?_⟩) (by assumption) ?_
    rotate_left
    · (intro w hSw; (try dsimp only at hSw); go_simp; try with_reducible rfl)
    (try simp only [Act.put, List.setIfInBounds_toArray, List.set_cons_zero, List.set_cons_succ])
    refine step_one 3 rfl (by kernel_rfl) (fun K hK => ?_)
    clear hHeld
    go_simp
    refine (HC.out.callBytes 16 (by omega)).mono ?_
    rintro e wy2 ⟨rfl, hc2, hm2⟩
    replace HM := Lib.hid (show MemG w g [blkE wd1.heap.size 5 ((pickB l (nextP l p 3) 16).map u8v), blkE P3 26 (.bool true :: (List.replicate 16 (0 : UInt8)).map u8v), blkE w.heap.size 26 addr0.cells] wy2 from HM.out.join hgl hm2)
    replace HC := Lib.hid hc2
    clear hc2 hm2
    generalize wd1.heap.size = PB at HM ⊢
    go_wp2_with fail
    refine hK.out _ _ (trivial) (fun hHeld => ?_)
    clear hK K
    (try simp only [Act.put, List.setIfInBounds_toArray, List.set_cons_zero, List.set_cons_succ])
    refine step_one 4 rfl (by kernel_rfl) (fun K hK => ?_)
    clear hHeld
    refine step_copy_bytes _ rfl (.tmp 11) (.tmp 13) 22 22 (by rfl) 5 Try.underlying22 (by kernel_rfl) P3 1 16 16 ⟨PB, 0, none⟩ 16 16 (by rfl) (by rfl) (.bool true :: (List.replicate 16 (0 : UInt8)).map u8v) 26 (HM.out.blk 1 rfl) ((pickB l (nextP l p 3) 16).map u8v) (by rw [List.length_map, HBL.out]; rfl) (fun q v hv => by rw [Go.WideShapes.add_plain]; exact (HM.out.blk 0 rfl).all q v hv) (by rw [List.length_map, HBL.out]; simp) (u8v_one _) ?_
    intro wy3 hb hg
    replace hb : Blk wy3 P3 26 (AddrM.mk true (pickB l (nextP l p 3) 16)).cells := by rw [← HPUT.out]; exact hb
    replace HM := Lib.hid (show MemG w g [blkE PB 5 ((pickB l (nextP l p 3) 16).map u8v), blkE P3 26 (AddrM.mk true (pickB l (nextP l p 3) 16)).cells, blkE w.heap.size 26 addr0.cells] wy3 from HM.out.put 1 rfl _ hg hb)
    replace HC := Lib.hid (HC.out.put hg HPG.out)
    clear hb hg
    refine hK.out _ _ (trivial) (fun hHeld => ?_)
    clear hK K
    (try simp only [Act.put, List.setIfInBounds_toArray, List.set_cons_zero, List.set_cons_succ])
    refine wpAnyH_done (by kernel_rfl) ?_ _
    clear hHeld
    revert wy3
    intro wq HM HC
    have HOK := Lib.hid (show (AddrM.mk true (pickB l (nextP l p 3) 16)).ok from HBL.out)
    have fx := ((HM.out.blk 1 rfl).cell (1 + 0)).trans (AddrM.ip_cell _ HOK.out 0 (by omega))
    have zx := (HM.out.blk 1 rfl).frozen (1 + 0)
    generalize ((AddrM.mk true (pickB l (nextP l p 3) 16)).ip.getD 0 0) = x0 at fx
    have HN := Lib.hid (show MemG w g [blkE PB 5 ((pickB l (nextP l p 3) 16).map u8v), blkE P3 26 (AddrM.mk true ((pickB l (nextP l p 3) 16).set 0 253)).cells, blkE w.heap.size 26 addr0.cells] (wq.setCell ⟨P3, 1 + 0, none⟩ (.int .u8 253)) from by have h := HM.out.setCell 1 rfl (1 + 0) (u8v 253); rw [AddrM.set_cell] at h; exact h)
    replace HC := Lib.hid (show CodesAt (wq.setCell ⟨P3, 1 + 0, none⟩ (.int .u8 253)) g A n c l B (nextP l (nextP l p 3) 256) from HC.out.put (W' := wq.setCell ⟨P3, 1 + 0, none⟩ (.int .u8 253)) (b := P3) ⟨rfl, rfl, rfl, by simp [World.setCell], fun k _ hne => Below.heap_setCell _ _ _ _ (fun e => hne (by rw [e]))⟩ HPG.out)
    rw [Nat.add_zero] at fx zx HN HC
    clear HM
    go_upto_region 5 with fail
    generalize wq.setCell ⟨P3, 1, none⟩ (.int .u8 253) = w5 at HN HC ⊢
    clear fx zx
    rw [HR.out.1] at HN
    rw [HR.out.2] at HC
    have HCL := Lib.hid (addr_cellsOf _ HAO.out)
    have HAL := Lib.hid (AddrM.cells_length HAO.out)
    obtain ⟨ca, hca⟩ : ∃ x, (codeA l p).cells.toArray = x := ⟨_, rfl⟩
    have HCC := Lib.hid hca
    clear hca
    go_wp2_with (first | (refine wpList_load_obj rfl 26 (.tmp 3) rfl P3 0 rfl (codeA l p).cells (HN.out.blk 1 rfl).all _ Try.underlying26 rfl HCL.out ?_; rw [HCC.out]) | (refine wpList_store_blk rfl 26 (.tmp 2) (.tmp 17) rfl w.heap.size (codeA l p).cells rfl (by show Value.agg ca = _; rw [HCC.out]) 26 addr0.cells (HN.out.blk 2 rfl) HCL.out (by rw [HAL.out]; rfl) (AddrM.one _) ?_; intro w9 hb9 hg9))
    exact bodyPost_ret (results_obj rfl _ _ w.heap.size 26 (codeA l p).cells _ rfl hb9 Try.underlying26 rfl HCL.out) rfl ⟨rfl, HC.out.put hg9 hgl, (HN.out.put 2 rfl _ hg9 hb9).2⟩
  | false =>
    obtain ⟨u1, hu1⟩ : ∃ u, UInt8.ofNat (nextV l (nextP l p 3) 4) = u := ⟨_, rfl⟩
    obtain ⟨u2, hu2⟩ : ∃ u, UInt8.ofNat (nextV l (nextP l (nextP l p 3) 4) 4) = u := ⟨_, rfl⟩
    obtain ⟨u3, hu3⟩ : ∃ u, UInt8.ofNat (nextV l (nextP l (nextP l (nextP l p 3) 4) 4) 256) = u := ⟨_, rfl⟩
    have hF : fourB l (nextP l p 3) = [10, u1, u2, u3] := by rw [fourB, hu1, hu2, hu3]
    have HR := Lib.hid (show (AddrM.mk false (putL (List.replicate 16 0) 0 [10, u1, u2, u3])) = codeA l p ∧ nextP l (nextP l (nextP l (nextP l p 3) 4) 4) 256 = codeAP l p from by rw [codeA, codeAP, HSX.out, ← hF]; exact ⟨rfl, rfl⟩)
    have HPUT := Lib.hid (show setL (.bool false :: (List.replicate 16 (0 : UInt8)).map u8v) 1 (([10, u1, u2, u3] : List UInt8).map u8v) = (AddrM.mk false (putL (List.replicate 16 0) 0 ([10, u1, u2, u3] : List UInt8))).cells from addr_put false [10, u1, u2, u3])
    have hw1 : IntKind.u8.wrap (nextV l (nextP l p 3) 4 : Int) = (u1.toNat : Int) := by rw [← hu1]; exact codeByte_wrap _
    have hw2 : IntKind.u8.wrap (nextV l (nextP l (nextP l p 3) 4) 4 : Int) = (u2.toNat : Int) := by rw [← hu2]; exact codeByte_wrap _
    have hw3 : IntKind.u8.wrap (nextV l (nextP l (nextP l (nextP l p 3) 4) 4) 256 : Int) = (u3.toNat : Int) := by rw [← hu3]; exact codeByte_wrap _
    have HW := Lib.hid (And.intro hw1 (And.intro hw2 hw3))
    clear hw1 hw2 hw3 hu1 hu2 hu3 hF
    go_upto_region 6 with fail
    clear f6
    refine wp_region_held_drew (S := fun _ => True) (by kernel_rfl) (trivial) (fun hHeld => ?_)
    replace HM := Lib.hid HM.out.drew
    replace HC := Lib.hid (HC.out.below ((Below.refl _ _).drew))
    generalize w3.drew = wd1 at HM HC hHeld ⊢
    refine take_first (v := ?_) 0 rfl (by kernel_rfl) (by kernel_rfl) (by kernel_rfl) (fun _ _ _ h => h) (Or.inl ⟨by rfl, ?_⟩) (by assumption) ?_
    rotate_left
    · (intro w hSw; (try dsimp only at hSw); go_simp; try with_reducible rfl)
    (try simp only [Act.put, List.setIfInBounds_toArray, List.set_cons_zero, List.set_cons_succ])
    refine take_first (v := ?_) 1 rfl (by kernel_rfl) (by kernel_rfl) (by kernel_rfl) (fun _ _ _ h => h) (Or.inl ⟨by rfl, ?_⟩) (by assumption) ?_
    rotate_left
    · (intro w hSw; (try dsimp only at hSw); go_simp; try with_reducible rfl)
    (try simp only [Act.put, List.setIfInBounds_toArray, List.set_cons_zero, List.set_cons_succ])
    refine take_first (v := ?_) 2 rfl (by kernel_rfl) (by kernel_rfl) (by kernel_rfl) (fun _ _ _ h => h) (Or.inl ⟨by rfl, ?_⟩) (by assumption) ?_
    rotate_left
    · (intro w hSw; (try dsimp only at hSw); go_simp; try with_reducible rfl)
    (try simp only [Act.put, List.setIfInBounds_toArray, List.set_cons_zero, List.set_cons_succ])
    refine take_first (v := ?_) 5 rfl (by kernel_rfl) (by kernel_rfl) (by kernel_rfl) (fun _ _ _ h => h) (Or.inl ⟨by rfl, ?_⟩) (by assumption) ?_
    rotate_left
    · (intro w hSw; (try dsimp only at hSw); go_simp; try with_reducible rfl)
    (try simp only [Act.put, List.setIfInBounds_toArray, List.set_cons_zero, List.set_cons_succ])
    refine take_first (v := ?_) 8 rfl (by kernel_rfl) (by kernel_rfl) (by kernel_rfl) (fun _ _ _ h => h) (Or.inl ⟨by rfl, ?_⟩) (by assumption) ?_
    rotate_left
    · (intro w hSw; (try dsimp only at hSw); go_simp; try with_reducible rfl)
    (try simp only [Act.put, List.setIfInBounds_toArray, List.set_cons_zero, List.set_cons_succ])
    refine step_one 3 rfl (by kernel_rfl) (fun K hK => ?_)
    clear hHeld
    go_simp
    refine (HC.out.callNext 4 (by omega)).mono ?_
    rintro e wy2 ⟨rfl, hc2, hg2⟩
    replace HM := Lib.hid (show MemG w g [blkE P3 26 (.bool false :: (List.replicate 16 (0 : UInt8)).map u8v), blkE w.heap.size 26 addr0.cells] wy2 from HM.out.next hgl hg2)
    replace HC := Lib.hid hc2
    clear hc2 hg2
    go_wp2_with fail
    refine hK.out _ _ (trivial) (fun hHeld => ?_)
    clear hK K
    (try simp only [Act.put, List.setIfInBounds_toArray, List.set_cons_zero, List.set_cons_succ])
    refine take_first (v := ?_) 4 rfl (by kernel_rfl) (by kernel_rfl) (by kernel_rfl) (fun _ _ _ h => h) (Or.inl ⟨by rfl, ?_⟩) (by assumption) ?_
    rotate_left
    · (intro w hSw; (try dsimp only at hSw); have e1 := HW.out.1; go_simp; try with_reducible rfl)
    (try simp only [Act.put, List.setIfInBounds_toArray, List.set_cons_zero, List.set_cons_succ])
    refine step_one 6 rfl (by kernel_rfl) (fun K hK => ?_)
    clear hHeld
    go_simp
    refine (HC.out.callNext 4 (by omega)).mono ?_
    rintro e wy3 ⟨rfl, hc2, hg2⟩
    replace HM := Lib.hid (show MemG w g [blkE P3 26 (.bool false :: (List.replicate 16 (0 : UInt8)).map u8v), blkE w.heap.size 26 addr0.cells] wy3 from HM.out.next hgl hg2)
    replace HC := Lib.hid hc2
    clear hc2 hg2
    go_wp2_with fail
    refine hK.out _ _ (trivial) (fun hHeld => ?_)
    clear hK K
    (try simp only [Act.put, List.setIfInBounds_toArray, List.set_cons_zero, List.set_cons_succ])
    refine take_first (v := ?_) 7 rfl (by kernel_rfl) (by kernel_rfl) (by kernel_rfl) (fun _ _ _ h => h) (Or.inl ⟨by rfl, ?_⟩) (by assumption) ?_
    rotate_left
    · (intro w hSw; (try dsimp only at hSw); have e1 := HW.out.2.1; go_simp; try with_reducible rfl)
    (try simp only [Act.put, List.setIfInBounds_toArray, List.set_cons_zero, List.set_cons_succ])
    refine step_one 9 rfl (by kernel_rfl) (fun K hK => ?_)
    clear hHeld
    go_simp
    refine (HC.out.callNext 256 (by omega)).mono ?_
    rintro e wy4 ⟨rfl, hc2, hg2⟩
    replace HM := Lib.hid (show MemG w g [blkE P3 26 (.bool false :: (List.replicate 16 (0 : UInt8)).map u8v), blkE w.heap.size 26 addr0.cells] wy4 from HM.out.next hgl hg2)
    replace HC := Lib.hid hc2
    clear hc2 hg2
    go_wp2_with fail
    refine hK.out _ _ (trivial) (fun hHeld => ?_)
    clear hK K
    (try simp only [Act.put, List.setIfInBounds_toArray, List.set_cons_zero, List.set_cons_succ])
    refine take_first (v := ?_) 10 rfl (by kernel_rfl) (by kernel_rfl) (by kernel_rfl) (fun _ _ _ h => h) (Or.inl ⟨by rfl, ?_⟩) (by assumption) ?_
    rotate_left
    · (intro w hSw; (try dsimp only at hSw); have e1 := HW.out.2.2; go_simp; try with_reducible rfl)
    (try simp only [Act.put, List.setIfInBounds_toArray, List.set_cons_zero, List.set_cons_succ])
    refine step_one 11 rfl (by kernel_rfl) (fun K hK => ?_)
    clear hHeld
    go_simp
    replace HM := Lib.hid (show MemG w g [blkE wy4.heap.size 5 (([10, u1, u2, u3] : List UInt8).map u8v), blkE P3 26 (.bool false :: (List.replicate 16 (0 : UInt8)).map u8v), blkE w.heap.size 26 addr0.cells] (wy4.alloc (.cells #[.int .u8 10, .int .u8 (u1.toNat : Int), .int .u8 (u2.toNat : Int), .int .u8 (u3.toNat : Int)] 5)) from HM.out.alloc rfl 5 #[.int .u8 10, .int .u8 (u1.toNat : Int), .int .u8 (u2.toNat : Int), .int .u8 (u3.toNat : Int)] (([10, u1, u2, u3] : List UInt8).map u8v) rfl)
    replace HC := Lib.hid (HC.out.below ((Below.refl _ _).alloc (Nat.le_refl _) (.cells #[.int .u8 10, .int .u8 (u1.toNat : Int), .int .u8 (u2.toNat : Int), .int .u8 (u3.toNat : Int)] 5)))
    generalize wy4.alloc (.cells #[.int .u8 10, .int .u8 (u1.toNat : Int), .int .u8 (u2.toNat : Int), .int .u8 (u3.toNat : Int)] 5) = wy5 at HM HC ⊢
    generalize wy4.heap.size = PB at HM ⊢
    refine hK.out _ _ (trivial) (fun hHeld => ?_)
    clear hK K
    (try simp only [Act.put, List.setIfInBounds_toArray, List.set_cons_zero, List.set_cons_succ])
    refine step_one 12 rfl (by kernel_rfl) (fun K hK => ?_)
    clear hHeld
    refine step_copy_bytes _ rfl (.tmp 19) (.tmp 29) 22 22 (by rfl) 5 Try.underlying22 (by kernel_rfl) P3 1 4 16 ⟨PB, 0, none⟩ 4 4 (by rfl) (by rfl) (.bool false :: (List.replicate 16 (0 : UInt8)).map u8v) 26 (HM.out.blk 1 rfl) ((([10, u1, u2, u3] : List UInt8)).map u8v) (by rw [List.length_map, show ([10, u1, u2, u3] : List UInt8).length = 4 from rfl]; rfl) (fun q v hv => by rw [Go.WideShapes.add_plain]; exact (HM.out.blk 0 rfl).all q v hv) (by rw [List.length_map, show ([10, u1, u2, u3] : List UInt8).length = 4 from rfl]; simp) (u8v_one _) ?_
    intro wy6 hb hg
    replace hb : Blk wy6 P3 26 (AddrM.mk false (putL (List.replicate 16 0) 0 ([10, u1, u2, u3] : List UInt8))).cells := by rw [← HPUT.out]; exact hb
    replace HM := Lib.hid (show MemG w g [blkE PB 5 (([10, u1, u2, u3] : List UInt8).map u8v), blkE P3 26 (AddrM.mk false (putL (List.replicate 16 0) 0 ([10, u1, u2, u3] : List UInt8))).cells, blkE w.heap.size 26 addr0.cells] wy6 from HM.out.put 1 rfl _ hg hb)
    replace HC := Lib.hid (HC.out.put hg HPG.out)
    clear hb hg
    refine hK.out _ _ (trivial) (fun hHeld => ?_)
    clear hK K
    (try simp only [Act.put, List.setIfInBounds_toArray, List.set_cons_zero, List.set_cons_succ])
    refine wpAnyH_done (by kernel_rfl) ?_ _
    clear hHeld
    revert wy6
    intro w5 HM HC
    rw [HR.out.1] at HM
    rw [HR.out.2] at HC
    have HCL := Lib.hid (addr_cellsOf _ HAO.out)
    have HAL := Lib.hid (AddrM.cells_length HAO.out)
    obtain ⟨ca, hca⟩ : ∃ x, (codeA l p).cells.toArray = x := ⟨_, rfl⟩
    have HCC := Lib.hid hca
    clear hca
    go_wp2_with (first | (refine wpList_load_obj rfl 26 (.tmp 3) rfl P3 0 rfl (codeA l p).cells (HM.out.blk 1 rfl).all _ Try.underlying26 rfl HCL.out ?_; rw [HCC.out]) | (refine wpList_store_blk rfl 26 (.tmp 2) (.tmp 31) rfl w.heap.size (codeA l p).cells rfl (by show Value.agg ca = _; rw [HCC.out]) 26 addr0.cells (HM.out.blk 2 rfl) HCL.out (by rw [HAL.out]; rfl) (AddrM.one _) ?_; intro w9 hb9 hg9))
    exact bodyPost_ret (results_obj rfl _ _ w.heap.size 26 (codeA l p).cells _ rfl hb9 Try.underlying26 rfl HCL.out) rfl ⟨rfl, HC.out.put hg9 hgl, (HM.out.put 2 rfl _ hg9 hb9).2⟩
end Go.Proofs.Ytnblofbbbkjhpaa
namespace Go.Proofs.Ytnblofbbbkjhpaa
open Go.RowKit

/-- a byte without one bit, counted from the highest -/
def clearBit (x : UInt8) (m : Nat) : UInt8 := x &&& ~~~(UInt8.ofNat (128 / 2 ^ m))
theorem clear_all : ∀ m : Fin 8, ∀ n : Fin 256, bits BinOp.andNot IntKind.u8 (n.val : Int) ((128 / 2 ^ m.val : Nat) : Int) = ((clearBit (UInt8.ofNat n.val) m.val).toNat : Int) := by decide +kernel
theorem clear_bits (x : UInt8) (m : Nat) (h : m < 8) : bits BinOp.andNot IntKind.u8 (x.toNat : Int) (128 / 2 ^ m) = ((clearBit x m).toNat : Int) := by
  have h1 := clear_all ⟨m, h⟩ ⟨x.toNat, x.toNat_lt⟩
  simp only [UInt8.ofNat_toNat] at h1
  rw [← h1, Int.natCast_ediv, Int.natCast_pow]
  rfl
/-- the j bits behind b cleared -/
def clearS (ip : List UInt8) (b : Nat) : Nat → List UInt8
  | 0 => ip
  | j + 1 => (clearS ip b j).set ((b + j) / 8) (clearBit ((clearS ip b j).getD ((b + j) / 8) 0) ((b + j) % 8))
theorem clearS_length (ip : List UInt8) (b : Nat) : ∀ j, (clearS ip b j).length = ip.length
  | 0 => rfl
  | j + 1 => by rw [clearS, List.length_set, clearS_length]
def maskM (a : AddrM) (b : Nat) : AddrM := ⟨a.six, clearS a.ip b (128 - b)⟩
theorem maskM_ok (a : AddrM) (h : a.ok) (b : Nat) : (maskM a b).ok := (clearS_length _ _ _).trans h
def pref0 : List Value := prefC addr0 0
theorem prefC_one (a : AddrM) (bits : Int) : ∀ v ∈ prefC a bits, v.oneCell' = true := by
  intro v hv
  rw [prefC, List.mem_append, List.mem_singleton] at hv
  rcases hv with hv | rfl
  · exact a.one v hv
  · rfl
theorem pref_built (a : AddrM) (ha : a.ok) (q : Int) : Try.prog.built 28 [(0, .agg a.cells.toArray), (1, .int .i64 q)] = some (prefC a q).toArray := by
  rw [built_of 28 [17, 1] [addr0.cells, [.int .i64 0]] rfl #[(0, 17), (17, 1)] (fun parts => by kernel_rfl) (fun i h => by
    match i, h with
    | 0, _ => rfl
    | 1, _ => rfl) _ (fun p hp => by
    simp only [List.mem_cons, List.not_mem_nil, or_false] at hp
    rcases hp with rfl | rfl
    · simp [Value.cells, AddrM.cells_length ha]
    · rfl)]
  simp [prefC, Value.cells]
set_option maxRecDepth 100000 in
set_option maxHeartbeats 4000000 in
theorem caseMasked_any (a : AddrM) (h : a.ok) (b : Nat) (hb : b ≤ 128) (w : World) :
    Calls Try.prog 30 #[.agg a.cells.toArray, .int .i64 (b : Int)] w fun e w' => e = .returned (.agg (prefC (maskM a b) (b : Int)).toArray) ∧ Below w.heap.size w w' := by
  obtain ⟨ca, hca⟩ : ∃ x, a.cells.toArray = x := ⟨_, rfl⟩
  rw [hca]
  have HM := Lib.hid (show Mem w [blkE (w.heap.size + 1) 28 pref0, blkE w.heap.size 26 a.cells] ((w.alloc (.cells ca 26)).alloc (.cells #[.bool false, .int .u8 0, .int .u8 0, .int .u8 0, .int .u8 0, .int .u8 0, .int .u8 0, .int .u8 0, .int .u8 0, .int .u8 0, .int .u8 0, .int .u8 0, .int .u8 0, .int .u8 0, .int .u8 0, .int .u8 0, .int .u8 0, .int .i64 0] 28)) from ((Mem.nil w).alloc rfl 26 ca a.cells hca.symm).alloc (by simp) 28 #[.bool false, .int .u8 0, .int .u8 0, .int .u8 0, .int .u8 0, .int .u8 0, .int .u8 0, .int .u8 0, .int .u8 0, .int .u8 0, .int .u8 0, .int .u8 0, .int .u8 0, .int .u8 0, .int .u8 0, .int .u8 0, .int .u8 0, .int .i64 0] pref0 rfl)
  have HO := Lib.hid h
  clear hca h
  go_enter Try.func30, Try.ntmps30
  go_upto_region 1 with fail
  generalize ((w.alloc (.cells ca 26)).alloc (.cells #[.bool false, .int .u8 0, .int .u8 0, .int .u8 0, .int .u8 0, .int .u8 0, .int .u8 0, .int .u8 0, .int .u8 0, .int .u8 0, .int .u8 0, .int .u8 0, .int .u8 0, .int .u8 0, .int .u8 0, .int .u8 0, .int .u8 0, .int .i64 0] 28)) = w1 at HM ⊢
  go_wp2_with fail
  go_loopw [5] (fun z wr => ∃ k : Nat, b ≤ k ∧ k ≤ 128 ∧ z = .int .i64 (k : Int) ∧ Mem w [blkE (w.heap.size + 1) 28 pref0, blkE w.heap.size 26 (AddrM.mk a.six (clearS a.ip b (k - b))).cells] wr) (fun z _ => 128 - (intOf z).toNat)
  case atStart => exact ⟨b, by omega, by omega, rfl, by rw [Nat.sub_self]; exact HM.out⟩
  case round =>
    clear HM
    obtain ⟨k, hbk, hk, rfl, hM⟩ := hrel
    have HM := Lib.hid hM
    clear hM
    have hok : (AddrM.mk a.six (clearS a.ip b (k - b))).ok := (clearS_length _ _ _).trans HO.out
    by_cases hlt : k < 128
    · have dl : decide ((k : Int) < 128) = true := by simp; omega
      obtain ⟨j, hj⟩ : ∃ j, k - b = j := ⟨_, rfl⟩
      obtain ⟨q, hq⟩ : ∃ q, k / 8 = q := ⟨_, rfl⟩
      obtain ⟨m, hm⟩ : ∃ q, k % 8 = q := ⟨_, rfl⟩
      have hq16 : q < 16 := by omega
      have hm8 : m < 8 := by omega
      have hn : clearS a.ip b (k + 1 - b) = (clearS a.ip b (k - b)).set q (clearBit ((clearS a.ip b (k - b)).getD q 0) m) := by
        rw [show k + 1 - b = (k - b) + 1 by omega, clearS, show b + (k - b) = k by omega, hq, hm]
      have fx := ((HM.out.blk 1 rfl).cell (1 + q)).trans (AddrM.ip_cell _ hok q hq16)
      have zx := (HM.out.blk 1 rfl).frozen (1 + q)
      have hset := AddrM.set_cell (AddrM.mk a.six (clearS a.ip b (k - b))) q
      generalize (clearS a.ip b (k - b)) = ip at HM hn fx hset hok
      generalize hx : ip.getD q 0 = x at fx hn
      have hcb := clear_bits x m hm8
      generalize clearBit x m = y at hcb hn
      have hqI : (k : Int) / 8 = (q : Int) := by omega
      have hmI : (k : Int) % 8 = (m : Int) := by omega
      have hmin : min m 8 = m := by omega
      have bq : (q : Int) < 16 := by omega
      have HN := Lib.hid (show Mem w [blkE (w.heap.size + 1) 28 pref0, blkE w.heap.size 26 (AddrM.mk a.six (clearS a.ip b (k + 1 - b))).cells] (wr.drew.setCell ⟨w.heap.size, 1 + q, none⟩ (.int .u8 (y.toNat : Int))) from by have h := HM.out.drew.setCell 1 rfl (1 + q) (u8v y); rw [hset, ← hn] at h; exact h)
      clear hset hn hx hok HM
      go_upto_region 4 with fail
      go_region
      go_wp2_with fail
      go_roundw
      case rel => exact ⟨k + 1, by omega, by omega, by go_num, HN.out⟩
      case measure => simp [intOf]; omega
    · obtain rfl : k = 128 := by omega
      have HMO := Lib.hid (maskM_ok a HO.out b)
      have hb2 := pref_built (maskM a b) HMO.out (b : Int)
      obtain ⟨cm, hcm⟩ : ∃ x, (maskM a b).cells.toArray = x := ⟨_, rfl⟩
      obtain ⟨cp, hcp⟩ : ∃ x, (prefC (maskM a b) (b : Int)).toArray = x := ⟨_, rfl⟩
      rw [hcm, hcp] at hb2
      have HB := Lib.hid (And.intro hb2 (And.intro hcm hcp))
      have HM2 := Lib.hid (show Mem w [blkE (w.heap.size + 1) 28 pref0, blkE w.heap.size 26 (maskM a b).cells] wr from HM.out)
      have HLP := Lib.hid (prefC_length (maskM a b) HMO.out (b : Int))
      clear hb2 hcm hcp HM hok
      (try rw [show ((128 : Nat) : Int) = 128 from rfl])
      go_wp2_with (first | (refine wpList_load_obj rfl 26 (.tmp 2) rfl w.heap.size 0 rfl (maskM a b).cells (HM2.out.blk 1 rfl).all _ Try.underlying26 rfl (addr_cellsOf _ HMO.out) ?_; rw [HB.out.2.1]) | (refine wpList_build_as rfl 28 [(0, .tmp 22), (1, .tmp 23)] rfl cp ?_ ?_; exact HB.out.1) | (refine wpList_store_blk rfl 28 (.tmp 4) (.tmp 24) rfl (w.heap.size + 1) (prefC (maskM a b) (b : Int)) rfl (by show Value.agg cp = _; rw [HB.out.2.2]) 28 pref0 (HM2.out.blk 0 rfl) (pref_cellsOf _ HMO.out _) (by rw [HLP.out]; rfl) (prefC_one _ _) ?_; intro w9 hb9 hg9))
      exact bodyPost_ret (results_obj rfl _ _ (w.heap.size + 1) 28 (prefC (maskM a b) (b : Int)) _ rfl hb9 Try.underlying28 rfl (pref_cellsOf _ HMO.out _)) rfl ⟨rfl, (HM2.out.put 0 rfl _ hg9 hb9).bel⟩
end Go.Proofs.Ytnblofbbbkjhpaa
namespace Go.Proofs.Ytnblofbbbkjhpaa
open Go.RowKit

/-- the bits of a prefix of choices, and the choices taken behind it -/
def codePn (l : List UInt8) (p : Nat) : Nat := if sixV l p then 129 else 33
def codePb (l : List UInt8) (p : Nat) : Nat := nextV l (codeAP l p) (codePn l p)
def codePP (l : List UInt8) (p : Nat) : Nat := nextP l (codeAP l p) (codePn l p)
theorem codePb_le (l : List UInt8) (p : Nat) : codePb l p ≤ 128 := by
  have h := nextV_lt l (codeAP l p) (codePn l p) (by unfold codePn; split <;> omega)
  have h2 : codePn l p ≤ 129 := by unfold codePn; split <;> omega
  unfold codePb
  omega
def codeM (l : List UInt8) (p : Nat) : AddrM := maskM (codeA l p) (codePb l p)
theorem codeM_ok (l : List UInt8) (p : Nat) : (codeM l p).ok := maskM_ok _ (codeA_ok l p) _
set_option maxRecDepth 100000 in
set_option maxHeartbeats 4000000 in
theorem casePrefix_any (g : Nat) (A : Option Addr) (n c : Nat) (l : List UInt8) (B : Nat) (p : Nat) (w : World) (hc : CodesAt w g A n c l B p) :
    Calls Try.prog 11 #[.pointer (some ⟨g, 0, none⟩)] w fun e w' => e = .returned (.agg (prefC (codeM l p) (codePb l p : Int)).toArray) ∧ CodesAt w' g A n c l B (codePP l p) ∧ w.grownBy w' (some g) := by
  rw [codeM]
  obtain ⟨v, hv⟩ : ∃ v, codePb l p = v := ⟨_, rfl⟩
  have hv128 : v ≤ 128 := hv ▸ codePb_le l p
  rw [hv]
  obtain ⟨ca, hca⟩ : ∃ x, (codeA l p).cells.toArray = x := ⟨_, rfl⟩
  obtain ⟨cp, hcp⟩ : ∃ x, (prefC (maskM (codeA l p) v) (v : Int)).toArray = x := ⟨_, rfl⟩
  have HK := Lib.hid (caseMasked_any (codeA l p) (codeA_ok l p) v hv128)
  have HAC := Lib.hid (caseAddr_any g A n c l B p)
  rw [hca, hcp] at HK
  rw [hca] at HAC
  rw [hcp]
  have HB := Lib.hid (And.intro hca hcp)
  have HV := Lib.hid hv
  have HO := Lib.hid (codeA_ok l p)
  have HMO := Lib.hid (maskM_ok _ HO.out v)
  have HLP := Lib.hid (prefC_length (maskM (codeA l p) v) HMO.out (v : Int))
  have HAL := Lib.hid (AddrM.cells_length HO.out)
  have HCO := Lib.hid (addr_cellsOf _ HO.out)
  clear hca hcp hv
  have hgl := hc.lt
  have HM := Lib.hid (show MemG w g [blkE w.heap.size 28 pref0] (w.alloc (.cells #[.bool false, .int .u8 0, .int .u8 0, .int .u8 0, .int .u8 0, .int .u8 0, .int .u8 0, .int .u8 0, .int .u8 0, .int .u8 0, .int .u8 0, .int .u8 0, .int .u8 0, .int .u8 0, .int .u8 0, .int .u8 0, .int .u8 0, .int .i64 0] 28)) from (MemG.nil w g).alloc rfl 28 #[.bool false, .int .u8 0, .int .u8 0, .int .u8 0, .int .u8 0, .int .u8 0, .int .u8 0, .int .u8 0, .int .u8 0, .int .u8 0, .int .u8 0, .int .u8 0, .int .u8 0, .int .u8 0, .int .u8 0, .int .u8 0, .int .u8 0, .int .i64 0] pref0 rfl)
  have HC := Lib.hid (hc.below ((Below.refl _ _).alloc (Nat.le_refl _) (.cells #[.bool false, .int .u8 0, .int .u8 0, .int .u8 0, .int .u8 0, .int .u8 0, .int .u8 0, .int .u8 0, .int .u8 0, .int .u8 0, .int .u8 0, .int .u8 0, .int .u8 0, .int .u8 0, .int .u8 0, .int .u8 0, .int .u8 0, .int .i64 0] 28)))
  clear hc
  go_enter Try.func11, Try.ntmps11
  go_upto_region 1 with fail
  generalize w.alloc (.cells #[.bool false, .int .u8 0, .int .u8 0, .int .u8 0, .int .u8 0, .int .u8 0, .int .u8 0, .int .u8 0, .int .u8 0, .int .u8 0, .int .u8 0, .int .u8 0, .int .u8 0, .int .u8 0, .int .u8 0, .int .u8 0, .int .u8 0, .int .i64 0] 28) = w1 at HM HC ⊢
  go_wp2_with fail
  refine (HAC.out w1 HC.out).mono ?_
  rintro e w2 ⟨rfl, hc2, hg2⟩
  replace HM := Lib.hid (HM.out.next hgl hg2)
  replace HC := Lib.hid hc2
  clear hc2 hg2
  have HA := Lib.hid (show MemG w g [blkE w2.heap.size 26 addr0.cells, blkE w.heap.size 28 pref0] (w2.alloc (.cells #[.bool false, .int .u8 0, .int .u8 0, .int .u8 0, .int .u8 0, .int .u8 0, .int .u8 0, .int .u8 0, .int .u8 0, .int .u8 0, .int .u8 0, .int .u8 0, .int .u8 0, .int .u8 0, .int .u8 0, .int .u8 0, .int .u8 0] 26)) from HM.out.alloc rfl 26 #[.bool false, .int .u8 0, .int .u8 0, .int .u8 0, .int .u8 0, .int .u8 0, .int .u8 0, .int .u8 0, .int .u8 0, .int .u8 0, .int .u8 0, .int .u8 0, .int .u8 0, .int .u8 0, .int .u8 0, .int .u8 0, .int .u8 0] addr0.cells rfl)
  have HC3 := Lib.hid (HC.out.below ((Below.refl _ _).alloc (Nat.le_refl _) (.cells #[.bool false, .int .u8 0, .int .u8 0, .int .u8 0, .int .u8 0, .int .u8 0, .int .u8 0, .int .u8 0, .int .u8 0, .int .u8 0, .int .u8 0, .int .u8 0, .int .u8 0, .int .u8 0, .int .u8 0, .int .u8 0, .int .u8 0] 26)))
  have hP3 := HC.out.lt
  go_upto_region 2 with (refine wpList_store_blk rfl 26 (.tmp 3) (.tmp 6) rfl w2.heap.size (codeA l p).cells rfl (by show Value.agg ca = _; rw [HB.out.1]) 26 addr0.cells (HA.out.blk 0 rfl) HCO.out (by rw [HAL.out]; rfl) (AddrM.one _) ?_; intro w4 hb hg)
  (try simp only [Act.put])
  replace HM := Lib.hid (show MemG w g [blkE w2.heap.size 26 (codeA l p).cells, blkE w.heap.size 28 pref0] w4 from HA.out.put 0 rfl _ hg hb)
  replace HC := Lib.hid (HC3.out.put hg hP3)
  clear HA HC3 hb hg hP3 HAC
  generalize w2.heap.size = P3 at HM ⊢
  have f6 := (HM.out.blk 0 rfl).cell 0
  rw [show (codeA l p).cells[0]? = some (.bool (sixV l p)) from rfl] at f6
  obtain ⟨sx, hsx⟩ : ∃ q, sixV l p = q := ⟨_, rfl⟩
  rw [hsx] at f6
  have HSX := Lib.hid hsx
  clear hsx
  cases sx with
  | true =>
    have HQ := Lib.hid (show nextV l (codeAP l p) 129 = v ∧ nextP l (codeAP l p) 129 = codePP l p from by rw [← HV.out, codePb, codePP, codePn, HSX.out]; exact ⟨rfl, rfl⟩)
    go_upto_region 5 with fail
    refine wp_region_held_drew (S := fun W' => Blk W' P3 26 (codeA l p).cells) (by kernel_rfl) (((HM.out.drew).blk 0 rfl)) (fun hHeld => ?_)
    replace HM := Lib.hid HM.out.drew
    replace HC := Lib.hid (HC.out.below ((Below.refl _ _).drew))
    generalize w4.drew = wd1 at HM HC hHeld ⊢
    refine take_first (v := .agg ca) 0 rfl (by kernel_rfl) (by kernel_rfl) (by kernel_rfl) (fun _ _ _ h => h) (by rw [← HB.out.1]; exact yields_load_obj (by rfl) 26 (.tmp 3) rfl P3 0 rfl (codeA l p).cells (fun w' hb => hb.all) _ Try.underlying26 rfl HCO.out) (by assumption) ?_
    (try simp only [Act.put, List.setIfInBounds_toArray, List.set_cons_zero, List.set_cons_succ])
    refine take_first (v := ?_) 1 rfl (by kernel_rfl) (by kernel_rfl) (by kernel_rfl) (fun _ _ _ h => h) (Or.inl ⟨by rfl, ?_⟩) (by assumption) ?_
    rotate_left
    · (intro w hSw; (try dsimp only at hSw); go_simp; try with_reducible rfl)
    (try simp only [Act.put, List.setIfInBounds_toArray, List.set_cons_zero, List.set_cons_succ])
    refine take_first (v := ?_) 2 rfl (by kernel_rfl) (by kernel_rfl) (by kernel_rfl) (fun _ _ _ h => h) (Or.inl ⟨by rfl, ?_⟩) (by assumption) ?_
    rotate_left
    · (intro w hSw; (try dsimp only at hSw); go_simp; try with_reducible rfl)
    (try simp only [Act.put, List.setIfInBounds_toArray, List.set_cons_zero, List.set_cons_succ])
    refine step_one 3 rfl (by kernel_rfl) (fun K hK => ?_)
    clear hHeld
    go_simp
    refine (HC.out.callNext 129 (by omega)).mono ?_
    rintro e wy2 ⟨rfl, hc2, hg2⟩
    replace HM := Lib.hid (show MemG w g [blkE P3 26 (codeA l p).cells, blkE w.heap.size 28 pref0] wy2 from HM.out.next hgl hg2)
    replace HC := Lib.hid hc2
    clear hc2 hg2
    rw [HQ.out.2] at HC
    rw [HQ.out.1]
    go_wp2_with fail
    refine hK.out _ _ ((HM.out.blk 0 rfl)) (fun hHeld => ?_)
    clear hK K
    (try simp only [Act.put, List.setIfInBounds_toArray, List.set_cons_zero, List.set_cons_succ])
    refine step_one 4 rfl (by kernel_rfl) (fun K hK => ?_)
    clear hHeld
    go_simp
    refine (HK.out _).mono ?_
    rintro e wy3 ⟨rfl, hb⟩
    replace HM := Lib.hid (show MemG w g [blkE P3 26 (codeA l p).cells, blkE w.heap.size 28 pref0] wy3 from HM.out.below hb)
    replace HC := Lib.hid (HC.out.below hb)
    clear hb
    go_wp2_with fail
    refine hK.out _ _ ((HM.out.blk 0 rfl)) (fun hHeld => ?_)
    clear hK K
    (try simp only [Act.put, List.setIfInBounds_toArray, List.set_cons_zero, List.set_cons_succ])
    refine step_one 5 rfl (by kernel_rfl) (fun K hK => ?_)
    clear hHeld
    refine step_store_blk _ rfl 28 (.tmp 2) (.tmp 13) rfl w.heap.size (prefC (maskM (codeA l p) v) (v : Int)) rfl (by show Value.agg cp = _; rw [HB.out.2]) 28 pref0 (HM.out.blk 1 rfl) (pref_cellsOf _ HMO.out _) (by rw [HLP.out]; rfl) (prefC_one _ _) ?_
    intro wy4 hb hg
    replace HM := Lib.hid (show MemG w g [blkE P3 26 (codeA l p).cells, blkE w.heap.size 28 (prefC (maskM (codeA l p) v) (v : Int))] wy4 from HM.out.put 1 rfl _ hg hb)
    replace HC := Lib.hid (HC.out.put hg hgl)
    clear hb hg
    refine hK.out _ _ ((HM.out.blk 0 rfl)) (fun hHeld => ?_)
    clear hK K
    (try simp only [Act.put])
    refine wpAnyH_done (by kernel_rfl) ?_ _
    clear hHeld
    revert wy4
    intro w9 HM HC
    go_wp2_with fail
    have hb9 := HM.out.blk 1 rfl
    exact bodyPost_ret (results_obj rfl _ _ w.heap.size 28 (prefC (maskM (codeA l p) v) (v : Int)) _ rfl hb9 Try.underlying28 rfl (pref_cellsOf _ HMO.out _)) rfl ⟨by rw [HB.out.2], HC.out, HM.out.2⟩
  | false =>
    have HQ := Lib.hid (show nextV l (codeAP l p) 33 = v ∧ nextP l (codeAP l p) 33 = codePP l p from by rw [← HV.out, codePb, codePP, codePn, HSX.out]; exact ⟨rfl, rfl⟩)
    go_upto_region 5 with fail
    refine wp_region_held_drew (S := fun W' => Blk W' P3 26 (codeA l p).cells) (by kernel_rfl) (((HM.out.drew).blk 0 rfl)) (fun hHeld => ?_)
    replace HM := Lib.hid HM.out.drew
    replace HC := Lib.hid (HC.out.below ((Below.refl _ _).drew))
    generalize w4.drew = wd1 at HM HC hHeld ⊢
    refine take_first (v := .agg ca) 0 rfl (by kernel_rfl) (by kernel_rfl) (by kernel_rfl) (fun _ _ _ h => h) (by rw [← HB.out.1]; exact yields_load_obj (by rfl) 26 (.tmp 3) rfl P3 0 rfl (codeA l p).cells (fun w' hb => hb.all) _ Try.underlying26 rfl HCO.out) (by assumption) ?_
    (try simp only [Act.put, List.setIfInBounds_toArray, List.set_cons_zero, List.set_cons_succ])
    refine take_first (v := ?_) 1 rfl (by kernel_rfl) (by kernel_rfl) (by kernel_rfl) (fun _ _ _ h => h) (Or.inl ⟨by rfl, ?_⟩) (by assumption) ?_
    rotate_left
    · (intro w hSw; (try dsimp only at hSw); go_simp; try with_reducible rfl)
    (try simp only [Act.put, List.setIfInBounds_toArray, List.set_cons_zero, List.set_cons_succ])
    refine take_first (v := ?_) 2 rfl (by kernel_rfl) (by kernel_rfl) (by kernel_rfl) (fun _ _ _ h => h) (Or.inl ⟨by rfl, ?_⟩) (by assumption) ?_
    rotate_left
    · (intro w hSw; (try dsimp only at hSw); go_simp; try with_reducible rfl)
    (try simp only [Act.put, List.setIfInBounds_toArray, List.set_cons_zero, List.set_cons_succ])
    refine step_one 3 rfl (by kernel_rfl) (fun K hK => ?_)
    clear hHeld
    go_simp
    refine (HC.out.callNext 33 (by omega)).mono ?_
    rintro e wy2 ⟨rfl, hc2, hg2⟩
    replace HM := Lib.hid (show MemG w g [blkE P3 26 (codeA l p).cells, blkE w.heap.size 28 pref0] wy2 from HM.out.next hgl hg2)
    replace HC := Lib.hid hc2
    clear hc2 hg2
    rw [HQ.out.2] at HC
    rw [HQ.out.1]
    go_wp2_with fail
    refine hK.out _ _ ((HM.out.blk 0 rfl)) (fun hHeld => ?_)
    clear hK K
    (try simp only [Act.put, List.setIfInBounds_toArray, List.set_cons_zero, List.set_cons_succ])
    refine step_one 4 rfl (by kernel_rfl) (fun K hK => ?_)
    clear hHeld
    go_simp
    refine (HK.out _).mono ?_
    rintro e wy3 ⟨rfl, hb⟩
    replace HM := Lib.hid (show MemG w g [blkE P3 26 (codeA l p).cells, blkE w.heap.size 28 pref0] wy3 from HM.out.below hb)
    replace HC := Lib.hid (HC.out.below hb)
    clear hb
    go_wp2_with fail
    refine hK.out _ _ ((HM.out.blk 0 rfl)) (fun hHeld => ?_)
    clear hK K
    (try simp only [Act.put, List.setIfInBounds_toArray, List.set_cons_zero, List.set_cons_succ])
    refine step_one 5 rfl (by kernel_rfl) (fun K hK => ?_)
    clear hHeld
    refine step_store_blk _ rfl 28 (.tmp 2) (.tmp 13) rfl w.heap.size (prefC (maskM (codeA l p) v) (v : Int)) rfl (by show Value.agg cp = _; rw [HB.out.2]) 28 pref0 (HM.out.blk 1 rfl) (pref_cellsOf _ HMO.out _) (by rw [HLP.out]; rfl) (prefC_one _ _) ?_
    intro wy4 hb hg
    replace HM := Lib.hid (show MemG w g [blkE P3 26 (codeA l p).cells, blkE w.heap.size 28 (prefC (maskM (codeA l p) v) (v : Int))] wy4 from HM.out.put 1 rfl _ hg hb)
    replace HC := Lib.hid (HC.out.put hg hgl)
    clear hb hg
    refine hK.out _ _ ((HM.out.blk 0 rfl)) (fun hHeld => ?_)
    clear hK K
    (try simp only [Act.put])
    refine wpAnyH_done (by kernel_rfl) ?_ _
    clear hHeld
    revert wy4
    intro w9 HM HC
    go_wp2_with fail
    have hb9 := HM.out.blk 1 rfl
    exact bodyPost_ret (results_obj rfl _ _ w.heap.size 28 (prefC (maskM (codeA l p) v) (v : Int)) _ rfl hb9 Try.underlying28 rfl (pref_cellsOf _ HMO.out _)) rfl ⟨by rw [HB.out.2], HC.out, HM.out.2⟩
end Go.Proofs.Ytnblofbbbkjhpaa
namespace Go.Proofs.Ytnblofbbbkjhpaa
open Go.RowKit

set_option maxRecDepth 100000 in
set_option maxHeartbeats 16000000 in
theorem casePrefixes_any (g : Nat) (A : Option Addr) (n c : Nat) (l : List UInt8) (B : Nat) (p : Nat) (m : Nat) (hm : m ≤ 100) (w : World) (hc : CodesAt w g A n c l B p) :
    Calls Try.prog 29 #[.pointer (some ⟨g, 0, none⟩), .int .i64 (m : Int)] w fun e w' => ∃ (ps : List (AddrM × Int)) (A' : Option Addr) (c' p' : Nat), e = .returned (.slice A' ps.length c') ∧ PfRd w' w'.heap.size A' ps.length ps ∧ (∀ ad, A' = some ad → w.heap.size ≤ ad.block) ∧ CodesAt w' g A n c l B p' ∧ w.grownBy w' (some g) ∧ ps.length ≤ m ∧ ps.Nodup ∧ ∀ q ∈ ps, ∃ i, q = (codeM l i, (codePb l i : Int)) := by
  have hgl := hc.lt
  have hN := hc.callNext (m + 1) (by omega)
  rw [show ((m + 1 : Nat) : Int) = (m : Int) + 1 from by omega] at hN
  have hk := nextV_lt l p (m + 1) (by omega)
  obtain ⟨k0, hk0⟩ : ∃ z, nextV l p (m + 1) = z := ⟨_, rfl⟩
  rw [hk0] at hN hk
  have HN := Lib.hid hN
  obtain ⟨ik, hik, hiz, his, hib⟩ := prefInfo
  have HKI := Lib.hid (And.intro hik (And.intro hiz (And.intro his hib)))
  clear hik hiz his hib hN hc hk0
  go_enter Try.func29, Try.ntmps29
  go_wp2_with fail
  refine HN.out.mono ?_
  rintro e w1 ⟨rfl, hcd, hg⟩
  have HC := Lib.hid (And.intro hcd hg)
  clear hcd hg HN
  go_wp2_with fail
  go_loopw [6, 5] (fun i vo wr => ∃ (k : Nat) (ps : List (AddrM × Int)) (q : Nat), ps.length + k ≤ m ∧ i = .int .i64 (k : Int) ∧ wr.ownsRow w.heap.size 28 18 vo ps.length (pfsV ps).flatten ∧ CodesAt wr g A n c l B q ∧ w.grownBy wr (some g) ∧ ps.Nodup ∧ ∀ q ∈ ps, ∃ i, q = (codeM l i, (codePb l i : Int))) (fun i _ _ => (intOf i).toNat)
  case atStart => exact ⟨k0, [], _, by simp; omega, rfl, World.ownsRow_nil _ _ _ _, HC.out.1, HC.out.2, by simp, by simp⟩
  case round =>
    clear HC hk
    obtain ⟨k, ps, q, hkm, rfl, hown, hcd, hg, hnd, hall⟩ := hrel
    have HO := Lib.hid (And.intro hown (And.intro hcd hg))
    have HPS := Lib.hid (And.intro hnd hall)
    obtain ⟨A9, c9, rfl⟩ : ∃ A c, u5 = .slice A ps.length c := by
      rcases hown.2 with ⟨h, h0⟩ | ⟨g, cap, cur, h, _⟩
      · exact ⟨none, 0, by rw [h, h0]⟩
      · exact ⟨_, _, h⟩
    clear hown hcd hg hnd hall
    have HOKS := Lib.hid (show ∀ r ∈ ps, okP r from fun r hr => by
      obtain ⟨i, rfl⟩ := HPS.out.2 r hr
      exact ⟨codeM_ok l i, by have := codePb_le l i; unfold inI64; constructor <;> omega⟩)
    by_cases hk0 : 0 < k
    · have d1 : decide ((k : Int) > 0) = true := by simp; omega
      have HPX := Lib.hid (casePrefix_any g A n c l B q wr HO.out.2.1)
      have hoa := codeM_ok l q
      have hob : inI64 (codePb l q : Int) := by have := codePb_le l q; unfold inI64; constructor <;> omega
      have HME := Lib.hid (show ∃ i, (codeM l q, (codePb l q : Int)) = (codeM l i, (codePb l i : Int)) from ⟨q, rfl⟩)
      generalize codeM l q = a at HPX hoa HME ⊢
      generalize (codePb l q : Int) = bits at HPX hob HME ⊢
      have hlen : ps.length ≤ 100 := by omega
      obtain ⟨pp, hpp⟩ : ∃ z, (prefC a bits).toArray = z := ⟨_, rfl⟩
      rw [hpp] at HPX
      have HPP := Lib.hid hpp
      have HOA := Lib.hid hoa
      have HOB := Lib.hid hob
      clear hpp hoa hob
      go_wp2_with fail
      refine HPX.out.mono ?_
      rintro e w3 ⟨rfl, hcd, hg⟩
      have HO3 := Lib.hid (show w3.ownsRow w.heap.size 28 18 (.slice A9 ps.length c9) ps.length (pfsV ps).flatten ∧ CodesAt w3 g A n c l B (codePP l q) ∧ w.grownBy w3 (some g) from ⟨HO.out.1.kept hg (by
        cases e : (Value.slice A9 ps.length c9).ownBlock with
        | none => exact .inl rfl
        | some b => exact .inr (fun e2 => by injection e2 with e2; have := (HO.out.1.lt b e).1; omega)), hcd, grownBy_trans HO.out.2.2 hg⟩)
      clear hcd hg HO HPX
      have HZ := Lib.hid (Blk.new w3 28 (prefC addr0 0))
      go_upto_region 7 with (refine wpList_store_obj rfl 28 (.tmp 7) (.tmp 20) rfl w3.heap.size 0 (prefC a bits) rfl (by show Value.agg pp = _; rw [HPP.out]) 28 (prefC addr0 0) HZ.out (pref_cellsOf' a HOA.out bits) (by rw [prefC_length a HOA.out]; decide) (pref_oneR a bits) ?_; intro w4 hb4 hg4)
      rw [setL_all _ _ (by rw [prefC_length a HOA.out]; rfl)] at hb4
      have hbf := below_fresh hg4
      have HX4 := Lib.hid (show Blk w4 w3.heap.size 28 (prefC a bits) ∧ PfRd w4 w4.heap.size A9 ps.length ps from ⟨hb4, PfRd.of_own rfl HOKS.out (own_below HO3.out.1 hbf)⟩)
      have HO4 := Lib.hid (show w4.ownsRow w.heap.size 28 18 (.slice A9 ps.length c9) ps.length (pfsV ps).flatten ∧ CodesAt w4 g A n c l B (codePP l q) ∧ w.grownBy w4 (some g) from ⟨own_below HO3.out.1 hbf, HO3.out.2.1.below hbf, grownB HO3.out.2.2 hbf⟩)
      clear hbf hb4 hg4 HZ HO3 d1
      generalize w3.heap.size = P1 at HX4 ⊢
      obtain ⟨len, hl0⟩ : ∃ z, ps.length = z := ⟨_, rfl⟩
      rw [hl0] at HX4 HO4 hlen hkm ⊢
      have HL := Lib.hid hl0
      clear hl0
      go_wp2_with fail
      go_loopw [23, 8] (fun i vf wz => ∃ j : Nat, j ≤ len ∧ i = .int .i64 (j : Int) ∧ vf = .bool (decide ((a, bits) ∉ ps.take j)) ∧ Below w4.heap.size w4 wz) (fun i _ _ => len - (intOf i).toNat)
      case atStart => exact ⟨0, by omega, rfl, by simp, Below.refl _ _⟩
      case round =>
        obtain ⟨j, hj, rfl, rfl, hW⟩ := hrel
        have HW := Lib.hid hW
        clear hW
        by_cases hjn : j < len
        · have d1 : decide ((j : Int) < (len : Int)) = true := by simp; omega
          obtain ⟨b, off, rfl⟩ := HX4.out.2.1.addr (by omega)
          obtain ⟨r, hr⟩ : ∃ r, ps[j]? = some r := ⟨ps[j]'(by rw [HL.out]; exact hjn), List.getElem?_eq_getElem _⟩
          have HOK := Lib.hid (HX4.out.2.ok hr)
          have hat := HX4.out.2.at j r hr
          have HLA := Lib.hid (hat.2.mono HW.out hat.1)
          have HP1 := Lib.hid (HX4.out.1.all.mono HW.out HX4.out.1.lt)
          have hmem : decide ((a, bits) ∉ ps.take (j + 1)) = (decide ((a, bits) ∉ ps.take j) && !decide (a = r.1 ∧ bits = r.2)) := by
            rw [take_snoc hr]
            have : (a, bits) = r ↔ a = r.1 ∧ bits = r.2 := by cases r; simp
            by_cases h1 : (a, bits) ∈ ps.take j <;> by_cases h2 : a = r.1 ∧ bits = r.2 <;> simp [h1, h2, this]
          have HME2 := Lib.hid hmem
          have heq := fun w' : World => pref_eqd a r.1 bits r.2 HOA.out HOK.out.1 HOB.out HOK.out.2 w'
          obtain ⟨rp, hrp⟩ : ∃ z, (prefC r.1 r.2).toArray = z := ⟨_, rfl⟩
          rw [HPP.out, hrp] at heq
          have HEQ := Lib.hid heq
          have HRP := Lib.hid hrp
          clear hat hr hmem heq hrp
          obtain ⟨fb, hfb⟩ : ∃ z, decide ((a, bits) ∉ ps.take j) = z := ⟨_, rfl⟩
          rw [hfb] at HME2 ⊢
          clear hfb
          obtain ⟨eb, heb⟩ : ∃ z, decide (a = r.1 ∧ bits = r.2) = z := ⟨_, rfl⟩
          rw [heb] at HME2 HEQ
          clear heb
          have HZ := Lib.hid (Blk.new wr 28 (prefC addr0 0))
          go_upto_region 10 with (first | (refine wpList_load_obj rfl 28 (.tmp 25) rfl b _ rfl (prefC r.1 r.2) HLA.out _ Try.underlying28 rfl (pref_cellsOf' r.1 HOK.out.1 r.2) ?_; rw [HRP.out]) | (refine wpList_store_obj rfl 28 (.tmp 10) (.tmp 26) rfl wr.heap.size 0 (prefC r.1 r.2) rfl (by show Value.agg rp = _; rw [HRP.out]) 28 (prefC addr0 0) HZ.out (pref_cellsOf' r.1 HOK.out.1 r.2) (by rw [prefC_length r.1 HOK.out.1]; decide) (pref_oneR _ _) ?_; intro w5 hb5 hg5))
          rw [setL_all _ _ (by rw [prefC_length r.1 HOK.out.1]; rfl)] at hb5
          have hbf := below_fresh hg5
          have HP5 := Lib.hid (show At w5 P1 0 (prefC a bits) from HP1.out.mono hbf (Nat.lt_of_lt_of_le HX4.out.1.lt HW.out.size))
          have HF := Lib.hid (show Below w4.heap.size w4 w5 from HW.out.trans (hbf.mono HW.out.size))
          have HQ5 := Lib.hid hb5
          clear hb5 hg5 HZ d1 HP1 HLA HW hbf
          generalize wr.heap.size = P2 at HQ5 ⊢
          cases fb with
          | false =>
            go_wp2_with fail
            go_roundw
            case rel => exact ⟨j + 1, by omega, by go_num, by rw [HME2.out]; rfl, HF.out⟩
            case measure => simp [intOf]; omega
          | true =>
            go_wp2_with (first | (refine wpList_load_obj_g (by rfl) 28 (.tmp 7) rfl P1 0 rfl (prefC a bits) HP5.out _ Try.underlying28 rfl (pref_cellsOf' a HOA.out bits) ?_; rw [HPP.out]) | (refine wpList_load_obj_g (by rfl) 28 (.tmp 10) rfl P2 0 rfl (prefC r.1 r.2) HQ5.out.all _ Try.underlying28 rfl (pref_cellsOf' r.1 HOK.out.1 r.2) ?_; rw [HRP.out]) | (refine wpList_neq_agg (by rfl) 28 28 29 30 rfl pp rp eb rfl rfl prefix_noguard (HEQ.out _) ?_))
            go_roundw
            case rel => exact ⟨j + 1, by omega, by go_num, by rw [HME2.out]; rfl, HF.out⟩
            case measure => simp [intOf]; omega
        · obtain rfl : j = len := by omega
          have d1 : decide ((j : Int) < (j : Int)) = false := by simp
          have htk : ps.take j = ps := List.take_of_length_le (by rw [HL.out]; exact Nat.le_refl _)
          rw [htk]
          have HW0 := Lib.hid HW.out
          have ho6 := own_below HO4.out.1 HW0.out
          have hc6 := HO4.out.2.1.below HW0.out
          have hg6 := grownB HO4.out.2.2 HW0.out
          have HO6 := Lib.hid (And.intro ho6 (And.intro hc6 hg6))
          have HP6 := Lib.hid (HX4.out.1.all.mono HW0.out HX4.out.1.lt)
          clear ho6 hc6 hg6 HW HW0 HX4 HO4 htk
          by_cases hin : (a, bits) ∈ ps
          · have db : decide ((a, bits) ∉ ps) = false := by simpa using hin
            rw [db]
            clear db hin
            go_wp2_with fail
            go_roundw
            case rel => exact ⟨k - 1, ps, _, by rw [HL.out]; omega, by go_num; try omega, by rw [HL.out]; exact HO6.out.1, HO6.out.2.1, HO6.out.2.2, HPS.out.1, HPS.out.2⟩
            case measure => simp [intOf]; omega
          · have db : decide ((a, bits) ∉ ps) = true := by simpa using hin
            have HIN := Lib.hid hin
            rw [db]
            clear db hin
            go_wp2_with (first | (refine wpList_load_obj rfl 28 (.tmp 7) rfl P1 0 rfl (prefC a bits) HP6.out _ Try.underlying28 rfl (pref_cellsOf' a HOA.out bits) ?_; rw [HPP.out]) | (refine wpList_buildOne rfl 38 28 (.tmp 36) rfl pp rfl 18 Try.underlying38 ik HKI.out.1 HKI.out.2.2.1 _ HKI.out.2.1 (by omega) (by omega) (by rw [← HPP.out, List.size_toArray, prefC_length a HOA.out]) ?_) | (refine wpList_append_own_at _ rfl (.tmp 35) (.tmp 37) 38 rfl w.heap.size 28 ik _ 18 32 Try.underlying38 HKI.out.1 HKI.out.2.1 HKI.out.2.2.1 HKI.out.2.2.2 (by rfl) (by omega) _ j _ rfl (HO6.out.1.alloc (.cells pp 28)) ⟨wr.heap.size, 0, none⟩ 1 1 (prefC a bits) rfl (by rw [prefC_length a HOA.out]) (fun q v hv => by rw [Go.WideShapes.add_plain, Nat.zero_add, ← HPP.out, (Blk.new wr 28 (prefC a bits)).cell]; exact hv) (pref_oneR _ _) (by unfold maxLen; omega) (by omega) (Nat.le_trans HO6.out.2.2.size (by simp)) ?_; intro v7 w7 ho7 hg7 _ hk7))
            replace hg7 : (wr.alloc (.cells pp 28)).grownBy w7 (Value.slice A9 j c9).ownBlock := hg7
            have hal : Below wr.heap.size wr (wr.alloc (.cells pp 28)) := (Below.refl _ _).alloc (Nat.le_refl _) _
            have hc7 := HO6.out.2.1.below hal
            have hg7b := grownA (grownB HO6.out.2.2 hal) hg7 (fun b hb => (HO6.out.1.lt b hb).1)
            have hc8 : CodesAt w7 g A n c l B (codePP l q) := by
              cases e : (Value.slice A9 j c9).ownBlock with
              | none => exact hc7.below (by rw [e] at hg7; exact (Below.refl _ _).grown hg7 (Nat.le_refl _) (fun b hb => by cases hb))
              | some b =>
                rw [e] at hg7
                exact hc7.put hg7 (by have := (HO6.out.1.lt b e).1; omega)
            have HF := Lib.hid (And.intro ho7 (And.intro hc8 hg7b))
            clear ho7 hg7 hk7 hal hc7 hg7b hc8
            go_roundw
            case rel => exact ⟨k - 1, ps ++ [(a, bits)], _, by rw [List.length_append, HL.out]; simp; omega, by go_num; try omega, by rw [List.length_append, HL.out, pfsV_snoc]; exact HF.out.1, HF.out.2.1, HF.out.2.2, List.nodup_append.2 ⟨HPS.out.1, by simp, fun x hx y hy => by simp at hy; subst hy; exact fun e => HIN.out (e ▸ hx)⟩, fun x hx => by
              rcases List.mem_append.1 hx with h | h
              · exact HPS.out.2 x h
              · rw [List.mem_singleton.1 h]; exact HME.out⟩
            case measure => simp [intOf]; omega
    · obtain rfl : k = 0 := by omega
      have HX := Lib.hid (PfRd.of_own rfl HOKS.out HO.out.1)
      have HLO := Lib.hid (show ∀ ad, A9 = some ad → w.heap.size ≤ ad.block from fun ad h => by subst h; exact (HO.out.1.lt ad.block rfl).1)
      have HF := Lib.hid HO.out.2
      have HLE := Lib.hid (show ps.length ≤ m by omega)
      clear HO
      go_wp2_with fail
      go_ret
      exact ⟨ps, _, _, _, rfl, HX.out, HLO.out, HF.out.1, HF.out.2, HLE.out, HPS.out.1, HPS.out.2⟩
end Go.Proofs.Ytnblofbbbkjhpaa
namespace Go.Proofs.Ytnblofbbbkjhpaa
open Go.RowKit

theorem RdRow.kept {W W' : World} {B k n g : Nat} {A : Option Addr} {os : List (List Value)} (h : RdRow W B A k n os) (hB : B ≤ W.heap.size) (hg : W.grownBy W' (some g)) (hne : ∀ ad, A = some ad → g < ad.block) : RdRow W' B A k n os :=
  ⟨h.1, h.2.1, fun hn => by
    obtain ⟨b, off, e, hlt, hc⟩ := h.2.2 hn
    exact ⟨b, off, e, hlt, fun j v hv => (World.cell?_of_block (hg.block b (by omega) (fun e2 => by injection e2 with e2; have := hne _ e; simp only at this; omega))).trans (hc j v hv)⟩⟩
theorem RtRd.kept {W W' : World} {n g : Nat} {A : Option Addr} {l : List RouteM} (h : RtRd W W.heap.size A n l) (hg : W.grownBy W' (some g)) (hne : ∀ ad, A = some ad → g < ad.block) : RtRd W' W'.heap.size A n l := ⟨(h.1.kept (Nat.le_refl _) hg hne).mono hg.size, h.2⟩
theorem PfRd.kept {W W' : World} {n g : Nat} {A : Option Addr} {l : List (AddrM × Int)} (h : PfRd W W.heap.size A n l) (hg : W.grownBy W' (some g)) (hne : ∀ ad, A = some ad → g < ad.block) : PfRd W' W'.heap.size A n l := ⟨(h.1.kept (Nat.le_refl _) hg hne).mono hg.size, h.2⟩
theorem At.kept {W W' : World} {b off g : Nat} {cs : List Value} (h : At W b off cs) (hb : b < W.heap.size) (hg : W.grownBy W' (some g)) (hne : g < b) : At W' b off cs := fun j v hv => (World.cell?_of_block (hg.block b hb (fun e2 => by injection e2 with e2; omega))).trans (h j v hv)
/-- a key of one byte -/
def keyB (y : UInt8) : List UInt8 := y :: List.replicate 31 0
theorem key_byte (y : UInt8) : Try.prog.built 30 [(0, .int .u8 (y.toNat : Int))] = some ((keyB y).map u8v).toArray := by kernel_rfl
/-- routes inserted one after the other -/
def insAll (xs : List ((AddrM × Int) × UInt8)) : List RouteM := xs.foldl (fun l x => (insM l x.1.1 x.1.2 (keyB x.2)).1) []
theorem insAll_snoc (xs : List ((AddrM × Int) × UInt8)) (x : (AddrM × Int) × UInt8) : insAll (xs ++ [x]) = (insM (insAll xs) x.1.1 x.1.2 (keyB x.2)).1 := by simp [insAll]
theorem insM_len (l : List RouteM) (a : AddrM) (b : Int) (k : List UInt8) : (insM l a b k).1.length ≤ l.length + 1 := by
  unfold insM
  split
  · simp
  · split
    · simp
    · split
      · simp
      · simp only [List.length_append, List.length_cons, List.length_take, List.length_drop]
        omega
/-- what is made of choices: the prefixes are different choices, at most ten -/
def MadeOf (l : List UInt8) (xs : List ((AddrM × Int) × UInt8)) : Prop := xs.length ≤ 10 ∧ (xs.map (·.1)).Nodup ∧ ∀ x ∈ xs, ∃ i, x.1 = (codeM l i, (codePb l i : Int))
set_option maxRecDepth 100000 in
set_option maxHeartbeats 16000000 in
theorem made_any (A : Option Addr) (n c : Nat) (l : List UInt8) (hnc : n ≤ c) (hcm : c ≤ maxLen) (w : World) (hr : Rd w w.heap.size A n l) :
    Calls Try.prog 9 #[.slice A n c] w fun e w' => ∃ xs A' c', MadeOf (l.take (min n 160)) xs ∧ e = .returned (.slice A' (insAll xs).length c') ∧ RtRd w' w'.heap.size A' (insAll xs).length (insAll xs) ∧ ((insAll xs).length ≤ c' ∧ c' ≤ maxLen) ∧ Below w.heap.size w w' := by
  obtain ⟨k0, hk⟩ : ∃ k, min n 160 = k := ⟨_, rfl⟩
  rw [hk]
  have HR := Lib.hid (hr.take (show k0 ≤ n by omega))
  have HW1 := Lib.hid (caseNew_any A n c 160 k0 (by omega) hnc hcm hk w)
  have hk60 : k0 ≤ 160 := by omega
  generalize l.take k0 = lk at HR ⊢
  clear hr hk hnc hcm
  go_enter Try.func9, Try.ntmps9
  go_wp2_with fail
  refine HW1.out.mono ?_
  rintro e w1 ⟨rfl, hm⟩
  have hc : CodesAt w1 w.heap.size A k0 c lk w.heap.size 0 := ⟨hm.blk 0 rfl, HR.out.below hm.bel, Nat.le_refl _, (hm.blk 0 rfl).lt, by omega, Nat.zero_le _⟩
  have hps := casePrefixes_any w.heap.size A k0 c lk w.heap.size 0 10 (by omega) w1 hc
  rw [show ((10 : Nat) : Int) = 10 from rfl] at hps
  obtain ⟨G, hG⟩ : ∃ G, w.heap.size = G := ⟨_, rfl⟩
  rw [hG] at hps
  have HPS := Lib.hid hps
  clear hps
  have HB1 := Lib.hid hm.bel
  have HG := Lib.hid (show w.heap.size < w1.heap.size from hc.lt)
  clear hc hm HW1
  go_wp2_with fail
  refine HPS.out.mono ?_
  rintro e w2 ⟨ps, Ap, cp, q0, rfl, hps, hplo, hcd, hg, hle, hnd, hall⟩
  clear HPS
  have HX2 := Lib.hid (show CodesAt w2 G A k0 c lk G q0 ∧ PfRd w2 w2.heap.size Ap ps.length ps ∧ Below w.heap.size w w2 from by
    exact ⟨hcd, hps, HB1.out.grown hg HB1.out.size (fun b hb => by injection hb with hb; omega)⟩)
  have HPL := Lib.hid (show ∀ ad, Ap = some ad → G < ad.block from fun ad h => by have := hplo ad h; have := HG.out; omega)
  have HND := Lib.hid (And.intro hnd hall)
  clear hps hcd hg hnd hall HB1 hplo
  obtain ⟨np, hnp⟩ : ∃ z, ps.length = z := ⟨_, rfl⟩
  rw [hnp] at HX2 hle ⊢
  have HNP := Lib.hid hnp
  clear hnp
  have HGE := Lib.hid (show w.heap.size = G from hG)
  clear hG
  go_wp2_with fail
  go_loopw [12, 4] (fun i vo wr => ∃ (j : Nat) (xs : List ((AddrM × Int) × UInt8)) (q : Nat) (A9 : Option Addr) (c9 : Nat), j ≤ np ∧ i = .int .i64 (j : Int) ∧ xs.map (·.1) = ps.take j ∧ vo = .slice A9 (insAll xs).length c9 ∧ (insAll xs).length ≤ j ∧ RtRd wr wr.heap.size A9 (insAll xs).length (insAll xs) ∧ (∀ ad, A9 = some ad → G < ad.block) ∧ ((insAll xs).length ≤ c9 ∧ c9 ≤ maxLen) ∧ CodesAt wr G A k0 c lk G q ∧ PfRd wr wr.heap.size Ap np ps ∧ Below w.heap.size w wr) (fun i _ _ => np - (intOf i).toNat)
  case atStart => exact ⟨0, [], q0, none, 0, by omega, rfl, rfl, rfl, by simp [insAll], RtRd.nil, (fun _ h => by cases h), ⟨Nat.le_refl _, by unfold maxLen; omega⟩, HX2.out.1, HX2.out.2.1, HX2.out.2.2⟩
  case round =>
    clear HX2
    obtain ⟨j, xs, q, A9, c9, hj, rfl, hxs, rfl, hln, hrt, hlo, hcp, hcd, hpf, hbl⟩ := hrel
    obtain ⟨rs, hrs⟩ : ∃ z, insAll xs = z := ⟨_, rfl⟩
    rw [hrs] at hrt hln hcp ⊢
    have HCP := Lib.hid hcp
    clear hcp
    have HRS := Lib.hid hrs
    have HXS := Lib.hid hxs
    have HLO := Lib.hid hlo
    clear hlo
    have HO := Lib.hid (And.intro hrt (And.intro hcd (And.intro hpf hbl)))
    clear hrs hrt hcd hpf hbl hxs
    by_cases hjn : j < np
    · have d1 : decide ((j : Int) < (np : Int)) = true := by simp; omega
      obtain ⟨b, off, rfl⟩ := HO.out.2.2.1.1.addr (by omega)
      obtain ⟨x, hx⟩ : ∃ x, ps[j]? = some x := ⟨ps[j]'(by rw [HNP.out]; exact hjn), List.getElem?_eq_getElem _⟩
      have HOK := Lib.hid (HO.out.2.2.1.ok hx)
      have HLA := Lib.hid (HO.out.2.2.1.at j x hx).2
      have HJX := Lib.hid hx
      clear hx
      obtain ⟨xp, hxp⟩ : ∃ z, (prefC x.1 x.2).toArray = z := ⟨_, rfl⟩
      have HXP := Lib.hid hxp
      have HZ := Lib.hid (Blk.new wr 28 (prefC addr0 0))
      go_upto_region 6 with (first | (refine wpList_load_obj rfl 28 (.tmp 14) rfl b _ rfl (prefC x.1 x.2) HLA.out _ Try.underlying28 rfl (pref_cellsOf' x.1 HOK.out.1 x.2) ?_; rw [HXP.out]) | (refine wpList_store_obj rfl 28 (.tmp 6) (.tmp 15) rfl wr.heap.size 0 (prefC x.1 x.2) rfl (by show Value.agg xp = _; rw [HXP.out]) 28 (prefC addr0 0) HZ.out (pref_cellsOf' x.1 HOK.out.1 x.2) (by rw [prefC_length x.1 HOK.out.1]; decide) (pref_oneR _ _) ?_; intro w5 hb5 hg5))
      rw [setL_all _ _ (by rw [prefC_length x.1 HOK.out.1]; rfl)] at hb5
      have hbf := below_fresh hg5
      have hsz := HO.out.2.2.2.size
      obtain ⟨Y, hY⟩ : ∃ y, UInt8.ofNat (1 + nextV lk q 3) = y := ⟨_, rfl⟩
      have hn3 := nextV_lt lk q 3 (by omega)
      have hYn : Y.toNat = 1 + nextV lk q 3 := by rw [← hY, UInt8.toNat_ofNat', Nat.mod_eq_of_lt (by omega)]
      have y1 : IntKind.u8.wrap (1 + (nextV lk q 3 : Int)) = (Y.toNat : Int) := by rw [IntKind.wrap_u8, hYn]; omega
      have y2 : (1 + (nextV lk q 3 : Int)) % 256 = (Y.toNat : Int) := by rw [hYn]; omega
      have y3 : IntKind.i64.wrap (1 + (nextV lk q 3 : Int)) = 1 + (nextV lk q 3 : Int) := IntWalk.i64_in _ (by omega)
      obtain ⟨ky, hky⟩ : ∃ z, ((keyB Y).map u8v).toArray = z := ⟨_, rfl⟩
      have HKY := Lib.hid hky
      have hin := fun (A : Option Addr) (c : Nat) (W : World) (h : RtRd W W.heap.size A rs.length rs) => refInsert_any A rs.length c rs (by omega) x.1 x.2 HOK.out.1 HOK.out.2 (keyB Y) rfl W h
      rw [hxp, hky] at hin
      have HIN := Lib.hid hin
      clear hxp hky hin hY hn3 hYn d1
      have hdw : Below wr.heap.size wr w5.drew := hbf.drew
      have hc5 := HO.out.2.1.below hdw
      have hnx := hc5.callNext 3 (by omega)
      rw [show ((3 : Nat) : Int) = 3 from rfl] at hnx
      have HNX := Lib.hid hnx
      have HD := Lib.hid (show RtRd w5.drew w5.drew.heap.size A9 rs.length rs ∧ PfRd w5.drew w5.drew.heap.size (some ⟨b, off, none⟩) np ps ∧ Below w.heap.size w w5.drew from ⟨(HO.out.1.below hdw).mono hdw.size, (HO.out.2.2.1.below hdw).mono hdw.size, HO.out.2.2.2.trans (hdw.mono hsz)⟩)
      have HPD := Lib.hid (show At w5.drew wr.heap.size 0 (prefC x.1 x.2) from hb5.all.mono (Below.refl w5.heap.size w5).drew hb5.lt)
      have HP1 := Lib.hid (show wr.heap.size < w5.drew.heap.size ∧ G < wr.heap.size from ⟨hb5.lt, HO.out.2.1.lt⟩)
      clear hb5 hg5 HZ hbf hsz hdw hc5 hnx HLA HO
      generalize wr.heap.size = P1 at HPD HP1 ⊢
      refine wp_region_held_drew (S := fun W' => At W' P1 0 (prefC x.1 x.2)) (by kernel_rfl) (HPD.out) (fun hHeld => ?_)
      refine take_first (v := ?_) 0 rfl (by kernel_rfl) (by kernel_rfl) (by kernel_rfl) (fun _ _ _ h => h) (Or.inl ⟨by rfl, ?_⟩) (by assumption) ?_
      rotate_left
      · (intro w hSw; (try dsimp only at hSw); go_simp; try with_reducible rfl)
      (try simp only [Act.put, List.setIfInBounds_toArray, List.set_cons_zero, List.set_cons_succ])
      refine take_first (v := .agg xp) 1 rfl (by kernel_rfl) (by kernel_rfl) (by kernel_rfl) (fun _ _ _ h => h) (by rw [← HXP.out]; exact yields_load_obj (by rfl) 28 (.tmp 6) rfl P1 0 rfl (prefC x.1 x.2) (fun W hW => hW) _ Try.underlying28 rfl (pref_cellsOf' x.1 HOK.out.1 x.2)) (by assumption) ?_
      (try simp only [Act.put, List.setIfInBounds_toArray, List.set_cons_zero, List.set_cons_succ])
      refine take_first (v := ?_) 2 rfl (by kernel_rfl) (by kernel_rfl) (by kernel_rfl) (fun _ _ _ h => h) (Or.inl ⟨by rfl, ?_⟩) (by assumption) ?_
      rotate_left
      · (intro w hSw; (try dsimp only at hSw); go_simp; try with_reducible rfl)
      (try simp only [Act.put, List.setIfInBounds_toArray, List.set_cons_zero, List.set_cons_succ])
      clear hHeld
      refine step_one 3 rfl (by kernel_rfl) (fun K hK => ?_)
      go_simp
      refine HNX.out.mono ?_
      rintro e w6 ⟨rfl, hcd, hg⟩
      have HD6 := Lib.hid (show CodesAt w6 G A k0 c lk G (nextP lk q 3) ∧ RtRd w6 w6.heap.size A9 rs.length rs ∧ PfRd w6 w6.heap.size (some ⟨b, off, none⟩) np ps ∧ At w6 P1 0 (prefC x.1 x.2) ∧ Below w.heap.size w w6 from ⟨hcd, HD.out.1.kept hg HLO.out, HD.out.2.1.kept hg HPL.out, HPD.out.kept HP1.out.1 hg HP1.out.2, HD.out.2.2.grown hg HD.out.2.2.size (fun b hb => by injection hb with hb; have := HGE.out; omega)⟩)
      have HP6 := Lib.hid (Nat.lt_of_lt_of_le HP1.out.1 hg.size)
      clear hcd hg
      go_wp2_with fail
      refine hK.out _ _ HD6.out.2.2.2.1 (fun hHeld => ?_)
      clear hK K
      (try simp only [Act.put, List.setIfInBounds_toArray, List.set_cons_zero, List.set_cons_succ])
      refine take_first (v := ?_) 4 rfl (by kernel_rfl) (by kernel_rfl) (by kernel_rfl) (fun _ _ _ h => h) (Or.inl ⟨by rfl, ?_⟩) (by assumption) ?_
      rotate_left
      · (intro w hSw; (try dsimp only at hSw); go_simp; try with_reducible rfl)
      (try simp only [Act.put, List.setIfInBounds_toArray, List.set_cons_zero, List.set_cons_succ])
      refine take_first (v := ?_) 5 rfl (by kernel_rfl) (by kernel_rfl) (by kernel_rfl) (fun _ _ _ h => h) (Or.inl ⟨by rfl, ?_⟩) (by assumption) ?_
      rotate_left
      · (intro w hSw; (try dsimp only at hSw); go_simp; try with_reducible rfl)
      (try simp only [Act.put, List.setIfInBounds_toArray, List.set_cons_zero, List.set_cons_succ])
      refine take_first (v := .agg ky) 6 rfl (by kernel_rfl) (by kernel_rfl) (by kernel_rfl) (fun _ _ _ h => h) (yields_build_obj (by rfl) 30 [(0, .tmp 22)] rfl ky (by rw [← HKY.out]; exact key_byte Y)) (by assumption) ?_
      (try simp only [Act.put, List.setIfInBounds_toArray, List.set_cons_zero, List.set_cons_succ])
      clear hHeld
      refine step_one 7 rfl (by kernel_rfl) (fun K hK => ?_)
      go_simp
      refine (HIN.out A9 c9 w6 HD6.out.2.1).mono ?_
      rintro e w7 ⟨A7, c7, rfl, hrd, hlo7, hcp7, hb⟩
      have HD7 := Lib.hid (show CodesAt w7 G A k0 c lk G (nextP lk q 3) ∧ PfRd w7 w7.heap.size (some ⟨b, off, none⟩) np ps ∧ Below w.heap.size w w7 from ⟨HD6.out.1.below hb, (HD6.out.2.2.1.below hb).mono hb.size, HD6.out.2.2.2.2.trans (hb.mono HD6.out.2.2.2.2.size)⟩)
      have HRD := Lib.hid hrd
      have HL7 := Lib.hid (show ∀ ad, A7 = some ad → G < ad.block from fun ad h => by have h1 := hlo7 ad h; have h2 := HP6.out; have h3 := HP1.out.2; omega)
      have hat7 : At w7 P1 0 (prefC x.1 x.2) := HD6.out.2.2.2.1.mono hb HP6.out
      have HC7 := Lib.hid hcp7
      clear hrd hb hlo7 hcp7
      go_wp2_with fail
      refine hK.out _ _ hat7 (fun hHeld => ?_)
      clear hK K
      (try simp only [Act.put, List.setIfInBounds_toArray, List.set_cons_zero, List.set_cons_succ])
      refine take_first (v := ?_) 8 rfl (by kernel_rfl) (by kernel_rfl) (by kernel_rfl) (fun _ _ _ h => h) (Or.inl ⟨by rfl, ?_⟩) (by assumption) ?_
      rotate_left
      · (intro w hSw; (try dsimp only at hSw); go_simp; try with_reducible rfl)
      (try simp only [Act.put, List.setIfInBounds_toArray, List.set_cons_zero, List.set_cons_succ])
      refine take_first (v := ?_) 9 rfl (by kernel_rfl) (by kernel_rfl) (by kernel_rfl) (fun _ _ _ h => h) (Or.inl ⟨by rfl, ?_⟩) (by assumption) ?_
      rotate_left
      · (intro w hSw; (try dsimp only at hSw); go_simp; try with_reducible rfl)
      (try simp only [Act.put, List.setIfInBounds_toArray, List.set_cons_zero, List.set_cons_succ])
      refine take_first (v := ?_) 10 rfl (by kernel_rfl) (by kernel_rfl) (by kernel_rfl) (fun _ _ _ h => h) (Or.inl ⟨by rfl, ?_⟩) (by assumption) ?_
      rotate_left
      · (intro w hSw; (try dsimp only at hSw); go_simp; try with_reducible rfl)
      (try simp only [Act.put, List.setIfInBounds_toArray, List.set_cons_zero, List.set_cons_succ])
      refine take_first (v := ?_) 11 rfl (by kernel_rfl) (by kernel_rfl) (by kernel_rfl) (fun _ _ _ h => h) (Or.inl ⟨by rfl, ?_⟩) (by assumption) ?_
      rotate_left
      · (intro w hSw; (try dsimp only at hSw); go_simp; try with_reducible rfl)
      (try simp only [Act.put, List.setIfInBounds_toArray, List.set_cons_zero, List.set_cons_succ])
      refine wpAnyH_done (by kernel_rfl) ?_ _
      clear hHeld
      have HF := Lib.hid (And.intro HRD.out (And.intro HL7.out (And.intro HC7.out HD7.out)))
      clear HRD HL7 HC7 HD7 HD6 HP6
      go_wp2_with fail
      go_roundw
      case rel => exact ⟨j + 1, xs ++ [(x, Y)], _, A7, c7, by omega, by go_num, by rw [List.map_append, HXS.out, take_snoc HJX.out]; rfl, by rw [insAll_snoc, HRS.out], by rw [insAll_snoc, HRS.out]; exact Nat.le_trans (insM_len _ _ _ _) (by omega), by rw [insAll_snoc, HRS.out]; exact HF.out.1, HF.out.2.1, by rw [insAll_snoc, HRS.out]; exact HF.out.2.2.1, HF.out.2.2.2.1, HF.out.2.2.2.2.1, HF.out.2.2.2.2.2⟩
      case measure => simp [intOf]; omega
    · obtain rfl : np = j := by omega
      have d1 : decide ((np : Int) < (np : Int)) = false := by simp
      have htk : ps.take np = ps := List.take_of_length_le (by rw [HNP.out]; exact Nat.le_refl _)
      have hmo : MadeOf lk xs := by
        have h1 := HXS.out
        rw [htk] at h1
        refine ⟨?_, by rw [h1]; exact HND.out.1, fun y hy => HND.out.2 y.1 (by rw [← h1]; exact List.mem_map_of_mem hy)⟩
        have h2 := congrArg List.length h1
        rw [List.length_map, HNP.out] at h2
        omega
      have HMO := Lib.hid hmo
      have HF := Lib.hid (And.intro HO.out.1 HO.out.2.2.2)
      clear hmo HO htk
      go_wp2_with fail
      go_ret
      exact ⟨xs, A9, c9, HMO.out, by rw [HRS.out]; rfl, by rw [HRS.out]; exact HF.out.1, by rw [HRS.out]; exact HCP.out, HF.out.2⟩
end Go.Proofs.Ytnblofbbbkjhpaa
namespace Go.Proofs.Ytnblofbbbkjhpaa
open Go.RowKit

def hostB (u v : UInt8) : List UInt8 := [10, u, 0, v, 0, 0, 0, 0, 0, 0, 0, 0, 0, 0, 0, 0]
/-- the address 10.x.0.y -/
def hostM (x y : Nat) : AddrM := ⟨false, hostB (UInt8.ofNat x) (UInt8.ofNat y)⟩
theorem hostM_ok (x y : Nat) : (hostM x y).ok := rfl
theorem ip_built (u v : UInt8) : Try.prog.built 24 [(0, .int .u8 10), (1, .int .u8 (u.toNat : Int)), (2, .int .u8 0), (3, .int .u8 (v.toNat : Int))] = some ((hostB u v).map u8v).toArray := by kernel_rfl
theorem addr_built (l : List UInt8) (h : l.length = 16) : Try.prog.built 26 [(1, .agg (l.map u8v).toArray)] = some (AddrM.mk false l).cells.toArray := by
  rw [built_of 26 [1, 16] [[.bool false], (List.replicate 16 (0 : UInt8)).map u8v] rfl #[(0, 1), (1, 16)] (fun parts => by kernel_rfl) (fun i h => by
    match i, h with
    | 0, _ => rfl
    | 1, _ => rfl) _ (fun p hp => by
    simp only [List.mem_cons, List.not_mem_nil, or_false] at hp
    subst hp
    simp [Value.cells, h])]
  simp [AddrM.cells, Value.cells]
set_option maxRecDepth 100000 in
set_option maxHeartbeats 2000000 in
theorem caseHost_any (x y : Nat) (w : World) :
    Calls Try.prog 31 #[.int .i64 (x : Int), .int .i64 (y : Int)] w fun e w' => e = .returned (.agg (hostM x y).cells.toArray) ∧ Below w.heap.size w w' := by
  rw [hostM]
  have hw1 := codeByte_wrap x
  have hw2 := codeByte_wrap y
  generalize UInt8.ofNat x = u at hw1 ⊢
  generalize UInt8.ofNat y = v at hw2 ⊢
  have hb1 := ip_built u v
  have hb2 := addr_built (hostB u v) rfl
  have hok : (AddrM.mk false (hostB u v)).ok := rfl
  generalize hl : hostB u v = l at hb1 hb2 hok ⊢
  clear hl
  obtain ⟨ci, hci⟩ : ∃ c, (l.map u8v).toArray = c := ⟨_, rfl⟩
  obtain ⟨ca, hca⟩ : ∃ c, (AddrM.mk false l).cells.toArray = c := ⟨_, rfl⟩
  rw [hci] at hb1 hb2
  rw [hca] at hb2 ⊢
  have HB := Lib.hid (And.intro hb1 (And.intro hb2 hca))
  have HO := Lib.hid hok
  have HAL := Lib.hid (AddrM.cells_length HO.out)
  have HCO := Lib.hid (addr_cellsOf _ HO.out)
  clear hb1 hb2 hci hca hok
  have HM := Lib.hid (show Mem w [blkE w.heap.size 26 addr0.cells] (w.alloc (.cells #[.bool false, .int .u8 0, .int .u8 0, .int .u8 0, .int .u8 0, .int .u8 0, .int .u8 0, .int .u8 0, .int .u8 0, .int .u8 0, .int .u8 0, .int .u8 0, .int .u8 0, .int .u8 0, .int .u8 0, .int .u8 0, .int .u8 0] 26)) from (Mem.nil w).alloc rfl 26 #[.bool false, .int .u8 0, .int .u8 0, .int .u8 0, .int .u8 0, .int .u8 0, .int .u8 0, .int .u8 0, .int .u8 0, .int .u8 0, .int .u8 0, .int .u8 0, .int .u8 0, .int .u8 0, .int .u8 0, .int .u8 0, .int .u8 0] addr0.cells rfl)
  go_enter Try.func31, Try.ntmps31
  go_upto_region 1 with fail
  generalize w.alloc (.cells #[.bool false, .int .u8 0, .int .u8 0, .int .u8 0, .int .u8 0, .int .u8 0, .int .u8 0, .int .u8 0, .int .u8 0, .int .u8 0, .int .u8 0, .int .u8 0, .int .u8 0, .int .u8 0, .int .u8 0, .int .u8 0, .int .u8 0] 26) = w1 at HM ⊢
  go_wp2_with (first | (refine wpList_build_as rfl 24 [(0, .const (.int .u8 10)), (1, .tmp 6), (2, .const (.int .u8 0)), (3, .tmp 8)] rfl ci ?_ ?_; exact HB.out.1) | (refine wpList_build_as rfl 26 [(1, .tmp 9)] rfl ca ?_ ?_; exact HB.out.2.1) | (refine wpList_store_blk rfl 26 (.tmp 4) (.tmp 10) rfl w.heap.size (AddrM.mk false l).cells rfl (by show Value.agg ca = _; rw [HB.out.2.2]) 26 addr0.cells (HM.out.blk 0 rfl) HCO.out (by rw [HAL.out]; rfl) (AddrM.one _) ?_; intro w9 hb9 hg9))
  exact bodyPost_ret (results_obj rfl _ _ w.heap.size 26 (AddrM.mk false l).cells _ rfl hb9 Try.underlying26 rfl HCO.out) rfl ⟨by rw [HB.out.2.2], (HM.out.put 0 rfl _ hg9 hb9).bel⟩
end Go.Proofs.Ytnblofbbbkjhpaa
