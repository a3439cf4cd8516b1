/-
  The walk of LimiterNotes. The walk of LimiterBounds. The zero value of burrow/api.Bucket. No function of the program is named here. The elements of type burrow/api.Bucket: size, zero value, pieces of their slices. One cell of a row of objects of one size that is written. No function of the program is named here. The builtin copy of objects of any size into a block, the append of made objects where there is no room, and what slices.overlaps gives of two blocks. No function of the program is named here. Rows of buckets of a call's own: as a block, one of them written, one's tokens written; what takes the price of a message. The contract of first of the program at buckets. The mathematics of time stamps over lists of bytes; no function of the program is named here. The contract of bytes.Compare for two rows of bytes. The sign of a comparison of rows of bytes. A byte of an address. Pieces of a slice of bytes whose address is not known: what x[i:j] and x[i:] give, and what they read as. The contract of the reference's Less of addresses (off InRef3). The contract of inner's Less. The predicates that the program's Allow hands on. The contract of the reference's oldest. The contract of slices.Insert of one element at a slice of structs of the call's own. Slices of slices of objects of k cells whose address is not known: x[:j], x[i:], x[:j:j]. No function of the program is named here. The contract of slices.Delete of one element at a slice of buckets of the call's own. No statement is proved here.
-/
import Derived.RegionTactic
import Derived.Deep.DeepCutAuto
import Derived.Lib.AppendZerosOnto
import Derived.Lib.Overlaps
import Derived.Lib.BytesEntry
import Derived.Lib.Bytealg
import Derived.Laws.Externs
import Derived.DeepKeys2
import Derived.Test.YtpahfckihcbajaaLimiterBoundsB1
namespace Go.Proofs.Ytpahfckihcbajaa
open Go.RowKit
theorem lmU8Info : (Try.prog.info? 5).map (fun i => (i.zero, i.size, i.bytes)) = some (some (.int .u8 0), 1, 1) := by kernel_rfl
/-- what a call of Note and the reference's give, and that they are equal -/
def IntsOk (W : World) (A : Option Addr) (n c : Nat) (l : List Int) : Prop := n ≤ c ∧ c ≤ maxLen ∧ n ≤ 1000 ∧ IntRd .i64 W W.heap.size A n l ∧ ∀ x ∈ l, inI64 x
theorem IntsOk.below {W W' : World} {A : Option Addr} {n c : Nat} {l : List Int} (h : IntsOk W A n c l) (hb : Below W.heap.size W W') : IntsOk W' A n c l := ⟨h.1, h.2.1, h.2.2.1, (h.2.2.2.1.below hb).mono hb.size, h.2.2.2.2⟩
end Go.Proofs.Ytpahfckihcbajaa
namespace Go.Proofs.Ytpahfckihcbajaa
open Go.RowKit
theorem allow_one (a : AddrM) (x t now : Int) : allowM [⟨a, x, t⟩] a now = if (if t < now then min 5000 (x + 20 * min (now - t) 250) else x) < 1000 then ([⟨a, if t < now then min 5000 (x + 20 * min (now - t) 250) else x, now⟩], false) else ([⟨a, (if t < now then min 5000 (x + 20 * min (now - t) 250) else x) - 1000, now⟩], true) := by
  have h : givenM [⟨a, x, t⟩] a now = ([filledM ⟨a, x, t⟩ now], 0) := by
    unfold givenM
    simp
  rw [allowM, h, takeB]
  simp only [List.getElem?_cons_zero, filledM, List.set_cons_zero]
/-- the buckets of the one address -/
def bdL : Option Int → Int → List BucketM
  | none, _ => []
  | some x, t => [⟨addr0, x, t⟩]
def bdI : Option Int → Nat → Int → Prop
  | none, k, _ => k = 0
  | some x, k, t => 0 ≤ x ∧ x ≤ 5000 ∧ 1000 * (k : Int) + x ≤ 5000 + 20 * t
theorem bdL_len (o : Option Int) (t : Int) : (bdL o t).length ≤ 1 := by cases o <;> simp [bdL]
theorem bdL_tok {o : Option Int} {k : Nat} {t : Int} (h : bdI o k t) : tokOk (bdL o t) := by
  intro b hb
  cases o with
  | none => simp [bdL] at hb
  | some x =>
    rw [bdL, List.mem_singleton] at hb
    subst hb
    exact ⟨h.1, h.2.1⟩
theorem bd_step {o : Option Int} {k : Nat} {t t2 : Int} (h : bdI o k t) (ht : t ≤ t2) (h0 : 0 ≤ t2) : ∃ x2 y, allowM (bdL o t) addr0 t2 = (bdL (some x2) t2, y) ∧ bdI (some x2) (if y = true then k + 1 else k) t2 := by
  cases o with
  | none =>
    have h : k = 0 := h
    subst h
    exact ⟨4000, true, rfl, by omega, by omega, by simp only [if_true]; omega⟩
  | some x =>
    obtain ⟨h1, h2, h3⟩ := h
    rw [bdL, allow_one]
    obtain ⟨z, hz⟩ : ∃ z, (if t < t2 then min 5000 (x + 20 * min (t2 - t) 250) else x) = z := ⟨_, rfl⟩
    rw [hz]
    have hzz : 0 ≤ z ∧ z ≤ 5000 ∧ z ≤ x + 20 * (t2 - t) := by
      split at hz
      · omega
      · omega
    by_cases hl : z < 1000
    · rw [if_pos hl]
      exact ⟨z, false, rfl, hzz.1, hzz.2.1, by simp only [Bool.false_eq_true, if_false]; omega⟩
    · rw [if_neg hl]
      exact ⟨z - 1000, true, rfl, by omega, by omega, by simp only [if_true]; omega⟩
theorem bd_last {o : Option Int} {k : Nat} {t : Int} (h : bdI o k t) : (allowM (bdL o t) addr0 (t + 50)).2 = true := by
  cases o with
  | none => rfl
  | some x =>
    obtain ⟨h1, h2, h3⟩ := h
    rw [bdL, allow_one]
    obtain ⟨z, hz⟩ : ∃ z, (if t < t + 50 then min 5000 (x + 20 * min (t + 50 - t) 250) else x) = z := ⟨_, rfl⟩
    rw [hz]
    rw [if_pos (by omega)] at hz
    rw [if_neg (by omega)]
set_option maxRecDepth 100000 in
set_option maxHeartbeats 8000000 in
theorem lm_bounds_walk (HA : LmAllowC 17) (w : World) (A1 : Option Addr) (n1 c1 : Nat) (st : List UInt8) (hnc1 : n1 ≤ c1) (_ : c1 ≤ maxLen) (hr1 : Rd w w.heap.size A1 n1 st) :
    Calls Try.prog 6 #[.slice A1 n1 c1] w fun e w' => e = .returned (.bool true) ∧ Below w.heap.size w w' := by
  have HPA := Lib.hid HA
  have HBG := Lib.hid (fun W : World => lm_begun_any HA W)
  obtain ⟨az, haz⟩ : ∃ z, addr0.cells.toArray = z := ⟨_, rfl⟩
  have HAZ := Lib.hid haz
  have HBT := Lib.hid (show Try.prog.built 35 [] = some az from by rw [← haz]; kernel_rfl)
  obtain ⟨m1, hm1⟩ : ∃ z, min n1 80 = z := ⟨_, rfl⟩
  have HM1 := Lib.hid (show min (n1 : Int) 80 = (m1 : Int) from by omega)
  have hs1 := fun W => ints_h Try.underlying23 lmU8Info A1 (n := n1) c1 m1 (by omega) hnc1 W
  obtain ⟨As, hAs⟩ : ∃ z, addrK A1 0 c1 1 = z := ⟨_, rfl⟩
  have hk1 : Rd w w.heap.size As m1 (st.take m1) := by rw [← hAs]; exact rd_ahead hr1 m1 c1 (by omega)
  rw [hAs] at hs1
  obtain ⟨ss, hss⟩ : ∃ z, st.take m1 = z := ⟨_, rfl⟩
  rw [hss] at hk1
  have HK1 := Lib.hid hk1
  have HSL := Lib.hid (show ss.length = m1 from hk1.1)
  have HM80 := Lib.hid (show m1 ≤ 80 from by omega)
  clear HA haz hm1 hk1 hAs hss hr1 hnc1
  go_enter Try.func6, Try.ntmps6
  go_wp2_with (refine wpList_min_k rfl (.tmp 14) (.const (.int .i64 80)) _ rfl .i64 (n1 : Int) 80 (m1 : Int) rfl rfl HM1.out ?_)
  clear hs1
  go_loopw [3, 4, 5, 18] (fun vl vt vn vi wr => ∃ (j : Nat) (A : Option Addr) (n c : Nat) (o : Option Int) (tv : Int) (k : Nat), j ≤ m1 ∧ vi = .int .i64 (j : Int) ∧ vl = .slice A n c ∧ vt = .int .i64 tv ∧ vn = .int .i64 (k : Int) ∧ n ≤ c ∧ c ≤ maxLen ∧ BkRd wr wr.heap.size A n (bdL o tv) ∧ bdI o k tv ∧ 0 ≤ tv ∧ tv ≤ 40 * (j : Int) ∧ k ≤ j ∧ Below w.heap.size w wr) (fun _ _ _ i _ => m1 - (intOf i).toNat)
  case atStart => exact ⟨0, none, 0, 0, none, 0, 0, Nat.zero_le _, rfl, rfl, rfl, rfl, Nat.le_refl _, by unfold maxLen; omega, BkRd.nil, rfl, by omega, by omega, by omega, Below.refl _ _⟩
  case round =>
    obtain ⟨j, A, n, c, o, tv, k, hj, rfl, rfl, rfl, rfl, hnc, hcm, hr, hi, ht0, htj, hkj, hb⟩ := hrel
    have HB := Lib.hid hb
    have hn1 : n ≤ 1000 := by have := hr.len; have := bdL_len o tv; omega
    have hm80 := HM80.out
    by_cases hjm : j < m1
    · have d1 : decide ((j : Int) < (m1 : Int)) = true := by simp; omega
      have d2 : decide (j < m1) = true := decide_eq_true hjm
      have o2 : (j : Int) < (m1 : Int) := by omega
      obtain ⟨bs, os, rfl, hbs, hcell⟩ := HK1.out.2 (by omega)
      have hjl : j < ss.length := by rw [HSL.out]; exact hjm
      have fx : wr.cell? ⟨bs, os + j, none⟩ = some (.int .u8 ((ss[j]).toNat : Int)) := (World.cell?_of_block (HB.out.block bs hbs)).trans (hcell j hjl)
      obtain ⟨sx, hsx⟩ : ∃ z, (ss[j]).toNat = z := ⟨_, rfl⟩
      have hsb : sx < 256 := by rw [← hsx]; exact (ss[j]).toNat_lt
      rw [hsx] at fx
      obtain ⟨sr, hsr⟩ : ∃ z, sx % 40 = z := ⟨_, rfl⟩
      have e1 : (sx : Int) % 40 = (sr : Int) := by omega
      have e2 : (sx : Int).tmod 40 = (sr : Int) := by rw [Int.tmod_eq_emod_of_nonneg (by omega)]; exact e1
      obtain ⟨tn, htn⟩ : ∃ z, tv + (sr : Int) = z := ⟨_, rfl⟩
      have w1' : IntKind.i64.wrap tn = tn := by rw [IntKind.wrap_i64]; omega
      have w2' : IntKind.i64.wrap (sx : Int) = (sx : Int) := by rw [IntKind.wrap_i64]; omega
      have w3' : IntKind.i64.wrap (sr : Int) = (sr : Int) := by rw [IntKind.wrap_i64]; omega
      obtain ⟨j2, hj2⟩ : ∃ z, j + 1 = z := ⟨_, rfl⟩
      have HTN := Lib.hid (show 0 ≤ tn ∧ tn ≤ 40 * (j2 : Int) ∧ j2 ≤ m1 ∧ m1 - j2 < m1 - j ∧ j2 = j + 1 from by omega)
      have HKJ := Lib.hid hkj
      have e8 : (j : Int) + 1 = (j2 : Int) := by omega
      have w8' : IntKind.i64.wrap (j2 : Int) = (j2 : Int) := by rw [IntKind.wrap_i64]; omega
      have HE8 := Lib.hid (And.intro e8 w8')
      obtain ⟨x2, y, hal, hi2⟩ := bd_step (t2 := tn) hi (by omega) (by omega)
      have hcall := HPA.out A n c (bdL o tv) addr0 tn wr hnc hcm hn1 hr (bdL_tok hi) addr0_ok ⟨by omega, by omega⟩
      rw [HAZ.out, hal] at hcall
      have HCALL := Lib.hid hcall
      have HI2 := Lib.hid hi2
      clear hsx hcell hbs hjl hb hj hjm hr hi hal hcall hi2 hnc hcm hn1 ht0 htj hkj hsr hj2 e8 w8'
      go_wp2_with ((with_reducible refine at_op (.build 35 #[]) rfl ?_); refine wpList_build_as rfl 35 [] rfl az ?_ ?_; exact HBT.out)
      refine HCALL.out.mono ?_
      rintro e w2 ⟨A2, n2, c2, rfl, h1, h2, hr2, hb2⟩
      have HR2 := Lib.hid (And.intro h1 (And.intro h2 (And.intro hr2 (HB.out.trans (hb2.mono HB.out.size)))))
      clear h1 h2 hr2 hb2 HCALL d1 d2 o2 fx e1 e2 htn w1' w2' w3' HB
      obtain ⟨k2, hk2⟩ : ∃ z, (if y = true then k + 1 else k) = z := ⟨_, rfl⟩
      rw [hk2] at HI2
      have HK2 := Lib.hid (show k2 ≤ j2 from by have := HKJ.out; have := HTN.out.2.2.2.2; split at hk2 <;> omega)
      obtain ⟨p, hp⟩ : ∃ z, 1000 * (k2 : Int) = z := ⟨_, rfl⟩
      obtain ⟨q, hq⟩ : ∃ z, 20 * tn = z := ⟨_, rfl⟩
      obtain ⟨r, hr⟩ : ∃ z, 5000 + q = z := ⟨_, rfl⟩
      have hpq : p ≤ r := by
        have h := HI2.out
        obtain ⟨h1, h2, h3⟩ := h
        omega
      have hlim : 0 ≤ p ∧ p ≤ 80000 ∧ 0 ≤ q ∧ q ≤ 100000 := by have := HTN.out; have := HK2.out; omega
      have w4' : IntKind.i64.wrap p = p := by rw [IntKind.wrap_i64]; omega
      have w5' : IntKind.i64.wrap q = q := by rw [IntKind.wrap_i64]; omega
      have w6' : IntKind.i64.wrap r = r := by rw [IntKind.wrap_i64]; omega
      have d3 : decide (p > r) = false := by simp; omega
      have d3b : decide (r < p) = false := by simp; omega
      have e8 := HE8.out.1
      have w8' := HE8.out.2
      cases y with
      | true =>
        have hk3 : k + 1 = k2 := hk2
        have e9 : (k : Int) + 1 = (k2 : Int) := by omega
        have w9' : IntKind.i64.wrap (k2 : Int) = (k2 : Int) := by rw [IntKind.wrap_i64]; omega
        clear hk2 hk3 hpq hlim
        go_wp2_with fail
        go_roundw
        case rel => exact ⟨j2, A2, n2, c2, some x2, tn, k2, HTN.out.2.2.1, rfl, rfl, rfl, rfl, HR2.out.1, HR2.out.2.1, HR2.out.2.2.1, HI2.out, HTN.out.1, HTN.out.2.1, HK2.out, HR2.out.2.2.2⟩
        case measure => simp [intOf]; exact HTN.out.2.2.2.1
      | false =>
        have hk3 : k = k2 := hk2
        subst hk3
        clear hk2 hpq hlim
        go_wp2_with fail
        go_roundw
        case rel => exact ⟨j2, A2, n2, c2, some x2, tn, k, HTN.out.2.2.1, rfl, rfl, rfl, rfl, HR2.out.1, HR2.out.2.1, HR2.out.2.2.1, HI2.out, HTN.out.1, HTN.out.2.1, HK2.out, HR2.out.2.2.2⟩
        case measure => simp [intOf]; exact HTN.out.2.2.2.1
    · obtain rfl : j = m1 := by omega
      have d1 : decide ((j : Int) < (j : Int)) = false := by simp
      obtain ⟨tn, htn⟩ : ∃ z, tv + 50 = z := ⟨_, rfl⟩
      have w1' : IntKind.i64.wrap tn = tn := by rw [IntKind.wrap_i64]; omega
      have hla := bd_last hi
      rw [htn] at hla
      have hcall := HPA.out A n c (bdL o tv) addr0 tn wr hnc hcm hn1 hr (bdL_tok hi) addr0_ok ⟨by omega, by omega⟩
      rw [HAZ.out, hla] at hcall
      have HCALL := Lib.hid hcall
      clear hcall hla hi hr hnc hcm hn1 ht0 htj hkj hb hj hjm
      go_wp2_with ((with_reducible refine at_op (.build 35 #[]) rfl ?_); refine wpList_build_as rfl 35 [] rfl az ?_ ?_; exact HBT.out)
      refine HCALL.out.mono ?_
      rintro e w2 ⟨A2, n2, c2, rfl, _, _, _, hb2⟩
      have HB2 := Lib.hid (HB.out.trans (hb2.mono HB.out.size))
      clear hb2 HCALL d1 htn w1'
      go_wp2_with fail
      refine (HBG.out _).mono ?_
      rintro e w3 ⟨rfl, hb3⟩
      have HF := Lib.hid (HB2.out.trans (hb3.mono HB2.out.size))
      clear hb3 HB2
      go_wp2
      go_ret
      exact ⟨rfl, HF.out⟩
end Go.Proofs.Ytpahfckihcbajaa
namespace Go.Proofs.Ytpahfckihcbajaa
open Go.RowKit

def bucketZ : List Value := bk0.cells
theorem bucketZ_length : bucketZ.length = 19 := by decide
theorem bucketInfo : ∃ i, Try.prog.info? 44 = some i ∧ i.zero = some (.agg bucketZ.toArray) ∧ i.size = 19 ∧ i.bytes = 40 := bkInfo
end Go.Proofs.Ytpahfckihcbajaa
namespace Go.Proofs.Ytpahfckihcbajaa
open Go.RowKit

theorem bk_size (o : List Value) (h : o.length = 19) : (Try.prog.info? 44).map (·.size) = some o.length := by
  rw [h]; kernel_rfl
theorem bk_under : Try.prog.underlying 32 = some (.slice (Try.prog.elem 32)) := by kernel_rfl
theorem bk_elem : Try.prog.elem 32 = 44 := by kernel_rfl
theorem bk_sizeOf (w : World) : (sizeOf (Try.prog.elem 32)).run Try.prog w = .ok 19 w := by
  obtain ⟨i0, hi, _, hs, _⟩ := bucketInfo
  rw [bk_elem]
  simp [sizeOf, typeInfo, hi, hs]
theorem bk_zero (w : World) : (zeroValue 44).run Try.prog w = .ok (.agg bucketZ.toArray) w := by
  obtain ⟨i0, hi, hz, _, _⟩ := bucketInfo
  simp [zeroValue, typeInfo, hi, hz]
set_option maxRecDepth 100000 in
theorem bk_l (A : Option Addr) (n c i : Nat) (h2 : i ≤ n) (w : World) : (Instr.sliceAt 32 (.slice A n c) (some (.int .i64 (i : Int))) none none).run Try.prog w = .ok (.slice (addrK A i c 19) (n - i) (c - i)) w := by
  rw [run_sliceAt_slice (P := Try.prog) (w := w) 32 _ _ _ _ bk_under, run_slice_l (P := Try.prog) (w := w) 32 A n c bk_under .i64 i (by omega) (by omega), bk_sizeOf]
  simp only [Result.andThen, sliced, Int.toNat_natCast]
  rfl
set_option maxRecDepth 100000 in
theorem bk_h {n : Nat} (A : Option Addr) (c j : Nat) (h2 : j ≤ n) (h3 : n ≤ c) (w : World) : (Instr.sliceAt 32 (.slice A n c) none (some (.int .i64 (j : Int))) none).run Try.prog w = .ok (.slice (addrK A 0 c 19) j c) w := by
  rw [run_sliceAt_slice (P := Try.prog) (w := w) 32 _ _ _ _ bk_under, run_slice_h (P := Try.prog) (w := w) 32 A n c bk_under .i64 j (by omega) (by omega), bk_sizeOf]
  simp only [Result.andThen, sliced, Int.toNat_natCast, Nat.sub_zero]
  rfl
end Go.Proofs.Ytpahfckihcbajaa
namespace Go.Proofs.Ytpahfckihcbajaa
open Go.RowKit

theorem flat_cell {k : Nat} {rest : List Value} : ∀ {cs : List (List Value)}, (∀ o ∈ cs, o.length = k) → ∀ (j : Nat) (o : List Value), cs[j]? = some o → ∀ (i : Nat) (v : Value), i < k → (cs.flatten ++ rest).set (j * k + i) v = (cs.set j (o.set i v)).flatten ++ rest
  | [], _, j, o, hj, _, _, _ => by simp at hj
  | a :: r, h, 0, o, hj, i, v, hi => by
    simp only [List.getElem?_cons_zero, Option.some.injEq] at hj
    subst hj
    have ha := h a (List.mem_cons_self ..)
    rw [Nat.zero_mul, Nat.zero_add, List.set_cons_zero, List.flatten_cons, List.flatten_cons, List.append_assoc, List.append_assoc, List.set_append_left _ _ (by omega)]
  | a :: r, h, j + 1, o, hj, i, v, hi => by
    have ha := h a (List.mem_cons_self ..)
    have ih := flat_cell (rest := rest) (fun x hx => h x (List.mem_cons_of_mem _ hx)) j o (by simpa using hj) i v hi
    rw [List.set_cons_succ, List.flatten_cons, List.flatten_cons, List.append_assoc, List.append_assoc, ← ih, Nat.succ_mul, List.set_append_right _ _ (by omega), ha]
    congr 2
    omega
end Go.Proofs.Ytpahfckihcbajaa
namespace Go.Proofs.Ytpahfckihcbajaa
open Go.RowKit

theorem run_copy_objs {P : Program} (w : World) (dT sT ty elem : TypeId) (k g off dLen dCap : Nat) (a : Addr) (sLen sCap : Nat) (cur : List Value) (t : TypeId) (cs : List Value)
    (hu : P.underlying dT = some (.slice elem)) (hs : (P.info? elem).map (·.size) = some k) (hg : Blk w g t cur) (hn : cs.length = Nat.min sLen dLen * k)
    (hsrc : ∀ j v, cs[j]? = some v → w.cell? (a.add j) = some v) (hfit : off + cs.length ≤ cur.length) (h1 : ∀ v ∈ cs, v.oneCell' = true) :
    ∃ w', (Builtin.copy_ #[dT, sT] ty #[.slice (some ⟨g, off, none⟩) dLen dCap, .slice (some a) sLen sCap]).run P w = .ok (goInt (Nat.min sLen dLen)) w' ∧ Blk w' g t (setL cur off cs) ∧ w.grownBy w' (some g) := by
  have hl := run_loadCells_list (P := P) w a cs hsrc
  have hst := run_storeCells_at P g off t cs 0 cur.toArray w hg (by simpa using hfit) h1
  rw [Nat.add_zero] at hst
  refine ⟨w.setRow g (cur.toArray.toList.take off ++ cs ++ cur.toArray.toList.drop (off + cs.length)).toArray, ?_, ?_, ⟨rfl, rfl, rfl, by simp, fun q _ hq => setRow_other w g q _ (fun e => hq (by simp [e]))⟩⟩
  · cases hq : P.info? elem with
    | none => simp [hq] at hs
    | some i =>
      have hi : i.size = k := by simpa [hq] using hs
      simp [Builtin.copy_, run_underlying hu, Builtin.lenOf, Builtin.firstCells, sizeOf, typeInfo, hq, hi, ← hn, hl, hst]
  · exact setRow_heap w g cur.toArray _ t _ hg
theorem wpList_copy_objs {P : Program} (w : World) {ops : Array Oper} {rest : List Oper} {o : Oper} {a : Act} {Q : Exit → Act → World → Prop} (hgd : o.guard = none) (d s : Operand) (dT sT : TypeId)
    (ho : o.op = .call { callee := .builtin .copy, args := #[d, s], argTypes := #[dT, sT] }) (elem : TypeId) (hu : P.underlying dT = some (.slice elem)) (k : Nat) (hsz : (P.info? elem).map (·.size) = some k)
    (g off dLen dCap : Nat) (ad : Addr) (sLen sCap : Nat) (hd : a.eval d = .slice (some ⟨g, off, none⟩) dLen dCap) (hs : a.eval s = .slice (some ad) sLen sCap)
    (cur : List Value) (t : TypeId) (hg : Blk w g t cur) (cs : List Value) (hn : cs.length = Nat.min sLen dLen * k)
    (hsrc : ∀ j v, cs[j]? = some v → w.cell? (ad.add j) = some v) (hfit : off + cs.length ≤ cur.length) (h1 : ∀ v ∈ cs, v.oneCell' = true)
    (h : ∀ w', Blk w' g t (setL cur off cs) → w.grownBy w' (some g) → wpList P ops Q rest (a.put o.dst (goInt (Nat.min sLen dLen))) w') : wpList P ops Q (o :: rest) a w := by
  refine wpList_plain hgd fun K hK => ?_
  obtain ⟨w', hrun, h2, h3⟩ := run_copy_objs (P := P) w dT sT o.type elem k g off dLen dCap ad sLen sCap cur t cs hu hsz hg hn hsrc hfit h1
  unfold Oper.wp execOp
  simp only [ho, resolve, invoke, builtin, Sem.run_bind, Sem.run_pure, Result.andThen_ok, List.map_toArray, List.map_cons, List.map_nil, hs, hd, hrun]
  exact hK _ _ (h w' h2 h3)
theorem step_copy_objs {P : Program} (w : World) {ops : Array Oper} {o : Oper} {a : Act} {K : Act → World → Prop} {Q : Exit → Act → World → Prop} {E : Prop} (hgd : o.guard = none) (d s : Operand) (dT sT : TypeId)
    (ho : o.op = .call { callee := .builtin .copy, args := #[d, s], argTypes := #[dT, sT] }) (elem : TypeId) (hu : P.underlying dT = some (.slice elem)) (k : Nat) (hsz : (P.info? elem).map (·.size) = some k)
    (g off dLen dCap : Nat) (ad : Addr) (sLen sCap : Nat) (hd : a.eval d = .slice (some ⟨g, off, none⟩) dLen dCap) (hs : a.eval s = .slice (some ad) sLen sCap)
    (cur : List Value) (t : TypeId) (hg : Blk w g t cur) (cs : List Value) (hn : cs.length = Nat.min sLen dLen * k)
    (hsrc : ∀ j v, cs[j]? = some v → w.cell? (ad.add j) = some v) (hfit : off + cs.length ≤ cur.length) (h1 : ∀ v ∈ cs, v.oneCell' = true)
    (h : ∀ w', Blk w' g t (setL cur off cs) → w.grownBy w' (some g) → K (a.put o.dst (goInt (Nat.min sLen dLen))) w') :
    if Region.wanted o (yielded ops a.tmps) = true then Oper.wp P o a w K Q else E := by
  have hw : Region.wanted o (yielded ops a.tmps) = true := by simp [Region.wanted, hgd]
  rw [if_pos hw]
  obtain ⟨w', hrun, h2, h3⟩ := run_copy_objs (P := P) w dT sT o.type elem k g off dLen dCap ad sLen sCap cur t cs hu hsz hg hn hsrc hfit h1
  unfold Oper.wp execOp
  simp only [ho, resolve, invoke, builtin, Sem.run_bind, Sem.run_pure, Result.andThen_ok, List.map_toArray, List.map_cons, List.map_nil, hs, hd, hrun]
  exact h w' h2 h3
/-- the beginning of a row of objects and made ones behind it, where there is no room: a new row -/
theorem run_append_made {P : Program} (w : World) (t tn ty e : TypeId) (i : TypeInfo) (z : Value) (kq kn : IntKind) (size bytes : Nat) (ht : P.underlying t = some (.slice e)) (htn : P.underlying tn = some (.int kn)) (hi : P.info? e = some i) (hz : i.zero = some z) (hsize : i.size = size) (hby : i.bytes = bytes) (hzs : z.cells.size = size) (hsz : 0 < size)
    (B : Nat) (ad : Addr) (n c : Nat) (os : List (List Value)) (hr : RdRow w B (some ad) size n os) (k : Nat) (h0 : 0 < k) (hg : c < n + k) (h63 : n + k ≤ maxLen) (hbytes : (n + k) * bytes ≤ 140737488355328) :
    ∃ w' cap cur, (Builtin.append_ #[t, tn] ty #[.slice (some ad) n c, .int kq (k : Int)]).run P w = .ok (.slice (some ⟨w.heap.size, 0, none⟩) (n + k) cap) w' ∧ Blk w' w.heap.size e cur ∧ cur.length = cap * size ∧ cur.take (n * size) = os.flatten ∧ n + k ≤ cap ∧ cap ≤ maxLen ∧ Below w.heap.size w w' := by
  have holds : ∀ j u, os.flatten[j]? = some u → w.drew.cell? (ad.add j) = some u := hr.src
  have hold := run_firstCells_some (P := P) w.drew i.size n ad n c os.flatten (by rw [hsize]; exact hr.len) holds
  have h1 : k * bytes ≤ (n + k) * bytes := Nat.mul_le_mul_right bytes (by omega)
  have hr2 := Lib.run_append_grow_zeros (P := P) w t tn ty e i z kq kn ht htn hi hz (some ad) n c os.flatten hold k h0 (by omega) hg (by unfold maxLen at h63; omega) (by rw [hby]; omega) (growslice_fits (by omega) (by rw [hby]; exact hbytes))
  have hge := grownCap_ge w (n + k) c e
  have hcm := grownCap_le_maxLen w (n + k) c e h63
  obtain ⟨cap, hcap⟩ : ∃ z, grownCap w (n + k) c e = z := ⟨_, rfl⟩
  rw [hcap] at hr2 hge hcm
  refine ⟨_, cap, (os.flatten.toArray ++ Builtin.zeroCells z.cells k ++ Builtin.zeroCells z.cells (cap - (n + k))).toList, hr2, ?_, ?_, ?_, hge, hcm, (Below.refl _ _).drew.alloc (Nat.le_refl _) _⟩
  · unfold Blk
    rw [Array.toArray_toList]
    exact heap_alloc_new w.drew _
  · rw [Array.length_toList, Array.size_append, Array.size_append, List.size_toArray, size_zeroCells, size_zeroCells, hzs, hr.len, ← Nat.add_mul, ← Nat.add_mul]
    congr 1
    omega
  · rw [Array.toList_append, Array.toList_append, List.append_assoc, List.take_left' (by rw [hr.len])]
theorem Blk.shape {w : World} {g : Nat} {t : TypeId} {cs : List Value} (h : Blk w g t cs) : w.shape? g = some (t, cs.length) := by
  unfold Blk at h
  simp [World.shape?, h]
theorem run_overlaps_blks {P : Program} {w : World} {g h : Nat} {t u : TypeId} {cs ds : List Value} (hg : Blk w g t cs) (hh : Blk w h u ds) (hne : g ≠ h) (hd : ds.length ≠ 0) (tS tR e : TypeId) (ht : P.underlying tS = some (.slice e)) (size : Nat) (hz : ∀ w, (Go.sizeOf e).run P w = .ok size w) (o p la ca lb cb : Nat) :
    (Extern.SlicesOverlaps.overlaps #[tS, tS] #[tR] #[.slice (some ⟨g, o, none⟩) la ca, .slice (some ⟨h, p, none⟩) lb cb]).run P w = .ok (.bool false) w :=
  Lib.run_overlaps_apart w tS tR e ht size hz ⟨g, o, none⟩ ⟨h, p, none⟩ la ca lb cb hne t u cs.length ds.length hg.shape hh.shape hd (hg.frozen o) (hg.frozen cs.length)
/-- what an insertion leaves: first the later ones are moved, then the new one is written -/
theorem ins_shift {cur T D o : List Value} {i k : Nat} (hT : T.length = i * k) (hc : cur.take (i * k) = T) (ho : o.length = k) (hl : i * k + k + D.length ≤ cur.length) : (setL (setL cur ((i + 1) * k) D) (i * k) o).take (i * k + k + D.length) = T ++ o ++ D ∧ (setL (setL cur ((i + 1) * k) D) (i * k) o).length = cur.length := by
  have h1 : (i + 1) * k = i * k + k := Nat.succ_mul i k
  have h2 : (setL cur ((i + 1) * k) D).take (i * k) = T := by
    rw [setL, List.append_assoc, List.take_append_of_le_length (by rw [List.length_take]; omega), List.take_take, Nat.min_eq_left (by omega), hc]
  have h3 : (setL cur ((i + 1) * k) D).drop (i * k + k) = D ++ cur.drop ((i + 1) * k + D.length) := by
    rw [setL, List.append_assoc, List.drop_left' (by rw [List.length_take]; omega)]
  constructor
  · rw [setL, ho, h2, h3, List.append_assoc, ← List.append_assoc o, ← List.append_assoc T, ← List.append_assoc T, List.take_left' (by simp [hT, ho]; omega)]
  · rw [setL, ho, h2, h3]
    simp only [List.length_append, List.length_drop, hT, ho]
    omega
/-- the same in a new row: first the new one is written, then the later ones behind it -/
theorem ins_new {cur T D o : List Value} {i k : Nat} (hT : T.length = i * k) (hc : cur.take (i * k) = T) (ho : o.length = k) (hl : i * k + k + D.length ≤ cur.length) : (setL (setL cur (i * k) o) ((i + 1) * k) D).take (i * k + k + D.length) = T ++ o ++ D ∧ (setL (setL cur (i * k) o) ((i + 1) * k) D).length = cur.length := by
  have h1 : (i + 1) * k = i * k + k := Nat.succ_mul i k
  have h2 : (setL cur (i * k) o).take ((i + 1) * k) = T ++ o := by
    rw [setL, hc, List.take_left' (by simp [hT, ho, h1])]
  have h3 : (setL cur (i * k) o).length = cur.length := by
    simp only [setL, hc, List.length_append, List.length_drop, hT, ho]
    omega
  constructor
  · rw [setL, h2, List.take_left' (by simp [hT, ho]; omega)]
  · rw [setL, h2]
    simp only [List.length_append, List.length_drop, h3, hT, ho]
    omega
theorem own_of_blk {w : World} {base k m c g : Nat} {e : TypeId} {cs xs : List Value} (hb : Blk w g e cs) (hbase : base ≤ g) (hm : m ≤ c) (hc : c ≤ maxLen) (hl : cs.length = c * k) (ht : cs.take (m * k) = xs) : w.ownsRow base e k (.slice (some ⟨g, 0, none⟩) m c) m xs := by
  have h1 := Nat.mul_le_mul_right k hm
  refine ⟨by rw [← ht, List.length_take]; omega, .inr ⟨g, c, cs.toArray, rfl, hbase, hb, hm, hc, by simpa using hl, by simpa using ht⟩⟩
end Go.Proofs.Ytpahfckihcbajaa
namespace Go.Proofs.Ytpahfckihcbajaa
open Go.RowKit

theorem bkOwn_blk {w : World} {base n c : Nat} {A : Option Addr} {l : List BucketM} (h : w.ownsRow base 44 19 (.slice A n c) n (bksV l).flatten) (hn : 0 < n) : ∃ g rest, A = some ⟨g, 0, none⟩ ∧ base ≤ g ∧ Blk w g 44 ((bksV l).flatten ++ rest) ∧ n * 19 + rest.length = c * 19 ∧ n ≤ c ∧ c ≤ maxLen := by
  rcases h.2 with ⟨_, h0⟩ | ⟨g, cap, cur, hv, hbg, hg, hnc, hcm, hs, hcr⟩
  · omega
  injection hv with hA _ hcc
  subst hA hcc
  refine ⟨g, cur.toList.drop (n * 19), rfl, hbg, ?_, ?_, hnc, hcm⟩
  · unfold Blk
    rw [← hcr, List.take_append_drop, Array.toArray_toList]
    exact hg
  · rw [List.length_drop, Array.length_toList, hs]
    have := Nat.mul_le_mul_right 19 hnc
    omega
theorem bkBlk_own {w : World} {base n c g : Nat} {l : List BucketM} {rest : List Value} (h : Blk w g 44 ((bksV l).flatten ++ rest)) (hl : l.length = n) (hok : ∀ s ∈ l, s.ok) (hb : base ≤ g) (hr : n * 19 + rest.length = c * 19) (hnc : n ≤ c) (hc : c ≤ maxLen) : w.ownsRow base 44 19 (.slice (some ⟨g, 0, none⟩) n c) n (bksV l).flatten := by
  have hfl : (bksV l).flatten.length = n * 19 := by rw [flat_length (bksV_size hok), bksV_len, hl]
  exact own_of_blk h hb hnc hc (by rw [List.length_append, hfl, hr]) (List.take_left' hfl)
theorem bk_row_at {w : World} {g : Nat} {l : List BucketM} {rest : List Value} (h : Blk w g 44 ((bksV l).flatten ++ rest)) (hok : ∀ s ∈ l, s.ok) {p : Nat} {b : BucketM} (hb : l[p]? = some b) : At w g (p * 19) b.cells :=
  blk_at h (bksV_size hok) (by rw [bksV, List.getElem?_map, hb]; rfl)
theorem bk_row_set {l : List BucketM} {rest : List Value} (hok : ∀ s ∈ l, s.ok) {p : Nat} (hp : p < l.length) {b : BucketM} (hb : b.ok) : setL ((bksV l).flatten ++ rest) (p * 19) b.cells = (bksV (l.set p b)).flatten ++ rest := by
  rw [flat_set (bksV_size hok) (BucketM.cells_length hb) (by rw [bksV_len]; exact hp), bksV, bksV, List.map_set]
theorem bk_row_tok {l : List BucketM} {rest : List Value} (hok : ∀ s ∈ l, s.ok) {p : Nat} {b : BucketM} (hb : l[p]? = some b) (v : Int) : ((bksV l).flatten ++ rest).set (p * 19 + 17) (.int .i64 v) = (bksV (l.set p { b with tok := v })).flatten ++ rest := by
  rw [flat_cell (bksV_size hok) p b.cells (by rw [bksV, List.getElem?_map, hb]; rfl) 17 _ (by omega), bk_tok_set (hok b (List.mem_of_getElem? hb)), bksV, bksV, List.map_set]
theorem bks_set_ok {l : List BucketM} (hok : ∀ s ∈ l, s.ok) {p : Nat} {b : BucketM} (hb : b.ok) : ∀ s ∈ l.set p b, s.ok := fun s hs => by
  rcases List.mem_or_eq_of_mem_set hs with h | rfl
  · exact hok s h
  · exact hb
theorem modify_set {l : List BucketM} {p : Nat} {b : BucketM} (h : l[p]? = some b) (f : BucketM → BucketM) : l.modify p f = l.set p (f b) := by
  obtain ⟨hp, rfl⟩ := List.getElem?_eq_some_iff.1 h
  apply List.ext_getElem?
  intro i
  rw [List.getElem?_modify, List.getElem?_set]
  by_cases e : p = i
  · subst e
    simp [hp]
  · simp [e]
theorem takeB_low {G : List BucketM} {p : Nat} {b : BucketM} (h : G[p]? = some b) (hl : b.tok < 1000) : takeB (G, p) = (G, false) := by
  unfold takeB
  rw [h]
  exact if_pos hl
theorem takeB_high {G : List BucketM} {p : Nat} {b : BucketM} (h : G[p]? = some b) (hl : ¬ b.tok < 1000) : takeB (G, p) = (G.set p { b with tok := b.tok - 1000 }, true) := by
  unfold takeB
  rw [h]
  exact if_neg hl
end Go.Proofs.Ytpahfckihcbajaa
namespace Go.Proofs.Ytpahfckihcbajaa
open Go.RowKit

/-- the number of items ahead of the first one that is wanted -/
def firstM (p : List Value → Bool) (os : List (List Value)) : Nat := (os.findIdx? p).getD os.length
theorem firstM_none {p : List Value → Bool} {os : List (List Value)} (h : ∀ o ∈ os, p o = false) : firstM p os = os.length := by
  have e : os.findIdx? p = none := List.findIdx?_eq_none_iff.2 h
  unfold firstM
  rw [e]
  rfl
theorem firstM_some {p : List Value → Bool} {os : List (List Value)} {j : Nat} {o : List Value} (ho : os[j]? = some o) (hp : p o = true) (hn : ∀ (q : Nat) x, q < j → os[q]? = some x → p x = false) : firstM p os = j := by
  obtain ⟨hi, rfl⟩ := List.getElem?_eq_some_iff.1 ho
  have e : os.findIdx? p = some j := by
    rw [List.findIdx?_eq_some_iff_getElem]
    exact ⟨hi, hp, fun q hq => by simpa using hn q _ hq (List.getElem?_eq_getElem (by omega))⟩
  unfold firstM
  rw [e]
  rfl
set_option maxRecDepth 100000 in
set_option maxHeartbeats 16000000 in
theorem bkFirst_any (A : Option Addr) (n c : Nat) (os : List (List Value)) (hn : n ≤ 1000000) (h1 : ∀ o ∈ os, ∀ v ∈ o, v.oneCell' = true) (F : Nat) (lb : Array Value) (hE : ∀ (args : Array Value) (W : World), (callFunc F args).run Try.prog W = .ok (.enter F args) W) (p : List Value → Bool) (B : Nat) (w : World) (hB : B ≤ w.heap.size) (hr : RdRow w w.heap.size A 19 n os) (hf : PredB Try.prog F lb p B w os) :
    Calls Try.prog 27 #[.slice A n c, .func (.func F) #[] lb] w fun e w' => e = .returned (.int .i64 (firstM p os : Int)) ∧ Below w.heap.size w w' := by
  have HR := Lib.hid hr
  have HF := Lib.hid hf
  have HB := Lib.hid hB
  have H1 := Lib.hid h1
  clear hr hf hB h1
  go_enter Try.func27, Try.ntmps27
  go_wp2_with fail
  go_loopw [9] (fun i wr => ∃ j : Nat, j ≤ n ∧ i = .int .i64 (j : Int) ∧ Below w.heap.size w wr ∧ ∀ (q : Nat) x, q < j → os[q]? = some x → p x = false) (fun i _ => n - (intOf i).toNat)
  case atStart => exact ⟨0, Nat.zero_le _, rfl, Below.refl _ _, fun q _ h => absurd h (Nat.not_lt_zero _)⟩
  case round =>
    obtain ⟨j, hj, rfl, hW, hno⟩ := hrel
    have HW := Lib.hid hW
    have HNO := Lib.hid hno
    clear hW hno
    by_cases hjn : j < n
    · have d1 : decide ((j : Int) < (n : Int)) = true := by simp; omega
      obtain ⟨b, off, rfl⟩ := HR.out.addr (by omega)
      obtain ⟨o, ho⟩ : ∃ o, os[j]? = some o := ⟨os[j]'(by rw [HR.out.1]; exact hjn), List.getElem?_eq_getElem _⟩
      have hat := HR.out.at j o ho
      have HLA := Lib.hid (show At wr b (off + j * 19) o from fun q v hv => (World.cell?_of_block (HW.out.block b hat.1)).trans (hat.2 q v hv))
      have HOL := Lib.hid (HR.out.2.1 o (List.mem_of_getElem? ho))
      have HU := Lib.hid (bk_size o HOL.out)
      have H1O := Lib.hid (H1.out o (List.mem_of_getElem? ho))
      have hcall := HF.out o (List.mem_of_getElem? ho)
      obtain ⟨oc, hoc⟩ : ∃ z, o.toArray = z := ⟨_, rfl⟩
      rw [hoc] at hcall
      obtain ⟨y, hy⟩ : ∃ y, p o = y := ⟨_, rfl⟩
      rw [hy] at hcall
      have HOC := Lib.hid hoc
      have HC := Lib.hid hcall
      have HJO := Lib.hid (And.intro ho hy)
      clear hat ho hcall hoc hy
      have HZ := Lib.hid (Blk.new wr 44 bucketZ)
      go_upto_region 4 with (first | (refine wpList_load_obj rfl 44 (.tmp 12) rfl b _ rfl o HLA.out _ Try.underlying44 rfl HU.out ?_; rw [HOC.out]) | (refine wpList_store_obj rfl 44 (.tmp 6) (.tmp 13) rfl wr.heap.size 0 o rfl (by show Value.agg oc = _; rw [HOC.out]) 44 bucketZ HZ.out HU.out (by rw [HOL.out, bucketZ_length]; omega) H1O.out ?_; intro w4 hb4 hg4))
      rw [setL_all bucketZ o (by rw [HOL.out, bucketZ_length])] at hb4
      have HW4 := Lib.hid (HW.out.trans ((below_fresh hg4).mono HW.out.size))
      have HP := Lib.hid hb4
      clear hb4 hg4 HW HZ d1 HLA
      generalize wr.heap.size = P1 at HP ⊢
      go_wp2_with (refine wpList_load_obj rfl 44 (.tmp 6) rfl P1 0 rfl o HP.out.all _ Try.underlying44 rfl HU.out ?_; rw [HOC.out])
      refine (HC.out w4 (HW4.out.mono HB.out)).mono ?_
      rintro e w2 ⟨rfl, hb⟩
      have HW2 := Lib.hid (HW4.out.trans (hb.mono HW4.out.size))
      clear hb HW4 HC HP
      cases y with
      | true =>
        go_wp2
        go_ret
        exact ⟨by rw [firstM_some HJO.out.1 HJO.out.2 HNO.out]; rfl, HW2.out⟩
      | false =>
        go_wp2_with fail
        go_roundw
        case rel => exact ⟨j + 1, by omega, by go_num, HW2.out, fun q x hq hx => by
          rcases Nat.lt_or_ge q j with h | h
          · exact HNO.out q x h hx
          · obtain rfl : q = j := by omega
            have e := HJO.out.1.symm.trans hx
            injection e with e
            rw [← e]
            exact HJO.out.2⟩
        case measure => simp [intOf]; omega
    · obtain rfl : j = n := by omega
      have d1 : decide ((j : Int) < (j : Int)) = false := by simp
      have HF2 := Lib.hid HW.out
      have HX := Lib.hid ((firstM_none (all_false HR.out.1 HNO.out)).trans HR.out.1)
      clear HW HNO
      go_wp2
      go_ret
      exact ⟨by rw [HX.out]; rfl, HF2.out⟩
end Go.Proofs.Ytpahfckihcbajaa
namespace Go.Proofs.Ytpahfckihcbajaa
open Go.RowKit

end Go.Proofs.Ytpahfckihcbajaa
namespace Go.Proofs.Ytpahfckihcbajaa
open Go.RowKit

theorem loadBytes_rd {P : Program} : ∀ (l : List UInt8) (w : World) (b off : Nat) (acc : ByteArray), (∀ j (h : j < l.length), w.cell? ⟨b, off + j, none⟩ = some (.int .u8 (l[j].toNat : Int))) →
    (Extern.Bytes.loadBytes ⟨b, off, none⟩ l.length acc).run P w = .ok ⟨acc.data ++ l.toArray⟩ w
  | [], w, b, off, acc, _ => by simp [Extern.Bytes.loadBytes]
  | x :: l, w, b, off, acc, h => by
    have h0 := h 0 (by simp)
    rw [Nat.add_zero] at h0
    have ih := loadBytes_rd (P := P) l w b (off + 1) (acc.push x) (fun j hj => by
      have := h (j + 1) (by simp; omega)
      rw [show off + 1 + j = off + (j + 1) by omega]
      simpa using this)
    have e1 : (Addr.add ⟨b, off, none⟩ 1) = ⟨b, off + 1, none⟩ := by simp [Go.WideShapes.add_plain]
    simp only [List.length_cons, Extern.Bytes.loadBytes, Sem.run_bind, run_load, h0, Result.andThen]
    simp only [List.getElem_cons_zero, Int.toNat_natCast, Nat.toUInt8_eq, UInt8.ofNat_toNat, e1]
    rw [ih]
    congr 1
    simp [ByteArray.push]
theorem bytesOf_rd {P : Program} {w : World} {B n c : Nat} {A : Option Addr} {l : List UInt8} (h : Rd w B A n l) : (Extern.Bytes.bytesOf (.slice A n c)).run P w = .ok ⟨l.toArray⟩ w := by
  rcases Nat.eq_zero_or_pos n with h0 | h0
  · have : l = [] := List.eq_nil_of_length_eq_zero (by rw [h.1, h0])
    subst this
    subst h0
    cases A with
    | none => simp [Extern.Bytes.bytesOf]; rfl
    | some a => simp [Extern.Bytes.bytesOf, Extern.Bytes.loadBytes]; rfl
  · obtain ⟨b, off, rfl, _, hc⟩ := h.at_ h0
    have := loadBytes_rd (P := P) l w b off .empty hc
    rw [h.1] at this
    simp [Extern.Bytes.bytesOf, this]
set_option maxRecDepth 100000 in
theorem compare_any (n m c d B B' : Nat) (A A' : Option Addr) (a b : List UInt8) (w : World) (ha : Rd w B A n a) (hb : Rd w B' A' m b) :
    Calls Try.prog 40 #[.slice A n c, .slice A' m d] w fun e w' => e = .returned (.int .i64 (Lib.compareBytes a b)) ∧ w = w' := by
  have hx : (callFunc 43 #[.slice A n c, .slice A' m d]).run Try.prog w = .ok (.value (.int .i64 (Lib.compareBytes a b))) w := by
    rw [run_callFunc_extern Try.func43 (by kernel_rfl) (by kernel_rfl) (by kernel_rfl) (e := Extern.BytealgCompare.compare) (by kernel_rfl)]
    have e1 : (Extern.BytealgCompare.compare #[.slice A n c, .slice A' m d]).run Try.prog w = .ok (.int .i64 (Lib.compareBytes a b)) w := by
      change Sem.run Try.prog (do pure (goInt (Extern.BytealgCompare.cmp (← Extern.Bytes.bytesOf (.slice A n c)) (← Extern.Bytes.bytesOf (.slice A' m d))))) w = _
      simp only [Sem.run_bind, Sem.run_pure, bytesOf_rd ha, bytesOf_rd hb, Result.andThen, Lib.cmp_eq]
      rfl
    rw [e1]
    rfl
  go_enter Try.func40, Try.ntmps40
  go_wp2
  go_ret
  exact ⟨rfl, rfl⟩
end Go.Proofs.Ytpahfckihcbajaa
namespace Go.Proofs.Ytpahfckihcbajaa
open Go.RowKit

theorem compare_less : ∀ (a b : List UInt8), decide (Lib.compareBytes a b < 0) = Op.bytesLess a b
  | [], [] => rfl
  | [], _ :: _ => rfl
  | _ :: _, [] => rfl
  | x :: a, y :: b => by
    have ih := compare_less a b
    unfold Lib.compareBytes Op.bytesLess
    by_cases h1 : x < y
    · rw [if_pos h1]; simp [h1]
    · by_cases h2 : y < x
      · have hne : (x == y) = false := by
          rw [beq_eq_false_iff_ne]
          intro e
          subst e
          exact h1 h2
        rw [if_neg h1, if_pos h2, hne]
        simp [h1]
      · have he : x = y := by
          apply UInt8.toNat.inj
          rw [UInt8.lt_iff_toNat_lt] at h1 h2
          omega
        subst he
        rw [if_neg h1, if_neg h2, ih]
        simp [h1]
end Go.Proofs.Ytpahfckihcbajaa
namespace Go.Proofs.Ytpahfckihcbajaa
open Go.RowKit

theorem AddrM.ip_cell (a : AddrM) (h : a.ok) (j : Nat) (hj : j < 16) : a.cells[1 + j]? = some (.int .u8 ((a.ip.getD j 0).toNat : Int)) := by
  have hl : j < a.ip.length := by rw [h]; exact hj
  rw [AddrM.cells, Nat.add_comm, List.getElem?_cons_succ, List.getElem?_map, List.getElem?_eq_getElem hl, List.getD_eq_getElem?_getD, List.getElem?_eq_getElem hl]
  rfl
theorem AddrM.six_cell (a : AddrM) : a.cells[0]? = some (.bool a.six) := rfl
end Go.Proofs.Ytpahfckihcbajaa
namespace Go.Proofs.Ytpahfckihcbajaa
open Go.RowKit

/-- the address behind i elements, as the model keeps it -/
def addrOf (A : Option Addr) (i c : Nat) : Option Addr := if c = i then A else A.map (·.add (i * 1))
theorem Rd.behind {W : World} {B n : Nat} {A : Option Addr} {l : List UInt8} (h : Rd W B A n l) (i c : Nat) (hi : i ≤ n) (hc : n ≤ c) : Rd W B (addrOf A i c) (n - i) (l.drop i) := by
  unfold addrOf
  by_cases e : c = i
  · have e0 : n - i = 0 := by omega
    rw [if_pos e, e0, List.drop_of_length_le (by have := h.1; omega)]
    exact Rd.nil _ _ _
  · rw [if_neg e]
    rcases Nat.eq_zero_or_pos (n - i) with h0 | h0
    · rw [h0, List.drop_of_length_le (by have := h.1; omega)]
      exact Rd.nil _ _ _
    · obtain ⟨b, off, rfl, _, _⟩ := h.2 (by omega)
      rw [Option.map_some, Go.WideShapes.add_plain, Nat.mul_one]
      exact h.drop i b off rfl hi
end Go.Proofs.Ytpahfckihcbajaa
namespace Go.Proofs.Ytpahfckihcbajaa
open Go.RowKit

theorem AddrM.rd {w : World} {g : Nat} {t : TypeId} {a : AddrM} (h : Blk w g t a.cells) (ho : a.ok) : Rd w (g + 1) (some ⟨g, 1, none⟩) 16 a.ip :=
  ⟨ho, fun _ => ⟨g, 1, rfl, Nat.lt_succ_self _, fun j hj => by
    rw [h.cell (1 + j), AddrM.ip_cell a ho j (by rw [ho] at hj; exact hj), List.getD_eq_getElem?_getD, List.getElem?_eq_getElem hj]
    rfl⟩⟩
end Go.Proofs.Ytpahfckihcbajaa
namespace Go.Proofs.Ytpahfckihcbajaa
open Go.RowKit

set_option maxRecDepth 100000 in
set_option maxHeartbeats 4000000 in
theorem less_any (a b : AddrM) (ha : a.ok) (hb : b.ok) (w : World) :
    Calls Try.prog 32 #[.agg a.cells.toArray, .agg b.cells.toArray] w fun e w' => e = .returned (.bool (lessM a b)) ∧ Below w.heap.size w w' := by
  obtain ⟨ca, hca⟩ : ∃ x, a.cells.toArray = x := ⟨_, rfl⟩
  obtain ⟨cb, hcb⟩ : ∃ x, b.cells.toArray = x := ⟨_, rfl⟩
  rw [hca, hcb]
  have HM := Lib.hid (show Mem w [blkE (w.heap.size + 1) 35 b.cells, blkE w.heap.size 35 a.cells] ((w.alloc (.cells ca 35)).alloc (.cells cb 35)) from ((Mem.nil w).alloc rfl 35 ca a.cells hca.symm).alloc (by simp) 35 cb b.cells hcb.symm)
  have HOA := Lib.hid ha
  have HOB := Lib.hid hb
  have hcl := compare_less a.ip b.ip
  clear hca hcb ha hb
  go_enter Try.func32, Try.ntmps32
  go_upto_region 1 with fail
  generalize ((w.alloc (.cells ca 35)).alloc (.cells cb 35)) = w1 at HM ⊢
  have f1 := ((HM.out.blk 1 rfl).cell 0).trans (AddrM.six_cell a)
  have f2 := ((HM.out.blk 0 rfl).cell 0).trans (AddrM.six_cell b)
  by_cases h6 : a.six = b.six
  · have HE := Lib.hid (show decide (Lib.compareBytes a.ip b.ip < 0) = lessM a b by rw [lessM, if_pos h6, hcl])
    rw [h6] at f1
    have hne : (b.six != b.six) = false := by simp
    clear h6 hcl
    generalize b.six = sx at f1 f2 hne
    go_upto_region 3 with fail
    clear f1 f2 hne
    generalize w.heap.size = GA at HM ⊢
    refine wp_region_held_drew (S := fun W' => Mem w [blkE (GA + 1) 35 b.cells, blkE GA 35 a.cells] W') (by kernel_rfl) ((HM.out).drew) (fun hHeld => ?_)
    replace HM := Lib.hid HM.out.drew
    generalize w1.drew = wd1 at HM hHeld ⊢
    refine take_first (v := ?_) 0 rfl (by kernel_rfl) (by kernel_rfl) (by kernel_rfl) (fun _ _ _ h => h) (Or.inl ⟨by rfl, ?_⟩) (by assumption) ?_
    rotate_left
    · (intro w hSw; (try dsimp only at hSw); go_simp; try with_reducible rfl)
    (try simp only [Act.put, List.setIfInBounds_toArray, List.set_cons_zero, List.set_cons_succ])
    refine take_first (v := ?_) 1 rfl (by kernel_rfl) (by kernel_rfl) (by kernel_rfl) (fun _ _ _ h => h) (Or.inl ⟨by rfl, ?_⟩) (by assumption) ?_
    rotate_left
    · (intro w hSw; (try dsimp only at hSw); go_simp; try with_reducible rfl)
    (try simp only [Act.put, List.setIfInBounds_toArray, List.set_cons_zero, List.set_cons_succ])
    refine take_first (v := ?_) 2 rfl (by kernel_rfl) (by kernel_rfl) (by kernel_rfl) (fun _ _ _ h => h) (Or.inl ⟨by rfl, ?_⟩) (by assumption) ?_
    rotate_left
    · (intro w hSw; (try dsimp only at hSw); go_simp; try with_reducible rfl)
    (try simp only [Act.put, List.setIfInBounds_toArray, List.set_cons_zero, List.set_cons_succ])
    refine take_first (v := ?_) 3 rfl (by kernel_rfl) (by kernel_rfl) (by kernel_rfl) (fun _ _ _ h => h) (Or.inl ⟨by rfl, ?_⟩) (by assumption) ?_
    rotate_left
    · (intro w hSw; (try dsimp only at hSw); go_simp; try with_reducible rfl)
    (try simp only [Act.put, List.setIfInBounds_toArray, List.set_cons_zero, List.set_cons_succ])
    refine step_one 4 rfl (by kernel_rfl) (fun K hK => ?_)
    clear hHeld
    go_simp
    refine (compare_any 16 16 16 16 _ _ _ _ a.ip b.ip _ (AddrM.rd (HM.out.blk 1 rfl) HOA.out) (AddrM.rd (HM.out.blk 0 rfl) HOB.out)).mono ?_
    rintro e wy ⟨rfl, rfl⟩
    go_wp2_with fail
    refine hK.out _ _ (HM.out) (fun hHeld => ?_)
    clear hK K
    (try simp only [Act.put, List.setIfInBounds_toArray, List.set_cons_zero, List.set_cons_succ])
    refine take_first (v := ?_) 5 rfl (by kernel_rfl) (by kernel_rfl) (by kernel_rfl) (fun _ _ _ h => h) (Or.inl ⟨by rfl, ?_⟩) (by assumption) ?_
    rotate_left
    · (intro w hSw; (try dsimp only at hSw); go_simp; try with_reducible rfl)
    (try simp only [Act.put, List.setIfInBounds_toArray, List.set_cons_zero, List.set_cons_succ])
    refine take_first (v := ?_) 6 rfl (by kernel_rfl) (by kernel_rfl) (by kernel_rfl) (fun _ _ _ h => h) (Or.inl ⟨by rfl, ?_⟩) (by assumption) ?_
    rotate_left
    · (intro w hSw; (try dsimp only at hSw); go_simp; try with_reducible rfl)
    (try simp only [Act.put, List.setIfInBounds_toArray, List.set_cons_zero, List.set_cons_succ])
    refine wpAnyH_done (by kernel_rfl) ?_ _
    have HB := Lib.hid HM.out.bel
    clear HM hHeld
    go_wp2
    go_ret
    exact ⟨by have h := HE.out; simp at h ⊢; exact h, HB.out⟩
  · have HR := Lib.hid (show lessM a b = b.six by rw [lessM, if_neg h6]; revert h6; cases a.six <;> cases b.six <;> simp)
    clear hcl
    generalize a.six = s1 at f1 h6
    generalize b.six = s2 at f2 h6 HR
    have hc : (s1 = true ∧ s2 = false) ∨ (s1 = false ∧ s2 = true) := by revert h6; cases s1 <;> cases s2 <;> simp
    clear h6
    rcases hc with ⟨rfl, rfl⟩ | ⟨rfl, rfl⟩
    · go_wp2
      go_ret
      exact ⟨by first | rfl | (rw [HR.out]; rfl), HM.out.bel⟩
    · go_wp2
      go_ret
      exact ⟨by first | rfl | (rw [HR.out]; rfl), HM.out.bel⟩
end Go.Proofs.Ytpahfckihcbajaa
namespace Go.Proofs.Ytpahfckihcbajaa
open Go.RowKit

noncomputable def cellsB (q : BucketM → Bool) (o : List Value) : Bool := @decide (∃ t : BucketM, t.ok ∧ t.cells = o ∧ q t = true) (Classical.propDecidable _)
theorem cellsB_is (q : BucketM → Bool) {t : BucketM} (h : t.ok) : cellsB q t.cells = q t := by
  unfold cellsB
  cases hq : q t with
  | true => exact @decide_eq_true _ (Classical.propDecidable _) ⟨t, h, rfl, hq⟩
  | false =>
    refine @decide_eq_false _ (Classical.propDecidable _) fun ⟨s, hs, he, hs2⟩ => ?_
    rw [(bk_inj hs h).1 he, hq] at hs2
    cases hs2
theorem first_bks (q : BucketM → Bool) : ∀ {l : List BucketM}, (∀ s ∈ l, s.ok) → (bksV l).findIdx? (cellsB q) = l.findIdx? q
  | [], _ => rfl
  | b :: l, h => by
    have ih := first_bks q (l := l) (fun s hs => h s (List.mem_cons_of_mem _ hs))
    show (b.cells :: bksV l).findIdx? (cellsB q) = _
    rw [List.findIdx?_cons, List.findIdx?_cons, ih, cellsB_is q (h b (List.mem_cons_self ..))]
theorem firstM_bks (q : BucketM → Bool) {l : List BucketM} (h : ∀ s ∈ l, s.ok) : firstM (cellsB q) (bksV l) = (l.findIdx? q).getD l.length := by
  unfold firstM
  rw [first_bks q h, bksV_len]
theorem bks_mem {l : List BucketM} (h : ∀ s ∈ l, s.ok) {o : List Value} (ho : o ∈ bksV l) : ∃ s, s.ok ∧ s ∈ l ∧ s.cells = o := by
  obtain ⟨s, hs, rfl⟩ := List.mem_map.1 ho
  exact ⟨s, h s hs, hs, rfl⟩
set_option maxRecDepth 100000 in
set_option maxHeartbeats 8000000 in
theorem isPred_any (a : AddrM) (ha : a.ok) (r : BucketM) (hr : r.ok) (G : Nat) (W : World) (hg : Blk W G 35 a.cells) :
    Calls Try.prog 28 #[.agg r.cells.toArray, .pointer (some ⟨G, 0, none⟩)] W fun e W' => e = .returned (.bool (decide (r.a = a))) ∧ Below W.heap.size W W' := by
  have heq := addr_eqd r.a a hr.1 ha
  have HR := Lib.hid hr
  have HA := Lib.hid ha
  obtain ⟨rc, hrc⟩ : ∃ z, r.cells.toArray = z := ⟨_, rfl⟩
  obtain ⟨fc, hfc⟩ : ∃ z, r.a.cells.toArray = z := ⟨_, rfl⟩
  obtain ⟨pa, hpa⟩ : ∃ z, a.cells.toArray = z := ⟨_, rfl⟩
  obtain ⟨y, hy⟩ : ∃ y, decide (r.a = a) = y := ⟨_, rfl⟩
  rw [hfc, hpa, hy] at heq
  rw [hrc, hy]
  have HEQ := Lib.hid heq
  have HFC := Lib.hid hfc
  have HPA := Lib.hid hpa
  have hb := (Below.refl W.heap.size W).alloc (Nat.le_refl _) (.cells rc 44)
  have HP := Lib.hid (show Blk (W.alloc (.cells rc 44)) W.heap.size 44 r.cells from by rw [← hrc]; exact Blk.new W 44 r.cells)
  have HAT := Lib.hid (show Blk (W.alloc (.cells rc 44)) G 35 a.cells from hg.below hb hg.lt)
  have HB := Lib.hid hb
  clear heq hr ha hg hrc hfc hpa hy hb
  go_enter Try.func28, Try.ntmps28
  go_upto_region 1 with fail
  generalize W.alloc (.cells rc 44) = w1 at HP HAT HB ⊢
  generalize W.heap.size = P1 at HP ⊢
  have HFA := Lib.hid (show At w1 P1 0 r.a.cells from bk_a_at HP.out.all HR.out)
  go_wp2_with (first | (refine wpList_load_obj rfl 35 (.tmp 4) rfl P1 0 rfl r.a.cells HFA.out _ Try.underlying35 rfl (addr_cellsOf r.a HR.out.1) ?_; rw [HFC.out]) | (refine wpList_load_obj rfl 35 (.tmp 1) rfl G 0 rfl a.cells HAT.out.all _ Try.underlying35 rfl (addr_cellsOf a HA.out) ?_; rw [HPA.out]) | (refine wpList_eql_agg (by rfl) 35 35 5 6 rfl fc pa y rfl rfl addr_noguard (HEQ.out _) ?_))
  go_ret
  exact ⟨rfl, HB.out⟩
set_option maxRecDepth 100000 in
set_option maxHeartbeats 8000000 in
theorem aheadPred_any (a : AddrM) (ha : a.ok) (r : BucketM) (hr : r.ok) (G : Nat) (W : World) (hg : Blk W G 35 a.cells) :
    Calls Try.prog 31 #[.agg r.cells.toArray, .pointer (some ⟨G, 0, none⟩)] W fun e W' => e = .returned (.bool (lessM a r.a)) ∧ Below W.heap.size W W' := by
  have hls := fun W => less_any a r.a ha hr.1 W
  have HR := Lib.hid hr
  have HA := Lib.hid ha
  obtain ⟨rc, hrc⟩ : ∃ z, r.cells.toArray = z := ⟨_, rfl⟩
  obtain ⟨fc, hfc⟩ : ∃ z, r.a.cells.toArray = z := ⟨_, rfl⟩
  obtain ⟨pa, hpa⟩ : ∃ z, a.cells.toArray = z := ⟨_, rfl⟩
  obtain ⟨y, hy⟩ : ∃ y, lessM a r.a = y := ⟨_, rfl⟩
  simp only [hfc, hpa, hy] at hls
  rw [hrc, hy]
  have HLS := Lib.hid hls
  have HFC := Lib.hid hfc
  have HPA := Lib.hid hpa
  have hb := (Below.refl W.heap.size W).alloc (Nat.le_refl _) (.cells rc 44)
  have HP := Lib.hid (show Blk (W.alloc (.cells rc 44)) W.heap.size 44 r.cells from by rw [← hrc]; exact Blk.new W 44 r.cells)
  have HAT := Lib.hid (show Blk (W.alloc (.cells rc 44)) G 35 a.cells from hg.below hb hg.lt)
  have HB := Lib.hid hb
  clear hls hr ha hg hrc hfc hpa hy hb
  go_enter Try.func31, Try.ntmps31
  go_upto_region 1 with fail
  generalize W.alloc (.cells rc 44) = w1 at HP HAT HB ⊢
  have HWB := Lib.hid HB.out.size
  generalize W.heap.size = P1 at HP ⊢
  have HFA := Lib.hid (show At w1 P1 0 r.a.cells from bk_a_at HP.out.all HR.out)
  go_wp2_with (first | (refine wpList_load_obj rfl 35 (.tmp 5) rfl P1 0 rfl r.a.cells HFA.out _ Try.underlying35 rfl (addr_cellsOf r.a HR.out.1) ?_; rw [HFC.out]) | (refine wpList_load_obj rfl 35 (.tmp 1) rfl G 0 rfl a.cells HAT.out.all _ Try.underlying35 rfl (addr_cellsOf a HA.out) ?_; rw [HPA.out]))
  refine (HLS.out _).mono ?_
  rintro e w2 ⟨rfl, hb2⟩
  have HB2 := Lib.hid (HB.out.trans (hb2.mono HWB.out))
  clear hb2 HLS
  go_wp2
  go_ret
  exact ⟨rfl, HB2.out⟩
end Go.Proofs.Ytpahfckihcbajaa
namespace Go.Proofs.Ytpahfckihcbajaa
open Go.RowKit
theorem old_step (l : List BucketM) (j : Nat) : (List.range (j + 1)).foldl (oldestS l) 0 = oldestS l ((List.range j).foldl (oldestS l) 0) j := by rw [List.range_succ, List.foldl_append]; rfl
theorem oldestS_or (l : List BucketM) (b i : Nat) : oldestS l b i = i ∨ oldestS l b i = b := by
  unfold oldestS
  split
  · split
    · exact .inl rfl
    · exact .inr rfl
  · exact .inr rfl
theorem old_lt (l : List BucketM) {n : Nat} (hn : 0 < n) : ∀ j, j ≤ n → (List.range j).foldl (oldestS l) 0 < n
  | 0, _ => hn
  | j + 1, h => by
    have ih := old_lt l hn j (by omega)
    rw [old_step]
    rcases oldestS_or l ((List.range j).foldl (oldestS l) 0) j with e | e
    · rw [e]; omega
    · rw [e]; exact ih
end Go.Proofs.Ytpahfckihcbajaa
namespace Go.Proofs.Ytpahfckihcbajaa
open Go.RowKit

theorem blk_seg {w : World} {g off : Nat} {t : TypeId} {cur xs : List Value} (h : Blk w g t cur) (hx : ∀ (j : Nat) v, xs[j]? = some v → cur[off + j]? = some v) : ∀ j v, xs[j]? = some v → w.cell? ((⟨g, off, none⟩ : Addr).add j) = some v := fun j v hj => by
  rw [Go.WideShapes.add_plain, h.cell]
  exact hx j v hj
set_option maxRecDepth 100000 in
theorem bk_hc (A : Option Addr) (n c j : Nat) (h3 : j ≤ c) (w : World) : (Instr.sliceAt 32 (.slice A n c) none (some (.int .i64 (j : Int))) none).run Try.prog w = .ok (.slice (addrK A 0 c 19) j c) w := by
  rw [run_sliceAt_slice (P := Try.prog) (w := w) 32 _ _ _ _ bk_under, run_slice_h (P := Try.prog) (w := w) 32 A n c bk_under .i64 j (by omega) (by omega), bk_sizeOf]
  simp only [Result.andThen, sliced, Int.toNat_natCast, Nat.sub_zero]
  rfl
set_option maxRecDepth 100000 in
set_option maxHeartbeats 16000000 in
theorem bkIns_any (base : Nat) (A : Option Addr) (n c i : Nat) (os : List (List Value)) (o : List Value) (hn : n ≤ 1000) (hi : i ≤ n) (hl : os.length = n) (hk : ∀ x ∈ os, x.length = 19) (h1 : ∀ x ∈ os, ∀ v ∈ x, v.oneCell' = true) (ho : o.length = 19) (h1o : ∀ v ∈ o, v.oneCell' = true) (gv : Nat) (w : World) (hbase : base ≤ w.heap.size) (hown : w.ownsRow base 44 19 (.slice A n c) n os.flatten) (hv : Blk w gv 44 o) (hne : ∀ ad, A = some ad → ad.block ≠ gv) :
    Calls Try.prog 33 #[.slice A n c, .int .i64 (i : Int), .slice (some ⟨gv, 0, none⟩) 1 1] w fun e w' => ∃ v, e = .returned v ∧ w'.ownsRow base 44 19 v (n + 1) (os.take i ++ o :: os.drop i).flatten ∧ Below base w w' := by
  obtain ⟨ik, hik, hiz, his, hib⟩ := bucketInfo
  have HKI := Lib.hid (And.intro hik (And.intro hiz (And.intro his hib)))
  have HSZ := Lib.hid (show (Try.prog.info? 44).map (·.size) = some 19 from by rw [hik, Option.map_some, his])
  clear hik hiz his hib
  obtain ⟨A5, c5, hv5, hnc, hcm, hlo⟩ := own_sliceK hown
  injection hv5 with hA5 _ hc5
  subst hA5 hc5
  have HOL := Lib.hid ho
  have H1O := Lib.hid h1o
  have HV := Lib.hid hv
  have HBS := Lib.hid hbase
  have hsl0 := bk_l A n c i hi
  rcases Nat.lt_or_ge i n with hin | hin
  · have hr := RdRow.of_own hl hk hown
    rcases hown.2 with ⟨_, h0⟩ | ⟨g, cap, cur0, hvv, hbg, hg, hnc2, hcm2, hcs, hcr⟩
    · omega
    injection hvv with hA _ hcc
    subst hA hcc
    obtain ⟨cur, hcur⟩ : ∃ z, cur0.toList = z := ⟨_, rfl⟩
    have hblk : Blk w g 44 cur := by
      unfold Blk
      rw [← hcur, Array.toArray_toList]
      exact hg
    have hlen : cur.length = c * 19 := by rw [← hcur]; simpa using hcs
    rw [hcur] at hcr
    have hte : (os.take i).flatten = cur.take (i * 19) := by
      rw [flat_take i hk, ← hcr, List.take_take, Nat.min_eq_left (Nat.mul_le_mul_right 19 hi)]
    have htl : (os.take i).flatten.length = i * 19 := by
      rw [flat_length (fun x hx => hk x (List.mem_of_mem_take hx)), List.length_take, hl, Nat.min_eq_left hi]
    have hdl : (os.drop i).flatten.length = (n - i) * 19 := by
      rw [flat_length (fun x hx => hk x (List.mem_of_mem_drop hx)), List.length_drop, hl]
    have hds : ∀ (j : Nat) v, (os.drop i).flatten[j]? = some v → cur[i * 19 + j]? = some v := fun j v hj => by
      rw [flat_drop i hk, List.getElem?_drop, ← hcr, List.getElem?_take] at hj
      split at hj
      · exact hj
      · cases hj
    have hd1 : ∀ v ∈ (os.drop i).flatten, v.oneCell' = true := one_flat fun x hx => h1 x (List.mem_of_mem_drop hx)
    obtain ⟨i1, hi1⟩ : ∃ z, i + 1 = z := ⟨_, rfl⟩
    obtain ⟨n1, hn1⟩ : ∃ z, n + 1 = z := ⟨_, rfl⟩
    have hfe : (os.take i).flatten ++ o ++ (os.drop i).flatten = (os.take i ++ o :: os.drop i).flatten := by simp
    have hnk : i * 19 + 19 + (n - i) * 19 = n1 * 19 := by omega
    have HW := Lib.hid (show (os.take i).flatten = cur.take (i * 19) ∧ (os.take i).flatten.length = i * 19 ∧ (os.drop i).flatten.length = (n - i) * 19 ∧ cur.length = c * 19 ∧ n + 1 = n1 ∧ i + 1 = i1 ∧ base ≤ g ∧ c ≤ maxLen ∧ n ≤ c ∧ (os.take i).flatten ++ o ++ (os.drop i).flatten = (os.take i ++ o :: os.drop i).flatten ∧ i * 19 + 19 + (n - i) * 19 = n1 * 19 from ⟨hte, htl, hdl, hlen, hn1, hi1, hbg, hcm, hnc, hfe, hnk⟩)
    have HDS := Lib.hid hds
    have HD1 := Lib.hid hd1
    have HBK := Lib.hid hblk
    have hgv : g ≠ gv := hne _ rfl
    have HGV := Lib.hid hgv
    have HGL := Lib.hid hblk.lt
    have ew1 : IntKind.i64.wrap ((n : Int) + 1) = (n1 : Int) := by rw [IntWalk.i64_in _ (by omega)]; omega
    have ew2 : IntKind.i64.wrap ((i : Int) + 1) = (i1 : Int) := by rw [IntWalk.i64_in _ (by omega)]; omega
    have ew3 : (n : Int) + 1 = (n1 : Int) := by omega
    have ew4 : (i : Int) + 1 = (i1 : Int) := by omega
    have ew7 : IntKind.i64.wrap (i1 : Int) = (i1 : Int) := IntWalk.i64_in _ (by omega)
    have ew8 : IntKind.i64.wrap (n1 : Int) = (n1 : Int) := IntWalk.i64_in _ (by omega)
    have e0 : ((i : Int) == (n : Int)) = false := by rw [beq_eq_false_iff_ne]; omega
    rcases Nat.lt_or_ge c n1 with hroom | hroom
    · have e1 : decide ((n1 : Int) > (c : Int)) = true := by simp; omega
      have e2 : decide ((c : Int) < (n1 : Int)) = true := by simp; omega
      have hra := hr.ahead i c hi
      rw [addrK_zero_some] at hra
      obtain ⟨d, hd⟩ : ∃ z, n1 - i = z := ⟨_, rfl⟩
      have hid : i + d = n1 := by omega
      have ew5 : IntKind.i64.wrap ((n1 : Int) - (i : Int)) = (d : Int) := by rw [IntWalk.i64_in _ (by omega)]; omega
      have ew6 : (n1 : Int) - (i : Int) = (d : Int) := by omega
      obtain ⟨w2, cap2, cur2, hap, hb2, hl2, ht2, hge2, hcm3, hbl2⟩ := run_append_made (P := Try.prog) w 32 3 32 44 ik (.agg bucketZ.toArray) .i64 .i64 19 40 Try.underlying32 Try.underlying3 HKI.out.1 HKI.out.2.1 HKI.out.2.2.1 HKI.out.2.2.2 (by rfl) (by omega) w.heap.size ⟨g, 0, none⟩ i c (os.take i) hra d (by omega) (by omega) (by unfold maxLen; omega) (by omega)
      rw [hid] at hap hge2
      have hsh := bk_h (some ⟨g, 0, none⟩) (n := n) c i hi hnc
      rw [addrK_zero_some] at hsh
      obtain ⟨G2, hG2⟩ : ∃ z, w.heap.size = z := ⟨_, rfl⟩
      have HGG := Lib.hid (show g < G2 ∧ gv < G2 ∧ base ≤ G2 from ⟨by rw [← hG2]; exact HGL.out, by rw [← hG2]; exact HV.out.lt, by rw [← hG2]; exact HBS.out⟩)
      have HX2 := Lib.hid (show Blk w2 G2 44 cur2 ∧ Blk w2 g 44 cur ∧ Blk w2 gv 44 o ∧ Below base w w2 from ⟨hG2 ▸ hb2, HBK.out.below hbl2 HGL.out, HV.out.below hbl2 HV.out.lt, hbl2.mono HBS.out⟩)
      have HC2 := Lib.hid (And.intro hge2 (And.intro hcm3 (And.intro hl2 ht2)))
      rw [hG2] at hap
      have HAP := Lib.hid hap
      have hs1 := bk_l (some ⟨G2, 0, none⟩) n1 cap2 i (by omega)
      rw [addrK_some (show i < cap2 by omega), Nat.zero_add] at hs1
      have hs2 := bk_l (some ⟨G2, 0, none⟩) n1 cap2 i1 (by omega)
      rw [addrK_some (show i1 < cap2 by omega), Nat.zero_add] at hs2
      have hs3 := bk_l (some ⟨g, 0, none⟩) n c i hi
      rw [addrK_some (show i < c by omega), Nat.zero_add] at hs3
      have HS0 := Lib.hid hs1
      have HS1 := Lib.hid hs2
      have HS2 := Lib.hid hs3
      have HF0 := Lib.hid (show i * 19 + o.length ≤ cur2.length from by rw [HOL.out, hl2]; have := Nat.mul_le_mul_right 19 (show i + 1 ≤ cap2 by omega); rw [Nat.succ_mul] at this; exact this)
      have hsl : (setL cur2 (i * 19) o).length = cap2 * 19 := by
        have h := HF0.out
        simp only [setL, List.length_append, List.length_take, List.length_drop]
        omega
      have HN2 := Lib.hid (show (os.drop i).flatten.length = Nat.min (n - i) (n1 - i1) * 19 from by rw [HW.out.2.2.1, show n1 - i1 = n - i by omega]; simp)
      have HF2 := Lib.hid (show i1 * 19 + (os.drop i).flatten.length ≤ (setL cur2 (i * 19) o).length from by rw [hsl, HW.out.2.2.1]; omega)
      have HRES := Lib.hid (ins_new (cur := cur2) (D := (os.drop i).flatten) HW.out.2.1 ht2 HOL.out (by rw [HW.out.2.2.1, hl2]; omega))
      have HN1 := Lib.hid (show o.length = Nat.min 1 (n1 - i) * 19 from by rw [HOL.out, show Nat.min 1 (n1 - i) = 1 by simp [Nat.min_def]; omega])
      clear hb2 hl2 ht2 hge2 hcm3 hbl2 hs1 hs2 hs3 hra hd hid hsl hG2 hr hown hg hcr hcs hte htl hdl hlen hds hd1 hfe hnk hblk hbg hnc2 hcm2 hv hne hlo hgv hbase hap
      go_enter Try.func33, Try.ntmps33
      go_upto_region 10 with (at_builtin; refine Lib.wpList_append_run _ rfl _ _ _ _ rfl _ _ rfl rfl _ _ HAP.out ?_)
      clear hsh hsl0 e0 e1 e2 ew5 ew6
      have hs1 := HS0.out
      go_upto_region 11 with (refine wpList_copy_objs _ rfl (.tmp 43) (.tmp 44) 32 32 rfl 44 Try.underlying32 19 HSZ.out G2 (i * 19) (n1 - i) (cap2 - i) ⟨gv, 0, none⟩ 1 1 rfl rfl cur2 44 HX2.out.1 o HN1.out (blk_seg HX2.out.2.2.1 (fun j v hj => by rw [Nat.zero_add]; exact hj)) HF0.out H1O.out ?_; intro w3 hb3 hg3)
      have HX3 := Lib.hid (show Blk w3 G2 44 (setL cur2 (i * 19) o) ∧ Blk w3 g 44 cur ∧ Below base w w3 from ⟨hb3, (hg3.block g HX2.out.2.1.lt (fun e => by injection e with e; have := HGG.out; omega)).trans HX2.out.2.1, HX2.out.2.2.2.grown hg3 (Nat.le_trans HBS.out HX2.out.2.2.2.size) (fun q hq => by injection hq with hq; have := HGG.out; omega)⟩)
      clear hs1 hb3 hg3
      refine wp_region_held_drew (S := fun _ => True) (by kernel_rfl) (trivial) (fun hHeld => ?_)
      have hF : Blk w3.drew G2 44 (setL cur2 (i * 19) o) ∧ Blk w3.drew g 44 cur ∧ Below base w w3.drew := ⟨HX3.out.1, HX3.out.2.1, HX3.out.2.2.drew⟩
      generalize w3.drew = wd1 at hF ⊢
      refine take_first (v := ?_) 0 rfl (by kernel_rfl) (by kernel_rfl) (by kernel_rfl) (fun _ _ _ h => h) (Or.inl ⟨by rfl, ?_⟩) (by assumption) ?_
      rotate_left
      · (intro w hSw; (try dsimp only at hSw); go_simp; try with_reducible rfl)
      (try simp only [Act.put, List.setIfInBounds_toArray, List.set_cons_zero, List.set_cons_succ])
      refine take_first (v := ?_) 1 rfl (by kernel_rfl) (by kernel_rfl) (by kernel_rfl) (fun _ _ _ h => h) (Or.inl ⟨by rfl, ?_⟩) (by assumption) ?_
      rotate_left
      · (intro w hSw; (try dsimp only at hSw); go_simp; try with_reducible rfl)
      (try simp only [Act.put, List.setIfInBounds_toArray, List.set_cons_zero, List.set_cons_succ])
      refine take_first (v := ?_) 2 rfl (by kernel_rfl) (by kernel_rfl) (by kernel_rfl) (fun _ _ _ h => h) (Or.inl ⟨by rfl, ?_⟩) (by assumption) ?_
      rotate_left
      · (intro w hSw; (try dsimp only at hSw); go_simp; try with_reducible rfl)
      (try simp only [Act.put, List.setIfInBounds_toArray, List.set_cons_zero, List.set_cons_succ])
      refine take_first (v := ?_) 3 rfl (by kernel_rfl) (by kernel_rfl) (by kernel_rfl) (fun _ _ _ h => h) (Or.inl ⟨by rfl, ?_⟩) (by assumption) ?_
      rotate_left
      · (intro w hSw; (try dsimp only at hSw); go_simp; try with_reducible rfl)
      (try simp only [Act.put, List.setIfInBounds_toArray, List.set_cons_zero, List.set_cons_succ])
      refine take_first (v := ?_) 4 rfl (by kernel_rfl) (by kernel_rfl) (by kernel_rfl) (fun _ _ _ h => h) (Or.inl ⟨by rfl, ?_⟩) (by assumption) ?_
      rotate_left
      · (intro w hSw; (try dsimp only at hSw); have s := HS1.out w; go_simp; try with_reducible rfl)
      (try simp only [Act.put, List.setIfInBounds_toArray, List.set_cons_zero, List.set_cons_succ])
      refine take_first (v := ?_) 5 rfl (by kernel_rfl) (by kernel_rfl) (by kernel_rfl) (fun _ _ _ h => h) (Or.inl ⟨by rfl, ?_⟩) (by assumption) ?_
      rotate_left
      · (intro w hSw; (try dsimp only at hSw); go_simp; try with_reducible rfl)
      (try simp only [Act.put, List.setIfInBounds_toArray, List.set_cons_zero, List.set_cons_succ])
      refine take_first (v := ?_) 6 rfl (by kernel_rfl) (by kernel_rfl) (by kernel_rfl) (fun _ _ _ h => h) (Or.inl ⟨by rfl, ?_⟩) (by assumption) ?_
      rotate_left
      · (intro w hSw; (try dsimp only at hSw); go_simp; try with_reducible rfl)
      (try simp only [Act.put, List.setIfInBounds_toArray, List.set_cons_zero, List.set_cons_succ])
      refine take_first (v := ?_) 7 rfl (by kernel_rfl) (by kernel_rfl) (by kernel_rfl) (fun _ _ _ h => h) (Or.inl ⟨by rfl, ?_⟩) (by assumption) ?_
      rotate_left
      · (intro w hSw; (try dsimp only at hSw); have s := HS2.out w; go_simp; try with_reducible rfl)
      (try simp only [Act.put, List.setIfInBounds_toArray, List.set_cons_zero, List.set_cons_succ])
      refine step_one 8 rfl (by kernel_rfl) (fun K hK => ?_)
      refine step_copy_objs _ rfl (.tmp 50) (.tmp 53) 32 32 rfl 44 Try.underlying32 19 HSZ.out G2 (i1 * 19) (n1 - i1) (cap2 - i1) ⟨g, i * 19, none⟩ (n - i) (c - i) rfl rfl (setL cur2 (i * 19) o) 44 hF.1 (os.drop i).flatten HN2.out (blk_seg hF.2.1 HDS.out) HF2.out HD1.out ?_
      intro w4 hb4 hg4
      refine hK.out _ _ trivial (fun _ => ?_)
      clear hK K
      (try simp only [Act.put])
      refine wpAnyH_done (by kernel_rfl) ?_ _
      have HFIN := Lib.hid (show w4.ownsRow base 44 19 (.slice (some ⟨G2, 0, none⟩) n1 cap2) n1 (os.take i ++ o :: os.drop i).flatten ∧ Below base w w4 from ⟨own_of_blk hb4 HGG.out.2.2 HC2.out.1 HC2.out.2.1 (by have h := HRES.out.2; rw [HW.out.2.2.2.2.2.1] at h; rw [h]; exact HC2.out.2.2.1) (by have h := HRES.out.1; rw [HW.out.2.2.1, HW.out.2.2.2.2.2.2.2.2.2.2, HW.out.2.2.2.2.2.1] at h; rw [h]; exact HW.out.2.2.2.2.2.2.2.2.2.1), hF.2.2.grown hg4 (Nat.le_trans HBS.out hF.2.2.size) (fun q hq => by injection hq with hq; have := HGG.out; omega)⟩)
      clear hb4 hg4 hF
      go_wp2
      go_ret
      exact ⟨.slice (some ⟨G2, 0, none⟩) n1 cap2, rfl, by have h := HFIN.out.1; simp at h ⊢; exact h, HFIN.out.2⟩
    · have e1 : decide ((n1 : Int) > (c : Int)) = false := by simp; omega
      have e2 : decide ((c : Int) < (n1 : Int)) = false := by simp; omega
      have hsh := bk_hc (some ⟨g, 0, none⟩) n c n1 hroom
      rw [addrK_zero_some] at hsh
      have hs1 := bk_l (some ⟨g, 0, none⟩) n1 c i1 (by omega)
      rw [addrK_some (show i1 < c by omega), Nat.zero_add] at hs1
      have hs2 := bk_l (some ⟨g, 0, none⟩) n1 c i (by omega)
      rw [addrK_some (show i < c by omega), Nat.zero_add] at hs2
      have hov : (callFunc 41 #[.slice (some ⟨gv, 0, none⟩) 1 1, .slice (some ⟨g, i1 * 19, none⟩) (n1 - i1) (c - i1)]).run Try.prog w = .ok (.value (.bool false)) w := by
        rw [run_callFunc_extern Try.func41 (by kernel_rfl) (by kernel_rfl) (by kernel_rfl) (e := Extern.SlicesOverlaps.overlaps #[32, 32] #[4]) (by kernel_rfl),
          run_overlaps_blks HV.out hblk (Ne.symm hgv) (by rw [hlen]; omega) 32 4 44 Try.underlying32 19 (fun w => by simp [sizeOf, typeInfo, HKI.out.1, HKI.out.2.2.1])]
        rfl
      have HX2 := Lib.hid (show Blk w g 44 cur ∧ Blk w gv 44 o ∧ Below base w w from ⟨hblk, HV.out, (Below.refl _ _).mono HBS.out⟩)
      have HS1 := Lib.hid hs1
      have HS2 := Lib.hid hs2
      have HRM := Lib.hid hroom
      have HN2 := Lib.hid (show (os.drop i).flatten.length = Nat.min (n1 - i) (n1 - i1) * 19 from by rw [hdl, show n1 - i1 = n - i by omega, show Nat.min (n1 - i) (n - i) = n - i by simp [Nat.min_def]; omega])
      have HF1 := Lib.hid (show i1 * 19 + (os.drop i).flatten.length ≤ cur.length from by rw [hlen, hdl]; omega)
      have HRES := Lib.hid (ins_shift (cur := cur) (D := (os.drop i).flatten) htl hte.symm HOL.out (by rw [hdl, hlen]; omega))
      have HF0 := Lib.hid (show i * 19 + o.length ≤ (setL cur (i1 * 19) (os.drop i).flatten).length from by
        have h := HF1.out
        simp only [setL, List.length_append, List.length_take, List.length_drop, HOL.out]
        omega)
      have HN1 := Lib.hid (show o.length = Nat.min 1 (n1 - i) * 19 from by rw [HOL.out, show Nat.min 1 (n1 - i) = 1 by simp [Nat.min_def]; omega])
      clear hr hown hg hcr hcs hte htl hdl hlen hds hd1 hfe hnk hblk hbg hnc2 hcm2 hv hne hlo hgv hbase hs2
      go_enter Try.func33, Try.ntmps33
      go_upto_region 15 with fail
      clear hov e0 e1 e2 hsl0 hs1 hsh
      refine wp_region_held_drew (S := fun _ => True) (by kernel_rfl) (trivial) (fun hHeld => ?_)
      have hF : Blk w.drew g 44 cur ∧ Blk w.drew gv 44 o ∧ Below base w w.drew := ⟨HX2.out.1, HX2.out.2.1, HX2.out.2.2.drew⟩
      generalize w.drew = wd1 at hF ⊢
      refine take_first (v := ?_) 0 rfl (by kernel_rfl) (by kernel_rfl) (by kernel_rfl) (fun _ _ _ h => h) (Or.inl ⟨by rfl, ?_⟩) (by assumption) ?_
      rotate_left
      · (intro w hSw; (try dsimp only at hSw); go_simp; try with_reducible rfl)
      (try simp only [Act.put, List.setIfInBounds_toArray, List.set_cons_zero, List.set_cons_succ])
      refine take_first (v := ?_) 1 rfl (by kernel_rfl) (by kernel_rfl) (by kernel_rfl) (fun _ _ _ h => h) (Or.inl ⟨by rfl, ?_⟩) (by assumption) ?_
      rotate_left
      · (intro w hSw; (try dsimp only at hSw); go_simp; try with_reducible rfl)
      (try simp only [Act.put, List.setIfInBounds_toArray, List.set_cons_zero, List.set_cons_succ])
      refine take_first (v := ?_) 2 rfl (by kernel_rfl) (by kernel_rfl) (by kernel_rfl) (fun _ _ _ h => h) (Or.inl ⟨by rfl, ?_⟩) (by assumption) ?_
      rotate_left
      · (intro w hSw; (try dsimp only at hSw); go_simp; try with_reducible rfl)
      (try simp only [Act.put, List.setIfInBounds_toArray, List.set_cons_zero, List.set_cons_succ])
      refine take_first (v := ?_) 3 rfl (by kernel_rfl) (by kernel_rfl) (by kernel_rfl) (fun _ _ _ h => h) (Or.inl ⟨by rfl, ?_⟩) (by assumption) ?_
      rotate_left
      · (intro w hSw; (try dsimp only at hSw); go_simp; try with_reducible rfl)
      (try simp only [Act.put, List.setIfInBounds_toArray, List.set_cons_zero, List.set_cons_succ])
      refine take_first (v := ?_) 4 rfl (by kernel_rfl) (by kernel_rfl) (by kernel_rfl) (fun _ _ _ h => h) (Or.inl ⟨by rfl, ?_⟩) (by assumption) ?_
      rotate_left
      · (intro w hSw; (try dsimp only at hSw); have s := HS1.out w; go_simp; try with_reducible rfl)
      (try simp only [Act.put, List.setIfInBounds_toArray, List.set_cons_zero, List.set_cons_succ])
      refine take_first (v := ?_) 5 rfl (by kernel_rfl) (by kernel_rfl) (by kernel_rfl) (fun _ _ _ h => h) (Or.inl ⟨by rfl, ?_⟩) (by assumption) ?_
      rotate_left
      · (intro w hSw; (try dsimp only at hSw); go_simp; try with_reducible rfl)
      (try simp only [Act.put, List.setIfInBounds_toArray, List.set_cons_zero, List.set_cons_succ])
      refine take_first (v := ?_) 6 rfl (by kernel_rfl) (by kernel_rfl) (by kernel_rfl) (fun _ _ _ h => h) (Or.inl ⟨by rfl, ?_⟩) (by assumption) ?_
      rotate_left
      · (intro w hSw; (try dsimp only at hSw); go_simp; try with_reducible rfl)
      (try simp only [Act.put, List.setIfInBounds_toArray, List.set_cons_zero, List.set_cons_succ])
      refine take_first (v := ?_) 7 rfl (by kernel_rfl) (by kernel_rfl) (by kernel_rfl) (fun _ _ _ h => h) (Or.inl ⟨by rfl, ?_⟩) (by assumption) ?_
      rotate_left
      · (intro w hSw; (try dsimp only at hSw); have s := HS2.out w; go_simp; try with_reducible rfl)
      (try simp only [Act.put, List.setIfInBounds_toArray, List.set_cons_zero, List.set_cons_succ])
      refine step_one 8 rfl (by kernel_rfl) (fun K hK => ?_)
      refine step_copy_objs _ rfl (.tmp 73) (.tmp 76) 32 32 rfl 44 Try.underlying32 19 HSZ.out g (i1 * 19) (n1 - i1) (c - i1) ⟨g, i * 19, none⟩ (n1 - i) (c - i) rfl rfl cur 44 hF.1 (os.drop i).flatten HN2.out (blk_seg hF.1 HDS.out) HF1.out HD1.out ?_
      intro w4 hb4 hg4
      refine hK.out _ _ trivial (fun _ => ?_)
      clear hK K
      (try simp only [Act.put])
      refine wpAnyH_done (by kernel_rfl) ?_ _
      have HX4 := Lib.hid (show Blk w4 g 44 (setL cur (i1 * 19) (os.drop i).flatten) ∧ Blk w4 gv 44 o ∧ Below base w w4 from ⟨hb4, (hg4.block gv hF.2.1.lt (fun e => by injection e with e; exact HGV.out e.symm)).trans hF.2.1, hF.2.2.grown hg4 (Nat.le_trans HBS.out hF.2.2.size) (fun q hq => by injection hq with hq; have := HW.out.2.2.2.2.2.2.1; omega)⟩)
      clear hb4 hg4 hF
      have hs1 := HS2.out
      go_wp2_with (refine wpList_copy_objs _ rfl (.tmp 80) (.tmp 81) 32 32 rfl 44 Try.underlying32 19 HSZ.out g (i * 19) (n1 - i) (c - i) ⟨gv, 0, none⟩ 1 1 rfl rfl (setL cur (i1 * 19) (os.drop i).flatten) 44 HX4.out.1 o HN1.out (blk_seg HX4.out.2.1 (fun j v hj => by rw [Nat.zero_add]; exact hj)) HF0.out H1O.out ?_; intro w5 hb5 hg5)
      have HFIN := Lib.hid (show w5.ownsRow base 44 19 (.slice (some ⟨g, 0, none⟩) n1 c) n1 (os.take i ++ o :: os.drop i).flatten ∧ Below base w w5 from ⟨own_of_blk hb5 HW.out.2.2.2.2.2.2.1 HRM.out HW.out.2.2.2.2.2.2.2.1 (by have h := HRES.out.2; rw [HW.out.2.2.2.2.2.1] at h; rw [h]; exact HW.out.2.2.2.1) (by have h := HRES.out.1; rw [HW.out.2.2.1, HW.out.2.2.2.2.2.2.2.2.2.2, HW.out.2.2.2.2.2.1] at h; rw [h]; exact HW.out.2.2.2.2.2.2.2.2.2.1), HX4.out.2.2.grown hg5 (Nat.le_trans HBS.out HX4.out.2.2.size) (fun q hq => by injection hq with hq; have := HW.out.2.2.2.2.2.2.1; omega)⟩)
      clear hb5 hg5
      go_ret
      exact ⟨.slice (some ⟨g, 0, none⟩) n1 c, rfl, by have h := HFIN.out.1; simp at h ⊢; exact h, HFIN.out.2⟩
  · obtain rfl : i = n := by omega
    have HO := Lib.hid hown
    have HFE := Lib.hid (show os.flatten ++ o = (os.take i ++ o :: os.drop i).flatten from by rw [List.take_of_length_le (by omega), List.drop_of_length_le (by omega)]; simp)
    have e0 : ((i : Int) == (i : Int)) = true := by simp
    clear hown hv hne hlo
    go_enter Try.func33, Try.ntmps33
    go_wp2_with (refine wpList_append_own_at _ rfl (.tmp 23) (.tmp 24) 32 rfl base 44 ik _ 19 40 Try.underlying32 HKI.out.1 HKI.out.2.1 HKI.out.2.2.1 HKI.out.2.2.2 (by rfl) (by omega) (.slice A i c) i _ rfl HO.out ⟨gv, 0, none⟩ 1 1 o rfl (by rw [HOL.out]) (fun q v hv => by rw [Go.WideShapes.add_plain, Nat.zero_add, HV.out.cell]; exact hv) H1O.out (by unfold maxLen; omega) (by omega) HBS.out ?_; intro v6 w6 ho6 hg6 _ _)
    go_ret
    exact ⟨v6, rfl, by have h := ho6; rw [HFE.out] at h; simp at h ⊢; exact h, ((Below.refl _ _).mono HBS.out).grown hg6 HBS.out (own_from HO.out)⟩
end Go.Proofs.Ytpahfckihcbajaa
namespace Go.Proofs.Ytpahfckihcbajaa
open Go.RowKit

section
variable {P : Program} {t e : TypeId} {k : Nat}
theorem objs_size (ht : P.underlying t = some (.slice e)) (hk : (P.info? e).map (·.size) = some k) (w : World) : P.underlying t = some (.slice (P.elem t)) ∧ (sizeOf (P.elem t)).run P w = .ok k w := by
  have hel : P.elem t = e := by
    unfold Program.elem
    rw [ht]
  refine ⟨by rw [hel]; exact ht, ?_⟩
  rw [hel]
  cases hi : P.info? e with
  | none => rw [hi] at hk; cases hk
  | some i =>
    rw [hi] at hk
    simp only [Option.map_some, Option.some.injEq] at hk
    simp [sizeOf, typeInfo, hi, hk]
theorem objs_h (ht : P.underlying t = some (.slice e)) (hk : (P.info? e).map (·.size) = some k) {n : Nat} (A : Option Addr) (c j : Nat) (h2 : j ≤ n) (h3 : n ≤ c) (w : World) : (Instr.sliceAt t (.slice A n c) none (some (.int .i64 (j : Int))) none).run P w = .ok (.slice (addrK A 0 c k) j c) w := by
  obtain ⟨hu, hs⟩ := objs_size ht hk w
  rw [run_sliceAt_slice (P := P) (w := w) t _ _ _ _ hu, run_slice_h (P := P) (w := w) t A n c hu .i64 j (by omega) (by omega), hs]
  simp only [Result.andThen, sliced, Int.toNat_natCast, Nat.sub_zero]
  rfl
theorem objs_l (ht : P.underlying t = some (.slice e)) (hk : (P.info? e).map (·.size) = some k) (A : Option Addr) (n c i : Nat) (h2 : i ≤ n) (w : World) : (Instr.sliceAt t (.slice A n c) (some (.int .i64 (i : Int))) none none).run P w = .ok (.slice (addrK A i c k) (n - i) (c - i)) w := by
  obtain ⟨hu, hs⟩ := objs_size ht hk w
  rw [run_sliceAt_slice (P := P) (w := w) t _ _ _ _ hu, run_slice_l (P := P) (w := w) t A n c hu .i64 i (by omega) (by omega), hs]
  simp only [Result.andThen, sliced, Int.toNat_natCast]
  rfl
end
end Go.Proofs.Ytpahfckihcbajaa
namespace Go.Proofs.Ytpahfckihcbajaa
open Go.RowKit

section
variable {P : Program} {t e : TypeId} {k : Nat}
theorem objs_lh (ht : P.underlying t = some (.slice e)) (hk : (P.info? e).map (·.size) = some k) (A : Option Addr) (n c i j : Nat) (h1 : i ≤ j) (h2 : j ≤ c) (w : World) : (Instr.sliceAt t (.slice A n c) (some (.int .i64 (i : Int))) (some (.int .i64 (j : Int))) none).run P w = .ok (.slice (addrK A i c k) (j - i) (c - i)) w := by
  obtain ⟨hu, hs⟩ := objs_size ht hk w
  rw [run_sliceAt_slice (P := P) (w := w) t _ _ _ _ hu, run_slice_lh (P := P) (w := w) t A n c hu .i64 .i64 i j (by omega) (by omega) (by omega), hs]
  simp only [Result.andThen, sliced, Int.toNat_natCast]
  rfl
theorem objs_lhm (ht : P.underlying t = some (.slice e)) (hk : (P.info? e).map (·.size) = some k) (A : Option Addr) (n c i j m : Nat) (h1 : i ≤ j) (h2 : j ≤ m) (h3 : m ≤ c) (w : World) : (Instr.sliceAt t (.slice A n c) (some (.int .i64 (i : Int))) (some (.int .i64 (j : Int))) (some (.int .i64 (m : Int)))).run P w = .ok (.slice (addrK A i m k) (j - i) (m - i)) w := by
  obtain ⟨hu, hs⟩ := objs_size ht hk w
  rw [run_sliceAt_slice (P := P) (w := w) t _ _ _ _ hu, run_slice_lhm (P := P) (w := w) t A n c hu .i64 .i64 .i64 i j m (by omega) (by omega) (by omega) (by omega), hs]
  simp only [Result.andThen, sliced, Int.toNat_natCast]
  rfl
end
/-- the builtin append of objects to a slice whose block has room for them -/
theorem step_append_room {P : Program} (w : World) {ops : Array Oper} {o : Oper} {a : Act} {K : Act → World → Prop} {Q : Exit → Act → World → Prop} {E : Prop} (hgd : o.guard = none) (s x : Operand) (t : TypeId)
    (ho : o.op = .call { callee := .builtin .append, args := #[s, x], argTypes := #[t, t] })
    (e : TypeId) (i : TypeInfo) (ht : P.underlying t = some (.slice e)) (hi : P.info? e = some i) (size : Nat) (hsize : i.size = size)
    (g n cap : Nat) (hs : a.eval s = .slice (some ⟨g, 0, none⟩) n cap) (cur : List Value) (hg : Blk w g e cur) (ad : Addr) (m c : Nat) (hx : a.eval x = .slice (some ad) m c) (news : List Value) (hl : news.length = m * size) (hnews : ∀ j u, news[j]? = some u → w.cell? (ad.add j) = some u) (h1 : ∀ u ∈ news, u.oneCell' = true)
    (hroom : n + m ≤ cap) (hfit : n * size + news.length ≤ cur.length)
    (h : ∀ w', Blk w' g e (setL cur (n * size) news) → w.grownBy w' (some g) → K (a.put o.dst (.slice (some ⟨g, 0, none⟩) (n + m) cap)) w') : if Region.wanted o (yielded ops a.tmps) = true then Oper.wp P o a w K Q else E := by
  have hw : Region.wanted o (yielded ops a.tmps) = true := by simp [Region.wanted, hgd]
  rw [if_pos hw]
  subst hsize
  have hr := run_append_room (P := P) w t o.type e i ht hi g n cap cur.toArray hg ad m c news hl hnews h1 hroom (by simpa using hfit)
  unfold Oper.wp execOp
  simp only [ho, resolve, invoke, builtin, Sem.run_bind, Sem.run_pure, Result.andThen_ok, List.map_toArray, List.map_cons, List.map_nil, hs, hx, hr]
  exact h _ (setRow_heap w g cur.toArray _ e _ hg) ⟨rfl, rfl, rfl, by simp, fun k _ hk => setRow_other w g k _ (fun e => hk (by simp [e]))⟩
set_option maxRecDepth 100000 in
set_option maxHeartbeats 16000000 in
theorem bkDelete_any (base : Nat) (A : Option Addr) (n c i : Nat) (os : List (List Value)) (hn : n ≤ 1000) (hi : i < n) (hl : os.length = n) (hk : ∀ x ∈ os, x.length = 19) (h1 : ∀ x ∈ os, ∀ v ∈ x, v.oneCell' = true) (w : World) (hbase : base ≤ w.heap.size) (hown : w.ownsRow base 44 19 (.slice A n c) n os.flatten) :
    Calls Try.prog 39 #[.slice A n c, .int .i64 (i : Int), .int .i64 ((i + 1 : Nat) : Int)] w fun e w' => ∃ A' c', e = .returned (.slice A' (n - 1) c') ∧ w'.ownsRow base 44 19 (.slice A' (n - 1) c') (n - 1) (os.take i ++ os.drop (i + 1)).flatten ∧ Below base w w' := by
  obtain ⟨ik, hik, hiz, his, hib⟩ := bucketInfo
  have HKI := Lib.hid (And.intro hik (And.intro hiz (And.intro his hib)))
  have hsz : (Try.prog.info? 44).map (·.size) = some 19 := by rw [hik, Option.map_some, his]
  clear hik hiz his hib
  have HBS := Lib.hid hbase
  rcases hown.2 with ⟨_, h0⟩ | ⟨g, cap, cur0, hvv, hbg, hg, hnc, hcm, hcs, hcr⟩
  · omega
  injection hvv with hA _ hcc
  subst hA hcc
  obtain ⟨i1, hi1⟩ : ∃ z, i + 1 = z := ⟨_, rfl⟩
  rw [hi1]
  obtain ⟨cur, hcur⟩ : ∃ z, cur0.toList = z := ⟨_, rfl⟩
  have hblk : Blk w g 44 cur := by
    unfold Blk
    rw [← hcur, Array.toArray_toList]
    exact hg
  rw [hcur] at hcr
  have hlen : cur.length = c * 19 := by rw [← hcur, Array.length_toList, hcs]
  have hfl := flat_length hk
  rw [hl] at hfl
  have hdl : (os.drop i1).flatten.length = (n - i1) * 19 := by rw [flat_length (fun o ho => hk o (List.mem_of_mem_drop ho)), List.length_drop, hl]
  have htl : (os.take i).flatten.length = i * 19 := by rw [flat_length (fun o ho => hk o (List.mem_of_mem_take ho)), List.length_take, hl, Nat.min_eq_left (by omega)]
  have hti : cur.take (i * 19) = (os.take i).flatten := by
    have h := congrArg (List.take (i * 19)) hcr
    rw [List.take_take, Nat.min_eq_left (by omega)] at h
    rw [h, ← flat_take i hk]
  have hds : ∀ (j : Nat) v, (os.drop i1).flatten[j]? = some v → cur[i1 * 19 + j]? = some v := by
    intro j v hj
    have hjl := (List.getElem?_eq_some_iff.1 hj).1
    rw [hdl] at hjl
    have e : (cur.take (n * 19))[i1 * 19 + j]? = some v := by
      rw [hcr, ← List.getElem?_drop, ← flat_drop i1 hk]
      exact hj
    rw [List.getElem?_take] at e
    split at e
    · exact e
    · cases e
  have HBL := Lib.hid hblk
  have HBG := Lib.hid hbg
  have HCM := Lib.hid (And.intro hnc (And.intro hcm hlen))
  have HTI := Lib.hid (And.intro hti htl)
  have HDL := Lib.hid hdl
  have HNL := Lib.hid hdl
  have HD1 := Lib.hid (fun u hu => one_flat (fun o ho => h1 o (List.mem_of_mem_drop ho)) u hu : ∀ u ∈ (os.drop i1).flatten, u.oneCell' = true)
  have HRM := Lib.hid (show i + (n - i1) ≤ c by omega)
  have HFI := Lib.hid (show i * 19 + (os.drop i1).flatten.length ≤ cur.length by rw [hdl, hlen]; omega)
  obtain ⟨ad, had, hds2⟩ : ∃ ad : Addr, addrK (some ⟨g, 0, none⟩) i1 c 19 = some ad ∧ ∃ off, ad = ⟨g, off, none⟩ ∧ ∀ (j : Nat) v, (os.drop i1).flatten[j]? = some v → cur[off + j]? = some v := by
    rcases Nat.lt_or_ge i1 c with h | h
    · exact ⟨⟨g, i1 * 19, none⟩, by rw [addrK_some h, Nat.zero_add], i1 * 19, rfl, hds⟩
    · refine ⟨⟨g, 0, none⟩, by unfold addrK; rw [if_pos (by omega)], 0, rfl, fun j v hj => ?_⟩
      have hjl := (List.getElem?_eq_some_iff.1 hj).1
      rw [hdl] at hjl
      omega
  obtain ⟨off, rfl, hds3⟩ := hds2
  have HDS := Lib.hid hds3
  obtain ⟨ad, hadd⟩ : ∃ z : Addr, z = ⟨g, off, none⟩ := ⟨_, rfl⟩
  have hs0 := objs_lhm Try.underlying32 hsz (some ⟨g, 0, none⟩) n c i i1 n (by omega) (by omega) hnc
  rw [addrK_some (show i < n by omega), Nat.zero_add] at hs0
  obtain ⟨s0, hs0v⟩ : ∃ z, Value.slice (some ⟨g, i * 19, none⟩) (i1 - i) (n - i) = z := ⟨_, rfl⟩
  rw [hs0v] at hs0
  have hs1 := objs_h Try.underlying32 hsz (n := n) (some ⟨g, 0, none⟩) c i (by omega) hnc
  rw [addrK_zero_some] at hs1
  have hs2 := objs_l Try.underlying32 hsz (some ⟨g, 0, none⟩) n c i1 (by omega)
  rw [had, ← hadd] at hs2
  obtain ⟨n1, hn1⟩ : ∃ z, n - 1 = z := ⟨_, rfl⟩
  have en1 : i + (n - i1) = n1 := by omega
  have hs3 := objs_lh Try.underlying32 hsz (some ⟨g, 0, none⟩) n1 c n1 n (by omega) (by omega)
  rw [addrK_some (show n1 < c by omega), Nat.zero_add, show n - n1 = 1 by omega] at hs3
  rw [hn1]
  have HS1 := Lib.hid hs1
  have HS2 := Lib.hid hs2
  have HS3 := Lib.hid hs3
  have HAD := Lib.hid hadd
  have HN1 := Lib.hid (And.intro hn1 en1)
  have HI1 := Lib.hid hi1
  have e0 : ((i : Int) == (i1 : Int)) = false := by rw [beq_eq_false_iff_ne]; omega
  clear hown hbg hg hnc hcm hcs hcr hcur hlen hfl hdl htl hti hds hblk had hds3 hs0v hs1 hs2 hs3 hadd hn1 en1 hi1 hsz h1 hk hbase
  go_enter Try.func39, Try.ntmps39
  go_upto_region 5 with fail
  refine wp_region_held_drew (S := fun _ => True) (by kernel_rfl) (trivial) (fun hHeld => ?_)
  have hF : Blk w.drew g 44 cur ∧ Below base w w.drew := ⟨HBL.out, ((Below.refl _ _).mono HBS.out).drew⟩
  generalize w.drew = wd1 at hF ⊢
  refine take_first (v := ?_) 0 rfl (by kernel_rfl) (by kernel_rfl) (by kernel_rfl) (fun _ _ _ h => h) (Or.inl ⟨by rfl, ?_⟩) (by assumption) ?_
  rotate_left
  · (intro w hSw; (try dsimp only at hSw); go_simp; try with_reducible rfl)
  (try simp only [Act.put, List.setIfInBounds_toArray, List.set_cons_zero, List.set_cons_succ])
  refine take_first (v := ?_) 1 rfl (by kernel_rfl) (by kernel_rfl) (by kernel_rfl) (fun _ _ _ h => h) (Or.inl ⟨by rfl, ?_⟩) (by assumption) ?_
  rotate_left
  · (intro w hSw; (try dsimp only at hSw); go_simp; try with_reducible rfl)
  (try simp only [Act.put, List.setIfInBounds_toArray, List.set_cons_zero, List.set_cons_succ])
  refine take_first (v := ?_) 2 rfl (by kernel_rfl) (by kernel_rfl) (by kernel_rfl) (fun _ _ _ h => h) (Or.inl ⟨by rfl, ?_⟩) (by assumption) ?_
  rotate_left
  · (intro w hSw; (try dsimp only at hSw); have s := HS1.out w; go_simp; try with_reducible rfl)
  (try simp only [Act.put, List.setIfInBounds_toArray, List.set_cons_zero, List.set_cons_succ])
  refine take_first (v := ?_) 3 rfl (by kernel_rfl) (by kernel_rfl) (by kernel_rfl) (fun _ _ _ h => h) (Or.inl ⟨by rfl, ?_⟩) (by assumption) ?_
  rotate_left
  · (intro w hSw; (try dsimp only at hSw); go_simp; try with_reducible rfl)
  (try simp only [Act.put, List.setIfInBounds_toArray, List.set_cons_zero, List.set_cons_succ])
  refine take_first (v := ?_) 4 rfl (by kernel_rfl) (by kernel_rfl) (by kernel_rfl) (fun _ _ _ h => h) (Or.inl ⟨by rfl, ?_⟩) (by assumption) ?_
  rotate_left
  · (intro w hSw; (try dsimp only at hSw); go_simp; try with_reducible rfl)
  (try simp only [Act.put, List.setIfInBounds_toArray, List.set_cons_zero, List.set_cons_succ])
  refine take_first (v := ?_) 5 rfl (by kernel_rfl) (by kernel_rfl) (by kernel_rfl) (fun _ _ _ h => h) (Or.inl ⟨by rfl, ?_⟩) (by assumption) ?_
  rotate_left
  · (intro w hSw; (try dsimp only at hSw); have s := HS2.out w; go_simp; try with_reducible rfl)
  (try simp only [Act.put, List.setIfInBounds_toArray, List.set_cons_zero, List.set_cons_succ])
  refine step_one 6 rfl (by kernel_rfl) (fun K hK => ?_)
  refine step_append_room _ rfl (.tmp 22) (.tmp 25) 32 rfl 44 ik Try.underlying32 HKI.out.1 19 HKI.out.2.2.1 g i c rfl cur hF.1 ad (n - i1) (c - i1) rfl (os.drop i1).flatten HNL.out (by rw [HAD.out]; exact blk_seg hF.1 HDS.out) HD1.out HRM.out HFI.out ?_
  intro w4 hb4 hg4
  refine hK.out _ _ trivial (fun _ => ?_)
  clear hK K
  (try simp only [Act.put, List.setIfInBounds_toArray, List.set_cons_zero, List.set_cons_succ])
  refine take_first (v := ?_) 7 rfl (by kernel_rfl) (by kernel_rfl) (by kernel_rfl) (fun _ _ _ h => h) (Or.inl ⟨by rfl, ?_⟩) (by assumption) ?_
  rotate_left
  · (intro w hSw; (try dsimp only at hSw); go_simp; try with_reducible rfl)
  (try simp only [Act.put, List.setIfInBounds_toArray, List.set_cons_zero])
  refine wpAnyH_done (by kernel_rfl) ?_ _
  rw [HN1.out.2]
  have HX4 := Lib.hid (And.intro hb4 (hF.2.grown hg4 (Nat.le_trans HBS.out hF.2.size) (fun q hq => by injection hq with hq; have := HBG.out; omega)))
  clear hb4 hg4 hF
  have HL4 := Lib.hid (show (setL cur (i * 19) (os.drop i1).flatten).length = c * 19 from by
    have h1 := HFI.out
    have h2 := HCM.out
    simp only [setL, List.length_append, List.length_take, List.length_drop]
    omega)
  have HT4 := Lib.hid (show (setL cur (i * 19) (os.drop i1).flatten).take (n1 * 19) = (os.take i ++ os.drop i1).flatten from by
    rw [setL, HTI.out.1, List.flatten_append]
    refine List.take_left' ?_
    rw [List.length_append, HTI.out.2, HDL.out]
    have := HN1.out
    have := HI1.out
    omega)
  obtain ⟨cur4, hc4⟩ : ∃ z, setL cur (i * 19) (os.drop i1).flatten = z := ⟨_, rfl⟩
  rw [hc4] at HX4 HL4 HT4
  have hs3 := HS3.out
  have HFIT := Lib.hid (show n1 * 19 + 1 * (Value.agg bucketZ.toArray).cells.size ≤ cur4.length from by
    rw [HL4.out, show (Value.agg bucketZ.toArray).cells.size = 19 from rfl]
    have := HN1.out
    have := HCM.out
    omega)
  obtain ⟨cm, hcm⟩ : ∃ x, c - n1 = x := ⟨_, rfl⟩
  rw [hcm] at hs3
  clear hcm hc4
  go_wp2_with (refine wpList_clear_objs _ rfl (.tmp 31) 32 44 rfl Try.underlying32 (.agg bucketZ.toArray) bk_zero (by decide) g (n1 * 19) 1 cm rfl 44 cur4 HX4.out.1 HFIT.out (by omega) ?_; intro w7 hb7 hg7)
  go_ret
  refine ⟨some ⟨g, 0, none⟩, c, rfl, own_of_blk hb7 HBG.out (by have := HN1.out; have := HCM.out; omega) HCM.out.2.1 ?_ ?_, HX4.out.2.grown hg7 (Nat.le_trans HBS.out HX4.out.2.size) (fun q hq => by injection hq with hq; have := HBG.out; omega)⟩
  · have h1 := HFIT.out
    have h2 := HL4.out
    have h3 : (Builtin.zeroCells (Value.agg bucketZ.toArray).cells 1).toList.length = 1 * (Value.agg bucketZ.toArray).cells.size := by simp [Builtin.zeroCells]
    simp only [setL, List.length_append, List.length_take, List.length_drop, h3]
    omega
  · rw [setL, List.append_assoc, List.take_append_of_le_length (by rw [List.length_take]; have := HFIT.out; omega), List.take_take, Nat.min_self]
    rw [← List.flatten_append]
    exact HT4.out
end Go.Proofs.Ytpahfckihcbajaa
