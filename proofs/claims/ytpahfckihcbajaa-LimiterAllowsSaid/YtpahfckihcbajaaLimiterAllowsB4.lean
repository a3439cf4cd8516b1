/-
  What is kept behind Allow: tokens, lengths; rows beside a block that is written. The choices that the statements are made of: New. The remainder that is not negative. The contract of burrowcase.Mod64 for a modulus of at least 1. The walk of LimiterAllows. The contract of first of the program at buckets. The mathematics of time stamps over lists of bytes; no function of the program is named here. The contract of bytes.Compare for two rows of bytes. The sign of a comparison of rows of bytes. The contract of inner's Less. The predicates that the program's Allow hands on. The contract of slices.Insert of one element at a slice of structs of the call's own. No statement is proved here.
-/
import Derived.Outline
import Derived.RegionTactic
import Derived.Deep.DeepCutAuto
import Derived.Lib.BytesEntry
import Derived.Lib.Bytealg
import Derived.Laws.Externs
import Derived.DeepKeys2
import Derived.Test.YtpahfckihcbajaaLimiterAllowsB3
namespace Go.Proofs.Ytpahfckihcbajaa
open Go.RowKit
theorem filled_tok {b : BucketM} (now : Int) (h : 0 ≤ b.tok ∧ b.tok ≤ 5000) : 0 ≤ (filledM b now).tok ∧ (filledM b now).tok ≤ 5000 := by
  unfold filledM
  by_cases hl : b.tm < now
  · simp only [if_pos hl]
    omega
  · simp only [if_neg hl]
    omega
theorem room_sub (l : List BucketM) : ∀ s ∈ roomM l, s ∈ l := fun s hs => by
  unfold roomM at hs
  split at hs
  · exact List.mem_of_mem_eraseIdx hs
  · exact hs
theorem given_tok {l : List BucketM} (h : tokOk l) (a : AddrM) (now : Int) : tokOk (givenM l a now).1 := by
  unfold givenM
  split
  · rename_i i hi
    obtain ⟨hil, _, _⟩ := List.findIdx?_eq_some_iff_getElem.1 hi
    show tokOk (l.modify i fun b => filledM b now)
    rw [modify_set (List.getElem?_eq_getElem hil)]
    intro s hs
    rcases List.mem_or_eq_of_mem_set hs with hs | rfl
    · exact h s hs
    · exact filled_tok now (h _ (List.getElem_mem hil))
  · intro s hs
    rcases List.mem_append.1 hs with hs | hs
    · exact h s (room_sub l s (List.mem_of_mem_take hs))
    · rcases List.mem_cons.1 hs with rfl | hs
      · exact ⟨(show (0 : Int) ≤ 5000 by omega), (show (5000 : Int) ≤ 5000 by omega)⟩
      · exact h s (room_sub l s (List.mem_of_mem_drop hs))
theorem take_tok {G : List BucketM} (h : tokOk G) (p : Nat) : tokOk (takeB (G, p)).1 := by
  unfold takeB
  split
  · exact h
  · rename_i b hb
    split
    · exact h
    · rename_i hl
      intro s hs
      rcases List.mem_or_eq_of_mem_set hs with hs | rfl
      · exact h s hs
      · have h2 := h b (List.mem_of_getElem? hb)
        exact ⟨(show 0 ≤ b.tok - 1000 by omega), (show b.tok - 1000 ≤ 5000 by omega)⟩
theorem allow_tok {l : List BucketM} (h : tokOk l) (a : AddrM) (now : Int) : tokOk (allowM l a now).1 := take_tok (given_tok h a now) _
theorem take_len (G : List BucketM) (p : Nat) : (takeB (G, p)).1.length = G.length := by
  unfold takeB
  split
  · rfl
  · split
    · rfl
    · exact List.length_set
theorem oldest_le (l : List BucketM) : ∀ j, (List.range j).foldl (oldestS l) 0 = 0 ∨ (List.range j).foldl (oldestS l) 0 < j
  | 0 => .inl rfl
  | j + 1 => by
    have ih := oldest_le l j
    rw [List.range_succ, List.foldl_append]
    show oldestS l _ j = 0 ∨ oldestS l _ j < j + 1
    unfold oldestS
    split
    · split
      · exact .inr (Nat.lt_succ_self _)
      · exact ih.elim .inl (fun h => .inr (Nat.lt_succ_of_lt h))
    · exact ih.elim .inl (fun h => .inr (Nat.lt_succ_of_lt h))
theorem allow_len {l : List BucketM} (h : l.length ≤ 16) (a : AddrM) (now : Int) : (allowM l a now).1.length ≤ 16 := by
  show (takeB ((givenM l a now).1, (givenM l a now).2)).1.length ≤ 16
  rw [take_len]
  unfold givenM
  split
  · show (l.modify _ _).length ≤ 16
    rw [List.length_modify]
    exact h
  · have hr : (roomM l).length ≤ 15 := by
      unfold roomM
      split
      · have ho : oldestM l < l.length := by
          have := oldest_le l l.length
          unfold oldestM
          omega
        rw [List.length_eraseIdx_of_lt ho]
        omega
      · omega
    show ((roomM l).take _ ++ newM a now :: (roomM l).drop _).length ≤ 16
    rw [List.length_append, List.length_cons, List.length_take, List.length_drop]
    omega
/-- a row of buckets lies in no block of fewer cells than a bucket has -/
theorem BkRd.off {W : World} {B n : Nat} {A : Option Addr} {l : List BucketM} (h : BkRd W B A n l) {g : Nat} {t : TypeId} {cs : List Value} (hb : Blk W g t cs) (hc : cs.length ≤ 18) : 0 < n → ∀ ad, A = some ad → ad.block ≠ g := fun hn ad ha => by
  obtain ⟨b, off, rfl⟩ := h.addr hn
  injection ha with ha
  subst ha
  intro he
  have he : b = g := he
  subst he
  have hln := h.len
  have hat := (h.at 0 l[0] (List.getElem?_eq_getElem (by omega))).2
  have h2 := bk_tm_at hat (h.2 _ (List.getElem_mem _))
  rw [hb.cell] at h2
  have := (List.getElem?_eq_some_iff.1 h2).1
  omega
theorem BkRd.keepN {W W' : World} {B n g : Nat} {A : Option Addr} {l : List BucketM} (h : BkRd W B A n l) (hB : B ≤ W.heap.size) (hne : 0 < n → ∀ ad, A = some ad → ad.block ≠ g) (hg : W.grownBy W' (some g)) : BkRd W' B A n l :=
  ⟨⟨h.1.1, h.1.2.1, fun hn => by
    obtain ⟨b, off, e, hlt, hc⟩ := h.1.2.2 hn
    have hb := hne hn _ e
    exact ⟨b, off, e, hlt, fun j v hv => (World.cell?_of_block (a := ⟨b, off + j, none⟩) (hg.block b (Nat.lt_of_lt_of_le hlt hB) (fun he => by injection he with he; exact hb he))).trans (hc j v hv)⟩⟩, h.2⟩
/-- a bucket whose tokens are taken modulo 5001 -/
def mdB (b : BucketM) : BucketM := { b with tok := b.tok % 5001 }
def modTo (l : List BucketM) (j : Nat) : List BucketM := (l.take j).map mdB ++ l.drop j
theorem modTo_len (l : List BucketM) (j : Nat) : (modTo l j).length = l.length := by
  rw [modTo, List.length_append, List.length_map, List.length_take, List.length_drop]
  omega
theorem modTo_at {l : List BucketM} {j : Nat} {b : BucketM} (h : l[j]? = some b) : (modTo l j)[j]? = some b := by
  have hj := (List.getElem?_eq_some_iff.1 h).1
  rw [modTo, List.getElem?_append_right (by simp; omega)]
  simp only [List.length_map, List.length_take, List.getElem?_drop]
  rw [show min j l.length = j by omega, show j + (j - j) = j by omega]
  exact h
theorem modTo_next {l : List BucketM} {j : Nat} {b : BucketM} (h : l[j]? = some b) : modTo l (j + 1) = (modTo l j).set j { b with tok := b.tok % 5001 } := by
  have hj := (List.getElem?_eq_some_iff.1 h).1
  have hd : l.drop j = b :: l.drop (j + 1) := by
    rw [List.drop_eq_getElem_cons hj]
    congr 1
    exact (List.getElem?_eq_some_iff.1 h).2
  rw [modTo, modTo, take_snoc h, List.map_append, hd, List.set_append_right _ _ (by simp; omega), show j - ((l.take j).map mdB).length = 0 by simp; omega, List.set_cons_zero, List.append_assoc]
  rfl
theorem md_tok (x : Int) : 0 ≤ x % 5001 ∧ x % 5001 ≤ 5000 := by omega
theorem modTo_ok {l : List BucketM} (h : ∀ s ∈ l, s.ok) (j : Nat) : ∀ s ∈ modTo l j, s.ok := fun s hs => by
  rcases List.mem_append.1 hs with hs | hs
  · obtain ⟨b, hb, rfl⟩ := List.mem_map.1 hs
    have h2 := h b (List.mem_of_mem_take hb)
    have h3 := md_tok b.tok
    exact ⟨h2.1, ⟨(show -9223372036854775808 ≤ b.tok % 5001 by omega), (show b.tok % 5001 ≤ 9223372036854775807 by omega)⟩, h2.2.2⟩
  · exact h s (List.mem_of_mem_drop hs)
theorem modTo_tok {l : List BucketM} : tokOk (modTo l l.length) := by
  rw [modTo, List.take_length, List.drop_length, List.append_nil]
  intro s hs
  obtain ⟨b, _, rfl⟩ := List.mem_map.1 hs
  exact md_tok b.tok
/-- an address that is made of one byte -/
def addrV (y : UInt8) : AddrM := ⟨false, y :: List.replicate 15 0⟩
theorem byteV_wrap (v : Nat) : IntKind.u8.wrap (v : Int) = ((UInt8.ofNat v).toNat : Int) := by
  rw [IntKind.wrap_u8, UInt8.toNat_ofNat']
  omega
theorem addrV_ok (y : UInt8) : (addrV y).ok := by simp [AddrM.ok, addrV]
theorem addrV_arr (y : UInt8) : Try.prog.built 33 [(0, u8v y)] = some (((addrV y).ip.map u8v).toArray) := by kernel_rfl
theorem addrV_built (y : UInt8) : Try.prog.built 35 [(1, .agg ((addrV y).ip.map u8v).toArray)] = some (addrV y).cells.toArray := by kernel_rfl
end Go.Proofs.Ytpahfckihcbajaa
namespace Go.Proofs.Ytpahfckihcbajaa
open Go.RowKit

set_option maxRecDepth 100000 in
theorem caseNew_any (A : Option Addr) (n c m k : Nat) (hm : m ≤ 1000000) (hnc : n ≤ c) (hcm : c ≤ maxLen) (hk : min n m = k) (w : World) :
    Calls Try.prog 14 #[.slice A n c, .int .i64 (m : Int)] w fun e w' => e = .returned (.pointer (some ⟨w.heap.size, 0, none⟩)) ∧ Mem w [blkE w.heap.size 53 (codesC A k c 0)] w' := by
  have hc63 : (c : Int) ≤ 9223372036854775807 := by unfold maxLen at hcm; omega
  have HM := Lib.hid ((Mem.nil w).alloc rfl 53 #[.slice A k c, .int .i64 0] (codesC A k c 0) rfl)
  by_cases h : n ≤ m
  · obtain rfl : k = n := by omega
    have h1 : ¬ (m : Int) < (k : Int) := by omega
    have h2 : (k : Int) ≤ (m : Int) := by omega
    have h3 : (k : Int) ≤ (c : Int) := by omega
    have h4 : (if (m : Int) < (k : Int) then (m : Int) else (k : Int)) = (k : Int) := if_neg h1
    have h5 : min (k : Int) (m : Int) = (k : Int) := by omega
    clear hk
    go_enter Try.func14, Try.ntmps14
    go_wp2
    go_ret
    exact ⟨rfl, HM.out⟩
  · obtain rfl : k = m := by omega
    have h1 : (k : Int) < (n : Int) := by omega
    have h2 : ¬ (n : Int) ≤ (k : Int) := by omega
    have h3 : (k : Int) ≤ (c : Int) := by omega
    have h4 : (if (k : Int) < (n : Int) then (k : Int) else (n : Int)) = (k : Int) := if_pos h1
    have h5 : min (n : Int) (k : Int) = (k : Int) := by omega
    clear hk
    go_enter Try.func14, Try.ntmps14
    go_wp2
    go_ret
    exact ⟨rfl, HM.out⟩
end Go.Proofs.Ytpahfckihcbajaa
namespace Go.Proofs.Ytpahfckihcbajaa
open Go.RowKit

theorem mod_twice (x : Int) (n : Nat) (h1 : 1 ≤ n) : (x.tmod (n : Int) + (n : Int)).tmod (n : Int) = x % (n : Int) := by
  have hb : -(n : Int) < x.tmod n := Int.lt_tmod_of_pos x (by omega)
  rw [Int.tmod_eq_emod_of_nonneg (by omega)]
  have e : x.tmod (n : Int) + (n : Int) = x + (n : Int) * (1 - x.tdiv n) := by
    have h := Int.mul_tdiv_add_tmod x n
    rw [Int.mul_sub, Int.mul_one]
    omega
  rw [e, Int.add_mul_emod_self_left]
end Go.Proofs.Ytpahfckihcbajaa
namespace Go.Proofs.Ytpahfckihcbajaa
open Go.RowKit

set_option maxRecDepth 100000 in
theorem mod64_any (x : Int) (n : Nat) (h1 : 1 ≤ n) (h2 : n ≤ 4611686018427387904) (w : World) :
    Calls Try.prog 20 #[.int .i64 x, .int .i64 (n : Int)] w fun e w' => e = .returned (.int .i64 (x % (n : Int))) ∧ w = w' := by
  have d1 : decide ((n : Int) < 1) = false := by simp; omega
  have hn : ¬ (n : Int) = 0 := by omega
  have hm := mod_twice x n h1
  have b1 : -(n : Int) < x.tmod n := Int.lt_tmod_of_pos x (by omega)
  have b2 : x.tmod n < n := Int.tmod_lt_of_pos x (by omega)
  have hw : wrap64 (x.tmod (n : Int) + (n : Int)) = x.tmod (n : Int) + (n : Int) := IntWalk.wrap64_in _ (by omega)
  clear b1 b2
  go_enter Try.func20, Try.ntmps20
  go_wp2
  go_ret
  exact ⟨rfl, rfl⟩
end Go.Proofs.Ytpahfckihcbajaa
namespace Go.Proofs.Ytpahfckihcbajaa
open Go.RowKit
theorem allow_len18 {l : List BucketM} (h : l.length ≤ 18) (a : AddrM) (now : Int) : (allowM l a now).1.length ≤ 19 := by
  show (takeB ((givenM l a now).1, (givenM l a now).2)).1.length ≤ 19
  rw [take_len]
  have := given_len (l := l) (a := a) (now := now) (G := (givenM l a now).1) (p := (givenM l a now).2) rfl
  omega
/-- how many choices are taken -/
def posOf (W : World) (g : Nat) : Nat := match W.cell? ⟨g, 1, none⟩ with
  | some (.int _ p) => p.toNat
  | _ => 0
theorem posOf_at {W : World} {g n c B p : Nat} {A : Option Addr} {l : List UInt8} (h : CodesAt W g A n c l B p) : posOf W g = p := by
  unfold posOf
  rw [h.blk.cell 1, show (codesC A n c p)[1]? = some (.int .i64 (p : Int)) from rfl]
  rfl
set_option maxRecDepth 100000 in
set_option maxHeartbeats 8000000 in
theorem lm_allows_walk (HA : LmAllowC 17) (w : World) (A0 : Option Addr) (n0 c0 : Nat) (cl : List UInt8) (A1 : Option Addr) (n1 c1 : Nat) (raw : List BucketM) (xa : AddrM) (now : Int) (hnc0 : n0 ≤ c0) (hcm0 : c0 ≤ maxLen) (hr0 : Rd w w.heap.size A0 n0 cl) (hc1 : n1 ≤ c1 ∧ c1 ≤ maxLen) (hr1 : BkRd w w.heap.size A1 n1 raw) (hxa : xa.ok) (hnow : inI64 now) :
    Calls Try.prog 5 #[.slice A0 n0 c0, .slice A1 n1 c1, .agg xa.cells.toArray, .int .i64 now] w fun e w' => e = .returned (.bool true) ∧ Below w.heap.size w w' := by
  have HPA := Lib.hid HA
  have HBG := Lib.hid (fun W : World => lm_begun_any HA W)
  have HXA := Lib.hid hxa
  have HNOW := Lib.hid hnow
  obtain ⟨ik, hk1, hk2, hk3, hk4⟩ := bkInfo
  have HKI := Lib.hid (And.intro hk1 (And.intro hk2 (And.intro hk3 hk4)))
  obtain ⟨k0, hk⟩ : ∃ k, min n0 120 = k := ⟨_, rfl⟩
  have HR0 := Lib.hid (hr0.take (show k0 ≤ n0 by omega))
  have HW1 := Lib.hid (caseNew_any A0 n0 c0 120 k0 (by omega) hnc0 hcm0 hk)
  have hk120 : k0 ≤ 120 := by omega
  generalize cl.take k0 = lk at HR0
  obtain ⟨m1, hm1⟩ : ∃ z, min n1 18 = z := ⟨_, rfl⟩
  have HM1 := Lib.hid (show min (n1 : Int) 18 = (m1 : Int) from by omega)
  have hs1 := bk_h A1 (n := n1) c1 m1 (by omega) hc1.1
  obtain ⟨Aw, hAw⟩ : ∃ z, addrK A1 0 c1 19 = z := ⟨_, rfl⟩
  have hrr : BkRd w w.heap.size Aw m1 (raw.take m1) := by rw [← hAw]; exact hr1.ahead m1 c1 (by omega)
  rw [hAw] at hs1
  generalize raw.take m1 = rr at hrr
  have HRR := Lib.hid hrr
  have HMC := Lib.hid (show m1 ≤ 18 ∧ m1 ≤ c1 ∧ c1 ≤ maxLen from by omega)
  obtain ⟨ca, hca⟩ : ∃ z, xa.cells.toArray = z := ⟨_, rfl⟩
  rw [hca]
  have HCA := Lib.hid hca
  obtain ⟨az, haz⟩ : ∃ z, addr0.cells.toArray = z := ⟨_, rfl⟩
  have HAZ := Lib.hid haz
  have HBT := Lib.hid (show Try.prog.built 35 [] = some az from by rw [← haz]; kernel_rfl)
  have HM0 := Lib.hid (show Mem w [blkE w.heap.size 35 xa.cells] (w.alloc (.cells ca 35)) from (Mem.nil w).alloc rfl 35 ca _ hca.symm)
  clear HA hxa hnow hk1 hk2 hk3 hk4 hk hr0 hnc0 hcm0 hm1 hc1 hr1 hAw hrr hca haz
  go_enter Try.func5, Try.ntmps5
  go_upto_region 1 with fail
  generalize w.alloc (.cells ca 35) = w1 at HM0 ⊢
  have HB1 := Lib.hid (show Below w.heap.size w w1 from HM0.out.bel)
  have HLT := Lib.hid (show w.heap.size < w1.heap.size from (HM0.out.blk 0 rfl).lt)
  have HBX := Lib.hid (fun (W : World) (h : Below w1.heap.size w1 W) => (show Blk W w.heap.size 35 xa.cells from (HM0.out.blk 0 rfl).below h HLT.out))
  clear HM0
  go_wp2_with fail
  refine (HW1.out w1).mono ?_
  rintro e w2 ⟨rfl, hm⟩
  have HC2 := Lib.hid (show CodesAt w2 w1.heap.size A0 k0 c0 lk w.heap.size 0 from ⟨hm.blk 0 rfl, HR0.out.below (HB1.out.trans (hm.bel.mono HB1.out.size)), HB1.out.size, (hm.blk 0 rfl).lt, by omega, Nat.zero_le _⟩)
  have HB2 := Lib.hid hm.bel
  clear hm HW1 HR0
  obtain ⟨g0, hg0⟩ : ∃ z, w1.heap.size = z := ⟨_, rfl⟩
  have HG0 := Lib.hid (Nat.le_of_eq hg0.symm)
  rw [hg0] at HC2 HB2 HBX HLT ⊢
  clear hg0
  go_wp2_with fail
  go_loopw [10, 11] (fun vl vt wr => ∃ (q : Nat) (A : Option Addr) (n c : Nat) (L : List BucketM) (tv : Int), vl = .slice A n c ∧ vt = .int .i64 tv ∧ n ≤ c ∧ c ≤ maxLen ∧ n ≤ 16 ∧ BkRd wr wr.heap.size A n L ∧ tokOk L ∧ -5 * (q : Int) ≤ tv ∧ tv ≤ 54 * (q : Int) ∧ CodesAt wr g0 A0 k0 c0 lk w.heap.size q ∧ Below g0 w1 wr) (fun _ _ wr => k0 - posOf wr g0)
  case atStart => exact ⟨0, none, 0, 0, [], 0, rfl, rfl, Nat.le_refl _, by unfold maxLen; omega, by omega, BkRd.nil, (fun _ h => by cases h), by omega, by omega, HC2.out, HB2.out⟩
  case round =>
    clear HC2 HB2
    obtain ⟨q, A, n, c, L, tv, rfl, rfl, hnc, hcm, hn16, hr, htk, ht1, ht2, hca, hb⟩ := hrel
    have HNC := Lib.hid (And.intro hnc (And.intro hcm hn16))
    have HTK := Lib.hid htk
    have HTV := Lib.hid (And.intro ht1 ht2)
    have HLE := Lib.hid (caseLeft_any g0 A0 k0 c0 q wr hca.blk)
    have HPO := Lib.hid (posOf_at hca)
    have HC := Lib.hid hca
    have HR := Lib.hid hr
    have HB := Lib.hid hb
    clear hnc hcm hn16 hr htk ht1 ht2 hca hb
    obtain ⟨bq, hbq⟩ : ∃ b, decide (q < k0) = b := ⟨_, rfl⟩
    rw [hbq] at HLE
    have HBQ := Lib.hid hbq
    clear hbq
    cases bq with
    | true =>
      have hqk : q < k0 := of_decide_eq_true HBQ.out
      go_wp2_with fail
      refine HLE.out.mono ?_
      rintro e w3 ⟨rfl, hb3⟩
      have HC3 := Lib.hid (HC.out.below hb3)
      have HR3 := Lib.hid (BkRd.mono (BkRd.below HR.out hb3) hb3.size)
      have HB3 := Lib.hid (HB.out.trans (hb3.mono (Nat.le_trans HG0.out HB.out.size)))
      clear hb3 HLE HC HR HB
      have hq1 : nextP lk q 60 = q + 1 := by
        unfold nextP
        rw [if_pos ⟨by rw [HC3.out.rd.1]; exact hqk, by omega⟩]
      have hv1 := nextV_lt lk q 60 (by omega)
      have hn1 := HC3.out.callNext 60 (by omega)
      rw [hq1] at hn1
      obtain ⟨v1, hv1e⟩ : ∃ z, nextV lk q 60 = z := ⟨_, rfl⟩
      rw [hv1e] at hn1 hv1
      have HN1 := Lib.hid hn1
      obtain ⟨dv, hdv⟩ : ∃ z, (v1 : Int) - 5 = z := ⟨_, rfl⟩
      obtain ⟨tn, htn⟩ : ∃ z, tv + dv = z := ⟨_, rfl⟩
      have htv := HTV.out
      have HTN := Lib.hid (show -5 * ((q + 1 : Nat) : Int) ≤ tn ∧ tn ≤ 54 * ((q + 1 : Nat) : Int) from by omega)
      have w1' : IntKind.i64.wrap dv = dv := by rw [IntKind.wrap_i64]; omega
      have w2' : IntKind.i64.wrap tn = tn := by rw [IntKind.wrap_i64]; omega
      have HTI := Lib.hid (show inI64 tn from ⟨by omega, by omega⟩)
      clear hn1 hv1e hq1 htv
      go_wp2_with fail
      refine HN1.out.mono ?_
      rintro e w4 ⟨rfl, hc4, hg4⟩
      have HC4 := Lib.hid hc4
      have HR4 := Lib.hid (BkRd.mono (BkRd.keepN HR3.out (Nat.le_refl _) (BkRd.off HR3.out HC3.out.blk (by simp [codesC])) hg4) hg4.size)
      have HB4 := Lib.hid (HB3.out.grown hg4 (Nat.le_trans HG0.out HB3.out.size) (fun k hk => by injection hk with hk; omega))
      clear hc4 hg4 HN1 HC3 HR3 HB3
      obtain ⟨q1, hq1⟩ : ∃ z, q + 1 = z := ⟨_, rfl⟩
      rw [hq1] at HC4 HTN
      have hv2 := nextV_lt lk q1 20 (by omega)
      have hp2 : q1 ≤ nextP lk q1 20 ∧ nextP lk q1 20 ≤ q1 + 1 := by unfold nextP; split <;> omega
      have hn2 := HC4.out.callNext 20 (by omega)
      obtain ⟨v2, hv2e⟩ : ∃ z, nextV lk q1 20 = z := ⟨_, rfl⟩
      obtain ⟨q2, hq2⟩ : ∃ z, nextP lk q1 20 = z := ⟨_, rfl⟩
      rw [hv2e, hq2] at hn2
      rw [hq2] at hp2
      rw [hv2e] at hv2
      have HN2 := Lib.hid hn2
      have HQ2 := Lib.hid (show q < q2 ∧ q1 ≤ q2 from by omega)
      have HTV2 := Lib.hid (show -5 * (q2 : Int) ≤ tn ∧ tn ≤ 54 * (q2 : Int) from by have := HTN.out; omega)
      have hwv := byteV_wrap v2
      obtain ⟨y, hy⟩ : ∃ z, UInt8.ofNat v2 = z := ⟨_, rfl⟩
      rw [hy] at hwv
      have HOX := Lib.hid (addrV_ok y)
      have hb33 : Try.prog.built 33 [(0, .int .u8 ((y.toNat : Nat) : Int))] = some (((addrV y).ip.map u8v).toArray) := addrV_arr y
      have hb35 := addrV_built y
      obtain ⟨ip, hip⟩ : ∃ z, ((addrV y).ip.map u8v).toArray = z := ⟨_, rfl⟩
      obtain ⟨xc, hxc⟩ : ∃ z, (addrV y).cells.toArray = z := ⟨_, rfl⟩
      rw [hip] at hb33 hb35
      rw [hxc] at hb35
      have HB33 := Lib.hid hb33
      have HB35 := Lib.hid hb35
      have HCX := Lib.hid hxc
      clear hn2 hv2e hq2 hq1 hy hip hxc hb33 hb35 hp2 HTN
      go_wp2_with fail
      refine HN2.out.mono ?_
      rintro e w5 ⟨rfl, hc5, hg5⟩
      have HC5 := Lib.hid hc5
      have HR5 := Lib.hid (BkRd.mono (BkRd.keepN HR4.out (Nat.le_refl _) (BkRd.off HR4.out HC4.out.blk (by simp [codesC])) hg5) hg5.size)
      have HB5 := Lib.hid (HB4.out.grown hg5 (Nat.le_trans HG0.out HB4.out.size) (fun k hk => by injection hk with hk; omega))
      clear hc5 hg5 HN2 HC4 HR4 HB4 hdv htn w1' w2'
      have HZ := Lib.hid (Blk.new w5 35 addr0.cells)
      generalize addrV y = x at HOX HCX ⊢
      go_upto_region 7 with (first | ((with_reducible refine at_op (.build 33 #[(0, .tmp 35)]) rfl ?_); refine wpList_build_as rfl 33 [(0, .tmp 35)] rfl ip ?_ ?_; exact HB33.out) | ((with_reducible refine at_op (.build 35 #[(1, .tmp 36)]) rfl ?_); refine wpList_build_as rfl 35 [(1, .tmp 36)] rfl xc ?_ ?_; exact HB35.out) | ((with_reducible refine at_op (.store 35 (.tmp 12) (.tmp 37)) rfl ?_); refine wpList_store_obj rfl 35 (.tmp 12) (.tmp 37) rfl w5.heap.size 0 x.cells rfl (by show Value.agg xc = _; rw [HCX.out]) 35 addr0.cells HZ.out (addr_cellsOf x HOX.out) (by rw [AddrM.cells_length HOX.out]; decide) (x.one) ?_; intro w6 hbw6 hgw6))
      rw [setL_all _ _ (by rw [AddrM.cells_length HOX.out]; rfl)] at hbw6
      have hbf := below_fresh hgw6
      have HP1 := Lib.hid hbw6
      have HR6 := Lib.hid (BkRd.mono (BkRd.below HR5.out hbf) hbf.size)
      have HC6 := Lib.hid (HC5.out.below hbf)
      have HB6 := Lib.hid (HB5.out.trans (hbf.mono (Nat.le_trans HG0.out HB5.out.size)))
      clear hbw6 hgw6 hbf HZ HR5 HC5 HB5 hwv HB33 HB35
      generalize w5.heap.size = P1 at HP1 ⊢
      have HCALL := Lib.hid (fun (W : World) (h : BkRd W W.heap.size A n L) => HPA.out A n c L x tn W HNC.out.1 HNC.out.2.1 (by have := HNC.out.2.2; omega) h HTK.out HOX.out HTI.out)
      have HCALR := Lib.hid (fun (W : World) (h : BkRd W W.heap.size A n L) => refAllow_any A n c L x tn W HNC.out.1 HNC.out.2.1 (by have := HNC.out.2.2; omega) h HTK.out HOX.out HTI.out)
      have HTK2 := Lib.hid (allow_tok HTK.out x tn)
      have HLN2 := Lib.hid (fun (h : L.length ≤ 16) => allow_len h x tn)
      obtain ⟨L2, hL2⟩ : ∃ z, (allowM L x tn).1 = z := ⟨_, rfl⟩
      obtain ⟨yb, hyb⟩ : ∃ z, (allowM L x tn).2 = z := ⟨_, rfl⟩
      rw [HCX.out, hL2, hyb] at HCALL HCALR
      rw [hL2] at HTK2 HLN2
      clear hL2 hyb
      have hbb : (yb != yb) = false := by simp
      go_wp2_with ((with_reducible refine at_op (.load 35 (.tmp 12)) rfl ?_); refine wpList_load_obj rfl 35 (.tmp 12) rfl P1 0 rfl x.cells (HP1.out.all) _ Try.underlying35 rfl (addr_cellsOf x HOX.out) ?_; rw [HCX.out])
      refine (HCALL.out _ HR6.out).mono ?_
      rintro e w7 ⟨A7, n7, c7, rfl, h71, h72, hr7, hb7⟩
      have HP7 := Lib.hid (HP1.out.below hb7 HP1.out.lt)
      have HR7 := Lib.hid (And.intro ((HR6.out.below hb7).mono hb7.size) (And.intro hr7 (And.intro h71 h72)))
      have HB7 := Lib.hid hb7
      clear h71 h72 hr7 hb7 HCALL
      go_wp2_with ((with_reducible refine at_op (.load 35 (.tmp 12)) rfl ?_); refine wpList_load_obj rfl 35 (.tmp 12) rfl P1 0 rfl x.cells (HP7.out.all) _ Try.underlying35 rfl (addr_cellsOf x HOX.out) ?_; rw [HCX.out])
      refine (HCALR.out _ HR7.out.1).mono ?_
      rintro e w8 ⟨A8, n8, c8, rfl, _, _, hr8, hb8⟩
      obtain rfl : n8 = n7 := by rw [← hr8.len, ← HR7.out.2.1.len]
      have HR8 := Lib.hid (And.intro ((HR7.out.2.1.below hb8).mono hb8.size) hr8)
      have HB8 := Lib.hid (HB7.out.trans (hb8.mono HB7.out.size))
      have HN8 := Lib.hid HR7.out.2.1.len
      have hn8 : n8 ≤ 1000 := by
        have h1 := HN8.out
        have h2 := HLN2.out (by rw [HR6.out.len]; exact HNC.out.2.2)
        omega
      clear hr8 hb8 HCALR HP7 HB7
      go_wp2_with fail
      refine (lm_buckets_any A7 A8 n8 c7 c8 L2 hn8 w8 HR8.out.1 HR8.out.2).mono ?_
      rintro e w9 ⟨rfl, hb9⟩
      have HB9 := Lib.hid (HB8.out.trans (hb9.mono HB8.out.size))
      have HR9 := Lib.hid ((HR8.out.1.below hb9).mono hb9.size)
      clear hb9 HB8 hbb
      have HC9 := Lib.hid (HC6.out.below HB9.out)
      have HBB := Lib.hid (HB6.out.trans (HB9.out.mono (Nat.le_trans HG0.out HB6.out.size)))
      clear HC6 HB6 HP1
      go_wp2_with fail
      go_roundw
      case rel => exact ⟨q2, A7, n8, c7, L2, tn, rfl, rfl, HR7.out.2.2.1, HR7.out.2.2.2, by rw [← HN8.out]; exact HLN2.out (by rw [HR6.out.len]; exact HNC.out.2.2), HR9.out, HTK2.out, HTV2.out.1, HTV2.out.2, HC9.out, HBB.out⟩
      case measure => rw [posOf_at HC9.out, HPO.out]; have := HQ2.out; omega
    | false =>
      go_wp2_with fail
      refine HLE.out.mono ?_
      rintro e w3 ⟨rfl, hb3⟩
      have HB3 := Lib.hid (HB.out.trans (hb3.mono (Nat.le_trans HG0.out HB.out.size)))
      clear hb3 HLE HC HR HB HNC HTK HTV HPO
      have HB3w := Lib.hid (HB1.out.trans (HB3.out.mono (Nat.le_of_lt HLT.out)))
      have HRW := Lib.hid (BkRd.mono (BkRd.below HRR.out HB3w.out) HB3w.out.size)
      have hm18 := HMC.out
      go_upto_region 13 with (first | (refine wpList_min_k rfl (.tmp 64) (.const (.int .i64 18)) _ rfl .i64 (n1 : Int) 18 (m1 : Int) rfl rfl HM1.out ?_) | (refine wpList_append_rows _ rfl (.const (.slice none 0 0)) (.tmp 66) 32 rfl w3.heap.size 44 ik _ 19 40 Try.underlying32 HKI.out.1 HKI.out.2.1 HKI.out.2.2.1 HKI.out.2.2.2 (by rfl) (by decide) (.slice none 0 0) 0 [] rfl (World.ownsRow_nil _ _ _ _) w3.heap.size Aw m1 c1 (bksV rr) rfl HRW.out.1 (bksV_one _) (by unfold maxLen; omega) (by omega) (Nat.le_refl _) ?_; intro v6 w6 hown6 hg6 _))
      rw [Nat.zero_add, List.nil_append] at hown6
      have hb6 : Below w3.heap.size w3 w6 := (Below.refl _ _).grown hg6 (Nat.le_refl _) (by simp [Value.ownBlock])
      obtain ⟨A6, c6, rfl, hnc6, hcm6, _⟩ := own_sliceK hown6
      have HOW := Lib.hid hown6
      have HB6 := Lib.hid hb6
      have HNC6 := Lib.hid (And.intro hnc6 hcm6)
      have HLR := Lib.hid HRW.out.len
      have HOKR := Lib.hid HRW.out.2
      clear hown6 hg6 hb6 hnc6 hcm6 hs1
      go_wp2_with fail
      go_loopw [70] (fun vi wr => ∃ j : Nat, j ≤ m1 ∧ vi = .int .i64 (j : Int) ∧ wr.ownsRow w3.heap.size 44 19 (.slice A6 m1 c6) m1 (bksV (modTo rr j)).flatten ∧ Below w3.heap.size w3 wr) (fun vi _ => m1 - (intOf vi).toNat)
      case atStart => exact ⟨0, Nat.zero_le _, rfl, HOW.out, HB6.out⟩
      case round =>
        clear HOW HB6
        obtain ⟨j, hj, rfl, hown, hb⟩ := hrel
        have HB := Lib.hid hb
        have hml := modTo_len rr j
        rw [HLR.out] at hml
        have HML := Lib.hid hml
        have HOKM := Lib.hid (modTo_ok HOKR.out j)
        clear hb hml
        by_cases hjm : j < m1
        · have d1 : decide ((j : Int) < (m1 : Int)) = true := by simp; omega
          have d2 : decide (j < m1) = true := decide_eq_true hjm
          have o2 : (j : Int) < (m1 : Int) := by omega
          obtain ⟨g, rest, hA6, hbg, hblk, hrl, hnc6, hcm6⟩ := bkOwn_blk hown (by omega)
          subst hA6
          obtain ⟨b, hb0⟩ : ∃ b, rr[j]? = some b := ⟨rr[j]'(by rw [HLR.out]; exact hjm), List.getElem?_eq_getElem _⟩
          have HAT := Lib.hid (bk_row_at hblk HOKM.out (modTo_at hb0))
          have ftk := bk_tok_at HAT.out (HOKR.out b (List.mem_of_getElem? hb0))
          have zz := hblk.frozen (j * 19 + 17)
          obtain ⟨t, ht⟩ : ∃ z, b.tok = z := ⟨_, rfl⟩
          rw [ht] at ftk
          obtain ⟨t2, ht2⟩ : ∃ z, t % 5001 = z := ⟨_, rfl⟩
          have hmd := fun W => (show Calls Try.prog 20 #[.int .i64 t, .int .i64 5001] W (fun e w' => e = .returned (.int .i64 t2) ∧ W = w') from by rw [← ht2]; exact mod64_any t 5001 (by omega) (by omega) W)
          have HMD := Lib.hid hmd
          have hset := bk_row_tok (rest := rest) HOKM.out (modTo_at hb0) t2
          rw [show ({ b with tok := t2 } : BucketM) = { b with tok := b.tok % 5001 } from by rw [ht, ht2], ← modTo_next hb0] at hset
          have HSET := Lib.hid hset
          have HBL := Lib.hid hblk
          have HRL := Lib.hid (And.intro hbg (And.intro hrl (And.intro hnc6 hcm6)))
          obtain ⟨j2, hj2⟩ : ∃ z, j + 1 = z := ⟨_, rfl⟩
          have e8 : (j : Int) + 1 = (j2 : Int) := by omega
          have w8' : IntKind.i64.wrap (j2 : Int) = (j2 : Int) := by rw [IntKind.wrap_i64]; omega
          have HJ := Lib.hid (show j2 ≤ m1 ∧ m1 - j2 < m1 - j from by omega)
          rw [hj2] at HSET
          clear hown hb0 HAT hblk hbg hrl hnc6 hcm6 ht hmd ht2 hset hj2 hj
          go_wp2_with fail
          refine (HMD.out _).mono ?_
          rintro e w7 ⟨rfl, rfl⟩
          clear HMD
          go_wp2_with fail
          go_roundw
          case rel =>
            have hb9 := HBL.out.set_ (j * 19 + 17) (.int .i64 t2)
            rw [HSET.out] at hb9
            exact ⟨j2, HJ.out.1, rfl, bkBlk_own hb9 (by rw [modTo_len, HLR.out]) (modTo_ok HOKR.out j2) HRL.out.1 HRL.out.2.1 HRL.out.2.2.1 HRL.out.2.2.2, HB.out.setCell (p := ⟨g, j * 19 + 17, none⟩) HRL.out.1 _⟩
          case measure => simp [intOf]; exact HJ.out.2
        · obtain rfl : m1 = j := by omega
          have d1 : decide ((m1 : Int) < (m1 : Int)) = false := by simp
          obtain ⟨L, hL⟩ : ∃ z, modTo rr m1 = z := ⟨_, rfl⟩
          have HTK := Lib.hid (show tokOk L from by rw [← hL, ← HLR.out]; exact modTo_tok)
          rw [hL] at hown HML HOKM
          have HOWN := Lib.hid hown
          have HNC := Lib.hid (And.intro HNC6.out.1 (And.intro HNC6.out.2 (show m1 ≤ 18 from hm18.1)))
          obtain ⟨ia, hia1, hia2, hia3, hia4⟩ := info_parts (P := Try.prog) (e := 35) (z := .agg addr0.cells.toArray) (size := 17) (bytes := 17) (by kernel_rfl)
          have HIA := Lib.hid (And.intro hia1 (And.intro hia2 hia3))
          have hbx := HBX.out wr (HB3.out.trans (HB.out.mono (Nat.le_trans HG0.out HB3.out.size)))
          have HX := Lib.hid hbx
          have HSA := Lib.hid (show ca.size = 17 ∧ az.size = 17 from ⟨by rw [← HCA.out, List.size_toArray, AddrM.cells_length HXA.out], by rw [← HAZ.out, List.size_toArray, AddrM.cells_length addr0_ok]⟩)
          clear hL hown hbx hia1 hia2 hia3 hia4 hj hjm HNC6
          go_upto_region 19 with (first | ((with_reducible refine at_op (.load 35 (.tmp 6)) rfl ?_); refine wpList_load_obj rfl 35 (.tmp 6) rfl w.heap.size 0 rfl xa.cells (HX.out.all) _ Try.underlying35 rfl (addr_cellsOf xa HXA.out) ?_; rw [HCA.out]) | ((with_reducible refine at_op (.build 35 #[]) rfl ?_); refine wpList_build_as rfl 35 [] rfl az ?_ ?_; exact HBT.out) | (refine wpList_buildTwo rfl 45 35 (.tmp 84) (.tmp 85) rfl ca az rfl rfl 17 Try.underlying45 ia HIA.out.1 HIA.out.2.2 _ HIA.out.2.1 (by omega) (by omega) HSA.out.1 HSA.out.2 ?_))
          have hnb := Blk.new wr 35 (xa.cells ++ addr0.cells)
          rw [← List.append_toArray, HCA.out, HAZ.out] at hnb
          have HAW := Lib.hid ((Below.refl wr.heap.size wr).alloc (Nat.le_refl _) (.cells (ca ++ az) 35))
          generalize wr.alloc (.cells (ca ++ az) 35) = wz at hnb HAW ⊢
          have HNB := Lib.hid hnb
          have HBZ := Lib.hid (HB3w.out.trans ((HB.out.trans (HAW.out.mono HB.out.size)).mono HB3w.out.size))
          have HOZ := Lib.hid (own_below HOWN.out HAW.out)
          have HI := Lib.hid (show ∀ k, k < 2 → ∃ Y : AddrM, Y.ok ∧ ∀ W, Below wz.heap.size wz W → At W wr.heap.size (k * 17) Y.cells from fun k hk => by
            rcases (show k = 0 ∨ k = 1 by omega) with rfl | rfl
            · refine ⟨xa, HXA.out, fun W h i v hi => ?_⟩
              rw [(HNB.out.below h HNB.out.lt).cell, Nat.zero_mul, Nat.zero_add, List.getElem?_append_left (List.getElem?_eq_some_iff.1 hi).1]
              exact hi
            · refine ⟨addr0, addr0_ok, fun W h i v hi => ?_⟩
              rw [(HNB.out.below h HNB.out.lt).cell, Nat.one_mul, List.getElem?_append_right (by rw [AddrM.cells_length HXA.out]; omega), AddrM.cells_length HXA.out, show 17 + i - 17 = i by omega]
              exact hi)
          clear hnb HAW HB HOWN HX d1
          generalize wr.heap.size = gs at HI HNB ⊢
          go_loopw [88] (fun vk wq => ∃ k : Nat, k ≤ 2 ∧ vk = .int .i64 (k : Int) ∧ Below wz.heap.size wz wq) (fun vk _ => 2 - (intOf vk).toNat)
          case atStart => exact ⟨0, by omega, rfl, Below.refl _ _⟩
          case round =>
            obtain ⟨k, hk, rfl, hbk⟩ := hrel
            have HBK := Lib.hid hbk
            clear hbk
            by_cases hk2 : k < 2
            · have d1 : decide ((k : Int) < 2) = true := by simp; omega
              have d2 : decide (k < 2) = true := decide_eq_true hk2
              have o2 : (k : Int) < 2 := by omega
              obtain ⟨x, hx, hat⟩ := HI.out k hk2
              have HOX := Lib.hid hx
              have HAT := Lib.hid hat
              obtain ⟨xc, hxc⟩ : ∃ z, x.cells.toArray = z := ⟨_, rfl⟩
              have HCX := Lib.hid hxc
              have HTI := Lib.hid HNOW.out
              have HZ := Lib.hid (Blk.new wr 35 addr0.cells)
              obtain ⟨kn, hkn⟩ : ∃ z, k + 1 = z := ⟨_, rfl⟩
              have e8 : (k : Int) + 1 = (kn : Int) := by omega
              have w8' : IntKind.i64.wrap (kn : Int) = (kn : Int) := by rw [IntKind.wrap_i64]; omega
              have HJ := Lib.hid (show kn ≤ 2 ∧ 2 - kn < 2 - k from by omega)
              clear hx hat hxc hkn
              go_upto_region 21 with (first | ((with_reducible refine at_op (.load 35 (.tmp 90)) rfl ?_); refine wpList_load_obj rfl 35 (.tmp 90) rfl gs _ rfl x.cells (HAT.out _ HBK.out) _ Try.underlying35 rfl (addr_cellsOf x HOX.out) ?_; rw [HCX.out]) | ((with_reducible refine at_op (.store 35 (.tmp 19) (.tmp 91)) rfl ?_); refine wpList_store_obj rfl 35 (.tmp 19) (.tmp 91) rfl wr.heap.size 0 x.cells rfl (by show Value.agg xc = _; rw [HCX.out]) 35 addr0.cells HZ.out (addr_cellsOf x HOX.out) (by rw [AddrM.cells_length HOX.out]; decide) (x.one) ?_; intro w6 hbw6 hgw6))
              rw [setL_all _ _ (by rw [AddrM.cells_length HOX.out]; rfl)] at hbw6
              have hbf := below_fresh hgw6
              have HP1 := Lib.hid hbw6
              have HB6 := Lib.hid (HBK.out.trans (hbf.mono HBK.out.size))
              have HR6 := Lib.hid (show BkRd w6 w6.heap.size A6 m1 L from BkRd.of_own HML.out HOKM.out (own_below HOZ.out HB6.out))
              clear hbw6 hgw6 hbf HZ d1 d2 o2 hk2
              generalize wr.heap.size = P1 at HP1 ⊢
              have HCALL := Lib.hid (fun (W : World) (h : BkRd W W.heap.size A6 m1 L) => HPA.out A6 m1 c6 L x now W HNC.out.1 HNC.out.2.1 (by have := HNC.out.2.2; omega) h HTK.out HOX.out HTI.out)
              have HCALR := Lib.hid (fun (W : World) (h : BkRd W W.heap.size A6 m1 L) => refAllow_any A6 m1 c6 L x now W HNC.out.1 HNC.out.2.1 (by have := HNC.out.2.2; omega) h HTK.out HOX.out HTI.out)
              have HLN3 := Lib.hid (fun (h : L.length ≤ 18) => allow_len18 h x now)
              obtain ⟨L2, hL2⟩ : ∃ z, (allowM L x now).1 = z := ⟨_, rfl⟩
              obtain ⟨yb, hyb⟩ : ∃ z, (allowM L x now).2 = z := ⟨_, rfl⟩
              rw [HCX.out, hL2, hyb] at HCALL HCALR
              rw [hL2] at HLN3
              clear hL2 hyb
              have hbb : (yb != yb) = false := by simp
              go_wp2_with ((with_reducible refine at_op (.load 35 (.tmp 19)) rfl ?_); refine wpList_load_obj rfl 35 (.tmp 19) rfl P1 0 rfl x.cells (HP1.out.all) _ Try.underlying35 rfl (addr_cellsOf x HOX.out) ?_; rw [HCX.out])
              refine (HCALL.out _ HR6.out).mono ?_
              rintro e w7 ⟨A7, n7, c7, rfl, h71, h72, hr7, hb7⟩
              have HP7 := Lib.hid (HP1.out.below hb7 HP1.out.lt)
              have HR7 := Lib.hid (And.intro ((HR6.out.below hb7).mono hb7.size) (And.intro hr7 (And.intro h71 h72)))
              have HB7 := Lib.hid hb7
              clear h71 h72 hr7 hb7 HCALL
              go_wp2_with ((with_reducible refine at_op (.load 35 (.tmp 19)) rfl ?_); refine wpList_load_obj rfl 35 (.tmp 19) rfl P1 0 rfl x.cells (HP7.out.all) _ Try.underlying35 rfl (addr_cellsOf x HOX.out) ?_; rw [HCX.out])
              refine (HCALR.out _ HR7.out.1).mono ?_
              rintro e w8 ⟨A8, n8, c8, rfl, _, _, hr8, hb8⟩
              obtain rfl : n8 = n7 := by rw [← hr8.len, ← HR7.out.2.1.len]
              have HR8 := Lib.hid (And.intro ((HR7.out.2.1.below hb8).mono hb8.size) hr8)
              have HB8 := Lib.hid (HB7.out.trans (hb8.mono HB7.out.size))
              have HN8 := Lib.hid HR7.out.2.1.len
              have hn8 : n8 ≤ 1000 := by
                have h1 := HN8.out
                have h2 := HLN3.out (by rw [HML.out]; exact HNC.out.2.2)
                omega
              clear hr8 hb8 HCALR HP7 HB7
              go_wp2_with fail
              refine (lm_buckets_any A7 A8 n8 c7 c8 L2 hn8 w8 HR8.out.1 HR8.out.2).mono ?_
              rintro e w9 ⟨rfl, hb9⟩
              have HB9 := Lib.hid (HB8.out.trans (hb9.mono HB8.out.size))
              have HR9 := Lib.hid ((HR8.out.1.below hb9).mono hb9.size)
              clear hb9 HB8 hbb
              have HBB := Lib.hid (HB6.out.trans (HB9.out.mono HB6.out.size))
              clear HB6 HP1
              go_wp2_with fail
              go_roundw
              case rel => exact ⟨kn, HJ.out.1, rfl, HBB.out⟩
              case measure => simp [intOf]; exact HJ.out.2
            · obtain rfl : k = 2 := by omega
              have d1 : decide ((2 : Int) < 2) = false := by simp
              go_wp2_with fail
              refine (HBG.out _).mono ?_
              rintro e w9 ⟨rfl, hb9⟩
              have HF := Lib.hid (HBZ.out.trans ((HBK.out.trans (hb9.mono HBK.out.size)).mono HBZ.out.size))
              clear hb9
              go_wp2
              go_ret
              exact ⟨rfl, HF.out⟩
end Go.Proofs.Ytpahfckihcbajaa
namespace Go.Proofs.Ytpahfckihcbajaa
open Go.RowKit

/-- the number of items ahead of the first one that is wanted -/
def firstM (p : List Value → Bool) (os : List (List Value)) : Nat := (os.findIdx? p).getD os.length
theorem firstM_none {p : List Value → Bool} {os : List (List Value)} (h : ∀ o ∈ os, p o = false) : firstM p os = os.length := by
  have e : os.findIdx? p = none := List.findIdx?_eq_none_iff.2 h
  unfold firstM
  rw [e]
  rfl
theorem firstM_some {p : List Value → Bool} {os : List (List Value)} {j : Nat} {o : List Value} (ho : os[j]? = some o) (hp : p o = true) (hn : ∀ (q : Nat) x, q < j → os[q]? = some x → p x = false) : firstM p os = j := by
  obtain ⟨hi, rfl⟩ := List.getElem?_eq_some_iff.1 ho
  have e : os.findIdx? p = some j := by
    rw [List.findIdx?_eq_some_iff_getElem]
    exact ⟨hi, hp, fun q hq => by simpa using hn q _ hq (List.getElem?_eq_getElem (by omega))⟩
  unfold firstM
  rw [e]
  rfl
set_option maxRecDepth 100000 in
set_option maxHeartbeats 16000000 in
theorem bkFirst_any (A : Option Addr) (n c : Nat) (os : List (List Value)) (hn : n ≤ 1000000) (h1 : ∀ o ∈ os, ∀ v ∈ o, v.oneCell' = true) (F : Nat) (lb : Array Value) (hE : ∀ (args : Array Value) (W : World), (callFunc F args).run Try.prog W = .ok (.enter F args) W) (p : List Value → Bool) (B : Nat) (w : World) (hB : B ≤ w.heap.size) (hr : RdRow w w.heap.size A 19 n os) (hf : PredB Try.prog F lb p B w os) :
    Calls Try.prog 27 #[.slice A n c, .func (.func F) #[] lb] w fun e w' => e = .returned (.int .i64 (firstM p os : Int)) ∧ Below w.heap.size w w' := by
  have HR := Lib.hid hr
  have HF := Lib.hid hf
  have HB := Lib.hid hB
  have H1 := Lib.hid h1
  clear hr hf hB h1
  go_enter Try.func27, Try.ntmps27
  go_wp2_with fail
  go_loopw [9] (fun i wr => ∃ j : Nat, j ≤ n ∧ i = .int .i64 (j : Int) ∧ Below w.heap.size w wr ∧ ∀ (q : Nat) x, q < j → os[q]? = some x → p x = false) (fun i _ => n - (intOf i).toNat)
  case atStart => exact ⟨0, Nat.zero_le _, rfl, Below.refl _ _, fun q _ h => absurd h (Nat.not_lt_zero _)⟩
  case round =>
    obtain ⟨j, hj, rfl, hW, hno⟩ := hrel
    have HW := Lib.hid hW
    have HNO := Lib.hid hno
    clear hW hno
    by_cases hjn : j < n
    · have d1 : decide ((j : Int) < (n : Int)) = true := by simp; omega
      obtain ⟨b, off, rfl⟩ := HR.out.addr (by omega)
      obtain ⟨o, ho⟩ : ∃ o, os[j]? = some o := ⟨os[j]'(by rw [HR.out.1]; exact hjn), List.getElem?_eq_getElem _⟩
      have hat := HR.out.at j o ho
      have HLA := Lib.hid (show At wr b (off + j * 19) o from fun q v hv => (World.cell?_of_block (HW.out.block b hat.1)).trans (hat.2 q v hv))
      have HOL := Lib.hid (HR.out.2.1 o (List.mem_of_getElem? ho))
      have HU := Lib.hid (bk_size o HOL.out)
      have H1O := Lib.hid (H1.out o (List.mem_of_getElem? ho))
      have hcall := HF.out o (List.mem_of_getElem? ho)
      obtain ⟨oc, hoc⟩ : ∃ z, o.toArray = z := ⟨_, rfl⟩
      rw [hoc] at hcall
      obtain ⟨y, hy⟩ : ∃ y, p o = y := ⟨_, rfl⟩
      rw [hy] at hcall
      have HOC := Lib.hid hoc
      have HC := Lib.hid hcall
      have HJO := Lib.hid (And.intro ho hy)
      clear hat ho hcall hoc hy
      have HZ := Lib.hid (Blk.new wr 44 bucketZ)
      go_upto_region 4 with (first | (refine wpList_load_obj rfl 44 (.tmp 12) rfl b _ rfl o HLA.out _ Try.underlying44 rfl HU.out ?_; rw [HOC.out]) | (refine wpList_store_obj rfl 44 (.tmp 6) (.tmp 13) rfl wr.heap.size 0 o rfl (by show Value.agg oc = _; rw [HOC.out]) 44 bucketZ HZ.out HU.out (by rw [HOL.out, bucketZ_length]; omega) H1O.out ?_; intro w4 hb4 hg4))
      rw [setL_all bucketZ o (by rw [HOL.out, bucketZ_length])] at hb4
      have HW4 := Lib.hid (HW.out.trans ((below_fresh hg4).mono HW.out.size))
      have HP := Lib.hid hb4
      clear hb4 hg4 HW HZ d1 HLA
      generalize wr.heap.size = P1 at HP ⊢
      go_wp2_with (refine wpList_load_obj rfl 44 (.tmp 6) rfl P1 0 rfl o HP.out.all _ Try.underlying44 rfl HU.out ?_; rw [HOC.out])
      refine (HC.out w4 (HW4.out.mono HB.out)).mono ?_
      rintro e w2 ⟨rfl, hb⟩
      have HW2 := Lib.hid (HW4.out.trans (hb.mono HW4.out.size))
      clear hb HW4 HC HP
      cases y with
      | true =>
        go_wp2
        go_ret
        exact ⟨by rw [firstM_some HJO.out.1 HJO.out.2 HNO.out]; rfl, HW2.out⟩
      | false =>
        go_wp2_with fail
        go_roundw
        case rel => exact ⟨j + 1, by omega, by go_num, HW2.out, fun q x hq hx => by
          rcases Nat.lt_or_ge q j with h | h
          · exact HNO.out q x h hx
          · obtain rfl : q = j := by omega
            have e := HJO.out.1.symm.trans hx
            injection e with e
            rw [← e]
            exact HJO.out.2⟩
        case measure => simp [intOf]; omega
    · obtain rfl : j = n := by omega
      have d1 : decide ((j : Int) < (j : Int)) = false := by simp
      have HF2 := Lib.hid HW.out
      have HX := Lib.hid ((firstM_none (all_false HR.out.1 HNO.out)).trans HR.out.1)
      clear HW HNO
      go_wp2
      go_ret
      exact ⟨by rw [HX.out]; rfl, HF2.out⟩
end Go.Proofs.Ytpahfckihcbajaa
namespace Go.Proofs.Ytpahfckihcbajaa
open Go.RowKit

end Go.Proofs.Ytpahfckihcbajaa
namespace Go.Proofs.Ytpahfckihcbajaa
open Go.RowKit

theorem loadBytes_rd {P : Program} : ∀ (l : List UInt8) (w : World) (b off : Nat) (acc : ByteArray), (∀ j (h : j < l.length), w.cell? ⟨b, off + j, none⟩ = some (.int .u8 (l[j].toNat : Int))) →
    (Extern.Bytes.loadBytes ⟨b, off, none⟩ l.length acc).run P w = .ok ⟨acc.data ++ l.toArray⟩ w
  | [], w, b, off, acc, _ => by simp [Extern.Bytes.loadBytes]
  | x :: l, w, b, off, acc, h => by
    have h0 := h 0 (by simp)
    rw [Nat.add_zero] at h0
    have ih := loadBytes_rd (P := P) l w b (off + 1) (acc.push x) (fun j hj => by
      have := h (j + 1) (by simp; omega)
      rw [show off + 1 + j = off + (j + 1) by omega]
      simpa using this)
    have e1 : (Addr.add ⟨b, off, none⟩ 1) = ⟨b, off + 1, none⟩ := by simp [Go.WideShapes.add_plain]
    simp only [List.length_cons, Extern.Bytes.loadBytes, Sem.run_bind, run_load, h0, Result.andThen]
    simp only [List.getElem_cons_zero, Int.toNat_natCast, Nat.toUInt8_eq, UInt8.ofNat_toNat, e1]
    rw [ih]
    congr 1
    simp [ByteArray.push]
theorem bytesOf_rd {P : Program} {w : World} {B n c : Nat} {A : Option Addr} {l : List UInt8} (h : Rd w B A n l) : (Extern.Bytes.bytesOf (.slice A n c)).run P w = .ok ⟨l.toArray⟩ w := by
  rcases Nat.eq_zero_or_pos n with h0 | h0
  · have : l = [] := List.eq_nil_of_length_eq_zero (by rw [h.1, h0])
    subst this
    subst h0
    cases A with
    | none => simp [Extern.Bytes.bytesOf]; rfl
    | some a => simp [Extern.Bytes.bytesOf, Extern.Bytes.loadBytes]; rfl
  · obtain ⟨b, off, rfl, _, hc⟩ := h.at_ h0
    have := loadBytes_rd (P := P) l w b off .empty hc
    rw [h.1] at this
    simp [Extern.Bytes.bytesOf, this]
set_option maxRecDepth 100000 in
theorem compare_any (n m c d B B' : Nat) (A A' : Option Addr) (a b : List UInt8) (w : World) (ha : Rd w B A n a) (hb : Rd w B' A' m b) :
    Calls Try.prog 40 #[.slice A n c, .slice A' m d] w fun e w' => e = .returned (.int .i64 (Lib.compareBytes a b)) ∧ w = w' := by
  have hx : (callFunc 43 #[.slice A n c, .slice A' m d]).run Try.prog w = .ok (.value (.int .i64 (Lib.compareBytes a b))) w := by
    rw [run_callFunc_extern Try.func43 (by kernel_rfl) (by kernel_rfl) (by kernel_rfl) (e := Extern.BytealgCompare.compare) (by kernel_rfl)]
    have e1 : (Extern.BytealgCompare.compare #[.slice A n c, .slice A' m d]).run Try.prog w = .ok (.int .i64 (Lib.compareBytes a b)) w := by
      change Sem.run Try.prog (do pure (goInt (Extern.BytealgCompare.cmp (← Extern.Bytes.bytesOf (.slice A n c)) (← Extern.Bytes.bytesOf (.slice A' m d))))) w = _
      simp only [Sem.run_bind, Sem.run_pure, bytesOf_rd ha, bytesOf_rd hb, Result.andThen, Lib.cmp_eq]
      rfl
    rw [e1]
    rfl
  go_enter Try.func40, Try.ntmps40
  go_wp2
  go_ret
  exact ⟨rfl, rfl⟩
end Go.Proofs.Ytpahfckihcbajaa
namespace Go.Proofs.Ytpahfckihcbajaa
open Go.RowKit

theorem compare_less : ∀ (a b : List UInt8), decide (Lib.compareBytes a b < 0) = Op.bytesLess a b
  | [], [] => rfl
  | [], _ :: _ => rfl
  | _ :: _, [] => rfl
  | x :: a, y :: b => by
    have ih := compare_less a b
    unfold Lib.compareBytes Op.bytesLess
    by_cases h1 : x < y
    · rw [if_pos h1]; simp [h1]
    · by_cases h2 : y < x
      · have hne : (x == y) = false := by
          rw [beq_eq_false_iff_ne]
          intro e
          subst e
          exact h1 h2
        rw [if_neg h1, if_pos h2, hne]
        simp [h1]
      · have he : x = y := by
          apply UInt8.toNat.inj
          rw [UInt8.lt_iff_toNat_lt] at h1 h2
          omega
        subst he
        rw [if_neg h1, if_neg h2, ih]
        simp [h1]
end Go.Proofs.Ytpahfckihcbajaa
namespace Go.Proofs.Ytpahfckihcbajaa
open Go.RowKit

set_option maxRecDepth 100000 in
set_option maxHeartbeats 4000000 in
theorem less_any (a b : AddrM) (ha : a.ok) (hb : b.ok) (w : World) :
    Calls Try.prog 32 #[.agg a.cells.toArray, .agg b.cells.toArray] w fun e w' => e = .returned (.bool (lessM a b)) ∧ Below w.heap.size w w' := by
  obtain ⟨ca, hca⟩ : ∃ x, a.cells.toArray = x := ⟨_, rfl⟩
  obtain ⟨cb, hcb⟩ : ∃ x, b.cells.toArray = x := ⟨_, rfl⟩
  rw [hca, hcb]
  have HM := Lib.hid (show Mem w [blkE (w.heap.size + 1) 35 b.cells, blkE w.heap.size 35 a.cells] ((w.alloc (.cells ca 35)).alloc (.cells cb 35)) from ((Mem.nil w).alloc rfl 35 ca a.cells hca.symm).alloc (by simp) 35 cb b.cells hcb.symm)
  have HOA := Lib.hid ha
  have HOB := Lib.hid hb
  have hcl := compare_less a.ip b.ip
  clear hca hcb ha hb
  go_enter Try.func32, Try.ntmps32
  go_upto_region 1 with fail
  generalize ((w.alloc (.cells ca 35)).alloc (.cells cb 35)) = w1 at HM ⊢
  have f1 := ((HM.out.blk 1 rfl).cell 0).trans (AddrM.six_cell a)
  have f2 := ((HM.out.blk 0 rfl).cell 0).trans (AddrM.six_cell b)
  by_cases h6 : a.six = b.six
  · have HE := Lib.hid (show decide (Lib.compareBytes a.ip b.ip < 0) = lessM a b by rw [lessM, if_pos h6, hcl])
    rw [h6] at f1
    have hne : (b.six != b.six) = false := by simp
    clear h6 hcl
    generalize b.six = sx at f1 f2 hne
    go_upto_region 3 with fail
    clear f1 f2 hne
    generalize w.heap.size = GA at HM ⊢
    refine wp_region_held_drew (S := fun W' => Mem w [blkE (GA + 1) 35 b.cells, blkE GA 35 a.cells] W') (by kernel_rfl) ((HM.out).drew) (fun hHeld => ?_)
    replace HM := Lib.hid HM.out.drew
    generalize w1.drew = wd1 at HM hHeld ⊢
    refine take_first (v := ?_) 0 rfl (by kernel_rfl) (by kernel_rfl) (by kernel_rfl) (fun _ _ _ h => h) (Or.inl ⟨by rfl, ?_⟩) (by assumption) ?_
    rotate_left
    · (intro w hSw; (try dsimp only at hSw); go_simp; try with_reducible rfl)
    (try simp only [Act.put, List.setIfInBounds_toArray, List.set_cons_zero, List.set_cons_succ])
    refine take_first (v := ?_) 1 rfl (by kernel_rfl) (by kernel_rfl) (by kernel_rfl) (fun _ _ _ h => h) (Or.inl ⟨by rfl, ?_⟩) (by assumption) ?_
    rotate_left
    · (intro w hSw; (try dsimp only at hSw); go_simp; try with_reducible rfl)
    (try simp only [Act.put, List.setIfInBounds_toArray, List.set_cons_zero, List.set_cons_succ])
    refine take_first (v := ?_) 2 rfl (by kernel_rfl) (by kernel_rfl) (by kernel_rfl) (fun _ _ _ h => h) (Or.inl ⟨by rfl, ?_⟩) (by assumption) ?_
    rotate_left
    · (intro w hSw; (try dsimp only at hSw); go_simp; try with_reducible rfl)
    (try simp only [Act.put, List.setIfInBounds_toArray, List.set_cons_zero, List.set_cons_succ])
    refine take_first (v := ?_) 3 rfl (by kernel_rfl) (by kernel_rfl) (by kernel_rfl) (fun _ _ _ h => h) (Or.inl ⟨by rfl, ?_⟩) (by assumption) ?_
    rotate_left
    · (intro w hSw; (try dsimp only at hSw); go_simp; try with_reducible rfl)
    (try simp only [Act.put, List.setIfInBounds_toArray, List.set_cons_zero, List.set_cons_succ])
    refine step_one 4 rfl (by kernel_rfl) (fun K hK => ?_)
    clear hHeld
    go_simp
    refine (compare_any 16 16 16 16 _ _ _ _ a.ip b.ip _ (AddrM.rd (HM.out.blk 1 rfl) HOA.out) (AddrM.rd (HM.out.blk 0 rfl) HOB.out)).mono ?_
    rintro e wy ⟨rfl, rfl⟩
    go_wp2_with fail
    refine hK.out _ _ (HM.out) (fun hHeld => ?_)
    clear hK K
    (try simp only [Act.put, List.setIfInBounds_toArray, List.set_cons_zero, List.set_cons_succ])
    refine take_first (v := ?_) 5 rfl (by kernel_rfl) (by kernel_rfl) (by kernel_rfl) (fun _ _ _ h => h) (Or.inl ⟨by rfl, ?_⟩) (by assumption) ?_
    rotate_left
    · (intro w hSw; (try dsimp only at hSw); go_simp; try with_reducible rfl)
    (try simp only [Act.put, List.setIfInBounds_toArray, List.set_cons_zero, List.set_cons_succ])
    refine take_first (v := ?_) 6 rfl (by kernel_rfl) (by kernel_rfl) (by kernel_rfl) (fun _ _ _ h => h) (Or.inl ⟨by rfl, ?_⟩) (by assumption) ?_
    rotate_left
    · (intro w hSw; (try dsimp only at hSw); go_simp; try with_reducible rfl)
    (try simp only [Act.put, List.setIfInBounds_toArray, List.set_cons_zero, List.set_cons_succ])
    refine wpAnyH_done (by kernel_rfl) ?_ _
    have HB := Lib.hid HM.out.bel
    clear HM hHeld
    go_wp2
    go_ret
    exact ⟨by have h := HE.out; simp at h ⊢; exact h, HB.out⟩
  · have HR := Lib.hid (show lessM a b = b.six by rw [lessM, if_neg h6]; revert h6; cases a.six <;> cases b.six <;> simp)
    clear hcl
    generalize a.six = s1 at f1 h6
    generalize b.six = s2 at f2 h6 HR
    have hc : (s1 = true ∧ s2 = false) ∨ (s1 = false ∧ s2 = true) := by revert h6; cases s1 <;> cases s2 <;> simp
    clear h6
    rcases hc with ⟨rfl, rfl⟩ | ⟨rfl, rfl⟩
    · go_wp2
      go_ret
      exact ⟨by first | rfl | (rw [HR.out]; rfl), HM.out.bel⟩
    · go_wp2
      go_ret
      exact ⟨by first | rfl | (rw [HR.out]; rfl), HM.out.bel⟩
end Go.Proofs.Ytpahfckihcbajaa
namespace Go.Proofs.Ytpahfckihcbajaa
open Go.RowKit

noncomputable def cellsB (q : BucketM → Bool) (o : List Value) : Bool := @decide (∃ t : BucketM, t.ok ∧ t.cells = o ∧ q t = true) (Classical.propDecidable _)
theorem cellsB_is (q : BucketM → Bool) {t : BucketM} (h : t.ok) : cellsB q t.cells = q t := by
  unfold cellsB
  cases hq : q t with
  | true => exact @decide_eq_true _ (Classical.propDecidable _) ⟨t, h, rfl, hq⟩
  | false =>
    refine @decide_eq_false _ (Classical.propDecidable _) fun ⟨s, hs, he, hs2⟩ => ?_
    rw [(bk_inj hs h).1 he, hq] at hs2
    cases hs2
theorem first_bks (q : BucketM → Bool) : ∀ {l : List BucketM}, (∀ s ∈ l, s.ok) → (bksV l).findIdx? (cellsB q) = l.findIdx? q
  | [], _ => rfl
  | b :: l, h => by
    have ih := first_bks q (l := l) (fun s hs => h s (List.mem_cons_of_mem _ hs))
    show (b.cells :: bksV l).findIdx? (cellsB q) = _
    rw [List.findIdx?_cons, List.findIdx?_cons, ih, cellsB_is q (h b (List.mem_cons_self ..))]
theorem firstM_bks (q : BucketM → Bool) {l : List BucketM} (h : ∀ s ∈ l, s.ok) : firstM (cellsB q) (bksV l) = (l.findIdx? q).getD l.length := by
  unfold firstM
  rw [first_bks q h, bksV_len]
theorem bks_mem {l : List BucketM} (h : ∀ s ∈ l, s.ok) {o : List Value} (ho : o ∈ bksV l) : ∃ s, s.ok ∧ s ∈ l ∧ s.cells = o := by
  obtain ⟨s, hs, rfl⟩ := List.mem_map.1 ho
  exact ⟨s, h s hs, hs, rfl⟩
set_option maxRecDepth 100000 in
set_option maxHeartbeats 8000000 in
theorem isPred_any (a : AddrM) (ha : a.ok) (r : BucketM) (hr : r.ok) (G : Nat) (W : World) (hg : Blk W G 35 a.cells) :
    Calls Try.prog 28 #[.agg r.cells.toArray, .pointer (some ⟨G, 0, none⟩)] W fun e W' => e = .returned (.bool (decide (r.a = a))) ∧ Below W.heap.size W W' := by
  have heq := addr_eqd r.a a hr.1 ha
  have HR := Lib.hid hr
  have HA := Lib.hid ha
  obtain ⟨rc, hrc⟩ : ∃ z, r.cells.toArray = z := ⟨_, rfl⟩
  obtain ⟨fc, hfc⟩ : ∃ z, r.a.cells.toArray = z := ⟨_, rfl⟩
  obtain ⟨pa, hpa⟩ : ∃ z, a.cells.toArray = z := ⟨_, rfl⟩
  obtain ⟨y, hy⟩ : ∃ y, decide (r.a = a) = y := ⟨_, rfl⟩
  rw [hfc, hpa, hy] at heq
  rw [hrc, hy]
  have HEQ := Lib.hid heq
  have HFC := Lib.hid hfc
  have HPA := Lib.hid hpa
  have hb := (Below.refl W.heap.size W).alloc (Nat.le_refl _) (.cells rc 44)
  have HP := Lib.hid (show Blk (W.alloc (.cells rc 44)) W.heap.size 44 r.cells from by rw [← hrc]; exact Blk.new W 44 r.cells)
  have HAT := Lib.hid (show Blk (W.alloc (.cells rc 44)) G 35 a.cells from hg.below hb hg.lt)
  have HB := Lib.hid hb
  clear heq hr ha hg hrc hfc hpa hy hb
  go_enter Try.func28, Try.ntmps28
  go_upto_region 1 with fail
  generalize W.alloc (.cells rc 44) = w1 at HP HAT HB ⊢
  generalize W.heap.size = P1 at HP ⊢
  have HFA := Lib.hid (show At w1 P1 0 r.a.cells from bk_a_at HP.out.all HR.out)
  go_wp2_with (first | (refine wpList_load_obj rfl 35 (.tmp 4) rfl P1 0 rfl r.a.cells HFA.out _ Try.underlying35 rfl (addr_cellsOf r.a HR.out.1) ?_; rw [HFC.out]) | (refine wpList_load_obj rfl 35 (.tmp 1) rfl G 0 rfl a.cells HAT.out.all _ Try.underlying35 rfl (addr_cellsOf a HA.out) ?_; rw [HPA.out]) | (refine wpList_eql_agg (by rfl) 35 35 5 6 rfl fc pa y rfl rfl addr_noguard (HEQ.out _) ?_))
  go_ret
  exact ⟨rfl, HB.out⟩
set_option maxRecDepth 100000 in
set_option maxHeartbeats 8000000 in
theorem aheadPred_any (a : AddrM) (ha : a.ok) (r : BucketM) (hr : r.ok) (G : Nat) (W : World) (hg : Blk W G 35 a.cells) :
    Calls Try.prog 31 #[.agg r.cells.toArray, .pointer (some ⟨G, 0, none⟩)] W fun e W' => e = .returned (.bool (lessM a r.a)) ∧ Below W.heap.size W W' := by
  have hls := fun W => less_any a r.a ha hr.1 W
  have HR := Lib.hid hr
  have HA := Lib.hid ha
  obtain ⟨rc, hrc⟩ : ∃ z, r.cells.toArray = z := ⟨_, rfl⟩
  obtain ⟨fc, hfc⟩ : ∃ z, r.a.cells.toArray = z := ⟨_, rfl⟩
  obtain ⟨pa, hpa⟩ : ∃ z, a.cells.toArray = z := ⟨_, rfl⟩
  obtain ⟨y, hy⟩ : ∃ y, lessM a r.a = y := ⟨_, rfl⟩
  simp only [hfc, hpa, hy] at hls
  rw [hrc, hy]
  have HLS := Lib.hid hls
  have HFC := Lib.hid hfc
  have HPA := Lib.hid hpa
  have hb := (Below.refl W.heap.size W).alloc (Nat.le_refl _) (.cells rc 44)
  have HP := Lib.hid (show Blk (W.alloc (.cells rc 44)) W.heap.size 44 r.cells from by rw [← hrc]; exact Blk.new W 44 r.cells)
  have HAT := Lib.hid (show Blk (W.alloc (.cells rc 44)) G 35 a.cells from hg.below hb hg.lt)
  have HB := Lib.hid hb
  clear hls hr ha hg hrc hfc hpa hy hb
  go_enter Try.func31, Try.ntmps31
  go_upto_region 1 with fail
  generalize W.alloc (.cells rc 44) = w1 at HP HAT HB ⊢
  have HWB := Lib.hid HB.out.size
  generalize W.heap.size = P1 at HP ⊢
  have HFA := Lib.hid (show At w1 P1 0 r.a.cells from bk_a_at HP.out.all HR.out)
  go_wp2_with (first | (refine wpList_load_obj rfl 35 (.tmp 5) rfl P1 0 rfl r.a.cells HFA.out _ Try.underlying35 rfl (addr_cellsOf r.a HR.out.1) ?_; rw [HFC.out]) | (refine wpList_load_obj rfl 35 (.tmp 1) rfl G 0 rfl a.cells HAT.out.all _ Try.underlying35 rfl (addr_cellsOf a HA.out) ?_; rw [HPA.out]))
  refine (HLS.out _).mono ?_
  rintro e w2 ⟨rfl, hb2⟩
  have HB2 := Lib.hid (HB.out.trans (hb2.mono HWB.out))
  clear hb2 HLS
  go_wp2
  go_ret
  exact ⟨rfl, HB2.out⟩
end Go.Proofs.Ytpahfckihcbajaa
namespace Go.Proofs.Ytpahfckihcbajaa
open Go.RowKit

theorem blk_seg {w : World} {g off : Nat} {t : TypeId} {cur xs : List Value} (h : Blk w g t cur) (hx : ∀ (j : Nat) v, xs[j]? = some v → cur[off + j]? = some v) : ∀ j v, xs[j]? = some v → w.cell? ((⟨g, off, none⟩ : Addr).add j) = some v := fun j v hj => by
  rw [Go.WideShapes.add_plain, h.cell]
  exact hx j v hj
set_option maxRecDepth 100000 in
theorem bk_hc (A : Option Addr) (n c j : Nat) (h3 : j ≤ c) (w : World) : (Instr.sliceAt 32 (.slice A n c) none (some (.int .i64 (j : Int))) none).run Try.prog w = .ok (.slice (addrK A 0 c 19) j c) w := by
  rw [run_sliceAt_slice (P := Try.prog) (w := w) 32 _ _ _ _ bk_under, run_slice_h (P := Try.prog) (w := w) 32 A n c bk_under .i64 j (by omega) (by omega), bk_sizeOf]
  simp only [Result.andThen, sliced, Int.toNat_natCast, Nat.sub_zero]
  rfl
set_option maxRecDepth 100000 in
set_option maxHeartbeats 16000000 in
theorem bkIns_any (base : Nat) (A : Option Addr) (n c i : Nat) (os : List (List Value)) (o : List Value) (hn : n ≤ 1000) (hi : i ≤ n) (hl : os.length = n) (hk : ∀ x ∈ os, x.length = 19) (h1 : ∀ x ∈ os, ∀ v ∈ x, v.oneCell' = true) (ho : o.length = 19) (h1o : ∀ v ∈ o, v.oneCell' = true) (gv : Nat) (w : World) (hbase : base ≤ w.heap.size) (hown : w.ownsRow base 44 19 (.slice A n c) n os.flatten) (hv : Blk w gv 44 o) (hne : ∀ ad, A = some ad → ad.block ≠ gv) :
    Calls Try.prog 33 #[.slice A n c, .int .i64 (i : Int), .slice (some ⟨gv, 0, none⟩) 1 1] w fun e w' => ∃ v, e = .returned v ∧ w'.ownsRow base 44 19 v (n + 1) (os.take i ++ o :: os.drop i).flatten ∧ Below base w w' := by
  obtain ⟨ik, hik, hiz, his, hib⟩ := bucketInfo
  have HKI := Lib.hid (And.intro hik (And.intro hiz (And.intro his hib)))
  have HSZ := Lib.hid (show (Try.prog.info? 44).map (·.size) = some 19 from by rw [hik, Option.map_some, his])
  clear hik hiz his hib
  obtain ⟨A5, c5, hv5, hnc, hcm, hlo⟩ := own_sliceK hown
  injection hv5 with hA5 _ hc5
  subst hA5 hc5
  have HOL := Lib.hid ho
  have H1O := Lib.hid h1o
  have HV := Lib.hid hv
  have HBS := Lib.hid hbase
  have hsl0 := bk_l A n c i hi
  rcases Nat.lt_or_ge i n with hin | hin
  · have hr := RdRow.of_own hl hk hown
    rcases hown.2 with ⟨_, h0⟩ | ⟨g, cap, cur0, hvv, hbg, hg, hnc2, hcm2, hcs, hcr⟩
    · omega
    injection hvv with hA _ hcc
    subst hA hcc
    obtain ⟨cur, hcur⟩ : ∃ z, cur0.toList = z := ⟨_, rfl⟩
    have hblk : Blk w g 44 cur := by
      unfold Blk
      rw [← hcur, Array.toArray_toList]
      exact hg
    have hlen : cur.length = c * 19 := by rw [← hcur]; simpa using hcs
    rw [hcur] at hcr
    have hte : (os.take i).flatten = cur.take (i * 19) := by
      rw [flat_take i hk, ← hcr, List.take_take, Nat.min_eq_left (Nat.mul_le_mul_right 19 hi)]
    have htl : (os.take i).flatten.length = i * 19 := by
      rw [flat_length (fun x hx => hk x (List.mem_of_mem_take hx)), List.length_take, hl, Nat.min_eq_left hi]
    have hdl : (os.drop i).flatten.length = (n - i) * 19 := by
      rw [flat_length (fun x hx => hk x (List.mem_of_mem_drop hx)), List.length_drop, hl]
    have hds : ∀ (j : Nat) v, (os.drop i).flatten[j]? = some v → cur[i * 19 + j]? = some v := fun j v hj => by
      rw [flat_drop i hk, List.getElem?_drop, ← hcr, List.getElem?_take] at hj
      split at hj
      · exact hj
      · cases hj
    have hd1 : ∀ v ∈ (os.drop i).flatten, v.oneCell' = true := one_flat fun x hx => h1 x (List.mem_of_mem_drop hx)
    obtain ⟨i1, hi1⟩ : ∃ z, i + 1 = z := ⟨_, rfl⟩
    obtain ⟨n1, hn1⟩ : ∃ z, n + 1 = z := ⟨_, rfl⟩
    have hfe : (os.take i).flatten ++ o ++ (os.drop i).flatten = (os.take i ++ o :: os.drop i).flatten := by simp
    have hnk : i * 19 + 19 + (n - i) * 19 = n1 * 19 := by omega
    have HW := Lib.hid (show (os.take i).flatten = cur.take (i * 19) ∧ (os.take i).flatten.length = i * 19 ∧ (os.drop i).flatten.length = (n - i) * 19 ∧ cur.length = c * 19 ∧ n + 1 = n1 ∧ i + 1 = i1 ∧ base ≤ g ∧ c ≤ maxLen ∧ n ≤ c ∧ (os.take i).flatten ++ o ++ (os.drop i).flatten = (os.take i ++ o :: os.drop i).flatten ∧ i * 19 + 19 + (n - i) * 19 = n1 * 19 from ⟨hte, htl, hdl, hlen, hn1, hi1, hbg, hcm, hnc, hfe, hnk⟩)
    have HDS := Lib.hid hds
    have HD1 := Lib.hid hd1
    have HBK := Lib.hid hblk
    have hgv : g ≠ gv := hne _ rfl
    have HGV := Lib.hid hgv
    have HGL := Lib.hid hblk.lt
    have ew1 : IntKind.i64.wrap ((n : Int) + 1) = (n1 : Int) := by rw [IntWalk.i64_in _ (by omega)]; omega
    have ew2 : IntKind.i64.wrap ((i : Int) + 1) = (i1 : Int) := by rw [IntWalk.i64_in _ (by omega)]; omega
    have ew3 : (n : Int) + 1 = (n1 : Int) := by omega
    have ew4 : (i : Int) + 1 = (i1 : Int) := by omega
    have ew7 : IntKind.i64.wrap (i1 : Int) = (i1 : Int) := IntWalk.i64_in _ (by omega)
    have ew8 : IntKind.i64.wrap (n1 : Int) = (n1 : Int) := IntWalk.i64_in _ (by omega)
    have e0 : ((i : Int) == (n : Int)) = false := by rw [beq_eq_false_iff_ne]; omega
    rcases Nat.lt_or_ge c n1 with hroom | hroom
    · have e1 : decide ((n1 : Int) > (c : Int)) = true := by simp; omega
      have e2 : decide ((c : Int) < (n1 : Int)) = true := by simp; omega
      have hra := hr.ahead i c hi
      rw [addrK_zero_some] at hra
      obtain ⟨d, hd⟩ : ∃ z, n1 - i = z := ⟨_, rfl⟩
      have hid : i + d = n1 := by omega
      have ew5 : IntKind.i64.wrap ((n1 : Int) - (i : Int)) = (d : Int) := by rw [IntWalk.i64_in _ (by omega)]; omega
      have ew6 : (n1 : Int) - (i : Int) = (d : Int) := by omega
      obtain ⟨w2, cap2, cur2, hap, hb2, hl2, ht2, hge2, hcm3, hbl2⟩ := run_append_made (P := Try.prog) w 32 3 32 44 ik (.agg bucketZ.toArray) .i64 .i64 19 40 Try.underlying32 Try.underlying3 HKI.out.1 HKI.out.2.1 HKI.out.2.2.1 HKI.out.2.2.2 (by rfl) (by omega) w.heap.size ⟨g, 0, none⟩ i c (os.take i) hra d (by omega) (by omega) (by unfold maxLen; omega) (by omega)
      rw [hid] at hap hge2
      have hsh := bk_h (some ⟨g, 0, none⟩) (n := n) c i hi hnc
      rw [addrK_zero_some] at hsh
      obtain ⟨G2, hG2⟩ : ∃ z, w.heap.size = z := ⟨_, rfl⟩
      have HGG := Lib.hid (show g < G2 ∧ gv < G2 ∧ base ≤ G2 from ⟨by rw [← hG2]; exact HGL.out, by rw [← hG2]; exact HV.out.lt, by rw [← hG2]; exact HBS.out⟩)
      have HX2 := Lib.hid (show Blk w2 G2 44 cur2 ∧ Blk w2 g 44 cur ∧ Blk w2 gv 44 o ∧ Below base w w2 from ⟨hG2 ▸ hb2, HBK.out.below hbl2 HGL.out, HV.out.below hbl2 HV.out.lt, hbl2.mono HBS.out⟩)
      have HC2 := Lib.hid (And.intro hge2 (And.intro hcm3 (And.intro hl2 ht2)))
      rw [hG2] at hap
      have HAP := Lib.hid hap
      have hs1 := bk_l (some ⟨G2, 0, none⟩) n1 cap2 i (by omega)
      rw [addrK_some (show i < cap2 by omega), Nat.zero_add] at hs1
      have hs2 := bk_l (some ⟨G2, 0, none⟩) n1 cap2 i1 (by omega)
      rw [addrK_some (show i1 < cap2 by omega), Nat.zero_add] at hs2
      have hs3 := bk_l (some ⟨g, 0, none⟩) n c i hi
      rw [addrK_some (show i < c by omega), Nat.zero_add] at hs3
      have HS0 := Lib.hid hs1
      have HS1 := Lib.hid hs2
      have HS2 := Lib.hid hs3
      have HF0 := Lib.hid (show i * 19 + o.length ≤ cur2.length from by rw [HOL.out, hl2]; have := Nat.mul_le_mul_right 19 (show i + 1 ≤ cap2 by omega); rw [Nat.succ_mul] at this; exact this)
      have hsl : (setL cur2 (i * 19) o).length = cap2 * 19 := by
        have h := HF0.out
        simp only [setL, List.length_append, List.length_take, List.length_drop]
        omega
      have HN2 := Lib.hid (show (os.drop i).flatten.length = Nat.min (n - i) (n1 - i1) * 19 from by rw [HW.out.2.2.1, show n1 - i1 = n - i by omega]; simp)
      have HF2 := Lib.hid (show i1 * 19 + (os.drop i).flatten.length ≤ (setL cur2 (i * 19) o).length from by rw [hsl, HW.out.2.2.1]; omega)
      have HRES := Lib.hid (ins_new (cur := cur2) (D := (os.drop i).flatten) HW.out.2.1 ht2 HOL.out (by rw [HW.out.2.2.1, hl2]; omega))
      have HN1 := Lib.hid (show o.length = Nat.min 1 (n1 - i) * 19 from by rw [HOL.out, show Nat.min 1 (n1 - i) = 1 by simp [Nat.min_def]; omega])
      clear hb2 hl2 ht2 hge2 hcm3 hbl2 hs1 hs2 hs3 hra hd hid hsl hG2 hr hown hg hcr hcs hte htl hdl hlen hds hd1 hfe hnk hblk hbg hnc2 hcm2 hv hne hlo hgv hbase hap
      go_enter Try.func33, Try.ntmps33
      go_upto_region 10 with (at_builtin; refine Lib.wpList_append_run _ rfl _ _ _ _ rfl _ _ rfl rfl _ _ HAP.out ?_)
      clear hsh hsl0 e0 e1 e2 ew5 ew6
      have hs1 := HS0.out
      go_upto_region 11 with (refine wpList_copy_objs _ rfl (.tmp 43) (.tmp 44) 32 32 rfl 44 Try.underlying32 19 HSZ.out G2 (i * 19) (n1 - i) (cap2 - i) ⟨gv, 0, none⟩ 1 1 rfl rfl cur2 44 HX2.out.1 o HN1.out (blk_seg HX2.out.2.2.1 (fun j v hj => by rw [Nat.zero_add]; exact hj)) HF0.out H1O.out ?_; intro w3 hb3 hg3)
      have HX3 := Lib.hid (show Blk w3 G2 44 (setL cur2 (i * 19) o) ∧ Blk w3 g 44 cur ∧ Below base w w3 from ⟨hb3, (hg3.block g HX2.out.2.1.lt (fun e => by injection e with e; have := HGG.out; omega)).trans HX2.out.2.1, HX2.out.2.2.2.grown hg3 (Nat.le_trans HBS.out HX2.out.2.2.2.size) (fun q hq => by injection hq with hq; have := HGG.out; omega)⟩)
      clear hs1 hb3 hg3
      refine wp_region_held_drew (S := fun _ => True) (by kernel_rfl) (trivial) (fun hHeld => ?_)
      have hF : Blk w3.drew G2 44 (setL cur2 (i * 19) o) ∧ Blk w3.drew g 44 cur ∧ Below base w w3.drew := ⟨HX3.out.1, HX3.out.2.1, HX3.out.2.2.drew⟩
      generalize w3.drew = wd1 at hF ⊢
      refine take_first (v := ?_) 0 rfl (by kernel_rfl) (by kernel_rfl) (by kernel_rfl) (fun _ _ _ h => h) (Or.inl ⟨by rfl, ?_⟩) (by assumption) ?_
      rotate_left
      · (intro w hSw; (try dsimp only at hSw); go_simp; try with_reducible rfl)
      (try simp only [Act.put, List.setIfInBounds_toArray, List.set_cons_zero, List.set_cons_succ])
      refine take_first (v := ?_) 1 rfl (by kernel_rfl) (by kernel_rfl) (by kernel_rfl) (fun _ _ _ h => h) (Or.inl ⟨by rfl, ?_⟩) (by assumption) ?_
      rotate_left
      · (intro w hSw; (try dsimp only at hSw); go_simp; try with_reducible rfl)
      (try simp only [Act.put, List.setIfInBounds_toArray, List.set_cons_zero, List.set_cons_succ])
      refine take_first (v := ?_) 2 rfl (by kernel_rfl) (by kernel_rfl) (by kernel_rfl) (fun _ _ _ h => h) (Or.inl ⟨by rfl, ?_⟩) (by assumption) ?_
      rotate_left
      · (intro w hSw; (try dsimp only at hSw); go_simp; try with_reducible rfl)
      (try simp only [Act.put, List.setIfInBounds_toArray, List.set_cons_zero, List.set_cons_succ])
      refine take_first (v := ?_) 3 rfl (by kernel_rfl) (by kernel_rfl) (by kernel_rfl) (fun _ _ _ h => h) (Or.inl ⟨by rfl, ?_⟩) (by assumption) ?_
      rotate_left
      · (intro w hSw; (try dsimp only at hSw); go_simp; try with_reducible rfl)
      (try simp only [Act.put, List.setIfInBounds_toArray, List.set_cons_zero, List.set_cons_succ])
      refine take_first (v := ?_) 4 rfl (by kernel_rfl) (by kernel_rfl) (by kernel_rfl) (fun _ _ _ h => h) (Or.inl ⟨by rfl, ?_⟩) (by assumption) ?_
      rotate_left
      · (intro w hSw; (try dsimp only at hSw); have s := HS1.out w; go_simp; try with_reducible rfl)
      (try simp only [Act.put, List.setIfInBounds_toArray, List.set_cons_zero, List.set_cons_succ])
      refine take_first (v := ?_) 5 rfl (by kernel_rfl) (by kernel_rfl) (by kernel_rfl) (fun _ _ _ h => h) (Or.inl ⟨by rfl, ?_⟩) (by assumption) ?_
      rotate_left
      · (intro w hSw; (try dsimp only at hSw); go_simp; try with_reducible rfl)
      (try simp only [Act.put, List.setIfInBounds_toArray, List.set_cons_zero, List.set_cons_succ])
      refine take_first (v := ?_) 6 rfl (by kernel_rfl) (by kernel_rfl) (by kernel_rfl) (fun _ _ _ h => h) (Or.inl ⟨by rfl, ?_⟩) (by assumption) ?_
      rotate_left
      · (intro w hSw; (try dsimp only at hSw); go_simp; try with_reducible rfl)
      (try simp only [Act.put, List.setIfInBounds_toArray, List.set_cons_zero, List.set_cons_succ])
      refine take_first (v := ?_) 7 rfl (by kernel_rfl) (by kernel_rfl) (by kernel_rfl) (fun _ _ _ h => h) (Or.inl ⟨by rfl, ?_⟩) (by assumption) ?_
      rotate_left
      · (intro w hSw; (try dsimp only at hSw); have s := HS2.out w; go_simp; try with_reducible rfl)
      (try simp only [Act.put, List.setIfInBounds_toArray, List.set_cons_zero, List.set_cons_succ])
      refine step_one 8 rfl (by kernel_rfl) (fun K hK => ?_)
      refine step_copy_objs _ rfl (.tmp 50) (.tmp 53) 32 32 rfl 44 Try.underlying32 19 HSZ.out G2 (i1 * 19) (n1 - i1) (cap2 - i1) ⟨g, i * 19, none⟩ (n - i) (c - i) rfl rfl (setL cur2 (i * 19) o) 44 hF.1 (os.drop i).flatten HN2.out (blk_seg hF.2.1 HDS.out) HF2.out HD1.out ?_
      intro w4 hb4 hg4
      refine hK.out _ _ trivial (fun _ => ?_)
      clear hK K
      (try simp only [Act.put])
      refine wpAnyH_done (by kernel_rfl) ?_ _
      have HFIN := Lib.hid (show w4.ownsRow base 44 19 (.slice (some ⟨G2, 0, none⟩) n1 cap2) n1 (os.take i ++ o :: os.drop i).flatten ∧ Below base w w4 from ⟨own_of_blk hb4 HGG.out.2.2 HC2.out.1 HC2.out.2.1 (by have h := HRES.out.2; rw [HW.out.2.2.2.2.2.1] at h; rw [h]; exact HC2.out.2.2.1) (by have h := HRES.out.1; rw [HW.out.2.2.1, HW.out.2.2.2.2.2.2.2.2.2.2, HW.out.2.2.2.2.2.1] at h; rw [h]; exact HW.out.2.2.2.2.2.2.2.2.2.1), hF.2.2.grown hg4 (Nat.le_trans HBS.out hF.2.2.size) (fun q hq => by injection hq with hq; have := HGG.out; omega)⟩)
      clear hb4 hg4 hF
      go_wp2
      go_ret
      exact ⟨.slice (some ⟨G2, 0, none⟩) n1 cap2, rfl, by have h := HFIN.out.1; simp at h ⊢; exact h, HFIN.out.2⟩
    · have e1 : decide ((n1 : Int) > (c : Int)) = false := by simp; omega
      have e2 : decide ((c : Int) < (n1 : Int)) = false := by simp; omega
      have hsh := bk_hc (some ⟨g, 0, none⟩) n c n1 hroom
      rw [addrK_zero_some] at hsh
      have hs1 := bk_l (some ⟨g, 0, none⟩) n1 c i1 (by omega)
      rw [addrK_some (show i1 < c by omega), Nat.zero_add] at hs1
      have hs2 := bk_l (some ⟨g, 0, none⟩) n1 c i (by omega)
      rw [addrK_some (show i < c by omega), Nat.zero_add] at hs2
      have hov : (callFunc 41 #[.slice (some ⟨gv, 0, none⟩) 1 1, .slice (some ⟨g, i1 * 19, none⟩) (n1 - i1) (c - i1)]).run Try.prog w = .ok (.value (.bool false)) w := by
        rw [run_callFunc_extern Try.func41 (by kernel_rfl) (by kernel_rfl) (by kernel_rfl) (e := Extern.SlicesOverlaps.overlaps #[32, 32] #[4]) (by kernel_rfl),
          run_overlaps_blks HV.out hblk (Ne.symm hgv) (by rw [hlen]; omega) 32 4 44 Try.underlying32 19 (fun w => by simp [sizeOf, typeInfo, HKI.out.1, HKI.out.2.2.1])]
        rfl
      have HX2 := Lib.hid (show Blk w g 44 cur ∧ Blk w gv 44 o ∧ Below base w w from ⟨hblk, HV.out, (Below.refl _ _).mono HBS.out⟩)
      have HS1 := Lib.hid hs1
      have HS2 := Lib.hid hs2
      have HRM := Lib.hid hroom
      have HN2 := Lib.hid (show (os.drop i).flatten.length = Nat.min (n1 - i) (n1 - i1) * 19 from by rw [hdl, show n1 - i1 = n - i by omega, show Nat.min (n1 - i) (n - i) = n - i by simp [Nat.min_def]; omega])
      have HF1 := Lib.hid (show i1 * 19 + (os.drop i).flatten.length ≤ cur.length from by rw [hlen, hdl]; omega)
      have HRES := Lib.hid (ins_shift (cur := cur) (D := (os.drop i).flatten) htl hte.symm HOL.out (by rw [hdl, hlen]; omega))
      have HF0 := Lib.hid (show i * 19 + o.length ≤ (setL cur (i1 * 19) (os.drop i).flatten).length from by
        have h := HF1.out
        simp only [setL, List.length_append, List.length_take, List.length_drop, HOL.out]
        omega)
      have HN1 := Lib.hid (show o.length = Nat.min 1 (n1 - i) * 19 from by rw [HOL.out, show Nat.min 1 (n1 - i) = 1 by simp [Nat.min_def]; omega])
      clear hr hown hg hcr hcs hte htl hdl hlen hds hd1 hfe hnk hblk hbg hnc2 hcm2 hv hne hlo hgv hbase hs2
      go_enter Try.func33, Try.ntmps33
      go_upto_region 15 with fail
      clear hov e0 e1 e2 hsl0 hs1 hsh
      refine wp_region_held_drew (S := fun _ => True) (by kernel_rfl) (trivial) (fun hHeld => ?_)
      have hF : Blk w.drew g 44 cur ∧ Blk w.drew gv 44 o ∧ Below base w w.drew := ⟨HX2.out.1, HX2.out.2.1, HX2.out.2.2.drew⟩
      generalize w.drew = wd1 at hF ⊢
      refine take_first (v := ?_) 0 rfl (by kernel_rfl) (by kernel_rfl) (by kernel_rfl) (fun _ _ _ h => h) (Or.inl ⟨by rfl, ?_⟩) (by assumption) ?_
      rotate_left
      · (intro w hSw; (try dsimp only at hSw); go_simp; try with_reducible rfl)
      (try simp only [Act.put, List.setIfInBounds_toArray, List.set_cons_zero, List.set_cons_succ])
      refine take_first (v := ?_) 1 rfl (by kernel_rfl) (by kernel_rfl) (by kernel_rfl) (fun _ _ _ h => h) (Or.inl ⟨by rfl, ?_⟩) (by assumption) ?_
      rotate_left
      · (intro w hSw; (try dsimp only at hSw); go_simp; try with_reducible rfl)
      (try simp only [Act.put, List.setIfInBounds_toArray, List.set_cons_zero, List.set_cons_succ])
      refine take_first (v := ?_) 2 rfl (by kernel_rfl) (by kernel_rfl) (by kernel_rfl) (fun _ _ _ h => h) (Or.inl ⟨by rfl, ?_⟩) (by assumption) ?_
      rotate_left
      · (intro w hSw; (try dsimp only at hSw); go_simp; try with_reducible rfl)
      (try simp only [Act.put, List.setIfInBounds_toArray, List.set_cons_zero, List.set_cons_succ])
      refine take_first (v := ?_) 3 rfl (by kernel_rfl) (by kernel_rfl) (by kernel_rfl) (fun _ _ _ h => h) (Or.inl ⟨by rfl, ?_⟩) (by assumption) ?_
      rotate_left
      · (intro w hSw; (try dsimp only at hSw); go_simp; try with_reducible rfl)
      (try simp only [Act.put, List.setIfInBounds_toArray, List.set_cons_zero, List.set_cons_succ])
      refine take_first (v := ?_) 4 rfl (by kernel_rfl) (by kernel_rfl) (by kernel_rfl) (fun _ _ _ h => h) (Or.inl ⟨by rfl, ?_⟩) (by assumption) ?_
      rotate_left
      · (intro w hSw; (try dsimp only at hSw); have s := HS1.out w; go_simp; try with_reducible rfl)
      (try simp only [Act.put, List.setIfInBounds_toArray, List.set_cons_zero, List.set_cons_succ])
      refine take_first (v := ?_) 5 rfl (by kernel_rfl) (by kernel_rfl) (by kernel_rfl) (fun _ _ _ h => h) (Or.inl ⟨by rfl, ?_⟩) (by assumption) ?_
      rotate_left
      · (intro w hSw; (try dsimp only at hSw); go_simp; try with_reducible rfl)
      (try simp only [Act.put, List.setIfInBounds_toArray, List.set_cons_zero, List.set_cons_succ])
      refine take_first (v := ?_) 6 rfl (by kernel_rfl) (by kernel_rfl) (by kernel_rfl) (fun _ _ _ h => h) (Or.inl ⟨by rfl, ?_⟩) (by assumption) ?_
      rotate_left
      · (intro w hSw; (try dsimp only at hSw); go_simp; try with_reducible rfl)
      (try simp only [Act.put, List.setIfInBounds_toArray, List.set_cons_zero, List.set_cons_succ])
      refine take_first (v := ?_) 7 rfl (by kernel_rfl) (by kernel_rfl) (by kernel_rfl) (fun _ _ _ h => h) (Or.inl ⟨by rfl, ?_⟩) (by assumption) ?_
      rotate_left
      · (intro w hSw; (try dsimp only at hSw); have s := HS2.out w; go_simp; try with_reducible rfl)
      (try simp only [Act.put, List.setIfInBounds_toArray, List.set_cons_zero, List.set_cons_succ])
      refine step_one 8 rfl (by kernel_rfl) (fun K hK => ?_)
      refine step_copy_objs _ rfl (.tmp 73) (.tmp 76) 32 32 rfl 44 Try.underlying32 19 HSZ.out g (i1 * 19) (n1 - i1) (c - i1) ⟨g, i * 19, none⟩ (n1 - i) (c - i) rfl rfl cur 44 hF.1 (os.drop i).flatten HN2.out (blk_seg hF.1 HDS.out) HF1.out HD1.out ?_
      intro w4 hb4 hg4
      refine hK.out _ _ trivial (fun _ => ?_)
      clear hK K
      (try simp only [Act.put])
      refine wpAnyH_done (by kernel_rfl) ?_ _
      have HX4 := Lib.hid (show Blk w4 g 44 (setL cur (i1 * 19) (os.drop i).flatten) ∧ Blk w4 gv 44 o ∧ Below base w w4 from ⟨hb4, (hg4.block gv hF.2.1.lt (fun e => by injection e with e; exact HGV.out e.symm)).trans hF.2.1, hF.2.2.grown hg4 (Nat.le_trans HBS.out hF.2.2.size) (fun q hq => by injection hq with hq; have := HW.out.2.2.2.2.2.2.1; omega)⟩)
      clear hb4 hg4 hF
      have hs1 := HS2.out
      go_wp2_with (refine wpList_copy_objs _ rfl (.tmp 80) (.tmp 81) 32 32 rfl 44 Try.underlying32 19 HSZ.out g (i * 19) (n1 - i) (c - i) ⟨gv, 0, none⟩ 1 1 rfl rfl (setL cur (i1 * 19) (os.drop i).flatten) 44 HX4.out.1 o HN1.out (blk_seg HX4.out.2.1 (fun j v hj => by rw [Nat.zero_add]; exact hj)) HF0.out H1O.out ?_; intro w5 hb5 hg5)
      have HFIN := Lib.hid (show w5.ownsRow base 44 19 (.slice (some ⟨g, 0, none⟩) n1 c) n1 (os.take i ++ o :: os.drop i).flatten ∧ Below base w w5 from ⟨own_of_blk hb5 HW.out.2.2.2.2.2.2.1 HRM.out HW.out.2.2.2.2.2.2.2.1 (by have h := HRES.out.2; rw [HW.out.2.2.2.2.2.1] at h; rw [h]; exact HW.out.2.2.2.1) (by have h := HRES.out.1; rw [HW.out.2.2.1, HW.out.2.2.2.2.2.2.2.2.2.2, HW.out.2.2.2.2.2.1] at h; rw [h]; exact HW.out.2.2.2.2.2.2.2.2.2.1), HX4.out.2.2.grown hg5 (Nat.le_trans HBS.out HX4.out.2.2.size) (fun q hq => by injection hq with hq; have := HW.out.2.2.2.2.2.2.1; omega)⟩)
      clear hb5 hg5
      go_ret
      exact ⟨.slice (some ⟨g, 0, none⟩) n1 c, rfl, by have h := HFIN.out.1; simp at h ⊢; exact h, HFIN.out.2⟩
  · obtain rfl : i = n := by omega
    have HO := Lib.hid hown
    have HFE := Lib.hid (show os.flatten ++ o = (os.take i ++ o :: os.drop i).flatten from by rw [List.take_of_length_le (by omega), List.drop_of_length_le (by omega)]; simp)
    have e0 : ((i : Int) == (i : Int)) = true := by simp
    clear hown hv hne hlo
    go_enter Try.func33, Try.ntmps33
    go_wp2_with (refine wpList_append_own_at _ rfl (.tmp 23) (.tmp 24) 32 rfl base 44 ik _ 19 40 Try.underlying32 HKI.out.1 HKI.out.2.1 HKI.out.2.2.1 HKI.out.2.2.2 (by rfl) (by omega) (.slice A i c) i _ rfl HO.out ⟨gv, 0, none⟩ 1 1 o rfl (by rw [HOL.out]) (fun q v hv => by rw [Go.WideShapes.add_plain, Nat.zero_add, HV.out.cell]; exact hv) H1O.out (by unfold maxLen; omega) (by omega) HBS.out ?_; intro v6 w6 ho6 hg6 _ _)
    go_ret
    exact ⟨v6, rfl, by have h := ho6; rw [HFE.out] at h; simp at h ⊢; exact h, ((Below.refl _ _).mono HBS.out).grown hg6 HBS.out (own_from HO.out)⟩
end Go.Proofs.Ytpahfckihcbajaa
